/- Clear of an intake by its contract; what the errors' variables hold; Put. -/
import Derived.Test.YtfifmigmdiegdaaDoorIkOps
namespace Go.Proofs.YtfifmigmdiegdaaDoor
open Go.RowKit
set_option maxRecDepth 100000
/-- an error by its number; 0: none -/
def errC (T : Nat → Value) : Nat → Value
  | 0 => .nilIface
  | c + 1 => .iface 92 (T c)
structure IEr (w : World) (T : Nat → Value) : Prop where
  kd : w.cell? ⟨0, 0, none⟩ = some (.iface 92 (T 3))
  bd : w.cell? ⟨1, 0, none⟩ = some (.iface 92 (T 1))
  fu : w.cell? ⟨2, 0, none⟩ = some (.iface 92 (T 7))
section
variable {w w' : World} {base p t : Nat} {V : Nat → Value} {L : Nat → List Ask} {T : Nat → Value}
theorem IEr.later (h : IEr w T) (hb : Below w.heap.size w w') : IEr w' T := ⟨cell_later hb h.kd, cell_later hb h.bd, cell_later hb h.fu⟩
theorem IEr.size (h : IEr w T) : 2 < w.heap.size := World.block_lt_of_cell? w _ h.fu
theorem IEr.under {n : Nat} (h : IEr w T) (hb : Below n w w') (hn : 2 < n) : IEr w' T :=
  ⟨by rw [hb.cell (p := ⟨0, 0, none⟩) (by show 0 < n; omega)]; exact h.kd, by rw [hb.cell (p := ⟨1, 0, none⟩) (by show 1 < n; omega)]; exact h.bd, by rw [hb.cell (p := ⟨2, 0, none⟩) (by show 2 < n; omega)]; exact h.fu⟩
set_option maxHeartbeats 1000000 in
theorem clear_any (n : Int) (w : World) (hi : Hid (Itk w base p V t L)) : Calls Tryd.prog 11 #[.pointer (some ⟨p, 0, none⟩), .int .i64 n] w fun e w' => e = .returned (.int .i64 (Ik.waitN L n : Nat)) ∧ ∃ V', Itk w' base p V' t (Ik.clearL L n) ∧ QStep w w' p V V' := by
  have HW := hide (wait_any n w hi)
  by_cases h : Ik.waitN L n = 0
  · have HE : Hid (Ik.clearL L n = L) := by
      show _ = _
      unfold Ik.clearL Ik.waitN at *
      cases hc : Ik.isC n with
      | false => rfl
      | true =>
        rw [hc] at h
        simp only [if_true] at h ⊢
        rw [← List.eq_nil_of_length_eq_zero h, Ik.upd_self]
    rw [h] at HW ⊢
    clear h
    go_enter Tryd.func11, Tryd.ntmps11
    go_wp2_with fail
    refine HW.out.mono ?_
    rintro e w2 ⟨rfl, rfl⟩
    simp only []
    go_wp2
    go_ret
    exact ⟨rfl, V, by rw [HE.out]; exact hi.out, QStep.refl _ _ _⟩
  · cases hcc : Ik.isC n with
    | false => exact absurd (by unfold Ik.waitN; rw [hcc]; rfl) h
    | true =>
      have HE : Hid (Ik.clearL L n = Ik.upd L n.toNat []) := by
        show _ = _
        unfold Ik.clearL
        rw [hcc]; rfl
      obtain ⟨c, hc, rfl⟩ := Ik.isC_lt hcc
      clear hcc
      have hset := hi.out.set (w2 := w) hc ⟨rfl, rfl, rfl, Nat.le_refl _, fun _ _ _ => rfl⟩ (v' := .slice none 0 0) (l' := []) (World.ownsRow_nil _ _ _ _) (by simp) (fun k h => by simp [Value.ownBlock] at h)
      have HS := hide hset
      clear hset
      have hat := hi.out.at hc
      have hfr := hi.out.free c
      generalize Ik.waitN L (c : Int) = m at *
      have hm : 0 < (m : Int) := by omega
      go_enter Tryd.func11, Tryd.ntmps11
      go_wp2_with fail
      refine HW.out.mono ?_
      rintro e w2 ⟨rfl, rfl⟩
      simp only []
      go_wp2
      go_ret
      exact ⟨rfl, _, by rw [HE.out]; exact HS.out.1, HS.out.2⟩
theorem info30 : ∃ i z, Tryd.prog.info? 30 = some i ∧ i.zero = some z ∧ i.size = 8 ∧ i.bytes = 64 ∧ z.cells.size = 8 := ⟨_, _, rfl, rfl, rfl, rfl, rfl⟩
theorem cell_new8 (w : World) (x : Ask) (ty : TypeId) (fz : Nat × Nat) (hf : fz = (0, 0)) : ∀ j u, (askC x)[j]? = some u → (w.alloc (.cells (askA x) ty fz)).cell? ((⟨w.heap.size, 0, none⟩ : Addr).add j) = some u := by
  subst hf
  intro j u hj
  have hp : (⟨w.heap.size, 0, none⟩ : Addr).add j = ⟨w.heap.size, j, none⟩ := by unfold Addr.add; split <;> simp_all
  rw [hp, World.cell?_alloc_new]
  have hlt : j < 8 := (List.getElem?_eq_some_iff.1 hj).1
  match j, hlt, hj with
  | 0, _, hj => exact hj
  | 1, _, hj => exact hj
  | 2, _, hj => exact hj
  | 3, _, hj => exact hj
  | 4, _, hj => exact hj
  | 5, _, hj => exact hj
  | 6, _, hj => exact hj
  | 7, _, hj => exact hj
end
end Go.Proofs.YtfifmigmdiegdaaDoor
