/- plain.Code at an api.Fault and at an error that is none of package api's. -/
import Derived.Test.YtbcinejhipmomaaDoorAsHit
import Derived.Test.YtbcinejhipmomaaDoorCode
namespace Go.Proofs.YtbcinejhipmomaaDoor
open Go.RowKit
set_option maxRecDepth 100000

set_option maxHeartbeats 4000000 in
theorem code_held (pb po : Nat) (at_ : Int) (j : Nat) (ad : Nat → Addr) (w : World) (hs : Hid (Sent w ad)) (hat : w.cell? ⟨pb, po, none⟩ = some (.int .i64 at_))
    (hIs : Hid (∀ k, k < 12 → ∀ wz, Below w.heap.size w wz → Calls Tryd.prog 66 #[.iface 103 (.pointer (some ⟨pb, po, none⟩)), .iface 177 (.pointer (some (ad k)))] wz fun e w' => e = .returned (.bool (k == j)) ∧ w' = wz)) :
    Calls Tryd.prog 48 #[.iface 103 (.pointer (some ⟨pb, po, none⟩))] w fun e w' => e = .returned (.tuple #[.int .i64 (codeOf j), .int .i64 at_]) ∧ Below w.heap.size w w' := by
  go_enter Tryd.func48, Tryd.ntmps48
  go_wp2_with fail
  refine (as_hit ⟨pb, po, none⟩ _ (.pointer none) _ (cell_later ((Below.refl _ _).alloc (Nat.le_refl _) _) hs.out.et) (by simp) (by simp)).mono ?_
  rintro e w1 ⟨rfl, w0, hb0, hw1⟩
  have HB0 : Hid (Below w.heap.size w w0) := ((Below.refl _ _).alloc (Nat.le_refl _) _).trans (hb0.mono (by simp))
  have hz0 : w.heap.size < w0.heap.size := by have := hb0.size; simp at this; omega
  have ht0 : w0.cell? ⟨w.heap.size, 0, none⟩ = some (.pointer none) := by rw [hb0.cell (p := ⟨w.heap.size, 0, none⟩) (by simp)]; simp
  have hpl := World.block_lt_of_cell? _ _ hat
  have hpl : pb < w.heap.size := hpl
  have hfc : w1.cell? ⟨w.heap.size, 0, none⟩ = some (.pointer (some ⟨pb, po, none⟩)) := by rw [hw1]; exact World.cell?_setCell_same _ _ _ ht0
  have HB1 : Hid (Below w.heap.size w w1) := by rw [hw1]; exact HB0.out.setCell (Nat.le_refl _) _
  have hatc : w1.cell? ⟨pb, po, none⟩ = some (.int .i64 at_) := by rw [HB1.out.cell (p := ⟨pb, po, none⟩) hpl]; exact hat
  clear hw1 hb0 ht0 hat
  have c0 : w1.cell? ⟨5, 0, none⟩ = some (.iface 177 (.pointer (some (ad 0)))) := (hs.out.later HB1.out).cell 0 (by decide)
  have c1 : w1.cell? ⟨0, 0, none⟩ = some (.iface 177 (.pointer (some (ad 1)))) := (hs.out.later HB1.out).cell 1 (by decide)
  have c2 : w1.cell? ⟨4, 0, none⟩ = some (.iface 177 (.pointer (some (ad 2)))) := (hs.out.later HB1.out).cell 2 (by decide)
  have c3 : w1.cell? ⟨6, 0, none⟩ = some (.iface 177 (.pointer (some (ad 3)))) := (hs.out.later HB1.out).cell 3 (by decide)
  have c4 : w1.cell? ⟨7, 0, none⟩ = some (.iface 177 (.pointer (some (ad 4)))) := (hs.out.later HB1.out).cell 4 (by decide)
  have c5 : w1.cell? ⟨3, 0, none⟩ = some (.iface 177 (.pointer (some (ad 5)))) := (hs.out.later HB1.out).cell 5 (by decide)
  have c6 : w1.cell? ⟨1, 0, none⟩ = some (.iface 177 (.pointer (some (ad 6)))) := (hs.out.later HB1.out).cell 6 (by decide)
  have c7 : w1.cell? ⟨2, 0, none⟩ = some (.iface 177 (.pointer (some (ad 7)))) := (hs.out.later HB1.out).cell 7 (by decide)
  have c8 : w1.cell? ⟨8, 0, none⟩ = some (.iface 177 (.pointer (some (ad 8)))) := (hs.out.later HB1.out).cell 8 (by decide)
  have c9 : w1.cell? ⟨9, 0, none⟩ = some (.iface 177 (.pointer (some (ad 9)))) := (hs.out.later HB1.out).cell 9 (by decide)
  have c10 : w1.cell? ⟨10, 0, none⟩ = some (.iface 177 (.pointer (some (ad 10)))) := (hs.out.later HB1.out).cell 10 (by decide)
  have c11 : w1.cell? ⟨11, 0, none⟩ = some (.iface 177 (.pointer (some (ad 11)))) := (hs.out.later HB1.out).cell 11 (by decide)
  go_wp2_with fail
  have hcell : ∀ k, k < 12 → (w1.alloc (.cells #[.iface 177 (.pointer (some (ad 0))), .iface 177 (.pointer (some (ad 1))), .iface 177 (.pointer (some (ad 2))), .iface 177 (.pointer (some (ad 3))), .iface 177 (.pointer (some (ad 4))), .iface 177 (.pointer (some (ad 5))), .iface 177 (.pointer (some (ad 6))), .iface 177 (.pointer (some (ad 7))), .iface 177 (.pointer (some (ad 8))), .iface 177 (.pointer (some (ad 9))), .iface 177 (.pointer (some (ad 10))), .iface 177 (.pointer (some (ad 11)))] 27)).cell? ⟨w1.heap.size, k, none⟩ = some (.iface 177 (.pointer (some (ad k)))) := by
    intro k hk
    rw [World.cell?_alloc_new]
    match k, hk with
    | 0, _ => rfl
    | 1, _ => rfl
    | 2, _ => rfl
    | 3, _ => rfl
    | 4, _ => rfl
    | 5, _ => rfl
    | 6, _ => rfl
    | 7, _ => rfl
    | 8, _ => rfl
    | 9, _ => rfl
    | 10, _ => rfl
    | 11, _ => rfl
  have hb2 : Below w.heap.size w (w1.alloc (.cells #[.iface 177 (.pointer (some (ad 0))), .iface 177 (.pointer (some (ad 1))), .iface 177 (.pointer (some (ad 2))), .iface 177 (.pointer (some (ad 3))), .iface 177 (.pointer (some (ad 4))), .iface 177 (.pointer (some (ad 5))), .iface 177 (.pointer (some (ad 6))), .iface 177 (.pointer (some (ad 7))), .iface 177 (.pointer (some (ad 8))), .iface 177 (.pointer (some (ad 9))), .iface 177 (.pointer (some (ad 10))), .iface 177 (.pointer (some (ad 11)))] 27)) := HB1.out.alloc HB1.out.size _
  clear hfc hatc c0 c1 c2 c3 c4 c5 c6 c7 c8 c9 c10 c11
  generalize w1.alloc (.cells #[.iface 177 (.pointer (some (ad 0))), .iface 177 (.pointer (some (ad 1))), .iface 177 (.pointer (some (ad 2))), .iface 177 (.pointer (some (ad 3))), .iface 177 (.pointer (some (ad 4))), .iface 177 (.pointer (some (ad 5))), .iface 177 (.pointer (some (ad 6))), .iface 177 (.pointer (some (ad 7))), .iface 177 (.pointer (some (ad 8))), .iface 177 (.pointer (some (ad 9))), .iface 177 (.pointer (some (ad 10))), .iface 177 (.pointer (some (ad 11)))] 27) = w2 at *
  have HB2 := hide hb2
  have HC := hide hcell
  clear hb2 hcell
  go_loop [3, 30] (fun a i => ∃ k : Nat, k ≤ 12 ∧ k ≤ j ∧ i = .int .i64 k ∧ a = .int .i64 at_) (fun _ i => 12 - (intOf i).toNat)
  case atStart => exact ⟨0, by omega, by omega, rfl, rfl⟩
  case round =>
    obtain ⟨k, hk, hkj, rfl, rfl⟩ := hrel
    by_cases hlt : k < 12
    · have hck := HC.out k hlt
      have hki : ((k : Int)) < 12 := by omega
      by_cases hj : k = j
      · have HI := hide (hIs.out k hlt _ HB2.out)
        have hb : (k == j) = true := by simp [hj]
        have Hj := hide hj
        clear hj
        go_wp2_with fail
        refine (HI.out).mono ?_
        rintro e w3 ⟨rfl, rfl⟩
        rw [hb]
        go_wp2
        go_ret2
        exact ⟨by rw [show codeOf j = (k : Int) + 1 by unfold codeOf; rw [← Hj.out, if_pos hlt]]; rfl, HB2.out⟩
      · have HI := hide (hIs.out k hlt _ HB2.out)
        have hb : (k == j) = false := by simp [hj]
        go_wp2_with fail
        refine (HI.out).mono ?_
        rintro e w3 ⟨rfl, rfl⟩
        rw [hb]
        go_wp2
        exact ⟨⟨k + 1, by omega, by omega, by go_num, rfl⟩, by simp [intOf]; omega⟩
    · have hki : ¬ ((k : Int)) < 12 := by omega
      go_wp2
      go_ret2
      exact ⟨by rw [show codeOf j = -1 by unfold codeOf; rw [if_neg (by omega)]]; rfl, HB2.out⟩

theorem code_fault (pb po : Nat) (at_ : Int) (j : Nat) (hj : j < 12) (ad : Nat → Addr) (w : World) (hs : Sent w ad) (hat : w.cell? ⟨pb, po, none⟩ = some (.int .i64 at_)) (her : w.cell? ⟨pb, po + 1, none⟩ = some (.iface 177 (.pointer (some (ad j))))) :
    Calls Tryd.prog 48 #[.iface 103 (.pointer (some ⟨pb, po, none⟩))] w fun e w' => e = .returned (.tuple #[.int .i64 (j + 1), .int .i64 at_]) ∧ Below w.heap.size w w' := by
  have h := code_held pb po at_ j ad w hs hat (fun k hk wz hb => by
    by_cases hjk : k = j
    · subst hjk
      simpa using is_fault_same pb po (ad k) wz (cell_later hb her)
    · obtain ⟨ca, ta, ha⟩ := (hs.later hb).row j hj
      obtain ⟨cb, tb, hb'⟩ := (hs.later hb).row k hk
      have e : (k == j) = false := by simpa using hjk
      rw [e]
      exact is_fault_other pb po (ad k) (ad j) ca cb ta tb wz (cell_later hb her) (hs.ne j k hj hk (fun e => hjk e.symm)) ha hb')
  rw [show codeOf j = j + 1 by simp [codeOf, hj]] at h
  exact h

theorem code_other (x : Addr) (ad : Nat → Addr) (w : World) (hs : Sent w ad) (hx : ∀ k, k < 12 → x ≠ ad k) (c : Array Value) (t : TypeId) (hr : w.heap[x.block]? = some (.cells c t (0, 0))) :
    Calls Tryd.prog 48 #[.iface 177 (.pointer (some x))] w fun e w' => e = .returned (.tuple #[.int .i64 (-1), .int .i64 (-1)]) ∧ Below w.heap.size w w' := by
  have h := code_plain x 12 ad w hs (fun k hk wz hb => by
    obtain ⟨cb, tb, hb'⟩ := (hs.later hb).row k hk
    have e : (k == 12) = false := by simp; omega
    rw [e]
    exact is_other x (ad k) c cb t tb wz (hx k hk) ((hb.block _ (block_lt_of_heap hr)).trans hr) hb')
  rw [show codeOf 12 = -1 by simp [codeOf]] at h
  exact h

end Go.Proofs.YtbcinejhipmomaaDoor
