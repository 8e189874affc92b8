/- Check by its contracts: what is the first lot that is not well? -/
import Derived.Test.YtbcinejhipmomaaDoorCvHas
import Derived.Test.YtbcinejhipmomaaDoorTail
namespace Go.Proofs.YtbcinejhipmomaaDoor
open Go.RowKit
set_option maxRecDepth 100000

theorem blw_drew {w : World} (m : Nat) : Below w.heap.size w (w.drewN m) := ⟨rfl, rfl, rfl, Nat.le_refl _, fun _ _ => rfl⟩
/-- what the errors that Check answers hold -/
structure Er (w : World) (T : TypeId) (v1 v6 v7 : Value) : Prop where
  c1 : w.cell? ⟨0, 0, none⟩ = some (.iface T v1)
  c6 : w.cell? ⟨1, 0, none⟩ = some (.iface T v6)
  c7 : w.cell? ⟨2, 0, none⟩ = some (.iface T v7)
theorem Er.later {w w' : World} {T : TypeId} {v1 v6 v7 : Value} (h : Er w T v1 v6 v7) (hb : Below w.heap.size w w') : Er w' T v1 v6 v7 :=
  ⟨cell_later hb h.c1, cell_later hb h.c6, cell_later hb h.c7⟩

theorem check_none (cap : Nat) (a : Option Addr) (w : World) : Calls Tryd.prog 53 #[.slice a 0 cap] w fun e w' => e = .returned .nilIface ∧ w' = w := by
  go_enter Tryd.func53, Tryd.ntmps53
  go_wp2
  refine wp_loop_rounds 1 ?_
  rw [rounds_succ]
  go_wp2
  go_ret
  exact ⟨rfl, rfl⟩
theorem check_full (n cap : Nat) (a : Option Addr) (T : TypeId) (v1 v6 v7 : Value) (w : World) (h : Er w T v1 v6 v7) (hn : 120 < n) : Calls Tryd.prog 53 #[.slice a n cap] w fun e w' => e = .returned (.iface T v7) ∧ w' = w := by
  have hn' : (120 : Int) < n := by omega
  have c7 := h.c7
  go_enter Tryd.func53, Tryd.ntmps53
  go_wp2
  go_ret
  exact ⟨rfl, rfl⟩

set_option maxHeartbeats 2000000 in
theorem check_some (b off cap n : Nat) (l : List Cv.Lot) (T : TypeId) (v1 v6 v7 : Value) (w : World) (hn : Hid (l.length = n)) (hn' : n ≤ 120) (hcap : n ≤ cap) (hl : Hid (LotsAt w b off l)) (he : Hid (Er w T v1 v6 v7)) :
    Calls Tryd.prog 53 #[.slice (some ⟨b, off, none⟩) n cap] w fun e w' => (Cv.WellTo l n ∧ e = .returned .nilIface ∨
      ∃ i B, i < n ∧ Cv.WellTo l i ∧ Cv.okAt l i = false ∧ e = .returned (.iface 103 (.pointer (some ⟨B, 0, none⟩))) ∧ w'.cell? ⟨B, 0, none⟩ = some (.int .i64 (i : Nat)) ∧ w'.cell? ⟨B, 1, none⟩ = some (if Cv.ok (Cv.nth l i) = true then .iface T v6 else .iface T v1)) ∧ Below w.heap.size w w' := by
  have hni : ¬ (120 : Int) < n := by omega
  go_enter Tryd.func53, Tryd.ntmps53
  go_wp2
  go_loopw [11] (fun i wr => ∃ k : Nat, k ≤ n ∧ i = .int .i64 k ∧ Cv.WellTo l k ∧ Below w.heap.size w wr) (fun i _ => n - (intOf i).toNat)
  case atStart => exact ⟨0, Nat.zero_le _, rfl, fun i hi => absurd hi (Nat.not_lt_zero i), Below.refl _ _⟩
  case round =>
    obtain ⟨k, hk, rfl, hwl, hb⟩ := hrel
    have HW := hide hwl; have HB := hide hb
    clear hwl hb
    by_cases hlt : k < n
    · have hki : (k : Int) < n := by omega
      have hkc : k ≤ cap := by omega
      obtain ⟨c0, c1, c2, c3, c4⟩ := (hl.out.later HB.out) k (by rw [hn.out]; exact hlt)
      have HX : Hid (∃ x, x = Cv.nth l k) := ⟨_, rfl⟩
      generalize hx : Cv.nth l k = x at *
      have HX := hide hx
      clear hx
      go_wp2_with fail
      refine (lotOk_any x _).mono ?_
      rintro e w2 ⟨rfl, hb2⟩
      have HB2 : Hid (Below w.heap.size w w2) := (HB.out.alloc HB.out.size _).trans (hb2.mono (by have := HB.out.size; simp; omega))
      have d0 : w2.cell? ⟨wr.heap.size, 0, none⟩ = some (.int .i64 x.id) := by rw [hb2.cell (p := ⟨wr.heap.size, 0, none⟩) (by simp)]; simp
      clear hb2 c0 c1 c2 c3 c4
      cases hok : Cv.ok x with
      | false =>
        have Hok := hide hok
        clear hok
        have e1 := (he.out.later HB2.out).c1
        simp only []
        go_wp2
        go_ret
        refine ⟨.inr ⟨k, w2.heap.size, hlt, HW.out, ?_, rfl, by simp, ?_⟩, HB2.out.alloc HB2.out.size _⟩
        · unfold Cv.okAt; rw [HX.out, Hok.out]; rfl
        · rw [HX.out, Hok.out]; simp
      | true =>
        have Hok := hide hok
        clear hok
        have hL := hide ((hl.out.later HB2.out).take k)
        have hT : Hid ((l.take k).length = k) := by show _ = _; rw [List.length_take, hn.out]; omega
        simp only []
        go_wp2
        refine region_quiet_tail 5 (by kernel_rfl) (by kernel_rfl) ?_
        simp only [List.take_succ_cons, List.take_zero, List.drop_succ_cons, List.drop_zero]
        repeat (first | go_big_quiet_step (fail) | quiet_step (fail))
        refine wpQuiet_nil ?_
        intro _ hw'
        obtain ⟨nq, hw''⟩ := hw'
        subst hw''
        have HB3 : Hid (Below w.heap.size w (w2.drewN nq)) := HB2.out.trans ((blw_drew nq).mono HB2.out.size)
        have hL3 := hide (hL.out.later (blw_drew nq))
        clear hL
        generalize w2.drewN nq = w3 at *
        go_wp2_with fail
        refine (hasID_any b off cap k x.id (l.take k) w3 hT (by omega) hL3).mono ?_
        rintro e w4 ⟨rfl, hb4⟩
        have HB4 := hide (HB3.out.trans (hb4.mono HB3.out.size))
        clear hb4 hL3 d0
        cases hha : Cv.has (l.take k) x.id with
        | true =>
          have Hha := hide hha
          clear hha
          have e6 := (he.out.later HB4.out).c6
          simp only []
          go_wp2
          go_ret
          refine ⟨.inr ⟨k, w4.heap.size, hlt, HW.out, ?_, rfl, by simp, ?_⟩, HB4.out.alloc HB4.out.size _⟩
          · unfold Cv.okAt; rw [HX.out, Hok.out, Hha.out]; rfl
          · rw [HX.out, Hok.out]; simp
        | false =>
          have hwl' : Cv.WellTo l (k + 1) := by
            intro i hi
            by_cases e : i = k
            · rw [e]; unfold Cv.okAt; rw [HX.out, Hok.out, hha]; rfl
            · exact HW.out i (by omega)
          have HW' := hide hwl'
          clear hwl' hha
          simp only []
          go_wp2
          exact ⟨⟨k + 1, by omega, by go_num, HW'.out, HB4.out⟩, by simp [intOf]; omega⟩
    · have hki : ¬ (k : Int) < n := by omega
      have hkk : k = n := by omega
      have hwl := HW.out
      rw [hkk] at hwl
      have Hwl := hide hwl
      clear hwl hkk
      go_wp2
      go_ret
      exact ⟨.inl ⟨Hwl.out, rfl⟩, HB.out⟩
end Go.Proofs.YtbcinejhipmomaaDoor
