/- The small functions of package purse by their contracts: grow, isClient, isBelowZero, isWell, asked. -/
import Derived.Test.YtgmncdpjbphfhaaDoorPuMem
import Derived.Test.YtgmncdpjbphfhaaDoorCvCheck
namespace Go.Proofs.YtgmncdpjbphfhaaDoor
open Go.RowKit
set_option maxRecDepth 100000

theorem grow_no (B o : Nat) (t more most : Int) (w : World) (hc : w.cell? ⟨B, o, none⟩ = some (.int .i64 t)) (h0 : 0 ≤ t) (h1 : t ≤ most) (h2 : most ≤ 1099511627776) (h : most - t < more) :
    Calls Tryd.prog 24 #[.pointer (some ⟨B, o, none⟩), .int .i64 more, .int .i64 most] w fun e w' => e = .returned (.bool false) ∧ w' = w := by
  go_enter Tryd.func24, Tryd.ntmps24
  go_wp2
  go_ret
  exact ⟨rfl, rfl⟩
theorem grow_yes (B o : Nat) (t more most : Int) (w : World) (hc : w.cell? ⟨B, o, none⟩ = some (.int .i64 t)) (hf : w.frozen? ⟨B, o, none⟩ = false) (h0 : 0 ≤ t) (h1 : t ≤ most) (h2 : most ≤ 1099511627776) (h3 : 0 ≤ more) (h : ¬ most - t < more) :
    Calls Tryd.prog 24 #[.pointer (some ⟨B, o, none⟩), .int .i64 more, .int .i64 most] w fun e w' => e = .returned (.bool true) ∧ w' = w.setCell ⟨B, o, none⟩ (.int .i64 (t + more)) := by
  go_enter Tryd.func24, Tryd.ntmps24
  go_wp2
  go_ret
  exact ⟨rfl, rfl⟩
theorem isClient_any (n : Int) (w : World) : Calls Tryd.prog 22 #[.int .i64 n] w fun e w' => e = .returned (.bool (Wi.withinB n 0 5)) ∧ w' = w := by
  go_enter Tryd.func22, Tryd.ntmps22
  go_wp2_with fail
  refine (within_any n 0 5 w).mono ?_
  rintro e w2 ⟨rfl, rfl⟩
  simp only []
  go_wp2
  go_ret
  exact ⟨rfl, rfl⟩
theorem ix0 (a b c : Int) (w : World) : (Instr.index 27 (.agg #[.int .i64 a, .int .i64 b, .int .i64 c]) (.int .i64 0)).run Tryd.prog w = .ok (.int .i64 a) w := by kernel_rfl
theorem ix1 (a b c : Int) (w : World) : (Instr.index 27 (.agg #[.int .i64 a, .int .i64 b, .int .i64 c]) (.int .i64 1)).run Tryd.prog w = .ok (.int .i64 b) w := by kernel_rfl
theorem ix2 (a b c : Int) (w : World) : (Instr.index 27 (.agg #[.int .i64 a, .int .i64 b, .int .i64 c]) (.int .i64 2)).run Tryd.prog w = .ok (.int .i64 c) w := by kernel_rfl
set_option maxHeartbeats 1000000 in
theorem below_any (cash s0 s1 s2 : Int) (w : World) : Calls Tryd.prog 23 #[.int .i64 cash, .agg #[.int .i64 s0, .int .i64 s1, .int .i64 s2]] w fun e w' => e = .returned (.bool (decide (s0 < 0) || decide (s1 < 0) || decide (s2 < 0) || decide (cash < 0))) ∧ Below w.heap.size w w' := by
  have hb : Hid (Below w.heap.size w (w.alloc (.cells #[.int .i64 s0, .int .i64 s1, .int .i64 s2] 27))) := (Below.refl _ _).alloc (Nat.le_refl _) _
  have i0 := @ix0
  have i1 := @ix1
  have i2 := @ix2
  by_cases h0 : s0 < 0
  · go_enter Tryd.func23, Tryd.ntmps23
    go_wp2
    refine wp_loop_rounds 1 ?_
    rw [rounds_succ]
    go_wp2
    go_ret
    exact ⟨ret_bool (by simp [h0]), hb.out⟩
  by_cases h1 : s1 < 0
  · go_enter Tryd.func23, Tryd.ntmps23
    go_wp2
    refine wp_loop_rounds 2 ?_
    rw [rounds_succ]
    go_wp2
    rw [rounds_succ]
    go_wp2
    go_ret
    exact ⟨ret_bool (by simp [h1]), hb.out⟩
  by_cases h2 : s2 < 0
  · go_enter Tryd.func23, Tryd.ntmps23
    go_wp2
    refine wp_loop_rounds 3 ?_
    rw [rounds_succ]
    go_wp2
    rw [rounds_succ]
    go_wp2
    rw [rounds_succ]
    go_wp2
    go_ret
    exact ⟨ret_bool (by simp [h2]), hb.out⟩
  · have H : Hid (¬ s0 < 0 ∧ ¬ s1 < 0 ∧ ¬ s2 < 0) := ⟨h0, h1, h2⟩
    go_enter Tryd.func23, Tryd.ntmps23
    go_wp2
    refine wp_loop_rounds 4 ?_
    rw [rounds_succ]
    go_wp2
    rw [rounds_succ]
    go_wp2
    rw [rounds_succ]
    go_wp2
    rw [rounds_succ]
    go_wp2
    go_ret
    exact ⟨ret_bool (by obtain ⟨a, b, c⟩ := H.out; simp [show ¬ s0 < 0 by omega, show ¬ s1 < 0 by omega, show ¬ s2 < 0 by omega]), hb.out⟩

/-- a list of one lot is well just if the lot is -/
theorem well_one (x : Cv.Lot) : Cv.okAt [x] 0 = Cv.ok x := by simp [Cv.okAt, Cv.nth, Cv.has]
set_option maxHeartbeats 1000000 in
theorem isWell_any (item : Int) (x : Cv.Lot) (T : TypeId) (v1 v6 v7 : Value) (w : World) (he : Hid (Er w T v1 v6 v7)) :
    Calls Tryd.prog 26 #[.int .i64 item, lotV x] w fun e w' => e = .returned (.bool (Pu.well item x)) ∧ Below w.heap.size w w' := by
  show Calls Tryd.prog 26 #[.int .i64 item, .agg #[.int .i64 x.id, .int .i64 x.ow, .int .i64 x.sd, .int .i64 x.pr, .int .i64 x.q]] w _
  have hb1 : Below w.heap.size w (w.alloc (.cells #[.int .i64 x.id, .int .i64 x.ow, .int .i64 x.sd, .int .i64 x.pr, .int .i64 x.q] 34)) := (Below.refl _ _).alloc (Nat.le_refl _) _
  have hb2 : Below w.heap.size w ((w.alloc (.cells #[.int .i64 x.id, .int .i64 x.ow, .int .i64 x.sd, .int .i64 x.pr, .int .i64 x.q] 34)).alloc (.cells #[.int .i64 x.id, .int .i64 x.ow, .int .i64 x.sd, .int .i64 x.pr, .int .i64 x.q] 34)) := hb1.alloc hb1.size _
  have HB1 := hide hb1; have HB2 := hide hb2
  have HC := hide (check_some (w.heap.size + 1) 0 1 1 [x] T v1 v6 v7 ((w.alloc (.cells #[.int .i64 x.id, .int .i64 x.ow, .int .i64 x.sd, .int .i64 x.pr, .int .i64 x.q] 34)).alloc (.cells #[.int .i64 x.id, .int .i64 x.ow, .int .i64 x.sd, .int .i64 x.pr, .int .i64 x.q] 34)) rfl (by decide) (by decide) (by
    intro i hi
    have : i = 0 := by simp at hi; omega
    subst this
    refine ⟨?_, ?_, ?_, ?_, ?_⟩ <;> simp [Cv.nth]) (he.out.later hb2))
  clear hb1 hb2
  cases hw : Wi.withinB item 0 2 with
  | false =>
    have HW : Hid (Pu.well item x = false) := by show _ = _; unfold Pu.well; rw [hw]; rfl
    have HI := hide (within_any item 0 2 (w.alloc (.cells #[.int .i64 x.id, .int .i64 x.ow, .int .i64 x.sd, .int .i64 x.pr, .int .i64 x.q] 34)))
    rw [hw] at HI
    clear hw
    go_enter Tryd.func26, Tryd.ntmps26
    go_wp2_with fail
    refine HI.out.mono ?_
    rintro e w2 ⟨rfl, rfl⟩
    simp only []
    go_wp2
    go_ret
    exact ⟨ret_bool HW.out.symm, HB1.out⟩
  | true =>
    have HW : Hid (Pu.well item x = Cv.ok x) := by show _ = _; unfold Pu.well; rw [hw]; rfl
    have HI := hide (within_any item 0 2 (w.alloc (.cells #[.int .i64 x.id, .int .i64 x.ow, .int .i64 x.sd, .int .i64 x.pr, .int .i64 x.q] 34)))
    rw [hw] at HI
    clear hw
    go_enter Tryd.func26, Tryd.ntmps26
    go_wp2_with fail
    refine HI.out.mono ?_
    rintro e w2 ⟨rfl, rfl⟩
    simp only []
    go_wp2_with fail
    refine HC.out.mono ?_
    rintro e w3 ⟨h3, hb3⟩
    have HB3 : Hid (Below w.heap.size w w3) := HB2.out.trans (hb3.mono HB2.out.size)
    rcases h3 with ⟨hwl, rfl⟩ | ⟨i, B, hi, _, hno, rfl, _⟩
    · have HO : Hid (Cv.ok x = true) := by show _ = _; rw [← well_one]; exact hwl 0 (by decide)
      clear hwl hb3
      simp only []
      go_wp2
      go_ret
      exact ⟨ret_bool (by rw [HW.out, HO.out]), HB3.out⟩
    · have HO : Hid (Cv.ok x = false) := by
        show _ = _
        have : i = 0 := by omega
        subst this
        rw [← well_one]; exact hno
      clear hno hi hb3
      simp only []
      go_wp2
      go_ret
      exact ⟨ret_bool (by rw [HW.out, HO.out]), HB3.out⟩
end Go.Proofs.YtgmncdpjbphfhaaDoor
