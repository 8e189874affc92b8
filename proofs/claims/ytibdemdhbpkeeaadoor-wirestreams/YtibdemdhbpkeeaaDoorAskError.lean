/- The document's answer for a request's error: AskError is the number that the checks give. -/
import Derived.Test.YtibdemdhbpkeeaaDoorSumWalks
import Derived.Deep.Light
namespace Go.Proofs.YtibdemdhbpkeeaaDoor
open Go.RowKit
set_option maxRecDepth 100000

set_option maxHeartbeats 400000 in
theorem in_any (x lo hi : Int) (w : World) :
    Calls Tryd.prog 20 #[.int .i64 x, .int .i64 lo, .int .i64 hi] w fun e w' => e = .returned (.bool (Wi.withinB x lo hi)) ∧ w' = w := by
  by_cases h : lo ≤ x
  · go_enter Tryd.func20, Tryd.ntmps20
    go_wp2
    go_ret
    exact ⟨ret_bool (by simp [Wi.withinB, h]), rfl⟩
  · have h' : decide (lo ≤ x) = false := by simpa using h
    go_enter Tryd.func20, Tryd.ntmps20
    go_wp2
    go_ret
    exact ⟨ret_bool (by simp [Wi.withinB, h']), rfl⟩

theorem Wi.client_in (c : Int) (h1 : ¬ c < 0) (h2 : ¬ 6 ≤ c) : Wi.withinB c 0 5 = true := by simp [Wi.withinB]; omega

set_option maxHeartbeats 4000000 in
theorem askError_any (k c sq it sd pr q id : Int) (w : World) :
    Calls Tryd.prog 8 #[.agg #[.int .u8 k, .int .i64 c, .int .i64 sq, .int .i64 it, .int .i64 sd, .int .i64 pr, .int .i64 q, .int .i64 id]] w fun e w' => e = .returned (.int .i64 (Wi.code k c sq it sd pr q id)) ∧ Below w.heap.size w w' := by
  go_enter Tryd.func8, Tryd.ntmps8
  go_wp2_with (go_at_call 20; refine (in_any _ _ _ _).mono ?_; rintro e w' ⟨rfl, rfl⟩)
  all_goals go_ret
  all_goals
    refine ⟨ret_int ?_, (Below.refl _ _).alloc (Nat.le_refl _) _⟩
  all_goals
    go_light
    try simp only [Wi.withinB, Bool.and_eq_true, decide_eq_true_eq, Bool.not_eq_true', Bool.and_eq_false_iff, decide_eq_false_iff_not, Bool.not_eq_false', bne_iff_ne, ne_eq, beq_iff_eq, bne_eq_false_iff_eq, not_and, beq_eq_false_iff_ne] at *
    simp only [Wi.code, Wi.kindB, Wi.boundB, Wi.shapeB, Wi.withinB, Bool.or_eq_true, Bool.and_eq_true, beq_iff_eq, decide_eq_true_eq]
    repeat' split
    all_goals first | omega | (simp_all; done) | (simp only [Bool.and_eq_true, decide_eq_true_eq] at *; omega) | (simp_all; omega)
end Go.Proofs.YtibdemdhbpkeeaaDoor
