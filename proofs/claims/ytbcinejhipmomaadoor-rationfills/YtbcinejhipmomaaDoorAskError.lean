/- The document's answer for a number and its bounds. -/
import Derived.Test.YtbcinejhipmomaaDoorSumWalks
import Derived.Deep.Light
namespace Go.Proofs.YtbcinejhipmomaaDoor
open Go.RowKit
set_option maxRecDepth 100000

set_option maxHeartbeats 400000 in
theorem in_any (x lo hi : Int) (w : World) :
    Calls Tryd.prog 64 #[.int .i64 x, .int .i64 lo, .int .i64 hi] w fun e w' => e = .returned (.bool (Wi.withinB x lo hi)) ∧ w' = w := by
  by_cases h : lo ≤ x
  · go_enter Tryd.func64, Tryd.ntmps64
    go_wp2
    go_ret
    exact ⟨ret_bool (by simp [Wi.withinB, h]), rfl⟩
  · have h' : decide (lo ≤ x) = false := by simpa using h
    go_enter Tryd.func64, Tryd.ntmps64
    go_wp2
    go_ret
    exact ⟨ret_bool (by simp [Wi.withinB, h']), rfl⟩

end Go.Proofs.YtbcinejhipmomaaDoor
