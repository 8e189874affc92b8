/- The number of a lot that is not well, by its contract. -/
import Derived.Test.YtgmncdpjbphfhaaDoorCvWalks
import Derived.Test.YtgmncdpjbphfhaaDoorAskError
namespace Go.Proofs.YtgmncdpjbphfhaaDoor
open Go.RowKit
set_option maxRecDepth 100000

def lotE (x : Cv.Lot) : Int := if Cv.ok x = true then 0 else 2
/-- the number of the error of a lot that is not well -/
def badE (x : Cv.Lot) : Int := if Cv.ok x = true then 7 else 2

set_option maxHeartbeats 1000000 in
theorem lotError_any (x : Cv.Lot) (w : World) : Calls Tryd.prog 29 #[lotV x] w fun e w' => e = .returned (.int .i64 (lotE x)) ∧ Below w.heap.size w w' := by
  show Calls Tryd.prog 29 #[.agg #[.int .i64 x.id, .int .i64 x.ow, .int .i64 x.sd, .int .i64 x.pr, .int .i64 x.q]] w _
  go_enter Tryd.func29, Tryd.ntmps29
  go_wp2_with (go_at_call 35; refine (in_any _ _ _ _).mono ?_; rintro e w' ⟨rfl, rfl⟩)
  all_goals go_ret
  all_goals
    refine ⟨ret_int ?_, (Below.refl _ _).alloc (Nat.le_refl _) _⟩
    simp_all [lotE, Cv.ok]

end Go.Proofs.YtgmncdpjbphfhaaDoor
