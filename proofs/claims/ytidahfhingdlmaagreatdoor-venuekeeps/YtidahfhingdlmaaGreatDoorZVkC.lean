/- The closed facts of VenueKeeps' row. -/
import Derived.Test.YtidahfhingdlmaaGreatDoorU05
namespace Go.Proofs.YtidahfhingdlmaaGreatDoor
theorem and2 {a b:Bool} (ha:a = true) (hb:b = true):(a&&b) = true:=by rw [ha,hb];rfl
set_option maxRecDepth 100000 in
set_option maxHeartbeats 8000000 in
theorem VenueKeeps.closed:joinedFacts Tryz.pinned.checked.prog 4 Tryz.f4 Rows.venueKeepsSpec Rows.venueKeepsRow = true:=by
 unfold joinedFacts
 repeat' (with_reducible apply and2)
 all_goals (as_aux_lemma=>kernel_rfl)
end Go.Proofs.YtidahfhingdlmaaGreatDoor
