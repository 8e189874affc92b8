/- The closed facts of VenueTold' row. -/
import Derived.Test.YtidahfhingdlmaaGreatDoorT05
namespace Go.Proofs.YtidahfhingdlmaaGreatDoor
theorem VenueTold.and2 {a b:Bool} (ha:a = true) (hb:b = true):(a&&b) = true:=by rw [ha,hb];rfl
set_option maxRecDepth 100000 in
set_option maxHeartbeats 8000000 in
theorem VenueTold.closed:joinedFacts Tryz.pinned.checked.prog 3 Tryz.f3 Rows.venueToldSpec Rows.venueToldRow = true:=by
 unfold joinedFacts
 repeat' (with_reducible apply VenueTold.and2)
 all_goals (as_aux_lemma=>kernel_rfl)
end Go.Proofs.YtidahfhingdlmaaGreatDoor
