/- The closed facts of VenueParts' row. -/
import Derived.Test.YtidahfhingdlmaaGreatDoorU05
namespace Go.Proofs.YtidahfhingdlmaaGreatDoor
theorem VenueParts.and2 {a b:Bool} (ha:a = true) (hb:b = true):(a&&b) = true:=by rw [ha,hb];rfl
set_option maxRecDepth 100000 in
set_option maxHeartbeats 8000000 in
theorem VenueParts.closed:joinedFacts Tryz.pinned.checked.prog 5 Tryz.f5 Rows.venuePartsSpec Rows.venuePartsRow = true:=by
 unfold joinedFacts
 repeat' (with_reducible apply VenueParts.and2)
 all_goals (as_aux_lemma=>kernel_rfl)
end Go.Proofs.YtidahfhingdlmaaGreatDoor
