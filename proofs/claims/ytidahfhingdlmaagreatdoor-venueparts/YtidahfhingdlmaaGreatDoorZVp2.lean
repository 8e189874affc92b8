/- What VenueParts says, of every call. -/
import Derived.Test.YtidahfhingdlmaaGreatDoorZVp1
import Derived.Test.YtidahfhingdlmaaGreatDoorZVpC
namespace Go.Proofs.YtidahfhingdlmaaGreatDoor.VenueParts
open Go.ChangeShapes Go.WideShapes Go.ChangeAt Go.RowKit
theorem said:Rows.VenuePartsSaid :=
 OpenClaim.holds_of_wide 5 Tryz.f5 rfl rfl rfl rfl rfl rfl rfl ⟨rfl,rfl,rfl,rfl,rfl⟩ rfl rfl rfl rfl rfl (by kernel_rfl) Tryz.func5 VenueParts.closed
  (of_decide_eq_true (by kernel_rfl)) (by unfold Func.isWrapper;first | (rw [if_pos (by decide +kernel)];kernel_rfl) | (rw [if_neg (by decide +kernel)];exact ⟨rfl,rfl⟩))
  (fun os started H enc _=>lifted os started H enc)
end Go.Proofs.YtidahfhingdlmaaGreatDoor.VenueParts
