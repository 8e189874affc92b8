/- What VenueKeeps says, of every call. -/
import Derived.Test.YtidahfhingdlmaaGreatDoorZVk1
import Derived.Test.YtidahfhingdlmaaGreatDoorZVkC
namespace Go.Proofs.YtidahfhingdlmaaGreatDoor.VenueKeeps
open Go.ChangeShapes Go.WideShapes Go.ChangeAt Go.RowKit
theorem said:Rows.VenueKeepsSaid :=
 OpenClaim.holds_of_wide 4 Tryz.f4 rfl rfl rfl rfl rfl rfl rfl ⟨rfl,rfl,rfl,rfl,rfl⟩ rfl rfl rfl rfl rfl (by kernel_rfl) Tryz.func4 VenueKeeps.closed
  (of_decide_eq_true (by kernel_rfl)) (by unfold Func.isWrapper;first | (rw [if_pos (by decide +kernel)];kernel_rfl) | (rw [if_neg (by decide +kernel)];exact ⟨rfl,rfl⟩))
  (fun os started H enc _=>lifted os started H enc)
end Go.Proofs.YtidahfhingdlmaaGreatDoor.VenueKeeps
