/- What VenueTold says, of every call. -/
import Derived.Test.YtidahfhingdlmaaGreatDoorZVt1
import Derived.Test.YtidahfhingdlmaaGreatDoorZVtC
namespace Go.Proofs.YtidahfhingdlmaaGreatDoor.VenueTold
open Go.ChangeShapes Go.WideShapes Go.ChangeAt Go.RowKit
theorem said:Rows.VenueToldSaid :=
 OpenClaim.holds_of_wide 3 Tryz.f3 rfl rfl rfl rfl rfl rfl rfl ⟨rfl,rfl,rfl,rfl,rfl⟩ rfl rfl rfl rfl rfl (by kernel_rfl) Tryz.func3 VenueTold.closed
  (of_decide_eq_true (by kernel_rfl)) (by unfold Func.isWrapper;first | (rw [if_pos (by decide +kernel)];kernel_rfl) | (rw [if_neg (by decide +kernel)];exact ⟨rfl,rfl⟩))
  (fun os started H enc _=>lifted os started H enc)
end Go.Proofs.YtidahfhingdlmaaGreatDoor.VenueTold
