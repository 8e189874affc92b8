/- What the listed package variables give the walks. -/
import Derived.Test.YtjolccidheflpaaGreatDoorV00
import Derived.Test.YtjolccidheflpaaGreatDoorCards
import Derived.Test.YtjolccidheflpaaGreatDoorTie
import Derived.WalkKit
import Derived.ProofKit
import Derived.OpenShut
import Derived.LaidMore
import Derived.Stop.LaidErr
import Derived.Stop.LaidTwo
import Derived.Stop.Joined
import Derived.Lib.SmallJoins
namespace Go.Proofs.YtjolccidheflpaaGreatDoor
set_option maxHeartbeats 8000000
open Go.ChangeShapes Go.WideShapes Go.ChangeAt Go.RowKit
theorem own:ownKnob Tryz.prog.godebug=none:=by kernel_rfl
theorem RN: "*"++ "errors.errorString" = "*errors.errorString":=by decide
theorem ac7 (u:TypeId) (h:Tryz.prog.typeName? 3 u=some "*errors.errorString"):u=412 :=
 typeName_ptr_named (nm:= "errors.errorString") (by rw[RN];kernel_rfl) (by kernel_rfl) (by decide) u (by rw[RN];exact h)
theorem ac8:Tryz.prog.cellsOf 414=1:=by kernel_rfl
theorem ac9:Tryz.prog.cellsOf 9=1:=by kernel_rfl
end Go.Proofs.YtjolccidheflpaaGreatDoor
