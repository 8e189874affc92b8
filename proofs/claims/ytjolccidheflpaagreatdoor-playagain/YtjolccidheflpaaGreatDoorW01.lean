/- What the listed package variables give the walks. -/
import Derived.Test.YtjolccidheflpaaGreatDoorW00
import Derived.Test.YtjolccidheflpaaGreatDoorCards
import Derived.Test.YtjolccidheflpaaGreatDoorTie
import Derived.WalkKit
import Derived.ProofKit
import Derived.OpenShut
import Derived.LaidMore
import Derived.Stop.LaidErr
import Derived.Stop.LaidTwo
import Derived.Stop.Joined
import Derived.Lib.SmallJoins
namespace Go.Proofs.YtjolccidheflpaaGreatDoor
set_option maxHeartbeats 8000000
set_option maxRecDepth 100000
open Go.ChangeShapes Go.WideShapes Go.ChangeAt Go.RowKit
theorem own:ownKnob Tryz.prog.godebug=none:=by kernel_rfl
theorem laidOut:laidOutB Tryz.prog=true:=by kernel_rfl
theorem Q7: "*"++ "errors.errorString" = "*errors.errorString":=by decide
theorem acM (u:TypeId) (h:Tryz.prog.typeName? 3 u=some "*errors.errorString"):u=412 :=
 typeName_ptr_named (nm:= "errors.errorString") (by rw[Q7];kernel_rfl) (by kernel_rfl) (by decide) u (by rw[Q7];exact h)
theorem acN:Tryz.prog.cellsOf 414=1:=by kernel_rfl
theorem acO:Tryz.prog.cellsOf 9=1:=by kernel_rfl
theorem cells3:Tryz.prog.cellsOf 3=1:=by kernel_rfl
end Go.Proofs.YtjolccidheflpaaGreatDoor
