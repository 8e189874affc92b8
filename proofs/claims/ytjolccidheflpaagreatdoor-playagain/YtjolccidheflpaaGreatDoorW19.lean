/- A world in which all listed variables are laid: the door's run, and a table of the library's. -/
import Derived.Test.YtjolccidheflpaaGreatDoorW05
import Derived.Lay
namespace Go.Proofs.YtjolccidheflpaaGreatDoor
set_option maxHeartbeats 8000000
set_option maxRecDepth 100000
open Go.ChangeShapes Go.WideShapes Go.ChangeAt Go.RowKit
def PL:List (String×DataW Unit):=[("unicode/utf8.first",Rows.laid_unicode_utf8_first)]
noncomputable def door (os:Os):World:=(World.doorLaid Tryz.prog 400 os).layVars Tryz.prog PL
theorem agw (os:Os):(door os).os=os:=(World.layVars_os _ _ _).trans rfl
noncomputable def IV (os:Os):List Nat:=(List.range (World.doorLaid Tryz.prog 400 os).heap.size).filter (· != 16)
def ig:List (String×DataW Unit):=(Rows.recoverKeepsRow.laid.filter fun x=>x.2.handleName?.isNone).filter fun x=>!(["unicode/utf8.first"].contains x.1)
theorem amA (os:Os):(World.doorLaid Tryz.prog 400 os).layFits Tryz.prog PL (IV os)=true:=by kernel_rfl
theorem amB (os:Os) (args:Array Value):(World.doorLaid Tryz.prog 400 os).layIfaces Tryz.prog PL ((door os).forCall (fun _ _=>0) ⟨#[],args,[]⟩).memory=true:=by kernel_rfl
theorem amC (os:Os) (args:Array Value):LaidIn Tryz.prog ((door os).forCall (fun _ _=>0) ⟨#[],args,[]⟩).memory ig (IV os) :=
 LaidIn.of_run (IV os) 8 (by kernel_rfl) (by kernel_rfl) (by kernel_rfl) (by kernel_rfl)
theorem agt (os:Os) (args:Array Value):laidMet Tryz.prog (Rows.recoverKeepsRow.laid.filter fun x=>x.2.handleName?.isNone) ((door os).forCall (fun _ _=>0) ⟨#[],args,[]⟩).memory :=
 laidMet_layVars ["unicode/utf8.first"] (IV os) (by rfl) (amA os) (amB os args) (amC os args)
theorem agu (os:Os) (args:Array Value):(Rows.recoverKeepsRow.laid.filter fun x=>x.2.handleName?.isSome&&x.2.funcsIn?.isNone).all (handleAtB Tryz.prog ((door os).forCall (fun _ _=>0) ⟨#[],args,[]⟩).memory)=true:=by kernel_rfl
theorem agx (os:Os) (args:Array Value):((door os).forCall (fun _ _=>0) ⟨#[],args,[]⟩).Shaped Tryz.prog:=World.shaped_of_RefB (by kernel_rfl) (by kernel_rfl)
end Go.Proofs.YtjolccidheflpaaGreatDoor
