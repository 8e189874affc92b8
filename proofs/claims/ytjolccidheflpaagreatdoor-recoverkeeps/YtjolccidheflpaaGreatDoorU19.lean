/- A world in which all listed variables are laid: the door's run, and a table of the library's. -/
import Derived.Test.YtjolccidheflpaaGreatDoorU05
import Derived.Lay
namespace Go.Proofs.YtjolccidheflpaaGreatDoor
set_option maxHeartbeats 8000000
open Go.ChangeShapes Go.WideShapes Go.ChangeAt Go.RowKit
set_option maxRecDepth 100000
def Pe:List (String×DataW Unit):=[("unicode/utf8.first",Rows.laid_unicode_utf8_first)]
noncomputable def door (os:Os):World:=(World.doorLaid Tryz.prog 400 os).layVars Tryz.prog Pe
theorem aih (os:Os):(door os).os=os:=(World.layVars_os _ _ _).trans rfl
noncomputable def Iy (os:Os):List Nat:=(List.range (World.doorLaid Tryz.prog 400 os).heap.size).filter (· != 16)
def gZ:List (String×DataW Unit):=(Rows.recoverKeepsRow.laid.filter fun x=>x.2.handleName?.isNone).filter fun x=>!(["unicode/utf8.first"].contains x.1)
theorem alU (os:Os):(World.doorLaid Tryz.prog 400 os).layFits Tryz.prog Pe (Iy os)=true:=by kernel_rfl
theorem alV (os:Os) (args:Array Value):(World.doorLaid Tryz.prog 400 os).layIfaces Tryz.prog Pe ((door os).forCall (fun _ _=>0) ⟨#[],args,[]⟩).memory=true:=by kernel_rfl
theorem alW (os:Os) (args:Array Value):LaidIn Tryz.prog ((door os).forCall (fun _ _=>0) ⟨#[],args,[]⟩).memory gZ (Iy os) :=
 LaidIn.of_run (Iy os) 8 (by kernel_rfl) (by kernel_rfl) (by kernel_rfl) (by kernel_rfl)
theorem aid (os:Os) (args:Array Value):laidMet Tryz.prog (Rows.recoverKeepsRow.laid.filter fun x=>x.2.handleName?.isNone) ((door os).forCall (fun _ _=>0) ⟨#[],args,[]⟩).memory :=
 laidMet_layVars ["unicode/utf8.first"] (Iy os) (by rfl) (alU os) (alV os args) (alW os args)
theorem aie (os:Os) (args:Array Value):(Rows.recoverKeepsRow.laid.filter fun x=>x.2.handleName?.isSome&&x.2.funcsIn?.isNone).all (handleAtB Tryz.prog ((door os).forCall (fun _ _=>0) ⟨#[],args,[]⟩).memory)=true:=by kernel_rfl
theorem aii (os:Os) (args:Array Value):((door os).forCall (fun _ _=>0) ⟨#[],args,[]⟩).Shaped Tryz.prog:=World.shaped_of_RefB (by kernel_rfl) (by kernel_rfl)
end Go.Proofs.YtjolccidheflpaaGreatDoor
