/- A world in which all listed variables are laid: the door's run, and a table of the library's. -/
import Derived.Test.YtjolccidheflpaaGreatDoorV05
import Derived.Lay
namespace Go.Proofs.YtjolccidheflpaaGreatDoor
set_option maxHeartbeats 8000000
open Go.ChangeShapes Go.WideShapes Go.ChangeAt Go.RowKit
set_option maxRecDepth 100000
def Ps:List (String×DataW Unit):=[("unicode/utf8.first",Rows.laid_unicode_utf8_first)]
noncomputable def door (os:Os):World:=(World.doorLaid Tryz.prog 400 os).layVars Tryz.prog Ps
theorem aij (os:Os):(door os).os=os:=(World.layVars_os _ _ _).trans rfl
noncomputable def IG (os:Os):List Nat:=(List.range (World.doorLaid Tryz.prog 400 os).heap.size).filter (· != 16)
def gQ:List (String×DataW Unit):=(Rows.recoverKeepsRow.laid.filter fun x=>x.2.handleName?.isNone).filter fun x=>!(["unicode/utf8.first"].contains x.1)
theorem alP (os:Os):(World.doorLaid Tryz.prog 400 os).layFits Tryz.prog Ps (IG os)=true:=by kernel_rfl
theorem alQ (os:Os) (args:Array Value):(World.doorLaid Tryz.prog 400 os).layIfaces Tryz.prog Ps ((door os).forCall (fun _ _=>0) ⟨#[],args,[]⟩).memory=true:=by kernel_rfl
theorem alR (os:Os) (args:Array Value):LaidIn Tryz.prog ((door os).forCall (fun _ _=>0) ⟨#[],args,[]⟩).memory gQ (IG os) :=
 LaidIn.of_run (IG os) 8 (by kernel_rfl) (by kernel_rfl) (by kernel_rfl) (by kernel_rfl)
theorem aif (os:Os) (args:Array Value):laidMet Tryz.prog (Rows.recoverKeepsRow.laid.filter fun x=>x.2.handleName?.isNone) ((door os).forCall (fun _ _=>0) ⟨#[],args,[]⟩).memory :=
 laidMet_layVars ["unicode/utf8.first"] (IG os) (by rfl) (alP os) (alQ os args) (alR os args)
theorem aih (os:Os) (args:Array Value):(Rows.recoverKeepsRow.laid.filter fun x=>x.2.handleName?.isSome&&x.2.funcsIn?.isNone).all (handleAtB Tryz.prog ((door os).forCall (fun _ _=>0) ⟨#[],args,[]⟩).memory)=true:=by kernel_rfl
theorem aik (os:Os) (args:Array Value):((door os).forCall (fun _ _=>0) ⟨#[],args,[]⟩).Shaped Tryz.prog:=World.shaped_of_RefB (by kernel_rfl) (by kernel_rfl)
end Go.Proofs.YtjolccidheflpaaGreatDoor
