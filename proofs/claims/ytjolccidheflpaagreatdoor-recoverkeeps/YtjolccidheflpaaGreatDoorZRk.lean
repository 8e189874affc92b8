/- For all steps, every cut and all further steps RecoverKeeps returns true, and its arguments read afterwards as before: wherever power is cut, what was told is kept. The listed package variables hold what the program's text lays (the card ties them). -/
import Derived.Test.YtjolccidheflpaaGreatDoorU48
namespace Go.Proofs.YtjolccidheflpaaGreatDoor.RecoverKeeps
set_option maxHeartbeats 8000000
open Go.ChangeShapes Go.WideShapes Go.ChangeAt Go.RowKit
theorem plain (f:FuncId) (fn:Func) (hf:Tryz.pinned.checked.prog.funcNamed "gavelhouse/gavelhouselaw3.RecoverKeeps" = some f) (hfn:Tryz.pinned.checked.prog.funcs[f]?=some fn) :
  true=Tryz.pinned.checked.prog.looks []∧∀ (j:Nat) t,fn.params[j]?=some t->Tryz.pinned.checked.prog.wantsStandIn t=false:=by
 obtain rfl:f=4:=Option.some.inj ((show Tryz.prog.funcNamed "gavelhouse/gavelhouselaw3.RecoverKeeps" = some 4 by kernel_rfl).symm.trans hf) |>.symm
 obtain rfl:fn=Tryz.f4:=(Option.some.inj (Tryz.func4.symm.trans hfn)).symm;refine⟨by kernel_rfl,fun j t ht=>?_⟩;rw[Tryz.params4]at ht;have hm:t∈[36,3,36]:=by simpa using Array.mem_of_getElem? ht
 have hall:([36,3,36].all fun u=>!Tryz.prog.wantsStandIn u)=true:=by kernel_rfl
 exact(show Tryz.prog.wantsStandIn t=false by simpa using List.all_eq_true.1 hall t hm)
end RecoverKeeps
theorem recoverKeeps_card:Rows.RecoverKeepsCardSaid :=
 Claim7.holds_tied_plain_at .later [] _ _ _ _ RecoverKeeps.said (fun _ h=>by cases h) (by kernel_rfl) (fun _ h=>by cases h) recoverKeeps_row_tie rfl ⟨rfl,rfl⟩ (by kernel_rfl) rfl RecoverKeeps.plain (by kernel_rfl)
#print axioms recoverKeeps_card
end Go.Proofs.YtjolccidheflpaaGreatDoor
