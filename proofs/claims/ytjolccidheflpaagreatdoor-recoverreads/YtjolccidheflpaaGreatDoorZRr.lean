/- For every text RecoverReads returns true: what is read of it is what the document reads. The listed package variables hold what the program's text lays (the card ties them). -/
import Derived.Test.YtjolccidheflpaaGreatDoorV48
namespace Go.Proofs.YtjolccidheflpaaGreatDoor.RecoverReads
set_option maxHeartbeats 8000000
open Go.ChangeShapes Go.WideShapes Go.ChangeAt Go.RowKit
theorem plain (f:FuncId) (fn:Func) (hf:Tryz.pinned.checked.prog.funcNamed "gavelhouse/gavelhouselaw3.RecoverReads" = some f) (hfn:Tryz.pinned.checked.prog.funcs[f]?=some fn) :
  true=Tryz.pinned.checked.prog.looks []∧∀ (j:Nat) t,fn.params[j]?=some t->Tryz.pinned.checked.prog.wantsStandIn t=false:=by
 obtain rfl:f=3:=Option.some.inj ((show Tryz.prog.funcNamed "gavelhouse/gavelhouselaw3.RecoverReads" = some 3 by kernel_rfl).symm.trans hf) |>.symm
 obtain rfl:fn=Tryz.f3:=(Option.some.inj (Tryz.func3.symm.trans hfn)).symm;refine⟨by kernel_rfl,fun j t ht=>?_⟩;rw[Tryz.params3]at ht;have hm:t∈[9]:=by simpa using Array.mem_of_getElem? ht
 have hall:([9].all fun u=>!Tryz.prog.wantsStandIn u)=true:=by kernel_rfl
 exact(show Tryz.prog.wantsStandIn t=false by simpa using List.all_eq_true.1 hall t hm)
end RecoverReads
theorem recoverReads_card:Rows.RecoverReadsCardSaid :=
 Claim7.holds_tied_plain_at .later [] _ _ _ _ RecoverReads.said (fun _ h=>by cases h) (by kernel_rfl) (fun _ h=>by cases h) recoverReads_row_tie rfl ⟨rfl,rfl⟩ (by kernel_rfl) rfl RecoverReads.plain (by kernel_rfl)
#print axioms recoverReads_card
end Go.Proofs.YtjolccidheflpaaGreatDoor
