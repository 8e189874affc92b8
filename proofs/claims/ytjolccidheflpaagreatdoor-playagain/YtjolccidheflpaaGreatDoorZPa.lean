/- For every number of a play and every script PlayAgain returns true, and its arguments read afterwards as before: the same script makes the same play, and a venue that goes on from its tape has the same books. The listed package variables hold what the program's text lays (the card ties them). -/
import Derived.Test.YtjolccidheflpaaGreatDoorW50
namespace Go.Proofs.YtjolccidheflpaaGreatDoor.PlayAgain
set_option maxHeartbeats 8000000
open Go.ChangeShapes Go.WideShapes Go.ChangeAt Go.RowKit
theorem plain (f:FuncId) (fn:Func) (hf:Tryz.pinned.checked.prog.funcNamed "gavelhouse/gavelhouselaw4.PlayAgain" = some f) (hfn:Tryz.pinned.checked.prog.funcs[f]?=some fn) :
  true=Tryz.pinned.checked.prog.looks []/\∀ (j:Nat) t,fn.params[j]?=some t->Tryz.pinned.checked.prog.wantsStandIn t=false:=by
 obtain rfl:f=5:=Option.some.inj ((show Tryz.prog.funcNamed "gavelhouse/gavelhouselaw4.PlayAgain" = some 5 by kernel_rfl).symm.trans hf) |>.symm
 obtain rfl:fn=Tryz.f5:=(Option.some.inj (Tryz.func5.symm.trans hfn)).symm;refine⟨by kernel_rfl,fun j t ht=>?_⟩;rw[Tryz.params5]at ht;have hm:t∈[3,23]:=by simpa using Array.mem_of_getElem? ht
 have hall:([3,23].all fun u=>!Tryz.prog.wantsStandIn u)=true:=by kernel_rfl
 exact(show Tryz.prog.wantsStandIn t=false by simpa using List.all_eq_true.1 hall t hm)
end PlayAgain
theorem playAgain_card:Rows.PlayAgainCardSaid :=
 Claim7.holds_tied_plain_at .later [] _ _ _ _ PlayAgain.said (fun _ h=>by cases h) (by kernel_rfl) (fun _ h=>by cases h) playAgain_row_tie rfl ⟨rfl,rfl⟩ (by kernel_rfl) rfl PlayAgain.plain (by kernel_rfl)
#print axioms playAgain_card
end Go.Proofs.YtjolccidheflpaaGreatDoor
