/- For every client, item, side, price, quantity and all steps VenueTold returns true, and its arguments read afterwards as before: each order that was accepted is told of with its batch. The listed package variables hold what the program's text lays (the card ties them). -/
import Derived.Test.YtidahfhingdlmaaGreatDoorZVt2
namespace Go.Proofs.YtidahfhingdlmaaGreatDoor.VenueTold
open Go.ChangeShapes Go.WideShapes Go.ChangeAt Go.RowKit
theorem plain (f:FuncId) (fn:Func) (hf:Tryz.pinned.checked.prog.funcNamed "gavelhouse/gavelhouselaw3.VenueTold" = some f) (hfn:Tryz.pinned.checked.prog.funcs[f]? = some fn) :
  true = Tryz.pinned.checked.prog.looks []∧∀ (j:Nat) t,fn.params[j]? = some t→Tryz.pinned.checked.prog.wantsStandIn t = false:=by
 obtain rfl:f = 3:=Option.some.inj ((show Tryz.prog.funcNamed "gavelhouse/gavelhouselaw3.VenueTold" = some 3 by kernel_rfl).symm.trans hf) |>.symm
 obtain rfl:fn = Tryz.f3:=(Option.some.inj (Tryz.func3.symm.trans hfn)).symm
 refine ⟨by kernel_rfl,fun j t ht=>?_⟩
 rw [Tryz.params3] at ht
 have hm:t∈[3,3,3,3,3,22]:=by simpa using Array.mem_of_getElem? ht
 have hall:([3,3,3,3,3,22].all fun u=>!Tryz.prog.wantsStandIn u) = true:=by kernel_rfl
 exact (show Tryz.prog.wantsStandIn t = false by simpa using List.all_eq_true.1 hall t hm)
end VenueTold
theorem venueTold_card:Rows.VenueToldCardSaid :=
 Claim7.holds_tied_plain_at .later [] _ _ _ _ VenueTold.said (fun _ h=>by cases h) (by kernel_rfl) (fun _ h=>by cases h) venueTold_row_tie rfl ⟨rfl,rfl⟩ (by kernel_rfl) rfl VenueTold.plain (by kernel_rfl)
#print axioms venueTold_card
end Go.Proofs.YtidahfhingdlmaaGreatDoor
