/- For all steps, every client, text and all cuts VenueParts returns true, and its arguments read afterwards as before: bytes that are fed in parts make what they make at once. The listed package variables hold what the program's text lays (the card ties them). -/
import Derived.Test.YtidahfhingdlmaaGreatDoorZVp2
namespace Go.Proofs.YtidahfhingdlmaaGreatDoor.VenueParts
open Go.ChangeShapes Go.WideShapes Go.ChangeAt Go.RowKit
theorem plain (f:FuncId) (fn:Func) (hf:Tryz.pinned.checked.prog.funcNamed "gavelhouse/gavelhouselaw3.VenueParts" = some f) (hfn:Tryz.pinned.checked.prog.funcs[f]? = some fn) :
  true = Tryz.pinned.checked.prog.looks []∧∀ (j:Nat) t,fn.params[j]? = some t→Tryz.pinned.checked.prog.wantsStandIn t = false:=by
 obtain rfl:f = 5:=Option.some.inj ((show Tryz.prog.funcNamed "gavelhouse/gavelhouselaw3.VenueParts" = some 5 by kernel_rfl).symm.trans hf) |>.symm
 obtain rfl:fn = Tryz.f5:=(Option.some.inj (Tryz.func5.symm.trans hfn)).symm
 refine ⟨by kernel_rfl,fun j t ht=>?_⟩
 rw [Tryz.params5] at ht
 have hm:t∈[22,3,9,72]:=by simpa using Array.mem_of_getElem? ht
 have hall:([22,3,9,72].all fun u=>!Tryz.prog.wantsStandIn u) = true:=by kernel_rfl
 exact (show Tryz.prog.wantsStandIn t = false by simpa using List.all_eq_true.1 hall t hm)
end VenueParts
theorem venueParts_card:Rows.VenuePartsCardSaid :=
 Claim7.holds_tied_plain_at .later [] _ _ _ _ VenueParts.said (fun _ h=>by cases h) (by kernel_rfl) (fun _ h=>by cases h) venueParts_row_tie rfl ⟨rfl,rfl⟩ (by kernel_rfl) rfl VenueParts.plain (by kernel_rfl)
#print axioms venueParts_card
end Go.Proofs.YtidahfhingdlmaaGreatDoor
