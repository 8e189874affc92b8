/- For all steps VenueKeeps returns true, and its argument reads afterwards as before. The listed package variables hold what the program's text lays (the card ties them). -/
import Derived.Test.YtidahfhingdlmaaGreatDoorZVk2
namespace Go.Proofs.YtidahfhingdlmaaGreatDoor.VenueKeeps
open Go.ChangeShapes Go.WideShapes Go.ChangeAt Go.RowKit
theorem plain (f:FuncId) (fn:Func) (hf:Tryz.pinned.checked.prog.funcNamed "gavelhouse/gavelhouselaw3.VenueKeeps" = some f) (hfn:Tryz.pinned.checked.prog.funcs[f]? = some fn) :
  true = Tryz.pinned.checked.prog.looks []∧∀ (j:Nat) t,fn.params[j]? = some t→Tryz.pinned.checked.prog.wantsStandIn t = false:=by
 obtain rfl:f = 4:=Option.some.inj ((show Tryz.prog.funcNamed "gavelhouse/gavelhouselaw3.VenueKeeps" = some 4 by kernel_rfl).symm.trans hf) |>.symm
 obtain rfl:fn = Tryz.f4:=(Option.some.inj (Tryz.func4.symm.trans hfn)).symm
 refine ⟨by kernel_rfl,fun j t ht=>?_⟩
 rw [Tryz.params4] at ht
 have hm:t∈[22]:=by simpa using Array.mem_of_getElem? ht
 have hall:([22].all fun u=>!Tryz.prog.wantsStandIn u) = true:=by kernel_rfl
 exact (show Tryz.prog.wantsStandIn t = false by simpa using List.all_eq_true.1 hall t hm)
end VenueKeeps
theorem venueKeeps_card:Rows.VenueKeepsCardSaid :=
 Claim7.holds_tied_plain_at .later [] _ _ _ _ VenueKeeps.said (fun _ h=>by cases h) (by kernel_rfl) (fun _ h=>by cases h) venueKeeps_row_tie rfl ⟨rfl,rfl⟩ (by kernel_rfl) rfl VenueKeeps.plain (by kernel_rfl)
#print axioms venueKeeps_card
end Go.Proofs.YtidahfhingdlmaaGreatDoor
