/- For every two requests WireApart returns true, and both requests read afterwards as before: two right requests have one frame only if they are one. The listed package variables hold what the program's text lays (the card ties them). -/
import Derived.Test.YtibdemdhbpkeeaaDoorData
import Derived.Test.YtibdemdhbpkeeaaDoorApartWalks
namespace Go.Proofs.YtibdemdhbpkeeaaDoor.Apart
open Go.ChangeShapes Go.WideShapes Go.ChangeAt Go.RowKit

theorem errs {W : World} (h : laidMetH Tryd.prog Rows.wireApartRow.laid W) :
    ∃ a1 a2 a3 : Addr, W.cell? ⟨1, 0, none⟩ = some (.iface 104 (.pointer (some a1))) ∧ W.cell? ⟨2, 0, none⟩ = some (.iface 104 (.pointer (some a2))) ∧ W.cell? ⟨0, 0, none⟩ = some (.iface 104 (.pointer (some a3))) := by
  rw [MakeChecks.laidMetH_plain _ _ _ (by kernel_rfl)] at h
  obtain ⟨a1, _, h1, _, _⟩ := one_sentinel h (g := 1) (by kernel_rfl) (by kernel_rfl)
  obtain ⟨a2, _, h2, _, _⟩ := one_sentinel h.tail (g := 2) (by kernel_rfl) (by kernel_rfl)
  obtain ⟨a3, _, h3, _, _⟩ := one_sentinel h.tail.tail (g := 0) (by kernel_rfl) (by kernel_rfl)
  exact ⟨a1, a2, a3, h1, h2, h3⟩

set_option maxRecDepth 100000 in
theorem contract (H : Type) (enc : TypeId × Value → H) (W : World) (base : Nat) (args : Array Value) (ds gs : List (DataW H)) (before : List MemPlace)
    (hval : ∀ (j : Nat) t v, Tryd.f6.params[j]? = some t → args[j]? = some v → Value.okWide Tryd.prog W .any base t v)
    (hW : DataW.Whole enc Tryd.prog Tryd.f6.params.toList Rows.wireApartSpec.vars false W args.toList ds gs before) (hL : laidMetH Tryd.prog Rows.wireApartRow.laid W) :
    Calls Tryd.prog 6 args W fun e W' => ∃ v, e = .returned v ∧ Rows.wireApartSpec.post enc Tryd.prog Tryd.f6 false true false false W args v W' := by
  have hW' := hW
  obtain ⟨p, q, hA0, hV, rfl, hfz, hnd⟩ := hW
  have hA : DataW.TrodAll enc Tryd.prog W 0 (fun _ => true) true Tryd.f6.params.toList args.toList ds p := hA0
  rw [Tryd.params6] at hA hval
  obtain ⟨v0, v1, d0, d1, p0, p1, rfl, rfl, rfl, h0, h1⟩ := trodAll_two hA
  obtain ⟨rfl, rfl⟩ := trodVars_none hV
  obtain ⟨ka, ca, sqa, ita, sda, pra, qa, ida, hva, _, rfl, _⟩ := open_ask (hval 0 23 v0 rfl rfl) h0
  obtain ⟨kb, cb, sqb, itb, sdb, prb, qb, idb, hvb, _, rfl, _⟩ := open_ask (hval 1 23 v1 rfl rfl) h1
  subst hva hvb
  clear hA0
  obtain ⟨a1, a2, a3, c1, c2, c3⟩ := errs hL
  refine (apart_any ka ca sqa ita sda pra qa ida kb cb sqb itb sdb prb qb idb 104 104 104 _ _ _ W c1 c2 c3).mono fun e W' ⟨he, hb⟩ => ?_
  subst he
  refine ⟨_, rfl, _, _, _, [], [], [], hW', ?_, ?_, ?_, hb.frame _, fun h => by cases h⟩
  · exact trodAll_mk1 (shut_bool Tryd.underlying4 true)
  · exact trodAll_mk2 (ask_again h0 hb) (ask_again h1 hb)
  · rfl

theorem door_met (os : Os) (args : Array Value) : laidMetH Tryd.prog Rows.wireApartRow.laid ((World.doorLaid Tryd.prog 400 os).forCall (fun _ _ => 0) ⟨#[], args, []⟩).memory :=
  laidMetH_of_parts3 (fuel := 8) (laidMet_of_run' 8 (by kernel_rfl) (by kernel_rfl)) (by kernel_rfl) (by kernel_rfl)

set_option maxRecDepth 100000 in
theorem lifted (os : Os) (started : os.Started) (H : Type) (enc : TypeId × Value → H) :
    ReturnsInHanded {} Tryd.checked os 6 .any (fun w args => (Rows.wireApartSpec.pre enc Tryd.prog Tryd.f6 [] false w args ∧ laidMetH Tryd.prog Rows.wireApartRow.laid w) ∧ sizedMet enc Tryd.prog Tryd.f6 (OpenSpec.ofChange Rows.wireApartSpec) false w args)
      (Rows.wireApartSpec.post enc Tryd.prog Tryd.f6 false true false false) := by
  refine returnsInHanded_of_change_and (C := Tryd.checked) (X := fun w _ => laidMetH Tryd.prog Rows.wireApartRow.laid w) (fun _ _ _ hh h => h.of_heap hh) own started (by kernel_rfl) Tryd.func6
    (ChangeSpec.witness_shaped (enc := enc) (C := Tryd.checked) (os := os) (X := fun w _ => laidMetH Tryd.prog Rows.wireApartRow.laid w) false (World.doorLaid Tryd.prog 400 os) #[askV 0 0 0 0 0 0 0 0, askV 0 0 0 0 0 0 0 0] 8 rfl (World.shaped_of_RefB (by kernel_rfl) (by kernel_rfl)) (by kernel_rfl) (by kernel_rfl) (by kernel_rfl) (door_met os _)) ?_
  intro W base args ds gs before hval hW _ _ hL _
  exact contract H enc W base args ds gs before hval hW hL

theorem said : Rows.WireApartSaid :=
  OpenClaim.holds_of_wide 6 Tryd.f6 rfl rfl rfl rfl rfl rfl rfl ⟨rfl, rfl, rfl, rfl, rfl⟩ rfl rfl rfl rfl rfl (by kernel_rfl) Tryd.func6 (by kernel_rfl)
    (of_decide_eq_true (by kernel_rfl)) (by unfold Func.isWrapper; first | (rw [if_pos (by decide +kernel)]; kernel_rfl) | (rw [if_neg (by decide +kernel)]; exact ⟨rfl, rfl⟩))
    (fun os started H enc _ => lifted os started H enc)

theorem plain (f : FuncId) (fn : Func) (hf : Tryd.pinned.checked.prog.funcNamed "gavelhouse/gavelhouselaw1.WireApart" = some f) (hfn : Tryd.pinned.checked.prog.funcs[f]? = some fn) :
    true = Tryd.pinned.checked.prog.looks [] ∧ ∀ (j : Nat) t, fn.params[j]? = some t → Tryd.pinned.checked.prog.wantsStandIn t = false := by
  obtain rfl : f = 6 := Option.some.inj ((show Tryd.prog.funcNamed "gavelhouse/gavelhouselaw1.WireApart" = some 6 by kernel_rfl).symm.trans hf) |>.symm
  obtain rfl : fn = Tryd.f6 := (Option.some.inj (Tryd.func6.symm.trans hfn)).symm
  refine ⟨by kernel_rfl, fun j t ht => ?_⟩
  rw [Tryd.params6] at ht
  obtain rfl : t = 23 := by simpa using Array.mem_of_getElem? ht
  exact (show Tryd.prog.wantsStandIn 23 = false by kernel_rfl)

end Apart
theorem wireApart_card : Rows.WireApartCardSaid :=
  Claim7.holds_tied_plain_at .later [] _ _ _ _ Apart.said (fun _ h => by cases h) (by kernel_rfl) (fun _ h => by cases h) wireApart_row_tie rfl ⟨rfl, rfl⟩ (by kernel_rfl) rfl Apart.plain (by kernel_rfl)
#print axioms wireApart_card
end Go.Proofs.YtibdemdhbpkeeaaDoor
