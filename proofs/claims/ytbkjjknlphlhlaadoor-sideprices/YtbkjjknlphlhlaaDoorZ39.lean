/- One call of 'each': words, acts on the group, quiet steps, whoever says or does them. -/
import Derived.Test.YtbkjjknlphlhlaaDoorZ38
namespace Go.Proofs.YtbkjjknlphlhlaaDoor
namespace Mc
open Go.Conc Go.ConcN Hd Sim Wy Ev Ms
open Go.ConcR (KK WgAt stA smA mk g_of_ofEvents)
set_option maxRecDepth 100000

section
variable {P : Program} {E : Env} {F : Fam}
theorem All.who {gs : Array Goroutine} {w : World} {t : Trace} {own : Nat → Nat} {x : Nat → Pt} {τ : Nat → Tag} {cl : Bool} {st sm : Int} (h : All P E F gs w t own x τ cl st sm) {i : Nat} (hi : i < gs.size) (hq : ∀ n, τ i ≠ .quit n) : (i = 0 ∨ E.b0 ≤ i) ∧ (i == 0) = isMain (τ i) := by
  refine ⟨?_, ?_⟩
  · by_cases hz : i = 0
    · exact .inl hz
    · refine .inr (Nat.le_of_not_lt fun hlt2 => ?_)
      obtain ⟨n, hn⟩ := h.inv.old i hz hlt2
      exact hq n hn
  · have := h.inv.mn i hi
    cases hm : isMain (τ i) with
    | true => simpa using this.1 hm
    | false =>
      have hne : i ≠ 0 := fun e => by have := this.2 e; rw [hm] at this; cases this
      simpa using hne
/-- What comes of a step: nearer, in all. -/
theorem out_of {gs gs' : Array Goroutine} {w w' : World} {sl : Option (Nat × Nat)} {t : Trace} {own' : Nat → Nat} {x x2 : Nat → Pt} {τ : Nat → Tag} {cl : Bool} {st' sm' : Int} {i : Nat} {τ' : Tag} {wk : Bool} {ops : Array MemOp} {C C0 : Nat} {c1 c2 : Nat}
    (hrun : runT P (crowd gs w sl) i = (.next (crowd gs' w' sl), ops)) (hsz : gs'.size = gs.size) (hAll : All P E F gs' w' (t ++ ops) own' x2 (nxtT τ i τ' wk cl) cl st' sm')
    (hC : C + c1 = C0 + c2) (hw : wei E (nxtT τ i τ' wk cl) gs.size + wT E.n (τ i) + ct3 (τ 0) C0 = wei E τ gs.size + wT E.n τ' + ct3 (if 0 = i then τ' else τ 0) C)
    (hlt : C + c1 = C0 + c2 → wT E.n τ' + ct3 (if 0 = i then τ' else τ 0) C < wT E.n (τ i) + ct3 (τ 0) C0) : Out P E F gs w sl t x τ i :=
  ⟨_, _, hrun, .inr ⟨_, _, _, _, _, _, _, _, _, rfl, hAll, .inl (by rw [hsz]; have := hlt hC; omega)⟩⟩

theorem deafok_of {t' : Trace} {i : Nat} {τ' : Tag} {g' : Goroutine} (h : Deaf t' i = deafT τ') (hq : ∀ n, τ' ≠ .quit n) : DeafOk P t' i τ' g' := by
  cases τ' <;> first | exact h | exact absurd rfl (hq _)
theorem deaf_of {t' : Trace} {i : Nat} {τ' : Tag} {g' : Goroutine} (h : DeafOk P t' i τ' g') (hq : ∀ n, τ' ≠ .quit n) : Deaf t' i = deafT τ' := by
  cases τ' <;> first | exact h | exact absurd rfl (hq _)

/-- ████ An act on the group. ████ -/
theorem All.acts (hE : E.Ok) (hF : F.Ok P E) {gs : Array Goroutine} {w : World} {t : Trace} {own : Nat → Nat} {x : Nat → Pt} {τ : Nat → Tag} {cl : Bool} {st sm st' sm' : Int} (h : All P E F gs w t own x τ cl st sm) {sl : Option (Nat × Nat)} {i : Nat} {g : Goroutine} (hi : gs[i]? = some g) (hq : ∀ n, τ i ≠ .quit n)
    {main : Bool} (hm : main = isMain (τ i)) {K : GW} (ha : Acts P E main g w st' sm' K) {τ' : Tag} (hK : ∀ g' w', Kn E w' → K g' w' → ∃ x' : Pt, (∀ b, x'.A b → E.Base b) ∧ (∀ b, ¬ x'.M b) ∧ Sit P E F τ' x' g' w')
    (hd : ∀ t' g' w', Deaf t' i = deafT (τ i) → K g' w' → DeafOk P t' i τ' g') (hrel : relT τ' = true → relT (τ i) = true ∧ deafT (τ i) = 1) (hsame : Same E.n (τ i) τ')
    (hgrp : ∀ C L G, C + cT (τ i) = S cT τ gs.size + cT τ' → L + lT (τ i) = S lT τ gs.size + lT τ' → G + gT (τ i) = S gT τ gs.size + gT τ' → Grp (if 0 = i then τ' else τ 0) C L G st' sm')
    (hcb : ∀ C, C + cT (τ i) = S cT τ gs.size + cT τ' → Cb F.kw (if 0 = i then τ' else τ 0) C)
    (hlt : ∀ C, C + cT (τ i) = S cT τ gs.size + cT τ' → wT E.n τ' + ct3 (if 0 = i then τ' else τ 0) C < wT E.n (τ i) + ct3 (τ 0) (S cT τ gs.size))
    (hnb : sm' = 0 ∨ (0 ≠ i ∧ ∀ g' w', K g' w' → wakes P g g' = true)) : Out P E F gs w sl t x τ i := by
  obtain ⟨g', w', es, hstep, hturn, hwg, ⟨hev, hdf, hrl⟩, hk⟩ := ha
  have hltS : i < gs.size := (Array.getElem?_eq_some_iff.1 hi).1
  obtain ⟨h0, hmain⟩ := h.who hltS hq
  have hkn := h.inv.kn.turn hE hturn hwg
  obtain ⟨x', hA, hM, hs⟩ := hK g' w' hkn hk
  have hd0 := deaf_of (h.inv.deaf i g hi) hq
  have hd1 : Deaf (t ++ MemOp.ofEvents i g.frame.fn g.frame.place es) i = deafT (τ i) := by rw [Deaf_own, hdf]; exact hd0
  have hes : ∀ e ∈ es, EvOk E i (grew own i w.heap.size w'.heap.size) w'.heap.size e := fun e he => by
    rcases hev e he with ⟨a, wr, rfl, ha⟩ | rfl | rfl
    · exact .wg a wr ha
    · exact .dis
    · exact .ena
  obtain ⟨hAll, C, hC, hwt⟩ := h.step hE hF hi h0 (.of_turn hturn) hkn hes (hturn.aside _ (Ne.symm hE.wn)) (hturn.aside _ (Ne.symm hE.wd)) (x' := x') (fun b hb => .inl (hA b hb)) (fun b hb => absurd hb (hM b)) hs (hd _ _ _ hd1 hk)
    (fun hb hr => by
      obtain ⟨h1, h2⟩ := hrel hr
      obtain ⟨r, hr⟩ := h.inv.rel i hb hltS h1
      exact ⟨r, hr.appOwn _ _ _ fun j e he => by rw [hd0, h2]; exact hrl j e he⟩) hwg hsame hgrp hcb
    (fun a b => by
      rcases hnb with e | ⟨h1, h2⟩
      · exact ⟨fun _ _ _ => e, fun _ _ => e⟩
      · exact ⟨fun _ _ hw => by rw [h2 g' w' hk] at hw; (cases hw), fun e => absurd e h1⟩)
  exact out_of (runT_crowd_go hi (by rw [hmain, ← hm]; exact hstep)) (by simp) hAll hC hwt (hlt C)
/-- ████ A word. ████ -/
theorem All.says (hE : E.Ok) (hF : F.Ok P E) {gs : Array Goroutine} {w : World} {t : Trace} {own : Nat → Nat} {x : Nat → Pt} {τ : Nat → Tag} {cl : Bool} {st sm : Int} (h : All P E F gs w t own x τ cl st sm) {sl : Option (Nat × Nat)} {i : Nat} {g : Goroutine} (hi : gs[i]? = some g) (hq : ∀ n, τ i ≠ .quit n)
    {main : Bool} (hm : main = isMain (τ i)) {m : Mark} (hmk : m = .disable ∨ m = .enable ∨ m = .releaseMerge (stA E.Wg)) {K : GW} (ha : Says P E main m g K) {τ' : Tag} (hq' : ∀ n, τ' ≠ .quit n) (hqb : ∀ a b, τ' ≠ .wsB a b) (hK : ∀ g' w', Kn E w' → K g' w' → ∃ x' : Pt, (∀ b, x'.A b → E.Base b) ∧ (∀ b, ¬ x'.M b) ∧ Sit P E F τ' x' g' w')
    (hd : deafBehind (deafT (τ i)) #[Go.ConcR.mk m] = deafT τ') (hrel : relT τ' = true → relT (τ i) = true ∨ (m = .releaseMerge (stA E.Wg) ∧ deafT (τ i) = 0)) (hsame : Same E.n (τ i) τ')
    (hgrp : ∀ C L G, C + cT (τ i) = S cT τ gs.size + cT τ' → L + lT (τ i) = S lT τ gs.size + lT τ' → G + gT (τ i) = S gT τ gs.size + gT τ' → Grp (if 0 = i then τ' else τ 0) C L G st sm)
    (hcb : ∀ C, C + cT (τ i) = S cT τ gs.size + cT τ' → Cb F.kw (if 0 = i then τ' else τ 0) C)
    (hlt : ∀ C, C + cT (τ i) = S cT τ gs.size + cT τ' → wT E.n τ' + ct3 (if 0 = i then τ' else τ 0) C < wT E.n (τ i) + ct3 (τ 0) (S cT τ gs.size)) : Out P E F gs w sl t x τ i := by
  obtain ⟨_, g', hstep, hk⟩ := ha
  have hltS : i < gs.size := (Array.getElem?_eq_some_iff.1 hi).1
  obtain ⟨h0, hmain⟩ := h.who hltS hq
  have hkn := h.inv.kn
  obtain ⟨x', hA, hM, hs⟩ := hK g' w hkn (hk w hkn)
  have hd0 := deaf_of (h.inv.deaf i g hi) hq
  have hd1 : Deaf (t ++ MemOp.ofEvents i g.frame.fn g.frame.place #[Go.ConcR.mk m]) i = deafT τ' := by rw [Deaf_own, hd0]; exact hd
  have hes : ∀ e ∈ (#[Go.ConcR.mk m] : Array Event), EvOk E i (grew own i w.heap.size w.heap.size) w.heap.size e := fun e he => by
    rw [Array.mem_singleton] at he
    subst he
    rcases hmk with rfl | rfl | rfl
    · exact .dis
    · exact .ena
    · exact .rel
  obtain ⟨hAll, C, hC, hwt⟩ := h.step hE hF hi h0 (.refl _ _) hkn hes rfl rfl (x' := x') (fun b hb => .inl (hA b hb)) (fun b hb => absurd hb (hM b)) hs (deafok_of hd1 hq')
    (fun hb hr => by
      rcases hrel hr with h1 | ⟨h1, h2⟩
      · obtain ⟨r, hr⟩ := h.inv.rel i hb hltS h1
        refine ⟨r, hr.appOwn _ _ _ fun j e he => .inl ?_⟩
        have : e = Go.ConcR.mk m := by
          have := Array.mem_of_getElem? he
          simpa using this
        subst this
        rcases hmk with rfl | rfl | rfl <;> rfl
      · subst h1
        exact ⟨_, RelBy.new (hd0.trans h2) _ _⟩) h.wg hsame hgrp hcb
    (fun a b => ⟨fun _ e _ => h.nb a b e, fun _ e => absurd e (hqb a b)⟩)
  exact out_of (runT_crowd_go hi (by rw [hmain, ← hm]; exact hstep w hkn)) (by simp) hAll hC hwt (hlt C)
/-- ████ A quiet step. ████ -/
theorem All.quiet (hE : E.Ok) (hF : F.Ok P E) {gs : Array Goroutine} {w : World} {t : Trace} {own : Nat → Nat} {x : Nat → Pt} {τ : Nat → Tag} {cl : Bool} {st sm : Int} (h : All P E F gs w t own x τ cl st sm) {sl : Option (Nat × Nat)} {i : Nat} {g g' : Goroutine} (hi : gs[i]? = some g) (hq : ∀ n, τ i ≠ .quit n)
    {main : Bool} (hm : main = isMain (τ i)) (hstep : stepG P main g w = .go g' w #[]) {τ' : Tag} (hq' : ∀ n, τ' ≠ .quit n) (hqb : ∀ a b, τ' ≠ .wsB a b) {x' : Pt} (hA : ∀ b, x'.A b → E.Base b ∨ (x i).A b) (hM : ∀ b, x'.M b → (x i).M b) (hs : Sit P E F τ' x' g' w)
    (hd : deafT (τ i) = deafT τ') (hrel : relT τ' = true → relT (τ i) = true) (hsame : Same E.n (τ i) τ') (hc : cT τ' = cT (τ i)) (hl : lT τ' = lT (τ i)) (hg : gT τ' = gT (τ i))
    (hgrp : i = 0 → ∀ C L G, Grp (τ 0) C L G st sm → Grp τ' C L G st sm) (hcb : i = 0 → ∀ C, Cb F.kw (τ 0) C → Cb F.kw τ' C)
    (hlt : ∀ C, wT E.n τ' + ct3 (if 0 = i then τ' else τ 0) C < wT E.n (τ i) + ct3 (τ 0) C) : Out P E F gs w sl t x τ i := by
  have hltS : i < gs.size := (Array.getElem?_eq_some_iff.1 hi).1
  obtain ⟨h0, hmain⟩ := h.who hltS hq
  have hkn := h.inv.kn
  have hd0 := deaf_of (h.inv.deaf i g hi) hq
  have e0 : t ++ MemOp.ofEvents i g.frame.fn g.frame.place #[] = t := by simp [ofEvents_eq]
  obtain ⟨hAll, C, hC, hwt⟩ := h.step hE hF hi h0 (.refl _ _) hkn (es := #[]) (fun e he => by simp at he) rfl rfl (x' := x') (fun b hb => (hA b hb).imp id .inl) (fun b hb => .inl (hM b hb)) hs (deafok_of (by rw [e0]; exact hd0.trans hd) hq')
    (fun hb hr => by rw [e0]; exact h.inv.rel i hb hltS (hrel hr)) h.wg hsame
    (fun C L G h1 h2 h3 => by
      obtain rfl : C = S cT τ gs.size := by omega
      obtain rfl : L = S lT τ gs.size := by omega
      obtain rfl : G = S gT τ gs.size := by omega
      split
      · next e => exact hgrp e.symm _ _ _ h.grp
      · exact h.grp)
    (fun C h1 => by
      obtain rfl : C = S cT τ gs.size := by omega
      split
      · next e => exact hcb e.symm _ h.cb
      · exact h.cb)
    (fun a b => ⟨fun _ e _ => h.nb a b e, fun _ e => absurd e (hqb a b)⟩)
  refine out_of (runT_crowd_go hi (by rw [hmain, ← hm]; exact hstep)) (by simp) hAll hC hwt fun h1 => ?_
  obtain rfl : C = S cT τ gs.size := by omega
  exact hlt _
end
end Mc
end Go.Proofs.YtbkjjknlphlhlaaDoor
