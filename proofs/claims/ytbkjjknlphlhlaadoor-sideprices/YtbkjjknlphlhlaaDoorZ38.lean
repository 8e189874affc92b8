/- One call of 'each': an own step, the close aside: all of it is kept. -/
import Derived.Test.YtbkjjknlphlhlaaDoorZ37
namespace Go.Proofs.YtbkjjknlphlhlaaDoor
namespace Mc
open Go.Conc Go.ConcN Hd Sim Wy Ev
open Go.ConcR (KK WgAt stA smA mk g_of_ofEvents)
set_option maxRecDepth 100000

section
variable {P : Program} {E : Env} {F : Fam}
theorem wk_selP {wake cl : Bool} {τ : Tag} {a b c} (h : wk1 wake cl τ = .selP a b c) : τ = .selP a b c := by
  cases τ with
  | wsB gl val => cases wake <;> cases h
  | rcP => cases wake <;> cases cl <;> cases h
  | _ => first | exact h | (cases h)
theorem wk_sel {wake cl : Bool} {τ : Tag} {a b c} (h : wk1 wake cl τ = .sel a b c) : τ = .sel a b c := by
  cases τ with
  | wsB gl val => cases wake <;> cases h
  | rcP => cases wake <;> cases cl <;> cases h
  | _ => first | exact h | (cases h)
theorem wk_snP {wake cl : Bool} {τ : Tag} {a b c} (h : wk1 wake cl τ = .snP a b c) : τ = .snP a b c := by
  cases τ with
  | wsB gl val => cases wake <;> cases h
  | rcP => cases wake <;> cases cl <;> cases h
  | _ => first | exact h | (cases h)
theorem wk_rcP {wake cl : Bool} {τ : Tag} (h : wk1 wake cl τ = .rcP) : τ = .rcP := by
  cases τ with
  | wsB gl val => cases wake <;> cases h
  | rcP => rfl
  | _ => first | exact h | (cases h)
theorem wk_early (wake : Bool) (τ : Tag) : earlyT (wk1 wake false τ) = earlyT τ := by cases τ <;> cases wake <;> rfl
theorem wT_wk' (n : Nat) (wake cl : Bool) {τ : Tag} (h : cl = true → τ ≠ .rcP) : wT n (wk1 wake cl τ) = wT n τ := by
  cases cl with
  | false => exact wT_wk n wake τ
  | true =>
    cases τ with
    | rcP => exact absurd rfl (h rfl)
    | _ => cases wake <;> rfl

theorem frz_step (hE : E.Ok) {x : Nat → Pt} {w w' : World} {i : Nat} {x' : Pt} (mv : Moved E (x i).M w w') (hM : ∀ b, x'.M b → (x i).M b ∨ (w.heap.size ≤ b ∧ b < w'.heap.size)) (hl : E.Low ≤ w.heap.size) {b : Nat} (hb : Frz E x w b) (hin : ∀ b, (x i).M b → E.Low ≤ b) :
    w'.heap[b]? = w.heap[b]? ∧ Frz E (upd x i x') w' b := by
  rcases hb with hb | ⟨h1, h2, h3⟩
  · obtain ⟨b1, b2, b3, b4, _⟩ := hE.base b hb
    exact ⟨mv.aside b (by omega) (fun hm => by have := hin b hm; omega) b2 b3 b4, .inl hb⟩
  · have h4 := hE.wg; have h5 := hE.cn; have h6 := hE.cd
    refine ⟨mv.aside b h2 (h3 i) (by omega) (by omega) (by omega), .inr ⟨h1, Nat.lt_of_lt_of_le h2 mv.size, fun k hk => ?_⟩⟩
    by_cases hki : k = i
    · subst hki
      rw [upd_same] at hk
      rcases hM b hk with hk | hk
      · exact h3 k hk
      · omega
    · rw [upd_ne x x' hki] at hk
      exact h3 k hk
theorem res_step (hE : E.Ok) {x : Nat → Pt} {w w' : World} {i : Nat} {x' : Pt} (mv : Moved E (x i).M w w') (hM : ∀ b, x'.M b → (x i).M b ∨ (w.heap.size ≤ b ∧ b < w'.heap.size)) (hl : E.Low ≤ w.heap.size) (hin : ∀ b, (x i).M b → E.Low ≤ b) {a : Nat} {v e : Value}
    (h : Res E x w a v e) : Res E (upd x i x') w' a v e := by
  obtain ⟨C, h1, h2⟩ := h
  exact ⟨C, fun b hb => (frz_step hE mv hM hl (h1 b hb) hin).2, hE.rc C a v e w w' h2 fun b hb => (frz_step hE mv hM hl (h1 b hb) hin).1⟩

/-- Of a step that is none of a task's. -/
structure Same (n : Nat) (σ τ' : Tag) : Prop where
  busy : busy τ' = busy σ
  nx : nxT n τ' = nxT n σ
  gl : glT τ' = glT σ
  val : valT τ' = valT σ
  post : postT τ' = postT σ
  full : fullT τ' = fullT σ
  main : isMain τ' = isMain σ
  early : earlyT σ = true → earlyT τ' = true
  noSelP : ∀ a b c, τ' ≠ .selP a b c
  noSnP : ∀ a b c, τ' ≠ .snP a b c
  noRcP : τ' ≠ .rcP
  sel : ∀ a b c, τ' = .sel a b c → σ = .sel a b c
  ln : ∀ k, (τ' = .ds k ∨ τ' = .sb k ∨ τ' = .l1 k ∨ τ' = .l2 k ∨ τ' = .l3 k) → k ≤ 150

/-- ████ ████ -/
theorem All.stepT (hE : E.Ok) (hF : F.Ok P E) {gs : Array Goroutine} {w w' : World} {t : Trace} {own : Nat → Nat} {x : Nat → Pt} {τ : Nat → Tag} {cl : Bool} {st sm st' sm' : Int} (h : All P E F gs w t own x τ cl st sm) {i : Nat} {g g' : Goroutine} {es : Array Event} {x' : Pt} {τ' : Tag}
    (hi : gs[i]? = some g) (h0 : i = 0 ∨ E.b0 ≤ i ∨ ∃ n, τ' = .quit n) (mv : Moved E (x i).M w w') (hk : Kn E w') (htr : Tr E (grew own i w.heap.size w'.heap.size) w'.heap.size (t ++ MemOp.ofEvents i g.frame.fn g.frame.place es) (gs.size - 1))
    (hcn : w'.heap[E.cn]? = w.heap[E.cn]?) (hcd : w'.heap[E.cd]? = w.heap[E.cd]?)
    (hA : ∀ b, x'.A b → E.Base b ∨ (x i).A b ∨ (w.heap.size ≤ b ∧ b < w'.heap.size)) (hM : ∀ b, x'.M b → (x i).M b ∨ (w.heap.size ≤ b ∧ b < w'.heap.size))
    (hs : Sit P E F τ' x' g' w') (hd : DeafOk P (t ++ MemOp.ofEvents i g.frame.fn g.frame.place es) i τ' g') (hr : E.b0 ≤ i → relT τ' = true → ∃ r, RelBy (stA E.Wg) (t ++ MemOp.ofEvents i g.frame.fn g.frame.place es) i r)
    (hwg : WgAt 83 E.Wg w' st' sm') (hsame : Same E.n (τ i) τ')
    (hgrp : ∀ C L G, C + cT (τ i) = S cT τ gs.size + cT τ' → L + lT (τ i) = S lT τ gs.size + lT τ' → G + gT (τ i) = S gT τ gs.size + gT τ' → Grp (if 0 = i then τ' else τ 0) C L G st' sm')
    (hcb : ∀ C, C + cT (τ i) = S cT τ gs.size + cT τ' → Cb F.kw (if 0 = i then τ' else τ 0) C)
    (hnb : ∀ a b, (0 ≠ i → τ 0 = .wsB a b → wakes P g g' = false → sm' = 0) ∧ (0 = i → τ' = .wsB a b → sm' = 0)) :
    All P E F ((gs.map (woken P g g' w')).setIfInBounds i g') w' (t ++ MemOp.ofEvents i g.frame.fn g.frame.place es) (grew own i w.heap.size w'.heap.size) (upd x i x') (nxtT τ i τ' (wakes P g g') cl) cl st' sm' ∧
    ∃ C, C + cT (τ i) = S cT τ gs.size + cT τ' ∧ wei E (nxtT τ i τ' (wakes P g g') cl) gs.size + wT E.n (τ i) + ct3 (τ 0) (S cT τ gs.size) = wei E τ gs.size + wT E.n τ' + ct3 (if 0 = i then τ' else τ 0) C := by
  have hlt : i < gs.size := (Array.getElem?_eq_some_iff.1 hi).1
  have hsz : ((gs.map (woken P g g' w')).setIfInBounds i g').size = gs.size := by simp
  have hH := h.inv
  have hop : cl = true → ∀ a b c, (if 0 = i then τ' else τ 0) ≠ .selP a b c := fun hc a b c => by
    by_cases h0i : 0 = i
    · rw [if_pos h0i]; exact hsame.noSelP a b c
    · rw [if_neg h0i]; exact hH.op hc a b c
  have hI := hH.goT hE hF hi h0 mv hk htr (cl' := cl) (by rw [hcn]; exact hH.cn) (by rw [hcd]; exact hH.cd) hA hM hs hd hr hsame.main hop
  have hin : ∀ b, (x i).M b → E.Low ≤ b := fun b hb => (hH.inM i b hb).1
  have e0 : nxtT τ i τ' (wakes P g g') cl 0 = if 0 = i then τ' else wk1 (wakes P g g') cl (τ 0) := rfl
  have at0 : ∀ {β : Type} (φ : Tag → β), (∀ a b τ, φ (wk1 a b τ) = φ τ) → φ (nxtT τ i τ' (wakes P g g') cl 0) = φ (if 0 = i then τ' else τ 0) := fun φ hφ => by
    rw [e0]; split
    · rfl
    · exact hφ _ _ _
  have sm0 : ∀ {β : Type} (φ : Tag → β), (∀ a b τ, φ (wk1 a b τ) = φ τ) → φ τ' = φ (τ i) → φ (nxtT τ i τ' (wakes P g g') cl 0) = φ (τ 0) := fun φ hφ hs => by
    rw [at0 φ hφ]; split
    · next e => subst e; exact hs
    · rfl
  have busyK : ∀ k, busy (nxtT τ i τ' (wakes P g g') cl k) = busy (τ k) := fun k => by
    show busy (if k = i then τ' else wk1 (wakes P g g') cl (τ k)) = _
    split
    · next e => subst e; exact hsame.busy
    · exact busy_wk _ _ _
  have sc := S_nxt cT_wk (τ := τ) hlt τ' (wakes P g g') cl
  have sl := S_nxt lT_wk (τ := τ) hlt τ' (wakes P g g') cl
  have sg := S_nxt gT_wk (τ := τ) hlt τ' (wakes P g g') cl
  have hD := h.dat
  have nx := sm0 (nxT E.n) (fun a b τ => nxT_wk E.n a b τ) hsame.nx
  have gl := sm0 glT glT_wk hsame.gl
  have vl := sm0 valT valT_wk hsame.val
  have po := sm0 postT postT_wk hsame.post
  have fu := sm0 fullT fullT_wk hsame.full
  have bs : S bT (nxtT τ i τ' (wakes P g g') cl) gs.size = S bT τ gs.size := sumTo_congr fun k _ => by unfold bT; rw [busyK k]
  have isK : ∀ k, k ≠ i → nxtT τ i τ' (wakes P g g') cl k = wk1 (wakes P g g') cl (τ k) := fun k hk => if_neg hk
  have isI : nxtT τ i τ' (wakes P g g') cl i = τ' := if_pos rfl
  have selPK : ∀ a b c, nxtT τ i τ' (wakes P g g') cl 0 = .selP a b c → τ 0 = .selP a b c := fun a b c hh => by
    by_cases h0i : 0 = i
    · rw [h0i, isI] at hh; exact absurd hh (hsame.noSelP a b c)
    · rw [isK 0 h0i] at hh; exact wk_selP hh
  refine ⟨⟨hI, hwg, ?_, ?_, ⟨?_, ?_, fun k hk a ha => ?_, fun a ha => ?_, fun a b c hh => ?_, fun hf => ?_, fun hp k hb hk => ?_, fun hp k hk hh => ?_, ?_, fun a b c hh k hk p v e hq => ?_, fun a b c hh ha k hk hq => ?_⟩, fun k a v e hk hh => ?_, fun a ha => ?_, fun hp => ?_, fun a b hh => ?_, fun k hk n hn => ?_⟩, ?_⟩
  · rw [hsz, show Grp (nxtT τ i τ' (wakes P g g') cl 0) = Grp (if 0 = i then τ' else τ 0) from at0 Grp (fun a b τ => by funext C L G s1 s2; exact Grp_wk a b τ C L G s1 s2)]
    exact hgrp _ _ _ sc sl sg
  · rw [hsz, show Cb F.kw (nxtT τ i τ' (wakes P g g') cl 0) = Cb F.kw (if 0 = i then τ' else τ 0) from at0 (Cb F.kw) (fun a b τ => by funext C; exact Cb_wk a b τ F.kw C)]
    exact hcb _ sc
  · rw [hsz, bs, nx, gl]; exact hD.sum
  · rw [nx]; exact hD.le
  · rw [busyK] at ha; rw [nx]; exact hD.lt k (hsz ▸ hk) a ha
  · rw [nx] at ha; rw [gl]
    refine (hD.cover a ha).imp id ?_
    rintro ⟨k, hk, hb⟩
    exact ⟨k, hsz ▸ hk, by rw [busyK]; exact hb⟩
  · refine hD.selL a b c ?_
    rcases hh with hh | hh
    · refine .inl ?_
      by_cases h0i : 0 = i
      · rw [h0i, isI] at hh; rw [h0i]; exact hsame.sel a b c hh
      · rw [isK 0 h0i] at hh; exact wk_sel hh
    · exact .inr (selPK a b c hh)
  · rw [fu] at hf; rw [gl]; exact hD.full hf
  · rw [po] at hp
    have hcl : cl = false := hD.cl.symm.trans hp
    have hek := hD.early hp k hb (hsz ▸ hk)
    by_cases hki : k = i
    · subst hki; rw [isI]; exact hsame.early hek
    · rw [isK k hki, hcl, wk_early]; exact hek
  · rw [po] at hp
    by_cases hki : k = i
    · subst hki; rw [isI] at hh; exact hsame.noRcP hh
    · rw [isK k hki] at hh; exact hD.late hp k (hsz ▸ hk) (wk_rcP hh)
  · rw [po]; exact hD.cl
  · by_cases hki : k = i
    · subst hki; rw [isI] at hq; exact hsame.noSnP p v e hq
    · rw [isK k hki] at hq; exact hD.noS a b c (selPK a b c hh) k (hsz ▸ hk) p v e (wk_snP hq)
  · by_cases hki : k = i
    · subst hki; rw [isI] at hq; exact hsame.noRcP hq
    · rw [isK k hki] at hq; exact hD.noR a b c (selPK a b c hh) ha k (hsz ▸ hk) (wk_rcP hq)
  · by_cases hki : k = i
    · subst hki; rw [isI] at hh; exact absurd hh (hsame.noSnP a v e)
    · rw [isK k hki] at hh
      exact res_step hE mv hM hH.kn.low hin (h.snd k a v e (hsz ▸ hk) (wk_snP hh))
  · rw [gl] at ha; rw [vl]
    exact res_step hE mv hM hH.kn.low hin (h.res a ha)
  · rw [po] at hp; rw [vl, gl]
    obtain ⟨A, h1, h2⟩ := h.lst hp
    exact ⟨A, hF.lst _ _ A w w' h1 ⟨fun b hb => (frz_step hE mv hM hH.kn.low (h2 b hb) hin).1, mv.size, mv.tape, mv.drawn, mv.os, mv.output⟩, fun b hb => (frz_step hE mv hM hH.kn.low (h2 b hb) hin).2⟩
  · by_cases h0i : 0 = i
    · rw [h0i, isI] at hh; exact (hnb a b).2 h0i hh
    · rw [isK 0 h0i] at hh
      cases hτ : τ 0 with
      | wsB a' b' =>
        rw [hτ] at hh
        cases hw : wakes P g g' with
        | false => rw [hw] at hh; cases hh; exact (hnb a b).1 h0i hτ hw
        | true => rw [hw] at hh; cases hh
      | rcP => rw [hτ] at hh; cases hw : wakes P g g' <;> rw [hw] at hh <;> cases cl <;> cases hh
      | _ => rw [hτ] at hh; cases hh
  · by_cases hki : k = i
    · subst hki; rw [isI] at hn; exact hsame.ln n hn
    · rw [isK k hki] at hn
      refine h.ln k (hsz ▸ hk) n ?_
      cases hτ : τ k with
      | wsB gl val => rw [hτ] at hn; cases hw : wakes P g g' <;> rw [hw] at hn <;> rcases hn with hn | hn | hn | hn | hn <;> cases hn
      | rcP => rw [hτ] at hn; cases hw : wakes P g g' <;> rw [hw] at hn <;> cases cl <;> rcases hn with hn | hn | hn | hn | hn <;> cases hn
      | _ => rw [hτ] at hn; exact hn
  · refine ⟨_, sc, ?_⟩
    have hw : S (wT E.n) (nxtT τ i τ' (wakes P g g') cl) gs.size + wT E.n (τ i) = S (wT E.n) τ gs.size + wT E.n τ' := by
      have e : S (wT E.n) (nxtT τ i τ' (wakes P g g') cl) gs.size = sumTo gs.size fun k => wT E.n (upd τ i τ' k) := sumTo_congr fun k hk => by
        by_cases hki : k = i
        · subst hki; rw [upd_same, isI]
        · rw [upd_ne τ τ' hki, isK k hki]
          exact wT_wk' _ _ _ fun hc => hD.late (hD.cl.trans hc) k hk
      rw [e]
      exact sumTo_upd τ τ' (wT E.n) hlt
    have e3 : ct3 (nxtT τ i τ' (wakes P g g') cl 0) (S cT (nxtT τ i τ' (wakes P g g') cl) gs.size) = ct3 (if 0 = i then τ' else τ 0) (S cT (nxtT τ i τ' (wakes P g g') cl) gs.size) := by
      rw [show ct3 (nxtT τ i τ' (wakes P g g') cl 0) = ct3 (if 0 = i then τ' else τ 0) from at0 ct3 (fun a b τ => by funext C; exact ct3_wk a b τ C)]
    unfold wei
    rw [e3]
    omega
theorem All.step (hE : E.Ok) (hF : F.Ok P E) {gs : Array Goroutine} {w w' : World} {t : Trace} {own : Nat → Nat} {x : Nat → Pt} {τ : Nat → Tag} {cl : Bool} {st sm st' sm' : Int} (h : All P E F gs w t own x τ cl st sm) {i : Nat} {g g' : Goroutine} {es : Array Event}
    (hi : gs[i]? = some g) (h0 : i = 0 ∨ E.b0 ≤ i) (mv : Moved E (x i).M w w') (hk : Kn E w') (hes : ∀ e ∈ es, EvOk E i (grew own i w.heap.size w'.heap.size) w'.heap.size e)
    (hcn : w'.heap[E.cn]? = w.heap[E.cn]?) (hcd : w'.heap[E.cd]? = w.heap[E.cd]?)
    {x' : Pt} {τ' : Tag} (hA : ∀ b, x'.A b → E.Base b ∨ (x i).A b ∨ (w.heap.size ≤ b ∧ b < w'.heap.size)) (hM : ∀ b, x'.M b → (x i).M b ∨ (w.heap.size ≤ b ∧ b < w'.heap.size))
    (hs : Sit P E F τ' x' g' w') (hd : DeafOk P (t ++ MemOp.ofEvents i g.frame.fn g.frame.place es) i τ' g') (hr : E.b0 ≤ i → relT τ' = true → ∃ r, RelBy (stA E.Wg) (t ++ MemOp.ofEvents i g.frame.fn g.frame.place es) i r)
    (hwg : WgAt 83 E.Wg w' st' sm') (hsame : Same E.n (τ i) τ')
    (hgrp : ∀ C L G, C + cT (τ i) = S cT τ gs.size + cT τ' → L + lT (τ i) = S lT τ gs.size + lT τ' → G + gT (τ i) = S gT τ gs.size + gT τ' → Grp (if 0 = i then τ' else τ 0) C L G st' sm')
    (hcb : ∀ C, C + cT (τ i) = S cT τ gs.size + cT τ' → Cb F.kw (if 0 = i then τ' else τ 0) C)
    (hnb : ∀ a b, (0 ≠ i → τ 0 = .wsB a b → wakes P g g' = false → sm' = 0) ∧ (0 = i → τ' = .wsB a b → sm' = 0)) :
    All P E F ((gs.map (woken P g g' w')).setIfInBounds i g') w' (t ++ MemOp.ofEvents i g.frame.fn g.frame.place es) (grew own i w.heap.size w'.heap.size) (upd x i x') (nxtT τ i τ' (wakes P g g') cl) cl st' sm' ∧
    ∃ C, C + cT (τ i) = S cT τ gs.size + cT τ' ∧ wei E (nxtT τ i τ' (wakes P g g') cl) gs.size + wT E.n (τ i) + ct3 (τ 0) (S cT τ gs.size) = wei E τ gs.size + wT E.n τ' + ct3 (if 0 = i then τ' else τ 0) C := by
  have hb := h.inv.b0
  have hlt : i < gs.size := (Array.getElem?_eq_some_iff.1 hi).1
  exact h.stepT hE hF hi (h0.imp id .inl) mv hk (h.inv.tr.step hE (i := i) (h0.imp id fun hh => ⟨hh, by omega⟩) mv.size (fn := g.frame.fn) (pos := g.frame.place) hes) hcn hcd hA hM hs hd hr hwg hsame hgrp hcb hnb
end
end Mc
end Go.Proofs.YtbkjjknlphlhlaaDoor
namespace Go.Proofs.YtbkjjknlphlhlaaDoor
namespace Mc
open Go.Conc Go.ConcN Hd Sim Wy Ev Ms
open Go.ConcR (KK WgAt stA smA mk g_of_ofEvents)
set_option maxRecDepth 100000

section
variable (P : Program) (E : Env) (F : Fam)
/-- Where it ends: the main has joined; all others only leave. -/
structure Done (gs : Array Goroutine) (w : World) (t : Trace) : Prop where
  hist : Hist (Sh2 E) w.heap.size gs.size t
  leave : ∃ q : Nat → Nat, ∀ i g, 0 < i → gs[i]? = some g → QuitsD P (q i) (Deaf t i) g
  above : ∀ i, gs.size ≤ i → Deaf t i = 0
  kn : Kn E w
  val : ∃ g gl val A, gs[0]? = some g ∧ F.Fin val g ∧ F.Lst gl val A w ∧ (∀ b, A b → E.Base b ∨ E.Low ≤ b) ∧ ∀ a, a < E.n → a ∈ gl ∧ ∃ C, E.Rc C a (val a).1 (val a).2 w
def Goal (m : Machine) (t : Trace) : Prop := ∃ gs w sl, m = crowd gs w sl ∧ Done P E F gs w t
/-- Nearer than (N, L, fl). -/
def Near (N : Nat) (L : List Pos) (fl : Nat) (m : Machine) (t : Trace) : Prop :=
  ∃ gs w sl own x τ cl st sm, m = crowd gs w sl ∧ All P E F gs w t own x τ cl st sm ∧ (wei E τ gs.size < N ∨ (wei E τ gs.size = N ∧ (Low (lower P E) (poses P E F τ x gs.size) L ∨ (poses P E F τ x gs.size = L ∧ flag gs < fl))))
def Out (gs : Array Goroutine) (w : World) (sl : Option (Nat × Nat)) (t : Trace) (x : Nat → Pt) (τ : Nat → Tag) (i : Nat) : Prop :=
  ∃ m' ops, runT P (crowd gs w sl) i = (.next m', ops) ∧ (Goal P E F m' (t ++ ops) ∨ Near P E F (wei E τ gs.size) (poses P E F τ x gs.size) (flag gs) m' (t ++ ops))
end

section
variable {P : Program} {E : Env} {F : Fam}
theorem rely_at (A : Nat → Prop) (w : World) {d : Nat} (hd : w.drawn ≤ d) : Rely A w (w.at d) := ⟨fun _ _ => rfl, Nat.le_refl _, rfl, hd, rfl, rfl⟩
theorem Sit.rely {τ : Tag} {x : Pt} {g : Goroutine} {w w' : World} (h : Sit P E F τ x g w) (r : Rely x.A w w') : Sit P E F τ x g w' := by
  cases τ with
  | selP a b c => exact ⟨h.1, h.2.1, h.2.2.trans r⟩
  | wsB a b => exact ⟨h.1, ⟨h.2.1.1.trans r, h.2.1.2⟩, h.2.2⟩
  | rcP => exact h
  | rcR => exact h
  | snP a b c => exact h
  | ds n => exact h
  | sb n => exact h
  | l1 n => exact h
  | l2 n => exact h
  | l3 n => exact h
  | quit n => trivial
  | _ => exact ⟨h.1, h.2.1.trans r, h.2.2⟩
theorem Kn.at {w : World} (h : Kn E w) (d : Nat) : Kn E (w.at d) := ⟨h.wg, h.base, h.low, h.tape, h.os, h.output⟩
/-- A draw turns nothing. -/
theorem All.at (hE : E.Ok) (hF : F.Ok P E) {gs : Array Goroutine} {w : World} {t : Trace} {own : Nat → Nat} {x : Nat → Pt} {τ : Nat → Tag} {cl : Bool} {st sm : Int} (h : All P E F gs w t own x τ cl st sm) {d : Nat} (hd : w.drawn ≤ d) : All P E F gs (w.at d) t own x τ cl st sm := by
  have hH := h.inv
  refine ⟨⟨hH.b0, hH.kn.at d, hH.tr, hH.cn, hH.cd, hH.inA, hH.inM, fun i g hi => (hH.sit i g hi).rely (rely_at _ w hd), hH.deaf, hH.rel, hH.mn, hH.old, hH.op, hH.new⟩, h.wg, h.grp, h.cb, h.dat, fun i a v e hi hh => ?_, fun a ha => ?_, fun hp => ?_, h.nb, h.ln⟩
  · obtain ⟨C, h1, h2⟩ := h.snd i a v e hi hh
    exact ⟨C, h1, hE.rc C a v e w _ h2 fun _ _ => rfl⟩
  · obtain ⟨C, h1, h2⟩ := h.res a ha
    exact ⟨C, h1, hE.rc C a _ _ w _ h2 fun _ _ => rfl⟩
  · obtain ⟨A, h1, h2⟩ := h.lst hp
    exact ⟨A, hF.lst _ _ A w _ h1 (rely_at A w hd), h2⟩

/-! ### the measure -/
theorem pos_acc {main : Bool} {s : Stop} {pt : Pt} (h : Acc (Ch P main (Kn E) s) pt) : Acc (lower P E) (main, s, pt) := by
  induction h with
  | intro pt _ ih =>
    refine .intro _ fun ⟨b, s', y⟩ hy => ?_
    obtain ⟨h1, h2, h3⟩ := hy
    dsimp only at h1 h2 h3
    subst h1; subst h2
    exact ih y h3
theorem pos_dummy (b : Bool) (pt : Pt) : Acc (lower P E) (b, fun _ _ _ _ => True, pt) := .intro _ fun _ hy => absurd (fun _ _ _ => trivial) hy.2.2.1
theorem sit_acc {τ : Tag} {x : Pt} {g : Goroutine} {w : World} (h : Sit P E F τ x g w) : Acc (lower P E) (posOf P E F τ x) := by
  unfold posOf
  cases τ with
  | selP a b c => exact pos_dummy _ _
  | rcP => exact pos_dummy _ _
  | rcR => exact pos_dummy _ _
  | snP a b c => exact pos_dummy _ _
  | ds n => exact pos_dummy _ _
  | sb n => exact pos_dummy _ _
  | l1 n => exact pos_dummy _ _
  | l2 n => exact pos_dummy _ _
  | l3 n => exact pos_dummy _ _
  | quit n => exact pos_dummy _ _
  | wsB a b => exact pos_acc h.2.1.2.acc
  | _ => exact pos_acc h.2.2.acc
theorem All.acc {gs : Array Goroutine} {w : World} {t : Trace} {own : Nat → Nat} {x : Nat → Pt} {τ : Nat → Tag} {cl : Bool} {st sm : Int} (h : All P E F gs w t own x τ cl st sm) : ∀ p ∈ poses P E F τ x gs.size, Acc (lower P E) p := by
  intro p hp
  unfold poses at hp
  obtain ⟨k, hk, rfl⟩ := List.mem_map.1 hp
  have hk := List.mem_range.1 hk
  exact sit_acc (h.inv.sit k _ (Array.getElem?_eq_getElem hk))
theorem poses_step {τ : Nat → Tag} {x : Nat → Pt} {n i : Nat} (hi : i < n) {τ' : Tag} {x' : Pt} {wake cl : Bool} : poses P E F (nxtT τ i τ' wake cl) (upd x i x') n = (poses P E F τ x n).set i (posOf P E F τ' x') := by
  unfold poses
  apply List.ext_getElem?
  intro k
  rw [List.getElem?_set, List.getElem?_map, List.getElem?_map]
  by_cases hk : k < n
  · have hr : (List.range n)[k]? = some k := by rw [List.getElem?_range hk]
    rw [hr]
    by_cases hik : i = k
    · subst hik
      rw [if_pos rfl]
      simp only [List.length_map, List.length_range, hi, if_true, Option.map_some, upd_same]
      rw [show nxtT τ i τ' wake cl i = τ' from if_pos rfl]
    · rw [if_neg hik]
      simp only [Option.map_some, upd_ne x x' (Ne.symm hik)]
      rw [show nxtT τ i τ' wake cl k = wk1 wake cl (τ k) from if_neg (Ne.symm hik)]
      unfold posOf
      rw [wk1_stop]
  · have hr : (List.range n)[k]? = none := by rw [List.getElem?_eq_none]; simpa using hk
    rw [hr]
    have : ¬ i = k := by omega
    rw [if_neg this]
    rfl
theorem stop_main {τ : Tag} {main : Bool} {s : Stop} (h : stopOf P E F τ = some (main, s)) : main = isMain τ := by
  cases τ <;> simp only [stopOf, Option.some.injEq, Prod.mk.injEq, reduceCtorEq] at h <;> exact h.1.symm
theorem stop_norel {τ : Tag} {main : Bool} {s : Stop} (h : stopOf P E F τ = some (main, s)) : relT τ = false := by
  cases τ <;> first | rfl | (simp only [stopOf, reduceCtorEq] at h)
theorem same_way {τ : Tag} {main : Bool} {s : Stop} (h : stopOf P E F τ = some (main, s)) (n : Nat) : Same n τ τ := by
  refine ⟨rfl, rfl, rfl, rfl, rfl, rfl, rfl, id, fun a b c e => ?_, fun a b c e => ?_, fun e => ?_, fun a b c => id, fun k e => ?_⟩
  · subst e; cases h
  · subst e; cases h
  · subst e; cases h
  · rcases e with rfl | rfl | rfl | rfl | rfl <;> cases h
theorem deaf_way {τ : Tag} {main : Bool} {s : Stop} (h : stopOf P E F τ = some (main, s)) {t : Trace} {i : Nat} {g : Goroutine} : DeafOk P t i τ g ↔ Deaf t i = deafT τ := by
  cases τ <;> first | exact Iff.rfl | (simp only [stopOf, reduceCtorEq] at h)
theorem Moved.of_turn {M : Nat → Prop} {w w' : World} (h : Turn E w w') : Moved E M w w' := ⟨fun b _ _ hb _ _ => h.aside b hb, Nat.le_of_eq h.size.symm, h.tape, Nat.le_of_eq h.drawn.symm, h.os, h.output⟩
theorem Moved.refl (M : Nat → Prop) (w : World) : Moved E M w w := ⟨fun _ _ _ _ _ _ => rfl, Nat.le_refl _, rfl, Nat.le_refl _, rfl, rfl⟩
theorem Kn.turn (hE : E.Ok) {w w' : World} (h : Kn E w) (ht : Turn E w w') {st sm : Int} (hw : WgAt 83 E.Wg w' st sm) : Kn E w' :=
  ⟨⟨st, sm, hw⟩, fun b hb => (ht.aside b (hE.base b hb).2.1).trans (h.base b hb), by rw [ht.size]; exact h.low, ht.tape.trans h.tape, ht.os.trans h.os, ht.output.trans h.output⟩

/-- ████ A step of one's own way. ████ -/
theorem All.local (hE : E.Ok) (hF : F.Ok P E) {gs : Array Goroutine} {w : World} {t : Trace} {own : Nat → Nat} {x : Nat → Pt} {τ : Nat → Tag} {cl : Bool} {st sm : Int} (h : All P E F gs w t own x τ cl st sm) {sl : Option (Nat × Nat)} {i : Nat} {g : Goroutine} (hi : gs[i]? = some g)
    {main : Bool} {s : Stop} (hτ : stopOf P E F (τ i) = some (main, s)) (hg : g = (x i).g) (hw : OnWay P E main s (x i) w) (hsit : ∀ x' w', OnWay P E main s x' w' → Sit P E F (τ i) x' x'.g w') :
    (s (x i).A (x i).M g w ∧ (i == 0) = main) ∨ Out P E F gs w sl t x τ i := by
  have hlt : i < gs.size := (Array.getElem?_eq_some_iff.1 hi).1
  have hH := h.inv
  have hmain : (i == 0) = main := by
    rw [stop_main hτ]
    have := hH.mn i hlt
    cases hm : isMain (τ i) with
    | true => simpa using this.1 hm
    | false =>
      have hne : i ≠ 0 := fun e => by have := this.2 e; rw [hm] at this; cases this
      simpa using hne
  have h0 : i = 0 ∨ E.b0 ≤ i := by
    by_cases hz : i = 0
    · exact .inl hz
    · refine .inr (Nat.le_of_not_lt fun hlt2 => ?_)
      obtain ⟨n, hn⟩ := hH.old i hz hlt2
      rw [hn] at hτ; cases hτ
  obtain ⟨hrl, hway⟩ := hw
  subst hg
  rcases hway.moves hrl hH.kn with hs | ⟨hrun, g', w', es, hstep, hgu, hch, hway'⟩
  · exact .inl ⟨hs, hmain⟩
  refine .inr ?_
  have hlow := hH.kn.low
  have hMlow : ∀ b, (x i).M b → E.Low ≤ b := fun b hb => (hH.inM i b hb).1
  have keep : ∀ b, b < E.Low → w'.heap[b]? = w.heap[b]? := fun b hb => hgu.aside b (by omega) fun hm => by have := hMlow b hm; omega
  have mv : Moved E (x i).M w w' := ⟨fun b h1 h2 _ _ _ => hgu.aside b h1 h2, hgu.size, hgu.tape, hgu.drawn, hgu.os, hgu.output⟩
  have hwg' : WgAt 83 E.Wg w' st sm := (keep _ hE.wg).trans h.wg
  have hk' : Kn E w' := ⟨⟨st, sm, hwg'⟩, fun b hb => (keep b (hE.base b hb).1).trans (hH.kn.base b hb), by have := hgu.size; omega, hgu.tape.trans hH.kn.tape, hgu.os.trans hH.kn.os, hgu.output.trans hH.kn.output⟩
  have grO : ∀ b, own b = i → b < w.heap.size → grew own i w.heap.size w'.heap.size b = i := fun b hb hl => by unfold grew; rw [if_neg (by omega)]; exact hb
  have inA' : ∀ b, fresh w w' (x i).A b → E.Base b ∨ (E.Low ≤ b ∧ b < w'.heap.size ∧ grew own i w.heap.size w'.heap.size b = i) := fun b hb => by
    rcases hb with hb | ⟨h1, h2⟩
    · rcases hH.inA i b hb with hb | ⟨h1, h2, h3⟩
      · exact .inl hb
      · exact .inr ⟨h1, Nat.lt_of_lt_of_le h2 hgu.size, grO b h3 h2⟩
    · exact .inr ⟨by omega, h2, by unfold grew; rw [if_pos ⟨h1, h2⟩]⟩
  have inM' : ∀ b, fresh w w' (x i).M b → E.Low ≤ b ∧ b < w'.heap.size ∧ grew own i w.heap.size w'.heap.size b = i := fun b hb => by
    rcases hb with hb | ⟨h1, h2⟩
    · obtain ⟨h1, h2, h3⟩ := hH.inM i b hb
      exact ⟨h1, Nat.lt_of_lt_of_le h2 hgu.size, grO b h3 h2⟩
    · exact ⟨by omega, h2, by unfold grew; rw [if_pos ⟨h1, h2⟩]⟩
  have hes : ∀ e ∈ es, EvOk E i (grew own i w.heap.size w'.heap.size) w'.heap.size e ∧ e.loc ≠ .mark .disable ∧ e.loc ≠ .mark .enable := fun e he => by
    rcases hgu.evs e he with (⟨a, e1, e2, e3, e4⟩ | rfl | ⟨f, rfl⟩ | ⟨b, hb, rfl⟩) | (⟨a, rfl, hb⟩ | ⟨hm, a, hb, rfl | rfl⟩)
    · obtain ⟨loc, wr, sy⟩ := e
      dsimp only at e1 e2 e4
      subst e1; subst e2
      refine ⟨.cell a wr ?_, by simp, by simp⟩
      cases wr with
      | false => exact (inA' _ e3).imp (fun h => ⟨h, rfl⟩) id
      | true => exact .inr (inM' _ (e4 rfl))
    · exact ⟨.room, by simp, by simp⟩
    · exact ⟨.ext f, by simp, by simp⟩
    · exact ⟨.obj b (inA' b hb), by simp, by simp⟩
    · exact ⟨.cell a false (.inl ⟨hb, rfl⟩), by simp, by simp⟩
    · exact ⟨.saidR a hb (by subst hm; simpa using hmain), by show Loc.mark _ ≠ Loc.mark _; simp, by show Loc.mark _ ≠ Loc.mark _; simp⟩
    · exact ⟨.saidW a hb (by subst hm; simpa using hmain), by show Loc.mark _ ≠ Loc.mark _; simp, by show Loc.mark _ ≠ Loc.mark _; simp⟩
  have hd0 := (deaf_way hτ).1 (hH.deaf i _ hi)
  have hd' : Deaf (t ++ MemOp.ofEvents i (x i).g.frame.fn (x i).g.frame.place es) i = deafT (τ i) := by
    rw [Deaf_own, deafBehind_still fun e he => (hes e he).2]
    exact hd0
  obtain ⟨hAll, C, hC, hwt⟩ := h.step hE hF hi h0 mv hk' (fun e he => (hes e he).1) (keep _ hE.cn) (keep _ hE.cd) (x' := ⟨fresh w w' (x i).A, fresh w w' (x i).M, g', w'⟩) (τ' := τ i)
    (fun b hb => hb.elim (fun h => .inr (.inl h)) fun h => .inr (.inr h)) (fun b hb => hb) (hsit _ w' ⟨Rely.refl _ _, hway'⟩) ((deaf_way hτ).2 hd') (fun _ hr => by rw [stop_norel hτ] at hr; cases hr) hwg' (same_way hτ E.n)
    (fun C L G h1 h2 h3 => by
      obtain rfl : C = S cT τ gs.size := by omega
      obtain rfl : L = S lT τ gs.size := by omega
      obtain rfl : G = S gT τ gs.size := by omega
      have e : (if 0 = i then τ i else τ 0) = τ 0 := by split; · next e => rw [← e]
                                                        · rfl
      rw [e]; exact h.grp)
    (fun C h1 => by
      obtain rfl : C = S cT τ gs.size := by omega
      have e : (if 0 = i then τ i else τ 0) = τ 0 := by split; · next e => rw [← e]
                                                        · rfl
      rw [e]; exact h.cb)
    (fun a b => ⟨fun _ e _ => h.nb a b e, fun e1 e2 => h.nb a b (by rw [e1]; exact e2)⟩)
  refine ⟨_, _, runT_crowd_go hi (by rw [hmain]; exact hstep), .inr ⟨_, _, _, _, _, _, _, _, _, rfl, hAll, .inr ?_⟩⟩
  have hsz : ((gs.map (woken P (x i).g g' w')).setIfInBounds i g').size = gs.size := by simp
  rw [hsz]
  have e : (if 0 = i then τ i else τ 0) = τ 0 := by split; · next e => rw [← e]
                                                    · rfl
  rw [e] at hwt
  obtain rfl : C = S cT τ gs.size := by omega
  refine ⟨by omega, .inl ?_⟩
  rw [poses_step hlt]
  have hget : (poses P E F τ x gs.size)[i]? = some (main, s, x i) := by
    unfold poses
    rw [List.getElem?_map, List.getElem?_range hlt]
    simp only [Option.map_some]
    unfold posOf; rw [hτ]; rfl
  refine Low.set hget ?_
  unfold posOf
  rw [hτ]
  exact ⟨rfl, rfl, hch⟩
end
end Mc
end Go.Proofs.YtbkjjknlphlhlaaDoor
