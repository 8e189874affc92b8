/- One call of 'each': parking, and the closed channel, case by case. -/
import Derived.Test.YtbkjjknlphlhlaaDoorZ42
namespace Go.Proofs.YtbkjjknlphlhlaaDoor
namespace Mc
open Go.Conc Go.ConcN Hd Sim Wy Ev Ms Cm
open Go.ConcR (KK WgAt stA smA g_of_ofEvents)
set_option maxRecDepth 100000

section
variable {P : Program} {E : Env} {F : Fam} {gs : Array Goroutine} {w : World} {t : Trace} {own : Nat → Nat} {x : Nat → Pt} {τ : Nat → Tag} {cl : Bool} {st sm : Int} {sl : Option (Nat × Nat)} {i : Nat} {g : Goroutine}
theorem ev_nil (i : Nat) (fn : FuncId) (pos : String) : MemOp.ofEvents i fn pos #[] = #[] := by rw [ofEvents_eq]; simp
theorem not0 (h : All P E F gs w t own x τ cl st sm) (hi : gs[i]? = some g) (hm : isMain (τ i) = false) : i ≠ 0 ∧ (i == 0) = false := by
  have := isWorker h hi hm
  exact ⟨fun e => this e.symm, by simpa using fun e => this e.symm⟩
theorem only0 (h : All P E F gs w t own x τ cl st sm) {j : Nat} {o : Goroutine} (hj : gs[j]? = some o) (hm : isMain (τ j) = true) : j = 0 := (h.inv.mn j (Array.getElem?_eq_some_iff.1 hj).1).1 hm

/-- A worker waits for a number. -/
theorem at_rc_park (hE : E.Ok) (hF : F.Ok P E) (h : All P E F gs w t own x τ false st sm) (hi : gs[i]? = some g) (hτ : τ i = .rc) (hs : F.Recv g) (hno : ∀ a b c, τ 0 = .selP a b c → ¬ a < E.n) : Out P E F gs w sl t x τ i := by
  obtain ⟨h0, hm⟩ := not0 h hi (by rw [hτ]; rfl)
  have hlt := (Array.getElem?_eq_some_iff.1 hi).1
  obtain ⟨s, r, hcn⟩ := h.inv.cn
  have hst := (hF.recv g hs).2 w h.inv.kn
  have hrun := crowd_waits (sl := sl) hi (by rw [hm]; exact hst) (fun cc hcc => by
    have : cc = rcase E.cn F.z0 := by simpa [rcs] using hcc
    subst this
    refine ⟨made_recv _ hcn, ways_none rfl hcn fun j q o hj ho hq => ?_⟩
    rcases offers_class hF h ho hq with ⟨a, b, c, e, he⟩ | ⟨_, _, hb, _⟩ | ⟨_, _, _, _, hr, _⟩
    · obtain rfl := only0 h ho (by rw [e]; rfl)
      rcases he with ⟨_, _, _, hn⟩ | ⟨_, hb, _⟩
      · exact hno a b c e hn
      · cases hb
    · cases hb
    · exact hE.nd hr)
  obtain ⟨hAll, hw⟩ := h.put hE hF (.refl w) (.nil _ _ _) hlt (fun n e => by rw [hτ] at e; cases e) (g' := parked g (rcs E F) (.recv true)) (x' := ⟨(x i).A, (x i).M, g, w⟩) (τ' := .rcP) (fun b hb => .inr hb) (fun b hb => hb) ⟨rfl, hs⟩ (fun n e => by cases e) (by rw [hτ]; rfl) rfl (by rw [hτ]; rfl)
    (by rw [hτ]; rfl) (by rw [hτ]; rfl) (by rw [hτ]; rfl) (by rw [hτ]; rfl) (by rw [hτ]; rfl) (by rw [hτ]; rfl) (by rw [hτ]; rfl) (by rw [hτ]; rfl) (by rw [hτ]; rfl)
    (fun e => absurd e h0) (fun e => absurd e h0) (fun e => absurd e h0) (fun e => absurd e h0) (fun _ => .inl rfl) (fun hp => by rw [h.dat.cl] at hp; cases hp) (fun _ _ _ e => by cases e)
    (fun _ _ _ e => by cases e) (fun _ _ _ e => by cases e) (fun _ _ _ e => by cases e) (fun _ => hno) (fun _ _ _ e => by cases e) (fun _ _ e => by cases e) (fun n e => by rcases e with e | e | e | e | e <;> cases e)
  refine out_put hrun (by simp) (by rw [ev_nil]; exact hAll) ?_
  rw [hτ] at hw
  simp only [wT] at hw; omega
/-- A worker finds the channel closed. -/
theorem closed_of (hE : E.Ok) (hF : F.Ok P E) (h : All P E F gs w t own x τ true st sm) (hi : gs[i]? = some g) (hτ : τ i = .rc ∨ τ i = .rcR) {g2 : Goroutine} (hs : F.Recv g2) (hst : stepG P false g w = .comm g2 (rcs E F) true (.recv true) w #[]) : Out P E F gs w sl t x τ i := by
  obtain ⟨h0, hm⟩ := not0 h hi (by rcases hτ with e | e <;> rw [e] <;> rfl)
  have hlt := (Array.getElem?_eq_some_iff.1 hi).1
  obtain ⟨s, r, hcn⟩ := h.inv.cn
  have hp : postT (τ 0) = true := h.dat.cl
  have hrun := crowd_recv_closed (P := P) (sl := sl) (z := F.z0) (c := E.cn) (blocking := true) (shape := .recv true) (w₁ := w) (g₂ := g2) (es := #[]) hi (by rw [hm]; exact hst) hcn (partners_nil fun j o ho => by
    rcases getElem?_stand gs i j o ho with ⟨_, rfl⟩ | ⟨hne, ho⟩
    · rfl
    · apply List.eq_nil_iff_forall_not_mem.2
      intro q hq
      rcases offers_class hF h ho hq with ⟨a, b, c, e, _⟩ | ⟨_, _, hb, _⟩ | ⟨_, _, _, _, hr, _⟩
      · obtain rfl := only0 h ho (by rw [e]; rfl)
        rw [e] at hp; cases hp
      · cases hb
      · exact hE.nd hr)
  have hprops : cT (.rl) = cT (τ i) ∧ lT .rl = lT (τ i) ∧ gT .rl = gT (τ i) ∧ busy .rl = busy (τ i) ∧ nxT E.n .rl = nxT E.n (τ i) ∧ glT .rl = glT (τ i) ∧ valT .rl = valT (τ i) ∧ postT .rl = postT (τ i) ∧ fullT .rl = fullT (τ i) ∧ deafT .rl = deafT (τ i) ∧ isMain .rl = isMain (τ i) ∧ wT E.n (τ i) = 1302 ∧ ∀ n, τ i ≠ .quit n := by
    rcases hτ with e | e <;> rw [e] <;> exact ⟨rfl, rfl, rfl, rfl, rfl, rfl, rfl, rfl, rfl, rfl, rfl, rfl, fun n e => by cases e⟩
  obtain ⟨p1, p2, p3, p4, p5, p6, p7, p8, pf, p9, p10, p11, p12⟩ := hprops
  have hu : MuteOps gs.size w.heap.size E.Wg (MemOp.ofEvents i g.frame.fn g.frame.place #[] ++ #[{ g := i, fn := g2.frame.fn, pos := g2.frame.place, act := .recvClosed E.cn }]) := by
    rw [ev_nil]
    have hl : E.cn < w.heap.size := Nat.lt_of_lt_of_le hE.cn h.inv.kn.low
    refine ⟨fun op hop => ?_, fun op hop => ?_, fun op hop => ?_, fun op hop => ?_⟩ <;> (simp only [Array.empty_append, Array.mem_singleton] at hop; subst hop)
    · rfl
    · exact hlt
    · exact hl
    · intro m e; cases e
  obtain ⟨hAll, hw⟩ := h.put hE hF (.refl w) hu hlt p12 (g' := g2.finishComm P (rcs E F) (.recv true) 0 F.z0 false) (x' := ⟨no, no, g2.finishComm P (rcs E F) (.recv true) 0 F.z0 false, w⟩) (τ' := .rl) (fun b hb => hb.elim) (fun b hb => hb.elim) ⟨rfl, Rely.refl _ _, hF.recv_closed g2 hs w h.inv.kn⟩ (fun n e => by cases e) p9 rfl p10
    p4 p5 p6 p7 p8 pf p1 p2 p3
    (fun e => absurd e h0) (fun e => absurd e h0) (fun e => absurd e h0) (fun e => absurd e h0) (fun hp' => by rw [hp] at hp'; cases hp') (fun _ e => by cases e) (fun _ _ _ e => by cases e)
    (fun _ _ _ e => by cases e) (fun _ _ _ e => by cases e) (fun _ _ _ e => by cases e) (fun e => by cases e) (fun _ _ _ e => by cases e) (fun _ _ e => by cases e) (fun n e => by rcases e with e | e | e | e | e <;> cases e)
  refine out_put hrun (by simp) hAll ?_
  rw [p11] at hw
  simp only [wT] at hw; omega
theorem at_rc_closed (hE : E.Ok) (hF : F.Ok P E) (h : All P E F gs w t own x τ true st sm) (hi : gs[i]? = some g) (hτ : τ i = .rc) (hs : F.Recv g) : Out P E F gs w sl t x τ i :=
  closed_of hE hF h hi (.inl hτ) hs ((hF.recv g hs).2 w h.inv.kn)
theorem at_rcR (hE : E.Ok) (hF : F.Ok P E) (h : All P E F gs w t own x τ cl st sm) (hi : gs[i]? = some g) (hτ : τ i = .rcR) : Out P E F gs w sl t x τ i := by
  have hs := h.inv.sit i g hi
  rw [hτ] at hs
  obtain ⟨e, hr⟩ := hs
  have hcl : cl = true := by
    cases hc : cl with
    | true => rfl
    | false =>
      have hp : postT (τ 0) = false := h.dat.cl.trans hc
      have hlt := (Array.getElem?_eq_some_iff.1 hi).1
      have := h.dat.early hp i ((h.who hlt (fun n e => by rw [hτ] at e; cases e)).1.resolve_left (not0 h hi (by rw [hτ]; rfl)).1) hlt
      rw [hτ] at this; cases this
  subst hcl
  refine closed_of hE hF h hi (.inr hτ) hr ?_
  have hrun := (hF.recv _ hr).1
  have hx : ({ (x i).g with status := .running } : Goroutine) = (x i).g := by cases hg : (x i).g; rw [hg] at hrun; simp_all
  rw [e, stepG_tries, hx]
  exact (hF.recv _ hr).2 w h.inv.kn
/-- A worker waits with what it has made. -/
theorem at_wk_park (hE : E.Ok) (hF : F.Ok P E) (h : All P E F gs w t own x τ cl st sm) (hi : gs[i]? = some g) {a : Nat} (hτ : τ i = .wk a) (hs : SSend P E F a (x i).A (x i).M g w) (hno : ∀ p b c, τ 0 ≠ .selP p b c) : Out P E F gs w sl t x τ i := by
  obtain ⟨h0, hm⟩ := not0 h hi (by rw [hτ]; rfl)
  have hlt := (Array.getElem?_eq_some_iff.1 hi).1
  obtain ⟨s, r, hcd⟩ := h.inv.cd
  obtain ⟨v, e, hat, C, hC, hrc⟩ := hs
  have hst := hat.2.1 w h.inv.kn
  have hrun := crowd_waits (sl := sl) hi (by rw [hm]; exact hst) (fun cc hcc => by
    have : cc = scase E.cd (Made a v e) F.zs := by simpa [scs] using hcc
    subst this
    refine ⟨made_send _ _ hcd, ways_none rfl hcd fun j q o hj ho hq => ?_⟩
    rcases offers_class hF h ho hq with ⟨p, b, c, e, he⟩ | ⟨_, hr, _, _⟩ | ⟨_, _, _, _, _, hb, _⟩
    · obtain rfl := only0 h ho (by rw [e]; rfl)
      exact hno p b c e
    · exact hE.nd hr.symm
    · cases hb)
  have hea : postT (τ 0) = false → earlyT (.snP a v e) = true ∨ i = 0 := fun _ => .inl rfl
  obtain ⟨hAll, hw⟩ := h.put hE hF (.refl w) (.nil _ _ _) hlt (fun n e => by rw [hτ] at e; cases e) (g' := parked g (scs E F a v e) .send) (x' := ⟨(x i).A, no, g, w⟩) (τ' := .snP a v e) (fun b hb => .inr hb) (fun b hb => hb.elim) ⟨rfl, hat⟩ (fun n e => by cases e) (by rw [hτ]; rfl) rfl (by rw [hτ]; rfl)
    (by rw [hτ]; rfl) (by rw [hτ]; rfl) (by rw [hτ]; rfl) (by rw [hτ]; rfl) (by rw [hτ]; rfl) (by rw [hτ]; rfl) (by rw [hτ]; rfl) (by rw [hτ]; rfl) (by rw [hτ]; rfl)
    (fun e => absurd e h0) (fun e => absurd e h0) (fun e => absurd e h0) (fun e => absurd e h0) hea (fun _ e => by cases e) (fun _ _ _ e => by cases e)
    (fun _ _ _ e => by cases e) (fun _ _ _ _ => hno) (fun _ _ _ e => by cases e) (fun e => by cases e)
    (fun p v' e' he => by
      cases he
      refine ⟨C, fun b hb => ?_, hrc⟩
      rcases h.inv.inA i b (hC b hb) with hb | ⟨h1, h2, h3⟩
      · exact .inl hb
      · refine .inr ⟨h1, h2, fun k hk => ?_⟩
        by_cases hki : k = i
        · subst hki; rw [upd_same] at hk; exact hk
        · rw [upd_ne x _ hki] at hk
          exact hki (by rw [← (h.inv.inM k b hk).2.2, h3]))
    (fun _ _ e => by cases e) (fun n e => by rcases e with e | e | e | e | e <;> cases e)
  refine out_put hrun (by simp) (by rw [ev_nil]; exact hAll) ?_
  rw [hτ] at hw
  simp only [wT] at hw; omega
/-- The main waits. -/
theorem at_sel_park (hE : E.Ok) (hF : F.Ok P E) (h : All P E F gs w t own x τ cl st sm) (hi : gs[0]? = some g) {next : Nat} {gl : List Nat} {val : Vals} (hτ : τ 0 = .sel next gl val) (hs : F.Sel next gl val (x 0).A (x 0).M g w)
    (hnoS : ∀ k, k < gs.size → ∀ p v e, τ k ≠ .snP p v e) (hnoR : next < E.n → ∀ k, k < gs.size → τ k ≠ .rcP) : Out P E F gs w sl t x τ 0 := by
  have hlt := (Array.getElem?_eq_some_iff.1 hi).1
  have hcl : cl = false := by have := h.dat.cl; rw [hτ] at this; exact this.symm
  subst hcl
  obtain ⟨s, r, hcn⟩ := h.inv.cn
  obtain ⟨s2, r2, hcd⟩ := h.inv.cd
  have hst := (hF.sel _ _ _ _ _ _ _ hs).2 w h.inv.kn
  have hrun := crowd_waits (sl := sl) hi hst (fun cc hcc => by
    obtain ⟨k, hk⟩ := Array.mem_iff_getElem?.1 hcc
    unfold selCases at hk
    rcases k with _ | _ | k
    · simp only [List.getElem?_toArray, List.getElem?_cons_zero, Option.some.injEq] at hk
      subst hk
      by_cases hn : next < E.n
      · rw [if_pos hn]
        refine ⟨made_send _ _ hcn, ways_none rfl hcn fun j q o hj ho hq => ?_⟩
        rcases offers_class hF h ho hq with ⟨p, b, c, e, he⟩ | ⟨e, _⟩ | ⟨_, _, _, _, hr, _⟩
        · exact hj (only0 h ho (by rw [e]; rfl))
        · exact hnoR hn j (Array.getElem?_eq_some_iff.1 ho).1 e
        · exact hE.nd hr
      · rw [if_neg hn]; exact ways_nil _
    · simp only [List.getElem?_toArray, List.getElem?_cons_succ, List.getElem?_cons_zero, Option.some.injEq] at hk
      subst hk
      refine ⟨made_recv _ hcd, ways_none rfl hcd fun j q o hj ho hq => ?_⟩
      rcases offers_class hF h ho hq with ⟨p, b, c, e, he⟩ | ⟨_, hr, _⟩ | ⟨_, _, _, e, _⟩
      · exact hj (only0 h ho (by rw [e]; rfl))
      · exact hE.nd hr.symm
      · exact hnoS j (Array.getElem?_eq_some_iff.1 ho).1 _ _ _ e
    · simp at hk)
  obtain ⟨hAll, hw⟩ := h.put hE hF (.refl w) (.nil _ _ _) hlt (fun n e => by rw [hτ] at e; cases e) (g' := parked g (selCases E F next) F.sh) (x' := ⟨(x 0).A, (x 0).M, g, w⟩) (τ' := .selP next gl val) (fun b hb => .inr hb) (fun b hb => hb) ⟨rfl, hs, Rely.refl _ _⟩ (fun n e => by cases e) (by rw [hτ]; rfl) rfl (by rw [hτ]; rfl)
    (by rw [hτ]; rfl) (by rw [hτ]; rfl) (by rw [hτ]; rfl) (by rw [hτ]; rfl) (by rw [hτ]; rfl) (by rw [hτ]; rfl) (by rw [hτ]; rfl) (by rw [hτ]; rfl) (by rw [hτ]; rfl)
    (fun _ C L G st sm hg => by rw [hτ] at hg; exact hg) (fun _ C hc => by rw [hτ] at hc; exact hc) (fun _ C => by rw [hτ]; rfl) (fun _ a b c e => by
      rcases e with e | e
      · cases e
      · cases e; exact h.dat.selL next gl val (.inl hτ))
    (fun _ => .inr rfl) (fun _ e => by cases e) (fun _ _ _ _ => rfl)
    (fun _ _ _ _ => hnoS) (fun _ _ _ e => by cases e) (fun a _ _ e ha => hnoR (by cases e; exact ha)) (fun e => by cases e) (fun _ _ _ e => by cases e) (fun _ _ e => by cases e) (fun n e => by rcases e with e | e | e | e | e <;> cases e)
  refine out_put hrun (by simp) (by rw [ev_nil]; exact hAll) ?_
  rw [hτ] at hw
  simp only [wT] at hw; omega
end
end Mc
end Go.Proofs.YtbkjjknlphlhlaaDoor
namespace Go.Proofs.YtbkjjknlphlhlaaDoor
namespace Mc
open Go.Conc Go.ConcN Hd Sim Wy Ev Ms Cm
open Go.ConcR (KK WgAt stA smA g_of_ofEvents)
set_option maxRecDepth 100000

section
variable {P : Program} {E : Env} {F : Fam} {gs : Array Goroutine} {w : World} {t : Trace} {own : Nat → Nat} {x : Nat → Pt} {τ : Nat → Tag} {cl : Bool} {st sm : Int} {sl : Option (Nat × Nat)} {k : Nat}
theorem two_sum {n : Nat} (hk : k < n) (hk0 : k ≠ 0) (σ0 σk : Tag) (φ : Tag → Nat) : S φ (upd (upd τ 0 σ0) k σk) n + φ (τ 0) + φ (τ k) = S φ τ n + φ σ0 + φ σk := by
  have h1 : S φ (upd (upd τ 0 σ0) k σk) n + φ (upd τ 0 σ0 k) = S φ (upd τ 0 σ0) n + φ σk := sumTo_upd (upd τ 0 σ0) σk φ hk
  have h2 : S φ (upd τ 0 σ0) n + φ (τ 0) = S φ τ n + φ σ0 := sumTo_upd τ σ0 φ (by omega)
  rw [upd_ne τ σ0 hk0] at h1
  omega
theorem two_get (hk0 : k ≠ 0) (σ0 σk : Tag) : upd (upd τ 0 σ0) k σk 0 = σ0 ∧ upd (upd τ 0 σ0) k σk k = σk ∧ ∀ j, j ≠ 0 → j ≠ k → upd (upd τ 0 σ0) k σk j = τ j := by
  refine ⟨by rw [upd_ne _ _ (Ne.symm hk0), upd_same], upd_same _ _ _, fun j h1 h2 => by rw [upd_ne _ _ h2, upd_ne _ _ h1]⟩
/-- Two are put in their places. -/
theorem Inv.two (hE : E.Ok) (h : Inv P E F gs w t own x τ cl) {w' : World} {u : Trace} (m : ChMove E w w') (hu : MuteOps gs.size w.heap.size E.Wg u) (hk : k < gs.size) (hk0 : k ≠ 0) (hq : ∀ n, τ 0 ≠ .quit n ∧ τ k ≠ .quit n) {g0 gk : Goroutine} {x0 xk : Pt} {σ0 σk : Tag}
    (hA0 : ∀ b, x0.A b → E.Base b ∨ (x 0).A b) (hM0 : ∀ b, x0.M b → (x 0).M b) (hAk : ∀ b, xk.A b → E.Base b ∨ (x k).A b) (hMk : ∀ b, xk.M b → (x k).M b) (hs0 : Sit P E F σ0 x0 g0 w') (hsk : Sit P E F σk xk gk w') (hq' : ∀ n, σ0 ≠ .quit n ∧ σk ≠ .quit n)
    (hd0 : deafT σ0 = deafT (τ 0)) (hdk : deafT σk = deafT (τ k)) (hr0 : relT σ0 = false) (hrk : relT σk = false) (hm0 : isMain σ0 = isMain (τ 0)) (hmk : isMain σk = isMain (τ k)) (hop : cl = true → ∀ a b c, σ0 ≠ .selP a b c) (hopk : ∀ a b c, σk ≠ .selP a b c) :
    Inv P E F ((gs.setIfInBounds 0 g0).setIfInBounds k gk) w' (t ++ u) own (upd (upd x 0 x0) k xk) (upd (upd τ 0 σ0) k σk) cl := by
  have h1 := h.put hE m hu (i := 0) (by omega) (fun n => (hq n).1) hA0 hM0 hs0 (fun n => (hq' n).1) hd0 hr0 hm0 hop
  have h2 := h1.put hE (.refl w') (.nil _ _ _) (i := k) (by simpa using hk) (fun n => by rw [upd_ne τ σ0 hk0]; exact (hq n).2) (x' := xk) (τ' := σk) (fun b hb => by rw [upd_ne x x0 hk0]; exact hAk b hb) (fun b hb => by rw [upd_ne x x0 hk0]; exact hMk b hb) hsk (fun n => (hq' n).2) (by rw [upd_ne τ σ0 hk0]; exact hdk) hrk (by rw [upd_ne τ σ0 hk0]; exact hmk) (fun _ => hopk)
  simpa using h2

/-- What the main is at while tasks go round. -/
def isSel (σ : Tag) (next : Nat) (gl : List Nat) (val : Vals) : Prop := σ = .sel next gl val ∨ σ = .selP next gl val
theorem isSel_facts {σ : Tag} {next : Nat} {gl : List Nat} {val : Vals} (h : isSel σ next gl val) : cT σ = 0 ∧ lT σ = 0 ∧ gT σ = 0 ∧ busy σ = none ∧ nxT E.n σ = next ∧ glT σ = gl ∧ valT σ = val ∧ postT σ = false ∧ deafT σ = 0 ∧ isMain σ = true ∧ (∀ n, σ ≠ .quit n) ∧ wT E.n σ ≤ 2000 + 20 * (E.n - next) + 20 * (E.n - gl.length) + 1 ∧ 2000 + 20 * (E.n - next) + 20 * (E.n - gl.length) ≤ wT E.n σ ∧
    (∀ C L G st sm, Grp σ C L G st sm → L = 0 ∧ G = 0 ∧ st = (C : Int) * KK ∧ sm = 0) ∧ (∀ C, Cb F.kw σ C → C = F.kw) ∧ ∀ C, ct3 σ C = 3 * C := by
  rcases h with rfl | rfl <;> refine ⟨rfl, rfl, rfl, rfl, rfl, rfl, rfl, rfl, rfl, rfl, fun n e => (by cases e), ?_, ?_, fun _ _ _ _ _ h => h, fun _ h => h, fun _ => rfl⟩ <;> simp only [wT] <;> omega
/-- ████ A number goes to a worker. ████ -/
theorem All.hand (hE : E.Ok) (h : All P E F gs w t own x τ false st sm) {w' : World} {u : Trace} (m : ChMove E w w') (hu : MuteOps gs.size w.heap.size E.Wg u) (hk : k < gs.size) (hk0 : k ≠ 0) {next : Nat} {gl : List Nat} {val : Vals} (hσ : isSel (τ 0) next gl val) (hn : next < E.n) (hτk : τ k = .rc ∨ τ k = .rcP) {g0 gk : Goroutine}
    (hs0 : WayE P E true (F.Sel (next + 1) gl val) (x 0).A (x 0).M g0 w') (hsk : WayE P E false (SSend P E F next) E.Base no gk w') :
    ∃ x2 τ2, All P E F ((gs.setIfInBounds 0 g0).setIfInBounds k gk) w' (t ++ u) own x2 τ2 false st sm ∧ wei E τ2 gs.size < wei E τ gs.size := by
  obtain ⟨a1, a2, a3, a4, a5, a6, a7, a8, a9, a10, a11, a12, a13, a14, a15, a16⟩ := isSel_facts (E := E) (F := F) hσ
  have kf : cT (τ k) = 1 ∧ lT (τ k) = 0 ∧ gT (τ k) = 0 ∧ busy (τ k) = none ∧ deafT (τ k) = 0 ∧ isMain (τ k) = false ∧ (∀ n, τ k ≠ .quit n) ∧ 1301 ≤ wT E.n (τ k) := by
    rcases hτk with e | e <;> rw [e] <;> exact ⟨rfl, rfl, rfl, rfl, rfl, rfl, fun n e => (by cases e), by simp only [wT]; omega⟩
  obtain ⟨k1, k2, k3, k4, k5, k6, k7, k8⟩ := kf
  have hI := h.inv.two hE m hu hk hk0 (fun n => ⟨a11 n, k7 n⟩) (x0 := ⟨(x 0).A, (x 0).M, g0, w'⟩) (xk := ⟨E.Base, no, gk, w'⟩) (σ0 := .sel (next + 1) gl val) (σk := .wk next) (fun b hb => .inr hb) (fun b hb => hb) (fun b hb => .inl hb) (fun b hb => hb.elim) ⟨rfl, Rely.refl _ _, hs0⟩ ⟨rfl, Rely.refl _ _, hsk⟩
    (fun n => ⟨fun e => (by cases e), fun e => (by cases e)⟩) a9.symm k5.symm rfl rfl a10.symm k6.symm (fun hc => (by cases hc)) (fun _ _ _ e => by cases e)
  obtain ⟨t0, tk, tj⟩ := two_get (τ := τ) hk0 (.sel (next + 1) gl val) (.wk next)
  have sum := fun φ => two_sum (τ := τ) hk hk0 (.sel (next + 1) gl val) (.wk next) φ
  have hD := h.dat
  have hDs := hD.sum
  have hDl := hD.lt
  have hDc := hD.cover
  rw [a5] at hDs hDl hDc
  rw [a6] at hDs hDc
  have hsz : ((gs.setIfInBounds 0 g0).setIfInBounds k gk).size = gs.size := by simp
  have sc : S cT (upd (upd τ 0 (.sel (next + 1) gl val)) k (.wk next)) gs.size = S cT τ gs.size := by have := sum cT; rw [a1, k1] at this; simp only [cT] at this; exact (by omega)
  have sl' : S lT (upd (upd τ 0 (.sel (next + 1) gl val)) k (.wk next)) gs.size = S lT τ gs.size := by have := sum lT; rw [a2, k2] at this; simp only [lT] at this; exact (by omega)
  have sg : S gT (upd (upd τ 0 (.sel (next + 1) gl val)) k (.wk next)) gs.size = S gT τ gs.size := by have := sum gT; rw [a3, k3] at this; simp only [gT] at this; exact (by omega)
  have b0 : bT (τ 0) = 0 := by unfold bT; rw [a4]; rfl
  have bk : bT (τ k) = 0 := by unfold bT; rw [k4]; rfl
  have sb : S bT (upd (upd τ 0 (.sel (next + 1) gl val)) k (.wk next)) gs.size = S bT τ gs.size + 1 := by have := sum bT; rw [b0, bk, show bT (.sel (next + 1) gl val) = 0 from rfl, show bT (.wk next) = 1 from rfl] at this; omega
  have hMM : ∀ j b, (upd (upd x 0 ⟨(x 0).A, (x 0).M, g0, w'⟩) k ⟨E.Base, no, gk, w'⟩ j).M b → (x j).M b := fun j b hb => by
    by_cases hjk : j = k
    · subst hjk; rw [upd_same] at hb; exact hb.elim
    · rw [upd_ne _ _ hjk] at hb
      by_cases hj0 : j = 0
      · subst hj0; rw [upd_same] at hb; exact hb
      · rw [upd_ne _ _ hj0] at hb; exact hb
  refine ⟨_, _, ⟨hI, (m.aside _ hE.wn hE.wd).trans h.wg, ?_, ?_, ⟨?_, ?_, fun j hj a ha => ?_, fun a ha => ?_, fun a b c hh => ?_, fun hf => (by rw [t0] at hf; cases hf), fun hp j hjb hj => ?_, fun hp => ?_, ?_, fun a b c hh => ?_, fun a b c hh => ?_⟩, fun j a v e hj hh => ?_, fun a ha => ?_, fun hp => ?_, fun a b hh => ?_, fun j hj n hn => ?_⟩, ?_⟩
  · rw [hsz, t0, sc, sl', sg]; exact a14 _ _ _ _ _ h.grp
  · rw [hsz, t0, sc]; exact a15 _ h.cb
  · rw [hsz, sb, t0]; show gl.length + (_ + 1) = next + 1; omega
  · rw [t0]; exact hn
  · rw [t0]; show a < next + 1
    by_cases hj0 : j = 0
    · subst hj0; rw [t0] at ha; cases ha
    · by_cases hjk : j = k
      · subst hjk; rw [tk] at ha; cases ha; omega
      · rw [tj j hj0 hjk] at ha; have := hDl j (hsz ▸ hj) a ha; omega
  · rw [t0] at ha ⊢
    have ha : a < next + 1 := ha
    by_cases han : a = next
    · subst han; exact .inr ⟨k, hsz ▸ hk, by rw [tk]; rfl⟩
    · refine (hDc a (by omega)).imp id ?_
      rintro ⟨j, hj, hb⟩
      have hj0 : j ≠ 0 := fun e => by rw [e, a4] at hb; cases hb
      have hjk : j ≠ k := fun e => by rw [e, k4] at hb; cases hb
      exact ⟨j, hsz ▸ hj, by rw [tj j hj0 hjk]; exact hb⟩
  · rw [t0] at hh
    rcases hh with hh | hh <;> cases hh
    exact hD.selL next gl val hσ
  · have hE0 := hE.b0
    have hj0 : j ≠ 0 := by omega
    by_cases hjk : j = k
    · subst hjk; rw [tk]; rfl
    · rw [tj j hj0 hjk]; exact hD.early a8 j hjb (hsz ▸ hj)
  · rw [t0] at hp; cases hp
  · rw [t0]; rfl
  · rw [t0] at hh; cases hh
  · rw [t0] at hh; cases hh
  · by_cases hj0 : j = 0
    · subst hj0; rw [t0] at hh; cases hh
    · by_cases hjk : j = k
      · subst hjk; rw [tk] at hh; cases hh
      · rw [tj j hj0 hjk] at hh
        exact res_put hE m hMM (h.snd j a v e (hsz ▸ hj) hh)
  · rw [t0] at ha ⊢
    have := h.res a (by rw [a6]; exact ha)
    rw [a7] at this
    exact res_put hE m hMM this
  · rw [t0] at hp; cases hp
  · rw [t0] at hh; cases hh
  · by_cases hj0 : j = 0
    · subst hj0; rw [t0] at hn; rcases hn with hn | hn | hn | hn | hn <;> cases hn
    · by_cases hjk : j = k
      · subst hjk; rw [tk] at hn; rcases hn with hn | hn | hn | hn | hn <;> cases hn
      · rw [tj j hj0 hjk] at hn; exact h.ln j (hsz ▸ hj) n hn
  · unfold wei
    rw [sc, t0, a16]
    have h1 := sum (wT E.n)
    have e1 : wT E.n (.sel (next + 1) gl val) = 2000 + 20 * (E.n - (next + 1)) + 20 * (E.n - gl.length) + 1 := rfl
    have e2 : wT E.n (.wk next) = 1305 := rfl
    have e3 : ct3 (.sel (next + 1) gl val) (S cT τ gs.size) = 3 * S cT τ gs.size := rfl
    rw [e1, e2] at h1
    rw [e3]
    omega

theorem After.tag {next : Nat} {gl : List Nat} {val : Vals} {A M : Nat → Prop} {g0 : Goroutine} {w' : World} (h : After P E F next gl val A M g0 w') (hle : next ≤ E.n) (hl : gl.length ≤ next) : ∃ σ, Sit P E F σ ⟨A, M, g0, w'⟩ g0 w' ∧ cT σ = 0 ∧ lT σ = 0 ∧ gT σ = 0 ∧ busy σ = none ∧ nxT E.n σ = next ∧ glT σ = gl ∧ valT σ = val ∧ postT σ = false ∧ deafT σ = 0 ∧ relT σ = false ∧ isMain σ = true ∧ (∀ n, σ ≠ .quit n) ∧ wT E.n σ ≤ 2000 + 20 * (E.n - next) + 20 * (E.n - gl.length) + 1 ∧
    (∀ (C L G : Nat) (st sm : Int), L = 0 ∧ G = 0 ∧ st = (C : Int) * KK ∧ sm = 0 → Grp σ C L G st sm) ∧ (∀ C, C = F.kw → Cb F.kw σ C) ∧ (∀ C, ct3 σ C = 3 * C) ∧ (∀ a b c, σ ≠ .selP a b c) ∧ (∀ a b c, σ = .sel a b c → b.length < E.n) ∧ (∀ a b, σ ≠ .wsB a b) ∧ (∀ n, ¬ (σ = .ds n ∨ σ = .sb n ∨ σ = .l1 n ∨ σ = .l2 n ∨ σ = .l3 n)) ∧ (fullT σ = true → gl.length = E.n) := by
  unfold After at h
  by_cases hn : gl.length = E.n
  · rw [if_pos hn] at h
    refine ⟨.clo gl val, ⟨rfl, Rely.refl _ _, h⟩, rfl, rfl, rfl, rfl, (show E.n = next by omega), rfl, rfl, rfl, rfl, rfl, rfl, fun n e => (by cases e), (by simp only [wT]; omega), fun _ _ _ _ _ h => h, fun _ h => h, fun _ => rfl, fun _ _ _ e => (by cases e), fun _ _ _ e => (by cases e), fun _ _ e => (by cases e), fun n e => (by rcases e with e | e | e | e | e <;> cases e), fun _ => hn⟩
  · rw [if_neg hn] at h
    refine ⟨.sel next gl val, ⟨rfl, Rely.refl _ _, h⟩, rfl, rfl, rfl, rfl, rfl, rfl, rfl, rfl, rfl, rfl, rfl, fun n e => (by cases e), (by simp only [wT]; omega), fun _ _ _ _ _ h => h, fun _ h => h, fun _ => rfl, fun _ _ _ e => (by cases e), fun _ _ _ e => (by cases e; omega), fun _ _ e => (by cases e), fun n e => (by rcases e with e | e | e | e | e <;> cases e), fun e => (by cases e)⟩
/-- ████ What was made comes to the main. ████ -/
theorem All.gather (hE : E.Ok) (h : All P E F gs w t own x τ false st sm) {w' : World} {u : Trace} (m : ChMove E w w') (hu : MuteOps gs.size w.heap.size E.Wg u) (hk : k < gs.size) (hk0 : k ≠ 0) {next : Nat} {gl : List Nat} {val : Vals} (hσ : isSel (τ 0) next gl val) {a : Nat} {v e : Value} (hτk : τ k = .wk a ∨ τ k = .snP a v e) {g0 gk : Goroutine}
    (hs0 : After P E F next (a :: gl) (fun j => if j = a then (v, e) else val j) (x 0).A (x 0).M g0 w') (hsk : WayE P E false (SRecv F) E.Base no gk w') (hres : Res E (upd x k ⟨E.Base, no, gk, w'⟩) w a v e) :
    ∃ x2 τ2, All P E F ((gs.setIfInBounds 0 g0).setIfInBounds k gk) w' (t ++ u) own x2 τ2 false st sm ∧ wei E τ2 gs.size < wei E τ gs.size := by
  obtain ⟨a1, a2, a3, a4, a5, a6, a7, a8, a9, a10, a11, a12, a13, a14, a15, a16⟩ := isSel_facts (E := E) (F := F) hσ
  have kf : cT (τ k) = 1 ∧ lT (τ k) = 0 ∧ gT (τ k) = 0 ∧ busy (τ k) = some a ∧ deafT (τ k) = 0 ∧ isMain (τ k) = false ∧ (∀ n, τ k ≠ .quit n) ∧ 1304 ≤ wT E.n (τ k) := by
    rcases hτk with e | e <;> rw [e] <;> exact ⟨rfl, rfl, rfl, rfl, rfl, rfl, fun n e => (by cases e), by simp only [wT]; omega⟩
  obtain ⟨k1, k2, k3, k4, k5, k6, k7, k8⟩ := kf
  have hD := h.dat
  have hDs := hD.sum
  have hDl := hD.lt
  have hDc := hD.cover
  have hle := hD.le
  have hsl := hD.selL next gl val hσ
  rw [a5] at hDs hDl hDc hle
  rw [a6] at hDs hDc
  have bk : bT (τ k) = 1 := by unfold bT; rw [k4]; rfl
  have hbk : 1 ≤ S bT τ gs.size := bk ▸ le_sumTo (f := fun j => bT (τ j)) hk
  obtain ⟨σ, hsσ, c1, c2, c3, c4, c5, c6, c7, c8, c9, c10, c11, c12, c13, c14, c15, c16, c17, c18, c19, c20, c21⟩ := After.tag hs0 hle (by simp only [List.length_cons]; omega)
  have hI := h.inv.two hE m hu hk hk0 (fun n => ⟨a11 n, k7 n⟩) (x0 := ⟨(x 0).A, (x 0).M, g0, w'⟩) (xk := ⟨E.Base, no, gk, w'⟩) (σ0 := σ) (σk := .rc) (fun b hb => .inr hb) (fun b hb => hb) (fun b hb => .inl hb) (fun b hb => hb.elim) hsσ ⟨rfl, Rely.refl _ _, hsk⟩
    (fun n => ⟨c12 n, fun e => (by cases e)⟩) (c9.trans a9.symm) k5.symm c10 rfl (c11.trans a10.symm) k6.symm (fun hc => (by cases hc)) (fun _ _ _ e => by cases e)
  obtain ⟨t0, tk, tj⟩ := two_get (τ := τ) hk0 σ .rc
  have sum := fun φ => two_sum (τ := τ) hk hk0 σ .rc φ
  have hsz : ((gs.setIfInBounds 0 g0).setIfInBounds k gk).size = gs.size := by simp
  have sc : S cT (upd (upd τ 0 σ) k .rc) gs.size = S cT τ gs.size := by have := sum cT; rw [a1, k1, c1] at this; simp only [cT] at this; exact (by omega)
  have sl' : S lT (upd (upd τ 0 σ) k .rc) gs.size = S lT τ gs.size := by have := sum lT; rw [a2, k2, c2] at this; simp only [lT] at this; exact (by omega)
  have sg : S gT (upd (upd τ 0 σ) k .rc) gs.size = S gT τ gs.size := by have := sum gT; rw [a3, k3, c3] at this; simp only [gT] at this; exact (by omega)
  have b0 : bT (τ 0) = 0 := by unfold bT; rw [a4]; rfl
  have bσ : bT σ = 0 := by unfold bT; rw [c4]; rfl
  have sb : S bT (upd (upd τ 0 σ) k .rc) gs.size + 1 = S bT τ gs.size := by have := sum bT; rw [b0, bk, bσ, show bT .rc = 0 from rfl] at this; omega
  have hMM : ∀ j b, (upd (upd x 0 ⟨(x 0).A, (x 0).M, g0, w'⟩) k ⟨E.Base, no, gk, w'⟩ j).M b → (x j).M b := fun j b hb => by
    by_cases hjk : j = k
    · subst hjk; rw [upd_same] at hb; exact hb.elim
    · rw [upd_ne _ _ hjk] at hb
      by_cases hj0 : j = 0
      · subst hj0; rw [upd_same] at hb; exact hb
      · rw [upd_ne _ _ hj0] at hb; exact hb
  have hMM2 : ∀ j b, (upd (upd x 0 ⟨(x 0).A, (x 0).M, g0, w'⟩) k ⟨E.Base, no, gk, w'⟩ j).M b → (upd x k ⟨E.Base, no, gk, w'⟩ j).M b := fun j b hb => by
    by_cases hjk : j = k
    · subst hjk; rw [upd_same] at hb ⊢; exact hb
    · have := hMM j b hb
      rw [upd_ne _ _ hjk]; exact this
  refine ⟨_, _, ⟨hI, (m.aside _ hE.wn hE.wd).trans h.wg, ?_, ?_, ⟨?_, ?_, fun j hj a' ha => ?_, fun a' ha => ?_, fun a' b c hh => ?_, fun hf => (by rw [t0] at hf; rw [t0, c6]; exact c21 hf), fun hp j hjb hj => ?_, fun hp => ?_, ?_, fun a' b c hh => ?_, fun a' b c hh => ?_⟩, fun j a' v' e' hj hh => ?_, fun a' ha => ?_, fun hp => ?_, fun a' b hh => ?_, fun j hj n hn => ?_⟩, ?_⟩
  · rw [hsz, t0, sc, sl', sg]; exact c14 _ _ _ _ _ (a14 _ _ _ _ _ h.grp)
  · rw [hsz, t0, sc]; exact c15 _ (a15 _ h.cb)
  · rw [hsz, t0, c5, c6]; simp only [List.length_cons]; omega
  · rw [t0, c5]; exact hle
  · rw [t0, c5]
    by_cases hj0 : j = 0
    · subst hj0; rw [t0, c4] at ha; cases ha
    · by_cases hjk : j = k
      · subst hjk; rw [tk] at ha; cases ha
      · rw [tj j hj0 hjk] at ha; exact hDl j (hsz ▸ hj) a' ha
  · rw [t0, c5] at ha
    rw [t0, c6]
    rcases hDc a' ha with hin | ⟨j, hj, hb⟩
    · exact .inl (List.mem_cons_of_mem _ hin)
    · by_cases hjk : j = k
      · subst hjk; rw [k4] at hb; cases hb; exact .inl (List.mem_cons_self)
      · have hj0 : j ≠ 0 := fun e => by rw [e, a4] at hb; cases hb
        exact .inr ⟨j, hsz ▸ hj, by rw [tj j hj0 hjk]; exact hb⟩
  · rw [t0] at hh
    rcases hh with hh | hh
    · exact c18 a' b c hh
    · exact absurd hh (c17 a' b c)
  · have hE0 := hE.b0
    have hj0 : j ≠ 0 := by omega
    by_cases hjk : j = k
    · subst hjk; rw [tk]; rfl
    · rw [tj j hj0 hjk]; exact hD.early a8 j hjb (hsz ▸ hj)
  · rw [t0, c8] at hp; cases hp
  · rw [t0, c8]
  · rw [t0] at hh; exact absurd hh (c17 a' b c)
  · rw [t0] at hh; exact absurd hh (c17 a' b c)
  · by_cases hj0 : j = 0
    · subst hj0; rw [t0] at hh
      exact absurd (by rw [hh]; rfl : busy σ = some a') (by rw [c4]; simp)
    · by_cases hjk : j = k
      · subst hjk; rw [tk] at hh; cases hh
      · rw [tj j hj0 hjk] at hh
        exact res_put hE m hMM (h.snd j a' v' e' (hsz ▸ hj) hh)
  · rw [t0, c6] at ha
    rw [t0, c7]
    by_cases hae : a' = a
    · subst hae
      simp only [if_true]
      exact res_put hE m hMM2 hres
    · simp only [if_neg hae]
      have hin : a' ∈ gl := (List.mem_cons.1 ha.1).resolve_left hae
      have := h.res a' ⟨by rw [a6]; exact hin, ha.2⟩
      rw [a7] at this
      exact res_put hE m hMM this
  · rw [t0, c8] at hp; cases hp
  · rw [t0] at hh; exact absurd hh (c19 a' b)
  · by_cases hj0 : j = 0
    · subst hj0; rw [t0] at hn; exact absurd hn (c20 n)
    · by_cases hjk : j = k
      · subst hjk; rw [tk] at hn; rcases hn with hn | hn | hn | hn | hn <;> cases hn
      · rw [tj j hj0 hjk] at hn; exact h.ln j (hsz ▸ hj) n hn
  · unfold wei
    rw [sc, t0, a16, c16]
    have h1 := sum (wT E.n)
    have e2 : wT E.n .rc = 1302 := rfl
    rw [e2] at h1
    simp only [List.length_cons] at c13
    omega
end
end Mc
end Go.Proofs.YtbkjjknlphlhlaaDoor
