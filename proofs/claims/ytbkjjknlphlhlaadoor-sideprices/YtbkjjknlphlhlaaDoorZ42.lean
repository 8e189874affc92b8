/- One call of 'each': a worker is started. -/
import Derived.Test.YtbkjjknlphlhlaaDoorZ41
namespace Go.Proofs.YtbkjjknlphlhlaaDoor
namespace Mc
open Go.Conc Go.ConcN Hd Sim Wy Ev Ms
open Go.ConcR (KK WgAt stA smA g_of_ofEvents)
set_option maxRecDepth 100000

section
variable {P : Program} {E : Env} {F : Fam} {gs : Array Goroutine} {w : World} {t : Trace} {own : Nat → Nat} {x : Nat → Pt} {τ : Nat → Tag} {cl : Bool} {st sm : Int} {sl : Option (Nat × Nat)} {i : Nat} {g : Goroutine}
/-- What the main is at behind a go statement, and what is asked of that. -/
structure NextTag (E : Env) (F : Fam) (r : Nat) (σ : Tag) : Prop where
  c : cT σ = 0
  l : lT σ = 0
  g : gT σ = 0
  b : busy σ = none
  d : deafT σ = 0
  m : isMain σ = true
  nx : nxT E.n σ = 0
  gl : glT σ = []
  post : postT σ = false
  full : fullT σ = true → E.n = 0
  grp : ∀ (C L G : Nat) (st sm : Int), L = 0 ∧ G = 0 ∧ st = (C : Int) * KK ∧ sm = 0 → Grp σ C L G st sm
  cb : ∀ C, C + r = F.kw → Cb F.kw σ C
  noP : ∀ a b c, σ ≠ .selP a b c
  sel : ∀ a b c, σ = .sel a b c → b.length < E.n
  noB : ∀ a b, σ ≠ .wsB a b
  ln : ∀ n, ¬ (σ = .ds n ∨ σ = .sb n ∨ σ = .l1 n ∨ σ = .l2 n ∨ σ = .l3 n)
  wt : ∀ C, wT E.n σ + 1302 + ct3 σ C < wT E.n (.m4 r) + 3 * C
  noq : ∀ n, σ ≠ .quit n
theorem next_tag {r : Nat} {g' : Goroutine} (h : NextM P E F r g' w) : ∃ σ, NextTag E F r σ ∧ Sit P E F σ ⟨no, no, g', w⟩ g' w := by
  cases r with
  | zero =>
    obtain ⟨val, h⟩ := h
    unfold After at h
    by_cases hn : ([] : List Nat).length = E.n
    · rw [if_pos hn] at h
      refine ⟨.clo [] val, ⟨rfl, rfl, rfl, rfl, rfl, rfl, hn.symm, rfl, rfl, fun _ => hn.symm, fun _ _ _ _ _ h => h, fun C h => h, fun _ _ _ e => (by cases e), fun _ _ _ e => (by cases e), fun _ _ e => (by cases e), fun n e => (by rcases e with e | e | e | e | e <;> cases e), fun C => ?_, fun _ e => (by cases e)⟩, rfl, Rely.refl _ _, h⟩
      simp only [wT, ct3]; omega
    · rw [if_neg hn] at h
      refine ⟨.sel 0 [] val, ⟨rfl, rfl, rfl, rfl, rfl, rfl, rfl, rfl, rfl, fun e => (by cases e), fun _ _ _ _ _ h => h, fun C h => h, fun _ _ _ e => (by cases e), fun _ _ _ e => (by cases e; simp at hn ⊢; omega), fun _ _ e => (by cases e), fun n e => (by rcases e with e | e | e | e | e <;> cases e), fun C => ?_, fun _ e => (by cases e)⟩, rfl, Rely.refl _ _, h⟩
      simp only [wT, ct3, List.length_nil]; omega
  | succ r =>
    refine ⟨.m1 r, ⟨rfl, rfl, rfl, rfl, rfl, rfl, rfl, rfl, rfl, fun e => (by cases e), fun _ _ _ _ _ h => h, fun C h => h, fun _ _ _ e => (by cases e), fun _ _ _ e => (by cases e), fun _ _ e => (by cases e), fun n e => (by rcases e with e | e | e | e | e <;> cases e), fun C => ?_, fun _ e => (by cases e)⟩, rfl, Rely.refl _ _, h⟩
    simp only [wT, ct3]; omega

/-- ████ ████ -/
theorem at_m4 (hE : E.Ok) (h : All P E F gs w t own x τ cl st sm) (hi : gs[0]? = some g) {r : Nat} (hτ : τ 0 = .m4 r) {A M : Nat → Prop} (hs : SM4 P E F (NextM P E F r) A M g w) : Out P E F gs w sl t x τ 0 := by
  obtain ⟨_, g', child, hst, hk⟩ := hs
  obtain ⟨hchild, hnext⟩ := hk w h.inv.kn
  obtain ⟨σ, N, hσ⟩ := next_tag hnext
  have hlt : 0 < gs.size := (Array.getElem?_eq_some_iff.1 hi).1
  have hb := h.inv.b0
  have hE0 := hE.b0
  have hH := h.inv
  have hD := h.dat
  have hg := h.grp
  have hc := h.cb
  have hDs := hD.sum
  have hDl := hD.lt
  have hDcl := hD.cl
  have hDe := hD.early
  rw [hτ] at hg hc hDs hDl hDcl hDe
  have hc : S cT τ gs.size + r = F.kw := hc
  have hcl : cl = false := hDcl.symm
  have hd0 : Deaf t 0 = 0 := by have := hH.deaf 0 g hi; rw [hτ] at this; exact this
  let X : MemOp := { g := 0, fn := g.frame.fn, pos := g.frame.place, act := .go gs.size }
  let Y : MemOp := { g := gs.size, fn := child.frame.fn, pos := g.frame.place, act := .start }
  have hrun := runT_crowd_spawn (P := P) (sl := sl) (i := 0) hi (hst w hH.kn)
  have hops : ((MemOp.ofEvents 0 g.frame.fn g.frame.place #[]).push X).push Y = #[X, Y] := by rw [ofEvents_eq]; simp
  have hrun : runT P (crowd gs w sl) 0 = (.next (crowd ((gs.setIfInBounds 0 g').push child) w sl), #[X, Y]) := hrun.trans (by rw [← hops])
  have hsz : ((gs.setIfInBounds 0 g').push child).size = gs.size + 1 := by simp
  have hdeaf : ∀ k, Deaf (t ++ #[X, Y]) k = Deaf t k := fun k => Go.ConcN.Deaf_still t k _ fun op hop => by
    simp only [List.mem_toArray, List.mem_cons, List.not_mem_nil, or_false] at hop
    rcases hop with rfl | rfl
    · exact ⟨by simp [X], by simp [X]⟩
    · exact ⟨by simp [Y], by simp [Y]⟩
  have htr : Tr E own w.heap.size (t ++ #[X, Y]) gs.size := by
    have e : gs.size - 1 + 1 = gs.size := by omega
    have := hH.tr.fork hE (x := X) (y := Y) ⟨rfl, by show MemAct.go gs.size = _; rw [e]⟩ ⟨e.symm, rfl⟩ hd0
    rwa [e] at this
  let x2 : Nat → Pt := fun k => if k = 0 then ⟨no, no, g', w⟩ else if k = gs.size then ⟨E.Base, no, child, w⟩ else x k
  let τ2 : Nat → Tag := fun k => if k = 0 then σ else if k = gs.size then .rc else τ k
  have t0 : τ2 0 = σ := rfl
  have tn : τ2 gs.size = .rc := by show (if _ then _ else if _ then _ else _) = _; rw [if_neg (by omega), if_pos rfl]
  have tk : ∀ k, k ≠ 0 → k ≠ gs.size → τ2 k = τ k := fun k h1 h2 => by show (if _ then _ else if _ then _ else _) = _; rw [if_neg h1, if_neg h2]
  have x0 : x2 0 = ⟨no, no, g', w⟩ := rfl
  have xn : x2 gs.size = ⟨E.Base, no, child, w⟩ := by show (if _ then _ else if _ then _ else _) = _; rw [if_neg (by omega), if_pos rfl]
  have xk : ∀ k, k ≠ 0 → k ≠ gs.size → x2 k = x k := fun k h1 h2 => by show (if _ then _ else if _ then _ else _) = _; rw [if_neg h1, if_neg h2]
  have get : ∀ k o, ((gs.setIfInBounds 0 g').push child)[k]? = some o → (k = 0 ∧ o = g') ∨ (k = gs.size ∧ o = child) ∨ (k ≠ 0 ∧ k ≠ gs.size ∧ gs[k]? = some o) := fun k o ho => by
    rw [Array.getElem?_push] at ho
    simp only [Array.size_setIfInBounds] at ho
    split at ho
    · next e => exact .inr (.inl ⟨e, by cases ho; rfl⟩)
    · next e =>
      by_cases h0 : k = 0
      · subst h0
        rw [Array.getElem?_setIfInBounds_self_of_lt hlt] at ho
        exact .inl ⟨rfl, by cases ho; rfl⟩
      · rw [Array.getElem?_setIfInBounds_ne (Ne.symm h0)] at ho
        exact .inr (.inr ⟨h0, e, ho⟩)
  have sums : ∀ φ : Tag → Nat, S φ τ2 (gs.size + 1) + φ (.m4 r) = S φ τ gs.size + φ σ + φ .rc := fun φ => by
    have e1 : S φ τ2 gs.size = sumTo gs.size fun k => φ (upd τ 0 σ k) := sumTo_congr fun k hk => by
      by_cases h0 : k = 0
      · subst h0; rw [upd_same, t0]
      · rw [upd_ne τ σ h0, tk k h0 (by omega)]
    have e2 : (sumTo gs.size fun k => φ (upd τ 0 σ k)) + φ (.m4 r) = S φ τ gs.size + φ σ := by
      have := sumTo_upd τ σ φ hlt
      rw [hτ] at this
      exact this
    have e3 : S φ τ2 (gs.size + 1) = S φ τ2 gs.size + φ .rc := by
      show S φ τ2 gs.size + φ (τ2 gs.size) = _
      rw [tn]
    omega
  have sc : S cT τ2 (gs.size + 1) = S cT τ gs.size := by have := sums cT; rw [N.c] at this; simp only [cT] at this; omega
  have sL : S lT τ2 (gs.size + 1) = S lT τ gs.size := by have := sums lT; rw [N.l] at this; simp only [lT] at this; omega
  have sG : S gT τ2 (gs.size + 1) = S gT τ gs.size := by have := sums gT; rw [N.g] at this; simp only [gT] at this; omega
  have bs : bT σ = 0 := by unfold bT; rw [N.b]; rfl
  have sb : S bT τ2 (gs.size + 1) = S bT τ gs.size := by
    have := sums bT
    rw [bs, show bT (.m4 r) = 0 from rfl, show bT .rc = 0 from rfl] at this
    omega
  have nobusy : ∀ k, k < gs.size → busy (τ k) = none := fun k hk => by
    cases hbz : busy (τ k) with
    | none => rfl
    | some a => exact absurd (hDl k hk a hbz) (by simp [nxT])
  have nobusy2 : ∀ k, k < gs.size + 1 → busy (τ2 k) = none := fun k hk => by
    by_cases h0 : k = 0
    · subst h0; exact N.b
    · by_cases hn : k = gs.size
      · subst hn; rw [tn]; rfl
      · rw [tk k h0 hn]; exact nobusy k (by omega)
  have hI : Inv P E F ((gs.setIfInBounds 0 g').push child) w (t ++ #[X, Y]) own x2 τ2 cl := by
    refine ⟨by rw [hsz]; omega, hH.kn, by rw [hsz]; exact htr, hH.cn, hH.cd, fun k b hb => ?_, fun k b hb => ?_, fun k o ho => ?_, fun k o ho => ?_, fun k hkb hks hr => ?_, fun k hks => ?_, fun k hk0 hkb => ?_, fun hc => ?_, fun k hks => ?_⟩
    · by_cases h0 : k = 0
      · subst h0; exact hb.elim
      · by_cases hn : k = gs.size
        · subst hn; rw [xn] at hb; exact .inl hb
        · rw [xk k h0 hn] at hb; exact hH.inA k b hb
    · by_cases h0 : k = 0
      · subst h0; exact hb.elim
      · by_cases hn : k = gs.size
        · subst hn; rw [xn] at hb; exact hb.elim
        · rw [xk k h0 hn] at hb; exact hH.inM k b hb
    · rcases get k o ho with ⟨rfl, rfl⟩ | ⟨rfl, rfl⟩ | ⟨h0, hn, ho⟩
      · exact hσ
      · rw [tn, xn]; exact ⟨rfl, Rely.refl _ _, hchild⟩
      · rw [tk k h0 hn, xk k h0 hn]; exact hH.sit k o ho
    · rcases get k o ho with ⟨rfl, rfl⟩ | ⟨rfl, rfl⟩ | ⟨h0, hn, ho⟩
      · exact deafok_of (by rw [hdeaf, hd0]; exact N.d.symm) N.noq
      · rw [tn]; show Deaf _ _ = 0; rw [hdeaf]; exact hH.new _ (Nat.le_refl _)
      · rw [tk k h0 hn]
        have := hH.deaf k o ho
        cases hτk : τ k <;> rw [hτk] at this <;> first | exact (hdeaf k).trans this | (show QuitsD P _ _ _; rw [hdeaf]; exact this)
    · rw [hsz] at hks
      by_cases hn : k = gs.size
      · subst hn; rw [tn] at hr; cases hr
      · have h0 : k ≠ 0 := by omega
        rw [tk k h0 hn] at hr
        obtain ⟨q, hq⟩ := hH.rel k hkb (by omega) hr
        refine ⟨q, hq.app fun j hj hgj => ?_⟩
        obtain ⟨op, ho, hog⟩ := Option.map_eq_some_iff.1 hgj
        rcases getElem?_append_cases ho with ⟨hlt, _⟩ | ⟨_, hou⟩
        · omega
        · simp only [List.mem_toArray, List.mem_cons, List.not_mem_nil, or_false] at hou
          rcases hou with rfl | rfl
          · exact absurd hog (Ne.symm h0)
          · exact absurd hog (Ne.symm hn)
    · rw [hsz] at hks
      by_cases h0 : k = 0
      · subst h0; rw [t0, N.m]; simp
      · by_cases hn : k = gs.size
        · subst hn; rw [tn]; simp only [isMain]; constructor
          · intro e; cases e
          · intro e; omega
        · rw [tk k h0 hn]; exact hH.mn k (by omega)
    · rw [tk k hk0 (by omega)]; exact hH.old k hk0 hkb
    · rw [hcl] at hc; cases hc
    · rw [hsz] at hks
      rw [hdeaf]; exact hH.new k (by omega)
  refine ⟨_, _, hrun, .inr ⟨_, _, _, _, _, _, _, _, _, rfl, ⟨hI, h.wg, ?_, ?_, ⟨?_, ?_, fun k hk a ha => ?_, fun a ha => ?_, fun a b c hh => ?_, fun hf => by rw [t0] at hf; rw [t0, N.gl]; exact (N.full hf).symm, fun hp k hkb hk => ?_, fun hp => ?_, ?_, fun a b c hh => ?_, fun a b c hh => ?_⟩, fun k a v e hk hh => ?_, fun a ha => ?_, fun hp => ?_, fun a b hh => ?_, fun k hk n hn => ?_⟩, .inl ?_⟩⟩
  · rw [hsz, t0, sc, sL, sG]; exact N.grp _ _ _ _ _ hg
  · rw [hsz, t0, sc]; exact N.cb _ hc
  · rw [hsz, sb, t0, N.gl, N.nx]; exact hDs
  · rw [t0, N.nx]; exact Nat.zero_le _
  · rw [nobusy2 k (hsz ▸ hk)] at ha; cases ha
  · rw [t0, N.nx] at ha; omega
  · rw [t0] at hh
    rcases hh with hh | hh
    · exact N.sel a b c hh
    · exact absurd hh (N.noP a b c)
  · rw [hsz] at hk
    by_cases hn : k = gs.size
    · subst hn; rw [tn]; rfl
    · rw [tk k (by omega) hn]; exact hDe rfl k hkb (by omega)
  · rw [t0, N.post] at hp; cases hp
  · rw [t0, N.post, hcl]
  · exact absurd hh (N.noP a b c)
  · exact absurd hh (N.noP a b c)
  · have := nobusy2 k (hsz ▸ hk)
    rw [hh] at this; cases this
  · rw [t0, N.gl] at ha; cases ha.1
  · rw [t0, N.post] at hp; cases hp
  · exact absurd hh (N.noB a b)
  · rw [hsz] at hk
    by_cases h0 : k = 0
    · subst h0; exact absurd hn (N.ln n)
    · by_cases hkn : k = gs.size
      · subst hkn; rw [tn] at hn; rcases hn with hn | hn | hn | hn | hn <;> cases hn
      · rw [tk k h0 hkn] at hn; exact h.ln k (by omega) n hn
  · rw [hsz]
    unfold wei
    rw [sc, t0, hτ]
    have h1 := sums (wT E.n)
    have h2 := N.wt (S cT τ gs.size)
    have e3 : ct3 (.m4 r) (S cT τ gs.size) = 3 * S cT τ gs.size := rfl
    have e4 : wT E.n .rc = 1302 := rfl
    rw [e3]
    rw [e4] at h1
    omega
end
end Mc
end Go.Proofs.YtbkjjknlphlhlaaDoor
namespace Go.Proofs.YtbkjjknlphlhlaaDoor
namespace Mc
open Go.Conc Go.ConcN Hd Sim Wy Ev Ms Cm
open Go.ConcR (KK WgAt stA smA g_of_ofEvents)
set_option maxRecDepth 100000

section
variable {P : Program} {E : Env} {F : Fam} {gs : Array Goroutine} {w : World} {t : Trace} {own : Nat → Nat} {x : Nat → Pt} {τ : Nat → Tag} {cl : Bool} {st sm : Int} {sl : Option (Nat × Nat)} {i : Nat} {g : Goroutine}
theorem mem_offers {g : Goroutine} {cs : Array CommCase} {sh : CommShape} {r q : Nat} {b : Bool} : q ∈ offersAt (parked g cs sh) r b ↔ ∃ c, cs[q]? = some c ∧ c.send.isSome = b ∧ c.chan = .chan (some r) := by
  unfold offersAt parked
  simp only [List.mem_map, List.mem_filter, Prod.exists]
  constructor
  · rintro ⟨c, k, ⟨hm, hp⟩, rfl⟩
    have := Array.mem_zipIdx_iff_getElem?.1 (Array.mem_toList_iff.1 hm)
    simp only [Bool.and_eq_true, beq_iff_eq] at hp
    refine ⟨c, by simpa using this, hp.1, ?_⟩
    cases hc : c.chan with
    | chan o =>
      cases o with
      | none => rw [hc] at hp; simp at hp
      | some r' => rw [hc] at hp; simp at hp; rw [hp.2]
    | _ => rw [hc] at hp; simp at hp
  · rintro ⟨c, h1, h2, h3⟩
    exact ⟨c, q, ⟨Array.mem_toList_iff.2 (Array.mem_zipIdx_iff_getElem?.2 (by simpa using h1)), by simp [h2, h3]⟩, rfl⟩
theorem offers_sel {next : Nat} {g : Goroutine} {r q : Nat} {b : Bool} (h : q ∈ offersAt (parked g (selCases E F next) F.sh) r b) : (r = E.cn ∧ b = true ∧ q = 0 ∧ next < E.n) ∨ (r = E.cd ∧ b = false ∧ q = 1) := by
  obtain ⟨c, h1, h2, h3⟩ := mem_offers.1 h
  unfold selCases at h1
  rcases q with _ | _ | q
  · simp only [List.getElem?_toArray, List.getElem?_cons_zero, Option.some.injEq] at h1
    subst h1
    split at h3
    · next hn =>
      rw [if_pos hn] at h2
      simp only [scase, Value.chan.injEq, Option.some.injEq] at h3
      exact .inl ⟨h3.symm, h2.symm, rfl, hn⟩
    · simp at h3
  · simp only [List.getElem?_toArray, List.getElem?_cons_succ, List.getElem?_cons_zero, Option.some.injEq] at h1
    subst h1
    simp only [rcase, Value.chan.injEq, Option.some.injEq] at h3
    exact .inr ⟨h3.symm, h2.symm, rfl⟩
  · simp at h1
/-- Whoever offers something: what. -/
theorem offers_class (hF : F.Ok P E) (h : All P E F gs w t own x τ cl st sm) {j : Nat} {o : Goroutine} (hj : gs[j]? = some o) {r q : Nat} {b : Bool} (hq : q ∈ offersAt o r b) :
    (∃ next gl val, τ j = .selP next gl val ∧ ((r = E.cn ∧ b = true ∧ q = 0 ∧ next < E.n) ∨ (r = E.cd ∧ b = false ∧ q = 1))) ∨ (τ j = .rcP ∧ r = E.cn ∧ b = false ∧ q = 0) ∨ (∃ a v e, τ j = .snP a v e ∧ r = E.cd ∧ b = true ∧ q = 0) := by
  have hs := h.inv.sit j o hj
  have hd := h.inv.deaf j o hj
  have run : o.status = .running → False := fun hr => by rw [offersAt_of_not_blocked (by rw [hr]; simp)] at hq; cases hq
  have sr := fun a b c d e => run (sit_run hF h.inv.kn hs a b c d e)
  cases hτ : τ j with
  | selP next gl val =>
    rw [hτ] at hs
    obtain ⟨rfl, _⟩ := hs
    exact .inl ⟨next, gl, val, rfl, offers_sel hq⟩
  | wsB gl val =>
    rw [hτ] at hs
    obtain ⟨rfl, _, h2⟩ := hs
    unfold offersAt at hq
    rw [h2.2.1] at hq
    cases hq
  | rcP =>
    rw [hτ] at hs
    obtain ⟨rfl, _⟩ := hs
    obtain ⟨c, h1, h2, h3⟩ := mem_offers.1 hq
    unfold rcs at h1
    rcases q with _ | q
    · simp only [List.getElem?_toArray, List.getElem?_cons_zero, Option.some.injEq] at h1
      subst h1
      simp only [rcase, Value.chan.injEq, Option.some.injEq] at h3
      exact .inr (.inl ⟨rfl, h3.symm, h2.symm, rfl⟩)
    · simp at h1
  | snP a v e =>
    rw [hτ] at hs
    obtain ⟨rfl, _⟩ := hs
    obtain ⟨c, h1, h2, h3⟩ := mem_offers.1 hq
    unfold scs at h1
    rcases q with _ | q
    · simp only [List.getElem?_toArray, List.getElem?_cons_zero, Option.some.injEq] at h1
      subst h1
      simp only [scase, Value.chan.injEq, Option.some.injEq] at h3
      exact .inr (.inr ⟨a, v, e, rfl, h3.symm, h2.symm, rfl⟩)
    · simp at h1
  | quit n =>
    rw [hτ] at hd
    have hq' : QuitsD P n (Deaf t j) o := hd
    rw [offersAt_of_not_blocked (by rcases hq'.status with e | e <;> rw [e] <;> simp)] at hq
    cases hq
  | _ => exact (sr (by rw [hτ]; simp) (by rw [hτ]; simp) (by rw [hτ]; simp) (by rw [hτ]; simp) (by rw [hτ]; simp)).elim

/-- The ways of a case on a channel that is open and holds nothing: partners all. -/
theorem ways_open {w : World} {gs : Array Goroutine} {c : CommCase} {r s rc : Nat} (hc : c.chan = .chan (some r)) (hr : w.heap[r]? = some (.chan 0 #[] false s rc false)) : ways w gs c = (partners gs r c.send.isNone).map fun (h, k) => Way.partner h k := by
  unfold ways
  rw [hc]
  dsimp only
  rw [hr]
  cases hs : c.send with
  | some v =>
    simp only [Option.isNone_some, Bool.false_eq_true, if_false]
    cases partners gs r false <;> simp
  | none =>
    simp only [Option.isNone_none]
    cases partners gs r true <;> simp
theorem mem_ways {w : World} {gs : Array Goroutine} {c : CommCase} {r s rc : Nat} (hc : c.chan = .chan (some r)) (hr : w.heap[r]? = some (.chan 0 #[] false s rc false)) {i : Nat} {y : Way} (hy : y ∈ ways w (gs.setIfInBounds i ph) c) : ∃ j q o, y = .partner j q ∧ j ≠ i ∧ gs[j]? = some o ∧ q ∈ offersAt o r c.send.isNone := by
  rw [ways_open hc hr] at hy
  obtain ⟨⟨j, q⟩, hm, rfl⟩ := List.mem_map.1 hy
  obtain ⟨o, ho, hq⟩ := mem_partners.1 hm
  rcases getElem?_stand gs i j o ho with ⟨_, rfl⟩ | ⟨hne, ho⟩
  · cases hq
  · exact ⟨j, q, o, rfl, hne, ho, hq⟩
theorem ways_ne {w : World} {gs : Array Goroutine} {c : CommCase} {r s rc : Nat} (hc : c.chan = .chan (some r)) (hr : w.heap[r]? = some (.chan 0 #[] false s rc false)) {i j q : Nat} {o : Goroutine} (hj : gs[j]? = some o) (hne : j ≠ i) (hq : q ∈ offersAt o r c.send.isNone) : ways w (gs.setIfInBounds i ph) c ≠ [] := by
  rw [ways_open hc hr]
  intro e
  have : (j, q) ∈ partners (gs.setIfInBounds i ph) r c.send.isNone := mem_partners.2 ⟨o, stand_get hne hj, hq⟩
  have := List.mem_map_of_mem (f := fun (x : Nat × Nat) => Way.partner x.1 x.2) this
  have e' : (partners (gs.setIfInBounds i ph) r c.send.isNone).map (fun (x : Nat × Nat) => Way.partner x.1 x.2) = [] := e
  rw [e'] at this
  cases this
theorem ways_none {w : World} {gs : Array Goroutine} {c : CommCase} {r s rc : Nat} (hc : c.chan = .chan (some r)) (hr : w.heap[r]? = some (.chan 0 #[] false s rc false)) {i : Nat} (h : ∀ j q o, j ≠ i → gs[j]? = some o → q ∈ offersAt o r c.send.isNone → False) : ways w (gs.setIfInBounds i ph) c = [] := by
  apply List.eq_nil_iff_forall_not_mem.2
  intro y hy
  obtain ⟨j, q, o, _, h1, h2, h3⟩ := mem_ways hc hr hy
  exact h j q o h1 h2 h3

/-- A channel's counters, and the count of draws, may have turned. -/
structure ChMove (E : Env) (w w' : World) : Prop where
  aside : ∀ b : Nat, b ≠ E.cn → b ≠ E.cd → w'.heap[b]? = w.heap[b]?
  size : w'.heap.size = w.heap.size
  tape : w'.tape = w.tape
  drawn : w.drawn ≤ w'.drawn
  os : w'.os = w.os
  output : w'.output = w.output
  cn : ∀ cl, (∃ s r, w.heap[E.cn]? = some (.chan 0 #[] cl s r false)) → ∃ s r, w'.heap[E.cn]? = some (.chan 0 #[] cl s r false)
  cd : (∃ s r, w.heap[E.cd]? = some (.chan 0 #[] false s r false)) → ∃ s r, w'.heap[E.cd]? = some (.chan 0 #[] false s r false)
theorem ChMove.refl (w : World) : ChMove E w w := ⟨fun _ _ _ => rfl, rfl, rfl, Nat.le_refl _, rfl, rfl, fun _ h => h, fun h => h⟩
theorem ChMove.kn (hE : E.Ok) {w w' : World} (m : ChMove E w w') (h : Kn E w) : Kn E w' := by
  obtain ⟨st, sm, hw⟩ := h.wg
  exact ⟨⟨st, sm, (m.aside _ hE.wn hE.wd).trans hw⟩, fun b hb => (m.aside b (hE.base b hb).2.2.1 (hE.base b hb).2.2.2.1).trans (h.base b hb), by rw [m.size]; exact h.low, m.tape.trans h.tape, m.os.trans h.os, m.output.trans h.output⟩
theorem ChMove.set (hE : E.Ok) {w : World} {d : Nat} (hd : w.drawn ≤ d) {r s rc : Nat} (hr : w.heap[r]? = some (.chan 0 #[] false s rc false)) (h : r = E.cn ∨ r = E.cd) (hcl : ∀ cl s r, w.heap[E.cn]? = some (.chan 0 #[] cl s r false) → cl = false) : ChMove E w ((w.at d).setChan r 0 #[] false (s + 1) (rc + 1) false) := by
  have hlt : r < w.heap.size := (Array.getElem?_eq_some_iff.1 hr).1
  have hs : ((w.at d).setChan r 0 #[] false (s + 1) (rc + 1) false).heap = w.heap.setIfInBounds r (.chan 0 #[] false (s + 1) (rc + 1) false) := rfl
  refine ⟨fun b h1 h2 => ?_, by rw [hs]; simp, rfl, hd, rfl, rfl, fun cl ⟨s', r', hc⟩ => ?_, fun ⟨s', r', hc⟩ => ?_⟩
  · rw [hs, Array.getElem?_setIfInBounds_ne (by rcases h with e | e <;> rw [e] <;> (intro e2; first | exact h1 e2.symm | exact h2 e2.symm))]
  · have := hcl cl s' r' hc
    subst this
    rcases h with e | e
    · subst e; exact ⟨_, _, by rw [hs, Array.getElem?_setIfInBounds_self_of_lt hlt]⟩
    · exact ⟨s', r', by rw [hs, Array.getElem?_setIfInBounds_ne (by rw [e]; exact Ne.symm hE.nd)]; exact hc⟩
  · rcases h with e | e
    · exact ⟨s', r', by rw [hs, Array.getElem?_setIfInBounds_ne (by rw [e]; exact hE.nd)]; exact hc⟩
    · subst e; exact ⟨_, _, by rw [hs, Array.getElem?_setIfInBounds_self_of_lt hlt]⟩

/-- What a communication lists. -/
structure MuteOps (n B Wg : Nat) (u : Trace) : Prop where
  touch : ∀ op ∈ u, op.act.touch? = none
  g : ∀ op ∈ u, op.g < n
  low : ∀ op ∈ u, op.act.low B
  mark : ∀ op ∈ u, ∀ m, op.act ≠ .mark m
theorem MuteOps.nil (n B Wg : Nat) : MuteOps n B Wg #[] := ⟨fun _ h => by simp at h, fun _ h => by simp at h, fun _ h => by simp at h, fun _ h => by simp at h⟩
/-- ████ One is put in its place. ████ -/
theorem Inv.put (hE : E.Ok) (h : Inv P E F gs w t own x τ cl) {w' : World} {u : Trace} (m : ChMove E w w') (hu : MuteOps gs.size w.heap.size E.Wg u) {i : Nat} (hi : i < gs.size) (hq : ∀ n, τ i ≠ .quit n) {g' : Goroutine} {x' : Pt} {τ' : Tag}
    (hA : ∀ b, x'.A b → E.Base b ∨ (x i).A b) (hM : ∀ b, x'.M b → (x i).M b) (hs : Sit P E F τ' x' g' w') (hq' : ∀ n, τ' ≠ .quit n) (hd : deafT τ' = deafT (τ i)) (hr : relT τ' = false) (hm : isMain τ' = isMain (τ i)) (hop : cl = true → ∀ a b c, τ' ≠ .selP a b c) :
    Inv P E F (gs.setIfInBounds i g') w' (t ++ u) own (upd x i x') (upd τ i τ') cl := by
  have hkn := m.kn hE h.kn
  have hsame : ∀ o, (gs.setIfInBounds i g')[i]? = some o → o = g' := fun o ho => by
    rw [Array.getElem?_setIfInBounds_self_of_lt hi] at ho
    exact (Option.some.inj ho).symm
  have hne : ∀ k, k ≠ i → (gs.setIfInBounds i g')[k]? = gs[k]? := fun k hk => Array.getElem?_setIfInBounds_ne (Ne.symm hk)
  have hdf : ∀ k, Deaf (t ++ u) k = Deaf t k := fun k => Go.ConcN.Deaf_still t k _ fun op hop => ⟨hu.mark op hop _, hu.mark op hop _⟩
  have hrely : ∀ k, Rely (x k).A w w' := fun k => by
    refine ⟨fun b hb => ?_, Nat.le_of_eq m.size.symm, m.tape, m.drawn, m.os, m.output⟩
    have := hE.cn; have := hE.cd
    rcases h.inA k b hb with hb | hb
    · exact m.aside b (hE.base b hb).2.2.1 (hE.base b hb).2.2.2.1
    · exact m.aside b (by omega) (by omega)
  have hb := h.b0
  refine ⟨by simpa using h.b0, hkn, ?_, m.cn cl h.cn, m.cd h.cd, fun k b hb => ?_, fun k b hb => ?_, fun k o ho => ?_, fun k o ho => ?_, fun k hkb hks hrel => ?_, fun k hks => ?_, fun k hk0 hkb => ?_, fun hc a b c => ?_, fun k hks => ?_⟩
  · rw [m.size]
    have := h.tr.mute (u := u) hu.touch (fun op hop => by have := hu.g op hop; omega) hu.low (fun op hop => hu.mark op hop _)
    simpa using this
  · rw [m.size]
    by_cases hki : k = i
    · subst hki
      rw [upd_same] at hb
      rcases hA b hb with hb | hb
      · exact .inl hb
      · exact h.inA k b hb
    · rw [upd_ne x x' hki] at hb; exact h.inA k b hb
  · rw [m.size]
    by_cases hki : k = i
    · subst hki
      rw [upd_same] at hb
      exact h.inM k b (hM b hb)
    · rw [upd_ne x x' hki] at hb; exact h.inM k b hb
  · by_cases hki : k = i
    · subst hki; rw [hsame o ho, upd_same, upd_same]; exact hs
    · rw [hne k hki] at ho
      rw [upd_ne x x' hki, upd_ne τ τ' hki]
      exact (h.sit k o ho).rely (hrely k)
  · by_cases hki : k = i
    · subst hki
      rw [upd_same]
      have h0 := deaf_of (h.deaf k gs[k] (Array.getElem?_eq_getElem hi)) hq
      exact deafok_of (by rw [hdf, h0]; exact hd.symm) hq'
    · rw [hne k hki] at ho
      rw [upd_ne τ τ' hki]
      have := h.deaf k o ho
      cases hτk : τ k <;> rw [hτk] at this <;> first | exact (hdf k).trans this | (show QuitsD P _ _ _; rw [hdf]; exact this)
  · by_cases hki : k = i
    · subst hki; rw [upd_same, hr] at hrel; cases hrel
    · rw [upd_ne τ τ' hki] at hrel
      obtain ⟨r, hr⟩ := h.rel k hkb (by simpa using hks) hrel
      refine ⟨r, hr.app fun j hj _ ⟨z, hz, _⟩ => ?_⟩
      obtain ⟨op, ho, hoz⟩ := touch_of hz
      rcases getElem?_append_cases ho with ⟨hlt, _⟩ | ⟨_, hou⟩
      · omega
      · rw [hu.touch op hou] at hoz; cases hoz
  · by_cases hki : k = i
    · subst hki; rw [upd_same, hm]; exact h.mn k hi
    · rw [upd_ne τ τ' hki]; exact h.mn k (by simpa using hks)
  · by_cases hki : k = i
    · subst hki
      obtain ⟨n, hn⟩ := h.old k hk0 hkb
      exact absurd hn (hq n)
    · rw [upd_ne τ τ' hki]; exact h.old k hk0 hkb
  · by_cases hki : 0 = i
    · subst hki; rw [upd_same]; exact hop hc a b c
    · rw [upd_ne τ τ' hki]; exact h.op hc a b c
  · rw [hdf]; exact h.new k (by simpa using hks)
end
end Mc
end Go.Proofs.YtbkjjknlphlhlaaDoor
namespace Go.Proofs.YtbkjjknlphlhlaaDoor
namespace Mc
open Go.Conc Go.ConcN Hd Sim Wy Ev Ms Cm
open Go.ConcR (KK WgAt stA smA g_of_ofEvents)
set_option maxRecDepth 100000

section
variable {P : Program} {E : Env} {F : Fam} {gs : Array Goroutine} {w : World} {t : Trace} {own : Nat → Nat} {x : Nat → Pt} {τ : Nat → Tag} {cl : Bool} {st sm : Int} {sl : Option (Nat × Nat)} {i : Nat} {g : Goroutine}
theorem frz_put (hE : E.Ok) {w' : World} (m : ChMove E w w') {x2 : Nat → Pt} (hM : ∀ k b, (x2 k).M b → (x k).M b) {b : Nat} (hb : Frz E x w b) : w'.heap[b]? = w.heap[b]? ∧ Frz E x2 w' b := by
  have h5 := hE.cn; have h6 := hE.cd
  rcases hb with hb | ⟨h1, h2, h3⟩
  · exact ⟨m.aside b (hE.base b hb).2.2.1 (hE.base b hb).2.2.2.1, .inl hb⟩
  · exact ⟨m.aside b (by omega) (by omega), .inr ⟨h1, by rw [m.size]; exact h2, fun k hk => h3 k (hM k b hk)⟩⟩
theorem res_put (hE : E.Ok) {w' : World} (m : ChMove E w w') {x2 : Nat → Pt} (hM : ∀ k b, (x2 k).M b → (x k).M b) {a : Nat} {v e : Value} (h : Res E x w a v e) : Res E x2 w' a v e := by
  obtain ⟨C, h1, h2⟩ := h
  exact ⟨C, fun b hb => (frz_put hE m hM (h1 b hb)).2, hE.rc C a v e w w' h2 fun b hb => (frz_put hE m hM (h1 b hb)).1⟩
theorem lst_put (hE : E.Ok) (hF : F.Ok P E) {w' : World} (m : ChMove E w w') {x2 : Nat → Pt} (hM : ∀ k b, (x2 k).M b → (x k).M b) {gl : List Nat} {val : Vals} (h : ∃ A, F.Lst gl val A w ∧ ∀ b, A b → Frz E x w b) : ∃ A, F.Lst gl val A w' ∧ ∀ b, A b → Frz E x2 w' b := by
  obtain ⟨A, h1, h2⟩ := h
  exact ⟨A, hF.lst _ _ A w w' h1 ⟨fun b hb => (frz_put hE m hM (h2 b hb)).1, Nat.le_of_eq m.size.symm, m.tape, m.drawn, m.os, m.output⟩, fun b hb => (frz_put hE m hM (h2 b hb)).2⟩
theorem upd_M {x' : Pt} (hM : ∀ b, x'.M b → (x i).M b) : ∀ k b, (upd x i x' k).M b → (x k).M b := fun k b hb => by
  by_cases hki : k = i
  · subst hki; rw [upd_same] at hb; exact hM b hb
  · rw [upd_ne x x' hki] at hb; exact hb
/-- ████ One parks, or finds the channel closed: no task changes hands. ████ -/
theorem All.put (hE : E.Ok) (hF : F.Ok P E) (h : All P E F gs w t own x τ cl st sm) {w' : World} {u : Trace} (m : ChMove E w w') (hu : MuteOps gs.size w.heap.size E.Wg u) (hi : i < gs.size) (hq : ∀ n, τ i ≠ .quit n) {g' : Goroutine} {x' : Pt} {τ' : Tag}
    (hA : ∀ b, x'.A b → E.Base b ∨ (x i).A b) (hM : ∀ b, x'.M b → (x i).M b) (hs : Sit P E F τ' x' g' w') (hq' : ∀ n, τ' ≠ .quit n) (hd : deafT τ' = deafT (τ i)) (hr : relT τ' = false) (hm : isMain τ' = isMain (τ i))
    (hbz : busy τ' = busy (τ i)) (hnx : nxT E.n τ' = nxT E.n (τ i)) (hgl : glT τ' = glT (τ i)) (hvl : valT τ' = valT (τ i)) (hpo : postT τ' = postT (τ i)) (hfu : fullT τ' = fullT (τ i)) (hc : cT τ' = cT (τ i)) (hl : lT τ' = lT (τ i)) (hg : gT τ' = gT (τ i))
    (hgrp : i = 0 → ∀ C L G st sm, Grp (τ 0) C L G st sm → Grp τ' C L G st sm) (hcb : i = 0 → ∀ C, Cb F.kw (τ 0) C → Cb F.kw τ' C) (hct : i = 0 → ∀ C, ct3 τ' C = ct3 (τ 0) C)
    (hsel : i = 0 → ∀ a b c, τ' = .sel a b c ∨ τ' = .selP a b c → b.length < E.n) (hea : postT (τ 0) = false → earlyT τ' = true ∨ i = 0) (hlate : postT (τ 0) = true → τ' ≠ .rcP) (hop : ∀ a b c, τ' = .selP a b c → cl = false)
    (hS1 : ∀ a b c, τ' = .selP a b c → ∀ k, k < gs.size → ∀ p v e, τ k ≠ .snP p v e) (hS2 : ∀ p v e, τ' = .snP p v e → ∀ a b c, τ 0 ≠ .selP a b c)
    (hR1 : ∀ a b c, τ' = .selP a b c → a < E.n → ∀ k, k < gs.size → τ k ≠ .rcP) (hR2 : τ' = .rcP → ∀ a b c, τ 0 = .selP a b c → ¬ a < E.n) (hsn : ∀ p v e, τ' = .snP p v e → Res E (upd x i x') w' p v e) (hws : ∀ a b, τ' ≠ .wsB a b) (hln : ∀ n, ¬ (τ' = .ds n ∨ τ' = .sb n ∨ τ' = .l1 n ∨ τ' = .l2 n ∨ τ' = .l3 n)) :
    All P E F (gs.setIfInBounds i g') w' (t ++ u) own (upd x i x') (upd τ i τ') cl st sm ∧ wei E (upd τ i τ') gs.size + wT E.n (τ i) = wei E τ gs.size + wT E.n τ' := by
  have hI := h.inv.put hE m hu hi hq hA hM hs hq' hd hr hm (fun hc a b c e => by have := hop a b c e; rw [hc] at this; cases this)
  have hsz : (gs.setIfInBounds i g').size = gs.size := by simp
  have hD := h.dat
  have at0 : ∀ {β : Type} (φ : Tag → β), φ τ' = φ (τ i) → φ (upd τ i τ' 0) = φ (τ 0) := fun φ hφ => by
    by_cases h0 : 0 = i
    · subst h0; rw [upd_same]; exact hφ
    · rw [upd_ne τ τ' h0]
  have nx := at0 (nxT E.n) hnx
  have gl := at0 glT hgl
  have vl := at0 valT hvl
  have po := at0 postT hpo
  have fu := at0 fullT hfu
  have busyK : ∀ k, busy (upd τ i τ' k) = busy (τ k) := fun k => by
    by_cases hki : k = i
    · subst hki; rw [upd_same]; exact hbz
    · rw [upd_ne τ τ' hki]
  have sumK : ∀ φ : Tag → Nat, φ τ' = φ (τ i) → S φ (upd τ i τ') gs.size = S φ τ gs.size := fun φ hφ => sumTo_congr fun k _ => by
    by_cases hki : k = i
    · subst hki; rw [upd_same]; exact hφ
    · rw [upd_ne τ τ' hki]
  have sc := sumK cT hc
  have sl' := sumK lT hl
  have sg := sumK gT hg
  have sb := sumK bT (by unfold bT; rw [hbz])
  have hMM := upd_M (x := x) hM
  have selP0 : ∀ a b c, upd τ i τ' 0 = .selP a b c → (i = 0 ∧ τ' = .selP a b c) ∨ (0 ≠ i ∧ τ 0 = .selP a b c) := fun a b c e => by
    by_cases h0 : 0 = i
    · subst h0; rw [upd_same] at e; exact .inl ⟨rfl, e⟩
    · rw [upd_ne τ τ' h0] at e; exact .inr ⟨h0, e⟩
  refine ⟨⟨hI, ?_, ?_, ?_, ⟨?_, ?_, fun k hk a ha => ?_, fun a ha => ?_, fun a b c hh => ?_, fun hf => by rw [fu] at hf; rw [gl]; exact hD.full hf, fun hp k hkb hk => ?_, fun hp k hk hh => ?_, ?_, fun a b c hh k hk p v e he => ?_, fun a b c hh ha k hk he => ?_⟩, fun k a v e hk hh => ?_, fun a ha => ?_, fun hp => ?_, fun a b hh => ?_, fun k hk n hn => ?_⟩, ?_⟩
  · exact (m.aside _ hE.wn hE.wd).trans h.wg
  · rw [hsz, sc, sl', sg]
    by_cases h0 : 0 = i
    · subst h0; rw [upd_same]; exact hgrp rfl _ _ _ _ _ h.grp
    · rw [upd_ne τ τ' h0]; exact h.grp
  · rw [hsz, sc]
    by_cases h0 : 0 = i
    · subst h0; rw [upd_same]; exact hcb rfl _ h.cb
    · rw [upd_ne τ τ' h0]; exact h.cb
  · rw [hsz, sb, nx, gl]; exact hD.sum
  · rw [nx]; exact hD.le
  · rw [busyK] at ha; rw [nx]; exact hD.lt k (hsz ▸ hk) a ha
  · rw [nx] at ha; rw [gl]
    refine (hD.cover a ha).imp id ?_
    rintro ⟨k, hk, hb⟩
    exact ⟨k, hsz ▸ hk, by rw [busyK]; exact hb⟩
  · by_cases h0 : 0 = i
    · subst h0; rw [upd_same] at hh; exact hsel rfl a b c hh
    · rw [upd_ne τ τ' h0] at hh; exact hD.selL a b c hh
  · rw [po] at hp
    by_cases hki : k = i
    · subst hki; rw [upd_same]
      have := hE.b0
      exact (hea hp).resolve_right (by omega)
    · rw [upd_ne τ τ' hki]; exact hD.early hp k hkb (hsz ▸ hk)
  · rw [po] at hp
    by_cases hki : k = i
    · subst hki; rw [upd_same] at hh; exact hlate hp hh
    · rw [upd_ne τ τ' hki] at hh; exact hD.late hp k (hsz ▸ hk) hh
  · rw [po]; exact hD.cl
  · rcases selP0 a b c hh with ⟨h0, h1⟩ | ⟨h0, h1⟩
    · by_cases hki : k = i
      · subst hki; rw [upd_same, h1] at he; cases he
      · rw [upd_ne τ τ' hki] at he; exact hS1 a b c h1 k (hsz ▸ hk) p v e he
    · by_cases hki : k = i
      · subst hki; rw [upd_same] at he; exact hS2 p v e he a b c h1
      · rw [upd_ne τ τ' hki] at he; exact hD.noS a b c h1 k (hsz ▸ hk) p v e he
  · rcases selP0 a b c hh with ⟨h0, h1⟩ | ⟨h0, h1⟩
    · by_cases hki : k = i
      · subst hki; rw [upd_same, h1] at he; cases he
      · rw [upd_ne τ τ' hki] at he; exact hR1 a b c h1 ha k (hsz ▸ hk) he
    · by_cases hki : k = i
      · subst hki; rw [upd_same] at he; exact hR2 he a b c h1 ha
      · rw [upd_ne τ τ' hki] at he; exact hD.noR a b c h1 ha k (hsz ▸ hk) he
  · by_cases hki : k = i
    · subst hki; rw [upd_same] at hh; exact hsn a v e hh
    · rw [upd_ne τ τ' hki] at hh
      exact res_put hE m hMM (h.snd k a v e (hsz ▸ hk) hh)
  · rw [gl] at ha; rw [vl]
    exact res_put hE m hMM (h.res a ha)
  · rw [po] at hp; rw [vl, gl]
    exact lst_put hE hF m hMM (h.lst hp)
  · by_cases h0 : 0 = i
    · subst h0; rw [upd_same] at hh; exact absurd hh (hws a b)
    · rw [upd_ne τ τ' h0] at hh; exact h.nb a b hh
  · by_cases hki : k = i
    · subst hki; rw [upd_same] at hn; exact absurd hn (hln n)
    · rw [upd_ne τ τ' hki] at hn; exact h.ln k (hsz ▸ hk) n hn
  · have h1 : S (wT E.n) (upd τ i τ') gs.size + wT E.n (τ i) = S (wT E.n) τ gs.size + wT E.n τ' := sumTo_upd τ τ' (wT E.n) hi
    have h2 : ct3 (upd τ i τ' 0) (S cT τ gs.size) = ct3 (τ 0) (S cT τ gs.size) := by
      by_cases h0 : 0 = i
      · subst h0; rw [upd_same]; exact hct rfl _
      · rw [upd_ne τ τ' h0]
    unfold wei
    rw [sc, h2]
    omega
theorem out_put {gs' : Array Goroutine} {w' : World} {own' : Nat → Nat} {x2 : Nat → Pt} {τ2 : Nat → Tag} {cl' : Bool} {st' sm' : Int} {ops : Array MemOp} (hrun : runT P (crowd gs w sl) i = (.next (crowd gs' w' sl), ops)) (hsz : gs'.size = gs.size) (hAll : All P E F gs' w' (t ++ ops) own' x2 τ2 cl' st' sm') (hw : wei E τ2 gs.size < wei E τ gs.size) : Out P E F gs w sl t x τ i :=
  ⟨_, _, hrun, .inr ⟨_, _, _, _, _, _, _, _, _, rfl, hAll, .inl (by rw [hsz]; exact hw)⟩⟩
end
end Mc
end Go.Proofs.YtbkjjknlphlhlaaDoor
