/- One call of 'each': a worker leaves. -/
import Derived.Test.YtbkjjknlphlhlaaDoorZ40
namespace Go.Proofs.YtbkjjknlphlhlaaDoor
namespace Mc
open Go.Conc Go.ConcN Hd Sim Wy Ev Ms
open Go.ConcR (KK WgAt stA smA)
set_option maxRecDepth 100000

section
variable {P : Program} {E : Env} {F : Fam} {gs : Array Goroutine} {w : World} {t : Trace} {own : Nat → Nat} {x : Nat → Pt} {τ : Nat → Tag} {cl : Bool} {st sm : Int} {sl : Option (Nat × Nat)} {i : Nat} {g : Goroutine}
/-- Behind the close: what the group's cells hold. -/
def Wait (C L G : Nat) (st sm : Int) : Prop := (1 ≤ C ∧ L = 0 ∧ G = 0 ∧ st = (C : Int) * KK + 1 ∧ sm = 0) ∨ (C = 0 ∧ L = 1 ∧ G = 0 ∧ st = 1 ∧ sm = 0) ∨ (C = 0 ∧ L = 0 ∧ G = 1 ∧ st = 0 ∧ sm = 0) ∨ (C = 0 ∧ L = 0 ∧ G = 0 ∧ st = 0 ∧ sm = 1)
theorem post_cases {τ0 : Tag} (hp : postT τ0 = true) {C L G : Nat} (hg : Grp τ0 C L G st sm) :
    (L = 0 ∧ G = 0 ∧ st = (C : Int) * KK ∧ sm = 0 ∧ ∀ C' : Nat, Grp τ0 C' 0 0 ((C' : Int) * KK) 0) ∨ (Wait C L G st sm ∧ ∀ C' L' G' st' sm', Wait C' L' G' st' sm' → Grp τ0 C' L' G' st' sm') ∨ (C = 0 ∧ L = 0 ∧ G = 0) := by
  cases τ0 <;> first
    | (cases hp; done)
    | exact .inl ⟨hg.1, hg.2.1, hg.2.2.1, hg.2.2.2, fun _ => ⟨rfl, rfl, rfl, rfl⟩⟩
    | exact .inr (.inl ⟨hg, fun _ _ _ _ _ h => h⟩)
    | exact .inr (.inr ⟨hg.1, hg.2.1, hg.2.2.1⟩)
theorem post_cb {τ0 : Tag} (hp : postT τ0 = true) {kw C C' : Nat} (h : Cb kw τ0 C) (hc : C' ≤ C) : Cb kw τ0 C' := by
  cases τ0 <;> first
    | (cases hp; done)
    | exact Nat.le_trans hc h
    | exact ⟨Nat.le_trans hc h.1, h.2⟩
theorem post_le {τ0 : Tag} (hp : postT τ0 = true) {kw C : Nat} (h : Cb kw τ0 C) : C ≤ kw := by
  cases τ0 <;> first
    | (cases hp; done)
    | exact h
    | exact Nat.le_trans h.1 h.2.1
theorem isPost (h : All P E F gs w t own x τ cl st sm) (hi : gs[i]? = some g) (hq : ∀ n, τ i ≠ .quit n) (h0 : ¬ 0 = i) (he : earlyT (τ i) = false) : postT (τ 0) = true := by
  cases hp : postT (τ 0) with
  | true => rfl
  | false =>
    have hlt := (Array.getElem?_eq_some_iff.1 hi).1
    have := h.dat.early hp i ((h.who hlt hq).1.resolve_left (Ne.symm h0)) hlt
    rw [he] at this; cases this

theorem at_sb_a (hE : E.Ok) (hF : F.Ok P E) (h : All P E F gs w t own x τ cl st sm) (hi : gs[i]? = some g) (hτ : τ i = .sb 0) (hs : GSub P E g) {k : Nat} (hk : S cT τ gs.size = k + 1) (hk16 : k ≤ 15) (g1 : S lT τ gs.size = 0) (g2 : S gT τ gs.size = 0) (g4 : sm = 0) (g3 : st = ((S cT τ gs.size : Nat) : Int) * KK) (hG : ∀ C' : Nat, Grp (τ 0) C' 0 0 ((C' : Int) * KK) 0) : Out P E F gs w sl t x τ i := by
  have h0i := isWorker h hi (by rw [hτ]; rfl)
  have hlt := (Array.getElem?_eq_some_iff.1 hi).1
  have hp := isPost h hi (fun n e => by rw [hτ] at e; cases e) h0i (by rw [hτ]; rfl)
  have hw := h.wg
  rw [g3, g4, hk] at hw
  refine h.acts hE hF hi (fun n e => by rw [hτ] at e; cases e) (main := false) (by rw [hτ]; rfl) ((hs.2 w _ h.inv.kn hw).1 k rfl hk16) (τ' := .quit 200) (fun g' w' hk hw => ⟨⟨no, no, g', w'⟩, fun b hb => hb.elim, fun b hb => hb.elim, trivial⟩) (fun t' g' w' hd hk => by rw [hτ] at hd; exact (show QuitsD P 200 (Deaf t' i) g' from hd ▸ hk)) (fun _ => by rw [hτ]; exact ⟨rfl, rfl⟩) (by rw [hτ]; refine ⟨rfl, rfl, rfl, rfl, rfl, rfl, rfl, fun h => by first | exact h | (cases h; done), fun _ _ _ h => by (cases h; done), fun _ _ _ h => by (cases h; done), fun h => by (cases h; done), fun _ _ _ h => by (cases h; done), fun k h => ?_⟩; rcases h with h | h | h | h | h <;> first | (cases h; done) | (cases h; first | exact hn | omega)) (fun C L G h1 h2 h3 => ?_) (fun C h1 => ?_) (fun C h1 => ?_) (.inl rfl)
  · rw [hτ] at h1 h2 h3
    simp only [cT, lT, gT, Nat.add_zero] at h1 h2 h3
    rw [if_neg h0i]
    obtain rfl : C = k := by omega
    obtain rfl : L = 0 := by omega
    obtain rfl : G = 0 := by omega
    exact hG C
  · rw [hτ] at h1
    simp only [cT, Nat.add_zero] at h1
    rw [if_neg h0i]
    exact post_cb hp h.cb (by omega)
  · rw [hτ] at h1 ⊢
    simp only [cT, Nat.add_zero] at h1
    rw [if_neg h0i]
    have := ct3_le (τ 0) (show C ≤ S cT τ gs.size by omega)
    simp only [wT]; omega

theorem at_sb_b (hE : E.Ok) (hF : F.Ok P E) (h : All P E F gs w t own x τ cl st sm) (hi : gs[i]? = some g) (hτ : τ i = .sb 0) (hs : GSub P E g) {k : Nat} (hk : S cT τ gs.size = k + 1) (hk16 : k ≤ 15) (g1 : S lT τ gs.size = 0) (g2 : S gT τ gs.size = 0) (g4 : sm = 0) (g3 : st = ((S cT τ gs.size : Nat) : Int) * KK + 1) (hG : ∀ C' L' G' st' sm', Wait C' L' G' st' sm' → Grp (τ 0) C' L' G' st' sm') (hk1 : 1 ≤ k) : Out P E F gs w sl t x τ i := by
  have h0i := isWorker h hi (by rw [hτ]; rfl)
  have hlt := (Array.getElem?_eq_some_iff.1 hi).1
  have hp := isPost h hi (fun n e => by rw [hτ] at e; cases e) h0i (by rw [hτ]; rfl)
  have hw := h.wg
  rw [g3, g4, hk] at hw
  refine h.acts hE hF hi (fun n e => by rw [hτ] at e; cases e) (main := false) (by rw [hτ]; rfl) ((hs.2 w _ h.inv.kn hw).2.1 k rfl hk1 hk16) (τ' := .quit 200) (fun g' w' hk hw => ⟨⟨no, no, g', w'⟩, fun b hb => hb.elim, fun b hb => hb.elim, trivial⟩) (fun t' g' w' hd hk => by rw [hτ] at hd; exact (show QuitsD P 200 (Deaf t' i) g' from hd ▸ hk)) (fun _ => by rw [hτ]; exact ⟨rfl, rfl⟩) (by rw [hτ]; refine ⟨rfl, rfl, rfl, rfl, rfl, rfl, rfl, fun h => by first | exact h | (cases h; done), fun _ _ _ h => by (cases h; done), fun _ _ _ h => by (cases h; done), fun h => by (cases h; done), fun _ _ _ h => by (cases h; done), fun k h => ?_⟩; rcases h with h | h | h | h | h <;> first | (cases h; done) | (cases h; first | exact hn | omega)) (fun C L G h1 h2 h3 => ?_) (fun C h1 => ?_) (fun C h1 => ?_) (.inl rfl)
  · rw [hτ] at h1 h2 h3
    simp only [cT, lT, gT, Nat.add_zero] at h1 h2 h3
    rw [if_neg h0i]
    obtain rfl : C = k := by omega
    exact hG _ _ _ _ _ (.inl ⟨hk1, by omega, by omega, rfl, rfl⟩)
  · rw [hτ] at h1
    simp only [cT, Nat.add_zero] at h1
    rw [if_neg h0i]
    exact post_cb hp h.cb (by omega)
  · rw [hτ] at h1 ⊢
    simp only [cT, Nat.add_zero] at h1
    rw [if_neg h0i]
    have := ct3_le (τ 0) (show C ≤ S cT τ gs.size by omega)
    simp only [wT]; omega

theorem at_sb_c (hE : E.Ok) (hF : F.Ok P E) (h : All P E F gs w t own x τ cl st sm) (hi : gs[i]? = some g) (hτ : τ i = .sb 0) (hs : GSub P E g) {k : Nat} (hk : S cT τ gs.size = k + 1) (hk16 : k ≤ 15) (g1 : S lT τ gs.size = 0) (g2 : S gT τ gs.size = 0) (g4 : sm = 0) (g3 : st = ((S cT τ gs.size : Nat) : Int) * KK + 1) (hG : ∀ C' L' G' st' sm', Wait C' L' G' st' sm' → Grp (τ 0) C' L' G' st' sm') (hk1 : k = 0) : Out P E F gs w sl t x τ i := by
  have h0i := isWorker h hi (by rw [hτ]; rfl)
  have hlt := (Array.getElem?_eq_some_iff.1 hi).1
  have hp := isPost h hi (fun n e => by rw [hτ] at e; cases e) h0i (by rw [hτ]; rfl)
  have hw := h.wg
  subst hk1
  rw [g3, g4, hk] at hw
  obtain ⟨g1x, w1, es1, e1, e2, e3, e4, n, hn, hl⟩ := (hs.2 w _ h.inv.kn hw).2.2 (by simp)
  refine h.acts hE hF hi (fun n e => by rw [hτ] at e; cases e) (main := false) (by rw [hτ]; rfl) (show Acts P E false g w 1 0 (fun g2 _ => Stl P n g2 (GL1 P E)) from ⟨g1x, w1, es1, e1, e2, e3, e4, hl⟩) (τ' := .l1 n) (fun g' w' hk hw => ⟨⟨no, no, g', w'⟩, fun b hb => hb.elim, fun b hb => hb.elim, hw⟩) (fun t' g' w' hd hk => deafok_of (hd.trans (by rw [hτ]; rfl)) (fun n e => by cases e)) (fun _ => by rw [hτ]; exact ⟨rfl, rfl⟩) (by rw [hτ]; refine ⟨rfl, rfl, rfl, rfl, rfl, rfl, rfl, fun h => by first | exact h | (cases h; done), fun _ _ _ h => by (cases h; done), fun _ _ _ h => by (cases h; done), fun h => by (cases h; done), fun _ _ _ h => by (cases h; done), fun k h => ?_⟩; rcases h with h | h | h | h | h <;> first | (cases h; done) | (cases h; first | exact hn | omega)) (fun C L G h1 h2 h3 => ?_) (fun C h1 => ?_) (fun C h1 => ?_) (.inl rfl)
  · rw [hτ] at h1 h2 h3
    simp only [cT, lT, gT, Nat.add_zero] at h1 h2 h3
    rw [if_neg h0i]
    exact hG _ _ _ _ _ (.inr (.inl ⟨by omega, by omega, by omega, rfl, rfl⟩))
  · rw [hτ] at h1
    simp only [cT, Nat.add_zero] at h1
    rw [if_neg h0i]
    exact post_cb hp h.cb (by omega)
  · rw [hτ] at h1 ⊢
    simp only [cT, Nat.add_zero] at h1
    rw [if_neg h0i]
    have := ct3_le (τ 0) (show C ≤ S cT τ gs.size by omega)
    simp only [wT]; omega

theorem at_sb (hE : E.Ok) (hF : F.Ok P E) (h : All P E F gs w t own x τ cl st sm) (hi : gs[i]? = some g) (hτ : τ i = .sb 0) (hs : GSub P E g) : Out P E F gs w sl t x τ i := by
  have h0i := isWorker h hi (by rw [hτ]; rfl)
  have hlt := (Array.getElem?_eq_some_iff.1 hi).1
  have hp := isPost h hi (fun n e => by rw [hτ] at e; cases e) h0i (by rw [hτ]; rfl)
  have hC : cT (τ i) ≤ S cT τ gs.size := le_sumTo (f := fun k => cT (τ k)) hlt
  rw [hτ] at hC
  have hC : 1 ≤ S cT τ gs.size := hC
  have hC16 := post_le hp h.cb
  have hkw := hF.kw
  obtain ⟨k, hk⟩ : ∃ k, S cT τ gs.size = k + 1 := ⟨S cT τ gs.size - 1, by omega⟩
  rcases post_cases hp h.grp with ⟨g1, g2, g3, g4, hG⟩ | ⟨(⟨g0, g1, g2, g3, g4⟩ | ⟨g0, _⟩ | ⟨g0, _⟩ | ⟨g0, _⟩), hG⟩ | ⟨g0, _⟩
  · exact at_sb_a hE hF h hi hτ hs hk (by omega) g1 g2 g4 g3 hG
  · by_cases hk1 : 1 ≤ k
    · exact at_sb_b hE hF h hi hτ hs hk (by omega) g1 g2 g4 g3 hG hk1
    · exact at_sb_c hE hF h hi hτ hs hk (by omega) g1 g2 g4 g3 hG (by omega)
  · omega
  · omega
  · omega
  · omega

theorem at_l1 (hE : E.Ok) (hF : F.Ok P E) (h : All P E F gs w t own x τ cl st sm) (hi : gs[i]? = some g) (hτ : τ i = .l1 0) (hs : GL1 P E g) : Out P E F gs w sl t x τ i := by
  have h0i := isWorker h hi (by rw [hτ]; rfl)
  have hlt := (Array.getElem?_eq_some_iff.1 hi).1
  have hp := isPost h hi (fun n e => by rw [hτ] at e; cases e) h0i (by rw [hτ]; rfl)
  have hw := h.wg
  have hC : lT (τ i) ≤ S lT τ gs.size := le_sumTo (f := fun k => lT (τ k)) hlt
  rw [hτ] at hC
  have hC : 1 ≤ S lT τ gs.size := hC
  rcases post_cases hp h.grp with ⟨g1, g2, _⟩ | ⟨(⟨g0, g1, g2, g3, g4⟩ | ⟨g0, g1, g2, g3, g4⟩ | ⟨g0, g1, g2, g3, g4⟩ | ⟨g0, g1, g2, g3, g4⟩), hG⟩ | ⟨g0, g1, g2⟩
  · omega
  · omega
  · rw [g3, g4] at hw
    obtain ⟨g1x, w1, es1, e1, e2, e3, e4, n, hn, hl⟩ := hs.2 w h.inv.kn hw
    refine h.acts hE hF hi (fun n e => by rw [hτ] at e; cases e) (main := false) (by rw [hτ]; rfl) (show Acts P E false g w 1 0 (fun g2 _ => Stl P n g2 (GL2 P E)) from ⟨g1x, w1, es1, e1, e2, e3, e4, hl⟩) (τ' := .l2 n) (fun g' w' hk hw => ⟨⟨no, no, g', w'⟩, fun b hb => hb.elim, fun b hb => hb.elim, hw⟩) (fun t' g' w' hd hk => deafok_of (hd.trans (by rw [hτ]; rfl)) (fun n e => by cases e)) (fun _ => by rw [hτ]; exact ⟨rfl, rfl⟩) (by rw [hτ]; refine ⟨rfl, rfl, rfl, rfl, rfl, rfl, rfl, fun h => by first | exact h | (cases h; done), fun _ _ _ h => by (cases h; done), fun _ _ _ h => by (cases h; done), fun h => by (cases h; done), fun _ _ _ h => by (cases h; done), fun k h => ?_⟩; rcases h with h | h | h | h | h <;> first | (cases h; done) | (cases h; first | exact hn | omega)) (fun C L G h1 h2 h3 => ?_) (fun C h1 => ?_) (fun C h1 => ?_) (.inl rfl)
    · rw [hτ] at h1 h2 h3
      simp only [cT, lT, gT, Nat.add_zero] at h1 h2 h3
      rw [if_neg h0i]
      exact hG _ _ _ _ _ (.inr (.inl ⟨by omega, by omega, by omega, rfl, rfl⟩))
    · rw [hτ] at h1
      simp only [cT, Nat.add_zero] at h1
      rw [if_neg h0i]
      exact post_cb hp h.cb (by omega)
    · rw [hτ] at h1 ⊢
      simp only [cT, Nat.add_zero] at h1
      rw [if_neg h0i]
      have := ct3_le (τ 0) (show C ≤ S cT τ gs.size by omega)
      simp only [wT]; omega
  · omega
  · omega
  · omega

theorem at_l2 (hE : E.Ok) (hF : F.Ok P E) (h : All P E F gs w t own x τ cl st sm) (hi : gs[i]? = some g) (hτ : τ i = .l2 0) (hs : GL2 P E g) : Out P E F gs w sl t x τ i := by
  have h0i := isWorker h hi (by rw [hτ]; rfl)
  have hlt := (Array.getElem?_eq_some_iff.1 hi).1
  have hp := isPost h hi (fun n e => by rw [hτ] at e; cases e) h0i (by rw [hτ]; rfl)
  have hw := h.wg
  have hC : lT (τ i) ≤ S lT τ gs.size := le_sumTo (f := fun k => lT (τ k)) hlt
  rw [hτ] at hC
  have hC : 1 ≤ S lT τ gs.size := hC
  rcases post_cases hp h.grp with ⟨g1, g2, _⟩ | ⟨(⟨g0, g1, g2, g3, g4⟩ | ⟨g0, g1, g2, g3, g4⟩ | ⟨g0, g1, g2, g3, g4⟩ | ⟨g0, g1, g2, g3, g4⟩), hG⟩ | ⟨g0, g1, g2⟩
  · omega
  · omega
  · rw [g3, g4] at hw
    obtain ⟨g1x, w1, es1, e1, e2, e3, e4, n, hn, hl⟩ := hs.2 w h.inv.kn hw
    refine h.acts hE hF hi (fun n e => by rw [hτ] at e; cases e) (main := false) (by rw [hτ]; rfl) (show Acts P E false g w 0 0 (fun g2 _ => Stl P n g2 (GL3 P E)) from ⟨g1x, w1, es1, e1, e2, e3, e4, hl⟩) (τ' := .l3 n) (fun g' w' hk hw => ⟨⟨no, no, g', w'⟩, fun b hb => hb.elim, fun b hb => hb.elim, hw⟩) (fun t' g' w' hd hk => deafok_of (hd.trans (by rw [hτ]; rfl)) (fun n e => by cases e)) (fun _ => by rw [hτ]; exact ⟨rfl, rfl⟩) (by rw [hτ]; refine ⟨rfl, rfl, rfl, rfl, rfl, rfl, rfl, fun h => by first | exact h | (cases h; done), fun _ _ _ h => by (cases h; done), fun _ _ _ h => by (cases h; done), fun h => by (cases h; done), fun _ _ _ h => by (cases h; done), fun k h => ?_⟩; rcases h with h | h | h | h | h <;> first | (cases h; done) | (cases h; first | exact hn | omega)) (fun C L G h1 h2 h3 => ?_) (fun C h1 => ?_) (fun C h1 => ?_) (.inl rfl)
    · rw [hτ] at h1 h2 h3
      simp only [cT, lT, gT, Nat.add_zero] at h1 h2 h3
      rw [if_neg h0i]
      exact hG _ _ _ _ _ (.inr (.inr (.inl ⟨by omega, by omega, by omega, rfl, rfl⟩)))
    · rw [hτ] at h1
      simp only [cT, Nat.add_zero] at h1
      rw [if_neg h0i]
      exact post_cb hp h.cb (by omega)
    · rw [hτ] at h1 ⊢
      simp only [cT, Nat.add_zero] at h1
      rw [if_neg h0i]
      have := ct3_le (τ 0) (show C ≤ S cT τ gs.size by omega)
      simp only [wT]; omega
  · omega
  · omega
  · omega

theorem at_l3 (hE : E.Ok) (hF : F.Ok P E) (h : All P E F gs w t own x τ cl st sm) (hi : gs[i]? = some g) (hτ : τ i = .l3 0) (hs : GL3 P E g) : Out P E F gs w sl t x τ i := by
  have h0i := isWorker h hi (by rw [hτ]; rfl)
  have hlt := (Array.getElem?_eq_some_iff.1 hi).1
  have hp := isPost h hi (fun n e => by rw [hτ] at e; cases e) h0i (by rw [hτ]; rfl)
  have hw := h.wg
  have hC : gT (τ i) ≤ S gT τ gs.size := le_sumTo (f := fun k => gT (τ k)) hlt
  rw [hτ] at hC
  have hC : 1 ≤ S gT τ gs.size := hC
  rcases post_cases hp h.grp with ⟨g1, g2, _⟩ | ⟨(⟨g0, g1, g2, g3, g4⟩ | ⟨g0, g1, g2, g3, g4⟩ | ⟨g0, g1, g2, g3, g4⟩ | ⟨g0, g1, g2, g3, g4⟩), hG⟩ | ⟨g0, g1, g2⟩
  · omega
  · omega
  · omega
  · rw [g3, g4] at hw
    refine h.acts hE hF hi (fun n e => by rw [hτ] at e; cases e) (main := false) (by rw [hτ]; rfl) (hs.2 w h.inv.kn hw) (τ' := .quit 200) (fun g' w' hk hw => ⟨⟨no, no, g', w'⟩, fun b hb => hb.elim, fun b hb => hb.elim, trivial⟩) (fun t' g' w' hd hk => by rw [hτ] at hd; exact (show QuitsD P 200 (Deaf t' i) g' from hd ▸ hk.1)) (fun _ => by rw [hτ]; exact ⟨rfl, rfl⟩) (by rw [hτ]; refine ⟨rfl, rfl, rfl, rfl, rfl, rfl, rfl, fun h => by first | exact h | (cases h; done), fun _ _ _ h => by (cases h; done), fun _ _ _ h => by (cases h; done), fun h => by (cases h; done), fun _ _ _ h => by (cases h; done), fun k h => ?_⟩; rcases h with h | h | h | h | h <;> first | (cases h; done) | (cases h; first | exact hn | omega)) (fun C L G h1 h2 h3 => ?_) (fun C h1 => ?_) (fun C h1 => ?_) (.inr ⟨h0i, fun g' w' hk => by unfold wakes; rw [hk.2.1, hk.2.2]; rfl⟩)
    · rw [hτ] at h1 h2 h3
      simp only [cT, lT, gT, Nat.add_zero] at h1 h2 h3
      rw [if_neg h0i]
      exact hG _ _ _ _ _ (.inr (.inr (.inr ⟨by omega, by omega, by omega, rfl, rfl⟩)))
    · rw [hτ] at h1
      simp only [cT, Nat.add_zero] at h1
      rw [if_neg h0i]
      exact post_cb hp h.cb (by omega)
    · rw [hτ] at h1 ⊢
      simp only [cT, Nat.add_zero] at h1
      rw [if_neg h0i]
      have := ct3_le (τ 0) (show C ≤ S cT τ gs.size by omega)
      simp only [wT]; omega
  · omega
  · omega
end
end Mc
end Go.Proofs.YtbkjjknlphlhlaaDoor
namespace Go.Proofs.YtbkjjknlphlhlaaDoor
namespace Mc
open Go.Conc Go.ConcN Hd Sim Wy Ev Ms
open Go.ConcR (KK WgAt stA smA g_of_ofEvents)
set_option maxRecDepth 100000

section
variable {P : Program} {E : Env} {F : Fam} {gs : Array Goroutine} {w : World} {t : Trace} {own : Nat → Nat} {x : Nat → Pt} {τ : Nat → Tag} {cl : Bool} {st sm : Int} {sl : Option (Nat × Nat)} {i : Nat} {g : Goroutine}
theorem grew_self (own : Nat → Nat) (i B : Nat) : grew own i B B = own := by
  funext b; unfold grew; rw [if_neg (by omega)]
theorem mute_norel {e : Event} (h : e.mute = true) (a : Addr) : MemAct.ofEvent e ≠ .mark (.release a) := by
  obtain ⟨loc, wr, sy⟩ := e
  cases loc with
  | mark m => cases m <;> first | (cases h; done) | (intro e; cases e; done)
  | _ => cases h
theorem at_quit (hE : E.Ok) (hF : F.Ok P E) (h : All P E F gs w t own x τ cl st sm) (hi : gs[i]? = some g) {n : Nat} (hτ : τ i = .quit n) (hr : g.status = .running) : Out P E F gs w sl t x τ i := by
  have hlt : i < gs.size := (Array.getElem?_eq_some_iff.1 hi).1
  have h0i := isWorker h hi (by rw [hτ]; rfl)
  have hq : QuitsD P n (Deaf t i) g := by have := h.inv.deaf i g hi; rw [hτ] at this; exact this
  cases n with
  | zero => have := hq.1; rw [hr] at this; cases this
  | succ n =>
    rcases hq with ⟨hf, _⟩ | ⟨_, g', es, hm, hst, hq'⟩
    · rw [hr] at hf; cases hf
    have hb := h.inv.b0
    have htr : Tr E (grew own i w.heap.size w.heap.size) w.heap.size (t ++ MemOp.ofEvents i g.frame.fn g.frame.place es) (gs.size - 1) := by
      rw [grew_self]
      refine h.inv.tr.mute (fun op hop => ?_) (fun op hop => ?_) (fun op hop => ?_) (fun op hop => ?_)
      · obtain ⟨e, he, _, ha⟩ := op_of hop
        rw [ha]; exact touch_mute (hm e he)
      · obtain ⟨e, he, hg, _⟩ := op_of hop
        rw [hg]; omega
      · obtain ⟨e, he, _, ha⟩ := op_of hop
        rw [ha]; exact low_mute (hm e he) _
      · obtain ⟨e, he, _, ha⟩ := op_of hop
        rw [ha]; exact mute_norel (hm e he) _
    obtain ⟨hAll, C, hC, hwt⟩ := h.stepT hE hF hi (x' := x i) (τ' := .quit n) (.inr (.inr ⟨n, rfl⟩)) (.refl _ _) h.inv.kn htr rfl rfl (fun b hb => .inr (.inl hb)) (fun b hb => .inl hb) trivial
      (show QuitsD P n (Deaf (t ++ MemOp.ofEvents i g.frame.fn g.frame.place es) i) g' by rw [Deaf_own]; exact hq')
      (fun hb _ => by
        obtain ⟨r, hr⟩ := h.inv.rel i hb hlt (by rw [hτ]; rfl)
        exact ⟨r, hr.appOwn _ _ _ fun j e he => .inl (touch_mute (hm e (Array.mem_of_getElem? he)))⟩) h.wg
      (by rw [hτ]; exact ⟨rfl, rfl, rfl, rfl, rfl, rfl, rfl, id, fun _ _ _ e => (by cases e), fun _ _ _ e => (by cases e), fun e => (by cases e), fun _ _ _ e => (by cases e), fun k e => (by rcases e with e | e | e | e | e <;> cases e)⟩)
      (fun C L G h1 h2 h3 => by
        rw [hτ] at h1 h2 h3
        simp only [cT, lT, gT, Nat.add_zero] at h1 h2 h3
        subst h1; subst h2; subst h3
        rw [if_neg h0i]; exact h.grp)
      (fun C h1 => by
        rw [hτ] at h1
        simp only [cT, Nat.add_zero] at h1
        subst h1
        rw [if_neg h0i]; exact h.cb)
      (fun a b => ⟨fun _ e _ => h.nb a b e, fun e => absurd e h0i⟩)
    refine out_of (runT_crowd_go hi (by rw [show (i == 0) = false by simpa using Ne.symm h0i]; exact hst w)) (by simp) hAll hC hwt fun h1 => ?_
    rw [hτ] at h1 ⊢
    simp only [cT, Nat.add_zero] at h1
    subst h1
    rw [if_neg h0i]
    simp only [wT]; omega

/-- ████ The join. ████ -/
theorem at_wa (hE : E.Ok) (h : All P E F gs w t own x τ cl st sm) (hi : gs[0]? = some g) {gl : List Nat} {val : Vals} (hτ : τ 0 = .wa gl val) {A M : Nat → Prop} (hs : SWa P E F val A M g w) : Out P E F gs w sl t x τ 0 := by
  obtain ⟨_, g', hst, hk⟩ := hs
  have hfin : F.Fin val g' := hk w h.inv.kn
  have hlt : 0 < gs.size := (Array.getElem?_eq_some_iff.1 hi).1
  have hg := h.grp
  rw [hτ] at hg
  obtain ⟨g0, g1, g2, _, _⟩ := hg
  have hd0 : Deaf t 0 = 0 := by
    have := h.inv.deaf 0 g hi
    rw [hτ] at this; exact this
  have hb := h.inv.b0
  have hE0 := hE.b0
  have allq : ∀ k, 0 < k → k < gs.size → ∃ n, τ k = .quit n := fun k hk hks => by
    have c := le_sumTo (f := fun k => cT (τ k)) hks
    have l := le_sumTo (f := fun k => lT (τ k)) hks
    have gg := le_sumTo (f := fun k => gT (τ k)) hks
    have c : cT (τ k) = 0 := Nat.le_zero.1 (Nat.le_trans c (Nat.le_of_eq g0))
    have l : lT (τ k) = 0 := Nat.le_zero.1 (Nat.le_trans l (Nat.le_of_eq g1))
    have gg : gT (τ k) = 0 := Nat.le_zero.1 (Nat.le_trans gg (Nat.le_of_eq g2))
    have mm := (h.inv.mn k hks)
    cases hk' : τ k with
    | quit n => exact ⟨n, rfl⟩
    | _ =>
      rw [hk'] at c l gg mm
      first
        | (cases c; done)
        | (cases l; done)
        | (cases gg; done)
        | (have := mm.1 rfl; omega)
  let ops := MemOp.ofEvents 0 g.frame.fn g.frame.place #[Go.ConcR.mk (.acquire (stA E.Wg))]
  have eo : ops = #[{ g := 0, fn := g.frame.fn, pos := g.frame.place, act := .mark (.acquire (stA E.Wg)) }] := by
    show MemOp.ofEvents _ _ _ _ = _
    rw [ofEvents_eq]; simp [Go.ConcR.ofEvent_mk]
  have hop : (t ++ ops)[t.size]? = some { g := 0, fn := g.frame.fn, pos := g.frame.place, act := .mark (.acquire (stA E.Wg)) } := by rw [eo]; simp
  have htr : Tr E own w.heap.size (t ++ ops) (gs.size - 1) := by
    have := h.inv.tr.step hE (i := 0) (.inl rfl) (Nat.le_refl _) (fn := g.frame.fn) (pos := g.frame.place) (es := #[Go.ConcR.mk (.acquire (stA E.Wg))]) (fun e he => by
      rw [Array.mem_singleton] at he; subst he; exact .acq)
    rw [grew_self] at this; exact this
  have hdf : Deaf (t ++ ops) 0 = 0 := by
    show Deaf (t ++ MemOp.ofEvents _ _ _ _) 0 = 0
    rw [Deaf_own, hd0]; rfl
  have hoth : ∀ k, k ≠ 0 → Deaf (t ++ ops) k = Deaf t k := fun k hk => Deaf_other t (Ne.symm hk) _ g_of_ofEvents
  refine ⟨_, _, runT_crowd_go hi (hst w h.inv.kn), .inl ⟨_, _, _, rfl, ?_, ⟨fun k => match τ k with | .quit n => n | _ => 0, fun k o hk ho => ?_⟩, fun k hk => ?_, h.inv.kn, ?_⟩⟩
  · have hsz : ((gs.map (woken P g g' w)).setIfInBounds 0 g').size = gs.size - 1 + 1 := by simp; omega
    rw [hsz]
    refine htr.1.join (q := t.size) (by rw [act?_of hop]) (by simp [Trace.g?, eo]) ⟨0, by simp [Trace.g?, eo], by rw [deaf_old (Nat.le_refl _)]; exact hd0⟩ (fun k hk hkj => .inr ?_) hdf
    obtain ⟨n, hn⟩ := allq k (by omega) (by omega)
    obtain ⟨r, hr⟩ := h.inv.rel k hk (by omega) (by rw [hn]; rfl)
    exact ⟨r, hr.appOther g_of_ofEvents (by omega), lt_of_act? hr.act⟩
  · rw [Array.getElem?_setIfInBounds_ne (by omega), Array.getElem?_map] at ho
    obtain ⟨o0, h1, rfl⟩ := Option.map_eq_some_iff.1 ho
    obtain ⟨n, hn⟩ := allq k hk (Array.getElem?_eq_some_iff.1 h1).1
    have hq := h.inv.deaf k o0 h1
    rw [hn] at hq
    have hq : QuitsD P n (Deaf t k) o0 := hq
    rw [hoth k (by omega), woken_quitsD hq]
    dsimp only
    rw [hn]; exact hq
  · have hk : gs.size ≤ k := by simpa using hk
    rw [hoth k (by omega)]
    exact h.inv.new k hk
  · have hp : postT (τ 0) = true := by rw [hτ]; rfl
    obtain ⟨A, h1, h2⟩ := h.lst hp
    refine ⟨g', glT (τ 0), valT (τ 0), A, by simp [hlt], (by rw [hτ]; exact hfin), h1, fun b hb => (h2 b hb).imp id (·.1), fun a ha => ?_⟩
    have hin : a ∈ glT (τ 0) := by
      rcases h.dat.cover a (by rw [hτ]; exact ha) with hh | ⟨k, hk, hbz⟩
      · exact hh
      · by_cases hk0 : k = 0
        · subst hk0; rw [hτ] at hbz; cases hbz
        · obtain ⟨n, hn⟩ := allq k (by omega) hk
          rw [hn] at hbz; cases hbz
    obtain ⟨C, _, h4⟩ := h.res a ⟨hin, ha⟩
    exact ⟨hin, C, h4⟩

/-- ████ The close. ████ -/
theorem at_clo (hE : E.Ok) (hF : F.Ok P E) (h : All P E F gs w t own x τ cl st sm) (hi : gs[0]? = some g) {gl : List Nat} {val : Vals} (hτ : τ 0 = .clo gl val) (hs : SClo P E F gl val (x 0).A (x 0).M g w) : Out P E F gs w sl t x τ 0 := by
  obtain ⟨vl, hvl, hlst, _, hmw, g', hrun, hst, hway⟩ := hs
  have hlt : 0 < gs.size := (Array.getElem?_eq_some_iff.1 hi).1
  have hcl : cl = false := by have := h.dat.cl; rw [hτ] at this; exact this.symm
  subst hcl
  obtain ⟨s, r, hcn⟩ := h.inv.cn
  have hstep := hst w s r h.inv.kn hcn
  have hcs : E.cn < w.heap.size := Nat.lt_of_lt_of_le hE.cn h.inv.kn.low
  have away : ∀ b, b ≠ E.cn → (shut E w s r).heap[b]? = w.heap[b]? := fun b hb => by
    show (w.heap.setIfInBounds _ _)[b]? = _
    rw [Array.getElem?_setIfInBounds_ne (Ne.symm hb)]
  have hsz : (shut E w s r).heap.size = w.heap.size := by show (w.heap.setIfInBounds _ _).size = _; simp
  have mv : Moved E (x 0).M w (shut E w s r) := ⟨fun b _ _ _ hb _ => away b hb, Nat.le_of_eq hsz.symm, rfl, Nat.le_refl _, rfl, rfl⟩
  have hwg : WgAt 83 E.Wg (shut E w s r) st sm := (away _ hE.wn).trans h.wg
  have hkn : Kn E (shut E w s r) := ⟨⟨st, sm, hwg⟩, fun b hb => (away b (hE.base b hb).2.2.1).trans (h.inv.kn.base b hb), by rw [hsz]; exact h.inv.kn.low, h.inv.kn.tape, h.inv.kn.os, h.inv.kn.output⟩
  have hd0 : Deaf t 0 = 0 := by have := h.inv.deaf 0 g hi; rw [hτ] at this; exact this
  have hwk : wakes P g g' = true := by unfold wakes; rw [hmw, hrun]; rfl
  have hI := h.inv.go hE hF hi (.inl rfl) mv hkn (es := #[⟨.obj E.cn, false, true⟩, ⟨.obj E.cn, true, true⟩]) (fun e he => (by simpa using he : e = ⟨.obj E.cn, false, true⟩ ∨ e = ⟨.obj E.cn, true, true⟩).elim (fun h => h ▸ .look rfl) fun h => h ▸ .close) (cl' := true)
    ⟨s, r, by show (w.heap.setIfInBounds _ _)[_]? = _; rw [Array.getElem?_setIfInBounds_self_of_lt hcs]⟩ (by rw [away _ (Ne.symm hE.nd)]; exact h.inv.cd) (x' := ⟨no, no, g', shut E w s r⟩) (τ' := .wd gl vl)
    (fun b hb => hb.elim) (fun b hb => hb.elim) ⟨rfl, Rely.refl _ _, hway _ hkn⟩ (show Deaf _ 0 = 0 by rw [Deaf_own, hd0]; rfl) (fun hb => by have := hE.b0; omega) (by rw [hτ]; rfl) (fun _ a b c => by rw [if_pos rfl]; simp)
  rw [hwk] at hI
  have hI : Inv P E F _ _ _ _ _ (nxtT τ 0 (.wd gl vl) true true) true := hI
  have isI : nxtT τ 0 (.wd gl vl) true true 0 = .wd gl vl := rfl
  have isK : ∀ k, k ≠ 0 → nxtT τ 0 (.wd gl vl) true true k = wk1 true true (τ k) := fun k hk => if_neg hk
  have hG2 : ((gs.map (woken P g g' (shut E w s r))).setIfInBounds 0 g').size = gs.size := by simp
  have sc := S_nxt cT_wk (τ := τ) hlt (.wd gl vl) true true
  have sl' := S_nxt lT_wk (τ := τ) hlt (.wd gl vl) true true
  have sg := S_nxt gT_wk (τ := τ) hlt (.wd gl vl) true true
  have sb := S_nxt bT_wk (τ := τ) hlt (.wd gl vl) true true
  rw [hτ] at sc sl' sg sb
  have sc : S cT (nxtT τ 0 (.wd gl vl) true true) gs.size = S cT τ gs.size := sc
  have sl' : S lT (nxtT τ 0 (.wd gl vl) true true) gs.size = S lT τ gs.size := sl'
  have sg : S gT (nxtT τ 0 (.wd gl vl) true true) gs.size = S gT τ gs.size := sg
  have sb : S bT (nxtT τ 0 (.wd gl vl) true true) gs.size = S bT τ gs.size := sb
  have hg := h.grp
  have hc := h.cb
  have hD := h.dat
  have hDs := hD.sum
  have hDl := hD.lt
  have hDc := hD.cover
  rw [hτ] at hg hc hDs hDl hDc
  have busyK : ∀ k, busy (nxtT τ 0 (.wd gl vl) true true k) = busy (τ k) := fun k => by
    by_cases hk : k = 0
    · subst hk; rw [isI, hτ]; rfl
    · rw [isK k hk]; exact busy_wk _ _ _
  have hin : ∀ b, (x 0).M b → E.Low ≤ b := fun b hb => (h.inv.inM 0 b hb).1
  have hM : ∀ b, (⟨no, no, g', shut E w s r⟩ : Pt).M b → (x 0).M b ∨ (w.heap.size ≤ b ∧ b < (shut E w s r).heap.size) := fun b hb => hb.elim
  refine ⟨_, _, runT_crowd_go hi hstep, .inr ⟨_, _, _, _, _, _, _, _, _, rfl, ⟨hI, hwg, ?_, ?_, ⟨?_, ?_, fun k hk a ha => ?_, fun a ha => ?_, fun a b c hh => ?_, fun _ => hD.full (by rw [hτ]; rfl) |> (fun e => by rw [hτ] at e; exact e), fun hp => ?_, fun _ k hk hh => ?_, rfl, fun a b c hh => ?_, fun a b c hh => ?_⟩, fun k a v e hk hh => ?_, fun a ha => ?_, fun _ => ?_, fun a b hh => ?_, fun k hk n hn => ?_⟩, .inl ?_⟩⟩
  · rw [hG2, sc, sl', sg]; exact hg
  · rw [hG2, sc]; exact Nat.le_of_eq hc
  · rw [hG2, sb]; exact hDs
  · exact Nat.le_refl _
  · rw [busyK] at ha; exact hDl k (hG2 ▸ hk) a ha
  · refine (hDc a ha).imp id ?_
    rintro ⟨k, hk, hb⟩
    exact ⟨k, hG2 ▸ hk, by rw [busyK]; exact hb⟩
  · rcases hh with hh | hh <;> cases hh
  · cases hp
  · by_cases hk0 : k = 0
    · subst hk0; cases hh
    · rw [isK k hk0] at hh
      have := wk_rcP hh
      rw [this] at hh; cases hh
  · cases hh
  · cases hh
  · by_cases hk0 : k = 0
    · subst hk0; cases hh
    · rw [isK k hk0] at hh
      exact res_step hE mv hM h.inv.kn.low hin (h.snd k a v e (hG2 ▸ hk) (wk_snP hh))
  · have hr := h.res a (by rw [hτ]; exact ha)
    rw [hτ] at hr
    have hr : Res E x w a (val a).1 (val a).2 := hr
    rw [← hvl a ha.2] at hr
    exact res_step hE mv hM h.inv.kn.low hin hr
  · refine ⟨(x 0).A, hF.lst _ _ _ w _ hlst ⟨fun b hb => ?_, mv.size, rfl, Nat.le_refl _, rfl, rfl⟩, fun b hb => ?_⟩
    · refine away b ?_
      have := hE.cn
      rcases h.inv.inA 0 b hb with hb | hb
      · exact (hE.base b hb).2.2.1
      · omega
    · rcases h.inv.inA 0 b hb with hb | ⟨h1, h2, h3⟩
      · exact .inl hb
      · refine .inr ⟨h1, by rw [hsz]; exact h2, fun k hk => ?_⟩
        by_cases hk0 : k = 0
        · subst hk0; rw [upd_same] at hk; exact hk
        · rw [upd_ne x _ hk0] at hk
          have := (h.inv.inM k b hk).2.2
          omega
  · cases hh
  · by_cases hk0 : k = 0
    · subst hk0; rcases hn with hn | hn | hn | hn | hn <;> cases hn
    · rw [isK k hk0] at hn
      refine h.ln k (hG2 ▸ hk) n ?_
      cases hτk : τ k with
      | wsB gl val => rw [hτk] at hn; rcases hn with hn | hn | hn | hn | hn <;> cases hn
      | rcP => rw [hτk] at hn; rcases hn with hn | hn | hn | hn | hn <;> cases hn
      | _ => rw [hτk] at hn; exact hn
  · rw [hG2]
    unfold wei
    rw [sc]
    have h1 : S (wT E.n) (nxtT τ 0 (.wd gl vl) true true) gs.size ≤ sumTo gs.size fun k => wT E.n (upd τ 0 (.wd gl vl) k) + cT (τ k) := sumTo_le' fun k _ => by
      by_cases hk0 : k = 0
      · subst hk0; rw [upd_same, isI]; omega
      · rw [upd_ne τ _ hk0, isK k hk0]
        cases τ k <;> simp only [wk1, wT, cT, Bool.and_self, if_true] <;> omega
    rw [sumTo_add] at h1
    have h2 := sumTo_upd τ (.wd gl vl) (wT E.n) hlt
    have h3 : S cT τ gs.size = F.kw := hc
    have h4 := hF.kw
    rw [hτ] at h2 ⊢
    simp only [wT] at h2
    have e1 : ct3 (nxtT τ 0 (.wd gl vl) true true 0) (S cT τ gs.size) = 3 * S cT τ gs.size := rfl
    have e2 : ct3 (.clo gl val) (S cT τ gs.size) = 3 * S cT τ gs.size := rfl
    rw [e1, e2]
    have h1 : S (wT E.n) (nxtT τ 0 (.wd gl vl) true true) gs.size ≤ (sumTo gs.size fun k => wT E.n (upd τ 0 (.wd gl vl) k)) + S cT τ gs.size := h1
    have h2 : (sumTo gs.size fun a => wT E.n (upd τ 0 (.wd gl vl) a)) + 1900 = S (wT E.n) τ gs.size + 1800 := h2
    omega
end
end Mc
end Go.Proofs.YtbkjjknlphlhlaaDoor
