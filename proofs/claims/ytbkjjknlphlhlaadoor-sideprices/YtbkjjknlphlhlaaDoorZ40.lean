/- One call of 'each': each stop's step: words, acts, quiet steps. -/
import Derived.Test.YtbkjjknlphlhlaaDoorZ39
namespace Go.Proofs.YtbkjjknlphlhlaaDoor
namespace Mc
open Go.Conc Go.ConcN Hd Sim Wy Ev Ms
open Go.ConcR (KK WgAt stA smA)
set_option maxRecDepth 100000

section
variable {P : Program} {E : Env} {F : Fam} {gs : Array Goroutine} {w : World} {t : Trace} {own : Nat → Nat} {x : Nat → Pt} {τ : Nat → Tag} {cl : Bool} {st sm : Int} {sl : Option (Nat × Nat)} {i : Nat} {g : Goroutine}
theorem at_m1 (hE : E.Ok) (hF : F.Ok P E) (h : All P E F gs w t own x τ cl st sm) (hi : gs[0]? = some g) {r : Nat} (hτ : τ 0 = .m1 r) {A M : Nat → Prop} (hs : SM1 P E F (NextM P E F r) A M g w) : Out P E F gs w sl t x τ 0 := by
  have hg := h.grp
  have hc := h.cb
  rw [hτ] at hg hc
  refine h.says hE hF hi (fun n e => by rw [hτ] at e; cases e) (main := true) (by rw [hτ]; rfl) (.inl rfl) hs (τ' := .m2 r) (fun n e => by cases e) (fun _ _ e => by cases e) (fun g' w' hk hw => ⟨⟨no, no, g', w'⟩, fun b hb => hb.elim, fun b hb => hb.elim, rfl, Rely.refl _ _, hw⟩) (by rw [hτ]; rfl) (fun h => by cases h) (by rw [hτ]; refine ⟨rfl, rfl, rfl, rfl, rfl, rfl, rfl, fun h => by first | exact h | (cases h; done), fun _ _ _ h => by (cases h; done), fun _ _ _ h => by (cases h; done), fun h => by (cases h; done), fun _ _ _ h => by (cases h; done), fun k h => ?_⟩; rcases h with h | h | h | h | h <;> first | (cases h; done) | (cases h; first | exact hn | omega)) (fun C L G h1 h2 h3 => ?_) (fun C h1 => ?_) (fun C h1 => ?_)
  · rw [hτ] at h1 h2 h3
    obtain rfl : C = S cT τ gs.size := by simpa [cT] using h1
    obtain rfl : L = S lT τ gs.size := by simpa [lT] using h2
    obtain rfl : G = S gT τ gs.size := by simpa [gT] using h3
    rw [if_pos rfl]; exact hg
  · rw [hτ] at h1
    obtain rfl : C = S cT τ gs.size := by simpa [cT] using h1
    rw [if_pos rfl]; exact hc
  · rw [hτ] at h1 ⊢
    obtain rfl : C = S cT τ gs.size := by simpa [cT] using h1
    simp only [wT, ct3, if_true]; omega

theorem at_m3 (hE : E.Ok) (hF : F.Ok P E) (h : All P E F gs w t own x τ cl st sm) (hi : gs[0]? = some g) {r : Nat} (hτ : τ 0 = .m3 r) {A M : Nat → Prop} (hs : SM3 P E F (NextM P E F r) A M g w) : Out P E F gs w sl t x τ 0 := by
  have hg := h.grp
  have hc := h.cb
  rw [hτ] at hg hc
  refine h.says hE hF hi (fun n e => by rw [hτ] at e; cases e) (main := true) (by rw [hτ]; rfl) (.inr (.inl rfl)) hs (τ' := .m4 r) (fun n e => by cases e) (fun _ _ e => by cases e) (fun g' w' hk hw => ⟨⟨no, no, g', w'⟩, fun b hb => hb.elim, fun b hb => hb.elim, rfl, Rely.refl _ _, hw⟩) (by rw [hτ]; rfl) (fun h => by cases h) (by rw [hτ]; refine ⟨rfl, rfl, rfl, rfl, rfl, rfl, rfl, fun h => by first | exact h | (cases h; done), fun _ _ _ h => by (cases h; done), fun _ _ _ h => by (cases h; done), fun h => by (cases h; done), fun _ _ _ h => by (cases h; done), fun k h => ?_⟩; rcases h with h | h | h | h | h <;> first | (cases h; done) | (cases h; first | exact hn | omega)) (fun C L G h1 h2 h3 => ?_) (fun C h1 => ?_) (fun C h1 => ?_)
  · rw [hτ] at h1 h2 h3
    obtain rfl : C = S cT τ gs.size := by simpa [cT] using h1
    obtain rfl : L = S lT τ gs.size := by simpa [lT] using h2
    obtain rfl : G = S gT τ gs.size := by simpa [gT] using h3
    rw [if_pos rfl]; exact hg
  · rw [hτ] at h1
    obtain rfl : C = S cT τ gs.size := by simpa [cT] using h1
    rw [if_pos rfl]; exact hc
  · rw [hτ] at h1 ⊢
    obtain rfl : C = S cT τ gs.size := by simpa [cT] using h1
    simp only [wT, ct3, if_true]; omega

theorem at_wd (hE : E.Ok) (hF : F.Ok P E) (h : All P E F gs w t own x τ cl st sm) (hi : gs[0]? = some g) {gl : List Nat} {val : Vals} (hτ : τ 0 = .wd gl val) {A M : Nat → Prop} (hs : SWd P E F val A M g w) : Out P E F gs w sl t x τ 0 := by
  have hg := h.grp
  have hc := h.cb
  rw [hτ] at hg hc
  refine h.says hE hF hi (fun n e => by rw [hτ] at e; cases e) (main := true) (by rw [hτ]; rfl) (.inl rfl) hs (τ' := .wl gl val) (fun n e => by cases e) (fun _ _ e => by cases e) (fun g' w' hk hw => ⟨⟨no, no, g', w'⟩, fun b hb => hb.elim, fun b hb => hb.elim, rfl, Rely.refl _ _, hw⟩) (by rw [hτ]; rfl) (fun h => by cases h) (by rw [hτ]; refine ⟨rfl, rfl, rfl, rfl, rfl, rfl, rfl, fun h => by first | exact h | (cases h; done), fun _ _ _ h => by (cases h; done), fun _ _ _ h => by (cases h; done), fun h => by (cases h; done), fun _ _ _ h => by (cases h; done), fun k h => ?_⟩; rcases h with h | h | h | h | h <;> first | (cases h; done) | (cases h; first | exact hn | omega)) (fun C L G h1 h2 h3 => ?_) (fun C h1 => ?_) (fun C h1 => ?_)
  · rw [hτ] at h1 h2 h3
    obtain rfl : C = S cT τ gs.size := by simpa [cT] using h1
    obtain rfl : L = S lT τ gs.size := by simpa [lT] using h2
    obtain rfl : G = S gT τ gs.size := by simpa [gT] using h3
    rw [if_pos rfl]; exact hg
  · rw [hτ] at h1
    obtain rfl : C = S cT τ gs.size := by simpa [cT] using h1
    rw [if_pos rfl]; exact hc
  · rw [hτ] at h1 ⊢
    obtain rfl : C = S cT τ gs.size := by simpa [cT] using h1
    simp only [wT, ct3, if_true]; omega

theorem at_we (hE : E.Ok) (hF : F.Ok P E) (h : All P E F gs w t own x τ cl st sm) (hi : gs[0]? = some g) {gl : List Nat} {val : Vals} (hτ : τ 0 = .we gl val) {A M : Nat → Prop} (hs : SWe P E F val A M g w) : Out P E F gs w sl t x τ 0 := by
  have hg := h.grp
  have hc := h.cb
  rw [hτ] at hg hc
  refine h.says hE hF hi (fun n e => by rw [hτ] at e; cases e) (main := true) (by rw [hτ]; rfl) (.inr (.inl rfl)) hs (τ' := .wa gl val) (fun n e => by cases e) (fun _ _ e => by cases e) (fun g' w' hk hw => ⟨⟨no, no, g', w'⟩, fun b hb => hb.elim, fun b hb => hb.elim, rfl, Rely.refl _ _, hw⟩) (by rw [hτ]; rfl) (fun h => by cases h) (by rw [hτ]; refine ⟨rfl, rfl, rfl, rfl, rfl, rfl, rfl, fun h => by first | exact h | (cases h; done), fun _ _ _ h => by (cases h; done), fun _ _ _ h => by (cases h; done), fun h => by (cases h; done), fun _ _ _ h => by (cases h; done), fun k h => ?_⟩; rcases h with h | h | h | h | h <;> first | (cases h; done) | (cases h; first | exact hn | omega)) (fun C L G h1 h2 h3 => ?_) (fun C h1 => ?_) (fun C h1 => ?_)
  · rw [hτ] at h1 h2 h3
    obtain rfl : C = S cT τ gs.size := by simpa [cT] using h1
    obtain rfl : L = S lT τ gs.size := by simpa [lT] using h2
    obtain rfl : G = S gT τ gs.size := by simpa [gT] using h3
    rw [if_pos rfl]; exact hg
  · rw [hτ] at h1
    obtain rfl : C = S cT τ gs.size := by simpa [cT] using h1
    rw [if_pos rfl]; exact hc
  · rw [hτ] at h1 ⊢
    obtain rfl : C = S cT τ gs.size := by simpa [cT] using h1
    simp only [wT, ct3, if_true]; omega

theorem at_m2 (hE : E.Ok) (hF : F.Ok P E) (h : All P E F gs w t own x τ cl st sm) (hi : gs[0]? = some g) {r : Nat} (hτ : τ 0 = .m2 r) {A M : Nat → Prop} (hs : SM2 P E F (NextM P E F r) A M g w) : Out P E F gs w sl t x τ 0 := by
  have hg := h.grp
  have hc := h.cb
  rw [hτ] at hg hc
  obtain ⟨g1, g2, g3, g4⟩ := hg
  have hc : S cT τ gs.size + (r + 1) = F.kw := hc
  have hkw := hF.kw
  have hw := h.wg
  rw [g3, g4] at hw
  refine h.acts hE hF hi (fun n e => by rw [hτ] at e; cases e) (main := true) (by rw [hτ]; rfl) (hs.2 w (S cT τ gs.size) h.inv.kn hw (by omega)) (τ' := .m3 r) (fun g' w' hk hw => ⟨⟨no, no, g', w'⟩, fun b hb => hb.elim, fun b hb => hb.elim, rfl, Rely.refl _ _, hw⟩) (fun t' g' w' hd _ => deafok_of (hd.trans (by rw [hτ]; rfl)) (fun n e => by cases e)) (fun h => by cases h) (by rw [hτ]; refine ⟨rfl, rfl, rfl, rfl, rfl, rfl, rfl, fun h => by first | exact h | (cases h; done), fun _ _ _ h => by (cases h; done), fun _ _ _ h => by (cases h; done), fun h => by (cases h; done), fun _ _ _ h => by (cases h; done), fun k h => ?_⟩; rcases h with h | h | h | h | h <;> first | (cases h; done) | (cases h; first | exact hn | omega)) (fun C L G h1 h2 h3 => ?_) (fun C h1 => ?_) (fun C h1 => ?_) (.inl rfl)
  · rw [hτ] at h1 h2 h3
    simp only [cT, lT, gT, Nat.add_zero] at h1 h2 h3
    subst h1; subst h2; subst h3
    rw [if_pos rfl]
    exact ⟨g1, g2, by simp, rfl⟩
  · rw [hτ] at h1
    simp only [cT, Nat.add_zero] at h1
    subst h1
    rw [if_pos rfl]
    show _ + 1 + r = F.kw; omega
  · rw [hτ] at h1 ⊢
    simp only [cT, Nat.add_zero] at h1
    subst h1
    simp only [wT, ct3, if_true]
    omega

theorem at_wl0 (hE : E.Ok) (hF : F.Ok P E) (h : All P E F gs w t own x τ cl st sm) (hi : gs[0]? = some g) {gl : List Nat} {val : Vals} (hC : S cT τ gs.size = 0) (hτ : τ 0 = .wl gl val) {A M : Nat → Prop} (hs : SWl F val A M g w) : Out P E F gs w sl t x τ 0 := by
  have hg := h.grp
  have hc := h.cb
  rw [hτ] at hg hc
  obtain ⟨g1, g2, g3, g4⟩ := hg
  have hkw := hF.kw
  have hw := h.wg
  rw [g3, g4] at hw
  have hc : S cT τ gs.size ≤ F.kw := hc
  refine h.acts hE hF hi (fun n e => by rw [hτ] at e; cases e) (main := true) (by rw [hτ]; rfl) (((hF.ld _ _ hs).2 w (S cT τ gs.size) h.inv.kn hw (by omega)).1 hC) (τ' := .we gl val) (fun g' w' hk hw => ⟨⟨no, no, g', w'⟩, fun b hb => hb.elim, fun b hb => hb.elim, rfl, Rely.refl _ _, hw⟩) (fun t' g' w' hd _ => deafok_of (hd.trans (by rw [hτ]; rfl)) (fun n e => by cases e)) (fun h => by cases h) (by rw [hτ]; refine ⟨rfl, rfl, rfl, rfl, rfl, rfl, rfl, fun h => by first | exact h | (cases h; done), fun _ _ _ h => by (cases h; done), fun _ _ _ h => by (cases h; done), fun h => by (cases h; done), fun _ _ _ h => by (cases h; done), fun k h => ?_⟩; rcases h with h | h | h | h | h <;> first | (cases h; done) | (cases h; first | exact hn | omega)) (fun C L G h1 h2 h3 => ?_) (fun C h1 => ?_) (fun C h1 => ?_) (.inl rfl)
  · rw [hτ] at h1 h2 h3
    simp only [cT, lT, gT, Nat.add_zero] at h1 h2 h3
    subst h1; subst h2; subst h3
    rw [if_pos rfl]
    exact ⟨hC, g1, g2, rfl, rfl⟩
  · rw [hτ] at h1
    simp only [cT, Nat.add_zero] at h1
    subst h1
    rw [if_pos rfl]
    exact hc
  · rw [hτ] at h1 ⊢
    simp only [cT, Nat.add_zero] at h1
    subst h1
    simp only [wT, ct3, if_true]
    omega

theorem at_wl1 (hE : E.Ok) (hF : F.Ok P E) (h : All P E F gs w t own x τ cl st sm) (hi : gs[0]? = some g) {gl : List Nat} {val : Vals} (hC : 1 ≤ S cT τ gs.size) (hτ : τ 0 = .wl gl val) {A M : Nat → Prop} (hs : SWl F val A M g w) : Out P E F gs w sl t x τ 0 := by
  have hg := h.grp
  have hc := h.cb
  rw [hτ] at hg hc
  obtain ⟨g1, g2, g3, g4⟩ := hg
  have hkw := hF.kw
  have hw := h.wg
  rw [g3, g4] at hw
  have hc : S cT τ gs.size ≤ F.kw := hc
  refine h.acts hE hF hi (fun n e => by rw [hτ] at e; cases e) (main := true) (by rw [hτ]; rfl) (((hF.ld _ _ hs).2 w (S cT τ gs.size) h.inv.kn hw (by omega)).2 hC) (τ' := .wc (S cT τ gs.size) gl val) (fun g' w' hk hw => ⟨⟨no, no, g', w'⟩, fun b hb => hb.elim, fun b hb => hb.elim, rfl, Rely.refl _ _, hw⟩) (fun t' g' w' hd _ => deafok_of (hd.trans (by rw [hτ]; rfl)) (fun n e => by cases e)) (fun h => by cases h) (by rw [hτ]; refine ⟨rfl, rfl, rfl, rfl, rfl, rfl, rfl, fun h => by first | exact h | (cases h; done), fun _ _ _ h => by (cases h; done), fun _ _ _ h => by (cases h; done), fun h => by (cases h; done), fun _ _ _ h => by (cases h; done), fun k h => ?_⟩; rcases h with h | h | h | h | h <;> first | (cases h; done) | (cases h; first | exact hn | omega)) (fun C L G h1 h2 h3 => ?_) (fun C h1 => ?_) (fun C h1 => ?_) (.inl rfl)
  · rw [hτ] at h1 h2 h3
    simp only [cT, lT, gT, Nat.add_zero] at h1 h2 h3
    subst h1; subst h2; subst h3
    rw [if_pos rfl]
    exact ⟨g1, g2, rfl, rfl⟩
  · rw [hτ] at h1
    simp only [cT, Nat.add_zero] at h1
    subst h1
    rw [if_pos rfl]
    exact ⟨Nat.le_refl _, hc, hC⟩
  · rw [hτ] at h1 ⊢
    simp only [cT, Nat.add_zero] at h1
    subst h1
    simp only [wT, ct3, if_true]
    omega

theorem at_wc0 (hE : E.Ok) (hF : F.Ok P E) (h : All P E F gs w t own x τ cl st sm) (hi : gs[0]? = some g) {v : Nat} {gl : List Nat} {val : Vals} (hC : S cT τ gs.size = v) (hτ : τ 0 = .wc v gl val) {A M : Nat → Prop} (hs : SWc P E F val v A M g w) : Out P E F gs w sl t x τ 0 := by
  have hg := h.grp
  have hc := h.cb
  rw [hτ] at hg hc
  obtain ⟨g1, g2, g3, g4⟩ := hg
  have hkw := hF.kw
  have hw := h.wg
  rw [g3, g4] at hw
  obtain ⟨c1, c2, c3⟩ : S cT τ gs.size ≤ v ∧ v ≤ F.kw ∧ 1 ≤ v := hc
  refine h.acts hE hF hi (fun n e => by rw [hτ] at e; cases e) (main := true) (by rw [hτ]; rfl) ((hs.2 w (S cT τ gs.size) h.inv.kn hw (by omega)).1 hC) (τ' := .ws gl val) (fun g' w' hk hw => ⟨⟨no, no, g', w'⟩, fun b hb => hb.elim, fun b hb => hb.elim, rfl, Rely.refl _ _, hw⟩) (fun t' g' w' hd _ => deafok_of (hd.trans (by rw [hτ]; rfl)) (fun n e => by cases e)) (fun h => by cases h) (by rw [hτ]; refine ⟨rfl, rfl, rfl, rfl, rfl, rfl, rfl, fun h => by first | exact h | (cases h; done), fun _ _ _ h => by (cases h; done), fun _ _ _ h => by (cases h; done), fun h => by (cases h; done), fun _ _ _ h => by (cases h; done), fun k h => ?_⟩; rcases h with h | h | h | h | h <;> first | (cases h; done) | (cases h; first | exact hn | omega)) (fun C L G h1 h2 h3 => ?_) (fun C h1 => ?_) (fun C h1 => ?_) (.inl rfl)
  · rw [hτ] at h1 h2 h3
    simp only [cT, lT, gT, Nat.add_zero] at h1 h2 h3
    subst h1; subst h2; subst h3
    rw [if_pos rfl]
    exact .inl ⟨by omega, g1, g2, by rw [hC], rfl⟩
  · rw [hτ] at h1
    simp only [cT, Nat.add_zero] at h1
    subst h1
    rw [if_pos rfl]
    show _ ≤ F.kw; omega
  · rw [hτ] at h1 ⊢
    simp only [cT, Nat.add_zero] at h1
    subst h1
    simp only [wT, ct3, if_true]
    omega

theorem at_wc1 (hE : E.Ok) (hF : F.Ok P E) (h : All P E F gs w t own x τ cl st sm) (hi : gs[0]? = some g) {v : Nat} {gl : List Nat} {val : Vals} (hC : S cT τ gs.size ≠ v) (hτ : τ 0 = .wc v gl val) {A M : Nat → Prop} (hs : SWc P E F val v A M g w) : Out P E F gs w sl t x τ 0 := by
  have hg := h.grp
  have hc := h.cb
  rw [hτ] at hg hc
  obtain ⟨g1, g2, g3, g4⟩ := hg
  have hkw := hF.kw
  have hw := h.wg
  rw [g3, g4] at hw
  obtain ⟨c1, c2, c3⟩ : S cT τ gs.size ≤ v ∧ v ≤ F.kw ∧ 1 ≤ v := hc
  refine h.acts hE hF hi (fun n e => by rw [hτ] at e; cases e) (main := true) (by rw [hτ]; rfl) ((hs.2 w (S cT τ gs.size) h.inv.kn hw (by omega)).2 hC) (τ' := .wl gl val) (fun g' w' hk hw => ⟨⟨no, no, g', w'⟩, fun b hb => hb.elim, fun b hb => hb.elim, rfl, Rely.refl _ _, hw⟩) (fun t' g' w' hd _ => deafok_of (hd.trans (by rw [hτ]; rfl)) (fun n e => by cases e)) (fun h => by cases h) (by rw [hτ]; refine ⟨rfl, rfl, rfl, rfl, rfl, rfl, rfl, fun h => by first | exact h | (cases h; done), fun _ _ _ h => by (cases h; done), fun _ _ _ h => by (cases h; done), fun h => by (cases h; done), fun _ _ _ h => by (cases h; done), fun k h => ?_⟩; rcases h with h | h | h | h | h <;> first | (cases h; done) | (cases h; first | exact hn | omega)) (fun C L G h1 h2 h3 => ?_) (fun C h1 => ?_) (fun C h1 => ?_) (.inl rfl)
  · rw [hτ] at h1 h2 h3
    simp only [cT, lT, gT, Nat.add_zero] at h1 h2 h3
    subst h1; subst h2; subst h3
    rw [if_pos rfl]
    exact ⟨g1, g2, rfl, rfl⟩
  · rw [hτ] at h1
    simp only [cT, Nat.add_zero] at h1
    subst h1
    rw [if_pos rfl]
    show _ ≤ F.kw; omega
  · rw [hτ] at h1 ⊢
    simp only [cT, Nat.add_zero] at h1
    subst h1
    simp only [wT, ct3, if_true]
    omega

theorem at_ws1 (hE : E.Ok) (hF : F.Ok P E) (h : All P E F gs w t own x τ cl st sm) (hi : gs[0]? = some g) {gl : List Nat} {val : Vals} (hg : S cT τ gs.size = 0 ∧ S lT τ gs.size = 0 ∧ S gT τ gs.size = 0 ∧ st = 0 ∧ sm = 1) (hτ : τ 0 = .ws gl val) {A M : Nat → Prop} (hs : SWs P E F val A M g w) : Out P E F gs w sl t x τ 0 := by
  have hc := h.cb
  rw [hτ] at hc
  have hc : S cT τ gs.size ≤ F.kw := hc
  obtain ⟨g0, g1, g2, g3, g4⟩ := hg
  have hw := h.wg
  rw [g3, g4] at hw
  refine h.acts hE hF hi (fun n e => by rw [hτ] at e; cases e) (main := true) (by rw [hτ]; rfl) (hs.2.2.2 w h.inv.kn hw) (τ' := .wl2 gl val) (fun g' w' hk hw => ⟨⟨no, no, g', w'⟩, fun b hb => hb.elim, fun b hb => hb.elim, rfl, Rely.refl _ _, hw⟩) (fun t' g' w' hd _ => deafok_of (hd.trans (by rw [hτ]; rfl)) (fun n e => by cases e)) (fun h => by cases h) (by rw [hτ]; refine ⟨rfl, rfl, rfl, rfl, rfl, rfl, rfl, fun h => by first | exact h | (cases h; done), fun _ _ _ h => by (cases h; done), fun _ _ _ h => by (cases h; done), fun h => by (cases h; done), fun _ _ _ h => by (cases h; done), fun k h => ?_⟩; rcases h with h | h | h | h | h <;> first | (cases h; done) | (cases h; first | exact hn | omega)) (fun C L G h1 h2 h3 => ?_) (fun C h1 => ?_) (fun C h1 => ?_) (.inl rfl)
  · rw [hτ] at h1 h2 h3
    simp only [cT, lT, gT, Nat.add_zero] at h1 h2 h3
    subst h1; subst h2; subst h3
    rw [if_pos rfl]
    exact ⟨g0, g1, g2, rfl, rfl⟩
  · rw [hτ] at h1
    simp only [cT, Nat.add_zero] at h1
    subst h1
    rw [if_pos rfl]
    exact hc
  · rw [hτ] at h1 ⊢
    simp only [cT, Nat.add_zero] at h1
    subst h1
    simp only [wT, ct3, if_true]
    omega

theorem at_wl2 (hE : E.Ok) (hF : F.Ok P E) (h : All P E F gs w t own x τ cl st sm) (hi : gs[0]? = some g) {gl : List Nat} {val : Vals} (hτ : τ 0 = .wl2 gl val) {A M : Nat → Prop} (hs : SWl2 P E F val A M g w) : Out P E F gs w sl t x τ 0 := by
  have hc := h.cb
  rw [hτ] at hc
  have hc : S cT τ gs.size ≤ F.kw := hc
  have hg := h.grp
  rw [hτ] at hg
  obtain ⟨g0, g1, g2, g3, g4⟩ := hg
  have hw := h.wg
  rw [g3, g4] at hw
  refine h.acts hE hF hi (fun n e => by rw [hτ] at e; cases e) (main := true) (by rw [hτ]; rfl) (hs.2 w h.inv.kn hw) (τ' := .we gl val) (fun g' w' hk hw => ⟨⟨no, no, g', w'⟩, fun b hb => hb.elim, fun b hb => hb.elim, rfl, Rely.refl _ _, hw⟩) (fun t' g' w' hd _ => deafok_of (hd.trans (by rw [hτ]; rfl)) (fun n e => by cases e)) (fun h => by cases h) (by rw [hτ]; refine ⟨rfl, rfl, rfl, rfl, rfl, rfl, rfl, fun h => by first | exact h | (cases h; done), fun _ _ _ h => by (cases h; done), fun _ _ _ h => by (cases h; done), fun h => by (cases h; done), fun _ _ _ h => by (cases h; done), fun k h => ?_⟩; rcases h with h | h | h | h | h <;> first | (cases h; done) | (cases h; first | exact hn | omega)) (fun C L G h1 h2 h3 => ?_) (fun C h1 => ?_) (fun C h1 => ?_) (.inl rfl)
  · rw [hτ] at h1 h2 h3
    simp only [cT, lT, gT, Nat.add_zero] at h1 h2 h3
    subst h1; subst h2; subst h3
    rw [if_pos rfl]
    exact ⟨g0, g1, g2, rfl, rfl⟩
  · rw [hτ] at h1
    simp only [cT, Nat.add_zero] at h1
    subst h1
    rw [if_pos rfl]
    exact hc
  · rw [hτ] at h1 ⊢
    simp only [cT, Nat.add_zero] at h1
    subst h1
    simp only [wT, ct3, if_true]
    omega

/-- At the semaphore, which is not up: it waits. -/
theorem at_ws0 (hE : E.Ok) (hF : F.Ok P E) (h : All P E F gs w t own x τ cl st sm) (hi : gs[0]? = some g) {gl : List Nat} {val : Vals} (hτ : τ 0 = .ws gl val) (hx : g = (x 0).g) (hway : OnWay P E true (SWs P E F val) (x 0) w) {A M : Nat → Prop} (hs : SWs P E F val A M g w) (hsm : sm = 0) : Out P E F gs w sl t x τ 0 := by
  have hlt : 0 < gs.size := (Array.getElem?_eq_some_iff.1 hi).1
  have hw := h.wg
  rw [hsm] at hw
  have hstep := hs.2.2.1 w st h.inv.kn hw
  have hd0 := deaf_of (h.inv.deaf 0 g hi) (fun n e => by rw [hτ] at e; cases e)
  have e0 : t ++ MemOp.ofEvents 0 g.frame.fn g.frame.place #[] = t := by simp [ofEvents_eq]
  obtain ⟨hAll, C, hC, hwt⟩ := h.step hE hF hi (.inl rfl) (.refl _ _) h.inv.kn (es := #[]) (fun e he => by simp at he) rfl rfl (x' := x 0) (τ' := .wsB gl val) (g' := { g with status := .blocked }) (fun b hb => .inr (.inl hb)) (fun b hb => .inl hb) ⟨by rw [hx], hway, hx ▸ hs⟩ (deafok_of (by rw [e0]; exact hd0.trans (by rw [hτ]; rfl)) (fun n e => by cases e))
    (fun hb _ => by have := hE.b0; omega) h.wg (by rw [hτ]; refine ⟨rfl, rfl, rfl, rfl, rfl, rfl, rfl, fun h => by first | exact h | (cases h; done), fun _ _ _ h => by (cases h; done), fun _ _ _ h => by (cases h; done), fun h => by (cases h; done), fun _ _ _ h => by (cases h; done), fun k h => ?_⟩; rcases h with h | h | h | h | h <;> first | (cases h; done) | (cases h; first | exact hn | omega))
    (fun C L G h1 h2 h3 => by
      rw [hτ] at h1 h2 h3
      simp only [cT, lT, gT, Nat.add_zero] at h1 h2 h3
      subst h1; subst h2; subst h3
      have hg := h.grp
      rw [hτ] at hg
      rw [if_pos rfl]; exact hg)
    (fun C h1 => by
      rw [hτ] at h1
      simp only [cT, Nat.add_zero] at h1
      subst h1
      have hc := h.cb
      rw [hτ] at hc
      rw [if_pos rfl]; exact hc)
    (fun a b => ⟨fun e => absurd rfl e, fun _ _ => hsm⟩)
  refine ⟨_, _, runT_crowd_go hi hstep, .inr ⟨_, _, _, _, _, _, _, _, _, rfl, hAll, .inr ?_⟩⟩
  have hsz : ((gs.map (woken P g { g with status := .blocked } w)).setIfInBounds 0 { g with status := .blocked }).size = gs.size := by simp
  rw [hsz]
  rw [hτ] at hwt hC
  simp only [wT, ct3, if_true, cT, Nat.add_zero] at hwt hC
  refine ⟨by omega, .inr ⟨?_, ?_⟩⟩
  · rw [poses_step hlt]
    have e : posOf P E F (.wsB gl val) (x 0) = posOf P E F (τ 0) (x 0) := by rw [hτ]; rfl
    rw [e]
    apply List.ext_getElem?
    intro k
    rw [List.getElem?_set]
    split
    · next e => subst e; unfold poses; simp [hlt]
    · rfl
  · unfold flag
    rw [hi]
    simp [hlt, hs.1]

theorem ct3_le (τ0 : Tag) {C C' : Nat} (h : C ≤ C') : ct3 τ0 C ≤ ct3 τ0 C' := by
  cases τ0 <;> simp only [ct3] <;> omega
theorem isWorker (h : All P E F gs w t own x τ cl st sm) (hi : gs[i]? = some g) (hm : isMain (τ i) = false) : ¬ 0 = i := fun e => by
  have := (h.inv.mn i (Array.getElem?_eq_some_iff.1 hi).1).2 e.symm
  rw [hm] at this; cases this
theorem at_rl (hE : E.Ok) (hF : F.Ok P E) (h : All P E F gs w t own x τ cl st sm) (hi : gs[i]? = some g) (hτ : τ i = .rl) {A M : Nat → Prop} (hs : SRel P E A M g w) : Out P E F gs w sl t x τ i := by
  have h0i := isWorker h hi (by rw [hτ]; rfl)
  obtain ⟨r, g1, hst, hk⟩ := hs
  obtain ⟨n, hn, hl⟩ := hk w h.inv.kn
  refine h.says hE hF hi (fun n e => by rw [hτ] at e; cases e) (main := false) (by rw [hτ]; rfl) (.inr (.inr rfl)) (K := fun g' _ => Stl P n g' (GDis P E)) ⟨r, g1, hst, fun _ _ => hl⟩ (τ' := .ds n) (fun n e => by cases e) (fun _ _ e => by cases e) (fun g' w' hk hw => ⟨⟨no, no, g', w'⟩, fun b hb => hb.elim, fun b hb => hb.elim, hw⟩) (by rw [hτ]; rfl) (fun _ => .inr ⟨rfl, by rw [hτ]; rfl⟩) (by rw [hτ]; refine ⟨rfl, rfl, rfl, rfl, rfl, rfl, rfl, fun h => by first | exact h | (cases h; done), fun _ _ _ h => by (cases h; done), fun _ _ _ h => by (cases h; done), fun h => by (cases h; done), fun _ _ _ h => by (cases h; done), fun k h => ?_⟩; rcases h with h | h | h | h | h <;> first | (cases h; done) | (cases h; first | exact hn | omega)) (fun C L G h1 h2 h3 => ?_) (fun C h1 => ?_) (fun C h1 => ?_)
  · rw [hτ] at h1 h2 h3
    obtain rfl : C = S cT τ gs.size := by simpa [cT] using h1
    obtain rfl : L = S lT τ gs.size := by simpa [lT] using h2
    obtain rfl : G = S gT τ gs.size := by simpa [gT] using h3
    rw [if_neg h0i]; exact h.grp
  · rw [hτ] at h1
    obtain rfl : C = S cT τ gs.size := by simpa [cT] using h1
    rw [if_neg h0i]; exact h.cb
  · rw [hτ] at h1 ⊢
    obtain rfl : C = S cT τ gs.size := by simpa [cT] using h1
    rw [if_neg h0i]; simp only [wT]; omega
theorem at_ds (hE : E.Ok) (hF : F.Ok P E) (h : All P E F gs w t own x τ cl st sm) (hi : gs[i]? = some g) (hτ : τ i = .ds 0) (hs : GDis P E g) : Out P E F gs w sl t x τ i := by
  have h0i := isWorker h hi (by rw [hτ]; rfl)
  obtain ⟨r, g1, hst, hk⟩ := hs
  obtain ⟨n, hn, hl⟩ := hk w h.inv.kn
  refine h.says hE hF hi (fun n e => by rw [hτ] at e; cases e) (main := false) (by rw [hτ]; rfl) (.inl rfl) (K := fun g' _ => Stl P n g' (GSub P E)) ⟨r, g1, hst, fun _ _ => hl⟩ (τ' := .sb n) (fun n e => by cases e) (fun _ _ e => by cases e) (fun g' w' hk hw => ⟨⟨no, no, g', w'⟩, fun b hb => hb.elim, fun b hb => hb.elim, hw⟩) (by rw [hτ]; rfl) (fun _ => .inl (by rw [hτ]; rfl)) (by rw [hτ]; refine ⟨rfl, rfl, rfl, rfl, rfl, rfl, rfl, fun h => by first | exact h | (cases h; done), fun _ _ _ h => by (cases h; done), fun _ _ _ h => by (cases h; done), fun h => by (cases h; done), fun _ _ _ h => by (cases h; done), fun k h => ?_⟩; rcases h with h | h | h | h | h <;> first | (cases h; done) | (cases h; first | exact hn | omega)) (fun C L G h1 h2 h3 => ?_) (fun C h1 => ?_) (fun C h1 => ?_)
  · rw [hτ] at h1 h2 h3
    obtain rfl : C = S cT τ gs.size := by simpa [cT] using h1
    obtain rfl : L = S lT τ gs.size := by simpa [lT] using h2
    obtain rfl : G = S gT τ gs.size := by simpa [gT] using h3
    rw [if_neg h0i]; exact h.grp
  · rw [hτ] at h1
    obtain rfl : C = S cT τ gs.size := by simpa [cT] using h1
    rw [if_neg h0i]; exact h.cb
  · rw [hτ] at h1 ⊢
    obtain rfl : C = S cT τ gs.size := by simpa [cT] using h1
    rw [if_neg h0i]; simp only [wT]; omega

theorem at_dsS (hE : E.Ok) (hF : F.Ok P E) (h : All P E F gs w t own x τ cl st sm) (hi : gs[i]? = some g) {n : Nat} (hτ : τ i = .ds (n + 1)) (hs : Stl P (n + 1) g (GDis P E)) : Out P E F gs w sl t x τ i := by
  have h0i := isWorker h hi (by rw [hτ]; rfl)
  have hn : n + 1 ≤ 150 := h.ln i (Array.getElem?_eq_some_iff.1 hi).1 (n + 1) (by rw [hτ]; simp)
  have hn : n ≤ 150 := by omega
  obtain ⟨g2, ⟨_, g1, hst, hl⟩, hS⟩ := hs
  exact h.quiet hE hF hi (fun n e => by rw [hτ] at e; cases e) (main := false) (by rw [hτ]; rfl) (hst w) (τ' := .ds n) (fun n e => by cases e) (fun _ _ e => by cases e) (x' := x i) (fun b hb => .inr hb) (fun b hb => hb) ⟨g2, hl, hS⟩ (by rw [hτ]; rfl) (fun _ => by rw [hτ]; rfl) (by rw [hτ]; refine ⟨rfl, rfl, rfl, rfl, rfl, rfl, rfl, fun h => by first | exact h | (cases h; done), fun _ _ _ h => by (cases h; done), fun _ _ _ h => by (cases h; done), fun h => by (cases h; done), fun _ _ _ h => by (cases h; done), fun k h => ?_⟩; rcases h with h | h | h | h | h <;> first | (cases h; done) | (cases h; first | exact hn | omega)) (by rw [hτ]; rfl) (by rw [hτ]; rfl) (by rw [hτ]; rfl)
    (fun e => absurd e.symm h0i) (fun e => absurd e.symm h0i) (fun C => by rw [hτ, if_neg h0i]; simp only [wT]; omega)

theorem at_sbS (hE : E.Ok) (hF : F.Ok P E) (h : All P E F gs w t own x τ cl st sm) (hi : gs[i]? = some g) {n : Nat} (hτ : τ i = .sb (n + 1)) (hs : Stl P (n + 1) g (GSub P E)) : Out P E F gs w sl t x τ i := by
  have h0i := isWorker h hi (by rw [hτ]; rfl)
  have hn : n + 1 ≤ 150 := h.ln i (Array.getElem?_eq_some_iff.1 hi).1 (n + 1) (by rw [hτ]; simp)
  have hn : n ≤ 150 := by omega
  obtain ⟨g2, ⟨_, g1, hst, hl⟩, hS⟩ := hs
  exact h.quiet hE hF hi (fun n e => by rw [hτ] at e; cases e) (main := false) (by rw [hτ]; rfl) (hst w) (τ' := .sb n) (fun n e => by cases e) (fun _ _ e => by cases e) (x' := x i) (fun b hb => .inr hb) (fun b hb => hb) ⟨g2, hl, hS⟩ (by rw [hτ]; rfl) (fun _ => by rw [hτ]; rfl) (by rw [hτ]; refine ⟨rfl, rfl, rfl, rfl, rfl, rfl, rfl, fun h => by first | exact h | (cases h; done), fun _ _ _ h => by (cases h; done), fun _ _ _ h => by (cases h; done), fun h => by (cases h; done), fun _ _ _ h => by (cases h; done), fun k h => ?_⟩; rcases h with h | h | h | h | h <;> first | (cases h; done) | (cases h; first | exact hn | omega)) (by rw [hτ]; rfl) (by rw [hτ]; rfl) (by rw [hτ]; rfl)
    (fun e => absurd e.symm h0i) (fun e => absurd e.symm h0i) (fun C => by rw [hτ, if_neg h0i]; simp only [wT]; omega)

theorem at_l1S (hE : E.Ok) (hF : F.Ok P E) (h : All P E F gs w t own x τ cl st sm) (hi : gs[i]? = some g) {n : Nat} (hτ : τ i = .l1 (n + 1)) (hs : Stl P (n + 1) g (GL1 P E)) : Out P E F gs w sl t x τ i := by
  have h0i := isWorker h hi (by rw [hτ]; rfl)
  have hn : n + 1 ≤ 150 := h.ln i (Array.getElem?_eq_some_iff.1 hi).1 (n + 1) (by rw [hτ]; simp)
  have hn : n ≤ 150 := by omega
  obtain ⟨g2, ⟨_, g1, hst, hl⟩, hS⟩ := hs
  exact h.quiet hE hF hi (fun n e => by rw [hτ] at e; cases e) (main := false) (by rw [hτ]; rfl) (hst w) (τ' := .l1 n) (fun n e => by cases e) (fun _ _ e => by cases e) (x' := x i) (fun b hb => .inr hb) (fun b hb => hb) ⟨g2, hl, hS⟩ (by rw [hτ]; rfl) (fun _ => by rw [hτ]; rfl) (by rw [hτ]; refine ⟨rfl, rfl, rfl, rfl, rfl, rfl, rfl, fun h => by first | exact h | (cases h; done), fun _ _ _ h => by (cases h; done), fun _ _ _ h => by (cases h; done), fun h => by (cases h; done), fun _ _ _ h => by (cases h; done), fun k h => ?_⟩; rcases h with h | h | h | h | h <;> first | (cases h; done) | (cases h; first | exact hn | omega)) (by rw [hτ]; rfl) (by rw [hτ]; rfl) (by rw [hτ]; rfl)
    (fun e => absurd e.symm h0i) (fun e => absurd e.symm h0i) (fun C => by rw [hτ, if_neg h0i]; simp only [wT]; omega)

theorem at_l2S (hE : E.Ok) (hF : F.Ok P E) (h : All P E F gs w t own x τ cl st sm) (hi : gs[i]? = some g) {n : Nat} (hτ : τ i = .l2 (n + 1)) (hs : Stl P (n + 1) g (GL2 P E)) : Out P E F gs w sl t x τ i := by
  have h0i := isWorker h hi (by rw [hτ]; rfl)
  have hn : n + 1 ≤ 150 := h.ln i (Array.getElem?_eq_some_iff.1 hi).1 (n + 1) (by rw [hτ]; simp)
  have hn : n ≤ 150 := by omega
  obtain ⟨g2, ⟨_, g1, hst, hl⟩, hS⟩ := hs
  exact h.quiet hE hF hi (fun n e => by rw [hτ] at e; cases e) (main := false) (by rw [hτ]; rfl) (hst w) (τ' := .l2 n) (fun n e => by cases e) (fun _ _ e => by cases e) (x' := x i) (fun b hb => .inr hb) (fun b hb => hb) ⟨g2, hl, hS⟩ (by rw [hτ]; rfl) (fun _ => by rw [hτ]; rfl) (by rw [hτ]; refine ⟨rfl, rfl, rfl, rfl, rfl, rfl, rfl, fun h => by first | exact h | (cases h; done), fun _ _ _ h => by (cases h; done), fun _ _ _ h => by (cases h; done), fun h => by (cases h; done), fun _ _ _ h => by (cases h; done), fun k h => ?_⟩; rcases h with h | h | h | h | h <;> first | (cases h; done) | (cases h; first | exact hn | omega)) (by rw [hτ]; rfl) (by rw [hτ]; rfl) (by rw [hτ]; rfl)
    (fun e => absurd e.symm h0i) (fun e => absurd e.symm h0i) (fun C => by rw [hτ, if_neg h0i]; simp only [wT]; omega)

theorem at_l3S (hE : E.Ok) (hF : F.Ok P E) (h : All P E F gs w t own x τ cl st sm) (hi : gs[i]? = some g) {n : Nat} (hτ : τ i = .l3 (n + 1)) (hs : Stl P (n + 1) g (GL3 P E)) : Out P E F gs w sl t x τ i := by
  have h0i := isWorker h hi (by rw [hτ]; rfl)
  have hn : n + 1 ≤ 150 := h.ln i (Array.getElem?_eq_some_iff.1 hi).1 (n + 1) (by rw [hτ]; simp)
  have hn : n ≤ 150 := by omega
  obtain ⟨g2, ⟨_, g1, hst, hl⟩, hS⟩ := hs
  exact h.quiet hE hF hi (fun n e => by rw [hτ] at e; cases e) (main := false) (by rw [hτ]; rfl) (hst w) (τ' := .l3 n) (fun n e => by cases e) (fun _ _ e => by cases e) (x' := x i) (fun b hb => .inr hb) (fun b hb => hb) ⟨g2, hl, hS⟩ (by rw [hτ]; rfl) (fun _ => by rw [hτ]; rfl) (by rw [hτ]; refine ⟨rfl, rfl, rfl, rfl, rfl, rfl, rfl, fun h => by first | exact h | (cases h; done), fun _ _ _ h => by (cases h; done), fun _ _ _ h => by (cases h; done), fun h => by (cases h; done), fun _ _ _ h => by (cases h; done), fun k h => ?_⟩; rcases h with h | h | h | h | h <;> first | (cases h; done) | (cases h; first | exact hn | omega)) (by rw [hτ]; rfl) (by rw [hτ]; rfl) (by rw [hτ]; rfl)
    (fun e => absurd e.symm h0i) (fun e => absurd e.symm h0i) (fun C => by rw [hτ, if_neg h0i]; simp only [wT]; omega)
end
end Mc
end Go.Proofs.YtbkjjknlphlhlaaDoor
