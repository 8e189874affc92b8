/- One price of lots, as a relation on numbers: the most traded, the least left, the nearest, the lesser; no program is spoken of. -/
import Derived.Test.YtfdapfegidbijaaDoorCvFacts
namespace Go.Proofs.YtfdapfegidbijaaDoor
namespace Cv

def size (n : Int) : Int := max n (-n)
def left (l : List Lot) (p : Int) : Int := size (demand l p - supply l p)
def away (ref p : Int) : Int := size (p - ref)
theorem size_nonneg (n : Int) : 0 ≤ size n := by unfold size; omega
theorem size_if (n : Int) : size n = if n < 0 then -n else n := by unfold size; split <;> omega

/-- is the first worth better than the second? -/
def worthB (v s a v' s' a' : Int) : Bool := if v = v' then (if s = s' then decide (a < a') else decide (s < s')) else decide (v' < v)

/-- among the prices from 1 to n the one that is taken is p, and v is traded at it; none: 0, 0 -/
def Won (l : List Lot) (ref n p v : Int) : Prop :=
  (p = 0 ∧ v = 0 ∧ ∀ q, 1 ≤ q → q ≤ n → volume l q = 0) ∨
  (0 < v ∧ 1 ≤ p ∧ p ≤ n ∧ volume l p = v ∧ ∀ q, 1 ≤ q → q ≤ n → volume l q < v ∨ volume l q = v ∧ (left l p < left l q ∨ left l p = left l q ∧ (away ref p < away ref q ∨ away ref p = away ref q ∧ p ≤ q)))

theorem Won.unique {l : List Lot} {ref n p v p' v' : Int} (h : Won l ref n p v) (h' : Won l ref n p' v') : p = p' ∧ v = v' := by
  rcases h with ⟨h1, h2, h3⟩ | ⟨h1, h2, h3, h4, h5⟩
  · rcases h' with ⟨g1, g2, g3⟩ | ⟨g1, g2, g3, g4, g5⟩
    · omega
    · have := h3 p' g2 g3; omega
  · rcases h' with ⟨g1, g2, g3⟩ | ⟨g1, g2, g3, g4, g5⟩
    · have := g3 p h2 h3; omega
    · have a := h5 p' g2 g3
      have b := g5 p h2 h3
      omega

theorem volume_nonneg (l : List Lot) (h : Oks l) (p : Int) : 0 ≤ volume l p := by
  have hd := (sumIf_bounds (dB p) l h).1
  have hs := (sumIf_bounds (sB p) l h).1
  unfold volume demand supply
  omega
theorem volume_le (l : List Lot) (h : Well l) (p : Int) : volume l p ≤ 120000 := by
  have hd := (sumIf_bounds (dB p) l h.oks).2
  have := h.1
  unfold volume demand
  omega

/-- what is left, and how far it is, of the price that is taken: of none 0 -/
def wl (l : List Lot) (p : Int) : Int := if p = 0 then 0 else left l p
def wa (ref p : Int) : Int := if p = 0 then 0 else away ref p

theorem Won.start (l : List Lot) (ref : Int) : Won l ref 0 0 0 := .inl ⟨rfl, rfl, fun q h1 h2 => by omega⟩
theorem Won.take {l : List Lot} {ref n p v : Int} (hl : Oks l) (hn : 0 ≤ n) (h : Won l ref n p v) (hb : worthB (volume l (n + 1)) (left l (n + 1)) (away ref (n + 1)) v (wl l p) (wa ref p) = true) : Won l ref (n + 1) (n + 1) (volume l (n + 1)) := by
  have v0 := volume_nonneg l hl (n + 1)
  have s0 : 0 ≤ left l (n + 1) := size_nonneg _
  have a0 : 0 ≤ away ref (n + 1) := size_nonneg _
  unfold worthB wl wa at hb
  rcases h with ⟨h1, h2, h3⟩ | ⟨h1, h2, h3, h4, h5⟩
  · rw [if_pos h1, if_pos h1] at hb
    have hv : 0 < volume l (n + 1) := by
      split at hb
      · split at hb <;> simp only [decide_eq_true_eq] at hb <;> omega
      · simp only [decide_eq_true_eq] at hb; omega
    refine .inr ⟨hv, by omega, by omega, rfl, fun q q1 q2 => ?_⟩
    by_cases e : q = n + 1
    · rw [e]; omega
    · have := h3 q q1 (by omega); omega
  · have hp : ¬ p = 0 := by omega
    rw [if_neg hp, if_neg hp] at hb
    have key : v < volume l (n + 1) ∨ volume l (n + 1) = v ∧ (left l (n + 1) < left l p ∨ left l (n + 1) = left l p ∧ away ref (n + 1) < away ref p) := by
      split at hb
      · split at hb <;> simp only [decide_eq_true_eq] at hb <;> omega
      · simp only [decide_eq_true_eq] at hb; omega
    refine .inr ⟨by omega, by omega, by omega, rfl, fun q q1 q2 => ?_⟩
    by_cases e : q = n + 1
    · rw [e]; omega
    · have := h5 q q1 (by omega); omega
theorem Won.keep {l : List Lot} {ref n p v : Int} (hl : Oks l) (h : Won l ref n p v) (hb : worthB (volume l (n + 1)) (left l (n + 1)) (away ref (n + 1)) v (wl l p) (wa ref p) = false) : Won l ref (n + 1) p v := by
  have v0 := volume_nonneg l hl (n + 1)
  unfold worthB wl wa at hb
  rcases h with ⟨h1, h2, h3⟩ | ⟨h1, h2, h3, h4, h5⟩
  · refine .inl ⟨h1, h2, fun q q1 q2 => ?_⟩
    by_cases e : q = n + 1
    · rw [e]
      by_cases hv : volume l (n + 1) = v
      · omega
      · rw [if_neg hv] at hb; simp only [decide_eq_false_iff_not] at hb; omega
    · exact h3 q q1 (by omega)
  · have hp : ¬ p = 0 := by omega
    rw [if_neg hp, if_neg hp] at hb
    refine .inr ⟨h1, h2, by omega, h4, fun q q1 q2 => ?_⟩
    by_cases e : q = n + 1
    · rw [e]
      split at hb
      · split at hb <;> simp only [decide_eq_false_iff_not] at hb <;> omega
      · simp only [decide_eq_false_iff_not] at hb; omega
    · exact h5 q q1 (by omega)

theorem Won.range {l : List Lot} {ref n p v : Int} (h : Won l ref n p v) (hn : 0 ≤ n) : 0 ≤ p ∧ p ≤ n ∧ 0 ≤ v := by
  rcases h with ⟨h1, h2, h3⟩ | ⟨h1, h2, h3, h4, h5⟩ <;> omega

/-- quantities of one side at just one price -/
def atB (side p : Int) (x : Lot) : Bool := x.sd == side && x.pr == p
def at_ (l : List Lot) (side p : Int) : Int := sumIf (atB side p) l
theorem demand_step (p : Int) : ∀ l : List Lot, demand l p = demand l (p + 1) + at_ l 0 p
  | [] => rfl
  | x :: l => by
    have ih := demand_step p l
    unfold demand at_ at ih ⊢
    simp only [sumIf]
    by_cases hs : x.sd = 0
    · by_cases h1 : x.pr = p
      · have h2 : p ≤ x.pr := by omega
        have h3 : ¬ p + 1 ≤ x.pr := by omega
        have e : (x.pr == p) = true := by simpa using h1
        simp only [dB, atB, hs, h2, h3, e, beq_self_eq_true, decide_true, decide_false, Bool.and_self, Bool.and_false, if_true, Bool.false_eq_true, if_false]
        omega
      · by_cases h2 : p ≤ x.pr
        · have h3 : p + 1 ≤ x.pr := by omega
          simp [dB, atB, hs, h1, h2, h3] at *
          omega
        · have h3 : ¬ p + 1 ≤ x.pr := by omega
          simp [dB, atB, hs, h1, h2, h3] at *
          omega
    · simp [dB, atB, hs] at *
      omega
theorem supply_step (p : Int) : ∀ l : List Lot, supply l (p + 1) = supply l p + at_ l 1 (p + 1)
  | [] => rfl
  | x :: l => by
    have ih := supply_step p l
    unfold supply at_ at ih ⊢
    simp only [sumIf]
    by_cases hs : x.sd = 1
    · by_cases h1 : x.pr = p + 1
      · have h3 : ¬ x.pr ≤ p := by omega
        have h2 : x.pr ≤ p + 1 := by omega
        have e : (x.pr == p + 1) = true := by simpa using h1
        simp only [sB, atB, hs, h2, h3, e, beq_self_eq_true, decide_true, decide_false, Bool.and_self, Bool.and_false, if_true, Bool.false_eq_true, if_false]
        omega
      · by_cases h2 : x.pr ≤ p
        · have h3 : x.pr ≤ p + 1 := by omega
          simp [sB, atB, hs, h1, h2, h3] at *
          omega
        · have h3 : ¬ x.pr ≤ p + 1 := by omega
          simp [sB, atB, hs, h1, h2, h3] at *
          omega
    · simp [sB, atB, hs] at *
      omega
theorem demand_top (l : List Lot) (h : Oks l) {p : Int} (hp : 1000 ≤ p) : demand l (p + 1) = 0 :=
  sumIf_zero l fun x hx => by
    have := (ok_bounds (h x hx)).2.2.2.1
    have h2 : ¬ p + 1 ≤ x.pr := by omega
    simp [dB, h2]
theorem supply_low (l : List Lot) (h : Oks l) {p : Int} (hp : p ≤ 0) : supply l p = 0 :=
  sumIf_zero l fun x hx => by
    have := (ok_bounds (h x hx)).2.2.2.1
    have h2 : ¬ x.pr ≤ p := by omega
    simp [sB, h2]

/-- it trades just if there is a buy at a sell's price -/
theorem Won.cross {l : List Lot} {ref p v : Int} (hl : Oks l) (h : Won l ref 1000 p v) : cross l = decide (0 < v) := by
  rw [cross_volume l hl]
  have hr := best_range l hl 0 (.inl rfl)
  rcases h with ⟨h1, h2, h3⟩ | ⟨h1, h2, h3, h4, h5⟩
  · have : volume l (best 0 l) = 0 := by
      by_cases e : 1 ≤ best 0 l
      · exact h3 _ e hr.2
      · unfold volume
        have := supply_low l hl (p := best 0 l) (by omega)
        have hd := (sumIf_bounds (dB (best 0 l)) l hl).1
        unfold demand; omega
    rw [this, h2]
  · have hb : p ≤ best 0 l := by
      have hd : demand l p ≠ 0 := by unfold volume at h4; omega
      rcases best_buy l hl with ⟨b1, b2⟩ | ⟨_, b2⟩
      · exact absurd (sumIf_zero l fun x hx => by simp [dB, b2 x hx]) hd
      · by_cases e : p ≤ best 0 l
        · exact e
        · refine absurd (sumIf_zero l fun x hx => ?_) hd
          by_cases es : x.sd = 0
          · have := b2 x hx es
            have h2 : ¬ p ≤ x.pr := by omega
            simp [dB, h2]
          · simp [dB, es]
    have hsu := supply_rises l hl hb
    have hs : 0 < supply l (best 0 l) := by unfold volume at h4; omega
    have hd : 0 < demand l (best 0 l) := by
      rcases best_buy l hl with ⟨b1, b2⟩ | ⟨⟨x, hx, hxs, hxp⟩, b2⟩
      · omega
      · exact sumIf_pos l hl ⟨x, hx, by simp [dB, hxs, hxp]⟩
    have : 0 < volume l (best 0 l) := by unfold volume; omega
    simp [this, h1]

/-- what is strictly better than a price -/
def stB (side p : Int) (x : Lot) : Bool := x.sd == side && better side x.pr p
def strict (l : List Lot) (side p : Int) : Int := sumIf (stB side p) l
theorem strict_buy (l : List Lot) (h : Oks l) (p : Int) : strict l 0 p ≤ demand l p :=
  sumIf_mono l h (fun x _ hx => by simp only [stB, better, dB, if_true, Bool.and_eq_true, decide_eq_true_eq] at hx ⊢; exact ⟨hx.1, by omega⟩)
theorem strict_sell (l : List Lot) (h : Oks l) (p : Int) : strict l 1 p ≤ supply l p :=
  sumIf_mono l h (fun x _ hx => by
    simp only [stB, better, sB, Bool.and_eq_true] at hx ⊢
    rw [if_neg (by decide)] at hx
    simp only [decide_eq_true_eq] at hx ⊢
    exact ⟨hx.1, by omega⟩)

/-- the other test of what is strictly better, as the document's answer has it -/
def stR (side p : Int) (x : Lot) : Bool := x.sd == side && ((side == 0 && decide (p < x.pr)) || (side == 1 && decide (x.pr < p)))
theorem strict_ref (l : List Lot) (h : Oks l) (side p : Int) : strict l side p = sumIf (stR side p) l :=
  sumIf_congr l fun x hx => by
    have hb := (ok_bounds (h x hx)).2.2.1
    unfold stB stR better
    by_cases hs : x.sd = side
    · by_cases h0 : side = 0
      · simp [hs, h0]
      · have h1 : side = 1 := by omega
        simp [h1]
    · have : (x.sd == side) = false := by simpa using hs
      simp [this]

end Cv
end Go.Proofs.YtfdapfegidbijaaDoor
