/- A trade of purses, one number behind the other; no program is spoken of. -/
import Derived.Test.YtgmncdpjbphfhaaDoorPuFacts
namespace Go.Proofs.YtgmncdpjbphfhaaDoor
namespace Pu

def g1 (f : Nat → Int) (b : Nat) (H : Int) : Nat → Int := add f (b * 8 + 1) (-H)
def g2 (f : Nat → Int) (b s k : Nat) (H Q : Int) : Nat → Int := add (g1 f b H) (s * 8 + 5 + k) (-Q)
def g3 (f : Nat → Int) (b s k : Nat) (H Q A : Int) : Nat → Int := add (g2 f b s k H Q) (b * 8) (-A)
def g4 (f : Nat → Int) (b s k : Nat) (H Q A : Int) : Nat → Int := add (g3 f b s k H Q A) (s * 8 + 2 + k) (-Q)
def g5 (f : Nat → Int) (b s k : Nat) (H Q A : Int) : Nat → Int := add (g4 f b s k H Q A) (b * 8 + 2 + k) Q
theorem six_eq (f : Nat → Int) (b s k : Nat) (bp price qty : Int) : six f b s k bp price qty = add (g5 f b s k (bp * qty) qty (price * qty)) (s * 8) (price * qty) := rfl
theorem g1_at {f : Nat → Int} {b s k : Nat} {H : Int} : g1 f b H (s * 8 + 5 + k) = f (s * 8 + 5 + k) ∨ ¬ k < 3 := by
  by_cases h : k < 3
  · exact .inl (add_ne _ _ (by omega))
  · exact .inr h
theorem g1_kept {f : Nat → Int} {b s k : Nat} {H : Int} (hk : k < 3) : g1 f b H (s * 8 + 5 + k) = f (s * 8 + 5 + k) := add_ne _ _ (by omega)
theorem g2_cash {f : Nat → Int} {b s k : Nat} {H Q : Int} (hk : k < 3) : g2 f b s k H Q (b * 8) = f (b * 8) := by
  unfold g2 g1; rw [add_ne _ _ (by omega), add_ne _ _ (by omega)]
theorem g3_stock {f : Nat → Int} {b s k : Nat} {H Q A : Int} (hk : k < 3) : g3 f b s k H Q A (s * 8 + 2 + k) = f (s * 8 + 2 + k) := by
  unfold g3 g2 g1; rw [add_ne _ _ (by omega), add_ne _ _ (by omega), add_ne _ _ (by omega)]
theorem g4_stock {f : Nat → Int} {b s k : Nat} {H Q A : Int} (hk : k < 3) : g4 f b s k H Q A (b * 8 + 2 + k) = f (b * 8 + 2 + k) + (if b = s then -Q else 0) := by
  unfold g4
  by_cases e : b = s
  · subst e; rw [add_at, g3_stock hk, if_pos rfl]
  · unfold g3 g2 g1; rw [add_ne _ _ (by omega), add_ne _ _ (by omega), add_ne _ _ (by omega), add_ne _ _ (by omega), if_neg e]; simp
theorem g5_cash {f : Nat → Int} {b s k : Nat} {H Q A : Int} (hk : k < 3) : g5 f b s k H Q A (s * 8) = f (s * 8) + (if b = s then -A else 0) := by
  unfold g5 g4
  rw [add_ne _ _ (by omega), add_ne _ _ (by omega)]
  unfold g3
  by_cases e : b = s
  · subst e; rw [add_at, g2_cash hk, if_pos rfl]
  · unfold g2 g1; rw [add_ne _ _ (by omega), add_ne _ _ (by omega), add_ne _ _ (by omega), if_neg e]; simp
/-- what is known of the two numbers that grow last -/
theorem grows {f : Nat → Int} (hg : Good f) {b s k : Nat} {bp price qty : Int} (hb : b < 6) (hs : s < 6) (hk : k < 3) (hm : 1 ≤ price * qty ∧ price * qty ≤ bp * qty) (hq : 1 ≤ qty) (hp : poor f b s k bp qty = false) :
    (0 ≤ g4 f b s k (bp * qty) qty (price * qty) (b * 8 + 2 + k) ∧ g4 f b s k (bp * qty) qty (price * qty) (b * 8 + 2 + k) ≤ 1073741824) ∧ (0 ≤ g5 f b s k (bp * qty) qty (price * qty) (s * 8) ∧ g5 f b s k (bp * qty) qty (price * qty) (s * 8) ≤ 1099511627776) ∧
    over f b s k price qty = (decide (1073741824 - g4 f b s k (bp * qty) qty (price * qty) (b * 8 + 2 + k) < qty) || decide (1099511627776 - g5 f b s k (bp * qty) qty (price * qty) (s * 8) < price * qty)) := by
  rw [g4_stock hk, g5_cash hk]
  simp only [poor, Bool.or_eq_false_iff, decide_eq_false_iff_not] at hp
  have h1 := hg.cash b hb
  have h2 := hg.cash s hs
  have h3 := hg.stock b k hb hk
  have h4 := hg.stock s k hs hk
  unfold over
  by_cases e : b = s
  · subst e
    simp only [if_true]
    refine ⟨by omega, by omega, ?_⟩
    rw [show decide (b ≠ b) = false by simp, Bool.false_and]
    symm
    rw [Bool.or_eq_false_iff, decide_eq_false_iff_not, decide_eq_false_iff_not]
    omega
  · rw [if_neg e, if_neg e]
    refine ⟨by omega, by omega, ?_⟩
    rw [show decide (b ≠ s) = true by simpa using e, Bool.true_and]
    congr 1
    · rw [decide_eq_decide]; omega
    · rw [decide_eq_decide]; omega

/-- a lot of so many -/
def only (x : Cv.Lot) (q : Int) : Cv.Lot := ⟨x.id, x.ow, x.sd, x.pr, q⟩
theorem only_well {item : Int} {x : Cv.Lot} {q : Int} (h : well item x = true) (h1 : 1 ≤ q) (h2 : q ≤ x.q) : well item (only x q) = true := by
  show (Wi.withinB item 0 2 && (Wi.withinB x.id 1 1073741824 && Wi.withinB x.ow 0 5 && Wi.withinB x.sd 0 1 && Wi.withinB x.pr 1 1000 && Wi.withinB q 1 1000)) = true
  simp only [well, Cv.ok, Wi.withinB, Bool.and_eq_true, decide_eq_true_eq] at h ⊢
  exact ⟨h.1, h.2.1, h1, Int.le_trans h2 h.2.2.2⟩
theorem free_buy {f : Nat → Int} {item : Int} {x : Cv.Lot} {q : Int} (h : well item x = true) (h1 : 1 ≤ q) (h2 : q ≤ x.q) (hs : x.sd = 0) :
    freeC f item (only x q) = (if f (x.ow.toNat * 8 + 1) < x.pr * q then 9 else 0) ∧ (¬ f (x.ow.toNat * 8 + 1) < x.pr * q → freeF f item (only x q) = g1 f x.ow.toNat (x.pr * q)) ∧ (f (x.ow.toNat * 8 + 1) < x.pr * q → freeF f item (only x q) = f) := by
  have e1 : hx item (only x q) = x.ow.toNat * 8 + 1 := by unfold hx; rw [if_pos (by exact hs)]; rfl
  have e2 : mu (only x q) = x.pr * q := by unfold mu; rw [if_pos (by exact hs)]; rfl
  have e3 : freeC f item (only x q) = (if f (x.ow.toNat * 8 + 1) < x.pr * q then 9 else 0) := by unfold freeC; rw [if_pos (only_well h h1 h2), e1, e2]
  refine ⟨e3, fun hn => ?_, fun hn => ?_⟩
  · unfold freeF; rw [e3, if_neg hn, if_pos rfl, e1, e2]; rfl
  · unfold freeF; rw [e3, if_pos hn]; rfl
theorem free_sell {f : Nat → Int} {item : Int} {x : Cv.Lot} {q : Int} (h : well item x = true) (h1 : 1 ≤ q) (h2 : q ≤ x.q) (hs : x.sd = 1) :
    freeC f item (only x q) = (if f (x.ow.toNat * 8 + 5 + item.toNat) < q then 9 else 0) ∧ (¬ f (x.ow.toNat * 8 + 5 + item.toNat) < q → freeF f item (only x q) = add f (x.ow.toNat * 8 + 5 + item.toNat) (-q)) ∧ (f (x.ow.toNat * 8 + 5 + item.toNat) < q → freeF f item (only x q) = f) := by
  have hs' : ¬ x.sd = 0 := by omega
  have e1 : hx item (only x q) = x.ow.toNat * 8 + 5 + item.toNat := by unfold hx; rw [if_neg (by exact hs')]; rfl
  have e2 : mu (only x q) = q := by unfold mu; rw [if_neg (by exact hs')]; rfl
  have e3 : freeC f item (only x q) = (if f (x.ow.toNat * 8 + 5 + item.toNat) < q then 9 else 0) := by unfold freeC; rw [if_pos (only_well h h1 h2), e1, e2]
  refine ⟨e3, fun hn => ?_, fun hn => ?_⟩
  · unfold freeF; rw [e3, if_neg hn, if_pos rfl, e1, e2]
  · unfold freeF; rw [e3, if_pos hn]; rfl
end Pu
end Go.Proofs.YtgmncdpjbphfhaaDoor
