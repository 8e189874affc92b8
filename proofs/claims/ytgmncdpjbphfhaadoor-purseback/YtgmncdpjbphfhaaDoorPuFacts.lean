/- Purses as numbers: what each act answers and leaves, and what is always so; no program is spoken of. -/
import Derived.Test.YtgmncdpjbphfhaaDoorCvFacts
namespace Go.Proofs.YtgmncdpjbphfhaaDoor
namespace Pu

/-- so much more at one place -/
def add (f : Nat → Int) (i : Nat) (v : Int) : Nat → Int := fun j => if j = i then f j + v else f j
def dl (i : Nat) (v : Int) (j : Nat) : Int := if j = i then v else 0
theorem add_dl (f : Nat → Int) (i : Nat) (v : Int) (j : Nat) : add f i v j = f j + dl i v j := by
  unfold add dl; split <;> simp
theorem add_at (f : Nat → Int) (i : Nat) (v : Int) : add f i v i = f i + v := by simp [add]
theorem add_ne (f : Nat → Int) {i j : Nat} (v : Int) (h : j ≠ i) : add f i v j = f j := by simp [add, h]

/-- client c: cash at c * 8, held behind it, three stocks, three that are kept -/
structure Good (f : Nat → Int) : Prop where
  cash : ∀ c, c < 6 → 0 ≤ f (c * 8 + 1) ∧ f (c * 8 + 1) ≤ f (c * 8) ∧ f (c * 8) ≤ 1099511627776
  stock : ∀ c k, c < 6 → k < 3 → 0 ≤ f (c * 8 + 5 + k) ∧ f (c * 8 + 5 + k) ≤ f (c * 8 + 2 + k) ∧ f (c * 8 + 2 + k) ≤ 1073741824
theorem good_zero : Good (fun _ => 0) := ⟨fun _ _ => by omega, fun _ _ _ _ => by omega⟩

def well (item : Int) (x : Cv.Lot) : Bool := Wi.withinB item 0 2 && Cv.ok x
theorem well_item {item : Int} {x : Cv.Lot} (h : well item x = true) : ∃ k : Nat, item = k ∧ k < 3 := by
  simp only [well, Wi.withinB, Bool.and_eq_true, decide_eq_true_eq] at h
  exact ⟨item.toNat, by omega, by omega⟩
theorem well_ok {item : Int} {x : Cv.Lot} (h : well item x = true) : Cv.ok x = true := by
  simp only [well, Bool.and_eq_true] at h; exact h.2
theorem well_ow {item : Int} {x : Cv.Lot} (h : well item x = true) : ∃ c : Nat, x.ow = c ∧ c < 6 := by
  have := Cv.ok_bounds (well_ok h)
  exact ⟨x.ow.toNat, by omega, by omega⟩

/-- where a lot's hold stands, and of what it is held; how much -/
def hx (item : Int) (x : Cv.Lot) : Nat := if x.sd = 0 then x.ow.toNat * 8 + 1 else x.ow.toNat * 8 + 5 + item.toNat
def tx (item : Int) (x : Cv.Lot) : Nat := if x.sd = 0 then x.ow.toNat * 8 else x.ow.toNat * 8 + 2 + item.toNat
def mu (x : Cv.Lot) : Int := if x.sd = 0 then x.pr * x.q else x.q
theorem mul_bounds {a b : Int} {n m : Int} (h1 : 1 ≤ a) (h2 : a ≤ n) (h3 : 1 ≤ b) (h4 : b ≤ m) : 1 ≤ a * b ∧ a * b ≤ n * m := by
  refine ⟨?_, ?_⟩
  · have := Int.mul_le_mul h1 h3 (by omega) (by omega); simpa using this
  · exact Int.mul_le_mul h2 h4 (by omega) (by omega)
theorem mu_bounds {x : Cv.Lot} (h : Cv.ok x = true) : 1 ≤ mu x ∧ mu x ≤ 1000000 := by
  obtain ⟨_, _, _, h4, h5⟩ := Cv.ok_bounds h
  unfold mu
  split
  · have := mul_bounds h4.1 h4.2 h5.1 h5.2; omega
  · omega
theorem places {item : Int} {x : Cv.Lot} (h : well item x = true) : (∃ c : Nat, c < 6 ∧ hx item x = c * 8 + 1 ∧ tx item x = c * 8) ∨ ∃ c k : Nat, c < 6 ∧ k < 3 ∧ hx item x = c * 8 + 5 + k ∧ tx item x = c * 8 + 2 + k := by
  obtain ⟨k, hk, hk3⟩ := well_item h
  obtain ⟨c, hc, hc6⟩ := well_ow h
  unfold hx tx
  split
  · exact .inl ⟨c, hc6, by omega, by omega⟩
  · exact .inr ⟨c, k, hc6, hk3, by omega, by omega⟩
theorem place_lt {item : Int} {x : Cv.Lot} (h : well item x = true) : hx item x < 48 ∧ tx item x < 48 := by
  rcases places h with ⟨c, h1, h2, h3⟩ | ⟨c, k, h1, h4, h2, h3⟩ <;> omega
theorem good_at {f : Nat → Int} (hg : Good f) {item : Int} {x : Cv.Lot} (h : well item x = true) : 0 ≤ f (hx item x) ∧ f (hx item x) ≤ f (tx item x) ∧ f (tx item x) ≤ 1099511627776 := by
  rcases places h with ⟨c, h1, h2, h3⟩ | ⟨c, k, h1, h4, h2, h3⟩
  · rw [h2, h3]; exact hg.cash c h1
  · rw [h2, h3]; have := hg.stock c k h1 h4; omega
/-- more or less that is held, between its bounds -/
theorem good_held {f : Nat → Int} (hg : Good f) {item : Int} {x : Cv.Lot} (h : well item x = true) (v : Int) (h0 : 0 ≤ f (hx item x) + v) (h1 : f (hx item x) + v ≤ f (tx item x)) : Good (add f (hx item x) v) := by
  rcases places h with ⟨c, c1, e1, e2⟩ | ⟨c, k, c1, k1, e1, e2⟩
  · rw [e1] at h0 h1 ⊢
    rw [e2] at h1
    refine ⟨fun c' hc' => ?_, fun c' k' hc' hk' => ?_⟩
    · have := hg.cash c' hc'
      by_cases e : c' = c
      · subst e; rw [add_at, add_ne _ _ (by omega)]; omega
      · rw [add_ne _ _ (by omega), add_ne _ _ (by omega)]; exact this
    · rw [add_ne _ _ (by omega), add_ne _ _ (by omega)]; exact hg.stock c' k' hc' hk'
  · rw [e1] at h0 h1 ⊢
    rw [e2] at h1
    refine ⟨fun c' hc' => ?_, fun c' k' hc' hk' => ?_⟩
    · rw [add_ne _ _ (by omega), add_ne _ _ (by omega)]; exact hg.cash c' hc'
    · have := hg.stock c' k' hc' hk'
      by_cases e : c' = c ∧ k' = k
      · obtain ⟨rfl, rfl⟩ := e; rw [add_at, add_ne _ _ (by omega)]; omega
      · rw [add_ne _ _ (by omega), add_ne _ _ (by omega)]; exact this

def holdC (f : Nat → Int) (item : Int) (x : Cv.Lot) : Nat := if well item x = true then (if f (tx item x) - f (hx item x) < mu x then 9 else 0) else 1
def holdF (f : Nat → Int) (item : Int) (x : Cv.Lot) : Nat → Int := if holdC f item x = 0 then add f (hx item x) (mu x) else f
def freeC (f : Nat → Int) (item : Int) (x : Cv.Lot) : Nat := if well item x = true then (if f (hx item x) < mu x then 9 else 0) else 1
def freeF (f : Nat → Int) (item : Int) (x : Cv.Lot) : Nat → Int := if freeC f item x = 0 then add f (hx item x) (-(mu x)) else f
theorem hold_zero {f : Nat → Int} {item : Int} {x : Cv.Lot} (h : holdC f item x = 0) : well item x = true ∧ ¬ f (tx item x) - f (hx item x) < mu x := by
  unfold holdC at h
  split at h
  · split at h
    · exact absurd h (by decide)
    · exact ⟨by assumption, by assumption⟩
  · exact absurd h (by decide)
theorem free_zero {f : Nat → Int} {item : Int} {x : Cv.Lot} (h : freeC f item x = 0) : well item x = true ∧ ¬ f (hx item x) < mu x := by
  unfold freeC at h
  split at h
  · split at h
    · exact absurd h (by decide)
    · exact ⟨by assumption, by assumption⟩
  · exact absurd h (by decide)
theorem good_hold {f : Nat → Int} (hg : Good f) (item : Int) (x : Cv.Lot) : Good (holdF f item x) := by
  unfold holdF
  split
  · rename_i h
    obtain ⟨h1, h2⟩ := hold_zero h
    have := good_at hg h1
    have := mu_bounds (well_ok h1)
    exact good_held hg h1 _ (by omega) (by omega)
  · exact hg
theorem good_free {f : Nat → Int} (hg : Good f) (item : Int) (x : Cv.Lot) : Good (freeF f item x) := by
  unfold freeF
  split
  · rename_i h
    obtain ⟨h1, h2⟩ := free_zero h
    have := good_at hg h1
    have := mu_bounds (well_ok h1)
    exact good_held hg h1 _ (by omega) (by omega)
  · exact hg

/-- what is given -/
structure Gift where
  n : Int
  cash : Int
  s0 : Int
  s1 : Int
  s2 : Int
def Gift.neg (g : Gift) : Bool := decide (g.s0 < 0) || decide (g.s1 < 0) || decide (g.s2 < 0) || decide (g.cash < 0)
def Gift.fine (g : Gift) : Bool := Wi.withinB g.n 0 5 && !g.neg
def Gift.over (f : Nat → Int) (g : Gift) : Bool := decide (1099511627776 - f (g.n.toNat * 8) < g.cash) || decide (1073741824 - f (g.n.toNat * 8 + 2) < g.s0) || decide (1073741824 - f (g.n.toNat * 8 + 3) < g.s1) || decide (1073741824 - f (g.n.toNat * 8 + 4) < g.s2)
def giveC (f : Nat → Int) (g : Gift) : Nat := if g.fine = true then (if g.over f = true then 7 else 0) else 1
def giveF (f : Nat → Int) (g : Gift) : Nat → Int := if giveC f g = 0 then add (add (add (add f (g.n.toNat * 8) g.cash) (g.n.toNat * 8 + 2) g.s0) (g.n.toNat * 8 + 3) g.s1) (g.n.toNat * 8 + 4) g.s2 else f
theorem give_zero {f : Nat → Int} {g : Gift} (h : giveC f g = 0) : (∃ c : Nat, g.n = c ∧ c < 6 ∧ g.cash ≤ 1099511627776 - f (c * 8) ∧ g.s0 ≤ 1073741824 - f (c * 8 + 2) ∧ g.s1 ≤ 1073741824 - f (c * 8 + 3) ∧ g.s2 ≤ 1073741824 - f (c * 8 + 4)) ∧ 0 ≤ g.cash ∧ 0 ≤ g.s0 ∧ 0 ≤ g.s1 ∧ 0 ≤ g.s2 := by
  unfold giveC at h
  split at h
  · rename_i h1
    split at h
    · exact absurd h (by decide)
    · rename_i h2
      simp only [Gift.over, Gift.fine, Gift.neg, Wi.withinB, Bool.or_eq_true, Bool.and_eq_true, Bool.not_eq_true', Bool.or_eq_false_iff, decide_eq_true_eq, decide_eq_false_iff_not, not_or] at h1 h2
      refine ⟨⟨g.n.toNat, by omega, by omega, ?_, ?_, ?_, ?_⟩, by omega, by omega, by omega, by omega⟩ <;> omega
  · exact absurd h (by decide)
theorem good_give {f : Nat → Int} (hg : Good f) (g : Gift) : Good (giveF f g) := by
  unfold giveF
  split
  · rename_i h
    obtain ⟨⟨c, hc, c6, b0, b1, b2, b3⟩, p0, p1, p2, p3⟩ := give_zero h
    rw [hc, Int.toNat_natCast]
    refine ⟨fun c' hc' => ?_, fun c' k' hc' hk' => ?_⟩
    · have := hg.cash c' hc'
      simp only [add_dl, dl]
      by_cases e : c' = c
      · subst e
        simp only [if_true, if_neg (show ¬ c' * 8 + 1 = c' * 8 by omega), if_neg (show ¬ c' * 8 + 1 = c' * 8 + 2 by omega), if_neg (show ¬ c' * 8 + 1 = c' * 8 + 3 by omega), if_neg (show ¬ c' * 8 + 1 = c' * 8 + 4 by omega), if_neg (show ¬ c' * 8 = c' * 8 + 2 by omega), if_neg (show ¬ c' * 8 = c' * 8 + 3 by omega), if_neg (show ¬ c' * 8 = c' * 8 + 4 by omega)]
        omega
      · repeat rw [if_neg (by omega)]
        omega
    · have hst := hg.stock c' k' hc' hk'
      simp only [add_dl, dl]
      by_cases e : c' = c
      · subst e
        have : k' = 0 ∨ k' = 1 ∨ k' = 2 := by omega
        rcases this with rfl | rfl | rfl
        all_goals
          repeat (first | rw [if_neg (by omega)] | rw [if_pos (by omega)])
          simp only [Nat.add_zero, Nat.add_assoc, Nat.reduceAdd] at hst ⊢
          omega
      · repeat rw [if_neg (by omega)]
        omega
  · exact hg

/-- what is wrong with a trade, whatever its owners have -/
def tchk (item : Int) (b s : Cv.Lot) (price qty : Int) : Nat :=
  if well item b = true ∧ well item s = true then
    if b.sd = 0 ∧ s.sd = 1 then
      if (1 ≤ price ∧ price ≤ 1000) ∧ 1 ≤ qty ∧ qty ≤ b.q ∧ qty ≤ s.q then
        if s.pr ≤ price ∧ price ≤ b.pr then 0 else 11
      else 1
    else 2
  else 1
def six (f : Nat → Int) (b s item : Nat) (bp price qty : Int) : Nat → Int :=
  add (add (add (add (add (add f (b * 8 + 1) (-(bp * qty))) (s * 8 + 5 + item) (-qty)) (b * 8) (-(price * qty))) (s * 8 + 2 + item) (-qty)) (b * 8 + 2 + item) qty) (s * 8) (price * qty)
def poor (f : Nat → Int) (b s item : Nat) (bp qty : Int) : Bool := decide (f (b * 8 + 1) < bp * qty) || decide (f (s * 8 + 5 + item) < qty)
def over (f : Nat → Int) (b s item : Nat) (price qty : Int) : Bool := decide (b ≠ s) && (decide (1073741824 < f (b * 8 + 2 + item) + qty) || decide (1099511627776 < f (s * 8) + price * qty))
def tradeC (f : Nat → Int) (item : Int) (b s : Cv.Lot) (price qty : Int) : Nat :=
  if tchk item b s price qty = 0 then
    if poor f b.ow.toNat s.ow.toNat item.toNat b.pr qty = true then 9
    else if over f b.ow.toNat s.ow.toNat item.toNat price qty = true then 7 else 0
  else tchk item b s price qty
def tradeF (f : Nat → Int) (item : Int) (b s : Cv.Lot) (price qty : Int) : Nat → Int :=
  if tradeC f item b s price qty = 0 then six f b.ow.toNat s.ow.toNat item.toNat b.pr price qty else f

/-- a trade that is right -/
structure Right (item : Int) (b s : Cv.Lot) (price qty : Int) : Prop where
  wb : well item b = true
  ws : well item s = true
  sb : b.sd = 0
  ss : s.sd = 1
  p : 1 ≤ price ∧ price ≤ 1000
  q : 1 ≤ qty ∧ qty ≤ b.q ∧ qty ≤ s.q
  o : s.pr ≤ price ∧ price ≤ b.pr
theorem right_of {item : Int} {b s : Cv.Lot} {price qty : Int} (h : tchk item b s price qty = 0) : Right item b s price qty := by
  unfold tchk at h
  split at h
  · rename_i h1
    split at h
    · rename_i h2
      split at h
      · rename_i h3
        split at h
        · rename_i h4
          exact ⟨h1.1, h1.2, h2.1, h2.2, h3.1, h3.2, h4⟩
        · exact absurd h (by decide)
      · exact absurd h (by decide)
    · exact absurd h (by decide)
  · exact absurd h (by decide)
theorem Right.muls {item : Int} {b s : Cv.Lot} {price qty : Int} (h : Right item b s price qty) : (1 ≤ price * qty ∧ price * qty ≤ 1000000) ∧ (1 ≤ b.pr * qty ∧ b.pr * qty ≤ 1000000) ∧ price * qty ≤ b.pr * qty ∧ qty ≤ 1000 := by
  have h1 := Cv.ok_bounds (well_ok h.wb)
  have h2 := h.q
  have h3 := mul_bounds h.p.1 h.p.2 h2.1 (show qty ≤ 1000 by omega)
  have h4 := mul_bounds h1.2.2.2.1.1 h1.2.2.2.1.2 h2.1 (show qty ≤ 1000 by omega)
  have h5 := Int.mul_le_mul_of_nonneg_right h.o.2 (show 0 ≤ qty by omega)
  omega

theorem six_dl (f : Nat → Int) (b s item : Nat) (bp price qty : Int) (j : Nat) : six f b s item bp price qty j = f j + dl (b * 8 + 1) (-(bp * qty)) j + dl (s * 8 + 5 + item) (-qty) j + dl (b * 8) (-(price * qty)) j + dl (s * 8 + 2 + item) (-qty) j + dl (b * 8 + 2 + item) qty j + dl (s * 8) (price * qty) j := by
  simp only [six, add_dl]
theorem dl_ne {i j : Nat} {v : Int} (h : j ≠ i) : dl i v j = 0 := by simp [dl, h]
theorem dl_at {i : Nat} {v : Int} : dl i v i = v := by simp [dl]
theorem good_six {f : Nat → Int} (hg : Good f) {b s k : Nat} {bp price qty : Int} (hb : b < 6) (hs : s < 6) (hk : k < 3) (hm : 1 ≤ price * qty ∧ price * qty ≤ bp * qty) (hq : 1 ≤ qty) (hp : poor f b s k bp qty = false) (ho : over f b s k price qty = false) : Good (six f b s k bp price qty) := by
  simp only [poor, over, Bool.or_eq_false_iff, Bool.and_eq_false_iff, decide_eq_false_iff_not, Decidable.not_not] at hp ho
  refine ⟨fun c hc => ?_, fun c k' hc hk' => ?_⟩
  · have h1 := hg.cash c hc
    have h2 := hg.cash b hb
    have h3 := hg.cash s hs
    rw [six_dl, six_dl]
    rw [dl_ne (i := s * 8 + 5 + k) (by omega), dl_ne (i := s * 8 + 5 + k) (by omega), dl_ne (i := s * 8 + 2 + k) (by omega), dl_ne (i := s * 8 + 2 + k) (by omega), dl_ne (i := b * 8 + 2 + k) (by omega), dl_ne (i := b * 8 + 2 + k) (by omega), dl_ne (i := b * 8) (j := c * 8 + 1) (by omega), dl_ne (i := s * 8) (j := c * 8 + 1) (by omega), dl_ne (i := b * 8 + 1) (j := c * 8) (by omega)]
    by_cases e1 : c = b
    · subst e1
      rw [dl_at, dl_at]
      by_cases e2 : c = s
      · subst e2; rw [dl_at]; omega
      · rw [dl_ne (by omega)]; omega
    · rw [dl_ne (i := b * 8 + 1) (by omega), dl_ne (i := b * 8) (by omega)]
      by_cases e2 : c = s
      · subst e2; rw [dl_at]; omega
      · rw [dl_ne (by omega)]; omega
  · have h1 := hg.stock c k' hc hk'
    have h2 := hg.stock b k hb hk
    have h3 := hg.stock s k hs hk
    rw [six_dl, six_dl]
    rw [dl_ne (i := b * 8 + 1) (by omega), dl_ne (i := b * 8 + 1) (by omega), dl_ne (i := b * 8) (by omega), dl_ne (i := b * 8) (by omega), dl_ne (i := s * 8) (by omega), dl_ne (i := s * 8) (by omega), dl_ne (i := s * 8 + 2 + k) (j := c * 8 + 5 + k') (by omega), dl_ne (i := b * 8 + 2 + k) (j := c * 8 + 5 + k') (by omega), dl_ne (i := s * 8 + 5 + k) (j := c * 8 + 2 + k') (by omega)]
    by_cases e0 : k' = k
    · subst e0
      by_cases e1 : c = b
      · subst e1
        rw [dl_at]
        by_cases e2 : c = s
        · subst e2; rw [dl_at, dl_at]; omega
        · rw [dl_ne (by omega), dl_ne (by omega)]; omega
      · rw [dl_ne (i := b * 8 + 2 + k') (by omega)]
        by_cases e2 : c = s
        · subst e2; rw [dl_at, dl_at]; omega
        · rw [dl_ne (by omega), dl_ne (by omega)]; omega
    · rw [dl_ne (by omega), dl_ne (by omega), dl_ne (by omega)]; omega
theorem trade_zero {f : Nat → Int} {item : Int} {b s : Cv.Lot} {price qty : Int} (h : tradeC f item b s price qty = 0) : Right item b s price qty ∧ poor f b.ow.toNat s.ow.toNat item.toNat b.pr qty = false ∧ over f b.ow.toNat s.ow.toNat item.toNat price qty = false := by
  unfold tradeC at h
  split at h
  · rename_i h1
    split at h
    · exact absurd h (by decide)
    · rename_i h2
      split at h
      · exact absurd h (by decide)
      · rename_i h3
        exact ⟨right_of h1, by simpa using h2, by simpa using h3⟩
  · rename_i h1; exact absurd h h1
theorem good_trade {f : Nat → Int} (hg : Good f) (item : Int) (b s : Cv.Lot) (price qty : Int) : Good (tradeF f item b s price qty) := by
  unfold tradeF
  split
  · rename_i h
    obtain ⟨hr, hp, ho⟩ := trade_zero h
    have hm := hr.muls
    obtain ⟨k, hk, hk3⟩ := well_item hr.wb
    obtain ⟨c, hc, hc6⟩ := well_ow hr.wb
    obtain ⟨c', hc', hc6'⟩ := well_ow hr.ws
    exact good_six hg (by omega) (by omega) (by omega) ⟨hm.1.1, hm.2.2.1⟩ hr.q.1 hp ho
  · exact hg
end Pu
end Go.Proofs.YtgmncdpjbphfhaaDoor
