/- What all clients have together; no program is spoken of. -/
import Derived.Test.YtgmncdpjbphfhaaDoorPuMore
namespace Go.Proofs.YtgmncdpjbphfhaaDoor
namespace Pu

def cashes (f : Nat → Int) : Nat → Int
  | 0 => 0
  | m + 1 => cashes f m + f (m * 8)
def stocks (f : Nat → Int) (j : Nat) : Nat → Int
  | 0 => 0
  | m + 1 => stocks f j m + f (m * 8 + 2 + j)
theorem cashes_other {f : Nat → Int} {i : Nat} {v : Int} (h : ∀ c, i ≠ c * 8) (m : Nat) : cashes (add f i v) m = cashes f m := by
  induction m with
  | zero => rfl
  | succ m ih => simp only [cashes, ih]; rw [add_ne _ _ (fun e => h m e.symm)]
theorem cashes_at {f : Nat → Int} {c : Nat} {v : Int} (m : Nat) : cashes (add f (c * 8) v) m = cashes f m + if c < m then v else 0 := by
  induction m with
  | zero => simp [cashes]
  | succ m ih =>
    simp only [cashes, ih]
    by_cases e : c = m
    · subst e; rw [add_at, if_neg (by omega), if_pos (by omega)]; omega
    · rw [add_ne _ _ (by omega)]
      by_cases h : c < m
      · rw [if_pos h, if_pos (by omega)]; omega
      · rw [if_neg h, if_neg (by omega)]; omega
theorem stocks_other {f : Nat → Int} {i j : Nat} {v : Int} (h : ∀ c, i ≠ c * 8 + 2 + j) (m : Nat) : stocks (add f i v) j m = stocks f j m := by
  induction m with
  | zero => rfl
  | succ m ih => simp only [stocks, ih]; rw [add_ne _ _ (fun e => h m e.symm)]
theorem stocks_at {f : Nat → Int} {c k j : Nat} {v : Int} (hk : k < 3) (hj : j < 3) (m : Nat) : stocks (add f (c * 8 + 2 + k) v) j m = stocks f j m + if c < m ∧ k = j then v else 0 := by
  induction m with
  | zero => simp [stocks]
  | succ m ih =>
    simp only [stocks, ih]
    by_cases e : c = m ∧ k = j
    · obtain ⟨rfl, rfl⟩ := e; rw [add_at, if_neg (by omega), if_pos (by omega)]; omega
    · rw [add_ne _ _ (by omega)]
      by_cases h : c < m ∧ k = j
      · rw [if_pos h, if_pos (by omega)]; omega
      · rw [if_neg h, if_neg (by omega)]; omega
theorem cashes_bound {f : Nat → Int} (hg : Good f) : ∀ m, m ≤ 6 → 0 ≤ cashes f m ∧ cashes f m ≤ m * 1099511627776
  | 0, _ => by simp [cashes]
  | m + 1, h => by
    have := cashes_bound hg m (by omega)
    have := hg.cash m (by omega)
    simp only [cashes]
    omega
theorem stocks_bound {f : Nat → Int} (hg : Good f) {j : Nat} (hj : j < 3) : ∀ m, m ≤ 6 → 0 ≤ stocks f j m ∧ stocks f j m ≤ m * 1073741824
  | 0, _ => by simp [stocks]
  | m + 1, h => by
    have := stocks_bound hg hj m (by omega)
    have := hg.stock m j (by omega) hj
    simp only [stocks]
    omega
theorem cashes_congr {f g : Nat → Int} (m : Nat) (h : ∀ c, c < m → f (c * 8) = g (c * 8)) : cashes f m = cashes g m := by
  induction m with
  | zero => rfl
  | succ m ih => simp only [cashes]; rw [ih (fun c hc => h c (by omega)), h m (by omega)]

theorem hx_not {item : Int} {x : Cv.Lot} (h : well item x = true) : (∀ c, hx item x ≠ c * 8) ∧ ∀ c j, j < 3 → hx item x ≠ c * 8 + 2 + j := by
  rcases places h with ⟨c, c1, e1, e2⟩ | ⟨c, k, c1, k1, e1, e2⟩
  · rw [e1]; exact ⟨fun d => by omega, fun d j hj => by omega⟩
  · rw [e1]; exact ⟨fun d => by omega, fun d j hj => by omega⟩
theorem hold_sums (f : Nat → Int) (item : Int) (x : Cv.Lot) (m : Nat) : cashes (holdF f item x) m = cashes f m ∧ ∀ j, j < 3 → stocks (holdF f item x) j m = stocks f j m := by
  unfold holdF
  split
  · rename_i h
    have hw := hx_not (hold_zero h).1
    exact ⟨cashes_other hw.1 m, fun j hj => stocks_other (fun c => hw.2 c j hj) m⟩
  · exact ⟨rfl, fun _ _ => rfl⟩
theorem free_sums (f : Nat → Int) (item : Int) (x : Cv.Lot) (m : Nat) : cashes (freeF f item x) m = cashes f m ∧ ∀ j, j < 3 → stocks (freeF f item x) j m = stocks f j m := by
  unfold freeF
  split
  · rename_i h
    have hw := hx_not (free_zero h).1
    exact ⟨cashes_other hw.1 m, fun j hj => stocks_other (fun c => hw.2 c j hj) m⟩
  · exact ⟨rfl, fun _ _ => rfl⟩
def Gift.part (g : Gift) : Nat → Int
  | 0 => g.s0
  | 1 => g.s1
  | _ => g.s2
theorem give_sums {f : Nat → Int} {g : Gift} (h : giveC f g = 0) : cashes (giveF f g) 6 = cashes f 6 + g.cash ∧ ∀ j, j < 3 → stocks (giveF f g) j 6 = stocks f j 6 + g.part j := by
  obtain ⟨⟨c, hc, c6, _⟩, _⟩ := give_zero h
  unfold giveF
  rw [if_pos h, hc, Int.toNat_natCast]
  refine ⟨?_, fun j hj => ?_⟩
  · rw [cashes_other (fun d => by omega), cashes_other (fun d => by omega), cashes_other (fun d => by omega), cashes_at, if_pos c6]
  · have e0 : c * 8 + 2 = c * 8 + 2 + 0 := rfl
    have e1 : c * 8 + 3 = c * 8 + 2 + 1 := rfl
    have e2 : c * 8 + 4 = c * 8 + 2 + 2 := rfl
    rw [e2, stocks_at (by decide) hj, e1, stocks_at (by decide) hj, e0, stocks_at (by decide) hj, stocks_other (fun d => by omega)]
    have : j = 0 ∨ j = 1 ∨ j = 2 := by omega
    rcases this with rfl | rfl | rfl
    · simp [c6, Gift.part]
    · simp [c6, Gift.part]
    · simp [c6, Gift.part]
theorem trade_sums (f : Nat → Int) (item : Int) (b s : Cv.Lot) (price qty : Int) : cashes (tradeF f item b s price qty) 6 = cashes f 6 ∧ ∀ j, j < 3 → stocks (tradeF f item b s price qty) j 6 = stocks f j 6 := by
  unfold tradeF
  split
  · rename_i h
    obtain ⟨hr, _, _⟩ := trade_zero h
    obtain ⟨k, hk, hk3⟩ := well_item hr.wb
    obtain ⟨c, hc, hc6⟩ := well_ow hr.wb
    obtain ⟨c', hc', hc6'⟩ := well_ow hr.ws
    rw [hk, hc, hc', Int.toNat_natCast, Int.toNat_natCast, Int.toNat_natCast]
    unfold six
    refine ⟨?_, fun j hj => ?_⟩
    · rw [cashes_at, if_pos hc6', cashes_other (fun d => by omega), cashes_other (fun d => by omega), cashes_at, if_pos hc6, cashes_other (fun d => by omega), cashes_other (fun d => by omega)]
      omega
    · rw [stocks_other (fun d => by omega), stocks_at hk3 hj, stocks_at hk3 hj, stocks_other (fun d => by omega), stocks_other (fun d => by omega), stocks_other (fun d => by omega)]
      by_cases e : k = j
      · rw [if_pos ⟨hc6', e⟩, if_pos ⟨hc6, e⟩]; omega
      · rw [if_neg (fun h => e h.2), if_neg (fun h => e h.2)]; omega
  · exact ⟨rfl, fun _ _ => rfl⟩
end Pu
end Go.Proofs.YtgmncdpjbphfhaaDoor
