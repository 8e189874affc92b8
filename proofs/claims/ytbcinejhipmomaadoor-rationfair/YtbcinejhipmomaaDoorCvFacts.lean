/- Lots, and demand, supply and best prices of them, as functions of lists; no program is spoken of. -/
import Derived.Test.YtbcinejhipmomaaDoorPlain
namespace Go.Proofs.YtbcinejhipmomaaDoor
namespace Cv

structure Lot where
  id : Int
  ow : Int
  sd : Int
  pr : Int
  q : Int

def z : Lot := ⟨0, 0, 0, 0, 0⟩
def nth (l : List Lot) (i : Nat) : Lot := l.getD i z
def ok (x : Lot) : Bool := Wi.withinB x.id 1 1073741824 && Wi.withinB x.ow 0 5 && Wi.withinB x.sd 0 1 && Wi.withinB x.pr 1 1000 && Wi.withinB x.q 1 1000
def has (l : List Lot) (id : Int) : Bool := l.any fun x => x.id == id
def okAt (l : List Lot) (i : Nat) : Bool := ok (nth l i) && !has (l.take i) (nth l i).id
def WellTo (l : List Lot) (k : Nat) : Prop := ∀ i, i < k → okAt l i = true
def Well (l : List Lot) : Prop := l.length ≤ 120 ∧ WellTo l l.length
def Oks (l : List Lot) : Prop := ∀ x ∈ l, ok x = true

theorem nth_mem {l : List Lot} {i : Nat} (h : i < l.length) : nth l i ∈ l := by
  unfold nth; rw [List.getD_eq_getElem?_getD, List.getElem?_eq_getElem h]; exact List.getElem_mem h
theorem take_succ {l : List Lot} {i : Nat} (h : i < l.length) : l.take (i + 1) = l.take i ++ [nth l i] := by
  unfold nth; rw [List.take_succ_eq_append_getElem h, List.getD_eq_getElem?_getD, List.getElem?_eq_getElem h]; rfl
theorem nth_drop (l : List Lot) (k i : Nat) : nth (l.drop k) i = nth l (k + i) := by
  unfold nth; rw [List.getD_eq_getElem?_getD, List.getD_eq_getElem?_getD, List.getElem?_drop]
theorem nth_take {l : List Lot} {k i : Nat} (h : i < k) : nth (l.take k) i = nth l i := by
  unfold nth; rw [List.getD_eq_getElem?_getD, List.getD_eq_getElem?_getD, List.getElem?_take_of_lt h]

theorem verdict_upto (l : List Lot) : ∀ k, k ≤ l.length → WellTo l k ∨ ∃ i, i < l.length ∧ WellTo l i ∧ okAt l i = false
  | 0, _ => .inl fun i hi => absurd hi (Nat.not_lt_zero i)
  | k + 1, h => by
    rcases verdict_upto l k (by omega) with h1 | h1
    · cases hk : okAt l k
      · exact .inr ⟨k, by omega, h1, hk⟩
      · refine .inl fun i hi => ?_
        by_cases e : i = k
        · rw [e]; exact hk
        · exact h1 i (by omega)
    · exact .inr h1
theorem verdict (l : List Lot) : 120 < l.length ∨ Well l ∨ (l.length ≤ 120 ∧ ∃ i, i < l.length ∧ WellTo l i ∧ okAt l i = false) := by
  by_cases h : 120 < l.length
  · exact .inl h
  · rcases verdict_upto l l.length (Nat.le_refl _) with h1 | h1
    · exact .inr (.inl ⟨by omega, h1⟩)
    · exact .inr (.inr ⟨by omega, h1⟩)

theorem ok_bounds {x : Lot} (h : ok x = true) : (1 ≤ x.id ∧ x.id ≤ 1073741824) ∧ (0 ≤ x.ow ∧ x.ow ≤ 5) ∧ (0 ≤ x.sd ∧ x.sd ≤ 1) ∧ (1 ≤ x.pr ∧ x.pr ≤ 1000) ∧ (1 ≤ x.q ∧ x.q ≤ 1000) := by
  simp only [ok, Wi.withinB, Bool.and_eq_true, decide_eq_true_eq] at h
  omega

theorem Well.oks {l : List Lot} (h : Well l) : Oks l := by
  intro x hx
  obtain ⟨i, hi, rfl⟩ := List.mem_iff_getElem.1 hx
  have := h.2 i hi
  simp only [okAt, Bool.and_eq_true] at this
  have e : nth l i = l[i] := by unfold nth; rw [List.getD_eq_getElem?_getD, List.getElem?_eq_getElem hi]; rfl
  rw [← e]; exact this.1
theorem Well.take {l : List Lot} (h : Well l) (k : Nat) : Well (l.take k) := by
  refine ⟨by rw [List.length_take]; have := h.1; omega, fun i hi => ?_⟩
  rw [List.length_take] at hi
  have := h.2 i (by omega)
  unfold okAt at this ⊢
  rwa [nth_take (by omega), List.take_take, Nat.min_eq_left (by omega)]
theorem has_mono {a b : List Lot} {id : Int} (h : ∀ x ∈ a, x ∈ b) (hb : has b id = false) : has a id = false := by
  unfold has at *
  rw [List.any_eq_false] at *
  exact fun x hx => hb x (h x hx)
theorem Well.drop {l : List Lot} (h : Well l) (k : Nat) : Well (l.drop k) := by
  refine ⟨by rw [List.length_drop]; have := h.1; omega, fun i hi => ?_⟩
  rw [List.length_drop] at hi
  have := h.2 (k + i) (by omega)
  unfold okAt at this ⊢
  rw [nth_drop]
  simp only [Bool.and_eq_true, Bool.not_eq_true'] at this ⊢
  refine ⟨this.1, has_mono (fun x hx => ?_) this.2⟩
  rw [List.take_drop] at hx
  exact List.mem_of_mem_drop hx

def sumIf (f : Lot → Bool) : List Lot → Int
  | [] => 0
  | x :: l => (if f x = true then x.q else 0) + sumIf f l
theorem sumIf_append (f : Lot → Bool) : ∀ a b : List Lot, sumIf f (a ++ b) = sumIf f a + sumIf f b
  | [], b => by simp [sumIf]
  | x :: a, b => by simp [sumIf, sumIf_append f a b]; omega
theorem sumIf_split (f : Lot → Bool) (l : List Lot) (k : Nat) : sumIf f l = sumIf f (l.take k) + sumIf f (l.drop k) := by
  rw [← sumIf_append, List.take_append_drop]
theorem sumIf_step (f : Lot → Bool) {l : List Lot} {k : Nat} (h : k < l.length) : sumIf f (l.take (k + 1)) = sumIf f (l.take k) + if f (nth l k) = true then (nth l k).q else 0 := by
  rw [take_succ h, sumIf_append]; simp [sumIf]
theorem sumIf_bounds (f : Lot → Bool) : ∀ l : List Lot, Oks l → 0 ≤ sumIf f l ∧ sumIf f l ≤ 1000 * l.length
  | [], _ => by simp [sumIf]
  | x :: l, h => by
    have ih := sumIf_bounds f l (fun y hy => h y (List.mem_cons_of_mem _ hy))
    have hx := (ok_bounds (h x List.mem_cons_self)).2.2.2.2
    simp only [sumIf, List.length_cons]
    split <;> omega
theorem Oks.take {l : List Lot} (h : Oks l) (k : Nat) : Oks (l.take k) := fun x hx => h x (List.mem_of_mem_take hx)
theorem sumIf_mono {f g : Lot → Bool} : ∀ l : List Lot, Oks l → (∀ x ∈ l, f x = true → g x = true) → sumIf f l ≤ sumIf g l
  | [], _, _ => by simp [sumIf]
  | x :: l, h, hfg => by
    have ih := sumIf_mono (f := f) (g := g) l (fun y hy => h y (List.mem_cons_of_mem _ hy)) (fun y hy => hfg y (List.mem_cons_of_mem _ hy))
    have hx := (ok_bounds (h x List.mem_cons_self)).2.2.2.2
    have hh := hfg x List.mem_cons_self
    simp only [sumIf]
    by_cases e : f x = true
    · rw [if_pos e, if_pos (hh e)]; omega
    · rw [if_neg e]; split <;> omega
theorem sumIf_congr {f g : Lot → Bool} : ∀ l : List Lot, (∀ x ∈ l, f x = g x) → sumIf f l = sumIf g l
  | [], _ => rfl
  | x :: l, h => by
    simp only [sumIf]
    rw [sumIf_congr l (fun y hy => h y (List.mem_cons_of_mem _ hy)), h x List.mem_cons_self]
theorem sumIf_pos {f : Lot → Bool} : ∀ l : List Lot, Oks l → (∃ x ∈ l, f x = true) → 0 < sumIf f l
  | [], _, h => by obtain ⟨x, hx, _⟩ := h; cases hx
  | x :: l, h, hf => by
    have hx := (ok_bounds (h x List.mem_cons_self)).2.2.2.2
    have ho : Oks l := fun y hy => h y (List.mem_cons_of_mem _ hy)
    have hb := (sumIf_bounds f l ho).1
    simp only [sumIf]
    by_cases e : f x = true
    · rw [if_pos e]; omega
    · rw [if_neg e]
      obtain ⟨y, hy, hfy⟩ := hf
      rcases List.mem_cons.1 hy with rfl | hy
      · exact absurd hfy e
      · have := sumIf_pos l ho ⟨y, hy, hfy⟩; omega
theorem sumIf_zero {f : Lot → Bool} (l : List Lot) (h : ∀ x ∈ l, f x = false) : sumIf f l = 0 := by
  rw [sumIf_congr (g := fun _ => false) l h]
  clear h
  induction l with
  | nil => rfl
  | cons x l ih => simp [sumIf, ih]

def dB (p : Int) (x : Lot) : Bool := x.sd == 0 && decide (p ≤ x.pr)
def sB (p : Int) (x : Lot) : Bool := x.sd == 1 && decide (x.pr ≤ p)
def demand (l : List Lot) (p : Int) : Int := sumIf (dB p) l
def supply (l : List Lot) (p : Int) : Int := sumIf (sB p) l

def better (side p than : Int) : Bool := if side = 0 then decide (than < p) else decide (p < than)
def bstep (side b : Int) (x : Lot) : Int := if (x.sd == side && (b == 0 || better side x.pr b)) = true then x.pr else b
def best (side : Int) (l : List Lot) : Int := l.foldl (bstep side) 0
theorem best_step (side : Int) {l : List Lot} {k : Nat} (h : k < l.length) : best side (l.take (k + 1)) = bstep side (best side (l.take k)) (nth l k) := by
  unfold best; rw [take_succ h, List.foldl_append]; rfl

/-- the greatest price of buys -/
theorem best_buy (l : List Lot) (h : Oks l) : (best 0 l = 0 ∧ ∀ x ∈ l, x.sd ≠ 0) ∨ (∃ x ∈ l, x.sd = 0 ∧ x.pr = best 0 l) ∧ (∀ x ∈ l, x.sd = 0 → x.pr ≤ best 0 l) := by
  have key : ∀ k, k ≤ l.length → (best 0 (l.take k) = 0 ∧ ∀ x ∈ l.take k, x.sd ≠ 0) ∨ (∃ x ∈ l.take k, x.sd = 0 ∧ x.pr = best 0 (l.take k)) ∧ (∀ x ∈ l.take k, x.sd = 0 → x.pr ≤ best 0 (l.take k)) := by
    intro k
    induction k with
    | zero => intro _; exact .inl ⟨rfl, fun x hx => by simp at hx⟩
    | succ k ih =>
      intro hk
      have hk : k < l.length := by omega
      have hx := (ok_bounds (h _ (nth_mem hk))).2.2.2.1
      have ih := ih (by omega)
      rw [best_step 0 hk, take_succ hk]
      have hmem : ∀ x ∈ l.take k, x ∈ l := fun x hx => List.mem_of_mem_take hx
      generalize l.take k = t at *
      generalize nth l k = y at *
      unfold bstep better
      by_cases hs : y.sd = 0
      · by_cases hb : best 0 t = 0
        · rw [if_pos (by simp [hs, hb])]
          refine .inr ⟨⟨y, by simp, hs, rfl⟩, fun x hxm hxs => ?_⟩
          rcases List.mem_append.1 hxm with hxm | hxm
          · rcases ih with ⟨_, h2⟩ | ⟨_, h2⟩
            · exact absurd hxs (h2 x hxm)
            · have := h2 x hxm hxs; omega
          · have hxm : x = y := by simpa using hxm
            rw [hxm]; omega
        · by_cases hc : best 0 t < y.pr
          · rw [if_pos (by simp [hs, hc])]
            refine .inr ⟨⟨y, by simp, hs, rfl⟩, fun x hxm hxs => ?_⟩
            rcases List.mem_append.1 hxm with hxm | hxm
            · rcases ih with ⟨_, h2⟩ | ⟨_, h2⟩
              · exact absurd hxs (h2 x hxm)
              · have := h2 x hxm hxs; omega
            · have hxm : x = y := by simpa using hxm
              rw [hxm]; omega
          · rw [if_neg (by simp [hs, hb, hc])]
            rcases ih with ⟨h1, _⟩ | ⟨⟨x, hx1, hx2, hx3⟩, h2⟩
            · exact absurd h1 hb
            · refine .inr ⟨⟨x, List.mem_append_left _ hx1, hx2, hx3⟩, fun x hxm hxs => ?_⟩
              rcases List.mem_append.1 hxm with hxm | hxm
              · exact h2 x hxm hxs
              · have hxm : x = y := by simpa using hxm
                rw [hxm]; omega
      · rw [if_neg (by simp [hs])]
        rcases ih with ⟨h1, h2⟩ | ⟨⟨x, hx1, hx2, hx3⟩, h2⟩
        · refine .inl ⟨h1, fun x hxm => ?_⟩
          rcases List.mem_append.1 hxm with hxm | hxm
          · exact h2 x hxm
          · have hxm : x = y := by simpa using hxm
            rw [hxm]; exact hs
        · refine .inr ⟨⟨x, List.mem_append_left _ hx1, hx2, hx3⟩, fun x hxm hxs => ?_⟩
          rcases List.mem_append.1 hxm with hxm | hxm
          · exact h2 x hxm hxs
          · have hxm : x = y := by simpa using hxm
            rw [hxm] at hxs; exact absurd hxs hs
  have := key l.length (Nat.le_refl _)
  rwa [List.take_length] at this

/-- the least price of sells -/
theorem best_sell (l : List Lot) (h : Oks l) : (best 1 l = 0 ∧ ∀ x ∈ l, x.sd ≠ 1) ∨ (∃ x ∈ l, x.sd = 1 ∧ x.pr = best 1 l) ∧ (∀ x ∈ l, x.sd = 1 → best 1 l ≤ x.pr) := by
  have key : ∀ k, k ≤ l.length → (best 1 (l.take k) = 0 ∧ ∀ x ∈ l.take k, x.sd ≠ 1) ∨ (∃ x ∈ l.take k, x.sd = 1 ∧ x.pr = best 1 (l.take k)) ∧ (∀ x ∈ l.take k, x.sd = 1 → best 1 (l.take k) ≤ x.pr) := by
    intro k
    induction k with
    | zero => intro _; exact .inl ⟨rfl, fun x hx => by simp at hx⟩
    | succ k ih =>
      intro hk
      have hk : k < l.length := by omega
      have ih := ih (by omega)
      rw [best_step 1 hk, take_succ hk]
      have hpos : ∀ x ∈ l.take k, 1 ≤ x.pr := fun x hx => (ok_bounds (h x (List.mem_of_mem_take hx))).2.2.2.1.1
      generalize l.take k = t at *
      generalize nth l k = y at *
      unfold bstep better
      by_cases hs : y.sd = 1
      · by_cases hb : best 1 t = 0
        · rw [if_pos (by simp [hs, hb])]
          refine .inr ⟨⟨y, by simp, hs, rfl⟩, fun x hxm hxs => ?_⟩
          rcases List.mem_append.1 hxm with hxm | hxm
          · rcases ih with ⟨_, h2⟩ | ⟨⟨x', hx1, hx2, hx3⟩, h2⟩
            · exact absurd hxs (h2 x hxm)
            · have := hpos x' hx1; omega
          · have hxm : x = y := by simpa using hxm
            rw [hxm]; omega
        · by_cases hc : y.pr < best 1 t
          · rw [if_pos (by simp [hs, hc])]
            refine .inr ⟨⟨y, by simp, hs, rfl⟩, fun x hxm hxs => ?_⟩
            rcases List.mem_append.1 hxm with hxm | hxm
            · rcases ih with ⟨_, h2⟩ | ⟨_, h2⟩
              · exact absurd hxs (h2 x hxm)
              · have := h2 x hxm hxs; omega
            · have hxm : x = y := by simpa using hxm
              rw [hxm]; omega
          · rw [if_neg (by simp [hs, hb, hc])]
            rcases ih with ⟨h1, _⟩ | ⟨⟨x, hx1, hx2, hx3⟩, h2⟩
            · exact absurd h1 hb
            · refine .inr ⟨⟨x, List.mem_append_left _ hx1, hx2, hx3⟩, fun x hxm hxs => ?_⟩
              rcases List.mem_append.1 hxm with hxm | hxm
              · exact h2 x hxm hxs
              · have hxm : x = y := by simpa using hxm
                rw [hxm]; omega
      · rw [if_neg (by simp [hs])]
        rcases ih with ⟨h1, h2⟩ | ⟨⟨x, hx1, hx2, hx3⟩, h2⟩
        · refine .inl ⟨h1, fun x hxm => ?_⟩
          rcases List.mem_append.1 hxm with hxm | hxm
          · exact h2 x hxm
          · have hxm : x = y := by simpa using hxm
            rw [hxm]; exact hs
        · refine .inr ⟨⟨x, List.mem_append_left _ hx1, hx2, hx3⟩, fun x hxm hxs => ?_⟩
          rcases List.mem_append.1 hxm with hxm | hxm
          · exact h2 x hxm hxs
          · have hxm : x = y := by simpa using hxm
            rw [hxm] at hxs; exact absurd hxs hs
  have := key l.length (Nat.le_refl _)
  rwa [List.take_length] at this

theorem best_range (l : List Lot) (h : Oks l) (side : Int) (hs : side = 0 ∨ side = 1) : 0 ≤ best side l ∧ best side l ≤ 1000 := by
  rcases hs with rfl | rfl
  · rcases best_buy l h with ⟨h1, _⟩ | ⟨⟨x, hx, _, h1⟩, _⟩
    · omega
    · have := (ok_bounds (h x hx)).2.2.2.1; omega
  · rcases best_sell l h with ⟨h1, _⟩ | ⟨⟨x, hx, _, h1⟩, _⟩
    · omega
    · have := (ok_bounds (h x hx)).2.2.2.1; omega
theorem best_other (l : List Lot) (h : Oks l) (side : Int) (h0 : side ≠ 0) (h1 : side ≠ 1) : best side l = 0 := by
  have key : ∀ k, k ≤ l.length → best side (l.take k) = 0 := by
    intro k
    induction k with
    | zero => intro _; rfl
    | succ k ih =>
      intro hk
      have hk : k < l.length := by omega
      rw [best_step side hk, ih (by omega)]
      have := (ok_bounds (h _ (nth_mem hk))).2.2.1
      unfold bstep
      rw [if_neg]
      simp only [Bool.and_eq_true, beq_iff_eq]
      rintro ⟨e, _⟩
      omega
  have := key l.length (Nat.le_refl _)
  rwa [List.take_length] at this

def cross (l : List Lot) : Bool := best 1 l != 0 && decide (best 1 l ≤ best 0 l)
def volume (l : List Lot) (p : Int) : Int := min (demand l p) (supply l p)

theorem cross_volume (l : List Lot) (h : Oks l) : cross l = decide (0 < volume l (best 0 l)) := by
  have hd := (sumIf_bounds (dB (best 0 l)) l h).1
  have hs := (sumIf_bounds (sB (best 0 l)) l h).1
  unfold cross volume demand supply
  rcases best_buy l h with ⟨h1, h2⟩ | ⟨⟨x, hx, hxs, hxp⟩, h2⟩
  · rw [sumIf_zero (f := dB (best 0 l)) l (fun x hx => by simp [dB, h2 x hx])]
    have := (best_range l h 1 (.inr rfl)).1
    rw [Bool.eq_iff_iff]
    simp
    omega
  · have hdp := sumIf_pos (f := dB (best 0 l)) l h ⟨x, hx, by simp [dB, hxs, hxp]⟩
    rcases best_sell l h with ⟨g1, g2⟩ | ⟨⟨y, hy, hys, hyp⟩, g2⟩
    · rw [sumIf_zero (f := sB (best 0 l)) l (fun x hx => by simp [sB, g2 x hx]), g1]
      rw [Bool.eq_iff_iff]
      simp
      omega
    · have hy1 := (ok_bounds (h y hy)).2.2.2.1
      by_cases hc : best 1 l ≤ best 0 l
      · have hsp := sumIf_pos (f := sB (best 0 l)) l h ⟨y, hy, by simp [sB, hys, hyp, hc]⟩
        rw [Bool.eq_iff_iff]
        simp
        omega
      · rw [sumIf_zero (f := sB (best 0 l)) l (fun x hx => by
          by_cases e : x.sd = 1
          · have := g2 x hx e
            simp [sB, e]; omega
          · simp [sB, e])]
        rw [Bool.eq_iff_iff]
        simp
        omega
theorem cross_ref (l : List Lot) (h : Oks l) : cross l = (decide (0 < best 0 l) && (decide (0 < best 1 l) && decide (best 1 l ≤ best 0 l))) := by
  have h0 := (best_range l h 0 (.inl rfl)).1
  have h1 := (best_range l h 1 (.inr rfl)).1
  unfold cross
  rw [Bool.eq_iff_iff]
  simp
  omega
theorem demand_falls (l : List Lot) (h : Oks l) {p q : Int} (hpq : p ≤ q) : demand l q ≤ demand l p :=
  sumIf_mono l h (fun x _ hx => by simp only [dB, Bool.and_eq_true, decide_eq_true_eq] at hx ⊢; exact ⟨hx.1, by omega⟩)
theorem supply_rises (l : List Lot) (h : Oks l) {p q : Int} (hpq : p ≤ q) : supply l p ≤ supply l q :=
  sumIf_mono l h (fun x _ hx => by simp only [sB, Bool.and_eq_true, decide_eq_true_eq] at hx ⊢; exact ⟨hx.1, by omega⟩)
/-- between two prices of lots nothing changes -/
theorem demand_between (l : List Lot) {p q : Int} (hpq : p ≤ q) (hn : ∀ x ∈ l, ¬ (p ≤ x.pr ∧ x.pr ≤ q)) : demand l p = demand l q :=
  sumIf_congr l (fun x hx => by
    have := hn x hx
    unfold dB
    congr 1
    rw [decide_eq_decide]
    omega)
theorem supply_between (l : List Lot) {p q : Int} (hpq : p ≤ q) (hn : ∀ x ∈ l, ¬ (p ≤ x.pr ∧ x.pr ≤ q)) : supply l p = supply l q :=
  sumIf_congr l (fun x hx => by
    have := hn x hx
    unfold sB
    congr 1
    rw [decide_eq_decide]
    omega)
end Cv
end Go.Proofs.YtbcinejhipmomaaDoor
