/- Plain facts on the sum of a frame (CRC-32, bit by bit) and on the checks of a request, as functions of numbers; no program is spoken of. -/
namespace Go.Proofs.YtdggddjgipgllaaGreatDoor
namespace Wi

/-- one bit of the sum -/
def bit (r : Nat) : Nat := if r % 2 = 1 then (r / 2) ^^^ 3988292384 else r / 2
def bits : Nat → Nat → Nat
  | 0, r => r
  | n + 1, r => bits n (bit r)
def byte (r b : Nat) : Nat := bits 8 (r ^^^ b)
def run (l : List UInt8) (r : Nat) : Nat := l.foldl (fun r b => byte r b.toNat) r
def sum (l : List UInt8) : Nat := run l 4294967295 ^^^ 4294967295

theorem xor_lt {a b : Nat} (ha : a < 4294967296) (hb : b < 4294967296) : a ^^^ b < 4294967296 := by
  have := Nat.xor_lt_two_pow (n := 32) (x := a) (y := b) (by simpa using ha) (by simpa using hb)
  simpa using this
theorem bit_lt {r : Nat} (h : r < 4294967296) : bit r < 4294967296 := by
  unfold bit; split
  · exact xor_lt (by omega) (by decide)
  · omega
theorem bits_lt : ∀ (n : Nat) {r : Nat}, r < 4294967296 → bits n r < 4294967296
  | 0, _, h => h
  | n + 1, _, h => bits_lt n (bit_lt h)
theorem bits_succ : ∀ (n r : Nat), bits (n + 1) r = bit (bits n r)
  | 0, _ => rfl
  | n + 1, r => by show bits (n + 1) (bit r) = bit (bits n (bit r)); exact bits_succ n (bit r)
theorem byte_lt {r b : Nat} (h : r < 4294967296) (hb : b < 256) : byte r b < 4294967296 := bits_lt 8 (xor_lt h (by omega))
theorem run_lt : ∀ (l : List UInt8) {r : Nat}, r < 4294967296 → run l r < 4294967296
  | [], _, h => h
  | b :: l, r, h => by
    show run l (byte r b.toNat) < 4294967296
    exact run_lt l (byte_lt h (by have := b.toNat_lt; omega))
theorem run_snoc (l : List UInt8) (b : UInt8) (r : Nat) : run (l ++ [b]) r = byte (run l r) b.toNat := by
  simp [run, List.foldl_append]
theorem sum_lt (l : List UInt8) : sum l < 4294967296 := xor_lt (run_lt l (by decide)) (by decide)

/-- the checks of a request -/
def withinB (x lo hi : Int) : Bool := decide (lo ≤ x) && decide (x ≤ hi)
def kindB (k : Int) : Bool := k == 108 || k == 104 || k == 111 || k == 99 || k == 113
def boundB (k c sq it sd pr q id : Int) : Bool :=
  withinB c 0 5 && withinB sq 0 1073741824 && withinB id 0 1073741824 &&
    (if k == 111 then withinB it 0 2 && withinB sd 0 1 && withinB pr 1 1000 && withinB q 1 1000 else if k == 99 then withinB it 0 2 else true)
def shapeB (k it sd pr q id : Int) : Bool :=
  if k == 111 then true else if k == 99 then sd == 0 && pr == 0 && q == 0 else it == 0 && sd == 0 && pr == 0 && q == 0 && id == 0
/-- the number of the error of a request, 0 for none -/
def code (k c sq it sd pr q id : Int) : Nat :=
  if kindB k then if boundB k c sq it sd pr q id then if shapeB k it sd pr q id then 0 else 3 else 2 else 4

end Wi
end Go.Proofs.YtdggddjgipgllaaGreatDoor
/- Lots, and demand, supply and best prices of them, as functions of lists; no program is spoken of. -/
namespace Go.Proofs.YtdggddjgipgllaaGreatDoor
namespace Cv

structure Lot where
  id : Int
  ow : Int
  sd : Int
  pr : Int
  q : Int

def z : Lot := ⟨0, 0, 0, 0, 0⟩
def nth (l : List Lot) (i : Nat) : Lot := l.getD i z
def ok (x : Lot) : Bool := Wi.withinB x.id 1 1073741824 && Wi.withinB x.ow 0 5 && Wi.withinB x.sd 0 1 && Wi.withinB x.pr 1 1000 && Wi.withinB x.q 1 1000
def has (l : List Lot) (id : Int) : Bool := l.any fun x => x.id == id
def okAt (l : List Lot) (i : Nat) : Bool := ok (nth l i) && !has (l.take i) (nth l i).id
def WellTo (l : List Lot) (k : Nat) : Prop := ∀ i, i < k → okAt l i = true
def Well (l : List Lot) : Prop := l.length ≤ 120 ∧ WellTo l l.length
def Oks (l : List Lot) : Prop := ∀ x ∈ l, ok x = true

theorem nth_mem {l : List Lot} {i : Nat} (h : i < l.length) : nth l i ∈ l := by
  unfold nth; rw [List.getD_eq_getElem?_getD, List.getElem?_eq_getElem h]; exact List.getElem_mem h
theorem take_succ {l : List Lot} {i : Nat} (h : i < l.length) : l.take (i + 1) = l.take i ++ [nth l i] := by
  unfold nth; rw [List.take_succ_eq_append_getElem h, List.getD_eq_getElem?_getD, List.getElem?_eq_getElem h]; rfl
theorem nth_drop (l : List Lot) (k i : Nat) : nth (l.drop k) i = nth l (k + i) := by
  unfold nth; rw [List.getD_eq_getElem?_getD, List.getD_eq_getElem?_getD, List.getElem?_drop]
theorem nth_take {l : List Lot} {k i : Nat} (h : i < k) : nth (l.take k) i = nth l i := by
  unfold nth; rw [List.getD_eq_getElem?_getD, List.getD_eq_getElem?_getD, List.getElem?_take_of_lt h]

theorem verdict_upto (l : List Lot) : ∀ k, k ≤ l.length → WellTo l k ∨ ∃ i, i < l.length ∧ WellTo l i ∧ okAt l i = false
  | 0, _ => .inl fun i hi => absurd hi (Nat.not_lt_zero i)
  | k + 1, h => by
    rcases verdict_upto l k (by omega) with h1 | h1
    · cases hk : okAt l k
      · exact .inr ⟨k, by omega, h1, hk⟩
      · refine .inl fun i hi => ?_
        by_cases e : i = k
        · rw [e]; exact hk
        · exact h1 i (by omega)
    · exact .inr h1
theorem verdict (l : List Lot) : 120 < l.length ∨ Well l ∨ (l.length ≤ 120 ∧ ∃ i, i < l.length ∧ WellTo l i ∧ okAt l i = false) := by
  by_cases h : 120 < l.length
  · exact .inl h
  · rcases verdict_upto l l.length (Nat.le_refl _) with h1 | h1
    · exact .inr (.inl ⟨by omega, h1⟩)
    · exact .inr (.inr ⟨by omega, h1⟩)

theorem ok_bounds {x : Lot} (h : ok x = true) : (1 ≤ x.id ∧ x.id ≤ 1073741824) ∧ (0 ≤ x.ow ∧ x.ow ≤ 5) ∧ (0 ≤ x.sd ∧ x.sd ≤ 1) ∧ (1 ≤ x.pr ∧ x.pr ≤ 1000) ∧ (1 ≤ x.q ∧ x.q ≤ 1000) := by
  simp only [ok, Wi.withinB, Bool.and_eq_true, decide_eq_true_eq] at h
  omega

theorem Well.oks {l : List Lot} (h : Well l) : Oks l := by
  intro x hx
  obtain ⟨i, hi, rfl⟩ := List.mem_iff_getElem.1 hx
  have := h.2 i hi
  simp only [okAt, Bool.and_eq_true] at this
  have e : nth l i = l[i] := by unfold nth; rw [List.getD_eq_getElem?_getD, List.getElem?_eq_getElem hi]; rfl
  rw [← e]; exact this.1
theorem Well.take {l : List Lot} (h : Well l) (k : Nat) : Well (l.take k) := by
  refine ⟨by rw [List.length_take]; have := h.1; omega, fun i hi => ?_⟩
  rw [List.length_take] at hi
  have := h.2 i (by omega)
  unfold okAt at this ⊢
  rwa [nth_take (by omega), List.take_take, Nat.min_eq_left (by omega)]
theorem has_mono {a b : List Lot} {id : Int} (h : ∀ x ∈ a, x ∈ b) (hb : has b id = false) : has a id = false := by
  unfold has at *
  rw [List.any_eq_false] at *
  exact fun x hx => hb x (h x hx)
theorem Well.drop {l : List Lot} (h : Well l) (k : Nat) : Well (l.drop k) := by
  refine ⟨by rw [List.length_drop]; have := h.1; omega, fun i hi => ?_⟩
  rw [List.length_drop] at hi
  have := h.2 (k + i) (by omega)
  unfold okAt at this ⊢
  rw [nth_drop]
  simp only [Bool.and_eq_true, Bool.not_eq_true'] at this ⊢
  refine ⟨this.1, has_mono (fun x hx => ?_) this.2⟩
  rw [List.take_drop] at hx
  exact List.mem_of_mem_drop hx

def sumIf (f : Lot → Bool) : List Lot → Int
  | [] => 0
  | x :: l => (if f x = true then x.q else 0) + sumIf f l
theorem sumIf_append (f : Lot → Bool) : ∀ a b : List Lot, sumIf f (a ++ b) = sumIf f a + sumIf f b
  | [], b => by simp [sumIf]
  | x :: a, b => by simp [sumIf, sumIf_append f a b]; omega
theorem sumIf_split (f : Lot → Bool) (l : List Lot) (k : Nat) : sumIf f l = sumIf f (l.take k) + sumIf f (l.drop k) := by
  rw [← sumIf_append, List.take_append_drop]
theorem sumIf_step (f : Lot → Bool) {l : List Lot} {k : Nat} (h : k < l.length) : sumIf f (l.take (k + 1)) = sumIf f (l.take k) + if f (nth l k) = true then (nth l k).q else 0 := by
  rw [take_succ h, sumIf_append]; simp [sumIf]
theorem sumIf_bounds (f : Lot → Bool) : ∀ l : List Lot, Oks l → 0 ≤ sumIf f l ∧ sumIf f l ≤ 1000 * l.length
  | [], _ => by simp [sumIf]
  | x :: l, h => by
    have ih := sumIf_bounds f l (fun y hy => h y (List.mem_cons_of_mem _ hy))
    have hx := (ok_bounds (h x List.mem_cons_self)).2.2.2.2
    simp only [sumIf, List.length_cons]
    split <;> omega
theorem Oks.take {l : List Lot} (h : Oks l) (k : Nat) : Oks (l.take k) := fun x hx => h x (List.mem_of_mem_take hx)
theorem sumIf_mono {f g : Lot → Bool} : ∀ l : List Lot, Oks l → (∀ x ∈ l, f x = true → g x = true) → sumIf f l ≤ sumIf g l
  | [], _, _ => by simp [sumIf]
  | x :: l, h, hfg => by
    have ih := sumIf_mono (f := f) (g := g) l (fun y hy => h y (List.mem_cons_of_mem _ hy)) (fun y hy => hfg y (List.mem_cons_of_mem _ hy))
    have hx := (ok_bounds (h x List.mem_cons_self)).2.2.2.2
    have hh := hfg x List.mem_cons_self
    simp only [sumIf]
    by_cases e : f x = true
    · rw [if_pos e, if_pos (hh e)]; omega
    · rw [if_neg e]; split <;> omega
theorem sumIf_congr {f g : Lot → Bool} : ∀ l : List Lot, (∀ x ∈ l, f x = g x) → sumIf f l = sumIf g l
  | [], _ => rfl
  | x :: l, h => by
    simp only [sumIf]
    rw [sumIf_congr l (fun y hy => h y (List.mem_cons_of_mem _ hy)), h x List.mem_cons_self]
theorem sumIf_pos {f : Lot → Bool} : ∀ l : List Lot, Oks l → (∃ x ∈ l, f x = true) → 0 < sumIf f l
  | [], _, h => by obtain ⟨x, hx, _⟩ := h; cases hx
  | x :: l, h, hf => by
    have hx := (ok_bounds (h x List.mem_cons_self)).2.2.2.2
    have ho : Oks l := fun y hy => h y (List.mem_cons_of_mem _ hy)
    have hb := (sumIf_bounds f l ho).1
    simp only [sumIf]
    by_cases e : f x = true
    · rw [if_pos e]; omega
    · rw [if_neg e]
      obtain ⟨y, hy, hfy⟩ := hf
      rcases List.mem_cons.1 hy with rfl | hy
      · exact absurd hfy e
      · have := sumIf_pos l ho ⟨y, hy, hfy⟩; omega
theorem sumIf_zero {f : Lot → Bool} (l : List Lot) (h : ∀ x ∈ l, f x = false) : sumIf f l = 0 := by
  rw [sumIf_congr (g := fun _ => false) l h]
  clear h
  induction l with
  | nil => rfl
  | cons x l ih => simp [sumIf, ih]

def dB (p : Int) (x : Lot) : Bool := x.sd == 0 && decide (p ≤ x.pr)
def sB (p : Int) (x : Lot) : Bool := x.sd == 1 && decide (x.pr ≤ p)
def demand (l : List Lot) (p : Int) : Int := sumIf (dB p) l
def supply (l : List Lot) (p : Int) : Int := sumIf (sB p) l

def better (side p than : Int) : Bool := if side = 0 then decide (than < p) else decide (p < than)
def bstep (side b : Int) (x : Lot) : Int := if (x.sd == side && (b == 0 || better side x.pr b)) = true then x.pr else b
def best (side : Int) (l : List Lot) : Int := l.foldl (bstep side) 0
theorem best_step (side : Int) {l : List Lot} {k : Nat} (h : k < l.length) : best side (l.take (k + 1)) = bstep side (best side (l.take k)) (nth l k) := by
  unfold best; rw [take_succ h, List.foldl_append]; rfl

/-- the greatest price of buys -/
theorem best_buy (l : List Lot) (h : Oks l) : (best 0 l = 0 ∧ ∀ x ∈ l, x.sd ≠ 0) ∨ (∃ x ∈ l, x.sd = 0 ∧ x.pr = best 0 l) ∧ (∀ x ∈ l, x.sd = 0 → x.pr ≤ best 0 l) := by
  have key : ∀ k, k ≤ l.length → (best 0 (l.take k) = 0 ∧ ∀ x ∈ l.take k, x.sd ≠ 0) ∨ (∃ x ∈ l.take k, x.sd = 0 ∧ x.pr = best 0 (l.take k)) ∧ (∀ x ∈ l.take k, x.sd = 0 → x.pr ≤ best 0 (l.take k)) := by
    intro k
    induction k with
    | zero => intro _; exact .inl ⟨rfl, fun x hx => by simp at hx⟩
    | succ k ih =>
      intro hk
      have hk : k < l.length := by omega
      have hx := (ok_bounds (h _ (nth_mem hk))).2.2.2.1
      have ih := ih (by omega)
      rw [best_step 0 hk, take_succ hk]
      have hmem : ∀ x ∈ l.take k, x ∈ l := fun x hx => List.mem_of_mem_take hx
      generalize l.take k = t at *
      generalize nth l k = y at *
      unfold bstep better
      by_cases hs : y.sd = 0
      · by_cases hb : best 0 t = 0
        · rw [if_pos (by simp [hs, hb])]
          refine .inr ⟨⟨y, by simp, hs, rfl⟩, fun x hxm hxs => ?_⟩
          rcases List.mem_append.1 hxm with hxm | hxm
          · rcases ih with ⟨_, h2⟩ | ⟨_, h2⟩
            · exact absurd hxs (h2 x hxm)
            · have := h2 x hxm hxs; omega
          · have hxm : x = y := by simpa using hxm
            rw [hxm]; omega
        · by_cases hc : best 0 t < y.pr
          · rw [if_pos (by simp [hs, hc])]
            refine .inr ⟨⟨y, by simp, hs, rfl⟩, fun x hxm hxs => ?_⟩
            rcases List.mem_append.1 hxm with hxm | hxm
            · rcases ih with ⟨_, h2⟩ | ⟨_, h2⟩
              · exact absurd hxs (h2 x hxm)
              · have := h2 x hxm hxs; omega
            · have hxm : x = y := by simpa using hxm
              rw [hxm]; omega
          · rw [if_neg (by simp [hs, hb, hc])]
            rcases ih with ⟨h1, _⟩ | ⟨⟨x, hx1, hx2, hx3⟩, h2⟩
            · exact absurd h1 hb
            · refine .inr ⟨⟨x, List.mem_append_left _ hx1, hx2, hx3⟩, fun x hxm hxs => ?_⟩
              rcases List.mem_append.1 hxm with hxm | hxm
              · exact h2 x hxm hxs
              · have hxm : x = y := by simpa using hxm
                rw [hxm]; omega
      · rw [if_neg (by simp [hs])]
        rcases ih with ⟨h1, h2⟩ | ⟨⟨x, hx1, hx2, hx3⟩, h2⟩
        · refine .inl ⟨h1, fun x hxm => ?_⟩
          rcases List.mem_append.1 hxm with hxm | hxm
          · exact h2 x hxm
          · have hxm : x = y := by simpa using hxm
            rw [hxm]; exact hs
        · refine .inr ⟨⟨x, List.mem_append_left _ hx1, hx2, hx3⟩, fun x hxm hxs => ?_⟩
          rcases List.mem_append.1 hxm with hxm | hxm
          · exact h2 x hxm hxs
          · have hxm : x = y := by simpa using hxm
            rw [hxm] at hxs; exact absurd hxs hs
  have := key l.length (Nat.le_refl _)
  rwa [List.take_length] at this

/-- the least price of sells -/
theorem best_sell (l : List Lot) (h : Oks l) : (best 1 l = 0 ∧ ∀ x ∈ l, x.sd ≠ 1) ∨ (∃ x ∈ l, x.sd = 1 ∧ x.pr = best 1 l) ∧ (∀ x ∈ l, x.sd = 1 → best 1 l ≤ x.pr) := by
  have key : ∀ k, k ≤ l.length → (best 1 (l.take k) = 0 ∧ ∀ x ∈ l.take k, x.sd ≠ 1) ∨ (∃ x ∈ l.take k, x.sd = 1 ∧ x.pr = best 1 (l.take k)) ∧ (∀ x ∈ l.take k, x.sd = 1 → best 1 (l.take k) ≤ x.pr) := by
    intro k
    induction k with
    | zero => intro _; exact .inl ⟨rfl, fun x hx => by simp at hx⟩
    | succ k ih =>
      intro hk
      have hk : k < l.length := by omega
      have ih := ih (by omega)
      rw [best_step 1 hk, take_succ hk]
      have hpos : ∀ x ∈ l.take k, 1 ≤ x.pr := fun x hx => (ok_bounds (h x (List.mem_of_mem_take hx))).2.2.2.1.1
      generalize l.take k = t at *
      generalize nth l k = y at *
      unfold bstep better
      by_cases hs : y.sd = 1
      · by_cases hb : best 1 t = 0
        · rw [if_pos (by simp [hs, hb])]
          refine .inr ⟨⟨y, by simp, hs, rfl⟩, fun x hxm hxs => ?_⟩
          rcases List.mem_append.1 hxm with hxm | hxm
          · rcases ih with ⟨_, h2⟩ | ⟨⟨x', hx1, hx2, hx3⟩, h2⟩
            · exact absurd hxs (h2 x hxm)
            · have := hpos x' hx1; omega
          · have hxm : x = y := by simpa using hxm
            rw [hxm]; omega
        · by_cases hc : y.pr < best 1 t
          · rw [if_pos (by simp [hs, hc])]
            refine .inr ⟨⟨y, by simp, hs, rfl⟩, fun x hxm hxs => ?_⟩
            rcases List.mem_append.1 hxm with hxm | hxm
            · rcases ih with ⟨_, h2⟩ | ⟨_, h2⟩
              · exact absurd hxs (h2 x hxm)
              · have := h2 x hxm hxs; omega
            · have hxm : x = y := by simpa using hxm
              rw [hxm]; omega
          · rw [if_neg (by simp [hs, hb, hc])]
            rcases ih with ⟨h1, _⟩ | ⟨⟨x, hx1, hx2, hx3⟩, h2⟩
            · exact absurd h1 hb
            · refine .inr ⟨⟨x, List.mem_append_left _ hx1, hx2, hx3⟩, fun x hxm hxs => ?_⟩
              rcases List.mem_append.1 hxm with hxm | hxm
              · exact h2 x hxm hxs
              · have hxm : x = y := by simpa using hxm
                rw [hxm]; omega
      · rw [if_neg (by simp [hs])]
        rcases ih with ⟨h1, h2⟩ | ⟨⟨x, hx1, hx2, hx3⟩, h2⟩
        · refine .inl ⟨h1, fun x hxm => ?_⟩
          rcases List.mem_append.1 hxm with hxm | hxm
          · exact h2 x hxm
          · have hxm : x = y := by simpa using hxm
            rw [hxm]; exact hs
        · refine .inr ⟨⟨x, List.mem_append_left _ hx1, hx2, hx3⟩, fun x hxm hxs => ?_⟩
          rcases List.mem_append.1 hxm with hxm | hxm
          · exact h2 x hxm hxs
          · have hxm : x = y := by simpa using hxm
            rw [hxm] at hxs; exact absurd hxs hs
  have := key l.length (Nat.le_refl _)
  rwa [List.take_length] at this

theorem best_range (l : List Lot) (h : Oks l) (side : Int) (hs : side = 0 ∨ side = 1) : 0 ≤ best side l ∧ best side l ≤ 1000 := by
  rcases hs with rfl | rfl
  · rcases best_buy l h with ⟨h1, _⟩ | ⟨⟨x, hx, _, h1⟩, _⟩
    · omega
    · have := (ok_bounds (h x hx)).2.2.2.1; omega
  · rcases best_sell l h with ⟨h1, _⟩ | ⟨⟨x, hx, _, h1⟩, _⟩
    · omega
    · have := (ok_bounds (h x hx)).2.2.2.1; omega
theorem best_other (l : List Lot) (h : Oks l) (side : Int) (h0 : side ≠ 0) (h1 : side ≠ 1) : best side l = 0 := by
  have key : ∀ k, k ≤ l.length → best side (l.take k) = 0 := by
    intro k
    induction k with
    | zero => intro _; rfl
    | succ k ih =>
      intro hk
      have hk : k < l.length := by omega
      rw [best_step side hk, ih (by omega)]
      have := (ok_bounds (h _ (nth_mem hk))).2.2.1
      unfold bstep
      rw [if_neg]
      simp only [Bool.and_eq_true, beq_iff_eq]
      rintro ⟨e, _⟩
      omega
  have := key l.length (Nat.le_refl _)
  rwa [List.take_length] at this

def cross (l : List Lot) : Bool := best 1 l != 0 && decide (best 1 l ≤ best 0 l)
def volume (l : List Lot) (p : Int) : Int := min (demand l p) (supply l p)

theorem cross_volume (l : List Lot) (h : Oks l) : cross l = decide (0 < volume l (best 0 l)) := by
  have hd := (sumIf_bounds (dB (best 0 l)) l h).1
  have hs := (sumIf_bounds (sB (best 0 l)) l h).1
  unfold cross volume demand supply
  rcases best_buy l h with ⟨h1, h2⟩ | ⟨⟨x, hx, hxs, hxp⟩, h2⟩
  · rw [sumIf_zero (f := dB (best 0 l)) l (fun x hx => by simp [dB, h2 x hx])]
    have := (best_range l h 1 (.inr rfl)).1
    rw [Bool.eq_iff_iff]
    simp
    omega
  · have hdp := sumIf_pos (f := dB (best 0 l)) l h ⟨x, hx, by simp [dB, hxs, hxp]⟩
    rcases best_sell l h with ⟨g1, g2⟩ | ⟨⟨y, hy, hys, hyp⟩, g2⟩
    · rw [sumIf_zero (f := sB (best 0 l)) l (fun x hx => by simp [sB, g2 x hx]), g1]
      rw [Bool.eq_iff_iff]
      simp
      omega
    · have hy1 := (ok_bounds (h y hy)).2.2.2.1
      by_cases hc : best 1 l ≤ best 0 l
      · have hsp := sumIf_pos (f := sB (best 0 l)) l h ⟨y, hy, by simp [sB, hys, hyp, hc]⟩
        rw [Bool.eq_iff_iff]
        simp
        omega
      · rw [sumIf_zero (f := sB (best 0 l)) l (fun x hx => by
          by_cases e : x.sd = 1
          · have := g2 x hx e
            simp [sB, e]; omega
          · simp [sB, e])]
        rw [Bool.eq_iff_iff]
        simp
        omega
theorem cross_ref (l : List Lot) (h : Oks l) : cross l = (decide (0 < best 0 l) && (decide (0 < best 1 l) && decide (best 1 l ≤ best 0 l))) := by
  have h0 := (best_range l h 0 (.inl rfl)).1
  have h1 := (best_range l h 1 (.inr rfl)).1
  unfold cross
  rw [Bool.eq_iff_iff]
  simp
  omega
theorem demand_falls (l : List Lot) (h : Oks l) {p q : Int} (hpq : p ≤ q) : demand l q ≤ demand l p :=
  sumIf_mono l h (fun x _ hx => by simp only [dB, Bool.and_eq_true, decide_eq_true_eq] at hx ⊢; exact ⟨hx.1, by omega⟩)
theorem supply_rises (l : List Lot) (h : Oks l) {p q : Int} (hpq : p ≤ q) : supply l p ≤ supply l q :=
  sumIf_mono l h (fun x _ hx => by simp only [sB, Bool.and_eq_true, decide_eq_true_eq] at hx ⊢; exact ⟨hx.1, by omega⟩)
/-- between two prices of lots nothing changes -/
theorem demand_between (l : List Lot) {p q : Int} (hpq : p ≤ q) (hn : ∀ x ∈ l, ¬ (p ≤ x.pr ∧ x.pr ≤ q)) : demand l p = demand l q :=
  sumIf_congr l (fun x hx => by
    have := hn x hx
    unfold dB
    congr 1
    rw [decide_eq_decide]
    omega)
theorem supply_between (l : List Lot) {p q : Int} (hpq : p ≤ q) (hn : ∀ x ∈ l, ¬ (p ≤ x.pr ∧ x.pr ≤ q)) : supply l p = supply l q :=
  sumIf_congr l (fun x hx => by
    have := hn x hx
    unfold sB
    congr 1
    rw [decide_eq_decide]
    omega)
end Cv
end Go.Proofs.YtdggddjgipgllaaGreatDoor
/- Who gets how much, as functions of lists: levels, what is filled of a list of lots, and that it is fair; no program is spoken of. -/
namespace Go.Proofs.YtdggddjgipgllaaGreatDoor
namespace Ra
open Cv

def tot : List Lot → Int
  | [] => 0
  | x :: l => x.q + tot l
def Pos (l : List Lot) : Prop := ∀ x ∈ l, 1 ≤ x.q
theorem tot_append : ∀ a b : List Lot, tot (a ++ b) = tot a + tot b
  | [], b => by simp [tot]
  | x :: a, b => by simp [tot, tot_append a b]; omega
theorem tot_perm {a b : List Lot} (h : a.Perm b) : tot a = tot b := by
  induction h with
  | nil => rfl
  | cons x _ ih => simp [tot, ih]
  | swap x y l => simp [tot]; omega
  | trans _ _ h1 h2 => exact h1.trans h2
theorem tot_nonneg : ∀ l : List Lot, Pos l → 0 ≤ tot l
  | [], _ => by simp [tot]
  | x :: l, h => by
    have h1 := h x List.mem_cons_self
    have h2 := tot_nonneg l (fun y hy => h y (List.mem_cons_of_mem _ hy))
    simp only [tot]; omega
theorem tot_filter (f : Lot → Bool) : ∀ l : List Lot, tot (l.filter f) = sumIf f l
  | [] => rfl
  | x :: l => by
    have ih := tot_filter f l
    rw [List.filter_cons]
    simp only [sumIf]
    split
    · simp [tot, ih]
    · simp [ih]
theorem tot_filter_le {f g : Lot → Bool} : ∀ l : List Lot, Pos l → (∀ x ∈ l, f x = true → g x = true) → tot (l.filter f) ≤ tot (l.filter g)
  | [], _, _ => by simp
  | x :: l, h, hfg => by
    have ih := tot_filter_le (f := f) (g := g) l (fun y hy => h y (List.mem_cons_of_mem _ hy)) (fun y hy => hfg y (List.mem_cons_of_mem _ hy))
    have hx := h x List.mem_cons_self
    have hh := hfg x List.mem_cons_self
    rw [List.filter_cons, List.filter_cons]
    by_cases e : f x = true
    · rw [if_pos e, if_pos (hh e)]; simp only [tot]; omega
    · rw [if_neg e]; split
      · simp only [tot]; omega
      · exact ih

/-- what is filled of a list of lots, one behind the other -/
def fill : List Lot → Int → List (Int × Int)
  | [], _ => []
  | x :: l, v => if v = 0 then [] else (x.id, min x.q v) :: fill l (v - min x.q v)
theorem fill_zero : ∀ l : List Lot, fill l 0 = []
  | [] => rfl
  | x :: l => by simp [fill]
theorem fill_append : ∀ (a b : List Lot) (v : Int), Pos a → 0 ≤ v → fill (a ++ b) v = fill a v ++ fill b (v - min (tot a) v)
  | [], b, v, _, hv => by
    have : v - min 0 v = v := by omega
    simp [fill, tot, this]
  | x :: a, b, v, h, hv => by
    have hx := h x List.mem_cons_self
    have ha : Pos a := fun y hy => h y (List.mem_cons_of_mem _ hy)
    have hn := tot_nonneg a ha
    rw [List.cons_append]
    by_cases e : v = 0
    · subst e
      have : (0 : Int) - min (tot (x :: a)) 0 = 0 := by simp only [tot]; omega
      rw [this, fill_zero, fill_zero, fill_zero]; rfl
    · rw [fill, fill, if_neg e, if_neg e, fill_append a b _ ha (by omega), List.cons_append]
      have : v - min x.q v - min (tot a) (v - min x.q v) = v - min (tot (x :: a)) v := by simp only [tot]; omega
      rw [this]
def qs : List (Int × Int) → Int
  | [] => 0
  | x :: l => x.2 + qs l
theorem qs_append : ∀ a b : List (Int × Int), qs (a ++ b) = qs a + qs b
  | [], b => by simp [qs]
  | x :: a, b => by simp [qs, qs_append a b]; omega
theorem fill_sum : ∀ (l : List Lot) (v : Int), Pos l → 0 ≤ v → qs (fill l v) = min (tot l) v
  | [], v, _, hv => by simp [fill, qs, tot]; omega
  | x :: l, v, h, hv => by
    have hx := h x List.mem_cons_self
    have ha : Pos l := fun y hy => h y (List.mem_cons_of_mem _ hy)
    have hn := tot_nonneg l ha
    rw [fill]
    split
    · simp [qs, tot]; omega
    · simp only [qs, tot]
      rw [fill_sum l _ ha (by omega)]
      omega
theorem fill_mem : ∀ (l : List Lot) (v : Int), Pos l → 0 ≤ v → ∀ f ∈ fill l v, 1 ≤ f.2 ∧ ∃ x ∈ l, x.id = f.1
  | [], v, _, _, f, hf => by simp [fill] at hf
  | x :: l, v, h, hv, f, hf => by
    have hx := h x List.mem_cons_self
    have ha : Pos l := fun y hy => h y (List.mem_cons_of_mem _ hy)
    rw [fill] at hf
    split at hf
    · cases hf
    · rcases List.mem_cons.1 hf with rfl | hf
      · exact ⟨by simp only []; omega, x, List.mem_cons_self, rfl⟩
      · obtain ⟨h1, y, hy, e⟩ := fill_mem l _ ha (by omega) f hf
        exact ⟨h1, y, List.mem_cons_of_mem _ hy, e⟩

/-- what a number got of fills -/
def got (id : Int) : List (Int × Int) → Int
  | [] => 0
  | f :: l => (if f.1 = id then f.2 else 0) + got id l
theorem got_append (id : Int) : ∀ a b : List (Int × Int), got id (a ++ b) = got id a + got id b
  | [], b => by simp [got]
  | x :: a, b => by simp [got, got_append id a b]; omega
theorem got_none (id : Int) : ∀ l : List (Int × Int), (∀ f ∈ l, f.1 ≠ id) → got id l = 0
  | [], _ => rfl
  | f :: l, h => by
    have h1 := h f List.mem_cons_self
    have h2 := got_none id l (fun g hg => h g (List.mem_cons_of_mem _ hg))
    simp [got, h1, h2]
def Once (l : List Lot) : Prop := (l.map (·.id)).Nodup
theorem Once.perm {a b : List Lot} (h : Once a) (p : a.Perm b) : Once b := (p.map _).nodup_iff.1 h

theorem got_fill (a : List Lot) (x : Lot) (b : List Lot) (v : Int) (h : Pos (a ++ x :: b)) (hv : 0 ≤ v) (ho : Once (a ++ x :: b)) : got x.id (fill (a ++ x :: b) v) = max 0 (min x.q (v - tot a)) := by
  have ha : Pos a := fun y hy => h y (List.mem_append_left _ hy)
  have hb : Pos b := fun y hy => h y (List.mem_append_right _ (List.mem_cons_of_mem _ hy))
  have hx := h x (List.mem_append_right _ List.mem_cons_self)
  have hn := tot_nonneg a ha
  unfold Once at ho
  rw [List.map_append, List.map_cons, List.nodup_append] at ho
  obtain ⟨_, ho2, ho3⟩ := ho
  obtain ⟨ho4, _⟩ := List.nodup_cons.1 ho2
  rw [fill_append a _ v ha hv, got_append, got_none x.id (fill a v)]
  · rw [fill]
    have hz : ∀ u, 0 ≤ u → got x.id (fill b u) = 0 := fun u hu => got_none _ _ fun f hf e => by
      obtain ⟨_, y, hy, e2⟩ := fill_mem b u hb hu f hf
      exact ho4 (List.mem_map.2 ⟨y, hy, e2.trans e⟩)
    split
    · simp only [got]; omega
    · simp only [got, if_true]
      rw [hz _ (by omega)]
      omega
  · intro f hf e
    obtain ⟨_, y, hy, e2⟩ := fill_mem a v ha hv f hf
    exact ho3 _ (List.mem_map.2 ⟨y, hy, rfl⟩) _ List.mem_cons_self (e2.trans e)
theorem got_out (s : List Lot) (id v : Int) (h : Pos s) (hv : 0 ≤ v) (hn : ∀ x ∈ s, x.id ≠ id) : got id (fill s v) = 0 :=
  got_none _ _ fun f hf e => by
    obtain ⟨_, y, hy, e2⟩ := fill_mem s v h hv f hf
    exact hn y hy (e2.trans e)

/-- what all lots of a list got -/
def gots (F : List (Int × Int)) : List Lot → Int
  | [] => 0
  | x :: l => got x.id F + gots F l
theorem gots_none (id q : Int) (F : List (Int × Int)) : ∀ l : List Lot, (∀ x ∈ l, x.id ≠ id) → gots ((id, q) :: F) l = gots F l
  | [], _ => rfl
  | x :: l, h => by
    have h1 : ¬ id = x.id := fun e => h x List.mem_cons_self e.symm
    simp only [gots, got]
    rw [if_neg h1, gots_none id q F l (fun y hy => h y (List.mem_cons_of_mem _ hy))]; omega
theorem gots_one (id q : Int) (F : List (Int × Int)) : ∀ l : List Lot, Once l → (∃ x ∈ l, x.id = id) → gots ((id, q) :: F) l = q + gots F l
  | [], _, h => by obtain ⟨x, hx, _⟩ := h; cases hx
  | x :: l, ho, h => by
    obtain ⟨ho1, ho2⟩ := List.nodup_cons.1 ho
    by_cases e : id = x.id
    · simp only [gots, got]
      rw [if_pos e, gots_none id q F l (fun y hy e2 => ho1 (List.mem_map.2 ⟨y, hy, e2.trans e⟩))]; omega
    · simp only [gots, got]
      rw [if_neg e, gots_one id q F l ho2 ?_]
      · omega
      · obtain ⟨y, hy, e2⟩ := h
        rcases List.mem_cons.1 hy with rfl | hy
        · exact absurd e2.symm e
        · exact ⟨y, hy, e2⟩
theorem gots_sum (l : List Lot) (ho : Once l) : ∀ F : List (Int × Int), (∀ f ∈ F, ∃ x ∈ l, x.id = f.1) → gots F l = qs F
  | [], _ => by
    simp only [qs]
    clear ho
    induction l with
    | nil => rfl
    | cons x l ih => simp [gots, got, ih]
  | f :: F, h => by
    rw [show f = (f.1, f.2) from rfl, gots_one f.1 f.2 F l ho (h f List.mem_cons_self), gots_sum l ho F (fun g hg => h g (List.mem_cons_of_mem _ hg))]
    rfl

/-! levels -/
def lv (l : List Lot) (sd p : Int) : List Lot := l.filter fun x => x.sd == sd && x.pr == p
/-- the order in which a level is filled -/
def arr (sh : List Lot → List Lot) (x : List Lot) (v : Int) : List Lot := if v < tot x then sh x else x
/-- the order in which a side is filled -/
def row (sh : List Lot → List Lot) (l : List Lot) (sd : Int) : List Int → Int → List Lot
  | [], _ => []
  | p :: ps, v => arr sh (lv l sd p) v ++ row sh l sd ps (v - min (tot (lv l sd p)) v)
def Mix (sh : List Lot → List Lot) : Prop := ∀ l, (sh l).Perm l
theorem arr_perm {sh : List Lot → List Lot} (hs : Mix sh) (x : List Lot) (v : Int) : (arr sh x v).Perm x := by
  unfold arr; split
  · exact hs x
  · exact List.Perm.refl _
theorem lv_pos {l : List Lot} (h : Pos l) (sd p : Int) : Pos (lv l sd p) := fun x hx => h x (List.mem_filter.1 hx).1
theorem arr_pos {sh : List Lot → List Lot} (hs : Mix sh) {x : List Lot} (h : Pos x) (v : Int) : Pos (arr sh x v) := fun y hy => h y ((arr_perm hs x v).mem_iff.1 hy)
theorem tot_arr {sh : List Lot → List Lot} (hs : Mix sh) (x : List Lot) (v : Int) : tot (arr sh x v) = tot x := tot_perm (arr_perm hs x v)
theorem row_perm {sh : List Lot → List Lot} (hs : Mix sh) (l : List Lot) (sd : Int) : ∀ (ps : List Int) (v : Int), (row sh l sd ps v).Perm (ps.flatMap (lv l sd))
  | [], _ => List.Perm.refl _
  | p :: ps, v => by
    rw [List.flatMap_cons]
    exact (arr_perm hs _ _).append (row_perm hs l sd ps _)
/-- what a side is filled with -/
def sf (sh : List Lot → List Lot) (l : List Lot) (sd : Int) (ps : List Int) (v : Int) : List (Int × Int) := fill (row sh l sd ps v) v
theorem sf_cons {sh : List Lot → List Lot} (hs : Mix sh) {l : List Lot} (h : Pos l) (sd p : Int) (ps : List Int) (v : Int) (hv : 0 ≤ v) :
    sf sh l sd (p :: ps) v = fill (arr sh (lv l sd p) v) v ++ sf sh l sd ps (v - min (tot (lv l sd p)) v) := by
  unfold sf
  rw [row, fill_append _ _ _ (arr_pos hs (lv_pos h sd p) v) hv, tot_arr hs]
theorem sf_zero (sh : List Lot → List Lot) (l : List Lot) (sd : Int) (ps : List Int) : sf sh l sd ps 0 = [] := fill_zero _
theorem sf_empty {sh : List Lot → List Lot} (hs : Mix sh) {l : List Lot} (h : Pos l) (sd p : Int) (ps : List Int) (v : Int) (hv : 0 ≤ v) (he : lv l sd p = []) : sf sh l sd (p :: ps) v = sf sh l sd ps v := by
  rw [sf_cons hs h sd p ps v hv, he]
  have e1 : arr sh [] v = [] := by unfold arr; rw [if_neg (by simp [tot]; omega)]
  have e2 : v - min (tot []) v = v := by simp [tot]; omega
  rw [e1, e2]; rfl
theorem sf_filter {sh : List Lot → List Lot} (hs : Mix sh) {l : List Lot} (h : Pos l) (sd : Int) : ∀ (ps : List Int) (v : Int), 0 ≤ v → sf sh l sd (ps.filter fun p => !(lv l sd p).isEmpty) v = sf sh l sd ps v
  | [], _, _ => rfl
  | p :: ps, v, hv => by
    rw [List.filter_cons]
    split
    · have h2 := tot_nonneg _ (lv_pos h sd p)
      rw [sf_cons hs h sd p _ v hv, sf_cons hs h sd p _ v hv, sf_filter hs h sd ps _ (by omega)]
    · rename_i e
      rw [sf_empty hs h sd p ps v hv (by simpa using e), sf_filter hs h sd ps v hv]
/-- where all fits, nothing is drawn -/
theorem row_fits (sh : List Lot → List Lot) {l : List Lot} (h : Pos l) (sd : Int) : ∀ (ps : List Int) (v : Int), tot (ps.flatMap (lv l sd)) ≤ v → row sh l sd ps v = ps.flatMap (lv l sd)
  | [], _, _ => rfl
  | p :: ps, v, hv => by
    rw [List.flatMap_cons] at hv ⊢
    rw [tot_append] at hv
    have h2 := tot_nonneg _ (lv_pos h sd p)
    have h3 : 0 ≤ tot (ps.flatMap (lv l sd)) := tot_nonneg _ fun x hx => by
      obtain ⟨q, _, hq⟩ := List.mem_flatMap.1 hx
      exact lv_pos h sd q x hq
    rw [row, row_fits sh h sd ps _ (by omega)]
    unfold arr
    rw [if_neg (by omega)]

/-! who is worse than a price -/
def el (sd price : Int) (x : Lot) : Bool := x.sd == sd && !better sd price x.pr
/-- prices from the best one on -/
def Falls (sd : Int) (ps : List Int) : Prop := ps.Pairwise fun p q => better sd p q = true
theorem better_irrefl (sd p : Int) : better sd p p = false := by unfold better; split <;> simp
theorem filter_or_perm {α : Type} (f g : α → Bool) : ∀ l : List α, (∀ x ∈ l, f x = true → g x = false) → (l.filter fun x => f x || g x).Perm (l.filter f ++ l.filter g)
  | [], _ => List.Perm.refl _
  | x :: l, h => by
    have ih := filter_or_perm f g l (fun y hy => h y (List.mem_cons_of_mem _ hy))
    have hx := h x List.mem_cons_self
    rw [List.filter_cons, List.filter_cons, List.filter_cons]
    cases hf : f x
    · cases hg : g x
      · simpa using ih
      · simpa using (ih.cons x).trans List.perm_middle.symm
    · simpa [hx hf] using ih.cons x
theorem levels_perm (l : List Lot) (sd : Int) : ∀ ps : List Int, ps.Nodup → (ps.flatMap (lv l sd)).Perm (l.filter fun x => x.sd == sd && ps.contains x.pr)
  | [], _ => by simp
  | p :: ps, h => by
    obtain ⟨h1, h2⟩ := List.nodup_cons.1 h
    rw [List.flatMap_cons]
    have ih := levels_perm l sd ps h2
    have hp := filter_or_perm (fun x : Lot => x.sd == sd && x.pr == p) (fun x : Lot => x.sd == sd && ps.contains x.pr) l fun x _ hx => by
      simp only [Bool.and_eq_true, beq_iff_eq] at hx
      rw [hx.2]; simp [h1]
    have he : (fun x : Lot => x.sd == sd && (p :: ps).contains x.pr) = fun x : Lot => (x.sd == sd && x.pr == p) || (x.sd == sd && ps.contains x.pr) := by
      funext x
      rw [List.contains_cons]
      cases x.sd == sd <;> simp
    rw [he]
    exact ((List.Perm.refl _).append ih).trans hp.symm
theorem row_order {sh : List Lot → List Lot} (hs : Mix sh) (l : List Lot) (sd : Int) : ∀ (ps : List Int) (v : Int), Falls sd ps → (row sh l sd ps v).Pairwise fun x y => better sd y.pr x.pr = false
  | [], _, _ => List.Pairwise.nil
  | p :: ps, v, h => by
    obtain ⟨h1, h2⟩ := List.pairwise_cons.1 h
    have hp : ∀ x ∈ arr sh (lv l sd p) v, x.pr = p := fun x hx => by
      have := (List.mem_filter.1 ((arr_perm hs _ _).mem_iff.1 hx)).2
      simp only [Bool.and_eq_true, beq_iff_eq] at this
      exact this.2
    rw [row]
    refine List.pairwise_append.2 ⟨?_, row_order hs l sd ps _ h2, fun x hx y hy => ?_⟩
    · refine List.Pairwise.imp_of_mem (R := fun _ _ => True) (fun hx hy _ => ?_) (List.pairwise_of_forall (fun _ _ => trivial))
      rw [hp _ hx, hp _ hy]; exact better_irrefl sd p
    · have hq := (row_perm hs l sd ps _).mem_iff.1 hy
      obtain ⟨q, hq1, hq2⟩ := List.mem_flatMap.1 hq
      have := (List.mem_filter.1 hq2).2
      simp only [Bool.and_eq_true, beq_iff_eq] at this
      rw [hp x hx, this.2]
      have hb := h1 q hq1
      unfold better at hb ⊢
      split at hb <;> simp_all <;> omega

/-! the three facts: within, whole ahead, one level alone -/
theorem got_within {s : List Lot} {v : Int} (h : Pos s) (hv : 0 ≤ v) (ho : Once s) {x : Lot} (hx : x ∈ s) : 0 ≤ got x.id (fill s v) ∧ got x.id (fill s v) ≤ x.q := by
  obtain ⟨a, b, rfl⟩ := List.append_of_mem hx
  have hq := h x hx
  rw [got_fill a x b v h hv ho]; omega
theorem got_ahead {sd : Int} {s : List Lot} {v : Int} (h : Pos s) (hv : 0 ≤ v) (ho : Once s) (hp : s.Pairwise fun x y => better sd y.pr x.pr = false) {x y : Lot} (hx : x ∈ s) (hy : y ∈ s) (hb : better sd y.pr x.pr = true) (hg : 0 < got x.id (fill s v)) : got y.id (fill s v) = y.q := by
  obtain ⟨a, b, rfl⟩ := List.append_of_mem hx
  rw [got_fill a x b v h hv ho] at hg
  obtain ⟨_, hp2, hp3⟩ := List.pairwise_append.1 hp
  have hya : y ∈ a := by
    rcases List.mem_append.1 hy with hy | hy
    · exact hy
    · rcases List.mem_cons.1 hy with rfl | hy
      · rw [better_irrefl] at hb; cases hb
      · have := (List.pairwise_cons.1 hp2).1 y hy
        rw [this] at hb; cases hb
  obtain ⟨a1, a2, rfl⟩ := List.append_of_mem hya
  have e : a1 ++ y :: a2 ++ x :: b = a1 ++ y :: (a2 ++ x :: b) := by simp
  have h2 : 0 ≤ tot a2 := tot_nonneg _ fun z hz => h z (by simp [hz])
  have hq := h y hy
  rw [tot_append] at hg
  simp only [tot] at hg
  rw [e] at h ho ⊢
  rw [got_fill a1 y _ v h hv ho]
  omega
theorem got_whole {sd : Int} {s : List Lot} {v : Int} (h : Pos s) (hv : 0 ≤ v) (ho : Once s) (hp : s.Pairwise fun x y => better sd y.pr x.pr = false) {x : Lot} (hx : x ∈ s) (hb : tot (s.filter fun y => !better sd x.pr y.pr) ≤ v) : got x.id (fill s v) = x.q := by
  obtain ⟨a, b, rfl⟩ := List.append_of_mem hx
  rw [got_fill a x b v h hv ho]
  obtain ⟨_, hp2, hp3⟩ := List.pairwise_append.1 hp
  rw [List.filter_append, List.filter_cons, if_pos (by rw [better_irrefl]; rfl), tot_append] at hb
  have ha : a.filter (fun y => !better sd x.pr y.pr) = a := List.filter_eq_self.2 fun y hy => by rw [hp3 y hy x List.mem_cons_self]; rfl
  rw [ha] at hb
  have h2 : 0 ≤ tot (b.filter fun y => !better sd x.pr y.pr) := tot_nonneg _ fun z hz => h z (by simp [(List.mem_filter.1 hz).1])
  have hq := h x hx
  simp only [tot] at hb
  omega
theorem got_behind {sd : Int} {s : List Lot} {v : Int} (h : Pos s) (hv : 0 ≤ v) (ho : Once s) (hp : s.Pairwise fun x y => better sd y.pr x.pr = false) {x : Lot} (hx : x ∈ s) (hb : v ≤ tot (s.filter fun y => better sd y.pr x.pr)) : got x.id (fill s v) = 0 := by
  obtain ⟨a, b, rfl⟩ := List.append_of_mem hx
  rw [got_fill a x b v h hv ho]
  obtain ⟨_, hp2, hp3⟩ := List.pairwise_append.1 hp
  rw [List.filter_append, List.filter_cons, if_neg (by rw [better_irrefl]; simp), tot_append] at hb
  have hbn : b.filter (fun y => better sd y.pr x.pr) = [] := List.filter_eq_nil_iff.2 fun y hy => by rw [(List.pairwise_cons.1 hp2).1 y hy]; simp
  rw [hbn] at hb
  have ha : tot (a.filter fun y => better sd y.pr x.pr) ≤ tot (a.filter fun _ => true) := tot_filter_le a (fun y hy => h y (List.mem_append_left _ hy)) (fun _ _ _ => rfl)
  rw [show a.filter (fun _ => true) = a from List.filter_eq_self.2 fun _ _ => rfl] at ha
  have hq := h x hx
  simp only [tot] at hb
  omega
theorem better_total (sd p q : Int) (h : p ≠ q) : better sd p q = true ∨ better sd q p = true := by
  unfold better; split <;> simp <;> omega
/-- two orders of the same lots: those that get otherwise are of one level -/
theorem one_level {sd : Int} {s t : List Lot} {v : Int} (hst : s.Perm t) (h : Pos s) (hv : 0 ≤ v) (ho : Once s) (hp : s.Pairwise fun x y => better sd y.pr x.pr = false) (hq : t.Pairwise fun x y => better sd y.pr x.pr = false)
    {x y : Lot} (hx : x ∈ s) (hy : y ∈ s) (dx : got x.id (fill s v) ≠ got x.id (fill t v)) (dy : got y.id (fill s v) ≠ got y.id (fill t v)) : x.pr = y.pr := by
  have ht : Pos t := fun z hz => h z (hst.mem_iff.2 hz)
  have hot : Once t := ho.perm hst
  have key : ∀ z ∈ s, got z.id (fill s v) ≠ got z.id (fill t v) → tot (s.filter fun u => better sd u.pr z.pr) < v ∧ v < tot (s.filter fun u => !better sd z.pr u.pr) := by
    intro z hz dz
    refine ⟨Int.not_le.1 fun e => dz ?_, Int.not_le.1 fun e => dz ?_⟩
    · rw [got_behind h hv ho hp hz e, got_behind ht hv hot hq (hst.mem_iff.1 hz) (by rw [← tot_perm (hst.filter _)]; exact e)]
    · rw [got_whole h hv ho hp hz e, got_whole ht hv hot hq (hst.mem_iff.1 hz) (by rw [← tot_perm (hst.filter _)]; exact e)]
  have step : ∀ p q : Int, better sd p q = true → tot (s.filter fun u => !better sd p u.pr) ≤ tot (s.filter fun u => better sd u.pr q) := fun p q hb => tot_filter_le s h fun u _ hu => by
    unfold better at hb hu ⊢; split at hb <;> simp_all <;> omega
  by_cases e : x.pr = y.pr
  · exact e
  · have kx := key x hx dx
    have ky := key y hy dy
    rcases better_total sd _ _ e with hb | hb
    · have := step _ _ hb; omega
    · have := step _ _ hb; omega
end Ra
end Go.Proofs.YtdggddjgipgllaaGreatDoor
/- A book as a list of lots: what is added, cancelled and taken of, and its levels; no program is spoken of. -/
namespace Go.Proofs.YtdggddjgipgllaaGreatDoor
namespace Bk
open Cv Ra

/-- where the lot of an ID stands; the length: nowhere -/
def pos (l : List Lot) (id : Int) : Nat := l.findIdx fun x => x.id == id
def del (l : List Lot) (k : Nat) : List Lot := l.take k ++ l.drop (k + 1)
def put (l : List Lot) (k : Nat) (x : Lot) : List Lot := l.take k ++ x :: l.drop (k + 1)
def less (x : Lot) (q : Int) : Lot := ⟨x.id, x.ow, x.sd, x.pr, x.q - q⟩
structure Good (l : List Lot) : Prop where
  oks : Oks l
  len : l.length ≤ 60
  once : Once l
theorem good_nil : Good [] := ⟨fun _ h => absurd h List.not_mem_nil, Nat.zero_le _, List.nodup_nil⟩

theorem pos_le (l : List Lot) (id : Int) : pos l id ≤ l.length := List.findIdx_le_length
theorem pos_has {l : List Lot} {id : Int} : has l id = true ↔ pos l id < l.length := by
  unfold has pos
  rw [List.findIdx_lt_length, List.any_eq_true]
theorem pos_hasnt {l : List Lot} {id : Int} : has l id = false ↔ pos l id = l.length := by
  have h1 := pos_has (l := l) (id := id)
  have h2 := pos_le l id
  cases h : has l id
  · simp only [h] at h1; simp at h1; simp; omega
  · have := h1.1 h; simp; omega
theorem nth_get {l : List Lot} {i : Nat} (h : i < l.length) : nth l i = l[i] := by
  unfold nth; rw [List.getD_eq_getElem?_getD, List.getElem?_eq_getElem h]; rfl
theorem pos_id {l : List Lot} {id : Int} (h : pos l id < l.length) : (nth l (pos l id)).id = id := by
  rw [nth_get h]
  have := List.findIdx_getElem (p := fun x : Lot => x.id == id) (xs := l) (w := h)
  exact eq_of_beq this
theorem split_at {l : List Lot} {k : Nat} (h : k < l.length) : l = l.take k ++ nth l k :: l.drop (k + 1) := by
  rw [nth_get h, List.getElem_cons_drop, List.take_append_drop]
theorem del_length {l : List Lot} {k : Nat} (h : k < l.length) : (del l k).length = l.length - 1 := by
  unfold del; rw [List.length_append, List.length_take, List.length_drop]; omega
theorem put_length {l : List Lot} {k : Nat} (h : k < l.length) (x : Lot) : (put l k x).length = l.length := by
  unfold put; rw [List.length_append, List.length_cons, List.length_take, List.length_drop]; omega
theorem mem_del {l : List Lot} {k : Nat} {x : Lot} (h : x ∈ del l k) : x ∈ l := by
  rcases List.mem_append.1 h with h | h
  · exact List.mem_of_mem_take h
  · exact List.mem_of_mem_drop h
theorem good_del {l : List Lot} (h : Good l) {k : Nat} (hk : k < l.length) : Good (del l k) := by
  refine ⟨fun x hx => h.oks x (mem_del hx), by rw [del_length hk]; have := h.len; omega, ?_⟩
  have ho := h.once
  unfold Once at ho ⊢
  refine List.Nodup.sublist ?_ ho
  refine List.Sublist.map _ ?_
  have e := split_at hk
  exact Eq.subst (motive := fun m => (del l k).Sublist m) e.symm (List.Sublist.append (List.Sublist.refl _) (List.sublist_cons_self _ _))
theorem good_put {l : List Lot} (h : Good l) {k : Nat} (hk : k < l.length) {x : Lot} (hx : ok x = true) (he : x.id = (nth l k).id) : Good (put l k x) := by
  refine ⟨fun y hy => ?_, by rw [put_length hk]; exact h.len, ?_⟩
  · rcases List.mem_append.1 hy with hy | hy
    · exact h.oks y (List.mem_of_mem_take hy)
    · rcases List.mem_cons.1 hy with rfl | hy
      · exact hx
      · exact h.oks y (List.mem_of_mem_drop hy)
  · have ho := h.once
    unfold Once at ho ⊢
    have e : (put l k x).map (·.id) = l.map (·.id) := by
      have e := split_at hk
      have e2 : l.map (·.id) = (l.take k ++ nth l k :: l.drop (k + 1)).map (·.id) := congrArg _ e
      rw [e2]
      simp [put, he]
    rw [e]; exact ho
theorem good_add {l : List Lot} (h : Good l) {x : Lot} (hx : ok x = true) (hn : has l x.id = false) (hl : l.length < 60) : Good (l ++ [x]) := by
  refine ⟨fun y hy => ?_, by simp; omega, ?_⟩
  · rcases List.mem_append.1 hy with hy | hy
    · exact h.oks y hy
    · rw [List.mem_singleton.1 hy]; exact hx
  · have ho := h.once
    unfold Once at ho ⊢
    rw [List.map_append, List.nodup_append]
    refine ⟨ho, by simp, fun a ha b hb => ?_⟩
    obtain ⟨y, hy, rfl⟩ := List.mem_map.1 ha
    obtain rfl : b = x.id := by simpa using hb
    intro e
    have : has l x.id = true := List.any_eq_true.2 ⟨y, hy, by simpa using e⟩
    rw [hn] at this; cases this
theorem tot_del {l : List Lot} {k : Nat} (hk : k < l.length) : tot (del l k) = tot l - (nth l k).q := by
  have e : tot l = tot (l.take k ++ nth l k :: l.drop (k + 1)) := congrArg _ (split_at hk)
  rw [e]
  simp only [del, tot_append, tot]; omega
theorem tot_put {l : List Lot} {k : Nat} (hk : k < l.length) (x : Lot) : tot (put l k x) = tot l - (nth l k).q + x.q := by
  have e : tot l = tot (l.take k ++ nth l k :: l.drop (k + 1)) := congrArg _ (split_at hk)
  rw [e]
  simp only [put, tot_append, tot]; omega
theorem tot_bound {l : List Lot} (h : Oks l) : 0 ≤ tot l ∧ tot l ≤ 1000 * l.length := by
  have := sumIf_bounds (fun _ => true) l h
  rw [← tot_filter, List.filter_eq_self.2 (fun _ _ => rfl)] at this
  exact this
theorem ok_less {x : Lot} {q : Int} (h : ok x = true) (h1 : 1 ≤ q) (h2 : q < x.q) : ok (less x q) = true := by
  have := ok_bounds h
  simp only [ok, Wi.withinB, less, Bool.and_eq_true]
  refine ⟨⟨⟨⟨⟨?_, ?_⟩, ?_, ?_⟩, ?_, ?_⟩, ?_, ?_⟩, ?_, ?_⟩ <;> exact decide_eq_true (by omega)

/-- what an addition answers: 0, or one of three errors by a number of ours -/
def addC (l : List Lot) (x : Lot) : Nat := if ok x = true then if has l x.id = true then 2 else if 60 ≤ l.length then 3 else 0 else 1
def addL (l : List Lot) (x : Lot) : List Lot := if addC l x = 0 then l ++ [x] else l
def canC (l : List Lot) (id : Int) : Nat := if has l id = true then 0 else 4
def canL (l : List Lot) (id : Int) : List Lot := if canC l id = 0 then del l (pos l id) else l
def canX (l : List Lot) (id : Int) : Lot := if canC l id = 0 then nth l (pos l id) else z
def takC (l : List Lot) (id q : Int) : Nat := if has l id = true then if Wi.withinB q 1 (nth l (pos l id)).q = true then 0 else 1 else 4
def takL (l : List Lot) (id q : Int) : List Lot := if takC l id q = 0 then if q = (nth l (pos l id)).q then del l (pos l id) else put l (pos l id) (less (nth l (pos l id)) q) else l

theorem add_ok {l : List Lot} {x : Lot} (h : addC l x = 0) : ok x = true ∧ has l x.id = false ∧ l.length < 60 := by
  unfold addC at h
  by_cases h1 : ok x = true
  · rw [if_pos h1] at h
    by_cases h2 : has l x.id = true
    · rw [if_pos h2] at h; cases h
    · rw [if_neg h2] at h
      by_cases h3 : 60 ≤ l.length
      · rw [if_pos h3] at h; cases h
      · exact ⟨h1, by simpa using h2, by omega⟩
  · rw [if_neg h1] at h; cases h
theorem good_addL {l : List Lot} (h : Good l) (x : Lot) : Good (addL l x) := by
  unfold addL
  by_cases h0 : addC l x = 0
  · rw [if_pos h0]
    obtain ⟨h1, h2, h3⟩ := add_ok h0
    exact good_add h h1 h2 h3
  · rw [if_neg h0]; exact h
theorem can_ok {l : List Lot} {id : Int} (h : canC l id = 0) : pos l id < l.length := by
  unfold canC at h
  by_cases h1 : has l id = true
  · exact pos_has.1 h1
  · rw [if_neg h1] at h; cases h
theorem good_canL {l : List Lot} (h : Good l) (id : Int) : Good (canL l id) := by
  unfold canL
  by_cases h0 : canC l id = 0
  · rw [if_pos h0]; exact good_del h (can_ok h0)
  · rw [if_neg h0]; exact h
theorem tak_ok {l : List Lot} {id q : Int} (h : takC l id q = 0) : pos l id < l.length ∧ 1 ≤ q ∧ q ≤ (nth l (pos l id)).q := by
  unfold takC at h
  by_cases h1 : has l id = true
  · rw [if_pos h1] at h
    by_cases h2 : Wi.withinB q 1 (nth l (pos l id)).q = true
    · refine ⟨pos_has.1 h1, ?_⟩
      simpa [Wi.withinB] using h2
    · rw [if_neg h2] at h; cases h
  · rw [if_neg h1] at h; cases h
theorem good_takL {l : List Lot} (h : Good l) (id q : Int) : Good (takL l id q) := by
  unfold takL
  by_cases h0 : takC l id q = 0
  · rw [if_pos h0]
    obtain ⟨h1, h2, h3⟩ := tak_ok h0
    by_cases h4 : q = (nth l (pos l id)).q
    · rw [if_pos h4]; exact good_del h h1
    · rw [if_neg h4]; exact good_put h h1 (ok_less (h.oks _ (nth_mem h1)) h2 (by omega)) rfl
  · rw [if_neg h0]; exact h
theorem tot_addL (l : List Lot) (x : Lot) : tot (addL l x) = tot l + if addC l x = 0 then x.q else 0 := by
  unfold addL
  by_cases h0 : addC l x = 0
  · rw [if_pos h0, if_pos h0, tot_append]; simp [tot]
  · rw [if_neg h0, if_neg h0]; omega
theorem tot_canL (l : List Lot) (id : Int) : tot (canL l id) + (if canC l id = 0 then (canX l id).q else 0) = tot l := by
  unfold canL canX
  by_cases h0 : canC l id = 0
  · rw [if_pos h0, if_pos h0, if_pos h0, tot_del (can_ok h0)]; omega
  · rw [if_neg h0, if_neg h0]; omega
theorem tot_takL (l : List Lot) (id q : Int) : tot (takL l id q) + (if takC l id q = 0 then q else 0) = tot l := by
  unfold takL
  by_cases h0 : takC l id q = 0
  · rw [if_pos h0, if_pos h0]
    obtain ⟨h1, h2, h3⟩ := tak_ok h0
    by_cases h4 : q = (nth l (pos l id)).q
    · rw [if_pos h4, tot_del h1]; omega
    · rw [if_neg h4, tot_put h1]; simp only [less]; omega
  · rw [if_neg h0, if_neg h0]; omega

/-- all prices, the best one of a side first -/
def pj (sd : Int) (j : Nat) : Int := if sd = 0 then 1000 - (j : Int) else 1 + (j : Int)
def all (sd : Int) : List Int := (List.range 1000).map (pj sd)
theorem falls_all (sd : Int) : Falls sd (all sd) := by
  refine List.pairwise_map.2 (List.pairwise_lt_range.imp fun {a b} h => ?_)
  unfold pj better
  split <;> simp <;> omega
theorem mem_all {sd p : Int} : p ∈ all sd ↔ 1 ≤ p ∧ p ≤ 1000 := by
  unfold all pj
  by_cases hs : sd = 0
  · simp only [hs, if_true, List.mem_map, List.mem_range]
    constructor
    · rintro ⟨j, hj, rfl⟩; omega
    · rintro ⟨h3, h4⟩; exact ⟨(1000 - p).toNat, by omega, by omega⟩
  · simp only [hs, if_false, List.mem_map, List.mem_range]
    constructor
    · rintro ⟨j, hj, rfl⟩; omega
    · rintro ⟨h3, h4⟩; exact ⟨(p - 1).toNat, by omega, by omega⟩
/-- the prices of a side's lots, the best one first -/
def prs (l : List Lot) (sd : Int) : List Int := (all sd).filter fun p => !(lv l sd p).isEmpty
theorem falls_prs (l : List Lot) (sd : Int) : Falls sd (prs l sd) := (falls_all sd).filter _
theorem nodup_prs (l : List Lot) (sd : Int) : (prs l sd).Nodup := (falls_prs l sd).imp fun {a b} h e => by
  rw [e, better_irrefl] at h; cases h
theorem mem_lv {l : List Lot} {sd p : Int} (ho : Oks l) (h : lv l sd p ≠ []) : 1 ≤ p ∧ p ≤ 1000 := by
  obtain ⟨x, hx⟩ := List.exists_mem_of_ne_nil _ h
  obtain ⟨hx1, hx2⟩ := List.mem_filter.1 hx
  simp only [Bool.and_eq_true, beq_iff_eq] at hx2
  have := (ok_bounds (ho x hx1)).2.2.2.1
  rw [← hx2.2]
  exact this
theorem mem_prs {l : List Lot} {sd p : Int} (ho : Oks l) : p ∈ prs l sd ↔ lv l sd p ≠ [] := by
  unfold prs
  rw [List.mem_filter, mem_all]
  constructor
  · rintro ⟨_, hne⟩; simpa using hne
  · intro h; exact ⟨mem_lv ho h, by simpa using h⟩
theorem prs_up (l : List Lot) (sd : Int) : (if sd = 0 then (prs l sd).reverse else prs l sd).Pairwise (· < ·) := by
  have h := falls_prs l sd
  unfold Falls at h
  split
  · rename_i e
    subst e
    rw [List.pairwise_reverse]
    exact h.imp fun h => by simpa [better] using h
  · rename_i e
    exact h.imp fun h => by simpa [better, e] using h

/-- a level: price, quantity, how many -/
structure Lev where
  pr : Int
  q : Int
  m : Int
def lev (l : List Lot) (sd p : Int) : Lev := ⟨p, tot (lv l sd p), (lv l sd p).length⟩
def levs (l : List Lot) (sd : Int) : List Lev := (prs l sd).map (lev l sd)
def lq : List Lev → Int
  | [] => 0
  | x :: l => x.q + lq l
def lm : List Lev → Int
  | [] => 0
  | x :: l => x.m + lm l
theorem lq_append : ∀ a b : List Lev, lq (a ++ b) = lq a + lq b
  | [], b => by simp [lq]
  | x :: a, b => by simp [lq, lq_append a b]; omega
theorem lm_append : ∀ a b : List Lev, lm (a ++ b) = lm a + lm b
  | [], b => by simp [lm]
  | x :: a, b => by simp [lm, lm_append a b]; omega
theorem lq_levs (l : List Lot) (sd : Int) : ∀ ps : List Int, lq (ps.map (lev l sd)) = tot (ps.flatMap (lv l sd))
  | [] => rfl
  | p :: ps => by simp [lq, lev, tot_append, lq_levs l sd ps]
theorem lm_levs (l : List Lot) (sd : Int) : ∀ ps : List Int, lm (ps.map (lev l sd)) = (ps.flatMap (lv l sd)).length
  | [] => rfl
  | p :: ps => by simp [lm, lev, lm_levs l sd ps]
theorem prs_perm {l : List Lot} (ho : Oks l) (sd : Int) : ((prs l sd).flatMap (lv l sd)).Perm (l.filter fun x => x.sd == sd) := by
  refine (levels_perm l sd _ (nodup_prs l sd)).trans ?_
  rw [List.filter_congr (q := fun x => x.sd == sd) fun x hx => ?_]
  cases hs : x.sd == sd
  · rfl
  · rw [Bool.true_and, List.contains_iff_mem, mem_prs ho]
    intro e
    have : x ∈ lv l sd x.pr := List.mem_filter.2 ⟨hx, by simp [hs]⟩
    rw [e] at this; cases this
theorem lq_side {l : List Lot} (ho : Oks l) (sd : Int) : lq (levs l sd) = tot (l.filter fun x => x.sd == sd) := by
  unfold levs; rw [lq_levs, tot_perm (prs_perm ho sd)]
theorem lm_side {l : List Lot} (ho : Oks l) (sd : Int) : lm (levs l sd) = (l.filter fun x => x.sd == sd).length := by
  unfold levs; rw [lm_levs, (prs_perm ho sd).length_eq]
theorem sides_perm {l : List Lot} (ho : Oks l) : (l.filter (fun x => x.sd == 0) ++ l.filter (fun x => x.sd == 1)).Perm l := by
  refine (filter_or_perm _ _ l fun x _ h => ?_).symm.trans ?_
  · have : x.sd = 0 := by simpa using h
    simp [this]
  · rw [List.filter_eq_self.2 fun x hx => ?_]
    have := (ok_bounds (ho x hx)).2.2.1
    simp; omega
theorem lq_both {l : List Lot} (ho : Oks l) : lq (levs l 0) + lq (levs l 1) = tot l := by
  rw [lq_side ho, lq_side ho, ← tot_append, tot_perm (sides_perm ho)]
theorem lm_both {l : List Lot} (ho : Oks l) : lm (levs l 0) + lm (levs l 1) = l.length := by
  rw [lm_side ho, lm_side ho]
  have := (sides_perm ho).length_eq
  rw [List.length_append] at this
  omega
theorem prs_length {l : List Lot} (ho : Oks l) (sd : Int) : (prs l sd).length ≤ l.length := by
  have h1 : ∀ ps : List Int, (∀ p ∈ ps, lv l sd p ≠ []) → ps.length ≤ (ps.flatMap (lv l sd)).length := by
    intro ps
    induction ps with
    | nil => intro _; simp
    | cons p ps ih =>
      intro h
      have := ih fun q hq => h q (List.mem_cons_of_mem _ hq)
      have hp := List.length_pos_iff.2 (h p List.mem_cons_self)
      simp only [List.flatMap_cons, List.length_cons, List.length_append]; omega
  have h2 := h1 (prs l sd) fun p hp => (mem_prs ho).1 hp
  rw [(prs_perm ho sd).length_eq] at h2
  exact Nat.le_trans h2 (List.length_filter_le _ _)
end Bk
end Go.Proofs.YtdggddjgipgllaaGreatDoor
/- Purses as numbers: what each act answers and leaves, and what is always so; no program is spoken of. -/
namespace Go.Proofs.YtdggddjgipgllaaGreatDoor
namespace Pu

/-- so much more at one place -/
def add (f : Nat → Int) (i : Nat) (v : Int) : Nat → Int := fun j => if j = i then f j + v else f j
def dl (i : Nat) (v : Int) (j : Nat) : Int := if j = i then v else 0
theorem add_dl (f : Nat → Int) (i : Nat) (v : Int) (j : Nat) : add f i v j = f j + dl i v j := by
  unfold add dl; split <;> simp
theorem add_at (f : Nat → Int) (i : Nat) (v : Int) : add f i v i = f i + v := by simp [add]
theorem add_ne (f : Nat → Int) {i j : Nat} (v : Int) (h : j ≠ i) : add f i v j = f j := by simp [add, h]

/-- client c: cash at c * 8, held behind it, three stocks, three that are kept -/
structure Good (f : Nat → Int) : Prop where
  cash : ∀ c, c < 6 → 0 ≤ f (c * 8 + 1) ∧ f (c * 8 + 1) ≤ f (c * 8) ∧ f (c * 8) ≤ 1099511627776
  stock : ∀ c k, c < 6 → k < 3 → 0 ≤ f (c * 8 + 5 + k) ∧ f (c * 8 + 5 + k) ≤ f (c * 8 + 2 + k) ∧ f (c * 8 + 2 + k) ≤ 1073741824
theorem good_zero : Good (fun _ => 0) := ⟨fun _ _ => by omega, fun _ _ _ _ => by omega⟩

def well (item : Int) (x : Cv.Lot) : Bool := Wi.withinB item 0 2 && Cv.ok x
theorem well_item {item : Int} {x : Cv.Lot} (h : well item x = true) : ∃ k : Nat, item = k ∧ k < 3 := by
  simp only [well, Wi.withinB, Bool.and_eq_true, decide_eq_true_eq] at h
  exact ⟨item.toNat, by omega, by omega⟩
theorem well_ok {item : Int} {x : Cv.Lot} (h : well item x = true) : Cv.ok x = true := by
  simp only [well, Bool.and_eq_true] at h; exact h.2
theorem well_ow {item : Int} {x : Cv.Lot} (h : well item x = true) : ∃ c : Nat, x.ow = c ∧ c < 6 := by
  have := Cv.ok_bounds (well_ok h)
  exact ⟨x.ow.toNat, by omega, by omega⟩

/-- where a lot's hold stands, and of what it is held; how much -/
def hx (item : Int) (x : Cv.Lot) : Nat := if x.sd = 0 then x.ow.toNat * 8 + 1 else x.ow.toNat * 8 + 5 + item.toNat
def tx (item : Int) (x : Cv.Lot) : Nat := if x.sd = 0 then x.ow.toNat * 8 else x.ow.toNat * 8 + 2 + item.toNat
def mu (x : Cv.Lot) : Int := if x.sd = 0 then x.pr * x.q else x.q
theorem mul_bounds {a b : Int} {n m : Int} (h1 : 1 ≤ a) (h2 : a ≤ n) (h3 : 1 ≤ b) (h4 : b ≤ m) : 1 ≤ a * b ∧ a * b ≤ n * m := by
  refine ⟨?_, ?_⟩
  · have := Int.mul_le_mul h1 h3 (by omega) (by omega); simpa using this
  · exact Int.mul_le_mul h2 h4 (by omega) (by omega)
theorem mu_bounds {x : Cv.Lot} (h : Cv.ok x = true) : 1 ≤ mu x ∧ mu x ≤ 1000000 := by
  obtain ⟨_, _, _, h4, h5⟩ := Cv.ok_bounds h
  unfold mu
  split
  · have := mul_bounds h4.1 h4.2 h5.1 h5.2; omega
  · omega
theorem places {item : Int} {x : Cv.Lot} (h : well item x = true) : (∃ c : Nat, c < 6 ∧ hx item x = c * 8 + 1 ∧ tx item x = c * 8) ∨ ∃ c k : Nat, c < 6 ∧ k < 3 ∧ hx item x = c * 8 + 5 + k ∧ tx item x = c * 8 + 2 + k := by
  obtain ⟨k, hk, hk3⟩ := well_item h
  obtain ⟨c, hc, hc6⟩ := well_ow h
  unfold hx tx
  split
  · exact .inl ⟨c, hc6, by omega, by omega⟩
  · exact .inr ⟨c, k, hc6, hk3, by omega, by omega⟩
theorem place_lt {item : Int} {x : Cv.Lot} (h : well item x = true) : hx item x < 48 ∧ tx item x < 48 := by
  rcases places h with ⟨c, h1, h2, h3⟩ | ⟨c, k, h1, h4, h2, h3⟩ <;> omega
theorem good_at {f : Nat → Int} (hg : Good f) {item : Int} {x : Cv.Lot} (h : well item x = true) : 0 ≤ f (hx item x) ∧ f (hx item x) ≤ f (tx item x) ∧ f (tx item x) ≤ 1099511627776 := by
  rcases places h with ⟨c, h1, h2, h3⟩ | ⟨c, k, h1, h4, h2, h3⟩
  · rw [h2, h3]; exact hg.cash c h1
  · rw [h2, h3]; have := hg.stock c k h1 h4; omega
/-- more or less that is held, between its bounds -/
theorem good_held {f : Nat → Int} (hg : Good f) {item : Int} {x : Cv.Lot} (h : well item x = true) (v : Int) (h0 : 0 ≤ f (hx item x) + v) (h1 : f (hx item x) + v ≤ f (tx item x)) : Good (add f (hx item x) v) := by
  rcases places h with ⟨c, c1, e1, e2⟩ | ⟨c, k, c1, k1, e1, e2⟩
  · rw [e1] at h0 h1 ⊢
    rw [e2] at h1
    refine ⟨fun c' hc' => ?_, fun c' k' hc' hk' => ?_⟩
    · have := hg.cash c' hc'
      by_cases e : c' = c
      · subst e; rw [add_at, add_ne _ _ (by omega)]; omega
      · rw [add_ne _ _ (by omega), add_ne _ _ (by omega)]; exact this
    · rw [add_ne _ _ (by omega), add_ne _ _ (by omega)]; exact hg.stock c' k' hc' hk'
  · rw [e1] at h0 h1 ⊢
    rw [e2] at h1
    refine ⟨fun c' hc' => ?_, fun c' k' hc' hk' => ?_⟩
    · rw [add_ne _ _ (by omega), add_ne _ _ (by omega)]; exact hg.cash c' hc'
    · have := hg.stock c' k' hc' hk'
      by_cases e : c' = c ∧ k' = k
      · obtain ⟨rfl, rfl⟩ := e; rw [add_at, add_ne _ _ (by omega)]; omega
      · rw [add_ne _ _ (by omega), add_ne _ _ (by omega)]; exact this

def holdC (f : Nat → Int) (item : Int) (x : Cv.Lot) : Nat := if well item x = true then (if f (tx item x) - f (hx item x) < mu x then 9 else 0) else 1
def holdF (f : Nat → Int) (item : Int) (x : Cv.Lot) : Nat → Int := if holdC f item x = 0 then add f (hx item x) (mu x) else f
def freeC (f : Nat → Int) (item : Int) (x : Cv.Lot) : Nat := if well item x = true then (if f (hx item x) < mu x then 9 else 0) else 1
def freeF (f : Nat → Int) (item : Int) (x : Cv.Lot) : Nat → Int := if freeC f item x = 0 then add f (hx item x) (-(mu x)) else f
theorem hold_zero {f : Nat → Int} {item : Int} {x : Cv.Lot} (h : holdC f item x = 0) : well item x = true ∧ ¬ f (tx item x) - f (hx item x) < mu x := by
  unfold holdC at h
  split at h
  · split at h
    · exact absurd h (by decide)
    · exact ⟨by assumption, by assumption⟩
  · exact absurd h (by decide)
theorem free_zero {f : Nat → Int} {item : Int} {x : Cv.Lot} (h : freeC f item x = 0) : well item x = true ∧ ¬ f (hx item x) < mu x := by
  unfold freeC at h
  split at h
  · split at h
    · exact absurd h (by decide)
    · exact ⟨by assumption, by assumption⟩
  · exact absurd h (by decide)
theorem good_hold {f : Nat → Int} (hg : Good f) (item : Int) (x : Cv.Lot) : Good (holdF f item x) := by
  unfold holdF
  split
  · rename_i h
    obtain ⟨h1, h2⟩ := hold_zero h
    have := good_at hg h1
    have := mu_bounds (well_ok h1)
    exact good_held hg h1 _ (by omega) (by omega)
  · exact hg
theorem good_free {f : Nat → Int} (hg : Good f) (item : Int) (x : Cv.Lot) : Good (freeF f item x) := by
  unfold freeF
  split
  · rename_i h
    obtain ⟨h1, h2⟩ := free_zero h
    have := good_at hg h1
    have := mu_bounds (well_ok h1)
    exact good_held hg h1 _ (by omega) (by omega)
  · exact hg

/-- what is given -/
structure Gift where
  n : Int
  cash : Int
  s0 : Int
  s1 : Int
  s2 : Int
def Gift.neg (g : Gift) : Bool := decide (g.s0 < 0) || decide (g.s1 < 0) || decide (g.s2 < 0) || decide (g.cash < 0)
def Gift.fine (g : Gift) : Bool := Wi.withinB g.n 0 5 && !g.neg
def Gift.over (f : Nat → Int) (g : Gift) : Bool := decide (1099511627776 - f (g.n.toNat * 8) < g.cash) || decide (1073741824 - f (g.n.toNat * 8 + 2) < g.s0) || decide (1073741824 - f (g.n.toNat * 8 + 3) < g.s1) || decide (1073741824 - f (g.n.toNat * 8 + 4) < g.s2)
def giveC (f : Nat → Int) (g : Gift) : Nat := if g.fine = true then (if g.over f = true then 7 else 0) else 1
def giveF (f : Nat → Int) (g : Gift) : Nat → Int := if giveC f g = 0 then add (add (add (add f (g.n.toNat * 8) g.cash) (g.n.toNat * 8 + 2) g.s0) (g.n.toNat * 8 + 3) g.s1) (g.n.toNat * 8 + 4) g.s2 else f
theorem give_zero {f : Nat → Int} {g : Gift} (h : giveC f g = 0) : (∃ c : Nat, g.n = c ∧ c < 6 ∧ g.cash ≤ 1099511627776 - f (c * 8) ∧ g.s0 ≤ 1073741824 - f (c * 8 + 2) ∧ g.s1 ≤ 1073741824 - f (c * 8 + 3) ∧ g.s2 ≤ 1073741824 - f (c * 8 + 4)) ∧ 0 ≤ g.cash ∧ 0 ≤ g.s0 ∧ 0 ≤ g.s1 ∧ 0 ≤ g.s2 := by
  unfold giveC at h
  split at h
  · rename_i h1
    split at h
    · exact absurd h (by decide)
    · rename_i h2
      simp only [Gift.over, Gift.fine, Gift.neg, Wi.withinB, Bool.or_eq_true, Bool.and_eq_true, Bool.not_eq_true', Bool.or_eq_false_iff, decide_eq_true_eq, decide_eq_false_iff_not, not_or] at h1 h2
      refine ⟨⟨g.n.toNat, by omega, by omega, ?_, ?_, ?_, ?_⟩, by omega, by omega, by omega, by omega⟩ <;> omega
  · exact absurd h (by decide)
theorem good_give {f : Nat → Int} (hg : Good f) (g : Gift) : Good (giveF f g) := by
  unfold giveF
  split
  · rename_i h
    obtain ⟨⟨c, hc, c6, b0, b1, b2, b3⟩, p0, p1, p2, p3⟩ := give_zero h
    rw [hc, Int.toNat_natCast]
    refine ⟨fun c' hc' => ?_, fun c' k' hc' hk' => ?_⟩
    · have := hg.cash c' hc'
      simp only [add_dl, dl]
      by_cases e : c' = c
      · subst e
        simp only [if_true, if_neg (show ¬ c' * 8 + 1 = c' * 8 by omega), if_neg (show ¬ c' * 8 + 1 = c' * 8 + 2 by omega), if_neg (show ¬ c' * 8 + 1 = c' * 8 + 3 by omega), if_neg (show ¬ c' * 8 + 1 = c' * 8 + 4 by omega), if_neg (show ¬ c' * 8 = c' * 8 + 2 by omega), if_neg (show ¬ c' * 8 = c' * 8 + 3 by omega), if_neg (show ¬ c' * 8 = c' * 8 + 4 by omega)]
        omega
      · repeat rw [if_neg (by omega)]
        omega
    · have hst := hg.stock c' k' hc' hk'
      simp only [add_dl, dl]
      by_cases e : c' = c
      · subst e
        have : k' = 0 ∨ k' = 1 ∨ k' = 2 := by omega
        rcases this with rfl | rfl | rfl
        all_goals
          repeat (first | rw [if_neg (by omega)] | rw [if_pos (by omega)])
          simp only [Nat.add_zero, Nat.add_assoc, Nat.reduceAdd] at hst ⊢
          omega
      · repeat rw [if_neg (by omega)]
        omega
  · exact hg

/-- what is wrong with a trade, whatever its owners have -/
def tchk (item : Int) (b s : Cv.Lot) (price qty : Int) : Nat :=
  if well item b = true ∧ well item s = true then
    if b.sd = 0 ∧ s.sd = 1 then
      if (1 ≤ price ∧ price ≤ 1000) ∧ 1 ≤ qty ∧ qty ≤ b.q ∧ qty ≤ s.q then
        if s.pr ≤ price ∧ price ≤ b.pr then 0 else 11
      else 1
    else 2
  else 1
def six (f : Nat → Int) (b s item : Nat) (bp price qty : Int) : Nat → Int :=
  add (add (add (add (add (add f (b * 8 + 1) (-(bp * qty))) (s * 8 + 5 + item) (-qty)) (b * 8) (-(price * qty))) (s * 8 + 2 + item) (-qty)) (b * 8 + 2 + item) qty) (s * 8) (price * qty)
def poor (f : Nat → Int) (b s item : Nat) (bp qty : Int) : Bool := decide (f (b * 8 + 1) < bp * qty) || decide (f (s * 8 + 5 + item) < qty)
def over (f : Nat → Int) (b s item : Nat) (price qty : Int) : Bool := decide (b ≠ s) && (decide (1073741824 < f (b * 8 + 2 + item) + qty) || decide (1099511627776 < f (s * 8) + price * qty))
def tradeC (f : Nat → Int) (item : Int) (b s : Cv.Lot) (price qty : Int) : Nat :=
  if tchk item b s price qty = 0 then
    if poor f b.ow.toNat s.ow.toNat item.toNat b.pr qty = true then 9
    else if over f b.ow.toNat s.ow.toNat item.toNat price qty = true then 7 else 0
  else tchk item b s price qty
def tradeF (f : Nat → Int) (item : Int) (b s : Cv.Lot) (price qty : Int) : Nat → Int :=
  if tradeC f item b s price qty = 0 then six f b.ow.toNat s.ow.toNat item.toNat b.pr price qty else f

/-- a trade that is right -/
structure Right (item : Int) (b s : Cv.Lot) (price qty : Int) : Prop where
  wb : well item b = true
  ws : well item s = true
  sb : b.sd = 0
  ss : s.sd = 1
  p : 1 ≤ price ∧ price ≤ 1000
  q : 1 ≤ qty ∧ qty ≤ b.q ∧ qty ≤ s.q
  o : s.pr ≤ price ∧ price ≤ b.pr
theorem right_of {item : Int} {b s : Cv.Lot} {price qty : Int} (h : tchk item b s price qty = 0) : Right item b s price qty := by
  unfold tchk at h
  split at h
  · rename_i h1
    split at h
    · rename_i h2
      split at h
      · rename_i h3
        split at h
        · rename_i h4
          exact ⟨h1.1, h1.2, h2.1, h2.2, h3.1, h3.2, h4⟩
        · exact absurd h (by decide)
      · exact absurd h (by decide)
    · exact absurd h (by decide)
  · exact absurd h (by decide)
theorem Right.muls {item : Int} {b s : Cv.Lot} {price qty : Int} (h : Right item b s price qty) : (1 ≤ price * qty ∧ price * qty ≤ 1000000) ∧ (1 ≤ b.pr * qty ∧ b.pr * qty ≤ 1000000) ∧ price * qty ≤ b.pr * qty ∧ qty ≤ 1000 := by
  have h1 := Cv.ok_bounds (well_ok h.wb)
  have h2 := h.q
  have h3 := mul_bounds h.p.1 h.p.2 h2.1 (show qty ≤ 1000 by omega)
  have h4 := mul_bounds h1.2.2.2.1.1 h1.2.2.2.1.2 h2.1 (show qty ≤ 1000 by omega)
  have h5 := Int.mul_le_mul_of_nonneg_right h.o.2 (show 0 ≤ qty by omega)
  omega

theorem six_dl (f : Nat → Int) (b s item : Nat) (bp price qty : Int) (j : Nat) : six f b s item bp price qty j = f j + dl (b * 8 + 1) (-(bp * qty)) j + dl (s * 8 + 5 + item) (-qty) j + dl (b * 8) (-(price * qty)) j + dl (s * 8 + 2 + item) (-qty) j + dl (b * 8 + 2 + item) qty j + dl (s * 8) (price * qty) j := by
  simp only [six, add_dl]
theorem dl_ne {i j : Nat} {v : Int} (h : j ≠ i) : dl i v j = 0 := by simp [dl, h]
theorem dl_at {i : Nat} {v : Int} : dl i v i = v := by simp [dl]
theorem good_six {f : Nat → Int} (hg : Good f) {b s k : Nat} {bp price qty : Int} (hb : b < 6) (hs : s < 6) (hk : k < 3) (hm : 1 ≤ price * qty ∧ price * qty ≤ bp * qty) (hq : 1 ≤ qty) (hp : poor f b s k bp qty = false) (ho : over f b s k price qty = false) : Good (six f b s k bp price qty) := by
  simp only [poor, over, Bool.or_eq_false_iff, Bool.and_eq_false_iff, decide_eq_false_iff_not, Decidable.not_not] at hp ho
  refine ⟨fun c hc => ?_, fun c k' hc hk' => ?_⟩
  · have h1 := hg.cash c hc
    have h2 := hg.cash b hb
    have h3 := hg.cash s hs
    rw [six_dl, six_dl]
    rw [dl_ne (i := s * 8 + 5 + k) (by omega), dl_ne (i := s * 8 + 5 + k) (by omega), dl_ne (i := s * 8 + 2 + k) (by omega), dl_ne (i := s * 8 + 2 + k) (by omega), dl_ne (i := b * 8 + 2 + k) (by omega), dl_ne (i := b * 8 + 2 + k) (by omega), dl_ne (i := b * 8) (j := c * 8 + 1) (by omega), dl_ne (i := s * 8) (j := c * 8 + 1) (by omega), dl_ne (i := b * 8 + 1) (j := c * 8) (by omega)]
    by_cases e1 : c = b
    · subst e1
      rw [dl_at, dl_at]
      by_cases e2 : c = s
      · subst e2; rw [dl_at]; omega
      · rw [dl_ne (by omega)]; omega
    · rw [dl_ne (i := b * 8 + 1) (by omega), dl_ne (i := b * 8) (by omega)]
      by_cases e2 : c = s
      · subst e2; rw [dl_at]; omega
      · rw [dl_ne (by omega)]; omega
  · have h1 := hg.stock c k' hc hk'
    have h2 := hg.stock b k hb hk
    have h3 := hg.stock s k hs hk
    rw [six_dl, six_dl]
    rw [dl_ne (i := b * 8 + 1) (by omega), dl_ne (i := b * 8 + 1) (by omega), dl_ne (i := b * 8) (by omega), dl_ne (i := b * 8) (by omega), dl_ne (i := s * 8) (by omega), dl_ne (i := s * 8) (by omega), dl_ne (i := s * 8 + 2 + k) (j := c * 8 + 5 + k') (by omega), dl_ne (i := b * 8 + 2 + k) (j := c * 8 + 5 + k') (by omega), dl_ne (i := s * 8 + 5 + k) (j := c * 8 + 2 + k') (by omega)]
    by_cases e0 : k' = k
    · subst e0
      by_cases e1 : c = b
      · subst e1
        rw [dl_at]
        by_cases e2 : c = s
        · subst e2; rw [dl_at, dl_at]; omega
        · rw [dl_ne (by omega), dl_ne (by omega)]; omega
      · rw [dl_ne (i := b * 8 + 2 + k') (by omega)]
        by_cases e2 : c = s
        · subst e2; rw [dl_at, dl_at]; omega
        · rw [dl_ne (by omega), dl_ne (by omega)]; omega
    · rw [dl_ne (by omega), dl_ne (by omega), dl_ne (by omega)]; omega
theorem trade_zero {f : Nat → Int} {item : Int} {b s : Cv.Lot} {price qty : Int} (h : tradeC f item b s price qty = 0) : Right item b s price qty ∧ poor f b.ow.toNat s.ow.toNat item.toNat b.pr qty = false ∧ over f b.ow.toNat s.ow.toNat item.toNat price qty = false := by
  unfold tradeC at h
  split at h
  · rename_i h1
    split at h
    · exact absurd h (by decide)
    · rename_i h2
      split at h
      · exact absurd h (by decide)
      · rename_i h3
        exact ⟨right_of h1, by simpa using h2, by simpa using h3⟩
  · rename_i h1; exact absurd h h1
theorem good_trade {f : Nat → Int} (hg : Good f) (item : Int) (b s : Cv.Lot) (price qty : Int) : Good (tradeF f item b s price qty) := by
  unfold tradeF
  split
  · rename_i h
    obtain ⟨hr, hp, ho⟩ := trade_zero h
    have hm := hr.muls
    obtain ⟨k, hk, hk3⟩ := well_item hr.wb
    obtain ⟨c, hc, hc6⟩ := well_ow hr.wb
    obtain ⟨c', hc', hc6'⟩ := well_ow hr.ws
    exact good_six hg (by omega) (by omega) (by omega) ⟨hm.1.1, hm.2.2.1⟩ hr.q.1 hp ho
  · exact hg
end Pu
end Go.Proofs.YtdggddjgipgllaaGreatDoor
/- A trade of purses, one number behind the other; no program is spoken of. -/
namespace Go.Proofs.YtdggddjgipgllaaGreatDoor
namespace Pu

def g1 (f : Nat → Int) (b : Nat) (H : Int) : Nat → Int := add f (b * 8 + 1) (-H)
def g2 (f : Nat → Int) (b s k : Nat) (H Q : Int) : Nat → Int := add (g1 f b H) (s * 8 + 5 + k) (-Q)
def g3 (f : Nat → Int) (b s k : Nat) (H Q A : Int) : Nat → Int := add (g2 f b s k H Q) (b * 8) (-A)
def g4 (f : Nat → Int) (b s k : Nat) (H Q A : Int) : Nat → Int := add (g3 f b s k H Q A) (s * 8 + 2 + k) (-Q)
def g5 (f : Nat → Int) (b s k : Nat) (H Q A : Int) : Nat → Int := add (g4 f b s k H Q A) (b * 8 + 2 + k) Q
theorem six_eq (f : Nat → Int) (b s k : Nat) (bp price qty : Int) : six f b s k bp price qty = add (g5 f b s k (bp * qty) qty (price * qty)) (s * 8) (price * qty) := rfl
theorem g1_at {f : Nat → Int} {b s k : Nat} {H : Int} : g1 f b H (s * 8 + 5 + k) = f (s * 8 + 5 + k) ∨ ¬ k < 3 := by
  by_cases h : k < 3
  · exact .inl (add_ne _ _ (by omega))
  · exact .inr h
theorem g1_kept {f : Nat → Int} {b s k : Nat} {H : Int} (hk : k < 3) : g1 f b H (s * 8 + 5 + k) = f (s * 8 + 5 + k) := add_ne _ _ (by omega)
theorem g2_cash {f : Nat → Int} {b s k : Nat} {H Q : Int} (hk : k < 3) : g2 f b s k H Q (b * 8) = f (b * 8) := by
  unfold g2 g1; rw [add_ne _ _ (by omega), add_ne _ _ (by omega)]
theorem g3_stock {f : Nat → Int} {b s k : Nat} {H Q A : Int} (hk : k < 3) : g3 f b s k H Q A (s * 8 + 2 + k) = f (s * 8 + 2 + k) := by
  unfold g3 g2 g1; rw [add_ne _ _ (by omega), add_ne _ _ (by omega), add_ne _ _ (by omega)]
theorem g4_stock {f : Nat → Int} {b s k : Nat} {H Q A : Int} (hk : k < 3) : g4 f b s k H Q A (b * 8 + 2 + k) = f (b * 8 + 2 + k) + (if b = s then -Q else 0) := by
  unfold g4
  by_cases e : b = s
  · subst e; rw [add_at, g3_stock hk, if_pos rfl]
  · unfold g3 g2 g1; rw [add_ne _ _ (by omega), add_ne _ _ (by omega), add_ne _ _ (by omega), add_ne _ _ (by omega), if_neg e]; simp
theorem g5_cash {f : Nat → Int} {b s k : Nat} {H Q A : Int} (hk : k < 3) : g5 f b s k H Q A (s * 8) = f (s * 8) + (if b = s then -A else 0) := by
  unfold g5 g4
  rw [add_ne _ _ (by omega), add_ne _ _ (by omega)]
  unfold g3
  by_cases e : b = s
  · subst e; rw [add_at, g2_cash hk, if_pos rfl]
  · unfold g2 g1; rw [add_ne _ _ (by omega), add_ne _ _ (by omega), add_ne _ _ (by omega), if_neg e]; simp
/-- what is known of the two numbers that grow last -/
theorem grows {f : Nat → Int} (hg : Good f) {b s k : Nat} {bp price qty : Int} (hb : b < 6) (hs : s < 6) (hk : k < 3) (hm : 1 ≤ price * qty ∧ price * qty ≤ bp * qty) (hq : 1 ≤ qty) (hp : poor f b s k bp qty = false) :
    (0 ≤ g4 f b s k (bp * qty) qty (price * qty) (b * 8 + 2 + k) ∧ g4 f b s k (bp * qty) qty (price * qty) (b * 8 + 2 + k) ≤ 1073741824) ∧ (0 ≤ g5 f b s k (bp * qty) qty (price * qty) (s * 8) ∧ g5 f b s k (bp * qty) qty (price * qty) (s * 8) ≤ 1099511627776) ∧
    over f b s k price qty = (decide (1073741824 - g4 f b s k (bp * qty) qty (price * qty) (b * 8 + 2 + k) < qty) || decide (1099511627776 - g5 f b s k (bp * qty) qty (price * qty) (s * 8) < price * qty)) := by
  rw [g4_stock hk, g5_cash hk]
  simp only [poor, Bool.or_eq_false_iff, decide_eq_false_iff_not] at hp
  have h1 := hg.cash b hb
  have h2 := hg.cash s hs
  have h3 := hg.stock b k hb hk
  have h4 := hg.stock s k hs hk
  unfold over
  by_cases e : b = s
  · subst e
    simp only [if_true]
    refine ⟨by omega, by omega, ?_⟩
    rw [show decide (b ≠ b) = false by simp, Bool.false_and]
    symm
    rw [Bool.or_eq_false_iff, decide_eq_false_iff_not, decide_eq_false_iff_not]
    omega
  · rw [if_neg e, if_neg e]
    refine ⟨by omega, by omega, ?_⟩
    rw [show decide (b ≠ s) = true by simpa using e, Bool.true_and]
    congr 1
    · rw [decide_eq_decide]; omega
    · rw [decide_eq_decide]; omega

/-- a lot of so many -/
def only (x : Cv.Lot) (q : Int) : Cv.Lot := ⟨x.id, x.ow, x.sd, x.pr, q⟩
theorem only_well {item : Int} {x : Cv.Lot} {q : Int} (h : well item x = true) (h1 : 1 ≤ q) (h2 : q ≤ x.q) : well item (only x q) = true := by
  show (Wi.withinB item 0 2 && (Wi.withinB x.id 1 1073741824 && Wi.withinB x.ow 0 5 && Wi.withinB x.sd 0 1 && Wi.withinB x.pr 1 1000 && Wi.withinB q 1 1000)) = true
  simp only [well, Cv.ok, Wi.withinB, Bool.and_eq_true, decide_eq_true_eq] at h ⊢
  exact ⟨h.1, h.2.1, h1, Int.le_trans h2 h.2.2.2⟩
theorem free_buy {f : Nat → Int} {item : Int} {x : Cv.Lot} {q : Int} (h : well item x = true) (h1 : 1 ≤ q) (h2 : q ≤ x.q) (hs : x.sd = 0) :
    freeC f item (only x q) = (if f (x.ow.toNat * 8 + 1) < x.pr * q then 9 else 0) ∧ (¬ f (x.ow.toNat * 8 + 1) < x.pr * q → freeF f item (only x q) = g1 f x.ow.toNat (x.pr * q)) ∧ (f (x.ow.toNat * 8 + 1) < x.pr * q → freeF f item (only x q) = f) := by
  have e1 : hx item (only x q) = x.ow.toNat * 8 + 1 := by unfold hx; rw [if_pos (by exact hs)]; rfl
  have e2 : mu (only x q) = x.pr * q := by unfold mu; rw [if_pos (by exact hs)]; rfl
  have e3 : freeC f item (only x q) = (if f (x.ow.toNat * 8 + 1) < x.pr * q then 9 else 0) := by unfold freeC; rw [if_pos (only_well h h1 h2), e1, e2]
  refine ⟨e3, fun hn => ?_, fun hn => ?_⟩
  · unfold freeF; rw [e3, if_neg hn, if_pos rfl, e1, e2]; rfl
  · unfold freeF; rw [e3, if_pos hn]; rfl
theorem free_sell {f : Nat → Int} {item : Int} {x : Cv.Lot} {q : Int} (h : well item x = true) (h1 : 1 ≤ q) (h2 : q ≤ x.q) (hs : x.sd = 1) :
    freeC f item (only x q) = (if f (x.ow.toNat * 8 + 5 + item.toNat) < q then 9 else 0) ∧ (¬ f (x.ow.toNat * 8 + 5 + item.toNat) < q → freeF f item (only x q) = add f (x.ow.toNat * 8 + 5 + item.toNat) (-q)) ∧ (f (x.ow.toNat * 8 + 5 + item.toNat) < q → freeF f item (only x q) = f) := by
  have hs' : ¬ x.sd = 0 := by omega
  have e1 : hx item (only x q) = x.ow.toNat * 8 + 5 + item.toNat := by unfold hx; rw [if_neg (by exact hs')]; rfl
  have e2 : mu (only x q) = q := by unfold mu; rw [if_neg (by exact hs')]; rfl
  have e3 : freeC f item (only x q) = (if f (x.ow.toNat * 8 + 5 + item.toNat) < q then 9 else 0) := by unfold freeC; rw [if_pos (only_well h h1 h2), e1, e2]
  refine ⟨e3, fun hn => ?_, fun hn => ?_⟩
  · unfold freeF; rw [e3, if_neg hn, if_pos rfl, e1, e2]
  · unfold freeF; rw [e3, if_pos hn]; rfl
end Pu
end Go.Proofs.YtdggddjgipgllaaGreatDoor
/- One price of lots, as a relation on numbers: the most traded, the least left, the nearest, the lesser; no program is spoken of. -/
namespace Go.Proofs.YtdggddjgipgllaaGreatDoor
namespace Cv

def size (n : Int) : Int := max n (-n)
def left (l : List Lot) (p : Int) : Int := size (demand l p - supply l p)
def away (ref p : Int) : Int := size (p - ref)
theorem size_nonneg (n : Int) : 0 ≤ size n := by unfold size; omega
theorem size_if (n : Int) : size n = if n < 0 then -n else n := by unfold size; split <;> omega

/-- is the first worth better than the second? -/
def worthB (v s a v' s' a' : Int) : Bool := if v = v' then (if s = s' then decide (a < a') else decide (s < s')) else decide (v' < v)

/-- among the prices from 1 to n the one that is taken is p, and v is traded at it; none: 0, 0 -/
def Won (l : List Lot) (ref n p v : Int) : Prop :=
  (p = 0 ∧ v = 0 ∧ ∀ q, 1 ≤ q → q ≤ n → volume l q = 0) ∨
  (0 < v ∧ 1 ≤ p ∧ p ≤ n ∧ volume l p = v ∧ ∀ q, 1 ≤ q → q ≤ n → volume l q < v ∨ volume l q = v ∧ (left l p < left l q ∨ left l p = left l q ∧ (away ref p < away ref q ∨ away ref p = away ref q ∧ p ≤ q)))

theorem Won.unique {l : List Lot} {ref n p v p' v' : Int} (h : Won l ref n p v) (h' : Won l ref n p' v') : p = p' ∧ v = v' := by
  rcases h with ⟨h1, h2, h3⟩ | ⟨h1, h2, h3, h4, h5⟩
  · rcases h' with ⟨g1, g2, g3⟩ | ⟨g1, g2, g3, g4, g5⟩
    · omega
    · have := h3 p' g2 g3; omega
  · rcases h' with ⟨g1, g2, g3⟩ | ⟨g1, g2, g3, g4, g5⟩
    · have := g3 p h2 h3; omega
    · have a := h5 p' g2 g3
      have b := g5 p h2 h3
      omega

theorem volume_nonneg (l : List Lot) (h : Oks l) (p : Int) : 0 ≤ volume l p := by
  have hd := (sumIf_bounds (dB p) l h).1
  have hs := (sumIf_bounds (sB p) l h).1
  unfold volume demand supply
  omega
theorem volume_le (l : List Lot) (h : Well l) (p : Int) : volume l p ≤ 120000 := by
  have hd := (sumIf_bounds (dB p) l h.oks).2
  have := h.1
  unfold volume demand
  omega

/-- what is left, and how far it is, of the price that is taken: of none 0 -/
def wl (l : List Lot) (p : Int) : Int := if p = 0 then 0 else left l p
def wa (ref p : Int) : Int := if p = 0 then 0 else away ref p

theorem Won.start (l : List Lot) (ref : Int) : Won l ref 0 0 0 := .inl ⟨rfl, rfl, fun q h1 h2 => by omega⟩
theorem Won.take {l : List Lot} {ref n p v : Int} (hl : Oks l) (hn : 0 ≤ n) (h : Won l ref n p v) (hb : worthB (volume l (n + 1)) (left l (n + 1)) (away ref (n + 1)) v (wl l p) (wa ref p) = true) : Won l ref (n + 1) (n + 1) (volume l (n + 1)) := by
  have v0 := volume_nonneg l hl (n + 1)
  have s0 : 0 ≤ left l (n + 1) := size_nonneg _
  have a0 : 0 ≤ away ref (n + 1) := size_nonneg _
  unfold worthB wl wa at hb
  rcases h with ⟨h1, h2, h3⟩ | ⟨h1, h2, h3, h4, h5⟩
  · rw [if_pos h1, if_pos h1] at hb
    have hv : 0 < volume l (n + 1) := by
      split at hb
      · split at hb <;> simp only [decide_eq_true_eq] at hb <;> omega
      · simp only [decide_eq_true_eq] at hb; omega
    refine .inr ⟨hv, by omega, by omega, rfl, fun q q1 q2 => ?_⟩
    by_cases e : q = n + 1
    · rw [e]; omega
    · have := h3 q q1 (by omega); omega
  · have hp : ¬ p = 0 := by omega
    rw [if_neg hp, if_neg hp] at hb
    have key : v < volume l (n + 1) ∨ volume l (n + 1) = v ∧ (left l (n + 1) < left l p ∨ left l (n + 1) = left l p ∧ away ref (n + 1) < away ref p) := by
      split at hb
      · split at hb <;> simp only [decide_eq_true_eq] at hb <;> omega
      · simp only [decide_eq_true_eq] at hb; omega
    refine .inr ⟨by omega, by omega, by omega, rfl, fun q q1 q2 => ?_⟩
    by_cases e : q = n + 1
    · rw [e]; omega
    · have := h5 q q1 (by omega); omega
theorem Won.keep {l : List Lot} {ref n p v : Int} (hl : Oks l) (h : Won l ref n p v) (hb : worthB (volume l (n + 1)) (left l (n + 1)) (away ref (n + 1)) v (wl l p) (wa ref p) = false) : Won l ref (n + 1) p v := by
  have v0 := volume_nonneg l hl (n + 1)
  unfold worthB wl wa at hb
  rcases h with ⟨h1, h2, h3⟩ | ⟨h1, h2, h3, h4, h5⟩
  · refine .inl ⟨h1, h2, fun q q1 q2 => ?_⟩
    by_cases e : q = n + 1
    · rw [e]
      by_cases hv : volume l (n + 1) = v
      · omega
      · rw [if_neg hv] at hb; simp only [decide_eq_false_iff_not] at hb; omega
    · exact h3 q q1 (by omega)
  · have hp : ¬ p = 0 := by omega
    rw [if_neg hp, if_neg hp] at hb
    refine .inr ⟨h1, h2, by omega, h4, fun q q1 q2 => ?_⟩
    by_cases e : q = n + 1
    · rw [e]
      split at hb
      · split at hb <;> simp only [decide_eq_false_iff_not] at hb <;> omega
      · simp only [decide_eq_false_iff_not] at hb; omega
    · exact h5 q q1 (by omega)

theorem Won.range {l : List Lot} {ref n p v : Int} (h : Won l ref n p v) (hn : 0 ≤ n) : 0 ≤ p ∧ p ≤ n ∧ 0 ≤ v := by
  rcases h with ⟨h1, h2, h3⟩ | ⟨h1, h2, h3, h4, h5⟩ <;> omega

/-- quantities of one side at just one price -/
def atB (side p : Int) (x : Lot) : Bool := x.sd == side && x.pr == p
def at_ (l : List Lot) (side p : Int) : Int := sumIf (atB side p) l
theorem demand_step (p : Int) : ∀ l : List Lot, demand l p = demand l (p + 1) + at_ l 0 p
  | [] => rfl
  | x :: l => by
    have ih := demand_step p l
    unfold demand at_ at ih ⊢
    simp only [sumIf]
    by_cases hs : x.sd = 0
    · by_cases h1 : x.pr = p
      · have h2 : p ≤ x.pr := by omega
        have h3 : ¬ p + 1 ≤ x.pr := by omega
        have e : (x.pr == p) = true := by simpa using h1
        simp only [dB, atB, hs, h2, h3, e, beq_self_eq_true, decide_true, decide_false, Bool.and_self, Bool.and_false, if_true, Bool.false_eq_true, if_false]
        omega
      · by_cases h2 : p ≤ x.pr
        · have h3 : p + 1 ≤ x.pr := by omega
          simp [dB, atB, hs, h1, h2, h3] at *
          omega
        · have h3 : ¬ p + 1 ≤ x.pr := by omega
          simp [dB, atB, hs, h1, h2, h3] at *
          omega
    · simp [dB, atB, hs] at *
      omega
theorem supply_step (p : Int) : ∀ l : List Lot, supply l (p + 1) = supply l p + at_ l 1 (p + 1)
  | [] => rfl
  | x :: l => by
    have ih := supply_step p l
    unfold supply at_ at ih ⊢
    simp only [sumIf]
    by_cases hs : x.sd = 1
    · by_cases h1 : x.pr = p + 1
      · have h3 : ¬ x.pr ≤ p := by omega
        have h2 : x.pr ≤ p + 1 := by omega
        have e : (x.pr == p + 1) = true := by simpa using h1
        simp only [sB, atB, hs, h2, h3, e, beq_self_eq_true, decide_true, decide_false, Bool.and_self, Bool.and_false, if_true, Bool.false_eq_true, if_false]
        omega
      · by_cases h2 : x.pr ≤ p
        · have h3 : x.pr ≤ p + 1 := by omega
          simp [sB, atB, hs, h1, h2, h3] at *
          omega
        · have h3 : ¬ x.pr ≤ p + 1 := by omega
          simp [sB, atB, hs, h1, h2, h3] at *
          omega
    · simp [sB, atB, hs] at *
      omega
theorem demand_top (l : List Lot) (h : Oks l) {p : Int} (hp : 1000 ≤ p) : demand l (p + 1) = 0 :=
  sumIf_zero l fun x hx => by
    have := (ok_bounds (h x hx)).2.2.2.1
    have h2 : ¬ p + 1 ≤ x.pr := by omega
    simp [dB, h2]
theorem supply_low (l : List Lot) (h : Oks l) {p : Int} (hp : p ≤ 0) : supply l p = 0 :=
  sumIf_zero l fun x hx => by
    have := (ok_bounds (h x hx)).2.2.2.1
    have h2 : ¬ x.pr ≤ p := by omega
    simp [sB, h2]

/-- it trades just if there is a buy at a sell's price -/
theorem Won.cross {l : List Lot} {ref p v : Int} (hl : Oks l) (h : Won l ref 1000 p v) : cross l = decide (0 < v) := by
  rw [cross_volume l hl]
  have hr := best_range l hl 0 (.inl rfl)
  rcases h with ⟨h1, h2, h3⟩ | ⟨h1, h2, h3, h4, h5⟩
  · have : volume l (best 0 l) = 0 := by
      by_cases e : 1 ≤ best 0 l
      · exact h3 _ e hr.2
      · unfold volume
        have := supply_low l hl (p := best 0 l) (by omega)
        have hd := (sumIf_bounds (dB (best 0 l)) l hl).1
        unfold demand; omega
    rw [this, h2]
  · have hb : p ≤ best 0 l := by
      have hd : demand l p ≠ 0 := by unfold volume at h4; omega
      rcases best_buy l hl with ⟨b1, b2⟩ | ⟨_, b2⟩
      · exact absurd (sumIf_zero l fun x hx => by simp [dB, b2 x hx]) hd
      · by_cases e : p ≤ best 0 l
        · exact e
        · refine absurd (sumIf_zero l fun x hx => ?_) hd
          by_cases es : x.sd = 0
          · have := b2 x hx es
            have h2 : ¬ p ≤ x.pr := by omega
            simp [dB, h2]
          · simp [dB, es]
    have hsu := supply_rises l hl hb
    have hs : 0 < supply l (best 0 l) := by unfold volume at h4; omega
    have hd : 0 < demand l (best 0 l) := by
      rcases best_buy l hl with ⟨b1, b2⟩ | ⟨⟨x, hx, hxs, hxp⟩, b2⟩
      · omega
      · exact sumIf_pos l hl ⟨x, hx, by simp [dB, hxs, hxp]⟩
    have : 0 < volume l (best 0 l) := by unfold volume; omega
    simp [this, h1]

/-- what is strictly better than a price -/
def stB (side p : Int) (x : Lot) : Bool := x.sd == side && better side x.pr p
def strict (l : List Lot) (side p : Int) : Int := sumIf (stB side p) l
theorem strict_buy (l : List Lot) (h : Oks l) (p : Int) : strict l 0 p ≤ demand l p :=
  sumIf_mono l h (fun x _ hx => by simp only [stB, better, dB, if_true, Bool.and_eq_true, decide_eq_true_eq] at hx ⊢; exact ⟨hx.1, by omega⟩)
theorem strict_sell (l : List Lot) (h : Oks l) (p : Int) : strict l 1 p ≤ supply l p :=
  sumIf_mono l h (fun x _ hx => by
    simp only [stB, better, sB, Bool.and_eq_true] at hx ⊢
    rw [if_neg (by decide)] at hx
    simp only [decide_eq_true_eq] at hx ⊢
    exact ⟨hx.1, by omega⟩)

/-- the other test of what is strictly better, as the document's answer has it -/
def stR (side p : Int) (x : Lot) : Bool := x.sd == side && ((side == 0 && decide (p < x.pr)) || (side == 1 && decide (x.pr < p)))
theorem strict_ref (l : List Lot) (h : Oks l) (side p : Int) : strict l side p = sumIf (stR side p) l :=
  sumIf_congr l fun x hx => by
    have hb := (ok_bounds (h x hx)).2.2.1
    unfold stB stR better
    by_cases hs : x.sd = side
    · by_cases h0 : side = 0
      · simp [hs, h0]
      · have h1 : side = 1 := by omega
        simp [h1]
    · have : (x.sd == side) = false := by simpa using hs
      simp [this]

end Cv
end Go.Proofs.YtdggddjgipgllaaGreatDoor
/- A band by numbers alone: what is well, what is within, what comes next. -/
namespace Go.Proofs.YtdggddjgipgllaaGreatDoor
namespace Bd
def bOk (r l : Int) : Bool := Wi.withinB r 1 1000 && Wi.withinB l 0 1000
def rOk (w h : Int) : Bool := Wi.withinB w 0 100 && Wi.withinB h 1 1000
def vOk (p v : Int) : Bool := !decide (v < 0) && (!decide (0 < v) || Wi.withinB p 1 1000)
def inB (w r p : Int) : Bool := decide (Cv.size (p - r) * 100 ≤ r * w)
/-- the next band's reference, what is left of its halt, and whether it is open -/
def nR (r l w p v : Int) : Int := if 0 < l then (if l = 1 ∧ 0 < v then p else r) else if 0 < v ∧ inB w r p = true then p else r
def nL (r l w h p v : Int) : Int := if 0 < l then l - 1 else if 0 < v ∧ inB w r p = false then h else l
def nO (r l w p v : Int) : Bool := !decide (0 < l) && (!decide (0 < v) || inB w r p)
end Bd
theorem prod_bounds {r w : Int} (h1 : 1 ≤ r) (h2 : r ≤ 1000) (h3 : 0 ≤ w) (h4 : w ≤ 100) : 0 ≤ r * w ∧ r * w ≤ 100000 := by
  refine ⟨Int.mul_nonneg (by omega) h3, ?_⟩
  have a := Int.mul_le_mul_of_nonneg_right h2 h3
  omega
end Go.Proofs.YtdggddjgipgllaaGreatDoor
/- What is left of lots behind takes; no program is spoken of. -/
namespace Go.Proofs.YtdggddjgipgllaaGreatDoor
namespace Fu
open Cv Bk Ra

def remF (c : Int → Int) (x : Lot) : Option Lot := if c x.id < x.q then some (less x (c x.id)) else none
/-- what is left of lots where so much of each is taken -/
def rem (c : Int → Int) (l : List Lot) : List Lot := l.filterMap (remF c)
def takF (id q : Int) (x : Lot) : Option Lot := if x.id = id then (if q < x.q then some (less x q) else none) else some x
def more (c : Int → Int) (id q : Int) (j : Int) : Int := if j = id then c j + q else c j

theorem rem_zero {l : List Lot} (h : Oks l) : rem (fun _ => 0) l = l := by
  unfold rem
  induction l with
  | nil => rfl
  | cons x l ih =>
    have hx := ok_bounds (h x (List.mem_cons_self ..))
    rw [List.filterMap_cons]
    have : remF (fun _ => 0) x = some x := by unfold remF less; rw [if_pos (by show (0 : Int) < x.q; omega)]; simp
    rw [this]
    simp only []
    rw [ih (fun y hy => h y (List.mem_cons_of_mem _ hy))]
theorem tak_none {l : List Lot} {id q : Int} (h : ∀ x ∈ l, x.id ≠ id) : l.filterMap (takF id q) = l := by
  induction l with
  | nil => rfl
  | cons x l ih =>
    rw [List.filterMap_cons]
    have : takF id q x = some x := by unfold takF; rw [if_neg (h x (List.mem_cons_self ..))]
    rw [this]
    simp only []
    rw [ih (fun y hy => h y (List.mem_cons_of_mem _ hy))]
theorem once_split {l : List Lot} (ho : Once l) {k : Nat} (hk : k < l.length) : (∀ x ∈ l.take k, x.id ≠ (nth l k).id) ∧ ∀ x ∈ l.drop (k + 1), x.id ≠ (nth l k).id := by
  have e := split_at hk
  have ho' : (l.map (·.id)).Nodup := ho
  have h1 : ((l.take k ++ nth l k :: l.drop (k + 1)).map (·.id)).Nodup := by rw [← e]; exact ho'
  rw [List.map_append, List.map_cons, List.nodup_append] at h1
  obtain ⟨_, h2, h3⟩ := h1
  rw [List.nodup_cons] at h2
  refine ⟨fun x hx hxe => ?_, fun x hx hxe => ?_⟩
  · exact h3 x.id (List.mem_map_of_mem hx) (nth l k).id (List.mem_cons_self ..) hxe
  · exact h2.1 (by rw [← hxe]; exact List.mem_map_of_mem hx)
/-- a take, lot by lot -/
theorem takL_eq {l : List Lot} (ho : Once l) {id q : Int} (hh : has l id = true) (h1 : 1 ≤ q) (h2 : q ≤ (nth l (pos l id)).q) : takL l id q = l.filterMap (takF id q) := by
  have hk := pos_has.1 hh
  have hid := pos_id hk
  obtain ⟨ha, hb⟩ := once_split ho hk
  rw [hid] at ha hb
  have hC : takC l id q = 0 := by unfold takC; rw [if_pos hh, if_pos (by simp [Wi.withinB, h1, h2])]
  have e : l.filterMap (takF id q) = (l.take (pos l id) ++ nth l (pos l id) :: l.drop (pos l id + 1)).filterMap (takF id q) := congrArg _ (split_at hk)
  rw [e, List.filterMap_append, List.filterMap_cons, tak_none ha, tak_none hb]
  unfold takL
  rw [if_pos hC]
  by_cases hq : q = (nth l (pos l id)).q
  · rw [if_pos hq]
    have : takF id q (nth l (pos l id)) = none := by unfold takF; rw [if_pos hid, if_neg (by omega)]
    rw [this]
    rfl
  · rw [if_neg hq]
    have : takF id q (nth l (pos l id)) = some (less (nth l (pos l id)) q) := by unfold takF; rw [if_pos hid, if_pos (by omega)]
    rw [this]
    rfl
theorem rem_tak (c : Int → Int) (l : List Lot) (id q : Int) (hq : 1 ≤ q) : (rem c l).filterMap (takF id q) = rem (more c id q) l := by
  unfold rem
  rw [List.filterMap_filterMap]
  congr 1
  funext x
  unfold remF takF more
  by_cases h : c x.id < x.q
  · rw [if_pos h]
    simp only [Option.bind_some, less]
    by_cases hi : x.id = id
    · rw [if_pos hi, if_pos hi]
      by_cases h2 : q < x.q - c x.id
      · rw [if_pos h2, if_pos (by omega)]
        simp; omega
      · rw [if_neg h2, if_neg (by omega)]
    · rw [if_neg hi, if_neg hi, if_pos h]
  · rw [if_neg h]
    simp only [Option.bind_none]
    by_cases hi : x.id = id
    · rw [if_pos hi, if_neg (by omega)]
    · rw [if_neg hi, if_neg h]
theorem rem_mem {c : Int → Int} {l : List Lot} {y : Lot} : y ∈ rem c l ↔ ∃ x ∈ l, c x.id < x.q ∧ y = less x (c x.id) := by
  unfold rem
  rw [List.mem_filterMap]
  constructor
  · rintro ⟨x, hx, h⟩
    unfold remF at h
    split at h
    · rename_i hc
      exact ⟨x, hx, hc, (Option.some.inj h).symm⟩
    · cases h
  · rintro ⟨x, hx, hc, rfl⟩
    exact ⟨x, hx, by unfold remF; rw [if_pos hc]⟩
theorem rem_has {c : Int → Int} {l : List Lot} {id : Int} : has (rem c l) id = true ↔ ∃ x ∈ l, x.id = id ∧ c id < x.q := by
  unfold has
  rw [List.any_eq_true]
  constructor
  · rintro ⟨y, hy, he⟩
    obtain ⟨x, hx, hc, rfl⟩ := rem_mem.1 hy
    have : x.id = id := by simpa [less] using he
    exact ⟨x, hx, this, by rw [← this]; exact hc⟩
  · rintro ⟨x, hx, he, hc⟩
    exact ⟨less x (c x.id), rem_mem.2 ⟨x, hx, by rw [he]; exact hc, rfl⟩, by simp [less, he]⟩
theorem rem_once {c : Int → Int} {l : List Lot} (ho : Once l) : Once (rem c l) := by
  unfold Once at *
  refine List.Nodup.sublist ?_ ho
  unfold rem
  induction l with
  | nil => exact List.Sublist.refl _
  | cons x l ih =>
    have ih' := ih (by simp only [List.map_cons, List.nodup_cons] at ho; exact ho.2)
    rw [List.filterMap_cons]
    by_cases h : c x.id < x.q
    · have : remF c x = some (less x (c x.id)) := by unfold remF; rw [if_pos h]
      rw [this]
      exact List.Sublist.cons_cons _ ih'
    · have : remF c x = none := by unfold remF; rw [if_neg h]
      rw [this]
      exact List.Sublist.cons _ ih'
/-- the lot that is found -/
theorem rem_nth {c : Int → Int} {l : List Lot} (ho : Once l) {x : Lot} (hx : x ∈ l) (hc : c x.id < x.q) : nth (rem c l) (pos (rem c l) x.id) = less x (c x.id) := by
  have hh : has (rem c l) x.id = true := rem_has.2 ⟨x, hx, rfl, hc⟩
  have hk := pos_has.1 hh
  have hm : nth (rem c l) (pos (rem c l) x.id) ∈ rem c l := by rw [nth_get hk]; exact List.getElem_mem hk
  obtain ⟨y, hy, _, he⟩ := rem_mem.1 hm
  have hid := pos_id hk
  rw [he] at hid ⊢
  have : y.id = x.id := by simpa [less] using hid
  have hxy : y = x := by
    have ho' : (l.map (·.id)).Nodup := ho
    obtain ⟨i, hi, rfl⟩ := List.mem_iff_getElem.1 hy
    obtain ⟨j, hj, rfl⟩ := List.mem_iff_getElem.1 hx
    have hp := List.pairwise_iff_getElem.1 ho'
    rcases Nat.lt_trichotomy i j with h | h | h
    · exact absurd (by rw [List.getElem_map, List.getElem_map]; exact this) (hp i j (by simpa using hi) (by simpa using hj) h)
    · subst h; rfl
    · exact absurd (by rw [List.getElem_map, List.getElem_map]; exact this.symm) (hp j i (by simpa using hj) (by simpa using hi) h)
  rw [hxy]
/-- a take of what is left -/
theorem takL_rem {c : Int → Int} {l : List Lot} (ho : Once l) {x : Lot} (hx : x ∈ l) {q : Int} (h1 : 1 ≤ q) (h2 : c x.id + q ≤ x.q) : takL (rem c l) x.id q = rem (more c x.id q) l := by
  have hc : c x.id < x.q := by omega
  rw [takL_eq (rem_once ho) (rem_has.2 ⟨x, hx, rfl, hc⟩) h1 (by rw [rem_nth ho hx hc]; simp only [less]; omega), rem_tak c l _ q h1]
end Fu
end Go.Proofs.YtdggddjgipgllaaGreatDoor
/- A trade of several units is as many trades of one; no walk. -/
namespace Go.Proofs.YtdggddjgipgllaaGreatDoor
namespace Pu
theorem dl_add (i : Nat) (a b : Int) (j : Nat) : dl i (a + b) j = dl i a j + dl i b j := by
  unfold dl; split <;> omega
theorem six_add (f : Nat → Int) (b s k : Nat) (bp price q r : Int) : six (six f b s k bp price q) b s k bp price r = six f b s k bp price (q + r) := by
  funext j
  rw [six_dl, six_dl, six_dl]
  rw [show -(bp * (q + r)) = -(bp * q) + -(bp * r) by rw [Int.mul_add]; omega, show -(q + r) = -q + -r by omega, show -(price * (q + r)) = -(price * q) + -(price * r) by rw [Int.mul_add]; omega, show price * (q + r) = price * q + price * r from Int.mul_add ..]
  simp only [dl_add]
  omega
theorem six_zero (f : Nat → Int) (b s k : Nat) (bp price : Int) : six f b s k bp price 0 = f := by
  funext j
  rw [six_dl]
  simp [dl]
/-- two trades of different lots change places -/
theorem six_comm (f : Nat → Int) (b s k b' s' k' : Nat) (bp price q bp' price' q' : Int) : six (six f b s k bp price q) b' s' k' bp' price' q' = six (six f b' s' k' bp' price' q') b s k bp price q := by
  funext j
  simp only [six_dl]
  omega
end Pu
end Go.Proofs.YtdggddjgipgllaaGreatDoor
/- What all clients have together; no program is spoken of. -/
namespace Go.Proofs.YtdggddjgipgllaaGreatDoor
namespace Pu

def cashes (f : Nat → Int) : Nat → Int
  | 0 => 0
  | m + 1 => cashes f m + f (m * 8)
def stocks (f : Nat → Int) (j : Nat) : Nat → Int
  | 0 => 0
  | m + 1 => stocks f j m + f (m * 8 + 2 + j)
theorem cashes_other {f : Nat → Int} {i : Nat} {v : Int} (h : ∀ c, i ≠ c * 8) (m : Nat) : cashes (add f i v) m = cashes f m := by
  induction m with
  | zero => rfl
  | succ m ih => simp only [cashes, ih]; rw [add_ne _ _ (fun e => h m e.symm)]
theorem cashes_at {f : Nat → Int} {c : Nat} {v : Int} (m : Nat) : cashes (add f (c * 8) v) m = cashes f m + if c < m then v else 0 := by
  induction m with
  | zero => simp [cashes]
  | succ m ih =>
    simp only [cashes, ih]
    by_cases e : c = m
    · subst e; rw [add_at, if_neg (by omega), if_pos (by omega)]; omega
    · rw [add_ne _ _ (by omega)]
      by_cases h : c < m
      · rw [if_pos h, if_pos (by omega)]; omega
      · rw [if_neg h, if_neg (by omega)]; omega
theorem stocks_other {f : Nat → Int} {i j : Nat} {v : Int} (h : ∀ c, i ≠ c * 8 + 2 + j) (m : Nat) : stocks (add f i v) j m = stocks f j m := by
  induction m with
  | zero => rfl
  | succ m ih => simp only [stocks, ih]; rw [add_ne _ _ (fun e => h m e.symm)]
theorem stocks_at {f : Nat → Int} {c k j : Nat} {v : Int} (hk : k < 3) (hj : j < 3) (m : Nat) : stocks (add f (c * 8 + 2 + k) v) j m = stocks f j m + if c < m ∧ k = j then v else 0 := by
  induction m with
  | zero => simp [stocks]
  | succ m ih =>
    simp only [stocks, ih]
    by_cases e : c = m ∧ k = j
    · obtain ⟨rfl, rfl⟩ := e; rw [add_at, if_neg (by omega), if_pos (by omega)]; omega
    · rw [add_ne _ _ (by omega)]
      by_cases h : c < m ∧ k = j
      · rw [if_pos h, if_pos (by omega)]; omega
      · rw [if_neg h, if_neg (by omega)]; omega
theorem cashes_bound {f : Nat → Int} (hg : Good f) : ∀ m, m ≤ 6 → 0 ≤ cashes f m ∧ cashes f m ≤ m * 1099511627776
  | 0, _ => by simp [cashes]
  | m + 1, h => by
    have := cashes_bound hg m (by omega)
    have := hg.cash m (by omega)
    simp only [cashes]
    omega
theorem stocks_bound {f : Nat → Int} (hg : Good f) {j : Nat} (hj : j < 3) : ∀ m, m ≤ 6 → 0 ≤ stocks f j m ∧ stocks f j m ≤ m * 1073741824
  | 0, _ => by simp [stocks]
  | m + 1, h => by
    have := stocks_bound hg hj m (by omega)
    have := hg.stock m j (by omega) hj
    simp only [stocks]
    omega
theorem cashes_congr {f g : Nat → Int} (m : Nat) (h : ∀ c, c < m → f (c * 8) = g (c * 8)) : cashes f m = cashes g m := by
  induction m with
  | zero => rfl
  | succ m ih => simp only [cashes]; rw [ih (fun c hc => h c (by omega)), h m (by omega)]

theorem hx_not {item : Int} {x : Cv.Lot} (h : well item x = true) : (∀ c, hx item x ≠ c * 8) ∧ ∀ c j, j < 3 → hx item x ≠ c * 8 + 2 + j := by
  rcases places h with ⟨c, c1, e1, e2⟩ | ⟨c, k, c1, k1, e1, e2⟩
  · rw [e1]; exact ⟨fun d => by omega, fun d j hj => by omega⟩
  · rw [e1]; exact ⟨fun d => by omega, fun d j hj => by omega⟩
theorem hold_sums (f : Nat → Int) (item : Int) (x : Cv.Lot) (m : Nat) : cashes (holdF f item x) m = cashes f m ∧ ∀ j, j < 3 → stocks (holdF f item x) j m = stocks f j m := by
  unfold holdF
  split
  · rename_i h
    have hw := hx_not (hold_zero h).1
    exact ⟨cashes_other hw.1 m, fun j hj => stocks_other (fun c => hw.2 c j hj) m⟩
  · exact ⟨rfl, fun _ _ => rfl⟩
theorem free_sums (f : Nat → Int) (item : Int) (x : Cv.Lot) (m : Nat) : cashes (freeF f item x) m = cashes f m ∧ ∀ j, j < 3 → stocks (freeF f item x) j m = stocks f j m := by
  unfold freeF
  split
  · rename_i h
    have hw := hx_not (free_zero h).1
    exact ⟨cashes_other hw.1 m, fun j hj => stocks_other (fun c => hw.2 c j hj) m⟩
  · exact ⟨rfl, fun _ _ => rfl⟩
def Gift.part (g : Gift) : Nat → Int
  | 0 => g.s0
  | 1 => g.s1
  | _ => g.s2
theorem give_sums {f : Nat → Int} {g : Gift} (h : giveC f g = 0) : cashes (giveF f g) 6 = cashes f 6 + g.cash ∧ ∀ j, j < 3 → stocks (giveF f g) j 6 = stocks f j 6 + g.part j := by
  obtain ⟨⟨c, hc, c6, _⟩, _⟩ := give_zero h
  unfold giveF
  rw [if_pos h, hc, Int.toNat_natCast]
  refine ⟨?_, fun j hj => ?_⟩
  · rw [cashes_other (fun d => by omega), cashes_other (fun d => by omega), cashes_other (fun d => by omega), cashes_at, if_pos c6]
  · have e0 : c * 8 + 2 = c * 8 + 2 + 0 := rfl
    have e1 : c * 8 + 3 = c * 8 + 2 + 1 := rfl
    have e2 : c * 8 + 4 = c * 8 + 2 + 2 := rfl
    rw [e2, stocks_at (by decide) hj, e1, stocks_at (by decide) hj, e0, stocks_at (by decide) hj, stocks_other (fun d => by omega)]
    have : j = 0 ∨ j = 1 ∨ j = 2 := by omega
    rcases this with rfl | rfl | rfl
    · simp [c6, Gift.part]
    · simp [c6, Gift.part]
    · simp [c6, Gift.part]
theorem trade_sums (f : Nat → Int) (item : Int) (b s : Cv.Lot) (price qty : Int) : cashes (tradeF f item b s price qty) 6 = cashes f 6 ∧ ∀ j, j < 3 → stocks (tradeF f item b s price qty) j 6 = stocks f j 6 := by
  unfold tradeF
  split
  · rename_i h
    obtain ⟨hr, _, _⟩ := trade_zero h
    obtain ⟨k, hk, hk3⟩ := well_item hr.wb
    obtain ⟨c, hc, hc6⟩ := well_ow hr.wb
    obtain ⟨c', hc', hc6'⟩ := well_ow hr.ws
    rw [hk, hc, hc', Int.toNat_natCast, Int.toNat_natCast, Int.toNat_natCast]
    unfold six
    refine ⟨?_, fun j hj => ?_⟩
    · rw [cashes_at, if_pos hc6', cashes_other (fun d => by omega), cashes_other (fun d => by omega), cashes_at, if_pos hc6, cashes_other (fun d => by omega), cashes_other (fun d => by omega)]
      omega
    · rw [stocks_other (fun d => by omega), stocks_at hk3 hj, stocks_at hk3 hj, stocks_other (fun d => by omega), stocks_other (fun d => by omega), stocks_other (fun d => by omega)]
      by_cases e : k = j
      · rw [if_pos ⟨hc6', e⟩, if_pos ⟨hc6, e⟩]; omega
      · rw [if_neg (fun h => e h.2), if_neg (fun h => e h.2)]; omega
  · exact ⟨rfl, fun _ _ => rfl⟩
end Pu
end Go.Proofs.YtdggddjgipgllaaGreatDoor
/- A request as numbers, and a function that is another one at one place; no program is spoken of. -/
namespace Go.Proofs.YtdggddjgipgllaaGreatDoor

structure Ask where
  k : Int
  c : Int
  sq : Int
  it : Int
  sd : Int
  pr : Int
  q : Int
  id : Int
/-- a function at one place another one -/
def upd {α : Type} (f : Nat → α) (i : Nat) (x : α) (j : Nat) : α := if j = i then x else f j
theorem upd_same {α : Type} (f : Nat → α) (i : Nat) (x : α) : upd f i x i = x := by simp [upd]
theorem upd_ne {α : Type} (f : Nat → α) {i j : Nat} (x : α) (h : j ≠ i) : upd f i x j = f j := by simp [upd, h]
end Go.Proofs.YtdggddjgipgllaaGreatDoor
/- What is held is what rests asks for: plain facts; no walk. -/
namespace Go.Proofs.YtdggddjgipgllaaGreatDoor
namespace Fu
open Cv Bk Pu

def sumBy (g : Lot → Int) : List Lot → Int
  | [] => 0
  | x :: l => g x + sumBy g l
theorem sumBy_append (g : Lot → Int) : ∀ a b : List Lot, sumBy g (a ++ b) = sumBy g a + sumBy g b
  | [], b => by simp [sumBy]
  | x :: a, b => by rw [List.cons_append, sumBy, sumBy, sumBy_append g a b]; omega
theorem sumBy_del (g : Lot → Int) {l : List Lot} {k : Nat} (hk : k < l.length) : sumBy g (del l k) = sumBy g l - g (nth l k) := by
  have e : sumBy g l = sumBy g (l.take k ++ nth l k :: l.drop (k + 1)) := congrArg _ (split_at hk)
  rw [e]
  unfold del
  rw [sumBy_append, sumBy_append, sumBy]
  omega
theorem sumBy_put (g : Lot → Int) {l : List Lot} {k : Nat} (hk : k < l.length) (x : Lot) : sumBy g (put l k x) = sumBy g l - g (nth l k) + g x := by
  have e : sumBy g l = sumBy g (l.take k ++ nth l k :: l.drop (k + 1)) := congrArg _ (split_at hk)
  rw [e]
  unfold put
  rw [sumBy_append, sumBy_append, sumBy, sumBy]
  omega
theorem sumBy_ge {g : Lot → Int} : ∀ {l : List Lot}, (∀ x ∈ l, 0 ≤ g x) → 0 ≤ sumBy g l ∧ ∀ x ∈ l, g x ≤ sumBy g l
  | [], _ => ⟨by simp [sumBy], fun x hx => by cases hx⟩
  | y :: l, h => by
    obtain ⟨h1, h2⟩ := sumBy_ge (l := l) (fun x hx => h x (List.mem_cons_of_mem _ hx))
    have hy := h y (List.mem_cons_self ..)
    rw [sumBy]
    refine ⟨by omega, fun x hx => ?_⟩
    rcases List.mem_cons.1 hx with rfl | hx
    · omega
    · have := h2 x hx; omega

/-- what a lot of an item asks for, at one place of a purse -/
def ask1 (i j : Nat) (x : Lot) : Int := dl (hx i x) (mu x) j
def asked (L : Nat → List Lot) (j : Nat) : Int := sumBy (ask1 0 j) (L 0) + sumBy (ask1 1 j) (L 1) + sumBy (ask1 2 j) (L 2)
theorem asked_upd (L : Nat → List Lot) {i : Nat} (hi : i < 3) (l : List Lot) (j : Nat) : asked (upd L i l) j = asked L j - sumBy (ask1 i j) (L i) + sumBy (ask1 i j) l := by
  have : i = 0 ∨ i = 1 ∨ i = 2 := by omega
  unfold asked
  rcases this with rfl | rfl | rfl
  · rw [upd_same, upd_ne L l (show 1 ≠ 0 by decide), upd_ne L l (show 2 ≠ 0 by decide)]; omega
  · rw [upd_same, upd_ne L l (show 0 ≠ 1 by decide), upd_ne L l (show 2 ≠ 1 by decide)]; omega
  · rw [upd_same, upd_ne L l (show 0 ≠ 2 by decide), upd_ne L l (show 1 ≠ 2 by decide)]; omega
def IsHeld (j : Nat) : Prop := ∃ c, c < 6 ∧ (j = c * 8 + 1 ∨ ∃ k, k < 3 ∧ j = c * 8 + 5 + k)
/-- what is held is what rests asks for -/
def Held (L : Nat → List Lot) (f : Nat → Int) : Prop := ∀ j, IsHeld j → f j = asked L j
theorem held_start (f : Nat → Int) (h : ∀ j, IsHeld j → f j = 0) : Held (fun _ => []) f := fun j hj => by rw [h j hj]; rfl
theorem held_place {L : Nat → List Lot} {f : Nat → Int} (h : Held L f) {i : Nat} (hi : i < 3) (x : Lot) : Held (upd L i (L i ++ [x])) (Pu.add f (hx i x) (mu x)) := fun j hj => by
  rw [add_dl, h j hj, asked_upd L hi, sumBy_append, sumBy, sumBy]
  unfold ask1
  omega
theorem held_cancel {L : Nat → List Lot} {f : Nat → Int} (h : Held L f) {i : Nat} (hi : i < 3) {k : Nat} (hk : k < (L i).length) : Held (upd L i (del (L i) k)) (Pu.add f (hx i (nth (L i) k)) (-(mu (nth (L i) k)))) := fun j hj => by
  rw [add_dl, h j hj, asked_upd L hi, sumBy_del _ hk]
  unfold ask1
  have : dl (hx i (nth (L i) k)) (-(mu (nth (L i) k))) j = -(dl (hx i (nth (L i) k)) (mu (nth (L i) k)) j) := by unfold dl; split <;> omega
  rw [this]
  omega
theorem isHeld_hx {i : Nat} {x : Lot} (h : well i x = true) : IsHeld (hx i x) := by
  rcases places h with ⟨c, h1, h2, _⟩ | ⟨c, k, h1, h4, h2, _⟩
  · exact ⟨c, h1, .inl h2⟩
  · exact ⟨c, h1, .inr ⟨k, h4, h2⟩⟩
theorem well_of {i : Nat} (hi : i < 3) {x : Lot} (h : ok x = true) : well i x = true := by
  unfold well
  rw [h]
  simp [Wi.withinB]
  omega
theorem held_ge {L : Nat → List Lot} {f : Nat → Int} (h : Held L f) (hok : ∀ j, j < 3 → Oks (L j)) {i : Nat} (hi : i < 3) {x : Lot} (hx' : x ∈ L i) : mu x ≤ f (hx i x) := by
  have hw := well_of hi (hok i hi x hx')
  rw [h _ (isHeld_hx hw)]
  have nn : ∀ k, k < 3 → ∀ y ∈ L k, 0 ≤ ask1 k (hx i x) y := fun k hk y hy => by
    have := mu_bounds (hok k hk y hy)
    unfold ask1 dl
    split <;> omega
  have h0 := (sumBy_ge (nn 0 (by decide))).1
  have h1 := (sumBy_ge (nn 1 (by decide))).1
  have h2 := (sumBy_ge (nn 2 (by decide))).1
  have hm : ask1 i (hx i x) x = mu x := by unfold ask1; exact dl_at
  have hx2 := (sumBy_ge (nn i hi)).2 x hx'
  rw [hm] at hx2
  have : i = 0 ∨ i = 1 ∨ i = 2 := by omega
  unfold asked
  rcases this with rfl | rfl | rfl <;> omega
def per (x : Lot) : Int := if x.sd = 0 then x.pr else 1
theorem mu_per (x : Lot) : mu x = per x * x.q := by unfold mu per; split <;> omega
theorem ask_less (i j : Nat) (x : Lot) (q : Int) : ask1 i j (less x q) = ask1 i j x - dl (hx i x) (per x * q) j := by
  unfold ask1
  have e1 : hx i (less x q) = hx i x := rfl
  have e2 : mu (less x q) = mu x - per x * q := by rw [mu_per, mu_per]; show per x * (x.q - q) = _; rw [Int.mul_sub]
  rw [e1, e2]
  unfold dl
  split <;> omega
theorem ask_take {l : List Lot} {id q : Int} (i j : Nat) (hh : has l id = true) (h1 : 1 ≤ q) (h2 : q ≤ (nth l (pos l id)).q) : sumBy (ask1 i j) (takL l id q) = sumBy (ask1 i j) l - dl (hx i (nth l (pos l id))) (per (nth l (pos l id)) * q) j := by
  have hk := pos_has.1 hh
  have hC : takC l id q = 0 := by unfold takC; rw [if_pos hh, if_pos (by simp [Wi.withinB, h1, h2])]
  unfold takL
  rw [if_pos hC]
  by_cases hq : q = (nth l (pos l id)).q
  · rw [if_pos hq, sumBy_del _ hk]
    unfold ask1
    rw [mu_per, ← hq]
  · rw [if_neg hq, sumBy_put _ hk, ask_less]
    omega
/-- a trade of so much of two lots -/
theorem held_trade {L : Nat → List Lot} {f : Nat → Int} (h : Held L f) {i : Nat} (hi : i < 3) {bid sid q price : Int} {x y : Lot}
    (hb : has (L i) bid = true) (hx' : nth (L i) (pos (L i) bid) = x) (hs : has (takL (L i) bid q) sid = true) (hy' : nth (takL (L i) bid q) (pos (takL (L i) bid q) sid) = y)
    (h1 : 1 ≤ q) (h2 : q ≤ x.q) (h3 : q ≤ y.q) (hbs : x.sd = 0) (hss : y.sd ≠ 0) :
    Held (upd L i (takL (takL (L i) bid q) sid q)) (six f x.ow.toNat y.ow.toNat i x.pr price q) := fun j hj => by
  rw [asked_upd L hi, ask_take i j hs h1 (by rw [hy']; exact h3), hy', ask_take i j hb h1 (by rw [hx']; exact h2), hx', six_dl, h j hj]
  have e1 : hx i x = x.ow.toNat * 8 + 1 := by unfold hx; rw [if_pos hbs]
  have e2 : hx i y = y.ow.toNat * 8 + 5 + i := by unfold hx; rw [if_neg hss]; rfl
  have p1 : per x = x.pr := by unfold per; rw [if_pos hbs]
  have p2 : per y = 1 := by unfold per; rw [if_neg hss]
  rw [e1, e2, p1, p2]
  obtain ⟨c, hc, hcj⟩ := hj
  have z1 : dl (x.ow.toNat * 8) (-(price * q)) j = 0 := dl_ne (by rcases hcj with e | ⟨k, hk, e⟩ <;> omega)
  have z2 : dl (y.ow.toNat * 8 + 2 + i) (-q) j = 0 := dl_ne (by rcases hcj with e | ⟨k, hk, e⟩ <;> omega)
  have z3 : dl (x.ow.toNat * 8 + 2 + i) q j = 0 := dl_ne (by rcases hcj with e | ⟨k, hk, e⟩ <;> omega)
  have z4 : dl (y.ow.toNat * 8) (price * q) j = 0 := dl_ne (by rcases hcj with e | ⟨k, hk, e⟩ <;> omega)
  rw [z1, z2, z3, z4]
  have n1 : dl (x.ow.toNat * 8 + 1) (-(x.pr * q)) j = -(dl (x.ow.toNat * 8 + 1) (x.pr * q) j) := by unfold dl; split <;> omega
  have n2 : dl (y.ow.toNat * 8 + 5 + i) (-q) j = -(dl (y.ow.toNat * 8 + 5 + i) (1 * q) j) := by rw [Int.one_mul]; unfold dl; split <;> omega
  rw [n1, n2]
  omega
theorem not_poor {L : Nat → List Lot} {f : Nat → Int} (h : Held L f) (hok : ∀ j, j < 3 → Oks (L j)) {i : Nat} (hi : i < 3) {x y : Lot} (hx' : x ∈ L i) (hy' : y ∈ L i) (hbs : x.sd = 0) (hss : y.sd ≠ 0) {q : Int} (h2 : q ≤ x.q) (h3 : q ≤ y.q) :
    poor f x.ow.toNat y.ow.toNat i x.pr q = false := by
  have g1 := held_ge h hok hi hx'
  have g2 := held_ge h hok hi hy'
  have e1 : hx i x = x.ow.toNat * 8 + 1 := by unfold hx; rw [if_pos hbs]
  have e2 : hx i y = y.ow.toNat * 8 + 5 + i := by unfold hx; rw [if_neg hss]; rfl
  have m1 : mu x = x.pr * x.q := by unfold mu; rw [if_pos hbs]
  have m2 : mu y = y.q := by unfold mu; rw [if_neg hss]
  rw [e1, m1] at g1
  rw [e2, m2] at g2
  have hb := ok_bounds (hok i hi x hx')
  have h4 := Int.mul_le_mul_of_nonneg_left h2 (show 0 ≤ x.pr by omega)
  simp only [poor, Bool.or_eq_false_iff, decide_eq_false_iff_not]
  exact ⟨by omega, by omega⟩
end Fu
end Go.Proofs.YtdggddjgipgllaaGreatDoor
