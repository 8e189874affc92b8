/- Plain facts on records of a tape: a record, bytes that begin with one, records one behind the other; no program is spoken of. -/
import Derived.Test.YtnnbbdfocnjhpaaDoorPlain
namespace Go.Proofs.YtnnbbdfocnjhpaaDoor
namespace Tp

/-- the i-th byte of a list, 0 behind its end -/
def at1 (l : List UInt8) (i : Nat) : Nat := (l.getD i 0).toNat
def hi4 (l : List UInt8) (i : Nat) : Nat := 16777216 * at1 l i + 65536 * at1 l (i + 1) + 256 * at1 l (i + 2) + at1 l (i + 3)
def lo4 (l : List UInt8) (i : Nat) : Nat := at1 l i + 256 * at1 l (i + 1) + 65536 * at1 l (i + 2) + 16777216 * at1 l (i + 3)
/-- four bytes of a number, the highest first, the lowest first -/
def four (n : Nat) : List UInt8 := [UInt8.ofNat (n / 16777216), UInt8.ofNat (n / 65536), UInt8.ofNat (n / 256), UInt8.ofNat n]
def low (n : Nat) : List UInt8 := [UInt8.ofNat n, UInt8.ofNat (n / 256), UInt8.ofNat (n / 65536), UInt8.ofNat (n / 16777216)]
/-- a record of a text -/
def rec (s : List UInt8) : List UInt8 := four s.length ++ four (4294967295 - s.length) ++ s ++ low (Wi.sum s)
def recs (l : List (List UInt8)) : List UInt8 := (l.map rec).flatten
/-- the text of the record that bytes begin with -/
def first (l : List UInt8) : Option (List UInt8) :=
  if l.length < 8 then none
  else if hi4 l 4 ≠ 4294967295 - hi4 l 0 then none
  else if 10000 < hi4 l 0 then none
  else if l.length - 8 < hi4 l 0 + 4 then none
  else if lo4 l (8 + hi4 l 0) ≠ Wi.sum ((l.drop 8).take (hi4 l 0)) then none
  else some ((l.drop 8).take (hi4 l 0))

theorem at1_lt (l : List UInt8) (i : Nat) : at1 l i < 256 := UInt8.toNat_lt _
theorem at1_drop (l : List UInt8) (i j : Nat) : at1 (l.drop i) j = at1 l (i + j) := by simp [at1, List.getD_eq_getElem?_getD]
theorem lo4_drop (l : List UInt8) (i j : Nat) : lo4 (l.drop i) j = lo4 l (i + j) := by simp only [lo4, at1_drop, Nat.add_assoc]
theorem hi4_drop (l : List UInt8) (i j : Nat) : hi4 (l.drop i) j = hi4 l (i + j) := by simp only [hi4, at1_drop, Nat.add_assoc]
theorem at1_append (l r : List UInt8) (i : Nat) (h : i < l.length) : at1 (l ++ r) i = at1 l i := by
  simp [at1, List.getD_eq_getElem?_getD, List.getElem?_append_left h]

theorem rec_length (s : List UInt8) : (rec s).length = 12 + s.length := by simp [rec, four, low]; omega
theorem recs_nil : recs [] = [] := rfl
theorem recs_cons (s : List UInt8) (l : List (List UInt8)) : recs (s :: l) = rec s ++ recs l := rfl
theorem recs_append (a b : List (List UInt8)) : recs (a ++ b) = recs a ++ recs b := by simp [recs]
theorem recs_snoc (a : List (List UInt8)) (s : List UInt8) : recs (a ++ [s]) = recs a ++ rec s := by simp [recs]

theorem u8_of {a : UInt8} {n : Nat} (h : n % 256 = a.toNat) : UInt8.ofNat n = a := by
  apply UInt8.toNat_inj.1
  rw [UInt8.toNat_ofNat']
  exact h
theorem four_hi4 (a b c d : UInt8) (l : List UInt8) : four (hi4 (a :: b :: c :: d :: l) 0) = [a, b, c, d] := by
  have ha := a.toNat_lt; have hb := b.toNat_lt; have hc := c.toNat_lt; have hd := d.toNat_lt
  simp only [four, hi4, at1, List.getD_eq_getElem?_getD, List.getElem?_cons_zero, List.getElem?_cons_succ, Option.getD_some, Nat.zero_add]
  congr 1
  · exact u8_of (by omega)
  · congr 1
    · exact u8_of (by omega)
    · congr 1
      · exact u8_of (by omega)
      · congr 1
        exact u8_of (by omega)
theorem low_lo4 (a b c d : UInt8) (l : List UInt8) : low (lo4 (a :: b :: c :: d :: l) 0) = [a, b, c, d] := by
  have ha := a.toNat_lt; have hb := b.toNat_lt; have hc := c.toNat_lt; have hd := d.toNat_lt
  simp only [low, lo4, at1, List.getD_eq_getElem?_getD, List.getElem?_cons_zero, List.getElem?_cons_succ, Option.getD_some, Nat.zero_add]
  congr 1
  · exact u8_of (by omega)
  · congr 1
    · exact u8_of (by omega)
    · congr 1
      · exact u8_of (by omega)
      · congr 1
        exact u8_of (by omega)
theorem hi4_four (n : Nat) (h : n < 4294967296) (r : List UInt8) : hi4 (four n ++ r) 0 = n := by
  simp only [four, hi4, at1, List.getD_eq_getElem?_getD, List.cons_append, List.getElem?_cons_zero, List.getElem?_cons_succ, Option.getD_some, Nat.zero_add, UInt8.toNat_ofNat']
  omega
theorem lo4_low (n : Nat) (h : n < 4294967296) (r : List UInt8) : lo4 (low n ++ r) 0 = n := by
  simp only [low, lo4, at1, List.getD_eq_getElem?_getD, List.cons_append, List.getElem?_cons_zero, List.getElem?_cons_succ, Option.getD_some, Nat.zero_add, UInt8.toNat_ofNat']
  omega
theorem cut4 {l : List UInt8} (h : 4 ≤ l.length) : ∃ a b c d r, l = a :: b :: c :: d :: r := by
  match l, h with
  | a :: b :: c :: d :: r, _ => exact ⟨a, b, c, d, r, rfl⟩

/-- what is read as a first record is one -/
theorem first_some {l s : List UInt8} (h : first l = some s) : s.length ≤ 10000 ∧ 12 + s.length ≤ l.length ∧ l = rec s ++ l.drop (12 + s.length) := by
  unfold first at h
  split at h; · cases h
  rename_i h8
  split at h; · cases h
  rename_i h4
  split at h; · cases h
  rename_i hm
  split at h; · cases h
  rename_i hl
  split at h; · cases h
  rename_i hs
  have hs := Decidable.not_not.1 hs
  have h4 := Decidable.not_not.1 h4
  have hlen : ((l.drop 8).take (hi4 l 0)).length = hi4 l 0 := by simp; omega
  obtain rfl := (Option.some.inj h)
  rw [hlen]
  refine ⟨by omega, by omega, ?_⟩
  obtain ⟨a, b, c, d, r, rfl⟩ := cut4 (l := l) (by omega)
  obtain ⟨e, f, g, i, r, rfl⟩ := cut4 (l := r) (by simp at h8; omega)
  have e1 := four_hi4 a b c d (e :: f :: g :: i :: r)
  have e2 : four (hi4 (a :: b :: c :: d :: e :: f :: g :: i :: r) 4) = [e, f, g, i] := four_hi4 e f g i r
  rw [h4] at e2
  generalize hi4 (a :: b :: c :: d :: e :: f :: g :: i :: r) 0 = n at *
  have hdr : (a :: b :: c :: d :: e :: f :: g :: i :: r).drop 8 = r := rfl
  rw [hdr] at hs hlen ⊢
  have hlo : lo4 (a :: b :: c :: d :: e :: f :: g :: i :: r) (8 + n) = lo4 (r.drop n) 0 := by
    rw [← lo4_drop _ 8 n, hdr, lo4_drop, Nat.add_zero]
  have hrl : n + 4 ≤ r.length := by simp at hl; omega
  obtain ⟨j, k, m, o, t, ht⟩ := cut4 (l := r.drop n) (by simp; omega)
  have e3 := low_lo4 j k m o t
  rw [← ht, ← hlo, hs] at e3
  have e4 : (a :: b :: c :: d :: e :: f :: g :: i :: r).drop (12 + n) = t := by
    rw [show 12 + n = 8 + (n + 4) by omega, ← List.drop_drop, hdr, ← List.drop_drop, ht]; rfl
  rw [e4, rec, hlen, e1, e2, e3]
  have e5 : r = r.take n ++ r.drop n := (List.take_append_drop n r).symm
  rw [ht] at e5
  simp only [List.append_assoc, List.cons_append, List.nil_append]
  rw [← e5]

theorem rec_head (s r : List UInt8) : rec s ++ r = four s.length ++ (four (4294967295 - s.length) ++ (s ++ (low (Wi.sum s) ++ r))) := by simp [rec, List.append_assoc]

theorem first_rec (s r : List UInt8) (h : s.length ≤ 10000) : first (rec s ++ r) = some s := by
  have e0 : hi4 (rec s ++ r) 0 = s.length := by rw [rec_head]; exact hi4_four _ (by omega) _
  have hd4 : (rec s ++ r).drop 4 = four (4294967295 - s.length) ++ (s ++ (low (Wi.sum s) ++ r)) := by rw [rec_head]; rfl
  have hd8 : (rec s ++ r).drop 8 = s ++ (low (Wi.sum s) ++ r) := by rw [rec_head]; rfl
  have e4 : hi4 (rec s ++ r) 4 = 4294967295 - s.length := by
    have := hi4_drop (rec s ++ r) 4 0
    rw [hd4, hi4_four _ (by omega)] at this
    exact this.symm
  have e8 : lo4 (rec s ++ r) (8 + s.length) = Wi.sum s := by
    have h1 := lo4_drop (rec s ++ r) 8 s.length
    have h2 := lo4_drop (s ++ (low (Wi.sum s) ++ r)) s.length 0
    rw [List.drop_left, lo4_low _ (Wi.sum_lt s), Nat.add_zero] at h2
    rw [← h1, hd8]
    exact h2.symm
  have hlen : (rec s ++ r).length = 12 + s.length + r.length := by rw [List.length_append, rec_length]
  unfold first
  rw [e0, e4, e8, hd8, List.take_left, if_neg (by omega), if_neg (by omega), if_neg (by omega), if_neg (by omega), if_neg (by simp)]

/-- a record that is cut short is none -/
theorem first_cut (s p : List UInt8) (h : s.length ≤ 10000) (hp : p <+: rec s) (hl : p.length < (rec s).length) : first p = none := by
  obtain ⟨q, hq⟩ := hp
  by_cases h8 : p.length < 8
  · unfold first; rw [if_pos h8]
  · have h0 : hi4 p 0 = s.length := by
      have e0 : hi4 (rec s ++ []) 0 = s.length := by rw [rec_head]; exact hi4_four _ (by omega) _
      rw [List.append_nil, ← hq] at e0
      rw [← e0]
      simp only [hi4]
      rw [at1_append _ _ _ (by omega), at1_append _ _ _ (by omega), at1_append _ _ _ (by omega), at1_append _ _ _ (by omega)]
    rw [rec_length] at hl
    unfold first
    rw [if_neg h8, h0]
    split
    · rfl
    · split
      · rfl
      · rw [if_pos (by omega)]

/-- how bytes are read: records, and what stands behind them -/
def IsRead (l : List UInt8) (ts : List (List UInt8)) (r : List UInt8) : Prop := l = recs ts ++ r ∧ first r = none ∧ ∀ s ∈ ts, s.length ≤ 10000

theorem prefix_of {ts ts2 : List (List UInt8)} {more r2 : List UInt8} (h : recs ts ++ more = recs ts2 ++ r2) (hts : ∀ s ∈ ts, s.length ≤ 10000) (hts2 : ∀ s ∈ ts2, s.length ≤ 10000) (hr : first r2 = none) : ∃ us, ts2 = ts ++ us ∧ more = recs us ++ r2 := by
  induction ts generalizing ts2 with
  | nil => exact ⟨ts2, rfl, h⟩
  | cons t ts ih =>
    rw [recs_cons, List.append_assoc] at h
    have hf := first_rec t (recs ts ++ more) (hts t (by simp))
    cases ts2 with
    | nil => rw [h] at hf; simp only [recs_nil, List.nil_append] at hf; rw [hr] at hf; cases hf
    | cons t2 ts2 =>
      rw [recs_cons, List.append_assoc] at h
      have hf2 := first_rec t2 (recs ts2 ++ r2) (hts2 t2 (by simp))
      rw [h, hf2] at hf
      obtain rfl := Option.some.inj hf
      have h' := List.append_cancel_left h
      obtain ⟨us, rfl, e⟩ := ih h' (fun s hs => hts s (by simp [hs])) (fun s hs => hts2 s (by simp [hs]))
      exact ⟨us, rfl, e⟩

theorem IsRead.prefix {ts ts2 : List (List UInt8)} {more r2 : List UInt8} (h : IsRead (recs ts ++ more) ts2 r2) (hts : ∀ s ∈ ts, s.length ≤ 10000) : ∃ us, ts2 = ts ++ us ∧ more = recs us ++ r2 :=
  prefix_of h.1 hts h.2.2 h.2.1
theorem recs_eq_nil {us : List (List UInt8)} (h : (recs us).length = 0) : us = [] := by
  cases us with
  | nil => rfl
  | cons u us => rw [recs_cons, List.length_append, rec_length] at h; omega
theorem IsRead.unique {ts ts2 : List (List UInt8)} {r r2 : List UInt8} (h : IsRead (recs ts ++ r) ts2 r2) (hts : ∀ s ∈ ts, s.length ≤ 10000) (hr : first r = none) : ts2 = ts ∧ r2 = r := by
  obtain ⟨us, rfl, e⟩ := h.prefix hts
  cases us with
  | nil => exact ⟨by simp, by rw [e]; rfl⟩
  | cons u us =>
    rw [recs_cons, List.append_assoc] at e
    rw [e, first_rec u _ (h.2.2 u (by simp))] at hr
    cases hr
end Tp
end Go.Proofs.YtnnbbdfocnjhpaaDoor
