/- A book ahead of an act and behind it: what was there is there, but one at most; no program is spoken of. -/
import Derived.Test.YtbcinejhipmomaaDoorBkFacts
namespace Go.Proofs.YtbcinejhipmomaaDoor
namespace Bk
open Cv Ra
theorem nth_app_l {a b : List Lot} {j : Nat} (h : j < a.length) : nth (a ++ b) j = nth a j := by
  unfold nth; rw [List.getD_eq_getElem?_getD, List.getD_eq_getElem?_getD, List.getElem?_append_left h]
theorem nth_app_r {a b : List Lot} {j : Nat} (h : a.length ≤ j) : nth (a ++ b) j = nth b (j - a.length) := by
  unfold nth; rw [List.getD_eq_getElem?_getD, List.getD_eq_getElem?_getD, List.getElem?_append_right h]
theorem len_take {l : List Lot} {k : Nat} (h : k ≤ l.length) : (l.take k).length = k := by rw [List.length_take]; omega
theorem nth_del {l : List Lot} {c : Nat} (hc : c < l.length) (j : Nat) : nth (del l c) j = if j < c then nth l j else nth l (j + 1) := by
  unfold del
  by_cases h : j < c
  · rw [if_pos h, nth_app_l (by rw [len_take (by omega)]; exact h), nth_take h]
  · rw [if_neg h, nth_app_r (by rw [len_take (by omega)]; omega), len_take (by omega), nth_drop]
    congr 1; omega
theorem nth_put {l : List Lot} {c : Nat} (hc : c < l.length) (x : Lot) (j : Nat) : nth (put l c x) j = if j = c then x else nth l j := by
  unfold put
  by_cases h : j < c
  · rw [if_neg (by omega), nth_app_l (by rw [len_take (by omega)]; exact h), nth_take h]
  · rw [nth_app_r (by rw [len_take (by omega)]; omega), len_take (by omega)]
    by_cases e : j = c
    · rw [if_pos e, e, Nat.sub_self]; rfl
    · rw [if_neg e]
      obtain ⟨m, hm⟩ : ∃ m, j - c = m + 1 := ⟨j - c - 1, by omega⟩
      rw [hm]
      show nth (l.drop (c + 1)) m = _
      rw [nth_drop]
      congr 1; omega
theorem once_ne {l : List Lot} (h : Once l) {i j : Nat} (hi : i < l.length) (hj : j < l.length) (hne : i ≠ j) : (nth l i).id ≠ (nth l j).id := by
  intro e
  unfold Once at h
  rw [nth_get hi, nth_get hj] at e
  have h1 : (l.map (·.id))[i]'(by simpa using hi) = (l.map (·.id))[j]'(by simpa using hj) := by simpa using e
  exact hne ((List.getElem_inj h).1 h1)

structure Fit (a b : List Lot) (kp gn : Nat → Nat) : Prop where
  start : kp 0 = 0 ∧ gn 0 = 0
  step : ∀ j, j < a.length → (kp j < b.length ∧ (nth b (kp j)).id = (nth a j).id ∧ (nth b (kp j)).q ≤ (nth a j).q ∧ (nth b (kp j)).pr = (nth a j).pr ∧ (nth b (kp j)).ow = (nth a j).ow ∧ kp (j + 1) = kp j + 1 ∧ gn (j + 1) = gn j) ∨
    ((b.length = kp j ∨ (kp j < b.length ∧ (nth b (kp j)).id ≠ (nth a j).id)) ∧ kp (j + 1) = kp j ∧ gn (j + 1) = gn j + 1)
  last : gn a.length ≤ 1 ∧ b.length ≤ kp a.length + 1 ∧ kp a.length ≤ b.length
  lens : b.length ≤ a.length + 1 ∧ a.length ≤ b.length + 1
  low : ∀ j, kp j ≤ j ∧ gn j ≤ j
theorem fit_same {a b : List Lot} (h1 : a.length ≤ b.length) (h2 : b.length ≤ a.length + 1) (h : ∀ j, j < a.length → (nth b j).id = (nth a j).id ∧ (nth b j).q ≤ (nth a j).q ∧ (nth b j).pr = (nth a j).pr ∧ (nth b j).ow = (nth a j).ow) : Fit a b (fun j => j) (fun _ => 0) :=
  ⟨⟨rfl, rfl⟩, fun j hj => .inl ⟨by omega, (h j hj).1, (h j hj).2.1, (h j hj).2.2.1, (h j hj).2.2.2, rfl, rfl⟩, ⟨by omega, by omega, by omega⟩, ⟨h2, by omega⟩, fun j => ⟨Nat.le_refl _, Nat.zero_le _⟩⟩
theorem fit_refl (a : List Lot) : Fit a a (fun j => j) (fun _ => 0) := fit_same (Nat.le_refl _) (by omega) fun _ _ => ⟨rfl, Int.le_refl _, rfl, rfl⟩
theorem fit_del {a : List Lot} (ho : Once a) {c : Nat} (hc : c < a.length) : Fit a (del a c) (fun j => if j ≤ c then j else j - 1) (fun j => if j ≤ c then 0 else 1) := by
  have hl := del_length hc
  refine ⟨⟨by simp, by simp⟩, fun j hj => ?_, ⟨?_, ?_, ?_⟩, ⟨by omega, by omega⟩, fun j => ⟨by split <;> omega, by split <;> omega⟩⟩
  · by_cases h1 : j < c
    · left
      simp only [show j ≤ c from by omega, show j + 1 ≤ c from by omega, if_true]
      rw [nth_del hc, if_pos h1]
      exact ⟨by omega, rfl, Int.le_refl _, rfl, rfl, trivial, trivial⟩
    · by_cases h2 : j = c
      · right
        subst h2
        simp only [Nat.le_refl, if_true, show ¬ j + 1 ≤ j from by omega, if_false]
        refine ⟨?_, by omega, trivial⟩
        by_cases h3 : j < (del a j).length
        · right
          rw [nth_del hc, if_neg (by omega)]
          exact ⟨h3, once_ne ho (by omega) hj (by omega)⟩
        · left; omega
      · left
        simp only [show ¬ j ≤ c from by omega, show ¬ j + 1 ≤ c from by omega, if_false]
        rw [nth_del hc, if_neg (by omega), show j - 1 + 1 = j by omega]
        exact ⟨by omega, rfl, Int.le_refl _, rfl, rfl, by omega, trivial⟩
  · rw [if_neg (by omega)]; omega
  · rw [if_neg (by omega)]; omega
  · rw [if_neg (by omega)]; omega
theorem fit_addL (a : List Lot) (x : Lot) : ∃ kp gn, Fit a (addL a x) kp gn := by
  unfold addL
  by_cases h : addC a x = 0
  · rw [if_pos h]
    exact ⟨_, _, fit_same (by simp) (by simp) fun j hj => by rw [nth_app_l hj]; exact ⟨rfl, Int.le_refl _, rfl, rfl⟩⟩
  · rw [if_neg h]; exact ⟨_, _, fit_refl a⟩
theorem fit_canL {a : List Lot} (hg : Good a) (id : Int) : ∃ kp gn, Fit a (canL a id) kp gn := by
  unfold canL
  by_cases h : canC a id = 0
  · rw [if_pos h]; exact ⟨_, _, fit_del hg.once (can_ok h)⟩
  · rw [if_neg h]; exact ⟨_, _, fit_refl a⟩
theorem fit_takL {a : List Lot} (hg : Good a) (id q : Int) : ∃ kp gn, Fit a (takL a id q) kp gn := by
  unfold takL
  by_cases h : takC a id q = 0
  · rw [if_pos h]
    obtain ⟨h1, h2, h3⟩ := tak_ok h
    by_cases h4 : q = (nth a (pos a id)).q
    · rw [if_pos h4]; exact ⟨_, _, fit_del hg.once h1⟩
    · rw [if_neg h4]
      refine ⟨_, _, fit_same (by rw [put_length h1]; exact Nat.le_refl _) (by rw [put_length h1]; omega) fun j hj => ?_⟩
      rw [nth_put h1]
      by_cases e : j = pos a id
      · rw [if_pos e, e]; exact ⟨rfl, by simp only [less]; omega, rfl, rfl⟩
      · rw [if_neg e]; exact ⟨rfl, Int.le_refl _, rfl, rfl⟩
  · rw [if_neg h]; exact ⟨_, _, fit_refl a⟩
end Bk
end Go.Proofs.YtbcinejhipmomaaDoor
