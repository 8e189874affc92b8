/- Prices of lots: a list that rises, each once: there is one alone; the compaction of a sorted list. -/
import Derived.Test.YtfdapfegidbijaaDoorCvFacts
import Derived.Test.YtfdapfegidbijaaDoorShelf
namespace Go.Proofs.YtfdapfegidbijaaDoor
namespace Cv

def IsPrices (l : List Lot) (ps : List Int) : Prop := ps.Pairwise (· < ·) ∧ ∀ y, y ∈ ps ↔ ∃ x ∈ l, x.pr = y

theorem rising_unique : ∀ a b : List Int, a.Pairwise (· < ·) → b.Pairwise (· < ·) → (∀ y, y ∈ a ↔ y ∈ b) → a = b
  | [], [], _, _, _ => rfl
  | [], y :: b, _, _, h => absurd ((h y).2 List.mem_cons_self) List.not_mem_nil
  | x :: a, [], _, _, h => absurd ((h x).1 List.mem_cons_self) List.not_mem_nil
  | x :: a, y :: b, ha, hb, h => by
    obtain ⟨ha1, ha2⟩ := List.pairwise_cons.1 ha
    obtain ⟨hb1, hb2⟩ := List.pairwise_cons.1 hb
    have hxy : x = y := by
      rcases List.mem_cons.1 ((h x).1 List.mem_cons_self) with e | e
      · exact e
      · rcases List.mem_cons.1 ((h y).2 List.mem_cons_self) with e' | e'
        · exact e'.symm
        · have h1 := hb1 x e
          have h2 := ha1 y e'
          omega
    subst hxy
    rw [rising_unique a b ha2 hb2 fun z => ?_]
    constructor
    · intro hz
      rcases List.mem_cons.1 ((h z).1 (List.mem_cons_of_mem _ hz)) with e | e
      · have := ha1 z hz
        omega
      · exact e
    · intro hz
      rcases List.mem_cons.1 ((h z).2 (List.mem_cons_of_mem _ hz)) with e | e
      · have := hb1 z hz
        omega
      · exact e
theorem IsPrices.unique {l : List Lot} {a b : List Int} (ha : IsPrices l a) (hb : IsPrices l b) : a = b :=
  rising_unique a b ha.1 hb.1 fun y => (ha.2 y).trans (hb.2 y).symm

theorem upTo_inv (d : Array Int) (hs : ∀ i j, i ≤ j → j < d.size → d[i]! ≤ d[j]!) : ∀ m, m ≤ d.size →
    (Lib.compactUpTo d m).Pairwise (· < ·) ∧ (∀ y, y ∈ Lib.compactUpTo d m ↔ ∃ j, j < m ∧ d[j]! = y) ∧ (∀ y ∈ Lib.compactUpTo d m, 0 < m → y ≤ d[m - 1]!) := by
  intro m
  induction m with
  | zero => intro _; exact ⟨List.Pairwise.nil, fun y => ⟨fun h => (by simp [Lib.compactUpTo] at h), fun ⟨j, hj, _⟩ => absurd hj (Nat.not_lt_zero j)⟩, fun y h => (by simp [Lib.compactUpTo] at h)⟩
  | succ m ih =>
    intro hm
    obtain ⟨i1, i2, i3⟩ := ih (by omega)
    rw [Lib.compactUpTo_succ]
    by_cases hk : m = 0 ∨ d[m]! ≠ d[m - 1]!
    · rw [if_pos (by unfold Lib.keeps; exact decide_eq_true hk)]
      have hlt : ∀ y ∈ Lib.compactUpTo d m, y < d[m]! := by
        intro y hy
        by_cases hm0 : m = 0
        · subst hm0
          simp [Lib.compactUpTo] at hy
        · have h1 := i3 y hy (by omega)
          have h2 := hs (m - 1) m (by omega) (by omega)
          have h3 := hk.resolve_left hm0
          omega
      refine ⟨List.pairwise_append.2 ⟨i1, List.pairwise_singleton _ _, fun x hx y hy => ?_⟩, fun y => ?_, fun y hy _ => ?_⟩
      · have : y = d[m]! := by simpa using hy
        rw [this]; exact hlt x hx
      · rw [List.mem_append, i2]
        constructor
        · rintro (⟨j, hj, e⟩ | h)
          · exact ⟨j, by omega, e⟩
          · exact ⟨m, by omega, by simpa using (List.mem_singleton.1 h).symm⟩
        · rintro ⟨j, hj, e⟩
          by_cases hjm : j = m
          · right; rw [← e, hjm]; exact List.mem_singleton.2 rfl
          · left; exact ⟨j, by omega, e⟩
      · rw [Nat.add_sub_cancel]
        rcases List.mem_append.1 hy with h | h
        · have := hlt y h; omega
        · have : y = d[m]! := by simpa using h
          omega
    · rw [if_neg (by unfold Lib.keeps; simpa using hk), List.append_nil]
      have hm0 : m ≠ 0 := fun e => hk (.inl e)
      have heq : d[m]! = d[m - 1]! := Classical.not_not.1 fun e => hk (.inr e)
      refine ⟨i1, fun y => ?_, fun y hy _ => ?_⟩
      · rw [i2]
        constructor
        · rintro ⟨j, hj, e⟩
          exact ⟨j, by omega, e⟩
        · rintro ⟨j, hj, e⟩
          by_cases hjm : j = m
          · exact ⟨m - 1, by omega, by rw [← heq, ← hjm]; exact e⟩
          · exact ⟨j, by omega, e⟩
      · rw [Nat.add_sub_cancel, heq]
        exact i3 y hy (by omega)

theorem compact_rises (zs : List Int) (hs : zs.Pairwise (· ≤ ·)) : (Lib.compact zs).Pairwise (· < ·) ∧ ∀ y, y ∈ Lib.compact zs ↔ y ∈ zs := by
  have hget : ∀ j, j < zs.length → zs.toArray[j]! = zs.getD j 0 := fun j hj => by
    simp [hj]
  have hmono : ∀ i j, i ≤ j → j < zs.toArray.size → zs.toArray[i]! ≤ zs.toArray[j]! := by
    intro i j hij hj
    have hj : j < zs.length := by simpa using hj
    by_cases e : i = j
    · rw [e]; omega
    · have := List.pairwise_iff_getElem.1 hs i j (by omega) hj (by omega)
      simpa [hj, show i < zs.length by omega] using this
  obtain ⟨h1, h2, _⟩ := upTo_inv zs.toArray hmono zs.length (by simp)
  refine ⟨h1, fun y => (h2 y).trans ?_⟩
  constructor
  · rintro ⟨j, hj, e⟩
    rw [← e]
    have : zs.toArray[j]! = zs[j] := by simp [hj]
    rw [this]
    exact List.getElem_mem hj
  · intro hy
    obtain ⟨j, hj, e⟩ := List.mem_iff_getElem.1 hy
    exact ⟨j, hj, by rw [← e]; simp [hj]⟩

theorem prices_of_sort (l : List Lot) : IsPrices l (Lib.compact ((l.map (·.pr)).mergeSort fun x y => decide (x ≤ y))) := by
  have hs := List.pairwise_mergeSort (le := fun (x y : Int) => decide (x ≤ y)) (fun a b c h1 h2 => by simp at h1 h2 ⊢; omega) (fun a b => by simp; omega) (l.map (·.pr))
  obtain ⟨h1, h2⟩ := compact_rises _ (hs.imp (fun h => by simpa using h))
  refine ⟨h1, fun y => (h2 y).trans ?_⟩
  rw [(List.mergeSort_perm _ _).mem_iff, List.mem_map]
theorem isPrices_nil : IsPrices [] [] := ⟨List.Pairwise.nil, fun _ => ⟨fun h => absurd h List.not_mem_nil, fun ⟨_, hx, _⟩ => absurd hx List.not_mem_nil⟩⟩
end Cv
end Go.Proofs.YtfdapfegidbijaaDoor
