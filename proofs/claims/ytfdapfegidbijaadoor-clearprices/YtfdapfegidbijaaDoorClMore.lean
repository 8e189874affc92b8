/- One price of lots: the three rounds in which the document's answer finds it; lots whose prices are all greater by one number, the other way round; no program is spoken of. -/
import Derived.Test.YtfdapfegidbijaaDoorClFacts
namespace Go.Proofs.YtfdapfegidbijaaDoor
namespace Cv

/-- the first round: what is traded at most -/
def Most (l : List Lot) (n m : Int) : Prop := 0 ≤ m ∧ (∀ q, 1 ≤ q → q ≤ n → volume l q ≤ m) ∧ (m = 0 ∨ ∃ q, 1 ≤ q ∧ q ≤ n ∧ volume l q = m)
/-- the second round: what is left at least, where that is traded -/
def Least (l : List Lot) (m n s : Int) : Prop :=
  (s = -1 ∧ ∀ q, 1 ≤ q → q ≤ n → volume l q ≠ m) ∨ (0 ≤ s ∧ (∃ q, 1 ≤ q ∧ q ≤ n ∧ volume l q = m ∧ left l q = s) ∧ ∀ q, 1 ≤ q → q ≤ n → volume l q = m → s ≤ left l q)
/-- the third round: the nearest of these, from above -/
def Near (l : List Lot) (m s ref n b : Int) : Prop :=
  (b = 0 ∧ ∀ q, n < q → q ≤ 1000 → ¬ (volume l q = m ∧ left l q = s)) ∨
  (n < b ∧ b ≤ 1000 ∧ volume l b = m ∧ left l b = s ∧ ∀ q, n < q → q ≤ 1000 → volume l q = m → left l q = s → away ref b < away ref q ∨ away ref b = away ref q ∧ b ≤ q)

theorem Most.start (l : List Lot) : Most l 0 0 := ⟨by omega, fun q h1 h2 => by omega, .inl rfl⟩
theorem Most.take {l : List Lot} {n m : Int} (hn : 0 ≤ n) (h : Most l n m) (hv : m < volume l (n + 1)) : Most l (n + 1) (volume l (n + 1)) := by
  obtain ⟨h1, h2, h3⟩ := h
  refine ⟨by omega, fun q q1 q2 => ?_, .inr ⟨n + 1, by omega, by omega, rfl⟩⟩
  by_cases e : q = n + 1
  · rw [e]; omega
  · have := h2 q q1 (by omega); omega
theorem Most.keep {l : List Lot} {n m : Int} (h : Most l n m) (hv : ¬ m < volume l (n + 1)) : Most l (n + 1) m := by
  obtain ⟨h1, h2, h3⟩ := h
  refine ⟨h1, fun q q1 q2 => ?_, ?_⟩
  · by_cases e : q = n + 1
    · rw [e]; omega
    · exact h2 q q1 (by omega)
  · rcases h3 with h3 | ⟨q, q1, q2, q3⟩
    · exact .inl h3
    · exact .inr ⟨q, q1, by omega, q3⟩
theorem Least.start (l : List Lot) (m : Int) : Least l m 0 (-1) := .inl ⟨rfl, fun q h1 h2 => by omega⟩
theorem Least.range {l : List Lot} {m n s : Int} (h : Least l m n s) : -1 ≤ s := by
  rcases h with ⟨h1, _⟩ | ⟨h1, _⟩ <;> omega
theorem Least.take {l : List Lot} {m n s : Int} (hn : 0 ≤ n) (h : Least l m n s) (hv : volume l (n + 1) = m) (hs : s < 0 ∨ left l (n + 1) < s) : Least l m (n + 1) (left l (n + 1)) := by
  have s0 : 0 ≤ left l (n + 1) := size_nonneg _
  refine .inr ⟨s0, ⟨n + 1, by omega, by omega, hv, rfl⟩, fun q q1 q2 q3 => ?_⟩
  by_cases e : q = n + 1
  · rw [e]; omega
  · rcases h with ⟨h1, h2⟩ | ⟨h1, h2, h3⟩
    · exact absurd q3 (h2 q q1 (by omega))
    · have := h3 q q1 (by omega) q3; omega
theorem Least.keep {l : List Lot} {m n s : Int} (h : Least l m n s) (hk : ¬ (volume l (n + 1) = m ∧ (s < 0 ∨ left l (n + 1) < s))) : Least l m (n + 1) s := by
  rcases h with ⟨h1, h2⟩ | ⟨h1, ⟨q0, a1, a2, a3, a4⟩, h3⟩
  · refine .inl ⟨h1, fun q q1 q2 => ?_⟩
    by_cases e : q = n + 1
    · rw [e]; omega
    · exact h2 q q1 (by omega)
  · refine .inr ⟨h1, ⟨q0, a1, by omega, a3, a4⟩, fun q q1 q2 q3 => ?_⟩
    by_cases e : q = n + 1
    · rw [e] at q3 ⊢; omega
    · exact h3 q q1 (by omega) q3
theorem Near.start (l : List Lot) (m s ref : Int) : Near l m s ref 1000 0 := .inl ⟨rfl, fun q h1 h2 => by omega⟩
theorem Near.range {l : List Lot} {m s ref n b : Int} (hn : 0 ≤ n) (h : Near l m s ref n b) : 0 ≤ b ∧ b ≤ 1000 := by
  rcases h with ⟨h1, _⟩ | ⟨h1, h2, _⟩ <;> omega
theorem Near.pass {l : List Lot} {m s ref n b : Int} (h : Near l m s ref n b) (hv : ¬ (volume l n = m ∧ left l n = s)) : Near l m s ref (n - 1) b := by
  rcases h with ⟨h1, h2⟩ | ⟨h1, h2, h3, h4, h5⟩
  · refine .inl ⟨h1, fun q q1 q2 => ?_⟩
    by_cases e : q = n
    · rw [e]; exact hv
    · exact h2 q (by omega) q2
  · refine .inr ⟨by omega, h2, h3, h4, fun q q1 q2 q3 q4 => ?_⟩
    by_cases e : q = n
    · rw [e] at q3 q4; exact absurd ⟨q3, q4⟩ hv
    · exact h5 q (by omega) q2 q3 q4
theorem Near.take {l : List Lot} {m s ref n b : Int} (h0 : 0 ≤ n) (hn : n ≤ 1000) (h : Near l m s ref n b) (hv : volume l n = m) (hs : left l n = s) (ha : b = 0 ∨ away ref n ≤ away ref b) : Near l m s ref (n - 1) n := by
  refine .inr ⟨by omega, hn, hv, hs, fun q q1 q2 q3 q4 => ?_⟩
  by_cases e : q = n
  · rw [e]; omega
  · rcases h with ⟨h1, h2⟩ | ⟨h1, h2, h3, h4, h5⟩
    · exact absurd ⟨q3, q4⟩ (h2 q (by omega) q2)
    · have := h5 q (by omega) q2 q3 q4; omega
theorem Near.keep {l : List Lot} {m s ref n b : Int} (h : Near l m s ref n b) (ha : ¬ (b = 0 ∨ away ref n ≤ away ref b)) : Near l m s ref (n - 1) b := by
  rcases h with ⟨h1, h2⟩ | ⟨h1, h2, h3, h4, h5⟩
  · omega
  · refine .inr ⟨by omega, h2, h3, h4, fun q q1 q2 q3 q4 => ?_⟩
    by_cases e : q = n
    · rw [e]; omega
    · exact h5 q (by omega) q2 q3 q4

theorem won_none {l : List Lot} {ref : Int} (hl : Oks l) (h : Most l 1000 0) : Won l ref 1000 0 0 :=
  .inl ⟨rfl, rfl, fun q q1 q2 => by have := h.2.1 q q1 q2; have := volume_nonneg l hl q; omega⟩
theorem won_rounds {l : List Lot} {ref m s b : Int} (h : Most l 1000 m) (hm : m ≠ 0) (hs : Least l m 1000 s) (hb : Near l m s ref 0 b) : Won l ref 1000 b m := by
  obtain ⟨m0, m1, m2⟩ := h
  rcases hs with ⟨h1, h2⟩ | ⟨h1, ⟨q0, a1, a2, a3, a4⟩, h3⟩
  · rcases m2 with m2 | ⟨q, q1, q2, q3⟩
    · exact absurd m2 hm
    · exact absurd q3 (h2 q q1 q2)
  · rcases hb with ⟨b1, b2⟩ | ⟨b1, b2, b3, b4, b5⟩
    · exact absurd ⟨a3, a4⟩ (b2 q0 (by omega) a2)
    · refine .inr ⟨by omega, by omega, b2, b3, fun q q1 q2 => ?_⟩
      have x1 := m1 q q1 q2
      by_cases e : volume l q = m
      · have x2 := h3 q q1 q2 e
        by_cases e2 : left l q = s
        · have x3 := b5 q (by omega) q2 e e2
          omega
        · omega
      · omega

/-- all prices greater by one number, in the other order -/
def shift (d : Int) (x : Lot) : Lot := ⟨x.id, x.ow, x.sd, x.pr + d, x.q⟩
def up (d : Int) (l : List Lot) : List Lot := (l.map (shift d)).reverse
theorem sumIf_reverse (f : Lot → Bool) : ∀ l : List Lot, sumIf f l.reverse = sumIf f l
  | [] => rfl
  | x :: l => by
    rw [List.reverse_cons, sumIf_append, sumIf_reverse f l]
    simp only [sumIf]
    omega
theorem sumIf_map (f : Lot → Bool) (d : Int) : ∀ l : List Lot, sumIf f (l.map (shift d)) = sumIf (fun x => f (shift d x)) l
  | [] => rfl
  | x :: l => by
    simp only [List.map_cons, sumIf, sumIf_map f d l]
    rfl
theorem demand_up (d : Int) (l : List Lot) (p : Int) : demand (up d l) (p + d) = demand l p := by
  unfold demand up
  rw [sumIf_reverse, sumIf_map]
  refine sumIf_congr l fun x _ => ?_
  have e : (p + d ≤ x.pr + d) = (p ≤ x.pr) := propext ⟨fun h => by omega, fun h => by omega⟩
  simp [dB, shift]
theorem supply_up (d : Int) (l : List Lot) (p : Int) : supply (up d l) (p + d) = supply l p := by
  unfold supply up
  rw [sumIf_reverse, sumIf_map]
  refine sumIf_congr l fun x _ => ?_
  simp [sB, shift]
theorem volume_up (d : Int) (l : List Lot) (p : Int) : volume (up d l) (p + d) = volume l p := by
  unfold volume; rw [demand_up, supply_up]
theorem left_up (d : Int) (l : List Lot) (p : Int) : left (up d l) (p + d) = left l p := by
  unfold left; rw [demand_up, supply_up]
theorem away_up (d ref p : Int) : away (ref + d) (p + d) = away ref p := by
  unfold away; rw [show p + d - (ref + d) = p - ref by omega]

theorem well_iff (l : List Lot) : Well l ↔ l.length ≤ 120 ∧ Oks l ∧ (l.map (·.id)).Nodup := by
  have hnth : ∀ i (hi : i < l.length), nth l i = l[i] := fun i hi => by unfold nth; rw [List.getD_eq_getElem?_getD, List.getElem?_eq_getElem hi]; rfl
  constructor
  · intro h
    refine ⟨h.1, h.oks, ?_⟩
    rw [List.Nodup, List.pairwise_iff_getElem]
    intro i j hi hj hij
    rw [List.length_map] at hi hj
    have := h.2 j hj
    simp only [okAt, Bool.and_eq_true, Bool.not_eq_true'] at this
    have h2 := this.2
    unfold has at h2
    rw [List.any_eq_false] at h2
    have h3 := h2 l[i] (List.mem_take_iff_getElem.2 ⟨i, by omega, rfl⟩)
    rw [hnth j hj] at h3
    simpa using h3
  · rintro ⟨h1, h2, h3⟩
    refine ⟨h1, fun j hj => ?_⟩
    rw [List.Nodup, List.pairwise_iff_getElem] at h3
    simp only [okAt, Bool.and_eq_true, Bool.not_eq_true']
    refine ⟨h2 _ (nth_mem hj), ?_⟩
    unfold has
    rw [List.any_eq_false]
    intro x hx
    obtain ⟨i, hi, rfl⟩ := List.mem_take_iff_getElem.1 hx
    have := h3 i j (by rw [List.length_map]; omega) (by rw [List.length_map]; omega) (by omega)
    rw [hnth j hj]
    simpa using this
theorem well_up {d : Int} {l : List Lot} (h : Well l) (hd : 0 ≤ d) (hp : ∀ x ∈ l, x.pr ≤ 1000 - d) : Well (up d l) := by
  obtain ⟨h1, h2, h3⟩ := (well_iff l).1 h
  refine (well_iff _).2 ⟨by simpa [up] using h1, ?_, ?_⟩
  · intro x hx
    simp only [up, List.mem_reverse, List.mem_map] at hx
    obtain ⟨y, hy, rfl⟩ := hx
    have hb := ok_bounds (h2 y hy)
    have := hp y hy
    have w : ∀ a lo hi : Int, lo ≤ a → a ≤ hi → Wi.withinB a lo hi = true := fun a lo hi p q => by simp [Wi.withinB, p, q]
    show (Wi.withinB y.id 1 1073741824 && Wi.withinB y.ow 0 5 && Wi.withinB y.sd 0 1 && Wi.withinB (y.pr + d) 1 1000 && Wi.withinB y.q 1 1000) = true
    rw [w _ _ _ hb.1.1 hb.1.2, w _ _ _ hb.2.1.1 hb.2.1.2, w _ _ _ hb.2.2.1.1 hb.2.2.1.2, w _ _ _ hb.2.2.2.2.1 hb.2.2.2.2.2, w (y.pr + d) 1 1000 (by omega) (by omega)]
    rfl
  · have e : (up d l).map (·.id) = (l.map (·.id)).reverse := by
      simp only [up, List.map_reverse, List.map_map]
      rfl
    rw [e]
    rw [List.Nodup, List.pairwise_reverse]
    exact h3.imp fun h => Ne.symm h

theorem won_up {d ref p v : Int} {l : List Lot} (h : Well l) (hd : 0 ≤ d) (hp : ∀ x ∈ l, x.pr ≤ 1000 - d) (hw : Won l ref 1000 p v) : Won (up d l) (ref + d) 1000 (if v = 0 then 0 else p + d) v := by
  have hu := (well_up h hd hp).oks
  have hq : ∀ q, volume (up d l) q = volume l (q - d) := fun q => by
    have := volume_up d l (q - d); rwa [show q - d + d = q by omega] at this
  have low : ∀ q, q ≤ 0 → volume l q = 0 := fun q hq => by
    have := supply_low l h.oks hq
    have hd := (sumIf_bounds (dB q) l h.oks).1
    unfold volume demand; omega
  rcases hw with ⟨h1, h2, h3⟩ | ⟨h1, h2, h3, h4, h5⟩
  · rw [if_pos h2]
    refine .inl ⟨rfl, h2, fun q q1 q2 => ?_⟩
    rw [hq]
    by_cases e : q - d ≤ 0
    · exact low _ e
    · exact h3 _ (by omega) (by omega)
  · rw [if_neg (by omega)]
    have hpd : p ≤ 1000 - d := by
      refine Classical.byContradiction fun hc => ?_
      have : demand l p = 0 := sumIf_zero l fun x hx => by
        have := hp x hx
        have h2 : ¬ p ≤ x.pr := by omega
        simp [dB, h2]
      unfold volume at h4; omega
    refine .inr ⟨h1, by omega, by omega, by rw [volume_up]; exact h4, fun q q1 q2 => ?_⟩
    rw [hq, left_up, away_up]
    have l1 := left_up d l (q - d)
    have a1 := away_up d ref (q - d)
    rw [show q - d + d = q by omega] at l1 a1
    rw [l1, a1]
    by_cases e : q - d ≤ 0
    · left; rw [low _ e]; exact h1
    · have := h5 (q - d) (by omega) (by omega)
      omega

/-- two lots: one price -/
theorem won_two : Won [⟨1, 0, 0, 10, 5⟩, ⟨2, 0, 1, 8, 4⟩] 9 1000 9 4 := by
  have hd : ∀ q, demand [⟨1, 0, 0, 10, 5⟩, ⟨2, 0, 1, 8, 4⟩] q = if q ≤ 10 then 5 else 0 := fun q => by
    simp [demand, sumIf, dB]
  have hs : ∀ q, supply [⟨1, 0, 0, 10, 5⟩, ⟨2, 0, 1, 8, 4⟩] q = if 8 ≤ q then 4 else 0 := fun q => by
    simp [supply, sumIf, sB]
  refine .inr ⟨by omega, by omega, by omega, ?_, fun q q1 q2 => ?_⟩
  · unfold volume; rw [hd, hs]; decide
  · unfold volume left away size
    rw [hd, hs, hd, hs]
    split <;> split <;> simp <;> omega
theorem well_two : Well [⟨1, 0, 0, 10, 5⟩, ⟨2, 0, 1, 8, 4⟩] := by
  refine (well_iff _).2 ⟨by simp, fun x hx => ?_, by simp⟩
  simp only [List.mem_cons, List.not_mem_nil, or_false] at hx
  rcases hx with rfl | rfl <;> decide

end Cv
end Go.Proofs.YtfdapfegidbijaaDoor
