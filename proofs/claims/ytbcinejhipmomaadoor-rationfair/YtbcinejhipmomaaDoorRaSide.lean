/- What a side is filled with, price by price from the best one on; that it is fair; no walk. -/
import Derived.Test.YtbcinejhipmomaaDoorRaShare
namespace Go.Proofs.YtbcinejhipmomaaDoor
namespace Ra
open Cv
def pj (sd : Int) (j : Nat) : Int := if sd = 0 then 1000 - (j : Int) else 1 + (j : Int)
def cnt (sd price : Int) : Nat := if sd = 0 then (1001 - price).toNat else price.toNat
/-- all prices that are not worse than a price, the best one first -/
def full (sd price : Int) : List Int := (List.range (cnt sd price)).map (pj sd)
theorem falls_full (sd price : Int) : Falls sd (full sd price) := by
  refine List.pairwise_map.2 (List.pairwise_lt_range.imp fun {a b} h => ?_)
  unfold pj better
  split <;> simp <;> omega
theorem mem_full {sd price p : Int} (h1 : 1 ≤ price) (h2 : price ≤ 1000) : p ∈ full sd price ↔ (1 ≤ p ∧ p ≤ 1000) ∧ better sd price p = false := by
  unfold full cnt pj better
  by_cases hs : sd = 0
  · simp only [hs, if_true, List.mem_map, List.mem_range, decide_eq_false_iff_not]
    constructor
    · rintro ⟨j, hj, rfl⟩; omega
    · rintro ⟨⟨h3, h4⟩, h5⟩; exact ⟨(1000 - p).toNat, by omega, by omega⟩
  · simp only [hs, if_false, List.mem_map, List.mem_range, decide_eq_false_iff_not]
    constructor
    · rintro ⟨j, hj, rfl⟩; omega
    · rintro ⟨⟨h3, h4⟩, h5⟩; exact ⟨(p - 1).toNat, by omega, by omega⟩
def qsOf (l : List Lot) (sd price : Int) : List Int := (full sd price).filter fun p => !(lv l sd p).isEmpty
theorem falls_qs (l : List Lot) (sd price : Int) : Falls sd (qsOf l sd price) := (falls_full sd price).filter _
theorem lf_lv (l : List Lot) {sd price p : Int} (h : better sd price p = false) : lf sd price l p = lv l sd p := by
  unfold lf lv
  refine List.filter_congr fun x _ => ?_
  unfold el
  by_cases e : x.pr = p
  · rw [e, h]; simp
  · have e2 : (x.pr == p) = false := by simpa using e
    rw [e2]; simp
theorem mem_lf {l : List Lot} {sd price p : Int} (ho : Oks l) (h : lf sd price l p ≠ []) : (1 ≤ p ∧ p ≤ 1000) ∧ better sd price p = false := by
  obtain ⟨x, hx⟩ := List.exists_mem_of_ne_nil _ h
  obtain ⟨hx1, hx2⟩ := List.mem_filter.1 hx
  simp only [el, Bool.and_eq_true, beq_iff_eq, Bool.not_eq_true'] at hx2
  have := (ok_bounds (ho x hx1)).2.2.2.1
  rw [← hx2.2]
  exact ⟨this, hx2.1.2⟩
theorem mem_qs {l : List Lot} {sd price p : Int} (ho : Oks l) (h1 : 1 ≤ price) (h2 : price ≤ 1000) : p ∈ qsOf l sd price ↔ lf sd price l p ≠ [] := by
  unfold qsOf
  rw [List.mem_filter, mem_full h1 h2]
  constructor
  · rintro ⟨⟨_, hb⟩, hne⟩
    rw [lf_lv l hb]; simpa using hne
  · intro h
    obtain ⟨h3, hb⟩ := mem_lf ho h
    rw [lf_lv l hb] at h
    exact ⟨⟨h3, hb⟩, by simpa using h⟩
theorem pos_of_oks {l : List Lot} (h : Oks l) : Pos l := fun x hx => ((ok_bounds (h x hx)).2.2.2.2).1
/-- what a side is filled with -/
def side (s : Int) (l : List Lot) (sd price v : Int) : List (Int × Int) := sf (sh s) l sd (full sd price) v
theorem side_is (s : Int) {l : List Lot} (ho : Oks l) (sd price v : Int) (hv : 0 ≤ v) : side s l sd price v = fill (row (sh s) l sd (qsOf l sd price) v) v := by
  unfold side
  rw [← sf_filter (mix_sh s) (pos_of_oks ho) sd (full sd price) v hv]; rfl
theorem side_share (s : Int) {l : List Lot} (ho : Oks l) (sd price v : Int) (h1 : 1 ≤ price) (h2 : price ≤ 1000) (hv : 0 ≤ v) : sfF (sh s) (lf sd price l) (qsOf l sd price) v = side s l sd price v := by
  rw [side_is s ho sd price v hv]
  unfold sfF
  rw [rowF_is (sh s) l sd _ _ _ fun p hp => lf_lv l (mem_lf ho ((mem_qs ho h1 h2).1 hp)).2]
theorem ps_up (l : List Lot) (sd price : Int) : (if sd = 0 then (qsOf l sd price).reverse else qsOf l sd price).Pairwise (· < ·) := by
  have h := falls_qs l sd price
  unfold Falls at h
  split
  · rename_i e
    subst e
    rw [List.pairwise_reverse]
    exact h.imp fun h => by simpa [better] using h
  · rename_i e
    exact h.imp fun h => by simpa [better, e] using h
theorem nodup_qs (l : List Lot) (sd price : Int) : (qsOf l sd price).Nodup := (falls_qs l sd price).imp fun {a b} h e => by
  rw [e, better_irrefl] at h; cases h
theorem order_perm (s : Int) {l : List Lot} (ho : Oks l) (sd price v : Int) (h1 : 1 ≤ price) (h2 : price ≤ 1000) : (row (sh s) l sd (qsOf l sd price) v).Perm (l.filter (el sd price)) := by
  refine (row_perm (mix_sh s) l sd _ v).trans ((levels_perm l sd _ (nodup_qs l sd price)).trans ?_)
  rw [List.filter_congr (q := el sd price) fun x hx => ?_]
  unfold el
  cases hs : x.sd == sd
  · rfl
  · simp only [Bool.true_and]
    cases hb : better sd price x.pr
    · rw [Bool.not_false, List.contains_iff_mem, mem_qs ho h1 h2]
      intro e
      have : x ∈ lf sd price l x.pr := List.mem_filter.2 ⟨hx, by simp [el, hs, hb]⟩
      rw [e] at this; cases this
    · rw [Bool.not_true]
      refine Bool.eq_false_iff.2 fun e => ?_
      have := (mem_lf ho ((mem_qs ho h1 h2).1 (List.contains_iff_mem.1 e))).2
      rw [hb] at this; cases this
theorem order_falls (s : Int) (l : List Lot) (sd price v : Int) : (row (sh s) l sd (qsOf l sd price) v).Pairwise fun x y => better sd y.pr x.pr = false := row_order (mix_sh s) l sd _ v (falls_qs l sd price)
theorem fill_length : ∀ (l : List Lot) (v : Int), (fill l v).length ≤ l.length
  | [], _ => Nat.le_refl _
  | x :: l, v => by
    rw [fill]
    split
    · exact Nat.zero_le _
    · have := fill_length l (v - min x.q v)
      simp; omega
theorem side_length (s : Int) {l : List Lot} (ho : Oks l) (sd price v : Int) (h1 : 1 ≤ price) (h2 : price ≤ 1000) (hv : 0 ≤ v) : (side s l sd price v).length ≤ l.length := by
  rw [side_is s ho sd price v hv]
  exact Nat.le_trans (fill_length _ _) (by rw [(order_perm s ho sd price v h1 h2).length_eq]; exact List.length_filter_le _ _)
theorem tot_el (l : List Lot) (price : Int) : tot (l.filter (el 0 price)) = demand l price ∧ tot (l.filter (el 1 price)) = supply l price := by
  refine ⟨?_, ?_⟩
  · rw [tot_filter]
    refine sumIf_congr l fun x _ => ?_
    unfold el dB better
    by_cases h : price ≤ x.pr
    · rw [decide_eq_true h, if_pos rfl, decide_eq_false (by omega)]; rfl
    · rw [decide_eq_false h, if_pos rfl, decide_eq_true (by omega)]; rfl
  · rw [tot_filter]
    refine sumIf_congr l fun x _ => ?_
    unfold el sB better
    by_cases h : x.pr ≤ price
    · rw [decide_eq_true h, if_neg (by decide), decide_eq_false (by omega)]; rfl
    · rw [decide_eq_false h, if_neg (by decide), decide_eq_true (by omega)]; rfl
end Ra
end Go.Proofs.YtbcinejhipmomaaDoor
