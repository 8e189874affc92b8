/- Fills are fair, and a seed parts one level of a side at most: plain facts on lots; no walk. -/
import Derived.Test.YtbcinejhipmomaaDoorRaFine
namespace Go.Proofs.YtbcinejhipmomaaDoor
namespace Ra
open Cv
theorem once_of_well {l : List Lot} (h : Well l) : Once l := by
  unfold Once
  rw [List.nodup_iff_pairwise_ne, List.pairwise_iff_getElem]
  intro i j hi hj hij
  rw [List.length_map] at hi hj
  rw [List.getElem_map, List.getElem_map]
  intro e
  have h2 := h.2 j hj
  simp only [okAt, Bool.and_eq_true, Bool.not_eq_true'] at h2
  have h3 := h2.2
  unfold has at h3
  rw [List.any_eq_false] at h3
  refine h3 l[i] (List.mem_take_iff_getElem.2 ⟨i, by omega, rfl⟩) ?_
  have e2 : nth l j = l[j] := by unfold nth; rw [List.getD_eq_getElem?_getD, List.getElem?_eq_getElem hj]; rfl
  rw [e2, e]; simp
theorem once_eq {l : List Lot} (h : Once l) {x y : Lot} (hx : x ∈ l) (hy : y ∈ l) (e : x.id = y.id) : x = y := by
  obtain ⟨a, b, rfl⟩ := List.append_of_mem hx
  unfold Once at h
  rw [List.map_append, List.map_cons, List.nodup_append] at h
  obtain ⟨_, h2, h3⟩ := h
  obtain ⟨h4, _⟩ := List.nodup_cons.1 h2
  rcases List.mem_append.1 hy with hy | hy
  · exact absurd e.symm (h3 _ (List.mem_map.2 ⟨y, hy, rfl⟩) _ List.mem_cons_self)
  · rcases List.mem_cons.1 hy with hy | hy
    · exact hy.symm
    · exact absurd (List.mem_map.2 ⟨y, hy, e.symm⟩) h4
theorem once_filter {l : List Lot} (h : Once l) (f : Lot → Bool) : Once (l.filter f) := by
  unfold Once at *
  exact List.Nodup.sublist (List.Sublist.map _ List.filter_sublist) h

def seedFor (s sd : Int) : Int := if sd = 0 then s else nextSeed s
/-- the order in which a side is filled -/
def ord (s : Int) (l : List Lot) (sd price vol : Int) : List Lot := row (sh (seedFor s sd)) l sd (qsOf l sd price) vol
theorem ord_perm {l : List Lot} {price vol : Int} (hf : Fine l price vol) (s : Int) (sd : Int) : (ord s l sd price vol).Perm (l.filter (el sd price)) := order_perm _ hf.1.oks sd price vol hf.2.1.1 hf.2.1.2
theorem ord_mem {l : List Lot} {price vol : Int} (hf : Fine l price vol) (s : Int) {sd : Int} {x : Lot} : x ∈ ord s l sd price vol ↔ x ∈ l ∧ el sd price x = true := by
  rw [(ord_perm hf s sd).mem_iff, List.mem_filter]
theorem ord_pos {l : List Lot} {price vol : Int} (hf : Fine l price vol) (s : Int) (sd : Int) : Pos (ord s l sd price vol) := fun x hx => pos_of_oks hf.1.oks x ((ord_mem hf s).1 hx).1
theorem ord_once {l : List Lot} {price vol : Int} (hf : Fine l price vol) (s : Int) (sd : Int) : Once (ord s l sd price vol) := (once_filter (once_of_well hf.1) _).perm (ord_perm hf s sd).symm
theorem ord_falls {l : List Lot} {price vol : Int} (s : Int) (sd : Int) : (ord s l sd price vol).Pairwise fun x y => better sd y.pr x.pr = false := order_falls _ l sd price vol
theorem fills_eq {l : List Lot} {price vol : Int} (hf : Fine l price vol) (s : Int) : fills s l price vol = fill (ord s l 0 price vol) vol ++ fill (ord s l 1 price vol) vol := by
  unfold fills
  rw [side_is s hf.1.oks 0 price vol hf.2.2.1, side_is (nextSeed s) hf.1.oks 1 price vol hf.2.2.1]
  rfl
theorem got_side {l : List Lot} {price vol : Int} (hf : Fine l price vol) (s : Int) {x : Lot} (hx : x ∈ l) : got x.id (fills s l price vol) = got x.id (fill (ord s l x.sd price vol) vol) := by
  have hz : ∀ sd, x.sd ≠ sd → got x.id (fill (ord s l sd price vol) vol) = 0 := fun sd hne => got_out _ _ _ (ord_pos hf s sd) hf.2.2.1 fun y hy e => by
    obtain ⟨hy1, hy2⟩ := (ord_mem hf s).1 hy
    have := once_eq (once_of_well hf.1) hy1 hx e
    subst this
    simp only [el, Bool.and_eq_true, beq_iff_eq] at hy2
    exact hne hy2.1
  have hsd := (ok_bounds (hf.1.oks x hx)).2.2.1
  rw [fills_eq hf s, got_append]
  by_cases h : x.sd = 0
  · rw [hz 1 (by omega), h]; omega
  · have : x.sd = 1 := by omega
    rw [hz 0 h, this]; omega
theorem got_worse {l : List Lot} {price vol : Int} (hf : Fine l price vol) (s : Int) {x : Lot} (hx : x ∈ l) (h : el x.sd price x = false) : got x.id (fills s l price vol) = 0 := by
  rw [got_side hf s hx]
  refine got_out _ _ _ (ord_pos hf s _) hf.2.2.1 fun y hy e => ?_
  obtain ⟨hy1, hy2⟩ := (ord_mem hf s).1 hy
  have := once_eq (once_of_well hf.1) hy1 hx e
  subst this
  rw [h] at hy2; cases hy2
theorem got_in {l : List Lot} {price vol : Int} (hf : Fine l price vol) (s : Int) {x : Lot} (hx : x ∈ l) : 0 ≤ got x.id (fills s l price vol) ∧ got x.id (fills s l price vol) ≤ x.q := by
  have hq := pos_of_oks hf.1.oks x hx
  cases h : el x.sd price x with
  | false => rw [got_worse hf s hx h]; omega
  | true =>
    rw [got_side hf s hx]
    exact got_within (ord_pos hf s _) hf.2.2.1 (ord_once hf s _) ((ord_mem hf s).2 ⟨hx, h⟩)
theorem got_first {l : List Lot} {price vol : Int} (hf : Fine l price vol) (s : Int) {x y : Lot} (hx : x ∈ l) (hy : y ∈ l) (hsd : y.sd = x.sd) (hb : better x.sd y.pr x.pr = true) (hg : 0 < got x.id (fills s l price vol)) : got y.id (fills s l price vol) = y.q := by
  have hex : el x.sd price x = true := by
    cases h : el x.sd price x with
    | true => rfl
    | false => rw [got_worse hf s hx h] at hg; omega
  have hey : el x.sd price y = true := by
    simp only [el, Bool.and_eq_true, beq_iff_eq, Bool.not_eq_true'] at hex ⊢
    refine ⟨hsd, ?_⟩
    have h2 := hex.2
    unfold better at hb h2 ⊢
    split at hb <;> simp_all <;> omega
  rw [got_side hf s hx] at hg
  rw [got_side hf s hy, hsd]
  exact got_ahead (ord_pos hf s _) hf.2.2.1 (ord_once hf s _) (ord_falls s _) ((ord_mem hf s).2 ⟨hx, hex⟩) ((ord_mem hf s).2 ⟨hy, hey⟩) hb hg
/-- what the lots of a side got, of the first ones of a list -/
def sumG (F : List (Int × Int)) (sd : Int) : List Lot → Int
  | [] => 0
  | x :: l => (if x.sd = sd then got x.id F else 0) + sumG F sd l
theorem sumG_append (F : List (Int × Int)) (sd : Int) : ∀ a b : List Lot, sumG F sd (a ++ b) = sumG F sd a + sumG F sd b
  | [], b => by simp [sumG]
  | x :: a, b => by simp [sumG, sumG_append F sd a b]; omega
theorem sumG_gots (F : List (Int × Int)) (sd : Int) : ∀ l : List Lot, sumG F sd l = gots F (l.filter fun x => x.sd == sd)
  | [] => rfl
  | x :: l => by
    have ih := sumG_gots F sd l
    rw [List.filter_cons]
    by_cases h : x.sd = sd
    · simp [sumG, gots, h, ih]
    · simp [sumG, h, ih]
theorem gots_congr {F G : List (Int × Int)} : ∀ l : List Lot, (∀ x ∈ l, got x.id F = got x.id G) → gots F l = gots G l
  | [], _ => rfl
  | x :: l, h => by
    simp only [gots]
    rw [h x List.mem_cons_self, gots_congr l (fun y hy => h y (List.mem_cons_of_mem _ hy))]
theorem sum_side {l : List Lot} {price vol : Int} (hf : Fine l price vol) (s sd : Int) (hsd : sd = 0 ∨ sd = 1) : sumG (fills s l price vol) sd l = vol := by
  rw [sumG_gots]
  rw [gots_congr (G := fill (ord s l sd price vol) vol) _ fun x hx => ?_]
  · rw [gots_sum _ (once_filter (once_of_well hf.1) _) _ fun f hf' => ?_]
    · rw [fill_sum _ _ (ord_pos hf s sd) hf.2.2.1, tot_perm (ord_perm hf s sd)]
      have h1 := tot_el l price
      have h2 := hf.2.2.2
      unfold volume at h2
      rcases hsd with rfl | rfl
      · rw [h1.1]; omega
      · rw [h1.2]; omega
    · obtain ⟨_, x, hx, e⟩ := fill_mem _ _ (ord_pos hf s sd) hf.2.2.1 f hf'
      obtain ⟨hx1, hx2⟩ := (ord_mem hf s).1 hx
      simp only [el, Bool.and_eq_true] at hx2
      exact ⟨x, List.mem_filter.2 ⟨hx1, hx2.1⟩, e⟩
  · obtain ⟨hx1, hx2⟩ := List.mem_filter.1 hx
    have : x.sd = sd := by simpa using hx2
    rw [got_side hf s hx1, this]
theorem same_level {l : List Lot} {price vol : Int} (hf : Fine l price vol) (a b : Int) {x y : Lot} (hx : x ∈ l) (hy : y ∈ l) (hs : x.sd = y.sd) (dx : got x.id (fills a l price vol) ≠ got x.id (fills b l price vol)) (dy : got y.id (fills a l price vol) ≠ got y.id (fills b l price vol)) : x.pr = y.pr := by
  have mem : ∀ z ∈ l, got z.id (fills a l price vol) ≠ got z.id (fills b l price vol) → z ∈ ord a l z.sd price vol := fun z hz dz => by
    refine (ord_mem hf a).2 ⟨hz, ?_⟩
    cases h : el z.sd price z with
    | true => rfl
    | false => rw [got_worse hf a hz h, got_worse hf b hz h] at dz; exact absurd rfl dz
  have mx := mem x hx dx
  have my := mem y hy dy
  rw [got_side hf a hx, got_side hf b hx] at dx
  rw [got_side hf a hy, got_side hf b hy] at dy
  rw [← hs] at my dy
  exact one_level ((ord_perm hf a _).trans (ord_perm hf b _).symm) (ord_pos hf a _) hf.2.2.1 (ord_once hf a _) (ord_falls a _) (ord_falls b _) mx my dx dy
theorem same_fits {l : List Lot} {price vol : Int} (hf : Fine l price vol) (a b : Int) (hd : demand l price = vol) (hs : supply l price = vol) : fills a l price vol = fills b l price vol := by
  have key : ∀ s sd, tot (l.filter (el sd price)) ≤ vol → ord s l sd price vol = (qsOf l sd price).flatMap (lv l sd) := fun s sd h => by
    unfold ord
    refine row_fits _ (pos_of_oks hf.1.oks) sd _ _ ?_
    rw [← tot_perm (row_perm (mix_sh 0) l sd (qsOf l sd price) vol), tot_perm (order_perm 0 hf.1.oks sd price vol hf.2.1.1 hf.2.1.2)]
    exact h
  have h1 := tot_el l price
  rw [fills_eq hf a, fills_eq hf b, key a 0 (by omega), key b 0 (by omega), key a 1 (by omega), key b 1 (by omega)]
end Ra
end Go.Proofs.YtbcinejhipmomaaDoor
