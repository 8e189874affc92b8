/- A book as a list of lots: what is added, cancelled and taken of, and its levels; no program is spoken of. -/
import Derived.Test.YtbcinejhipmomaaDoorRaFacts
namespace Go.Proofs.YtbcinejhipmomaaDoor
namespace Bk
open Cv Ra

/-- where the lot of an ID stands; the length: nowhere -/
def pos (l : List Lot) (id : Int) : Nat := l.findIdx fun x => x.id == id
def del (l : List Lot) (k : Nat) : List Lot := l.take k ++ l.drop (k + 1)
def put (l : List Lot) (k : Nat) (x : Lot) : List Lot := l.take k ++ x :: l.drop (k + 1)
def less (x : Lot) (q : Int) : Lot := ⟨x.id, x.ow, x.sd, x.pr, x.q - q⟩
structure Good (l : List Lot) : Prop where
  oks : Oks l
  len : l.length ≤ 60
  once : Once l
theorem good_nil : Good [] := ⟨fun _ h => absurd h List.not_mem_nil, Nat.zero_le _, List.nodup_nil⟩

theorem pos_le (l : List Lot) (id : Int) : pos l id ≤ l.length := List.findIdx_le_length
theorem pos_has {l : List Lot} {id : Int} : has l id = true ↔ pos l id < l.length := by
  unfold has pos
  rw [List.findIdx_lt_length, List.any_eq_true]
theorem pos_hasnt {l : List Lot} {id : Int} : has l id = false ↔ pos l id = l.length := by
  have h1 := pos_has (l := l) (id := id)
  have h2 := pos_le l id
  cases h : has l id
  · simp only [h] at h1; simp at h1; simp; omega
  · have := h1.1 h; simp; omega
theorem nth_get {l : List Lot} {i : Nat} (h : i < l.length) : nth l i = l[i] := by
  unfold nth; rw [List.getD_eq_getElem?_getD, List.getElem?_eq_getElem h]; rfl
theorem pos_id {l : List Lot} {id : Int} (h : pos l id < l.length) : (nth l (pos l id)).id = id := by
  rw [nth_get h]
  have := List.findIdx_getElem (p := fun x : Lot => x.id == id) (xs := l) (w := h)
  exact eq_of_beq this
theorem split_at {l : List Lot} {k : Nat} (h : k < l.length) : l = l.take k ++ nth l k :: l.drop (k + 1) := by
  rw [nth_get h, List.getElem_cons_drop, List.take_append_drop]
theorem del_length {l : List Lot} {k : Nat} (h : k < l.length) : (del l k).length = l.length - 1 := by
  unfold del; rw [List.length_append, List.length_take, List.length_drop]; omega
theorem put_length {l : List Lot} {k : Nat} (h : k < l.length) (x : Lot) : (put l k x).length = l.length := by
  unfold put; rw [List.length_append, List.length_cons, List.length_take, List.length_drop]; omega
theorem mem_del {l : List Lot} {k : Nat} {x : Lot} (h : x ∈ del l k) : x ∈ l := by
  rcases List.mem_append.1 h with h | h
  · exact List.mem_of_mem_take h
  · exact List.mem_of_mem_drop h
theorem good_del {l : List Lot} (h : Good l) {k : Nat} (hk : k < l.length) : Good (del l k) := by
  refine ⟨fun x hx => h.oks x (mem_del hx), by rw [del_length hk]; have := h.len; omega, ?_⟩
  have ho := h.once
  unfold Once at ho ⊢
  refine List.Nodup.sublist ?_ ho
  refine List.Sublist.map _ ?_
  have e := split_at hk
  exact Eq.subst (motive := fun m => (del l k).Sublist m) e.symm (List.Sublist.append (List.Sublist.refl _) (List.sublist_cons_self _ _))
theorem good_put {l : List Lot} (h : Good l) {k : Nat} (hk : k < l.length) {x : Lot} (hx : ok x = true) (he : x.id = (nth l k).id) : Good (put l k x) := by
  refine ⟨fun y hy => ?_, by rw [put_length hk]; exact h.len, ?_⟩
  · rcases List.mem_append.1 hy with hy | hy
    · exact h.oks y (List.mem_of_mem_take hy)
    · rcases List.mem_cons.1 hy with rfl | hy
      · exact hx
      · exact h.oks y (List.mem_of_mem_drop hy)
  · have ho := h.once
    unfold Once at ho ⊢
    have e : (put l k x).map (·.id) = l.map (·.id) := by
      have e := split_at hk
      have e2 : l.map (·.id) = (l.take k ++ nth l k :: l.drop (k + 1)).map (·.id) := congrArg _ e
      rw [e2]
      simp [put, he]
    rw [e]; exact ho
theorem good_add {l : List Lot} (h : Good l) {x : Lot} (hx : ok x = true) (hn : has l x.id = false) (hl : l.length < 60) : Good (l ++ [x]) := by
  refine ⟨fun y hy => ?_, by simp; omega, ?_⟩
  · rcases List.mem_append.1 hy with hy | hy
    · exact h.oks y hy
    · rw [List.mem_singleton.1 hy]; exact hx
  · have ho := h.once
    unfold Once at ho ⊢
    rw [List.map_append, List.nodup_append]
    refine ⟨ho, by simp, fun a ha b hb => ?_⟩
    obtain ⟨y, hy, rfl⟩ := List.mem_map.1 ha
    obtain rfl : b = x.id := by simpa using hb
    intro e
    have : has l x.id = true := List.any_eq_true.2 ⟨y, hy, by simpa using e⟩
    rw [hn] at this; cases this
theorem tot_del {l : List Lot} {k : Nat} (hk : k < l.length) : tot (del l k) = tot l - (nth l k).q := by
  have e : tot l = tot (l.take k ++ nth l k :: l.drop (k + 1)) := congrArg _ (split_at hk)
  rw [e]
  simp only [del, tot_append, tot]; omega
theorem tot_put {l : List Lot} {k : Nat} (hk : k < l.length) (x : Lot) : tot (put l k x) = tot l - (nth l k).q + x.q := by
  have e : tot l = tot (l.take k ++ nth l k :: l.drop (k + 1)) := congrArg _ (split_at hk)
  rw [e]
  simp only [put, tot_append, tot]; omega
theorem tot_bound {l : List Lot} (h : Oks l) : 0 ≤ tot l ∧ tot l ≤ 1000 * l.length := by
  have := sumIf_bounds (fun _ => true) l h
  rw [← tot_filter, List.filter_eq_self.2 (fun _ _ => rfl)] at this
  exact this
theorem ok_less {x : Lot} {q : Int} (h : ok x = true) (h1 : 1 ≤ q) (h2 : q < x.q) : ok (less x q) = true := by
  have := ok_bounds h
  simp only [ok, Wi.withinB, less, Bool.and_eq_true]
  refine ⟨⟨⟨⟨⟨?_, ?_⟩, ?_, ?_⟩, ?_, ?_⟩, ?_, ?_⟩, ?_, ?_⟩ <;> exact decide_eq_true (by omega)

/-- what an addition answers: 0, or one of three errors by a number of ours -/
def addC (l : List Lot) (x : Lot) : Nat := if ok x = true then if has l x.id = true then 2 else if 60 ≤ l.length then 3 else 0 else 1
def addL (l : List Lot) (x : Lot) : List Lot := if addC l x = 0 then l ++ [x] else l
def canC (l : List Lot) (id : Int) : Nat := if has l id = true then 0 else 4
def canL (l : List Lot) (id : Int) : List Lot := if canC l id = 0 then del l (pos l id) else l
def canX (l : List Lot) (id : Int) : Lot := if canC l id = 0 then nth l (pos l id) else z
def takC (l : List Lot) (id q : Int) : Nat := if has l id = true then if Wi.withinB q 1 (nth l (pos l id)).q = true then 0 else 1 else 4
def takL (l : List Lot) (id q : Int) : List Lot := if takC l id q = 0 then if q = (nth l (pos l id)).q then del l (pos l id) else put l (pos l id) (less (nth l (pos l id)) q) else l

theorem add_ok {l : List Lot} {x : Lot} (h : addC l x = 0) : ok x = true ∧ has l x.id = false ∧ l.length < 60 := by
  unfold addC at h
  by_cases h1 : ok x = true
  · rw [if_pos h1] at h
    by_cases h2 : has l x.id = true
    · rw [if_pos h2] at h; cases h
    · rw [if_neg h2] at h
      by_cases h3 : 60 ≤ l.length
      · rw [if_pos h3] at h; cases h
      · exact ⟨h1, by simpa using h2, by omega⟩
  · rw [if_neg h1] at h; cases h
theorem good_addL {l : List Lot} (h : Good l) (x : Lot) : Good (addL l x) := by
  unfold addL
  by_cases h0 : addC l x = 0
  · rw [if_pos h0]
    obtain ⟨h1, h2, h3⟩ := add_ok h0
    exact good_add h h1 h2 h3
  · rw [if_neg h0]; exact h
theorem can_ok {l : List Lot} {id : Int} (h : canC l id = 0) : pos l id < l.length := by
  unfold canC at h
  by_cases h1 : has l id = true
  · exact pos_has.1 h1
  · rw [if_neg h1] at h; cases h
theorem good_canL {l : List Lot} (h : Good l) (id : Int) : Good (canL l id) := by
  unfold canL
  by_cases h0 : canC l id = 0
  · rw [if_pos h0]; exact good_del h (can_ok h0)
  · rw [if_neg h0]; exact h
theorem tak_ok {l : List Lot} {id q : Int} (h : takC l id q = 0) : pos l id < l.length ∧ 1 ≤ q ∧ q ≤ (nth l (pos l id)).q := by
  unfold takC at h
  by_cases h1 : has l id = true
  · rw [if_pos h1] at h
    by_cases h2 : Wi.withinB q 1 (nth l (pos l id)).q = true
    · refine ⟨pos_has.1 h1, ?_⟩
      simpa [Wi.withinB] using h2
    · rw [if_neg h2] at h; cases h
  · rw [if_neg h1] at h; cases h
theorem good_takL {l : List Lot} (h : Good l) (id q : Int) : Good (takL l id q) := by
  unfold takL
  by_cases h0 : takC l id q = 0
  · rw [if_pos h0]
    obtain ⟨h1, h2, h3⟩ := tak_ok h0
    by_cases h4 : q = (nth l (pos l id)).q
    · rw [if_pos h4]; exact good_del h h1
    · rw [if_neg h4]; exact good_put h h1 (ok_less (h.oks _ (nth_mem h1)) h2 (by omega)) rfl
  · rw [if_neg h0]; exact h
theorem tot_addL (l : List Lot) (x : Lot) : tot (addL l x) = tot l + if addC l x = 0 then x.q else 0 := by
  unfold addL
  by_cases h0 : addC l x = 0
  · rw [if_pos h0, if_pos h0, tot_append]; simp [tot]
  · rw [if_neg h0, if_neg h0]; omega
theorem tot_canL (l : List Lot) (id : Int) : tot (canL l id) + (if canC l id = 0 then (canX l id).q else 0) = tot l := by
  unfold canL canX
  by_cases h0 : canC l id = 0
  · rw [if_pos h0, if_pos h0, if_pos h0, tot_del (can_ok h0)]; omega
  · rw [if_neg h0, if_neg h0]; omega
theorem tot_takL (l : List Lot) (id q : Int) : tot (takL l id q) + (if takC l id q = 0 then q else 0) = tot l := by
  unfold takL
  by_cases h0 : takC l id q = 0
  · rw [if_pos h0, if_pos h0]
    obtain ⟨h1, h2, h3⟩ := tak_ok h0
    by_cases h4 : q = (nth l (pos l id)).q
    · rw [if_pos h4, tot_del h1]; omega
    · rw [if_neg h4, tot_put h1]; simp only [less]; omega
  · rw [if_neg h0, if_neg h0]; omega

/-- all prices, the best one of a side first -/
def pj (sd : Int) (j : Nat) : Int := if sd = 0 then 1000 - (j : Int) else 1 + (j : Int)
def all (sd : Int) : List Int := (List.range 1000).map (pj sd)
theorem falls_all (sd : Int) : Falls sd (all sd) := by
  refine List.pairwise_map.2 (List.pairwise_lt_range.imp fun {a b} h => ?_)
  unfold pj better
  split <;> simp <;> omega
theorem mem_all {sd p : Int} : p ∈ all sd ↔ 1 ≤ p ∧ p ≤ 1000 := by
  unfold all pj
  by_cases hs : sd = 0
  · simp only [hs, if_true, List.mem_map, List.mem_range]
    constructor
    · rintro ⟨j, hj, rfl⟩; omega
    · rintro ⟨h3, h4⟩; exact ⟨(1000 - p).toNat, by omega, by omega⟩
  · simp only [hs, if_false, List.mem_map, List.mem_range]
    constructor
    · rintro ⟨j, hj, rfl⟩; omega
    · rintro ⟨h3, h4⟩; exact ⟨(p - 1).toNat, by omega, by omega⟩
/-- the prices of a side's lots, the best one first -/
def prs (l : List Lot) (sd : Int) : List Int := (all sd).filter fun p => !(lv l sd p).isEmpty
theorem falls_prs (l : List Lot) (sd : Int) : Falls sd (prs l sd) := (falls_all sd).filter _
theorem nodup_prs (l : List Lot) (sd : Int) : (prs l sd).Nodup := (falls_prs l sd).imp fun {a b} h e => by
  rw [e, better_irrefl] at h; cases h
theorem mem_lv {l : List Lot} {sd p : Int} (ho : Oks l) (h : lv l sd p ≠ []) : 1 ≤ p ∧ p ≤ 1000 := by
  obtain ⟨x, hx⟩ := List.exists_mem_of_ne_nil _ h
  obtain ⟨hx1, hx2⟩ := List.mem_filter.1 hx
  simp only [Bool.and_eq_true, beq_iff_eq] at hx2
  have := (ok_bounds (ho x hx1)).2.2.2.1
  rw [← hx2.2]
  exact this
theorem mem_prs {l : List Lot} {sd p : Int} (ho : Oks l) : p ∈ prs l sd ↔ lv l sd p ≠ [] := by
  unfold prs
  rw [List.mem_filter, mem_all]
  constructor
  · rintro ⟨_, hne⟩; simpa using hne
  · intro h; exact ⟨mem_lv ho h, by simpa using h⟩
theorem prs_up (l : List Lot) (sd : Int) : (if sd = 0 then (prs l sd).reverse else prs l sd).Pairwise (· < ·) := by
  have h := falls_prs l sd
  unfold Falls at h
  split
  · rename_i e
    subst e
    rw [List.pairwise_reverse]
    exact h.imp fun h => by simpa [better] using h
  · rename_i e
    exact h.imp fun h => by simpa [better, e] using h

/-- a level: price, quantity, how many -/
structure Lev where
  pr : Int
  q : Int
  m : Int
def lev (l : List Lot) (sd p : Int) : Lev := ⟨p, tot (lv l sd p), (lv l sd p).length⟩
def levs (l : List Lot) (sd : Int) : List Lev := (prs l sd).map (lev l sd)
def lq : List Lev → Int
  | [] => 0
  | x :: l => x.q + lq l
def lm : List Lev → Int
  | [] => 0
  | x :: l => x.m + lm l
theorem lq_append : ∀ a b : List Lev, lq (a ++ b) = lq a + lq b
  | [], b => by simp [lq]
  | x :: a, b => by simp [lq, lq_append a b]; omega
theorem lm_append : ∀ a b : List Lev, lm (a ++ b) = lm a + lm b
  | [], b => by simp [lm]
  | x :: a, b => by simp [lm, lm_append a b]; omega
theorem lq_levs (l : List Lot) (sd : Int) : ∀ ps : List Int, lq (ps.map (lev l sd)) = tot (ps.flatMap (lv l sd))
  | [] => rfl
  | p :: ps => by simp [lq, lev, tot_append, lq_levs l sd ps]
theorem lm_levs (l : List Lot) (sd : Int) : ∀ ps : List Int, lm (ps.map (lev l sd)) = (ps.flatMap (lv l sd)).length
  | [] => rfl
  | p :: ps => by simp [lm, lev, lm_levs l sd ps]
theorem prs_perm {l : List Lot} (ho : Oks l) (sd : Int) : ((prs l sd).flatMap (lv l sd)).Perm (l.filter fun x => x.sd == sd) := by
  refine (levels_perm l sd _ (nodup_prs l sd)).trans ?_
  rw [List.filter_congr (q := fun x => x.sd == sd) fun x hx => ?_]
  cases hs : x.sd == sd
  · rfl
  · rw [Bool.true_and, List.contains_iff_mem, mem_prs ho]
    intro e
    have : x ∈ lv l sd x.pr := List.mem_filter.2 ⟨hx, by simp [hs]⟩
    rw [e] at this; cases this
theorem lq_side {l : List Lot} (ho : Oks l) (sd : Int) : lq (levs l sd) = tot (l.filter fun x => x.sd == sd) := by
  unfold levs; rw [lq_levs, tot_perm (prs_perm ho sd)]
theorem lm_side {l : List Lot} (ho : Oks l) (sd : Int) : lm (levs l sd) = (l.filter fun x => x.sd == sd).length := by
  unfold levs; rw [lm_levs, (prs_perm ho sd).length_eq]
theorem sides_perm {l : List Lot} (ho : Oks l) : (l.filter (fun x => x.sd == 0) ++ l.filter (fun x => x.sd == 1)).Perm l := by
  refine (filter_or_perm _ _ l fun x _ h => ?_).symm.trans ?_
  · have : x.sd = 0 := by simpa using h
    simp [this]
  · rw [List.filter_eq_self.2 fun x hx => ?_]
    have := (ok_bounds (ho x hx)).2.2.1
    simp; omega
theorem lq_both {l : List Lot} (ho : Oks l) : lq (levs l 0) + lq (levs l 1) = tot l := by
  rw [lq_side ho, lq_side ho, ← tot_append, tot_perm (sides_perm ho)]
theorem lm_both {l : List Lot} (ho : Oks l) : lm (levs l 0) + lm (levs l 1) = l.length := by
  rw [lm_side ho, lm_side ho]
  have := (sides_perm ho).length_eq
  rw [List.length_append] at this
  omega
theorem prs_length {l : List Lot} (ho : Oks l) (sd : Int) : (prs l sd).length ≤ l.length := by
  have h1 : ∀ ps : List Int, (∀ p ∈ ps, lv l sd p ≠ []) → ps.length ≤ (ps.flatMap (lv l sd)).length := by
    intro ps
    induction ps with
    | nil => intro _; simp
    | cons p ps ih =>
      intro h
      have := ih fun q hq => h q (List.mem_cons_of_mem _ hq)
      have hp := List.length_pos_iff.2 (h p List.mem_cons_self)
      simp only [List.flatMap_cons, List.length_cons, List.length_append]; omega
  have h2 := h1 (prs l sd) fun p hp => (mem_prs ho).1 hp
  rw [(prs_perm ho sd).length_eq] at h2
  exact Nat.le_trans h2 (List.length_filter_le _ _)
end Bk
end Go.Proofs.YtbcinejhipmomaaDoor
