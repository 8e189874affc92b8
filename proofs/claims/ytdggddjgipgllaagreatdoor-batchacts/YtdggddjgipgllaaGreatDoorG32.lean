/- Fills, unit by unit: what rests behind each trade; no walk. -/
import Derived.Test.YtdggddjgipgllaaGreatDoorG01
import Derived.Test.YtdggddjgipgllaaGreatDoorG22
namespace Go.Proofs.YtdggddjgipgllaaGreatDoor
namespace Fu
open Cv Bk Ra

def buyB (l : List Lot) (id : Int) : Bool := (nth l (pos l id)).sd == 0
def units (l : List Lot) (z : Bool) : List (Int × Int) → List Int
 | [] => []
 | f :: F => (if buyB l f.1 = z then List.replicate f.2.toNat f.1 else []) ++ units l z F
theorem units_append (l : List Lot) (z : Bool) : ∀ F G : List (Int × Int), units l z (F ++ G) = units l z F ++ units l z G
 | [], G => rfl
 | f :: F, G => by rw [List.cons_append, units, units, units_append l z F G, List.append_assoc]
def cnt (id : Int) (u : List Int) : Int := (u.count id : Nat)
theorem cnt_nil (id : Int) : cnt id [] = 0 := rfl
theorem cnt_append (id : Int) (a b : List Int) : cnt id (a ++ b) = cnt id a + cnt id b := by unfold cnt; rw [List.count_append]; omega
theorem cnt_one (id j : Int) : cnt id [j] = if j = id then 1 else 0 := by
 unfold cnt
 by_cases h : j = id
 ·simp [h]
 ·rw [if_neg h, List.count_singleton]
  simp [h]
theorem cnt_nonneg (id : Int) (u : List Int) : 0 ≤ cnt id u := by unfold cnt; omega
theorem cnt_units {l : List Lot} {z : Bool} {id : Int} : ∀ {F : List (Int × Int)}, (∀ f ∈ F, 0 ≤ f.2) → cnt id (units l z F) = if buyB l id = z then got id F else 0
 | [], _ => by unfold units; rw [cnt_nil]; simp [got]
 | f :: F, h => by
  have ih := cnt_units (l := l) (z := z) (id := id) (F := F) (fun g hg => h g (List.mem_cons_of_mem _ hg))
  have hf := h f (List.mem_cons_self ..)
  rw [units, cnt_append, ih, got]
  have hr : cnt id (if buyB l f.1 = z then List.replicate f.2.toNat f.1 else []) = if buyB l f.1 = z then (if f.1 = id then f.2 else 0) else 0 := by
   by_cases hz : buyB l f.1 = z
   ·rw [if_pos hz, if_pos hz]
    unfold cnt
    rw [List.count_replicate]
    by_cases he : f.1 = id
    ·rw [if_pos he]; simp [he]; omega
    ·rw [if_neg he]; simp [he]
   ·rw [if_neg hz, if_neg hz]; rfl
  rw [hr]
  by_cases he : f.1 = id
  ·rw [← he]
   split <;> simp
  ·rw [if_neg he]
   split <;> split <;> simp
theorem cnt_take_lt {u : List Int} {t : Nat} (ht : t < u.length) : cnt (u.getD t 0) (u.take t) + 1 ≤ cnt (u.getD t 0) u := by
 have e : u = u.take t ++ u.getD t 0 :: u.drop (t + 1) := by
  rw [List.getD_eq_getElem?_getD, List.getElem?_eq_getElem ht, Option.getD_some, List.getElem_cons_drop, List.take_append_drop]
 have : cnt (u.getD t 0) u = cnt (u.getD t 0) (u.take t) + (1 + cnt (u.getD t 0) (u.drop (t + 1))) := by
  have h1 : cnt (u.getD t 0) u = cnt (u.getD t 0) (u.take t ++ ([u.getD t 0] ++ u.drop (t + 1))) := by
   congr 1
  rw [h1, cnt_append, cnt_append, cnt_one, if_pos rfl]
 have := cnt_nonneg (u.getD t 0) (u.drop (t + 1))
 omega
theorem cnt_take_le (id : Int) (u : List Int) (t : Nat) : cnt id (u.take t) ≤ cnt id u := by
 have : cnt id u = cnt id (u.take t ++ u.drop t) := by rw [List.take_append_drop]
 rw [this, cnt_append]
 have := cnt_nonneg id (u.drop t)
 omega
theorem cnt_take_succ (id : Int) {u : List Int} {t : Nat} (ht : t < u.length) : cnt id (u.take (t + 1)) = cnt id (u.take t) + if u.getD t 0 = id then 1 else 0 := by
 rw [List.take_add_one, List.getElem?_eq_getElem ht, Option.toList_some, cnt_append, cnt_one, List.getD_eq_getElem?_getD, List.getElem?_eq_getElem ht, Option.getD_some]

theorem fills_mem {l : List Lot} {price vol : Int} (hf : Fine l price vol) (s : Int) : ∀ f ∈ fills s l price vol, 1 ≤ f.2 ∧ ∃ x ∈ l, x.id = f.1 := by
 intro f hm
 rw [fills_eq hf s] at hm
 rcases List.mem_append.1 hm with h | h
 ·obtain ⟨h1, x, hx, he⟩ := fill_mem _ _ (ord_pos hf s 0) hf.2.2.1 f h
  exact ⟨h1, x, ((ord_mem hf s).1 hx).1, he⟩
 ·obtain ⟨h1, x, hx, he⟩ := fill_mem _ _ (ord_pos hf s 1) hf.2.2.1 f h
  exact ⟨h1, x, ((ord_mem hf s).1 hx).1, he⟩
theorem units_mem {l : List Lot} {z : Bool} {id : Int} : ∀ {F : List (Int × Int)}, id ∈ units l z F → buyB l id = z ∧ ∃ f ∈ F, f.1 = id
 | [], h => by cases h
 | f :: F, h => by
  rw [units] at h
  rcases List.mem_append.1 h with h | h
  ·split at h
   ·rename_i hz
    have he := List.eq_of_mem_replicate h
    exact ⟨by rw [he]; exact hz, f, List.mem_cons_self .., he.symm⟩
   ·cases h
  ·obtain ⟨h1, g, hg, he⟩ := units_mem h
   exact ⟨h1, g, List.mem_cons_of_mem _ hg, he⟩
theorem buyB_of {l : List Lot} (ho : Once l) {x : Lot} (hx : x ∈ l) : buyB l x.id = (x.sd == 0) := by
 have hh : has l x.id = true := List.any_eq_true.2 ⟨x, hx, by simp⟩
 have hk := pos_has.1 hh
 have hm : nth l (pos l x.id) ∈ l := by rw [nth_get hk]; exact List.getElem_mem hk
 unfold buyB
 rw [once_eq ho hm hx (pos_id hk)]

def taken (bu se : List Int) (t : Nat) (id : Int) : Int := cnt id (bu.take t) + cnt id (se.take t)
theorem unit_due {l : List Lot} {price vol : Int} (hf : Fine l price vol) (s : Int) (z : Bool) {t : Nat} (ht : t < (units l z (fills s l price vol)).length) (w : List Int) (hw : w = units l (!z) (fills s l price vol)) (k : Nat) :
  ∃ x ∈ l, x.id = (units l z (fills s l price vol)).getD t 0 ∧ (x.sd == 0) = z ∧ cnt x.id ((units l z (fills s l price vol)).take t) + cnt x.id (w.take k) + 1 ≤ x.q := by
 have hnn : ∀ f ∈ fills s l price vol, 0 ≤ f.2 := fun f hm => by have := (fills_mem hf s f hm).1; omega
 have hmem : (units l z (fills s l price vol)).getD t 0 ∈ units l z (fills s l price vol) := by
  rw [List.getD_eq_getElem?_getD, List.getElem?_eq_getElem ht]; exact List.getElem_mem ht
 obtain ⟨hz, f, hfm, hfe⟩ := units_mem hmem
 obtain ⟨_, x, hx, hxe⟩ := fills_mem hf s f hfm
 have hid : x.id = (units l z (fills s l price vol)).getD t 0 := by rw [hxe, hfe]
 have ho := once_of_well hf.1
 refine ⟨x, hx, hid, by rw [← buyB_of ho hx, hid]; exact hz, ?_⟩
 have h1 := cnt_take_lt ht
 rw [← hid, cnt_units hnn] at h1
 have h2 : cnt x.id (w.take k) = 0 := by
  have h3 := cnt_take_le x.id w k
  have h4 := cnt_nonneg x.id (w.take k)
  rw [hw, cnt_units hnn, if_neg (by rw [hid, hz]; cases z <;> simp)] at h3
  rw [hw] at h4 ⊢
  omega
 rw [h2]
 have h5 := (got_in hf s hx).2
 rw [if_pos (by rw [hid]; exact hz)] at h1
 omega
theorem unit_step {l : List Lot} {price vol : Int} (hf : Fine l price vol) (s : Int) {t : Nat} (hb : t < (units l true (fills s l price vol)).length) (hs : t < (units l false (fills s l price vol)).length) :
  takL (takL (rem (taken (units l true (fills s l price vol)) (units l false (fills s l price vol)) t) l) ((units l true (fills s l price vol)).getD t 0) 1) ((units l false (fills s l price vol)).getD t 0) 1
   = rem (taken (units l true (fills s l price vol)) (units l false (fills s l price vol)) (t + 1)) l := by
 obtain ⟨x, hx, hxi, hxs, hxq⟩ := unit_due hf s true hb _ rfl t
 obtain ⟨y, hy, hyi, hys, hyq⟩ := unit_due hf s false hs _ rfl t
 have ho := once_of_well hf.1
 simp only [Bool.not_true, Bool.not_false] at hxq hyq
 have hne : y.id ≠ x.id := fun e => by
  have := once_eq ho hy hx e
  rw [this, hxs] at hys
  cases hys
 rw [← hxi, takL_rem ho hx (by omega) (by unfold taken; omega), ← hyi, takL_rem ho hy (by omega) (by unfold more taken; rw [if_neg hne]; omega)]
 congr 1
 funext j
 unfold more taken
 rw [cnt_take_succ j hb, cnt_take_succ j hs, ← hxi, ← hyi]
 repeat' split
 all_goals omega
end Fu
namespace Fu
open Cv Bk Ra
theorem units_len (l : List Lot) (z : Bool) : ∀ F : List (Int × Int), (∀ f ∈ F, 0 ≤ f.2) → ((units l z F).length : Int) ≤ qs F
 | [], _ => by simp [units, qs]
 | f :: F, h => by
  have ih := units_len l z F (fun g hg => h g (List.mem_cons_of_mem _ hg))
  have hf := h f (List.mem_cons_self ..)
  rw [units, List.length_append, qs]
  split
  ·rw [List.length_replicate]; omega
  ·simp; omega
theorem qs_append : ∀ a b : List (Int × Int), qs (a ++ b) = qs a + qs b
 | [], b => by simp [qs]
 | f :: a, b => by rw [List.cons_append, qs, qs, qs_append a b]; omega
theorem qs_nonneg : ∀ F : List (Int × Int), (∀ f ∈ F, 0 ≤ f.2) → 0 ≤ qs F
 | [], _ => by simp [qs]
 | f :: F, h => by
  have := qs_nonneg F (fun g hg => h g (List.mem_cons_of_mem _ hg))
  have hf := h f (List.mem_cons_self ..)
  rw [qs]; omega
theorem qs_fills {l : List Lot} {price vol : Int} (hf : Fine l price vol) (s : Int) : qs (fills s l price vol) ≤ 2 * vol := by
 rw [fills_eq hf s, qs_append, fill_sum _ _ (ord_pos hf s 0) hf.2.2.1, fill_sum _ _ (ord_pos hf s 1) hf.2.2.1]
 omega
theorem qs_take {F : List (Int × Int)} (h : ∀ f ∈ F, 0 ≤ f.2) {k : Nat} (hk : k < F.length) : qs (F.take k) + (F.getD k (0, 0)).2 ≤ qs F := by
 have e : F = F.take k ++ F.getD k (0, 0) :: F.drop (k + 1) := by
  rw [List.getD_eq_getElem?_getD, List.getElem?_eq_getElem hk, Option.getD_some, List.getElem_cons_drop, List.take_append_drop]
 have e2 : qs F = qs (F.take k ++ F.getD k (0, 0) :: F.drop (k + 1)) := congrArg _ e
 rw [e2, qs_append, qs]
 have := qs_nonneg (F.drop (k + 1)) (fun g hg => h g (List.mem_of_mem_drop hg))
 omega
theorem units_snoc (l : List Lot) (z : Bool) (F : List (Int × Int)) (f : Int × Int) : units l z (F ++ [f]) = units l z F ++ (if buyB l f.1 = z then List.replicate f.2.toNat f.1 else []) := by
 rw [units_append]; simp [units]
end Fu
namespace Fs
open Cv Bk Ra Pu Fu
def settC (f : Nat → Int) (i : Nat) (price : Int) (l : List Lot) (c : Int → Int) (j : Nat) : Int := f j + sumBy (fun x => eff i price j x (c x.id)) l
theorem settC_zero (f : Nat → Int) (i : Nat) (price : Int) (l : List Lot) : settC f i price l (fun _ => 0) = f := by
 funext j
 unfold settC
 rw [sumBy_zero fun x _ => eff_zero i price j x]
 omega
theorem settC_step (f : Nat → Int) (i : Nat) (price : Int) {l : List Lot} (ho : Once l) {x y : Lot} (hx : x ∈ l) (hy : y ∈ l) (sx : x.sd = 0) (sy : y.sd ≠ 0) (c : Int → Int) (q : Int) (j : Nat) : six (settC f i price l c) x.ow.toNat y.ow.toNat i x.pr price q j = settC f i price l (more (more c x.id q) y.id q) j := by
 rw [six_eff _ i price sx sy]
 unfold settC
 rw [sum_more (lin_eff i price j) (more c x.id q) q ho hy, sum_more (lin_eff i price j) c q ho hx]
 omega
theorem taken_more {bu se : List Int} {t : Nat} (hb : t < bu.length) (hs : t < se.length) : more (more (taken bu se t) (bu.getD t 0) 1) (se.getD t 0) 1 = taken bu se (t + 1) := by
 funext j
 unfold more taken
 rw [cnt_take_succ j hb, cnt_take_succ j hs]
 repeat' split
 all_goals omega
theorem taken_full {l : List Lot} {F : List (Int × Int)} (hF : ∀ f ∈ F, 0 ≤ f.2) {t : Nat} (hb : (units l true F).length ≤ t) (hs : (units l false F).length ≤ t) (id : Int) : taken (units l true F) (units l false F) t id = got id F := by
 unfold taken
 rw [List.take_of_length_le hb, List.take_of_length_le hs, cnt_units hF, cnt_units hF]
 cases buyB l id <;> simp
theorem settC_full (f : Nat → Int) (i : Nat) (price : Int) {l : List Lot} {F : List (Int × Int)} (hF : ∀ f ∈ F, 0 ≤ f.2) {t : Nat} (hb : (units l true F).length ≤ t) (hs : (units l false F).length ≤ t) : settC f i price l (taken (units l true F) (units l false F) t) = sett f i price l F := by
 funext j
 unfold settC sett
 rw [sumBy_congr fun x _ => by rw [taken_full hF hb hs]]
theorem units_all {l : List Lot} {z : Bool} : ∀ {F : List (Int × Int)}, (∀ f ∈ F, buyB l f.1 = z ∧ 0 ≤ f.2) → ((units l z F).length : Int) = qs F
 | [], _ => by simp [units, qs]
 | f :: F, h => by
  have ih := units_all (l := l) (z := z) (F := F) fun g hg => h g (List.mem_cons_of_mem _ hg)
  have hf := h f (List.mem_cons_self ..)
  rw [units, List.length_append, if_pos hf.1, List.length_replicate, qs]
  omega
theorem units_none {l : List Lot} {z : Bool} : ∀ {F : List (Int × Int)}, (∀ f ∈ F, buyB l f.1 ≠ z) → units l z F = []
 | [], _ => rfl
 | f :: F, h => by
  rw [units, if_neg (h f (List.mem_cons_self ..)), units_none fun g hg => h g (List.mem_cons_of_mem _ hg)]
  rfl
theorem fill_vol {l : List Lot} {price vol : Int} (hf : Fine l price vol) (s : Int) {sd : Int} (hsd : sd = 0 ∨ sd = 1) : qs (fill (ord s l sd price vol) vol) = vol := by
 rw [fill_sum _ _ (ord_pos hf s sd) hf.2.2.1, tot_perm (ord_perm hf s sd)]
 have h1 := tot_el l price
 have h2 := hf.2.2.2
 unfold Cv.volume at h2
 rcases hsd with rfl | rfl
 ·rw [h1.1]; omega
 ·rw [h1.2]; omega
theorem fill_side {l : List Lot} {price vol : Int} (hf : Fine l price vol) (s : Int) (sd : Int) : ∀ f ∈ fill (ord s l sd price vol) vol, buyB l f.1 = (sd == 0) ∧ 0 ≤ f.2 := fun f h => by
 obtain ⟨h1, x, hx, he⟩ := fill_mem _ _ (ord_pos hf s sd) hf.2.2.1 f h
 obtain ⟨h2, h3⟩ := (ord_mem hf s).1 hx
 refine ⟨?_, by omega⟩
 rw [← he, buyB_of (once_of_well hf.1) h2]
 unfold el at h3
 simp only [Bool.and_eq_true, beq_iff_eq] at h3
 rw [h3.1]
theorem units_vol {l : List Lot} {price vol : Int} (hf : Fine l price vol) (s : Int) (z : Bool) : ((units l z (fills s l price vol)).length : Int) = vol := by
 rw [fills_eq hf s, units_append]
 have h0 : ∀ f ∈ fill (ord s l 0 price vol) vol, buyB l f.1 = true ∧ 0 ≤ f.2 := fill_side hf s 0
 have h1 : ∀ f ∈ fill (ord s l 1 price vol) vol, buyB l f.1 = false ∧ 0 ≤ f.2 := fill_side hf s 1
 cases z with
 | true => rw [units_none (F := fill (ord s l 1 price vol) vol) fun f h => by rw [(h1 f h).1]; decide, List.append_nil, units_all h0, fill_vol hf s (.inl rfl)]
 | false => rw [units_none (F := fill (ord s l 0 price vol) vol) fun f h => by rw [(h0 f h).1]; decide, List.nil_append, units_all h1, fill_vol hf s (.inr rfl)]
end Fs
namespace Fs
open Cv Bk Ra Pu Fu
def ones (u : List Int) : List (Int × Int) := u.map fun a => (a, 1)
theorem cnt_cons (id a : Int) (u : List Int) : cnt id (a :: u) = (if a = id then 1 else 0) + cnt id u := by
 rw [show a :: u = [a] ++ u from rfl, cnt_append, cnt_one]
theorem got_ones (id : Int) : ∀ u : List Int, got id (ones u) = cnt id u
 | [] => rfl
 | a :: u => by
  rw [cnt_cons, ← got_ones id u]
  rfl
def part (bu se : List Int) (t : Nat) : List (Int × Int) := ones (bu.take t) ++ ones (se.take t)
theorem got_part (bu se : List Int) (t : Nat) (id : Int) : got id (part bu se t) = taken bu se t id := by
 unfold part taken
 rw [got_append, got_ones, got_ones]
theorem sett_part (f : Nat → Int) (i : Nat) (price : Int) (l : List Lot) (bu se : List Int) (t : Nat) : sett f i price l (part bu se t) = settC f i price l (taken bu se t) := by
 funext j
 unfold sett settC
 rw [sumBy_congr fun x _ => by rw [got_part]]
theorem rest_part (l : List Lot) (bu se : List Int) (t : Nat) : restL (part bu se t) l = rem (taken bu se t) l := by
 unfold restL
 rw [show (fun id => got id (part bu se t)) = taken bu se t from funext fun id => got_part bu se t id]
theorem lin_id : Lin (fun _ q => q) := ⟨fun _ _ _ => rfl, fun _ _ _ => rfl⟩
theorem sum_units {l : List Lot} (ho : Once l) {sd k : Int} : ∀ {u : List Int}, (∀ a ∈ u, ∃ x ∈ l, x.id = a ∧ (if x.sd = sd then (1 : Int) else 0) = k) → sumBy (fun x => if x.sd = sd then cnt x.id u else 0) l = k * u.length
 | [], _ => by rw [sumBy_zero fun x _ => by rw [cnt_nil]; split <;> rfl]; simp
 | a :: u, h => by
  obtain ⟨x, hx, he, hk⟩ := h a (List.mem_cons_self ..)
  have ih := sum_units ho (sd := sd) (k := k) (u := u) fun b hb => h b (List.mem_cons_of_mem _ hb)
  have hs := sum_more (lin_side lin_id sd) (fun id => cnt id u) 1 ho hx
  have e : sumBy (fun y => if y.sd = sd then cnt y.id (a :: u) else 0) l = sumBy (fun y => if y.sd = sd then more (fun id => cnt id u) x.id 1 y.id else 0) l := sumBy_congr fun y _ => by
   rw [cnt_cons, ← he]
   unfold more
   by_cases h1 : x.id = y.id
   ·rw [if_pos h1, if_pos h1.symm, Int.add_comm]
   ·rw [if_neg h1, if_neg (Ne.symm h1), Int.zero_add]
  rw [e, hs, ih, hk, List.length_cons, show ((u.length + 1 : Nat) : Int) = (u.length : Int) + 1 by omega, Int.mul_add, Int.mul_one]
theorem unit_lot {l : List Lot} {price vol : Int} (hf : Fine l price vol) (s : Int) {z : Bool} {a : Int} (h : a ∈ units l z (fills s l price vol)) : ∃ x ∈ l, x.id = a ∧ (x.sd == 0) = z := by
 obtain ⟨hz, f, hfm, hfe⟩ := units_mem h
 obtain ⟨_, x, hx, hxe⟩ := fills_mem hf s f hfm
 exact ⟨x, hx, by rw [hxe, hfe], by rw [← buyB_of (once_of_well hf.1) hx, hxe, hfe]; exact hz⟩
theorem part_fil {l : List Lot} {price vol : Int} (hf : Fine l price vol) (s : Int) (t : Nat) (ht : (t : Int) ≤ vol) : Fil l price (part (units l true (fills s l price vol)) (units l false (fills s l price vol)) t) := by
 have ho := once_of_well hf.1
 have hfil := fil_of hf s
 have hnn : ∀ f ∈ fills s l price vol, 0 ≤ f.2 := fun f hm => by have := (fills_mem hf s f hm).1; omega
 have hle : ∀ id, 0 ≤ taken (units l true (fills s l price vol)) (units l false (fills s l price vol)) t id ∧ taken (units l true (fills s l price vol)) (units l false (fills s l price vol)) t id ≤ got id (fills s l price vol) := fun id => by
  rw [← taken_full (l := l) hnn (t := max (units l true (fills s l price vol)).length (units l false (fills s l price vol)).length) (Nat.le_max_left ..) (Nat.le_max_right ..) id]
  unfold taken
  rw [List.take_of_length_le (Nat.le_max_left ..), List.take_of_length_le (Nat.le_max_right ..)]
  have h1 := cnt_take_le id (units l true (fills s l price vol)) t
  have h2 := cnt_take_le id (units l false (fills s l price vol)) t
  have h3 := cnt_nonneg id ((units l true (fills s l price vol)).take t)
  have h4 := cnt_nonneg id ((units l false (fills s l price vol)).take t)
  omega
 have hb : ∀ a ∈ (units l true (fills s l price vol)).take t, ∃ x ∈ l, x.id = a ∧ x.sd = 0 := fun a ha => by
  obtain ⟨x, hx, he, hz⟩ := unit_lot hf s (List.mem_of_mem_take ha)
  exact ⟨x, hx, he, by simpa using hz⟩
 have hs : ∀ a ∈ (units l false (fills s l price vol)).take t, ∃ x ∈ l, x.id = a ∧ x.sd = 1 := fun a ha => by
  obtain ⟨x, hx, he, hz⟩ := unit_lot hf s (List.mem_of_mem_take ha)
  have hn : x.sd ≠ 0 := by simpa using hz
  have := ok_bounds (hf.1.oks x hx)
  exact ⟨x, hx, he, by omega⟩
 have lb : (((units l true (fills s l price vol)).take t).length : Int) = t := by rw [List.length_take]; have := units_vol hf s true; omega
 have ls : (((units l false (fills s l price vol)).take t).length : Int) = t := by rw [List.length_take]; have := units_vol hf s false; omega
 refine ⟨fun f hm => ?_, fun x hx => ?_, fun x hx h => ?_, ?_⟩
 ·unfold part ones at hm
  rcases List.mem_append.1 hm with h | h
  ·obtain ⟨a, ha, rfl⟩ := List.mem_map.1 h
   obtain ⟨x, hx, he, _⟩ := hb a ha
   exact ⟨Int.le_refl _, x, hx, he⟩
  ·obtain ⟨a, ha, rfl⟩ := List.mem_map.1 h
   obtain ⟨x, hx, he, _⟩ := hs a ha
   exact ⟨Int.le_refl _, x, hx, he⟩
 ·rw [got_part]
  have := hle x.id
  have := (hfil.le x hx).2
  omega
 ·rw [got_part] at h
  exact hfil.el x hx (by have := hle x.id; omega)
 ·have e : ∀ sd : Int, sumBy (fun x => if x.sd = sd then got x.id (part (units l true (fills s l price vol)) (units l false (fills s l price vol)) t) else 0) l = sumBy (fun x => if x.sd = sd then cnt x.id ((units l true (fills s l price vol)).take t) else 0) l + sumBy (fun x => if x.sd = sd then cnt x.id ((units l false (fills s l price vol)).take t) else 0) l := fun sd => by
   rw [← sumBy_add]
   refine sumBy_congr fun x _ => ?_
   rw [got_part]
   unfold taken
   split <;> omega
  rw [e 0, e 1, sum_units ho (k := 1) (fun a ha => by obtain ⟨x, hx, he, h0⟩ := hb a ha; exact ⟨x, hx, he, if_pos h0⟩), sum_units ho (k := 0) (fun a ha => by obtain ⟨x, hx, he, h0⟩ := hs a ha; exact ⟨x, hx, he, if_neg (by omega)⟩),
   sum_units ho (k := 0) (fun a ha => by obtain ⟨x, hx, he, h0⟩ := hb a ha; exact ⟨x, hx, he, if_neg (by omega)⟩), sum_units ho (k := 1) (fun a ha => by obtain ⟨x, hx, he, h0⟩ := hs a ha; exact ⟨x, hx, he, if_pos h0⟩), lb, ls]
  omega
end Fs
namespace Fs
open Cv Bk Ra Pu Fu
theorem FOk.trade_ok {L : Nat → List Lot} {f : Nat → Int} (h : FOk L f) {i : Nat} (hi : i < 3) {price : Int} (hp : 1 ≤ price ∧ price ≤ 1000) {x y : Lot} (hx' : x ∈ L i) (hy' : y ∈ L i) (sx : x.sd = 0) (sy : y.sd = 1) (px : price ≤ x.pr) (py : y.pr ≤ price) {q : Int} (q1 : 1 ≤ q) (q2 : q ≤ x.q) (q3 : q ≤ y.q) :
  tradeC f i x y price q = 0 ∧ tradeF f i x y price q = six f x.ow.toNat y.ow.toNat i x.pr price q := by
 have wx := well_of hi ((h.bk i hi).oks x hx')
 have wy := well_of hi ((h.bk i hi).oks y hy')
 have sy0 : y.sd ≠ 0 := by omega
 have bx := Cv.ok_bounds (well_ok wx)
 have by' := Cv.ok_bounds (well_ok wy)
 have hxow : x.ow.toNat < 6 := by omega
 have hyow : y.ow.toNat < 6 := by omega
 have it : ((i : Nat) : Int).toNat = i := Int.toNat_natCast i
 have hpoor := not_poor h.held (fun j hj => (h.bk j hj).oks) hi hx' hy' sx sy0 q2 q3
 have hpq : price * q ≤ x.pr * q := Int.mul_le_mul_of_nonneg_right px (by omega)
 have hp2 := hpoor
 simp only [poor, Bool.or_eq_false_iff, decide_eq_false_iff_not] at hp2
 have hC0 : tchk i x y price q = 0 := by
  unfold tchk
  rw [if_pos ⟨wx, wy⟩, if_pos ⟨sx, sy⟩, if_pos ⟨hp, q1, q2, q3⟩, if_pos ⟨py, px⟩]
 have hover : over f x.ow.toNat y.ow.toNat i price q = false := by
  unfold over
  by_cases e : x.ow.toNat = y.ow.toNat
  ·simp [e]
  ·have c1 := cash_le h.good hxow hyow e
   have c2 := stock_le h.good hi hxow hyow e
   have c3 := h.cash
   have c4 := h.stock i hi
   have c5 := h.good.cash _ hxow
   have c6 := h.good.stock _ i hyow hi
   have d1 : decide (1073741824 < f (x.ow.toNat * 8 + 2 + i) + q) = false := by simp; omega
   have d2 : decide (1099511627776 < f (y.ow.toNat * 8) + price * q) = false := by simp; omega
   rw [d1, d2]; simp
 have hC : tradeC f i x y price q = 0 := by
  unfold tradeC
  rw [if_pos hC0, it, if_neg (by rw [hpoor]; decide), if_neg (by rw [hover]; decide)]
 exact ⟨hC, by unfold tradeF; rw [if_pos hC, it]⟩
theorem TI.goodG {i : Nat} (hi : i < 3) {price : Int} (hp : 1 ≤ price ∧ price ≤ 1000) {G : Nat → Int} : ∀ (m : Nat) (f : Nat → Int) (bs ss : List Lot), bs.length + ss.length ≤ m → TI i price G f bs ss → Pu.Good G
 | m, f, [], ss, _, h => by
  have e : f = G := funext (h.done (.inl rfl))
  rw [← e]; exact h.good
 | m, f, x :: bs, [], _, h => by
  have e : f = G := funext (h.done (.inr rfl))
  rw [← e]; exact h.good
 | 0, f, x :: bs, y :: ss, hm, h => by simp at hm
 | m + 1, f, x :: bs, y :: ss, hm, h => by
  obtain ⟨_, h2⟩ := h.step hi hp rfl
  have hl : (wo (x :: bs) (min x.q y.q)).length + (wo (y :: ss) (min x.q y.q)).length ≤ m := by
   rw [wo_cons, wo_cons]
   simp only [List.length_cons] at hm
   split <;> split <;> (try simp only [List.length_cons]) <;> omega
  exact TI.goodG hi hp m _ _ _ hl h2
theorem FOk.sett {L : Nat → List Lot} {f : Nat → Int} (h : FOk L f) {i : Nat} (hi : i < 3) {price : Int} (hp : 1 ≤ price ∧ price ≤ 1000) {F : List (Int × Int)} (hF : Fil (L i) price F) : FOk (upd L i (restL F (L i))) (sett f i price (L i) F) := by
 have hs := sett_sums h hi hp hF
 exact h.settled hi hF (TI.goodG hi hp _ _ _ _ (Nat.le_refl _) (h.start hi hF)) hs.1 hs.2
theorem FOk.part {L : Nat → List Lot} {f : Nat → Int} (h : FOk L f) {i : Nat} (hi : i < 3) {price vol : Int} (hf : Fine (L i) price vol) (s : Int) {t : Nat} (ht : (t : Int) ≤ vol) :
  FOk (upd L i (rem (taken (units (L i) true (fills s (L i) price vol)) (units (L i) false (fills s (L i) price vol)) t) (L i))) (settC f i price (L i) (taken (units (L i) true (fills s (L i) price vol)) (units (L i) false (fills s (L i) price vol)) t)) := by
 have := h.sett hi hf.2.1 (part_fil hf s t ht)
 rw [rest_part, sett_part] at this
 exact this
theorem unit_trade {L : Nat → List Lot} {f : Nat → Int} (h : FOk L f) {i : Nat} (hi : i < 3) {price vol : Int} (hf : Fine (L i) price vol) (s : Int) {t : Nat} (ht : (t : Int) < vol) {bu se : List Int} (hbu : bu = units (L i) true (fills s (L i) price vol)) (hse : se = units (L i) false (fills s (L i) price vol)) :
  has (rem (taken bu se t) (L i)) (bu.getD t 0) = true ∧ has (rem (taken bu se t) (L i)) (se.getD t 0) = true ∧
  tradeC (settC f i price (L i) (taken bu se t)) i (nth (rem (taken bu se t) (L i)) (pos (rem (taken bu se t) (L i)) (bu.getD t 0))) (nth (rem (taken bu se t) (L i)) (pos (rem (taken bu se t) (L i)) (se.getD t 0))) price 1 = 0 ∧
  tradeF (settC f i price (L i) (taken bu se t)) i (nth (rem (taken bu se t) (L i)) (pos (rem (taken bu se t) (L i)) (bu.getD t 0))) (nth (rem (taken bu se t) (L i)) (pos (rem (taken bu se t) (L i)) (se.getD t 0))) price 1 = settC f i price (L i) (taken bu se (t + 1)) := by
 have ho := once_of_well hf.1
 have hb : t < (units (L i) true (fills s (L i) price vol)).length := by have := units_vol hf s true; omega
 have hs : t < (units (L i) false (fills s (L i) price vol)).length := by have := units_vol hf s false; omega
 obtain ⟨x, hx, hxi, hxs, hxq⟩ := unit_due hf s true hb _ rfl t
 obtain ⟨y, hy, hyi, hys, hyq⟩ := unit_due hf s false hs _ rfl t
 simp only [Bool.not_true, Bool.not_false] at hxq hyq
 rw [← hbu] at hb hxi hxq hyq
 rw [← hse] at hs hyi hyq hxq
 have hxs0 : x.sd = 0 := by simpa using hxs
 have hys0 : y.sd ≠ 0 := by simpa using hys
 have hby := ok_bounds (hf.1.oks y hy)
 have hys1 : y.sd = 1 := by omega
 have hok := h.part hi hf s (t := t) (by omega)
 have hfil := part_fil hf s (t + 1) (by omega)
 rw [← hbu, ← hse] at hok hfil
 have cx := cnt_take_succ x.id hb
 have cy := cnt_take_succ y.id hs
 have n1 := cnt_nonneg x.id (bu.take t)
 have n2 := cnt_nonneg x.id (se.take (t + 1))
 have n3 := cnt_nonneg y.id (se.take t)
 have n4 := cnt_nonneg y.id (bu.take (t + 1))
 rw [if_pos hxi.symm] at cx
 rw [if_pos hyi.symm] at cy
 have ex := (hfil.el x hx (by rw [got_part]; unfold taken; omega)).1 hxs0
 have ey := (hfil.el y hy (by rw [got_part]; unfold taken; omega)).2 hys1
 have lx : taken bu se t x.id < x.q := by unfold taken; omega
 have ly : taken bu se t y.id < y.q := by unfold taken; omega
 have kx : has (rem (taken bu se t) (L i)) x.id = true := rem_has.2 ⟨x, hx, rfl, lx⟩
 have ky : has (rem (taken bu se t) (L i)) y.id = true := rem_has.2 ⟨y, hy, rfl, ly⟩
 have vx := rem_nth (c := taken bu se t) ho hx lx
 have vy := rem_nth (c := taken bu se t) ho hy ly
 have mx : less x (taken bu se t x.id) ∈ upd L i (rem (taken bu se t) (L i)) i := by rw [upd_same, ← vx]; exact Cv.nth_mem (pos_has.1 kx)
 have my : less y (taken bu se t y.id) ∈ upd L i (rem (taken bu se t) (L i)) i := by rw [upd_same, ← vy]; exact Cv.nth_mem (pos_has.1 ky)
 obtain ⟨hC, hF⟩ := hok.trade_ok hi hf.2.1 mx my hxs0 hys1 ex ey (q := 1) (by omega) (by show 1 ≤ x.q - _; omega) (by show 1 ≤ y.q - _; omega)
 rw [← hxi, ← hyi, vx, vy]
 refine ⟨kx, ky, hC, ?_⟩
 rw [hF]
 funext j
 have := settC_step f i price ho hx hy hxs0 hys0 (taken bu se t) 1 j
 rw [hxi, hyi, taken_more hb hs] at this
 exact this
end Fs
end Go.Proofs.YtdggddjgipgllaaGreatDoor
