/- What a side is filled with, price by price from the best one on; that it is fair; no walk. -/
import Derived.Test.YtjdnahmdicamdaaGreatDoorG13
namespace Go.Proofs.YtjdnahmdicamdaaGreatDoor
namespace Ra
open Cv
def pj (sd : Int) (j : Nat) : Int := if sd = 0 then 1000 - (j : Int) else 1 + (j : Int)
def cnt (sd price : Int) : Nat := if sd = 0 then (1001 - price).toNat else price.toNat
/-- all prices that are not worse than a price, the best one first -/
def full (sd price : Int) : List Int := (List.range (cnt sd price)).map (pj sd)
theorem falls_full (sd price : Int) : Falls sd (full sd price) := by
  refine List.pairwise_map.2 (List.pairwise_lt_range.imp fun {a b} h => ?_)
  unfold pj better
  split <;> simp <;> omega
theorem mem_full {sd price p : Int} (h1 : 1 ≤ price) (h2 : price ≤ 1000) : p ∈ full sd price ↔ (1 ≤ p ∧ p ≤ 1000) ∧ better sd price p = false := by
  unfold full cnt pj better
  by_cases hs : sd = 0
  · simp only [hs, if_true, List.mem_map, List.mem_range, decide_eq_false_iff_not]
    constructor
    · rintro ⟨j, hj, rfl⟩; omega
    · rintro ⟨⟨h3, h4⟩, h5⟩; exact ⟨(1000 - p).toNat, by omega, by omega⟩
  · simp only [hs, if_false, List.mem_map, List.mem_range, decide_eq_false_iff_not]
    constructor
    · rintro ⟨j, hj, rfl⟩; omega
    · rintro ⟨⟨h3, h4⟩, h5⟩; exact ⟨(p - 1).toNat, by omega, by omega⟩
def qsOf (l : List Lot) (sd price : Int) : List Int := (full sd price).filter fun p => !(lv l sd p).isEmpty
theorem falls_qs (l : List Lot) (sd price : Int) : Falls sd (qsOf l sd price) := (falls_full sd price).filter _
theorem lf_lv (l : List Lot) {sd price p : Int} (h : better sd price p = false) : lf sd price l p = lv l sd p := by
  unfold lf lv
  refine List.filter_congr fun x _ => ?_
  unfold el
  by_cases e : x.pr = p
  · rw [e, h]; simp
  · have e2 : (x.pr == p) = false := by simpa using e
    rw [e2]; simp
theorem mem_lf {l : List Lot} {sd price p : Int} (ho : Oks l) (h : lf sd price l p ≠ []) : (1 ≤ p ∧ p ≤ 1000) ∧ better sd price p = false := by
  obtain ⟨x, hx⟩ := List.exists_mem_of_ne_nil _ h
  obtain ⟨hx1, hx2⟩ := List.mem_filter.1 hx
  simp only [el, Bool.and_eq_true, beq_iff_eq, Bool.not_eq_true'] at hx2
  have := (ok_bounds (ho x hx1)).2.2.2.1
  rw [← hx2.2]
  exact ⟨this, hx2.1.2⟩
theorem mem_qs {l : List Lot} {sd price p : Int} (ho : Oks l) (h1 : 1 ≤ price) (h2 : price ≤ 1000) : p ∈ qsOf l sd price ↔ lf sd price l p ≠ [] := by
  unfold qsOf
  rw [List.mem_filter, mem_full h1 h2]
  constructor
  · rintro ⟨⟨_, hb⟩, hne⟩
    rw [lf_lv l hb]; simpa using hne
  · intro h
    obtain ⟨h3, hb⟩ := mem_lf ho h
    rw [lf_lv l hb] at h
    exact ⟨⟨h3, hb⟩, by simpa using h⟩
theorem pos_of_oks {l : List Lot} (h : Oks l) : Pos l := fun x hx => ((ok_bounds (h x hx)).2.2.2.2).1
/-- what a side is filled with -/
def side (s : Int) (l : List Lot) (sd price v : Int) : List (Int × Int) := sf (sh s) l sd (full sd price) v
theorem side_is (s : Int) {l : List Lot} (ho : Oks l) (sd price v : Int) (hv : 0 ≤ v) : side s l sd price v = fill (row (sh s) l sd (qsOf l sd price) v) v := by
  unfold side
  rw [← sf_filter (mix_sh s) (pos_of_oks ho) sd (full sd price) v hv]; rfl
theorem side_share (s : Int) {l : List Lot} (ho : Oks l) (sd price v : Int) (h1 : 1 ≤ price) (h2 : price ≤ 1000) (hv : 0 ≤ v) : sfF (sh s) (lf sd price l) (qsOf l sd price) v = side s l sd price v := by
  rw [side_is s ho sd price v hv]
  unfold sfF
  rw [rowF_is (sh s) l sd _ _ _ fun p hp => lf_lv l (mem_lf ho ((mem_qs ho h1 h2).1 hp)).2]
theorem ps_up (l : List Lot) (sd price : Int) : (if sd = 0 then (qsOf l sd price).reverse else qsOf l sd price).Pairwise (· < ·) := by
  have h := falls_qs l sd price
  unfold Falls at h
  split
  · rename_i e
    subst e
    rw [List.pairwise_reverse]
    exact h.imp fun h => by simpa [better] using h
  · rename_i e
    exact h.imp fun h => by simpa [better, e] using h
theorem nodup_qs (l : List Lot) (sd price : Int) : (qsOf l sd price).Nodup := (falls_qs l sd price).imp fun {a b} h e => by
  rw [e, better_irrefl] at h; cases h
theorem order_perm (s : Int) {l : List Lot} (ho : Oks l) (sd price v : Int) (h1 : 1 ≤ price) (h2 : price ≤ 1000) : (row (sh s) l sd (qsOf l sd price) v).Perm (l.filter (el sd price)) := by
  refine (row_perm (mix_sh s) l sd _ v).trans ((levels_perm l sd _ (nodup_qs l sd price)).trans ?_)
  rw [List.filter_congr (q := el sd price) fun x hx => ?_]
  unfold el
  cases hs : x.sd == sd
  · rfl
  · simp only [Bool.true_and]
    cases hb : better sd price x.pr
    · rw [Bool.not_false, List.contains_iff_mem, mem_qs ho h1 h2]
      intro e
      have : x ∈ lf sd price l x.pr := List.mem_filter.2 ⟨hx, by simp [el, hs, hb]⟩
      rw [e] at this; cases this
    · rw [Bool.not_true]
      refine Bool.eq_false_iff.2 fun e => ?_
      have := (mem_lf ho ((mem_qs ho h1 h2).1 (List.contains_iff_mem.1 e))).2
      rw [hb] at this; cases this
theorem order_falls (s : Int) (l : List Lot) (sd price v : Int) : (row (sh s) l sd (qsOf l sd price) v).Pairwise fun x y => better sd y.pr x.pr = false := row_order (mix_sh s) l sd _ v (falls_qs l sd price)
theorem fill_length : ∀ (l : List Lot) (v : Int), (fill l v).length ≤ l.length
  | [], _ => Nat.le_refl _
  | x :: l, v => by
    rw [fill]
    split
    · exact Nat.zero_le _
    · have := fill_length l (v - min x.q v)
      simp; omega
theorem side_length (s : Int) {l : List Lot} (ho : Oks l) (sd price v : Int) (h1 : 1 ≤ price) (h2 : price ≤ 1000) (hv : 0 ≤ v) : (side s l sd price v).length ≤ l.length := by
  rw [side_is s ho sd price v hv]
  exact Nat.le_trans (fill_length _ _) (by rw [(order_perm s ho sd price v h1 h2).length_eq]; exact List.length_filter_le _ _)
theorem tot_el (l : List Lot) (price : Int) : tot (l.filter (el 0 price)) = demand l price ∧ tot (l.filter (el 1 price)) = supply l price := by
  refine ⟨?_, ?_⟩
  · rw [tot_filter]
    refine sumIf_congr l fun x _ => ?_
    unfold el dB better
    by_cases h : price ≤ x.pr
    · rw [decide_eq_true h, if_pos rfl, decide_eq_false (by omega)]; rfl
    · rw [decide_eq_false h, if_pos rfl, decide_eq_true (by omega)]; rfl
  · rw [tot_filter]
    refine sumIf_congr l fun x _ => ?_
    unfold el sB better
    by_cases h : x.pr ≤ price
    · rw [decide_eq_true h, if_neg (by decide), decide_eq_false (by omega)]; rfl
    · rw [decide_eq_false h, if_neg (by decide), decide_eq_true (by omega)]; rfl
end Ra
end Go.Proofs.YtjdnahmdicamdaaGreatDoor
/- check and Fills by their contracts. -/
namespace Go.Proofs.YtjdnahmdicamdaaGreatDoor
open Go.RowKit
set_option maxRecDepth 100000

theorem share_side (sd price v s : Int) (B base n : Nat) (l : List Cv.Lot) (w : World) (hs : Ra.IsU s) (hv0 : 0 ≤ v) (hv1 : v ≤ 1000000) (hL : Levels w base B n (lf sd price l)) (hn : n ≤ 1000) (hok : Cv.Oks l) (hll : l.length ≤ 120) (h1 : 1 ≤ price) (h2 : price ≤ 1000) :
    Calls Tryz.prog 88 #[.map (some B), .int .i64 sd, .int .i64 v, .int .u32 s] w fun e w' => ∃ v', e = .returned v' ∧ w'.ownsRow w.heap.size 54 2 v' (Ra.side s l sd price v).length (fcells (Ra.side s l sd price v)) ∧ Below w.heap.size w w' := by
  have hlq : (Ra.qsOf l sd price).length ≤ 1000 := by
    refine Nat.le_trans (List.length_filter_le _ _) ?_
    unfold Ra.full Ra.cnt
    rw [List.length_map, List.length_range]
    split <;> omega
  refine share_of sd v s B base n (lf sd price l) (if sd = 0 then (Ra.qsOf l sd price).reverse else Ra.qsOf l sd price) (Ra.qsOf l sd price) _ w hs hv0 hv1 hL hn (Ra.ps_up l sd price) (fun p => ?_) (fun p => hok.filter _) (fun p => Nat.le_trans (List.length_filter_le _ _) (by omega)) ?_ (fun p hp => ?_) (Ra.side_share s hok sd price v h1 h2 hv0) (Nat.le_trans (Ra.side_length s hok sd price v h1 h2 hv0) (by omega)) hlq
  · split
    · rw [List.mem_reverse]; exact Ra.mem_qs hok h1 h2
    · exact Ra.mem_qs hok h1 h2
  · show _ = _
    split <;> simp
  · have h3 := (Ra.mem_qs hok h1 h2).1 hp
    exact ⟨h3, (Ra.mem_lf hok h3).1⟩

/-! check -/
set_option maxHeartbeats 400000 in
theorem rcheck_err (a : Option Addr) (n cap : Nat) (price vol : Int) (w : World) (Φ : TypeId → Value → World → Prop) (hc : Hid (Calls Tryz.prog 45 #[.slice a n cap] w fun e w' => ∃ U x, e = .returned (.iface U x) ∧ Φ U x w')) :
    Calls Tryz.prog 86 #[.slice a n cap, .int .i64 price, .int .i64 vol] w fun e w' => ∃ U x, e = .returned (.iface U x) ∧ Φ U x w' := by
  go_enter Tryz.func86, Tryz.ntmps86
  go_wp2_with fail
  refine hc.out.mono ?_
  rintro e w1 ⟨U, x, rfl, hx⟩
  have HX := hide hx
  clear hx
  simp only []
  go_wp2
  go_ret
  exact ⟨U, x, rfl, HX.out⟩
set_option maxHeartbeats 400000 in
theorem rcheck_bound (a : Option Addr) (n cap : Nat) (price vol : Int) (T : TypeId) (v1 : Value) (w : World) (hc : Hid (Calls Tryz.prog 45 #[.slice a n cap] w fun e w' => e = .returned .nilIface ∧ Below w.heap.size w w')) (c1 : w.cell? ⟨0, 0, none⟩ = some (.iface T v1)) (hb : ¬ (1 ≤ price ∧ price ≤ 1000) ∨ vol < 0) :
    Calls Tryz.prog 86 #[.slice a n cap, .int .i64 price, .int .i64 vol] w fun e w' => e = .returned (.iface T v1) ∧ Below w.heap.size w w' := by
  cases hw : Wi.withinB price 1 1000 with
  | false =>
    have HW := hide hw
    clear hw hb
    go_enter Tryz.func86, Tryz.ntmps86
    go_wp2_with fail
    refine hc.out.mono ?_
    rintro e w1 ⟨rfl, hb1⟩
    have HB1 := hide hb1
    have d1 := cell_later hb1 c1
    clear hb1
    simp only []
    go_wp2_with fail
    refine (within_any _ _ _ _).mono ?_
    rintro e w2 ⟨rfl, rfl⟩
    rw [HW.out]
    simp only []
    go_wp2
    go_ret
    exact ⟨rfl, HB1.out⟩
  | true =>
    have hv : vol < 0 := hb.resolve_left fun h => h (by simpa [Wi.withinB] using hw)
    have HW := hide hw
    clear hw hb
    go_enter Tryz.func86, Tryz.ntmps86
    go_wp2_with fail
    refine hc.out.mono ?_
    rintro e w1 ⟨rfl, hb1⟩
    have HB1 := hide hb1
    have d1 := cell_later hb1 c1
    clear hb1
    simp only []
    go_wp2_with fail
    refine (within_any _ _ _ _).mono ?_
    rintro e w2 ⟨rfl, rfl⟩
    rw [HW.out]
    simp only []
    go_wp2
    go_ret
    exact ⟨rfl, HB1.out⟩
set_option maxHeartbeats 400000 in
theorem rcheck_more (a : Option Addr) (n cap : Nat) (price vol most : Int) (T : TypeId) (v2 : Value) (w : World) (hc : Hid (Calls Tryz.prog 45 #[.slice a n cap] w fun e w' => e = .returned .nilIface ∧ Below w.heap.size w w')) (c2 : w.cell? ⟨7, 0, none⟩ = some (.iface T v2)) (hp : Hid (Wi.withinB price 1 1000 = true)) (hv : ¬ vol < 0)
    (hm : Hid (∀ w1, Below w.heap.size w w1 → Calls Tryz.prog 117 #[.slice a n cap, .int .i64 price] w1 fun e w' => e = .returned (.int .i64 most) ∧ Below w1.heap.size w1 w')) :
    Calls Tryz.prog 86 #[.slice a n cap, .int .i64 price, .int .i64 vol] w fun e w' => e = .returned (if most < vol then .iface T v2 else .nilIface) ∧ Below w.heap.size w w' := by
  have h0 : (0 : Int) ≤ vol := by omega
  by_cases hb : most < vol
  all_goals
    first | rw [if_pos hb] | rw [if_neg hb]
    go_enter Tryz.func86, Tryz.ntmps86
    go_wp2_with fail
    refine hc.out.mono ?_
    rintro e w1 ⟨rfl, hb1⟩
    have HB1 := hide hb1
    have d2 := cell_later hb1 c2
    clear hb1
    simp only []
    go_wp2_with fail
    refine (within_any _ _ _ _).mono ?_
    rintro e w2 ⟨rfl, rfl⟩
    rw [hp.out]
    simp only []
    go_wp2_with fail
    refine (hm.out _ HB1.out).mono ?_
    rintro e w3 ⟨rfl, hb3⟩
    have HB3 := hide (HB1.out.trans (hb3.mono HB1.out.size))
    have d3 := cell_later HB3.out c2
    clear hb3 d2
    simp only []
    go_wp2
    go_ret
    exact ⟨rfl, HB3.out⟩

/-! Fills -/
set_option maxHeartbeats 400000 in
theorem fills_err (a : Option Addr) (n cap : Nat) (price vol s : Int) (w : World) (Φ : TypeId → Value → World → Prop) (hc : Hid (Calls Tryz.prog 86 #[.slice a n cap, .int .i64 price, .int .i64 vol] w fun e w' => ∃ U x, e = .returned (.iface U x) ∧ Φ U x w')) :
    Calls Tryz.prog 51 #[.slice a n cap, .int .i64 price, .int .i64 vol, .int .u32 s] w fun e w' => ∃ U x, e = .returned (.tuple #[.slice none 0 0, .iface U x]) ∧ Φ U x w' := by
  go_enter Tryz.func51, Tryz.ntmps51
  go_wp2_with fail
  refine hc.out.mono ?_
  rintro e w1 ⟨U, x, rfl, hx⟩
  have HX := hide hx
  clear hx
  simp only []
  go_wp2
  go_ret2
  exact ⟨U, x, rfl, HX.out⟩

theorem row_later {w w' : World} {base : Nat} {e : TypeId} {size : Nat} {v : Value} {n : Nat} {xs : List Value} (h : w.ownsRow base e size v n xs) (hb : Below w.heap.size w w') : w'.ownsRow base e size v n xs :=
  h.kept (row := none) ⟨hb.os, hb.tape, hb.output, hb.size, fun i hi _ => hb.block i hi⟩ (by
    cases e : v.ownBlock with
    | none => exact .inl rfl
    | some _ => exact .inr (by simp))
theorem fcells_append (F G : List (Int × Int)) : fcells (F ++ G) = fcells F ++ fcells G := by simp [fcells]
theorem fcells_length (F : List (Int × Int)) : (fcells F).length = F.length * 2 := by
  induction F with
  | nil => rfl
  | cons f F ih => simp [fcells] at ih ⊢; omega
theorem fcells_one (F : List (Int × Int)) : ∀ u ∈ fcells F, u.oneCell' = true := fun u hu => by
  obtain ⟨f, _, hf⟩ := List.mem_flatMap.1 hu
  simp only [List.mem_cons, List.not_mem_nil, or_false] at hf
  rcases hf with rfl | rfl <;> rfl

set_option maxHeartbeats 1000000 in
theorem fills_of (a : Option Addr) (n cap : Nat) (price vol s s1 : Int) (l : List Cv.Lot) (F0 F1 : List (Int × Int)) (w : World) (hck : Hid (Calls Tryz.prog 86 #[.slice a n cap, .int .i64 price, .int .i64 vol] w fun e w' => e = .returned .nilIface ∧ Below w.heap.size w w'))
    (hv : Hid (Lots w (.slice a n cap) l)) (hok : Hid (Cv.Well l)) (h1 : 1 ≤ price) (h2 : price ≤ 1000) (hv0 : 0 ≤ vol) (hv1 : vol ≤ 1000000) (hs : Hid (Ra.IsU s)) (hs1 : Hid (Ra.IsU s1)) (hse : (s = 4294967295 ∧ s1 = 0) ∨ (0 ≤ s ∧ s < 4294967295 ∧ s1 = s + 1))
    (hF0 : Hid (Ra.side s l 0 price vol = F0)) (hF1 : Hid (Ra.side s1 l 1 price vol = F1)) (hl0 : F0.length ≤ 120) (hl1 : F1.length ≤ 120) :
    Calls Tryz.prog 51 #[.slice a n cap, .int .i64 price, .int .i64 vol, .int .u32 s] w fun e w' => ∃ v', e = .returned (.tuple #[v', .nilIface]) ∧ w'.ownsRow w.heap.size 54 2 v' (F0 ++ F1).length (fcells (F0 ++ F1)) ∧ Below w.heap.size w w' := by
  obtain ⟨i0, z0, hi, hz0, hz1, hz2, hz3⟩ := info45
  have Hi := hide hi; have Hz0 := hide hz0; have Hz1 := hide hz1; have Hz2 := hide hz2; have Hz3 := hide hz3
  clear hi hz0 hz1 hz2 hz3
  have hl12 : l.length ≤ 120 := hok.out.1
  rcases hse with ⟨rfl, rfl⟩ | ⟨hs0, hs2, rfl⟩
  all_goals
    go_enter Tryz.func51, Tryz.ntmps51
    go_wp2_with fail
    refine hck.out.mono ?_
    rintro e w1 ⟨rfl, hb1⟩
    have HB1 := hide hb1
    clear hb1
    simp only []
    go_wp2_with fail
    refine (levelsOf_any _ 0 price l w1 (hv.out.later HB1.out) hok.out).mono ?_
    rintro e w2 ⟨rfl, hL2, hb2⟩
    have HB2 := hide (HB1.out.trans (hb2.mono HB1.out.size)); have HL2 := hide hL2
    clear hb2 hL2
    simp only []
    go_wp2_with fail
    refine (share_side 0 price vol _ _ _ _ l w2 hs.out hv0 hv1 HL2.out (by omega) hok.out.oks hl12 h1 h2).mono ?_
    rintro e w3 ⟨vb, rfl, hrb, hb3⟩
    rw [hF0.out] at hrb
    have HRB := hide (row_base hrb HB2.out.size); have HB3 := hide (HB2.out.trans (hb3.mono HB2.out.size))
    clear hrb hb3
    simp only []
    go_wp2_with fail
    refine (levelsOf_any _ 1 price l w3 (hv.out.later HB3.out) hok.out).mono ?_
    rintro e w4 ⟨rfl, hL4, hb4⟩
    have HB4 := hide (HB3.out.trans (hb4.mono HB3.out.size)); have HL4 := hide hL4; have HRB4 := hide (row_later HRB.out hb4)
    clear hb4 hL4
    simp only []
    go_wp2_with fail
    refine (share_side 1 price vol _ _ _ _ l w4 hs1.out hv0 hv1 HL4.out (by omega) hok.out.oks hl12 h1 h2).mono ?_
    rintro e w5 ⟨vs, rfl, hrs, hb5⟩
    rw [hF1.out] at hrs
    have HRS := hide (row_base hrs HB4.out.size); have HB5 := hide (HB4.out.trans (hb5.mono HB4.out.size)); have HRB5 := hide (row_later HRB4.out hb5)
    clear hrs hb5 HRB HRB4 HL2 HL4
    simp only []
    rcases HRS.out.2 with ⟨rfl, h0⟩ | ⟨rs, cs, curs, rfl, _⟩
    · have HF1 : Hid (F1 = []) := List.eq_nil_of_length_eq_zero h0
      have HR : Hid (w5.ownsRow w.heap.size 54 2 vb (F0 ++ F1).length (fcells (F0 ++ F1))) := by
        rw [HF1.out, List.append_nil]; exact HRB5.out
      clear h0
      rcases HRB5.out.2 with ⟨rfl, _⟩ | ⟨rb, cb, curb, rfl, _, _, hcb, _⟩
      · clear HRB5 HRS
        go_wp2
        go_ret2
        exact ⟨_, rfl, HR.out, HB5.out⟩
      · clear HRB5 HRS
        go_wp2
        go_ret2
        exact ⟨_, rfl, HR.out, HB5.out⟩
    · have HC : Hid (∀ j u, (fcells F1)[j]? = some u → w5.cell? ((⟨rs, 0, none⟩ : Addr).add j) = some u) := fun j u hu => World.ownsRow.cells HRS.out (g := rs) rfl j u hu
      go_wp2_with (at_builtin; refine wpList_append_own _ rfl _ _ 48 rfl w.heap.size 54 i0 z0 2 16 Tryz.underlying48 Hi.out Hz0.out Hz1.out Hz2.out Hz3.out (by decide) _ _ _ rfl HRB5.out ⟨rs, 0, none⟩ F1.length cs (fcells F1) rfl (fcells_length F1) HC.out (fcells_one F1) ?d3 ?d4 ?d5 ?_)
      case d3 => unfold maxLen; omega
      case d4 => omega
      case d5 => exact HB5.out.size
      intro v6 w6 hown6 hgrow6 _
      have HR : Hid (w6.ownsRow w.heap.size 54 2 v6 (F0 ++ F1).length (fcells (F0 ++ F1))) := by
        show World.ownsRow _ _ _ _ _ _ _
        rw [fcells_append, List.length_append]
        exact hown6
      have hlt := HRB5.out.lt
      have HB6 : Hid (Below w.heap.size w w6) := HB5.out.grown hgrow6 HB5.out.size (fun j hj => (hlt j hj).1)
      clear hown6 hgrow6 HRS HC HRB5 hlt
      go_wp2
      go_ret2
      exact ⟨_, rfl, HR.out, HB6.out⟩
end Go.Proofs.YtjdnahmdicamdaaGreatDoor
/- SameFills and filledOf by their contracts. -/
namespace Go.Proofs.YtjdnahmdicamdaaGreatDoor
open Go.RowKit
set_option maxRecDepth 100000

def fnth (F : List (Int × Int)) (i : Nat) : Int × Int := F.getD i (0, 0)
/-- a slice that holds fills -/
def Fls (w : World) (v : Value) (F : List (Int × Int)) : Prop :=
  (F = [] ∧ ∃ a cap, v = .slice a 0 cap) ∨ ∃ b cap, v = .slice (some ⟨b, 0, none⟩) F.length cap ∧ ∀ i, i < F.length → w.cell? ⟨b, i * 2, none⟩ = some (.int .i64 (fnth F i).1) ∧ w.cell? ⟨b, i * 2 + 1, none⟩ = some (.int .i64 (fnth F i).2)
theorem Fls.later {w w' : World} {v : Value} {F : List (Int × Int)} (h : Fls w v F) (hb : Below w.heap.size w w') : Fls w' v F := by
  rcases h with h | ⟨b, cap, h1, h2⟩
  · exact .inl h
  · exact .inr ⟨b, cap, h1, fun i hi => ⟨cell_later hb (h2 i hi).1, cell_later hb (h2 i hi).2⟩⟩
theorem fcells_at : ∀ (F : List (Int × Int)) (i : Nat), i < F.length → (fcells F)[i * 2]? = some (.int .i64 (fnth F i).1) ∧ (fcells F)[i * 2 + 1]? = some (.int .i64 (fnth F i).2)
  | [], i, h => absurd h (Nat.not_lt_zero i)
  | f :: F, 0, _ => by simp [fcells, fnth]
  | f :: F, i + 1, h => by
    have ih := fcells_at F i (by simpa using h)
    have e : fcells (f :: F) = .int .i64 f.1 :: .int .i64 f.2 :: fcells F := rfl
    rw [e, show (i + 1) * 2 = i * 2 + 1 + 1 by omega]
    refine ⟨?_, ?_⟩
    · rw [List.getElem?_cons_succ, List.getElem?_cons_succ, ih.1]; rfl
    · rw [List.getElem?_cons_succ, List.getElem?_cons_succ, ih.2]; rfl
theorem fls_of {w : World} {base : Nat} {v : Value} {F : List (Int × Int)} (h : w.ownsRow base 54 2 v F.length (fcells F)) : Fls w v F := by
  rcases h.2 with ⟨h1, h2⟩ | ⟨g, cap, cur, h1, _⟩
  · exact .inl ⟨List.eq_nil_of_length_eq_zero h2, none, 0, h1⟩
  · refine .inr ⟨g, cap, h1, fun i hi => ?_⟩
    have key : ∀ j u, (fcells F)[j]? = some u → w.cell? ⟨g, j, none⟩ = some u := fun j u hu => by
      have := World.ownsRow.cells h (g := g) (by rw [h1]; rfl) j u hu
      have hp : (⟨g, 0, none⟩ : Addr).add j = ⟨g, j, none⟩ := by unfold Addr.add; split <;> simp_all
      rwa [hp] at this
    exact ⟨key _ _ (fcells_at F i hi).1, key _ _ (fcells_at F i hi).2⟩
theorem take_fnth {F : List (Int × Int)} {k : Nat} (h : k < F.length) : F.take (k + 1) = F.take k ++ [fnth F k] := by
  unfold fnth; rw [List.take_succ_eq_append_getElem h, List.getD_eq_getElem?_getD, List.getElem?_eq_getElem h]; rfl

theorem got_bounds (id : Int) : ∀ F : List (Int × Int), (∀ f ∈ F, 0 ≤ f.2 ∧ f.2 ≤ 1000) → 0 ≤ Ra.got id F ∧ Ra.got id F ≤ 1000 * F.length
  | [], _ => by simp [Ra.got]
  | f :: F, h => by
    have ih := got_bounds id F (fun g hg => h g (List.mem_cons_of_mem _ hg))
    have hf := h f List.mem_cons_self
    simp only [Ra.got, List.length_cons]
    split <;> omega
theorem sameFills_none (a a' : Option Addr) (cap cap' : Nat) (w : World) : Calls Tryz.prog 25 #[.slice a 0 cap, .slice a' 0 cap'] w fun e w' => e = .returned (.bool true) ∧ w' = w := by
  go_enter Tryz.func25, Tryz.ntmps25
  go_wp2
  refine wp_loop_rounds 1 ?_
  rw [rounds_succ]
  go_wp2
  go_ret
  exact ⟨rfl, rfl⟩
set_option maxHeartbeats 400000 in
theorem sameFills_some (b b' n cap cap' : Nat) (F : List (Int × Int)) (w : World) (hn' : n ≤ 1000)
    (hc : Hid (∀ i, i < n → w.cell? ⟨b, i * 2, none⟩ = some (.int .i64 (fnth F i).1) ∧ w.cell? ⟨b, i * 2 + 1, none⟩ = some (.int .i64 (fnth F i).2)))
    (hc' : Hid (∀ i, i < n → w.cell? ⟨b', i * 2, none⟩ = some (.int .i64 (fnth F i).1) ∧ w.cell? ⟨b', i * 2 + 1, none⟩ = some (.int .i64 (fnth F i).2))) :
    Calls Tryz.prog 25 #[.slice (some ⟨b, 0, none⟩) n cap, .slice (some ⟨b', 0, none⟩) n cap'] w fun e w' => e = .returned (.bool true) ∧ Below w.heap.size w w' := by
  go_enter Tryz.func25, Tryz.ntmps25
  go_wp2
  go_loopw [5] (fun i wr => ∃ k : Nat, k ≤ n ∧ i = .int .i64 k ∧ Below w.heap.size w wr) (fun i _ => n - (intOf i).toNat)
  case atStart => exact ⟨0, Nat.zero_le _, rfl, Below.refl _ _⟩
  case round =>
    obtain ⟨k, hk, rfl, hb⟩ := hrel
    have HB := hide hb
    clear hb
    by_cases hlt : k < n
    · have hki : (k : Int) < n := by omega
      obtain ⟨c0, c1⟩ := hc.out k hlt
      obtain ⟨d0, d1⟩ := hc'.out k hlt
      have c0 := cell_later HB.out c0
      have c1 := cell_later HB.out c1
      have d0 := cell_later HB.out d0
      have d1 := cell_later HB.out d1
      generalize fnth F k = f at *
      go_wp2_with fail
      go_region
      go_wp2
      exact ⟨⟨k + 1, by omega, by go_num, below_drew HB.out⟩, by simp [intOf]; omega⟩
    · have hki : ¬ (k : Int) < n := by omega
      go_wp2
      go_ret
      exact ⟨rfl, HB.out⟩
theorem sameFills_any (v v' : Value) (F : List (Int × Int)) (w : World) (hv : Fls w v F) (hv' : Fls w v' F) (hn : F.length ≤ 1000) :
    Calls Tryz.prog 25 #[v, v'] w fun e w' => e = .returned (.bool true) ∧ Below w.heap.size w w' := by
  rcases hv with ⟨rfl, a, cap, rfl⟩ | ⟨b, cap, rfl, hc⟩
  · rcases hv' with ⟨_, a', cap', rfl⟩ | ⟨b', cap', rfl, _⟩
    · exact (sameFills_none a a' cap cap' w).mono fun e w' ⟨h1, h2⟩ => ⟨h1, h2 ▸ Below.refl _ _⟩
    · exact (sameFills_none a _ cap cap' w).mono fun e w' ⟨h1, h2⟩ => ⟨h1, h2 ▸ Below.refl _ _⟩
  · rcases hv' with ⟨rfl, a', cap', rfl⟩ | ⟨b', cap', rfl, hc'⟩
    · exact (sameFills_none _ a' cap cap' w).mono fun e w' ⟨h1, h2⟩ => ⟨h1, h2 ▸ Below.refl _ _⟩
    · exact sameFills_some b b' _ cap cap' F w hn hc hc'
end Go.Proofs.YtjdnahmdicamdaaGreatDoor
/- Fills by its contracts, of any lots; a closed fact. -/
namespace Go.Proofs.YtjdnahmdicamdaaGreatDoor
open Go.RowKit
set_option maxRecDepth 100000
namespace Ra
/-- what is asked of lots, a price and a volume -/
def Fine (l : List Cv.Lot) (price vol : Int) : Prop := Cv.Well l ∧ (1 ≤ price ∧ price ≤ 1000) ∧ 0 ≤ vol ∧ vol ≤ Cv.volume l price
def nextSeed (s : Int) : Int := if s = 4294967295 then 0 else s + 1
def fills (s : Int) (l : List Cv.Lot) (price vol : Int) : List (Int × Int) := side s l 0 price vol ++ side (nextSeed s) l 1 price vol
theorem nextSeed_u {s : Int} (h : IsU s) : IsU (nextSeed s) := by
  unfold nextSeed; split
  · exact ⟨by omega, by omega⟩
  · exact ⟨by have := h.1; omega, by have := h.2; omega⟩
theorem fills_length (s : Int) {l : List Cv.Lot} {price vol : Int} (h : Fine l price vol) : (side s l 0 price vol).length ≤ 120 ∧ (side (nextSeed s) l 1 price vol).length ≤ 120 := by
  obtain ⟨h1, ⟨h2, h3⟩, h4, _⟩ := h
  have := h1.1
  exact ⟨Nat.le_trans (side_length _ h1.oks 0 price vol h2 h3 h4) this, Nat.le_trans (side_length _ h1.oks 1 price vol h2 h3 h4) this⟩
theorem fill_le : ∀ (l : List Cv.Lot) (v : Int), Cv.Oks l → 0 ≤ v → ∀ f ∈ fill l v, 1 ≤ f.2 ∧ f.2 ≤ 1000
  | [], v, _, _, f, hf => by simp [fill] at hf
  | x :: l, v, h, hv, f, hf => by
    have hx := (Cv.ok_bounds (h x List.mem_cons_self)).2.2.2.2
    rw [fill] at hf
    split at hf
    · cases hf
    · rcases List.mem_cons.1 hf with rfl | hf
      · simp only []; omega
      · exact fill_le l _ (fun y hy => h y (List.mem_cons_of_mem _ hy)) (by omega) f hf
theorem fills_le (s : Int) {l : List Cv.Lot} {price vol : Int} (h : Fine l price vol) : ∀ f ∈ fills s l price vol, 1 ≤ f.2 ∧ f.2 ≤ 1000 := by
  obtain ⟨h1, ⟨h2, h3⟩, h4, _⟩ := h
  have key : ∀ s sd, ∀ f ∈ side s l sd price vol, 1 ≤ f.2 ∧ f.2 ≤ 1000 := fun s sd f hf => by
    rw [side_is s h1.oks sd price vol h4] at hf
    exact fill_le _ vol (fun x hx => h1.oks x (List.mem_filter.1 ((order_perm s h1.oks sd price vol h2 h3).mem_iff.1 hx)).1) h4 f hf
  intro f hf
  rcases List.mem_append.1 hf with hf | hf
  · exact key _ _ f hf
  · exact key _ _ f hf
end Ra

theorem vol_le {l : List Cv.Lot} (h : Cv.Well l) (p : Int) : Cv.volume l p ≤ 120000 := by
  have := Cv.demand_range l p h
  unfold Cv.volume
  omega
theorem fills_fine (v : Value) (l : List Cv.Lot) (price vol s : Int) (T : TypeId) (v1 v2 v6 v7 : Value) (w : World) (hv : Lots w v l) (he : Er w T v1 v6 v7) (c2 : w.cell? ⟨7, 0, none⟩ = some (.iface T v2)) (hf : Ra.Fine l price vol) (hs : Ra.IsU s) :
    Calls Tryz.prog 51 #[v, .int .i64 price, .int .i64 vol, .int .u32 s] w fun e w' => ∃ v', e = .returned (.tuple #[v', .nilIface]) ∧ Fls w' v' (Ra.fills s l price vol) ∧ Below w.heap.size w w' := by
  obtain ⟨hw, ⟨h1, h2⟩, h3, h4⟩ := hf
  have hvl := vol_le hw price
  obtain ⟨a, n, cap, rfl⟩ := hv.form
  have hck := rcheck_more a n cap price vol (Cv.volume l price) T v2 w (check_well _ l T v1 v6 v7 w hv he hw) c2 (by show Wi.withinB price 1 1000 = true; simp [Wi.withinB, h1, h2]) (by omega) (fun w1 hb => volume_any _ l price T v1 v6 v7 w1 (hv.later hb) (he.later hb) hw)
  rw [if_neg (by omega)] at hck
  have hl := Ra.fills_length s (l := l) (price := price) (vol := vol) ⟨hw, ⟨h1, h2⟩, h3, h4⟩
  refine (fills_of a n cap price vol s (Ra.nextSeed s) l _ _ w hck hv hw h1 h2 h3 (by omega) hs (Ra.nextSeed_u hs) ?_ rfl rfl hl.1 hl.2).mono ?_
  · unfold Ra.nextSeed
    by_cases e : s = 4294967295
    · exact .inl ⟨e, by rw [if_pos e]⟩
    · exact .inr ⟨hs.1, by have := hs.2; omega, by rw [if_neg e]⟩
  · rintro e w' ⟨v', rfl, hr, hb⟩
    exact ⟨v', rfl, fls_of hr, hb⟩
theorem fills_bad (v : Value) (l : List Cv.Lot) (price vol s : Int) (T : TypeId) (v1 v2 v6 v7 : Value) (w : World) (hv : Lots w v l) (he : Er w T v1 v6 v7) (c2 : w.cell? ⟨7, 0, none⟩ = some (.iface T v2)) (hf : ¬ Ra.Fine l price vol) :
    Calls Tryz.prog 51 #[v, .int .i64 price, .int .i64 vol, .int .u32 s] w fun e w' => ∃ U x, e = .returned (.tuple #[.slice none 0 0, .iface U x]) ∧ Below w.heap.size w w' := by
  obtain ⟨a, n, cap, rfl⟩ := hv.form
  refine fills_err a n cap price vol s w (fun _ _ w' => Below w.heap.size w w') ?_
  by_cases hw : Cv.Well l
  · have hck := check_well _ l T v1 v6 v7 w hv he hw
    by_cases hb : ¬ (1 ≤ price ∧ price ≤ 1000) ∨ vol < 0
    · exact (rcheck_bound a n cap price vol T v1 w hck he.c1 hb).mono fun e w' ⟨h1, h2⟩ => ⟨T, v1, h1, h2⟩
    · have h1 : 1 ≤ price ∧ price ≤ 1000 := Classical.not_not.1 fun h => hb (.inl h)
      have h3 : ¬ vol < 0 := fun h => hb (.inr h)
      have := rcheck_more a n cap price vol (Cv.volume l price) T v2 w hck c2 (by show Wi.withinB price 1 1000 = true; simp [Wi.withinB, h1]) h3 (fun w1 hb => volume_any _ l price T v1 v6 v7 w1 (hv.later hb) (he.later hb) hw)
      rw [if_pos (Int.not_le.1 fun h => hf ⟨hw, h1, by omega, h⟩)] at this
      exact this.mono fun e w' ⟨h1, h2⟩ => ⟨T, v2, h1, h2⟩
  · refine rcheck_err a n cap price vol w (fun _ _ w' => Below w.heap.size w w') ?_
    exact (check_ill _ l T v1 v6 v7 w hv he hw).mono fun e w' ⟨⟨U, x, h1⟩, h2⟩ => ⟨U, x, h1, h2⟩

/-! the closed fact -/
def two : List Cv.Lot := [⟨1, 0, 0, 10, 5⟩, ⟨2, 0, 1, 8, 4⟩]
theorem two_well : Cv.Well two := by
  refine ⟨by decide, fun i hi => ?_⟩
  match i, hi with
  | 0, _ => rfl
  | 1, _ => rfl
theorem two_fine : Ra.Fine two 9 4 := ⟨two_well, ⟨by decide, by decide⟩, by decide, by decide⟩
theorem two_fills : Ra.fills 7 two 9 4 = [(1, 4), (2, 4)] := by kernel_rfl

theorem fls_two (w : World) (T : TypeId) : Fls (w.alloc (.cells #[.int .i64 1, .int .i64 4, .int .i64 2, .int .i64 4] T)) (.slice (some ⟨w.heap.size, 0, none⟩) 2 2) [(1, 4), (2, 4)] := by
  refine .inr ⟨w.heap.size, 2, rfl, fun i hi => ?_⟩
  match i, hi with
  | 0, _ => exact ⟨by rw [World.cell?_alloc_new]; rfl, by rw [World.cell?_alloc_new]; rfl⟩
  | 1, _ => exact ⟨by rw [World.cell?_alloc_new]; rfl, by rw [World.cell?_alloc_new]; rfl⟩
theorem lots_two (w : World) (T : TypeId) : Lots (w.alloc (.cells #[.int .i64 1, .int .i64 0, .int .i64 0, .int .i64 10, .int .i64 5, .int .i64 2, .int .i64 0, .int .i64 1, .int .i64 8, .int .i64 4] T)) (.slice (some ⟨w.heap.size, 0, none⟩) 2 2) two := by
  refine .inr ⟨w.heap.size, 0, 2, rfl, by decide, fun i hi => ?_⟩
  match i, hi with
  | 0, _ => exact ⟨by rw [World.cell?_alloc_new]; rfl, by rw [World.cell?_alloc_new]; rfl, by rw [World.cell?_alloc_new]; rfl, by rw [World.cell?_alloc_new]; rfl, by rw [World.cell?_alloc_new]; rfl⟩
  | 1, _ => exact ⟨by rw [World.cell?_alloc_new]; rfl, by rw [World.cell?_alloc_new]; rfl, by rw [World.cell?_alloc_new]; rfl, by rw [World.cell?_alloc_new]; rfl, by rw [World.cell?_alloc_new]; rfl⟩

end Go.Proofs.YtjdnahmdicamdaaGreatDoor
/- Function filled of package batch: the lots of one side's fills. -/
namespace Go.Proofs.YtjdnahmdicamdaaGreatDoor
open Go.RowKit
set_option maxRecDepth 100000

theorem filledOf_len (l : List Cv.Lot) (sd : Int) (f : Int × Int) : (Fs.filledOf l sd f).length ≤ 1 := by
  unfold Fs.filledOf; split <;> simp
theorem filled_len (l : List Cv.Lot) (sd : Int) : ∀ F, (Fs.filled l sd F).length ≤ F.length
  | [] => Nat.le_refl _
  | f :: F => by
    have := filled_len l sd F
    have := filledOf_len l sd f
    rw [Fs.filled, List.length_append, List.length_cons]; omega
theorem filled_snoc (l : List Cv.Lot) (sd : Int) (F : List (Int × Int)) (f : Int × Int) : Fs.filled l sd (F ++ [f]) = Fs.filled l sd F ++ Fs.filledOf l sd f := by
  rw [Fs.filled_append, Fs.filled, Fs.filled, List.append_nil]

set_option maxHeartbeats 1000000 in
theorem filled_some (b base bF cap n : Nat) (v : Value) (sd : Int) (l : List Cv.Lot) (F : List (Int × Int)) (w : World) (hb : Hid (Book w base b v l)) (hl : Hid (l.length ≤ 60)) (hn : Hid (F.length = n)) (hn' : n ≤ 400)
    (hF : Hid (∀ i, i < n → w.cell? ⟨bF, i * 2, none⟩ = some (.int .i64 (fnth F i).1) ∧ w.cell? ⟨bF, i * 2 + 1, none⟩ = some (.int .i64 (fnth F i).2))) :
    Calls Tryz.prog 90 #[.pointer (some ⟨b, 0, none⟩), .int .i64 sd, .slice (some ⟨bF, 0, none⟩) n cap] w fun e w' => ∃ v', e = .returned v' ∧ w'.ownsRow w.heap.size 56 5 v' (Fs.filled l sd F).length (flat (Fs.filled l sd F)) ∧ Below w.heap.size w w' := by
  obtain ⟨i0, z0, hi, hz0, hz1, hz2, hz3⟩ := info110
  have Hi := hide hi; have Hz0 := hide hz0; have Hz1 := hide hz1; have Hz2 := hide hz2; have Hz3 := hide hz3
  clear hi hz0 hz1 hz2 hz3
  go_enter Tryz.func90, Tryz.ntmps90
  go_wp2
  go_loopw [7, 14] (fun u i wr => ∃ (k : Nat) (zs : List Cv.Lot), k ≤ n ∧ i = .int .i64 k ∧ zs = Fs.filled l sd (F.take k) ∧ zs.length ≤ k ∧ wr.ownsRow w.heap.size 56 5 u zs.length (flat zs) ∧ Below w.heap.size w wr) (fun _ i _ => n - (intOf i).toNat)
  case atStart => exact ⟨0, [], Nat.zero_le _, rfl, rfl, Nat.le_refl _, ⟨rfl, .inl ⟨rfl, rfl⟩⟩, Below.refl _ _⟩
  case round =>
    obtain ⟨k, zs, hk, rfl, hzs, hzl, hrow, hbl⟩ := hrel
    have HZS := hide hzs; have HROW := hide hrow; have HBL := hide hbl
    clear hzs hrow hbl
    by_cases hlt : k < n
    · have hki : (k : Int) < n := by omega
      obtain ⟨c0, c1⟩ := hF.out k hlt
      have c0 := cell_later HBL.out c0
      have c1 := cell_later HBL.out c1
      have HSN : Hid (Fs.filled l sd (F.take (k + 1)) = zs ++ Fs.filledOf l sd (fnth F k)) := by
        show _ = _
        rw [take_fnth (by rw [hn.out]; exact hlt), filled_snoc, ← HZS.out]
      obtain ⟨⟨id, q⟩, hfe⟩ : ∃ f, fnth F k = f := ⟨_, rfl⟩
      rw [hfe] at c0 c1 HSN
      clear hfe
      simp only [] at c0 c1
      have hb1 : Below wr.heap.size wr (wr.alloc (.cells #[.int .i64 id, .int .i64 q] 54)) := (Below.refl _ _).alloc (Nat.le_refl _) _
      have HGET := hide (get_any b base v id l (wr.alloc (.cells #[.int .i64 id, .int .i64 q] 54)) ((hb.out.later (HBL.out)).later hb1) hl.out)
      have hd : (wr.alloc (.cells #[.int .i64 id, .int .i64 q] 54)).heap[wr.heap.size]? = some (.cells #[.int .i64 id, .int .i64 q] 54 (0, 0)) := heap_alloc_new _ _
      have HD := hide hd; have HB1 := hide (HBL.out.trans (hb1.mono HBL.out.size))
      have HR1 := hide (HROW.out.alloc (.cells #[.int .i64 id, .int .i64 q] 54))
      clear hd hb1
      obtain ⟨D, hDe⟩ : ∃ D, wr.heap.size = D := ⟨_, rfl⟩
      have HDe := hide hDe
      clear hDe
      cases hh : Cv.has l id with
      | false =>
        have HFO : Hid (Fs.filledOf l sd (id, q) = []) := by show _ = _; unfold Fs.filledOf; rw [if_neg (by simp [hh])]
        rw [hh, show Bk.getX l id = Cv.z by unfold Bk.getX; rw [hh]; rfl] at HGET
        unfold lotV Cv.z at HGET
        go_wp2_with fail
        refine HGET.out.mono ?_
        rintro e w2 ⟨rfl, hb2⟩
        have HB2 := hide (HB1.out.trans (hb2.mono HB1.out.size))
        have HR2 := hide (row_later HR1.out hb2)
        clear hb2 HGET HR1 HB1 HD
        simp only []
        have HB3 := hide (HB2.out.alloc HB2.out.size (.cells #[.int .i64 0, .int .i64 0, .int .i64 0, .int .i64 0, .int .i64 0] 56))
        have HR3 := hide (HR2.out.alloc (.cells #[.int .i64 0, .int .i64 0, .int .i64 0, .int .i64 0, .int .i64 0] 56))
        go_wp2
        refine ⟨⟨k + 1, zs, by omega, by go_num, by rw [HSN.out, HFO.out, List.append_nil], by omega, HR3.out, HB3.out⟩, by simp [intOf]; omega⟩
      | true =>
        rw [hh, show Bk.getX l id = Cv.nth l (Bk.pos l id) by unfold Bk.getX; rw [if_pos hh]] at HGET
        have HFO : Hid (Fs.filledOf l sd (id, q) = if (Cv.nth l (Bk.pos l id)).sd = sd then [Pu.only (Cv.nth l (Bk.pos l id)) q] else []) := by
          show _ = _
          unfold Fs.filledOf
          by_cases hs : (Cv.nth l (Bk.pos l id)).sd = sd
          · rw [if_pos ⟨hh, hs⟩, if_pos hs]
          · rw [if_neg (fun h => hs h.2), if_neg hs]
        generalize Cv.nth l (Bk.pos l id) = X at *
        obtain ⟨x0, x1, x2, x3, x4⟩ := X
        unfold lotV at HGET
        simp only [Pu.only] at HFO HGET
        by_cases hs : x2 = sd
        · subst hs
          rw [if_pos rfl] at HFO
          go_wp2_with fail
          refine HGET.out.mono ?_
          rintro e w2 ⟨rfl, hb2⟩
          have HB2 := hide (HB1.out.trans (hb2.mono HB1.out.size))
          have HR2 := hide (row_later HR1.out hb2)
          have hd2 : w2.heap[D]? = some (.cells #[.int .i64 id, .int .i64 q] 54 (0, 0)) := by rw [← HDe.out, hb2.block _ (lt_of_block HD.out)]; exact HD.out
          rw [HDe.out]
          have d1 : w2.cell? ⟨D, 1, none⟩ = some (.int .i64 q) := by rw [cell_of_row w2 D 1 _ _ _ hd2]; rfl
          have hDl := lt_of_block hd2
          clear hb2 HGET HR1 HB1 HD hd2
          have HB3 := hide (HB2.out.alloc HB2.out.size (.cells #[.int .i64 x0, .int .i64 x1, .int .i64 x2, .int .i64 x3, .int .i64 q] 56))
          have HR3 := hide (HR2.out.alloc (.cells #[.int .i64 x0, .int .i64 x1, .int .i64 x2, .int .i64 x3, .int .i64 q] 56))
          simp only []
          go_wp2_with (at_builtin; refine wpList_append_own_at _ rfl _ _ 37 rfl w.heap.size 56 i0 z0 5 40 Tryz.underlying37 Hi.out Hz0.out Hz1.out Hz2.out Hz3.out (by decide) _ _ _ rfl (HR3.out.alloc _) ⟨w2.heap.size + 1, 0, none⟩ 1 1 (lotCells ⟨x0, x1, x2, x3, q⟩) rfl rfl ?c1 ?c2 ?c3 ?c4 ?c5 ?_)
          case c1 => exact fun j u hj => cell_new5 _ ⟨x0, x1, x2, x3, q⟩ 56 _ (by simp) j u hj
          case c2 => exact fun u hu => by
                          simp only [lotCells, List.mem_cons, List.not_mem_nil, or_false] at hu
                          rcases hu with rfl | rfl | rfl | rfl | rfl <;> rfl
          case c3 => unfold maxLen; omega
          case c4 => omega
          case c5 => have := HB3.out.size; simp at this ⊢; omega
          intro ve we hown' hgrow _ hloc
          have HRe : Hid (we.ownsRow w.heap.size 56 5 ve (zs ++ [Cv.Lot.mk x0 x1 x2 x3 q]).length (flat (zs ++ [Cv.Lot.mk x0 x1 x2 x3 q]))) := by
            show World.ownsRow _ _ _ _ _ _ _
            rw [show flat (zs ++ [Cv.Lot.mk x0 x1 x2 x3 q]) = flat zs ++ lotCells ⟨x0, x1, x2, x3, q⟩ by simp [flat], List.length_append]
            exact hown'
          have hlt2 := (HR3.out.alloc (.cells #[.int .i64 x0, .int .i64 x1, .int .i64 x2, .int .i64 x3, .int .i64 q] 56)).lt
          have HBe : Hid (Below w.heap.size w we) := (HB3.out.alloc HB3.out.size _).grown hgrow (by have := HB3.out.size; simp at this ⊢; omega) (fun j hj => (hlt2 j hj).1)
          clear hown' hgrow hloc hlt2 HR3 HB3 HR2 HB2 d1
          go_wp2
          refine ⟨⟨k + 1, zs ++ [Cv.Lot.mk x0 x1 x2 x3 q], by omega, by go_num, by rw [HSN.out, HFO.out], by simp; omega, HRe.out, HBe.out⟩, by simp [intOf]; omega⟩
        · have hs' : (x2 == sd) = false := by simpa using hs
          rw [if_neg hs] at HFO
          go_wp2_with fail
          refine HGET.out.mono ?_
          rintro e w2 ⟨rfl, hb2⟩
          have HB2 := hide (HB1.out.trans (hb2.mono HB1.out.size))
          have HR2 := hide (row_later HR1.out hb2)
          clear hb2 HGET HR1 HB1 HD
          have HB3 := hide (HB2.out.alloc HB2.out.size (.cells #[.int .i64 x0, .int .i64 x1, .int .i64 x2, .int .i64 x3, .int .i64 x4] 56))
          have HR3 := hide (HR2.out.alloc (.cells #[.int .i64 x0, .int .i64 x1, .int .i64 x2, .int .i64 x3, .int .i64 x4] 56))
          simp only []
          go_wp2
          refine ⟨⟨k + 1, zs, by omega, by go_num, by rw [HSN.out, HFO.out, List.append_nil], by omega, HR3.out, HB3.out⟩, by simp [intOf]; omega⟩
    · have hki : ¬ (k : Int) < n := by omega
      have hzz : zs = Fs.filled l sd F := by rw [HZS.out, List.take_of_length_le (by rw [hn.out]; omega)]
      subst hzz
      go_wp2
      go_ret
      exact ⟨_, rfl, HROW.out, HBL.out⟩
theorem filled_any (b base : Nat) (v vF : Value) (sd : Int) (l : List Cv.Lot) (F : List (Int × Int)) (w : World) (hb : Hid (Book w base b v l)) (hl : Hid (l.length ≤ 60)) (hn : F.length ≤ 400) (hF : Hid (Fls w vF F)) :
    Calls Tryz.prog 90 #[.pointer (some ⟨b, 0, none⟩), .int .i64 sd, vF] w fun e w' => ∃ v', e = .returned v' ∧ w'.ownsRow w.heap.size 56 5 v' (Fs.filled l sd F).length (flat (Fs.filled l sd F)) ∧ Below w.heap.size w w' := by
  rcases hF.out with ⟨rfl, a, cap, rfl⟩ | ⟨bF, cap, rfl, hc⟩
  · go_enter Tryz.func90, Tryz.ntmps90
    go_wp2
    refine wp_loop_rounds 1 ?_
    rw [rounds_succ]
    go_wp2
    go_ret
    exact ⟨_, rfl, ⟨rfl, .inl ⟨rfl, rfl⟩⟩, Below.refl _ _⟩
  · exact filled_some b base bF cap F.length v sd l F w hb hl rfl hn hc
end Go.Proofs.YtjdnahmdicamdaaGreatDoor
/- A slice of fills beside a floor; two slices of lots that are apart. -/
namespace Go.Proofs.YtjdnahmdicamdaaGreatDoor
open Go.RowKit
set_option maxRecDepth 100000

def FRow (w : World) (v : Value) (F : List (Int × Int)) : Prop :=
  (F = [] ∧ ∃ a cap, v = .slice a 0 cap) ∨ ∃ g cap cur, v = .slice (some ⟨g, 0, none⟩) F.length cap ∧ (∀ i, i < F.length → w.cell? ⟨g, i * 2, none⟩ = some (.int .i64 (fnth F i).1) ∧ w.cell? ⟨g, i * 2 + 1, none⟩ = some (.int .i64 (fnth F i).2)) ∧ w.heap[g]? = some (.cells cur 54 (0, 0))
section
variable {w w' : World} {v : Value} {F : List (Int × Int)}
theorem FRow.fls (h : FRow w v F) : Fls w v F := by
  rcases h with h | ⟨g, cap, cur, h1, h2, _⟩
  · exact .inl h
  · exact .inr ⟨g, cap, h1, h2⟩
theorem FRow.keep (h : FRow w v F) (hk : ∀ (g : Nat) (cur : Array Value), w.heap[g]? = some (Obj.cells cur 54 (0, 0)) → w'.heap[g]? = w.heap[g]?) : FRow w' v F := by
  rcases h with h | ⟨g, cap, cur, h1, h2, h3⟩
  · exact .inl h
  · refine .inr ⟨g, cap, cur, h1, fun i hi => ?_, by rw [hk g cur h3]; exact h3⟩
    rw [World.cell?_of_block (a := ⟨g, i * 2, none⟩) (hk g cur h3), World.cell?_of_block (a := ⟨g, i * 2 + 1, none⟩) (hk g cur h3)]
    exact h2 i hi
theorem FRow.later (h : FRow w v F) (hb : Below w.heap.size w w') : FRow w' v F := h.keep fun g _ hg => hb.block g (lt_of_block hg)
theorem FRow.save {q : Nat} (h : FRow w v F) (hs : Save w w' q) {a : Array Value} {T : TypeId} (hq : w.heap[q]? = some (.cells a T (0, 0))) (hT : T ≠ 54) : FRow w' v F :=
  h.keep fun g _ hg => hs.block g (lt_of_block hg) (Ne.symm (blkT hq hg hT))
theorem FRow.book {base p : Nat} {u u' : Value} {l : List Cv.Lot} (h : FRow w v F) (hb : Book w base p u l) (hs : Step w w' p u u') : FRow w' v F :=
  h.keep fun g _ hg => hs.only.block g (lt_of_block hg) (fun e => by
    have : g = p := by simpa using e
    exact blkT hg hb.cell (by decide) this) (fun e => rowT hb.row hg (by decide) e.symm)
theorem FRow.of_row {base : Nat} (h : w.ownsRow base 54 2 v F.length (fcells F)) : FRow w v F := by
  rcases fls_of h with h1 | ⟨g, cap, h1, h2⟩
  · exact .inl h1
  · rcases h.2 with ⟨e, _⟩ | ⟨g', cap', cur, e, hg, hgg, _⟩
    · rw [e] at h1; cases h1
    · rw [e] at h1
      simp only [Value.slice.injEq, Option.some.injEq, Addr.mk.injEq] at h1
      obtain ⟨⟨rfl, _, _⟩, _, rfl⟩ := h1
      exact .inr ⟨g', cap', cur, e, h2, hgg⟩
theorem FRow.val (h : FRow w v F) : ∃ a cap, v = .slice a F.length cap := by
  rcases h with ⟨rfl, a, cap, rfl⟩ | ⟨g, cap, cur, rfl, _⟩
  · exact ⟨a, cap, rfl⟩
  · exact ⟨_, _, rfl⟩
end
theorem OwnL.nil {w : World} {g g' : Nat} {v : Value} (h : OwnL w g v []) : OwnL w g' v [] := by
  rcases h with h | ⟨o, cap, cur, h1, h2, h3, h4⟩
  · exact .inl h
  · exact .inl ⟨rfl, _, _, h1⟩
/-- two slices, the one made ahead of the other -/
theorem own_pair {w1 w2 : World} {B base1 base2 : Nat} {v1 v2 : Value} {l1 l2 : List Cv.Lot} (h1 : w1.ownsRow base1 56 5 v1 l1.length (flat l1)) (h12 : Below w1.heap.size w1 w2) (h2 : w2.ownsRow base2 56 5 v2 l2.length (flat l2)) (hb1 : B ≤ base1) (hb2 : w1.heap.size ≤ base2) (hB : B ≤ w1.heap.size) :
    ∃ g1 g2, OwnL w2 g1 v1 l1 ∧ OwnL w2 g2 v2 l2 ∧ g1 ≠ g2 ∧ B ≤ g1 ∧ B ≤ g2 := by
  obtain ⟨g1, a1, c1⟩ := OwnL.of_row (row_later h1 h12)
  obtain ⟨g2, a2, c2⟩ := OwnL.of_row h2
  have hlt1 := h1.lt
  rcases c1 with rfl | ⟨c1, e1⟩
  · rcases c2 with rfl | ⟨c2, e2⟩
    · exact ⟨B, B + 1, a1.nil, a2.nil, by omega, by omega, by omega⟩
    · exact ⟨g2 + 1, g2, a1.nil, a2, by omega, by omega, by omega⟩
  · have := hlt1 g1 e1
    rcases c2 with rfl | ⟨c2, e2⟩
    · exact ⟨g1, g1 + 1, a1, a2.nil, by omega, by omega, by omega⟩
    · exact ⟨g1, g2, a1, a2, by omega, by omega, by omega⟩
end Go.Proofs.YtjdnahmdicamdaaGreatDoor
