/- check and Fills by their contracts. -/
import Derived.Test.YtbcinejhipmomaaDoorRaSide
import Derived.Test.YtbcinejhipmomaaDoorCvAddsWalk
namespace Go.Proofs.YtbcinejhipmomaaDoor
open Go.RowKit
set_option maxRecDepth 100000

theorem share_side (sd price v s : Int) (B base n : Nat) (l : List Cv.Lot) (w : World) (hs : Ra.IsU s) (hv0 : 0 ≤ v) (hv1 : v ≤ 1000000) (hL : Levels w base B n (lf sd price l)) (hn : n ≤ 1000) (hok : Cv.Oks l) (hll : l.length ≤ 120) (h1 : 1 ≤ price) (h2 : price ≤ 1000) :
    Calls Tryd.prog 43 #[.map (some B), .int .i64 sd, .int .i64 v, .int .u32 s] w fun e w' => ∃ v', e = .returned v' ∧ w'.ownsRow w.heap.size 45 2 v' (Ra.side s l sd price v).length (fcells (Ra.side s l sd price v)) ∧ Below w.heap.size w w' := by
  have hlq : (Ra.qsOf l sd price).length ≤ 1000 := by
    refine Nat.le_trans (List.length_filter_le _ _) ?_
    unfold Ra.full Ra.cnt
    rw [List.length_map, List.length_range]
    split <;> omega
  refine share_of sd v s B base n (lf sd price l) (if sd = 0 then (Ra.qsOf l sd price).reverse else Ra.qsOf l sd price) (Ra.qsOf l sd price) _ w hs hv0 hv1 hL hn (Ra.ps_up l sd price) (fun p => ?_) (fun p => hok.filter _) (fun p => Nat.le_trans (List.length_filter_le _ _) (by omega)) ?_ (fun p hp => ?_) (Ra.side_share s hok sd price v h1 h2 hv0) (Nat.le_trans (Ra.side_length s hok sd price v h1 h2 hv0) (by omega)) hlq
  · split
    · rw [List.mem_reverse]; exact Ra.mem_qs hok h1 h2
    · exact Ra.mem_qs hok h1 h2
  · show _ = _
    split <;> simp
  · have h3 := (Ra.mem_qs hok h1 h2).1 hp
    exact ⟨h3, (Ra.mem_lf hok h3).1⟩

/-! check -/
set_option maxHeartbeats 400000 in
theorem rcheck_err (a : Option Addr) (n cap : Nat) (price vol : Int) (w : World) (Φ : TypeId → Value → World → Prop) (hc : Hid (Calls Tryd.prog 53 #[.slice a n cap] w fun e w' => ∃ U x, e = .returned (.iface U x) ∧ Φ U x w')) :
    Calls Tryd.prog 41 #[.slice a n cap, .int .i64 price, .int .i64 vol] w fun e w' => ∃ U x, e = .returned (.iface U x) ∧ Φ U x w' := by
  go_enter Tryd.func41, Tryd.ntmps41
  go_wp2_with fail
  refine hc.out.mono ?_
  rintro e w1 ⟨U, x, rfl, hx⟩
  have HX := hide hx
  clear hx
  simp only []
  go_wp2
  go_ret
  exact ⟨U, x, rfl, HX.out⟩
set_option maxHeartbeats 400000 in
theorem rcheck_bound (a : Option Addr) (n cap : Nat) (price vol : Int) (T : TypeId) (v1 : Value) (w : World) (hc : Hid (Calls Tryd.prog 53 #[.slice a n cap] w fun e w' => e = .returned .nilIface ∧ Below w.heap.size w w')) (c1 : w.cell? ⟨0, 0, none⟩ = some (.iface T v1)) (hb : ¬ (1 ≤ price ∧ price ≤ 1000) ∨ vol < 0) :
    Calls Tryd.prog 41 #[.slice a n cap, .int .i64 price, .int .i64 vol] w fun e w' => e = .returned (.iface T v1) ∧ Below w.heap.size w w' := by
  cases hw : Wi.withinB price 1 1000 with
  | false =>
    have HW := hide hw
    clear hw hb
    go_enter Tryd.func41, Tryd.ntmps41
    go_wp2_with fail
    refine hc.out.mono ?_
    rintro e w1 ⟨rfl, hb1⟩
    have HB1 := hide hb1
    have d1 := cell_later hb1 c1
    clear hb1
    simp only []
    go_wp2_with fail
    refine (within_any _ _ _ _).mono ?_
    rintro e w2 ⟨rfl, rfl⟩
    rw [HW.out]
    simp only []
    go_wp2
    go_ret
    exact ⟨rfl, HB1.out⟩
  | true =>
    have hv : vol < 0 := hb.resolve_left fun h => h (by simpa [Wi.withinB] using hw)
    have HW := hide hw
    clear hw hb
    go_enter Tryd.func41, Tryd.ntmps41
    go_wp2_with fail
    refine hc.out.mono ?_
    rintro e w1 ⟨rfl, hb1⟩
    have HB1 := hide hb1
    have d1 := cell_later hb1 c1
    clear hb1
    simp only []
    go_wp2_with fail
    refine (within_any _ _ _ _).mono ?_
    rintro e w2 ⟨rfl, rfl⟩
    rw [HW.out]
    simp only []
    go_wp2
    go_ret
    exact ⟨rfl, HB1.out⟩
set_option maxHeartbeats 400000 in
theorem rcheck_more (a : Option Addr) (n cap : Nat) (price vol most : Int) (T : TypeId) (v2 : Value) (w : World) (hc : Hid (Calls Tryd.prog 53 #[.slice a n cap] w fun e w' => e = .returned .nilIface ∧ Below w.heap.size w w')) (c2 : w.cell? ⟨4, 0, none⟩ = some (.iface T v2)) (hp : Hid (Wi.withinB price 1 1000 = true)) (hv : ¬ vol < 0)
    (hm : Hid (∀ w1, Below w.heap.size w w1 → Calls Tryd.prog 60 #[.slice a n cap, .int .i64 price] w1 fun e w' => e = .returned (.int .i64 most) ∧ Below w1.heap.size w1 w')) :
    Calls Tryd.prog 41 #[.slice a n cap, .int .i64 price, .int .i64 vol] w fun e w' => e = .returned (if most < vol then .iface T v2 else .nilIface) ∧ Below w.heap.size w w' := by
  have h0 : (0 : Int) ≤ vol := by omega
  by_cases hb : most < vol
  all_goals
    first | rw [if_pos hb] | rw [if_neg hb]
    go_enter Tryd.func41, Tryd.ntmps41
    go_wp2_with fail
    refine hc.out.mono ?_
    rintro e w1 ⟨rfl, hb1⟩
    have HB1 := hide hb1
    have d2 := cell_later hb1 c2
    clear hb1
    simp only []
    go_wp2_with fail
    refine (within_any _ _ _ _).mono ?_
    rintro e w2 ⟨rfl, rfl⟩
    rw [hp.out]
    simp only []
    go_wp2_with fail
    refine (hm.out _ HB1.out).mono ?_
    rintro e w3 ⟨rfl, hb3⟩
    have HB3 := hide (HB1.out.trans (hb3.mono HB1.out.size))
    have d3 := cell_later HB3.out c2
    clear hb3 d2
    simp only []
    go_wp2
    go_ret
    exact ⟨rfl, HB3.out⟩

/-! Fills -/
set_option maxHeartbeats 400000 in
theorem fills_err (a : Option Addr) (n cap : Nat) (price vol s : Int) (w : World) (Φ : TypeId → Value → World → Prop) (hc : Hid (Calls Tryd.prog 41 #[.slice a n cap, .int .i64 price, .int .i64 vol] w fun e w' => ∃ U x, e = .returned (.iface U x) ∧ Φ U x w')) :
    Calls Tryd.prog 10 #[.slice a n cap, .int .i64 price, .int .i64 vol, .int .u32 s] w fun e w' => ∃ U x, e = .returned (.tuple #[.slice none 0 0, .iface U x]) ∧ Φ U x w' := by
  go_enter Tryd.func10, Tryd.ntmps10
  go_wp2_with fail
  refine hc.out.mono ?_
  rintro e w1 ⟨U, x, rfl, hx⟩
  have HX := hide hx
  clear hx
  simp only []
  go_wp2
  go_ret2
  exact ⟨U, x, rfl, HX.out⟩

theorem row_later {w w' : World} {base : Nat} {e : TypeId} {size : Nat} {v : Value} {n : Nat} {xs : List Value} (h : w.ownsRow base e size v n xs) (hb : Below w.heap.size w w') : w'.ownsRow base e size v n xs :=
  h.kept (row := none) ⟨hb.os, hb.tape, hb.output, hb.size, fun i hi _ => hb.block i hi⟩ (by
    cases e : v.ownBlock with
    | none => exact .inl rfl
    | some _ => exact .inr (by simp))
theorem fcells_append (F G : List (Int × Int)) : fcells (F ++ G) = fcells F ++ fcells G := by simp [fcells]
theorem fcells_length (F : List (Int × Int)) : (fcells F).length = F.length * 2 := by
  induction F with
  | nil => rfl
  | cons f F ih => simp [fcells] at ih ⊢; omega
theorem fcells_one (F : List (Int × Int)) : ∀ u ∈ fcells F, u.oneCell' = true := fun u hu => by
  obtain ⟨f, _, hf⟩ := List.mem_flatMap.1 hu
  simp only [List.mem_cons, List.not_mem_nil, or_false] at hf
  rcases hf with rfl | rfl <;> rfl

set_option maxHeartbeats 1000000 in
theorem fills_of (a : Option Addr) (n cap : Nat) (price vol s s1 : Int) (l : List Cv.Lot) (F0 F1 : List (Int × Int)) (w : World) (hck : Hid (Calls Tryd.prog 41 #[.slice a n cap, .int .i64 price, .int .i64 vol] w fun e w' => e = .returned .nilIface ∧ Below w.heap.size w w'))
    (hv : Hid (Lots w (.slice a n cap) l)) (hok : Hid (Cv.Well l)) (h1 : 1 ≤ price) (h2 : price ≤ 1000) (hv0 : 0 ≤ vol) (hv1 : vol ≤ 1000000) (hs : Hid (Ra.IsU s)) (hs1 : Hid (Ra.IsU s1)) (hse : (s = 4294967295 ∧ s1 = 0) ∨ (0 ≤ s ∧ s < 4294967295 ∧ s1 = s + 1))
    (hF0 : Hid (Ra.side s l 0 price vol = F0)) (hF1 : Hid (Ra.side s1 l 1 price vol = F1)) (hl0 : F0.length ≤ 120) (hl1 : F1.length ≤ 120) :
    Calls Tryd.prog 10 #[.slice a n cap, .int .i64 price, .int .i64 vol, .int .u32 s] w fun e w' => ∃ v', e = .returned (.tuple #[v', .nilIface]) ∧ w'.ownsRow w.heap.size 45 2 v' (F0 ++ F1).length (fcells (F0 ++ F1)) ∧ Below w.heap.size w w' := by
  obtain ⟨i0, z0, hi, hz0, hz1, hz2, hz3⟩ := info45
  have Hi := hide hi; have Hz0 := hide hz0; have Hz1 := hide hz1; have Hz2 := hide hz2; have Hz3 := hide hz3
  clear hi hz0 hz1 hz2 hz3
  have hl12 : l.length ≤ 120 := hok.out.1
  rcases hse with ⟨rfl, rfl⟩ | ⟨hs0, hs2, rfl⟩
  all_goals
    go_enter Tryd.func10, Tryd.ntmps10
    go_wp2_with fail
    refine hck.out.mono ?_
    rintro e w1 ⟨rfl, hb1⟩
    have HB1 := hide hb1
    clear hb1
    simp only []
    go_wp2_with fail
    refine (levelsOf_any _ 0 price l w1 (hv.out.later HB1.out) hok.out).mono ?_
    rintro e w2 ⟨rfl, hL2, hb2⟩
    have HB2 := hide (HB1.out.trans (hb2.mono HB1.out.size)); have HL2 := hide hL2
    clear hb2 hL2
    simp only []
    go_wp2_with fail
    refine (share_side 0 price vol _ _ _ _ l w2 hs.out hv0 hv1 HL2.out (by omega) hok.out.oks hl12 h1 h2).mono ?_
    rintro e w3 ⟨vb, rfl, hrb, hb3⟩
    rw [hF0.out] at hrb
    have HRB := hide (row_base hrb HB2.out.size); have HB3 := hide (HB2.out.trans (hb3.mono HB2.out.size))
    clear hrb hb3
    simp only []
    go_wp2_with fail
    refine (levelsOf_any _ 1 price l w3 (hv.out.later HB3.out) hok.out).mono ?_
    rintro e w4 ⟨rfl, hL4, hb4⟩
    have HB4 := hide (HB3.out.trans (hb4.mono HB3.out.size)); have HL4 := hide hL4; have HRB4 := hide (row_later HRB.out hb4)
    clear hb4 hL4
    simp only []
    go_wp2_with fail
    refine (share_side 1 price vol _ _ _ _ l w4 hs1.out hv0 hv1 HL4.out (by omega) hok.out.oks hl12 h1 h2).mono ?_
    rintro e w5 ⟨vs, rfl, hrs, hb5⟩
    rw [hF1.out] at hrs
    have HRS := hide (row_base hrs HB4.out.size); have HB5 := hide (HB4.out.trans (hb5.mono HB4.out.size)); have HRB5 := hide (row_later HRB4.out hb5)
    clear hrs hb5 HRB HRB4 HL2 HL4
    simp only []
    rcases HRS.out.2 with ⟨rfl, h0⟩ | ⟨rs, cs, curs, rfl, _⟩
    · have HF1 : Hid (F1 = []) := List.eq_nil_of_length_eq_zero h0
      have HR : Hid (w5.ownsRow w.heap.size 45 2 vb (F0 ++ F1).length (fcells (F0 ++ F1))) := by
        rw [HF1.out, List.append_nil]; exact HRB5.out
      clear h0
      rcases HRB5.out.2 with ⟨rfl, _⟩ | ⟨rb, cb, curb, rfl, _, _, hcb, _⟩
      · clear HRB5 HRS
        go_wp2
        go_ret2
        exact ⟨_, rfl, HR.out, HB5.out⟩
      · clear HRB5 HRS
        go_wp2
        go_ret2
        exact ⟨_, rfl, HR.out, HB5.out⟩
    · have HC : Hid (∀ j u, (fcells F1)[j]? = some u → w5.cell? ((⟨rs, 0, none⟩ : Addr).add j) = some u) := fun j u hu => World.ownsRow.cells HRS.out (g := rs) rfl j u hu
      go_wp2_with (at_builtin; refine wpList_append_own _ rfl _ _ 25 rfl w.heap.size 45 i0 z0 2 16 Tryd.underlying25 Hi.out Hz0.out Hz1.out Hz2.out Hz3.out (by decide) _ _ _ rfl HRB5.out ⟨rs, 0, none⟩ F1.length cs (fcells F1) rfl (fcells_length F1) HC.out (fcells_one F1) ?d3 ?d4 ?d5 ?_)
      case d3 => unfold maxLen; omega
      case d4 => omega
      case d5 => exact HB5.out.size
      intro v6 w6 hown6 hgrow6 _
      have HR : Hid (w6.ownsRow w.heap.size 45 2 v6 (F0 ++ F1).length (fcells (F0 ++ F1))) := by
        show World.ownsRow _ _ _ _ _ _ _
        rw [fcells_append, List.length_append]
        exact hown6
      have hlt := HRB5.out.lt
      have HB6 : Hid (Below w.heap.size w w6) := HB5.out.grown hgrow6 HB5.out.size (fun j hj => (hlt j hj).1)
      clear hown6 hgrow6 HRS HC HRB5 hlt
      go_wp2
      go_ret2
      exact ⟨_, rfl, HR.out, HB6.out⟩
end Go.Proofs.YtbcinejhipmomaaDoor
