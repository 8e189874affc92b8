/- checkTrade of package purse by its contract. -/
import Derived.Test.YtgmncdpjbphfhaaDoorPuGive
namespace Go.Proofs.YtgmncdpjbphfhaaDoor
open Go.RowKit
set_option maxRecDepth 100000

/-- what the errors that a trade answers hold -/
structure TEr (w : World) (v : Nat → Value) : Prop where
  per : PEr w v
  c2 : w.cell? ⟨4, 0, none⟩ = some (.iface 110 (v 2))
  c11 : w.cell? ⟨11, 0, none⟩ = some (.iface 110 (v 11))
theorem TEr.later {w w' : World} {v : Nat → Value} (h : TEr w v) (hb : Below w.heap.size w w') : TEr w' v := ⟨h.per.later hb, cell_later hb h.c2, cell_later hb h.c11⟩
theorem TEr.save {w w' : World} {v : Nat → Value} {p : Nat} (h : TEr w v) (hs : Save w w' p) (hp : 12 < p) : TEr w' v :=
  ⟨h.per.save hs hp, cell_save hs h.c2 (by show 4 ≠ p; omega), cell_save hs h.c11 (by show 11 ≠ p; omega)⟩

def lotA (x : Cv.Lot) : Array Value := #[.int .i64 x.id, .int .i64 x.ow, .int .i64 x.sd, .int .i64 x.pr, .int .i64 x.q]

set_option maxHeartbeats 2000000 in
theorem check_any (item : Int) (b s : Cv.Lot) (price qty : Int) (v : Nat → Value) (w : World) (he : Hid (TEr w v)) :
    Calls Tryd.prog 30 #[.int .i64 item, lotV b, lotV s, .int .i64 price, .int .i64 qty] w fun e w' => e = .returned (errE v (Pu.tchk item b s price qty)) ∧ Below w.heap.size w w' := by
  show Calls Tryd.prog 30 #[.int .i64 item, .agg #[.int .i64 b.id, .int .i64 b.ow, .int .i64 b.sd, .int .i64 b.pr, .int .i64 b.q], .agg #[.int .i64 s.id, .int .i64 s.ow, .int .i64 s.sd, .int .i64 s.pr, .int .i64 s.q], .int .i64 price, .int .i64 qty] w _
  obtain ⟨W, hWd⟩ : ∃ W, (w.alloc (.cells #[.int .i64 b.id, .int .i64 b.ow, .int .i64 b.sd, .int .i64 b.pr, .int .i64 b.q] 34)).alloc (.cells #[.int .i64 s.id, .int .i64 s.ow, .int .i64 s.sd, .int .i64 s.pr, .int .i64 s.q] 34) = W := ⟨_, rfl⟩
  have hb1 : Below w.heap.size w (w.alloc (.cells #[.int .i64 b.id, .int .i64 b.ow, .int .i64 b.sd, .int .i64 b.pr, .int .i64 b.q] 34)) := (Below.refl _ _).alloc (Nat.le_refl _) _
  have hb2 : Below w.heap.size w W := by rw [← hWd]; exact hb1.alloc hb1.size _
  have hX0 : W.heap[w.heap.size]? = some (.cells (lotA b) 34 (0, 0)) := by
    rw [← hWd]
    exact (Below.heap_alloc _ _ _ (by simp)).trans (heap_alloc_new _ _)
  have hY0 : W.heap[w.heap.size + 1]? = some (.cells (lotA s) 34 (0, 0)) := by
    rw [← hWd]
    have := heap_alloc_new (w.alloc (.cells #[.int .i64 b.id, .int .i64 b.ow, .int .i64 b.sd, .int .i64 b.pr, .int .i64 b.q] 34)) (.cells #[.int .i64 s.id, .int .i64 s.ow, .int .i64 s.sd, .int .i64 s.pr, .int .i64 s.q] 34)
    rw [show (w.alloc (.cells #[.int .i64 b.id, .int .i64 b.ow, .int .i64 b.sd, .int .i64 b.pr, .int .i64 b.q] 34)).heap.size = w.heap.size + 1 by simp] at this
    exact this
  have HX0 := hide hX0; have HY0 := hide hY0; have HBW := hide hb2
  have HC := hide (isWell_any item b 110 _ _ _ W (he.out.later hb2).per.er)
  unfold lotV at HC
  have HWd := hide hWd
  clear hb1 hb2 hX0 hY0 hWd
  go_enter Tryd.func30, Tryd.ntmps30
  go_wp2_with fail
  rw [HWd.out]
  clear HWd
  refine HC.out.mono ?_
  rintro e w2 ⟨rfl, hb2⟩
  have HB : Hid (Below w.heap.size w w2) := HBW.out.trans (hb2.mono HBW.out.size)
  have HX : Hid (w2.heap[w.heap.size]? = some (.cells (lotA b) 34 (0, 0))) := by show _ = _; rw [hb2.block _ (lt_of_block HX0.out)]; exact HX0.out
  have HY : Hid (w2.heap[w.heap.size + 1]? = some (.cells (lotA s) 34 (0, 0))) := by show _ = _; rw [hb2.block _ (lt_of_block HY0.out)]; exact HY0.out
  clear hb2 HC HBW HX0 HY0
  cases hwb : Pu.well item b with
  | false =>
    have HA : Hid (Pu.tchk item b s price qty = 1) := by show _ = _; unfold Pu.tchk; rw [if_neg (by rw [hwb]; simp)]
    have e1 := (he.out.later HB.out).per.er.c1
    clear hwb
    simp only []
    go_wp2
    go_ret
    exact ⟨by rw [HA.out]; rfl, HB.out⟩
  | true =>
    have Hwb := hide hwb
    clear hwb
    have HC := hide (isWell_any item s 110 _ _ _ w2 (he.out.later HB.out).per.er)
    unfold lotV at HC
    have s0 : w2.cell? ⟨w.heap.size + 1, 0, none⟩ = some (.int .i64 s.id) := hs_cell HY.out rfl
    have s1 : w2.cell? ⟨w.heap.size + 1, 1, none⟩ = some (.int .i64 s.ow) := hs_cell HY.out rfl
    have s2 : w2.cell? ⟨w.heap.size + 1, 2, none⟩ = some (.int .i64 s.sd) := hs_cell HY.out rfl
    have s3 : w2.cell? ⟨w.heap.size + 1, 3, none⟩ = some (.int .i64 s.pr) := hs_cell HY.out rfl
    have s4 : w2.cell? ⟨w.heap.size + 1, 4, none⟩ = some (.int .i64 s.q) := hs_cell HY.out rfl
    simp only []
    go_wp2_with fail
    refine HC.out.mono ?_
    rintro e w3 ⟨rfl, hb3⟩
    have HB3 : Hid (Below w.heap.size w w3) := HB.out.trans (hb3.mono HB.out.size)
    have HX3 : Hid (w3.heap[w.heap.size]? = some (.cells (lotA b) 34 (0, 0))) := by show _ = _; rw [hb3.block _ (lt_of_block HX.out)]; exact HX.out
    have HY3 : Hid (w3.heap[w.heap.size + 1]? = some (.cells (lotA s) 34 (0, 0))) := by show _ = _; rw [hb3.block _ (lt_of_block HY.out)]; exact HY.out
    clear hb3 HC HX HY s0 s1 s2 s3 s4 HB
    have HE := hide (he.out.later HB3.out)
    cases hws : Pu.well item s with
    | false =>
      have HA : Hid (Pu.tchk item b s price qty = 1) := by show _ = _; unfold Pu.tchk; rw [if_neg (by rw [hws]; simp)]
      have e1 := HE.out.per.er.c1
      clear hws
      simp only []
      go_wp2
      go_ret
      exact ⟨by rw [HA.out]; rfl, HB3.out⟩
    | true =>
      have Hws := hide hws
      clear hws
      have HT : Hid (Pu.tchk item b s price qty = if b.sd = 0 ∧ s.sd = 1 then (if (1 ≤ price ∧ price ≤ 1000) ∧ 1 ≤ qty ∧ qty ≤ b.q ∧ qty ≤ s.q then (if s.pr ≤ price ∧ price ≤ b.pr then 0 else 11) else 1) else 2) := by show _ = _; unfold Pu.tchk; rw [if_pos ⟨Hwb.out, Hws.out⟩]
      have hbq := (Cv.ok_bounds (Pu.well_ok Hwb.out)).2.2.2.2
      have hsq := (Cv.ok_bounds (Pu.well_ok Hws.out)).2.2.2.2
      have b2 : w3.cell? ⟨w.heap.size, 2, none⟩ = some (.int .i64 b.sd) := hs_cell HX3.out rfl
      have b3 : w3.cell? ⟨w.heap.size, 3, none⟩ = some (.int .i64 b.pr) := hs_cell HX3.out rfl
      have b4 : w3.cell? ⟨w.heap.size, 4, none⟩ = some (.int .i64 b.q) := hs_cell HX3.out rfl
      have s2 : w3.cell? ⟨w.heap.size + 1, 2, none⟩ = some (.int .i64 s.sd) := hs_cell HY3.out rfl
      have s3 : w3.cell? ⟨w.heap.size + 1, 3, none⟩ = some (.int .i64 s.pr) := hs_cell HY3.out rfl
      have s4 : w3.cell? ⟨w.heap.size + 1, 4, none⟩ = some (.int .i64 s.q) := hs_cell HY3.out rfl
      obtain ⟨R, hR⟩ : ∃ R, Pu.tchk item b s price qty = R := ⟨_, rfl⟩
      have HR := hide hR
      rw [hR] at HT
      clear hR
      generalize b.sd = bsd at *
      generalize b.pr = bpr at *
      generalize b.q = bq at *
      generalize s.sd = ssd at *
      generalize s.pr = spr at *
      generalize s.q = sq at *
      have c1 := HE.out.per.er.c1
      have c2 := HE.out.c2
      have c11 := HE.out.c11
      by_cases hbs : bsd = 0
      · by_cases hss : ssd = 1
        · have HT2 : Hid (R = if (1 ≤ price ∧ price ≤ 1000) ∧ 1 ≤ qty ∧ qty ≤ bq ∧ qty ≤ sq then (if spr ≤ price ∧ price ≤ bpr then 0 else 11) else 1) := by show _ = _; rw [HT.out, if_pos ⟨hbs, hss⟩]
          subst hbs hss
          clear HT
          have HP := hide (within_any price 1 1000 w3)
          cases hpr : Wi.withinB price 1 1000 with
          | false =>
            rw [hpr] at HP
            have HA : Hid (R = 1) := by
              show _ = _
              rw [HT2.out, if_neg]
              rintro ⟨h, _⟩
              rw [show Wi.withinB price 1 1000 = true by simp [Wi.withinB, h.1, h.2]] at hpr
              cases hpr
            clear hpr
            simp only []
            go_wp2_with fail
            refine HP.out.mono ?_
            rintro e w4 ⟨rfl, rfl⟩
            simp only []
            go_wp2
            go_ret
            exact ⟨by rw [HR.out, HA.out]; rfl, HB3.out⟩
          | true =>
            rw [hpr] at HP
            have Hpr : Hid (1 ≤ price ∧ price ≤ 1000) := by
              have := hpr
              simp only [Wi.withinB, Bool.and_eq_true, decide_eq_true_eq] at this
              exact this
            clear hpr
            simp only []
            go_wp2_with fail
            refine HP.out.mono ?_
            rintro e w4 ⟨rfl, rfl⟩
            simp only []
            by_cases hmn : sq < bq
            · cases hqr : Wi.withinB qty 1 sq with
              | false =>
                have HA : Hid (R = 1) := by
                  show _ = _
                  rw [HT2.out, if_neg]
                  rintro ⟨_, h1, h2, h3⟩
                  rw [show Wi.withinB qty 1 sq = true by simp only [Wi.withinB, Bool.and_eq_true, decide_eq_true_eq]; omega] at hqr
                  cases hqr
                have HQ := hide (within_any qty 1 sq w4)
                rw [hqr] at HQ
                clear hqr
                go_wp2_with fail
                refine HQ.out.mono ?_
                rintro e w5 ⟨rfl, rfl⟩
                simp only []
                go_wp2
                go_ret
                exact ⟨by rw [HR.out, HA.out]; rfl, HB3.out⟩
              | true =>
                have HT3 : Hid (R = if spr ≤ price ∧ price ≤ bpr then 0 else 11) := by
                  have := hqr
                  simp only [Wi.withinB, Bool.and_eq_true, decide_eq_true_eq] at this
                  show _ = _
                  rw [HT2.out, if_pos ⟨Hpr.out, by omega, by omega, by omega⟩]
                have HQ := hide (within_any qty 1 sq w4)
                rw [hqr] at HQ
                clear hqr
                go_wp2_with fail
                refine HQ.out.mono ?_
                rintro e w5 ⟨rfl, rfl⟩
                simp only []
                have HO := hide (within_any price spr bpr w5)
                cases hor : Wi.withinB price spr bpr with
                | false =>
                  have HA : Hid (R = 11) := by
                    show _ = _
                    rw [HT3.out, if_neg]
                    rintro ⟨h1, h2⟩
                    rw [show Wi.withinB price spr bpr = true by simp [Wi.withinB, h1, h2]] at hor
                    cases hor
                  rw [hor] at HO
                  clear hor
                  go_wp2_with fail
                  refine HO.out.mono ?_
                  rintro e w6 ⟨rfl, rfl⟩
                  simp only []
                  go_wp2
                  go_ret
                  exact ⟨by rw [HR.out, HA.out]; rfl, HB3.out⟩
                | true =>
                  have HA : Hid (R = 0) := by
                    have := hor
                    simp only [Wi.withinB, Bool.and_eq_true, decide_eq_true_eq] at this
                    show _ = _
                    rw [HT3.out, if_pos this]
                  rw [hor] at HO
                  clear hor
                  go_wp2_with fail
                  refine HO.out.mono ?_
                  rintro e w6 ⟨rfl, rfl⟩
                  simp only []
                  go_wp2
                  go_ret
                  exact ⟨by rw [HR.out, HA.out]; rfl, HB3.out⟩
            · have hmn' : bq ≤ sq := by omega
              cases hqr : Wi.withinB qty 1 bq with
              | false =>
                have HA : Hid (R = 1) := by
                  show _ = _
                  rw [HT2.out, if_neg]
                  rintro ⟨_, h1, h2, h3⟩
                  rw [show Wi.withinB qty 1 bq = true by simp only [Wi.withinB, Bool.and_eq_true, decide_eq_true_eq]; omega] at hqr
                  cases hqr
                have HQ := hide (within_any qty 1 bq w4)
                rw [hqr] at HQ
                clear hqr
                go_wp2_with fail
                refine HQ.out.mono ?_
                rintro e w5 ⟨rfl, rfl⟩
                simp only []
                go_wp2
                go_ret
                exact ⟨by rw [HR.out, HA.out]; rfl, HB3.out⟩
              | true =>
                have HT3 : Hid (R = if spr ≤ price ∧ price ≤ bpr then 0 else 11) := by
                  have := hqr
                  simp only [Wi.withinB, Bool.and_eq_true, decide_eq_true_eq] at this
                  show _ = _
                  rw [HT2.out, if_pos ⟨Hpr.out, by omega, by omega, by omega⟩]
                have HQ := hide (within_any qty 1 bq w4)
                rw [hqr] at HQ
                clear hqr
                go_wp2_with fail
                refine HQ.out.mono ?_
                rintro e w5 ⟨rfl, rfl⟩
                simp only []
                have HO := hide (within_any price spr bpr w5)
                cases hor : Wi.withinB price spr bpr with
                | false =>
                  have HA : Hid (R = 11) := by
                    show _ = _
                    rw [HT3.out, if_neg]
                    rintro ⟨h1, h2⟩
                    rw [show Wi.withinB price spr bpr = true by simp [Wi.withinB, h1, h2]] at hor
                    cases hor
                  rw [hor] at HO
                  clear hor
                  go_wp2_with fail
                  refine HO.out.mono ?_
                  rintro e w6 ⟨rfl, rfl⟩
                  simp only []
                  go_wp2
                  go_ret
                  exact ⟨by rw [HR.out, HA.out]; rfl, HB3.out⟩
                | true =>
                  have HA : Hid (R = 0) := by
                    have := hor
                    simp only [Wi.withinB, Bool.and_eq_true, decide_eq_true_eq] at this
                    show _ = _
                    rw [HT3.out, if_pos this]
                  rw [hor] at HO
                  clear hor
                  go_wp2_with fail
                  refine HO.out.mono ?_
                  rintro e w6 ⟨rfl, rfl⟩
                  simp only []
                  go_wp2
                  go_ret
                  exact ⟨by rw [HR.out, HA.out]; rfl, HB3.out⟩
        · have HA : Hid (R = 2) := by show _ = _; rw [HT.out, if_neg (by rintro ⟨h1, h2⟩; first | exact hbs h1 | exact hss h2)]
          have hss2 : (ssd == 1) = false := by simp [hss]
          subst hbs
          simp only []
          go_wp2
          go_ret
          exact ⟨by rw [HR.out, HA.out]; rfl, HB3.out⟩
      · have HA : Hid (R = 2) := by show _ = _; rw [HT.out, if_neg (by rintro ⟨h1, h2⟩; first | exact hbs h1 | exact hss h2)]
        have hbb : (bsd == 0) = false := by simp [hbs]
        simp only []
        go_wp2
        go_ret
        exact ⟨by rw [HR.out, HA.out]; rfl, HB3.out⟩
end Go.Proofs.YtgmncdpjbphfhaaDoor
