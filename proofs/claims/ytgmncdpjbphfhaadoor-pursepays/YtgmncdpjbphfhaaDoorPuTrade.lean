/- Trade of a purse by its contract. -/
import Derived.Test.YtgmncdpjbphfhaaDoorPuCheck
import Derived.Test.YtgmncdpjbphfhaaDoorPuMore
namespace Go.Proofs.YtgmncdpjbphfhaaDoor
open Go.RowKit
set_option maxRecDepth 100000

theorem wpList_store55e {ops : Array Oper} {rest : List Oper} {op : Oper} {a : Act} {w : World} {Q : Exit → Act → World → Prop} {B : Nat} {f : Nat → Int} (g : Nat → Int) (W' : World) (h : Purse w 55 B f) (hW : w.setRow B (row g) = W') (hgd : op.guard = none) (x y : Operand) (ho : op.op = .store 55 x y)
    (hx : a.eval x = .pointer (some ⟨B, 0, none⟩)) (hy : a.eval y = .agg (row g)) (k : wpList Tryd.prog ops Q rest (a.put op.dst undef) W') : wpList Tryd.prog ops Q (op :: rest) a w := by
  subst hW
  exact wpList_store55 g h hgd x y ho hx hy k

set_option maxHeartbeats 4000000 in
theorem trade_any (p : Nat) (item : Int) (b s : Cv.Lot) (price qty : Int) (f : Nat → Int) (v : Nat → Value) (w : World) (he : Hid (TEr w v)) (hp : Hid (Purse w 55 p f)) (hg : Hid (Pu.Good f)) :
    Calls Tryd.prog 15 #[.pointer (some ⟨p, 0, none⟩), .int .i64 item, lotV b, lotV s, .int .i64 price, .int .i64 qty] w fun e w' => e = .returned (errE v (Pu.tradeC f item b s price qty)) ∧ Purse w' 55 p (Pu.tradeF f item b s price qty) ∧ Save w w' p := by
  show Calls Tryd.prog 15 #[.pointer (some ⟨p, 0, none⟩), .int .i64 item, .agg #[.int .i64 b.id, .int .i64 b.ow, .int .i64 b.sd, .int .i64 b.pr, .int .i64 b.q], .agg #[.int .i64 s.id, .int .i64 s.ow, .int .i64 s.sd, .int .i64 s.pr, .int .i64 s.q], .int .i64 price, .int .i64 qty] w _
  obtain ⟨W, hWd⟩ : ∃ W, (w.alloc (.cells #[.int .i64 b.id, .int .i64 b.ow, .int .i64 b.sd, .int .i64 b.pr, .int .i64 b.q] 34)).alloc (.cells #[.int .i64 s.id, .int .i64 s.ow, .int .i64 s.sd, .int .i64 s.pr, .int .i64 s.q] 34) = W := ⟨_, rfl⟩
  have hb1 : Below w.heap.size w (w.alloc (.cells #[.int .i64 b.id, .int .i64 b.ow, .int .i64 b.sd, .int .i64 b.pr, .int .i64 b.q] 34)) := (Below.refl _ _).alloc (Nat.le_refl _) _
  have hb2 : Below w.heap.size w W := by rw [← hWd]; exact hb1.alloc hb1.size _
  have hX0 : W.heap[w.heap.size]? = some (.cells (lotA b) 34 (0, 0)) := by
    rw [← hWd]
    exact (Below.heap_alloc _ _ _ (by simp)).trans (heap_alloc_new _ _)
  have hY0 : W.heap[w.heap.size + 1]? = some (.cells (lotA s) 34 (0, 0)) := by
    rw [← hWd]
    have := heap_alloc_new (w.alloc (.cells #[.int .i64 b.id, .int .i64 b.ow, .int .i64 b.sd, .int .i64 b.pr, .int .i64 b.q] 34)) (.cells #[.int .i64 s.id, .int .i64 s.ow, .int .i64 s.sd, .int .i64 s.pr, .int .i64 s.q] 34)
    rw [show (w.alloc (.cells #[.int .i64 b.id, .int .i64 b.ow, .int .i64 b.sd, .int .i64 b.pr, .int .i64 b.q] 34)).heap.size = w.heap.size + 1 by simp] at this
    exact this
  have HX0 := hide hX0; have HY0 := hide hY0; have HBW := hide hb2
  have HC := hide (check_any item b s price qty v W (he.out.later hb2))
  unfold lotV at HC
  have HWd := hide hWd
  have hpl := hp.out.lt
  clear hb1 hb2 hX0 hY0 hWd
  go_enter Tryd.func15, Tryd.ntmps15
  go_wp2_with fail
  rw [HWd.out]
  clear HWd
  refine HC.out.mono ?_
  rintro e w2 ⟨rfl, hb2⟩
  have HB : Hid (Below w.heap.size w w2) := HBW.out.trans (hb2.mono HBW.out.size)
  have HX : Hid (w2.heap[w.heap.size]? = some (.cells (lotA b) 34 (0, 0))) := by show _ = _; rw [hb2.block _ (lt_of_block HX0.out)]; exact HX0.out
  have HY : Hid (w2.heap[w.heap.size + 1]? = some (.cells (lotA s) 34 (0, 0))) := by show _ = _; rw [hb2.block _ (lt_of_block HY0.out)]; exact HY0.out
  clear hb2 HC HBW HX0 HY0
  obtain ⟨R, hR⟩ : ∃ R, Pu.tchk item b s price qty = R := ⟨_, rfl⟩
  by_cases h0 : R = 0
  · have HT : Hid (Pu.tradeC f item b s price qty = if Pu.poor f b.ow.toNat s.ow.toNat item.toNat b.pr qty = true then 9 else if Pu.over f b.ow.toNat s.ow.toNat item.toNat price qty = true then 7 else 0) := by
      show _ = _; unfold Pu.tradeC; rw [if_pos (hR.trans h0)]
    have HF : Hid (Pu.tradeF f item b s price qty = if Pu.tradeC f item b s price qty = 0 then Pu.six f b.ow.toNat s.ow.toNat item.toNat b.pr price qty else f) := rfl
    have hr := Pu.right_of (hR.trans h0)
    rw [hR, h0]
    obtain ⟨k, rfl, hk⟩ := Pu.well_item hr.wb
    obtain ⟨cb, hcb, hcb6⟩ := Pu.well_ow hr.wb
    obtain ⟨cs, hcs, hcs6⟩ := Pu.well_ow hr.ws
    have hm := hr.muls
    have HRt := hide hr
    have FB := hide (Pu.free_buy (f := f) hr.wb hr.q.1 hr.q.2.1 hr.sb)
    have FS := hide (fun g => Pu.free_sell (f := g) hr.ws hr.q.1 hr.q.2.2 hr.ss)
    have hqb := hr.q
    have hgr := hide (fun hpo => Pu.grows hg.out (b := cb) (s := cs) (k := k) (bp := b.pr) (price := price) (qty := qty) hcb6 hcs6 hk ⟨hm.1.1, hm.2.2.1⟩ hr.q.1 hpo)
    rw [hcb, hcs] at HT HF
    simp only [Int.toNat_natCast] at HT HF
    simp only [hcb, hcs, Int.toNat_natCast] at FB FS
    clear hR h0 R hr
    obtain ⟨W3, hW3⟩ : ∃ W3, (w2.alloc (.cells (row fun _ => 0) 55)).setRow w2.heap.size (row f) = W3 := ⟨_, rfl⟩
    have hNn : Purse (w2.alloc (.cells (row fun _ => 0) 55)) 55 w2.heap.size (fun _ => 0) := Purse.new w2 55 _
    have HN0 := hide hNn
    have hN3 : Purse W3 55 w2.heap.size f := by rw [← hW3]; exact hNn.stored f
    have hB3 : Below w2.heap.size w2 W3 := by rw [← hW3]; exact below_setRow ((Below.refl _ _).alloc (Nat.le_refl _) _) (Nat.le_refl _) _
    have hAx : W3.heap[w.heap.size]? = some (.cells (lotA b) 34 (0, 0)) := by rw [hB3.block _ (lt_of_block HX.out)]; exact HX.out
    have hAy : W3.heap[w.heap.size + 1]? = some (.cells (lotA s) 34 (0, 0)) := by rw [hB3.block _ (lt_of_block HY.out)]; exact HY.out
    have hwl : w.heap.size + 1 < w2.heap.size := lt_of_block HY.out
    have HP2 := hide (hp.out.lat HB.out)
    have HN3 := hide hN3
    have HW3 := hide hW3
    have HB3 : Hid (Below w.heap.size w W3) := HB.out.trans (hB3.mono HB.out.size)
    have x0 : W3.cell? ⟨w.heap.size, 0, none⟩ = some (.int .i64 b.id) := hs_cell hAx rfl
    have x1 : W3.cell? ⟨w.heap.size, 1, none⟩ = some (.int .i64 b.ow) := hs_cell hAx rfl
    have x2 : W3.cell? ⟨w.heap.size, 2, none⟩ = some (.int .i64 b.sd) := hs_cell hAx rfl
    have x3 : W3.cell? ⟨w.heap.size, 3, none⟩ = some (.int .i64 b.pr) := hs_cell hAx rfl
    have x4 : W3.cell? ⟨w.heap.size, 4, none⟩ = some (.int .i64 b.q) := hs_cell hAx rfl
    have y4 : W3.cell? ⟨w.heap.size + 1, 4, none⟩ = some (.int .i64 s.q) := hs_cell hAy rfl
    have xf : W3.frozen? ⟨w.heap.size, 4, none⟩ = false := hs_free hAx
    have yf : W3.frozen? ⟨w.heap.size + 1, 4, none⟩ = false := hs_free hAy
    have z55 := zero55
    have HAx := hide hAx; have HAy := hide hAy
    clear hN3 hB3 hAx hAy hNn hW3
    unfold errE
    simp only []
    go_wp2_with (first | refine wpList_load55 (B := p) (f := f) HP2.out rfl (.tmp 27) rfl rfl ?_ | refine wpList_store55e (B := w2.heap.size) f W3 (f := fun _ => 0) HN0.out HW3.out rfl (.tmp 14) (.tmp 28) rfl rfl rfl ?_)
    obtain ⟨W4, hW4⟩ : ∃ W4, (W3.setCell ⟨w.heap.size, 4, none⟩ (.int .i64 qty)).setCell ⟨w.heap.size + 1, 4, none⟩ (.int .i64 qty) = W4 := ⟨_, rfl⟩
    have hX4 : W4.heap[w.heap.size]? = some (.cells (lotA (Pu.only b qty)) 34 (0, 0)) := by
      rw [← hW4, Below.heap_setCell _ _ _ _ (by show w.heap.size ≠ w.heap.size + 1; omega)]
      exact hs_set _ HAx.out rfl
    have hY4 : W4.heap[w.heap.size + 1]? = some (.cells (lotA (Pu.only s qty)) 34 (0, 0)) := by
      rw [← hW4]
      refine hs_set (a := lotA s) _ ?_ rfl
      rw [Below.heap_setCell _ _ _ _ (by show w.heap.size + 1 ≠ w.heap.size; omega)]
      exact HAy.out
    have hN4 : Purse W4 55 w2.heap.size f := by
      rw [← hW4]
      exact (HN3.out.other (by show w2.heap.size ≠ w.heap.size; omega) _).other (by show w2.heap.size ≠ w.heap.size + 1; omega) _
    have hB4 : Below w.heap.size w W4 := by rw [← hW4]; exact (HB3.out.setCell (Nat.le_refl _) _).setCell (by show w.heap.size ≤ w.heap.size + 1; omega) _
    rw [hW4]
    have HX4 := hide hX4; have HY4 := hide hY4; have HN4 := hide hN4; have HB4 := hide hB4
    clear hX4 hY4 hN4 hB4 hW4 HW3 HN3 HB3 HAx HAy x0 x1 x2 x3 x4 y4 xf yf HN0
    have HF1 := hide (free_any w2.heap.size k (Pu.only b qty) f v W4 (he.out.later HB4.out).per HN4.out hg.out)
    rw [show lotV (Pu.only b qty) = .agg #[.int .i64 b.id, .int .i64 cb, .int .i64 b.sd, .int .i64 b.pr, .int .i64 qty] by simp [lotV, Pu.only, hcb]] at HF1
    refine HF1.out.mono ?_
    clear HF1
    rintro e w5 ⟨rfl, hp5, hs5⟩
    have HB5 : Hid (Below w.heap.size w w5) := HB4.out.trans (hs5.below HB4.out.size (by omega))
    have HX5 : Hid (w5.heap[w.heap.size]? = some (.cells (lotA (Pu.only b qty)) 34 (0, 0))) := by show _ = _; rw [hs5.block _ (lt_of_block HX4.out) (by omega)]; exact HX4.out
    have HY5 : Hid (w5.heap[w.heap.size + 1]? = some (.cells (lotA (Pu.only s qty)) 34 (0, 0))) := by show _ = _; rw [hs5.block _ (lt_of_block HY4.out) (by omega)]; exact HY4.out
    clear hs5 HX4 HY4 HN4 HB4
    by_cases hpo : f (cb * 8 + 1) < b.pr * qty
    · have HA : Hid (Pu.tradeC f k b s price qty = 9 ∧ Pu.tradeF f k b s price qty = f) := by
        have e : Pu.tradeC f k b s price qty = 9 := by rw [HT.out, if_pos (by simp [Pu.poor, hpo])]
        exact ⟨e, by rw [HF.out, e]; rfl⟩
      rw [FB.out.1, if_pos hpo]
      have c9 := (he.out.later HB5.out).per.c9
      clear hp5
      unfold errE
      simp only []
      go_wp2
      go_ret
      exact ⟨by rw [HA.out.1]; rfl, by rw [HA.out.2]; exact hp.out.lat HB5.out, Save.of_below HB5.out p⟩
    · have hpo' : b.pr * qty ≤ f (cb * 8 + 1) := by omega
      rw [FB.out.2.1 hpo'] at hp5
      rw [FB.out.1, if_neg hpo]
      have HP5 := hide hp5
      have hgd1 : Pu.Good (Pu.g1 f cb (b.pr * qty)) := by rw [← FB.out.2.1 hpo']; exact Pu.good_free hg.out _ _
      have HG1 := hide hgd1
      have HF2 := hide (free_any w2.heap.size k (Pu.only s qty) _ v w5 (he.out.later HB5.out).per hp5 hgd1)
      rw [show lotV (Pu.only s qty) = .agg #[.int .i64 s.id, .int .i64 cs, .int .i64 s.sd, .int .i64 s.pr, .int .i64 qty] by simp [lotV, Pu.only, hcs]] at HF2
      have x0 : w5.cell? ⟨w.heap.size + 1, 0, none⟩ = some (.int .i64 s.id) := hs_cell HY5.out rfl
      have x1 : w5.cell? ⟨w.heap.size + 1, 1, none⟩ = some (.int .i64 s.ow) := hs_cell HY5.out rfl
      have x2 : w5.cell? ⟨w.heap.size + 1, 2, none⟩ = some (.int .i64 s.sd) := hs_cell HY5.out rfl
      have x3 : w5.cell? ⟨w.heap.size + 1, 3, none⟩ = some (.int .i64 s.pr) := hs_cell HY5.out rfl
      have x4 : w5.cell? ⟨w.heap.size + 1, 4, none⟩ = some (.int .i64 qty) := hs_cell HY5.out rfl
      clear hp5 hgd1
      unfold errE
      simp only []
      go_wp2_with fail
      refine HF2.out.mono ?_
      clear HF2 x0 x1 x2 x3 x4
      rintro e w6 ⟨rfl, hp6, hs6⟩
      have HB6 : Hid (Below w.heap.size w w6) := HB5.out.trans (hs6.below HB5.out.size (by omega))
      have HX6 : Hid (w6.heap[w.heap.size]? = some (.cells (lotA (Pu.only b qty)) 34 (0, 0))) := by show _ = _; rw [hs6.block _ (lt_of_block HX5.out) (by omega)]; exact HX5.out
      have HY6 : Hid (w6.heap[w.heap.size + 1]? = some (.cells (lotA (Pu.only s qty)) 34 (0, 0))) := by show _ = _; rw [hs6.block _ (lt_of_block HY5.out) (by omega)]; exact HY5.out
      clear hs6 HX5 HY5
      have HK := hide (Pu.g1_kept (f := f) (b := cb) (s := cs) (k := k) (H := b.pr * qty) hk)
      by_cases hpk : f (cs * 8 + 5 + k) < qty
      · have HA : Hid (Pu.tradeC f k b s price qty = 9 ∧ Pu.tradeF f k b s price qty = f) := by
          have e : Pu.tradeC f k b s price qty = 9 := by rw [HT.out, if_pos (by simp [Pu.poor, hpk])]
          exact ⟨e, by rw [HF.out, e]; rfl⟩
        rw [(FS.out _).1, HK.out, if_pos hpk]
        have c9 := (he.out.later HB6.out).per.c9
        clear hp6
        unfold errE
        simp only []
        go_wp2
        go_ret
        exact ⟨by rw [HA.out.1]; rfl, by rw [HA.out.2]; exact hp.out.lat HB6.out, Save.of_below HB6.out p⟩
      · have hpk' : qty ≤ Pu.g1 f cb (b.pr * qty) (cs * 8 + 5 + k) := by rw [HK.out]; omega
        rw [(FS.out _).2.1 hpk'] at hp6
        rw [(FS.out _).1, HK.out, if_neg hpk]
        have HPO : Hid (Pu.poor f cb cs k b.pr qty = false) := by show _ = _; simp only [Pu.poor, Bool.or_eq_false_iff, decide_eq_false_iff_not]; exact ⟨by omega, by omega⟩
        have HP6 : Hid (Purse w6 55 w2.heap.size (Pu.g2 f cb cs k (b.pr * qty) qty)) := hp6
        have hgr2 := hgr.out HPO.out
        have hcc := hg.out.cash cb hcb6
        have hss := hg.out.stock cs k hcs6 hk
        have b0 : w6.cell? ⟨w2.heap.size, cb * 8, none⟩ = some (.int .i64 (f (cb * 8))) := by rw [HP6.out.cell (by omega), Pu.g2_cash hk]
        have b0f := HP6.out.frozen (cb * 8)
        have o1 : w6.cell? ⟨w.heap.size, 1, none⟩ = some (.int .i64 b.ow) := hs_cell HX6.out rfl
        have o2 : w6.cell? ⟨w.heap.size + 1, 1, none⟩ = some (.int .i64 s.ow) := hs_cell HY6.out rfl
        have hbi : (cb : Int) < 6 := by omega
        have hsi : (cs : Int) < 6 := by omega
        have hki : (k : Int) < 3 := by omega
        rw [hcb] at o1
        rw [hcs] at o2
        clear hp6 hpk' hpo'
        unfold errE
        simp only []
        go_wp2
        go_quiet (fail)
        have HB7 : Hid (Below w.heap.size w (w6.drewN nq)) := HB6.out.trans ((blw_drew nq).mono HB6.out.size)
        have HP7 := hide (HP6.out.drew nq)
        clear HP6 HB6 HX6 HY6 b0 b0f o1 o2
        generalize w6.drewN nq = w7 at *
        have b0 : w7.cell? ⟨w2.heap.size, cb * 8, none⟩ = some (.int .i64 (f (cb * 8))) := by rw [HP7.out.cell (by omega), Pu.g2_cash hk]
        have b0f := HP7.out.frozen (cb * 8)
        obtain ⟨⟨m1, m2⟩, ⟨m3, m4⟩, m5, m6⟩ := hm
        obtain ⟨q1, q2, q3⟩ := hqb
        obtain ⟨u1, u2, u3⟩ := hcc
        obtain ⟨u4, u5, u6⟩ := hss
        have hwr : 0 ≤ f (cb * 8) - price * qty := by omega
        obtain ⟨W8, hW8⟩ : ∃ W8, w7.setCell ⟨w2.heap.size, cb * 8, none⟩ (.int .i64 (f (cb * 8) - price * qty)) = W8 := ⟨_, rfl⟩
        have HP8 : Hid (Purse W8 55 w2.heap.size (Pu.g3 f cb cs k (b.pr * qty) qty (price * qty))) := by
          show Purse _ _ _ _
          rw [← hW8]; exact HP7.out.add _ _ _ (by rw [Pu.g2_cash hk]; omega)
        have HB8 : Hid (Below w.heap.size w W8) := by show Below _ _ _; rw [← hW8]; exact HB7.out.setCell (by show _ ≤ w2.heap.size; omega) _
        have HW8 := hide hW8
        clear hW8
        go_wp2
        rw [HW8.out]
        clear HW8 HP7 HB7 b0 b0f
        have d0 : W8.cell? ⟨w2.heap.size, cs * 8 + 2 + k, none⟩ = some (.int .i64 (f (cs * 8 + 2 + k))) := by rw [HP8.out.cell (by omega), Pu.g3_stock hk]
        have hwr2 : 0 ≤ f (cs * 8 + 2 + k) - qty := by omega
        refine region_quiet_tail 11 (by kernel_rfl) (by kernel_rfl) ?_
        simp only [List.take_succ_cons, List.take_zero, List.drop_succ_cons, List.drop_zero]
        repeat (first | go_big_quiet_step (fail) | quiet_step (fail))
        refine wpQuiet_nil ?_
        intro _ hw'
        obtain ⟨nq, hw''⟩ := hw'
        subst hw''
        have HB9 : Hid (Below w.heap.size w (W8.drewN nq)) := HB8.out.trans ((blw_drew nq).mono HB8.out.size)
        have HP9 := hide (HP8.out.drew nq)
        clear HP8 HB8 d0
        generalize W8.drewN nq = w9 at *
        have d0 : w9.cell? ⟨w2.heap.size, cs * 8 + 2 + k, none⟩ = some (.int .i64 (f (cs * 8 + 2 + k))) := by rw [HP9.out.cell (by omega), Pu.g3_stock hk]
        have d0f := HP9.out.frozen (cs * 8 + 2 + k)
        obtain ⟨W10, hW10⟩ : ∃ W10, w9.setCell ⟨w2.heap.size, cs * 8 + 2 + k, none⟩ (.int .i64 (f (cs * 8 + 2 + k) - qty)) = W10 := ⟨_, rfl⟩
        have HP10 : Hid (Purse W10 55 w2.heap.size (Pu.g4 f cb cs k (b.pr * qty) qty (price * qty))) := by
          show Purse _ _ _ _
          rw [← hW10]; exact HP9.out.add _ _ _ (by rw [Pu.g3_stock hk]; omega)
        have HB10 : Hid (Below w.heap.size w W10) := by show Below _ _ _; rw [← hW10]; exact HB9.out.setCell (by show _ ≤ w2.heap.size; omega) _
        have HW10 := hide hW10
        clear hW10
        go_wp2_with fail
        rw [HW10.out]
        clear HW10 HP9 HB9 d0 d0f
        have t5c := HP10.out.cell (i := cb * 8 + 2 + k) (by omega)
        have t5f := HP10.out.frozen (cb * 8 + 2 + k)
        obtain ⟨⟨k1, k2⟩, ⟨k3, k4⟩, k5⟩ := hgr2
        have HOV := hide k5
        clear k5
        have HG5 : Hid (∀ W, Purse W 55 w2.heap.size (Pu.g4 f cb cs k (b.pr * qty) qty (price * qty)) → Purse (W.setCell ⟨w2.heap.size, cb * 8 + 2 + k, none⟩ (.int .i64 (Pu.g4 f cb cs k (b.pr * qty) qty (price * qty) (cb * 8 + 2 + k) + qty))) 55 w2.heap.size (Pu.g5 f cb cs k (b.pr * qty) qty (price * qty))) := fun W h => h.add _ _ _ rfl
        have HG6 : Hid (∀ W, Purse W 55 w2.heap.size (Pu.g5 f cb cs k (b.pr * qty) qty (price * qty)) → Purse (W.setCell ⟨w2.heap.size, cs * 8, none⟩ (.int .i64 (Pu.g5 f cb cs k (b.pr * qty) qty (price * qty) (cs * 8) + price * qty))) 55 w2.heap.size (Pu.six f cb cs k b.pr price qty)) := fun W h => h.add _ _ _ rfl
        generalize Pu.g4 f cb cs k (b.pr * qty) qty (price * qty) (cb * 8 + 2 + k) = t5 at *
        by_cases o1 : 1073741824 - t5 < qty
        · have HA : Hid (Pu.tradeC f k b s price qty = 7 ∧ Pu.tradeF f k b s price qty = f) := by
            have e : Pu.tradeC f k b s price qty = 7 := by rw [HT.out, if_neg (by rw [HPO.out]; simp), if_pos (by rw [HOV.out]; simp [o1])]
            exact ⟨e, by rw [HF.out, e]; rfl⟩
          refine (grow_no w2.heap.size (cb * 8 + 2 + k) t5 qty 1073741824 W10 t5c k1 k2 (by omega) o1).mono ?_
          rintro e wz ⟨rfl, rfl⟩
          have c7 := (he.out.later HB10.out).per.er.c7
          simp only []
          go_wp2
          go_ret
          exact ⟨by rw [HA.out.1]; rfl, by rw [HA.out.2]; exact hp.out.lat HB10.out, Save.of_below HB10.out p⟩
        refine (grow_yes w2.heap.size (cb * 8 + 2 + k) t5 qty 1073741824 W10 t5c t5f k1 k2 (by omega) (by omega) o1).mono ?_
        rintro e W11 ⟨rfl, hW11⟩
        have HP11 : Hid (Purse W11 55 w2.heap.size (Pu.g5 f cb cs k (b.pr * qty) qty (price * qty))) := by
          show Purse _ _ _ _
          rw [hW11]; exact HG5.out _ HP10.out
        have HB11 : Hid (Below w.heap.size w W11) := by show Below _ _ _; rw [hW11]; exact HB10.out.setCell (by show _ ≤ w2.heap.size; omega) _
        clear hW11 HP10 HB10 HG5 t5c t5f
        have t6c := HP11.out.cell (i := cs * 8) (by omega)
        have t6f := HP11.out.frozen (cs * 8)
        generalize Pu.g5 f cb cs k (b.pr * qty) qty (price * qty) (cs * 8) = t6 at *
        simp only []
        go_wp2_with fail
        by_cases o2 : 1099511627776 - t6 < price * qty
        · have HA : Hid (Pu.tradeC f k b s price qty = 7 ∧ Pu.tradeF f k b s price qty = f) := by
            have e : Pu.tradeC f k b s price qty = 7 := by rw [HT.out, if_neg (by rw [HPO.out]; simp), if_pos (by rw [HOV.out]; simp [o2])]
            exact ⟨e, by rw [HF.out, e]; rfl⟩
          refine (grow_no w2.heap.size (cs * 8) t6 (price * qty) 1099511627776 W11 t6c k3 k4 (by omega) o2).mono ?_
          rintro e wz ⟨rfl, rfl⟩
          have c7 := (he.out.later HB11.out).per.er.c7
          simp only []
          go_wp2
          go_ret
          exact ⟨by rw [HA.out.1]; rfl, by rw [HA.out.2]; exact hp.out.lat HB11.out, Save.of_below HB11.out p⟩
        have HA : Hid (Pu.tradeC f k b s price qty = 0 ∧ Pu.tradeF f k b s price qty = Pu.six f cb cs k b.pr price qty) := by
          have e : Pu.tradeC f k b s price qty = 0 := by rw [HT.out, if_neg (by rw [HPO.out]; simp), if_neg (by rw [HOV.out, Bool.or_eq_true, decide_eq_true_eq, decide_eq_true_eq]; omega)]
          exact ⟨e, by rw [HF.out, e]; rfl⟩
        refine (grow_yes w2.heap.size (cs * 8) t6 (price * qty) 1099511627776 W11 t6c t6f k3 k4 (by omega) (by omega) o2).mono ?_
        rintro e W12 ⟨rfl, hW12⟩
        have HP12 : Hid (Purse W12 55 w2.heap.size (Pu.six f cb cs k b.pr price qty)) := by
          show Purse _ _ _ _
          rw [hW12]; exact HG6.out _ HP11.out
        have HB12 : Hid (Below w.heap.size w W12) := by show Below _ _ _; rw [hW12]; exact HB11.out.setCell (by show _ ≤ w2.heap.size; omega) _
        have HPp : Hid (Purse W12 55 p f) := hp.out.lat HB12.out
        clear hW12 HP11 HB11 HG6 t6c t6f
        simp only []
        go_wp2_with (first | refine wpList_load55 (B := w2.heap.size) (f := Pu.six f cb cs k b.pr price qty) HP12.out rfl (.tmp 14) rfl rfl ?_ | refine wpList_store55 (B := p) (Pu.six f cb cs k b.pr price qty) (f := f) HPp.out rfl (.tmp 94) (.tmp 93) rfl rfl rfl ?_)
        go_ret
        exact ⟨by rw [HA.out.1]; rfl, by rw [HA.out.2]; exact HPp.out.stored _, (Save.of_below HB12.out p).trans (Save.setRow _ _ _)⟩
  · have HA : Hid (Pu.tradeC f item b s price qty = R ∧ Pu.tradeF f item b s price qty = f) := by
      have e : Pu.tradeC f item b s price qty = R := by unfold Pu.tradeC; rw [if_neg (by rw [hR]; exact h0), hR]
      exact ⟨e, by unfold Pu.tradeF; rw [e, if_neg h0]⟩
    rw [hR]
    obtain ⟨y, hy⟩ : ∃ y, errE v R = .iface 110 y := by
      match R, h0 with
      | 0, h => exact absurd rfl h
      | c + 1, _ => exact ⟨_, rfl⟩
    have Hy := hide hy
    rw [hy]
    clear hy hR
    simp only []
    go_wp2
    go_ret
    exact ⟨by rw [HA.out.1, Hy.out]; rfl, by rw [HA.out.2]; exact hp.out.lat HB.out, Save.of_below HB.out p⟩
end Go.Proofs.YtgmncdpjbphfhaaDoor
