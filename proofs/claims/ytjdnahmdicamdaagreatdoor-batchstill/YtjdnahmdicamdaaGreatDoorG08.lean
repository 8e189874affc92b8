/- Trade of a purse by its contract. -/
import Derived.Test.YtjdnahmdicamdaaGreatDoorG07
namespace Go.Proofs.YtjdnahmdicamdaaGreatDoor
open Go.RowKit
set_option maxRecDepth 100000

theorem wpList_store55e {ops : Array Oper} {rest : List Oper} {op : Oper} {a : Act} {w : World} {Q : Exit → Act → World → Prop} {B : Nat} {f : Nat → Int} (g : Nat → Int) (W' : World) (h : Purse w 105 B f) (hW : w.setRow B (p_row g) = W') (hgd : op.guard = none) (x y : Operand) (ho : op.op = .store 105 x y)
    (hx : a.eval x = .pointer (some ⟨B, 0, none⟩)) (hy : a.eval y = .agg (p_row g)) (k : wpList Tryz.prog ops Q rest (a.put op.dst undef) W') : wpList Tryz.prog ops Q (op :: rest) a w := by
  subst hW
  exact wpList_store55 g h hgd x y ho hx hy k

set_option maxHeartbeats 4000000 in
theorem trade_any (p : Nat) (item : Int) (b s : Cv.Lot) (price qty : Int) (f : Nat → Int) (v : Nat → Value) (w : World) (he : Hid (TEr w v)) (hp : Hid (Purse w 105 p f)) (hg : Hid (Pu.Good f)) :
    Calls Tryz.prog 120 #[.pointer (some ⟨p, 0, none⟩), .int .i64 item, lotV b, lotV s, .int .i64 price, .int .i64 qty] w fun e w' => e = .returned (errE v (Pu.tradeC f item b s price qty)) ∧ Purse w' 105 p (Pu.tradeF f item b s price qty) ∧ Save w w' p := by
  show Calls Tryz.prog 120 #[.pointer (some ⟨p, 0, none⟩), .int .i64 item, .agg #[.int .i64 b.id, .int .i64 b.ow, .int .i64 b.sd, .int .i64 b.pr, .int .i64 b.q], .agg #[.int .i64 s.id, .int .i64 s.ow, .int .i64 s.sd, .int .i64 s.pr, .int .i64 s.q], .int .i64 price, .int .i64 qty] w _
  obtain ⟨W, hWd⟩ : ∃ W, (w.alloc (.cells #[.int .i64 b.id, .int .i64 b.ow, .int .i64 b.sd, .int .i64 b.pr, .int .i64 b.q] 56)).alloc (.cells #[.int .i64 s.id, .int .i64 s.ow, .int .i64 s.sd, .int .i64 s.pr, .int .i64 s.q] 56) = W := ⟨_, rfl⟩
  have hb1 : Below w.heap.size w (w.alloc (.cells #[.int .i64 b.id, .int .i64 b.ow, .int .i64 b.sd, .int .i64 b.pr, .int .i64 b.q] 56)) := (Below.refl _ _).alloc (Nat.le_refl _) _
  have hb2 : Below w.heap.size w W := by rw [← hWd]; exact hb1.alloc hb1.size _
  have hX0 : W.heap[w.heap.size]? = some (.cells (lotA b) 56 (0, 0)) := by
    rw [← hWd]
    exact (Below.heap_alloc _ _ _ (by simp)).trans (heap_alloc_new _ _)
  have hY0 : W.heap[w.heap.size + 1]? = some (.cells (lotA s) 56 (0, 0)) := by
    rw [← hWd]
    have := heap_alloc_new (w.alloc (.cells #[.int .i64 b.id, .int .i64 b.ow, .int .i64 b.sd, .int .i64 b.pr, .int .i64 b.q] 56)) (.cells #[.int .i64 s.id, .int .i64 s.ow, .int .i64 s.sd, .int .i64 s.pr, .int .i64 s.q] 56)
    rw [show (w.alloc (.cells #[.int .i64 b.id, .int .i64 b.ow, .int .i64 b.sd, .int .i64 b.pr, .int .i64 b.q] 56)).heap.size = w.heap.size + 1 by simp] at this
    exact this
  have HX0 := hide hX0; have HY0 := hide hY0; have HBW := hide hb2
  have HC := hide (check_any item b s price qty v W (he.out.later hb2))
  unfold lotV at HC
  have HWd := hide hWd
  have hpl := hp.out.lt
  clear hb1 hb2 hX0 hY0 hWd
  go_enter Tryz.func120, Tryz.ntmps120
  go_wp2_with fail
  rw [HWd.out]
  clear HWd
  refine HC.out.mono ?_
  rintro e w2 ⟨rfl, hb2⟩
  have HB : Hid (Below w.heap.size w w2) := HBW.out.trans (hb2.mono HBW.out.size)
  have HX : Hid (w2.heap[w.heap.size]? = some (.cells (lotA b) 56 (0, 0))) := by show _ = _; rw [hb2.block _ (lt_of_block HX0.out)]; exact HX0.out
  have HY : Hid (w2.heap[w.heap.size + 1]? = some (.cells (lotA s) 56 (0, 0))) := by show _ = _; rw [hb2.block _ (lt_of_block HY0.out)]; exact HY0.out
  clear hb2 HC HBW HX0 HY0
  obtain ⟨R, hR⟩ : ∃ R, Pu.tchk item b s price qty = R := ⟨_, rfl⟩
  by_cases h0 : R = 0
  · have HT : Hid (Pu.tradeC f item b s price qty = if Pu.poor f b.ow.toNat s.ow.toNat item.toNat b.pr qty = true then 9 else if Pu.over f b.ow.toNat s.ow.toNat item.toNat price qty = true then 7 else 0) := by
      show _ = _; unfold Pu.tradeC; rw [if_pos (hR.trans h0)]
    have HF : Hid (Pu.tradeF f item b s price qty = if Pu.tradeC f item b s price qty = 0 then Pu.six f b.ow.toNat s.ow.toNat item.toNat b.pr price qty else f) := rfl
    have hr := Pu.right_of (hR.trans h0)
    rw [hR, h0]
    obtain ⟨k, rfl, hk⟩ := Pu.well_item hr.wb
    obtain ⟨cb, hcb, hcb6⟩ := Pu.well_ow hr.wb
    obtain ⟨cs, hcs, hcs6⟩ := Pu.well_ow hr.ws
    have hm := hr.muls
    have HRt := hide hr
    have FB := hide (Pu.free_buy (f := f) hr.wb hr.q.1 hr.q.2.1 hr.sb)
    have FS := hide (fun g => Pu.free_sell (f := g) hr.ws hr.q.1 hr.q.2.2 hr.ss)
    have hqb := hr.q
    have hgr := hide (fun hpo => Pu.grows hg.out (b := cb) (s := cs) (k := k) (bp := b.pr) (price := price) (qty := qty) hcb6 hcs6 hk ⟨hm.1.1, hm.2.2.1⟩ hr.q.1 hpo)
    rw [hcb, hcs] at HT HF
    simp only [Int.toNat_natCast] at HT HF
    simp only [hcb, hcs, Int.toNat_natCast] at FB FS
    clear hR h0 R hr
    obtain ⟨W3, hW3⟩ : ∃ W3, (w2.alloc (.cells (p_row fun _ => 0) 105)).setRow w2.heap.size (p_row f) = W3 := ⟨_, rfl⟩
    have hNn : Purse (w2.alloc (.cells (p_row fun _ => 0) 105)) 105 w2.heap.size (fun _ => 0) := Purse.new w2 105 _
    have HN0 := hide hNn
    have hN3 : Purse W3 105 w2.heap.size f := by rw [← hW3]; exact hNn.stored f
    have hB3 : Below w2.heap.size w2 W3 := by rw [← hW3]; exact below_setRow ((Below.refl _ _).alloc (Nat.le_refl _) _) (Nat.le_refl _) _
    have hAx : W3.heap[w.heap.size]? = some (.cells (lotA b) 56 (0, 0)) := by rw [hB3.block _ (lt_of_block HX.out)]; exact HX.out
    have hAy : W3.heap[w.heap.size + 1]? = some (.cells (lotA s) 56 (0, 0)) := by rw [hB3.block _ (lt_of_block HY.out)]; exact HY.out
    have hwl : w.heap.size + 1 < w2.heap.size := lt_of_block HY.out
    have HP2 := hide (hp.out.lat HB.out)
    have HN3 := hide hN3
    have HW3 := hide hW3
    have HB3 : Hid (Below w.heap.size w W3) := HB.out.trans (hB3.mono HB.out.size)
    have x0 : W3.cell? ⟨w.heap.size, 0, none⟩ = some (.int .i64 b.id) := p_hs_cell hAx rfl
    have x1 : W3.cell? ⟨w.heap.size, 1, none⟩ = some (.int .i64 b.ow) := p_hs_cell hAx rfl
    have x2 : W3.cell? ⟨w.heap.size, 2, none⟩ = some (.int .i64 b.sd) := p_hs_cell hAx rfl
    have x3 : W3.cell? ⟨w.heap.size, 3, none⟩ = some (.int .i64 b.pr) := p_hs_cell hAx rfl
    have x4 : W3.cell? ⟨w.heap.size, 4, none⟩ = some (.int .i64 b.q) := p_hs_cell hAx rfl
    have y4 : W3.cell? ⟨w.heap.size + 1, 4, none⟩ = some (.int .i64 s.q) := p_hs_cell hAy rfl
    have xf : W3.frozen? ⟨w.heap.size, 4, none⟩ = false := hs_free hAx
    have yf : W3.frozen? ⟨w.heap.size + 1, 4, none⟩ = false := hs_free hAy
    have z55 := zero55
    have HAx := hide hAx; have HAy := hide hAy
    clear hN3 hB3 hAx hAy hNn hW3
    unfold errE
    simp only []
    go_wp2_with (first | refine wpList_load55 (B := p) (f := f) HP2.out rfl (.tmp 27) rfl rfl ?_ | refine wpList_store55e (B := w2.heap.size) f W3 (f := fun _ => 0) HN0.out HW3.out rfl (.tmp 14) (.tmp 28) rfl rfl rfl ?_)
    obtain ⟨W4, hW4⟩ : ∃ W4, (W3.setCell ⟨w.heap.size, 4, none⟩ (.int .i64 qty)).setCell ⟨w.heap.size + 1, 4, none⟩ (.int .i64 qty) = W4 := ⟨_, rfl⟩
    have hX4 : W4.heap[w.heap.size]? = some (.cells (lotA (Pu.only b qty)) 56 (0, 0)) := by
      rw [← hW4, Below.heap_setCell _ _ _ _ (by show w.heap.size ≠ w.heap.size + 1; omega)]
      exact p_hs_set _ HAx.out rfl
    have hY4 : W4.heap[w.heap.size + 1]? = some (.cells (lotA (Pu.only s qty)) 56 (0, 0)) := by
      rw [← hW4]
      refine p_hs_set (a := lotA s) _ ?_ rfl
      rw [Below.heap_setCell _ _ _ _ (by show w.heap.size + 1 ≠ w.heap.size; omega)]
      exact HAy.out
    have hN4 : Purse W4 105 w2.heap.size f := by
      rw [← hW4]
      exact (HN3.out.other (by show w2.heap.size ≠ w.heap.size; omega) _).other (by show w2.heap.size ≠ w.heap.size + 1; omega) _
    have hB4 : Below w.heap.size w W4 := by rw [← hW4]; exact (HB3.out.setCell (Nat.le_refl _) _).setCell (by show w.heap.size ≤ w.heap.size + 1; omega) _
    rw [hW4]
    have HX4 := hide hX4; have HY4 := hide hY4; have HN4 := hide hN4; have HB4 := hide hB4
    clear hX4 hY4 hN4 hB4 hW4 HW3 HN3 HB3 HAx HAy x0 x1 x2 x3 x4 y4 xf yf HN0
    have HF1 := hide (free_any w2.heap.size k (Pu.only b qty) f v W4 (he.out.later HB4.out).per HN4.out hg.out)
    rw [show lotV (Pu.only b qty) = .agg #[.int .i64 b.id, .int .i64 cb, .int .i64 b.sd, .int .i64 b.pr, .int .i64 qty] by simp [lotV, Pu.only, hcb]] at HF1
    refine HF1.out.mono ?_
    clear HF1
    rintro e w5 ⟨rfl, hp5, hs5⟩
    have HB5 : Hid (Below w.heap.size w w5) := HB4.out.trans (hs5.below HB4.out.size (by omega))
    have HX5 : Hid (w5.heap[w.heap.size]? = some (.cells (lotA (Pu.only b qty)) 56 (0, 0))) := by show _ = _; rw [hs5.block _ (lt_of_block HX4.out) (by omega)]; exact HX4.out
    have HY5 : Hid (w5.heap[w.heap.size + 1]? = some (.cells (lotA (Pu.only s qty)) 56 (0, 0))) := by show _ = _; rw [hs5.block _ (lt_of_block HY4.out) (by omega)]; exact HY4.out
    clear hs5 HX4 HY4 HN4 HB4
    by_cases hpo : f (cb * 8 + 1) < b.pr * qty
    · have HA : Hid (Pu.tradeC f k b s price qty = 9 ∧ Pu.tradeF f k b s price qty = f) := by
        have e : Pu.tradeC f k b s price qty = 9 := by rw [HT.out, if_pos (by simp [Pu.poor, hpo])]
        exact ⟨e, by rw [HF.out, e]; rfl⟩
      rw [FB.out.1, if_pos hpo]
      have c9 := (he.out.later HB5.out).per.c9
      clear hp5
      unfold errE
      simp only []
      go_wp2
      go_ret
      exact ⟨by rw [HA.out.1]; rfl, by rw [HA.out.2]; exact hp.out.lat HB5.out, Save.of_below HB5.out p⟩
    · have hpo' : b.pr * qty ≤ f (cb * 8 + 1) := by omega
      rw [FB.out.2.1 hpo'] at hp5
      rw [FB.out.1, if_neg hpo]
      have HP5 := hide hp5
      have hgd1 : Pu.Good (Pu.g1 f cb (b.pr * qty)) := by rw [← FB.out.2.1 hpo']; exact Pu.good_free hg.out _ _
      have HG1 := hide hgd1
      have HF2 := hide (free_any w2.heap.size k (Pu.only s qty) _ v w5 (he.out.later HB5.out).per hp5 hgd1)
      rw [show lotV (Pu.only s qty) = .agg #[.int .i64 s.id, .int .i64 cs, .int .i64 s.sd, .int .i64 s.pr, .int .i64 qty] by simp [lotV, Pu.only, hcs]] at HF2
      have x0 : w5.cell? ⟨w.heap.size + 1, 0, none⟩ = some (.int .i64 s.id) := p_hs_cell HY5.out rfl
      have x1 : w5.cell? ⟨w.heap.size + 1, 1, none⟩ = some (.int .i64 s.ow) := p_hs_cell HY5.out rfl
      have x2 : w5.cell? ⟨w.heap.size + 1, 2, none⟩ = some (.int .i64 s.sd) := p_hs_cell HY5.out rfl
      have x3 : w5.cell? ⟨w.heap.size + 1, 3, none⟩ = some (.int .i64 s.pr) := p_hs_cell HY5.out rfl
      have x4 : w5.cell? ⟨w.heap.size + 1, 4, none⟩ = some (.int .i64 qty) := p_hs_cell HY5.out rfl
      clear hp5 hgd1
      unfold errE
      simp only []
      go_wp2_with fail
      refine HF2.out.mono ?_
      clear HF2 x0 x1 x2 x3 x4
      rintro e w6 ⟨rfl, hp6, hs6⟩
      have HB6 : Hid (Below w.heap.size w w6) := HB5.out.trans (hs6.below HB5.out.size (by omega))
      have HX6 : Hid (w6.heap[w.heap.size]? = some (.cells (lotA (Pu.only b qty)) 56 (0, 0))) := by show _ = _; rw [hs6.block _ (lt_of_block HX5.out) (by omega)]; exact HX5.out
      have HY6 : Hid (w6.heap[w.heap.size + 1]? = some (.cells (lotA (Pu.only s qty)) 56 (0, 0))) := by show _ = _; rw [hs6.block _ (lt_of_block HY5.out) (by omega)]; exact HY5.out
      clear hs6 HX5 HY5
      have HK := hide (Pu.g1_kept (f := f) (b := cb) (s := cs) (k := k) (H := b.pr * qty) hk)
      by_cases hpk : f (cs * 8 + 5 + k) < qty
      · have HA : Hid (Pu.tradeC f k b s price qty = 9 ∧ Pu.tradeF f k b s price qty = f) := by
          have e : Pu.tradeC f k b s price qty = 9 := by rw [HT.out, if_pos (by simp [Pu.poor, hpk])]
          exact ⟨e, by rw [HF.out, e]; rfl⟩
        rw [(FS.out _).1, HK.out, if_pos hpk]
        have c9 := (he.out.later HB6.out).per.c9
        clear hp6
        unfold errE
        simp only []
        go_wp2
        go_ret
        exact ⟨by rw [HA.out.1]; rfl, by rw [HA.out.2]; exact hp.out.lat HB6.out, Save.of_below HB6.out p⟩
      · have hpk' : qty ≤ Pu.g1 f cb (b.pr * qty) (cs * 8 + 5 + k) := by rw [HK.out]; omega
        rw [(FS.out _).2.1 hpk'] at hp6
        rw [(FS.out _).1, HK.out, if_neg hpk]
        have HPO : Hid (Pu.poor f cb cs k b.pr qty = false) := by show _ = _; simp only [Pu.poor, Bool.or_eq_false_iff, decide_eq_false_iff_not]; exact ⟨by omega, by omega⟩
        have HP6 : Hid (Purse w6 105 w2.heap.size (Pu.g2 f cb cs k (b.pr * qty) qty)) := hp6
        have hgr2 := hgr.out HPO.out
        have hcc := hg.out.cash cb hcb6
        have hss := hg.out.stock cs k hcs6 hk
        have b0 : w6.cell? ⟨w2.heap.size, cb * 8, none⟩ = some (.int .i64 (f (cb * 8))) := by rw [HP6.out.cell (by omega), Pu.g2_cash hk]
        have b0f := HP6.out.frozen (cb * 8)
        have o1 : w6.cell? ⟨w.heap.size, 1, none⟩ = some (.int .i64 b.ow) := p_hs_cell HX6.out rfl
        have o2 : w6.cell? ⟨w.heap.size + 1, 1, none⟩ = some (.int .i64 s.ow) := p_hs_cell HY6.out rfl
        have hbi : (cb : Int) < 6 := by omega
        have hsi : (cs : Int) < 6 := by omega
        have hki : (k : Int) < 3 := by omega
        rw [hcb] at o1
        rw [hcs] at o2
        clear hp6 hpk' hpo'
        unfold errE
        simp only []
        go_wp2
        go_quiet (fail)
        have HB7 : Hid (Below w.heap.size w (w6.drewN nq)) := HB6.out.trans ((blw_drew nq).mono HB6.out.size)
        have HP7 := hide (HP6.out.drew nq)
        clear HP6 HB6 HX6 HY6 b0 b0f o1 o2
        generalize w6.drewN nq = w7 at *
        have b0 : w7.cell? ⟨w2.heap.size, cb * 8, none⟩ = some (.int .i64 (f (cb * 8))) := by rw [HP7.out.cell (by omega), Pu.g2_cash hk]
        have b0f := HP7.out.frozen (cb * 8)
        obtain ⟨⟨m1, m2⟩, ⟨m3, m4⟩, m5, m6⟩ := hm
        obtain ⟨q1, q2, q3⟩ := hqb
        obtain ⟨u1, u2, u3⟩ := hcc
        obtain ⟨u4, u5, u6⟩ := hss
        have hwr : 0 ≤ f (cb * 8) - price * qty := by omega
        obtain ⟨W8, hW8⟩ : ∃ W8, w7.setCell ⟨w2.heap.size, cb * 8, none⟩ (.int .i64 (f (cb * 8) - price * qty)) = W8 := ⟨_, rfl⟩
        have HP8 : Hid (Purse W8 105 w2.heap.size (Pu.g3 f cb cs k (b.pr * qty) qty (price * qty))) := by
          show Purse _ _ _ _
          rw [← hW8]; exact HP7.out.add _ _ _ (by rw [Pu.g2_cash hk]; omega)
        have HB8 : Hid (Below w.heap.size w W8) := by show Below _ _ _; rw [← hW8]; exact HB7.out.setCell (by show _ ≤ w2.heap.size; omega) _
        have HW8 := hide hW8
        clear hW8
        go_wp2
        rw [HW8.out]
        clear HW8 HP7 HB7 b0 b0f
        have d0 : W8.cell? ⟨w2.heap.size, cs * 8 + 2 + k, none⟩ = some (.int .i64 (f (cs * 8 + 2 + k))) := by rw [HP8.out.cell (by omega), Pu.g3_stock hk]
        have hwr2 : 0 ≤ f (cs * 8 + 2 + k) - qty := by omega
        refine region_quiet_tail 11 (by kernel_rfl) (by kernel_rfl) ?_
        simp only [List.take_succ_cons, List.take_zero, List.drop_succ_cons, List.drop_zero]
        repeat (first | go_big_quiet_step (fail) | quiet_step (fail))
        refine wpQuiet_nil ?_
        intro _ hw'
        obtain ⟨nq, hw''⟩ := hw'
        subst hw''
        have HB9 : Hid (Below w.heap.size w (W8.drewN nq)) := HB8.out.trans ((blw_drew nq).mono HB8.out.size)
        have HP9 := hide (HP8.out.drew nq)
        clear HP8 HB8 d0
        generalize W8.drewN nq = w9 at *
        have d0 : w9.cell? ⟨w2.heap.size, cs * 8 + 2 + k, none⟩ = some (.int .i64 (f (cs * 8 + 2 + k))) := by rw [HP9.out.cell (by omega), Pu.g3_stock hk]
        have d0f := HP9.out.frozen (cs * 8 + 2 + k)
        obtain ⟨W10, hW10⟩ : ∃ W10, w9.setCell ⟨w2.heap.size, cs * 8 + 2 + k, none⟩ (.int .i64 (f (cs * 8 + 2 + k) - qty)) = W10 := ⟨_, rfl⟩
        have HP10 : Hid (Purse W10 105 w2.heap.size (Pu.g4 f cb cs k (b.pr * qty) qty (price * qty))) := by
          show Purse _ _ _ _
          rw [← hW10]; exact HP9.out.add _ _ _ (by rw [Pu.g3_stock hk]; omega)
        have HB10 : Hid (Below w.heap.size w W10) := by show Below _ _ _; rw [← hW10]; exact HB9.out.setCell (by show _ ≤ w2.heap.size; omega) _
        have HW10 := hide hW10
        clear hW10
        go_wp2_with fail
        rw [HW10.out]
        clear HW10 HP9 HB9 d0 d0f
        have t5c := HP10.out.cell (i := cb * 8 + 2 + k) (by omega)
        have t5f := HP10.out.frozen (cb * 8 + 2 + k)
        obtain ⟨⟨k1, k2⟩, ⟨k3, k4⟩, k5⟩ := hgr2
        have HOV := hide k5
        clear k5
        have HG5 : Hid (∀ W, Purse W 105 w2.heap.size (Pu.g4 f cb cs k (b.pr * qty) qty (price * qty)) → Purse (W.setCell ⟨w2.heap.size, cb * 8 + 2 + k, none⟩ (.int .i64 (Pu.g4 f cb cs k (b.pr * qty) qty (price * qty) (cb * 8 + 2 + k) + qty))) 105 w2.heap.size (Pu.g5 f cb cs k (b.pr * qty) qty (price * qty))) := fun W h => h.add _ _ _ rfl
        have HG6 : Hid (∀ W, Purse W 105 w2.heap.size (Pu.g5 f cb cs k (b.pr * qty) qty (price * qty)) → Purse (W.setCell ⟨w2.heap.size, cs * 8, none⟩ (.int .i64 (Pu.g5 f cb cs k (b.pr * qty) qty (price * qty) (cs * 8) + price * qty))) 105 w2.heap.size (Pu.six f cb cs k b.pr price qty)) := fun W h => h.add _ _ _ rfl
        generalize Pu.g4 f cb cs k (b.pr * qty) qty (price * qty) (cb * 8 + 2 + k) = t5 at *
        by_cases o1 : 1073741824 - t5 < qty
        · have HA : Hid (Pu.tradeC f k b s price qty = 7 ∧ Pu.tradeF f k b s price qty = f) := by
            have e : Pu.tradeC f k b s price qty = 7 := by rw [HT.out, if_neg (by rw [HPO.out]; simp), if_pos (by rw [HOV.out]; simp [o1])]
            exact ⟨e, by rw [HF.out, e]; rfl⟩
          refine (grow_no w2.heap.size (cb * 8 + 2 + k) t5 qty 1073741824 W10 t5c k1 k2 (by omega) o1).mono ?_
          rintro e wz ⟨rfl, rfl⟩
          have c7 := (he.out.later HB10.out).per.er.c7
          simp only []
          go_wp2
          go_ret
          exact ⟨by rw [HA.out.1]; rfl, by rw [HA.out.2]; exact hp.out.lat HB10.out, Save.of_below HB10.out p⟩
        refine (grow_yes w2.heap.size (cb * 8 + 2 + k) t5 qty 1073741824 W10 t5c t5f k1 k2 (by omega) (by omega) o1).mono ?_
        rintro e W11 ⟨rfl, hW11⟩
        have HP11 : Hid (Purse W11 105 w2.heap.size (Pu.g5 f cb cs k (b.pr * qty) qty (price * qty))) := by
          show Purse _ _ _ _
          rw [hW11]; exact HG5.out _ HP10.out
        have HB11 : Hid (Below w.heap.size w W11) := by show Below _ _ _; rw [hW11]; exact HB10.out.setCell (by show _ ≤ w2.heap.size; omega) _
        clear hW11 HP10 HB10 HG5 t5c t5f
        have t6c := HP11.out.cell (i := cs * 8) (by omega)
        have t6f := HP11.out.frozen (cs * 8)
        generalize Pu.g5 f cb cs k (b.pr * qty) qty (price * qty) (cs * 8) = t6 at *
        simp only []
        go_wp2_with fail
        by_cases o2 : 1099511627776 - t6 < price * qty
        · have HA : Hid (Pu.tradeC f k b s price qty = 7 ∧ Pu.tradeF f k b s price qty = f) := by
            have e : Pu.tradeC f k b s price qty = 7 := by rw [HT.out, if_neg (by rw [HPO.out]; simp), if_pos (by rw [HOV.out]; simp [o2])]
            exact ⟨e, by rw [HF.out, e]; rfl⟩
          refine (grow_no w2.heap.size (cs * 8) t6 (price * qty) 1099511627776 W11 t6c k3 k4 (by omega) o2).mono ?_
          rintro e wz ⟨rfl, rfl⟩
          have c7 := (he.out.later HB11.out).per.er.c7
          simp only []
          go_wp2
          go_ret
          exact ⟨by rw [HA.out.1]; rfl, by rw [HA.out.2]; exact hp.out.lat HB11.out, Save.of_below HB11.out p⟩
        have HA : Hid (Pu.tradeC f k b s price qty = 0 ∧ Pu.tradeF f k b s price qty = Pu.six f cb cs k b.pr price qty) := by
          have e : Pu.tradeC f k b s price qty = 0 := by rw [HT.out, if_neg (by rw [HPO.out]; simp), if_neg (by rw [HOV.out, Bool.or_eq_true, decide_eq_true_eq, decide_eq_true_eq]; omega)]
          exact ⟨e, by rw [HF.out, e]; rfl⟩
        refine (grow_yes w2.heap.size (cs * 8) t6 (price * qty) 1099511627776 W11 t6c t6f k3 k4 (by omega) (by omega) o2).mono ?_
        rintro e W12 ⟨rfl, hW12⟩
        have HP12 : Hid (Purse W12 105 w2.heap.size (Pu.six f cb cs k b.pr price qty)) := by
          show Purse _ _ _ _
          rw [hW12]; exact HG6.out _ HP11.out
        have HB12 : Hid (Below w.heap.size w W12) := by show Below _ _ _; rw [hW12]; exact HB11.out.setCell (by show _ ≤ w2.heap.size; omega) _
        have HPp : Hid (Purse W12 105 p f) := hp.out.lat HB12.out
        clear hW12 HP11 HB11 HG6 t6c t6f
        simp only []
        go_wp2_with (first | refine wpList_load55 (B := w2.heap.size) (f := Pu.six f cb cs k b.pr price qty) HP12.out rfl (.tmp 14) rfl rfl ?_ | refine wpList_store55 (B := p) (Pu.six f cb cs k b.pr price qty) (f := f) HPp.out rfl (.tmp 94) (.tmp 93) rfl rfl rfl ?_)
        go_ret
        exact ⟨by rw [HA.out.1]; rfl, by rw [HA.out.2]; exact HPp.out.stored _, (Save.of_below HB12.out p).trans (Save.setRow _ _ _)⟩
  · have HA : Hid (Pu.tradeC f item b s price qty = R ∧ Pu.tradeF f item b s price qty = f) := by
      have e : Pu.tradeC f item b s price qty = R := by unfold Pu.tradeC; rw [if_neg (by rw [hR]; exact h0), hR]
      exact ⟨e, by unfold Pu.tradeF; rw [e, if_neg h0]⟩
    rw [hR]
    obtain ⟨y, hy⟩ : ∃ y, errE v R = .iface 252 y := by
      match R, h0 with
      | 0, h => exact absurd rfl h
      | c + 1, _ => exact ⟨_, rfl⟩
    have Hy := hide hy
    rw [hy]
    clear hy hR
    simp only []
    go_wp2
    go_ret
    exact ⟨by rw [HA.out.1, Hy.out]; rfl, by rw [HA.out.2]; exact hp.out.lat HB.out, Save.of_below HB.out p⟩
end Go.Proofs.YtjdnahmdicamdaaGreatDoor
/- One price of lots, as a relation on numbers: the most traded, the least left, the nearest, the lesser; no program is spoken of. -/
namespace Go.Proofs.YtjdnahmdicamdaaGreatDoor
namespace Cv

def size (n : Int) : Int := max n (-n)
def left (l : List Lot) (p : Int) : Int := size (demand l p - supply l p)
def away (ref p : Int) : Int := size (p - ref)
theorem size_nonneg (n : Int) : 0 ≤ size n := by unfold size; omega
theorem size_if (n : Int) : size n = if n < 0 then -n else n := by unfold size; split <;> omega

/-- is the first worth better than the second? -/
def worthB (v s a v' s' a' : Int) : Bool := if v = v' then (if s = s' then decide (a < a') else decide (s < s')) else decide (v' < v)

/-- among the prices from 1 to n the one that is taken is p, and v is traded at it; none: 0, 0 -/
def Won (l : List Lot) (ref n p v : Int) : Prop :=
  (p = 0 ∧ v = 0 ∧ ∀ q, 1 ≤ q → q ≤ n → volume l q = 0) ∨
  (0 < v ∧ 1 ≤ p ∧ p ≤ n ∧ volume l p = v ∧ ∀ q, 1 ≤ q → q ≤ n → volume l q < v ∨ volume l q = v ∧ (left l p < left l q ∨ left l p = left l q ∧ (away ref p < away ref q ∨ away ref p = away ref q ∧ p ≤ q)))

theorem Won.unique {l : List Lot} {ref n p v p' v' : Int} (h : Won l ref n p v) (h' : Won l ref n p' v') : p = p' ∧ v = v' := by
  rcases h with ⟨h1, h2, h3⟩ | ⟨h1, h2, h3, h4, h5⟩
  · rcases h' with ⟨g1, g2, g3⟩ | ⟨g1, g2, g3, g4, g5⟩
    · omega
    · have := h3 p' g2 g3; omega
  · rcases h' with ⟨g1, g2, g3⟩ | ⟨g1, g2, g3, g4, g5⟩
    · have := g3 p h2 h3; omega
    · have a := h5 p' g2 g3
      have b := g5 p h2 h3
      omega

theorem volume_nonneg (l : List Lot) (h : Oks l) (p : Int) : 0 ≤ volume l p := by
  have hd := (sumIf_bounds (dB p) l h).1
  have hs := (sumIf_bounds (sB p) l h).1
  unfold volume demand supply
  omega
theorem volume_le (l : List Lot) (h : Well l) (p : Int) : volume l p ≤ 120000 := by
  have hd := (sumIf_bounds (dB p) l h.oks).2
  have := h.1
  unfold volume demand
  omega

/-- what is left, and how far it is, of the price that is taken: of none 0 -/
def wl (l : List Lot) (p : Int) : Int := if p = 0 then 0 else left l p
def wa (ref p : Int) : Int := if p = 0 then 0 else away ref p

theorem Won.start (l : List Lot) (ref : Int) : Won l ref 0 0 0 := .inl ⟨rfl, rfl, fun q h1 h2 => by omega⟩
theorem Won.take {l : List Lot} {ref n p v : Int} (hl : Oks l) (hn : 0 ≤ n) (h : Won l ref n p v) (hb : worthB (volume l (n + 1)) (left l (n + 1)) (away ref (n + 1)) v (wl l p) (wa ref p) = true) : Won l ref (n + 1) (n + 1) (volume l (n + 1)) := by
  have v0 := volume_nonneg l hl (n + 1)
  have s0 : 0 ≤ left l (n + 1) := size_nonneg _
  have a0 : 0 ≤ away ref (n + 1) := size_nonneg _
  unfold worthB wl wa at hb
  rcases h with ⟨h1, h2, h3⟩ | ⟨h1, h2, h3, h4, h5⟩
  · rw [if_pos h1, if_pos h1] at hb
    have hv : 0 < volume l (n + 1) := by
      split at hb
      · split at hb <;> simp only [decide_eq_true_eq] at hb <;> omega
      · simp only [decide_eq_true_eq] at hb; omega
    refine .inr ⟨hv, by omega, by omega, rfl, fun q q1 q2 => ?_⟩
    by_cases e : q = n + 1
    · rw [e]; omega
    · have := h3 q q1 (by omega); omega
  · have hp : ¬ p = 0 := by omega
    rw [if_neg hp, if_neg hp] at hb
    have key : v < volume l (n + 1) ∨ volume l (n + 1) = v ∧ (left l (n + 1) < left l p ∨ left l (n + 1) = left l p ∧ away ref (n + 1) < away ref p) := by
      split at hb
      · split at hb <;> simp only [decide_eq_true_eq] at hb <;> omega
      · simp only [decide_eq_true_eq] at hb; omega
    refine .inr ⟨by omega, by omega, by omega, rfl, fun q q1 q2 => ?_⟩
    by_cases e : q = n + 1
    · rw [e]; omega
    · have := h5 q q1 (by omega); omega
theorem Won.keep {l : List Lot} {ref n p v : Int} (hl : Oks l) (h : Won l ref n p v) (hb : worthB (volume l (n + 1)) (left l (n + 1)) (away ref (n + 1)) v (wl l p) (wa ref p) = false) : Won l ref (n + 1) p v := by
  have v0 := volume_nonneg l hl (n + 1)
  unfold worthB wl wa at hb
  rcases h with ⟨h1, h2, h3⟩ | ⟨h1, h2, h3, h4, h5⟩
  · refine .inl ⟨h1, h2, fun q q1 q2 => ?_⟩
    by_cases e : q = n + 1
    · rw [e]
      by_cases hv : volume l (n + 1) = v
      · omega
      · rw [if_neg hv] at hb; simp only [decide_eq_false_iff_not] at hb; omega
    · exact h3 q q1 (by omega)
  · have hp : ¬ p = 0 := by omega
    rw [if_neg hp, if_neg hp] at hb
    refine .inr ⟨h1, h2, by omega, h4, fun q q1 q2 => ?_⟩
    by_cases e : q = n + 1
    · rw [e]
      split at hb
      · split at hb <;> simp only [decide_eq_false_iff_not] at hb <;> omega
      · simp only [decide_eq_false_iff_not] at hb; omega
    · exact h5 q q1 (by omega)

theorem Won.range {l : List Lot} {ref n p v : Int} (h : Won l ref n p v) (hn : 0 ≤ n) : 0 ≤ p ∧ p ≤ n ∧ 0 ≤ v := by
  rcases h with ⟨h1, h2, h3⟩ | ⟨h1, h2, h3, h4, h5⟩ <;> omega

/-- quantities of one side at just one price -/
def atB (side p : Int) (x : Lot) : Bool := x.sd == side && x.pr == p
def at_ (l : List Lot) (side p : Int) : Int := sumIf (atB side p) l
theorem demand_step (p : Int) : ∀ l : List Lot, demand l p = demand l (p + 1) + at_ l 0 p
  | [] => rfl
  | x :: l => by
    have ih := demand_step p l
    unfold demand at_ at ih ⊢
    simp only [sumIf]
    by_cases hs : x.sd = 0
    · by_cases h1 : x.pr = p
      · have h2 : p ≤ x.pr := by omega
        have h3 : ¬ p + 1 ≤ x.pr := by omega
        have e : (x.pr == p) = true := by simpa using h1
        simp only [dB, atB, hs, h2, h3, e, beq_self_eq_true, decide_true, decide_false, Bool.and_self, Bool.and_false, if_true, Bool.false_eq_true, if_false]
        omega
      · by_cases h2 : p ≤ x.pr
        · have h3 : p + 1 ≤ x.pr := by omega
          simp [dB, atB, hs, h1, h2, h3] at *
          omega
        · have h3 : ¬ p + 1 ≤ x.pr := by omega
          simp [dB, atB, hs, h1, h2, h3] at *
          omega
    · simp [dB, atB, hs] at *
      omega
theorem supply_step (p : Int) : ∀ l : List Lot, supply l (p + 1) = supply l p + at_ l 1 (p + 1)
  | [] => rfl
  | x :: l => by
    have ih := supply_step p l
    unfold supply at_ at ih ⊢
    simp only [sumIf]
    by_cases hs : x.sd = 1
    · by_cases h1 : x.pr = p + 1
      · have h3 : ¬ x.pr ≤ p := by omega
        have h2 : x.pr ≤ p + 1 := by omega
        have e : (x.pr == p + 1) = true := by simpa using h1
        simp only [sB, atB, hs, h2, h3, e, beq_self_eq_true, decide_true, decide_false, Bool.and_self, Bool.and_false, if_true, Bool.false_eq_true, if_false]
        omega
      · by_cases h2 : x.pr ≤ p
        · have h3 : x.pr ≤ p + 1 := by omega
          simp [sB, atB, hs, h1, h2, h3] at *
          omega
        · have h3 : ¬ x.pr ≤ p + 1 := by omega
          simp [sB, atB, hs, h1, h2, h3] at *
          omega
    · simp [sB, atB, hs] at *
      omega
theorem demand_top (l : List Lot) (h : Oks l) {p : Int} (hp : 1000 ≤ p) : demand l (p + 1) = 0 :=
  sumIf_zero l fun x hx => by
    have := (ok_bounds (h x hx)).2.2.2.1
    have h2 : ¬ p + 1 ≤ x.pr := by omega
    simp [dB, h2]
theorem supply_low (l : List Lot) (h : Oks l) {p : Int} (hp : p ≤ 0) : supply l p = 0 :=
  sumIf_zero l fun x hx => by
    have := (ok_bounds (h x hx)).2.2.2.1
    have h2 : ¬ x.pr ≤ p := by omega
    simp [sB, h2]

/-- it trades just if there is a buy at a sell's price -/
theorem Won.cross {l : List Lot} {ref p v : Int} (hl : Oks l) (h : Won l ref 1000 p v) : cross l = decide (0 < v) := by
  rw [cross_volume l hl]
  have hr := best_range l hl 0 (.inl rfl)
  rcases h with ⟨h1, h2, h3⟩ | ⟨h1, h2, h3, h4, h5⟩
  · have : volume l (best 0 l) = 0 := by
      by_cases e : 1 ≤ best 0 l
      · exact h3 _ e hr.2
      · unfold volume
        have := supply_low l hl (p := best 0 l) (by omega)
        have hd := (sumIf_bounds (dB (best 0 l)) l hl).1
        unfold demand; omega
    rw [this, h2]
  · have hb : p ≤ best 0 l := by
      have hd : demand l p ≠ 0 := by unfold volume at h4; omega
      rcases best_buy l hl with ⟨b1, b2⟩ | ⟨_, b2⟩
      · exact absurd (sumIf_zero l fun x hx => by simp [dB, b2 x hx]) hd
      · by_cases e : p ≤ best 0 l
        · exact e
        · refine absurd (sumIf_zero l fun x hx => ?_) hd
          by_cases es : x.sd = 0
          · have := b2 x hx es
            have h2 : ¬ p ≤ x.pr := by omega
            simp [dB, h2]
          · simp [dB, es]
    have hsu := supply_rises l hl hb
    have hs : 0 < supply l (best 0 l) := by unfold volume at h4; omega
    have hd : 0 < demand l (best 0 l) := by
      rcases best_buy l hl with ⟨b1, b2⟩ | ⟨⟨x, hx, hxs, hxp⟩, b2⟩
      · omega
      · exact sumIf_pos l hl ⟨x, hx, by simp [dB, hxs, hxp]⟩
    have : 0 < volume l (best 0 l) := by unfold volume; omega
    simp [this, h1]

/-- what is strictly better than a price -/
def stB (side p : Int) (x : Lot) : Bool := x.sd == side && better side x.pr p
def strict (l : List Lot) (side p : Int) : Int := sumIf (stB side p) l
theorem strict_buy (l : List Lot) (h : Oks l) (p : Int) : strict l 0 p ≤ demand l p :=
  sumIf_mono l h (fun x _ hx => by simp only [stB, better, dB, if_true, Bool.and_eq_true, decide_eq_true_eq] at hx ⊢; exact ⟨hx.1, by omega⟩)
theorem strict_sell (l : List Lot) (h : Oks l) (p : Int) : strict l 1 p ≤ supply l p :=
  sumIf_mono l h (fun x _ hx => by
    simp only [stB, better, sB, Bool.and_eq_true] at hx ⊢
    rw [if_neg (by decide)] at hx
    simp only [decide_eq_true_eq] at hx ⊢
    exact ⟨hx.1, by omega⟩)

/-- the other test of what is strictly better, as the document's answer has it -/
def stR (side p : Int) (x : Lot) : Bool := x.sd == side && ((side == 0 && decide (p < x.pr)) || (side == 1 && decide (x.pr < p)))
theorem strict_ref (l : List Lot) (h : Oks l) (side p : Int) : strict l side p = sumIf (stR side p) l :=
  sumIf_congr l fun x hx => by
    have hb := (ok_bounds (h x hx)).2.2.1
    unfold stB stR better
    by_cases hs : x.sd = side
    · by_cases h0 : side = 0
      · simp [hs, h0]
      · have h1 : side = 1 := by omega
        simp [h1]
    · have : (x.sd == side) = false := by simpa using hs
      simp [this]

end Cv
end Go.Proofs.YtjdnahmdicamdaaGreatDoor
/- A band by numbers alone: what is well, what is within, what comes next. -/
namespace Go.Proofs.YtjdnahmdicamdaaGreatDoor
namespace Bd
def bOk (r l : Int) : Bool := Wi.withinB r 1 1000 && Wi.withinB l 0 1000
def rOk (w h : Int) : Bool := Wi.withinB w 0 100 && Wi.withinB h 1 1000
def vOk (p v : Int) : Bool := !decide (v < 0) && (!decide (0 < v) || Wi.withinB p 1 1000)
def inB (w r p : Int) : Bool := decide (Cv.size (p - r) * 100 ≤ r * w)
/-- the next band's reference, what is left of its halt, and whether it is open -/
def nR (r l w p v : Int) : Int := if 0 < l then (if l = 1 ∧ 0 < v then p else r) else if 0 < v ∧ inB w r p = true then p else r
def nL (r l w h p v : Int) : Int := if 0 < l then l - 1 else if 0 < v ∧ inB w r p = false then h else l
def nO (r l w p v : Int) : Bool := !decide (0 < l) && (!decide (0 < v) || inB w r p)
end Bd
theorem prod_bounds {r w : Int} (h1 : 1 ≤ r) (h2 : r ≤ 1000) (h3 : 0 ≤ w) (h4 : w ≤ 100) : 0 ≤ r * w ∧ r * w ≤ 100000 := by
  refine ⟨Int.mul_nonneg (by omega) h3, ?_⟩
  have a := Int.mul_le_mul_of_nonneg_right h2 h3
  omega
end Go.Proofs.YtjdnahmdicamdaaGreatDoor
/- The small functions of package band, by their contracts. -/
namespace Go.Proofs.YtjdnahmdicamdaaGreatDoor
open Go.RowKit
set_option maxRecDepth 100000

theorem apartN_any (a b : Int) (w : World) (h1 : -1000000 ≤ a) (h2 : a ≤ 1000000) (h3 : -1000000 ≤ b) (h4 : b ≤ 1000000) : Calls Tryz.prog 48 #[.int .i64 a, .int .i64 b] w fun e w' => e = .returned (.int .i64 (Cv.size (a - b))) ∧ w' = w := by
  go_enter Tryz.func48, Tryz.ntmps48
  go_wp2
  all_goals go_ret
  all_goals exact ⟨ret_int (by unfold Cv.size; omega), rfl⟩

theorem isPrice_any (n : Int) (w : World) : Calls Tryz.prog 116 #[.int .i64 n] w fun e w' => e = .returned (.bool (Wi.withinB n 1 1000)) ∧ w' = w := by
  go_enter Tryz.func116, Tryz.ntmps116
  go_wp2_with (go_at_call 35; refine (within_any _ _ _ _).mono ?_; rintro e w' ⟨rfl, rfl⟩)
  go_ret
  exact ⟨rfl, rfl⟩

/-- what ErrBound holds -/
structure BEr (w : World) (T : TypeId) (v1 : Value) : Prop where
  c1 : w.cell? ⟨0, 0, none⟩ = some (.iface T v1)
theorem BEr.later {w w' : World} {T : TypeId} {v1 : Value} (h : BEr w T v1) (hb : Below w.heap.size w w') : BEr w' T v1 := ⟨cell_later hb h.c1⟩
def bandV (r l : Int) : Value := .agg #[.int .i64 r, .int .i64 l]
def okE (T : TypeId) (v : Value) (b : Bool) : Value := if b = true then .nilIface else .iface T v

set_option maxHeartbeats 1000000 in
theorem bcheck_any (r l : Int) (T : TypeId) (v1 : Value) (w : World) (he : Hid (BEr w T v1)) :
    Calls Tryz.prog 115 #[bandV r l] w fun e w' => e = .returned (okE T v1 (Bd.bOk r l)) ∧ Below w.heap.size w w' := by
  show Calls Tryz.prog 115 #[.agg #[.int .i64 r, .int .i64 l]] w _
  have hb0 : Below w.heap.size w (w.alloc (.cells #[.int .i64 r, .int .i64 l] 69)) := (Below.refl _ _).alloc (Nat.le_refl _) _
  have e1 := (he.out.later hb0).c1
  have HB := hide hb0
  clear hb0
  go_enter Tryz.func115, Tryz.ntmps115
  cases h1 : Wi.withinB r 1 1000 <;> cases h2 : Wi.withinB l 0 1000
  all_goals
    go_wp2_with (first | (go_at_call 116; refine (isPrice_any _ _).mono ?_; rintro e w' ⟨rfl, rfl⟩; rw [h1]) | (go_at_call 35; refine (within_any _ _ _ _).mono ?_; rintro e w' ⟨rfl, rfl⟩; rw [h2]))
    all_goals go_ret
    all_goals exact ⟨by simp [okE, Bd.bOk, h1, h2], HB.out⟩

set_option maxHeartbeats 1000000 in
theorem rcheck_any (r l : Int) (T : TypeId) (v1 : Value) (w : World) (he : Hid (BEr w T v1)) :
    Calls Tryz.prog 34 #[bandV r l] w fun e w' => e = .returned (okE T v1 (Bd.rOk r l)) ∧ Below w.heap.size w w' := by
  show Calls Tryz.prog 34 #[.agg #[.int .i64 r, .int .i64 l]] w _
  have hb0 : Below w.heap.size w (w.alloc (.cells #[.int .i64 r, .int .i64 l] 31)) := (Below.refl _ _).alloc (Nat.le_refl _) _
  have e1 := (he.out.later hb0).c1
  have HB := hide hb0
  clear hb0
  go_enter Tryz.func34, Tryz.ntmps34
  cases h1 : Wi.withinB r 0 100 <;> cases h2 : Wi.withinB l 1 1000
  all_goals
    go_wp2_with (go_at_call 35; refine (within_any _ _ _ _).mono ?_; rintro e w' ⟨rfl, rfl⟩; first | rw [h1] | rw [h2])
    all_goals go_ret
    all_goals exact ⟨by simp [okE, Bd.rOk, h1, h2], HB.out⟩

set_option maxHeartbeats 1000000 in
theorem ruleIn_any (wd h r p : Int) (w : World) (h1 : 1 ≤ r) (h2 : r ≤ 1000) (h3 : 0 ≤ wd) (h4 : wd ≤ 100) (h5 : 1 ≤ p) (h6 : p ≤ 1000) :
    Calls Tryz.prog 85 #[bandV wd h, .int .i64 r, .int .i64 p] w fun e w' => e = .returned (.bool (Bd.inB wd r p)) ∧ Below w.heap.size w w' := by
  show Calls Tryz.prog 85 #[.agg #[.int .i64 wd, .int .i64 h], .int .i64 r, .int .i64 p] w _
  have HB : Hid (Below w.heap.size w (w.alloc (.cells #[.int .i64 wd, .int .i64 h] 31))) := (Below.refl _ _).alloc (Nat.le_refl _) _
  have hp := prod_bounds h1 h2 h3 h4
  have w1 : IntKind.i64.wrap (r * wd) = r * wd := IntWalk.i64_in _ (by omega)
  have hs : 0 ≤ Cv.size (p - r) ∧ Cv.size (p - r) ≤ 1000 := by unfold Cv.size; omega
  have w2 : IntKind.i64.wrap (Cv.size (p - r) * 100) = Cv.size (p - r) * 100 := IntWalk.i64_in _ (by omega)
  have n1 : ¬ wd < -1 := by omega
  have n2 : ¬ 100000 < wd := by omega
  go_enter Tryz.func85, Tryz.ntmps85
  go_wp2_with (go_at_call 48; refine (apartN_any _ _ _ (by omega) (by omega) (by omega) (by omega)).mono ?_; rintro e w' ⟨rfl, rfl⟩)
  all_goals go_ret
  all_goals first | exact ⟨rfl, HB.out⟩ | exact ⟨ret_bool (by simp [Bd.inB]), HB.out⟩
end Go.Proofs.YtjdnahmdicamdaaGreatDoor
