/- The document's purses: Trade by its contract. -/
import Derived.Test.YtdggddjgipgllaaGreatDoorG03
import Derived.Test.YtdggddjgipgllaaGreatDoorG28
import Derived.Test.YtdggddjgipgllaaGreatDoorG01
import Derived.Deep.RegionWith
import Derived.Deep.DeepCutAuto
namespace Go.Proofs.YtdggddjgipgllaaGreatDoor
open Go.RowKit
set_option maxRecDepth 100000

set_option maxHeartbeats 8000000 in
theorem mtrade_0 (p : Nat) (b s : Cv.Lot) (price qty : Int) (f : Nat → Int) (w : World) (hp : Hid (Purse w 131 p f)) (hg : Hid (Pu.Good f)) :
  Calls Tryz.prog 71 #[.pointer (some ⟨p, 0, none⟩), .int .i64 (0 : Int), lotV b, lotV s, .int .i64 price, .int .i64 qty] w fun e w' => e = .returned (.int .i64 (p_errNo (Pu.tradeC f (0 : Int) b s price qty))) ∧ Purse w' 131 p (Pu.tradeF f (0 : Int) b s price qty) ∧ Save w w' p := by
 show Calls Tryz.prog 71 #[.pointer (some ⟨p, 0, none⟩), .int .i64 (0 : Int), .agg #[.int .i64 b.id, .int .i64 b.ow, .int .i64 b.sd, .int .i64 b.pr, .int .i64 b.q], .agg #[.int .i64 s.id, .int .i64 s.ow, .int .i64 s.sd, .int .i64 s.pr, .int .i64 s.q], .int .i64 price, .int .i64 qty] w _
 obtain ⟨W, hWd⟩ : ∃ W, (w.alloc (.cells #[.int .i64 b.id, .int .i64 b.ow, .int .i64 b.sd, .int .i64 b.pr, .int .i64 b.q] 56)).alloc (.cells #[.int .i64 s.id, .int .i64 s.ow, .int .i64 s.sd, .int .i64 s.pr, .int .i64 s.q] 56) = W := ⟨_, rfl⟩
 have hb1 : Below w.heap.size w (w.alloc (.cells #[.int .i64 b.id, .int .i64 b.ow, .int .i64 b.sd, .int .i64 b.pr, .int .i64 b.q] 56)) := bal
 have hb2 : Below w.heap.size w W := by rw [← hWd]; exact hb1.alloc hb1.size _
 have hX0 : W.heap[w.heap.size]? = some (.cells (lotA b) 56 (0, 0)) := by
  rw [← hWd]
  exact (Below.heap_alloc _ _ _ (by simp)).trans (heap_alloc_new _ _)
 have hY0 : W.heap[w.heap.size + 1]? = some (.cells (lotA s) 56 (0, 0)) := by
  rw [← hWd]
  have := heap_alloc_new (w.alloc (.cells #[.int .i64 b.id, .int .i64 b.ow, .int .i64 b.sd, .int .i64 b.pr, .int .i64 b.q] 56)) (.cells #[.int .i64 s.id, .int .i64 s.ow, .int .i64 s.sd, .int .i64 s.pr, .int .i64 s.q] 56)
  rw [show (w.alloc (.cells #[.int .i64 b.id, .int .i64 b.ow, .int .i64 b.sd, .int .i64 b.pr, .int .i64 b.q] 56)).heap.size = w.heap.size + 1 by simp] at this
  exact this
 have HX0 := hide hX0; have HY0 := hide hY0; have HBW := hide hb2
 have HI := hide (isItem_any (0 : Int) W)
 have HWd := hide hWd
 have HP1 := hide (hp.out.lat hb2)
 have HTB : Hid (∀ c, Pu.tchk (0 : Int) b s price qty = c → ¬ c = 0 → Pu.tradeC f (0 : Int) b s price qty = c ∧ Pu.tradeF f (0 : Int) b s price qty = f) := fun c h h0 => by
  have e : Pu.tradeC f (0 : Int) b s price qty = c := by unfold Pu.tradeC; rw [if_neg (by rw [h]; exact h0), h]
  exact ⟨e, by unfold Pu.tradeF; rw [e, if_neg h0]⟩
 clear hb1 hb2 hX0 hY0 hWd
 rw [show Wi.withinB (0 : Int) 0 2 = true from rfl] at HI
 have HWB : Hid (Pu.well (0 : Int) b = Cv.ok b ∧ Pu.well (0 : Int) s = Cv.ok s) := ⟨rfl, rfl⟩
 have HCb : Hid (∀ W', Calls Tryz.prog 61 #[.agg #[.int .i64 b.id, .int .i64 b.ow, .int .i64 b.sd, .int .i64 b.pr, .int .i64 b.q]] W' fun e w' => e = .returned (.int .i64 (lotE b)) ∧ Below W'.heap.size W' w') := fun W' => lotError_any b W'
 have HCs : Hid (∀ W', Calls Tryz.prog 61 #[.agg #[.int .i64 s.id, .int .i64 s.ow, .int .i64 s.sd, .int .i64 s.pr, .int .i64 s.q]] W' fun e w' => e = .returned (.int .i64 (lotE s)) ∧ Below W'.heap.size W' w') := fun W' => lotError_any s W'
 have b0 : W.cell? ⟨w.heap.size, 0, none⟩ = some (.int .i64 b.id) := p_hs_cell HX0.out rfl
 have b1 : W.cell? ⟨w.heap.size, 1, none⟩ = some (.int .i64 b.ow) := p_hs_cell HX0.out rfl
 have b2 : W.cell? ⟨w.heap.size, 2, none⟩ = some (.int .i64 b.sd) := p_hs_cell HX0.out rfl
 have b3 : W.cell? ⟨w.heap.size, 3, none⟩ = some (.int .i64 b.pr) := p_hs_cell HX0.out rfl
 have b4 : W.cell? ⟨w.heap.size, 4, none⟩ = some (.int .i64 b.q) := p_hs_cell HX0.out rfl
 have s0 : W.cell? ⟨w.heap.size + 1, 0, none⟩ = some (.int .i64 s.id) := p_hs_cell HY0.out rfl
 have s1 : W.cell? ⟨w.heap.size + 1, 1, none⟩ = some (.int .i64 s.ow) := p_hs_cell HY0.out rfl
 have s2 : W.cell? ⟨w.heap.size + 1, 2, none⟩ = some (.int .i64 s.sd) := p_hs_cell HY0.out rfl
 have s3 : W.cell? ⟨w.heap.size + 1, 3, none⟩ = some (.int .i64 s.pr) := p_hs_cell HY0.out rfl
 have s4 : W.cell? ⟨w.heap.size + 1, 4, none⟩ = some (.int .i64 s.q) := p_hs_cell HY0.out rfl
 have hle : (lotE b = 0 ∨ lotE b = 2) ∧ (lotE s = 0 ∨ lotE s = 2) := by unfold lotE; constructor <;> split <;> simp
 have HLE : Hid (decide (0 < IntKind.i64.wrap (lotE b + lotE s)) = !(Cv.ok b && Cv.ok s)) := by
  show _ = _
  unfold lotE
  cases Cv.ok b <;> cases Cv.ok s <;> rfl
 go_enter Tryz.func71, Tryz.ntmps71
 go_wp2_with fail
 rw [HWd.out]
 refine HI.out.mono ?_
 rintro e w2 ⟨rfl, rfl⟩
 clear HI HWd
 simp only []
 go_upto_region 2 with fail
 have HBc : Hid (Below w2.heap.size w2 w2.drew) := ⟨rfl, rfl, rfl, Nat.le_refl _, fun _ _ => rfl⟩
 generalize lotE b = eb at *
 generalize lotE s = es at *
 go_cut [27] (fun s27 wx => s27 = .bool (!(Cv.ok b && Cv.ok s)) ∧ Below w2.heap.size w2 wx)
 case first =>
  go_region_with (first
   | (go_at_call_of 61 (Value.agg #[.int .i64 b.id, .int .i64 b.ow, .int .i64 b.sd, .int .i64 b.pr, .int .i64 b.q])
      refine (HCb.out _).mono ?_
      rintro e w5 ⟨rfl, hb5⟩
      replace HBc := hide (HBc.out.trans (hb5.mono HBc.out.size))
      have q0 := cell_later HBc.out s0
      have q1 := cell_later HBc.out s1
      have q2 := cell_later HBc.out s2
      have q3 := cell_later HBc.out s3
      have q4 := cell_later HBc.out s4
      clear hb5)
   | (go_at_call_of 61 (Value.agg #[.int .i64 s.id, .int .i64 s.ow, .int .i64 s.sd, .int .i64 s.pr, .int .i64 s.q])
      refine (HCs.out _).mono ?_
      rintro e w5 ⟨rfl, hb5⟩
      replace HBc := hide (HBc.out.trans (hb5.mono HBc.out.size))
      have r0 := cell_later HBc.out b0
      have r1 := cell_later HBc.out b1
      have r2 := cell_later HBc.out b2
      have r3 := cell_later HBc.out b3
      have r4 := cell_later HBc.out b4
      clear hb5))
  all_goals
   go_wp2_with fail
   go_meet
   exact ⟨by rw [HLE.out], HBc.out⟩
 case rest =>
  obtain ⟨rfl, hbx⟩ := hcut
  have HBx : Hid (Below w.heap.size w wc) := HBW.out.trans (hbx.mono HBW.out.size)
  have HPx := hide (HP1.out.lat hbx)
  have HXx : Hid (wc.heap[w.heap.size]? = some (.cells (lotA b) 56 (0, 0))) := rof hbx HX0.out
  have HYx : Hid (wc.heap[w.heap.size + 1]? = some (.cells (lotA s) 56 (0, 0))) := rof hbx HY0.out
  clear hbx HBW HP1 HX0 HY0 HBc HCb HCs b0 b1 b2 b3 b4 s0 s1 s2 s3 s4 hle HLE
  cases hok : (Cv.ok b && Cv.ok s) with
  | false =>
   have HA := hide (HTB.out 1 (by
    unfold Pu.tchk
    rw [if_neg]
    rw [HWB.out.1, HWB.out.2]
    intro h
    rw [h.1, h.2] at hok
    cases hok) (by decide))
   clear hok
   simp only [Bool.not_false]
   go_wp2
   go_ret
   exact ⟨by rw [HA.out.1]; rfl, by rw [HA.out.2]; exact HPx.out, Save.of_below HBx.out p⟩
  | true =>
   have Hwb : Hid (Pu.well (0 : Int) b = true) := by
    show _ = _
    rw [HWB.out.1]
    simp only [Bool.and_eq_true] at hok
    exact hok.1
   have Hws : Hid (Pu.well (0 : Int) s = true) := by
    show _ = _
    rw [HWB.out.2]
    simp only [Bool.and_eq_true] at hok
    exact hok.2
   clear hok HWB
   have HR : Hid (Pu.tchk (0 : Int) b s price qty = if b.sd = 0 ∧ s.sd = 1 then (if (1 ≤ price ∧ price ≤ 1000) ∧ 1 ≤ qty ∧ qty ≤ b.q ∧ qty ≤ s.q then (if s.pr ≤ price ∧ price ≤ b.pr then 0 else 11) else 1) else 2) := by show _ = _; unfold Pu.tchk; rw [if_pos ⟨Hwb.out, Hws.out⟩]
   obtain ⟨cb, hcb, hcb6⟩ := Pu.well_ow Hwb.out
   obtain ⟨cs, hcs, hcs6⟩ := Pu.well_ow Hws.out
   have b1 : wc.cell? ⟨w.heap.size, 1, none⟩ = some (.int .i64 cb) := by rw [← hcb]; exact p_hs_cell HXx.out rfl
   have b2 : wc.cell? ⟨w.heap.size, 2, none⟩ = some (.int .i64 b.sd) := p_hs_cell HXx.out rfl
   have b3 : wc.cell? ⟨w.heap.size, 3, none⟩ = some (.int .i64 b.pr) := p_hs_cell HXx.out rfl
   have b4 : wc.cell? ⟨w.heap.size, 4, none⟩ = some (.int .i64 b.q) := p_hs_cell HXx.out rfl
   have s1 : wc.cell? ⟨w.heap.size + 1, 1, none⟩ = some (.int .i64 cs) := by rw [← hcs]; exact p_hs_cell HYx.out rfl
   have s2 : wc.cell? ⟨w.heap.size + 1, 2, none⟩ = some (.int .i64 s.sd) := p_hs_cell HYx.out rfl
   have s3 : wc.cell? ⟨w.heap.size + 1, 3, none⟩ = some (.int .i64 s.pr) := p_hs_cell HYx.out rfl
   have s4 : wc.cell? ⟨w.heap.size + 1, 4, none⟩ = some (.int .i64 s.q) := p_hs_cell HYx.out rfl
   simp only [Bool.not_true]
   by_cases hbs : ¬ b.sd = 0
   ·have hbb : (b.sd == 0) = false := by simp [hbs]
    have HA := hide (HTB.out 2 (by rw [HR.out]; exact if_neg fun h => hbs h.1) (by decide))
    go_wp2
    go_ret
    exact ⟨by rw [HA.out.1]; rfl, by rw [HA.out.2]; exact HPx.out, Save.of_below HBx.out p⟩
   have hbs : b.sd = 0 := by omega
   have hbb : (b.sd == 0) = true := by simp [hbs]
   by_cases hss : ¬ s.sd = 1
   ·have hss' : (s.sd == 1) = false := by simp [hss]
    have HA := hide (HTB.out 2 (by rw [HR.out]; exact if_neg fun h => hss h.2) (by decide))
    go_wp2
    go_ret
    exact ⟨by rw [HA.out.1]; rfl, by rw [HA.out.2]; exact HPx.out, Save.of_below HBx.out p⟩
   have hss : s.sd = 1 := by omega
   have hss' : (s.sd == 1) = true := by simp [hss]
   have HR2 : Hid (Pu.tchk (0 : Int) b s price qty = if (1 ≤ price ∧ price ≤ 1000) ∧ 1 ≤ qty ∧ qty ≤ b.q ∧ qty ≤ s.q then (if s.pr ≤ price ∧ price ≤ b.pr then 0 else 11) else 1) := by show _ = _; rw [HR.out, if_pos ⟨hbs, hss⟩]
   clear HR
   by_cases t1 : price < 1
   ·have HA := hide (HTB.out 1 (by rw [HR2.out]; exact if_neg (by omega)) (by decide))
    go_wp2
    go_ret
    exact ⟨by rw [HA.out.1]; rfl, by rw [HA.out.2]; exact HPx.out, Save.of_below HBx.out p⟩
   by_cases t2 : 1000 < price
   ·have HA := hide (HTB.out 1 (by rw [HR2.out]; exact if_neg (by omega)) (by decide))
    go_wp2
    go_ret
    exact ⟨by rw [HA.out.1]; rfl, by rw [HA.out.2]; exact HPx.out, Save.of_below HBx.out p⟩
   by_cases t3 : qty < 1
   ·have HA := hide (HTB.out 1 (by rw [HR2.out]; exact if_neg (by omega)) (by decide))
    go_wp2
    go_ret
    exact ⟨by rw [HA.out.1]; rfl, by rw [HA.out.2]; exact HPx.out, Save.of_below HBx.out p⟩
   by_cases t4 : b.q < qty
   ·have HA := hide (HTB.out 1 (by rw [HR2.out]; exact if_neg (by omega)) (by decide))
    go_wp2
    go_ret
    exact ⟨by rw [HA.out.1]; rfl, by rw [HA.out.2]; exact HPx.out, Save.of_below HBx.out p⟩
   by_cases t5 : s.q < qty
   ·have HA := hide (HTB.out 1 (by rw [HR2.out]; exact if_neg (by omega)) (by decide))
    go_wp2
    go_ret
    exact ⟨by rw [HA.out.1]; rfl, by rw [HA.out.2]; exact HPx.out, Save.of_below HBx.out p⟩
   have HR3 : Hid (Pu.tchk (0 : Int) b s price qty = if s.pr ≤ price ∧ price ≤ b.pr then 0 else 11) := by show _ = _; rw [HR2.out, if_pos (by omega)]
   clear HR2
   by_cases t6 : b.pr < price
   ·have HA := hide (HTB.out 11 (by rw [HR3.out]; exact if_neg (by omega)) (by decide))
    go_wp2
    go_ret
    exact ⟨by rw [HA.out.1]; rfl, by rw [HA.out.2]; exact HPx.out, Save.of_below HBx.out p⟩
   by_cases t7 : price < s.pr
   ·have HA := hide (HTB.out 11 (by rw [HR3.out]; exact if_neg (by omega)) (by decide))
    go_wp2
    go_ret
    exact ⟨by rw [HA.out.1]; rfl, by rw [HA.out.2]; exact HPx.out, Save.of_below HBx.out p⟩
   have HZ : Hid (Pu.tchk (0 : Int) b s price qty = 0) := by show _ = _; rw [HR3.out, if_pos (by omega)]
   have hr := Pu.right_of HZ.out
   have hm := hr.muls
   have hq1 := hr.q.1
   have HT : Hid (Pu.tradeC f (0 : Int) b s price qty = if Pu.poor f cb cs 0 b.pr qty = true then 9 else if Pu.over f cb cs 0 price qty = true then 7 else 0) := by
    show _ = _; unfold Pu.tradeC; rw [if_pos HZ.out, hcb, hcs]; simp only [Int.toNat_natCast]; rfl
   have HF : Hid (Pu.tradeF f (0 : Int) b s price qty = if Pu.tradeC f (0 : Int) b s price qty = 0 then Pu.six f cb cs 0 b.pr price qty else f) := by
    show _ = _; unfold Pu.tradeF; rw [hcb, hcs]; simp only [Int.toNat_natCast]; rfl
   clear HR3 HTB hr
   have hci : (cb : Int) < 6 := by omega
   have hsi : (cs : Int) < 6 := by omega
   have gb := hg.out.cash cb hcb6
   have gs := hg.out.cash cs hcs6
   have gbs : 0 ≤ f (cb * 8 + 5) ∧ f (cb * 8 + 5) ≤ f (cb * 8 + 2) ∧ f (cb * 8 + 2) ≤ 1073741824 := hg.out.stock cb 0 hcb6 (by decide)
   have gss : 0 ≤ f (cs * 8 + 5) ∧ f (cs * 8 + 5) ≤ f (cs * 8 + 2) ∧ f (cs * 8 + 2) ≤ 1073741824 := hg.out.stock cs 0 hcs6 (by decide)
   have HPD : Hid (Pu.poor f cb cs 0 b.pr qty = (decide (f (cb * 8 + 1) < b.pr * qty) || decide (f (cs * 8 + 5) < qty))) := rfl
   have HOD : Hid (Pu.over f cb cs 0 price qty = (decide (cb ≠ cs) && (decide (1073741824 < f (cb * 8 + 2) + qty) || decide (1099511627776 < f (cs * 8) + price * qty)))) := rfl
   have c0 := HPx.out.cell (i := cb * 8) (by omega)
   have c1 := HPx.out.cell (i := cb * 8 + 1) (by omega)
   have c2 := HPx.out.cell (i := cb * 8 + 2) (by omega)
   have c3 := HPx.out.cell (i := cb * 8 + 3) (by omega)
   have c4 := HPx.out.cell (i := cb * 8 + 4) (by omega)
   have c5 := HPx.out.cell (i := cb * 8 + 5) (by omega)
   have c6 := HPx.out.cell (i := cb * 8 + 6) (by omega)
   have c7 := HPx.out.cell (i := cb * 8 + 7) (by omega)
   have e0 := HPx.out.cell (i := cs * 8) (by omega)
   have e1 := HPx.out.cell (i := cs * 8 + 1) (by omega)
   have e2 := HPx.out.cell (i := cs * 8 + 2) (by omega)
   have e3 := HPx.out.cell (i := cs * 8 + 3) (by omega)
   have e4 := HPx.out.cell (i := cs * 8 + 4) (by omega)
   have e5 := HPx.out.cell (i := cs * 8 + 5) (by omega)
   have e6 := HPx.out.cell (i := cs * 8 + 6) (by omega)
   have e7 := HPx.out.cell (i := cs * 8 + 7) (by omega)
   have hpl : p < wc.heap.size := HPx.out.lt
   have hwl : w.heap.size + 1 < wc.heap.size := lt_of_block HYx.out
   have hwl1 : w.heap.size < wc.heap.size := by omega
   generalize hub0 : f (cb * 8) = ub0 at *
   generalize hub1 : f (cb * 8 + 1) = ub1 at *
   generalize hub2 : f (cb * 8 + 2) = ub2 at *
   generalize hub3 : f (cb * 8 + 3) = ub3 at *
   generalize hub4 : f (cb * 8 + 4) = ub4 at *
   generalize hub5 : f (cb * 8 + 5) = ub5 at *
   generalize hub6 : f (cb * 8 + 6) = ub6 at *
   generalize hub7 : f (cb * 8 + 7) = ub7 at *
   generalize hus0 : f (cs * 8) = us0 at *
   generalize hus1 : f (cs * 8 + 1) = us1 at *
   generalize hus2 : f (cs * 8 + 2) = us2 at *
   generalize hus3 : f (cs * 8 + 3) = us3 at *
   generalize hus4 : f (cs * 8 + 4) = us4 at *
   generalize hus5 : f (cs * 8 + 5) = us5 at *
   generalize hus6 : f (cs * 8 + 6) = us6 at *
   generalize hus7 : f (cs * 8 + 7) = us7 at *
   have hB0 : Below wc.heap.size wc (wc.alloc (.cells #[.int .i64 ub0, .int .i64 ub1, .int .i64 ub2, .int .i64 ub3, .int .i64 ub4, .int .i64 ub5, .int .i64 ub6, .int .i64 ub7] 128)) := bal
   have hB5 : Below wc.heap.size wc ((wc.alloc (.cells #[.int .i64 ub0, .int .i64 ub1, .int .i64 ub2, .int .i64 ub3, .int .i64 ub4, .int .i64 ub5, .int .i64 ub6, .int .i64 ub7] 128)).alloc (.cells #[.int .i64 us0, .int .i64 us1, .int .i64 us2, .int .i64 us3, .int .i64 us4, .int .i64 us5, .int .i64 us6, .int .i64 us7] 128)).drew.drew := p_bd1 (p_bd1 (hB0.alloc hB0.size _))
   have HB5 : Hid (Below w.heap.size w ((wc.alloc (.cells #[.int .i64 ub0, .int .i64 ub1, .int .i64 ub2, .int .i64 ub3, .int .i64 ub4, .int .i64 ub5, .int .i64 ub6, .int .i64 ub7] 128)).alloc (.cells #[.int .i64 us0, .int .i64 us1, .int .i64 us2, .int .i64 us3, .int .i64 us4, .int .i64 us5, .int .i64 us6, .int .i64 us7] 128)).drew.drew) := HBx.out.trans (hB5.mono HBx.out.size)
   have HP5 := hide (HPx.out.lat hB5)
   have HX5 : Hid (((wc.alloc (.cells #[.int .i64 ub0, .int .i64 ub1, .int .i64 ub2, .int .i64 ub3, .int .i64 ub4, .int .i64 ub5, .int .i64 ub6, .int .i64 ub7] 128)).alloc (.cells #[.int .i64 us0, .int .i64 us1, .int .i64 us2, .int .i64 us3, .int .i64 us4, .int .i64 us5, .int .i64 us6, .int .i64 us7] 128)).drew.drew.heap[w.heap.size]? = some (.cells (lotA b) 56 (0, 0))) := rof hB5 HXx.out
   have HY5 : Hid (((wc.alloc (.cells #[.int .i64 ub0, .int .i64 ub1, .int .i64 ub2, .int .i64 ub3, .int .i64 ub4, .int .i64 ub5, .int .i64 ub6, .int .i64 ub7] 128)).alloc (.cells #[.int .i64 us0, .int .i64 us1, .int .i64 us2, .int .i64 us3, .int .i64 us4, .int .i64 us5, .int .i64 us6, .int .i64 us7] 128)).drew.drew.heap[w.heap.size + 1]? = some (.cells (lotA s) 56 (0, 0))) := rof hB5 HYx.out
   have H14 : Hid (((wc.alloc (.cells #[.int .i64 ub0, .int .i64 ub1, .int .i64 ub2, .int .i64 ub3, .int .i64 ub4, .int .i64 ub5, .int .i64 ub6, .int .i64 ub7] 128)).alloc (.cells #[.int .i64 us0, .int .i64 us1, .int .i64 us2, .int .i64 us3, .int .i64 us4, .int .i64 us5, .int .i64 us6, .int .i64 us7] 128)).drew.drew.heap[wc.heap.size]? = some (.cells #[.int .i64 ub0, .int .i64 ub1, .int .i64 ub2, .int .i64 ub3, .int .i64 ub4, .int .i64 ub5, .int .i64 ub6, .int .i64 ub7] 128 (0, 0))) := (Below.heap_alloc _ _ _ (by simp)).trans (heap_alloc_new wc _)
   have H15 : Hid (((wc.alloc (.cells #[.int .i64 ub0, .int .i64 ub1, .int .i64 ub2, .int .i64 ub3, .int .i64 ub4, .int .i64 ub5, .int .i64 ub6, .int .i64 ub7] 128)).alloc (.cells #[.int .i64 us0, .int .i64 us1, .int .i64 us2, .int .i64 us3, .int .i64 us4, .int .i64 us5, .int .i64 us6, .int .i64 us7] 128)).drew.drew.heap[wc.heap.size + 1]? = some (.cells #[.int .i64 us0, .int .i64 us1, .int .i64 us2, .int .i64 us3, .int .i64 us4, .int .i64 us5, .int .i64 us6, .int .i64 us7] 128 (0, 0))) := by
    show _ = _
    have := heap_alloc_new (wc.alloc (.cells #[.int .i64 ub0, .int .i64 ub1, .int .i64 ub2, .int .i64 ub3, .int .i64 ub4, .int .i64 ub5, .int .i64 ub6, .int .i64 ub7] 128)) (.cells #[.int .i64 us0, .int .i64 us1, .int .i64 us2, .int .i64 us3, .int .i64 us4, .int .i64 us5, .int .i64 us6, .int .i64 us7] 128)
    rw [show (wc.alloc (.cells #[.int .i64 ub0, .int .i64 ub1, .int .i64 ub2, .int .i64 ub3, .int .i64 ub4, .int .i64 ub5, .int .i64 ub6, .int .i64 ub7] 128)).heap.size = wc.heap.size + 1 by simp] at this
    exact this
   clear hB0 hB5
   go_wp2
   go_region
   go_wp2
   go_region
   go_upto_region 12 with fail
   clear c0 c1 c2 c3 c4 c5 c6 c7 e0 e1 e2 e3 e4 e5 e6 e7 b1 b2 b3 b4 s1 s2 s3 s4
   generalize ((wc.alloc (.cells #[.int .i64 ub0, .int .i64 ub1, .int .i64 ub2, .int .i64 ub3, .int .i64 ub4, .int .i64 ub5, .int .i64 ub6, .int .i64 ub7] 128)).alloc (.cells #[.int .i64 us0, .int .i64 us1, .int .i64 us2, .int .i64 us3, .int .i64 us4, .int .i64 us5, .int .i64 us6, .int .i64 us7] 128)).drew.drew = w5 at *
   obtain ⟨N, hN⟩ : ∃ N, wc.heap.size = N := ⟨_, rfl⟩
   rw [hN] at H14 H15 hwl hwl1 hpl ⊢
   clear hN HPx HXx HYx HBx
   have b1 : w5.cell? ⟨w.heap.size, 1, none⟩ = some (.int .i64 cb) := by rw [← hcb]; exact p_hs_cell HX5.out rfl
   have b3 : w5.cell? ⟨w.heap.size, 3, none⟩ = some (.int .i64 b.pr) := p_hs_cell HX5.out rfl
   have s1 : w5.cell? ⟨w.heap.size + 1, 1, none⟩ = some (.int .i64 cs) := by rw [← hcs]; exact p_hs_cell HY5.out rfl
   have l0 : w5.cell? ⟨N, 0, none⟩ = some (.int .i64 ub0) := p_hs_cell H14.out rfl
   have l1 : w5.cell? ⟨N, 1, none⟩ = some (.int .i64 ub1) := p_hs_cell H14.out rfl
   have l2 : w5.cell? ⟨N, 2, none⟩ = some (.int .i64 ub2) := p_hs_cell H14.out rfl
   have l3 : w5.cell? ⟨N, 3, none⟩ = some (.int .i64 ub3) := p_hs_cell H14.out rfl
   have l4 : w5.cell? ⟨N, 4, none⟩ = some (.int .i64 ub4) := p_hs_cell H14.out rfl
   have l5 : w5.cell? ⟨N, 5, none⟩ = some (.int .i64 ub5) := p_hs_cell H14.out rfl
   have l6 : w5.cell? ⟨N, 6, none⟩ = some (.int .i64 ub6) := p_hs_cell H14.out rfl
   have l7 : w5.cell? ⟨N, 7, none⟩ = some (.int .i64 ub7) := p_hs_cell H14.out rfl
   have lf0 : w5.frozen? ⟨N, 0, none⟩ = false := hs_free H14.out
   have lf1 : w5.frozen? ⟨N, 1, none⟩ = false := hs_free H14.out
   have lf2 : w5.frozen? ⟨N, 2, none⟩ = false := hs_free H14.out
   have r0 : w5.cell? ⟨N + 1, 0, none⟩ = some (.int .i64 us0) := p_hs_cell H15.out rfl
   have r5 : w5.cell? ⟨N + 1, 5, none⟩ = some (.int .i64 us5) := p_hs_cell H15.out rfl
   have HT : Hid (Pu.tradeC f (0 : Int) b s price qty = if Pu.poor f cb cs 0 b.pr qty = true then 9 else if Pu.over f cb cs 0 price qty = true then 7 else 0) := HT.out
   have HF : Hid (Pu.tradeF f (0 : Int) b s price qty = if Pu.tradeC f (0 : Int) b s price qty = 0 then Pu.six f cb cs 0 b.pr price qty else f) := HF.out
   have hpw : p < w.heap.size := hp.out.lt
   obtain ⟨⟨m1, m2⟩, ⟨m3, m4⟩, m5, m6⟩ := hm
   by_cases hpo : ub1 < b.pr * qty
   ·have HA : Hid (Pu.tradeC f (0 : Int) b s price qty = 9 ∧ Pu.tradeF f (0 : Int) b s price qty = f) := by
     have e : Pu.tradeC f (0 : Int) b s price qty = 9 := by rw [HT.out, if_pos (by rw [HPD.out]; simp [hpo])]
     exact ⟨e, by rw [HF.out, e]; rfl⟩
    go_wp2
    go_ret
    exact ⟨by rw [HA.out.1]; rfl, by rw [HA.out.2]; exact HP5.out, Save.of_below HB5.out p⟩
   by_cases hpk : us5 < qty
   ·have HA : Hid (Pu.tradeC f (0 : Int) b s price qty = 9 ∧ Pu.tradeF f (0 : Int) b s price qty = f) := by
     have e : Pu.tradeC f (0 : Int) b s price qty = 9 := by rw [HT.out, if_pos (by rw [HPD.out]; simp [hpk])]
     exact ⟨e, by rw [HF.out, e]; rfl⟩
    go_wp2
    go_ret
    exact ⟨by rw [HA.out.1]; rfl, by rw [HA.out.2]; exact HP5.out, Save.of_below HB5.out p⟩
   have HNP : Hid (¬ Pu.poor f cb cs 0 b.pr qty = true) := by
    show ¬ _
    rw [HPD.out, Bool.or_eq_true, decide_eq_true_eq, decide_eq_true_eq]
    omega
   clear HPD
   by_cases hne : cb = cs
   case' pos =>
    have hnn : ((cb : Int) == (cs : Int)) = true := by simp [hne]
    have HNO : Hid (¬ Pu.over f cb cs 0 price qty = true) := by show ¬ _; rw [HOD.out]; simp [hne]
    clear HOD hne
   case' neg =>
    by_cases ho1 : 1073741824 < ub2 + qty
    ·have hnn : ((cb : Int) == (cs : Int)) = false := by simp; omega
     have HA : Hid (Pu.tradeC f (0 : Int) b s price qty = 7 ∧ Pu.tradeF f (0 : Int) b s price qty = f) := by
      have e : Pu.tradeC f (0 : Int) b s price qty = 7 := by rw [HT.out, if_neg HNP.out, if_pos (by rw [HOD.out]; simp [hne, ho1])]
      exact ⟨e, by rw [HF.out, e]; rfl⟩
     go_wp2
     go_ret
     exact ⟨by rw [HA.out.1]; rfl, by rw [HA.out.2]; exact HP5.out, Save.of_below HB5.out p⟩
    by_cases ho2 : 1099511627776 < us0 + price * qty
    ·have hnn : ((cb : Int) == (cs : Int)) = false := by simp; omega
     have HA : Hid (Pu.tradeC f (0 : Int) b s price qty = 7 ∧ Pu.tradeF f (0 : Int) b s price qty = f) := by
      have e : Pu.tradeC f (0 : Int) b s price qty = 7 := by rw [HT.out, if_neg HNP.out, if_pos (by rw [HOD.out]; simp [hne, ho2])]
      exact ⟨e, by rw [HF.out, e]; rfl⟩
     go_wp2
     go_ret
     exact ⟨by rw [HA.out.1]; rfl, by rw [HA.out.2]; exact HP5.out, Save.of_below HB5.out p⟩
    have hnn : ((cb : Int) == (cs : Int)) = false := by simp; omega
    have HNO : Hid (¬ Pu.over f cb cs 0 price qty = true) := by
     show ¬ _
     rw [HOD.out, Bool.and_eq_true, Bool.or_eq_true, decide_eq_true_eq, decide_eq_true_eq, decide_eq_true_eq]
     omega
    clear HOD
   all_goals
    have HA : Hid (Pu.tradeC f (0 : Int) b s price qty = 0 ∧ Pu.tradeF f (0 : Int) b s price qty = Pu.six f cb cs 0 b.pr price qty) := by
     have e : Pu.tradeC f (0 : Int) b s price qty = 0 := by rw [HT.out, if_neg HNP.out, if_neg HNO.out]
     exact ⟨e, by rw [HF.out, e]; rfl⟩
    obtain ⟨W6, hW6⟩ : ∃ W6, ((w5.setCell ⟨N, 1, none⟩ (.int .i64 (ub1 - b.pr * qty))).setCell ⟨N, 0, none⟩ (.int .i64 (ub0 - price * qty))).setCell ⟨N, 2, none⟩ (.int .i64 (ub2 + qty)) = W6 := ⟨_, rfl⟩
    have H6 : Hid (W6.heap[N]? = some (.cells #[.int .i64 (ub0 - price * qty), .int .i64 (ub1 - b.pr * qty), .int .i64 (ub2 + qty), .int .i64 (ub3), .int .i64 (ub4), .int .i64 (ub5), .int .i64 (ub6), .int .i64 (ub7)] 128 (0, 0))) := by
     show _ = _
     rw [← hW6]
     exact p_hs_set _ (p_hs_set _ (p_hs_set _ H14.out rfl) rfl) rfl
    have hS6 : Save w5 W6 N := by rw [← hW6]; exact ((Save.setCell _ _ _ _).set _ _).set _ _
    have HP6 := hide (HP5.out.save hS6 (by omega))
    have HB6 : Hid (Below w.heap.size w W6) := HB5.out.trans (hS6.below HB5.out.size (by omega))
    have HX6 : Hid (W6.heap[w.heap.size]? = some (.cells (lotA b) 56 (0, 0))) := by show _ = _; rw [hS6.block _ (lt_of_block HX5.out) (by omega)]; exact HX5.out
    have HY6 : Hid (W6.heap[w.heap.size + 1]? = some (.cells (lotA s) 56 (0, 0))) := by show _ = _; rw [hS6.block _ (lt_of_block HY5.out) (by omega)]; exact HY5.out
    have H156 : Hid (W6.heap[N + 1]? = some (.cells #[.int .i64 us0, .int .i64 us1, .int .i64 us2, .int .i64 us3, .int .i64 us4, .int .i64 us5, .int .i64 us6, .int .i64 us7] 128 (0, 0))) := by show _ = _; rw [hS6.block _ (lt_of_block H15.out) (by omega)]; exact H15.out
    have HW6 := hide hW6
    clear hS6 hW6
    go_wp2
    rw [HW6.out]
    clear HW6 HP5 HB5 HX5 HY5 H14 H15 b1 b3 s1 l0 l1 l2 l3 l4 l5 l6 l7 lf0 lf1 lf2 r0 r5
    have b1 : W6.cell? ⟨w.heap.size, 1, none⟩ = some (.int .i64 cb) := by rw [← hcb]; exact p_hs_cell HX6.out rfl
    have l0 : W6.cell? ⟨N, 0, none⟩ = some (.int .i64 (ub0 - price * qty)) := p_hs_cell H6.out rfl
    have l1 : W6.cell? ⟨N, 1, none⟩ = some (.int .i64 (ub1 - b.pr * qty)) := p_hs_cell H6.out rfl
    have l2 : W6.cell? ⟨N, 2, none⟩ = some (.int .i64 (ub2 + qty)) := p_hs_cell H6.out rfl
    have l3 : W6.cell? ⟨N, 3, none⟩ = some (.int .i64 (ub3)) := p_hs_cell H6.out rfl
    have l4 : W6.cell? ⟨N, 4, none⟩ = some (.int .i64 (ub4)) := p_hs_cell H6.out rfl
    have l5 : W6.cell? ⟨N, 5, none⟩ = some (.int .i64 (ub5)) := p_hs_cell H6.out rfl
    have l6 : W6.cell? ⟨N, 6, none⟩ = some (.int .i64 (ub6)) := p_hs_cell H6.out rfl
    have l7 : W6.cell? ⟨N, 7, none⟩ = some (.int .i64 (ub7)) := p_hs_cell H6.out rfl
    refine region_quiet_tail 7 (by kernel_rfl) (by kernel_rfl) ?_
    simp only [List.take_succ_cons, List.take_zero, List.drop_succ_cons, List.drop_zero]
    repeat (first | go_big_quiet_step (fail) | quiet_step (fail))
    refine wpQuiet_nil ?_
    intro _ hw'
    obtain ⟨nq, hw''⟩ := hw'
    subst hw''
    have HP7 := hide (HP6.out.drew nq)
    have HB7 : Hid (Below w.heap.size w (W6.drewN nq)) := bdn HB6.out nq
    have HY7 : Hid ((W6.drewN nq).heap[w.heap.size + 1]? = some (.cells (lotA s) 56 (0, 0))) := HY6.out
    have H157 : Hid ((W6.drewN nq).heap[N + 1]? = some (.cells #[.int .i64 us0, .int .i64 us1, .int .i64 us2, .int .i64 us3, .int .i64 us4, .int .i64 us5, .int .i64 us6, .int .i64 us7] 128 (0, 0))) := H156.out
    clear HP6 HB6 HX6 HY6 H156 H6 b1 l0 l1 l2 l3 l4 l5 l6 l7
    generalize W6.drewN nq = w7 at *
    have c0 := HP7.out.cell (i := cb * 8) (by omega)
    have c1 := HP7.out.cell (i := cb * 8 + 1) (by omega)
    have c2 := HP7.out.cell (i := cb * 8 + 2) (by omega)
    have c3 := HP7.out.cell (i := cb * 8 + 3) (by omega)
    have c4 := HP7.out.cell (i := cb * 8 + 4) (by omega)
    have c5 := HP7.out.cell (i := cb * 8 + 5) (by omega)
    have c6 := HP7.out.cell (i := cb * 8 + 6) (by omega)
    have c7 := HP7.out.cell (i := cb * 8 + 7) (by omega)
    have z0 := HP7.out.frozen (cb * 8)
    have z1 := HP7.out.frozen (cb * 8 + 1)
    have z2 := HP7.out.frozen (cb * 8 + 2)
    have z3 := HP7.out.frozen (cb * 8 + 3)
    have z4 := HP7.out.frozen (cb * 8 + 4)
    have z5 := HP7.out.frozen (cb * 8 + 5)
    have z6 := HP7.out.frozen (cb * 8 + 6)
    have z7 := HP7.out.frozen (cb * 8 + 7)
    obtain ⟨W8, hW8⟩ : ∃ W8, ((((((((w7.setCell ⟨p, cb * 8, none⟩ (.int .i64 (ub0 - price * qty))).setCell ⟨p, cb * 8 + 1, none⟩ (.int .i64 (ub1 - b.pr * qty))).setCell ⟨p, cb * 8 + 2, none⟩ (.int .i64 (ub2 + qty))).setCell ⟨p, cb * 8 + 3, none⟩ (.int .i64 (ub3))).setCell ⟨p, cb * 8 + 4, none⟩ (.int .i64 (ub4))).setCell ⟨p, cb * 8 + 5, none⟩ (.int .i64 (ub5))).setCell ⟨p, cb * 8 + 6, none⟩ (.int .i64 (ub6))).setCell ⟨p, cb * 8 + 7, none⟩ (.int .i64 (ub7))) = W8 := ⟨_, rfl⟩
    have HP8 : Hid (Purse W8 131 p (bF f cb 0 (b.pr * qty) (price * qty) qty)) := by
     show Purse _ _ _ _
     rw [← hW8, ← hub0, ← hub1, ← hub2, ← hub3, ← hub4, ← hub5, ← hub6, ← hub7]
     exact (HP7.out.put8 cb _ _ _ _ _ _ _ _).congr fun j _ => put8b_0 f cb _ _ _ j
    have hS8 : Save w7 W8 p := by
     rw [← hW8]
     repeat (refine Save.set ?_ _ _)
     exact Save.of_below (Below.refl _ _) p
    have HS8 : Hid (Save w W8 p) := (Save.of_below HB7.out p).trans hS8
    have HY8 : Hid (W8.heap[w.heap.size + 1]? = some (.cells (lotA s) 56 (0, 0))) := by show _ = _; rw [hS8.block _ (lt_of_block HY7.out) (by omega)]; exact HY7.out
    have H158 : Hid (W8.heap[N + 1]? = some (.cells #[.int .i64 us0, .int .i64 us1, .int .i64 us2, .int .i64 us3, .int .i64 us4, .int .i64 us5, .int .i64 us6, .int .i64 us7] 128 (0, 0))) := by show _ = _; rw [hS8.block _ (lt_of_block H157.out) (by omega)]; exact H157.out
    have HW8 := hide hW8
    clear hS8 hW8
    go_wp2
    rw [HW8.out]
    clear HW8 HP7 HB7 HY7 H157 c0 z0 c1 z1 c2 z2 c3 z3 c4 z4 c5 z5 c6 z6 c7 z7
    have hnr := fun j => near f cb 0 (b.pr * qty) (price * qty) qty m3 m4 m1 m2 (by omega) (by omega) j
    have n0 := hnr (cs * 8)
    have n1 := hnr (cs * 8 + 2)
    have n2 := hnr (cs * 8 + 5)
    rw [hus0] at n0
    rw [hus2] at n1
    rw [hus5] at n2
    have HNX : Hid (Pu.six f cb cs 0 b.pr price qty = sF (bF f cb 0 (b.pr * qty) (price * qty) qty) cs 0 (price * qty) qty) := (six_two f cb cs 0 b.pr price qty).symm
    clear hnr
    generalize bF f cb 0 (b.pr * qty) (price * qty) qty = f1 at *
    have s1 : W8.cell? ⟨w.heap.size + 1, 1, none⟩ = some (.int .i64 cs) := by rw [← hcs]; exact p_hs_cell HY8.out rfl
    have e0 := HP8.out.cell (i := cs * 8) (by omega)
    have e1 := HP8.out.cell (i := cs * 8 + 1) (by omega)
    have e2 := HP8.out.cell (i := cs * 8 + 2) (by omega)
    have e3 := HP8.out.cell (i := cs * 8 + 3) (by omega)
    have e4 := HP8.out.cell (i := cs * 8 + 4) (by omega)
    have e5 := HP8.out.cell (i := cs * 8 + 5) (by omega)
    have e6 := HP8.out.cell (i := cs * 8 + 6) (by omega)
    have e7 := HP8.out.cell (i := cs * 8 + 7) (by omega)
    generalize hq0 : f1 (cs * 8) = q0 at *
    generalize hq1 : f1 (cs * 8 + 1) = q1 at *
    generalize hq2 : f1 (cs * 8 + 2) = q2 at *
    generalize hq3 : f1 (cs * 8 + 3) = q3 at *
    generalize hq4 : f1 (cs * 8 + 4) = q4 at *
    generalize hq5 : f1 (cs * 8 + 5) = q5 at *
    generalize hq6 : f1 (cs * 8 + 6) = q6 at *
    generalize hq7 : f1 (cs * 8 + 7) = q7 at *
    refine region_quiet_tail 7 (by kernel_rfl) (by kernel_rfl) ?_
    simp only [List.take_succ_cons, List.take_zero, List.drop_succ_cons, List.drop_zero]
    repeat (first | go_big_quiet_step (fail) | quiet_step (fail))
    refine wpQuiet_nil ?_
    intro _ hw'
    obtain ⟨nq, hw''⟩ := hw'
    subst hw''
    have HP9 := hide (HP8.out.drew nq)
    have HS9 : Hid (Save w (W8.drewN nq) p) := HS8.out.trans (Save.of_below (blw_drew nq) p)
    have HY9 : Hid ((W8.drewN nq).heap[w.heap.size + 1]? = some (.cells (lotA s) 56 (0, 0))) := HY8.out
    have H159 : Hid ((W8.drewN nq).heap[N + 1]? = some (.cells #[.int .i64 us0, .int .i64 us1, .int .i64 us2, .int .i64 us3, .int .i64 us4, .int .i64 us5, .int .i64 us6, .int .i64 us7] 128 (0, 0))) := H158.out
    clear HP8 HS8 HY8 H158 s1 e0 e1 e2 e3 e4 e5 e6 e7
    generalize W8.drewN nq = w9 at *
    obtain ⟨W10, hW10⟩ : ∃ W10, w9.setRow (N + 1) #[.int .i64 q0, .int .i64 q1, .int .i64 q2, .int .i64 q3, .int .i64 q4, .int .i64 q5, .int .i64 q6, .int .i64 q7] = W10 := ⟨_, rfl⟩
    have hS10 : Save w9 W10 (N + 1) := by rw [← hW10]; exact Save.setRow _ _ _
    have H10 : Hid (W10.heap[N + 1]? = some (.cells #[.int .i64 q0, .int .i64 q1, .int .i64 q2, .int .i64 q3, .int .i64 q4, .int .i64 q5, .int .i64 q6, .int .i64 q7] 128 (0, 0))) := by show _ = _; rw [← hW10]; exact setRow_heap _ _ _ _ _ _ H159.out
    have HW10 := hide hW10
    have x0 : W10.cell? ⟨N + 1, 0, none⟩ = some (.int .i64 q0) := p_hs_cell H10.out rfl
    have x1 : W10.cell? ⟨N + 1, 2, none⟩ = some (.int .i64 q2) := p_hs_cell H10.out rfl
    have x2 : W10.cell? ⟨N + 1, 5, none⟩ = some (.int .i64 q5) := p_hs_cell H10.out rfl
    have y0 : W10.frozen? ⟨N + 1, 0, none⟩ = false := hs_free H10.out
    have y1 : W10.frozen? ⟨N + 1, 2, none⟩ = false := hs_free H10.out
    have y2 : W10.frozen? ⟨N + 1, 5, none⟩ = false := hs_free H10.out
    obtain ⟨W11, hW11⟩ : ∃ W11, ((W10.setCell ⟨N + 1, 5, none⟩ (.int .i64 (q5 - qty))).setCell ⟨N + 1, 2, none⟩ (.int .i64 (q2 - qty))).setCell ⟨N + 1, 0, none⟩ (.int .i64 (q0 + price * qty)) = W11 := ⟨_, rfl⟩
    have hS11 : Save w9 W11 (N + 1) := by rw [← hW11]; exact ((hS10.set _ _).set _ _).set _ _
    have H11 : Hid (W11.heap[N + 1]? = some (.cells #[.int .i64 (q0 + price * qty), .int .i64 (q1), .int .i64 (q2 - qty), .int .i64 (q3), .int .i64 (q4), .int .i64 (q5 - qty), .int .i64 (q6), .int .i64 (q7)] 128 (0, 0))) := by
     show _ = _
     rw [← hW11]
     exact p_hs_set _ (p_hs_set _ (p_hs_set _ H10.out rfl) rfl) rfl
    have HP11 := hide (HP9.out.save hS11 (by omega))
    have HY11 : Hid (W11.heap[w.heap.size + 1]? = some (.cells (lotA s) 56 (0, 0))) := by show _ = _; rw [hS11.block _ (lt_of_block HY9.out) (by omega)]; exact HY9.out
    have HS11 : Hid (Save w W11 p) := ⟨hS11.os.trans HS9.out.os, hS11.tape.trans HS9.out.tape, hS11.output.trans HS9.out.output, Nat.le_trans HS9.out.size hS11.size, fun j hj hjp => (hS11.block j (Nat.lt_of_lt_of_le hj HS9.out.size) (by omega)).trans (HS9.out.block j hj hjp)⟩
    have HW11 := hide hW11
    have HONE : Hid ((#[.int .i64 q0, .int .i64 q1, .int .i64 q2, .int .i64 q3, .int .i64 q4, .int .i64 q5, .int .i64 q6, .int .i64 q7] : Array Value).all (·.oneCell') = true) := by show _ = _; simp [Value.oneCell']
    clear hS10 hS11 hW10 hW11
    go_wp2_with (guard_target =~ wpList _ _ _ ({ dst := _, op := Op.store 128 _ _, type := _, pos := _, after := _, guard := _ } :: _) _ _; refine wpList_store29 (B := N + 1) (new := #[.int .i64 q0, .int .i64 q1, .int .i64 q2, .int .i64 q3, .int .i64 q4, .int .i64 q5, .int .i64 q6, .int .i64 q7]) W10 H159.out rfl rfl HONE.out HW10.out rfl (.tmp 15) (.tmp 155) rfl rfl rfl ?_)
    rw [HW11.out]
    clear HW10 HW11 HP9 HS9 HY9 H159 x0 x1 x2 y0 y1 y2 H10
    have s1 : W11.cell? ⟨w.heap.size + 1, 1, none⟩ = some (.int .i64 cs) := by rw [← hcs]; exact p_hs_cell HY11.out rfl
    have l0 : W11.cell? ⟨N + 1, 0, none⟩ = some (.int .i64 (q0 + price * qty)) := p_hs_cell H11.out rfl
    have l1 : W11.cell? ⟨N + 1, 1, none⟩ = some (.int .i64 (q1)) := p_hs_cell H11.out rfl
    have l2 : W11.cell? ⟨N + 1, 2, none⟩ = some (.int .i64 (q2 - qty)) := p_hs_cell H11.out rfl
    have l3 : W11.cell? ⟨N + 1, 3, none⟩ = some (.int .i64 (q3)) := p_hs_cell H11.out rfl
    have l4 : W11.cell? ⟨N + 1, 4, none⟩ = some (.int .i64 (q4)) := p_hs_cell H11.out rfl
    have l5 : W11.cell? ⟨N + 1, 5, none⟩ = some (.int .i64 (q5 - qty)) := p_hs_cell H11.out rfl
    have l6 : W11.cell? ⟨N + 1, 6, none⟩ = some (.int .i64 (q6)) := p_hs_cell H11.out rfl
    have l7 : W11.cell? ⟨N + 1, 7, none⟩ = some (.int .i64 (q7)) := p_hs_cell H11.out rfl
    refine region_quiet_tail 7 (by kernel_rfl) (by kernel_rfl) ?_
    simp only [List.take_succ_cons, List.take_zero, List.drop_succ_cons, List.drop_zero]
    repeat (first | go_big_quiet_step (fail) | quiet_step (fail))
    refine wpQuiet_nil ?_
    intro _ hw'
    obtain ⟨nq, hw''⟩ := hw'
    subst hw''
    have HP12 := hide (HP11.out.drew nq)
    have HS12 : Hid (Save w (W11.drewN nq) p) := HS11.out.trans (Save.of_below (blw_drew nq) p)
    clear HP11 HS11 HY11 H11 s1 l0 l1 l2 l3 l4 l5 l6 l7
    generalize W11.drewN nq = w12 at *
    have c0 := HP12.out.cell (i := cs * 8) (by omega)
    have c1 := HP12.out.cell (i := cs * 8 + 1) (by omega)
    have c2 := HP12.out.cell (i := cs * 8 + 2) (by omega)
    have c3 := HP12.out.cell (i := cs * 8 + 3) (by omega)
    have c4 := HP12.out.cell (i := cs * 8 + 4) (by omega)
    have c5 := HP12.out.cell (i := cs * 8 + 5) (by omega)
    have c6 := HP12.out.cell (i := cs * 8 + 6) (by omega)
    have c7 := HP12.out.cell (i := cs * 8 + 7) (by omega)
    have z0 := HP12.out.frozen (cs * 8)
    have z1 := HP12.out.frozen (cs * 8 + 1)
    have z2 := HP12.out.frozen (cs * 8 + 2)
    have z3 := HP12.out.frozen (cs * 8 + 3)
    have z4 := HP12.out.frozen (cs * 8 + 4)
    have z5 := HP12.out.frozen (cs * 8 + 5)
    have z6 := HP12.out.frozen (cs * 8 + 6)
    have z7 := HP12.out.frozen (cs * 8 + 7)
    go_wp2
    go_ret
    refine ⟨by rw [HA.out.1]; rfl, ?_, ?_⟩
    ·rw [HA.out.2, HNX.out, ← hq0, ← hq1, ← hq2, ← hq3, ← hq4, ← hq5, ← hq6, ← hq7]
     exact (HP12.out.put8 cs _ _ _ _ _ _ _ _).congr fun j _ => put8s_0 f1 cs _ _ j
    ·repeat (refine Save.set ?_ _ _)
     exact HS12.out
set_option maxHeartbeats 8000000 in
theorem mtrade_1 (p : Nat) (b s : Cv.Lot) (price qty : Int) (f : Nat → Int) (w : World) (hp : Hid (Purse w 131 p f)) (hg : Hid (Pu.Good f)) :
  Calls Tryz.prog 71 #[.pointer (some ⟨p, 0, none⟩), .int .i64 (1 : Int), lotV b, lotV s, .int .i64 price, .int .i64 qty] w fun e w' => e = .returned (.int .i64 (p_errNo (Pu.tradeC f (1 : Int) b s price qty))) ∧ Purse w' 131 p (Pu.tradeF f (1 : Int) b s price qty) ∧ Save w w' p := by
 show Calls Tryz.prog 71 #[.pointer (some ⟨p, 0, none⟩), .int .i64 (1 : Int), .agg #[.int .i64 b.id, .int .i64 b.ow, .int .i64 b.sd, .int .i64 b.pr, .int .i64 b.q], .agg #[.int .i64 s.id, .int .i64 s.ow, .int .i64 s.sd, .int .i64 s.pr, .int .i64 s.q], .int .i64 price, .int .i64 qty] w _
 obtain ⟨W, hWd⟩ : ∃ W, (w.alloc (.cells #[.int .i64 b.id, .int .i64 b.ow, .int .i64 b.sd, .int .i64 b.pr, .int .i64 b.q] 56)).alloc (.cells #[.int .i64 s.id, .int .i64 s.ow, .int .i64 s.sd, .int .i64 s.pr, .int .i64 s.q] 56) = W := ⟨_, rfl⟩
 have hb1 : Below w.heap.size w (w.alloc (.cells #[.int .i64 b.id, .int .i64 b.ow, .int .i64 b.sd, .int .i64 b.pr, .int .i64 b.q] 56)) := bal
 have hb2 : Below w.heap.size w W := by rw [← hWd]; exact hb1.alloc hb1.size _
 have hX0 : W.heap[w.heap.size]? = some (.cells (lotA b) 56 (0, 0)) := by
  rw [← hWd]
  exact (Below.heap_alloc _ _ _ (by simp)).trans (heap_alloc_new _ _)
 have hY0 : W.heap[w.heap.size + 1]? = some (.cells (lotA s) 56 (0, 0)) := by
  rw [← hWd]
  have := heap_alloc_new (w.alloc (.cells #[.int .i64 b.id, .int .i64 b.ow, .int .i64 b.sd, .int .i64 b.pr, .int .i64 b.q] 56)) (.cells #[.int .i64 s.id, .int .i64 s.ow, .int .i64 s.sd, .int .i64 s.pr, .int .i64 s.q] 56)
  rw [show (w.alloc (.cells #[.int .i64 b.id, .int .i64 b.ow, .int .i64 b.sd, .int .i64 b.pr, .int .i64 b.q] 56)).heap.size = w.heap.size + 1 by simp] at this
  exact this
 have HX0 := hide hX0; have HY0 := hide hY0; have HBW := hide hb2
 have HI := hide (isItem_any (1 : Int) W)
 have HWd := hide hWd
 have HP1 := hide (hp.out.lat hb2)
 have HTB : Hid (∀ c, Pu.tchk (1 : Int) b s price qty = c → ¬ c = 0 → Pu.tradeC f (1 : Int) b s price qty = c ∧ Pu.tradeF f (1 : Int) b s price qty = f) := fun c h h0 => by
  have e : Pu.tradeC f (1 : Int) b s price qty = c := by unfold Pu.tradeC; rw [if_neg (by rw [h]; exact h0), h]
  exact ⟨e, by unfold Pu.tradeF; rw [e, if_neg h0]⟩
 clear hb1 hb2 hX0 hY0 hWd
 rw [show Wi.withinB (1 : Int) 0 2 = true from rfl] at HI
 have HWB : Hid (Pu.well (1 : Int) b = Cv.ok b ∧ Pu.well (1 : Int) s = Cv.ok s) := ⟨rfl, rfl⟩
 have HCb : Hid (∀ W', Calls Tryz.prog 61 #[.agg #[.int .i64 b.id, .int .i64 b.ow, .int .i64 b.sd, .int .i64 b.pr, .int .i64 b.q]] W' fun e w' => e = .returned (.int .i64 (lotE b)) ∧ Below W'.heap.size W' w') := fun W' => lotError_any b W'
 have HCs : Hid (∀ W', Calls Tryz.prog 61 #[.agg #[.int .i64 s.id, .int .i64 s.ow, .int .i64 s.sd, .int .i64 s.pr, .int .i64 s.q]] W' fun e w' => e = .returned (.int .i64 (lotE s)) ∧ Below W'.heap.size W' w') := fun W' => lotError_any s W'
 have b0 : W.cell? ⟨w.heap.size, 0, none⟩ = some (.int .i64 b.id) := p_hs_cell HX0.out rfl
 have b1 : W.cell? ⟨w.heap.size, 1, none⟩ = some (.int .i64 b.ow) := p_hs_cell HX0.out rfl
 have b2 : W.cell? ⟨w.heap.size, 2, none⟩ = some (.int .i64 b.sd) := p_hs_cell HX0.out rfl
 have b3 : W.cell? ⟨w.heap.size, 3, none⟩ = some (.int .i64 b.pr) := p_hs_cell HX0.out rfl
 have b4 : W.cell? ⟨w.heap.size, 4, none⟩ = some (.int .i64 b.q) := p_hs_cell HX0.out rfl
 have s0 : W.cell? ⟨w.heap.size + 1, 0, none⟩ = some (.int .i64 s.id) := p_hs_cell HY0.out rfl
 have s1 : W.cell? ⟨w.heap.size + 1, 1, none⟩ = some (.int .i64 s.ow) := p_hs_cell HY0.out rfl
 have s2 : W.cell? ⟨w.heap.size + 1, 2, none⟩ = some (.int .i64 s.sd) := p_hs_cell HY0.out rfl
 have s3 : W.cell? ⟨w.heap.size + 1, 3, none⟩ = some (.int .i64 s.pr) := p_hs_cell HY0.out rfl
 have s4 : W.cell? ⟨w.heap.size + 1, 4, none⟩ = some (.int .i64 s.q) := p_hs_cell HY0.out rfl
 have hle : (lotE b = 0 ∨ lotE b = 2) ∧ (lotE s = 0 ∨ lotE s = 2) := by unfold lotE; constructor <;> split <;> simp
 have HLE : Hid (decide (0 < IntKind.i64.wrap (lotE b + lotE s)) = !(Cv.ok b && Cv.ok s)) := by
  show _ = _
  unfold lotE
  cases Cv.ok b <;> cases Cv.ok s <;> rfl
 go_enter Tryz.func71, Tryz.ntmps71
 go_wp2_with fail
 rw [HWd.out]
 refine HI.out.mono ?_
 rintro e w2 ⟨rfl, rfl⟩
 clear HI HWd
 simp only []
 go_upto_region 2 with fail
 have HBc : Hid (Below w2.heap.size w2 w2.drew) := ⟨rfl, rfl, rfl, Nat.le_refl _, fun _ _ => rfl⟩
 generalize lotE b = eb at *
 generalize lotE s = es at *
 go_cut [27] (fun s27 wx => s27 = .bool (!(Cv.ok b && Cv.ok s)) ∧ Below w2.heap.size w2 wx)
 case first =>
  go_region_with (first
   | (go_at_call_of 61 (Value.agg #[.int .i64 b.id, .int .i64 b.ow, .int .i64 b.sd, .int .i64 b.pr, .int .i64 b.q])
      refine (HCb.out _).mono ?_
      rintro e w5 ⟨rfl, hb5⟩
      replace HBc := hide (HBc.out.trans (hb5.mono HBc.out.size))
      have q0 := cell_later HBc.out s0
      have q1 := cell_later HBc.out s1
      have q2 := cell_later HBc.out s2
      have q3 := cell_later HBc.out s3
      have q4 := cell_later HBc.out s4
      clear hb5)
   | (go_at_call_of 61 (Value.agg #[.int .i64 s.id, .int .i64 s.ow, .int .i64 s.sd, .int .i64 s.pr, .int .i64 s.q])
      refine (HCs.out _).mono ?_
      rintro e w5 ⟨rfl, hb5⟩
      replace HBc := hide (HBc.out.trans (hb5.mono HBc.out.size))
      have r0 := cell_later HBc.out b0
      have r1 := cell_later HBc.out b1
      have r2 := cell_later HBc.out b2
      have r3 := cell_later HBc.out b3
      have r4 := cell_later HBc.out b4
      clear hb5))
  all_goals
   go_wp2_with fail
   go_meet
   exact ⟨by rw [HLE.out], HBc.out⟩
 case rest =>
  obtain ⟨rfl, hbx⟩ := hcut
  have HBx : Hid (Below w.heap.size w wc) := HBW.out.trans (hbx.mono HBW.out.size)
  have HPx := hide (HP1.out.lat hbx)
  have HXx : Hid (wc.heap[w.heap.size]? = some (.cells (lotA b) 56 (0, 0))) := rof hbx HX0.out
  have HYx : Hid (wc.heap[w.heap.size + 1]? = some (.cells (lotA s) 56 (0, 0))) := rof hbx HY0.out
  clear hbx HBW HP1 HX0 HY0 HBc HCb HCs b0 b1 b2 b3 b4 s0 s1 s2 s3 s4 hle HLE
  cases hok : (Cv.ok b && Cv.ok s) with
  | false =>
   have HA := hide (HTB.out 1 (by
    unfold Pu.tchk
    rw [if_neg]
    rw [HWB.out.1, HWB.out.2]
    intro h
    rw [h.1, h.2] at hok
    cases hok) (by decide))
   clear hok
   simp only [Bool.not_false]
   go_wp2
   go_ret
   exact ⟨by rw [HA.out.1]; rfl, by rw [HA.out.2]; exact HPx.out, Save.of_below HBx.out p⟩
  | true =>
   have Hwb : Hid (Pu.well (1 : Int) b = true) := by
    show _ = _
    rw [HWB.out.1]
    simp only [Bool.and_eq_true] at hok
    exact hok.1
   have Hws : Hid (Pu.well (1 : Int) s = true) := by
    show _ = _
    rw [HWB.out.2]
    simp only [Bool.and_eq_true] at hok
    exact hok.2
   clear hok HWB
   have HR : Hid (Pu.tchk (1 : Int) b s price qty = if b.sd = 0 ∧ s.sd = 1 then (if (1 ≤ price ∧ price ≤ 1000) ∧ 1 ≤ qty ∧ qty ≤ b.q ∧ qty ≤ s.q then (if s.pr ≤ price ∧ price ≤ b.pr then 0 else 11) else 1) else 2) := by show _ = _; unfold Pu.tchk; rw [if_pos ⟨Hwb.out, Hws.out⟩]
   obtain ⟨cb, hcb, hcb6⟩ := Pu.well_ow Hwb.out
   obtain ⟨cs, hcs, hcs6⟩ := Pu.well_ow Hws.out
   have b1 : wc.cell? ⟨w.heap.size, 1, none⟩ = some (.int .i64 cb) := by rw [← hcb]; exact p_hs_cell HXx.out rfl
   have b2 : wc.cell? ⟨w.heap.size, 2, none⟩ = some (.int .i64 b.sd) := p_hs_cell HXx.out rfl
   have b3 : wc.cell? ⟨w.heap.size, 3, none⟩ = some (.int .i64 b.pr) := p_hs_cell HXx.out rfl
   have b4 : wc.cell? ⟨w.heap.size, 4, none⟩ = some (.int .i64 b.q) := p_hs_cell HXx.out rfl
   have s1 : wc.cell? ⟨w.heap.size + 1, 1, none⟩ = some (.int .i64 cs) := by rw [← hcs]; exact p_hs_cell HYx.out rfl
   have s2 : wc.cell? ⟨w.heap.size + 1, 2, none⟩ = some (.int .i64 s.sd) := p_hs_cell HYx.out rfl
   have s3 : wc.cell? ⟨w.heap.size + 1, 3, none⟩ = some (.int .i64 s.pr) := p_hs_cell HYx.out rfl
   have s4 : wc.cell? ⟨w.heap.size + 1, 4, none⟩ = some (.int .i64 s.q) := p_hs_cell HYx.out rfl
   simp only [Bool.not_true]
   by_cases hbs : ¬ b.sd = 0
   ·have hbb : (b.sd == 0) = false := by simp [hbs]
    have HA := hide (HTB.out 2 (by rw [HR.out]; exact if_neg fun h => hbs h.1) (by decide))
    go_wp2
    go_ret
    exact ⟨by rw [HA.out.1]; rfl, by rw [HA.out.2]; exact HPx.out, Save.of_below HBx.out p⟩
   have hbs : b.sd = 0 := by omega
   have hbb : (b.sd == 0) = true := by simp [hbs]
   by_cases hss : ¬ s.sd = 1
   ·have hss' : (s.sd == 1) = false := by simp [hss]
    have HA := hide (HTB.out 2 (by rw [HR.out]; exact if_neg fun h => hss h.2) (by decide))
    go_wp2
    go_ret
    exact ⟨by rw [HA.out.1]; rfl, by rw [HA.out.2]; exact HPx.out, Save.of_below HBx.out p⟩
   have hss : s.sd = 1 := by omega
   have hss' : (s.sd == 1) = true := by simp [hss]
   have HR2 : Hid (Pu.tchk (1 : Int) b s price qty = if (1 ≤ price ∧ price ≤ 1000) ∧ 1 ≤ qty ∧ qty ≤ b.q ∧ qty ≤ s.q then (if s.pr ≤ price ∧ price ≤ b.pr then 0 else 11) else 1) := by show _ = _; rw [HR.out, if_pos ⟨hbs, hss⟩]
   clear HR
   by_cases t1 : price < 1
   ·have HA := hide (HTB.out 1 (by rw [HR2.out]; exact if_neg (by omega)) (by decide))
    go_wp2
    go_ret
    exact ⟨by rw [HA.out.1]; rfl, by rw [HA.out.2]; exact HPx.out, Save.of_below HBx.out p⟩
   by_cases t2 : 1000 < price
   ·have HA := hide (HTB.out 1 (by rw [HR2.out]; exact if_neg (by omega)) (by decide))
    go_wp2
    go_ret
    exact ⟨by rw [HA.out.1]; rfl, by rw [HA.out.2]; exact HPx.out, Save.of_below HBx.out p⟩
   by_cases t3 : qty < 1
   ·have HA := hide (HTB.out 1 (by rw [HR2.out]; exact if_neg (by omega)) (by decide))
    go_wp2
    go_ret
    exact ⟨by rw [HA.out.1]; rfl, by rw [HA.out.2]; exact HPx.out, Save.of_below HBx.out p⟩
   by_cases t4 : b.q < qty
   ·have HA := hide (HTB.out 1 (by rw [HR2.out]; exact if_neg (by omega)) (by decide))
    go_wp2
    go_ret
    exact ⟨by rw [HA.out.1]; rfl, by rw [HA.out.2]; exact HPx.out, Save.of_below HBx.out p⟩
   by_cases t5 : s.q < qty
   ·have HA := hide (HTB.out 1 (by rw [HR2.out]; exact if_neg (by omega)) (by decide))
    go_wp2
    go_ret
    exact ⟨by rw [HA.out.1]; rfl, by rw [HA.out.2]; exact HPx.out, Save.of_below HBx.out p⟩
   have HR3 : Hid (Pu.tchk (1 : Int) b s price qty = if s.pr ≤ price ∧ price ≤ b.pr then 0 else 11) := by show _ = _; rw [HR2.out, if_pos (by omega)]
   clear HR2
   by_cases t6 : b.pr < price
   ·have HA := hide (HTB.out 11 (by rw [HR3.out]; exact if_neg (by omega)) (by decide))
    go_wp2
    go_ret
    exact ⟨by rw [HA.out.1]; rfl, by rw [HA.out.2]; exact HPx.out, Save.of_below HBx.out p⟩
   by_cases t7 : price < s.pr
   ·have HA := hide (HTB.out 11 (by rw [HR3.out]; exact if_neg (by omega)) (by decide))
    go_wp2
    go_ret
    exact ⟨by rw [HA.out.1]; rfl, by rw [HA.out.2]; exact HPx.out, Save.of_below HBx.out p⟩
   have HZ : Hid (Pu.tchk (1 : Int) b s price qty = 0) := by show _ = _; rw [HR3.out, if_pos (by omega)]
   have hr := Pu.right_of HZ.out
   have hm := hr.muls
   have hq1 := hr.q.1
   have HT : Hid (Pu.tradeC f (1 : Int) b s price qty = if Pu.poor f cb cs 1 b.pr qty = true then 9 else if Pu.over f cb cs 1 price qty = true then 7 else 0) := by
    show _ = _; unfold Pu.tradeC; rw [if_pos HZ.out, hcb, hcs]; simp only [Int.toNat_natCast]; rfl
   have HF : Hid (Pu.tradeF f (1 : Int) b s price qty = if Pu.tradeC f (1 : Int) b s price qty = 0 then Pu.six f cb cs 1 b.pr price qty else f) := by
    show _ = _; unfold Pu.tradeF; rw [hcb, hcs]; simp only [Int.toNat_natCast]; rfl
   clear HR3 HTB hr
   have hci : (cb : Int) < 6 := by omega
   have hsi : (cs : Int) < 6 := by omega
   have gb := hg.out.cash cb hcb6
   have gs := hg.out.cash cs hcs6
   have gbs : 0 ≤ f (cb * 8 + 6) ∧ f (cb * 8 + 6) ≤ f (cb * 8 + 3) ∧ f (cb * 8 + 3) ≤ 1073741824 := hg.out.stock cb 1 hcb6 (by decide)
   have gss : 0 ≤ f (cs * 8 + 6) ∧ f (cs * 8 + 6) ≤ f (cs * 8 + 3) ∧ f (cs * 8 + 3) ≤ 1073741824 := hg.out.stock cs 1 hcs6 (by decide)
   have HPD : Hid (Pu.poor f cb cs 1 b.pr qty = (decide (f (cb * 8 + 1) < b.pr * qty) || decide (f (cs * 8 + 6) < qty))) := rfl
   have HOD : Hid (Pu.over f cb cs 1 price qty = (decide (cb ≠ cs) && (decide (1073741824 < f (cb * 8 + 3) + qty) || decide (1099511627776 < f (cs * 8) + price * qty)))) := rfl
   have c0 := HPx.out.cell (i := cb * 8) (by omega)
   have c1 := HPx.out.cell (i := cb * 8 + 1) (by omega)
   have c2 := HPx.out.cell (i := cb * 8 + 2) (by omega)
   have c3 := HPx.out.cell (i := cb * 8 + 3) (by omega)
   have c4 := HPx.out.cell (i := cb * 8 + 4) (by omega)
   have c5 := HPx.out.cell (i := cb * 8 + 5) (by omega)
   have c6 := HPx.out.cell (i := cb * 8 + 6) (by omega)
   have c7 := HPx.out.cell (i := cb * 8 + 7) (by omega)
   have e0 := HPx.out.cell (i := cs * 8) (by omega)
   have e1 := HPx.out.cell (i := cs * 8 + 1) (by omega)
   have e2 := HPx.out.cell (i := cs * 8 + 2) (by omega)
   have e3 := HPx.out.cell (i := cs * 8 + 3) (by omega)
   have e4 := HPx.out.cell (i := cs * 8 + 4) (by omega)
   have e5 := HPx.out.cell (i := cs * 8 + 5) (by omega)
   have e6 := HPx.out.cell (i := cs * 8 + 6) (by omega)
   have e7 := HPx.out.cell (i := cs * 8 + 7) (by omega)
   have hpl : p < wc.heap.size := HPx.out.lt
   have hwl : w.heap.size + 1 < wc.heap.size := lt_of_block HYx.out
   have hwl1 : w.heap.size < wc.heap.size := by omega
   generalize hub0 : f (cb * 8) = ub0 at *
   generalize hub1 : f (cb * 8 + 1) = ub1 at *
   generalize hub2 : f (cb * 8 + 2) = ub2 at *
   generalize hub3 : f (cb * 8 + 3) = ub3 at *
   generalize hub4 : f (cb * 8 + 4) = ub4 at *
   generalize hub5 : f (cb * 8 + 5) = ub5 at *
   generalize hub6 : f (cb * 8 + 6) = ub6 at *
   generalize hub7 : f (cb * 8 + 7) = ub7 at *
   generalize hus0 : f (cs * 8) = us0 at *
   generalize hus1 : f (cs * 8 + 1) = us1 at *
   generalize hus2 : f (cs * 8 + 2) = us2 at *
   generalize hus3 : f (cs * 8 + 3) = us3 at *
   generalize hus4 : f (cs * 8 + 4) = us4 at *
   generalize hus5 : f (cs * 8 + 5) = us5 at *
   generalize hus6 : f (cs * 8 + 6) = us6 at *
   generalize hus7 : f (cs * 8 + 7) = us7 at *
   have hB0 : Below wc.heap.size wc (wc.alloc (.cells #[.int .i64 ub0, .int .i64 ub1, .int .i64 ub2, .int .i64 ub3, .int .i64 ub4, .int .i64 ub5, .int .i64 ub6, .int .i64 ub7] 128)) := bal
   have hB5 : Below wc.heap.size wc ((wc.alloc (.cells #[.int .i64 ub0, .int .i64 ub1, .int .i64 ub2, .int .i64 ub3, .int .i64 ub4, .int .i64 ub5, .int .i64 ub6, .int .i64 ub7] 128)).alloc (.cells #[.int .i64 us0, .int .i64 us1, .int .i64 us2, .int .i64 us3, .int .i64 us4, .int .i64 us5, .int .i64 us6, .int .i64 us7] 128)).drew.drew := p_bd1 (p_bd1 (hB0.alloc hB0.size _))
   have HB5 : Hid (Below w.heap.size w ((wc.alloc (.cells #[.int .i64 ub0, .int .i64 ub1, .int .i64 ub2, .int .i64 ub3, .int .i64 ub4, .int .i64 ub5, .int .i64 ub6, .int .i64 ub7] 128)).alloc (.cells #[.int .i64 us0, .int .i64 us1, .int .i64 us2, .int .i64 us3, .int .i64 us4, .int .i64 us5, .int .i64 us6, .int .i64 us7] 128)).drew.drew) := HBx.out.trans (hB5.mono HBx.out.size)
   have HP5 := hide (HPx.out.lat hB5)
   have HX5 : Hid (((wc.alloc (.cells #[.int .i64 ub0, .int .i64 ub1, .int .i64 ub2, .int .i64 ub3, .int .i64 ub4, .int .i64 ub5, .int .i64 ub6, .int .i64 ub7] 128)).alloc (.cells #[.int .i64 us0, .int .i64 us1, .int .i64 us2, .int .i64 us3, .int .i64 us4, .int .i64 us5, .int .i64 us6, .int .i64 us7] 128)).drew.drew.heap[w.heap.size]? = some (.cells (lotA b) 56 (0, 0))) := rof hB5 HXx.out
   have HY5 : Hid (((wc.alloc (.cells #[.int .i64 ub0, .int .i64 ub1, .int .i64 ub2, .int .i64 ub3, .int .i64 ub4, .int .i64 ub5, .int .i64 ub6, .int .i64 ub7] 128)).alloc (.cells #[.int .i64 us0, .int .i64 us1, .int .i64 us2, .int .i64 us3, .int .i64 us4, .int .i64 us5, .int .i64 us6, .int .i64 us7] 128)).drew.drew.heap[w.heap.size + 1]? = some (.cells (lotA s) 56 (0, 0))) := rof hB5 HYx.out
   have H14 : Hid (((wc.alloc (.cells #[.int .i64 ub0, .int .i64 ub1, .int .i64 ub2, .int .i64 ub3, .int .i64 ub4, .int .i64 ub5, .int .i64 ub6, .int .i64 ub7] 128)).alloc (.cells #[.int .i64 us0, .int .i64 us1, .int .i64 us2, .int .i64 us3, .int .i64 us4, .int .i64 us5, .int .i64 us6, .int .i64 us7] 128)).drew.drew.heap[wc.heap.size]? = some (.cells #[.int .i64 ub0, .int .i64 ub1, .int .i64 ub2, .int .i64 ub3, .int .i64 ub4, .int .i64 ub5, .int .i64 ub6, .int .i64 ub7] 128 (0, 0))) := (Below.heap_alloc _ _ _ (by simp)).trans (heap_alloc_new wc _)
   have H15 : Hid (((wc.alloc (.cells #[.int .i64 ub0, .int .i64 ub1, .int .i64 ub2, .int .i64 ub3, .int .i64 ub4, .int .i64 ub5, .int .i64 ub6, .int .i64 ub7] 128)).alloc (.cells #[.int .i64 us0, .int .i64 us1, .int .i64 us2, .int .i64 us3, .int .i64 us4, .int .i64 us5, .int .i64 us6, .int .i64 us7] 128)).drew.drew.heap[wc.heap.size + 1]? = some (.cells #[.int .i64 us0, .int .i64 us1, .int .i64 us2, .int .i64 us3, .int .i64 us4, .int .i64 us5, .int .i64 us6, .int .i64 us7] 128 (0, 0))) := by
    show _ = _
    have := heap_alloc_new (wc.alloc (.cells #[.int .i64 ub0, .int .i64 ub1, .int .i64 ub2, .int .i64 ub3, .int .i64 ub4, .int .i64 ub5, .int .i64 ub6, .int .i64 ub7] 128)) (.cells #[.int .i64 us0, .int .i64 us1, .int .i64 us2, .int .i64 us3, .int .i64 us4, .int .i64 us5, .int .i64 us6, .int .i64 us7] 128)
    rw [show (wc.alloc (.cells #[.int .i64 ub0, .int .i64 ub1, .int .i64 ub2, .int .i64 ub3, .int .i64 ub4, .int .i64 ub5, .int .i64 ub6, .int .i64 ub7] 128)).heap.size = wc.heap.size + 1 by simp] at this
    exact this
   clear hB0 hB5
   go_wp2
   go_region
   go_wp2
   go_region
   go_upto_region 12 with fail
   clear c0 c1 c2 c3 c4 c5 c6 c7 e0 e1 e2 e3 e4 e5 e6 e7 b1 b2 b3 b4 s1 s2 s3 s4
   generalize ((wc.alloc (.cells #[.int .i64 ub0, .int .i64 ub1, .int .i64 ub2, .int .i64 ub3, .int .i64 ub4, .int .i64 ub5, .int .i64 ub6, .int .i64 ub7] 128)).alloc (.cells #[.int .i64 us0, .int .i64 us1, .int .i64 us2, .int .i64 us3, .int .i64 us4, .int .i64 us5, .int .i64 us6, .int .i64 us7] 128)).drew.drew = w5 at *
   obtain ⟨N, hN⟩ : ∃ N, wc.heap.size = N := ⟨_, rfl⟩
   rw [hN] at H14 H15 hwl hwl1 hpl ⊢
   clear hN HPx HXx HYx HBx
   have b1 : w5.cell? ⟨w.heap.size, 1, none⟩ = some (.int .i64 cb) := by rw [← hcb]; exact p_hs_cell HX5.out rfl
   have b3 : w5.cell? ⟨w.heap.size, 3, none⟩ = some (.int .i64 b.pr) := p_hs_cell HX5.out rfl
   have s1 : w5.cell? ⟨w.heap.size + 1, 1, none⟩ = some (.int .i64 cs) := by rw [← hcs]; exact p_hs_cell HY5.out rfl
   have l0 : w5.cell? ⟨N, 0, none⟩ = some (.int .i64 ub0) := p_hs_cell H14.out rfl
   have l1 : w5.cell? ⟨N, 1, none⟩ = some (.int .i64 ub1) := p_hs_cell H14.out rfl
   have l2 : w5.cell? ⟨N, 2, none⟩ = some (.int .i64 ub2) := p_hs_cell H14.out rfl
   have l3 : w5.cell? ⟨N, 3, none⟩ = some (.int .i64 ub3) := p_hs_cell H14.out rfl
   have l4 : w5.cell? ⟨N, 4, none⟩ = some (.int .i64 ub4) := p_hs_cell H14.out rfl
   have l5 : w5.cell? ⟨N, 5, none⟩ = some (.int .i64 ub5) := p_hs_cell H14.out rfl
   have l6 : w5.cell? ⟨N, 6, none⟩ = some (.int .i64 ub6) := p_hs_cell H14.out rfl
   have l7 : w5.cell? ⟨N, 7, none⟩ = some (.int .i64 ub7) := p_hs_cell H14.out rfl
   have lf0 : w5.frozen? ⟨N, 0, none⟩ = false := hs_free H14.out
   have lf1 : w5.frozen? ⟨N, 1, none⟩ = false := hs_free H14.out
   have lf3 : w5.frozen? ⟨N, 3, none⟩ = false := hs_free H14.out
   have r0 : w5.cell? ⟨N + 1, 0, none⟩ = some (.int .i64 us0) := p_hs_cell H15.out rfl
   have r6 : w5.cell? ⟨N + 1, 6, none⟩ = some (.int .i64 us6) := p_hs_cell H15.out rfl
   have HT : Hid (Pu.tradeC f (1 : Int) b s price qty = if Pu.poor f cb cs 1 b.pr qty = true then 9 else if Pu.over f cb cs 1 price qty = true then 7 else 0) := HT.out
   have HF : Hid (Pu.tradeF f (1 : Int) b s price qty = if Pu.tradeC f (1 : Int) b s price qty = 0 then Pu.six f cb cs 1 b.pr price qty else f) := HF.out
   have hpw : p < w.heap.size := hp.out.lt
   obtain ⟨⟨m1, m2⟩, ⟨m3, m4⟩, m5, m6⟩ := hm
   by_cases hpo : ub1 < b.pr * qty
   ·have HA : Hid (Pu.tradeC f (1 : Int) b s price qty = 9 ∧ Pu.tradeF f (1 : Int) b s price qty = f) := by
     have e : Pu.tradeC f (1 : Int) b s price qty = 9 := by rw [HT.out, if_pos (by rw [HPD.out]; simp [hpo])]
     exact ⟨e, by rw [HF.out, e]; rfl⟩
    go_wp2
    go_ret
    exact ⟨by rw [HA.out.1]; rfl, by rw [HA.out.2]; exact HP5.out, Save.of_below HB5.out p⟩
   by_cases hpk : us6 < qty
   ·have HA : Hid (Pu.tradeC f (1 : Int) b s price qty = 9 ∧ Pu.tradeF f (1 : Int) b s price qty = f) := by
     have e : Pu.tradeC f (1 : Int) b s price qty = 9 := by rw [HT.out, if_pos (by rw [HPD.out]; simp [hpk])]
     exact ⟨e, by rw [HF.out, e]; rfl⟩
    go_wp2
    go_ret
    exact ⟨by rw [HA.out.1]; rfl, by rw [HA.out.2]; exact HP5.out, Save.of_below HB5.out p⟩
   have HNP : Hid (¬ Pu.poor f cb cs 1 b.pr qty = true) := by
    show ¬ _
    rw [HPD.out, Bool.or_eq_true, decide_eq_true_eq, decide_eq_true_eq]
    omega
   clear HPD
   by_cases hne : cb = cs
   case' pos =>
    have hnn : ((cb : Int) == (cs : Int)) = true := by simp [hne]
    have HNO : Hid (¬ Pu.over f cb cs 1 price qty = true) := by show ¬ _; rw [HOD.out]; simp [hne]
    clear HOD hne
   case' neg =>
    by_cases ho1 : 1073741824 < ub3 + qty
    ·have hnn : ((cb : Int) == (cs : Int)) = false := by simp; omega
     have HA : Hid (Pu.tradeC f (1 : Int) b s price qty = 7 ∧ Pu.tradeF f (1 : Int) b s price qty = f) := by
      have e : Pu.tradeC f (1 : Int) b s price qty = 7 := by rw [HT.out, if_neg HNP.out, if_pos (by rw [HOD.out]; simp [hne, ho1])]
      exact ⟨e, by rw [HF.out, e]; rfl⟩
     go_wp2
     go_ret
     exact ⟨by rw [HA.out.1]; rfl, by rw [HA.out.2]; exact HP5.out, Save.of_below HB5.out p⟩
    by_cases ho2 : 1099511627776 < us0 + price * qty
    ·have hnn : ((cb : Int) == (cs : Int)) = false := by simp; omega
     have HA : Hid (Pu.tradeC f (1 : Int) b s price qty = 7 ∧ Pu.tradeF f (1 : Int) b s price qty = f) := by
      have e : Pu.tradeC f (1 : Int) b s price qty = 7 := by rw [HT.out, if_neg HNP.out, if_pos (by rw [HOD.out]; simp [hne, ho2])]
      exact ⟨e, by rw [HF.out, e]; rfl⟩
     go_wp2
     go_ret
     exact ⟨by rw [HA.out.1]; rfl, by rw [HA.out.2]; exact HP5.out, Save.of_below HB5.out p⟩
    have hnn : ((cb : Int) == (cs : Int)) = false := by simp; omega
    have HNO : Hid (¬ Pu.over f cb cs 1 price qty = true) := by
     show ¬ _
     rw [HOD.out, Bool.and_eq_true, Bool.or_eq_true, decide_eq_true_eq, decide_eq_true_eq, decide_eq_true_eq]
     omega
    clear HOD
   all_goals
    have HA : Hid (Pu.tradeC f (1 : Int) b s price qty = 0 ∧ Pu.tradeF f (1 : Int) b s price qty = Pu.six f cb cs 1 b.pr price qty) := by
     have e : Pu.tradeC f (1 : Int) b s price qty = 0 := by rw [HT.out, if_neg HNP.out, if_neg HNO.out]
     exact ⟨e, by rw [HF.out, e]; rfl⟩
    obtain ⟨W6, hW6⟩ : ∃ W6, ((w5.setCell ⟨N, 1, none⟩ (.int .i64 (ub1 - b.pr * qty))).setCell ⟨N, 0, none⟩ (.int .i64 (ub0 - price * qty))).setCell ⟨N, 3, none⟩ (.int .i64 (ub3 + qty)) = W6 := ⟨_, rfl⟩
    have H6 : Hid (W6.heap[N]? = some (.cells #[.int .i64 (ub0 - price * qty), .int .i64 (ub1 - b.pr * qty), .int .i64 (ub2), .int .i64 (ub3 + qty), .int .i64 (ub4), .int .i64 (ub5), .int .i64 (ub6), .int .i64 (ub7)] 128 (0, 0))) := by
     show _ = _
     rw [← hW6]
     exact p_hs_set _ (p_hs_set _ (p_hs_set _ H14.out rfl) rfl) rfl
    have hS6 : Save w5 W6 N := by rw [← hW6]; exact ((Save.setCell _ _ _ _).set _ _).set _ _
    have HP6 := hide (HP5.out.save hS6 (by omega))
    have HB6 : Hid (Below w.heap.size w W6) := HB5.out.trans (hS6.below HB5.out.size (by omega))
    have HX6 : Hid (W6.heap[w.heap.size]? = some (.cells (lotA b) 56 (0, 0))) := by show _ = _; rw [hS6.block _ (lt_of_block HX5.out) (by omega)]; exact HX5.out
    have HY6 : Hid (W6.heap[w.heap.size + 1]? = some (.cells (lotA s) 56 (0, 0))) := by show _ = _; rw [hS6.block _ (lt_of_block HY5.out) (by omega)]; exact HY5.out
    have H156 : Hid (W6.heap[N + 1]? = some (.cells #[.int .i64 us0, .int .i64 us1, .int .i64 us2, .int .i64 us3, .int .i64 us4, .int .i64 us5, .int .i64 us6, .int .i64 us7] 128 (0, 0))) := by show _ = _; rw [hS6.block _ (lt_of_block H15.out) (by omega)]; exact H15.out
    have HW6 := hide hW6
    clear hS6 hW6
    go_wp2
    rw [HW6.out]
    clear HW6 HP5 HB5 HX5 HY5 H14 H15 b1 b3 s1 l0 l1 l2 l3 l4 l5 l6 l7 lf0 lf1 lf3 r0 r6
    have b1 : W6.cell? ⟨w.heap.size, 1, none⟩ = some (.int .i64 cb) := by rw [← hcb]; exact p_hs_cell HX6.out rfl
    have l0 : W6.cell? ⟨N, 0, none⟩ = some (.int .i64 (ub0 - price * qty)) := p_hs_cell H6.out rfl
    have l1 : W6.cell? ⟨N, 1, none⟩ = some (.int .i64 (ub1 - b.pr * qty)) := p_hs_cell H6.out rfl
    have l2 : W6.cell? ⟨N, 2, none⟩ = some (.int .i64 (ub2)) := p_hs_cell H6.out rfl
    have l3 : W6.cell? ⟨N, 3, none⟩ = some (.int .i64 (ub3 + qty)) := p_hs_cell H6.out rfl
    have l4 : W6.cell? ⟨N, 4, none⟩ = some (.int .i64 (ub4)) := p_hs_cell H6.out rfl
    have l5 : W6.cell? ⟨N, 5, none⟩ = some (.int .i64 (ub5)) := p_hs_cell H6.out rfl
    have l6 : W6.cell? ⟨N, 6, none⟩ = some (.int .i64 (ub6)) := p_hs_cell H6.out rfl
    have l7 : W6.cell? ⟨N, 7, none⟩ = some (.int .i64 (ub7)) := p_hs_cell H6.out rfl
    refine region_quiet_tail 7 (by kernel_rfl) (by kernel_rfl) ?_
    simp only [List.take_succ_cons, List.take_zero, List.drop_succ_cons, List.drop_zero]
    repeat (first | go_big_quiet_step (fail) | quiet_step (fail))
    refine wpQuiet_nil ?_
    intro _ hw'
    obtain ⟨nq, hw''⟩ := hw'
    subst hw''
    have HP7 := hide (HP6.out.drew nq)
    have HB7 : Hid (Below w.heap.size w (W6.drewN nq)) := bdn HB6.out nq
    have HY7 : Hid ((W6.drewN nq).heap[w.heap.size + 1]? = some (.cells (lotA s) 56 (0, 0))) := HY6.out
    have H157 : Hid ((W6.drewN nq).heap[N + 1]? = some (.cells #[.int .i64 us0, .int .i64 us1, .int .i64 us2, .int .i64 us3, .int .i64 us4, .int .i64 us5, .int .i64 us6, .int .i64 us7] 128 (0, 0))) := H156.out
    clear HP6 HB6 HX6 HY6 H156 H6 b1 l0 l1 l2 l3 l4 l5 l6 l7
    generalize W6.drewN nq = w7 at *
    have c0 := HP7.out.cell (i := cb * 8) (by omega)
    have c1 := HP7.out.cell (i := cb * 8 + 1) (by omega)
    have c2 := HP7.out.cell (i := cb * 8 + 2) (by omega)
    have c3 := HP7.out.cell (i := cb * 8 + 3) (by omega)
    have c4 := HP7.out.cell (i := cb * 8 + 4) (by omega)
    have c5 := HP7.out.cell (i := cb * 8 + 5) (by omega)
    have c6 := HP7.out.cell (i := cb * 8 + 6) (by omega)
    have c7 := HP7.out.cell (i := cb * 8 + 7) (by omega)
    have z0 := HP7.out.frozen (cb * 8)
    have z1 := HP7.out.frozen (cb * 8 + 1)
    have z2 := HP7.out.frozen (cb * 8 + 2)
    have z3 := HP7.out.frozen (cb * 8 + 3)
    have z4 := HP7.out.frozen (cb * 8 + 4)
    have z5 := HP7.out.frozen (cb * 8 + 5)
    have z6 := HP7.out.frozen (cb * 8 + 6)
    have z7 := HP7.out.frozen (cb * 8 + 7)
    obtain ⟨W8, hW8⟩ : ∃ W8, ((((((((w7.setCell ⟨p, cb * 8, none⟩ (.int .i64 (ub0 - price * qty))).setCell ⟨p, cb * 8 + 1, none⟩ (.int .i64 (ub1 - b.pr * qty))).setCell ⟨p, cb * 8 + 2, none⟩ (.int .i64 (ub2))).setCell ⟨p, cb * 8 + 3, none⟩ (.int .i64 (ub3 + qty))).setCell ⟨p, cb * 8 + 4, none⟩ (.int .i64 (ub4))).setCell ⟨p, cb * 8 + 5, none⟩ (.int .i64 (ub5))).setCell ⟨p, cb * 8 + 6, none⟩ (.int .i64 (ub6))).setCell ⟨p, cb * 8 + 7, none⟩ (.int .i64 (ub7))) = W8 := ⟨_, rfl⟩
    have HP8 : Hid (Purse W8 131 p (bF f cb 1 (b.pr * qty) (price * qty) qty)) := by
     show Purse _ _ _ _
     rw [← hW8, ← hub0, ← hub1, ← hub2, ← hub3, ← hub4, ← hub5, ← hub6, ← hub7]
     exact (HP7.out.put8 cb _ _ _ _ _ _ _ _).congr fun j _ => put8b_1 f cb _ _ _ j
    have hS8 : Save w7 W8 p := by
     rw [← hW8]
     repeat (refine Save.set ?_ _ _)
     exact Save.of_below (Below.refl _ _) p
    have HS8 : Hid (Save w W8 p) := (Save.of_below HB7.out p).trans hS8
    have HY8 : Hid (W8.heap[w.heap.size + 1]? = some (.cells (lotA s) 56 (0, 0))) := by show _ = _; rw [hS8.block _ (lt_of_block HY7.out) (by omega)]; exact HY7.out
    have H158 : Hid (W8.heap[N + 1]? = some (.cells #[.int .i64 us0, .int .i64 us1, .int .i64 us2, .int .i64 us3, .int .i64 us4, .int .i64 us5, .int .i64 us6, .int .i64 us7] 128 (0, 0))) := by show _ = _; rw [hS8.block _ (lt_of_block H157.out) (by omega)]; exact H157.out
    have HW8 := hide hW8
    clear hS8 hW8
    go_wp2
    rw [HW8.out]
    clear HW8 HP7 HB7 HY7 H157 c0 z0 c1 z1 c2 z2 c3 z3 c4 z4 c5 z5 c6 z6 c7 z7
    have hnr := fun j => near f cb 1 (b.pr * qty) (price * qty) qty m3 m4 m1 m2 (by omega) (by omega) j
    have n0 := hnr (cs * 8)
    have n1 := hnr (cs * 8 + 3)
    have n2 := hnr (cs * 8 + 6)
    rw [hus0] at n0
    rw [hus3] at n1
    rw [hus6] at n2
    have HNX : Hid (Pu.six f cb cs 1 b.pr price qty = sF (bF f cb 1 (b.pr * qty) (price * qty) qty) cs 1 (price * qty) qty) := (six_two f cb cs 1 b.pr price qty).symm
    clear hnr
    generalize bF f cb 1 (b.pr * qty) (price * qty) qty = f1 at *
    have s1 : W8.cell? ⟨w.heap.size + 1, 1, none⟩ = some (.int .i64 cs) := by rw [← hcs]; exact p_hs_cell HY8.out rfl
    have e0 := HP8.out.cell (i := cs * 8) (by omega)
    have e1 := HP8.out.cell (i := cs * 8 + 1) (by omega)
    have e2 := HP8.out.cell (i := cs * 8 + 2) (by omega)
    have e3 := HP8.out.cell (i := cs * 8 + 3) (by omega)
    have e4 := HP8.out.cell (i := cs * 8 + 4) (by omega)
    have e5 := HP8.out.cell (i := cs * 8 + 5) (by omega)
    have e6 := HP8.out.cell (i := cs * 8 + 6) (by omega)
    have e7 := HP8.out.cell (i := cs * 8 + 7) (by omega)
    generalize hq0 : f1 (cs * 8) = q0 at *
    generalize hq1 : f1 (cs * 8 + 1) = q1 at *
    generalize hq2 : f1 (cs * 8 + 2) = q2 at *
    generalize hq3 : f1 (cs * 8 + 3) = q3 at *
    generalize hq4 : f1 (cs * 8 + 4) = q4 at *
    generalize hq5 : f1 (cs * 8 + 5) = q5 at *
    generalize hq6 : f1 (cs * 8 + 6) = q6 at *
    generalize hq7 : f1 (cs * 8 + 7) = q7 at *
    refine region_quiet_tail 7 (by kernel_rfl) (by kernel_rfl) ?_
    simp only [List.take_succ_cons, List.take_zero, List.drop_succ_cons, List.drop_zero]
    repeat (first | go_big_quiet_step (fail) | quiet_step (fail))
    refine wpQuiet_nil ?_
    intro _ hw'
    obtain ⟨nq, hw''⟩ := hw'
    subst hw''
    have HP9 := hide (HP8.out.drew nq)
    have HS9 : Hid (Save w (W8.drewN nq) p) := HS8.out.trans (Save.of_below (blw_drew nq) p)
    have HY9 : Hid ((W8.drewN nq).heap[w.heap.size + 1]? = some (.cells (lotA s) 56 (0, 0))) := HY8.out
    have H159 : Hid ((W8.drewN nq).heap[N + 1]? = some (.cells #[.int .i64 us0, .int .i64 us1, .int .i64 us2, .int .i64 us3, .int .i64 us4, .int .i64 us5, .int .i64 us6, .int .i64 us7] 128 (0, 0))) := H158.out
    clear HP8 HS8 HY8 H158 s1 e0 e1 e2 e3 e4 e5 e6 e7
    generalize W8.drewN nq = w9 at *
    obtain ⟨W10, hW10⟩ : ∃ W10, w9.setRow (N + 1) #[.int .i64 q0, .int .i64 q1, .int .i64 q2, .int .i64 q3, .int .i64 q4, .int .i64 q5, .int .i64 q6, .int .i64 q7] = W10 := ⟨_, rfl⟩
    have hS10 : Save w9 W10 (N + 1) := by rw [← hW10]; exact Save.setRow _ _ _
    have H10 : Hid (W10.heap[N + 1]? = some (.cells #[.int .i64 q0, .int .i64 q1, .int .i64 q2, .int .i64 q3, .int .i64 q4, .int .i64 q5, .int .i64 q6, .int .i64 q7] 128 (0, 0))) := by show _ = _; rw [← hW10]; exact setRow_heap _ _ _ _ _ _ H159.out
    have HW10 := hide hW10
    have x0 : W10.cell? ⟨N + 1, 0, none⟩ = some (.int .i64 q0) := p_hs_cell H10.out rfl
    have x1 : W10.cell? ⟨N + 1, 3, none⟩ = some (.int .i64 q3) := p_hs_cell H10.out rfl
    have x2 : W10.cell? ⟨N + 1, 6, none⟩ = some (.int .i64 q6) := p_hs_cell H10.out rfl
    have y0 : W10.frozen? ⟨N + 1, 0, none⟩ = false := hs_free H10.out
    have y1 : W10.frozen? ⟨N + 1, 3, none⟩ = false := hs_free H10.out
    have y2 : W10.frozen? ⟨N + 1, 6, none⟩ = false := hs_free H10.out
    obtain ⟨W11, hW11⟩ : ∃ W11, ((W10.setCell ⟨N + 1, 6, none⟩ (.int .i64 (q6 - qty))).setCell ⟨N + 1, 3, none⟩ (.int .i64 (q3 - qty))).setCell ⟨N + 1, 0, none⟩ (.int .i64 (q0 + price * qty)) = W11 := ⟨_, rfl⟩
    have hS11 : Save w9 W11 (N + 1) := by rw [← hW11]; exact ((hS10.set _ _).set _ _).set _ _
    have H11 : Hid (W11.heap[N + 1]? = some (.cells #[.int .i64 (q0 + price * qty), .int .i64 (q1), .int .i64 (q2), .int .i64 (q3 - qty), .int .i64 (q4), .int .i64 (q5), .int .i64 (q6 - qty), .int .i64 (q7)] 128 (0, 0))) := by
     show _ = _
     rw [← hW11]
     exact p_hs_set _ (p_hs_set _ (p_hs_set _ H10.out rfl) rfl) rfl
    have HP11 := hide (HP9.out.save hS11 (by omega))
    have HY11 : Hid (W11.heap[w.heap.size + 1]? = some (.cells (lotA s) 56 (0, 0))) := by show _ = _; rw [hS11.block _ (lt_of_block HY9.out) (by omega)]; exact HY9.out
    have HS11 : Hid (Save w W11 p) := ⟨hS11.os.trans HS9.out.os, hS11.tape.trans HS9.out.tape, hS11.output.trans HS9.out.output, Nat.le_trans HS9.out.size hS11.size, fun j hj hjp => (hS11.block j (Nat.lt_of_lt_of_le hj HS9.out.size) (by omega)).trans (HS9.out.block j hj hjp)⟩
    have HW11 := hide hW11
    have HONE : Hid ((#[.int .i64 q0, .int .i64 q1, .int .i64 q2, .int .i64 q3, .int .i64 q4, .int .i64 q5, .int .i64 q6, .int .i64 q7] : Array Value).all (·.oneCell') = true) := by show _ = _; simp [Value.oneCell']
    clear hS10 hS11 hW10 hW11
    go_wp2_with (guard_target =~ wpList _ _ _ ({ dst := _, op := Op.store 128 _ _, type := _, pos := _, after := _, guard := _ } :: _) _ _; refine wpList_store29 (B := N + 1) (new := #[.int .i64 q0, .int .i64 q1, .int .i64 q2, .int .i64 q3, .int .i64 q4, .int .i64 q5, .int .i64 q6, .int .i64 q7]) W10 H159.out rfl rfl HONE.out HW10.out rfl (.tmp 15) (.tmp 155) rfl rfl rfl ?_)
    rw [HW11.out]
    clear HW10 HW11 HP9 HS9 HY9 H159 x0 x1 x2 y0 y1 y2 H10
    have s1 : W11.cell? ⟨w.heap.size + 1, 1, none⟩ = some (.int .i64 cs) := by rw [← hcs]; exact p_hs_cell HY11.out rfl
    have l0 : W11.cell? ⟨N + 1, 0, none⟩ = some (.int .i64 (q0 + price * qty)) := p_hs_cell H11.out rfl
    have l1 : W11.cell? ⟨N + 1, 1, none⟩ = some (.int .i64 (q1)) := p_hs_cell H11.out rfl
    have l2 : W11.cell? ⟨N + 1, 2, none⟩ = some (.int .i64 (q2)) := p_hs_cell H11.out rfl
    have l3 : W11.cell? ⟨N + 1, 3, none⟩ = some (.int .i64 (q3 - qty)) := p_hs_cell H11.out rfl
    have l4 : W11.cell? ⟨N + 1, 4, none⟩ = some (.int .i64 (q4)) := p_hs_cell H11.out rfl
    have l5 : W11.cell? ⟨N + 1, 5, none⟩ = some (.int .i64 (q5)) := p_hs_cell H11.out rfl
    have l6 : W11.cell? ⟨N + 1, 6, none⟩ = some (.int .i64 (q6 - qty)) := p_hs_cell H11.out rfl
    have l7 : W11.cell? ⟨N + 1, 7, none⟩ = some (.int .i64 (q7)) := p_hs_cell H11.out rfl
    refine region_quiet_tail 7 (by kernel_rfl) (by kernel_rfl) ?_
    simp only [List.take_succ_cons, List.take_zero, List.drop_succ_cons, List.drop_zero]
    repeat (first | go_big_quiet_step (fail) | quiet_step (fail))
    refine wpQuiet_nil ?_
    intro _ hw'
    obtain ⟨nq, hw''⟩ := hw'
    subst hw''
    have HP12 := hide (HP11.out.drew nq)
    have HS12 : Hid (Save w (W11.drewN nq) p) := HS11.out.trans (Save.of_below (blw_drew nq) p)
    clear HP11 HS11 HY11 H11 s1 l0 l1 l2 l3 l4 l5 l6 l7
    generalize W11.drewN nq = w12 at *
    have c0 := HP12.out.cell (i := cs * 8) (by omega)
    have c1 := HP12.out.cell (i := cs * 8 + 1) (by omega)
    have c2 := HP12.out.cell (i := cs * 8 + 2) (by omega)
    have c3 := HP12.out.cell (i := cs * 8 + 3) (by omega)
    have c4 := HP12.out.cell (i := cs * 8 + 4) (by omega)
    have c5 := HP12.out.cell (i := cs * 8 + 5) (by omega)
    have c6 := HP12.out.cell (i := cs * 8 + 6) (by omega)
    have c7 := HP12.out.cell (i := cs * 8 + 7) (by omega)
    have z0 := HP12.out.frozen (cs * 8)
    have z1 := HP12.out.frozen (cs * 8 + 1)
    have z2 := HP12.out.frozen (cs * 8 + 2)
    have z3 := HP12.out.frozen (cs * 8 + 3)
    have z4 := HP12.out.frozen (cs * 8 + 4)
    have z5 := HP12.out.frozen (cs * 8 + 5)
    have z6 := HP12.out.frozen (cs * 8 + 6)
    have z7 := HP12.out.frozen (cs * 8 + 7)
    go_wp2
    go_ret
    refine ⟨by rw [HA.out.1]; rfl, ?_, ?_⟩
    ·rw [HA.out.2, HNX.out, ← hq0, ← hq1, ← hq2, ← hq3, ← hq4, ← hq5, ← hq6, ← hq7]
     exact (HP12.out.put8 cs _ _ _ _ _ _ _ _).congr fun j _ => put8s_1 f1 cs _ _ j
    ·repeat (refine Save.set ?_ _ _)
     exact HS12.out
set_option maxHeartbeats 8000000 in
theorem mtrade_2 (p : Nat) (b s : Cv.Lot) (price qty : Int) (f : Nat → Int) (w : World) (hp : Hid (Purse w 131 p f)) (hg : Hid (Pu.Good f)) :
  Calls Tryz.prog 71 #[.pointer (some ⟨p, 0, none⟩), .int .i64 (2 : Int), lotV b, lotV s, .int .i64 price, .int .i64 qty] w fun e w' => e = .returned (.int .i64 (p_errNo (Pu.tradeC f (2 : Int) b s price qty))) ∧ Purse w' 131 p (Pu.tradeF f (2 : Int) b s price qty) ∧ Save w w' p := by
 show Calls Tryz.prog 71 #[.pointer (some ⟨p, 0, none⟩), .int .i64 (2 : Int), .agg #[.int .i64 b.id, .int .i64 b.ow, .int .i64 b.sd, .int .i64 b.pr, .int .i64 b.q], .agg #[.int .i64 s.id, .int .i64 s.ow, .int .i64 s.sd, .int .i64 s.pr, .int .i64 s.q], .int .i64 price, .int .i64 qty] w _
 obtain ⟨W, hWd⟩ : ∃ W, (w.alloc (.cells #[.int .i64 b.id, .int .i64 b.ow, .int .i64 b.sd, .int .i64 b.pr, .int .i64 b.q] 56)).alloc (.cells #[.int .i64 s.id, .int .i64 s.ow, .int .i64 s.sd, .int .i64 s.pr, .int .i64 s.q] 56) = W := ⟨_, rfl⟩
 have hb1 : Below w.heap.size w (w.alloc (.cells #[.int .i64 b.id, .int .i64 b.ow, .int .i64 b.sd, .int .i64 b.pr, .int .i64 b.q] 56)) := bal
 have hb2 : Below w.heap.size w W := by rw [← hWd]; exact hb1.alloc hb1.size _
 have hX0 : W.heap[w.heap.size]? = some (.cells (lotA b) 56 (0, 0)) := by
  rw [← hWd]
  exact (Below.heap_alloc _ _ _ (by simp)).trans (heap_alloc_new _ _)
 have hY0 : W.heap[w.heap.size + 1]? = some (.cells (lotA s) 56 (0, 0)) := by
  rw [← hWd]
  have := heap_alloc_new (w.alloc (.cells #[.int .i64 b.id, .int .i64 b.ow, .int .i64 b.sd, .int .i64 b.pr, .int .i64 b.q] 56)) (.cells #[.int .i64 s.id, .int .i64 s.ow, .int .i64 s.sd, .int .i64 s.pr, .int .i64 s.q] 56)
  rw [show (w.alloc (.cells #[.int .i64 b.id, .int .i64 b.ow, .int .i64 b.sd, .int .i64 b.pr, .int .i64 b.q] 56)).heap.size = w.heap.size + 1 by simp] at this
  exact this
 have HX0 := hide hX0; have HY0 := hide hY0; have HBW := hide hb2
 have HI := hide (isItem_any (2 : Int) W)
 have HWd := hide hWd
 have HP1 := hide (hp.out.lat hb2)
 have HTB : Hid (∀ c, Pu.tchk (2 : Int) b s price qty = c → ¬ c = 0 → Pu.tradeC f (2 : Int) b s price qty = c ∧ Pu.tradeF f (2 : Int) b s price qty = f) := fun c h h0 => by
  have e : Pu.tradeC f (2 : Int) b s price qty = c := by unfold Pu.tradeC; rw [if_neg (by rw [h]; exact h0), h]
  exact ⟨e, by unfold Pu.tradeF; rw [e, if_neg h0]⟩
 clear hb1 hb2 hX0 hY0 hWd
 rw [show Wi.withinB (2 : Int) 0 2 = true from rfl] at HI
 have HWB : Hid (Pu.well (2 : Int) b = Cv.ok b ∧ Pu.well (2 : Int) s = Cv.ok s) := ⟨rfl, rfl⟩
 have HCb : Hid (∀ W', Calls Tryz.prog 61 #[.agg #[.int .i64 b.id, .int .i64 b.ow, .int .i64 b.sd, .int .i64 b.pr, .int .i64 b.q]] W' fun e w' => e = .returned (.int .i64 (lotE b)) ∧ Below W'.heap.size W' w') := fun W' => lotError_any b W'
 have HCs : Hid (∀ W', Calls Tryz.prog 61 #[.agg #[.int .i64 s.id, .int .i64 s.ow, .int .i64 s.sd, .int .i64 s.pr, .int .i64 s.q]] W' fun e w' => e = .returned (.int .i64 (lotE s)) ∧ Below W'.heap.size W' w') := fun W' => lotError_any s W'
 have b0 : W.cell? ⟨w.heap.size, 0, none⟩ = some (.int .i64 b.id) := p_hs_cell HX0.out rfl
 have b1 : W.cell? ⟨w.heap.size, 1, none⟩ = some (.int .i64 b.ow) := p_hs_cell HX0.out rfl
 have b2 : W.cell? ⟨w.heap.size, 2, none⟩ = some (.int .i64 b.sd) := p_hs_cell HX0.out rfl
 have b3 : W.cell? ⟨w.heap.size, 3, none⟩ = some (.int .i64 b.pr) := p_hs_cell HX0.out rfl
 have b4 : W.cell? ⟨w.heap.size, 4, none⟩ = some (.int .i64 b.q) := p_hs_cell HX0.out rfl
 have s0 : W.cell? ⟨w.heap.size + 1, 0, none⟩ = some (.int .i64 s.id) := p_hs_cell HY0.out rfl
 have s1 : W.cell? ⟨w.heap.size + 1, 1, none⟩ = some (.int .i64 s.ow) := p_hs_cell HY0.out rfl
 have s2 : W.cell? ⟨w.heap.size + 1, 2, none⟩ = some (.int .i64 s.sd) := p_hs_cell HY0.out rfl
 have s3 : W.cell? ⟨w.heap.size + 1, 3, none⟩ = some (.int .i64 s.pr) := p_hs_cell HY0.out rfl
 have s4 : W.cell? ⟨w.heap.size + 1, 4, none⟩ = some (.int .i64 s.q) := p_hs_cell HY0.out rfl
 have hle : (lotE b = 0 ∨ lotE b = 2) ∧ (lotE s = 0 ∨ lotE s = 2) := by unfold lotE; constructor <;> split <;> simp
 have HLE : Hid (decide (0 < IntKind.i64.wrap (lotE b + lotE s)) = !(Cv.ok b && Cv.ok s)) := by
  show _ = _
  unfold lotE
  cases Cv.ok b <;> cases Cv.ok s <;> rfl
 go_enter Tryz.func71, Tryz.ntmps71
 go_wp2_with fail
 rw [HWd.out]
 refine HI.out.mono ?_
 rintro e w2 ⟨rfl, rfl⟩
 clear HI HWd
 simp only []
 go_upto_region 2 with fail
 have HBc : Hid (Below w2.heap.size w2 w2.drew) := ⟨rfl, rfl, rfl, Nat.le_refl _, fun _ _ => rfl⟩
 generalize lotE b = eb at *
 generalize lotE s = es at *
 go_cut [27] (fun s27 wx => s27 = .bool (!(Cv.ok b && Cv.ok s)) ∧ Below w2.heap.size w2 wx)
 case first =>
  go_region_with (first
   | (go_at_call_of 61 (Value.agg #[.int .i64 b.id, .int .i64 b.ow, .int .i64 b.sd, .int .i64 b.pr, .int .i64 b.q])
      refine (HCb.out _).mono ?_
      rintro e w5 ⟨rfl, hb5⟩
      replace HBc := hide (HBc.out.trans (hb5.mono HBc.out.size))
      have q0 := cell_later HBc.out s0
      have q1 := cell_later HBc.out s1
      have q2 := cell_later HBc.out s2
      have q3 := cell_later HBc.out s3
      have q4 := cell_later HBc.out s4
      clear hb5)
   | (go_at_call_of 61 (Value.agg #[.int .i64 s.id, .int .i64 s.ow, .int .i64 s.sd, .int .i64 s.pr, .int .i64 s.q])
      refine (HCs.out _).mono ?_
      rintro e w5 ⟨rfl, hb5⟩
      replace HBc := hide (HBc.out.trans (hb5.mono HBc.out.size))
      have r0 := cell_later HBc.out b0
      have r1 := cell_later HBc.out b1
      have r2 := cell_later HBc.out b2
      have r3 := cell_later HBc.out b3
      have r4 := cell_later HBc.out b4
      clear hb5))
  all_goals
   go_wp2_with fail
   go_meet
   exact ⟨by rw [HLE.out], HBc.out⟩
 case rest =>
  obtain ⟨rfl, hbx⟩ := hcut
  have HBx : Hid (Below w.heap.size w wc) := HBW.out.trans (hbx.mono HBW.out.size)
  have HPx := hide (HP1.out.lat hbx)
  have HXx : Hid (wc.heap[w.heap.size]? = some (.cells (lotA b) 56 (0, 0))) := rof hbx HX0.out
  have HYx : Hid (wc.heap[w.heap.size + 1]? = some (.cells (lotA s) 56 (0, 0))) := rof hbx HY0.out
  clear hbx HBW HP1 HX0 HY0 HBc HCb HCs b0 b1 b2 b3 b4 s0 s1 s2 s3 s4 hle HLE
  cases hok : (Cv.ok b && Cv.ok s) with
  | false =>
   have HA := hide (HTB.out 1 (by
    unfold Pu.tchk
    rw [if_neg]
    rw [HWB.out.1, HWB.out.2]
    intro h
    rw [h.1, h.2] at hok
    cases hok) (by decide))
   clear hok
   simp only [Bool.not_false]
   go_wp2
   go_ret
   exact ⟨by rw [HA.out.1]; rfl, by rw [HA.out.2]; exact HPx.out, Save.of_below HBx.out p⟩
  | true =>
   have Hwb : Hid (Pu.well (2 : Int) b = true) := by
    show _ = _
    rw [HWB.out.1]
    simp only [Bool.and_eq_true] at hok
    exact hok.1
   have Hws : Hid (Pu.well (2 : Int) s = true) := by
    show _ = _
    rw [HWB.out.2]
    simp only [Bool.and_eq_true] at hok
    exact hok.2
   clear hok HWB
   have HR : Hid (Pu.tchk (2 : Int) b s price qty = if b.sd = 0 ∧ s.sd = 1 then (if (1 ≤ price ∧ price ≤ 1000) ∧ 1 ≤ qty ∧ qty ≤ b.q ∧ qty ≤ s.q then (if s.pr ≤ price ∧ price ≤ b.pr then 0 else 11) else 1) else 2) := by show _ = _; unfold Pu.tchk; rw [if_pos ⟨Hwb.out, Hws.out⟩]
   obtain ⟨cb, hcb, hcb6⟩ := Pu.well_ow Hwb.out
   obtain ⟨cs, hcs, hcs6⟩ := Pu.well_ow Hws.out
   have b1 : wc.cell? ⟨w.heap.size, 1, none⟩ = some (.int .i64 cb) := by rw [← hcb]; exact p_hs_cell HXx.out rfl
   have b2 : wc.cell? ⟨w.heap.size, 2, none⟩ = some (.int .i64 b.sd) := p_hs_cell HXx.out rfl
   have b3 : wc.cell? ⟨w.heap.size, 3, none⟩ = some (.int .i64 b.pr) := p_hs_cell HXx.out rfl
   have b4 : wc.cell? ⟨w.heap.size, 4, none⟩ = some (.int .i64 b.q) := p_hs_cell HXx.out rfl
   have s1 : wc.cell? ⟨w.heap.size + 1, 1, none⟩ = some (.int .i64 cs) := by rw [← hcs]; exact p_hs_cell HYx.out rfl
   have s2 : wc.cell? ⟨w.heap.size + 1, 2, none⟩ = some (.int .i64 s.sd) := p_hs_cell HYx.out rfl
   have s3 : wc.cell? ⟨w.heap.size + 1, 3, none⟩ = some (.int .i64 s.pr) := p_hs_cell HYx.out rfl
   have s4 : wc.cell? ⟨w.heap.size + 1, 4, none⟩ = some (.int .i64 s.q) := p_hs_cell HYx.out rfl
   simp only [Bool.not_true]
   by_cases hbs : ¬ b.sd = 0
   ·have hbb : (b.sd == 0) = false := by simp [hbs]
    have HA := hide (HTB.out 2 (by rw [HR.out]; exact if_neg fun h => hbs h.1) (by decide))
    go_wp2
    go_ret
    exact ⟨by rw [HA.out.1]; rfl, by rw [HA.out.2]; exact HPx.out, Save.of_below HBx.out p⟩
   have hbs : b.sd = 0 := by omega
   have hbb : (b.sd == 0) = true := by simp [hbs]
   by_cases hss : ¬ s.sd = 1
   ·have hss' : (s.sd == 1) = false := by simp [hss]
    have HA := hide (HTB.out 2 (by rw [HR.out]; exact if_neg fun h => hss h.2) (by decide))
    go_wp2
    go_ret
    exact ⟨by rw [HA.out.1]; rfl, by rw [HA.out.2]; exact HPx.out, Save.of_below HBx.out p⟩
   have hss : s.sd = 1 := by omega
   have hss' : (s.sd == 1) = true := by simp [hss]
   have HR2 : Hid (Pu.tchk (2 : Int) b s price qty = if (1 ≤ price ∧ price ≤ 1000) ∧ 1 ≤ qty ∧ qty ≤ b.q ∧ qty ≤ s.q then (if s.pr ≤ price ∧ price ≤ b.pr then 0 else 11) else 1) := by show _ = _; rw [HR.out, if_pos ⟨hbs, hss⟩]
   clear HR
   by_cases t1 : price < 1
   ·have HA := hide (HTB.out 1 (by rw [HR2.out]; exact if_neg (by omega)) (by decide))
    go_wp2
    go_ret
    exact ⟨by rw [HA.out.1]; rfl, by rw [HA.out.2]; exact HPx.out, Save.of_below HBx.out p⟩
   by_cases t2 : 1000 < price
   ·have HA := hide (HTB.out 1 (by rw [HR2.out]; exact if_neg (by omega)) (by decide))
    go_wp2
    go_ret
    exact ⟨by rw [HA.out.1]; rfl, by rw [HA.out.2]; exact HPx.out, Save.of_below HBx.out p⟩
   by_cases t3 : qty < 1
   ·have HA := hide (HTB.out 1 (by rw [HR2.out]; exact if_neg (by omega)) (by decide))
    go_wp2
    go_ret
    exact ⟨by rw [HA.out.1]; rfl, by rw [HA.out.2]; exact HPx.out, Save.of_below HBx.out p⟩
   by_cases t4 : b.q < qty
   ·have HA := hide (HTB.out 1 (by rw [HR2.out]; exact if_neg (by omega)) (by decide))
    go_wp2
    go_ret
    exact ⟨by rw [HA.out.1]; rfl, by rw [HA.out.2]; exact HPx.out, Save.of_below HBx.out p⟩
   by_cases t5 : s.q < qty
   ·have HA := hide (HTB.out 1 (by rw [HR2.out]; exact if_neg (by omega)) (by decide))
    go_wp2
    go_ret
    exact ⟨by rw [HA.out.1]; rfl, by rw [HA.out.2]; exact HPx.out, Save.of_below HBx.out p⟩
   have HR3 : Hid (Pu.tchk (2 : Int) b s price qty = if s.pr ≤ price ∧ price ≤ b.pr then 0 else 11) := by show _ = _; rw [HR2.out, if_pos (by omega)]
   clear HR2
   by_cases t6 : b.pr < price
   ·have HA := hide (HTB.out 11 (by rw [HR3.out]; exact if_neg (by omega)) (by decide))
    go_wp2
    go_ret
    exact ⟨by rw [HA.out.1]; rfl, by rw [HA.out.2]; exact HPx.out, Save.of_below HBx.out p⟩
   by_cases t7 : price < s.pr
   ·have HA := hide (HTB.out 11 (by rw [HR3.out]; exact if_neg (by omega)) (by decide))
    go_wp2
    go_ret
    exact ⟨by rw [HA.out.1]; rfl, by rw [HA.out.2]; exact HPx.out, Save.of_below HBx.out p⟩
   have HZ : Hid (Pu.tchk (2 : Int) b s price qty = 0) := by show _ = _; rw [HR3.out, if_pos (by omega)]
   have hr := Pu.right_of HZ.out
   have hm := hr.muls
   have hq1 := hr.q.1
   have HT : Hid (Pu.tradeC f (2 : Int) b s price qty = if Pu.poor f cb cs 2 b.pr qty = true then 9 else if Pu.over f cb cs 2 price qty = true then 7 else 0) := by
    show _ = _; unfold Pu.tradeC; rw [if_pos HZ.out, hcb, hcs]; simp only [Int.toNat_natCast]; rfl
   have HF : Hid (Pu.tradeF f (2 : Int) b s price qty = if Pu.tradeC f (2 : Int) b s price qty = 0 then Pu.six f cb cs 2 b.pr price qty else f) := by
    show _ = _; unfold Pu.tradeF; rw [hcb, hcs]; simp only [Int.toNat_natCast]; rfl
   clear HR3 HTB hr
   have hci : (cb : Int) < 6 := by omega
   have hsi : (cs : Int) < 6 := by omega
   have gb := hg.out.cash cb hcb6
   have gs := hg.out.cash cs hcs6
   have gbs : 0 ≤ f (cb * 8 + 7) ∧ f (cb * 8 + 7) ≤ f (cb * 8 + 4) ∧ f (cb * 8 + 4) ≤ 1073741824 := hg.out.stock cb 2 hcb6 (by decide)
   have gss : 0 ≤ f (cs * 8 + 7) ∧ f (cs * 8 + 7) ≤ f (cs * 8 + 4) ∧ f (cs * 8 + 4) ≤ 1073741824 := hg.out.stock cs 2 hcs6 (by decide)
   have HPD : Hid (Pu.poor f cb cs 2 b.pr qty = (decide (f (cb * 8 + 1) < b.pr * qty) || decide (f (cs * 8 + 7) < qty))) := rfl
   have HOD : Hid (Pu.over f cb cs 2 price qty = (decide (cb ≠ cs) && (decide (1073741824 < f (cb * 8 + 4) + qty) || decide (1099511627776 < f (cs * 8) + price * qty)))) := rfl
   have c0 := HPx.out.cell (i := cb * 8) (by omega)
   have c1 := HPx.out.cell (i := cb * 8 + 1) (by omega)
   have c2 := HPx.out.cell (i := cb * 8 + 2) (by omega)
   have c3 := HPx.out.cell (i := cb * 8 + 3) (by omega)
   have c4 := HPx.out.cell (i := cb * 8 + 4) (by omega)
   have c5 := HPx.out.cell (i := cb * 8 + 5) (by omega)
   have c6 := HPx.out.cell (i := cb * 8 + 6) (by omega)
   have c7 := HPx.out.cell (i := cb * 8 + 7) (by omega)
   have e0 := HPx.out.cell (i := cs * 8) (by omega)
   have e1 := HPx.out.cell (i := cs * 8 + 1) (by omega)
   have e2 := HPx.out.cell (i := cs * 8 + 2) (by omega)
   have e3 := HPx.out.cell (i := cs * 8 + 3) (by omega)
   have e4 := HPx.out.cell (i := cs * 8 + 4) (by omega)
   have e5 := HPx.out.cell (i := cs * 8 + 5) (by omega)
   have e6 := HPx.out.cell (i := cs * 8 + 6) (by omega)
   have e7 := HPx.out.cell (i := cs * 8 + 7) (by omega)
   have hpl : p < wc.heap.size := HPx.out.lt
   have hwl : w.heap.size + 1 < wc.heap.size := lt_of_block HYx.out
   have hwl1 : w.heap.size < wc.heap.size := by omega
   generalize hub0 : f (cb * 8) = ub0 at *
   generalize hub1 : f (cb * 8 + 1) = ub1 at *
   generalize hub2 : f (cb * 8 + 2) = ub2 at *
   generalize hub3 : f (cb * 8 + 3) = ub3 at *
   generalize hub4 : f (cb * 8 + 4) = ub4 at *
   generalize hub5 : f (cb * 8 + 5) = ub5 at *
   generalize hub6 : f (cb * 8 + 6) = ub6 at *
   generalize hub7 : f (cb * 8 + 7) = ub7 at *
   generalize hus0 : f (cs * 8) = us0 at *
   generalize hus1 : f (cs * 8 + 1) = us1 at *
   generalize hus2 : f (cs * 8 + 2) = us2 at *
   generalize hus3 : f (cs * 8 + 3) = us3 at *
   generalize hus4 : f (cs * 8 + 4) = us4 at *
   generalize hus5 : f (cs * 8 + 5) = us5 at *
   generalize hus6 : f (cs * 8 + 6) = us6 at *
   generalize hus7 : f (cs * 8 + 7) = us7 at *
   have hB0 : Below wc.heap.size wc (wc.alloc (.cells #[.int .i64 ub0, .int .i64 ub1, .int .i64 ub2, .int .i64 ub3, .int .i64 ub4, .int .i64 ub5, .int .i64 ub6, .int .i64 ub7] 128)) := bal
   have hB5 : Below wc.heap.size wc ((wc.alloc (.cells #[.int .i64 ub0, .int .i64 ub1, .int .i64 ub2, .int .i64 ub3, .int .i64 ub4, .int .i64 ub5, .int .i64 ub6, .int .i64 ub7] 128)).alloc (.cells #[.int .i64 us0, .int .i64 us1, .int .i64 us2, .int .i64 us3, .int .i64 us4, .int .i64 us5, .int .i64 us6, .int .i64 us7] 128)).drew.drew := p_bd1 (p_bd1 (hB0.alloc hB0.size _))
   have HB5 : Hid (Below w.heap.size w ((wc.alloc (.cells #[.int .i64 ub0, .int .i64 ub1, .int .i64 ub2, .int .i64 ub3, .int .i64 ub4, .int .i64 ub5, .int .i64 ub6, .int .i64 ub7] 128)).alloc (.cells #[.int .i64 us0, .int .i64 us1, .int .i64 us2, .int .i64 us3, .int .i64 us4, .int .i64 us5, .int .i64 us6, .int .i64 us7] 128)).drew.drew) := HBx.out.trans (hB5.mono HBx.out.size)
   have HP5 := hide (HPx.out.lat hB5)
   have HX5 : Hid (((wc.alloc (.cells #[.int .i64 ub0, .int .i64 ub1, .int .i64 ub2, .int .i64 ub3, .int .i64 ub4, .int .i64 ub5, .int .i64 ub6, .int .i64 ub7] 128)).alloc (.cells #[.int .i64 us0, .int .i64 us1, .int .i64 us2, .int .i64 us3, .int .i64 us4, .int .i64 us5, .int .i64 us6, .int .i64 us7] 128)).drew.drew.heap[w.heap.size]? = some (.cells (lotA b) 56 (0, 0))) := rof hB5 HXx.out
   have HY5 : Hid (((wc.alloc (.cells #[.int .i64 ub0, .int .i64 ub1, .int .i64 ub2, .int .i64 ub3, .int .i64 ub4, .int .i64 ub5, .int .i64 ub6, .int .i64 ub7] 128)).alloc (.cells #[.int .i64 us0, .int .i64 us1, .int .i64 us2, .int .i64 us3, .int .i64 us4, .int .i64 us5, .int .i64 us6, .int .i64 us7] 128)).drew.drew.heap[w.heap.size + 1]? = some (.cells (lotA s) 56 (0, 0))) := rof hB5 HYx.out
   have H14 : Hid (((wc.alloc (.cells #[.int .i64 ub0, .int .i64 ub1, .int .i64 ub2, .int .i64 ub3, .int .i64 ub4, .int .i64 ub5, .int .i64 ub6, .int .i64 ub7] 128)).alloc (.cells #[.int .i64 us0, .int .i64 us1, .int .i64 us2, .int .i64 us3, .int .i64 us4, .int .i64 us5, .int .i64 us6, .int .i64 us7] 128)).drew.drew.heap[wc.heap.size]? = some (.cells #[.int .i64 ub0, .int .i64 ub1, .int .i64 ub2, .int .i64 ub3, .int .i64 ub4, .int .i64 ub5, .int .i64 ub6, .int .i64 ub7] 128 (0, 0))) := (Below.heap_alloc _ _ _ (by simp)).trans (heap_alloc_new wc _)
   have H15 : Hid (((wc.alloc (.cells #[.int .i64 ub0, .int .i64 ub1, .int .i64 ub2, .int .i64 ub3, .int .i64 ub4, .int .i64 ub5, .int .i64 ub6, .int .i64 ub7] 128)).alloc (.cells #[.int .i64 us0, .int .i64 us1, .int .i64 us2, .int .i64 us3, .int .i64 us4, .int .i64 us5, .int .i64 us6, .int .i64 us7] 128)).drew.drew.heap[wc.heap.size + 1]? = some (.cells #[.int .i64 us0, .int .i64 us1, .int .i64 us2, .int .i64 us3, .int .i64 us4, .int .i64 us5, .int .i64 us6, .int .i64 us7] 128 (0, 0))) := by
    show _ = _
    have := heap_alloc_new (wc.alloc (.cells #[.int .i64 ub0, .int .i64 ub1, .int .i64 ub2, .int .i64 ub3, .int .i64 ub4, .int .i64 ub5, .int .i64 ub6, .int .i64 ub7] 128)) (.cells #[.int .i64 us0, .int .i64 us1, .int .i64 us2, .int .i64 us3, .int .i64 us4, .int .i64 us5, .int .i64 us6, .int .i64 us7] 128)
    rw [show (wc.alloc (.cells #[.int .i64 ub0, .int .i64 ub1, .int .i64 ub2, .int .i64 ub3, .int .i64 ub4, .int .i64 ub5, .int .i64 ub6, .int .i64 ub7] 128)).heap.size = wc.heap.size + 1 by simp] at this
    exact this
   clear hB0 hB5
   go_wp2
   go_region
   go_wp2
   go_region
   go_upto_region 12 with fail
   clear c0 c1 c2 c3 c4 c5 c6 c7 e0 e1 e2 e3 e4 e5 e6 e7 b1 b2 b3 b4 s1 s2 s3 s4
   generalize ((wc.alloc (.cells #[.int .i64 ub0, .int .i64 ub1, .int .i64 ub2, .int .i64 ub3, .int .i64 ub4, .int .i64 ub5, .int .i64 ub6, .int .i64 ub7] 128)).alloc (.cells #[.int .i64 us0, .int .i64 us1, .int .i64 us2, .int .i64 us3, .int .i64 us4, .int .i64 us5, .int .i64 us6, .int .i64 us7] 128)).drew.drew = w5 at *
   obtain ⟨N, hN⟩ : ∃ N, wc.heap.size = N := ⟨_, rfl⟩
   rw [hN] at H14 H15 hwl hwl1 hpl ⊢
   clear hN HPx HXx HYx HBx
   have b1 : w5.cell? ⟨w.heap.size, 1, none⟩ = some (.int .i64 cb) := by rw [← hcb]; exact p_hs_cell HX5.out rfl
   have b3 : w5.cell? ⟨w.heap.size, 3, none⟩ = some (.int .i64 b.pr) := p_hs_cell HX5.out rfl
   have s1 : w5.cell? ⟨w.heap.size + 1, 1, none⟩ = some (.int .i64 cs) := by rw [← hcs]; exact p_hs_cell HY5.out rfl
   have l0 : w5.cell? ⟨N, 0, none⟩ = some (.int .i64 ub0) := p_hs_cell H14.out rfl
   have l1 : w5.cell? ⟨N, 1, none⟩ = some (.int .i64 ub1) := p_hs_cell H14.out rfl
   have l2 : w5.cell? ⟨N, 2, none⟩ = some (.int .i64 ub2) := p_hs_cell H14.out rfl
   have l3 : w5.cell? ⟨N, 3, none⟩ = some (.int .i64 ub3) := p_hs_cell H14.out rfl
   have l4 : w5.cell? ⟨N, 4, none⟩ = some (.int .i64 ub4) := p_hs_cell H14.out rfl
   have l5 : w5.cell? ⟨N, 5, none⟩ = some (.int .i64 ub5) := p_hs_cell H14.out rfl
   have l6 : w5.cell? ⟨N, 6, none⟩ = some (.int .i64 ub6) := p_hs_cell H14.out rfl
   have l7 : w5.cell? ⟨N, 7, none⟩ = some (.int .i64 ub7) := p_hs_cell H14.out rfl
   have lf0 : w5.frozen? ⟨N, 0, none⟩ = false := hs_free H14.out
   have lf1 : w5.frozen? ⟨N, 1, none⟩ = false := hs_free H14.out
   have lf4 : w5.frozen? ⟨N, 4, none⟩ = false := hs_free H14.out
   have r0 : w5.cell? ⟨N + 1, 0, none⟩ = some (.int .i64 us0) := p_hs_cell H15.out rfl
   have r7 : w5.cell? ⟨N + 1, 7, none⟩ = some (.int .i64 us7) := p_hs_cell H15.out rfl
   have HT : Hid (Pu.tradeC f (2 : Int) b s price qty = if Pu.poor f cb cs 2 b.pr qty = true then 9 else if Pu.over f cb cs 2 price qty = true then 7 else 0) := HT.out
   have HF : Hid (Pu.tradeF f (2 : Int) b s price qty = if Pu.tradeC f (2 : Int) b s price qty = 0 then Pu.six f cb cs 2 b.pr price qty else f) := HF.out
   have hpw : p < w.heap.size := hp.out.lt
   obtain ⟨⟨m1, m2⟩, ⟨m3, m4⟩, m5, m6⟩ := hm
   by_cases hpo : ub1 < b.pr * qty
   ·have HA : Hid (Pu.tradeC f (2 : Int) b s price qty = 9 ∧ Pu.tradeF f (2 : Int) b s price qty = f) := by
     have e : Pu.tradeC f (2 : Int) b s price qty = 9 := by rw [HT.out, if_pos (by rw [HPD.out]; simp [hpo])]
     exact ⟨e, by rw [HF.out, e]; rfl⟩
    go_wp2
    go_ret
    exact ⟨by rw [HA.out.1]; rfl, by rw [HA.out.2]; exact HP5.out, Save.of_below HB5.out p⟩
   by_cases hpk : us7 < qty
   ·have HA : Hid (Pu.tradeC f (2 : Int) b s price qty = 9 ∧ Pu.tradeF f (2 : Int) b s price qty = f) := by
     have e : Pu.tradeC f (2 : Int) b s price qty = 9 := by rw [HT.out, if_pos (by rw [HPD.out]; simp [hpk])]
     exact ⟨e, by rw [HF.out, e]; rfl⟩
    go_wp2
    go_ret
    exact ⟨by rw [HA.out.1]; rfl, by rw [HA.out.2]; exact HP5.out, Save.of_below HB5.out p⟩
   have HNP : Hid (¬ Pu.poor f cb cs 2 b.pr qty = true) := by
    show ¬ _
    rw [HPD.out, Bool.or_eq_true, decide_eq_true_eq, decide_eq_true_eq]
    omega
   clear HPD
   by_cases hne : cb = cs
   case' pos =>
    have hnn : ((cb : Int) == (cs : Int)) = true := by simp [hne]
    have HNO : Hid (¬ Pu.over f cb cs 2 price qty = true) := by show ¬ _; rw [HOD.out]; simp [hne]
    clear HOD hne
   case' neg =>
    by_cases ho1 : 1073741824 < ub4 + qty
    ·have hnn : ((cb : Int) == (cs : Int)) = false := by simp; omega
     have HA : Hid (Pu.tradeC f (2 : Int) b s price qty = 7 ∧ Pu.tradeF f (2 : Int) b s price qty = f) := by
      have e : Pu.tradeC f (2 : Int) b s price qty = 7 := by rw [HT.out, if_neg HNP.out, if_pos (by rw [HOD.out]; simp [hne, ho1])]
      exact ⟨e, by rw [HF.out, e]; rfl⟩
     go_wp2
     go_ret
     exact ⟨by rw [HA.out.1]; rfl, by rw [HA.out.2]; exact HP5.out, Save.of_below HB5.out p⟩
    by_cases ho2 : 1099511627776 < us0 + price * qty
    ·have hnn : ((cb : Int) == (cs : Int)) = false := by simp; omega
     have HA : Hid (Pu.tradeC f (2 : Int) b s price qty = 7 ∧ Pu.tradeF f (2 : Int) b s price qty = f) := by
      have e : Pu.tradeC f (2 : Int) b s price qty = 7 := by rw [HT.out, if_neg HNP.out, if_pos (by rw [HOD.out]; simp [hne, ho2])]
      exact ⟨e, by rw [HF.out, e]; rfl⟩
     go_wp2
     go_ret
     exact ⟨by rw [HA.out.1]; rfl, by rw [HA.out.2]; exact HP5.out, Save.of_below HB5.out p⟩
    have hnn : ((cb : Int) == (cs : Int)) = false := by simp; omega
    have HNO : Hid (¬ Pu.over f cb cs 2 price qty = true) := by
     show ¬ _
     rw [HOD.out, Bool.and_eq_true, Bool.or_eq_true, decide_eq_true_eq, decide_eq_true_eq, decide_eq_true_eq]
     omega
    clear HOD
   all_goals
    have HA : Hid (Pu.tradeC f (2 : Int) b s price qty = 0 ∧ Pu.tradeF f (2 : Int) b s price qty = Pu.six f cb cs 2 b.pr price qty) := by
     have e : Pu.tradeC f (2 : Int) b s price qty = 0 := by rw [HT.out, if_neg HNP.out, if_neg HNO.out]
     exact ⟨e, by rw [HF.out, e]; rfl⟩
    obtain ⟨W6, hW6⟩ : ∃ W6, ((w5.setCell ⟨N, 1, none⟩ (.int .i64 (ub1 - b.pr * qty))).setCell ⟨N, 0, none⟩ (.int .i64 (ub0 - price * qty))).setCell ⟨N, 4, none⟩ (.int .i64 (ub4 + qty)) = W6 := ⟨_, rfl⟩
    have H6 : Hid (W6.heap[N]? = some (.cells #[.int .i64 (ub0 - price * qty), .int .i64 (ub1 - b.pr * qty), .int .i64 (ub2), .int .i64 (ub3), .int .i64 (ub4 + qty), .int .i64 (ub5), .int .i64 (ub6), .int .i64 (ub7)] 128 (0, 0))) := by
     show _ = _
     rw [← hW6]
     exact p_hs_set _ (p_hs_set _ (p_hs_set _ H14.out rfl) rfl) rfl
    have hS6 : Save w5 W6 N := by rw [← hW6]; exact ((Save.setCell _ _ _ _).set _ _).set _ _
    have HP6 := hide (HP5.out.save hS6 (by omega))
    have HB6 : Hid (Below w.heap.size w W6) := HB5.out.trans (hS6.below HB5.out.size (by omega))
    have HX6 : Hid (W6.heap[w.heap.size]? = some (.cells (lotA b) 56 (0, 0))) := by show _ = _; rw [hS6.block _ (lt_of_block HX5.out) (by omega)]; exact HX5.out
    have HY6 : Hid (W6.heap[w.heap.size + 1]? = some (.cells (lotA s) 56 (0, 0))) := by show _ = _; rw [hS6.block _ (lt_of_block HY5.out) (by omega)]; exact HY5.out
    have H156 : Hid (W6.heap[N + 1]? = some (.cells #[.int .i64 us0, .int .i64 us1, .int .i64 us2, .int .i64 us3, .int .i64 us4, .int .i64 us5, .int .i64 us6, .int .i64 us7] 128 (0, 0))) := by show _ = _; rw [hS6.block _ (lt_of_block H15.out) (by omega)]; exact H15.out
    have HW6 := hide hW6
    clear hS6 hW6
    go_wp2
    rw [HW6.out]
    clear HW6 HP5 HB5 HX5 HY5 H14 H15 b1 b3 s1 l0 l1 l2 l3 l4 l5 l6 l7 lf0 lf1 lf4 r0 r7
    have b1 : W6.cell? ⟨w.heap.size, 1, none⟩ = some (.int .i64 cb) := by rw [← hcb]; exact p_hs_cell HX6.out rfl
    have l0 : W6.cell? ⟨N, 0, none⟩ = some (.int .i64 (ub0 - price * qty)) := p_hs_cell H6.out rfl
    have l1 : W6.cell? ⟨N, 1, none⟩ = some (.int .i64 (ub1 - b.pr * qty)) := p_hs_cell H6.out rfl
    have l2 : W6.cell? ⟨N, 2, none⟩ = some (.int .i64 (ub2)) := p_hs_cell H6.out rfl
    have l3 : W6.cell? ⟨N, 3, none⟩ = some (.int .i64 (ub3)) := p_hs_cell H6.out rfl
    have l4 : W6.cell? ⟨N, 4, none⟩ = some (.int .i64 (ub4 + qty)) := p_hs_cell H6.out rfl
    have l5 : W6.cell? ⟨N, 5, none⟩ = some (.int .i64 (ub5)) := p_hs_cell H6.out rfl
    have l6 : W6.cell? ⟨N, 6, none⟩ = some (.int .i64 (ub6)) := p_hs_cell H6.out rfl
    have l7 : W6.cell? ⟨N, 7, none⟩ = some (.int .i64 (ub7)) := p_hs_cell H6.out rfl
    refine region_quiet_tail 7 (by kernel_rfl) (by kernel_rfl) ?_
    simp only [List.take_succ_cons, List.take_zero, List.drop_succ_cons, List.drop_zero]
    repeat (first | go_big_quiet_step (fail) | quiet_step (fail))
    refine wpQuiet_nil ?_
    intro _ hw'
    obtain ⟨nq, hw''⟩ := hw'
    subst hw''
    have HP7 := hide (HP6.out.drew nq)
    have HB7 : Hid (Below w.heap.size w (W6.drewN nq)) := bdn HB6.out nq
    have HY7 : Hid ((W6.drewN nq).heap[w.heap.size + 1]? = some (.cells (lotA s) 56 (0, 0))) := HY6.out
    have H157 : Hid ((W6.drewN nq).heap[N + 1]? = some (.cells #[.int .i64 us0, .int .i64 us1, .int .i64 us2, .int .i64 us3, .int .i64 us4, .int .i64 us5, .int .i64 us6, .int .i64 us7] 128 (0, 0))) := H156.out
    clear HP6 HB6 HX6 HY6 H156 H6 b1 l0 l1 l2 l3 l4 l5 l6 l7
    generalize W6.drewN nq = w7 at *
    have c0 := HP7.out.cell (i := cb * 8) (by omega)
    have c1 := HP7.out.cell (i := cb * 8 + 1) (by omega)
    have c2 := HP7.out.cell (i := cb * 8 + 2) (by omega)
    have c3 := HP7.out.cell (i := cb * 8 + 3) (by omega)
    have c4 := HP7.out.cell (i := cb * 8 + 4) (by omega)
    have c5 := HP7.out.cell (i := cb * 8 + 5) (by omega)
    have c6 := HP7.out.cell (i := cb * 8 + 6) (by omega)
    have c7 := HP7.out.cell (i := cb * 8 + 7) (by omega)
    have z0 := HP7.out.frozen (cb * 8)
    have z1 := HP7.out.frozen (cb * 8 + 1)
    have z2 := HP7.out.frozen (cb * 8 + 2)
    have z3 := HP7.out.frozen (cb * 8 + 3)
    have z4 := HP7.out.frozen (cb * 8 + 4)
    have z5 := HP7.out.frozen (cb * 8 + 5)
    have z6 := HP7.out.frozen (cb * 8 + 6)
    have z7 := HP7.out.frozen (cb * 8 + 7)
    obtain ⟨W8, hW8⟩ : ∃ W8, ((((((((w7.setCell ⟨p, cb * 8, none⟩ (.int .i64 (ub0 - price * qty))).setCell ⟨p, cb * 8 + 1, none⟩ (.int .i64 (ub1 - b.pr * qty))).setCell ⟨p, cb * 8 + 2, none⟩ (.int .i64 (ub2))).setCell ⟨p, cb * 8 + 3, none⟩ (.int .i64 (ub3))).setCell ⟨p, cb * 8 + 4, none⟩ (.int .i64 (ub4 + qty))).setCell ⟨p, cb * 8 + 5, none⟩ (.int .i64 (ub5))).setCell ⟨p, cb * 8 + 6, none⟩ (.int .i64 (ub6))).setCell ⟨p, cb * 8 + 7, none⟩ (.int .i64 (ub7))) = W8 := ⟨_, rfl⟩
    have HP8 : Hid (Purse W8 131 p (bF f cb 2 (b.pr * qty) (price * qty) qty)) := by
     show Purse _ _ _ _
     rw [← hW8, ← hub0, ← hub1, ← hub2, ← hub3, ← hub4, ← hub5, ← hub6, ← hub7]
     exact (HP7.out.put8 cb _ _ _ _ _ _ _ _).congr fun j _ => put8b_2 f cb _ _ _ j
    have hS8 : Save w7 W8 p := by
     rw [← hW8]
     repeat (refine Save.set ?_ _ _)
     exact Save.of_below (Below.refl _ _) p
    have HS8 : Hid (Save w W8 p) := (Save.of_below HB7.out p).trans hS8
    have HY8 : Hid (W8.heap[w.heap.size + 1]? = some (.cells (lotA s) 56 (0, 0))) := by show _ = _; rw [hS8.block _ (lt_of_block HY7.out) (by omega)]; exact HY7.out
    have H158 : Hid (W8.heap[N + 1]? = some (.cells #[.int .i64 us0, .int .i64 us1, .int .i64 us2, .int .i64 us3, .int .i64 us4, .int .i64 us5, .int .i64 us6, .int .i64 us7] 128 (0, 0))) := by show _ = _; rw [hS8.block _ (lt_of_block H157.out) (by omega)]; exact H157.out
    have HW8 := hide hW8
    clear hS8 hW8
    go_wp2
    rw [HW8.out]
    clear HW8 HP7 HB7 HY7 H157 c0 z0 c1 z1 c2 z2 c3 z3 c4 z4 c5 z5 c6 z6 c7 z7
    have hnr := fun j => near f cb 2 (b.pr * qty) (price * qty) qty m3 m4 m1 m2 (by omega) (by omega) j
    have n0 := hnr (cs * 8)
    have n1 := hnr (cs * 8 + 4)
    have n2 := hnr (cs * 8 + 7)
    rw [hus0] at n0
    rw [hus4] at n1
    rw [hus7] at n2
    have HNX : Hid (Pu.six f cb cs 2 b.pr price qty = sF (bF f cb 2 (b.pr * qty) (price * qty) qty) cs 2 (price * qty) qty) := (six_two f cb cs 2 b.pr price qty).symm
    clear hnr
    generalize bF f cb 2 (b.pr * qty) (price * qty) qty = f1 at *
    have s1 : W8.cell? ⟨w.heap.size + 1, 1, none⟩ = some (.int .i64 cs) := by rw [← hcs]; exact p_hs_cell HY8.out rfl
    have e0 := HP8.out.cell (i := cs * 8) (by omega)
    have e1 := HP8.out.cell (i := cs * 8 + 1) (by omega)
    have e2 := HP8.out.cell (i := cs * 8 + 2) (by omega)
    have e3 := HP8.out.cell (i := cs * 8 + 3) (by omega)
    have e4 := HP8.out.cell (i := cs * 8 + 4) (by omega)
    have e5 := HP8.out.cell (i := cs * 8 + 5) (by omega)
    have e6 := HP8.out.cell (i := cs * 8 + 6) (by omega)
    have e7 := HP8.out.cell (i := cs * 8 + 7) (by omega)
    generalize hq0 : f1 (cs * 8) = q0 at *
    generalize hq1 : f1 (cs * 8 + 1) = q1 at *
    generalize hq2 : f1 (cs * 8 + 2) = q2 at *
    generalize hq3 : f1 (cs * 8 + 3) = q3 at *
    generalize hq4 : f1 (cs * 8 + 4) = q4 at *
    generalize hq5 : f1 (cs * 8 + 5) = q5 at *
    generalize hq6 : f1 (cs * 8 + 6) = q6 at *
    generalize hq7 : f1 (cs * 8 + 7) = q7 at *
    refine region_quiet_tail 7 (by kernel_rfl) (by kernel_rfl) ?_
    simp only [List.take_succ_cons, List.take_zero, List.drop_succ_cons, List.drop_zero]
    repeat (first | go_big_quiet_step (fail) | quiet_step (fail))
    refine wpQuiet_nil ?_
    intro _ hw'
    obtain ⟨nq, hw''⟩ := hw'
    subst hw''
    have HP9 := hide (HP8.out.drew nq)
    have HS9 : Hid (Save w (W8.drewN nq) p) := HS8.out.trans (Save.of_below (blw_drew nq) p)
    have HY9 : Hid ((W8.drewN nq).heap[w.heap.size + 1]? = some (.cells (lotA s) 56 (0, 0))) := HY8.out
    have H159 : Hid ((W8.drewN nq).heap[N + 1]? = some (.cells #[.int .i64 us0, .int .i64 us1, .int .i64 us2, .int .i64 us3, .int .i64 us4, .int .i64 us5, .int .i64 us6, .int .i64 us7] 128 (0, 0))) := H158.out
    clear HP8 HS8 HY8 H158 s1 e0 e1 e2 e3 e4 e5 e6 e7
    generalize W8.drewN nq = w9 at *
    obtain ⟨W10, hW10⟩ : ∃ W10, w9.setRow (N + 1) #[.int .i64 q0, .int .i64 q1, .int .i64 q2, .int .i64 q3, .int .i64 q4, .int .i64 q5, .int .i64 q6, .int .i64 q7] = W10 := ⟨_, rfl⟩
    have hS10 : Save w9 W10 (N + 1) := by rw [← hW10]; exact Save.setRow _ _ _
    have H10 : Hid (W10.heap[N + 1]? = some (.cells #[.int .i64 q0, .int .i64 q1, .int .i64 q2, .int .i64 q3, .int .i64 q4, .int .i64 q5, .int .i64 q6, .int .i64 q7] 128 (0, 0))) := by show _ = _; rw [← hW10]; exact setRow_heap _ _ _ _ _ _ H159.out
    have HW10 := hide hW10
    have x0 : W10.cell? ⟨N + 1, 0, none⟩ = some (.int .i64 q0) := p_hs_cell H10.out rfl
    have x1 : W10.cell? ⟨N + 1, 4, none⟩ = some (.int .i64 q4) := p_hs_cell H10.out rfl
    have x2 : W10.cell? ⟨N + 1, 7, none⟩ = some (.int .i64 q7) := p_hs_cell H10.out rfl
    have y0 : W10.frozen? ⟨N + 1, 0, none⟩ = false := hs_free H10.out
    have y1 : W10.frozen? ⟨N + 1, 4, none⟩ = false := hs_free H10.out
    have y2 : W10.frozen? ⟨N + 1, 7, none⟩ = false := hs_free H10.out
    obtain ⟨W11, hW11⟩ : ∃ W11, ((W10.setCell ⟨N + 1, 7, none⟩ (.int .i64 (q7 - qty))).setCell ⟨N + 1, 4, none⟩ (.int .i64 (q4 - qty))).setCell ⟨N + 1, 0, none⟩ (.int .i64 (q0 + price * qty)) = W11 := ⟨_, rfl⟩
    have hS11 : Save w9 W11 (N + 1) := by rw [← hW11]; exact ((hS10.set _ _).set _ _).set _ _
    have H11 : Hid (W11.heap[N + 1]? = some (.cells #[.int .i64 (q0 + price * qty), .int .i64 (q1), .int .i64 (q2), .int .i64 (q3), .int .i64 (q4 - qty), .int .i64 (q5), .int .i64 (q6), .int .i64 (q7 - qty)] 128 (0, 0))) := by
     show _ = _
     rw [← hW11]
     exact p_hs_set _ (p_hs_set _ (p_hs_set _ H10.out rfl) rfl) rfl
    have HP11 := hide (HP9.out.save hS11 (by omega))
    have HY11 : Hid (W11.heap[w.heap.size + 1]? = some (.cells (lotA s) 56 (0, 0))) := by show _ = _; rw [hS11.block _ (lt_of_block HY9.out) (by omega)]; exact HY9.out
    have HS11 : Hid (Save w W11 p) := ⟨hS11.os.trans HS9.out.os, hS11.tape.trans HS9.out.tape, hS11.output.trans HS9.out.output, Nat.le_trans HS9.out.size hS11.size, fun j hj hjp => (hS11.block j (Nat.lt_of_lt_of_le hj HS9.out.size) (by omega)).trans (HS9.out.block j hj hjp)⟩
    have HW11 := hide hW11
    have HONE : Hid ((#[.int .i64 q0, .int .i64 q1, .int .i64 q2, .int .i64 q3, .int .i64 q4, .int .i64 q5, .int .i64 q6, .int .i64 q7] : Array Value).all (·.oneCell') = true) := by show _ = _; simp [Value.oneCell']
    clear hS10 hS11 hW10 hW11
    go_wp2_with (guard_target =~ wpList _ _ _ ({ dst := _, op := Op.store 128 _ _, type := _, pos := _, after := _, guard := _ } :: _) _ _; refine wpList_store29 (B := N + 1) (new := #[.int .i64 q0, .int .i64 q1, .int .i64 q2, .int .i64 q3, .int .i64 q4, .int .i64 q5, .int .i64 q6, .int .i64 q7]) W10 H159.out rfl rfl HONE.out HW10.out rfl (.tmp 15) (.tmp 155) rfl rfl rfl ?_)
    rw [HW11.out]
    clear HW10 HW11 HP9 HS9 HY9 H159 x0 x1 x2 y0 y1 y2 H10
    have s1 : W11.cell? ⟨w.heap.size + 1, 1, none⟩ = some (.int .i64 cs) := by rw [← hcs]; exact p_hs_cell HY11.out rfl
    have l0 : W11.cell? ⟨N + 1, 0, none⟩ = some (.int .i64 (q0 + price * qty)) := p_hs_cell H11.out rfl
    have l1 : W11.cell? ⟨N + 1, 1, none⟩ = some (.int .i64 (q1)) := p_hs_cell H11.out rfl
    have l2 : W11.cell? ⟨N + 1, 2, none⟩ = some (.int .i64 (q2)) := p_hs_cell H11.out rfl
    have l3 : W11.cell? ⟨N + 1, 3, none⟩ = some (.int .i64 (q3)) := p_hs_cell H11.out rfl
    have l4 : W11.cell? ⟨N + 1, 4, none⟩ = some (.int .i64 (q4 - qty)) := p_hs_cell H11.out rfl
    have l5 : W11.cell? ⟨N + 1, 5, none⟩ = some (.int .i64 (q5)) := p_hs_cell H11.out rfl
    have l6 : W11.cell? ⟨N + 1, 6, none⟩ = some (.int .i64 (q6)) := p_hs_cell H11.out rfl
    have l7 : W11.cell? ⟨N + 1, 7, none⟩ = some (.int .i64 (q7 - qty)) := p_hs_cell H11.out rfl
    refine region_quiet_tail 7 (by kernel_rfl) (by kernel_rfl) ?_
    simp only [List.take_succ_cons, List.take_zero, List.drop_succ_cons, List.drop_zero]
    repeat (first | go_big_quiet_step (fail) | quiet_step (fail))
    refine wpQuiet_nil ?_
    intro _ hw'
    obtain ⟨nq, hw''⟩ := hw'
    subst hw''
    have HP12 := hide (HP11.out.drew nq)
    have HS12 : Hid (Save w (W11.drewN nq) p) := HS11.out.trans (Save.of_below (blw_drew nq) p)
    clear HP11 HS11 HY11 H11 s1 l0 l1 l2 l3 l4 l5 l6 l7
    generalize W11.drewN nq = w12 at *
    have c0 := HP12.out.cell (i := cs * 8) (by omega)
    have c1 := HP12.out.cell (i := cs * 8 + 1) (by omega)
    have c2 := HP12.out.cell (i := cs * 8 + 2) (by omega)
    have c3 := HP12.out.cell (i := cs * 8 + 3) (by omega)
    have c4 := HP12.out.cell (i := cs * 8 + 4) (by omega)
    have c5 := HP12.out.cell (i := cs * 8 + 5) (by omega)
    have c6 := HP12.out.cell (i := cs * 8 + 6) (by omega)
    have c7 := HP12.out.cell (i := cs * 8 + 7) (by omega)
    have z0 := HP12.out.frozen (cs * 8)
    have z1 := HP12.out.frozen (cs * 8 + 1)
    have z2 := HP12.out.frozen (cs * 8 + 2)
    have z3 := HP12.out.frozen (cs * 8 + 3)
    have z4 := HP12.out.frozen (cs * 8 + 4)
    have z5 := HP12.out.frozen (cs * 8 + 5)
    have z6 := HP12.out.frozen (cs * 8 + 6)
    have z7 := HP12.out.frozen (cs * 8 + 7)
    go_wp2
    go_ret
    refine ⟨by rw [HA.out.1]; rfl, ?_, ?_⟩
    ·rw [HA.out.2, HNX.out, ← hq0, ← hq1, ← hq2, ← hq3, ← hq4, ← hq5, ← hq6, ← hq7]
     exact (HP12.out.put8 cs _ _ _ _ _ _ _ _).congr fun j _ => put8s_2 f1 cs _ _ j
    ·repeat (refine Save.set ?_ _ _)
     exact HS12.out
end Go.Proofs.YtdggddjgipgllaaGreatDoor
