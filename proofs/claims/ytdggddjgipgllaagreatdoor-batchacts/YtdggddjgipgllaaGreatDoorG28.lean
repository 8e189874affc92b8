/- The document's purses: Hold and Free by their contracts. -/
import Derived.Test.YtdggddjgipgllaaGreatDoorG03
import Derived.Test.YtdggddjgipgllaaGreatDoorG13
import Derived.Test.YtdggddjgipgllaaGreatDoorG06
import Derived.Test.YtdggddjgipgllaaGreatDoorG01
import Derived.Laws.OwnMore
namespace Go.Proofs.YtdggddjgipgllaaGreatDoor
open Go.RowKit
set_option maxRecDepth 100000

def p_errNo (c : Nat) : Int := if c = 0 then 0 else c + 1
theorem isCl_any (n : Int) (w : World) : Calls Tryz.prog 99 #[.int .i64 n] w fun e w' => e = .returned (.bool (Wi.withinB n 0 5)) ∧ w' = w := by
 by_cases h : 0 ≤ n
 ·go_enter Tryz.func99, Tryz.ntmps99
  go_wp2
  go_ret
  refine ⟨ret_bool ?_, rfl⟩
  simp only [Wi.withinB, h, decide_true, Bool.true_and]
  rw [decide_eq_decide]
  omega
 ·have h' : decide (0 ≤ n) = false := by simpa using h
  go_enter Tryz.func99, Tryz.ntmps99
  go_wp2
  go_ret
  exact ⟨ret_bool (by simp [Wi.withinB, h']), rfl⟩
theorem isItem_any (n : Int) (w : World) : Calls Tryz.prog 102 #[.int .i64 n] w fun e w' => e = .returned (.bool (Wi.withinB n 0 2)) ∧ w' = w := by
 by_cases h : 0 ≤ n
 ·go_enter Tryz.func102, Tryz.ntmps102
  go_wp2
  go_ret
  refine ⟨ret_bool ?_, rfl⟩
  simp only [Wi.withinB, h, decide_true, Bool.true_and]
  rw [decide_eq_decide]
  omega
 ·have h' : decide (0 ≤ n) = false := by simpa using h
  go_enter Tryz.func102, Tryz.ntmps102
  go_wp2
  go_ret
  exact ⟨ret_bool (by simp [Wi.withinB, h']), rfl⟩

theorem bdn {n : Nat} {w w' : World} (h : Below n w w') (m : Nat) : Below n w (w'.drewN m) := ⟨h.os, h.tape, h.output, h.size, h.block⟩
theorem p_bd1 {n : Nat} {w w' : World} (h : Below n w w') : Below n w w'.drew := ⟨h.os, h.tape, h.output, h.size, h.block⟩
theorem Save.set {w w' : World} {p : Nat} (h : Save w w' p) (o : Nat) (v : Value) : Save w (w'.setCell ⟨p, o, none⟩ v) p := h.trans (Save.setCell _ _ _ _)
theorem put8_1 (f : Nat → Int) (c : Nat) (m : Int) (j : Nat) : (if j = c * 8 + 7 then f (c * 8 + 7) else (if j = c * 8 + 6 then f (c * 8 + 6) else (if j = c * 8 + 5 then f (c * 8 + 5) else (if j = c * 8 + 4 then f (c * 8 + 4) else (if j = c * 8 + 3 then f (c * 8 + 3) else (if j = c * 8 + 2 then f (c * 8 + 2) else (if j = c * 8 + 1 then f (c * 8 + 1) + m else (if j = c * 8 then f (c * 8) else f j)))))))) = Pu.add f (c * 8 + 1) m j := by
 simp only [Pu.add]
 by_cases h7 : j = c * 8 + 7
 ·subst h7; simp
 by_cases h6 : j = c * 8 + 6
 ·subst h6; simp
 by_cases h5 : j = c * 8 + 5
 ·subst h5; simp
 by_cases h4 : j = c * 8 + 4
 ·subst h4; simp
 by_cases h3 : j = c * 8 + 3
 ·subst h3; simp
 by_cases h2 : j = c * 8 + 2
 ·subst h2; simp
 by_cases h1 : j = c * 8 + 1
 ·subst h1; simp
 by_cases h0 : j = c * 8
 ·subst h0; simp
 simp [h0, h1, h2, h3, h4, h5, h6, h7]
theorem put8_5 (f : Nat → Int) (c : Nat) (m : Int) (j : Nat) : (if j = c * 8 + 7 then f (c * 8 + 7) else (if j = c * 8 + 6 then f (c * 8 + 6) else (if j = c * 8 + 5 then f (c * 8 + 5) + m else (if j = c * 8 + 4 then f (c * 8 + 4) else (if j = c * 8 + 3 then f (c * 8 + 3) else (if j = c * 8 + 2 then f (c * 8 + 2) else (if j = c * 8 + 1 then f (c * 8 + 1) else (if j = c * 8 then f (c * 8) else f j)))))))) = Pu.add f (c * 8 + 5) m j := by
 simp only [Pu.add]
 by_cases h7 : j = c * 8 + 7
 ·subst h7; simp
 by_cases h6 : j = c * 8 + 6
 ·subst h6; simp
 by_cases h5 : j = c * 8 + 5
 ·subst h5; simp
 by_cases h4 : j = c * 8 + 4
 ·subst h4; simp
 by_cases h3 : j = c * 8 + 3
 ·subst h3; simp
 by_cases h2 : j = c * 8 + 2
 ·subst h2; simp
 by_cases h1 : j = c * 8 + 1
 ·subst h1; simp
 by_cases h0 : j = c * 8
 ·subst h0; simp
 simp [h0, h1, h2, h3, h4, h5, h6, h7]
theorem put8_6 (f : Nat → Int) (c : Nat) (m : Int) (j : Nat) : (if j = c * 8 + 7 then f (c * 8 + 7) else (if j = c * 8 + 6 then f (c * 8 + 6) + m else (if j = c * 8 + 5 then f (c * 8 + 5) else (if j = c * 8 + 4 then f (c * 8 + 4) else (if j = c * 8 + 3 then f (c * 8 + 3) else (if j = c * 8 + 2 then f (c * 8 + 2) else (if j = c * 8 + 1 then f (c * 8 + 1) else (if j = c * 8 then f (c * 8) else f j)))))))) = Pu.add f (c * 8 + 6) m j := by
 simp only [Pu.add]
 by_cases h7 : j = c * 8 + 7
 ·subst h7; simp
 by_cases h6 : j = c * 8 + 6
 ·subst h6; simp
 by_cases h5 : j = c * 8 + 5
 ·subst h5; simp
 by_cases h4 : j = c * 8 + 4
 ·subst h4; simp
 by_cases h3 : j = c * 8 + 3
 ·subst h3; simp
 by_cases h2 : j = c * 8 + 2
 ·subst h2; simp
 by_cases h1 : j = c * 8 + 1
 ·subst h1; simp
 by_cases h0 : j = c * 8
 ·subst h0; simp
 simp [h0, h1, h2, h3, h4, h5, h6, h7]
theorem put8_7 (f : Nat → Int) (c : Nat) (m : Int) (j : Nat) : (if j = c * 8 + 7 then f (c * 8 + 7) + m else (if j = c * 8 + 6 then f (c * 8 + 6) else (if j = c * 8 + 5 then f (c * 8 + 5) else (if j = c * 8 + 4 then f (c * 8 + 4) else (if j = c * 8 + 3 then f (c * 8 + 3) else (if j = c * 8 + 2 then f (c * 8 + 2) else (if j = c * 8 + 1 then f (c * 8 + 1) else (if j = c * 8 then f (c * 8) else f j)))))))) = Pu.add f (c * 8 + 7) m j := by
 simp only [Pu.add]
 by_cases h7 : j = c * 8 + 7
 ·subst h7; simp
 by_cases h6 : j = c * 8 + 6
 ·subst h6; simp
 by_cases h5 : j = c * 8 + 5
 ·subst h5; simp
 by_cases h4 : j = c * 8 + 4
 ·subst h4; simp
 by_cases h3 : j = c * 8 + 3
 ·subst h3; simp
 by_cases h2 : j = c * 8 + 2
 ·subst h2; simp
 by_cases h1 : j = c * 8 + 1
 ·subst h1; simp
 by_cases h0 : j = c * 8
 ·subst h0; simp
 simp [h0, h1, h2, h3, h4, h5, h6, h7]
set_option maxHeartbeats 8000000 in
theorem mhold_any (p : Nat) (item : Int) (x : Cv.Lot) (f : Nat → Int) (w : World) (hp : Hid (Purse w 131 p f)) (hg : Hid (Pu.Good f)) :
  Calls Tryz.prog 63 #[.pointer (some ⟨p, 0, none⟩), .int .i64 item, lotV x] w fun e w' => e = .returned (.int .i64 (p_errNo (Pu.holdC f item x))) ∧ Purse w' 131 p (Pu.holdF f item x) ∧ Save w w' p := by
 show Calls Tryz.prog 63 #[.pointer (some ⟨p, 0, none⟩), .int .i64 item, .agg #[.int .i64 x.id, .int .i64 x.ow, .int .i64 x.sd, .int .i64 x.pr, .int .i64 x.q]] w _
 obtain ⟨W, hWd⟩ : ∃ W, w.alloc (.cells #[.int .i64 x.id, .int .i64 x.ow, .int .i64 x.sd, .int .i64 x.pr, .int .i64 x.q] 56) = W := ⟨_, rfl⟩
 have hb1 : Below w.heap.size w W := by rw [← hWd]; exact bal
 have hX0 : W.heap[w.heap.size]? = some (.cells (lotA x) 56 (0, 0)) := by rw [← hWd]; exact heap_alloc_new _ _
 have HX0 := hide hX0; have HBW := hide hb1; have HWd := hide hWd
 have HI := hide (isItem_any item W)
 clear hb1 hX0 hWd
 have HP1 := hide (hp.out.lat HBW.out)
 cases hin : Wi.withinB item 0 2 with
 | false =>
  have HA : Hid (Pu.holdC f item x = 1 ∧ Pu.holdF f item x = f) := by
   have e : Pu.holdC f item x = 1 := by unfold Pu.holdC Pu.well; rw [hin]; rfl
   exact ⟨e, by unfold Pu.holdF; rw [e]; rfl⟩
  rw [hin] at HI
  clear hin
  go_enter Tryz.func63, Tryz.ntmps63
  go_wp2_with fail
  rw [HWd.out]
  refine HI.out.mono ?_
  rintro e w2 ⟨rfl, rfl⟩
  simp only []
  go_wp2
  go_ret
  exact ⟨by rw [HA.out.1]; rfl, by rw [HA.out.2]; exact HP1.out, Save.of_below HBW.out p⟩
 | true =>
  rw [hin] at HI
  have HWI : Hid (Pu.well item x = Cv.ok x) := by show _ = _; unfold Pu.well; rw [hin]; rfl
  clear hin
  have HC := hide (lotError_any x W)
  unfold lotV at HC
  have d0 : W.cell? ⟨w.heap.size, 0, none⟩ = some (.int .i64 x.id) := p_hs_cell HX0.out rfl
  have d1 : W.cell? ⟨w.heap.size, 1, none⟩ = some (.int .i64 x.ow) := p_hs_cell HX0.out rfl
  have d2 : W.cell? ⟨w.heap.size, 2, none⟩ = some (.int .i64 x.sd) := p_hs_cell HX0.out rfl
  have d3 : W.cell? ⟨w.heap.size, 3, none⟩ = some (.int .i64 x.pr) := p_hs_cell HX0.out rfl
  have d4 : W.cell? ⟨w.heap.size, 4, none⟩ = some (.int .i64 x.q) := p_hs_cell HX0.out rfl
  go_enter Tryz.func63, Tryz.ntmps63
  go_wp2_with fail
  rw [HWd.out]
  refine HI.out.mono ?_
  rintro e w2 ⟨rfl, rfl⟩
  simp only []
  go_wp2_with fail
  refine HC.out.mono ?_
  rintro e w3 ⟨rfl, hb3⟩
  have HB3 : Hid (Below w.heap.size w w3) := HBW.out.trans (hb3.mono HBW.out.size)
  have HX3 : Hid (w3.heap[w.heap.size]? = some (.cells (lotA x) 56 (0, 0))) := rof hb3 HX0.out
  have HP3 := hide (HP1.out.lat hb3)
  clear hb3 HC HI HX0 HP1 HBW HWd d0 d1 d2 d3 d4
  cases hok : Cv.ok x with
  | false =>
   have HA : Hid (Pu.holdC f item x = 1 ∧ Pu.holdF f item x = f) := by
    have e : Pu.holdC f item x = 1 := by unfold Pu.holdC; rw [HWI.out, hok]; rfl
    exact ⟨e, by unfold Pu.holdF; rw [e]; rfl⟩
   rw [show lotE x = 2 by unfold lotE; rw [hok]; rfl]
   clear hok
   simp only []
   go_wp2
   go_ret
   exact ⟨by rw [HA.out.1]; rfl, by rw [HA.out.2]; exact HP3.out, Save.of_below HB3.out p⟩
  | true =>
   rw [show lotE x = 0 by unfold lotE; rw [hok]; rfl]
   have HOK : Hid (Pu.well item x = true) := HWI.out.trans hok
   clear hok HWI
   obtain ⟨k, rfl, hk⟩ := Pu.well_item HOK.out
   obtain ⟨c, hc, hc6⟩ := Pu.well_ow HOK.out
   have hci : (c : Int) < 6 := by omega
   have hki : (k : Int) < 3 := by omega
   have d1 : w3.cell? ⟨w.heap.size, 1, none⟩ = some (.int .i64 c) := by rw [← hc]; exact p_hs_cell HX3.out rfl
   have d2 : w3.cell? ⟨w.heap.size, 2, none⟩ = some (.int .i64 x.sd) := p_hs_cell HX3.out rfl
   have d3 : w3.cell? ⟨w.heap.size, 3, none⟩ = some (.int .i64 x.pr) := p_hs_cell HX3.out rfl
   have d4 : w3.cell? ⟨w.heap.size, 4, none⟩ = some (.int .i64 x.q) := p_hs_cell HX3.out rfl
   have c0 := HP3.out.cell (i := c * 8) (by omega)
   have c1 := HP3.out.cell (i := c * 8 + 1) (by omega)
   have c2 := HP3.out.cell (i := c * 8 + 2) (by omega)
   have c3 := HP3.out.cell (i := c * 8 + 3) (by omega)
   have c4 := HP3.out.cell (i := c * 8 + 4) (by omega)
   have c5 := HP3.out.cell (i := c * 8 + 5) (by omega)
   have c6 := HP3.out.cell (i := c * 8 + 6) (by omega)
   have c7 := HP3.out.cell (i := c * 8 + 7) (by omega)
   have hpl : p < w3.heap.size := HP3.out.lt
   have hwl : w.heap.size < w3.heap.size := lt_of_block HX3.out
   have HCD : Hid (Pu.holdC f k x = if f (Pu.tx k x) - f (Pu.hx k x) < Pu.mu x then 9 else 0) := by show _ = _; unfold Pu.holdC; rw [if_pos HOK.out]
   have HFD : Hid (Pu.holdF f k x = if Pu.holdC f k x = 0 then Pu.add f (Pu.hx k x) (Pu.mu x) else f) := rfl
   have hmu := Pu.mu_bounds (Pu.well_ok HOK.out)
   have hga := Pu.good_at hg.out HOK.out
   have f0 := HP3.out.frozen (c * 8)
   have f1 := HP3.out.frozen (c * 8 + 1)
   have f2 := HP3.out.frozen (c * 8 + 2)
   have f3 := HP3.out.frozen (c * 8 + 3)
   have f4 := HP3.out.frozen (c * 8 + 4)
   have f5 := HP3.out.frozen (c * 8 + 5)
   have f6 := HP3.out.frozen (c * 8 + 6)
   have f7 := HP3.out.frozen (c * 8 + 7)
   by_cases hs : x.sd = 0
   ·have HX : Hid (Pu.tx k x = c * 8 ∧ Pu.hx k x = c * 8 + 1 ∧ Pu.mu x = x.pr * x.q) := by
     refine ⟨?_, ?_, ?_⟩
     ·unfold Pu.tx; rw [if_pos hs]; omega
     ·unfold Pu.hx; rw [if_pos hs]; omega
     ·unfold Pu.mu; rw [if_pos hs]
    rw [HX.out.1, HX.out.2.1, HX.out.2.2] at HCD
    rw [HX.out.2.1, HX.out.2.2] at HFD
    rw [HX.out.1, HX.out.2.1] at hga
    rw [HX.out.2.2] at hmu
    have HPUT : Hid (∀ w', Purse w' 131 p f → Purse ((((((((w'.setCell ⟨p, c * 8, none⟩ (.int .i64 (f (c * 8)))).setCell ⟨p, c * 8 + 1, none⟩ (.int .i64 (f (c * 8 + 1) + x.pr * x.q))).setCell ⟨p, c * 8 + 2, none⟩ (.int .i64 (f (c * 8 + 2)))).setCell ⟨p, c * 8 + 3, none⟩ (.int .i64 (f (c * 8 + 3)))).setCell ⟨p, c * 8 + 4, none⟩ (.int .i64 (f (c * 8 + 4)))).setCell ⟨p, c * 8 + 5, none⟩ (.int .i64 (f (c * 8 + 5)))).setCell ⟨p, c * 8 + 6, none⟩ (.int .i64 (f (c * 8 + 6)))).setCell ⟨p, c * 8 + 7, none⟩ (.int .i64 (f (c * 8 + 7)))) 131 p (Pu.add f (c * 8 + 1) (x.pr * x.q))) := fun w' h => by
     skip
     exact (h.put8 c _ _ _ _ _ _ _ _).congr fun j _ => put8_1 f c (x.pr * x.q) j
    obtain ⟨g0, g1, g2⟩ := hga
    obtain ⟨m0, m1⟩ := hmu
    have hsb : (x.sd == 0) = true := by simp [hs]
    clear HX hs
    generalize f (c * 8) = u0 at *
    generalize f (c * 8 + 1) = u1 at *
    generalize f (c * 8 + 2) = u2 at *
    generalize f (c * 8 + 3) = u3 at *
    generalize f (c * 8 + 4) = u4 at *
    generalize f (c * 8 + 5) = u5 at *
    generalize f (c * 8 + 6) = u6 at *
    generalize f (c * 8 + 7) = u7 at *
    generalize hm : x.pr * x.q = m at *
    have HBO : Hid (∀ o, Below w3.heap.size w3 (w3.alloc o)) := fun o => bal
    by_cases hpo : u0 - u1 < m
    ·have HA : Hid (Pu.holdC f k x = 9 ∧ Pu.holdF f k x = f) := by
      have e : Pu.holdC f k x = 9 := by rw [HCD.out, if_pos hpo]
      exact ⟨e, by rw [HFD.out, e]; rfl⟩
     simp only []
     go_wp2
     go_region
     go_wp2
     go_ret
     refine ⟨by rw [HA.out.1]; rfl, by rw [HA.out.2]; exact HP3.out.lat (by repeat (first | exact HBO.out _ | refine bdn ?_ _ | refine p_bd1 ?_ | refine Below.setCell (p := ⟨w3.heap.size, _, none⟩) ?_ (Nat.le_refl _) _)), Save.of_below (HB3.out.trans (Below.mono (by repeat (first | exact HBO.out _ | refine bdn ?_ _ | refine p_bd1 ?_ | refine Below.setCell (p := ⟨w3.heap.size, _, none⟩) ?_ (Nat.le_refl _) _)) HB3.out.size)) p⟩
    ·have HA : Hid (Pu.holdC f k x = 0 ∧ Pu.holdF f k x = Pu.add f (c * 8 + 1) (m)) := by
      have e : Pu.holdC f k x = 0 := by rw [HCD.out, if_neg hpo]
      exact ⟨e, by rw [HFD.out, e]; rfl⟩
     simp only []
     go_wp2
     go_region
     go_wp2
     refine region_quiet_tail 7 (by kernel_rfl) (by kernel_rfl) ?_
     simp only [List.take_succ_cons, List.take_zero, List.drop_succ_cons, List.drop_zero]
     repeat (first | go_big_quiet_step (fail) | quiet_step (fail))
     refine wpQuiet_nil ?_
     intro _ hw'
     obtain ⟨nq, hw''⟩ := hw'
     subst hw''
     go_wp2
     go_ret
     refine ⟨by rw [HA.out.1]; rfl, by rw [HA.out.2]; exact HPUT.out _ (HP3.out.lat (by repeat (first | exact HBO.out _ | refine bdn ?_ _ | refine p_bd1 ?_ | refine Below.setCell (p := ⟨w3.heap.size, _, none⟩) ?_ (Nat.le_refl _) _))), ?_⟩
     repeat (refine Save.set ?_ _ _)
     exact Save.of_below (HB3.out.trans (Below.mono (by repeat (first | exact HBO.out _ | refine bdn ?_ _ | refine p_bd1 ?_ | refine Below.setCell (p := ⟨w3.heap.size, _, none⟩) ?_ (Nat.le_refl _) _)) HB3.out.size)) p
   ·have hs1 : x.sd = 1 := by
     have := (Cv.ok_bounds (Pu.well_ok HOK.out)).2.2.1
     omega
    have hk3 : k = 0 ∨ k = 1 ∨ k = 2 := by omega
    rcases hk3 with rfl | rfl | rfl
    ·clear hs1 hki hk
     have HX : Hid (Pu.tx ((0 : Nat) : Int) x = c * 8 + 2 ∧ Pu.hx ((0 : Nat) : Int) x = c * 8 + 5 ∧ Pu.mu x = x.q) := by
      refine ⟨?_, ?_, ?_⟩
      ·unfold Pu.tx; rw [if_neg hs]; omega
      ·unfold Pu.hx; rw [if_neg hs]; omega
      ·unfold Pu.mu; rw [if_neg hs]
     rw [HX.out.1, HX.out.2.1, HX.out.2.2] at HCD
     rw [HX.out.2.1, HX.out.2.2] at HFD
     rw [HX.out.1, HX.out.2.1] at hga
     rw [HX.out.2.2] at hmu
     have HPUT : Hid (∀ w', Purse w' 131 p f → Purse ((((((((w'.setCell ⟨p, c * 8, none⟩ (.int .i64 (f (c * 8)))).setCell ⟨p, c * 8 + 1, none⟩ (.int .i64 (f (c * 8 + 1)))).setCell ⟨p, c * 8 + 2, none⟩ (.int .i64 (f (c * 8 + 2)))).setCell ⟨p, c * 8 + 3, none⟩ (.int .i64 (f (c * 8 + 3)))).setCell ⟨p, c * 8 + 4, none⟩ (.int .i64 (f (c * 8 + 4)))).setCell ⟨p, c * 8 + 5, none⟩ (.int .i64 (f (c * 8 + 5) + x.q))).setCell ⟨p, c * 8 + 6, none⟩ (.int .i64 (f (c * 8 + 6)))).setCell ⟨p, c * 8 + 7, none⟩ (.int .i64 (f (c * 8 + 7)))) 131 p (Pu.add f (c * 8 + 5) (x.q))) := fun w' h => by
      skip
      exact (h.put8 c _ _ _ _ _ _ _ _).congr fun j _ => put8_5 f c (x.q) j
     obtain ⟨g0, g1, g2⟩ := hga
     obtain ⟨m0, m1⟩ := hmu
     have hsb : (x.sd == 0) = false := by simp [hs]
     clear HX hs
     generalize f (c * 8) = u0 at *
     generalize f (c * 8 + 1) = u1 at *
     generalize f (c * 8 + 2) = u2 at *
     generalize f (c * 8 + 3) = u3 at *
     generalize f (c * 8 + 4) = u4 at *
     generalize f (c * 8 + 5) = u5 at *
     generalize f (c * 8 + 6) = u6 at *
     generalize f (c * 8 + 7) = u7 at *
     generalize hm : x.q = m at *
     have HBO : Hid (∀ o, Below w3.heap.size w3 (w3.alloc o)) := fun o => bal
     by_cases hpo : u2 - u5 < m
     ·have HA : Hid (Pu.holdC f ((0 : Nat) : Int) x = 9 ∧ Pu.holdF f ((0 : Nat) : Int) x = f) := by
       have e : Pu.holdC f ((0 : Nat) : Int) x = 9 := by rw [HCD.out, if_pos hpo]
       exact ⟨e, by rw [HFD.out, e]; rfl⟩
      simp only []
      go_wp2
      go_region
      go_wp2
      go_quiet (fail)
      go_wp2
      go_ret
      refine ⟨by rw [HA.out.1]; rfl, by rw [HA.out.2]; exact HP3.out.lat (by repeat (first | exact HBO.out _ | refine bdn ?_ _ | refine p_bd1 ?_ | refine Below.setCell (p := ⟨w3.heap.size, _, none⟩) ?_ (Nat.le_refl _) _)), Save.of_below (HB3.out.trans (Below.mono (by repeat (first | exact HBO.out _ | refine bdn ?_ _ | refine p_bd1 ?_ | refine Below.setCell (p := ⟨w3.heap.size, _, none⟩) ?_ (Nat.le_refl _) _)) HB3.out.size)) p⟩
     ·have HA : Hid (Pu.holdC f ((0 : Nat) : Int) x = 0 ∧ Pu.holdF f ((0 : Nat) : Int) x = Pu.add f (c * 8 + 5) (m)) := by
       have e : Pu.holdC f ((0 : Nat) : Int) x = 0 := by rw [HCD.out, if_neg hpo]
       exact ⟨e, by rw [HFD.out, e]; rfl⟩
      simp only []
      go_wp2
      go_region
      go_wp2
      go_quiet (fail)
      go_wp2
      refine region_quiet_tail 10 (by kernel_rfl) (by kernel_rfl) ?_
      simp only [List.take_succ_cons, List.take_zero, List.drop_succ_cons, List.drop_zero]
      repeat (first | go_big_quiet_step (fail) | quiet_step (fail))
      refine wpQuiet_nil ?_
      intro _ hw'
      obtain ⟨nq, hw''⟩ := hw'
      subst hw''
      go_wp2
      refine region_quiet_tail 7 (by kernel_rfl) (by kernel_rfl) ?_
      simp only [List.take_succ_cons, List.take_zero, List.drop_succ_cons, List.drop_zero]
      repeat (first | go_big_quiet_step (fail) | quiet_step (fail))
      refine wpQuiet_nil ?_
      intro _ hw'
      obtain ⟨nq, hw''⟩ := hw'
      subst hw''
      go_wp2
      go_ret
      refine ⟨by rw [HA.out.1]; rfl, by rw [HA.out.2]; exact HPUT.out _ (HP3.out.lat (by repeat (first | exact HBO.out _ | refine bdn ?_ _ | refine p_bd1 ?_ | refine Below.setCell (p := ⟨w3.heap.size, _, none⟩) ?_ (Nat.le_refl _) _))), ?_⟩
      repeat (refine Save.set ?_ _ _)
      exact Save.of_below (HB3.out.trans (Below.mono (by repeat (first | exact HBO.out _ | refine bdn ?_ _ | refine p_bd1 ?_ | refine Below.setCell (p := ⟨w3.heap.size, _, none⟩) ?_ (Nat.le_refl _) _)) HB3.out.size)) p
    ·clear hs1 hki hk
     have HX : Hid (Pu.tx ((1 : Nat) : Int) x = c * 8 + 3 ∧ Pu.hx ((1 : Nat) : Int) x = c * 8 + 6 ∧ Pu.mu x = x.q) := by
      refine ⟨?_, ?_, ?_⟩
      ·unfold Pu.tx; rw [if_neg hs]; omega
      ·unfold Pu.hx; rw [if_neg hs]; omega
      ·unfold Pu.mu; rw [if_neg hs]
     rw [HX.out.1, HX.out.2.1, HX.out.2.2] at HCD
     rw [HX.out.2.1, HX.out.2.2] at HFD
     rw [HX.out.1, HX.out.2.1] at hga
     rw [HX.out.2.2] at hmu
     have HPUT : Hid (∀ w', Purse w' 131 p f → Purse ((((((((w'.setCell ⟨p, c * 8, none⟩ (.int .i64 (f (c * 8)))).setCell ⟨p, c * 8 + 1, none⟩ (.int .i64 (f (c * 8 + 1)))).setCell ⟨p, c * 8 + 2, none⟩ (.int .i64 (f (c * 8 + 2)))).setCell ⟨p, c * 8 + 3, none⟩ (.int .i64 (f (c * 8 + 3)))).setCell ⟨p, c * 8 + 4, none⟩ (.int .i64 (f (c * 8 + 4)))).setCell ⟨p, c * 8 + 5, none⟩ (.int .i64 (f (c * 8 + 5)))).setCell ⟨p, c * 8 + 6, none⟩ (.int .i64 (f (c * 8 + 6) + x.q))).setCell ⟨p, c * 8 + 7, none⟩ (.int .i64 (f (c * 8 + 7)))) 131 p (Pu.add f (c * 8 + 6) (x.q))) := fun w' h => by
      skip
      exact (h.put8 c _ _ _ _ _ _ _ _).congr fun j _ => put8_6 f c (x.q) j
     obtain ⟨g0, g1, g2⟩ := hga
     obtain ⟨m0, m1⟩ := hmu
     have hsb : (x.sd == 0) = false := by simp [hs]
     clear HX hs
     generalize f (c * 8) = u0 at *
     generalize f (c * 8 + 1) = u1 at *
     generalize f (c * 8 + 2) = u2 at *
     generalize f (c * 8 + 3) = u3 at *
     generalize f (c * 8 + 4) = u4 at *
     generalize f (c * 8 + 5) = u5 at *
     generalize f (c * 8 + 6) = u6 at *
     generalize f (c * 8 + 7) = u7 at *
     generalize hm : x.q = m at *
     have HBO : Hid (∀ o, Below w3.heap.size w3 (w3.alloc o)) := fun o => bal
     by_cases hpo : u3 - u6 < m
     ·have HA : Hid (Pu.holdC f ((1 : Nat) : Int) x = 9 ∧ Pu.holdF f ((1 : Nat) : Int) x = f) := by
       have e : Pu.holdC f ((1 : Nat) : Int) x = 9 := by rw [HCD.out, if_pos hpo]
       exact ⟨e, by rw [HFD.out, e]; rfl⟩
      simp only []
      go_wp2
      go_region
      go_wp2
      go_quiet (fail)
      go_wp2
      go_ret
      refine ⟨by rw [HA.out.1]; rfl, by rw [HA.out.2]; exact HP3.out.lat (by repeat (first | exact HBO.out _ | refine bdn ?_ _ | refine p_bd1 ?_ | refine Below.setCell (p := ⟨w3.heap.size, _, none⟩) ?_ (Nat.le_refl _) _)), Save.of_below (HB3.out.trans (Below.mono (by repeat (first | exact HBO.out _ | refine bdn ?_ _ | refine p_bd1 ?_ | refine Below.setCell (p := ⟨w3.heap.size, _, none⟩) ?_ (Nat.le_refl _) _)) HB3.out.size)) p⟩
     ·have HA : Hid (Pu.holdC f ((1 : Nat) : Int) x = 0 ∧ Pu.holdF f ((1 : Nat) : Int) x = Pu.add f (c * 8 + 6) (m)) := by
       have e : Pu.holdC f ((1 : Nat) : Int) x = 0 := by rw [HCD.out, if_neg hpo]
       exact ⟨e, by rw [HFD.out, e]; rfl⟩
      simp only []
      go_wp2
      go_region
      go_wp2
      go_quiet (fail)
      go_wp2
      refine region_quiet_tail 10 (by kernel_rfl) (by kernel_rfl) ?_
      simp only [List.take_succ_cons, List.take_zero, List.drop_succ_cons, List.drop_zero]
      repeat (first | go_big_quiet_step (fail) | quiet_step (fail))
      refine wpQuiet_nil ?_
      intro _ hw'
      obtain ⟨nq, hw''⟩ := hw'
      subst hw''
      go_wp2
      refine region_quiet_tail 7 (by kernel_rfl) (by kernel_rfl) ?_
      simp only [List.take_succ_cons, List.take_zero, List.drop_succ_cons, List.drop_zero]
      repeat (first | go_big_quiet_step (fail) | quiet_step (fail))
      refine wpQuiet_nil ?_
      intro _ hw'
      obtain ⟨nq, hw''⟩ := hw'
      subst hw''
      go_wp2
      go_ret
      refine ⟨by rw [HA.out.1]; rfl, by rw [HA.out.2]; exact HPUT.out _ (HP3.out.lat (by repeat (first | exact HBO.out _ | refine bdn ?_ _ | refine p_bd1 ?_ | refine Below.setCell (p := ⟨w3.heap.size, _, none⟩) ?_ (Nat.le_refl _) _))), ?_⟩
      repeat (refine Save.set ?_ _ _)
      exact Save.of_below (HB3.out.trans (Below.mono (by repeat (first | exact HBO.out _ | refine bdn ?_ _ | refine p_bd1 ?_ | refine Below.setCell (p := ⟨w3.heap.size, _, none⟩) ?_ (Nat.le_refl _) _)) HB3.out.size)) p
    ·clear hs1 hki hk
     have HX : Hid (Pu.tx ((2 : Nat) : Int) x = c * 8 + 4 ∧ Pu.hx ((2 : Nat) : Int) x = c * 8 + 7 ∧ Pu.mu x = x.q) := by
      refine ⟨?_, ?_, ?_⟩
      ·unfold Pu.tx; rw [if_neg hs]; omega
      ·unfold Pu.hx; rw [if_neg hs]; omega
      ·unfold Pu.mu; rw [if_neg hs]
     rw [HX.out.1, HX.out.2.1, HX.out.2.2] at HCD
     rw [HX.out.2.1, HX.out.2.2] at HFD
     rw [HX.out.1, HX.out.2.1] at hga
     rw [HX.out.2.2] at hmu
     have HPUT : Hid (∀ w', Purse w' 131 p f → Purse ((((((((w'.setCell ⟨p, c * 8, none⟩ (.int .i64 (f (c * 8)))).setCell ⟨p, c * 8 + 1, none⟩ (.int .i64 (f (c * 8 + 1)))).setCell ⟨p, c * 8 + 2, none⟩ (.int .i64 (f (c * 8 + 2)))).setCell ⟨p, c * 8 + 3, none⟩ (.int .i64 (f (c * 8 + 3)))).setCell ⟨p, c * 8 + 4, none⟩ (.int .i64 (f (c * 8 + 4)))).setCell ⟨p, c * 8 + 5, none⟩ (.int .i64 (f (c * 8 + 5)))).setCell ⟨p, c * 8 + 6, none⟩ (.int .i64 (f (c * 8 + 6)))).setCell ⟨p, c * 8 + 7, none⟩ (.int .i64 (f (c * 8 + 7) + x.q))) 131 p (Pu.add f (c * 8 + 7) (x.q))) := fun w' h => by
      skip
      exact (h.put8 c _ _ _ _ _ _ _ _).congr fun j _ => put8_7 f c (x.q) j
     obtain ⟨g0, g1, g2⟩ := hga
     obtain ⟨m0, m1⟩ := hmu
     have hsb : (x.sd == 0) = false := by simp [hs]
     clear HX hs
     generalize f (c * 8) = u0 at *
     generalize f (c * 8 + 1) = u1 at *
     generalize f (c * 8 + 2) = u2 at *
     generalize f (c * 8 + 3) = u3 at *
     generalize f (c * 8 + 4) = u4 at *
     generalize f (c * 8 + 5) = u5 at *
     generalize f (c * 8 + 6) = u6 at *
     generalize f (c * 8 + 7) = u7 at *
     generalize hm : x.q = m at *
     have HBO : Hid (∀ o, Below w3.heap.size w3 (w3.alloc o)) := fun o => bal
     by_cases hpo : u4 - u7 < m
     ·have HA : Hid (Pu.holdC f ((2 : Nat) : Int) x = 9 ∧ Pu.holdF f ((2 : Nat) : Int) x = f) := by
       have e : Pu.holdC f ((2 : Nat) : Int) x = 9 := by rw [HCD.out, if_pos hpo]
       exact ⟨e, by rw [HFD.out, e]; rfl⟩
      simp only []
      go_wp2
      go_region
      go_wp2
      go_quiet (fail)
      go_wp2
      go_ret
      refine ⟨by rw [HA.out.1]; rfl, by rw [HA.out.2]; exact HP3.out.lat (by repeat (first | exact HBO.out _ | refine bdn ?_ _ | refine p_bd1 ?_ | refine Below.setCell (p := ⟨w3.heap.size, _, none⟩) ?_ (Nat.le_refl _) _)), Save.of_below (HB3.out.trans (Below.mono (by repeat (first | exact HBO.out _ | refine bdn ?_ _ | refine p_bd1 ?_ | refine Below.setCell (p := ⟨w3.heap.size, _, none⟩) ?_ (Nat.le_refl _) _)) HB3.out.size)) p⟩
     ·have HA : Hid (Pu.holdC f ((2 : Nat) : Int) x = 0 ∧ Pu.holdF f ((2 : Nat) : Int) x = Pu.add f (c * 8 + 7) (m)) := by
       have e : Pu.holdC f ((2 : Nat) : Int) x = 0 := by rw [HCD.out, if_neg hpo]
       exact ⟨e, by rw [HFD.out, e]; rfl⟩
      simp only []
      go_wp2
      go_region
      go_wp2
      go_quiet (fail)
      go_wp2
      refine region_quiet_tail 10 (by kernel_rfl) (by kernel_rfl) ?_
      simp only [List.take_succ_cons, List.take_zero, List.drop_succ_cons, List.drop_zero]
      repeat (first | go_big_quiet_step (fail) | quiet_step (fail))
      refine wpQuiet_nil ?_
      intro _ hw'
      obtain ⟨nq, hw''⟩ := hw'
      subst hw''
      go_wp2
      refine region_quiet_tail 7 (by kernel_rfl) (by kernel_rfl) ?_
      simp only [List.take_succ_cons, List.take_zero, List.drop_succ_cons, List.drop_zero]
      repeat (first | go_big_quiet_step (fail) | quiet_step (fail))
      refine wpQuiet_nil ?_
      intro _ hw'
      obtain ⟨nq, hw''⟩ := hw'
      subst hw''
      go_wp2
      go_ret
      refine ⟨by rw [HA.out.1]; rfl, by rw [HA.out.2]; exact HPUT.out _ (HP3.out.lat (by repeat (first | exact HBO.out _ | refine bdn ?_ _ | refine p_bd1 ?_ | refine Below.setCell (p := ⟨w3.heap.size, _, none⟩) ?_ (Nat.le_refl _) _))), ?_⟩
      repeat (refine Save.set ?_ _ _)
      exact Save.of_below (HB3.out.trans (Below.mono (by repeat (first | exact HBO.out _ | refine bdn ?_ _ | refine p_bd1 ?_ | refine Below.setCell (p := ⟨w3.heap.size, _, none⟩) ?_ (Nat.le_refl _) _)) HB3.out.size)) p

set_option maxHeartbeats 8000000 in
theorem mfree_any (p : Nat) (item : Int) (x : Cv.Lot) (f : Nat → Int) (w : World) (hp : Hid (Purse w 131 p f)) (hg : Hid (Pu.Good f)) :
  Calls Tryz.prog 66 #[.pointer (some ⟨p, 0, none⟩), .int .i64 item, lotV x] w fun e w' => e = .returned (.int .i64 (p_errNo (Pu.freeC f item x))) ∧ Purse w' 131 p (Pu.freeF f item x) ∧ Save w w' p := by
 show Calls Tryz.prog 66 #[.pointer (some ⟨p, 0, none⟩), .int .i64 item, .agg #[.int .i64 x.id, .int .i64 x.ow, .int .i64 x.sd, .int .i64 x.pr, .int .i64 x.q]] w _
 obtain ⟨W, hWd⟩ : ∃ W, w.alloc (.cells #[.int .i64 x.id, .int .i64 x.ow, .int .i64 x.sd, .int .i64 x.pr, .int .i64 x.q] 56) = W := ⟨_, rfl⟩
 have hb1 : Below w.heap.size w W := by rw [← hWd]; exact bal
 have hX0 : W.heap[w.heap.size]? = some (.cells (lotA x) 56 (0, 0)) := by rw [← hWd]; exact heap_alloc_new _ _
 have HX0 := hide hX0; have HBW := hide hb1; have HWd := hide hWd
 have HI := hide (isItem_any item W)
 clear hb1 hX0 hWd
 have HP1 := hide (hp.out.lat HBW.out)
 cases hin : Wi.withinB item 0 2 with
 | false =>
  have HA : Hid (Pu.freeC f item x = 1 ∧ Pu.freeF f item x = f) := by
   have e : Pu.freeC f item x = 1 := by unfold Pu.freeC Pu.well; rw [hin]; rfl
   exact ⟨e, by unfold Pu.freeF; rw [e]; rfl⟩
  rw [hin] at HI
  clear hin
  go_enter Tryz.func66, Tryz.ntmps66
  go_wp2_with fail
  rw [HWd.out]
  refine HI.out.mono ?_
  rintro e w2 ⟨rfl, rfl⟩
  simp only []
  go_wp2
  go_ret
  exact ⟨by rw [HA.out.1]; rfl, by rw [HA.out.2]; exact HP1.out, Save.of_below HBW.out p⟩
 | true =>
  rw [hin] at HI
  have HWI : Hid (Pu.well item x = Cv.ok x) := by show _ = _; unfold Pu.well; rw [hin]; rfl
  clear hin
  have HC := hide (lotError_any x W)
  unfold lotV at HC
  have d0 : W.cell? ⟨w.heap.size, 0, none⟩ = some (.int .i64 x.id) := p_hs_cell HX0.out rfl
  have d1 : W.cell? ⟨w.heap.size, 1, none⟩ = some (.int .i64 x.ow) := p_hs_cell HX0.out rfl
  have d2 : W.cell? ⟨w.heap.size, 2, none⟩ = some (.int .i64 x.sd) := p_hs_cell HX0.out rfl
  have d3 : W.cell? ⟨w.heap.size, 3, none⟩ = some (.int .i64 x.pr) := p_hs_cell HX0.out rfl
  have d4 : W.cell? ⟨w.heap.size, 4, none⟩ = some (.int .i64 x.q) := p_hs_cell HX0.out rfl
  go_enter Tryz.func66, Tryz.ntmps66
  go_wp2_with fail
  rw [HWd.out]
  refine HI.out.mono ?_
  rintro e w2 ⟨rfl, rfl⟩
  simp only []
  go_wp2_with fail
  refine HC.out.mono ?_
  rintro e w3 ⟨rfl, hb3⟩
  have HB3 : Hid (Below w.heap.size w w3) := HBW.out.trans (hb3.mono HBW.out.size)
  have HX3 : Hid (w3.heap[w.heap.size]? = some (.cells (lotA x) 56 (0, 0))) := rof hb3 HX0.out
  have HP3 := hide (HP1.out.lat hb3)
  clear hb3 HC HI HX0 HP1 HBW HWd d0 d1 d2 d3 d4
  cases hok : Cv.ok x with
  | false =>
   have HA : Hid (Pu.freeC f item x = 1 ∧ Pu.freeF f item x = f) := by
    have e : Pu.freeC f item x = 1 := by unfold Pu.freeC; rw [HWI.out, hok]; rfl
    exact ⟨e, by unfold Pu.freeF; rw [e]; rfl⟩
   rw [show lotE x = 2 by unfold lotE; rw [hok]; rfl]
   clear hok
   simp only []
   go_wp2
   go_ret
   exact ⟨by rw [HA.out.1]; rfl, by rw [HA.out.2]; exact HP3.out, Save.of_below HB3.out p⟩
  | true =>
   rw [show lotE x = 0 by unfold lotE; rw [hok]; rfl]
   have HOK : Hid (Pu.well item x = true) := HWI.out.trans hok
   clear hok HWI
   obtain ⟨k, rfl, hk⟩ := Pu.well_item HOK.out
   obtain ⟨c, hc, hc6⟩ := Pu.well_ow HOK.out
   have hci : (c : Int) < 6 := by omega
   have hki : (k : Int) < 3 := by omega
   have d1 : w3.cell? ⟨w.heap.size, 1, none⟩ = some (.int .i64 c) := by rw [← hc]; exact p_hs_cell HX3.out rfl
   have d2 : w3.cell? ⟨w.heap.size, 2, none⟩ = some (.int .i64 x.sd) := p_hs_cell HX3.out rfl
   have d3 : w3.cell? ⟨w.heap.size, 3, none⟩ = some (.int .i64 x.pr) := p_hs_cell HX3.out rfl
   have d4 : w3.cell? ⟨w.heap.size, 4, none⟩ = some (.int .i64 x.q) := p_hs_cell HX3.out rfl
   have c0 := HP3.out.cell (i := c * 8) (by omega)
   have c1 := HP3.out.cell (i := c * 8 + 1) (by omega)
   have c2 := HP3.out.cell (i := c * 8 + 2) (by omega)
   have c3 := HP3.out.cell (i := c * 8 + 3) (by omega)
   have c4 := HP3.out.cell (i := c * 8 + 4) (by omega)
   have c5 := HP3.out.cell (i := c * 8 + 5) (by omega)
   have c6 := HP3.out.cell (i := c * 8 + 6) (by omega)
   have c7 := HP3.out.cell (i := c * 8 + 7) (by omega)
   have hpl : p < w3.heap.size := HP3.out.lt
   have hwl : w.heap.size < w3.heap.size := lt_of_block HX3.out
   have HCD : Hid (Pu.freeC f k x = if f (Pu.hx k x) < Pu.mu x then 9 else 0) := by show _ = _; unfold Pu.freeC; rw [if_pos HOK.out]
   have HFD : Hid (Pu.freeF f k x = if Pu.freeC f k x = 0 then Pu.add f (Pu.hx k x) (-(Pu.mu x)) else f) := rfl
   have hmu := Pu.mu_bounds (Pu.well_ok HOK.out)
   have hga := Pu.good_at hg.out HOK.out
   have f0 := HP3.out.frozen (c * 8)
   have f1 := HP3.out.frozen (c * 8 + 1)
   have f2 := HP3.out.frozen (c * 8 + 2)
   have f3 := HP3.out.frozen (c * 8 + 3)
   have f4 := HP3.out.frozen (c * 8 + 4)
   have f5 := HP3.out.frozen (c * 8 + 5)
   have f6 := HP3.out.frozen (c * 8 + 6)
   have f7 := HP3.out.frozen (c * 8 + 7)
   by_cases hs : x.sd = 0
   ·have HX : Hid (Pu.tx k x = c * 8 ∧ Pu.hx k x = c * 8 + 1 ∧ Pu.mu x = x.pr * x.q) := by
     refine ⟨?_, ?_, ?_⟩
     ·unfold Pu.tx; rw [if_pos hs]; omega
     ·unfold Pu.hx; rw [if_pos hs]; omega
     ·unfold Pu.mu; rw [if_pos hs]
    rw [HX.out.2.1, HX.out.2.2] at HCD
    rw [HX.out.2.1, HX.out.2.2] at HFD
    rw [HX.out.1, HX.out.2.1] at hga
    rw [HX.out.2.2] at hmu
    have HPUT : Hid (∀ w', Purse w' 131 p f → Purse ((((((((w'.setCell ⟨p, c * 8, none⟩ (.int .i64 (f (c * 8)))).setCell ⟨p, c * 8 + 1, none⟩ (.int .i64 (f (c * 8 + 1) - x.pr * x.q))).setCell ⟨p, c * 8 + 2, none⟩ (.int .i64 (f (c * 8 + 2)))).setCell ⟨p, c * 8 + 3, none⟩ (.int .i64 (f (c * 8 + 3)))).setCell ⟨p, c * 8 + 4, none⟩ (.int .i64 (f (c * 8 + 4)))).setCell ⟨p, c * 8 + 5, none⟩ (.int .i64 (f (c * 8 + 5)))).setCell ⟨p, c * 8 + 6, none⟩ (.int .i64 (f (c * 8 + 6)))).setCell ⟨p, c * 8 + 7, none⟩ (.int .i64 (f (c * 8 + 7)))) 131 p (Pu.add f (c * 8 + 1) (-(x.pr * x.q)))) := fun w' h => by
     rw [Int.sub_eq_add_neg]
     exact (h.put8 c _ _ _ _ _ _ _ _).congr fun j _ => put8_1 f c (-(x.pr * x.q)) j
    obtain ⟨g0, g1, g2⟩ := hga
    obtain ⟨m0, m1⟩ := hmu
    have hsb : (x.sd == 0) = true := by simp [hs]
    clear HX hs
    generalize f (c * 8) = u0 at *
    generalize f (c * 8 + 1) = u1 at *
    generalize f (c * 8 + 2) = u2 at *
    generalize f (c * 8 + 3) = u3 at *
    generalize f (c * 8 + 4) = u4 at *
    generalize f (c * 8 + 5) = u5 at *
    generalize f (c * 8 + 6) = u6 at *
    generalize f (c * 8 + 7) = u7 at *
    generalize hm : x.pr * x.q = m at *
    have HBO : Hid (∀ o, Below w3.heap.size w3 (w3.alloc o)) := fun o => bal
    by_cases hpo : u1 < m
    ·have HA : Hid (Pu.freeC f k x = 9 ∧ Pu.freeF f k x = f) := by
      have e : Pu.freeC f k x = 9 := by rw [HCD.out, if_pos hpo]
      exact ⟨e, by rw [HFD.out, e]; rfl⟩
     simp only []
     go_wp2
     go_region
     go_wp2
     go_ret
     refine ⟨by rw [HA.out.1]; rfl, by rw [HA.out.2]; exact HP3.out.lat (by repeat (first | exact HBO.out _ | refine bdn ?_ _ | refine p_bd1 ?_ | refine Below.setCell (p := ⟨w3.heap.size, _, none⟩) ?_ (Nat.le_refl _) _)), Save.of_below (HB3.out.trans (Below.mono (by repeat (first | exact HBO.out _ | refine bdn ?_ _ | refine p_bd1 ?_ | refine Below.setCell (p := ⟨w3.heap.size, _, none⟩) ?_ (Nat.le_refl _) _)) HB3.out.size)) p⟩
    ·have HA : Hid (Pu.freeC f k x = 0 ∧ Pu.freeF f k x = Pu.add f (c * 8 + 1) (-m)) := by
      have e : Pu.freeC f k x = 0 := by rw [HCD.out, if_neg hpo]
      exact ⟨e, by rw [HFD.out, e]; rfl⟩
     simp only []
     go_wp2
     go_region
     go_wp2
     refine region_quiet_tail 7 (by kernel_rfl) (by kernel_rfl) ?_
     simp only [List.take_succ_cons, List.take_zero, List.drop_succ_cons, List.drop_zero]
     repeat (first | go_big_quiet_step (fail) | quiet_step (fail))
     refine wpQuiet_nil ?_
     intro _ hw'
     obtain ⟨nq, hw''⟩ := hw'
     subst hw''
     go_wp2
     go_ret
     refine ⟨by rw [HA.out.1]; rfl, by rw [HA.out.2]; exact HPUT.out _ (HP3.out.lat (by repeat (first | exact HBO.out _ | refine bdn ?_ _ | refine p_bd1 ?_ | refine Below.setCell (p := ⟨w3.heap.size, _, none⟩) ?_ (Nat.le_refl _) _))), ?_⟩
     repeat (refine Save.set ?_ _ _)
     exact Save.of_below (HB3.out.trans (Below.mono (by repeat (first | exact HBO.out _ | refine bdn ?_ _ | refine p_bd1 ?_ | refine Below.setCell (p := ⟨w3.heap.size, _, none⟩) ?_ (Nat.le_refl _) _)) HB3.out.size)) p
   ·have hs1 : x.sd = 1 := by
     have := (Cv.ok_bounds (Pu.well_ok HOK.out)).2.2.1
     omega
    have hk3 : k = 0 ∨ k = 1 ∨ k = 2 := by omega
    rcases hk3 with rfl | rfl | rfl
    ·clear hs1 hki hk
     have HX : Hid (Pu.tx ((0 : Nat) : Int) x = c * 8 + 2 ∧ Pu.hx ((0 : Nat) : Int) x = c * 8 + 5 ∧ Pu.mu x = x.q) := by
      refine ⟨?_, ?_, ?_⟩
      ·unfold Pu.tx; rw [if_neg hs]; omega
      ·unfold Pu.hx; rw [if_neg hs]; omega
      ·unfold Pu.mu; rw [if_neg hs]
     rw [HX.out.2.1, HX.out.2.2] at HCD
     rw [HX.out.2.1, HX.out.2.2] at HFD
     rw [HX.out.1, HX.out.2.1] at hga
     rw [HX.out.2.2] at hmu
     have HPUT : Hid (∀ w', Purse w' 131 p f → Purse ((((((((w'.setCell ⟨p, c * 8, none⟩ (.int .i64 (f (c * 8)))).setCell ⟨p, c * 8 + 1, none⟩ (.int .i64 (f (c * 8 + 1)))).setCell ⟨p, c * 8 + 2, none⟩ (.int .i64 (f (c * 8 + 2)))).setCell ⟨p, c * 8 + 3, none⟩ (.int .i64 (f (c * 8 + 3)))).setCell ⟨p, c * 8 + 4, none⟩ (.int .i64 (f (c * 8 + 4)))).setCell ⟨p, c * 8 + 5, none⟩ (.int .i64 (f (c * 8 + 5) - x.q))).setCell ⟨p, c * 8 + 6, none⟩ (.int .i64 (f (c * 8 + 6)))).setCell ⟨p, c * 8 + 7, none⟩ (.int .i64 (f (c * 8 + 7)))) 131 p (Pu.add f (c * 8 + 5) (-(x.q)))) := fun w' h => by
      rw [Int.sub_eq_add_neg]
      exact (h.put8 c _ _ _ _ _ _ _ _).congr fun j _ => put8_5 f c (-(x.q)) j
     obtain ⟨g0, g1, g2⟩ := hga
     obtain ⟨m0, m1⟩ := hmu
     have hsb : (x.sd == 0) = false := by simp [hs]
     clear HX hs
     generalize f (c * 8) = u0 at *
     generalize f (c * 8 + 1) = u1 at *
     generalize f (c * 8 + 2) = u2 at *
     generalize f (c * 8 + 3) = u3 at *
     generalize f (c * 8 + 4) = u4 at *
     generalize f (c * 8 + 5) = u5 at *
     generalize f (c * 8 + 6) = u6 at *
     generalize f (c * 8 + 7) = u7 at *
     generalize hm : x.q = m at *
     have HBO : Hid (∀ o, Below w3.heap.size w3 (w3.alloc o)) := fun o => bal
     by_cases hpo : u5 < m
     ·have HA : Hid (Pu.freeC f ((0 : Nat) : Int) x = 9 ∧ Pu.freeF f ((0 : Nat) : Int) x = f) := by
       have e : Pu.freeC f ((0 : Nat) : Int) x = 9 := by rw [HCD.out, if_pos hpo]
       exact ⟨e, by rw [HFD.out, e]; rfl⟩
      simp only []
      go_wp2
      go_region
      go_wp2
      go_quiet (fail)
      go_wp2
      go_ret
      refine ⟨by rw [HA.out.1]; rfl, by rw [HA.out.2]; exact HP3.out.lat (by repeat (first | exact HBO.out _ | refine bdn ?_ _ | refine p_bd1 ?_ | refine Below.setCell (p := ⟨w3.heap.size, _, none⟩) ?_ (Nat.le_refl _) _)), Save.of_below (HB3.out.trans (Below.mono (by repeat (first | exact HBO.out _ | refine bdn ?_ _ | refine p_bd1 ?_ | refine Below.setCell (p := ⟨w3.heap.size, _, none⟩) ?_ (Nat.le_refl _) _)) HB3.out.size)) p⟩
     ·have HA : Hid (Pu.freeC f ((0 : Nat) : Int) x = 0 ∧ Pu.freeF f ((0 : Nat) : Int) x = Pu.add f (c * 8 + 5) (-m)) := by
       have e : Pu.freeC f ((0 : Nat) : Int) x = 0 := by rw [HCD.out, if_neg hpo]
       exact ⟨e, by rw [HFD.out, e]; rfl⟩
      simp only []
      go_wp2
      go_region
      go_wp2
      go_quiet (fail)
      go_wp2
      refine region_quiet_tail 10 (by kernel_rfl) (by kernel_rfl) ?_
      simp only [List.take_succ_cons, List.take_zero, List.drop_succ_cons, List.drop_zero]
      repeat (first | go_big_quiet_step (fail) | quiet_step (fail))
      refine wpQuiet_nil ?_
      intro _ hw'
      obtain ⟨nq, hw''⟩ := hw'
      subst hw''
      go_wp2
      refine region_quiet_tail 7 (by kernel_rfl) (by kernel_rfl) ?_
      simp only [List.take_succ_cons, List.take_zero, List.drop_succ_cons, List.drop_zero]
      repeat (first | go_big_quiet_step (fail) | quiet_step (fail))
      refine wpQuiet_nil ?_
      intro _ hw'
      obtain ⟨nq, hw''⟩ := hw'
      subst hw''
      go_wp2
      go_ret
      refine ⟨by rw [HA.out.1]; rfl, by rw [HA.out.2]; exact HPUT.out _ (HP3.out.lat (by repeat (first | exact HBO.out _ | refine bdn ?_ _ | refine p_bd1 ?_ | refine Below.setCell (p := ⟨w3.heap.size, _, none⟩) ?_ (Nat.le_refl _) _))), ?_⟩
      repeat (refine Save.set ?_ _ _)
      exact Save.of_below (HB3.out.trans (Below.mono (by repeat (first | exact HBO.out _ | refine bdn ?_ _ | refine p_bd1 ?_ | refine Below.setCell (p := ⟨w3.heap.size, _, none⟩) ?_ (Nat.le_refl _) _)) HB3.out.size)) p
    ·clear hs1 hki hk
     have HX : Hid (Pu.tx ((1 : Nat) : Int) x = c * 8 + 3 ∧ Pu.hx ((1 : Nat) : Int) x = c * 8 + 6 ∧ Pu.mu x = x.q) := by
      refine ⟨?_, ?_, ?_⟩
      ·unfold Pu.tx; rw [if_neg hs]; omega
      ·unfold Pu.hx; rw [if_neg hs]; omega
      ·unfold Pu.mu; rw [if_neg hs]
     rw [HX.out.2.1, HX.out.2.2] at HCD
     rw [HX.out.2.1, HX.out.2.2] at HFD
     rw [HX.out.1, HX.out.2.1] at hga
     rw [HX.out.2.2] at hmu
     have HPUT : Hid (∀ w', Purse w' 131 p f → Purse ((((((((w'.setCell ⟨p, c * 8, none⟩ (.int .i64 (f (c * 8)))).setCell ⟨p, c * 8 + 1, none⟩ (.int .i64 (f (c * 8 + 1)))).setCell ⟨p, c * 8 + 2, none⟩ (.int .i64 (f (c * 8 + 2)))).setCell ⟨p, c * 8 + 3, none⟩ (.int .i64 (f (c * 8 + 3)))).setCell ⟨p, c * 8 + 4, none⟩ (.int .i64 (f (c * 8 + 4)))).setCell ⟨p, c * 8 + 5, none⟩ (.int .i64 (f (c * 8 + 5)))).setCell ⟨p, c * 8 + 6, none⟩ (.int .i64 (f (c * 8 + 6) - x.q))).setCell ⟨p, c * 8 + 7, none⟩ (.int .i64 (f (c * 8 + 7)))) 131 p (Pu.add f (c * 8 + 6) (-(x.q)))) := fun w' h => by
      rw [Int.sub_eq_add_neg]
      exact (h.put8 c _ _ _ _ _ _ _ _).congr fun j _ => put8_6 f c (-(x.q)) j
     obtain ⟨g0, g1, g2⟩ := hga
     obtain ⟨m0, m1⟩ := hmu
     have hsb : (x.sd == 0) = false := by simp [hs]
     clear HX hs
     generalize f (c * 8) = u0 at *
     generalize f (c * 8 + 1) = u1 at *
     generalize f (c * 8 + 2) = u2 at *
     generalize f (c * 8 + 3) = u3 at *
     generalize f (c * 8 + 4) = u4 at *
     generalize f (c * 8 + 5) = u5 at *
     generalize f (c * 8 + 6) = u6 at *
     generalize f (c * 8 + 7) = u7 at *
     generalize hm : x.q = m at *
     have HBO : Hid (∀ o, Below w3.heap.size w3 (w3.alloc o)) := fun o => bal
     by_cases hpo : u6 < m
     ·have HA : Hid (Pu.freeC f ((1 : Nat) : Int) x = 9 ∧ Pu.freeF f ((1 : Nat) : Int) x = f) := by
       have e : Pu.freeC f ((1 : Nat) : Int) x = 9 := by rw [HCD.out, if_pos hpo]
       exact ⟨e, by rw [HFD.out, e]; rfl⟩
      simp only []
      go_wp2
      go_region
      go_wp2
      go_quiet (fail)
      go_wp2
      go_ret
      refine ⟨by rw [HA.out.1]; rfl, by rw [HA.out.2]; exact HP3.out.lat (by repeat (first | exact HBO.out _ | refine bdn ?_ _ | refine p_bd1 ?_ | refine Below.setCell (p := ⟨w3.heap.size, _, none⟩) ?_ (Nat.le_refl _) _)), Save.of_below (HB3.out.trans (Below.mono (by repeat (first | exact HBO.out _ | refine bdn ?_ _ | refine p_bd1 ?_ | refine Below.setCell (p := ⟨w3.heap.size, _, none⟩) ?_ (Nat.le_refl _) _)) HB3.out.size)) p⟩
     ·have HA : Hid (Pu.freeC f ((1 : Nat) : Int) x = 0 ∧ Pu.freeF f ((1 : Nat) : Int) x = Pu.add f (c * 8 + 6) (-m)) := by
       have e : Pu.freeC f ((1 : Nat) : Int) x = 0 := by rw [HCD.out, if_neg hpo]
       exact ⟨e, by rw [HFD.out, e]; rfl⟩
      simp only []
      go_wp2
      go_region
      go_wp2
      go_quiet (fail)
      go_wp2
      refine region_quiet_tail 10 (by kernel_rfl) (by kernel_rfl) ?_
      simp only [List.take_succ_cons, List.take_zero, List.drop_succ_cons, List.drop_zero]
      repeat (first | go_big_quiet_step (fail) | quiet_step (fail))
      refine wpQuiet_nil ?_
      intro _ hw'
      obtain ⟨nq, hw''⟩ := hw'
      subst hw''
      go_wp2
      refine region_quiet_tail 7 (by kernel_rfl) (by kernel_rfl) ?_
      simp only [List.take_succ_cons, List.take_zero, List.drop_succ_cons, List.drop_zero]
      repeat (first | go_big_quiet_step (fail) | quiet_step (fail))
      refine wpQuiet_nil ?_
      intro _ hw'
      obtain ⟨nq, hw''⟩ := hw'
      subst hw''
      go_wp2
      go_ret
      refine ⟨by rw [HA.out.1]; rfl, by rw [HA.out.2]; exact HPUT.out _ (HP3.out.lat (by repeat (first | exact HBO.out _ | refine bdn ?_ _ | refine p_bd1 ?_ | refine Below.setCell (p := ⟨w3.heap.size, _, none⟩) ?_ (Nat.le_refl _) _))), ?_⟩
      repeat (refine Save.set ?_ _ _)
      exact Save.of_below (HB3.out.trans (Below.mono (by repeat (first | exact HBO.out _ | refine bdn ?_ _ | refine p_bd1 ?_ | refine Below.setCell (p := ⟨w3.heap.size, _, none⟩) ?_ (Nat.le_refl _) _)) HB3.out.size)) p
    ·clear hs1 hki hk
     have HX : Hid (Pu.tx ((2 : Nat) : Int) x = c * 8 + 4 ∧ Pu.hx ((2 : Nat) : Int) x = c * 8 + 7 ∧ Pu.mu x = x.q) := by
      refine ⟨?_, ?_, ?_⟩
      ·unfold Pu.tx; rw [if_neg hs]; omega
      ·unfold Pu.hx; rw [if_neg hs]; omega
      ·unfold Pu.mu; rw [if_neg hs]
     rw [HX.out.2.1, HX.out.2.2] at HCD
     rw [HX.out.2.1, HX.out.2.2] at HFD
     rw [HX.out.1, HX.out.2.1] at hga
     rw [HX.out.2.2] at hmu
     have HPUT : Hid (∀ w', Purse w' 131 p f → Purse ((((((((w'.setCell ⟨p, c * 8, none⟩ (.int .i64 (f (c * 8)))).setCell ⟨p, c * 8 + 1, none⟩ (.int .i64 (f (c * 8 + 1)))).setCell ⟨p, c * 8 + 2, none⟩ (.int .i64 (f (c * 8 + 2)))).setCell ⟨p, c * 8 + 3, none⟩ (.int .i64 (f (c * 8 + 3)))).setCell ⟨p, c * 8 + 4, none⟩ (.int .i64 (f (c * 8 + 4)))).setCell ⟨p, c * 8 + 5, none⟩ (.int .i64 (f (c * 8 + 5)))).setCell ⟨p, c * 8 + 6, none⟩ (.int .i64 (f (c * 8 + 6)))).setCell ⟨p, c * 8 + 7, none⟩ (.int .i64 (f (c * 8 + 7) - x.q))) 131 p (Pu.add f (c * 8 + 7) (-(x.q)))) := fun w' h => by
      rw [Int.sub_eq_add_neg]
      exact (h.put8 c _ _ _ _ _ _ _ _).congr fun j _ => put8_7 f c (-(x.q)) j
     obtain ⟨g0, g1, g2⟩ := hga
     obtain ⟨m0, m1⟩ := hmu
     have hsb : (x.sd == 0) = false := by simp [hs]
     clear HX hs
     generalize f (c * 8) = u0 at *
     generalize f (c * 8 + 1) = u1 at *
     generalize f (c * 8 + 2) = u2 at *
     generalize f (c * 8 + 3) = u3 at *
     generalize f (c * 8 + 4) = u4 at *
     generalize f (c * 8 + 5) = u5 at *
     generalize f (c * 8 + 6) = u6 at *
     generalize f (c * 8 + 7) = u7 at *
     generalize hm : x.q = m at *
     have HBO : Hid (∀ o, Below w3.heap.size w3 (w3.alloc o)) := fun o => bal
     by_cases hpo : u7 < m
     ·have HA : Hid (Pu.freeC f ((2 : Nat) : Int) x = 9 ∧ Pu.freeF f ((2 : Nat) : Int) x = f) := by
       have e : Pu.freeC f ((2 : Nat) : Int) x = 9 := by rw [HCD.out, if_pos hpo]
       exact ⟨e, by rw [HFD.out, e]; rfl⟩
      simp only []
      go_wp2
      go_region
      go_wp2
      go_quiet (fail)
      go_wp2
      go_ret
      refine ⟨by rw [HA.out.1]; rfl, by rw [HA.out.2]; exact HP3.out.lat (by repeat (first | exact HBO.out _ | refine bdn ?_ _ | refine p_bd1 ?_ | refine Below.setCell (p := ⟨w3.heap.size, _, none⟩) ?_ (Nat.le_refl _) _)), Save.of_below (HB3.out.trans (Below.mono (by repeat (first | exact HBO.out _ | refine bdn ?_ _ | refine p_bd1 ?_ | refine Below.setCell (p := ⟨w3.heap.size, _, none⟩) ?_ (Nat.le_refl _) _)) HB3.out.size)) p⟩
     ·have HA : Hid (Pu.freeC f ((2 : Nat) : Int) x = 0 ∧ Pu.freeF f ((2 : Nat) : Int) x = Pu.add f (c * 8 + 7) (-m)) := by
       have e : Pu.freeC f ((2 : Nat) : Int) x = 0 := by rw [HCD.out, if_neg hpo]
       exact ⟨e, by rw [HFD.out, e]; rfl⟩
      simp only []
      go_wp2
      go_region
      go_wp2
      go_quiet (fail)
      go_wp2
      refine region_quiet_tail 10 (by kernel_rfl) (by kernel_rfl) ?_
      simp only [List.take_succ_cons, List.take_zero, List.drop_succ_cons, List.drop_zero]
      repeat (first | go_big_quiet_step (fail) | quiet_step (fail))
      refine wpQuiet_nil ?_
      intro _ hw'
      obtain ⟨nq, hw''⟩ := hw'
      subst hw''
      go_wp2
      refine region_quiet_tail 7 (by kernel_rfl) (by kernel_rfl) ?_
      simp only [List.take_succ_cons, List.take_zero, List.drop_succ_cons, List.drop_zero]
      repeat (first | go_big_quiet_step (fail) | quiet_step (fail))
      refine wpQuiet_nil ?_
      intro _ hw'
      obtain ⟨nq, hw''⟩ := hw'
      subst hw''
      go_wp2
      go_ret
      refine ⟨by rw [HA.out.1]; rfl, by rw [HA.out.2]; exact HPUT.out _ (HP3.out.lat (by repeat (first | exact HBO.out _ | refine bdn ?_ _ | refine p_bd1 ?_ | refine Below.setCell (p := ⟨w3.heap.size, _, none⟩) ?_ (Nat.le_refl _) _))), ?_⟩
      repeat (refine Save.set ?_ _ _)
      exact Save.of_below (HB3.out.trans (Below.mono (by repeat (first | exact HBO.out _ | refine bdn ?_ _ | refine p_bd1 ?_ | refine Below.setCell (p := ⟨w3.heap.size, _, none⟩) ?_ (Nat.le_refl _) _)) HB3.out.size)) p
theorem bset {w w' : World} (h : Below w.heap.size w w') (o : Nat) (v : Value) : Below w.heap.size w (w'.setCell ⟨w.heap.size, o, none⟩ v) := h.setCell (Nat.le_refl _) v

set_option maxHeartbeats 8000000 in
theorem mgive_any (p : Nat) (g : Pu.Gift) (f : Nat → Int) (w : World) (hp : Hid (Purse w 131 p f)) (hg : Hid (Pu.Good f)) :
  Calls Tryz.prog 59 #[.pointer (some ⟨p, 0, none⟩), .int .i64 g.n, .int .i64 g.cash, giftV g] w fun e w' => e = .returned (.int .i64 (p_errNo (Pu.giveC f g))) ∧ Purse w' 131 p (Pu.giveF f g) ∧ Save w w' p := by
 show Calls Tryz.prog 59 #[.pointer (some ⟨p, 0, none⟩), .int .i64 g.n, .int .i64 g.cash, .agg #[.int .i64 g.s0, .int .i64 g.s1, .int .i64 g.s2]] w _
 obtain ⟨W, hWd⟩ : ∃ W, w.alloc (.cells #[.int .i64 g.s0, .int .i64 g.s1, .int .i64 g.s2] 41) = W := ⟨_, rfl⟩
 have hb1 : Below w.heap.size w W := by rw [← hWd]; exact bal
 have hX0 : W.heap[w.heap.size]? = some (.cells #[.int .i64 g.s0, .int .i64 g.s1, .int .i64 g.s2] 41 (0, 0)) := by rw [← hWd]; exact heap_alloc_new _ _
 have x0 : W.cell? ⟨w.heap.size, 0, none⟩ = some (.int .i64 g.s0) := p_hs_cell hX0 rfl
 have x1 : W.cell? ⟨w.heap.size, 1, none⟩ = some (.int .i64 g.s1) := p_hs_cell hX0 rfl
 have x2 : W.cell? ⟨w.heap.size, 2, none⟩ = some (.int .i64 g.s2) := p_hs_cell hX0 rfl
 have HBW := hide hb1; have HWd := hide hWd
 have HI := hide (isCl_any g.n W)
 have HP1 := hide (hp.out.lat hb1)
 have hwl : w.heap.size < W.heap.size := lt_of_block hX0
 have hpl : p < W.heap.size := HP1.out.lt
 have hpw : p < w.heap.size := hp.out.lt
 have HBD : Hid (g.fine = false → Pu.giveC f g = 1 ∧ Pu.giveF f g = f) := fun h => by
  have e : Pu.giveC f g = 1 := by unfold Pu.giveC; rw [h]; rfl
  exact ⟨e, by unfold Pu.giveF; rw [e]; rfl⟩
 clear hb1 hX0 hWd
 cases hin : Wi.withinB g.n 0 5 with
 | false =>
  have HA := hide (HBD.out (by unfold Pu.Gift.fine; rw [hin]; rfl))
  rw [hin] at HI
  clear hin
  go_enter Tryz.func59, Tryz.ntmps59
  go_wp2_with fail
  rw [HWd.out]
  refine HI.out.mono ?_
  rintro e w2 ⟨rfl, rfl⟩
  simp only []
  go_wp2
  go_ret
  exact ⟨by rw [HA.out.1]; rfl, by rw [HA.out.2]; exact HP1.out, Save.of_below HBW.out p⟩
 | true =>
  rw [hin] at HI
  have Hin := hide hin
  clear hin
  have HNG : Hid (g.neg = true → Pu.giveC f g = 1 ∧ Pu.giveF f g = f) := fun h => HBD.out (by unfold Pu.Gift.fine; rw [h]; simp)
  have HNE : Hid (g.neg = (decide (g.s0 < 0) || decide (g.s1 < 0) || decide (g.s2 < 0) || decide (g.cash < 0))) := rfl
  by_cases hca : g.cash < 0
  ·have HA := hide (HNG.out (by rw [HNE.out]; simp [hca]))
   go_enter Tryz.func59, Tryz.ntmps59
   go_wp2_with fail
   rw [HWd.out]
   refine HI.out.mono ?_
   rintro e w2 ⟨rfl, rfl⟩
   simp only []
   go_wp2
   go_ret
   exact ⟨by rw [HA.out.1]; rfl, by rw [HA.out.2]; exact HP1.out, Save.of_below HBW.out p⟩
  by_cases hn0 : g.s0 < 0
  ·have HA := hide (HNG.out (by rw [HNE.out]; simp [hn0]))
   go_enter Tryz.func59, Tryz.ntmps59
   go_wp2_with fail
   rw [HWd.out]
   refine HI.out.mono ?_
   rintro e w2 ⟨rfl, rfl⟩
   simp only []
   go_wp2
   refine wp_loop_rounds 1 ?_
   rw [rounds_succ]
   go_wp2
   go_ret
   exact ⟨by rw [HA.out.1]; rfl, by rw [HA.out.2]; exact HP1.out, Save.of_below HBW.out p⟩
  by_cases hn1 : g.s1 < 0
  ·have HA := hide (HNG.out (by rw [HNE.out]; simp [hn1]))
   go_enter Tryz.func59, Tryz.ntmps59
   go_wp2_with fail
   rw [HWd.out]
   refine HI.out.mono ?_
   rintro e w2 ⟨rfl, rfl⟩
   simp only []
   go_wp2
   refine wp_loop_rounds 2 ?_
   rw [rounds_succ]
   go_wp2
   rw [rounds_succ]
   go_wp2
   go_ret
   exact ⟨by rw [HA.out.1]; rfl, by rw [HA.out.2]; exact HP1.out, Save.of_below HBW.out p⟩
  by_cases hn2 : g.s2 < 0
  ·have HA := hide (HNG.out (by rw [HNE.out]; simp [hn2]))
   go_enter Tryz.func59, Tryz.ntmps59
   go_wp2_with fail
   rw [HWd.out]
   refine HI.out.mono ?_
   rintro e w2 ⟨rfl, rfl⟩
   simp only []
   go_wp2
   refine wp_loop_rounds 3 ?_
   rw [rounds_succ]
   go_wp2
   rw [rounds_succ]
   go_wp2
   rw [rounds_succ]
   go_wp2
   go_ret
   exact ⟨by rw [HA.out.1]; rfl, by rw [HA.out.2]; exact HP1.out, Save.of_below HBW.out p⟩
  have HF : Hid (g.fine = true) := by show _ = _; unfold Pu.Gift.fine; rw [Hin.out, HNE.out]; simp [hca, hn0, hn1, hn2]
  obtain ⟨c, hc, hc6⟩ : ∃ c : Nat, g.n = c ∧ c < 6 := by
   have := Hin.out
   simp only [Wi.withinB, Bool.and_eq_true, decide_eq_true_eq] at this
   exact ⟨g.n.toNat, by omega, by omega⟩
  have hci : (c : Int) < 6 := by omega
  have g1 := hg.out.cash c hc6
  have g2 := hg.out.stock c 0 hc6 (by decide)
  have g3 := hg.out.stock c 1 hc6 (by decide)
  have g4 := hg.out.stock c 2 hc6 (by decide)
  simp only [Nat.add_zero, Nat.add_assoc, Nat.reduceAdd] at g1 g2 g3 g4
  rw [hc] at HI ⊢
  have HPU : Hid (∀ w', Purse w' 131 p f →
    Purse ((((((((w'.setCell ⟨p, c * 8, none⟩ (.int .i64 (f (c * 8) + g.cash))).setCell ⟨p, c * 8 + 1, none⟩ (.int .i64 (f (c * 8 + 1)))).setCell ⟨p, c * 8 + 2, none⟩ (.int .i64 (f (c * 8 + 2) + g.s0))).setCell ⟨p, c * 8 + 3, none⟩ (.int .i64 (f (c * 8 + 3) + g.s1))).setCell ⟨p, c * 8 + 4, none⟩ (.int .i64 (f (c * 8 + 4) + g.s2))).setCell ⟨p, c * 8 + 5, none⟩ (.int .i64 (f (c * 8 + 5)))).setCell ⟨p, c * 8 + 6, none⟩ (.int .i64 (f (c * 8 + 6)))).setCell ⟨p, c * 8 + 7, none⟩ (.int .i64 (f (c * 8 + 7)))) 131 p
     (Pu.add (Pu.add (Pu.add (Pu.add f (c * 8) g.cash) (c * 8 + 2) g.s0) (c * 8 + 3) g.s1) (c * 8 + 4) g.s2)) := fun w' h => (h.put8 c _ _ _ _ _ _ _ _).congr fun j _ => put8_give _ _ _ _ j
  have HOV : Hid (g.over f = (decide (1099511627776 - f (c * 8) < g.cash) || decide (1073741824 - f (c * 8 + 2) < g.s0) || decide (1073741824 - f (c * 8 + 3) < g.s1) || decide (1073741824 - f (c * 8 + 4) < g.s2))) := by
   show _ = _; unfold Pu.Gift.over; rw [hc, Int.toNat_natCast]
  have HFU : Hid (g.over f = true → Pu.giveC f g = 7 ∧ Pu.giveF f g = f) := fun h => by
   have e : Pu.giveC f g = 7 := by unfold Pu.giveC; rw [if_pos HF.out, if_pos h]
   exact ⟨e, by unfold Pu.giveF; rw [e]; rfl⟩
  have HZE : Hid (g.over f = false → Pu.giveC f g = 0 ∧ Pu.giveF f g = Pu.add (Pu.add (Pu.add (Pu.add f (c * 8) g.cash) (c * 8 + 2) g.s0) (c * 8 + 3) g.s1) (c * 8 + 4) g.s2) := fun h => by
   have e : Pu.giveC f g = 0 := by unfold Pu.giveC; rw [if_pos HF.out, if_neg (by rw [h]; simp)]
   exact ⟨e, by unfold Pu.giveF; rw [if_pos e, hc, Int.toNat_natCast]⟩
  have c0 := HP1.out.cell (i := c * 8) (by omega)
  have c1 := HP1.out.cell (i := c * 8 + 1) (by omega)
  have c2 := HP1.out.cell (i := c * 8 + 2) (by omega)
  have c3 := HP1.out.cell (i := c * 8 + 3) (by omega)
  have c4 := HP1.out.cell (i := c * 8 + 4) (by omega)
  have c5 := HP1.out.cell (i := c * 8 + 5) (by omega)
  have c6 := HP1.out.cell (i := c * 8 + 6) (by omega)
  have c7 := HP1.out.cell (i := c * 8 + 7) (by omega)
  have f0 := HP1.out.frozen (c * 8)
  have f1 := HP1.out.frozen (c * 8 + 1)
  have f2 := HP1.out.frozen (c * 8 + 2)
  have f3 := HP1.out.frozen (c * 8 + 3)
  have f4 := HP1.out.frozen (c * 8 + 4)
  have f5 := HP1.out.frozen (c * 8 + 5)
  have f6 := HP1.out.frozen (c * 8 + 6)
  have f7 := HP1.out.frozen (c * 8 + 7)
  generalize f (c * 8) = u0 at *
  generalize f (c * 8 + 1) = u1 at *
  generalize f (c * 8 + 2) = u2 at *
  generalize f (c * 8 + 3) = u3 at *
  generalize f (c * 8 + 4) = u4 at *
  generalize f (c * 8 + 5) = u5 at *
  generalize f (c * 8 + 6) = u6 at *
  generalize f (c * 8 + 7) = u7 at *
  generalize hca' : g.cash = ca at *
  generalize hs0' : g.s0 = s0 at *
  generalize hs1' : g.s1 = s1 at *
  generalize hs2' : g.s2 = s2 at *
  clear hca' hs0' hs1' hs2' HBD HNG HNE
  have HBO : Hid (∀ o, Below W.heap.size W (W.alloc o)) := fun o => bal
  go_enter Tryz.func59, Tryz.ntmps59
  go_wp2_with fail
  rw [HWd.out]
  refine HI.out.mono ?_
  rintro e w2 ⟨rfl, rfl⟩
  simp only []
  go_wp2
  refine wp_loop_rounds 4 ?_
  rw [rounds_succ]
  go_wp2
  rw [rounds_succ]
  go_wp2
  rw [rounds_succ]
  go_wp2
  rw [rounds_succ]
  by_cases o0 : 1099511627776 - u0 < ca
  ·have HO : Hid (g.over f = true) := by show _ = _; rw [HOV.out]; simp [o0]
   go_wp2
   go_ret
   refine ⟨by rw [(HFU.out HO.out).1]; rfl, by rw [(HFU.out HO.out).2]; exact HP1.out.lat (by repeat (first | exact HBO.out _ | refine bdn ?_ _ | refine p_bd1 ?_ | refine bset ?_ _ _)), Save.of_below (HBW.out.trans (Below.mono (by repeat (first | exact HBO.out _ | refine bdn ?_ _ | refine p_bd1 ?_ | refine bset ?_ _ _)) HBW.out.size)) p⟩
  go_wp2
  refine wp_loop_rounds 4 ?_
  by_cases o1 : 1073741824 - u2 < s0
  ·have HO : Hid (g.over f = true) := by show _ = _; rw [HOV.out]; simp [o1]
   rw [rounds_succ]
   go_wp2
   go_quiet (fail)
   go_wp2
   go_ret
   refine ⟨by rw [(HFU.out HO.out).1]; rfl, by rw [(HFU.out HO.out).2]; exact HP1.out.lat (by repeat (first | exact HBO.out _ | refine bdn ?_ _ | refine p_bd1 ?_ | refine bset ?_ _ _)), Save.of_below (HBW.out.trans (Below.mono (by repeat (first | exact HBO.out _ | refine bdn ?_ _ | refine p_bd1 ?_ | refine bset ?_ _ _)) HBW.out.size)) p⟩
  rw [rounds_succ]
  go_wp2
  go_quiet (fail)
  go_wp2
  refine region_quiet_tail 11 (by kernel_rfl) (by kernel_rfl) ?_
  simp only [List.take_succ_cons, List.take_zero, List.drop_succ_cons, List.drop_zero]
  repeat (first | go_big_quiet_step (fail) | quiet_step (fail))
  refine wpQuiet_nil ?_
  intro _ hw'
  obtain ⟨nq, hw''⟩ := hw'
  subst hw''
  go_wp2
  by_cases o2 : 1073741824 - u3 < s1
  ·have HO : Hid (g.over f = true) := by show _ = _; rw [HOV.out]; simp [o2]
   rw [rounds_succ]
   go_wp2
   go_quiet (fail)
   go_wp2
   go_ret
   refine ⟨by rw [(HFU.out HO.out).1]; rfl, by rw [(HFU.out HO.out).2]; exact HP1.out.lat (by repeat (first | exact HBO.out _ | refine bdn ?_ _ | refine p_bd1 ?_ | refine bset ?_ _ _)), Save.of_below (HBW.out.trans (Below.mono (by repeat (first | exact HBO.out _ | refine bdn ?_ _ | refine p_bd1 ?_ | refine bset ?_ _ _)) HBW.out.size)) p⟩
  rw [rounds_succ]
  go_wp2
  go_quiet (fail)
  go_wp2
  refine region_quiet_tail 11 (by kernel_rfl) (by kernel_rfl) ?_
  simp only [List.take_succ_cons, List.take_zero, List.drop_succ_cons, List.drop_zero]
  repeat (first | go_big_quiet_step (fail) | quiet_step (fail))
  refine wpQuiet_nil ?_
  intro _ hw'
  obtain ⟨nq, hw''⟩ := hw'
  subst hw''
  go_wp2
  by_cases o3 : 1073741824 - u4 < s2
  ·have HO : Hid (g.over f = true) := by show _ = _; rw [HOV.out]; simp [o3]
   rw [rounds_succ]
   go_wp2
   go_quiet (fail)
   go_wp2
   go_ret
   refine ⟨by rw [(HFU.out HO.out).1]; rfl, by rw [(HFU.out HO.out).2]; exact HP1.out.lat (by repeat (first | exact HBO.out _ | refine bdn ?_ _ | refine p_bd1 ?_ | refine bset ?_ _ _)), Save.of_below (HBW.out.trans (Below.mono (by repeat (first | exact HBO.out _ | refine bdn ?_ _ | refine p_bd1 ?_ | refine bset ?_ _ _)) HBW.out.size)) p⟩
  rw [rounds_succ]
  go_wp2
  go_quiet (fail)
  go_wp2
  refine region_quiet_tail 11 (by kernel_rfl) (by kernel_rfl) ?_
  simp only [List.take_succ_cons, List.take_zero, List.drop_succ_cons, List.drop_zero]
  repeat (first | go_big_quiet_step (fail) | quiet_step (fail))
  refine wpQuiet_nil ?_
  intro _ hw'
  obtain ⟨nq, hw''⟩ := hw'
  subst hw''
  go_wp2
  rw [rounds_succ]
  go_wp2
  refine region_quiet_tail 6 (by kernel_rfl) (by kernel_rfl) ?_
  simp only [List.take_succ_cons, List.take_zero, List.drop_succ_cons, List.drop_zero]
  repeat (first | go_big_quiet_step (fail) | quiet_step (fail))
  refine wpQuiet_nil ?_
  intro _ hw'
  obtain ⟨nq, hw''⟩ := hw'
  subst hw''
  go_wp2
  go_ret
  have HO : Hid (g.over f = false) := by
   show _ = _
   rw [HOV.out]
   simp only [Bool.or_eq_false_iff, decide_eq_false_iff_not]
   omega
  refine ⟨by rw [(HZE.out HO.out).1]; rfl, by rw [(HZE.out HO.out).2]; exact HPU.out _ (HP1.out.lat (by repeat (first | exact HBO.out _ | refine bdn ?_ _ | refine p_bd1 ?_ | refine bset ?_ _ _))), ?_⟩
  repeat (refine Save.set ?_ _ _)
  exact Save.of_below (HBW.out.trans (Below.mono (by repeat (first | exact HBO.out _ | refine bdn ?_ _ | refine p_bd1 ?_ | refine bset ?_ _ _)) HBW.out.size)) p
theorem dl_bound (i : Nat) (v : Int) (j : Nat) (m : Int) (h : -m ≤ v) (h' : v ≤ m) (hm : 0 ≤ m) : -m ≤ Pu.dl i v j ∧ Pu.dl i v j ≤ m := by
 unfold Pu.dl; split <;> omega
def bF (f : Nat → Int) (b k : Nat) (H A Q : Int) : Nat → Int := Pu.add (Pu.add (Pu.add f (b * 8 + 1) (-H)) (b * 8) (-A)) (b * 8 + 2 + k) Q
def sF (f : Nat → Int) (s k : Nat) (A Q : Int) : Nat → Int := Pu.add (Pu.add (Pu.add f (s * 8 + 5 + k) (-Q)) (s * 8 + 2 + k) (-Q)) (s * 8) A
theorem near (f : Nat → Int) (b k : Nat) (H A Q : Int) (h1 : 1 ≤ H) (h2 : H ≤ 1000000) (h3 : 1 ≤ A) (h4 : A ≤ 1000000) (h5 : 1 ≤ Q) (h6 : Q ≤ 1000000) (j : Nat) : f j - 3000000 ≤ bF f b k H A Q j ∧ bF f b k H A Q j ≤ f j + 3000000 := by
 unfold bF
 rw [Pu.add_dl, Pu.add_dl, Pu.add_dl]
 have a := dl_bound (b * 8 + 1) (-H) j 1000000 (by omega) (by omega) (by omega)
 have c := dl_bound (b * 8) (-A) j 1000000 (by omega) (by omega) (by omega)
 have d := dl_bound (b * 8 + 2 + k) Q j 1000000 (by omega) (by omega) (by omega)
 omega
theorem six_two (f : Nat → Int) (b s k : Nat) (bp price qty : Int) : sF (bF f b k (bp * qty) (price * qty) qty) s k (price * qty) qty = Pu.six f b s k bp price qty := by
 funext j
 simp only [sF, bF, Pu.six, Pu.add_dl]
 omega
theorem store29 {w : World} {B : Nat} {old new : Array Value} (h : w.heap[B]? = some (.cells old 128 (0, 0))) (ho : old.size = 8) (hn : new.size = 8) (h1 : new.all (·.oneCell') = true) : (storeVar 128 ⟨B, 0, none⟩ (.agg new)).run Tryz.prog w = .ok () (w.setRow B new) :=
 run_storeVar_row w B 128 128 old new h (by rw [hn]; kernel_rfl) (by rw [ho, hn]) h1
theorem wpList_store29 {ops : Array Oper} {rest : List Oper} {op : Oper} {a : Act} {w : World} {Q : Exit → Act → World → Prop} {B : Nat} {old new : Array Value} (W' : World) (h : w.heap[B]? = some (.cells old 128 (0, 0))) (ho : old.size = 8) (hn : new.size = 8) (h1 : new.all (·.oneCell') = true) (hW : w.setRow B new = W') (hgd : op.guard = none) (x y : Operand) (hop : op.op = .store 128 x y)
  (hx : a.eval x = .pointer (some ⟨B, 0, none⟩)) (hy : a.eval y = .agg new) (k : wpList Tryz.prog ops Q rest (a.put op.dst undef) W') : wpList Tryz.prog ops Q (op :: rest) a w :=
 wpList_plain hgd fun _ hK => by
  unfold Oper.wp execOp
  simp only [hop, hx, hy, Instr.storeAt, Instr.sureAddr, Sem.run_bind, Sem.run_pure, Result.andThen_ok, store29 h ho hn h1]
  subst hW
  exact hK _ _ k
theorem put8b_0 (f : Nat → Int) (c : Nat) (H A Q : Int) (j : Nat) : (if j = c * 8 + 7 then f (c * 8 + 7) else (if j = c * 8 + 6 then f (c * 8 + 6) else (if j = c * 8 + 5 then f (c * 8 + 5) else (if j = c * 8 + 4 then f (c * 8 + 4) else (if j = c * 8 + 3 then f (c * 8 + 3) else (if j = c * 8 + 2 then f (c * 8 + 2) + Q else (if j = c * 8 + 1 then f (c * 8 + 1) - H else (if j = c * 8 then f (c * 8) - A else f j)))))))) = bF f c 0 H A Q j := by
 show _ = Pu.add (Pu.add (Pu.add f (c * 8 + 1) (-H)) (c * 8) (-A)) (c * 8 + 2) Q j
 simp only [Pu.add, Int.sub_eq_add_neg]
 by_cases h7 : j = c * 8 + 7
 ·subst h7; simp
 by_cases h6 : j = c * 8 + 6
 ·subst h6; simp
 by_cases h5 : j = c * 8 + 5
 ·subst h5; simp
 by_cases h4 : j = c * 8 + 4
 ·subst h4; simp
 by_cases h3 : j = c * 8 + 3
 ·subst h3; simp
 by_cases h2 : j = c * 8 + 2
 ·subst h2; simp
 by_cases h1 : j = c * 8 + 1
 ·subst h1; simp
 by_cases h0 : j = c * 8
 ·subst h0; simp
 simp [h0, h1, h2, h3, h4, h5, h6, h7]
theorem put8s_0 (f : Nat → Int) (c : Nat) (A Q : Int) (j : Nat) : (if j = c * 8 + 7 then f (c * 8 + 7) else (if j = c * 8 + 6 then f (c * 8 + 6) else (if j = c * 8 + 5 then f (c * 8 + 5) - Q else (if j = c * 8 + 4 then f (c * 8 + 4) else (if j = c * 8 + 3 then f (c * 8 + 3) else (if j = c * 8 + 2 then f (c * 8 + 2) - Q else (if j = c * 8 + 1 then f (c * 8 + 1) else (if j = c * 8 then f (c * 8) + A else f j)))))))) = sF f c 0 A Q j := by
 show _ = Pu.add (Pu.add (Pu.add f (c * 8 + 5) (-Q)) (c * 8 + 2) (-Q)) (c * 8) A j
 simp only [Pu.add, Int.sub_eq_add_neg]
 by_cases h7 : j = c * 8 + 7
 ·subst h7; simp
 by_cases h6 : j = c * 8 + 6
 ·subst h6; simp
 by_cases h5 : j = c * 8 + 5
 ·subst h5; simp
 by_cases h4 : j = c * 8 + 4
 ·subst h4; simp
 by_cases h3 : j = c * 8 + 3
 ·subst h3; simp
 by_cases h2 : j = c * 8 + 2
 ·subst h2; simp
 by_cases h1 : j = c * 8 + 1
 ·subst h1; simp
 by_cases h0 : j = c * 8
 ·subst h0; simp
 simp [h0, h1, h2, h3, h4, h5, h6, h7]
theorem put8b_1 (f : Nat → Int) (c : Nat) (H A Q : Int) (j : Nat) : (if j = c * 8 + 7 then f (c * 8 + 7) else (if j = c * 8 + 6 then f (c * 8 + 6) else (if j = c * 8 + 5 then f (c * 8 + 5) else (if j = c * 8 + 4 then f (c * 8 + 4) else (if j = c * 8 + 3 then f (c * 8 + 3) + Q else (if j = c * 8 + 2 then f (c * 8 + 2) else (if j = c * 8 + 1 then f (c * 8 + 1) - H else (if j = c * 8 then f (c * 8) - A else f j)))))))) = bF f c 1 H A Q j := by
 show _ = Pu.add (Pu.add (Pu.add f (c * 8 + 1) (-H)) (c * 8) (-A)) (c * 8 + 3) Q j
 simp only [Pu.add, Int.sub_eq_add_neg]
 by_cases h7 : j = c * 8 + 7
 ·subst h7; simp
 by_cases h6 : j = c * 8 + 6
 ·subst h6; simp
 by_cases h5 : j = c * 8 + 5
 ·subst h5; simp
 by_cases h4 : j = c * 8 + 4
 ·subst h4; simp
 by_cases h3 : j = c * 8 + 3
 ·subst h3; simp
 by_cases h2 : j = c * 8 + 2
 ·subst h2; simp
 by_cases h1 : j = c * 8 + 1
 ·subst h1; simp
 by_cases h0 : j = c * 8
 ·subst h0; simp
 simp [h0, h1, h2, h3, h4, h5, h6, h7]
theorem put8s_1 (f : Nat → Int) (c : Nat) (A Q : Int) (j : Nat) : (if j = c * 8 + 7 then f (c * 8 + 7) else (if j = c * 8 + 6 then f (c * 8 + 6) - Q else (if j = c * 8 + 5 then f (c * 8 + 5) else (if j = c * 8 + 4 then f (c * 8 + 4) else (if j = c * 8 + 3 then f (c * 8 + 3) - Q else (if j = c * 8 + 2 then f (c * 8 + 2) else (if j = c * 8 + 1 then f (c * 8 + 1) else (if j = c * 8 then f (c * 8) + A else f j)))))))) = sF f c 1 A Q j := by
 show _ = Pu.add (Pu.add (Pu.add f (c * 8 + 6) (-Q)) (c * 8 + 3) (-Q)) (c * 8) A j
 simp only [Pu.add, Int.sub_eq_add_neg]
 by_cases h7 : j = c * 8 + 7
 ·subst h7; simp
 by_cases h6 : j = c * 8 + 6
 ·subst h6; simp
 by_cases h5 : j = c * 8 + 5
 ·subst h5; simp
 by_cases h4 : j = c * 8 + 4
 ·subst h4; simp
 by_cases h3 : j = c * 8 + 3
 ·subst h3; simp
 by_cases h2 : j = c * 8 + 2
 ·subst h2; simp
 by_cases h1 : j = c * 8 + 1
 ·subst h1; simp
 by_cases h0 : j = c * 8
 ·subst h0; simp
 simp [h0, h1, h2, h3, h4, h5, h6, h7]
theorem put8b_2 (f : Nat → Int) (c : Nat) (H A Q : Int) (j : Nat) : (if j = c * 8 + 7 then f (c * 8 + 7) else (if j = c * 8 + 6 then f (c * 8 + 6) else (if j = c * 8 + 5 then f (c * 8 + 5) else (if j = c * 8 + 4 then f (c * 8 + 4) + Q else (if j = c * 8 + 3 then f (c * 8 + 3) else (if j = c * 8 + 2 then f (c * 8 + 2) else (if j = c * 8 + 1 then f (c * 8 + 1) - H else (if j = c * 8 then f (c * 8) - A else f j)))))))) = bF f c 2 H A Q j := by
 show _ = Pu.add (Pu.add (Pu.add f (c * 8 + 1) (-H)) (c * 8) (-A)) (c * 8 + 4) Q j
 simp only [Pu.add, Int.sub_eq_add_neg]
 by_cases h7 : j = c * 8 + 7
 ·subst h7; simp
 by_cases h6 : j = c * 8 + 6
 ·subst h6; simp
 by_cases h5 : j = c * 8 + 5
 ·subst h5; simp
 by_cases h4 : j = c * 8 + 4
 ·subst h4; simp
 by_cases h3 : j = c * 8 + 3
 ·subst h3; simp
 by_cases h2 : j = c * 8 + 2
 ·subst h2; simp
 by_cases h1 : j = c * 8 + 1
 ·subst h1; simp
 by_cases h0 : j = c * 8
 ·subst h0; simp
 simp [h0, h1, h2, h3, h4, h5, h6, h7]
theorem put8s_2 (f : Nat → Int) (c : Nat) (A Q : Int) (j : Nat) : (if j = c * 8 + 7 then f (c * 8 + 7) - Q else (if j = c * 8 + 6 then f (c * 8 + 6) else (if j = c * 8 + 5 then f (c * 8 + 5) else (if j = c * 8 + 4 then f (c * 8 + 4) - Q else (if j = c * 8 + 3 then f (c * 8 + 3) else (if j = c * 8 + 2 then f (c * 8 + 2) else (if j = c * 8 + 1 then f (c * 8 + 1) else (if j = c * 8 then f (c * 8) + A else f j)))))))) = sF f c 2 A Q j := by
 show _ = Pu.add (Pu.add (Pu.add f (c * 8 + 7) (-Q)) (c * 8 + 4) (-Q)) (c * 8) A j
 simp only [Pu.add, Int.sub_eq_add_neg]
 by_cases h7 : j = c * 8 + 7
 ·subst h7; simp
 by_cases h6 : j = c * 8 + 6
 ·subst h6; simp
 by_cases h5 : j = c * 8 + 5
 ·subst h5; simp
 by_cases h4 : j = c * 8 + 4
 ·subst h4; simp
 by_cases h3 : j = c * 8 + 3
 ·subst h3; simp
 by_cases h2 : j = c * 8 + 2
 ·subst h2; simp
 by_cases h1 : j = c * 8 + 1
 ·subst h1; simp
 by_cases h0 : j = c * 8
 ·subst h0; simp
 simp [h0, h1, h2, h3, h4, h5, h6, h7]
theorem eq27 (d : Nat) (a b c a' b' c' : Int) (w : World) : (Op.equalIn (d + 2) 41 (.agg #[.int .i64 a, .int .i64 b, .int .i64 c]) (.agg #[.int .i64 a', .int .i64 b', .int .i64 c'])).run Tryz.prog w = .ok (a == a' && (b == b' && c == c')) w := by
 rw [show d + 2 = (d + 1) + 1 from rfl, Op.equalIn]
 simp [run_underlying Tryz.underlying41, go_sem, List.range']
 by_cases h1 : a = a' <;> by_cases h2 : b = b' <;> by_cases h3 : c = c' <;> simp [h1, h2, h3]
theorem eql27 (a b c a' b' c' : Int) (w : World) : (binOp .eql 41 (.agg #[.int .i64 a, .int .i64 b, .int .i64 c]) (.agg #[.int .i64 a', .int .i64 b', .int .i64 c'])).run Tryz.prog w = .ok (.bool (a == a' && (b == b' && c == c'))) w := by
 rw [run_eql_struct, eq27 9998]
 rfl
theorem sizeR_any (n : Int) (w : World) (h1 : -1000000 ≤ n) (h2 : n ≤ 1000000) : Calls Tryz.prog 106 #[.int .i64 n] w fun e w' => e = .returned (.int .i64 (Cv.size n)) ∧ w' = w := by
 go_enter Tryz.func106, Tryz.ntmps106
 go_wp2
 all_goals go_ret
 all_goals exact ⟨ret_int (by unfold Cv.size; omega), rfl⟩

def Tb (w : World) (B : Nat) (f : Nat → Int) : Prop := w.heap[B]? = some (.cells (row f) 3 (0, 0))
theorem Tb.cell {w : World} {B : Nat} {f : Nat → Int} (h : Tb w B f) {i : Nat} (hi : i < 1001) : w.cell? ⟨B, i, none⟩ = some (.int .i64 (f i)) := by
 rw [cell_of_row w B i _ _ _ h, row_at f hi]
theorem Tb.frozen {w : World} {B : Nat} {f : Nat → Int} (h : Tb w B f) (i : Nat) : w.frozen? ⟨B, i, none⟩ = false := by
 simp [World.frozen?, show w.heap[B]? = _ from h]
theorem Tb.lt {w : World} {B : Nat} {f : Nat → Int} (h : Tb w B f) : B < w.heap.size := (Array.getElem?_eq_some_iff.1 h).1
theorem Tb.set {w : World} {B : Nat} {f : Nat → Int} (h : Tb w B f) (i : Nat) (v : Int) : Tb (w.setCell ⟨B, i, none⟩ (.int .i64 v)) B (fun j => if j = i then v else f j) := by
 unfold Tb at h ⊢
 rw [setCell_eq_setRow w B i _ _ _ _ h, row_set]
 exact setRow_heap w B _ _ _ _ h
theorem Tb.congr {w : World} {B : Nat} {f g : Nat → Int} (h : Tb w B f) (e : ∀ i, i < 1001 → f i = g i) : Tb w B g := by
 unfold Tb at h ⊢; rw [← row_congr e]; exact h
theorem Tb.other {w : World} {B : Nat} {f : Nat → Int} (h : Tb w B f) {a : Addr} (ha : B ≠ a.block) (v : Value) : Tb (w.setCell a v) B f :=
 (Below.heap_setCell w a v B ha).trans h
theorem Tb.alloc {w : World} {B : Nat} {f : Nat → Int} (h : Tb w B f) (o : Obj) : Tb (w.alloc o) B f := (Below.heap_alloc w o B h.lt).trans h
theorem Tb.new (w : World) : Tb (w.alloc (.cells (Array.replicate 1001 (.int .i64 0)) 3)) w.heap.size (fun _ => 0) := by
 unfold Tb; rw [row_zero]; exact heap_alloc_last w _

def tabF (g : Int → Int) (q i : Nat) : Int := if 0 < i ∧ i < q then g i else 0
theorem tabF_one (g : Int → Int) (i : Nat) : (0 : Int) = tabF g 1 i := by unfold tabF; rw [if_neg (by omega)]
theorem tabF_step (g : Int → Int) {q : Nat} (hq : 1 ≤ q) (i : Nat) : (if i = q then g q else tabF g q i) = tabF g (q + 1) i := by
 unfold tabF
 by_cases e : i = q
 ·subst e; rw [if_pos rfl, if_pos (by omega)]
 ·rw [if_neg e]
  by_cases h : 0 < i ∧ i < q
  ·rw [if_pos h, if_pos (by omega)]
  ·rw [if_neg h, if_neg (by omega)]
theorem tabF_at (g : Int → Int) {q : Nat} (h1 : 1 ≤ q) (h2 : q ≤ 1000) : tabF g 1001 q = g q := by unfold tabF; rw [if_pos (by omega)]

theorem make1001 (w : World) : (Instr.makeSlice 144 (.int .i64 1001) (.int .i64 1001)).run Tryz.prog w = .ok (.slice (some ⟨w.heap.size, 0, none⟩) 1001 1001) (w.alloc (.cells (row fun _ => 0) 3)) := by
 obtain ⟨i, hi, hz, hs, hb⟩ : ∃ i, Tryz.prog.info? 3 = some i ∧ i.zero = some (.int .i64 0) ∧ i.size = 1 ∧ i.bytes = 8 := ⟨_, rfl, rfl, rfl, rfl⟩
 have h := run_makeSlice (P := Tryz.prog) w 144 3 i (.int .i64 0) Tryz.underlying144 hi hz .i64 .i64 1001 1001 (by omega) (by omega) (by rw [hs]; decide) (by rw [hb]; omega) (by omega)
 rw [hs] at h
 have e : madeCells (Value.int .i64 0).cells ((1001 : Int).toNat * 1) = row fun _ => 0 := by
  rw [row_zero]
  apply Array.ext'
  rw [show (Value.int .i64 0).cells = #[.int .i64 0] from rfl, toList_madeCells_one]
  simp
 rw [e] at h
 exact h
theorem Tb.new' (w : World) (f : Nat → Int) : Tb (w.alloc (.cells (row f) 3)) w.heap.size f := heap_alloc_last w _

set_option maxHeartbeats 2000000 in
theorem priceOf_some (a : Option Addr) (n cap : Nat) (l : List Cv.Lot) (ref : Int) (w : World) (hok : Hid (Cv.Well l)) (hr1 : 1 ≤ ref) (hr2 : ref ≤ 1000)
  (HD : Hid (∀ W (p : Int), Below w.heap.size w W → Calls Tryz.prog 104 #[.slice a n cap, .int .i64 p] W fun e w' => e = .returned (.int .i64 (Cv.demand l p)) ∧ w' = W))
  (HSu : Hid (∀ W (p : Int), Below w.heap.size w W → Calls Tryz.prog 105 #[.slice a n cap, .int .i64 p] W fun e w' => e = .returned (.int .i64 (Cv.supply l p)) ∧ w' = W)) :
  Calls Tryz.prog 68 #[.slice a n cap, .int .i64 ref] w fun e w' => (∃ p vol, e = .returned (.tuple #[.int .i64 p, .int .i64 vol]) ∧ Cv.Won l ref 1000 p vol) ∧ Below w.heap.size w w' := by
 have hmk := make1001
 go_enter Tryz.func68, Tryz.ntmps68
 go_wp2_with fail
 have TV : Hid (Tb ((w.alloc (.cells (row fun _ => 0) 3)).alloc (.cells (row fun _ => 0) 3)) w.heap.size (tabF (Cv.volume l) 1)) := ((Tb.new' w _).alloc _).congr fun i _ => tabF_one _ i
 have TS : Hid (Tb ((w.alloc (.cells (row fun _ => 0) 3)).alloc (.cells (row fun _ => 0) 3)) (w.heap.size + 1) (tabF (Cv.left l) 1)) := by
  have := Tb.new' (w.alloc (.cells (row fun _ => 0) 3)) (fun _ => 0)
  rw [show (w.alloc (.cells (row fun _ => 0) 3)).heap.size = w.heap.size + 1 by simp] at this
  exact this.congr fun i _ => tabF_one _ i
 have HB0 : Hid (Below w.heap.size w ((w.alloc (.cells (row fun _ => 0) 3)).alloc (.cells (row fun _ => 0) 3))) := (bal).alloc (by simp) _
 clear hmk
 generalize (w.alloc (.cells (row fun _ => 0) 3)).alloc (.cells (row fun _ => 0) 3) = w0 at *
 go_loopw [8, 9, 10, 11] (fun mo i _ _ wr => ∃ (q : Nat) (m : Int), (1 ≤ q ∧ q ≤ 1001) ∧ i = .int .i64 q ∧ mo = .int .i64 m ∧ Cv.Most l ((q : Int) - 1) m ∧ Tb wr w.heap.size (tabF (Cv.volume l) q) ∧ Tb wr (w.heap.size + 1) (tabF (Cv.left l) q) ∧ Below w.heap.size w wr) (fun _ i _ _ _ => 1001 - (intOf i).toNat)
 case atStart => exact ⟨1, 0, by omega, rfl, rfl, Cv.Most.start l, TV.out, TS.out, HB0.out⟩
 case round =>
  obtain ⟨q, m, hq, rfl, rfl, hmost, ht1, ht2, hb⟩ := hrel
  obtain ⟨hq1, hq2⟩ := hq
  have HM := hide hmost; have HT1 := hide ht1; have HT2 := hide ht2; have HB := hide hb
  clear hmost ht1 ht2 hb TV TS HB0
  by_cases hlt : q ≤ 1000
  ·have hki : (q : Int) ≤ 1000 := by omega
   have hqi : (q : Int) < 1001 := by omega
   have hqn : q < 1001 := by omega
   have AD := hide (HD.out wr q HB.out)
   have AS := hide (HSu.out wr q HB.out)
   have b1 : 0 ≤ Cv.demand l q ∧ Cv.demand l q ≤ 120000 := Cv.demand_range l q hok.out
   have b2 : 0 ≤ Cv.supply l q ∧ Cv.supply l q ≤ 120000 := Cv.supply_range l q hok.out
   have HV : Hid (Cv.volume l q = min (Cv.demand l q) (Cv.supply l q)) := rfl
   have HL : Hid (Cv.left l q = Cv.size (Cv.demand l q - Cv.supply l q)) := rfl
   generalize Cv.demand l q = dm at *
   generalize Cv.supply l q = sp at *
   obtain ⟨b11, b12⟩ := b1
   obtain ⟨b21, b22⟩ := b2
   have d1 := HT1.out.cell hqn
   have d1' := HT1.out.frozen q
   go_wp2_with fail
   refine AD.out.mono ?_
   rintro e wr ⟨rfl, rfl⟩
   simp only []
   go_wp2_with fail
   refine AS.out.mono ?_
   rintro e wr ⟨rfl, rfl⟩
   simp only []
   have d2 := HT2.out.cell hqn
   have d2' := HT2.out.frozen q
   clear AD AS
   have HF1 := hide (fun i => tabF_step (Cv.volume l) hq1 i)
   have HF2 := hide (fun i => tabF_step (Cv.left l) hq1 i)
   rw [HV.out] at HF1
   rw [HL.out] at HF2
   have hMt : m < min dm sp → Cv.Most l (((q + 1 : Nat) : Int) - 1) (min dm sp) := fun h => by
    have := HM.out.take (by omega) (by rw [show (q : Int) - 1 + 1 = q by omega, HV.out]; exact h)
    rw [show (q : Int) - 1 + 1 = q by omega, HV.out] at this
    rw [show ((q + 1 : Nat) : Int) - 1 = q by omega]
    exact this
   have hMk : ¬ m < min dm sp → Cv.Most l (((q + 1 : Nat) : Int) - 1) m := fun h => by
    have := HM.out.keep (by rw [show (q : Int) - 1 + 1 = q by omega, HV.out]; exact h)
    rw [show (q : Int) - 1 + 1 = q by omega] at this
    rw [show ((q + 1 : Nat) : Int) - 1 = q by omega]
    exact this
   have HMt := hide hMt; have HMk := hide hMk
   clear hMt hMk HM HV HL
   by_cases hsd : sp < dm
   ·have hmin : min dm sp = sp := by omega
    rw [hmin] at HMt HMk HF1
    clear hmin
    by_cases hm : m < sp
    ·go_wp2_with (go_at_call 106; refine (sizeR_any _ _ (by omega) (by omega)).mono ?_; rintro e w' ⟨rfl, rfl⟩)
     have E1 : Hid (Tb (((wr.setCell ⟨w.heap.size, q, none⟩ (.int .i64 dm)).setCell ⟨w.heap.size, q, none⟩ (.int .i64 sp)).setCell ⟨w.heap.size + 1, q, none⟩ (.int .i64 (Cv.size (dm - sp)))) w.heap.size (tabF (Cv.volume l) (q + 1))) := (((HT1.out.set q dm).set q sp).other (by simp) _).congr fun i _ => by
      rw [← HF1.out i]
      by_cases e : i = q <;> simp [e]
     have E2 : Hid (Tb (((wr.setCell ⟨w.heap.size, q, none⟩ (.int .i64 dm)).setCell ⟨w.heap.size, q, none⟩ (.int .i64 sp)).setCell ⟨w.heap.size + 1, q, none⟩ (.int .i64 (Cv.size (dm - sp)))) (w.heap.size + 1) (tabF (Cv.left l) (q + 1))) := (((HT2.out.other (by simp) _).other (by simp) _).set q _).congr fun i _ => HF2.out i
     exact ⟨⟨q + 1, sp, by omega, by go_num, rfl, HMt.out hm, E1.out, E2.out, ((HB.out.setCell (by simp) _).setCell (by simp) _).setCell (by simp) _⟩, by simp [intOf]; omega⟩
    ·go_wp2_with (go_at_call 106; refine (sizeR_any _ _ (by omega) (by omega)).mono ?_; rintro e w' ⟨rfl, rfl⟩)
     have E1 : Hid (Tb (((wr.setCell ⟨w.heap.size, q, none⟩ (.int .i64 dm)).setCell ⟨w.heap.size, q, none⟩ (.int .i64 sp)).setCell ⟨w.heap.size + 1, q, none⟩ (.int .i64 (Cv.size (dm - sp)))) w.heap.size (tabF (Cv.volume l) (q + 1))) := (((HT1.out.set q dm).set q sp).other (by simp) _).congr fun i _ => by
      rw [← HF1.out i]
      by_cases e : i = q <;> simp [e]
     have E2 : Hid (Tb (((wr.setCell ⟨w.heap.size, q, none⟩ (.int .i64 dm)).setCell ⟨w.heap.size, q, none⟩ (.int .i64 sp)).setCell ⟨w.heap.size + 1, q, none⟩ (.int .i64 (Cv.size (dm - sp)))) (w.heap.size + 1) (tabF (Cv.left l) (q + 1))) := (((HT2.out.other (by simp) _).other (by simp) _).set q _).congr fun i _ => HF2.out i
     exact ⟨⟨q + 1, m, by omega, by go_num, rfl, HMk.out hm, E1.out, E2.out, ((HB.out.setCell (by simp) _).setCell (by simp) _).setCell (by simp) _⟩, by simp [intOf]; omega⟩
   ·have hmin : min dm sp = dm := by omega
    rw [hmin] at HMt HMk HF1
    clear hmin
    have E1 : Hid (Tb ((wr.setCell ⟨w.heap.size, q, none⟩ (.int .i64 dm)).setCell ⟨w.heap.size + 1, q, none⟩ (.int .i64 (Cv.size (dm - sp)))) w.heap.size (tabF (Cv.volume l) (q + 1))) := ((HT1.out.set q dm).other (by simp) _).congr fun i _ => HF1.out i
    have E2 : Hid (Tb ((wr.setCell ⟨w.heap.size, q, none⟩ (.int .i64 dm)).setCell ⟨w.heap.size + 1, q, none⟩ (.int .i64 (Cv.size (dm - sp)))) (w.heap.size + 1) (tabF (Cv.left l) (q + 1))) := ((HT2.out.other (by simp) _).set q _).congr fun i _ => HF2.out i
    by_cases hm : m < dm
    ·go_wp2_with (go_at_call 106; refine (sizeR_any _ _ (by omega) (by omega)).mono ?_; rintro e w' ⟨rfl, rfl⟩)
     exact ⟨⟨q + 1, dm, by omega, by go_num, rfl, HMt.out hm, E1.out, E2.out, (HB.out.setCell (by simp) _).setCell (by simp) _⟩, by simp [intOf]; omega⟩
    ·go_wp2_with (go_at_call 106; refine (sizeR_any _ _ (by omega) (by omega)).mono ?_; rintro e w' ⟨rfl, rfl⟩)
     exact ⟨⟨q + 1, m, by omega, by go_num, rfl, HMk.out hm, E1.out, E2.out, (HB.out.setCell (by simp) _).setCell (by simp) _⟩, by simp [intOf]; omega⟩
  ·have hki : ¬ (q : Int) ≤ 1000 := by omega
   obtain rfl : q = 1001 := by omega
   have hmost := HM.out
   rw [show ((1001 : Nat) : Int) - 1 = 1000 by omega] at hmost
   by_cases hm0 : m = 0
   ·subst hm0
    have HMo := hide hmost
    clear hmost
    go_wp2
    go_ret2
    exact ⟨⟨0, 0, rfl, Cv.won_none hok.out.oks HMo.out⟩, HB.out⟩
   ·have HMo := hide hmost
    have Hm0 := hide hm0
    clear hmost
    have HC1 : Hid (∀ i : Nat, 1 ≤ i → i ≤ 1000 → wr.cell? ⟨w.heap.size, i, none⟩ = some (.int .i64 (Cv.volume l i))) := fun i h1 h2 => by
     have := HT1.out.cell (i := i) (by omega)
     rwa [tabF_at _ h1 h2] at this
    have HC2 : Hid (∀ i : Nat, 1 ≤ i → i ≤ 1000 → wr.cell? ⟨w.heap.size + 1, i, none⟩ = some (.int .i64 (Cv.left l i))) := fun i h1 h2 => by
     have := HT2.out.cell (i := i) (by omega)
     rwa [tabF_at _ h1 h2] at this
    clear HT1 HT2 HM hki hlt
    go_wp2_with fail
    go_loop [12, 13] (fun le i => ∃ (q : Nat) (s : Int), (1 ≤ q ∧ q ≤ 1001) ∧ i = .int .i64 q ∧ le = .int .i64 s ∧ Cv.Least l m ((q : Int) - 1) s) (fun _ i => 1001 - (intOf i).toNat)
    case atStart => exact ⟨1, -1, by omega, rfl, rfl, Cv.Least.start l m⟩
    case round =>
     obtain ⟨q, sl, hq, rfl, rfl, hls⟩ := hrel
     obtain ⟨hq1, hq2⟩ := hq
     have HLs := hide hls
     clear hls
     by_cases hlt : q ≤ 1000
     ·have hki : (q : Int) ≤ 1000 := by omega
      have hqi : (q : Int) < 1001 := by omega
      have d1 := HC1.out q hq1 hlt
      have d2 := HC2.out q hq1 hlt
      have hLt : Cv.volume l q = m → (sl < 0 ∨ Cv.left l q < sl) → Cv.Least l m (((q + 1 : Nat) : Int) - 1) (Cv.left l q) := fun h1 h2 => by
       have := HLs.out.take (by omega) (by rw [show (q : Int) - 1 + 1 = q by omega]; exact h1) (by rw [show (q : Int) - 1 + 1 = q by omega]; exact h2)
       rw [show (q : Int) - 1 + 1 = q by omega] at this
       rw [show ((q + 1 : Nat) : Int) - 1 = q by omega]
       exact this
      have hLk : ¬ (Cv.volume l q = m ∧ (sl < 0 ∨ Cv.left l q < sl)) → Cv.Least l m (((q + 1 : Nat) : Int) - 1) sl := fun h => by
       have := HLs.out.keep (by rw [show (q : Int) - 1 + 1 = q by omega]; exact h)
       rw [show (q : Int) - 1 + 1 = q by omega] at this
       rw [show ((q + 1 : Nat) : Int) - 1 = q by omega]
       exact this
      have HLt := hide hLt; have HLk := hide hLk
      clear hLt hLk HLs
      generalize Cv.volume l q = vq at *
      generalize Cv.left l q = lq at *
      by_cases hv : vq = m
      ·have hvb : (vq == m) = true := by simpa using hv
       have Hv := hide hv
       clear hv
       by_cases h0 : sl < 0
       ·go_wp2
        exact ⟨⟨q + 1, lq, by omega, by go_num, rfl, HLt.out Hv.out (.inl h0)⟩, by simp [intOf]; omega⟩
       ·by_cases h3 : lq < sl
        ·go_wp2
         exact ⟨⟨q + 1, lq, by omega, by go_num, rfl, HLt.out Hv.out (.inr h3)⟩, by simp [intOf]; omega⟩
        ·go_wp2
         exact ⟨⟨q + 1, sl, by omega, by go_num, rfl, HLk.out (fun h => by omega)⟩, by simp [intOf]; omega⟩
      ·have hvb : (vq == m) = false := by simpa using hv
       have Hv := hide hv
       clear hv
       go_wp2
       exact ⟨⟨q + 1, sl, by omega, by go_num, rfl, HLk.out (fun h => Hv.out h.1)⟩, by simp [intOf]; omega⟩
     ·have hki : ¬ (q : Int) ≤ 1000 := by omega
      obtain rfl : q = 1001 := by omega
      have hls := HLs.out
      rw [show ((1001 : Nat) : Int) - 1 = 1000 by omega] at hls
      have HL0 := hide hls
      clear hls HLs hlt
      go_wp2_with fail
      go_loop [14, 15] (fun be i => ∃ (q : Nat) (b : Int), q ≤ 1000 ∧ i = .int .i64 q ∧ be = .int .i64 b ∧ Cv.Near l m sl ref q b) (fun _ i => (intOf i).toNat)
      case atStart => exact ⟨1000, 0, by omega, rfl, rfl, Cv.Near.start l m sl ref⟩
      case round =>
       obtain ⟨q, b, hq, rfl, rfl, hnr⟩ := hrel
       have HN := hide hnr
       clear hnr
       by_cases hlt : 1 ≤ q
       ·have hkj : (1 : Int) ≤ (q : Int) := by omega
        have hqi : (q : Int) < 1001 := by omega
        have d1 := HC1.out q hlt hq
        have d2 := HC2.out q hlt hq
        have hb := HN.out.range (by omega)
        obtain ⟨hb1, hb2⟩ := hb
        have hnx : ((q - 1 : Nat) : Int) = (q : Int) - 1 := by omega
        have HP : Hid (¬ (Cv.volume l q = m ∧ Cv.left l q = sl) → Cv.Near l m sl ref ((q - 1 : Nat) : Int) b) := fun h => by rw [hnx]; exact HN.out.pass h
        have HT : Hid (Cv.volume l q = m → Cv.left l q = sl → (b = 0 ∨ Cv.size ((q : Int) - ref) ≤ Cv.size (b - ref)) → Cv.Near l m sl ref ((q - 1 : Nat) : Int) q) := fun h1 h2 h3 => by rw [hnx]; exact HN.out.take (by omega) (by omega) h1 h2 h3
        have HK : Hid (¬ (b = 0 ∨ Cv.size ((q : Int) - ref) ≤ Cv.size (b - ref)) → Cv.Near l m sl ref ((q - 1 : Nat) : Int) b) := fun h => by rw [hnx]; exact HN.out.keep h
        clear HN hnx
        generalize Cv.volume l q = vq at *
        generalize Cv.left l q = lq at *
        by_cases hv : vq = m
        ·have hvb : (vq == m) = true := by simpa using hv
         have hvb' : (vq != m) = false := by simpa using hv
         have Hv := hide hv
         clear hv
         by_cases hs : lq = sl
         ·have hsb : (lq == sl) = true := by simpa using hs
          have hsb' : (lq != sl) = false := by simpa using hs
          have Hs := hide hs
          clear hs
          by_cases h0 : b = 0
          ·have h0b : (b == 0) = true := by simpa using h0
           have H0 := hide h0
           clear h0
           go_wp2
           exact ⟨⟨q - 1, q, by omega, by go_num, rfl, HT.out Hv.out Hs.out (.inl H0.out)⟩, by simp [intOf]; omega⟩
          ·have h0b : (b == 0) = false := by simpa using h0
           have H0 := hide h0
           by_cases h3 : Cv.size ((q : Int) - ref) ≤ Cv.size (b - ref)
           ·have H3 := hide h3
            go_wp2_with (go_at_call 106; refine (sizeR_any _ _ (by omega) (by omega)).mono ?_; rintro e w' ⟨rfl, rfl⟩)
            exact ⟨⟨q - 1, q, by omega, by go_num, rfl, HT.out Hv.out Hs.out (.inr H3.out)⟩, by simp [intOf]; omega⟩
           ·have H3 := hide h3
            go_wp2_with (go_at_call 106; refine (sizeR_any _ _ (by omega) (by omega)).mono ?_; rintro e w' ⟨rfl, rfl⟩)
            exact ⟨⟨q - 1, b, by omega, by go_num, rfl, HK.out (fun h => by have h3 := H3.out; have h4 := H0.out; omega)⟩, by simp [intOf]; omega⟩
         ·have hsb : (lq == sl) = false := by simpa using hs
          have hsb' : (lq != sl) = true := by simpa using hs
          have Hs := hide hs
          clear hs
          go_wp2
          exact ⟨⟨q - 1, b, by omega, by go_num, rfl, HP.out (fun h => Hs.out h.2)⟩, by simp [intOf]; omega⟩
        ·have hvb : (vq == m) = false := by simpa using hv
         have hvb' : (vq != m) = true := by simpa using hv
         have Hv := hide hv
         clear hv
         go_wp2
         exact ⟨⟨q - 1, b, by omega, by go_num, rfl, HP.out (fun h => Hv.out h.1)⟩, by simp [intOf]; omega⟩
       ·have hkj : ¬ (1 : Int) ≤ (q : Int) := by omega
        obtain rfl : q = 0 := by omega
        go_wp2
        go_ret2
        exact ⟨⟨b, m, rfl, Cv.won_rounds HMo.out Hm0.out HL0.out HN.out⟩, HB.out⟩

theorem priceOf_any (v : Value) (l : List Cv.Lot) (ref : Int) (w : World) (hv : Came w v l) (hok : Cv.Well l) (hr1 : 1 ≤ ref) (hr2 : ref ≤ 1000) :
  Calls Tryz.prog 68 #[v, .int .i64 ref] w fun e w' => (∃ p vol, e = .returned (.tuple #[.int .i64 p, .int .i64 vol]) ∧ Cv.Won l ref 1000 p vol) ∧ Below w.heap.size w w' := by
 obtain ⟨a, n, cap, rfl⟩ := hv.form
 exact priceOf_some a n cap l ref w hok hr1 hr2 (fun W p hb => demandOf_any _ l p W (hv.later hb) hok) (fun W p hb => supplyOf_any _ l p W (hv.later hb) hok)
end Go.Proofs.YtdggddjgipgllaaGreatDoor
