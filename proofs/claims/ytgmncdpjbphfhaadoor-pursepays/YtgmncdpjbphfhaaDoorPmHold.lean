/- The document's purses: Hold and Free by their contracts. -/
import Derived.Test.YtgmncdpjbphfhaaDoorPuGive
import Derived.Test.YtgmncdpjbphfhaaDoorPuCheck
import Derived.Test.YtgmncdpjbphfhaaDoorCvLotE
namespace Go.Proofs.YtgmncdpjbphfhaaDoor
open Go.RowKit
set_option maxRecDepth 100000

def errNo (c : Nat) : Int := if c = 0 then 0 else c + 1
theorem isClM_any (n : Int) (w : World) : Calls Tryd.prog 25 #[.int .i64 n] w fun e w' => e = .returned (.bool (Wi.withinB n 0 5)) ∧ w' = w := by
  by_cases h : 0 ≤ n
  · go_enter Tryd.func25, Tryd.ntmps25
    go_wp2
    go_ret
    refine ⟨ret_bool ?_, rfl⟩
    simp only [Wi.withinB, h, decide_true, Bool.true_and]
    rw [decide_eq_decide]
    omega
  · have h' : decide (0 ≤ n) = false := by simpa using h
    go_enter Tryd.func25, Tryd.ntmps25
    go_wp2
    go_ret
    exact ⟨ret_bool (by simp [Wi.withinB, h']), rfl⟩
theorem isItem_any (n : Int) (w : World) : Calls Tryd.prog 28 #[.int .i64 n] w fun e w' => e = .returned (.bool (Wi.withinB n 0 2)) ∧ w' = w := by
  by_cases h : 0 ≤ n
  · go_enter Tryd.func28, Tryd.ntmps28
    go_wp2
    go_ret
    refine ⟨ret_bool ?_, rfl⟩
    simp only [Wi.withinB, h, decide_true, Bool.true_and]
    rw [decide_eq_decide]
    omega
  · have h' : decide (0 ≤ n) = false := by simpa using h
    go_enter Tryd.func28, Tryd.ntmps28
    go_wp2
    go_ret
    exact ⟨ret_bool (by simp [Wi.withinB, h']), rfl⟩

theorem bdn {n : Nat} {w w' : World} (h : Below n w w') (m : Nat) : Below n w (w'.drewN m) := ⟨h.os, h.tape, h.output, h.size, h.block⟩
theorem bd1 {n : Nat} {w w' : World} (h : Below n w w') : Below n w w'.drew := ⟨h.os, h.tape, h.output, h.size, h.block⟩
theorem Save.set {w w' : World} {p : Nat} (h : Save w w' p) (o : Nat) (v : Value) : Save w (w'.setCell ⟨p, o, none⟩ v) p := h.trans (Save.setCell _ _ _ _)
/-- a client's eight numbers stored, one of them turned -/
theorem put8_1 (f : Nat → Int) (c : Nat) (m : Int) (j : Nat) : (if j = c * 8 + 7 then f (c * 8 + 7) else (if j = c * 8 + 6 then f (c * 8 + 6) else (if j = c * 8 + 5 then f (c * 8 + 5) else (if j = c * 8 + 4 then f (c * 8 + 4) else (if j = c * 8 + 3 then f (c * 8 + 3) else (if j = c * 8 + 2 then f (c * 8 + 2) else (if j = c * 8 + 1 then f (c * 8 + 1) + m else (if j = c * 8 then f (c * 8) else f j)))))))) = Pu.add f (c * 8 + 1) m j := by
  simp only [Pu.add]
  by_cases h7 : j = c * 8 + 7
  · subst h7; simp
  by_cases h6 : j = c * 8 + 6
  · subst h6; simp
  by_cases h5 : j = c * 8 + 5
  · subst h5; simp
  by_cases h4 : j = c * 8 + 4
  · subst h4; simp
  by_cases h3 : j = c * 8 + 3
  · subst h3; simp
  by_cases h2 : j = c * 8 + 2
  · subst h2; simp
  by_cases h1 : j = c * 8 + 1
  · subst h1; simp
  by_cases h0 : j = c * 8
  · subst h0; simp
  simp [h0, h1, h2, h3, h4, h5, h6, h7]
theorem put8_5 (f : Nat → Int) (c : Nat) (m : Int) (j : Nat) : (if j = c * 8 + 7 then f (c * 8 + 7) else (if j = c * 8 + 6 then f (c * 8 + 6) else (if j = c * 8 + 5 then f (c * 8 + 5) + m else (if j = c * 8 + 4 then f (c * 8 + 4) else (if j = c * 8 + 3 then f (c * 8 + 3) else (if j = c * 8 + 2 then f (c * 8 + 2) else (if j = c * 8 + 1 then f (c * 8 + 1) else (if j = c * 8 then f (c * 8) else f j)))))))) = Pu.add f (c * 8 + 5) m j := by
  simp only [Pu.add]
  by_cases h7 : j = c * 8 + 7
  · subst h7; simp
  by_cases h6 : j = c * 8 + 6
  · subst h6; simp
  by_cases h5 : j = c * 8 + 5
  · subst h5; simp
  by_cases h4 : j = c * 8 + 4
  · subst h4; simp
  by_cases h3 : j = c * 8 + 3
  · subst h3; simp
  by_cases h2 : j = c * 8 + 2
  · subst h2; simp
  by_cases h1 : j = c * 8 + 1
  · subst h1; simp
  by_cases h0 : j = c * 8
  · subst h0; simp
  simp [h0, h1, h2, h3, h4, h5, h6, h7]
theorem put8_6 (f : Nat → Int) (c : Nat) (m : Int) (j : Nat) : (if j = c * 8 + 7 then f (c * 8 + 7) else (if j = c * 8 + 6 then f (c * 8 + 6) + m else (if j = c * 8 + 5 then f (c * 8 + 5) else (if j = c * 8 + 4 then f (c * 8 + 4) else (if j = c * 8 + 3 then f (c * 8 + 3) else (if j = c * 8 + 2 then f (c * 8 + 2) else (if j = c * 8 + 1 then f (c * 8 + 1) else (if j = c * 8 then f (c * 8) else f j)))))))) = Pu.add f (c * 8 + 6) m j := by
  simp only [Pu.add]
  by_cases h7 : j = c * 8 + 7
  · subst h7; simp
  by_cases h6 : j = c * 8 + 6
  · subst h6; simp
  by_cases h5 : j = c * 8 + 5
  · subst h5; simp
  by_cases h4 : j = c * 8 + 4
  · subst h4; simp
  by_cases h3 : j = c * 8 + 3
  · subst h3; simp
  by_cases h2 : j = c * 8 + 2
  · subst h2; simp
  by_cases h1 : j = c * 8 + 1
  · subst h1; simp
  by_cases h0 : j = c * 8
  · subst h0; simp
  simp [h0, h1, h2, h3, h4, h5, h6, h7]
theorem put8_7 (f : Nat → Int) (c : Nat) (m : Int) (j : Nat) : (if j = c * 8 + 7 then f (c * 8 + 7) + m else (if j = c * 8 + 6 then f (c * 8 + 6) else (if j = c * 8 + 5 then f (c * 8 + 5) else (if j = c * 8 + 4 then f (c * 8 + 4) else (if j = c * 8 + 3 then f (c * 8 + 3) else (if j = c * 8 + 2 then f (c * 8 + 2) else (if j = c * 8 + 1 then f (c * 8 + 1) else (if j = c * 8 then f (c * 8) else f j)))))))) = Pu.add f (c * 8 + 7) m j := by
  simp only [Pu.add]
  by_cases h7 : j = c * 8 + 7
  · subst h7; simp
  by_cases h6 : j = c * 8 + 6
  · subst h6; simp
  by_cases h5 : j = c * 8 + 5
  · subst h5; simp
  by_cases h4 : j = c * 8 + 4
  · subst h4; simp
  by_cases h3 : j = c * 8 + 3
  · subst h3; simp
  by_cases h2 : j = c * 8 + 2
  · subst h2; simp
  by_cases h1 : j = c * 8 + 1
  · subst h1; simp
  by_cases h0 : j = c * 8
  · subst h0; simp
  simp [h0, h1, h2, h3, h4, h5, h6, h7]
set_option maxHeartbeats 8000000 in
theorem mhold_any (p : Nat) (item : Int) (x : Cv.Lot) (f : Nat → Int) (w : World) (hp : Hid (Purse w 32 p f)) (hg : Hid (Pu.Good f)) :
    Calls Tryd.prog 12 #[.pointer (some ⟨p, 0, none⟩), .int .i64 item, lotV x] w fun e w' => e = .returned (.int .i64 (errNo (Pu.holdC f item x))) ∧ Purse w' 32 p (Pu.holdF f item x) ∧ Save w w' p := by
  show Calls Tryd.prog 12 #[.pointer (some ⟨p, 0, none⟩), .int .i64 item, .agg #[.int .i64 x.id, .int .i64 x.ow, .int .i64 x.sd, .int .i64 x.pr, .int .i64 x.q]] w _
  obtain ⟨W, hWd⟩ : ∃ W, w.alloc (.cells #[.int .i64 x.id, .int .i64 x.ow, .int .i64 x.sd, .int .i64 x.pr, .int .i64 x.q] 34) = W := ⟨_, rfl⟩
  have hb1 : Below w.heap.size w W := by rw [← hWd]; exact (Below.refl _ _).alloc (Nat.le_refl _) _
  have hX0 : W.heap[w.heap.size]? = some (.cells (lotA x) 34 (0, 0)) := by rw [← hWd]; exact heap_alloc_new _ _
  have HX0 := hide hX0; have HBW := hide hb1; have HWd := hide hWd
  have HI := hide (isItem_any item W)
  clear hb1 hX0 hWd
  have HP1 := hide (hp.out.lat HBW.out)
  cases hin : Wi.withinB item 0 2 with
  | false =>
    have HA : Hid (Pu.holdC f item x = 1 ∧ Pu.holdF f item x = f) := by
      have e : Pu.holdC f item x = 1 := by unfold Pu.holdC Pu.well; rw [hin]; rfl
      exact ⟨e, by unfold Pu.holdF; rw [e]; rfl⟩
    rw [hin] at HI
    clear hin
    go_enter Tryd.func12, Tryd.ntmps12
    go_wp2_with fail
    rw [HWd.out]
    refine HI.out.mono ?_
    rintro e w2 ⟨rfl, rfl⟩
    simp only []
    go_wp2
    go_ret
    exact ⟨by rw [HA.out.1]; rfl, by rw [HA.out.2]; exact HP1.out, Save.of_below HBW.out p⟩
  | true =>
    rw [hin] at HI
    have HWI : Hid (Pu.well item x = Cv.ok x) := by show _ = _; unfold Pu.well; rw [hin]; rfl
    clear hin
    have HC := hide (lotError_any x W)
    unfold lotV at HC
    have d0 : W.cell? ⟨w.heap.size, 0, none⟩ = some (.int .i64 x.id) := hs_cell HX0.out rfl
    have d1 : W.cell? ⟨w.heap.size, 1, none⟩ = some (.int .i64 x.ow) := hs_cell HX0.out rfl
    have d2 : W.cell? ⟨w.heap.size, 2, none⟩ = some (.int .i64 x.sd) := hs_cell HX0.out rfl
    have d3 : W.cell? ⟨w.heap.size, 3, none⟩ = some (.int .i64 x.pr) := hs_cell HX0.out rfl
    have d4 : W.cell? ⟨w.heap.size, 4, none⟩ = some (.int .i64 x.q) := hs_cell HX0.out rfl
    go_enter Tryd.func12, Tryd.ntmps12
    go_wp2_with fail
    rw [HWd.out]
    refine HI.out.mono ?_
    rintro e w2 ⟨rfl, rfl⟩
    simp only []
    go_wp2_with fail
    refine HC.out.mono ?_
    rintro e w3 ⟨rfl, hb3⟩
    have HB3 : Hid (Below w.heap.size w w3) := HBW.out.trans (hb3.mono HBW.out.size)
    have HX3 : Hid (w3.heap[w.heap.size]? = some (.cells (lotA x) 34 (0, 0))) := by show _ = _; rw [hb3.block _ (lt_of_block HX0.out)]; exact HX0.out
    have HP3 := hide (HP1.out.lat hb3)
    clear hb3 HC HI HX0 HP1 HBW HWd d0 d1 d2 d3 d4
    cases hok : Cv.ok x with
    | false =>
      have HA : Hid (Pu.holdC f item x = 1 ∧ Pu.holdF f item x = f) := by
        have e : Pu.holdC f item x = 1 := by unfold Pu.holdC; rw [HWI.out, hok]; rfl
        exact ⟨e, by unfold Pu.holdF; rw [e]; rfl⟩
      rw [show lotE x = 2 by unfold lotE; rw [hok]; rfl]
      clear hok
      simp only []
      go_wp2
      go_ret
      exact ⟨by rw [HA.out.1]; rfl, by rw [HA.out.2]; exact HP3.out, Save.of_below HB3.out p⟩
    | true =>
      rw [show lotE x = 0 by unfold lotE; rw [hok]; rfl]
      have HOK : Hid (Pu.well item x = true) := HWI.out.trans hok
      clear hok HWI
      obtain ⟨k, rfl, hk⟩ := Pu.well_item HOK.out
      obtain ⟨c, hc, hc6⟩ := Pu.well_ow HOK.out
      have hci : (c : Int) < 6 := by omega
      have hki : (k : Int) < 3 := by omega
      have d1 : w3.cell? ⟨w.heap.size, 1, none⟩ = some (.int .i64 c) := by rw [← hc]; exact hs_cell HX3.out rfl
      have d2 : w3.cell? ⟨w.heap.size, 2, none⟩ = some (.int .i64 x.sd) := hs_cell HX3.out rfl
      have d3 : w3.cell? ⟨w.heap.size, 3, none⟩ = some (.int .i64 x.pr) := hs_cell HX3.out rfl
      have d4 : w3.cell? ⟨w.heap.size, 4, none⟩ = some (.int .i64 x.q) := hs_cell HX3.out rfl
      have c0 := HP3.out.cell (i := c * 8) (by omega)
      have c1 := HP3.out.cell (i := c * 8 + 1) (by omega)
      have c2 := HP3.out.cell (i := c * 8 + 2) (by omega)
      have c3 := HP3.out.cell (i := c * 8 + 3) (by omega)
      have c4 := HP3.out.cell (i := c * 8 + 4) (by omega)
      have c5 := HP3.out.cell (i := c * 8 + 5) (by omega)
      have c6 := HP3.out.cell (i := c * 8 + 6) (by omega)
      have c7 := HP3.out.cell (i := c * 8 + 7) (by omega)
      have hpl : p < w3.heap.size := HP3.out.lt
      have hwl : w.heap.size < w3.heap.size := lt_of_block HX3.out
      have HCD : Hid (Pu.holdC f k x = if f (Pu.tx k x) - f (Pu.hx k x) < Pu.mu x then 9 else 0) := by show _ = _; unfold Pu.holdC; rw [if_pos HOK.out]
      have HFD : Hid (Pu.holdF f k x = if Pu.holdC f k x = 0 then Pu.add f (Pu.hx k x) (Pu.mu x) else f) := rfl
      have hmu := Pu.mu_bounds (Pu.well_ok HOK.out)
      have hga := Pu.good_at hg.out HOK.out
      have f0 := HP3.out.frozen (c * 8)
      have f1 := HP3.out.frozen (c * 8 + 1)
      have f2 := HP3.out.frozen (c * 8 + 2)
      have f3 := HP3.out.frozen (c * 8 + 3)
      have f4 := HP3.out.frozen (c * 8 + 4)
      have f5 := HP3.out.frozen (c * 8 + 5)
      have f6 := HP3.out.frozen (c * 8 + 6)
      have f7 := HP3.out.frozen (c * 8 + 7)
      by_cases hs : x.sd = 0
      · have HX : Hid (Pu.tx k x = c * 8 ∧ Pu.hx k x = c * 8 + 1 ∧ Pu.mu x = x.pr * x.q) := by
          refine ⟨?_, ?_, ?_⟩
          · unfold Pu.tx; rw [if_pos hs]; omega
          · unfold Pu.hx; rw [if_pos hs]; omega
          · unfold Pu.mu; rw [if_pos hs]
        rw [HX.out.1, HX.out.2.1, HX.out.2.2] at HCD
        rw [HX.out.2.1, HX.out.2.2] at HFD
        rw [HX.out.1, HX.out.2.1] at hga
        rw [HX.out.2.2] at hmu
        have HPUT : Hid (∀ w', Purse w' 32 p f → Purse ((((((((w'.setCell ⟨p, c * 8, none⟩ (.int .i64 (f (c * 8)))).setCell ⟨p, c * 8 + 1, none⟩ (.int .i64 (f (c * 8 + 1) + x.pr * x.q))).setCell ⟨p, c * 8 + 2, none⟩ (.int .i64 (f (c * 8 + 2)))).setCell ⟨p, c * 8 + 3, none⟩ (.int .i64 (f (c * 8 + 3)))).setCell ⟨p, c * 8 + 4, none⟩ (.int .i64 (f (c * 8 + 4)))).setCell ⟨p, c * 8 + 5, none⟩ (.int .i64 (f (c * 8 + 5)))).setCell ⟨p, c * 8 + 6, none⟩ (.int .i64 (f (c * 8 + 6)))).setCell ⟨p, c * 8 + 7, none⟩ (.int .i64 (f (c * 8 + 7)))) 32 p (Pu.add f (c * 8 + 1) (x.pr * x.q))) := fun w' h => by
          skip
          exact (h.put8 c _ _ _ _ _ _ _ _).congr fun j _ => put8_1 f c (x.pr * x.q) j
        obtain ⟨g0, g1, g2⟩ := hga
        obtain ⟨m0, m1⟩ := hmu
        have hsb : (x.sd == 0) = true := by simp [hs]
        clear HX hs
        generalize f (c * 8) = u0 at *
        generalize f (c * 8 + 1) = u1 at *
        generalize f (c * 8 + 2) = u2 at *
        generalize f (c * 8 + 3) = u3 at *
        generalize f (c * 8 + 4) = u4 at *
        generalize f (c * 8 + 5) = u5 at *
        generalize f (c * 8 + 6) = u6 at *
        generalize f (c * 8 + 7) = u7 at *
        generalize hm : x.pr * x.q = m at *
        have HBO : Hid (∀ o, Below w3.heap.size w3 (w3.alloc o)) := fun o => (Below.refl _ _).alloc (Nat.le_refl _) _
        by_cases hpo : u0 - u1 < m
        · have HA : Hid (Pu.holdC f k x = 9 ∧ Pu.holdF f k x = f) := by
            have e : Pu.holdC f k x = 9 := by rw [HCD.out, if_pos hpo]
            exact ⟨e, by rw [HFD.out, e]; rfl⟩
          simp only []
          go_wp2
          go_region
          go_wp2
          go_ret
          refine ⟨by rw [HA.out.1]; rfl, by rw [HA.out.2]; exact HP3.out.lat (by repeat (first | exact HBO.out _ | refine bdn ?_ _ | refine bd1 ?_ | refine Below.setCell (p := ⟨w3.heap.size, _, none⟩) ?_ (Nat.le_refl _) _)), Save.of_below (HB3.out.trans (Below.mono (by repeat (first | exact HBO.out _ | refine bdn ?_ _ | refine bd1 ?_ | refine Below.setCell (p := ⟨w3.heap.size, _, none⟩) ?_ (Nat.le_refl _) _)) HB3.out.size)) p⟩
        · have HA : Hid (Pu.holdC f k x = 0 ∧ Pu.holdF f k x = Pu.add f (c * 8 + 1) (m)) := by
            have e : Pu.holdC f k x = 0 := by rw [HCD.out, if_neg hpo]
            exact ⟨e, by rw [HFD.out, e]; rfl⟩
          simp only []
          go_wp2
          go_region
          go_wp2
          refine region_quiet_tail 7 (by kernel_rfl) (by kernel_rfl) ?_
          simp only [List.take_succ_cons, List.take_zero, List.drop_succ_cons, List.drop_zero]
          repeat (first | go_big_quiet_step (fail) | quiet_step (fail))
          refine wpQuiet_nil ?_
          intro _ hw'
          obtain ⟨nq, hw''⟩ := hw'
          subst hw''
          go_wp2
          go_ret
          refine ⟨by rw [HA.out.1]; rfl, by rw [HA.out.2]; exact HPUT.out _ (HP3.out.lat (by repeat (first | exact HBO.out _ | refine bdn ?_ _ | refine bd1 ?_ | refine Below.setCell (p := ⟨w3.heap.size, _, none⟩) ?_ (Nat.le_refl _) _))), ?_⟩
          repeat (refine Save.set ?_ _ _)
          exact Save.of_below (HB3.out.trans (Below.mono (by repeat (first | exact HBO.out _ | refine bdn ?_ _ | refine bd1 ?_ | refine Below.setCell (p := ⟨w3.heap.size, _, none⟩) ?_ (Nat.le_refl _) _)) HB3.out.size)) p
      · have hs1 : x.sd = 1 := by
          have := (Cv.ok_bounds (Pu.well_ok HOK.out)).2.2.1
          omega
        have hk3 : k = 0 ∨ k = 1 ∨ k = 2 := by omega
        rcases hk3 with rfl | rfl | rfl
        · clear hs1 hki hk
          have HX : Hid (Pu.tx ((0 : Nat) : Int) x = c * 8 + 2 ∧ Pu.hx ((0 : Nat) : Int) x = c * 8 + 5 ∧ Pu.mu x = x.q) := by
            refine ⟨?_, ?_, ?_⟩
            · unfold Pu.tx; rw [if_neg hs]; omega
            · unfold Pu.hx; rw [if_neg hs]; omega
            · unfold Pu.mu; rw [if_neg hs]
          rw [HX.out.1, HX.out.2.1, HX.out.2.2] at HCD
          rw [HX.out.2.1, HX.out.2.2] at HFD
          rw [HX.out.1, HX.out.2.1] at hga
          rw [HX.out.2.2] at hmu
          have HPUT : Hid (∀ w', Purse w' 32 p f → Purse ((((((((w'.setCell ⟨p, c * 8, none⟩ (.int .i64 (f (c * 8)))).setCell ⟨p, c * 8 + 1, none⟩ (.int .i64 (f (c * 8 + 1)))).setCell ⟨p, c * 8 + 2, none⟩ (.int .i64 (f (c * 8 + 2)))).setCell ⟨p, c * 8 + 3, none⟩ (.int .i64 (f (c * 8 + 3)))).setCell ⟨p, c * 8 + 4, none⟩ (.int .i64 (f (c * 8 + 4)))).setCell ⟨p, c * 8 + 5, none⟩ (.int .i64 (f (c * 8 + 5) + x.q))).setCell ⟨p, c * 8 + 6, none⟩ (.int .i64 (f (c * 8 + 6)))).setCell ⟨p, c * 8 + 7, none⟩ (.int .i64 (f (c * 8 + 7)))) 32 p (Pu.add f (c * 8 + 5) (x.q))) := fun w' h => by
            skip
            exact (h.put8 c _ _ _ _ _ _ _ _).congr fun j _ => put8_5 f c (x.q) j
          obtain ⟨g0, g1, g2⟩ := hga
          obtain ⟨m0, m1⟩ := hmu
          have hsb : (x.sd == 0) = false := by simp [hs]
          clear HX hs
          generalize f (c * 8) = u0 at *
          generalize f (c * 8 + 1) = u1 at *
          generalize f (c * 8 + 2) = u2 at *
          generalize f (c * 8 + 3) = u3 at *
          generalize f (c * 8 + 4) = u4 at *
          generalize f (c * 8 + 5) = u5 at *
          generalize f (c * 8 + 6) = u6 at *
          generalize f (c * 8 + 7) = u7 at *
          generalize hm : x.q = m at *
          have HBO : Hid (∀ o, Below w3.heap.size w3 (w3.alloc o)) := fun o => (Below.refl _ _).alloc (Nat.le_refl _) _
          by_cases hpo : u2 - u5 < m
          · have HA : Hid (Pu.holdC f ((0 : Nat) : Int) x = 9 ∧ Pu.holdF f ((0 : Nat) : Int) x = f) := by
              have e : Pu.holdC f ((0 : Nat) : Int) x = 9 := by rw [HCD.out, if_pos hpo]
              exact ⟨e, by rw [HFD.out, e]; rfl⟩
            simp only []
            go_wp2
            go_region
            go_wp2
            go_quiet (fail)
            go_wp2
            go_ret
            refine ⟨by rw [HA.out.1]; rfl, by rw [HA.out.2]; exact HP3.out.lat (by repeat (first | exact HBO.out _ | refine bdn ?_ _ | refine bd1 ?_ | refine Below.setCell (p := ⟨w3.heap.size, _, none⟩) ?_ (Nat.le_refl _) _)), Save.of_below (HB3.out.trans (Below.mono (by repeat (first | exact HBO.out _ | refine bdn ?_ _ | refine bd1 ?_ | refine Below.setCell (p := ⟨w3.heap.size, _, none⟩) ?_ (Nat.le_refl _) _)) HB3.out.size)) p⟩
          · have HA : Hid (Pu.holdC f ((0 : Nat) : Int) x = 0 ∧ Pu.holdF f ((0 : Nat) : Int) x = Pu.add f (c * 8 + 5) (m)) := by
              have e : Pu.holdC f ((0 : Nat) : Int) x = 0 := by rw [HCD.out, if_neg hpo]
              exact ⟨e, by rw [HFD.out, e]; rfl⟩
            simp only []
            go_wp2
            go_region
            go_wp2
            go_quiet (fail)
            go_wp2
            refine region_quiet_tail 10 (by kernel_rfl) (by kernel_rfl) ?_
            simp only [List.take_succ_cons, List.take_zero, List.drop_succ_cons, List.drop_zero]
            repeat (first | go_big_quiet_step (fail) | quiet_step (fail))
            refine wpQuiet_nil ?_
            intro _ hw'
            obtain ⟨nq, hw''⟩ := hw'
            subst hw''
            go_wp2
            refine region_quiet_tail 7 (by kernel_rfl) (by kernel_rfl) ?_
            simp only [List.take_succ_cons, List.take_zero, List.drop_succ_cons, List.drop_zero]
            repeat (first | go_big_quiet_step (fail) | quiet_step (fail))
            refine wpQuiet_nil ?_
            intro _ hw'
            obtain ⟨nq, hw''⟩ := hw'
            subst hw''
            go_wp2
            go_ret
            refine ⟨by rw [HA.out.1]; rfl, by rw [HA.out.2]; exact HPUT.out _ (HP3.out.lat (by repeat (first | exact HBO.out _ | refine bdn ?_ _ | refine bd1 ?_ | refine Below.setCell (p := ⟨w3.heap.size, _, none⟩) ?_ (Nat.le_refl _) _))), ?_⟩
            repeat (refine Save.set ?_ _ _)
            exact Save.of_below (HB3.out.trans (Below.mono (by repeat (first | exact HBO.out _ | refine bdn ?_ _ | refine bd1 ?_ | refine Below.setCell (p := ⟨w3.heap.size, _, none⟩) ?_ (Nat.le_refl _) _)) HB3.out.size)) p
        · clear hs1 hki hk
          have HX : Hid (Pu.tx ((1 : Nat) : Int) x = c * 8 + 3 ∧ Pu.hx ((1 : Nat) : Int) x = c * 8 + 6 ∧ Pu.mu x = x.q) := by
            refine ⟨?_, ?_, ?_⟩
            · unfold Pu.tx; rw [if_neg hs]; omega
            · unfold Pu.hx; rw [if_neg hs]; omega
            · unfold Pu.mu; rw [if_neg hs]
          rw [HX.out.1, HX.out.2.1, HX.out.2.2] at HCD
          rw [HX.out.2.1, HX.out.2.2] at HFD
          rw [HX.out.1, HX.out.2.1] at hga
          rw [HX.out.2.2] at hmu
          have HPUT : Hid (∀ w', Purse w' 32 p f → Purse ((((((((w'.setCell ⟨p, c * 8, none⟩ (.int .i64 (f (c * 8)))).setCell ⟨p, c * 8 + 1, none⟩ (.int .i64 (f (c * 8 + 1)))).setCell ⟨p, c * 8 + 2, none⟩ (.int .i64 (f (c * 8 + 2)))).setCell ⟨p, c * 8 + 3, none⟩ (.int .i64 (f (c * 8 + 3)))).setCell ⟨p, c * 8 + 4, none⟩ (.int .i64 (f (c * 8 + 4)))).setCell ⟨p, c * 8 + 5, none⟩ (.int .i64 (f (c * 8 + 5)))).setCell ⟨p, c * 8 + 6, none⟩ (.int .i64 (f (c * 8 + 6) + x.q))).setCell ⟨p, c * 8 + 7, none⟩ (.int .i64 (f (c * 8 + 7)))) 32 p (Pu.add f (c * 8 + 6) (x.q))) := fun w' h => by
            skip
            exact (h.put8 c _ _ _ _ _ _ _ _).congr fun j _ => put8_6 f c (x.q) j
          obtain ⟨g0, g1, g2⟩ := hga
          obtain ⟨m0, m1⟩ := hmu
          have hsb : (x.sd == 0) = false := by simp [hs]
          clear HX hs
          generalize f (c * 8) = u0 at *
          generalize f (c * 8 + 1) = u1 at *
          generalize f (c * 8 + 2) = u2 at *
          generalize f (c * 8 + 3) = u3 at *
          generalize f (c * 8 + 4) = u4 at *
          generalize f (c * 8 + 5) = u5 at *
          generalize f (c * 8 + 6) = u6 at *
          generalize f (c * 8 + 7) = u7 at *
          generalize hm : x.q = m at *
          have HBO : Hid (∀ o, Below w3.heap.size w3 (w3.alloc o)) := fun o => (Below.refl _ _).alloc (Nat.le_refl _) _
          by_cases hpo : u3 - u6 < m
          · have HA : Hid (Pu.holdC f ((1 : Nat) : Int) x = 9 ∧ Pu.holdF f ((1 : Nat) : Int) x = f) := by
              have e : Pu.holdC f ((1 : Nat) : Int) x = 9 := by rw [HCD.out, if_pos hpo]
              exact ⟨e, by rw [HFD.out, e]; rfl⟩
            simp only []
            go_wp2
            go_region
            go_wp2
            go_quiet (fail)
            go_wp2
            go_ret
            refine ⟨by rw [HA.out.1]; rfl, by rw [HA.out.2]; exact HP3.out.lat (by repeat (first | exact HBO.out _ | refine bdn ?_ _ | refine bd1 ?_ | refine Below.setCell (p := ⟨w3.heap.size, _, none⟩) ?_ (Nat.le_refl _) _)), Save.of_below (HB3.out.trans (Below.mono (by repeat (first | exact HBO.out _ | refine bdn ?_ _ | refine bd1 ?_ | refine Below.setCell (p := ⟨w3.heap.size, _, none⟩) ?_ (Nat.le_refl _) _)) HB3.out.size)) p⟩
          · have HA : Hid (Pu.holdC f ((1 : Nat) : Int) x = 0 ∧ Pu.holdF f ((1 : Nat) : Int) x = Pu.add f (c * 8 + 6) (m)) := by
              have e : Pu.holdC f ((1 : Nat) : Int) x = 0 := by rw [HCD.out, if_neg hpo]
              exact ⟨e, by rw [HFD.out, e]; rfl⟩
            simp only []
            go_wp2
            go_region
            go_wp2
            go_quiet (fail)
            go_wp2
            refine region_quiet_tail 10 (by kernel_rfl) (by kernel_rfl) ?_
            simp only [List.take_succ_cons, List.take_zero, List.drop_succ_cons, List.drop_zero]
            repeat (first | go_big_quiet_step (fail) | quiet_step (fail))
            refine wpQuiet_nil ?_
            intro _ hw'
            obtain ⟨nq, hw''⟩ := hw'
            subst hw''
            go_wp2
            refine region_quiet_tail 7 (by kernel_rfl) (by kernel_rfl) ?_
            simp only [List.take_succ_cons, List.take_zero, List.drop_succ_cons, List.drop_zero]
            repeat (first | go_big_quiet_step (fail) | quiet_step (fail))
            refine wpQuiet_nil ?_
            intro _ hw'
            obtain ⟨nq, hw''⟩ := hw'
            subst hw''
            go_wp2
            go_ret
            refine ⟨by rw [HA.out.1]; rfl, by rw [HA.out.2]; exact HPUT.out _ (HP3.out.lat (by repeat (first | exact HBO.out _ | refine bdn ?_ _ | refine bd1 ?_ | refine Below.setCell (p := ⟨w3.heap.size, _, none⟩) ?_ (Nat.le_refl _) _))), ?_⟩
            repeat (refine Save.set ?_ _ _)
            exact Save.of_below (HB3.out.trans (Below.mono (by repeat (first | exact HBO.out _ | refine bdn ?_ _ | refine bd1 ?_ | refine Below.setCell (p := ⟨w3.heap.size, _, none⟩) ?_ (Nat.le_refl _) _)) HB3.out.size)) p
        · clear hs1 hki hk
          have HX : Hid (Pu.tx ((2 : Nat) : Int) x = c * 8 + 4 ∧ Pu.hx ((2 : Nat) : Int) x = c * 8 + 7 ∧ Pu.mu x = x.q) := by
            refine ⟨?_, ?_, ?_⟩
            · unfold Pu.tx; rw [if_neg hs]; omega
            · unfold Pu.hx; rw [if_neg hs]; omega
            · unfold Pu.mu; rw [if_neg hs]
          rw [HX.out.1, HX.out.2.1, HX.out.2.2] at HCD
          rw [HX.out.2.1, HX.out.2.2] at HFD
          rw [HX.out.1, HX.out.2.1] at hga
          rw [HX.out.2.2] at hmu
          have HPUT : Hid (∀ w', Purse w' 32 p f → Purse ((((((((w'.setCell ⟨p, c * 8, none⟩ (.int .i64 (f (c * 8)))).setCell ⟨p, c * 8 + 1, none⟩ (.int .i64 (f (c * 8 + 1)))).setCell ⟨p, c * 8 + 2, none⟩ (.int .i64 (f (c * 8 + 2)))).setCell ⟨p, c * 8 + 3, none⟩ (.int .i64 (f (c * 8 + 3)))).setCell ⟨p, c * 8 + 4, none⟩ (.int .i64 (f (c * 8 + 4)))).setCell ⟨p, c * 8 + 5, none⟩ (.int .i64 (f (c * 8 + 5)))).setCell ⟨p, c * 8 + 6, none⟩ (.int .i64 (f (c * 8 + 6)))).setCell ⟨p, c * 8 + 7, none⟩ (.int .i64 (f (c * 8 + 7) + x.q))) 32 p (Pu.add f (c * 8 + 7) (x.q))) := fun w' h => by
            skip
            exact (h.put8 c _ _ _ _ _ _ _ _).congr fun j _ => put8_7 f c (x.q) j
          obtain ⟨g0, g1, g2⟩ := hga
          obtain ⟨m0, m1⟩ := hmu
          have hsb : (x.sd == 0) = false := by simp [hs]
          clear HX hs
          generalize f (c * 8) = u0 at *
          generalize f (c * 8 + 1) = u1 at *
          generalize f (c * 8 + 2) = u2 at *
          generalize f (c * 8 + 3) = u3 at *
          generalize f (c * 8 + 4) = u4 at *
          generalize f (c * 8 + 5) = u5 at *
          generalize f (c * 8 + 6) = u6 at *
          generalize f (c * 8 + 7) = u7 at *
          generalize hm : x.q = m at *
          have HBO : Hid (∀ o, Below w3.heap.size w3 (w3.alloc o)) := fun o => (Below.refl _ _).alloc (Nat.le_refl _) _
          by_cases hpo : u4 - u7 < m
          · have HA : Hid (Pu.holdC f ((2 : Nat) : Int) x = 9 ∧ Pu.holdF f ((2 : Nat) : Int) x = f) := by
              have e : Pu.holdC f ((2 : Nat) : Int) x = 9 := by rw [HCD.out, if_pos hpo]
              exact ⟨e, by rw [HFD.out, e]; rfl⟩
            simp only []
            go_wp2
            go_region
            go_wp2
            go_quiet (fail)
            go_wp2
            go_ret
            refine ⟨by rw [HA.out.1]; rfl, by rw [HA.out.2]; exact HP3.out.lat (by repeat (first | exact HBO.out _ | refine bdn ?_ _ | refine bd1 ?_ | refine Below.setCell (p := ⟨w3.heap.size, _, none⟩) ?_ (Nat.le_refl _) _)), Save.of_below (HB3.out.trans (Below.mono (by repeat (first | exact HBO.out _ | refine bdn ?_ _ | refine bd1 ?_ | refine Below.setCell (p := ⟨w3.heap.size, _, none⟩) ?_ (Nat.le_refl _) _)) HB3.out.size)) p⟩
          · have HA : Hid (Pu.holdC f ((2 : Nat) : Int) x = 0 ∧ Pu.holdF f ((2 : Nat) : Int) x = Pu.add f (c * 8 + 7) (m)) := by
              have e : Pu.holdC f ((2 : Nat) : Int) x = 0 := by rw [HCD.out, if_neg hpo]
              exact ⟨e, by rw [HFD.out, e]; rfl⟩
            simp only []
            go_wp2
            go_region
            go_wp2
            go_quiet (fail)
            go_wp2
            refine region_quiet_tail 10 (by kernel_rfl) (by kernel_rfl) ?_
            simp only [List.take_succ_cons, List.take_zero, List.drop_succ_cons, List.drop_zero]
            repeat (first | go_big_quiet_step (fail) | quiet_step (fail))
            refine wpQuiet_nil ?_
            intro _ hw'
            obtain ⟨nq, hw''⟩ := hw'
            subst hw''
            go_wp2
            refine region_quiet_tail 7 (by kernel_rfl) (by kernel_rfl) ?_
            simp only [List.take_succ_cons, List.take_zero, List.drop_succ_cons, List.drop_zero]
            repeat (first | go_big_quiet_step (fail) | quiet_step (fail))
            refine wpQuiet_nil ?_
            intro _ hw'
            obtain ⟨nq, hw''⟩ := hw'
            subst hw''
            go_wp2
            go_ret
            refine ⟨by rw [HA.out.1]; rfl, by rw [HA.out.2]; exact HPUT.out _ (HP3.out.lat (by repeat (first | exact HBO.out _ | refine bdn ?_ _ | refine bd1 ?_ | refine Below.setCell (p := ⟨w3.heap.size, _, none⟩) ?_ (Nat.le_refl _) _))), ?_⟩
            repeat (refine Save.set ?_ _ _)
            exact Save.of_below (HB3.out.trans (Below.mono (by repeat (first | exact HBO.out _ | refine bdn ?_ _ | refine bd1 ?_ | refine Below.setCell (p := ⟨w3.heap.size, _, none⟩) ?_ (Nat.le_refl _) _)) HB3.out.size)) p

set_option maxHeartbeats 8000000 in
theorem mfree_any (p : Nat) (item : Int) (x : Cv.Lot) (f : Nat → Int) (w : World) (hp : Hid (Purse w 32 p f)) (hg : Hid (Pu.Good f)) :
    Calls Tryd.prog 14 #[.pointer (some ⟨p, 0, none⟩), .int .i64 item, lotV x] w fun e w' => e = .returned (.int .i64 (errNo (Pu.freeC f item x))) ∧ Purse w' 32 p (Pu.freeF f item x) ∧ Save w w' p := by
  show Calls Tryd.prog 14 #[.pointer (some ⟨p, 0, none⟩), .int .i64 item, .agg #[.int .i64 x.id, .int .i64 x.ow, .int .i64 x.sd, .int .i64 x.pr, .int .i64 x.q]] w _
  obtain ⟨W, hWd⟩ : ∃ W, w.alloc (.cells #[.int .i64 x.id, .int .i64 x.ow, .int .i64 x.sd, .int .i64 x.pr, .int .i64 x.q] 34) = W := ⟨_, rfl⟩
  have hb1 : Below w.heap.size w W := by rw [← hWd]; exact (Below.refl _ _).alloc (Nat.le_refl _) _
  have hX0 : W.heap[w.heap.size]? = some (.cells (lotA x) 34 (0, 0)) := by rw [← hWd]; exact heap_alloc_new _ _
  have HX0 := hide hX0; have HBW := hide hb1; have HWd := hide hWd
  have HI := hide (isItem_any item W)
  clear hb1 hX0 hWd
  have HP1 := hide (hp.out.lat HBW.out)
  cases hin : Wi.withinB item 0 2 with
  | false =>
    have HA : Hid (Pu.freeC f item x = 1 ∧ Pu.freeF f item x = f) := by
      have e : Pu.freeC f item x = 1 := by unfold Pu.freeC Pu.well; rw [hin]; rfl
      exact ⟨e, by unfold Pu.freeF; rw [e]; rfl⟩
    rw [hin] at HI
    clear hin
    go_enter Tryd.func14, Tryd.ntmps14
    go_wp2_with fail
    rw [HWd.out]
    refine HI.out.mono ?_
    rintro e w2 ⟨rfl, rfl⟩
    simp only []
    go_wp2
    go_ret
    exact ⟨by rw [HA.out.1]; rfl, by rw [HA.out.2]; exact HP1.out, Save.of_below HBW.out p⟩
  | true =>
    rw [hin] at HI
    have HWI : Hid (Pu.well item x = Cv.ok x) := by show _ = _; unfold Pu.well; rw [hin]; rfl
    clear hin
    have HC := hide (lotError_any x W)
    unfold lotV at HC
    have d0 : W.cell? ⟨w.heap.size, 0, none⟩ = some (.int .i64 x.id) := hs_cell HX0.out rfl
    have d1 : W.cell? ⟨w.heap.size, 1, none⟩ = some (.int .i64 x.ow) := hs_cell HX0.out rfl
    have d2 : W.cell? ⟨w.heap.size, 2, none⟩ = some (.int .i64 x.sd) := hs_cell HX0.out rfl
    have d3 : W.cell? ⟨w.heap.size, 3, none⟩ = some (.int .i64 x.pr) := hs_cell HX0.out rfl
    have d4 : W.cell? ⟨w.heap.size, 4, none⟩ = some (.int .i64 x.q) := hs_cell HX0.out rfl
    go_enter Tryd.func14, Tryd.ntmps14
    go_wp2_with fail
    rw [HWd.out]
    refine HI.out.mono ?_
    rintro e w2 ⟨rfl, rfl⟩
    simp only []
    go_wp2_with fail
    refine HC.out.mono ?_
    rintro e w3 ⟨rfl, hb3⟩
    have HB3 : Hid (Below w.heap.size w w3) := HBW.out.trans (hb3.mono HBW.out.size)
    have HX3 : Hid (w3.heap[w.heap.size]? = some (.cells (lotA x) 34 (0, 0))) := by show _ = _; rw [hb3.block _ (lt_of_block HX0.out)]; exact HX0.out
    have HP3 := hide (HP1.out.lat hb3)
    clear hb3 HC HI HX0 HP1 HBW HWd d0 d1 d2 d3 d4
    cases hok : Cv.ok x with
    | false =>
      have HA : Hid (Pu.freeC f item x = 1 ∧ Pu.freeF f item x = f) := by
        have e : Pu.freeC f item x = 1 := by unfold Pu.freeC; rw [HWI.out, hok]; rfl
        exact ⟨e, by unfold Pu.freeF; rw [e]; rfl⟩
      rw [show lotE x = 2 by unfold lotE; rw [hok]; rfl]
      clear hok
      simp only []
      go_wp2
      go_ret
      exact ⟨by rw [HA.out.1]; rfl, by rw [HA.out.2]; exact HP3.out, Save.of_below HB3.out p⟩
    | true =>
      rw [show lotE x = 0 by unfold lotE; rw [hok]; rfl]
      have HOK : Hid (Pu.well item x = true) := HWI.out.trans hok
      clear hok HWI
      obtain ⟨k, rfl, hk⟩ := Pu.well_item HOK.out
      obtain ⟨c, hc, hc6⟩ := Pu.well_ow HOK.out
      have hci : (c : Int) < 6 := by omega
      have hki : (k : Int) < 3 := by omega
      have d1 : w3.cell? ⟨w.heap.size, 1, none⟩ = some (.int .i64 c) := by rw [← hc]; exact hs_cell HX3.out rfl
      have d2 : w3.cell? ⟨w.heap.size, 2, none⟩ = some (.int .i64 x.sd) := hs_cell HX3.out rfl
      have d3 : w3.cell? ⟨w.heap.size, 3, none⟩ = some (.int .i64 x.pr) := hs_cell HX3.out rfl
      have d4 : w3.cell? ⟨w.heap.size, 4, none⟩ = some (.int .i64 x.q) := hs_cell HX3.out rfl
      have c0 := HP3.out.cell (i := c * 8) (by omega)
      have c1 := HP3.out.cell (i := c * 8 + 1) (by omega)
      have c2 := HP3.out.cell (i := c * 8 + 2) (by omega)
      have c3 := HP3.out.cell (i := c * 8 + 3) (by omega)
      have c4 := HP3.out.cell (i := c * 8 + 4) (by omega)
      have c5 := HP3.out.cell (i := c * 8 + 5) (by omega)
      have c6 := HP3.out.cell (i := c * 8 + 6) (by omega)
      have c7 := HP3.out.cell (i := c * 8 + 7) (by omega)
      have hpl : p < w3.heap.size := HP3.out.lt
      have hwl : w.heap.size < w3.heap.size := lt_of_block HX3.out
      have HCD : Hid (Pu.freeC f k x = if f (Pu.hx k x) < Pu.mu x then 9 else 0) := by show _ = _; unfold Pu.freeC; rw [if_pos HOK.out]
      have HFD : Hid (Pu.freeF f k x = if Pu.freeC f k x = 0 then Pu.add f (Pu.hx k x) (-(Pu.mu x)) else f) := rfl
      have hmu := Pu.mu_bounds (Pu.well_ok HOK.out)
      have hga := Pu.good_at hg.out HOK.out
      have f0 := HP3.out.frozen (c * 8)
      have f1 := HP3.out.frozen (c * 8 + 1)
      have f2 := HP3.out.frozen (c * 8 + 2)
      have f3 := HP3.out.frozen (c * 8 + 3)
      have f4 := HP3.out.frozen (c * 8 + 4)
      have f5 := HP3.out.frozen (c * 8 + 5)
      have f6 := HP3.out.frozen (c * 8 + 6)
      have f7 := HP3.out.frozen (c * 8 + 7)
      by_cases hs : x.sd = 0
      · have HX : Hid (Pu.tx k x = c * 8 ∧ Pu.hx k x = c * 8 + 1 ∧ Pu.mu x = x.pr * x.q) := by
          refine ⟨?_, ?_, ?_⟩
          · unfold Pu.tx; rw [if_pos hs]; omega
          · unfold Pu.hx; rw [if_pos hs]; omega
          · unfold Pu.mu; rw [if_pos hs]
        rw [HX.out.2.1, HX.out.2.2] at HCD
        rw [HX.out.2.1, HX.out.2.2] at HFD
        rw [HX.out.1, HX.out.2.1] at hga
        rw [HX.out.2.2] at hmu
        have HPUT : Hid (∀ w', Purse w' 32 p f → Purse ((((((((w'.setCell ⟨p, c * 8, none⟩ (.int .i64 (f (c * 8)))).setCell ⟨p, c * 8 + 1, none⟩ (.int .i64 (f (c * 8 + 1) - x.pr * x.q))).setCell ⟨p, c * 8 + 2, none⟩ (.int .i64 (f (c * 8 + 2)))).setCell ⟨p, c * 8 + 3, none⟩ (.int .i64 (f (c * 8 + 3)))).setCell ⟨p, c * 8 + 4, none⟩ (.int .i64 (f (c * 8 + 4)))).setCell ⟨p, c * 8 + 5, none⟩ (.int .i64 (f (c * 8 + 5)))).setCell ⟨p, c * 8 + 6, none⟩ (.int .i64 (f (c * 8 + 6)))).setCell ⟨p, c * 8 + 7, none⟩ (.int .i64 (f (c * 8 + 7)))) 32 p (Pu.add f (c * 8 + 1) (-(x.pr * x.q)))) := fun w' h => by
          rw [Int.sub_eq_add_neg]
          exact (h.put8 c _ _ _ _ _ _ _ _).congr fun j _ => put8_1 f c (-(x.pr * x.q)) j
        obtain ⟨g0, g1, g2⟩ := hga
        obtain ⟨m0, m1⟩ := hmu
        have hsb : (x.sd == 0) = true := by simp [hs]
        clear HX hs
        generalize f (c * 8) = u0 at *
        generalize f (c * 8 + 1) = u1 at *
        generalize f (c * 8 + 2) = u2 at *
        generalize f (c * 8 + 3) = u3 at *
        generalize f (c * 8 + 4) = u4 at *
        generalize f (c * 8 + 5) = u5 at *
        generalize f (c * 8 + 6) = u6 at *
        generalize f (c * 8 + 7) = u7 at *
        generalize hm : x.pr * x.q = m at *
        have HBO : Hid (∀ o, Below w3.heap.size w3 (w3.alloc o)) := fun o => (Below.refl _ _).alloc (Nat.le_refl _) _
        by_cases hpo : u1 < m
        · have HA : Hid (Pu.freeC f k x = 9 ∧ Pu.freeF f k x = f) := by
            have e : Pu.freeC f k x = 9 := by rw [HCD.out, if_pos hpo]
            exact ⟨e, by rw [HFD.out, e]; rfl⟩
          simp only []
          go_wp2
          go_region
          go_wp2
          go_ret
          refine ⟨by rw [HA.out.1]; rfl, by rw [HA.out.2]; exact HP3.out.lat (by repeat (first | exact HBO.out _ | refine bdn ?_ _ | refine bd1 ?_ | refine Below.setCell (p := ⟨w3.heap.size, _, none⟩) ?_ (Nat.le_refl _) _)), Save.of_below (HB3.out.trans (Below.mono (by repeat (first | exact HBO.out _ | refine bdn ?_ _ | refine bd1 ?_ | refine Below.setCell (p := ⟨w3.heap.size, _, none⟩) ?_ (Nat.le_refl _) _)) HB3.out.size)) p⟩
        · have HA : Hid (Pu.freeC f k x = 0 ∧ Pu.freeF f k x = Pu.add f (c * 8 + 1) (-m)) := by
            have e : Pu.freeC f k x = 0 := by rw [HCD.out, if_neg hpo]
            exact ⟨e, by rw [HFD.out, e]; rfl⟩
          simp only []
          go_wp2
          go_region
          go_wp2
          refine region_quiet_tail 7 (by kernel_rfl) (by kernel_rfl) ?_
          simp only [List.take_succ_cons, List.take_zero, List.drop_succ_cons, List.drop_zero]
          repeat (first | go_big_quiet_step (fail) | quiet_step (fail))
          refine wpQuiet_nil ?_
          intro _ hw'
          obtain ⟨nq, hw''⟩ := hw'
          subst hw''
          go_wp2
          go_ret
          refine ⟨by rw [HA.out.1]; rfl, by rw [HA.out.2]; exact HPUT.out _ (HP3.out.lat (by repeat (first | exact HBO.out _ | refine bdn ?_ _ | refine bd1 ?_ | refine Below.setCell (p := ⟨w3.heap.size, _, none⟩) ?_ (Nat.le_refl _) _))), ?_⟩
          repeat (refine Save.set ?_ _ _)
          exact Save.of_below (HB3.out.trans (Below.mono (by repeat (first | exact HBO.out _ | refine bdn ?_ _ | refine bd1 ?_ | refine Below.setCell (p := ⟨w3.heap.size, _, none⟩) ?_ (Nat.le_refl _) _)) HB3.out.size)) p
      · have hs1 : x.sd = 1 := by
          have := (Cv.ok_bounds (Pu.well_ok HOK.out)).2.2.1
          omega
        have hk3 : k = 0 ∨ k = 1 ∨ k = 2 := by omega
        rcases hk3 with rfl | rfl | rfl
        · clear hs1 hki hk
          have HX : Hid (Pu.tx ((0 : Nat) : Int) x = c * 8 + 2 ∧ Pu.hx ((0 : Nat) : Int) x = c * 8 + 5 ∧ Pu.mu x = x.q) := by
            refine ⟨?_, ?_, ?_⟩
            · unfold Pu.tx; rw [if_neg hs]; omega
            · unfold Pu.hx; rw [if_neg hs]; omega
            · unfold Pu.mu; rw [if_neg hs]
          rw [HX.out.2.1, HX.out.2.2] at HCD
          rw [HX.out.2.1, HX.out.2.2] at HFD
          rw [HX.out.1, HX.out.2.1] at hga
          rw [HX.out.2.2] at hmu
          have HPUT : Hid (∀ w', Purse w' 32 p f → Purse ((((((((w'.setCell ⟨p, c * 8, none⟩ (.int .i64 (f (c * 8)))).setCell ⟨p, c * 8 + 1, none⟩ (.int .i64 (f (c * 8 + 1)))).setCell ⟨p, c * 8 + 2, none⟩ (.int .i64 (f (c * 8 + 2)))).setCell ⟨p, c * 8 + 3, none⟩ (.int .i64 (f (c * 8 + 3)))).setCell ⟨p, c * 8 + 4, none⟩ (.int .i64 (f (c * 8 + 4)))).setCell ⟨p, c * 8 + 5, none⟩ (.int .i64 (f (c * 8 + 5) - x.q))).setCell ⟨p, c * 8 + 6, none⟩ (.int .i64 (f (c * 8 + 6)))).setCell ⟨p, c * 8 + 7, none⟩ (.int .i64 (f (c * 8 + 7)))) 32 p (Pu.add f (c * 8 + 5) (-(x.q)))) := fun w' h => by
            rw [Int.sub_eq_add_neg]
            exact (h.put8 c _ _ _ _ _ _ _ _).congr fun j _ => put8_5 f c (-(x.q)) j
          obtain ⟨g0, g1, g2⟩ := hga
          obtain ⟨m0, m1⟩ := hmu
          have hsb : (x.sd == 0) = false := by simp [hs]
          clear HX hs
          generalize f (c * 8) = u0 at *
          generalize f (c * 8 + 1) = u1 at *
          generalize f (c * 8 + 2) = u2 at *
          generalize f (c * 8 + 3) = u3 at *
          generalize f (c * 8 + 4) = u4 at *
          generalize f (c * 8 + 5) = u5 at *
          generalize f (c * 8 + 6) = u6 at *
          generalize f (c * 8 + 7) = u7 at *
          generalize hm : x.q = m at *
          have HBO : Hid (∀ o, Below w3.heap.size w3 (w3.alloc o)) := fun o => (Below.refl _ _).alloc (Nat.le_refl _) _
          by_cases hpo : u5 < m
          · have HA : Hid (Pu.freeC f ((0 : Nat) : Int) x = 9 ∧ Pu.freeF f ((0 : Nat) : Int) x = f) := by
              have e : Pu.freeC f ((0 : Nat) : Int) x = 9 := by rw [HCD.out, if_pos hpo]
              exact ⟨e, by rw [HFD.out, e]; rfl⟩
            simp only []
            go_wp2
            go_region
            go_wp2
            go_quiet (fail)
            go_wp2
            go_ret
            refine ⟨by rw [HA.out.1]; rfl, by rw [HA.out.2]; exact HP3.out.lat (by repeat (first | exact HBO.out _ | refine bdn ?_ _ | refine bd1 ?_ | refine Below.setCell (p := ⟨w3.heap.size, _, none⟩) ?_ (Nat.le_refl _) _)), Save.of_below (HB3.out.trans (Below.mono (by repeat (first | exact HBO.out _ | refine bdn ?_ _ | refine bd1 ?_ | refine Below.setCell (p := ⟨w3.heap.size, _, none⟩) ?_ (Nat.le_refl _) _)) HB3.out.size)) p⟩
          · have HA : Hid (Pu.freeC f ((0 : Nat) : Int) x = 0 ∧ Pu.freeF f ((0 : Nat) : Int) x = Pu.add f (c * 8 + 5) (-m)) := by
              have e : Pu.freeC f ((0 : Nat) : Int) x = 0 := by rw [HCD.out, if_neg hpo]
              exact ⟨e, by rw [HFD.out, e]; rfl⟩
            simp only []
            go_wp2
            go_region
            go_wp2
            go_quiet (fail)
            go_wp2
            refine region_quiet_tail 10 (by kernel_rfl) (by kernel_rfl) ?_
            simp only [List.take_succ_cons, List.take_zero, List.drop_succ_cons, List.drop_zero]
            repeat (first | go_big_quiet_step (fail) | quiet_step (fail))
            refine wpQuiet_nil ?_
            intro _ hw'
            obtain ⟨nq, hw''⟩ := hw'
            subst hw''
            go_wp2
            refine region_quiet_tail 7 (by kernel_rfl) (by kernel_rfl) ?_
            simp only [List.take_succ_cons, List.take_zero, List.drop_succ_cons, List.drop_zero]
            repeat (first | go_big_quiet_step (fail) | quiet_step (fail))
            refine wpQuiet_nil ?_
            intro _ hw'
            obtain ⟨nq, hw''⟩ := hw'
            subst hw''
            go_wp2
            go_ret
            refine ⟨by rw [HA.out.1]; rfl, by rw [HA.out.2]; exact HPUT.out _ (HP3.out.lat (by repeat (first | exact HBO.out _ | refine bdn ?_ _ | refine bd1 ?_ | refine Below.setCell (p := ⟨w3.heap.size, _, none⟩) ?_ (Nat.le_refl _) _))), ?_⟩
            repeat (refine Save.set ?_ _ _)
            exact Save.of_below (HB3.out.trans (Below.mono (by repeat (first | exact HBO.out _ | refine bdn ?_ _ | refine bd1 ?_ | refine Below.setCell (p := ⟨w3.heap.size, _, none⟩) ?_ (Nat.le_refl _) _)) HB3.out.size)) p
        · clear hs1 hki hk
          have HX : Hid (Pu.tx ((1 : Nat) : Int) x = c * 8 + 3 ∧ Pu.hx ((1 : Nat) : Int) x = c * 8 + 6 ∧ Pu.mu x = x.q) := by
            refine ⟨?_, ?_, ?_⟩
            · unfold Pu.tx; rw [if_neg hs]; omega
            · unfold Pu.hx; rw [if_neg hs]; omega
            · unfold Pu.mu; rw [if_neg hs]
          rw [HX.out.2.1, HX.out.2.2] at HCD
          rw [HX.out.2.1, HX.out.2.2] at HFD
          rw [HX.out.1, HX.out.2.1] at hga
          rw [HX.out.2.2] at hmu
          have HPUT : Hid (∀ w', Purse w' 32 p f → Purse ((((((((w'.setCell ⟨p, c * 8, none⟩ (.int .i64 (f (c * 8)))).setCell ⟨p, c * 8 + 1, none⟩ (.int .i64 (f (c * 8 + 1)))).setCell ⟨p, c * 8 + 2, none⟩ (.int .i64 (f (c * 8 + 2)))).setCell ⟨p, c * 8 + 3, none⟩ (.int .i64 (f (c * 8 + 3)))).setCell ⟨p, c * 8 + 4, none⟩ (.int .i64 (f (c * 8 + 4)))).setCell ⟨p, c * 8 + 5, none⟩ (.int .i64 (f (c * 8 + 5)))).setCell ⟨p, c * 8 + 6, none⟩ (.int .i64 (f (c * 8 + 6) - x.q))).setCell ⟨p, c * 8 + 7, none⟩ (.int .i64 (f (c * 8 + 7)))) 32 p (Pu.add f (c * 8 + 6) (-(x.q)))) := fun w' h => by
            rw [Int.sub_eq_add_neg]
            exact (h.put8 c _ _ _ _ _ _ _ _).congr fun j _ => put8_6 f c (-(x.q)) j
          obtain ⟨g0, g1, g2⟩ := hga
          obtain ⟨m0, m1⟩ := hmu
          have hsb : (x.sd == 0) = false := by simp [hs]
          clear HX hs
          generalize f (c * 8) = u0 at *
          generalize f (c * 8 + 1) = u1 at *
          generalize f (c * 8 + 2) = u2 at *
          generalize f (c * 8 + 3) = u3 at *
          generalize f (c * 8 + 4) = u4 at *
          generalize f (c * 8 + 5) = u5 at *
          generalize f (c * 8 + 6) = u6 at *
          generalize f (c * 8 + 7) = u7 at *
          generalize hm : x.q = m at *
          have HBO : Hid (∀ o, Below w3.heap.size w3 (w3.alloc o)) := fun o => (Below.refl _ _).alloc (Nat.le_refl _) _
          by_cases hpo : u6 < m
          · have HA : Hid (Pu.freeC f ((1 : Nat) : Int) x = 9 ∧ Pu.freeF f ((1 : Nat) : Int) x = f) := by
              have e : Pu.freeC f ((1 : Nat) : Int) x = 9 := by rw [HCD.out, if_pos hpo]
              exact ⟨e, by rw [HFD.out, e]; rfl⟩
            simp only []
            go_wp2
            go_region
            go_wp2
            go_quiet (fail)
            go_wp2
            go_ret
            refine ⟨by rw [HA.out.1]; rfl, by rw [HA.out.2]; exact HP3.out.lat (by repeat (first | exact HBO.out _ | refine bdn ?_ _ | refine bd1 ?_ | refine Below.setCell (p := ⟨w3.heap.size, _, none⟩) ?_ (Nat.le_refl _) _)), Save.of_below (HB3.out.trans (Below.mono (by repeat (first | exact HBO.out _ | refine bdn ?_ _ | refine bd1 ?_ | refine Below.setCell (p := ⟨w3.heap.size, _, none⟩) ?_ (Nat.le_refl _) _)) HB3.out.size)) p⟩
          · have HA : Hid (Pu.freeC f ((1 : Nat) : Int) x = 0 ∧ Pu.freeF f ((1 : Nat) : Int) x = Pu.add f (c * 8 + 6) (-m)) := by
              have e : Pu.freeC f ((1 : Nat) : Int) x = 0 := by rw [HCD.out, if_neg hpo]
              exact ⟨e, by rw [HFD.out, e]; rfl⟩
            simp only []
            go_wp2
            go_region
            go_wp2
            go_quiet (fail)
            go_wp2
            refine region_quiet_tail 10 (by kernel_rfl) (by kernel_rfl) ?_
            simp only [List.take_succ_cons, List.take_zero, List.drop_succ_cons, List.drop_zero]
            repeat (first | go_big_quiet_step (fail) | quiet_step (fail))
            refine wpQuiet_nil ?_
            intro _ hw'
            obtain ⟨nq, hw''⟩ := hw'
            subst hw''
            go_wp2
            refine region_quiet_tail 7 (by kernel_rfl) (by kernel_rfl) ?_
            simp only [List.take_succ_cons, List.take_zero, List.drop_succ_cons, List.drop_zero]
            repeat (first | go_big_quiet_step (fail) | quiet_step (fail))
            refine wpQuiet_nil ?_
            intro _ hw'
            obtain ⟨nq, hw''⟩ := hw'
            subst hw''
            go_wp2
            go_ret
            refine ⟨by rw [HA.out.1]; rfl, by rw [HA.out.2]; exact HPUT.out _ (HP3.out.lat (by repeat (first | exact HBO.out _ | refine bdn ?_ _ | refine bd1 ?_ | refine Below.setCell (p := ⟨w3.heap.size, _, none⟩) ?_ (Nat.le_refl _) _))), ?_⟩
            repeat (refine Save.set ?_ _ _)
            exact Save.of_below (HB3.out.trans (Below.mono (by repeat (first | exact HBO.out _ | refine bdn ?_ _ | refine bd1 ?_ | refine Below.setCell (p := ⟨w3.heap.size, _, none⟩) ?_ (Nat.le_refl _) _)) HB3.out.size)) p
        · clear hs1 hki hk
          have HX : Hid (Pu.tx ((2 : Nat) : Int) x = c * 8 + 4 ∧ Pu.hx ((2 : Nat) : Int) x = c * 8 + 7 ∧ Pu.mu x = x.q) := by
            refine ⟨?_, ?_, ?_⟩
            · unfold Pu.tx; rw [if_neg hs]; omega
            · unfold Pu.hx; rw [if_neg hs]; omega
            · unfold Pu.mu; rw [if_neg hs]
          rw [HX.out.2.1, HX.out.2.2] at HCD
          rw [HX.out.2.1, HX.out.2.2] at HFD
          rw [HX.out.1, HX.out.2.1] at hga
          rw [HX.out.2.2] at hmu
          have HPUT : Hid (∀ w', Purse w' 32 p f → Purse ((((((((w'.setCell ⟨p, c * 8, none⟩ (.int .i64 (f (c * 8)))).setCell ⟨p, c * 8 + 1, none⟩ (.int .i64 (f (c * 8 + 1)))).setCell ⟨p, c * 8 + 2, none⟩ (.int .i64 (f (c * 8 + 2)))).setCell ⟨p, c * 8 + 3, none⟩ (.int .i64 (f (c * 8 + 3)))).setCell ⟨p, c * 8 + 4, none⟩ (.int .i64 (f (c * 8 + 4)))).setCell ⟨p, c * 8 + 5, none⟩ (.int .i64 (f (c * 8 + 5)))).setCell ⟨p, c * 8 + 6, none⟩ (.int .i64 (f (c * 8 + 6)))).setCell ⟨p, c * 8 + 7, none⟩ (.int .i64 (f (c * 8 + 7) - x.q))) 32 p (Pu.add f (c * 8 + 7) (-(x.q)))) := fun w' h => by
            rw [Int.sub_eq_add_neg]
            exact (h.put8 c _ _ _ _ _ _ _ _).congr fun j _ => put8_7 f c (-(x.q)) j
          obtain ⟨g0, g1, g2⟩ := hga
          obtain ⟨m0, m1⟩ := hmu
          have hsb : (x.sd == 0) = false := by simp [hs]
          clear HX hs
          generalize f (c * 8) = u0 at *
          generalize f (c * 8 + 1) = u1 at *
          generalize f (c * 8 + 2) = u2 at *
          generalize f (c * 8 + 3) = u3 at *
          generalize f (c * 8 + 4) = u4 at *
          generalize f (c * 8 + 5) = u5 at *
          generalize f (c * 8 + 6) = u6 at *
          generalize f (c * 8 + 7) = u7 at *
          generalize hm : x.q = m at *
          have HBO : Hid (∀ o, Below w3.heap.size w3 (w3.alloc o)) := fun o => (Below.refl _ _).alloc (Nat.le_refl _) _
          by_cases hpo : u7 < m
          · have HA : Hid (Pu.freeC f ((2 : Nat) : Int) x = 9 ∧ Pu.freeF f ((2 : Nat) : Int) x = f) := by
              have e : Pu.freeC f ((2 : Nat) : Int) x = 9 := by rw [HCD.out, if_pos hpo]
              exact ⟨e, by rw [HFD.out, e]; rfl⟩
            simp only []
            go_wp2
            go_region
            go_wp2
            go_quiet (fail)
            go_wp2
            go_ret
            refine ⟨by rw [HA.out.1]; rfl, by rw [HA.out.2]; exact HP3.out.lat (by repeat (first | exact HBO.out _ | refine bdn ?_ _ | refine bd1 ?_ | refine Below.setCell (p := ⟨w3.heap.size, _, none⟩) ?_ (Nat.le_refl _) _)), Save.of_below (HB3.out.trans (Below.mono (by repeat (first | exact HBO.out _ | refine bdn ?_ _ | refine bd1 ?_ | refine Below.setCell (p := ⟨w3.heap.size, _, none⟩) ?_ (Nat.le_refl _) _)) HB3.out.size)) p⟩
          · have HA : Hid (Pu.freeC f ((2 : Nat) : Int) x = 0 ∧ Pu.freeF f ((2 : Nat) : Int) x = Pu.add f (c * 8 + 7) (-m)) := by
              have e : Pu.freeC f ((2 : Nat) : Int) x = 0 := by rw [HCD.out, if_neg hpo]
              exact ⟨e, by rw [HFD.out, e]; rfl⟩
            simp only []
            go_wp2
            go_region
            go_wp2
            go_quiet (fail)
            go_wp2
            refine region_quiet_tail 10 (by kernel_rfl) (by kernel_rfl) ?_
            simp only [List.take_succ_cons, List.take_zero, List.drop_succ_cons, List.drop_zero]
            repeat (first | go_big_quiet_step (fail) | quiet_step (fail))
            refine wpQuiet_nil ?_
            intro _ hw'
            obtain ⟨nq, hw''⟩ := hw'
            subst hw''
            go_wp2
            refine region_quiet_tail 7 (by kernel_rfl) (by kernel_rfl) ?_
            simp only [List.take_succ_cons, List.take_zero, List.drop_succ_cons, List.drop_zero]
            repeat (first | go_big_quiet_step (fail) | quiet_step (fail))
            refine wpQuiet_nil ?_
            intro _ hw'
            obtain ⟨nq, hw''⟩ := hw'
            subst hw''
            go_wp2
            go_ret
            refine ⟨by rw [HA.out.1]; rfl, by rw [HA.out.2]; exact HPUT.out _ (HP3.out.lat (by repeat (first | exact HBO.out _ | refine bdn ?_ _ | refine bd1 ?_ | refine Below.setCell (p := ⟨w3.heap.size, _, none⟩) ?_ (Nat.le_refl _) _))), ?_⟩
            repeat (refine Save.set ?_ _ _)
            exact Save.of_below (HB3.out.trans (Below.mono (by repeat (first | exact HBO.out _ | refine bdn ?_ _ | refine bd1 ?_ | refine Below.setCell (p := ⟨w3.heap.size, _, none⟩) ?_ (Nat.le_refl _) _)) HB3.out.size)) p
end Go.Proofs.YtgmncdpjbphfhaaDoor
