/- The document's purses: Give by its contract. -/
import Derived.Test.YtgmncdpjbphfhaaDoorPmHold
namespace Go.Proofs.YtgmncdpjbphfhaaDoor
open Go.RowKit
set_option maxRecDepth 100000

theorem bset {w w' : World} (h : Below w.heap.size w w') (o : Nat) (v : Value) : Below w.heap.size w (w'.setCell ⟨w.heap.size, o, none⟩ v) := h.setCell (Nat.le_refl _) v

set_option maxHeartbeats 8000000 in
theorem mgive_any (p : Nat) (g : Pu.Gift) (f : Nat → Int) (w : World) (hp : Hid (Purse w 32 p f)) (hg : Hid (Pu.Good f)) :
    Calls Tryd.prog 10 #[.pointer (some ⟨p, 0, none⟩), .int .i64 g.n, .int .i64 g.cash, giftV g] w fun e w' => e = .returned (.int .i64 (errNo (Pu.giveC f g))) ∧ Purse w' 32 p (Pu.giveF f g) ∧ Save w w' p := by
  show Calls Tryd.prog 10 #[.pointer (some ⟨p, 0, none⟩), .int .i64 g.n, .int .i64 g.cash, .agg #[.int .i64 g.s0, .int .i64 g.s1, .int .i64 g.s2]] w _
  obtain ⟨W, hWd⟩ : ∃ W, w.alloc (.cells #[.int .i64 g.s0, .int .i64 g.s1, .int .i64 g.s2] 27) = W := ⟨_, rfl⟩
  have hb1 : Below w.heap.size w W := by rw [← hWd]; exact (Below.refl _ _).alloc (Nat.le_refl _) _
  have hX0 : W.heap[w.heap.size]? = some (.cells #[.int .i64 g.s0, .int .i64 g.s1, .int .i64 g.s2] 27 (0, 0)) := by rw [← hWd]; exact heap_alloc_new _ _
  have x0 : W.cell? ⟨w.heap.size, 0, none⟩ = some (.int .i64 g.s0) := hs_cell hX0 rfl
  have x1 : W.cell? ⟨w.heap.size, 1, none⟩ = some (.int .i64 g.s1) := hs_cell hX0 rfl
  have x2 : W.cell? ⟨w.heap.size, 2, none⟩ = some (.int .i64 g.s2) := hs_cell hX0 rfl
  have HBW := hide hb1; have HWd := hide hWd
  have HI := hide (isClM_any g.n W)
  have HP1 := hide (hp.out.lat hb1)
  have hwl : w.heap.size < W.heap.size := lt_of_block hX0
  have hpl : p < W.heap.size := HP1.out.lt
  have hpw : p < w.heap.size := hp.out.lt
  have HBD : Hid (g.fine = false → Pu.giveC f g = 1 ∧ Pu.giveF f g = f) := fun h => by
    have e : Pu.giveC f g = 1 := by unfold Pu.giveC; rw [h]; rfl
    exact ⟨e, by unfold Pu.giveF; rw [e]; rfl⟩
  clear hb1 hX0 hWd
  cases hin : Wi.withinB g.n 0 5 with
  | false =>
    have HA := hide (HBD.out (by unfold Pu.Gift.fine; rw [hin]; rfl))
    rw [hin] at HI
    clear hin
    go_enter Tryd.func10, Tryd.ntmps10
    go_wp2_with fail
    rw [HWd.out]
    refine HI.out.mono ?_
    rintro e w2 ⟨rfl, rfl⟩
    simp only []
    go_wp2
    go_ret
    exact ⟨by rw [HA.out.1]; rfl, by rw [HA.out.2]; exact HP1.out, Save.of_below HBW.out p⟩
  | true =>
    rw [hin] at HI
    have Hin := hide hin
    clear hin
    have HNG : Hid (g.neg = true → Pu.giveC f g = 1 ∧ Pu.giveF f g = f) := fun h => HBD.out (by unfold Pu.Gift.fine; rw [h]; simp)
    have HNE : Hid (g.neg = (decide (g.s0 < 0) || decide (g.s1 < 0) || decide (g.s2 < 0) || decide (g.cash < 0))) := rfl
    by_cases hca : g.cash < 0
    · have HA := hide (HNG.out (by rw [HNE.out]; simp [hca]))
      go_enter Tryd.func10, Tryd.ntmps10
      go_wp2_with fail
      rw [HWd.out]
      refine HI.out.mono ?_
      rintro e w2 ⟨rfl, rfl⟩
      simp only []
      go_wp2
      go_ret
      exact ⟨by rw [HA.out.1]; rfl, by rw [HA.out.2]; exact HP1.out, Save.of_below HBW.out p⟩
    by_cases hn0 : g.s0 < 0
    · have HA := hide (HNG.out (by rw [HNE.out]; simp [hn0]))
      go_enter Tryd.func10, Tryd.ntmps10
      go_wp2_with fail
      rw [HWd.out]
      refine HI.out.mono ?_
      rintro e w2 ⟨rfl, rfl⟩
      simp only []
      go_wp2
      refine wp_loop_rounds 1 ?_
      rw [rounds_succ]
      go_wp2
      go_ret
      exact ⟨by rw [HA.out.1]; rfl, by rw [HA.out.2]; exact HP1.out, Save.of_below HBW.out p⟩
    by_cases hn1 : g.s1 < 0
    · have HA := hide (HNG.out (by rw [HNE.out]; simp [hn1]))
      go_enter Tryd.func10, Tryd.ntmps10
      go_wp2_with fail
      rw [HWd.out]
      refine HI.out.mono ?_
      rintro e w2 ⟨rfl, rfl⟩
      simp only []
      go_wp2
      refine wp_loop_rounds 2 ?_
      rw [rounds_succ]
      go_wp2
      rw [rounds_succ]
      go_wp2
      go_ret
      exact ⟨by rw [HA.out.1]; rfl, by rw [HA.out.2]; exact HP1.out, Save.of_below HBW.out p⟩
    by_cases hn2 : g.s2 < 0
    · have HA := hide (HNG.out (by rw [HNE.out]; simp [hn2]))
      go_enter Tryd.func10, Tryd.ntmps10
      go_wp2_with fail
      rw [HWd.out]
      refine HI.out.mono ?_
      rintro e w2 ⟨rfl, rfl⟩
      simp only []
      go_wp2
      refine wp_loop_rounds 3 ?_
      rw [rounds_succ]
      go_wp2
      rw [rounds_succ]
      go_wp2
      rw [rounds_succ]
      go_wp2
      go_ret
      exact ⟨by rw [HA.out.1]; rfl, by rw [HA.out.2]; exact HP1.out, Save.of_below HBW.out p⟩
    have HF : Hid (g.fine = true) := by show _ = _; unfold Pu.Gift.fine; rw [Hin.out, HNE.out]; simp [hca, hn0, hn1, hn2]
    obtain ⟨c, hc, hc6⟩ : ∃ c : Nat, g.n = c ∧ c < 6 := by
      have := Hin.out
      simp only [Wi.withinB, Bool.and_eq_true, decide_eq_true_eq] at this
      exact ⟨g.n.toNat, by omega, by omega⟩
    have hci : (c : Int) < 6 := by omega
    have g1 := hg.out.cash c hc6
    have g2 := hg.out.stock c 0 hc6 (by decide)
    have g3 := hg.out.stock c 1 hc6 (by decide)
    have g4 := hg.out.stock c 2 hc6 (by decide)
    simp only [Nat.add_zero, Nat.add_assoc, Nat.reduceAdd] at g1 g2 g3 g4
    rw [hc] at HI ⊢
    have HPU : Hid (∀ w', Purse w' 32 p f →
        Purse ((((((((w'.setCell ⟨p, c * 8, none⟩ (.int .i64 (f (c * 8) + g.cash))).setCell ⟨p, c * 8 + 1, none⟩ (.int .i64 (f (c * 8 + 1)))).setCell ⟨p, c * 8 + 2, none⟩ (.int .i64 (f (c * 8 + 2) + g.s0))).setCell ⟨p, c * 8 + 3, none⟩ (.int .i64 (f (c * 8 + 3) + g.s1))).setCell ⟨p, c * 8 + 4, none⟩ (.int .i64 (f (c * 8 + 4) + g.s2))).setCell ⟨p, c * 8 + 5, none⟩ (.int .i64 (f (c * 8 + 5)))).setCell ⟨p, c * 8 + 6, none⟩ (.int .i64 (f (c * 8 + 6)))).setCell ⟨p, c * 8 + 7, none⟩ (.int .i64 (f (c * 8 + 7)))) 32 p
          (Pu.add (Pu.add (Pu.add (Pu.add f (c * 8) g.cash) (c * 8 + 2) g.s0) (c * 8 + 3) g.s1) (c * 8 + 4) g.s2)) := fun w' h => (h.put8 c _ _ _ _ _ _ _ _).congr fun j _ => put8_give _ _ _ _ j
    have HOV : Hid (g.over f = (decide (1099511627776 - f (c * 8) < g.cash) || decide (1073741824 - f (c * 8 + 2) < g.s0) || decide (1073741824 - f (c * 8 + 3) < g.s1) || decide (1073741824 - f (c * 8 + 4) < g.s2))) := by
      show _ = _; unfold Pu.Gift.over; rw [hc, Int.toNat_natCast]
    have HFU : Hid (g.over f = true → Pu.giveC f g = 7 ∧ Pu.giveF f g = f) := fun h => by
      have e : Pu.giveC f g = 7 := by unfold Pu.giveC; rw [if_pos HF.out, if_pos h]
      exact ⟨e, by unfold Pu.giveF; rw [e]; rfl⟩
    have HZE : Hid (g.over f = false → Pu.giveC f g = 0 ∧ Pu.giveF f g = Pu.add (Pu.add (Pu.add (Pu.add f (c * 8) g.cash) (c * 8 + 2) g.s0) (c * 8 + 3) g.s1) (c * 8 + 4) g.s2) := fun h => by
      have e : Pu.giveC f g = 0 := by unfold Pu.giveC; rw [if_pos HF.out, if_neg (by rw [h]; simp)]
      exact ⟨e, by unfold Pu.giveF; rw [if_pos e, hc, Int.toNat_natCast]⟩
    have c0 := HP1.out.cell (i := c * 8) (by omega)
    have c1 := HP1.out.cell (i := c * 8 + 1) (by omega)
    have c2 := HP1.out.cell (i := c * 8 + 2) (by omega)
    have c3 := HP1.out.cell (i := c * 8 + 3) (by omega)
    have c4 := HP1.out.cell (i := c * 8 + 4) (by omega)
    have c5 := HP1.out.cell (i := c * 8 + 5) (by omega)
    have c6 := HP1.out.cell (i := c * 8 + 6) (by omega)
    have c7 := HP1.out.cell (i := c * 8 + 7) (by omega)
    have f0 := HP1.out.frozen (c * 8)
    have f1 := HP1.out.frozen (c * 8 + 1)
    have f2 := HP1.out.frozen (c * 8 + 2)
    have f3 := HP1.out.frozen (c * 8 + 3)
    have f4 := HP1.out.frozen (c * 8 + 4)
    have f5 := HP1.out.frozen (c * 8 + 5)
    have f6 := HP1.out.frozen (c * 8 + 6)
    have f7 := HP1.out.frozen (c * 8 + 7)
    generalize f (c * 8) = u0 at *
    generalize f (c * 8 + 1) = u1 at *
    generalize f (c * 8 + 2) = u2 at *
    generalize f (c * 8 + 3) = u3 at *
    generalize f (c * 8 + 4) = u4 at *
    generalize f (c * 8 + 5) = u5 at *
    generalize f (c * 8 + 6) = u6 at *
    generalize f (c * 8 + 7) = u7 at *
    generalize hca' : g.cash = ca at *
    generalize hs0' : g.s0 = s0 at *
    generalize hs1' : g.s1 = s1 at *
    generalize hs2' : g.s2 = s2 at *
    clear hca' hs0' hs1' hs2' HBD HNG HNE
    have HBO : Hid (∀ o, Below W.heap.size W (W.alloc o)) := fun o => (Below.refl _ _).alloc (Nat.le_refl _) _
    go_enter Tryd.func10, Tryd.ntmps10
    go_wp2_with fail
    rw [HWd.out]
    refine HI.out.mono ?_
    rintro e w2 ⟨rfl, rfl⟩
    simp only []
    go_wp2
    refine wp_loop_rounds 4 ?_
    rw [rounds_succ]
    go_wp2
    rw [rounds_succ]
    go_wp2
    rw [rounds_succ]
    go_wp2
    rw [rounds_succ]
    by_cases o0 : 1099511627776 - u0 < ca
    · have HO : Hid (g.over f = true) := by show _ = _; rw [HOV.out]; simp [o0]
      go_wp2
      go_ret
      refine ⟨by rw [(HFU.out HO.out).1]; rfl, by rw [(HFU.out HO.out).2]; exact HP1.out.lat (by repeat (first | exact HBO.out _ | refine bdn ?_ _ | refine bd1 ?_ | refine bset ?_ _ _)), Save.of_below (HBW.out.trans (Below.mono (by repeat (first | exact HBO.out _ | refine bdn ?_ _ | refine bd1 ?_ | refine bset ?_ _ _)) HBW.out.size)) p⟩
    go_wp2
    refine wp_loop_rounds 4 ?_
    by_cases o1 : 1073741824 - u2 < s0
    · have HO : Hid (g.over f = true) := by show _ = _; rw [HOV.out]; simp [o1]
      rw [rounds_succ]
      go_wp2
      go_quiet (fail)
      go_wp2
      go_ret
      refine ⟨by rw [(HFU.out HO.out).1]; rfl, by rw [(HFU.out HO.out).2]; exact HP1.out.lat (by repeat (first | exact HBO.out _ | refine bdn ?_ _ | refine bd1 ?_ | refine bset ?_ _ _)), Save.of_below (HBW.out.trans (Below.mono (by repeat (first | exact HBO.out _ | refine bdn ?_ _ | refine bd1 ?_ | refine bset ?_ _ _)) HBW.out.size)) p⟩
    rw [rounds_succ]
    go_wp2
    go_quiet (fail)
    go_wp2
    refine region_quiet_tail 11 (by kernel_rfl) (by kernel_rfl) ?_
    simp only [List.take_succ_cons, List.take_zero, List.drop_succ_cons, List.drop_zero]
    repeat (first | go_big_quiet_step (fail) | quiet_step (fail))
    refine wpQuiet_nil ?_
    intro _ hw'
    obtain ⟨nq, hw''⟩ := hw'
    subst hw''
    go_wp2
    by_cases o2 : 1073741824 - u3 < s1
    · have HO : Hid (g.over f = true) := by show _ = _; rw [HOV.out]; simp [o2]
      rw [rounds_succ]
      go_wp2
      go_quiet (fail)
      go_wp2
      go_ret
      refine ⟨by rw [(HFU.out HO.out).1]; rfl, by rw [(HFU.out HO.out).2]; exact HP1.out.lat (by repeat (first | exact HBO.out _ | refine bdn ?_ _ | refine bd1 ?_ | refine bset ?_ _ _)), Save.of_below (HBW.out.trans (Below.mono (by repeat (first | exact HBO.out _ | refine bdn ?_ _ | refine bd1 ?_ | refine bset ?_ _ _)) HBW.out.size)) p⟩
    rw [rounds_succ]
    go_wp2
    go_quiet (fail)
    go_wp2
    refine region_quiet_tail 11 (by kernel_rfl) (by kernel_rfl) ?_
    simp only [List.take_succ_cons, List.take_zero, List.drop_succ_cons, List.drop_zero]
    repeat (first | go_big_quiet_step (fail) | quiet_step (fail))
    refine wpQuiet_nil ?_
    intro _ hw'
    obtain ⟨nq, hw''⟩ := hw'
    subst hw''
    go_wp2
    by_cases o3 : 1073741824 - u4 < s2
    · have HO : Hid (g.over f = true) := by show _ = _; rw [HOV.out]; simp [o3]
      rw [rounds_succ]
      go_wp2
      go_quiet (fail)
      go_wp2
      go_ret
      refine ⟨by rw [(HFU.out HO.out).1]; rfl, by rw [(HFU.out HO.out).2]; exact HP1.out.lat (by repeat (first | exact HBO.out _ | refine bdn ?_ _ | refine bd1 ?_ | refine bset ?_ _ _)), Save.of_below (HBW.out.trans (Below.mono (by repeat (first | exact HBO.out _ | refine bdn ?_ _ | refine bd1 ?_ | refine bset ?_ _ _)) HBW.out.size)) p⟩
    rw [rounds_succ]
    go_wp2
    go_quiet (fail)
    go_wp2
    refine region_quiet_tail 11 (by kernel_rfl) (by kernel_rfl) ?_
    simp only [List.take_succ_cons, List.take_zero, List.drop_succ_cons, List.drop_zero]
    repeat (first | go_big_quiet_step (fail) | quiet_step (fail))
    refine wpQuiet_nil ?_
    intro _ hw'
    obtain ⟨nq, hw''⟩ := hw'
    subst hw''
    go_wp2
    rw [rounds_succ]
    go_wp2
    refine region_quiet_tail 6 (by kernel_rfl) (by kernel_rfl) ?_
    simp only [List.take_succ_cons, List.take_zero, List.drop_succ_cons, List.drop_zero]
    repeat (first | go_big_quiet_step (fail) | quiet_step (fail))
    refine wpQuiet_nil ?_
    intro _ hw'
    obtain ⟨nq, hw''⟩ := hw'
    subst hw''
    go_wp2
    go_ret
    have HO : Hid (g.over f = false) := by
      show _ = _
      rw [HOV.out]
      simp only [Bool.or_eq_false_iff, decide_eq_false_iff_not]
      omega
    refine ⟨by rw [(HZE.out HO.out).1]; rfl, by rw [(HZE.out HO.out).2]; exact HPU.out _ (HP1.out.lat (by repeat (first | exact HBO.out _ | refine bdn ?_ _ | refine bd1 ?_ | refine bset ?_ _ _))), ?_⟩
    repeat (refine Save.set ?_ _ _)
    exact Save.of_below (HBW.out.trans (Below.mono (by repeat (first | exact HBO.out _ | refine bdn ?_ _ | refine bd1 ?_ | refine bset ?_ _ _)) HBW.out.size)) p
end Go.Proofs.YtgmncdpjbphfhaaDoor
