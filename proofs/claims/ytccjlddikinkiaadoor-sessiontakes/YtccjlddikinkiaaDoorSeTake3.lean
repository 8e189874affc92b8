/- The walk of the document's TakeOf. -/
import Derived.Test.YtccjlddikinkiaaDoorSeTake2
namespace Go.Proofs.YtccjlddikinkiaaDoor
open Go.RowKit
set_option maxRecDepth 100000
theorem aske_any (a : Ask) (w : World) : Calls Tryd.prog 12 #[askV a] w fun e w' => e = .returned (.int .i64 (Se.ac a)) ∧ Below w.heap.size w w' := askError_any a.k a.c a.sq a.it a.sd a.pr a.q a.id w
set_option maxHeartbeats 2000000 in
theorem takeOf_any (on : Bool) (nx la now : Int) (a : Ask) (w : World) : Calls Tryd.prog 9 #[sV on nx la, askV a, .int .i64 now] w fun e w' => e = .returned (.tuple #[sV (Se.tO on nx a) (Se.tN on nx a) (Se.tL on nx la a now), .int .i64 (Se.tc on nx a)]) ∧ Below w.heap.size w w' := by
  have HA := hide (fun W => aske_any a W)
  have HSQ : Hid (Se.tc on nx a = 0 → 0 ≤ a.sq ∧ a.sq ≤ 1073741824) := fun h => Se.ac_zero (Se.tc_ac h)
  have HN : Hid (Se.tO on nx a = (if Se.tc on nx a = 0 then !(a.k == 113) else on) ∧ Se.tN on nx a = (if Se.tc on nx a = 0 then (if a.k = 113 then 0 else a.sq + 1) else nx) ∧ Se.tL on nx la a now = if Se.tc on nx a = 0 then (if a.k = 113 then 0 else now) else la) := ⟨rfl, rfl, rfl⟩
  generalize Se.tO on nx a = tO at *
  generalize Se.tN on nx a = tN at *
  generalize Se.tL on nx la a now = tL at *
  have HT : Hid (Se.tc on nx a = if Se.ac a = 0 then (if (a.k == 108) = on then 11 else if a.sq = (if on = true then nx else 1) then 0 else 12) else Se.ac a) := rfl
  generalize Se.tc on nx a = tc at *
  generalize Se.ac a = ac at *
  unfold askV askA sV at *
  have HB0 : Hid (Below w.heap.size w (((w.alloc (.cells #[.bool on, .int .i64 nx, .int .i64 la] 27)).alloc (.cells #[.int .u8 a.k, .int .i64 a.c, .int .i64 a.sq, .int .i64 a.it, .int .i64 a.sd, .int .i64 a.pr, .int .i64 a.q, .int .i64 a.id] 35)).alloc (.cells #[.bool false, .int .i64 0, .int .i64 0] 27))) := (((Below.refl _ _).alloc (Nat.le_refl _) _).alloc (by simp) _).alloc (by simp; omega) _
  have eA : (w.alloc (.cells #[.bool on, .int .i64 nx, .int .i64 la] 27)).heap.size = w.heap.size + 1 := by simp
  have eB : ((w.alloc (.cells #[.bool on, .int .i64 nx, .int .i64 la] 27)).alloc (.cells #[.int .u8 a.k, .int .i64 a.c, .int .i64 a.sq, .int .i64 a.it, .int .i64 a.sd, .int .i64 a.pr, .int .i64 a.q, .int .i64 a.id] 35)).heap.size = w.heap.size + 2 := by simp
  have HS0 : Hid ((((w.alloc (.cells #[.bool on, .int .i64 nx, .int .i64 la] 27)).alloc (.cells #[.int .u8 a.k, .int .i64 a.c, .int .i64 a.sq, .int .i64 a.it, .int .i64 a.sd, .int .i64 a.pr, .int .i64 a.q, .int .i64 a.id] 35)).alloc (.cells #[.bool false, .int .i64 0, .int .i64 0] 27)).heap[w.heap.size]? = some (.cells #[.bool on, .int .i64 nx, .int .i64 la] 27 (0, 0))) := (Below.heap_alloc _ _ _ (by omega)).trans ((Below.heap_alloc _ _ _ (by omega)).trans (heap_alloc_new _ _))
  have HD0 : Hid ((((w.alloc (.cells #[.bool on, .int .i64 nx, .int .i64 la] 27)).alloc (.cells #[.int .u8 a.k, .int .i64 a.c, .int .i64 a.sq, .int .i64 a.it, .int .i64 a.sd, .int .i64 a.pr, .int .i64 a.q, .int .i64 a.id] 35)).alloc (.cells #[.bool false, .int .i64 0, .int .i64 0] 27)).heap[w.heap.size + 1]? = some (.cells #[.int .u8 a.k, .int .i64 a.c, .int .i64 a.sq, .int .i64 a.it, .int .i64 a.sd, .int .i64 a.pr, .int .i64 a.q, .int .i64 a.id] 35 (0, 0))) := by
    have h := heap_alloc_new (w.alloc (.cells #[.bool on, .int .i64 nx, .int .i64 la] 27)) (.cells #[.int .u8 a.k, .int .i64 a.c, .int .i64 a.sq, .int .i64 a.it, .int .i64 a.sd, .int .i64 a.pr, .int .i64 a.q, .int .i64 a.id] 35)
    show _ = _
    rw [eA] at h
    exact (Below.heap_alloc _ _ _ (by omega)).trans h
  have HZ0 : Hid ((((w.alloc (.cells #[.bool on, .int .i64 nx, .int .i64 la] 27)).alloc (.cells #[.int .u8 a.k, .int .i64 a.c, .int .i64 a.sq, .int .i64 a.it, .int .i64 a.sd, .int .i64 a.pr, .int .i64 a.q, .int .i64 a.id] 35)).alloc (.cells #[.bool false, .int .i64 0, .int .i64 0] 27)).heap[w.heap.size + 2]? = some (.cells #[.bool false, .int .i64 0, .int .i64 0] 27 (0, 0))) := by
    have h := heap_alloc_new ((w.alloc (.cells #[.bool on, .int .i64 nx, .int .i64 la] 27)).alloc (.cells #[.int .u8 a.k, .int .i64 a.c, .int .i64 a.sq, .int .i64 a.it, .int .i64 a.sd, .int .i64 a.pr, .int .i64 a.q, .int .i64 a.id] 35)) (.cells #[.bool false, .int .i64 0, .int .i64 0] 27)
    show _ = _
    rw [eB] at h
    exact h
  clear eA eB
  go_enter Tryd.func9, Tryd.ntmps9
  go_wp2_with fail
  refine (HA.out _).mono ?_
  rintro e w2 ⟨rfl, hb2⟩
  have HB2 := hide (HB0.out.trans (hb2.mono HB0.out.size))
  have HS := hide (row_later hb2 HS0.out)
  have HD := hide (row_later hb2 HD0.out)
  have HZ := hide (row_later hb2 HZ0.out)
  have c0 : w2.cell? ⟨w.heap.size, 0, none⟩ = some (.bool on) := by rw [cell_of_row _ _ 0 _ _ _ HS.out]; rfl
  have c1 : w2.cell? ⟨w.heap.size, 1, none⟩ = some (.int .i64 nx) := by rw [cell_of_row _ _ 1 _ _ _ HS.out]; rfl
  have c2 : w2.cell? ⟨w.heap.size, 2, none⟩ = some (.int .i64 la) := by rw [cell_of_row _ _ 2 _ _ _ HS.out]; rfl
  have d0 : w2.cell? ⟨w.heap.size + 1, 0, none⟩ = some (.int .u8 a.k) := by rw [cell_of_row _ _ 0 _ _ _ HD.out]; rfl
  have d1 : w2.cell? ⟨w.heap.size + 1, 1, none⟩ = some (.int .i64 a.c) := by rw [cell_of_row _ _ 1 _ _ _ HD.out]; rfl
  have d2 : w2.cell? ⟨w.heap.size + 1, 2, none⟩ = some (.int .i64 a.sq) := by rw [cell_of_row _ _ 2 _ _ _ HD.out]; rfl
  have d3 : w2.cell? ⟨w.heap.size + 1, 3, none⟩ = some (.int .i64 a.it) := by rw [cell_of_row _ _ 3 _ _ _ HD.out]; rfl
  have d4 : w2.cell? ⟨w.heap.size + 1, 4, none⟩ = some (.int .i64 a.sd) := by rw [cell_of_row _ _ 4 _ _ _ HD.out]; rfl
  have d5 : w2.cell? ⟨w.heap.size + 1, 5, none⟩ = some (.int .i64 a.pr) := by rw [cell_of_row _ _ 5 _ _ _ HD.out]; rfl
  have d6 : w2.cell? ⟨w.heap.size + 1, 6, none⟩ = some (.int .i64 a.q) := by rw [cell_of_row _ _ 6 _ _ _ HD.out]; rfl
  have d7 : w2.cell? ⟨w.heap.size + 1, 7, none⟩ = some (.int .i64 a.id) := by rw [cell_of_row _ _ 7 _ _ _ HD.out]; rfl
  have r0 : w2.cell? ⟨w.heap.size + 2, 0, none⟩ = some (.bool false) := by rw [cell_of_row _ _ 0 _ _ _ HZ.out]; rfl
  have q0 : w2.frozen? ⟨w.heap.size + 2, 0, none⟩ = false := by simp [World.frozen?, HZ.out]
  have r1 : w2.cell? ⟨w.heap.size + 2, 1, none⟩ = some (.int .i64 0) := by rw [cell_of_row _ _ 1 _ _ _ HZ.out]; rfl
  have q1 : w2.frozen? ⟨w.heap.size + 2, 1, none⟩ = false := by simp [World.frozen?, HZ.out]
  have r2 : w2.cell? ⟨w.heap.size + 2, 2, none⟩ = some (.int .i64 0) := by rw [cell_of_row _ _ 2 _ _ _ HZ.out]; rfl
  have q2 : w2.frozen? ⟨w.heap.size + 2, 2, none⟩ = false := by simp [World.frozen?, HZ.out]
  have HRl : Hid (w.heap.size ≤ w.heap.size + 2) := Nat.le_add_right _ _
  have hsz : w.heap.size + 3 ≤ w2.heap.size := by have := hb2.size; simp at this; omega
  clear hb2 HA HB0 HS0 HD0 HZ0
  simp only []
  by_cases hc : ac = 0
  · subst hc
    rw [show ((0 : Nat) : Int) = 0 from rfl]
    by_cases hk : (a.k == 108) = on
    · have hT : tc = 11 := by rw [HT.out]; simp [hk]
      subst hT
      have h1 : tO = on := by rw [HN.out.1]; simp
      have h2 : tN = nx := by rw [HN.out.2.1]; simp
      have h3 : tL = la := by rw [HN.out.2.2]; simp
      subst h1 h2 h3
      clear HN HSQ HT
      cases tO
      all_goals
        have hk1 := hk
        simp only [beq_eq_false_iff_ne, beq_iff_eq] at hk1
        go_wp2
      · skip
        have hz9 := set3_row HZ.out (.bool false) (.int .i64 tN) (.int .i64 tL)
        have hb9 := below3 HB2.out HRl.out (.bool false) (.int .i64 tN) (.int .i64 tL)
        generalize ((w2.setCell ⟨w.heap.size + 2, 0, none⟩ (.bool false)).setCell ⟨w.heap.size + 2, 1, none⟩ (.int .i64 tN)).setCell ⟨w.heap.size + 2, 2, none⟩ (.int .i64 tL) = Wf at *
        have z0 : Wf.cell? ⟨w.heap.size + 2, 0, none⟩ = some (.bool false) := by rw [cell_of_row Wf _ 0 _ _ _ hz9]; rfl
        have z1 : Wf.cell? ⟨w.heap.size + 2, 1, none⟩ = some (.int .i64 tN) := by rw [cell_of_row Wf _ 1 _ _ _ hz9]; rfl
        have z2 : Wf.cell? ⟨w.heap.size + 2, 2, none⟩ = some (.int .i64 tL) := by rw [cell_of_row Wf _ 2 _ _ _ hz9]; rfl
        exact bodyPost_ret (v := .tuple #[.agg #[.bool false, .int .i64 tN, .int .i64 tL], .int .i64 11]) (by simp [results, Tryd.results9, go_sem, z0, z1, z2]) rfl ⟨rfl, hb9⟩
      · skip
        have hz9 := set3_row HZ.out (.bool true) (.int .i64 tN) (.int .i64 tL)
        have hb9 := below3 HB2.out HRl.out (.bool true) (.int .i64 tN) (.int .i64 tL)
        generalize ((w2.setCell ⟨w.heap.size + 2, 0, none⟩ (.bool true)).setCell ⟨w.heap.size + 2, 1, none⟩ (.int .i64 tN)).setCell ⟨w.heap.size + 2, 2, none⟩ (.int .i64 tL) = Wf at *
        have z0 : Wf.cell? ⟨w.heap.size + 2, 0, none⟩ = some (.bool true) := by rw [cell_of_row Wf _ 0 _ _ _ hz9]; rfl
        have z1 : Wf.cell? ⟨w.heap.size + 2, 1, none⟩ = some (.int .i64 tN) := by rw [cell_of_row Wf _ 1 _ _ _ hz9]; rfl
        have z2 : Wf.cell? ⟨w.heap.size + 2, 2, none⟩ = some (.int .i64 tL) := by rw [cell_of_row Wf _ 2 _ _ _ hz9]; rfl
        exact bodyPost_ret (v := .tuple #[.agg #[.bool true, .int .i64 tN, .int .i64 tL], .int .i64 11]) (by simp [results, Tryd.results9, go_sem, z0, z1, z2]) rfl ⟨rfl, hb9⟩
    · have hk2 : (a.k == 108) = !on := by
        cases on <;> cases h : (a.k == 108) <;> simp_all
      by_cases hq : a.sq = (if on = true then nx else 1)
      · have hT : tc = 0 := by rw [HT.out]; simp [hk, hq]
        subst hT
        obtain ⟨s1, s2⟩ := HSQ.out rfl
        have hw : IntKind.i64.wrap (a.sq + 1) = a.sq + 1 := IntWalk.i64_in _ (by omega)
        by_cases hk3 : a.k = 113
        · have h1 : tO = false := by rw [HN.out.1]; simp [hk3]
          have h2 : tN = 0 := by rw [HN.out.2.1]; simp [hk3]
          have h3 : tL = 0 := by rw [HN.out.2.2]; simp [hk3]
          subst h1 h2 h3
          have hk4 : (a.k == 113) = true := by simp [hk3]
          have hk5 : ¬ a.k = 108 := by omega
          have hon : on = true := by rw [hk3] at hk2; cases on <;> simp_all
          subst hon
          have hq1 : a.sq = nx := hq
          have hq2 : (a.sq != nx) = false := by simp [hq1]
          clear HN HSQ HT hq hk hk2 hk3 hq1
          go_wp2
          have hz9 := set3_row HZ.out (.bool false) (.int .i64 0) (.int .i64 0)
          have hb9 := below3 HB2.out HRl.out (.bool false) (.int .i64 0) (.int .i64 0)
          generalize ((w2.setCell ⟨w.heap.size + 2, 0, none⟩ (.bool false)).setCell ⟨w.heap.size + 2, 1, none⟩ (.int .i64 0)).setCell ⟨w.heap.size + 2, 2, none⟩ (.int .i64 0) = Wf at *
          have z0 : Wf.cell? ⟨w.heap.size + 2, 0, none⟩ = some (.bool false) := by rw [cell_of_row Wf _ 0 _ _ _ hz9]; rfl
          have z1 : Wf.cell? ⟨w.heap.size + 2, 1, none⟩ = some (.int .i64 0) := by rw [cell_of_row Wf _ 1 _ _ _ hz9]; rfl
          have z2 : Wf.cell? ⟨w.heap.size + 2, 2, none⟩ = some (.int .i64 0) := by rw [cell_of_row Wf _ 2 _ _ _ hz9]; rfl
          exact bodyPost_ret (v := .tuple #[.agg #[.bool false, .int .i64 0, .int .i64 0], .int .i64 0]) (by simp [results, Tryd.results9, go_sem, z0, z1, z2]) rfl ⟨rfl, hb9⟩
        · have h1 : tO = true := by rw [HN.out.1]; simp [hk3]
          have h2 : tN = a.sq + 1 := by rw [HN.out.2.1]; simp [hk3]
          have h3 : tL = now := by rw [HN.out.2.2]; simp [hk3]
          subst h1 h2 h3
          have hk4 : (a.k == 113) = false := by simp [hk3]
          clear HN HSQ HT hk hk3
          cases on
          all_goals
            have hk1 := hk2
            simp only [Bool.not_true, Bool.not_false, beq_eq_false_iff_ne, beq_iff_eq] at hk1
            have hq1 := hq
            simp only [if_true, Bool.false_eq_true, if_false] at hq1
            have hq2 : (a.sq != nx) = (a.sq != nx) := rfl
          · have hq3 : (a.sq != 1) = false := by simp [hq1]
            clear hq hq1
            go_wp2
            have hz9 := set3_row HZ.out (.bool true) (.int .i64 (a.sq + 1)) (.int .i64 tL)
            have hb9 := below3 HB2.out HRl.out (.bool true) (.int .i64 (a.sq + 1)) (.int .i64 tL)
            generalize ((w2.setCell ⟨w.heap.size + 2, 0, none⟩ (.bool true)).setCell ⟨w.heap.size + 2, 1, none⟩ (.int .i64 (a.sq + 1))).setCell ⟨w.heap.size + 2, 2, none⟩ (.int .i64 tL) = Wf at *
            have z0 : Wf.cell? ⟨w.heap.size + 2, 0, none⟩ = some (.bool true) := by rw [cell_of_row Wf _ 0 _ _ _ hz9]; rfl
            have z1 : Wf.cell? ⟨w.heap.size + 2, 1, none⟩ = some (.int .i64 (a.sq + 1)) := by rw [cell_of_row Wf _ 1 _ _ _ hz9]; rfl
            have z2 : Wf.cell? ⟨w.heap.size + 2, 2, none⟩ = some (.int .i64 tL) := by rw [cell_of_row Wf _ 2 _ _ _ hz9]; rfl
            exact bodyPost_ret (v := .tuple #[.agg #[.bool true, .int .i64 (a.sq + 1), .int .i64 tL], .int .i64 0]) (by simp [results, Tryd.results9, go_sem, z0, z1, z2]) rfl ⟨rfl, hb9⟩
          · have hq3 : (a.sq != nx) = false := by simp [hq1]
            clear hq hq1
            go_wp2
            have hz9 := set3_row HZ.out (.bool true) (.int .i64 (a.sq + 1)) (.int .i64 tL)
            have hb9 := below3 HB2.out HRl.out (.bool true) (.int .i64 (a.sq + 1)) (.int .i64 tL)
            generalize ((w2.setCell ⟨w.heap.size + 2, 0, none⟩ (.bool true)).setCell ⟨w.heap.size + 2, 1, none⟩ (.int .i64 (a.sq + 1))).setCell ⟨w.heap.size + 2, 2, none⟩ (.int .i64 tL) = Wf at *
            have z0 : Wf.cell? ⟨w.heap.size + 2, 0, none⟩ = some (.bool true) := by rw [cell_of_row Wf _ 0 _ _ _ hz9]; rfl
            have z1 : Wf.cell? ⟨w.heap.size + 2, 1, none⟩ = some (.int .i64 (a.sq + 1)) := by rw [cell_of_row Wf _ 1 _ _ _ hz9]; rfl
            have z2 : Wf.cell? ⟨w.heap.size + 2, 2, none⟩ = some (.int .i64 tL) := by rw [cell_of_row Wf _ 2 _ _ _ hz9]; rfl
            exact bodyPost_ret (v := .tuple #[.agg #[.bool true, .int .i64 (a.sq + 1), .int .i64 tL], .int .i64 0]) (by simp [results, Tryd.results9, go_sem, z0, z1, z2]) rfl ⟨rfl, hb9⟩
      · have hT : tc = 12 := by rw [HT.out]; simp [hk, hq]
        subst hT
        have h1 : tO = on := by rw [HN.out.1]; simp
        have h2 : tN = nx := by rw [HN.out.2.1]; simp
        have h3 : tL = la := by rw [HN.out.2.2]; simp
        subst h1 h2 h3
        clear HN HSQ HT hk
        cases tO
        all_goals
          have hk1 := hk2
          simp only [Bool.not_true, Bool.not_false, beq_eq_false_iff_ne, beq_iff_eq] at hk1
          have hq1 := hq
          simp only [if_true, Bool.false_eq_true, if_false] at hq1
        · have hq3 : (a.sq != 1) = true := by simp [hq1]
          clear hq hq1
          go_wp2
          have hz9 := set3_row HZ.out (.bool false) (.int .i64 tN) (.int .i64 tL)
          have hb9 := below3 HB2.out HRl.out (.bool false) (.int .i64 tN) (.int .i64 tL)
          generalize ((w2.setCell ⟨w.heap.size + 2, 0, none⟩ (.bool false)).setCell ⟨w.heap.size + 2, 1, none⟩ (.int .i64 tN)).setCell ⟨w.heap.size + 2, 2, none⟩ (.int .i64 tL) = Wf at *
          have z0 : Wf.cell? ⟨w.heap.size + 2, 0, none⟩ = some (.bool false) := by rw [cell_of_row Wf _ 0 _ _ _ hz9]; rfl
          have z1 : Wf.cell? ⟨w.heap.size + 2, 1, none⟩ = some (.int .i64 tN) := by rw [cell_of_row Wf _ 1 _ _ _ hz9]; rfl
          have z2 : Wf.cell? ⟨w.heap.size + 2, 2, none⟩ = some (.int .i64 tL) := by rw [cell_of_row Wf _ 2 _ _ _ hz9]; rfl
          exact bodyPost_ret (v := .tuple #[.agg #[.bool false, .int .i64 tN, .int .i64 tL], .int .i64 12]) (by simp [results, Tryd.results9, go_sem, z0, z1, z2]) rfl ⟨rfl, hb9⟩
        · have hq3 : (a.sq != tN) = true := by simp [hq1]
          clear hq hq1
          go_wp2
          have hz9 := set3_row HZ.out (.bool true) (.int .i64 tN) (.int .i64 tL)
          have hb9 := below3 HB2.out HRl.out (.bool true) (.int .i64 tN) (.int .i64 tL)
          generalize ((w2.setCell ⟨w.heap.size + 2, 0, none⟩ (.bool true)).setCell ⟨w.heap.size + 2, 1, none⟩ (.int .i64 tN)).setCell ⟨w.heap.size + 2, 2, none⟩ (.int .i64 tL) = Wf at *
          have z0 : Wf.cell? ⟨w.heap.size + 2, 0, none⟩ = some (.bool true) := by rw [cell_of_row Wf _ 0 _ _ _ hz9]; rfl
          have z1 : Wf.cell? ⟨w.heap.size + 2, 1, none⟩ = some (.int .i64 tN) := by rw [cell_of_row Wf _ 1 _ _ _ hz9]; rfl
          have z2 : Wf.cell? ⟨w.heap.size + 2, 2, none⟩ = some (.int .i64 tL) := by rw [cell_of_row Wf _ 2 _ _ _ hz9]; rfl
          exact bodyPost_ret (v := .tuple #[.agg #[.bool true, .int .i64 tN, .int .i64 tL], .int .i64 12]) (by simp [results, Tryd.results9, go_sem, z0, z1, z2]) rfl ⟨rfl, hb9⟩
  · have hT : tc = ac := by rw [HT.out]; simp [hc]
    subst hT
    have h1 : tO = on := by rw [HN.out.1]; simp [hc]
    have h2 : tN = nx := by rw [HN.out.2.1]; simp [hc]
    have h3 : tL = la := by rw [HN.out.2.2]; simp [hc]
    subst h1 h2 h3
    have hpos : (0 : Int) < (tc : Int) := by omega
    clear HN HSQ HT hc
    go_wp2
    have hz9 := set3_row HZ.out (.bool tO) (.int .i64 tN) (.int .i64 tL)
    have hb9 := below3 HB2.out HRl.out (.bool tO) (.int .i64 tN) (.int .i64 tL)
    generalize ((w2.setCell ⟨w.heap.size + 2, 0, none⟩ (.bool tO)).setCell ⟨w.heap.size + 2, 1, none⟩ (.int .i64 tN)).setCell ⟨w.heap.size + 2, 2, none⟩ (.int .i64 tL) = Wf at *
    have z0 : Wf.cell? ⟨w.heap.size + 2, 0, none⟩ = some (.bool tO) := by rw [cell_of_row Wf _ 0 _ _ _ hz9]; rfl
    have z1 : Wf.cell? ⟨w.heap.size + 2, 1, none⟩ = some (.int .i64 tN) := by rw [cell_of_row Wf _ 1 _ _ _ hz9]; rfl
    have z2 : Wf.cell? ⟨w.heap.size + 2, 2, none⟩ = some (.int .i64 tL) := by rw [cell_of_row Wf _ 2 _ _ _ hz9]; rfl
    exact bodyPost_ret (v := .tuple #[.agg #[.bool tO, .int .i64 tN, .int .i64 tL], .int .i64 tc]) (by simp [results, Tryd.results9, go_sem, z0, z1, z2]) rfl ⟨rfl, hb9⟩
end Go.Proofs.YtccjlddikinkiaaDoor
