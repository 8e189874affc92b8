/- LotsFault by its contract. -/
import Derived.Test.YtbcinejhipmomaaDoorCvRef
import Derived.Test.YtbcinejhipmomaaDoorAskError
namespace Go.Proofs.YtbcinejhipmomaaDoor
open Go.RowKit
set_option maxRecDepth 100000

/-- the number of a lot's own error -/
def lotE (x : Cv.Lot) : Int := if Cv.ok x = true then 0 else 2
/-- the number of the error of a lot that is not well -/
def badE (x : Cv.Lot) : Int := if Cv.ok x = true then 7 else 2

set_option maxHeartbeats 1000000 in
theorem lotError_any (x : Cv.Lot) (w : World) : Calls Tryd.prog 44 #[lotV x] w fun e w' => e = .returned (.int .i64 (lotE x)) ∧ Below w.heap.size w w' := by
  show Calls Tryd.prog 44 #[.agg #[.int .i64 x.id, .int .i64 x.ow, .int .i64 x.sd, .int .i64 x.pr, .int .i64 x.q]] w _
  go_enter Tryd.func44, Tryd.ntmps44
  go_wp2_with (go_at_call 64; refine (in_any _ _ _ _).mono ?_; rintro e w' ⟨rfl, rfl⟩)
  all_goals go_ret
  all_goals
    refine ⟨ret_int ?_, (Below.refl _ _).alloc (Nat.le_refl _) _⟩
    simp_all [lotE, Cv.ok]

theorem two_cells {w : World} {b : Nat} {x y : Value} (u v : Value) (r0 : w.cell? ⟨b, 0, none⟩ = some x) (r1 : w.cell? ⟨b, 1, none⟩ = some y) :
    ((w.setCell ⟨b, 0, none⟩ u).setCell ⟨b, 1, none⟩ v).cell? ⟨b, 0, none⟩ = some u ∧ ((w.setCell ⟨b, 0, none⟩ u).setCell ⟨b, 1, none⟩ v).cell? ⟨b, 1, none⟩ = some v := by
  have h1 : (w.setCell ⟨b, 0, none⟩ u).cell? ⟨b, 1, none⟩ = some y := by rw [World.cell?_setCell_other _ _ _ _ (by simp)]; exact r1
  refine ⟨?_, World.cell?_setCell_same _ _ _ h1⟩
  rw [World.cell?_setCell_other _ _ _ _ (by simp)]
  exact World.cell?_setCell_same _ _ _ r0
set_option maxHeartbeats 400000 in
theorem fine_any (w : World) : Calls Tryd.prog 45 #[] w fun e w' => e = .returned (.agg #[.int .i64 0, .int .i64 (-1)]) ∧ Below w.heap.size w w' := by
  go_enter Tryd.func45, Tryd.ntmps45
  go_wp2
  refine bodyPost_ret (v := .agg #[.int .i64 0, .int .i64 (-1)]) (by simp [results, Tryd.results45, go_sem]) rfl ⟨rfl, ?_⟩
  exact (Below.refl _ _).alloc (Nat.le_refl _) _
set_option maxHeartbeats 400000 in
theorem bare_any (c : Int) (w : World) : Calls Tryd.prog 13 #[.int .i64 c] w fun e w' => e = .returned (.agg #[.int .i64 c, .int .i64 (-1)]) ∧ Below w.heap.size w w' := by
  go_enter Tryd.func13, Tryd.ntmps13
  go_wp2
  refine bodyPost_ret (v := .agg #[.int .i64 c, .int .i64 (-1)]) (by simp [results, Tryd.results13, go_sem]) rfl ⟨rfl, ?_⟩
  exact (Below.refl _ _).alloc (Nat.le_refl _) _

set_option maxHeartbeats 1000000 in
theorem lotsFault_some (g : Addr) (n cap : Nat) (l : List Cv.Lot) (w : World) (hn : Hid (l.length = n)) (hn' : n ≤ 120) (hl : Hid (ArgAt w g l)) :
    Calls Tryd.prog 12 #[.slice (some g) n cap] w fun e w' => (Cv.WellTo l n ∧ e = .returned (.agg #[.int .i64 0, .int .i64 (-1)]) ∨
      ∃ i : Nat, i < n ∧ Cv.WellTo l i ∧ Cv.okAt l i = false ∧ e = .returned (.agg #[.int .i64 (badE (Cv.nth l i)), .int .i64 i])) ∧ Below w.heap.size w w' := by
  have hni : ¬ (120 : Int) < n := by omega
  go_enter Tryd.func12, Tryd.ntmps12
  go_wp2
  go_loopw [3] (fun i wr => ∃ k : Nat, k ≤ n ∧ i = .int .i64 k ∧ Cv.WellTo l k ∧ Below (w.heap.size + 1) (w.alloc (.cells #[.int .i64 0, .int .i64 0] 32)) wr) (fun i _ => n - (intOf i).toNat)
  case atStart => exact ⟨0, Nat.zero_le _, rfl, fun i hi => absurd hi (Nat.not_lt_zero i), Below.refl _ _⟩
  case round =>
    obtain ⟨k, hk, rfl, hwl, hb⟩ := hrel
    have HW := hide hwl; have HB0 := hide hb
    have HB : Hid (Below w.heap.size w wr) := ((Below.refl _ w).alloc (Nat.le_refl _) _).trans (hb.mono (by omega))
    have hz : w.heap.size < wr.heap.size := by have := hb.size; simp at this; omega
    clear hwl hb
    by_cases hlt : k < n
    · have hki : (k : Int) < n := by omega
      obtain ⟨c0, c1, c2, c3, c4⟩ := (hl.out.later HB.out) k (by rw [hn.out]; exact hlt)
      generalize hx : Cv.nth l k = x at *
      have HX := hide hx
      clear hx
      go_wp2_with fail
      refine (lotError_any x _).mono ?_
      rintro e w2 ⟨rfl, hb2⟩
      have HB2 : Hid (Below w.heap.size w w2) := HB.out.trans (hb2.mono HB.out.size)
      have hz2 : w.heap.size < w2.heap.size := by have := hb2.size; omega
      have HB3 : Hid (Below (w.heap.size + 1) (w.alloc (.cells #[.int .i64 0, .int .i64 0] 32)) w2) := HB0.out.trans (hb2.mono (by omega))
      have r0 : w2.cell? ⟨w.heap.size, 0, none⟩ = some (.int .i64 0) := by rw [HB3.out.cell (p := ⟨w.heap.size, 0, none⟩) (by simp)]; simp
      have r1 : w2.cell? ⟨w.heap.size, 1, none⟩ = some (.int .i64 0) := by rw [HB3.out.cell (p := ⟨w.heap.size, 1, none⟩) (by simp)]; simp
      have f0 : w2.frozen? ⟨w.heap.size, 0, none⟩ = false := by rw [HB3.out.frozen (p := ⟨w.heap.size, 0, none⟩) (by simp)]; simp
      have f1 : w2.frozen? ⟨w.heap.size, 1, none⟩ = false := by rw [HB3.out.frozen (p := ⟨w.heap.size, 1, none⟩) (by simp)]; simp
      clear hb2 c0 c1 c2 c3 c4
      cases hok : Cv.ok x with
      | false =>
        have hE : lotE x = 2 := by unfold lotE; rw [hok]; rfl
        have HBD : Hid (Cv.okAt l k = false) := by show _ = _; unfold Cv.okAt; rw [HX.out, hok]; rfl
        have HBE : Hid (badE (Cv.nth l k) = 2) := by show _ = _; unfold badE; rw [HX.out, hok]; rfl
        rw [hE]
        clear hok hE
        simp only []
        go_wp2
        refine wp_loop_rounds 1 ?_
        rw [rounds_succ]
        go_wp2
        all_goals
          obtain ⟨q0, q1⟩ := two_cells (.int .i64 2) (.int .i64 (k : Int)) r0 r1
          refine bodyPost_ret (v := .agg #[.int .i64 2, .int .i64 k]) (by simp [results, Tryd.results12, go_sem, q0, q1]) rfl ⟨.inr ⟨k, hlt, HW.out, HBD.out, by rw [HBE.out]⟩, ?_⟩
          exact (HB2.out.setCell (p := ⟨w.heap.size, _, none⟩) (Nat.le_refl _) _).setCell (p := ⟨w.heap.size, _, none⟩) (Nat.le_refl _) _
      | true =>
        have hE : lotE x = 0 := by unfold lotE; rw [hok]; rfl
        have Hok := hide hok
        rw [hE]
        clear hok hE
        obtain ⟨i0, _⟩ := (hl.out.later HB2.out) k (by rw [hn.out]; exact hlt)
        rw [HX.out] at i0
        have HL2 := hide (hl.out.later HB2.out)
        simp only []
        go_wp2
        go_loopw [4, 5] (fun e j wx => ∃ m q : Nat, m ≤ k ∧ j = .int .i64 m ∧ (e = .int .i64 0 ∧ Cv.has (l.take m) x.id = false ∨ e = .int .i64 7 ∧ Cv.has (l.take k) x.id = true) ∧ wx = w2.drewN q) (fun _ j _ => k - (intOf j).toNat)
        case atStart => exact ⟨0, 0, Nat.zero_le _, rfl, .inl ⟨rfl, rfl⟩, rfl⟩
        case round =>
          obtain ⟨m, q, hm, rfl, he, rfl⟩ := hrel
          rcases he with ⟨rfl, hno⟩ | ⟨rfl, hyes⟩
          · have HNO := hide hno
            clear hno
            by_cases hmk : m < k
            · have hmi : (m : Int) < k := by omega
              have hmn : (m : Int) < n := by omega
              obtain ⟨j0, _⟩ := HL2.out m (by rw [hn.out]; omega)
              have HT := hide (Cv.take_succ (l := l) (i := m) (by rw [hn.out]; omega))
              have HTK : Hid (Cv.nth l m ∈ l.take k) := by
                have := Cv.nth_mem (l := l.take k) (i := m) (by rw [List.length_take, hn.out]; omega)
                rwa [Cv.nth_take hmk] at this
              generalize Cv.nth l m = y at *
              by_cases hid : y.id = x.id
              · have HY : Hid (Cv.has (l.take k) x.id = true) := List.any_eq_true.2 ⟨y, HTK.out, by simpa using hid⟩
                clear HTK HT
                go_wp2
                go_quiet (fail)
                go_wp2
                exact ⟨⟨m + 1, q + nq, by omega, by go_num, .inr ⟨rfl, HY.out⟩, rfl⟩, by simp [intOf]; omega⟩
              · have HN2 : Hid (Cv.has (l.take (m + 1)) x.id = false) := by
                  have hh := HNO.out
                  show _ = _
                  rw [HT.out]
                  unfold Cv.has at hh ⊢
                  rw [List.any_append, hh]
                  simpa using hid
                clear HTK HT
                go_wp2
                go_quiet (fail)
                go_wp2
                exact ⟨⟨m + 1, q + nq, by omega, by go_num, .inl ⟨rfl, HN2.out⟩, rfl⟩, by simp [intOf]; omega⟩
            · have hmi : ¬ (m : Int) < k := by omega
              have hmk2 : m = k := by omega
              have hwl' : Cv.WellTo l (k + 1) := by
                intro i hi
                by_cases e : i = k
                · rw [e]; unfold Cv.okAt; rw [HX.out, Hok.out, ← hmk2, HNO.out]; rfl
                · exact HW.out i (by omega)
              have HW' := hide hwl'
              clear hwl' hmk2
              go_wp2
              exact ⟨⟨k + 1, by omega, by go_num, HW'.out, HB3.out.trans ((blw_drew q).mono (by omega))⟩, by simp [intOf]; omega⟩
          · have HBD : Hid (Cv.okAt l k = false) := by show _ = _; unfold Cv.okAt; rw [HX.out, hyes]; simp
            have HBE : Hid (badE (Cv.nth l k) = 7) := by show _ = _; unfold badE; rw [HX.out, Hok.out]; rfl
            have HB2' : Hid (Below w.heap.size w (w2.drewN q)) := HB2.out.trans ((blw_drew q).mono HB2.out.size)
            have r0 : (w2.drewN q).cell? ⟨w.heap.size, 0, none⟩ = some (.int .i64 0) := r0
            have r1 : (w2.drewN q).cell? ⟨w.heap.size, 1, none⟩ = some (.int .i64 0) := r1
            have f0 : (w2.drewN q).frozen? ⟨w.heap.size, 0, none⟩ = false := f0
            have f1 : (w2.drewN q).frozen? ⟨w.heap.size, 1, none⟩ = false := f1
            clear hyes
            generalize w2.drewN q = w3 at *
            go_wp2
            all_goals
              obtain ⟨q0, q1⟩ := two_cells (.int .i64 7) (.int .i64 (k : Int)) r0 r1
              refine bodyPost_ret (v := .agg #[.int .i64 7, .int .i64 k]) (by simp [results, Tryd.results12, go_sem, q0, q1]) rfl ⟨.inr ⟨k, hlt, HW.out, HBD.out, by rw [HBE.out]⟩, ?_⟩
              exact (HB2'.out.setCell (p := ⟨w.heap.size, _, none⟩) (Nat.le_refl _) _).setCell (p := ⟨w.heap.size, _, none⟩) (Nat.le_refl _) _
    · have hki : ¬ (k : Int) < n := by omega
      have hkk : k = n := by omega
      have hwl := HW.out
      rw [hkk] at hwl
      have Hwl := hide hwl
      clear hwl hkk
      go_wp2_with fail
      refine (fine_any _).mono ?_
      rintro e w5 ⟨rfl, hb5⟩
      have HB5 : Hid (Below w.heap.size w w5) := HB.out.trans (hb5.mono HB.out.size)
      have HB6 : Hid (Below (w.heap.size + 1) (w.alloc (.cells #[.int .i64 0, .int .i64 0] 32)) w5) := HB0.out.trans (hb5.mono (by omega))
      have r0 : w5.cell? ⟨w.heap.size, 0, none⟩ = some (.int .i64 0) := by rw [HB6.out.cell (p := ⟨w.heap.size, 0, none⟩) (by simp)]; simp
      have r1 : w5.cell? ⟨w.heap.size, 1, none⟩ = some (.int .i64 0) := by rw [HB6.out.cell (p := ⟨w.heap.size, 1, none⟩) (by simp)]; simp
      have f0 : w5.frozen? ⟨w.heap.size, 0, none⟩ = false := by rw [HB6.out.frozen (p := ⟨w.heap.size, 0, none⟩) (by simp)]; simp
      have f1 : w5.frozen? ⟨w.heap.size, 1, none⟩ = false := by rw [HB6.out.frozen (p := ⟨w.heap.size, 1, none⟩) (by simp)]; simp
      clear hb5
      simp only []
      go_wp2
      obtain ⟨q0, q1⟩ := two_cells (.int .i64 0) (.int .i64 (-1)) r0 r1
      refine bodyPost_ret (v := .agg #[.int .i64 0, .int .i64 (-1)]) (by simp [results, Tryd.results12, go_sem, q0, q1]) rfl ⟨.inl ⟨Hwl.out, rfl⟩, ?_⟩
      exact (HB5.out.setCell (p := ⟨w.heap.size, _, none⟩) (Nat.le_refl _) _).setCell (p := ⟨w.heap.size, _, none⟩) (Nat.le_refl _) _

set_option maxHeartbeats 400000 in
theorem lotsFault_full (a : Option Addr) (n cap : Nat) (w : World) (hn : 120 < n) :
    Calls Tryd.prog 12 #[.slice a n cap] w fun e w' => e = .returned (.agg #[.int .i64 8, .int .i64 (-1)]) ∧ Below w.heap.size w w' := by
  have hni : (120 : Int) < n := by omega
  go_enter Tryd.func12, Tryd.ntmps12
  go_wp2_with fail
  refine (bare_any 8 _).mono ?_
  rintro e w5 ⟨rfl, hb5⟩
  have HB5 : Hid (Below w.heap.size w w5) := ((Below.refl _ w).alloc (Nat.le_refl _) _).trans (hb5.mono (by simp))
  have r0 : w5.cell? ⟨w.heap.size, 0, none⟩ = some (.int .i64 0) := by rw [hb5.cell (p := ⟨w.heap.size, 0, none⟩) (by simp)]; simp
  have r1 : w5.cell? ⟨w.heap.size, 1, none⟩ = some (.int .i64 0) := by rw [hb5.cell (p := ⟨w.heap.size, 1, none⟩) (by simp)]; simp
  have f0 : w5.frozen? ⟨w.heap.size, 0, none⟩ = false := by rw [hb5.frozen (p := ⟨w.heap.size, 0, none⟩) (by simp)]; simp
  have f1 : w5.frozen? ⟨w.heap.size, 1, none⟩ = false := by rw [hb5.frozen (p := ⟨w.heap.size, 1, none⟩) (by simp)]; simp
  clear hb5
  simp only []
  go_wp2
  obtain ⟨q0, q1⟩ := two_cells (.int .i64 8) (.int .i64 (-1)) r0 r1
  refine bodyPost_ret (v := .agg #[.int .i64 8, .int .i64 (-1)]) (by simp [results, Tryd.results12, go_sem, q0, q1]) rfl ⟨rfl, ?_⟩
  exact (HB5.out.setCell (p := ⟨w.heap.size, _, none⟩) (Nat.le_refl _) _).setCell (p := ⟨w.heap.size, _, none⟩) (Nat.le_refl _) _
set_option maxHeartbeats 400000 in
theorem lotsFault_none (a : Option Addr) (cap : Nat) (w : World) :
    Calls Tryd.prog 12 #[.slice a 0 cap] w fun e w' => e = .returned (.agg #[.int .i64 0, .int .i64 (-1)]) ∧ Below w.heap.size w w' := by
  go_enter Tryd.func12, Tryd.ntmps12
  go_wp2
  refine wp_loop_rounds 1 ?_
  rw [rounds_succ]
  go_wp2_with fail
  refine (fine_any _).mono ?_
  rintro e w5 ⟨rfl, hb5⟩
  have HB5 : Hid (Below w.heap.size w w5) := ((Below.refl _ w).alloc (Nat.le_refl _) _).trans (hb5.mono (by simp))
  have r0 : w5.cell? ⟨w.heap.size, 0, none⟩ = some (.int .i64 0) := by rw [hb5.cell (p := ⟨w.heap.size, 0, none⟩) (by simp)]; simp
  have r1 : w5.cell? ⟨w.heap.size, 1, none⟩ = some (.int .i64 0) := by rw [hb5.cell (p := ⟨w.heap.size, 1, none⟩) (by simp)]; simp
  have f0 : w5.frozen? ⟨w.heap.size, 0, none⟩ = false := by rw [hb5.frozen (p := ⟨w.heap.size, 0, none⟩) (by simp)]; simp
  have f1 : w5.frozen? ⟨w.heap.size, 1, none⟩ = false := by rw [hb5.frozen (p := ⟨w.heap.size, 1, none⟩) (by simp)]; simp
  clear hb5
  simp only []
  go_wp2
  obtain ⟨q0, q1⟩ := two_cells (.int .i64 0) (.int .i64 (-1)) r0 r1
  refine bodyPost_ret (v := .agg #[.int .i64 0, .int .i64 (-1)]) (by simp [results, Tryd.results12, go_sem, q0, q1]) rfl ⟨rfl, ?_⟩
  exact (HB5.out.setCell (p := ⟨w.heap.size, _, none⟩) (Nat.le_refl _) _).setCell (p := ⟨w.heap.size, _, none⟩) (Nat.le_refl _) _

end Go.Proofs.YtbcinejhipmomaaDoor
