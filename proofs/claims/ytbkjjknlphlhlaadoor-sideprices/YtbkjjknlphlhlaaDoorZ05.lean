/- The document's answer for a request's error: AskError is the number that the checks give. -/
import Derived.Test.YtbkjjknlphlhlaaDoorZ04
namespace Go.Proofs.YtbkjjknlphlhlaaDoor
open Go.RowKit
set_option maxRecDepth 100000

set_option maxHeartbeats 400000 in
theorem in_any (x lo hi : Int) (w : World) :
    Calls Tryd.prog 29 #[.int .i64 x, .int .i64 lo, .int .i64 hi] w fun e w' => e = .returned (.bool (Wi.withinB x lo hi)) ∧ w' = w := by
  by_cases h : lo ≤ x
  · go_enter Tryd.func29, Tryd.ntmps29
    go_wp2
    go_ret
    exact ⟨ret_bool (by simp [Wi.withinB, h]), rfl⟩
  · have h' : decide (lo ≤ x) = false := by simpa using h
    go_enter Tryd.func29, Tryd.ntmps29
    go_wp2
    go_ret
    exact ⟨ret_bool (by simp [Wi.withinB, h']), rfl⟩

theorem Wi.client_in (c : Int) (h1 : ¬ c < 0) (h2 : ¬ 6 ≤ c) : Wi.withinB c 0 5 = true := by simp [Wi.withinB]; omega

end Go.Proofs.YtbkjjknlphlhlaaDoor
namespace Go.Proofs.YtbkjjknlphlhlaaDoor
open Go.RowKit
set_option maxRecDepth 100000

/-- the number of a lot's own error -/
def lotE (x : Cv.Lot) : Int := if Cv.ok x = true then 0 else 2
/-- the number of the error of a lot that is not well -/
def badE (x : Cv.Lot) : Int := if Cv.ok x = true then 7 else 2

set_option maxHeartbeats 1000000 in
theorem lotError_any (x : Cv.Lot) (w : World) : Calls Tryd.prog 16 #[lotV x] w fun e w' => e = .returned (.int .i64 (lotE x)) ∧ Below w.heap.size w w' := by
  show Calls Tryd.prog 16 #[.agg #[.int .i64 x.id, .int .i64 x.ow, .int .i64 x.sd, .int .i64 x.pr, .int .i64 x.q]] w _
  go_enter Tryd.func16, Tryd.ntmps16
  go_wp2_with (go_at_call 29; refine (in_any _ _ _ _).mono ?_; rintro e w' ⟨rfl, rfl⟩)
  all_goals go_ret
  all_goals
    refine ⟨ret_int ?_, (Below.refl _ _).alloc (Nat.le_refl _) _⟩
    simp_all [lotE, Cv.ok]

theorem two_cells {w : World} {b : Nat} {x y : Value} (u v : Value) (r0 : w.cell? ⟨b, 0, none⟩ = some x) (r1 : w.cell? ⟨b, 1, none⟩ = some y) :
    ((w.setCell ⟨b, 0, none⟩ u).setCell ⟨b, 1, none⟩ v).cell? ⟨b, 0, none⟩ = some u ∧ ((w.setCell ⟨b, 0, none⟩ u).setCell ⟨b, 1, none⟩ v).cell? ⟨b, 1, none⟩ = some v := by
  have h1 : (w.setCell ⟨b, 0, none⟩ u).cell? ⟨b, 1, none⟩ = some y := by rw [World.cell?_setCell_other _ _ _ _ (by simp)]; exact r1
  refine ⟨?_, World.cell?_setCell_same _ _ _ h1⟩
  rw [World.cell?_setCell_other _ _ _ _ (by simp)]
  exact World.cell?_setCell_same _ _ _ r0
set_option maxHeartbeats 400000 in
theorem fine_any (w : World) : Calls Tryd.prog 15 #[] w fun e w' => e = .returned (.agg #[.int .i64 0, .int .i64 (-1)]) ∧ Below w.heap.size w w' := by
  go_enter Tryd.func15, Tryd.ntmps15
  go_wp2
  refine bodyPost_ret (v := .agg #[.int .i64 0, .int .i64 (-1)]) (by simp [results, Tryd.results15, go_sem]) rfl ⟨rfl, ?_⟩
  exact (Below.refl _ _).alloc (Nat.le_refl _) _
set_option maxHeartbeats 400000 in
theorem bare_any (c : Int) (w : World) : Calls Tryd.prog 14 #[.int .i64 c] w fun e w' => e = .returned (.agg #[.int .i64 c, .int .i64 (-1)]) ∧ Below w.heap.size w w' := by
  go_enter Tryd.func14, Tryd.ntmps14
  go_wp2
  refine bodyPost_ret (v := .agg #[.int .i64 c, .int .i64 (-1)]) (by simp [results, Tryd.results14, go_sem]) rfl ⟨rfl, ?_⟩
  exact (Below.refl _ _).alloc (Nat.le_refl _) _

set_option maxHeartbeats 1000000 in
theorem lotsFault_some (g : Addr) (n cap : Nat) (l : List Cv.Lot) (w : World) (hn : Hid (l.length = n)) (hn' : n ≤ 120) (hl : Hid (ArgAt w g l)) :
    Calls Tryd.prog 7 #[.slice (some g) n cap] w fun e w' => (Cv.WellTo l n ∧ e = .returned (.agg #[.int .i64 0, .int .i64 (-1)]) ∨
      ∃ i : Nat, i < n ∧ Cv.WellTo l i ∧ Cv.okAt l i = false ∧ e = .returned (.agg #[.int .i64 (badE (Cv.nth l i)), .int .i64 i])) ∧ Below w.heap.size w w' := by
  have hni : ¬ (120 : Int) < n := by omega
  go_enter Tryd.func7, Tryd.ntmps7
  go_wp2
  go_loopw [3] (fun i wr => ∃ k : Nat, k ≤ n ∧ i = .int .i64 k ∧ Cv.WellTo l k ∧ Below (w.heap.size + 1) (w.alloc (.cells #[.int .i64 0, .int .i64 0] 31)) wr) (fun i _ => n - (intOf i).toNat)
  case atStart => exact ⟨0, Nat.zero_le _, rfl, fun i hi => absurd hi (Nat.not_lt_zero i), Below.refl _ _⟩
  case round =>
    obtain ⟨k, hk, rfl, hwl, hb⟩ := hrel
    have HW := hide hwl; have HB0 := hide hb
    have HB : Hid (Below w.heap.size w wr) := ((Below.refl _ w).alloc (Nat.le_refl _) _).trans (hb.mono (by omega))
    have hz : w.heap.size < wr.heap.size := by have := hb.size; simp at this; omega
    clear hwl hb
    by_cases hlt : k < n
    · have hki : (k : Int) < n := by omega
      obtain ⟨c0, c1, c2, c3, c4⟩ := (hl.out.later HB.out) k (by rw [hn.out]; exact hlt)
      generalize hx : Cv.nth l k = x at *
      have HX := hide hx
      clear hx
      go_wp2_with fail
      refine (lotError_any x _).mono ?_
      rintro e w2 ⟨rfl, hb2⟩
      have HB2 : Hid (Below w.heap.size w w2) := HB.out.trans (hb2.mono HB.out.size)
      have hz2 : w.heap.size < w2.heap.size := by have := hb2.size; omega
      have HB3 : Hid (Below (w.heap.size + 1) (w.alloc (.cells #[.int .i64 0, .int .i64 0] 31)) w2) := HB0.out.trans (hb2.mono (by omega))
      have r0 : w2.cell? ⟨w.heap.size, 0, none⟩ = some (.int .i64 0) := by rw [HB3.out.cell (p := ⟨w.heap.size, 0, none⟩) (by simp)]; simp
      have r1 : w2.cell? ⟨w.heap.size, 1, none⟩ = some (.int .i64 0) := by rw [HB3.out.cell (p := ⟨w.heap.size, 1, none⟩) (by simp)]; simp
      have f0 : w2.frozen? ⟨w.heap.size, 0, none⟩ = false := by rw [HB3.out.frozen (p := ⟨w.heap.size, 0, none⟩) (by simp)]; simp
      have f1 : w2.frozen? ⟨w.heap.size, 1, none⟩ = false := by rw [HB3.out.frozen (p := ⟨w.heap.size, 1, none⟩) (by simp)]; simp
      clear hb2 c0 c1 c2 c3 c4
      cases hok : Cv.ok x with
      | false =>
        have hE : lotE x = 2 := by unfold lotE; rw [hok]; rfl
        have HBD : Hid (Cv.okAt l k = false) := by show _ = _; unfold Cv.okAt; rw [HX.out, hok]; rfl
        have HBE : Hid (badE (Cv.nth l k) = 2) := by show _ = _; unfold badE; rw [HX.out, hok]; rfl
        rw [hE]
        clear hok hE
        simp only []
        go_wp2
        refine wp_loop_rounds 1 ?_
        rw [rounds_succ]
        go_wp2
        all_goals
          obtain ⟨q0, q1⟩ := two_cells (.int .i64 2) (.int .i64 (k : Int)) r0 r1
          refine bodyPost_ret (v := .agg #[.int .i64 2, .int .i64 k]) (by simp [results, Tryd.results7, go_sem, q0, q1]) rfl ⟨.inr ⟨k, hlt, HW.out, HBD.out, by rw [HBE.out]⟩, ?_⟩
          exact (HB2.out.setCell (p := ⟨w.heap.size, _, none⟩) (Nat.le_refl _) _).setCell (p := ⟨w.heap.size, _, none⟩) (Nat.le_refl _) _
      | true =>
        have hE : lotE x = 0 := by unfold lotE; rw [hok]; rfl
        have Hok := hide hok
        rw [hE]
        clear hok hE
        obtain ⟨i0, _⟩ := (hl.out.later HB2.out) k (by rw [hn.out]; exact hlt)
        rw [HX.out] at i0
        have HL2 := hide (hl.out.later HB2.out)
        simp only []
        go_wp2
        go_loopw [4, 5] (fun e j wx => ∃ m q : Nat, m ≤ k ∧ j = .int .i64 m ∧ (e = .int .i64 0 ∧ Cv.has (l.take m) x.id = false ∨ e = .int .i64 7 ∧ Cv.has (l.take k) x.id = true) ∧ wx = w2.drewN q) (fun _ j _ => k - (intOf j).toNat)
        case atStart => exact ⟨0, 0, Nat.zero_le _, rfl, .inl ⟨rfl, rfl⟩, rfl⟩
        case round =>
          obtain ⟨m, q, hm, rfl, he, rfl⟩ := hrel
          rcases he with ⟨rfl, hno⟩ | ⟨rfl, hyes⟩
          · have HNO := hide hno
            clear hno
            by_cases hmk : m < k
            · have hmi : (m : Int) < k := by omega
              have hmn : (m : Int) < n := by omega
              obtain ⟨j0, _⟩ := HL2.out m (by rw [hn.out]; omega)
              have HT := hide (Cv.take_succ (l := l) (i := m) (by rw [hn.out]; omega))
              have HTK : Hid (Cv.nth l m ∈ l.take k) := by
                have := Cv.nth_mem (l := l.take k) (i := m) (by rw [List.length_take, hn.out]; omega)
                rwa [Cv.nth_take hmk] at this
              generalize Cv.nth l m = y at *
              by_cases hid : y.id = x.id
              · have HY : Hid (Cv.has (l.take k) x.id = true) := List.any_eq_true.2 ⟨y, HTK.out, by simpa using hid⟩
                clear HTK HT
                go_wp2
                go_quiet (fail)
                go_wp2
                exact ⟨⟨m + 1, q + nq, by omega, by go_num, .inr ⟨rfl, HY.out⟩, rfl⟩, by simp [intOf]; omega⟩
              · have HN2 : Hid (Cv.has (l.take (m + 1)) x.id = false) := by
                  have hh := HNO.out
                  show _ = _
                  rw [HT.out]
                  unfold Cv.has at hh ⊢
                  rw [List.any_append, hh]
                  simpa using hid
                clear HTK HT
                go_wp2
                go_quiet (fail)
                go_wp2
                exact ⟨⟨m + 1, q + nq, by omega, by go_num, .inl ⟨rfl, HN2.out⟩, rfl⟩, by simp [intOf]; omega⟩
            · have hmi : ¬ (m : Int) < k := by omega
              have hmk2 : m = k := by omega
              have hwl' : Cv.WellTo l (k + 1) := by
                intro i hi
                by_cases e : i = k
                · rw [e]; unfold Cv.okAt; rw [HX.out, Hok.out, ← hmk2, HNO.out]; rfl
                · exact HW.out i (by omega)
              have HW' := hide hwl'
              clear hwl' hmk2
              go_wp2
              exact ⟨⟨k + 1, by omega, by go_num, HW'.out, HB3.out.trans ((blw_drew q).mono (by omega))⟩, by simp [intOf]; omega⟩
          · have HBD : Hid (Cv.okAt l k = false) := by show _ = _; unfold Cv.okAt; rw [HX.out, hyes]; simp
            have HBE : Hid (badE (Cv.nth l k) = 7) := by show _ = _; unfold badE; rw [HX.out, Hok.out]; rfl
            have HB2' : Hid (Below w.heap.size w (w2.drewN q)) := HB2.out.trans ((blw_drew q).mono HB2.out.size)
            have r0 : (w2.drewN q).cell? ⟨w.heap.size, 0, none⟩ = some (.int .i64 0) := r0
            have r1 : (w2.drewN q).cell? ⟨w.heap.size, 1, none⟩ = some (.int .i64 0) := r1
            have f0 : (w2.drewN q).frozen? ⟨w.heap.size, 0, none⟩ = false := f0
            have f1 : (w2.drewN q).frozen? ⟨w.heap.size, 1, none⟩ = false := f1
            clear hyes
            generalize w2.drewN q = w3 at *
            go_wp2
            all_goals
              obtain ⟨q0, q1⟩ := two_cells (.int .i64 7) (.int .i64 (k : Int)) r0 r1
              refine bodyPost_ret (v := .agg #[.int .i64 7, .int .i64 k]) (by simp [results, Tryd.results7, go_sem, q0, q1]) rfl ⟨.inr ⟨k, hlt, HW.out, HBD.out, by rw [HBE.out]⟩, ?_⟩
              exact (HB2'.out.setCell (p := ⟨w.heap.size, _, none⟩) (Nat.le_refl _) _).setCell (p := ⟨w.heap.size, _, none⟩) (Nat.le_refl _) _
    · have hki : ¬ (k : Int) < n := by omega
      have hkk : k = n := by omega
      have hwl := HW.out
      rw [hkk] at hwl
      have Hwl := hide hwl
      clear hwl hkk
      go_wp2_with fail
      refine (fine_any _).mono ?_
      rintro e w5 ⟨rfl, hb5⟩
      have HB5 : Hid (Below w.heap.size w w5) := HB.out.trans (hb5.mono HB.out.size)
      have HB6 : Hid (Below (w.heap.size + 1) (w.alloc (.cells #[.int .i64 0, .int .i64 0] 31)) w5) := HB0.out.trans (hb5.mono (by omega))
      have r0 : w5.cell? ⟨w.heap.size, 0, none⟩ = some (.int .i64 0) := by rw [HB6.out.cell (p := ⟨w.heap.size, 0, none⟩) (by simp)]; simp
      have r1 : w5.cell? ⟨w.heap.size, 1, none⟩ = some (.int .i64 0) := by rw [HB6.out.cell (p := ⟨w.heap.size, 1, none⟩) (by simp)]; simp
      have f0 : w5.frozen? ⟨w.heap.size, 0, none⟩ = false := by rw [HB6.out.frozen (p := ⟨w.heap.size, 0, none⟩) (by simp)]; simp
      have f1 : w5.frozen? ⟨w.heap.size, 1, none⟩ = false := by rw [HB6.out.frozen (p := ⟨w.heap.size, 1, none⟩) (by simp)]; simp
      clear hb5
      simp only []
      go_wp2
      obtain ⟨q0, q1⟩ := two_cells (.int .i64 0) (.int .i64 (-1)) r0 r1
      refine bodyPost_ret (v := .agg #[.int .i64 0, .int .i64 (-1)]) (by simp [results, Tryd.results7, go_sem, q0, q1]) rfl ⟨.inl ⟨Hwl.out, rfl⟩, ?_⟩
      exact (HB5.out.setCell (p := ⟨w.heap.size, _, none⟩) (Nat.le_refl _) _).setCell (p := ⟨w.heap.size, _, none⟩) (Nat.le_refl _) _

set_option maxHeartbeats 400000 in
theorem lotsFault_full (a : Option Addr) (n cap : Nat) (w : World) (hn : 120 < n) :
    Calls Tryd.prog 7 #[.slice a n cap] w fun e w' => e = .returned (.agg #[.int .i64 8, .int .i64 (-1)]) ∧ Below w.heap.size w w' := by
  have hni : (120 : Int) < n := by omega
  go_enter Tryd.func7, Tryd.ntmps7
  go_wp2_with fail
  refine (bare_any 8 _).mono ?_
  rintro e w5 ⟨rfl, hb5⟩
  have HB5 : Hid (Below w.heap.size w w5) := ((Below.refl _ w).alloc (Nat.le_refl _) _).trans (hb5.mono (by simp))
  have r0 : w5.cell? ⟨w.heap.size, 0, none⟩ = some (.int .i64 0) := by rw [hb5.cell (p := ⟨w.heap.size, 0, none⟩) (by simp)]; simp
  have r1 : w5.cell? ⟨w.heap.size, 1, none⟩ = some (.int .i64 0) := by rw [hb5.cell (p := ⟨w.heap.size, 1, none⟩) (by simp)]; simp
  have f0 : w5.frozen? ⟨w.heap.size, 0, none⟩ = false := by rw [hb5.frozen (p := ⟨w.heap.size, 0, none⟩) (by simp)]; simp
  have f1 : w5.frozen? ⟨w.heap.size, 1, none⟩ = false := by rw [hb5.frozen (p := ⟨w.heap.size, 1, none⟩) (by simp)]; simp
  clear hb5
  simp only []
  go_wp2
  obtain ⟨q0, q1⟩ := two_cells (.int .i64 8) (.int .i64 (-1)) r0 r1
  refine bodyPost_ret (v := .agg #[.int .i64 8, .int .i64 (-1)]) (by simp [results, Tryd.results7, go_sem, q0, q1]) rfl ⟨rfl, ?_⟩
  exact (HB5.out.setCell (p := ⟨w.heap.size, _, none⟩) (Nat.le_refl _) _).setCell (p := ⟨w.heap.size, _, none⟩) (Nat.le_refl _) _
set_option maxHeartbeats 400000 in
theorem lotsFault_none (a : Option Addr) (cap : Nat) (w : World) :
    Calls Tryd.prog 7 #[.slice a 0 cap] w fun e w' => e = .returned (.agg #[.int .i64 0, .int .i64 (-1)]) ∧ Below w.heap.size w w' := by
  go_enter Tryd.func7, Tryd.ntmps7
  go_wp2
  refine wp_loop_rounds 1 ?_
  rw [rounds_succ]
  go_wp2_with fail
  refine (fine_any _).mono ?_
  rintro e w5 ⟨rfl, hb5⟩
  have HB5 : Hid (Below w.heap.size w w5) := ((Below.refl _ w).alloc (Nat.le_refl _) _).trans (hb5.mono (by simp))
  have r0 : w5.cell? ⟨w.heap.size, 0, none⟩ = some (.int .i64 0) := by rw [hb5.cell (p := ⟨w.heap.size, 0, none⟩) (by simp)]; simp
  have r1 : w5.cell? ⟨w.heap.size, 1, none⟩ = some (.int .i64 0) := by rw [hb5.cell (p := ⟨w.heap.size, 1, none⟩) (by simp)]; simp
  have f0 : w5.frozen? ⟨w.heap.size, 0, none⟩ = false := by rw [hb5.frozen (p := ⟨w.heap.size, 0, none⟩) (by simp)]; simp
  have f1 : w5.frozen? ⟨w.heap.size, 1, none⟩ = false := by rw [hb5.frozen (p := ⟨w.heap.size, 1, none⟩) (by simp)]; simp
  clear hb5
  simp only []
  go_wp2
  obtain ⟨q0, q1⟩ := two_cells (.int .i64 0) (.int .i64 (-1)) r0 r1
  refine bodyPost_ret (v := .agg #[.int .i64 0, .int .i64 (-1)]) (by simp [results, Tryd.results7, go_sem, q0, q1]) rfl ⟨rfl, ?_⟩
  exact (HB5.out.setCell (p := ⟨w.heap.size, _, none⟩) (Nat.le_refl _) _).setCell (p := ⟨w.heap.size, _, none⟩) (Nat.le_refl _) _

end Go.Proofs.YtbkjjknlphlhlaaDoor
namespace Go.Proofs.YtbkjjknlphlhlaaDoor
open Go.RowKit
set_option maxRecDepth 100000

/-- which variable holds an error -/
def glob : Nat → Nat
  | 0 => 2
  | 2 => 0
  | g => g
/-- what the package variables of package api hold: twelve errors of errors.New's make, each at a place of its own; and package errors' own handle -/
structure Sent (w : World) (ad : Nat → Addr) : Prop where
  cell : ∀ g, g < 12 → w.cell? ⟨glob g, 0, none⟩ = some (.iface 145 (.pointer (some (ad g))))
  et : w.cell? ⟨12, 0, none⟩ = some (.iface 124 (.agg #[.pointer (some ⟨13, 27, none⟩)]))
  row : ∀ g, g < 12 → ∃ c t, w.heap[(ad g).block]? = some (.cells c t (0, 0))
  ne : ∀ g h, g < 12 → h < 12 → g ≠ h → ad g ≠ ad h

theorem block_lt_of_heap {w : World} {k : Nat} {o : Obj} (h : w.heap[k]? = some o) : k < w.heap.size := by
  rcases Nat.lt_or_ge k w.heap.size with h' | h'
  · exact h'
  · simp [Array.getElem?_eq_none h'] at h

theorem Sent.later {w w' : World} {ad : Nat → Addr} (h : Sent w ad) (hb : Below w.heap.size w w') : Sent w' ad :=
  ⟨fun g hg => cell_later hb (h.cell g hg), cell_later hb h.et,
   fun g hg => by obtain ⟨c, t, e⟩ := h.row g hg; exact ⟨c, t, (hb.block _ (block_lt_of_heap e)).trans e⟩, h.ne⟩

theorem code_nil (w : World) : Calls Tryd.prog 20 #[.nilIface] w fun e w' => e = .returned (.tuple #[.int .i64 0, .int .i64 (-1)]) ∧ w' = w := by
  go_enter Tryd.func20, Tryd.ntmps20
  go_wp2
  go_ret2
  exact ⟨rfl, rfl⟩

def codeOf (j : Nat) : Int := if j < 12 then j + 1 else -1

set_option maxHeartbeats 4000000 in
theorem code_plain (x : Addr) (j : Nat) (ad : Nat → Addr) (w : World) (hs : Hid (Sent w ad))
    (hIs : Hid (∀ k, k < 12 → ∀ wz, Below w.heap.size w wz → Calls Tryd.prog 31 #[.iface 145 (.pointer (some x)), .iface 145 (.pointer (some (ad k)))] wz fun e w' => e = .returned (.bool (k == j)) ∧ w' = wz)) :
    Calls Tryd.prog 20 #[.iface 145 (.pointer (some x))] w fun e w' => e = .returned (.tuple #[.int .i64 (codeOf j), .int .i64 (-1)]) ∧ Below w.heap.size w w' := by
  go_enter Tryd.func20, Tryd.ntmps20
  go_wp2_with fail
  refine (as_miss x _ _ (cell_later ((Below.refl _ _).alloc (Nat.le_refl _) _) hs.out.et)).mono ?_
  rintro e w1 ⟨rfl, hb1⟩
  have HB1 : Hid (Below w.heap.size w w1) := ((Below.refl _ _).alloc (Nat.le_refl _) _).trans (hb1.mono (by simp))
  clear hb1
  have c0 : w1.cell? ⟨2, 0, none⟩ = some (.iface 145 (.pointer (some (ad 0)))) := (hs.out.later HB1.out).cell 0 (by decide)
  have c1 : w1.cell? ⟨1, 0, none⟩ = some (.iface 145 (.pointer (some (ad 1)))) := (hs.out.later HB1.out).cell 1 (by decide)
  have c2 : w1.cell? ⟨0, 0, none⟩ = some (.iface 145 (.pointer (some (ad 2)))) := (hs.out.later HB1.out).cell 2 (by decide)
  have c3 : w1.cell? ⟨3, 0, none⟩ = some (.iface 145 (.pointer (some (ad 3)))) := (hs.out.later HB1.out).cell 3 (by decide)
  have c4 : w1.cell? ⟨4, 0, none⟩ = some (.iface 145 (.pointer (some (ad 4)))) := (hs.out.later HB1.out).cell 4 (by decide)
  have c5 : w1.cell? ⟨5, 0, none⟩ = some (.iface 145 (.pointer (some (ad 5)))) := (hs.out.later HB1.out).cell 5 (by decide)
  have c6 : w1.cell? ⟨6, 0, none⟩ = some (.iface 145 (.pointer (some (ad 6)))) := (hs.out.later HB1.out).cell 6 (by decide)
  have c7 : w1.cell? ⟨7, 0, none⟩ = some (.iface 145 (.pointer (some (ad 7)))) := (hs.out.later HB1.out).cell 7 (by decide)
  have c8 : w1.cell? ⟨8, 0, none⟩ = some (.iface 145 (.pointer (some (ad 8)))) := (hs.out.later HB1.out).cell 8 (by decide)
  have c9 : w1.cell? ⟨9, 0, none⟩ = some (.iface 145 (.pointer (some (ad 9)))) := (hs.out.later HB1.out).cell 9 (by decide)
  have c10 : w1.cell? ⟨10, 0, none⟩ = some (.iface 145 (.pointer (some (ad 10)))) := (hs.out.later HB1.out).cell 10 (by decide)
  have c11 : w1.cell? ⟨11, 0, none⟩ = some (.iface 145 (.pointer (some (ad 11)))) := (hs.out.later HB1.out).cell 11 (by decide)
  go_wp2_with fail
  have hcell : ∀ k, k < 12 → (w1.alloc (.cells #[.iface 145 (.pointer (some (ad 0))), .iface 145 (.pointer (some (ad 1))), .iface 145 (.pointer (some (ad 2))), .iface 145 (.pointer (some (ad 3))), .iface 145 (.pointer (some (ad 4))), .iface 145 (.pointer (some (ad 5))), .iface 145 (.pointer (some (ad 6))), .iface 145 (.pointer (some (ad 7))), .iface 145 (.pointer (some (ad 8))), .iface 145 (.pointer (some (ad 9))), .iface 145 (.pointer (some (ad 10))), .iface 145 (.pointer (some (ad 11)))] 27)).cell? ⟨w1.heap.size, k, none⟩ = some (.iface 145 (.pointer (some (ad k)))) := by
    intro k hk
    rw [World.cell?_alloc_new]
    match k, hk with
    | 0, _ => rfl
    | 1, _ => rfl
    | 2, _ => rfl
    | 3, _ => rfl
    | 4, _ => rfl
    | 5, _ => rfl
    | 6, _ => rfl
    | 7, _ => rfl
    | 8, _ => rfl
    | 9, _ => rfl
    | 10, _ => rfl
    | 11, _ => rfl
  have hb2 : Below w.heap.size w (w1.alloc (.cells #[.iface 145 (.pointer (some (ad 0))), .iface 145 (.pointer (some (ad 1))), .iface 145 (.pointer (some (ad 2))), .iface 145 (.pointer (some (ad 3))), .iface 145 (.pointer (some (ad 4))), .iface 145 (.pointer (some (ad 5))), .iface 145 (.pointer (some (ad 6))), .iface 145 (.pointer (some (ad 7))), .iface 145 (.pointer (some (ad 8))), .iface 145 (.pointer (some (ad 9))), .iface 145 (.pointer (some (ad 10))), .iface 145 (.pointer (some (ad 11)))] 27)) := HB1.out.alloc HB1.out.size _
  clear c0 c1 c2 c3 c4 c5 c6 c7 c8 c9 c10 c11
  generalize w1.alloc (.cells #[.iface 145 (.pointer (some (ad 0))), .iface 145 (.pointer (some (ad 1))), .iface 145 (.pointer (some (ad 2))), .iface 145 (.pointer (some (ad 3))), .iface 145 (.pointer (some (ad 4))), .iface 145 (.pointer (some (ad 5))), .iface 145 (.pointer (some (ad 6))), .iface 145 (.pointer (some (ad 7))), .iface 145 (.pointer (some (ad 8))), .iface 145 (.pointer (some (ad 9))), .iface 145 (.pointer (some (ad 10))), .iface 145 (.pointer (some (ad 11)))] 27) = w2 at *
  have HB2 := hide hb2
  have HC := hide hcell
  clear hb2 hcell
  go_loop [3, 30] (fun a i => ∃ k : Nat, k ≤ 12 ∧ k ≤ j ∧ i = .int .i64 k ∧ a = .int .i64 (-1)) (fun _ i => 12 - (intOf i).toNat)
  case atStart => exact ⟨0, by omega, by omega, rfl, rfl⟩
  case round =>
    obtain ⟨k, hk, hkj, rfl, rfl⟩ := hrel
    by_cases hlt : k < 12
    · have hck := HC.out k hlt
      have hki : ((k : Int)) < 12 := by omega
      by_cases hj : k = j
      · have HI := hide (hIs.out k hlt _ HB2.out)
        have hb : (k == j) = true := by simp [hj]
        have Hj := hide hj
        clear hj
        go_wp2_with fail
        refine (HI.out).mono ?_
        rintro e w3 ⟨rfl, rfl⟩
        rw [hb]
        go_wp2
        go_ret2
        exact ⟨by rw [show codeOf j = (k : Int) + 1 by unfold codeOf; rw [← Hj.out, if_pos hlt]]; rfl, HB2.out⟩
      · have HI := hide (hIs.out k hlt _ HB2.out)
        have hb : (k == j) = false := by simp [hj]
        go_wp2_with fail
        refine (HI.out).mono ?_
        rintro e w3 ⟨rfl, rfl⟩
        rw [hb]
        go_wp2
        exact ⟨⟨k + 1, by omega, by omega, by go_num, rfl⟩, by simp [intOf]; omega⟩
    · have hki : ¬ ((k : Int)) < 12 := by omega
      go_wp2
      go_ret2
      exact ⟨by rw [show codeOf j = -1 by unfold codeOf; rw [if_neg (by omega)]]; rfl, HB2.out⟩

theorem Sent.is {w wz : World} {ad : Nat → Addr} (h : Sent w ad) (hb : Below w.heap.size w wz) (j k : Nat) (hj : j < 12) (hk : k < 12) :
    Calls Tryd.prog 31 #[.iface 145 (.pointer (some (ad j))), .iface 145 (.pointer (some (ad k)))] wz fun e w' => e = .returned (.bool (k == j)) ∧ w' = wz := by
  by_cases hjk : k = j
  · subst hjk
    simpa using is_same (ad k) wz
  · obtain ⟨ca, ta, ha⟩ := (h.later hb).row j hj
    obtain ⟨cb, tb, hb'⟩ := (h.later hb).row k hk
    have e : (k == j) = false := by simpa using hjk
    rw [e]
    exact is_other (ad j) (ad k) ca cb ta tb wz (h.ne j k hj hk (fun e => hjk e.symm)) ha hb'

/-- Code at the j-th error of package api -/
theorem code_sent (j : Nat) (hj : j < 12) (ad : Nat → Addr) (w : World) (hs : Sent w ad) :
    Calls Tryd.prog 20 #[.iface 145 (.pointer (some (ad j)))] w fun e w' => e = .returned (.tuple #[.int .i64 (j + 1), .int .i64 (-1)]) ∧ Below w.heap.size w w' := by
  have h := code_plain (ad j) j ad w hs (fun k hk wz hb => hs.is hb j k hj hk)
  rw [show codeOf j = j + 1 by simp [codeOf, hj]] at h
  exact h

end Go.Proofs.YtbkjjknlphlhlaaDoor
namespace Go.Proofs.YtbkjjknlphlhlaaDoor
open Go.RowKit
set_option maxRecDepth 100000

set_option maxHeartbeats 4000000 in
theorem code_held (pb po : Nat) (at_ : Int) (j : Nat) (ad : Nat → Addr) (w : World) (hs : Hid (Sent w ad)) (hat : w.cell? ⟨pb, po, none⟩ = some (.int .i64 at_))
    (hIs : Hid (∀ k, k < 12 → ∀ wz, Below w.heap.size w wz → Calls Tryd.prog 31 #[.iface 56 (.pointer (some ⟨pb, po, none⟩)), .iface 145 (.pointer (some (ad k)))] wz fun e w' => e = .returned (.bool (k == j)) ∧ w' = wz)) :
    Calls Tryd.prog 20 #[.iface 56 (.pointer (some ⟨pb, po, none⟩))] w fun e w' => e = .returned (.tuple #[.int .i64 (codeOf j), .int .i64 at_]) ∧ Below w.heap.size w w' := by
  go_enter Tryd.func20, Tryd.ntmps20
  go_wp2_with fail
  refine (as_hit ⟨pb, po, none⟩ _ (.pointer none) _ (cell_later ((Below.refl _ _).alloc (Nat.le_refl _) _) hs.out.et) (by simp) (by simp)).mono ?_
  rintro e w1 ⟨rfl, w0, hb0, hw1⟩
  have HB0 : Hid (Below w.heap.size w w0) := ((Below.refl _ _).alloc (Nat.le_refl _) _).trans (hb0.mono (by simp))
  have hz0 : w.heap.size < w0.heap.size := by have := hb0.size; simp at this; omega
  have ht0 : w0.cell? ⟨w.heap.size, 0, none⟩ = some (.pointer none) := by rw [hb0.cell (p := ⟨w.heap.size, 0, none⟩) (by simp)]; simp
  have hpl := World.block_lt_of_cell? _ _ hat
  have hpl : pb < w.heap.size := hpl
  have hfc : w1.cell? ⟨w.heap.size, 0, none⟩ = some (.pointer (some ⟨pb, po, none⟩)) := by rw [hw1]; exact World.cell?_setCell_same _ _ _ ht0
  have HB1 : Hid (Below w.heap.size w w1) := by rw [hw1]; exact HB0.out.setCell (Nat.le_refl _) _
  have hatc : w1.cell? ⟨pb, po, none⟩ = some (.int .i64 at_) := by rw [HB1.out.cell (p := ⟨pb, po, none⟩) hpl]; exact hat
  clear hw1 hb0 ht0 hat
  have c0 : w1.cell? ⟨2, 0, none⟩ = some (.iface 145 (.pointer (some (ad 0)))) := (hs.out.later HB1.out).cell 0 (by decide)
  have c1 : w1.cell? ⟨1, 0, none⟩ = some (.iface 145 (.pointer (some (ad 1)))) := (hs.out.later HB1.out).cell 1 (by decide)
  have c2 : w1.cell? ⟨0, 0, none⟩ = some (.iface 145 (.pointer (some (ad 2)))) := (hs.out.later HB1.out).cell 2 (by decide)
  have c3 : w1.cell? ⟨3, 0, none⟩ = some (.iface 145 (.pointer (some (ad 3)))) := (hs.out.later HB1.out).cell 3 (by decide)
  have c4 : w1.cell? ⟨4, 0, none⟩ = some (.iface 145 (.pointer (some (ad 4)))) := (hs.out.later HB1.out).cell 4 (by decide)
  have c5 : w1.cell? ⟨5, 0, none⟩ = some (.iface 145 (.pointer (some (ad 5)))) := (hs.out.later HB1.out).cell 5 (by decide)
  have c6 : w1.cell? ⟨6, 0, none⟩ = some (.iface 145 (.pointer (some (ad 6)))) := (hs.out.later HB1.out).cell 6 (by decide)
  have c7 : w1.cell? ⟨7, 0, none⟩ = some (.iface 145 (.pointer (some (ad 7)))) := (hs.out.later HB1.out).cell 7 (by decide)
  have c8 : w1.cell? ⟨8, 0, none⟩ = some (.iface 145 (.pointer (some (ad 8)))) := (hs.out.later HB1.out).cell 8 (by decide)
  have c9 : w1.cell? ⟨9, 0, none⟩ = some (.iface 145 (.pointer (some (ad 9)))) := (hs.out.later HB1.out).cell 9 (by decide)
  have c10 : w1.cell? ⟨10, 0, none⟩ = some (.iface 145 (.pointer (some (ad 10)))) := (hs.out.later HB1.out).cell 10 (by decide)
  have c11 : w1.cell? ⟨11, 0, none⟩ = some (.iface 145 (.pointer (some (ad 11)))) := (hs.out.later HB1.out).cell 11 (by decide)
  go_wp2_with fail
  have hcell : ∀ k, k < 12 → (w1.alloc (.cells #[.iface 145 (.pointer (some (ad 0))), .iface 145 (.pointer (some (ad 1))), .iface 145 (.pointer (some (ad 2))), .iface 145 (.pointer (some (ad 3))), .iface 145 (.pointer (some (ad 4))), .iface 145 (.pointer (some (ad 5))), .iface 145 (.pointer (some (ad 6))), .iface 145 (.pointer (some (ad 7))), .iface 145 (.pointer (some (ad 8))), .iface 145 (.pointer (some (ad 9))), .iface 145 (.pointer (some (ad 10))), .iface 145 (.pointer (some (ad 11)))] 27)).cell? ⟨w1.heap.size, k, none⟩ = some (.iface 145 (.pointer (some (ad k)))) := by
    intro k hk
    rw [World.cell?_alloc_new]
    match k, hk with
    | 0, _ => rfl
    | 1, _ => rfl
    | 2, _ => rfl
    | 3, _ => rfl
    | 4, _ => rfl
    | 5, _ => rfl
    | 6, _ => rfl
    | 7, _ => rfl
    | 8, _ => rfl
    | 9, _ => rfl
    | 10, _ => rfl
    | 11, _ => rfl
  have hb2 : Below w.heap.size w (w1.alloc (.cells #[.iface 145 (.pointer (some (ad 0))), .iface 145 (.pointer (some (ad 1))), .iface 145 (.pointer (some (ad 2))), .iface 145 (.pointer (some (ad 3))), .iface 145 (.pointer (some (ad 4))), .iface 145 (.pointer (some (ad 5))), .iface 145 (.pointer (some (ad 6))), .iface 145 (.pointer (some (ad 7))), .iface 145 (.pointer (some (ad 8))), .iface 145 (.pointer (some (ad 9))), .iface 145 (.pointer (some (ad 10))), .iface 145 (.pointer (some (ad 11)))] 27)) := HB1.out.alloc HB1.out.size _
  clear hfc hatc c0 c1 c2 c3 c4 c5 c6 c7 c8 c9 c10 c11
  generalize w1.alloc (.cells #[.iface 145 (.pointer (some (ad 0))), .iface 145 (.pointer (some (ad 1))), .iface 145 (.pointer (some (ad 2))), .iface 145 (.pointer (some (ad 3))), .iface 145 (.pointer (some (ad 4))), .iface 145 (.pointer (some (ad 5))), .iface 145 (.pointer (some (ad 6))), .iface 145 (.pointer (some (ad 7))), .iface 145 (.pointer (some (ad 8))), .iface 145 (.pointer (some (ad 9))), .iface 145 (.pointer (some (ad 10))), .iface 145 (.pointer (some (ad 11)))] 27) = w2 at *
  have HB2 := hide hb2
  have HC := hide hcell
  clear hb2 hcell
  go_loop [3, 30] (fun a i => ∃ k : Nat, k ≤ 12 ∧ k ≤ j ∧ i = .int .i64 k ∧ a = .int .i64 at_) (fun _ i => 12 - (intOf i).toNat)
  case atStart => exact ⟨0, by omega, by omega, rfl, rfl⟩
  case round =>
    obtain ⟨k, hk, hkj, rfl, rfl⟩ := hrel
    by_cases hlt : k < 12
    · have hck := HC.out k hlt
      have hki : ((k : Int)) < 12 := by omega
      by_cases hj : k = j
      · have HI := hide (hIs.out k hlt _ HB2.out)
        have hb : (k == j) = true := by simp [hj]
        have Hj := hide hj
        clear hj
        go_wp2_with fail
        refine (HI.out).mono ?_
        rintro e w3 ⟨rfl, rfl⟩
        rw [hb]
        go_wp2
        go_ret2
        exact ⟨by rw [show codeOf j = (k : Int) + 1 by unfold codeOf; rw [← Hj.out, if_pos hlt]]; rfl, HB2.out⟩
      · have HI := hide (hIs.out k hlt _ HB2.out)
        have hb : (k == j) = false := by simp [hj]
        go_wp2_with fail
        refine (HI.out).mono ?_
        rintro e w3 ⟨rfl, rfl⟩
        rw [hb]
        go_wp2
        exact ⟨⟨k + 1, by omega, by omega, by go_num, rfl⟩, by simp [intOf]; omega⟩
    · have hki : ¬ ((k : Int)) < 12 := by omega
      go_wp2
      go_ret2
      exact ⟨by rw [show codeOf j = -1 by unfold codeOf; rw [if_neg (by omega)]]; rfl, HB2.out⟩

theorem code_fault (pb po : Nat) (at_ : Int) (j : Nat) (hj : j < 12) (ad : Nat → Addr) (w : World) (hs : Sent w ad) (hat : w.cell? ⟨pb, po, none⟩ = some (.int .i64 at_)) (her : w.cell? ⟨pb, po + 1, none⟩ = some (.iface 145 (.pointer (some (ad j))))) :
    Calls Tryd.prog 20 #[.iface 56 (.pointer (some ⟨pb, po, none⟩))] w fun e w' => e = .returned (.tuple #[.int .i64 (j + 1), .int .i64 at_]) ∧ Below w.heap.size w w' := by
  have h := code_held pb po at_ j ad w hs hat (fun k hk wz hb => by
    by_cases hjk : k = j
    · subst hjk
      simpa using is_fault_same pb po (ad k) wz (cell_later hb her)
    · obtain ⟨ca, ta, ha⟩ := (hs.later hb).row j hj
      obtain ⟨cb, tb, hb'⟩ := (hs.later hb).row k hk
      have e : (k == j) = false := by simpa using hjk
      rw [e]
      exact is_fault_other pb po (ad k) (ad j) ca cb ta tb wz (cell_later hb her) (hs.ne j k hj hk (fun e => hjk e.symm)) ha hb')
  rw [show codeOf j = j + 1 by simp [codeOf, hj]] at h
  exact h

theorem code_other (x : Addr) (ad : Nat → Addr) (w : World) (hs : Sent w ad) (hx : ∀ k, k < 12 → x ≠ ad k) (c : Array Value) (t : TypeId) (hr : w.heap[x.block]? = some (.cells c t (0, 0))) :
    Calls Tryd.prog 20 #[.iface 145 (.pointer (some x))] w fun e w' => e = .returned (.tuple #[.int .i64 (-1), .int .i64 (-1)]) ∧ Below w.heap.size w w' := by
  have h := code_plain x 12 ad w hs (fun k hk wz hb => by
    obtain ⟨cb, tb, hb'⟩ := (hs.later hb).row k hk
    have e : (k == 12) = false := by simp; omega
    rw [e]
    exact is_other x (ad k) c cb t tb wz (hx k hk) ((hb.block _ (block_lt_of_heap hr)).trans hr) hb')
  rw [show codeOf 12 = -1 by simp [codeOf]] at h
  exact h

end Go.Proofs.YtbkjjknlphlhlaaDoor
