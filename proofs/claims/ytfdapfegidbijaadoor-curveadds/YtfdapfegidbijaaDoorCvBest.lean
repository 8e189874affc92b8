/- Volume, Surplus, Best and Cross by their contracts, of any lots. -/
import Derived.Test.YtfdapfegidbijaaDoorCvSums
namespace Go.Proofs.YtfdapfegidbijaaDoor
open Go.RowKit
set_option maxRecDepth 100000

theorem Lots.form {w : World} {v : Value} {l : List Cv.Lot} (h : Lots w v l) : ∃ a n cap, v = .slice a n cap := by
  rcases h with ⟨_, a, cap, rfl⟩ | ⟨b, off, cap, rfl, _⟩
  · exact ⟨_, _, _, rfl⟩
  · exact ⟨_, _, _, rfl⟩

set_option maxHeartbeats 400000 in
theorem volume_of (a : Option Addr) (n cap : Nat) (p d s : Int) (w : World)
    (hd : Hid (Calls Tryd.prog 14 #[.slice a n cap, .int .i64 p] w fun e w' => e = .returned (.int .i64 d) ∧ Below w.heap.size w w'))
    (hs : Hid (∀ w1, Below w.heap.size w w1 → Calls Tryd.prog 15 #[.slice a n cap, .int .i64 p] w1 fun e w' => e = .returned (.int .i64 s) ∧ Below w1.heap.size w1 w')) :
    Calls Tryd.prog 16 #[.slice a n cap, .int .i64 p] w fun e w' => e = .returned (.int .i64 (min d s)) ∧ Below w.heap.size w w' := by
  go_enter Tryd.func16, Tryd.ntmps16
  go_wp2_with fail
  refine hd.out.mono ?_
  rintro e w1 ⟨rfl, hb1⟩
  have HB1 := hide hb1
  clear hb1
  simp only []
  go_wp2_with fail
  refine (hs.out _ HB1.out).mono ?_
  rintro e w2 ⟨rfl, hb2⟩
  have HB2 := hide (HB1.out.trans (hb2.mono HB1.out.size))
  clear hb2
  simp only []
  go_wp2
  all_goals go_ret
  all_goals exact ⟨ret_int (by omega), HB2.out⟩

set_option maxHeartbeats 400000 in
theorem surplus_of (a : Option Addr) (n cap : Nat) (p d s : Int) (w : World) (hd0 : 0 ≤ d) (hd1 : d ≤ 1000000) (hs0 : 0 ≤ s) (hs1 : s ≤ 1000000)
    (hd : Hid (Calls Tryd.prog 14 #[.slice a n cap, .int .i64 p] w fun e w' => e = .returned (.int .i64 d) ∧ Below w.heap.size w w'))
    (hs : Hid (∀ w1, Below w.heap.size w w1 → Calls Tryd.prog 15 #[.slice a n cap, .int .i64 p] w1 fun e w' => e = .returned (.int .i64 s) ∧ Below w1.heap.size w1 w')) :
    Calls Tryd.prog 17 #[.slice a n cap, .int .i64 p] w fun e w' => e = .returned (.int .i64 (d - s)) ∧ Below w.heap.size w w' := by
  go_enter Tryd.func17, Tryd.ntmps17
  go_wp2_with fail
  refine hd.out.mono ?_
  rintro e w1 ⟨rfl, hb1⟩
  have HB1 := hide hb1
  clear hb1
  simp only []
  go_wp2_with fail
  refine (hs.out _ HB1.out).mono ?_
  rintro e w2 ⟨rfl, hb2⟩
  have HB2 := hide (HB1.out.trans (hb2.mono HB1.out.size))
  clear hb2
  simp only []
  go_wp2
  go_ret
  exact ⟨rfl, HB2.out⟩

theorem Cv.demand_range (l : List Cv.Lot) (p : Int) (h : Cv.Well l) : 0 ≤ Cv.demand l p ∧ Cv.demand l p ≤ 120000 := by
  have := Cv.sumIf_bounds (Cv.dB p) l h.oks
  have h2 := h.1
  unfold Cv.demand
  omega
theorem Cv.supply_range (l : List Cv.Lot) (p : Int) (h : Cv.Well l) : 0 ≤ Cv.supply l p ∧ Cv.supply l p ≤ 120000 := by
  have := Cv.sumIf_bounds (Cv.sB p) l h.oks
  have h2 := h.1
  unfold Cv.supply
  omega

theorem volume_any (v : Value) (l : List Cv.Lot) (p : Int) (T : TypeId) (v1 v6 v7 : Value) (w : World) (hv : Lots w v l) (he : Hid (Er w T v1 v6 v7)) (hok : Cv.Well l) :
    Calls Tryd.prog 16 #[v, .int .i64 p] w fun e w' => e = .returned (.int .i64 (Cv.volume l p)) ∧ Below w.heap.size w w' := by
  obtain ⟨a, n, cap, rfl⟩ := hv.form
  exact volume_of a n cap p _ _ w (demand_any _ l p T v1 v6 v7 w hv he hok) (fun w1 hb => supply_any _ l p T v1 v6 v7 w1 (hv.later hb) (he.out.later hb) hok)
theorem volume_bad (v : Value) (l : List Cv.Lot) (p : Int) (T : TypeId) (v1 v6 v7 : Value) (w : World) (hv : Lots w v l) (he : Hid (Er w T v1 v6 v7)) (hbad : ¬ Cv.Well l) :
    Calls Tryd.prog 16 #[v, .int .i64 p] w fun e w' => e = .returned (.int .i64 0) ∧ Below w.heap.size w w' := by
  obtain ⟨a, n, cap, rfl⟩ := hv.form
  exact volume_of a n cap p 0 0 w (demand_bad _ l p T v1 v6 v7 w hv he hbad) (fun w1 hb => supply_bad _ l p T v1 v6 v7 w1 (hv.later hb) (he.out.later hb) hbad)
theorem surplus_any (v : Value) (l : List Cv.Lot) (p : Int) (T : TypeId) (v1 v6 v7 : Value) (w : World) (hv : Lots w v l) (he : Hid (Er w T v1 v6 v7)) (hok : Cv.Well l) :
    Calls Tryd.prog 17 #[v, .int .i64 p] w fun e w' => e = .returned (.int .i64 (Cv.demand l p - Cv.supply l p)) ∧ Below w.heap.size w w' := by
  obtain ⟨a, n, cap, rfl⟩ := hv.form
  have h1 := Cv.demand_range l p hok
  have h2 := Cv.supply_range l p hok
  exact surplus_of a n cap p _ _ w (by omega) (by omega) (by omega) (by omega) (demand_any _ l p T v1 v6 v7 w hv he hok) (fun w1 hb => supply_any _ l p T v1 v6 v7 w1 (hv.later hb) (he.out.later hb) hok)
theorem surplus_bad (v : Value) (l : List Cv.Lot) (p : Int) (T : TypeId) (v1 v6 v7 : Value) (w : World) (hv : Lots w v l) (he : Hid (Er w T v1 v6 v7)) (hbad : ¬ Cv.Well l) :
    Calls Tryd.prog 17 #[v, .int .i64 p] w fun e w' => e = .returned (.int .i64 0) ∧ Below w.heap.size w w' := by
  obtain ⟨a, n, cap, rfl⟩ := hv.form
  exact surplus_of a n cap p 0 0 w (by omega) (by omega) (by omega) (by omega) (demand_bad _ l p T v1 v6 v7 w hv he hbad) (fun w1 hb => supply_bad _ l p T v1 v6 v7 w1 (hv.later hb) (he.out.later hb) hbad)

theorem best_none (cap : Nat) (a : Option Addr) (side : Int) (w : World) : Calls Tryd.prog 25 #[.slice a 0 cap, .int .i64 side] w fun e w' => e = .returned (.int .i64 0) ∧ w' = w := by
  go_enter Tryd.func25, Tryd.ntmps25
  go_wp2_with fail
  refine (well_none cap a w).mono ?_
  rintro e w1 ⟨rfl, rfl⟩
  simp only []
  go_wp2
  refine wp_loop_rounds 1 ?_
  rw [rounds_succ]
  go_wp2
  go_ret
  exact ⟨rfl, rfl⟩

set_option maxHeartbeats 1000000 in
theorem best_fine (b off cap n : Nat) (side : Int) (l : List Cv.Lot) (T : TypeId) (v1 v6 v7 : Value) (w : World) (hn : Hid (l.length = n)) (hcap : n ≤ cap) (hl : Hid (LotsAt w b off l)) (he : Hid (Er w T v1 v6 v7)) (hok : Hid (Cv.Well l)) :
    Calls Tryd.prog 25 #[.slice (some ⟨b, off, none⟩) n cap, .int .i64 side] w fun e w' => e = .returned (.int .i64 (Cv.best side l)) ∧ Below w.heap.size w w' := by
  have h120 := hok.out.1
  rw [hn.out] at h120
  go_enter Tryd.func25, Tryd.ntmps25
  go_wp2_with fail
  refine (well_fine b off cap n l T v1 v6 v7 w hn hcap hl he hok).mono ?_
  rintro e w1 ⟨rfl, hb1⟩
  have HB1 := hide hb1
  clear hb1
  simp only []
  go_wp2
  go_loopw [5, 11] (fun s i wr => ∃ k : Nat, k ≤ n ∧ i = .int .i64 k ∧ s = .int .i64 (Cv.best side (l.take k)) ∧ Below w.heap.size w wr) (fun _ i _ => n - (intOf i).toNat)
  case atStart => exact ⟨0, Nat.zero_le _, rfl, rfl, HB1.out⟩
  case round =>
    obtain ⟨k, hk, rfl, rfl, hb⟩ := hrel
    have HB := hide hb
    clear hb
    by_cases hlt : k < n
    · have hki : (k : Int) < n := by omega
      obtain ⟨c0, c1, c2, c3, c4⟩ := (hl.out.later HB.out) k (by rw [hn.out]; exact hlt)
      have HS := hide (Cv.best_step side (l := l) (k := k) (by rw [hn.out]; exact hlt))
      generalize Cv.best side (l.take k) = bk at *
      generalize Cv.nth l k = x at *
      have HBa : Hid (Below w.heap.size w (wr.alloc (.cells #[.int .i64 x.id, .int .i64 x.ow, .int .i64 x.sd, .int .i64 x.pr, .int .i64 x.q] 44))) := HB.out.alloc HB.out.size _
      go_wp2_with (go_at_call 44; refine (better_any _ _ _ _).mono ?_; rintro e w' ⟨rfl, rfl⟩)
      all_goals
        have hb3 : Cv.bstep side bk x = if (x.sd == side && (bk == 0 || Cv.better side x.pr bk)) = true then x.pr else bk := rfl
        clear c0 c1 c2 c3 c4
        exact ⟨⟨k + 1, by omega, by go_num, by rw [HS.out, hb3]; clear hb3 HS HBa HB HB1 hn hl he hok; simp_all, HB.out.alloc HB.out.size _⟩, by simp [intOf]; omega⟩
    · have hki : ¬ (k : Int) < n := by omega
      have hkk : l.take k = l := by
        have : k = l.length := by rw [hn.out]; omega
        rw [this, List.take_length]
      have Hkk := hide hkk
      clear hkk
      go_wp2
      go_ret
      exact ⟨by rw [Hkk.out]; rfl, HB.out⟩

theorem best_any (v : Value) (l : List Cv.Lot) (side : Int) (T : TypeId) (v1 v6 v7 : Value) (w : World) (hv : Lots w v l) (he : Hid (Er w T v1 v6 v7)) (hok : Cv.Well l) :
    Calls Tryd.prog 25 #[v, .int .i64 side] w fun e w' => e = .returned (.int .i64 (Cv.best side l)) ∧ Below w.heap.size w w' := by
  rcases hv with ⟨rfl, a, cap, rfl⟩ | ⟨b, off, cap, rfl, hcap, hl⟩
  · refine (best_none cap a side w).mono ?_
    rintro e w' ⟨rfl, rfl⟩
    exact ⟨rfl, Below.refl _ _⟩
  · exact best_fine b off cap _ side l T v1 v6 v7 w rfl hcap hl he hok

set_option maxHeartbeats 400000 in
theorem cross_of (a : Option Addr) (n cap : Nat) (s0 s1 : Int) (w : World)
    (h1 : Hid (Calls Tryd.prog 25 #[.slice a n cap, .int .i64 1] w fun e w' => e = .returned (.int .i64 s1) ∧ Below w.heap.size w w'))
    (h0 : Hid (∀ w1, Below w.heap.size w w1 → Calls Tryd.prog 25 #[.slice a n cap, .int .i64 0] w1 fun e w' => e = .returned (.int .i64 s0) ∧ Below w1.heap.size w1 w')) :
    Calls Tryd.prog 26 #[.slice a n cap] w fun e w' => e = .returned (.bool (s1 != 0 && decide (s1 ≤ s0))) ∧ Below w.heap.size w w' := by
  by_cases hz : s1 = 0
  · subst hz
    go_enter Tryd.func26, Tryd.ntmps26
    go_wp2_with fail
    refine h1.out.mono ?_
    rintro e w1 ⟨rfl, hb1⟩
    have HB1 := hide hb1
    clear hb1
    simp only []
    go_wp2
    go_ret
    exact ⟨rfl, HB1.out⟩
  · go_enter Tryd.func26, Tryd.ntmps26
    go_wp2_with fail
    refine h1.out.mono ?_
    rintro e w1 ⟨rfl, hb1⟩
    have HB1 := hide hb1
    clear hb1
    simp only []
    go_wp2_with fail
    refine (h0.out _ HB1.out).mono ?_
    rintro e w2 ⟨rfl, hb2⟩
    have HB2 := hide (HB1.out.trans (hb2.mono HB1.out.size))
    clear hb2
    simp only []
    go_wp2
    go_ret
    exact ⟨ret_bool (by simp), HB2.out⟩
theorem cross_any (v : Value) (l : List Cv.Lot) (T : TypeId) (v1 v6 v7 : Value) (w : World) (hv : Lots w v l) (he : Hid (Er w T v1 v6 v7)) (hok : Cv.Well l) :
    Calls Tryd.prog 26 #[v] w fun e w' => e = .returned (.bool (Cv.cross l)) ∧ Below w.heap.size w w' := by
  obtain ⟨a, n, cap, rfl⟩ := hv.form
  exact cross_of a n cap _ _ w (best_any _ l 1 T v1 v6 v7 w hv he hok) (fun w1 hb => best_any _ l 0 T v1 v6 v7 w1 (hv.later hb) (he.out.later hb) hok)
end Go.Proofs.YtfdapfegidbijaaDoor
