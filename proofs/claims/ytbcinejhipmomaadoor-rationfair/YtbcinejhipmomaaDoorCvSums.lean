/- Demand and Supply by their contracts, of any lots. -/
import Derived.Test.YtbcinejhipmomaaDoorCvCheck
namespace Go.Proofs.YtbcinejhipmomaaDoor
open Go.RowKit
set_option maxRecDepth 100000

/-- Check has an error of them -/
theorem check_bad (b off cap n : Nat) (l : List Cv.Lot) (T : TypeId) (v1 v6 v7 : Value) (w : World) (hn : Hid (l.length = n)) (hcap : n ≤ cap) (hl : Hid (LotsAt w b off l)) (he : Hid (Er w T v1 v6 v7)) (hbad : ¬ Cv.Well l) :
    Calls Tryd.prog 53 #[.slice (some ⟨b, off, none⟩) n cap] w fun e w' => (∃ U x, e = .returned (.iface U x)) ∧ Below w.heap.size w w' := by
  by_cases h : 120 < n
  · refine (check_full n cap _ T v1 v6 v7 w he.out h).mono ?_
    rintro e w' ⟨rfl, rfl⟩
    exact ⟨⟨_, _, rfl⟩, Below.refl _ _⟩
  · refine (check_some b off cap n l T v1 v6 v7 w hn (by omega) hcap hl he).mono ?_
    rintro e w' ⟨h1 | ⟨i, B, _, _, _, rfl, _⟩, hb⟩
    · exact absurd ⟨by rw [hn.out]; omega, by rw [hn.out]; exact h1.1⟩ hbad
    · exact ⟨⟨_, _, rfl⟩, hb⟩
/-- Check has none -/
theorem check_fine' (b off cap n : Nat) (l : List Cv.Lot) (T : TypeId) (v1 v6 v7 : Value) (w : World) (hn : Hid (l.length = n)) (hcap : n ≤ cap) (hl : Hid (LotsAt w b off l)) (he : Hid (Er w T v1 v6 v7)) (hok : Cv.Well l) :
    Calls Tryd.prog 53 #[.slice (some ⟨b, off, none⟩) n cap] w fun e w' => e = .returned .nilIface ∧ Below w.heap.size w w' := by
  have h120 := hok.1
  rw [hn.out] at h120
  refine (check_some b off cap n l T v1 v6 v7 w hn h120 hcap hl he).mono ?_
  rintro e w' ⟨h1 | ⟨i, B, hi, _, hno, _⟩, hb⟩
  · exact ⟨h1.2, hb⟩
  · rw [hok.2 i (by rw [hn.out]; exact hi)] at hno
    cases hno

theorem well_fine (b off cap n : Nat) (l : List Cv.Lot) (T : TypeId) (v1 v6 v7 : Value) (w : World) (hn : Hid (l.length = n)) (hcap : n ≤ cap) (hl : Hid (LotsAt w b off l)) (he : Hid (Er w T v1 v6 v7)) (hok : Hid (Cv.Well l)) :
    Calls Tryd.prog 69 #[.slice (some ⟨b, off, none⟩) n cap] w fun e w' => e = .returned (.slice (some ⟨b, off, none⟩) n cap) ∧ Below w.heap.size w w' := by
  go_enter Tryd.func69, Tryd.ntmps69
  go_wp2_with fail
  refine (check_fine' b off cap n l T v1 v6 v7 w hn hcap hl he hok.out).mono ?_
  rintro e w1 ⟨rfl, hb1⟩
  have HB1 := hide hb1
  clear hb1
  simp only []
  go_wp2
  go_ret
  exact ⟨rfl, HB1.out⟩
theorem well_bad (b off cap n : Nat) (l : List Cv.Lot) (T : TypeId) (v1 v6 v7 : Value) (w : World) (hn : Hid (l.length = n)) (hcap : n ≤ cap) (hl : Hid (LotsAt w b off l)) (he : Hid (Er w T v1 v6 v7)) (hbad : Hid (¬ Cv.Well l)) :
    Calls Tryd.prog 69 #[.slice (some ⟨b, off, none⟩) n cap] w fun e w' => e = .returned (.slice none 0 0) ∧ Below w.heap.size w w' := by
  go_enter Tryd.func69, Tryd.ntmps69
  go_wp2_with fail
  refine (check_bad b off cap n l T v1 v6 v7 w hn hcap hl he hbad.out).mono ?_
  rintro e w1 ⟨⟨U, x, rfl⟩, hb1⟩
  have HB1 := hide hb1
  clear hb1
  simp only []
  go_wp2
  go_ret
  exact ⟨rfl, HB1.out⟩
theorem well_none (cap : Nat) (a : Option Addr) (w : World) : Calls Tryd.prog 69 #[.slice a 0 cap] w fun e w' => e = .returned (.slice a 0 cap) ∧ w' = w := by
  go_enter Tryd.func69, Tryd.ntmps69
  go_wp2_with fail
  refine (check_none cap a w).mono ?_
  rintro e w1 ⟨rfl, rfl⟩
  simp only []
  go_wp2
  go_ret
  exact ⟨rfl, rfl⟩

theorem sumD_none (cap : Nat) (a : Option Addr) (f : Value) (w : World) : Calls Tryd.prog 50 #[.slice a 0 cap, f] w fun e w' => e = .returned (.int .i64 0) ∧ w' = w := by
  go_enter Tryd.func50, Tryd.ntmps50
  go_wp2_with fail
  refine (well_none cap a w).mono ?_
  rintro e w1 ⟨rfl, rfl⟩
  simp only []
  go_wp2
  refine wp_loop_rounds 1 ?_
  rw [rounds_succ]
  go_wp2
  go_ret
  exact ⟨rfl, rfl⟩
theorem sumD_bad (b off cap n : Nat) (f : Value) (l : List Cv.Lot) (T : TypeId) (v1 v6 v7 : Value) (w : World) (hn : Hid (l.length = n)) (hcap : n ≤ cap) (hl : Hid (LotsAt w b off l)) (he : Hid (Er w T v1 v6 v7)) (hbad : Hid (¬ Cv.Well l)) :
    Calls Tryd.prog 50 #[.slice (some ⟨b, off, none⟩) n cap, f] w fun e w' => e = .returned (.int .i64 0) ∧ Below w.heap.size w w' := by
  go_enter Tryd.func50, Tryd.ntmps50
  go_wp2_with fail
  refine (well_bad b off cap n l T v1 v6 v7 w hn hcap hl he hbad).mono ?_
  rintro e w1 ⟨rfl, hb1⟩
  have HB1 := hide hb1
  clear hb1
  simp only []
  go_wp2
  refine wp_loop_rounds 1 ?_
  rw [rounds_succ]
  go_wp2
  go_ret
  exact ⟨rfl, HB1.out⟩

set_option maxHeartbeats 1000000 in
theorem sumDd_fine (b off cap n B : Nat) (p : Int) (l : List Cv.Lot) (T : TypeId) (v1 v6 v7 : Value) (w : World) (hn : Hid (l.length = n)) (hcap : n ≤ cap) (hl : Hid (LotsAt w b off l)) (he : Hid (Er w T v1 v6 v7)) (hok : Hid (Cv.Well l)) (hc : w.cell? ⟨B, 0, none⟩ = some (.int .i64 p)) :
    Calls Tryd.prog 50 #[.slice (some ⟨b, off, none⟩) n cap, .func (.func 51) #[] #[.pointer (some ⟨B, 0, none⟩)]] w fun e w' => e = .returned (.int .i64 (Cv.sumIf (Cv.dB p) l)) ∧ Below w.heap.size w w' := by
  have h120 := hok.out.1
  rw [hn.out] at h120
  have HR : Hid (∀ k, 0 ≤ Cv.sumIf (Cv.dB p) (l.take k) ∧ Cv.sumIf (Cv.dB p) (l.take k) ≤ 120000) := fun k => by
    have := Cv.sumIf_bounds (Cv.dB p) (l.take k) (hok.out.oks.take k)
    have h2 : (l.take k).length ≤ 120 := by rw [List.length_take, hn.out]; omega
    omega
  go_enter Tryd.func50, Tryd.ntmps50
  go_wp2_with fail
  refine (well_fine b off cap n l T v1 v6 v7 w hn hcap hl he hok).mono ?_
  rintro e w1 ⟨rfl, hb1⟩
  have HB1 := hide hb1
  clear hb1
  simp only []
  go_wp2
  go_loopw [5, 11] (fun s i wr => ∃ k : Nat, k ≤ n ∧ i = .int .i64 k ∧ s = .int .i64 (Cv.sumIf (Cv.dB p) (l.take k)) ∧ Below w.heap.size w wr) (fun _ i _ => n - (intOf i).toNat)
  case atStart => exact ⟨0, Nat.zero_le _, rfl, rfl, HB1.out⟩
  case round =>
    obtain ⟨k, hk, rfl, rfl, hb⟩ := hrel
    have HB := hide hb
    clear hb
    by_cases hlt : k < n
    · have hki : (k : Int) < n := by omega
      obtain ⟨c0, c1, c2, c3, c4⟩ := (hl.out.later HB.out) k (by rw [hn.out]; exact hlt)
      have HS := hide (Cv.sumIf_step (Cv.dB p) (l := l) (k := k) (by rw [hn.out]; exact hlt))
      obtain ⟨r1, r2⟩ := HR.out k
      have HR2 := hide (HR.out (k + 1))
      rw [HS.out] at HR2
      generalize Cv.sumIf (Cv.dB p) (l.take k) = sk at *
      generalize Cv.nth l k = x at *
      have hcc := fun W (h : Below w.heap.size w W) => dClos_any x B p W (cell_later h hc)
      have HCC := hide hcc
      clear hcc
      have HBa : Hid (Below w.heap.size w (wr.alloc (.cells #[.int .i64 x.id, .int .i64 x.ow, .int .i64 x.sd, .int .i64 x.pr, .int .i64 x.q] 43))) := HB.out.alloc HB.out.size _
      go_wp2_with fail
      refine (HCC.out _ HBa.out).mono ?_
      rintro e w2 ⟨rfl, hb2⟩
      have HB2 : Hid (Below w.heap.size w w2) := HBa.out.trans (hb2.mono HBa.out.size)
      have d4 : w2.cell? ⟨wr.heap.size, 4, none⟩ = some (.int .i64 x.q) := by rw [hb2.cell (p := ⟨wr.heap.size, 4, none⟩) (by simp)]; simp
      clear hb2 c0 c1 c2 c3 c4 HCC HBa
      cases hp : Cv.dB p x with
      | true =>
        have HS2 := hide (show Cv.sumIf (Cv.dB p) (l.take (k + 1)) = sk + x.q by have := HS.out; rw [hp] at this; simpa using this)
        have hr2 : 0 ≤ sk + x.q ∧ sk + x.q ≤ 120000 := by have := HR2.out; rw [hp] at this; simpa using this
        clear HS HR2 hp
        obtain ⟨r3, r4⟩ := hr2
        simp only []
        go_wp2
        exact ⟨⟨k + 1, by omega, by go_num, by rw [HS2.out], HB2.out⟩, by simp [intOf]; omega⟩
      | false =>
        have HS2 := hide (show Cv.sumIf (Cv.dB p) (l.take (k + 1)) = sk by have := HS.out; rw [hp] at this; simpa using this)
        clear HS HR2 hp
        simp only []
        go_wp2
        exact ⟨⟨k + 1, by omega, by go_num, by rw [HS2.out], HB2.out⟩, by simp [intOf]; omega⟩
    · have hki : ¬ (k : Int) < n := by omega
      have hkk : l.take k = l := by
        have : k = l.length := by rw [hn.out]; omega
        rw [this, List.take_length]
      have Hkk := hide hkk
      clear hkk
      go_wp2
      go_ret
      exact ⟨by rw [Hkk.out]; rfl, HB.out⟩

set_option maxHeartbeats 1000000 in
theorem sumSs_fine (b off cap n B : Nat) (p : Int) (l : List Cv.Lot) (T : TypeId) (v1 v6 v7 : Value) (w : World) (hn : Hid (l.length = n)) (hcap : n ≤ cap) (hl : Hid (LotsAt w b off l)) (he : Hid (Er w T v1 v6 v7)) (hok : Hid (Cv.Well l)) (hc : w.cell? ⟨B, 0, none⟩ = some (.int .i64 p)) :
    Calls Tryd.prog 50 #[.slice (some ⟨b, off, none⟩) n cap, .func (.func 52) #[] #[.pointer (some ⟨B, 0, none⟩)]] w fun e w' => e = .returned (.int .i64 (Cv.sumIf (Cv.sB p) l)) ∧ Below w.heap.size w w' := by
  have h120 := hok.out.1
  rw [hn.out] at h120
  have HR : Hid (∀ k, 0 ≤ Cv.sumIf (Cv.sB p) (l.take k) ∧ Cv.sumIf (Cv.sB p) (l.take k) ≤ 120000) := fun k => by
    have := Cv.sumIf_bounds (Cv.sB p) (l.take k) (hok.out.oks.take k)
    have h2 : (l.take k).length ≤ 120 := by rw [List.length_take, hn.out]; omega
    omega
  go_enter Tryd.func50, Tryd.ntmps50
  go_wp2_with fail
  refine (well_fine b off cap n l T v1 v6 v7 w hn hcap hl he hok).mono ?_
  rintro e w1 ⟨rfl, hb1⟩
  have HB1 := hide hb1
  clear hb1
  simp only []
  go_wp2
  go_loopw [5, 11] (fun s i wr => ∃ k : Nat, k ≤ n ∧ i = .int .i64 k ∧ s = .int .i64 (Cv.sumIf (Cv.sB p) (l.take k)) ∧ Below w.heap.size w wr) (fun _ i _ => n - (intOf i).toNat)
  case atStart => exact ⟨0, Nat.zero_le _, rfl, rfl, HB1.out⟩
  case round =>
    obtain ⟨k, hk, rfl, rfl, hb⟩ := hrel
    have HB := hide hb
    clear hb
    by_cases hlt : k < n
    · have hki : (k : Int) < n := by omega
      obtain ⟨c0, c1, c2, c3, c4⟩ := (hl.out.later HB.out) k (by rw [hn.out]; exact hlt)
      have HS := hide (Cv.sumIf_step (Cv.sB p) (l := l) (k := k) (by rw [hn.out]; exact hlt))
      obtain ⟨r1, r2⟩ := HR.out k
      have HR2 := hide (HR.out (k + 1))
      rw [HS.out] at HR2
      generalize Cv.sumIf (Cv.sB p) (l.take k) = sk at *
      generalize Cv.nth l k = x at *
      have hcc := fun W (h : Below w.heap.size w W) => sClos_any x B p W (cell_later h hc)
      have HCC := hide hcc
      clear hcc
      have HBa : Hid (Below w.heap.size w (wr.alloc (.cells #[.int .i64 x.id, .int .i64 x.ow, .int .i64 x.sd, .int .i64 x.pr, .int .i64 x.q] 43))) := HB.out.alloc HB.out.size _
      go_wp2_with fail
      refine (HCC.out _ HBa.out).mono ?_
      rintro e w2 ⟨rfl, hb2⟩
      have HB2 : Hid (Below w.heap.size w w2) := HBa.out.trans (hb2.mono HBa.out.size)
      have d4 : w2.cell? ⟨wr.heap.size, 4, none⟩ = some (.int .i64 x.q) := by rw [hb2.cell (p := ⟨wr.heap.size, 4, none⟩) (by simp)]; simp
      clear hb2 c0 c1 c2 c3 c4 HCC HBa
      cases hp : Cv.sB p x with
      | true =>
        have HS2 := hide (show Cv.sumIf (Cv.sB p) (l.take (k + 1)) = sk + x.q by have := HS.out; rw [hp] at this; simpa using this)
        have hr2 : 0 ≤ sk + x.q ∧ sk + x.q ≤ 120000 := by have := HR2.out; rw [hp] at this; simpa using this
        clear HS HR2 hp
        obtain ⟨r3, r4⟩ := hr2
        simp only []
        go_wp2
        exact ⟨⟨k + 1, by omega, by go_num, by rw [HS2.out], HB2.out⟩, by simp [intOf]; omega⟩
      | false =>
        have HS2 := hide (show Cv.sumIf (Cv.sB p) (l.take (k + 1)) = sk by have := HS.out; rw [hp] at this; simpa using this)
        clear HS HR2 hp
        simp only []
        go_wp2
        exact ⟨⟨k + 1, by omega, by go_num, by rw [HS2.out], HB2.out⟩, by simp [intOf]; omega⟩
    · have hki : ¬ (k : Int) < n := by omega
      have hkk : l.take k = l := by
        have : k = l.length := by rw [hn.out]; omega
        rw [this, List.take_length]
      have Hkk := hide hkk
      clear hkk
      go_wp2
      go_ret
      exact ⟨by rw [Hkk.out]; rfl, HB.out⟩

/-- a slice that holds a list of lots -/
def Lots (w : World) (v : Value) (l : List Cv.Lot) : Prop :=
  (l = [] ∧ ∃ a cap, v = .slice a 0 cap) ∨ ∃ b off cap, v = .slice (some ⟨b, off, none⟩) l.length cap ∧ l.length ≤ cap ∧ LotsAt w b off l
theorem Lots.later {w w' : World} {v : Value} {l : List Cv.Lot} (h : Lots w v l) (hb : Below w.heap.size w w') : Lots w' v l := by
  rcases h with h | ⟨b, off, cap, h1, h2, h3⟩
  · exact .inl h
  · exact .inr ⟨b, off, cap, h1, h2, h3.later hb⟩
theorem Cv.well_nil : Cv.Well [] := ⟨by simp, fun i hi => by simp at hi⟩

theorem demand_some (b off cap n : Nat) (p r : Int) (w : World) (HC : Hid (∀ W, W = w.alloc (.cells #[.int .i64 p] 3) → Calls Tryd.prog 50 #[.slice (some ⟨b, off, none⟩) n cap, .func (.func 51) #[] #[.pointer (some ⟨w.heap.size, 0, none⟩)]] W fun e w' => e = .returned (.int .i64 r) ∧ Below W.heap.size W w')) :
    Calls Tryd.prog 19 #[.slice (some ⟨b, off, none⟩) n cap, .int .i64 p] w fun e w' => e = .returned (.int .i64 r) ∧ Below w.heap.size w w' := by
  go_enter Tryd.func19, Tryd.ntmps19
  go_wp2_with fail
  refine (HC.out _ rfl).mono ?_
  rintro e w2 ⟨rfl, hb⟩
  have HB := hide hb
  clear hb
  simp only []
  go_wp2
  go_ret
  exact ⟨rfl, ((Below.refl _ _).alloc (Nat.le_refl _) _).trans (HB.out.mono (by simp))⟩
theorem demand_none (cap : Nat) (a : Option Addr) (p : Int) (w : World) :
    Calls Tryd.prog 19 #[.slice a 0 cap, .int .i64 p] w fun e w' => e = .returned (.int .i64 0) ∧ Below w.heap.size w w' := by
  go_enter Tryd.func19, Tryd.ntmps19
  go_wp2_with fail
  refine (sumD_none cap a _ _).mono ?_
  rintro e w2 ⟨rfl, rfl⟩
  simp only []
  go_wp2
  go_ret
  exact ⟨rfl, (Below.refl _ _).alloc (Nat.le_refl _) _⟩
/-- demand, of any lots -/
theorem demand_any (v : Value) (l : List Cv.Lot) (p : Int) (T : TypeId) (v1 v6 v7 : Value) (w : World) (hv : Lots w v l) (he : Hid (Er w T v1 v6 v7)) (hok : Cv.Well l) :
    Calls Tryd.prog 19 #[v, .int .i64 p] w fun e w' => e = .returned (.int .i64 (Cv.demand l p)) ∧ Below w.heap.size w w' := by
  rcases hv with ⟨rfl, a, cap, rfl⟩ | ⟨b, off, cap, rfl, hcap, hl⟩
  · exact demand_none cap a p w
  · refine demand_some b off cap _ p _ w (fun W hW => ?_)
    subst hW
    exact sumDd_fine b off cap l.length w.heap.size p l T v1 v6 v7 _ rfl hcap (hl.later ((Below.refl _ _).alloc (Nat.le_refl _) _)) (he.out.later ((Below.refl _ _).alloc (Nat.le_refl _) _)) hok (by simp)
theorem demand_bad (v : Value) (l : List Cv.Lot) (p : Int) (T : TypeId) (v1 v6 v7 : Value) (w : World) (hv : Lots w v l) (he : Hid (Er w T v1 v6 v7)) (hbad : ¬ Cv.Well l) :
    Calls Tryd.prog 19 #[v, .int .i64 p] w fun e w' => e = .returned (.int .i64 0) ∧ Below w.heap.size w w' := by
  rcases hv with ⟨rfl, a, cap, rfl⟩ | ⟨b, off, cap, rfl, hcap, hl⟩
  · exact absurd Cv.well_nil hbad
  · refine demand_some b off cap _ p _ w (fun W hW => ?_)
    subst hW
    exact sumD_bad b off cap l.length _ l T v1 v6 v7 _ rfl hcap (hl.later ((Below.refl _ _).alloc (Nat.le_refl _) _)) (he.out.later ((Below.refl _ _).alloc (Nat.le_refl _) _)) hbad

theorem supply_some (b off cap n : Nat) (p r : Int) (w : World) (HC : Hid (∀ W, W = w.alloc (.cells #[.int .i64 p] 3) → Calls Tryd.prog 50 #[.slice (some ⟨b, off, none⟩) n cap, .func (.func 52) #[] #[.pointer (some ⟨w.heap.size, 0, none⟩)]] W fun e w' => e = .returned (.int .i64 r) ∧ Below W.heap.size W w')) :
    Calls Tryd.prog 20 #[.slice (some ⟨b, off, none⟩) n cap, .int .i64 p] w fun e w' => e = .returned (.int .i64 r) ∧ Below w.heap.size w w' := by
  go_enter Tryd.func20, Tryd.ntmps20
  go_wp2_with fail
  refine (HC.out _ rfl).mono ?_
  rintro e w2 ⟨rfl, hb⟩
  have HB := hide hb
  clear hb
  simp only []
  go_wp2
  go_ret
  exact ⟨rfl, ((Below.refl _ _).alloc (Nat.le_refl _) _).trans (HB.out.mono (by simp))⟩
theorem supply_none (cap : Nat) (a : Option Addr) (p : Int) (w : World) :
    Calls Tryd.prog 20 #[.slice a 0 cap, .int .i64 p] w fun e w' => e = .returned (.int .i64 0) ∧ Below w.heap.size w w' := by
  go_enter Tryd.func20, Tryd.ntmps20
  go_wp2_with fail
  refine (sumD_none cap a _ _).mono ?_
  rintro e w2 ⟨rfl, rfl⟩
  simp only []
  go_wp2
  go_ret
  exact ⟨rfl, (Below.refl _ _).alloc (Nat.le_refl _) _⟩
/-- supply, of any lots -/
theorem supply_any (v : Value) (l : List Cv.Lot) (p : Int) (T : TypeId) (v1 v6 v7 : Value) (w : World) (hv : Lots w v l) (he : Hid (Er w T v1 v6 v7)) (hok : Cv.Well l) :
    Calls Tryd.prog 20 #[v, .int .i64 p] w fun e w' => e = .returned (.int .i64 (Cv.supply l p)) ∧ Below w.heap.size w w' := by
  rcases hv with ⟨rfl, a, cap, rfl⟩ | ⟨b, off, cap, rfl, hcap, hl⟩
  · exact supply_none cap a p w
  · refine supply_some b off cap _ p _ w (fun W hW => ?_)
    subst hW
    exact sumSs_fine b off cap l.length w.heap.size p l T v1 v6 v7 _ rfl hcap (hl.later ((Below.refl _ _).alloc (Nat.le_refl _) _)) (he.out.later ((Below.refl _ _).alloc (Nat.le_refl _) _)) hok (by simp)
theorem supply_bad (v : Value) (l : List Cv.Lot) (p : Int) (T : TypeId) (v1 v6 v7 : Value) (w : World) (hv : Lots w v l) (he : Hid (Er w T v1 v6 v7)) (hbad : ¬ Cv.Well l) :
    Calls Tryd.prog 20 #[v, .int .i64 p] w fun e w' => e = .returned (.int .i64 0) ∧ Below w.heap.size w w' := by
  rcases hv with ⟨rfl, a, cap, rfl⟩ | ⟨b, off, cap, rfl, hcap, hl⟩
  · exact absurd Cv.well_nil hbad
  · refine supply_some b off cap _ p _ w (fun W hW => ?_)
    subst hW
    exact sumD_bad b off cap l.length _ l T v1 v6 v7 _ rfl hcap (hl.later ((Below.refl _ _).alloc (Nat.le_refl _) _)) (he.out.later ((Below.refl _ _).alloc (Nat.le_refl _) _)) hbad

end Go.Proofs.YtbcinejhipmomaaDoor
