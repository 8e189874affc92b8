/- Check by its contracts: what is the first lot that is not well? -/
import Derived.Test.YtdggddjgipgllaaGreatDoorG04
import Derived.Test.YtdggddjgipgllaaGreatDoorG05
import Derived.Test.YtdggddjgipgllaaGreatDoorG03
import Derived.Test.YtdggddjgipgllaaGreatDoorG01
import Derived.OneCell
import Derived.Laws.IdiomCopy
namespace Go.Proofs.YtdggddjgipgllaaGreatDoor
open Go.RowKit
set_option maxRecDepth 100000

theorem blw_drew {w : World} (m : Nat) : Below w.heap.size w (w.drewN m) := ⟨rfl, rfl, rfl, Nat.le_refl _, fun _ _ => rfl⟩
structure Er (w : World) (T : TypeId) (v1 v6 v7 : Value) : Prop where
 c1 : w.cell? ⟨0, 0, none⟩ = some (.iface T v1)
 c6 : w.cell? ⟨4, 0, none⟩ = some (.iface T v6)
 c7 : w.cell? ⟨2, 0, none⟩ = some (.iface T v7)
theorem Er.later {w w' : World} {T : TypeId} {v1 v6 v7 : Value} (h : Er w T v1 v6 v7) (hb : Below w.heap.size w w') : Er w' T v1 v6 v7 :=
 ⟨cell_later hb h.c1, cell_later hb h.c6, cell_later hb h.c7⟩

theorem check_none (cap : Nat) (a : Option Addr) (w : World) : Calls Tryz.prog 45 #[.slice a 0 cap] w fun e w' => e = .returned .nilIface ∧ w' = w := by
 go_enter Tryz.func45, Tryz.ntmps45
 go_wp2
 refine wp_loop_rounds 1 ?_
 rw [rounds_succ]
 go_wp2
 go_ret
 exact ⟨rfl, rfl⟩
theorem check_full (n cap : Nat) (a : Option Addr) (T : TypeId) (v1 v6 v7 : Value) (w : World) (h : Er w T v1 v6 v7) (hn : 120 < n) : Calls Tryz.prog 45 #[.slice a n cap] w fun e w' => e = .returned (.iface T v7) ∧ w' = w := by
 have hn' : (120 : Int) < n := by omega
 have c7 := h.c7
 go_enter Tryz.func45, Tryz.ntmps45
 go_wp2
 go_ret
 exact ⟨rfl, rfl⟩

set_option maxHeartbeats 2000000 in
theorem check_some (b off cap n : Nat) (l : List Cv.Lot) (T : TypeId) (v1 v6 v7 : Value) (w : World) (hn : Hid (l.length = n)) (hn' : n ≤ 120) (hcap : n ≤ cap) (hl : Hid (LotsAt w b off l)) (he : Hid (Er w T v1 v6 v7)) :
  Calls Tryz.prog 45 #[.slice (some ⟨b, off, none⟩) n cap] w fun e w' => (Cv.WellTo l n ∧ e = .returned .nilIface ∨
   ∃ i B, i < n ∧ Cv.WellTo l i ∧ Cv.okAt l i = false ∧ e = .returned (.iface 160 (.pointer (some ⟨B, 0, none⟩))) ∧ w'.cell? ⟨B, 0, none⟩ = some (.int .i64 (i : Nat)) ∧ w'.cell? ⟨B, 1, none⟩ = some (if Cv.ok (Cv.nth l i) = true then .iface T v6 else .iface T v1)) ∧ Below w.heap.size w w' := by
 have hni : ¬ (120 : Int) < n := by omega
 go_enter Tryz.func45, Tryz.ntmps45
 go_wp2
 go_loopw [11] (fun i wr => ∃ k : Nat, k ≤ n ∧ i = .int .i64 k ∧ Cv.WellTo l k ∧ Below w.heap.size w wr) (fun i _ => n - (intOf i).toNat)
 case atStart => exact ⟨0, Nat.zero_le _, rfl, fun i hi => absurd hi (Nat.not_lt_zero i), Below.refl _ _⟩
 case round =>
  obtain ⟨k, hk, rfl, hwl, hb⟩ := hrel
  have HW := hide hwl; have HB := hide hb
  clear hwl hb
  by_cases hlt : k < n
  ·have hki : (k : Int) < n := by omega
   have hkc : k ≤ cap := by omega
   obtain ⟨c0, c1, c2, c3, c4⟩ := (hl.out.later HB.out) k (by rw [hn.out]; exact hlt)
   have HX : Hid (∃ x, x = Cv.nth l k) := ⟨_, rfl⟩
   generalize hx : Cv.nth l k = x at *
   have HX := hide hx
   clear hx
   go_wp2_with fail
   refine (lotOk_any x _).mono ?_
   rintro e w2 ⟨rfl, hb2⟩
   have HB2 : Hid (Below w.heap.size w w2) := (HB.out.alloc HB.out.size _).trans (hb2.mono (by have := HB.out.size; simp; omega))
   have d0 : w2.cell? ⟨wr.heap.size, 0, none⟩ = some (.int .i64 x.id) := by rw [hb2.cell (p := ⟨wr.heap.size, 0, none⟩) (by simp)]; simp
   clear hb2 c0 c1 c2 c3 c4
   cases hok : Cv.ok x with
   | false =>
    have Hok := hide hok
    clear hok
    have e1 := (he.out.later HB2.out).c1
    simp only []
    go_wp2
    go_ret
    refine ⟨.inr ⟨k, w2.heap.size, hlt, HW.out, ?_, rfl, by simp, ?_⟩, HB2.out.alloc HB2.out.size _⟩
    ·unfold Cv.okAt; rw [HX.out, Hok.out]; rfl
    ·rw [HX.out, Hok.out]; simp
   | true =>
    have Hok := hide hok
    clear hok
    have hL := hide ((hl.out.later HB2.out).take k)
    have hT : Hid ((l.take k).length = k) := by show _ = _; rw [List.length_take, hn.out]; omega
    simp only []
    go_wp2
    refine region_quiet_tail 5 (by kernel_rfl) (by kernel_rfl) ?_
    simp only [List.take_succ_cons, List.take_zero, List.drop_succ_cons, List.drop_zero]
    repeat (first | go_big_quiet_step (fail) | quiet_step (fail))
    refine wpQuiet_nil ?_
    intro _ hw'
    obtain ⟨nq, hw''⟩ := hw'
    subst hw''
    have HB3 : Hid (Below w.heap.size w (w2.drewN nq)) := HB2.out.trans ((blw_drew nq).mono HB2.out.size)
    have hL3 := hide (hL.out.later (blw_drew nq))
    clear hL
    generalize w2.drewN nq = w3 at *
    go_wp2_with fail
    refine (hasID_any b off cap k x.id (l.take k) w3 hT (by omega) hL3).mono ?_
    rintro e w4 ⟨rfl, hb4⟩
    have HB4 := hide (HB3.out.trans (hb4.mono HB3.out.size))
    clear hb4 hL3 d0
    cases hha : Cv.has (l.take k) x.id with
    | true =>
     have Hha := hide hha
     clear hha
     have e6 := (he.out.later HB4.out).c6
     simp only []
     go_wp2
     go_ret
     refine ⟨.inr ⟨k, w4.heap.size, hlt, HW.out, ?_, rfl, by simp, ?_⟩, HB4.out.alloc HB4.out.size _⟩
     ·unfold Cv.okAt; rw [HX.out, Hok.out, Hha.out]; rfl
     ·rw [HX.out, Hok.out]; simp
    | false =>
     have hwl' : Cv.WellTo l (k + 1) := by
      intro i hi
      by_cases e : i = k
      ·rw [e]; unfold Cv.okAt; rw [HX.out, Hok.out, hha]; rfl
      ·exact HW.out i (by omega)
     have HW' := hide hwl'
     clear hwl' hha
     simp only []
     go_wp2
     exact ⟨⟨k + 1, by omega, by go_num, HW'.out, HB4.out⟩, by simp [intOf]; omega⟩
  ·have hki : ¬ (k : Int) < n := by omega
   have hkk : k = n := by omega
   have hwl := HW.out
   rw [hkk] at hwl
   have Hwl := hide hwl
   clear hwl hkk
   go_wp2
   go_ret
   exact ⟨.inl ⟨Hwl.out, rfl⟩, HB.out⟩
theorem check_bad (b off cap n : Nat) (l : List Cv.Lot) (T : TypeId) (v1 v6 v7 : Value) (w : World) (hn : Hid (l.length = n)) (hcap : n ≤ cap) (hl : Hid (LotsAt w b off l)) (he : Hid (Er w T v1 v6 v7)) (hbad : ¬ Cv.Well l) :
  Calls Tryz.prog 45 #[.slice (some ⟨b, off, none⟩) n cap] w fun e w' => (∃ U x, e = .returned (.iface U x)) ∧ Below w.heap.size w w' := by
 by_cases h : 120 < n
 ·refine (check_full n cap _ T v1 v6 v7 w he.out h).mono ?_
  rintro e w' ⟨rfl, rfl⟩
  exact ⟨⟨_, _, rfl⟩, Below.refl _ _⟩
 ·refine (check_some b off cap n l T v1 v6 v7 w hn (by omega) hcap hl he).mono ?_
  rintro e w' ⟨h1 | ⟨i, B, _, _, _, rfl, _⟩, hb⟩
  ·exact absurd ⟨by rw [hn.out]; omega, by rw [hn.out]; exact h1.1⟩ hbad
  ·exact ⟨⟨_, _, rfl⟩, hb⟩
theorem check_fine' (b off cap n : Nat) (l : List Cv.Lot) (T : TypeId) (v1 v6 v7 : Value) (w : World) (hn : Hid (l.length = n)) (hcap : n ≤ cap) (hl : Hid (LotsAt w b off l)) (he : Hid (Er w T v1 v6 v7)) (hok : Cv.Well l) :
  Calls Tryz.prog 45 #[.slice (some ⟨b, off, none⟩) n cap] w fun e w' => e = .returned .nilIface ∧ Below w.heap.size w w' := by
 have h120 := hok.1
 rw [hn.out] at h120
 refine (check_some b off cap n l T v1 v6 v7 w hn h120 hcap hl he).mono ?_
 rintro e w' ⟨h1 | ⟨i, B, hi, _, hno, _⟩, hb⟩
 ·exact ⟨h1.2, hb⟩
 ·rw [hok.2 i (by rw [hn.out]; exact hi)] at hno
  cases hno

theorem well_fine (b off cap n : Nat) (l : List Cv.Lot) (T : TypeId) (v1 v6 v7 : Value) (w : World) (hn : Hid (l.length = n)) (hcap : n ≤ cap) (hl : Hid (LotsAt w b off l)) (he : Hid (Er w T v1 v6 v7)) (hok : Hid (Cv.Well l)) :
  Calls Tryz.prog 95 #[.slice (some ⟨b, off, none⟩) n cap] w fun e w' => e = .returned (.slice (some ⟨b, off, none⟩) n cap) ∧ Below w.heap.size w w' := by
 go_enter Tryz.func95, Tryz.ntmps95
 go_wp2_with fail
 refine (check_fine' b off cap n l T v1 v6 v7 w hn hcap hl he hok.out).mono ?_
 rintro e w1 ⟨rfl, hb1⟩
 have HB1 := hide hb1
 clear hb1
 simp only []
 go_wp2
 go_ret
 exact ⟨rfl, HB1.out⟩
theorem well_none (cap : Nat) (a : Option Addr) (w : World) : Calls Tryz.prog 95 #[.slice a 0 cap] w fun e w' => e = .returned (.slice a 0 cap) ∧ w' = w := by
 go_enter Tryz.func95, Tryz.ntmps95
 go_wp2_with fail
 refine (check_none cap a w).mono ?_
 rintro e w1 ⟨rfl, rfl⟩
 simp only []
 go_wp2
 go_ret
 exact ⟨rfl, rfl⟩

theorem sumD_none (cap : Nat) (a : Option Addr) (f : Value) (w : World) : Calls Tryz.prog 142 #[.slice a 0 cap, f] w fun e w' => e = .returned (.int .i64 0) ∧ w' = w := by
 go_enter Tryz.func142, Tryz.ntmps142
 go_wp2_with fail
 refine (well_none cap a w).mono ?_
 rintro e w1 ⟨rfl, rfl⟩
 simp only []
 go_wp2
 refine wp_loop_rounds 1 ?_
 rw [rounds_succ]
 go_wp2
 go_ret
 exact ⟨rfl, rfl⟩
set_option maxHeartbeats 1000000 in
theorem sumDd_fine (b off cap n B : Nat) (p : Int) (l : List Cv.Lot) (T : TypeId) (v1 v6 v7 : Value) (w : World) (hn : Hid (l.length = n)) (hcap : n ≤ cap) (hl : Hid (LotsAt w b off l)) (he : Hid (Er w T v1 v6 v7)) (hok : Hid (Cv.Well l)) (hc : w.cell? ⟨B, 0, none⟩ = some (.int .i64 p)) :
  Calls Tryz.prog 142 #[.slice (some ⟨b, off, none⟩) n cap, .func (.func 143) #[] #[.pointer (some ⟨B, 0, none⟩)]] w fun e w' => e = .returned (.int .i64 (Cv.sumIf (Cv.dB p) l)) ∧ Below w.heap.size w w' := by
 have h120 := hok.out.1
 rw [hn.out] at h120
 have HR : Hid (∀ k, 0 ≤ Cv.sumIf (Cv.dB p) (l.take k) ∧ Cv.sumIf (Cv.dB p) (l.take k) ≤ 120000) := fun k => by
  have := Cv.sumIf_bounds (Cv.dB p) (l.take k) (hok.out.oks.take k)
  have h2 : (l.take k).length ≤ 120 := by rw [List.length_take, hn.out]; omega
  omega
 go_enter Tryz.func142, Tryz.ntmps142
 go_wp2_with fail
 refine (well_fine b off cap n l T v1 v6 v7 w hn hcap hl he hok).mono ?_
 rintro e w1 ⟨rfl, hb1⟩
 have HB1 := hide hb1
 clear hb1
 simp only []
 go_wp2
 go_loopw [5, 11] (fun s i wr => ∃ k : Nat, k ≤ n ∧ i = .int .i64 k ∧ s = .int .i64 (Cv.sumIf (Cv.dB p) (l.take k)) ∧ Below w.heap.size w wr) (fun _ i _ => n - (intOf i).toNat)
 case atStart => exact ⟨0, Nat.zero_le _, rfl, rfl, HB1.out⟩
 case round =>
  obtain ⟨k, hk, rfl, rfl, hb⟩ := hrel
  have HB := hide hb
  clear hb
  by_cases hlt : k < n
  ·have hki : (k : Int) < n := by omega
   obtain ⟨c0, c1, c2, c3, c4⟩ := (hl.out.later HB.out) k (by rw [hn.out]; exact hlt)
   have HS := hide (Cv.sumIf_step (Cv.dB p) (l := l) (k := k) (by rw [hn.out]; exact hlt))
   obtain ⟨r1, r2⟩ := HR.out k
   have HR2 := hide (HR.out (k + 1))
   rw [HS.out] at HR2
   generalize Cv.sumIf (Cv.dB p) (l.take k) = sk at *
   generalize Cv.nth l k = x at *
   have hcc := fun W (h : Below w.heap.size w W) => dClos_any x B p W (cell_later h hc)
   have HCC := hide hcc
   clear hcc
   have HBa : Hid (Below w.heap.size w (wr.alloc (.cells #[.int .i64 x.id, .int .i64 x.ow, .int .i64 x.sd, .int .i64 x.pr, .int .i64 x.q] 56))) := HB.out.alloc HB.out.size _
   go_wp2_with fail
   refine (HCC.out _ HBa.out).mono ?_
   rintro e w2 ⟨rfl, hb2⟩
   have HB2 : Hid (Below w.heap.size w w2) := HBa.out.trans (hb2.mono HBa.out.size)
   have d4 : w2.cell? ⟨wr.heap.size, 4, none⟩ = some (.int .i64 x.q) := by rw [hb2.cell (p := ⟨wr.heap.size, 4, none⟩) (by simp)]; simp
   clear hb2 c0 c1 c2 c3 c4 HCC HBa
   cases hp : Cv.dB p x with
   | true =>
    have HS2 := hide (show Cv.sumIf (Cv.dB p) (l.take (k + 1)) = sk + x.q by have := HS.out; rw [hp] at this; simpa using this)
    have hr2 : 0 ≤ sk + x.q ∧ sk + x.q ≤ 120000 := by have := HR2.out; rw [hp] at this; simpa using this
    clear HS HR2 hp
    obtain ⟨r3, r4⟩ := hr2
    simp only []
    go_wp2
    exact ⟨⟨k + 1, by omega, by go_num, by rw [HS2.out], HB2.out⟩, by simp [intOf]; omega⟩
   | false =>
    have HS2 := hide (show Cv.sumIf (Cv.dB p) (l.take (k + 1)) = sk by have := HS.out; rw [hp] at this; simpa using this)
    clear HS HR2 hp
    simp only []
    go_wp2
    exact ⟨⟨k + 1, by omega, by go_num, by rw [HS2.out], HB2.out⟩, by simp [intOf]; omega⟩
  ·have hki : ¬ (k : Int) < n := by omega
   have hkk : l.take k = l := by
    have : k = l.length := by rw [hn.out]; omega
    rw [this, List.take_length]
   have Hkk := hide hkk
   clear hkk
   go_wp2
   go_ret
   exact ⟨by rw [Hkk.out]; rfl, HB.out⟩

set_option maxHeartbeats 1000000 in
theorem sumSs_fine (b off cap n B : Nat) (p : Int) (l : List Cv.Lot) (T : TypeId) (v1 v6 v7 : Value) (w : World) (hn : Hid (l.length = n)) (hcap : n ≤ cap) (hl : Hid (LotsAt w b off l)) (he : Hid (Er w T v1 v6 v7)) (hok : Hid (Cv.Well l)) (hc : w.cell? ⟨B, 0, none⟩ = some (.int .i64 p)) :
  Calls Tryz.prog 142 #[.slice (some ⟨b, off, none⟩) n cap, .func (.func 144) #[] #[.pointer (some ⟨B, 0, none⟩)]] w fun e w' => e = .returned (.int .i64 (Cv.sumIf (Cv.sB p) l)) ∧ Below w.heap.size w w' := by
 have h120 := hok.out.1
 rw [hn.out] at h120
 have HR : Hid (∀ k, 0 ≤ Cv.sumIf (Cv.sB p) (l.take k) ∧ Cv.sumIf (Cv.sB p) (l.take k) ≤ 120000) := fun k => by
  have := Cv.sumIf_bounds (Cv.sB p) (l.take k) (hok.out.oks.take k)
  have h2 : (l.take k).length ≤ 120 := by rw [List.length_take, hn.out]; omega
  omega
 go_enter Tryz.func142, Tryz.ntmps142
 go_wp2_with fail
 refine (well_fine b off cap n l T v1 v6 v7 w hn hcap hl he hok).mono ?_
 rintro e w1 ⟨rfl, hb1⟩
 have HB1 := hide hb1
 clear hb1
 simp only []
 go_wp2
 go_loopw [5, 11] (fun s i wr => ∃ k : Nat, k ≤ n ∧ i = .int .i64 k ∧ s = .int .i64 (Cv.sumIf (Cv.sB p) (l.take k)) ∧ Below w.heap.size w wr) (fun _ i _ => n - (intOf i).toNat)
 case atStart => exact ⟨0, Nat.zero_le _, rfl, rfl, HB1.out⟩
 case round =>
  obtain ⟨k, hk, rfl, rfl, hb⟩ := hrel
  have HB := hide hb
  clear hb
  by_cases hlt : k < n
  ·have hki : (k : Int) < n := by omega
   obtain ⟨c0, c1, c2, c3, c4⟩ := (hl.out.later HB.out) k (by rw [hn.out]; exact hlt)
   have HS := hide (Cv.sumIf_step (Cv.sB p) (l := l) (k := k) (by rw [hn.out]; exact hlt))
   obtain ⟨r1, r2⟩ := HR.out k
   have HR2 := hide (HR.out (k + 1))
   rw [HS.out] at HR2
   generalize Cv.sumIf (Cv.sB p) (l.take k) = sk at *
   generalize Cv.nth l k = x at *
   have hcc := fun W (h : Below w.heap.size w W) => sClos_any x B p W (cell_later h hc)
   have HCC := hide hcc
   clear hcc
   have HBa : Hid (Below w.heap.size w (wr.alloc (.cells #[.int .i64 x.id, .int .i64 x.ow, .int .i64 x.sd, .int .i64 x.pr, .int .i64 x.q] 56))) := HB.out.alloc HB.out.size _
   go_wp2_with fail
   refine (HCC.out _ HBa.out).mono ?_
   rintro e w2 ⟨rfl, hb2⟩
   have HB2 : Hid (Below w.heap.size w w2) := HBa.out.trans (hb2.mono HBa.out.size)
   have d4 : w2.cell? ⟨wr.heap.size, 4, none⟩ = some (.int .i64 x.q) := by rw [hb2.cell (p := ⟨wr.heap.size, 4, none⟩) (by simp)]; simp
   clear hb2 c0 c1 c2 c3 c4 HCC HBa
   cases hp : Cv.sB p x with
   | true =>
    have HS2 := hide (show Cv.sumIf (Cv.sB p) (l.take (k + 1)) = sk + x.q by have := HS.out; rw [hp] at this; simpa using this)
    have hr2 : 0 ≤ sk + x.q ∧ sk + x.q ≤ 120000 := by have := HR2.out; rw [hp] at this; simpa using this
    clear HS HR2 hp
    obtain ⟨r3, r4⟩ := hr2
    simp only []
    go_wp2
    exact ⟨⟨k + 1, by omega, by go_num, by rw [HS2.out], HB2.out⟩, by simp [intOf]; omega⟩
   | false =>
    have HS2 := hide (show Cv.sumIf (Cv.sB p) (l.take (k + 1)) = sk by have := HS.out; rw [hp] at this; simpa using this)
    clear HS HR2 hp
    simp only []
    go_wp2
    exact ⟨⟨k + 1, by omega, by go_num, by rw [HS2.out], HB2.out⟩, by simp [intOf]; omega⟩
  ·have hki : ¬ (k : Int) < n := by omega
   have hkk : l.take k = l := by
    have : k = l.length := by rw [hn.out]; omega
    rw [this, List.take_length]
   have Hkk := hide hkk
   clear hkk
   go_wp2
   go_ret
   exact ⟨by rw [Hkk.out]; rfl, HB.out⟩

def Lots (w : World) (v : Value) (l : List Cv.Lot) : Prop :=
 (l = [] ∧ ∃ a cap, v = .slice a 0 cap) ∨ ∃ b off cap, v = .slice (some ⟨b, off, none⟩) l.length cap ∧ l.length ≤ cap ∧ LotsAt w b off l
theorem Lots.later {w w' : World} {v : Value} {l : List Cv.Lot} (h : Lots w v l) (hb : Below w.heap.size w w') : Lots w' v l := by
 rcases h with h | ⟨b, off, cap, h1, h2, h3⟩
 ·exact .inl h
 ·exact .inr ⟨b, off, cap, h1, h2, h3.later hb⟩
theorem Cv.well_nil : Cv.Well [] := ⟨by simp, fun i hi => by simp at hi⟩

theorem demand_some (b off cap n : Nat) (p r : Int) (w : World) (HC : Hid (∀ W, W = w.alloc (.cells #[.int .i64 p] 3) → Calls Tryz.prog 142 #[.slice (some ⟨b, off, none⟩) n cap, .func (.func 143) #[] #[.pointer (some ⟨w.heap.size, 0, none⟩)]] W fun e w' => e = .returned (.int .i64 r) ∧ Below W.heap.size W w')) :
  Calls Tryz.prog 131 #[.slice (some ⟨b, off, none⟩) n cap, .int .i64 p] w fun e w' => e = .returned (.int .i64 r) ∧ Below w.heap.size w w' := by
 go_enter Tryz.func131, Tryz.ntmps131
 go_wp2_with fail
 refine (HC.out _ rfl).mono ?_
 rintro e w2 ⟨rfl, hb⟩
 have HB := hide hb
 clear hb
 simp only []
 go_wp2
 go_ret
 exact ⟨rfl, (bal).trans (HB.out.mono (by simp))⟩
theorem demand_none (cap : Nat) (a : Option Addr) (p : Int) (w : World) :
  Calls Tryz.prog 131 #[.slice a 0 cap, .int .i64 p] w fun e w' => e = .returned (.int .i64 0) ∧ Below w.heap.size w w' := by
 go_enter Tryz.func131, Tryz.ntmps131
 go_wp2_with fail
 refine (sumD_none cap a _ _).mono ?_
 rintro e w2 ⟨rfl, rfl⟩
 simp only []
 go_wp2
 go_ret
 exact ⟨rfl, bal⟩
theorem demand_any (v : Value) (l : List Cv.Lot) (p : Int) (T : TypeId) (v1 v6 v7 : Value) (w : World) (hv : Lots w v l) (he : Hid (Er w T v1 v6 v7)) (hok : Cv.Well l) :
  Calls Tryz.prog 131 #[v, .int .i64 p] w fun e w' => e = .returned (.int .i64 (Cv.demand l p)) ∧ Below w.heap.size w w' := by
 rcases hv with ⟨rfl, a, cap, rfl⟩ | ⟨b, off, cap, rfl, hcap, hl⟩
 ·exact demand_none cap a p w
 ·refine demand_some b off cap _ p _ w (fun W hW => ?_)
  subst hW
  exact sumDd_fine b off cap l.length w.heap.size p l T v1 v6 v7 _ rfl hcap (hl.later (bal)) (he.out.later (bal)) hok (by simp)
theorem supply_some (b off cap n : Nat) (p r : Int) (w : World) (HC : Hid (∀ W, W = w.alloc (.cells #[.int .i64 p] 3) → Calls Tryz.prog 142 #[.slice (some ⟨b, off, none⟩) n cap, .func (.func 144) #[] #[.pointer (some ⟨w.heap.size, 0, none⟩)]] W fun e w' => e = .returned (.int .i64 r) ∧ Below W.heap.size W w')) :
  Calls Tryz.prog 132 #[.slice (some ⟨b, off, none⟩) n cap, .int .i64 p] w fun e w' => e = .returned (.int .i64 r) ∧ Below w.heap.size w w' := by
 go_enter Tryz.func132, Tryz.ntmps132
 go_wp2_with fail
 refine (HC.out _ rfl).mono ?_
 rintro e w2 ⟨rfl, hb⟩
 have HB := hide hb
 clear hb
 simp only []
 go_wp2
 go_ret
 exact ⟨rfl, (bal).trans (HB.out.mono (by simp))⟩
theorem supply_none (cap : Nat) (a : Option Addr) (p : Int) (w : World) :
  Calls Tryz.prog 132 #[.slice a 0 cap, .int .i64 p] w fun e w' => e = .returned (.int .i64 0) ∧ Below w.heap.size w w' := by
 go_enter Tryz.func132, Tryz.ntmps132
 go_wp2_with fail
 refine (sumD_none cap a _ _).mono ?_
 rintro e w2 ⟨rfl, rfl⟩
 simp only []
 go_wp2
 go_ret
 exact ⟨rfl, bal⟩
theorem supply_any (v : Value) (l : List Cv.Lot) (p : Int) (T : TypeId) (v1 v6 v7 : Value) (w : World) (hv : Lots w v l) (he : Hid (Er w T v1 v6 v7)) (hok : Cv.Well l) :
  Calls Tryz.prog 132 #[v, .int .i64 p] w fun e w' => e = .returned (.int .i64 (Cv.supply l p)) ∧ Below w.heap.size w w' := by
 rcases hv with ⟨rfl, a, cap, rfl⟩ | ⟨b, off, cap, rfl, hcap, hl⟩
 ·exact supply_none cap a p w
 ·refine supply_some b off cap _ p _ w (fun W hW => ?_)
  subst hW
  exact sumSs_fine b off cap l.length w.heap.size p l T v1 v6 v7 _ rfl hcap (hl.later (bal)) (he.out.later (bal)) hok (by simp)
theorem Lots.form {w : World} {v : Value} {l : List Cv.Lot} (h : Lots w v l) : ∃ a n cap, v = .slice a n cap := by
 rcases h with ⟨_, a, cap, rfl⟩ | ⟨b, off, cap, rfl, _⟩
 ·exact ⟨_, _, _, rfl⟩
 ·exact ⟨_, _, _, rfl⟩

set_option maxHeartbeats 400000 in
theorem volume_of (a : Option Addr) (n cap : Nat) (p d s : Int) (w : World)
  (hd : Hid (Calls Tryz.prog 131 #[.slice a n cap, .int .i64 p] w fun e w' => e = .returned (.int .i64 d) ∧ Below w.heap.size w w'))
  (hs : Hid (∀ w1, Below w.heap.size w w1 → Calls Tryz.prog 132 #[.slice a n cap, .int .i64 p] w1 fun e w' => e = .returned (.int .i64 s) ∧ Below w1.heap.size w1 w')) :
  Calls Tryz.prog 117 #[.slice a n cap, .int .i64 p] w fun e w' => e = .returned (.int .i64 (min d s)) ∧ Below w.heap.size w w' := by
 go_enter Tryz.func117, Tryz.ntmps117
 go_wp2_with fail
 refine hd.out.mono ?_
 rintro e w1 ⟨rfl, hb1⟩
 have HB1 := hide hb1
 clear hb1
 simp only []
 go_wp2_with fail
 refine (hs.out _ HB1.out).mono ?_
 rintro e w2 ⟨rfl, hb2⟩
 have HB2 := hide (HB1.out.trans (hb2.mono HB1.out.size))
 clear hb2
 simp only []
 go_wp2
 all_goals go_ret
 all_goals exact ⟨ret_int (by omega), HB2.out⟩

theorem Cv.demand_range (l : List Cv.Lot) (p : Int) (h : Cv.Well l) : 0 ≤ Cv.demand l p ∧ Cv.demand l p ≤ 120000 := by
 have := Cv.sumIf_bounds (Cv.dB p) l h.oks
 have h2 := h.1
 unfold Cv.demand
 omega
theorem Cv.supply_range (l : List Cv.Lot) (p : Int) (h : Cv.Well l) : 0 ≤ Cv.supply l p ∧ Cv.supply l p ≤ 120000 := by
 have := Cv.sumIf_bounds (Cv.sB p) l h.oks
 have h2 := h.1
 unfold Cv.supply
 omega

theorem volume_any (v : Value) (l : List Cv.Lot) (p : Int) (T : TypeId) (v1 v6 v7 : Value) (w : World) (hv : Lots w v l) (he : Hid (Er w T v1 v6 v7)) (hok : Cv.Well l) :
  Calls Tryz.prog 117 #[v, .int .i64 p] w fun e w' => e = .returned (.int .i64 (Cv.volume l p)) ∧ Below w.heap.size w w' := by
 obtain ⟨a, n, cap, rfl⟩ := hv.form
 exact volume_of a n cap p _ _ w (demand_any _ l p T v1 v6 v7 w hv he hok) (fun w1 hb => supply_any _ l p T v1 v6 v7 w1 (hv.later hb) (he.out.later hb) hok)
def lotCells (x : Cv.Lot) : List Value := [.int .i64 x.id, .int .i64 x.ow, .int .i64 x.sd, .int .i64 x.pr, .int .i64 x.q]
def flat (l : List Cv.Lot) : List Value := l.flatMap lotCells
theorem flat_length : ∀ l : List Cv.Lot, (flat l).length = l.length * 5
 | [] => rfl
 | x :: l => by
  have := flat_length l
  simp only [flat, List.flatMap_cons, List.length_append, List.length_cons] at this ⊢
  rw [this, show (lotCells x).length = 5 from rfl]
  omega
theorem flat_at : ∀ (l : List Cv.Lot) (i j : Nat), i < l.length → j < 5 → (flat l)[i * 5 + j]? = (lotCells (Cv.nth l i))[j]?
 | [], i, j, h, _ => absurd h (Nat.not_lt_zero i)
 | x :: l, 0, j, _, hj => by
  show (lotCells x ++ flat l)[0 * 5 + j]? = _
  rw [Nat.zero_mul, Nat.zero_add, List.getElem?_append_left (by show j < 5; exact hj)]
  rfl
 | x :: l, i + 1, j, h, hj => by
  show (lotCells x ++ flat l)[(i + 1) * 5 + j]? = _
  rw [List.getElem?_append_right (by show 5 ≤ _; omega), show (i + 1) * 5 + j - (lotCells x).length = i * 5 + j by show _ - 5 = _; omega, flat_at l i j (by simpa using h) hj]
  rfl
theorem flat_one (l : List Cv.Lot) (u : Value) (h : u ∈ flat l) : u.oneCell' = true := by
 obtain ⟨x, _, hx⟩ := List.mem_flatMap.1 h
 simp only [lotCells, List.mem_cons, List.not_mem_nil, or_false] at hx
 rcases hx with rfl | rfl | rfl | rfl | rfl <;> rfl
theorem lotsAt_of_flat {w : World} {b : Nat} {l : List Cv.Lot} (h : ∀ j u, (flat l)[j]? = some u → w.cell? ⟨b, j, none⟩ = some u) : LotsAt w b 0 l := by
 intro i hi
 have key : ∀ j u, j < 5 → (lotCells (Cv.nth l i))[j]? = some u → w.cell? ⟨b, i * 5 + j, none⟩ = some u := fun j u hj hu => h _ u (by rw [flat_at l i j hi hj]; exact hu)
 rw [Nat.zero_add]
 exact ⟨key 0 _ (by decide) rfl, key 1 _ (by decide) rfl, key 2 _ (by decide) rfl, key 3 _ (by decide) rfl, key 4 _ (by decide) rfl⟩

theorem info110 : ∃ i z, Tryz.prog.info? 56 = some i ∧ i.zero = some z ∧ i.size = 5 ∧ i.bytes = 40 ∧ z.cells.size = 5 := ⟨_, _, rfl, rfl, rfl, rfl, rfl⟩

structure Only (w w' : World) (a b : Option Nat) : Prop where
 os : w'.os = w.os
 tape : w'.tape = w.tape
 output : w'.output = w.output
 size : w.heap.size ≤ w'.heap.size
 block : ∀ k, k < w.heap.size → some k ≠ a → some k ≠ b → w'.heap[k]? = w.heap[k]?
theorem Only.refl (w : World) (a b : Option Nat) : Only w w a b := ⟨rfl, rfl, rfl, Nat.le_refl _, fun _ _ _ _ => rfl⟩
theorem Only.of_below {w w' : World} (h : Below w.heap.size w w') (a b : Option Nat) : Only w w' a b := ⟨h.os, h.tape, h.output, h.size, fun k hk _ _ => h.block k hk⟩
theorem Only.of_grown {w w' : World} {r : Option Nat} (h : w.grownBy w' r) (a : Option Nat) : Only w w' a r := ⟨h.os, h.tape, h.output, h.size, fun k hk _ h2 => h.block k hk h2⟩
theorem Only.trans {w w1 w2 : World} {a b b1 : Option Nat} (h : Only w w1 a b) (h1 : Only w1 w2 a b1) (hb : ∀ k, b1 = some k → b = some k ∨ w.heap.size ≤ k) : Only w w2 a b :=
 ⟨h1.os.trans h.os, h1.tape.trans h.tape, h1.output.trans h.output, Nat.le_trans h.size h1.size, fun k hk ha hk2 => by
  rw [h1.block k (Nat.lt_of_lt_of_le hk h.size) ha (fun e => ?_)]
  ·exact h.block k hk ha hk2
  ·rcases hb k e.symm with h3 | h3
   ·exact hk2 h3.symm
   ·omega⟩
theorem Only.below {w w' : World} {a b : Option Nat} {n : Nat} (h : Only w w' a b) (hn : n ≤ w.heap.size) (ha : ∀ k, a = some k → n ≤ k) (hb : ∀ k, b = some k → n ≤ k) : Below n w w' :=
 ⟨h.os, h.tape, h.output, h.size, fun k hk => h.block k (by omega) (fun e => by have := ha k e.symm; omega) (fun e => by have := hb k e.symm; omega)⟩
theorem Only.cell {w w' : World} {a b : Option Nat} (h : Only w w' a b) {p : Addr} {v : Value} (hc : w.cell? p = some v) (ha : some p.block ≠ a) (hb : some p.block ≠ b) : w'.cell? p = some v :=
 (World.cell?_of_block (h.block p.block (World.block_lt_of_cell? w p hc) ha hb)).trans hc
theorem Only.setCell (w : World) (g o : Nat) (v : Value) (b : Option Nat) : Only w (w.setCell ⟨g, o, none⟩ v) (some g) b :=
 ⟨rfl, rfl, rfl, by simp, fun k _ ha _ => Below.heap_setCell _ _ _ _ (fun e => ha (by rw [e]))⟩
theorem Only.swap {w w' : World} {a b : Option Nat} (h : Only w w' a b) : Only w w' b a := ⟨h.os, h.tape, h.output, h.size, fun k hk h1 h2 => h.block k hk h2 h1⟩
theorem Only.setCells (w : World) (g : Nat) : ∀ (vs : List Value) (o : Nat) (a : Option Nat), Only w (w.setCells g o vs) a (some g) := by
 intro vs
 induction vs generalizing w with
 | nil => intro o a; exact Only.refl w _ _
 | cons v vs ih =>
  intro o a
  exact (Only.setCell w g o v a).swap.trans (ih (w.setCell ⟨g, o, none⟩ v) (o + 1) a) (fun k h => .inl h)

structure Book (w : World) (base p : Nat) (v : Value) (l : List Cv.Lot) : Prop where
 cell : w.heap[p]? = some (.cells #[v] 103 (0, 0))
 lo : base ≤ p
 row : w.ownsRow base 56 5 v l.length (flat l)
theorem Book.ne {w : World} {base p : Nat} {v : Value} {l : List Cv.Lot} (h : Book w base p v l) : v.ownBlock ≠ some p := by
 intro e
 rcases h.row.2 with ⟨e1, _⟩ | ⟨r, cap, cur, e1, _, hr, _⟩
 ·rw [e1] at e; cases e
 ·rw [e1] at e
  have : r = p := by simpa [Value.ownBlock] using e
  rw [this, h.cell] at hr
  cases hr
theorem Book.lt {w : World} {base p : Nat} {v : Value} {l : List Cv.Lot} (h : Book w base p v l) : p < w.heap.size := lt_of_block h.cell
theorem Book.rowLt {w : World} {base p : Nat} {v : Value} {l : List Cv.Lot} (h : Book w base p v l) : ∀ k, v.ownBlock = some k → base ≤ k ∧ k < w.heap.size := h.row.lt
theorem row_only {w w' : World} {a b : Option Nat} {base : Nat} {e : TypeId} {s : Nat} {v : Value} {n : Nat} {xs : List Value} (hr : w.ownsRow base e s v n xs) (h : Only w w' a b) (ha : ∀ k, v.ownBlock = some k → some k ≠ a) (hb : ∀ k, v.ownBlock = some k → some k ≠ b) : w'.ownsRow base e s v n xs := by
 refine ⟨hr.1, ?_⟩
 rcases hr.2 with hn | ⟨g, cap, cur, rfl, hg, hgg, rest⟩
 ·exact .inl hn
 ·exact .inr ⟨g, cap, cur, rfl, hg, by rw [h.block g (lt_of_block hgg) (ha g rfl) (hb g rfl)]; exact hgg, rest⟩
theorem Book.only {w w' : World} {a b : Option Nat} {base p : Nat} {v : Value} {l : List Cv.Lot} (h : Book w base p v l) (ho : Only w w' a b) (h1 : some p ≠ a) (h2 : some p ≠ b) (h3 : ∀ k, v.ownBlock = some k → some k ≠ a) (h4 : ∀ k, v.ownBlock = some k → some k ≠ b) : Book w' base p v l :=
 ⟨by rw [ho.block p h.lt h1 h2]; exact h.cell, h.lo, row_only h.row ho h3 h4⟩
theorem Book.later {w w' : World} {base p : Nat} {v : Value} {l : List Cv.Lot} (h : Book w base p v l) (hb : Below w.heap.size w w') : Book w' base p v l :=
 h.only (Only.of_below hb none none) (by simp) (by simp) (fun _ _ => by simp) (fun _ _ => by simp)
theorem Book.form {w : World} {base p : Nat} {v : Value} {l : List Cv.Lot} (h : Book w base p v l) : (v = .slice none 0 0 ∧ l = []) ∨ ∃ g cap, v = .slice (some ⟨g, 0, none⟩) l.length cap ∧ l.length ≤ cap ∧ base ≤ g ∧ LotsAt w g 0 l := by
 rcases h.row.2 with ⟨e, e2⟩ | ⟨g, cap, cur, e, hg, hgg, hle, _, _, _⟩
 ·exact .inl ⟨e, List.eq_nil_of_length_eq_zero e2⟩
 ·refine .inr ⟨g, cap, e, hle, hg, lotsAt_of_flat fun j u hu => ?_⟩
  have := World.ownsRow.cells h.row (g := g) (by rw [e]; rfl) j u hu
  have hp : (⟨g, 0, none⟩ : Addr).add j = ⟨g, j, none⟩ := by unfold Addr.add; split <;> simp_all
  rwa [hp] at this

structure Step (w w' : World) (p : Nat) (v v' : Value) : Prop where
 only : Only w w' (some p) v.ownBlock
 new : ∀ k, v'.ownBlock = some k → v.ownBlock = some k ∨ w.heap.size ≤ k
theorem Step.refl (w : World) (p : Nat) (v : Value) : Step w w p v v := ⟨Only.refl _ _ _, fun _ h => .inl h⟩
theorem Step.of_below {w w' : World} (h : Below w.heap.size w w') (p : Nat) (v : Value) : Step w w' p v v := ⟨Only.of_below h _ _, fun _ h => .inl h⟩
theorem Step.trans {w w1 w2 : World} {p : Nat} {v v1 v2 : Value} (h : Step w w1 p v v1) (h1 : Step w1 w2 p v1 v2) : Step w w2 p v v2 :=
 ⟨h.only.trans h1.only h.new, fun k hk => by
  rcases h1.new k hk with h3 | h3
  ·exact h.new k h3
  ·exact .inr (Nat.le_trans h.only.size h3)⟩
theorem Step.below {w w' : World} {base p : Nat} {v v' : Value} {l : List Cv.Lot} (h : Step w w' p v v') (hb : Book w base p v l) (n : Nat) (hn : n ≤ base) : Below n w w' :=
 h.only.below (by have := hb.lo; have := hb.lt; omega) (fun k e => by cases e; have := hb.lo; omega) (fun k e => by have := (hb.rowLt k e).1; omega)

theorem setCells_block {e : TypeId} {fz : Nat × Nat} (g : Nat) : ∀ (vs : List Value) (o : Nat) (w : World) (cur : Array Value), w.heap[g]? = some (.cells cur e fz) → o + vs.length ≤ cur.size →
  ∃ cur', (w.setCells g o vs).heap[g]? = some (.cells cur' e fz) ∧ cur'.size = cur.size ∧ cur'.toList = cur.toList.take o ++ vs ++ cur.toList.drop (o + vs.length)
 | [], o, w, cur, h, hs => ⟨cur, h, rfl, by simp⟩
 | v :: vs, o, w, cur, h, hs => by
  have hlt := lt_of_block h
  have h' : w.heap[g] = .cells cur e fz := by simpa [Array.getElem?_eq_getElem hlt] using h
  have h1 : (w.setCell ⟨g, o, none⟩ v).heap[g]? = some (.cells (cur.setIfInBounds o v) e fz) := by
   show (w.heap.modify g _)[g]? = _
   rw [Array.getElem?_eq_getElem (by simpa using hlt), Array.getElem_modify_self, h']
   rfl
  simp only [List.length_cons] at hs
  obtain ⟨cur', a1, a2, a3⟩ := setCells_block g vs (o + 1) _ _ h1 (by simp; omega)
  refine ⟨cur', a1, by rw [a2]; simp, ?_⟩
  rw [a3]
  simp only [List.length_cons, Array.toList_setIfInBounds]
  have ho : o < cur.toList.length := by simp; omega
  rw [List.take_succ_eq_append_getElem (by simpa using ho), List.take_set_of_le (Nat.le_refl o), List.getElem_set_self, List.drop_set_of_lt (by omega), show o + 1 + vs.length = o + (vs.length + 1) by omega]
  simp
theorem row_setCells {w : World} {base : Nat} {e : TypeId} {s g n cap : Nat} {xs : List Value} (h : w.ownsRow base e s (.slice (some ⟨g, 0, none⟩) n cap) n xs) (o : Nat) (vs : List Value) (m : Nat) (hm : m ≤ cap) (hv : o + vs.length ≤ n * s) (ys : List Value) (hy : ys.length = m * s) (hmn : m ≤ n) (he : (xs.take o ++ vs ++ xs.drop (o + vs.length)).take (m * s) = ys) :
  (w.setCells g o vs).ownsRow base e s (.slice (some ⟨g, 0, none⟩) m cap) m ys := by
 rcases h.2 with ⟨e1, _⟩ | ⟨g', cap', cur, e1, hg, hgg, h1, h2, h3, h4⟩
 ·cases e1
 ·obtain ⟨rfl, rfl⟩ : g = g' ∧ cap = cap' := by simpa using e1
  have hle : n * s ≤ cur.size := by rw [h3]; exact Nat.mul_le_mul_right _ h1
  obtain ⟨cur', a1, a2, a3⟩ := setCells_block g vs o w cur hgg (by omega)
  refine ⟨hy, .inr ⟨g, cap, cur', rfl, hg, a1, hm, h2, by rw [a2, h3], ?_⟩⟩
  have hms : m * s ≤ n * s := Nat.mul_le_mul_right _ hmn
  rw [a3, ← he, ← h4]
  have hx : cur.toList = cur.toList.take (n * s) ++ cur.toList.drop (n * s) := (List.take_append_drop _ _).symm
  have hl : (cur.toList.take (n * s)).length = n * s := by rw [List.length_take]; simp; omega
  generalize cur.toList.take (n * s) = A at *
  generalize cur.toList.drop (n * s) = C at *
  have e1 : (A ++ C).take o = A.take o := List.take_append_of_le_length (by omega)
  have e2 : (A ++ C).drop (o + vs.length) = A.drop (o + vs.length) ++ C := List.drop_append_of_le_length (by omega)
  rw [hx, e1, e2, ← List.append_assoc]
  exact List.take_append_of_le_length (by simp only [List.length_append, List.length_take, List.length_drop]; omega)
namespace Bk
open Cv
def posI (l : List Lot) (id : Int) : Int := if has l id = true then (pos l id : Int) else -1
theorem posI_none {l : List Lot} {id : Int} (h : has l id = false) : posI l id = -1 := by unfold posI; rw [h]; rfl
theorem posI_some {l : List Lot} {id : Int} (h : has l id = true) : posI l id = (pos l id : Nat) := by unfold posI; rw [if_pos h]
theorem posI_at {l : List Lot} {id : Int} {k : Nat} (hk : k < l.length) (hn : has (l.take k) id = false) (hx : (nth l k).id = id) : posI l id = (k : Nat) := by
 have h1 : has l id = true := List.any_eq_true.2 ⟨nth l k, nth_mem hk, by simpa using hx⟩
 rw [posI_some h1]
 have h2 : pos l id = k := by
  unfold pos
  rw [List.findIdx_eq hk]
  refine ⟨by rw [← nth_get hk]; simpa using hx, fun j hj => ?_⟩
  have := List.any_eq_false.1 hn l[j] (by rw [List.mem_take_iff_getElem]; exact ⟨j, by omega, rfl⟩)
  simpa using this
 rw [h2]
theorem posI_lt {l : List Lot} {id : Int} (h : has l id = true) : pos l id < l.length := pos_has.1 h
end Bk

theorem findClos_any (x : Cv.Lot) (B : Nat) (id : Int) (w : World) (hc : w.cell? ⟨B, 0, none⟩ = some (.int .i64 id)) :
  Calls Tryz.prog 93 #[lotV x, .pointer (some ⟨B, 0, none⟩)] w fun e w' => e = .returned (.bool (x.id == id)) ∧ Below w.heap.size w w' := by
 have hB : B < w.heap.size := World.block_lt_of_cell? _ _ hc
 have hne : B ≠ w.heap.size := by omega
 show Calls Tryz.prog 93 #[.agg #[.int .i64 x.id, .int .i64 x.ow, .int .i64 x.sd, .int .i64 x.pr, .int .i64 x.q], .pointer (some ⟨B, 0, none⟩)] w _
 go_enter Tryz.func93, Tryz.ntmps93
 go_wp2
 all_goals go_ret
 all_goals
  refine ⟨ret_bool ?_, bal⟩
  first | rfl | simp_all

set_option maxHeartbeats 1000000 in
theorem indexFunc_at (b off cap B : Nat) (id : Int) (l : List Cv.Lot) (w : World) (hn' : l.length ≤ 1000) (hl : Hid (LotsAt w b off l)) (hc : w.cell? ⟨B, 0, none⟩ = some (.int .i64 id)) :
  Calls Tryz.prog 92 #[.slice (some ⟨b, off, none⟩) l.length cap, .func (.func 93) #[] #[.pointer (some ⟨B, 0, none⟩)]] w fun e w' => e = .returned (.int .i64 (Bk.posI l id)) ∧ Below w.heap.size w w' := by
 generalize hn : l.length = n at *
 have Hn := hide hn
 clear hn
 go_enter Tryz.func92, Tryz.ntmps92
 go_wp2
 go_loopw [8] (fun i wr => ∃ k : Nat, k ≤ n ∧ i = .int .i64 k ∧ Cv.has (l.take k) id = false ∧ Below w.heap.size w wr) (fun i _ => n - (intOf i).toNat)
 case atStart => exact ⟨0, Nat.zero_le _, rfl, rfl, Below.refl _ _⟩
 case round =>
  obtain ⟨k, hk, rfl, hno, hb⟩ := hrel
  have HN := hide hno; have HB := hide hb
  clear hno hb
  by_cases hlt : k < n
  ·have hki : (k : Int) < n := by omega
   obtain ⟨c0, c1, c2, c3, c4⟩ := (hl.out.later HB.out) k (by rw [Hn.out]; exact hlt)
   have hcB := cell_later HB.out hc
   have HC := hide (findClos_any (Cv.nth l k) B id wr hcB)
   have HT := hide (Cv.take_succ (l := l) (i := k) (by rw [Hn.out]; exact hlt))
   obtain ⟨x, hxx⟩ : ∃ x, Cv.nth l k = x := ⟨_, rfl⟩
   rw [hxx] at HC HT c0 c1 c2 c3 c4
   have HX := hide hxx
   clear hxx
   go_wp2_with fail
   refine HC.out.mono ?_
   rintro e w2 ⟨rfl, hb2⟩
   have HB2 := hide (HB.out.trans (hb2.mono HB.out.size))
   clear hb2 c0 c1 c2 c3 c4 hcB HC
   by_cases hx : x.id = id
   ·have hxb : (x.id == id) = true := by simpa using hx
    have Hx := hide hx
    clear hx
    rw [hxb]
    simp only []
    go_wp2
    go_ret
    refine ⟨?_, HB2.out⟩
    rw [Bk.posI_at (by rw [Hn.out]; exact hlt) HN.out (by rw [HX.out]; exact Hx.out)]
    rfl
   ·have hxb : (x.id == id) = false := by simpa using hx
    have hno' : Cv.has (l.take (k + 1)) id = false := by
     have hh := HN.out
     rw [HT.out]
     unfold Cv.has at hh ⊢
     rw [List.any_append, hh]
     simp [hx]
    have Hno := hide hno'
    clear hx hno'
    rw [hxb]
    simp only []
    go_wp2
    exact ⟨⟨k + 1, by omega, by go_num, Hno.out, HB2.out⟩, by simp [intOf]; omega⟩
  ·have hki : ¬ (k : Int) < n := by omega
   have hkk : k = l.length := by rw [Hn.out]; omega
   have hno := HN.out
   rw [hkk, List.take_length] at hno
   have Hno := hide hno
   clear hno hkk
   go_wp2
   go_ret
   exact ⟨by rw [Bk.posI_none Hno.out]; rfl, HB.out⟩


theorem find_any (p base : Nat) (v : Value) (id : Int) (l : List Cv.Lot) (w : World) (hb : Hid (Book w base p v l)) (hn : Hid (l.length ≤ 60)) :
  Calls Tryz.prog 53 #[.pointer (some ⟨p, 0, none⟩), .int .i64 id] w fun e w' => e = .returned (.int .i64 (Bk.posI l id)) ∧ Below w.heap.size w w' := by
 have hcell : (w.alloc (.cells #[.int .i64 id] 3)).cell? ⟨p, 0, none⟩ = some v := cell_later (bal) (cell_of_one hb.out.cell)
 rcases hb.out.form with ⟨rfl, hl⟩ | ⟨g, cap, rfl, hle, _, hl⟩
 ·have HL := hide hl
  clear hl
  go_enter Tryz.func53, Tryz.ntmps53
  go_wp2_with fail
  refine (indexFunc_none 0 none _ _).mono ?_
  rintro e w2 ⟨rfl, rfl⟩
  simp only []
  go_wp2
  go_ret
  exact ⟨by rw [HL.out]; rfl, bal⟩
 ·have HC := hide (indexFunc_at g 0 cap w.heap.size id l (w.alloc (.cells #[.int .i64 id] 3)) (by have := hn.out; omega) (hl.later (bal)) (by simp))
  clear hl hle
  go_enter Tryz.func53, Tryz.ntmps53
  go_wp2_with fail
  refine HC.out.mono ?_
  rintro e w2 ⟨rfl, hb2⟩
  have HB := hide hb2
  clear hb2
  simp only []
  go_wp2
  go_ret
  exact ⟨rfl, (bal).trans (HB.out.mono (by simp))⟩

theorem newBook_any (w : World) : Calls Tryz.prog 37 #[] w fun e w' => e = .returned (.pointer (some ⟨w.heap.size, 0, none⟩)) ∧ w' = w.alloc (.cells #[.slice none 0 0] 103) := by
 go_enter Tryz.func37, Tryz.ntmps37
 go_wp2
 go_ret
 exact ⟨rfl, rfl⟩
theorem check_well (v : Value) (l : List Cv.Lot) (T : TypeId) (v1 v6 v7 : Value) (w : World) (hv : Lots w v l) (he : Hid (Er w T v1 v6 v7)) (hok : Cv.Well l) :
  Calls Tryz.prog 45 #[v] w fun e w' => e = .returned .nilIface ∧ Below w.heap.size w w' := by
 rcases hv with ⟨rfl, a, cap, rfl⟩ | ⟨b, off, cap, rfl, hcap, hl⟩
 ·refine (check_none cap a w).mono ?_
  rintro e w' ⟨rfl, rfl⟩
  exact ⟨rfl, Below.refl _ _⟩
 ·exact check_fine' b off cap _ l T v1 v6 v7 w rfl hcap hl he hok
theorem check_ill (v : Value) (l : List Cv.Lot) (T : TypeId) (v1 v6 v7 : Value) (w : World) (hv : Lots w v l) (he : Hid (Er w T v1 v6 v7)) (hbad : ¬ Cv.Well l) :
  Calls Tryz.prog 45 #[v] w fun e w' => (∃ U x, e = .returned (.iface U x)) ∧ Below w.heap.size w w' := by
 rcases hv with ⟨rfl, a, cap, rfl⟩ | ⟨b, off, cap, rfl, hcap, hl⟩
 ·exact absurd Cv.well_nil hbad
 ·exact check_bad b off cap _ l T v1 v6 v7 w rfl hcap hl he hbad
theorem Lots.take {w : World} {b off cap : Nat} {l : List Cv.Lot} (h : LotsAt w b off l) (hn : l.length ≤ cap) (k : Nat) (hk : k ≤ l.length) : Lots w (.slice (some ⟨b, off, none⟩) k cap) (l.take k) := by
 have e : (l.take k).length = k := by rw [List.length_take]; omega
 exact .inr ⟨b, off, cap, by rw [e], by rw [e]; omega, h.take k⟩
theorem apartN_any (a b : Int) (w : World) (h1 : -1000000 ≤ a) (h2 : a ≤ 1000000) (h3 : -1000000 ≤ b) (h4 : b ≤ 1000000) : Calls Tryz.prog 48 #[.int .i64 a, .int .i64 b] w fun e w' => e = .returned (.int .i64 (Cv.size (a - b))) ∧ w' = w := by
 go_enter Tryz.func48, Tryz.ntmps48
 go_wp2
 all_goals go_ret
 all_goals exact ⟨ret_int (by unfold Cv.size; omega), rfl⟩

theorem isPrice_any (n : Int) (w : World) : Calls Tryz.prog 116 #[.int .i64 n] w fun e w' => e = .returned (.bool (Wi.withinB n 1 1000)) ∧ w' = w := by
 go_enter Tryz.func116, Tryz.ntmps116
 go_wp2_with (go_at_call 35; refine (within_any _ _ _ _).mono ?_; rintro e w' ⟨rfl, rfl⟩)
 go_ret
 exact ⟨rfl, rfl⟩

structure BEr (w : World) (T : TypeId) (v1 : Value) : Prop where
 c1 : w.cell? ⟨0, 0, none⟩ = some (.iface T v1)
theorem BEr.later {w w' : World} {T : TypeId} {v1 : Value} (h : BEr w T v1) (hb : Below w.heap.size w w') : BEr w' T v1 := ⟨cell_later hb h.c1⟩
def bandV (r l : Int) : Value := .agg #[.int .i64 r, .int .i64 l]
def okE (T : TypeId) (v : Value) (b : Bool) : Value := if b = true then .nilIface else .iface T v

set_option maxHeartbeats 1000000 in
theorem bcheck_any (r l : Int) (T : TypeId) (v1 : Value) (w : World) (he : Hid (BEr w T v1)) :
  Calls Tryz.prog 115 #[bandV r l] w fun e w' => e = .returned (okE T v1 (Bd.bOk r l)) ∧ Below w.heap.size w w' := by
 show Calls Tryz.prog 115 #[.agg #[.int .i64 r, .int .i64 l]] w _
 have hb0 : Below w.heap.size w (w.alloc (.cells #[.int .i64 r, .int .i64 l] 69)) := bal
 have e1 := (he.out.later hb0).c1
 have HB := hide hb0
 clear hb0
 go_enter Tryz.func115, Tryz.ntmps115
 cases h1 : Wi.withinB r 1 1000 <;> cases h2 : Wi.withinB l 0 1000
 all_goals
  go_wp2_with (first | (go_at_call 116; refine (isPrice_any _ _).mono ?_; rintro e w' ⟨rfl, rfl⟩; rw [h1]) | (go_at_call 35; refine (within_any _ _ _ _).mono ?_; rintro e w' ⟨rfl, rfl⟩; rw [h2]))
  all_goals go_ret
  all_goals exact ⟨by simp [okE, Bd.bOk, h1, h2], HB.out⟩

set_option maxHeartbeats 1000000 in
theorem rcheck_any (r l : Int) (T : TypeId) (v1 : Value) (w : World) (he : Hid (BEr w T v1)) :
  Calls Tryz.prog 34 #[bandV r l] w fun e w' => e = .returned (okE T v1 (Bd.rOk r l)) ∧ Below w.heap.size w w' := by
 show Calls Tryz.prog 34 #[.agg #[.int .i64 r, .int .i64 l]] w _
 have hb0 : Below w.heap.size w (w.alloc (.cells #[.int .i64 r, .int .i64 l] 31)) := bal
 have e1 := (he.out.later hb0).c1
 have HB := hide hb0
 clear hb0
 go_enter Tryz.func34, Tryz.ntmps34
 cases h1 : Wi.withinB r 0 100 <;> cases h2 : Wi.withinB l 1 1000
 all_goals
  go_wp2_with (go_at_call 35; refine (within_any _ _ _ _).mono ?_; rintro e w' ⟨rfl, rfl⟩; first | rw [h1] | rw [h2])
  all_goals go_ret
  all_goals exact ⟨by simp [okE, Bd.rOk, h1, h2], HB.out⟩

set_option maxHeartbeats 1000000 in
theorem ruleIn_any (wd h r p : Int) (w : World) (h1 : 1 ≤ r) (h2 : r ≤ 1000) (h3 : 0 ≤ wd) (h4 : wd ≤ 100) (h5 : 1 ≤ p) (h6 : p ≤ 1000) :
  Calls Tryz.prog 85 #[bandV wd h, .int .i64 r, .int .i64 p] w fun e w' => e = .returned (.bool (Bd.inB wd r p)) ∧ Below w.heap.size w w' := by
 show Calls Tryz.prog 85 #[.agg #[.int .i64 wd, .int .i64 h], .int .i64 r, .int .i64 p] w _
 have HB : Hid (Below w.heap.size w (w.alloc (.cells #[.int .i64 wd, .int .i64 h] 31))) := bal
 have hp := prod_bounds h1 h2 h3 h4
 have w1 : IntKind.i64.wrap (r * wd) = r * wd := IntWalk.i64_in _ (by omega)
 have hs : 0 ≤ Cv.size (p - r) ∧ Cv.size (p - r) ≤ 1000 := by unfold Cv.size; omega
 have w2 : IntKind.i64.wrap (Cv.size (p - r) * 100) = Cv.size (p - r) * 100 := IntWalk.i64_in _ (by omega)
 have n1 : ¬ wd < -1 := by omega
 have n2 : ¬ 100000 < wd := by omega
 go_enter Tryz.func85, Tryz.ntmps85
 go_wp2_with (go_at_call 48; refine (apartN_any _ _ _ (by omega) (by omega) (by omega) (by omega)).mono ?_; rintro e w' ⟨rfl, rfl⟩)
 all_goals go_ret
 all_goals first | exact ⟨rfl, HB.out⟩ | exact ⟨ret_bool (by simp [Bd.inB]), HB.out⟩
set_option maxHeartbeats 1000000 in
theorem checkNext_any (r l wd h p v : Int) (T : TypeId) (v1 : Value) (w : World) (he : Hid (BEr w T v1)) :
  Calls Tryz.prog 83 #[bandV r l, bandV wd h, .int .i64 p, .int .i64 v] w fun e w' => e = .returned (okE T v1 (Bd.bOk r l && (Bd.rOk wd h && Bd.vOk p v))) ∧ Below w.heap.size w w' := by
 show Calls Tryz.prog 83 #[.agg #[.int .i64 r, .int .i64 l], .agg #[.int .i64 wd, .int .i64 h], .int .i64 p, .int .i64 v] w _
 obtain ⟨W, hWd⟩ : ∃ W, (w.alloc (.cells #[.int .i64 r, .int .i64 l] 69)).alloc (.cells #[.int .i64 wd, .int .i64 h] 31) = W := ⟨_, rfl⟩
 have hb1 : Below w.heap.size w (w.alloc (.cells #[.int .i64 r, .int .i64 l] 69)) := bal
 have hb2 : Below w.heap.size w W := by rw [← hWd]; exact hb1.alloc hb1.size _
 have hY0 : W.heap[w.heap.size + 1]? = some (.cells #[.int .i64 wd, .int .i64 h] 31 (0, 0)) := by
  rw [← hWd]
  have := heap_alloc_new (w.alloc (.cells #[.int .i64 r, .int .i64 l] 69)) (.cells #[.int .i64 wd, .int .i64 h] 31)
  rw [show (w.alloc (.cells #[.int .i64 r, .int .i64 l] 69)).heap.size = w.heap.size + 1 by simp] at this
  exact this
 have HY0 := hide hY0; have HBW := hide hb2
 have HC := hide (bcheck_any r l T v1 W (he.out.later hb2))
 unfold bandV at HC
 have HWd := hide hWd
 clear hb1 hb2 hY0 hWd
 go_enter Tryz.func83, Tryz.ntmps83
 go_wp2_with fail
 rw [HWd.out]
 clear HWd
 refine HC.out.mono ?_
 rintro e w2 ⟨rfl, hb2⟩
 have HB : Hid (Below w.heap.size w w2) := HBW.out.trans (hb2.mono HBW.out.size)
 have hY : w2.heap[w.heap.size + 1]? = some (.cells #[.int .i64 wd, .int .i64 h] 31 (0, 0)) := by rw [hb2.block _ (Array.getElem?_eq_some_iff.1 HY0.out).1]; exact HY0.out
 have y0 : w2.cell? ⟨w.heap.size + 1, 0, none⟩ = some (.int .i64 wd) := cof hY rfl
 have y1 : w2.cell? ⟨w.heap.size + 1, 1, none⟩ = some (.int .i64 h) := cof hY rfl
 clear hb2 HC HBW HY0 hY
 cases hb : Bd.bOk r l with
 | false =>
  have Hb := hide hb
  clear hb
  simp only [okE, if_neg Bool.false_ne_true]
  go_wp2
  go_ret
  exact ⟨by rw [Hb.out]; rfl, HB.out⟩
 | true =>
  have Hb := hide hb
  clear hb
  have HC := hide (rcheck_any wd h T v1 w2 (he.out.later HB.out))
  unfold bandV at HC
  simp only [okE, if_pos]
  go_wp2_with fail
  refine HC.out.mono ?_
  rintro e w3 ⟨rfl, hb3⟩
  have HB3 : Hid (Below w.heap.size w w3) := HB.out.trans (hb3.mono HB.out.size)
  clear hb3 HC HB y0 y1
  cases hr : Bd.rOk wd h with
  | false =>
   have Hr := hide hr
   clear hr
   simp only [okE, if_neg Bool.false_ne_true]
   go_wp2
   go_ret
   exact ⟨by rw [Hb.out, Hr.out]; rfl, HB3.out⟩
  | true =>
   have Hr := hide hr
   clear hr
   have e1 := (he.out.later HB3.out).c1
   simp only [okE, if_pos]
   by_cases hv : v < 0
   ·have hvd : decide (v < 0) = true := by simpa using hv
    go_wp2_with fail
    all_goals go_ret
    all_goals exact ⟨by rw [Hb.out, Hr.out]; simp [okE, Bd.vOk, hvd], HB3.out⟩
   ·have hvd : decide (v < 0) = false := by simpa using hv
    by_cases hp : 0 < v
    ·have hpd : decide (0 < v) = true := by simpa using hp
     cases hw : Wi.withinB p 1 1000
     all_goals
      go_wp2_with (go_at_call 116; refine (isPrice_any _ _).mono ?_; rintro e w' ⟨rfl, rfl⟩; rw [hw])
      all_goals go_ret
      all_goals exact ⟨by rw [Hb.out, Hr.out]; simp [okE, Bd.vOk, hvd, hpd, hw], HB3.out⟩
    ·have hpd : decide (0 < v) = false := by simpa using hp
     go_wp2_with fail
     all_goals go_ret
     all_goals exact ⟨by rw [Hb.out, Hr.out]; simp [okE, Bd.vOk, hvd, hpd], HB3.out⟩

set_option maxHeartbeats 1000000 in
theorem goOn_any (r l p : Int) (t : Bool) (w : World) (h1 : 0 < l) (h2 : l ≤ 1000) :
  Calls Tryz.prog 84 #[bandV r l, .int .i64 p, .bool t] w fun e w' => e = .returned (bandV (if l = 1 ∧ t = true then p else r) (l - 1)) ∧ Below w.heap.size w w' := by
 show Calls Tryz.prog 84 #[.agg #[.int .i64 r, .int .i64 l], .int .i64 p, .bool t] w _
 have wl : IntKind.i64.wrap (l - 1) = l - 1 := IntWalk.i64_in _ (by omega)
 have HA : Hid (∀ x y, Below w.heap.size w ((w.alloc x).alloc y)) := fun x y => ((Below.refl _ _).alloc (Nat.le_refl _) x).alloc (by simp) y
 by_cases hl : l = 1
 ·subst hl
  cases t
  ·go_enter Tryz.func84, Tryz.ntmps84
   go_wp2
   exact bodyPost_ret (v := bandV r 0) (by simp [results, Tryz.results84, go_sem, bandV]) rfl ⟨rfl, HA.out _ _⟩
  ·go_enter Tryz.func84, Tryz.ntmps84
   go_wp2
   exact bodyPost_ret (v := bandV p 0) (by simp [results, Tryz.results84, go_sem, bandV]) rfl ⟨rfl, HA.out _ _⟩
 ·have hl' : ¬ l - 1 = 0 := by omega
  go_enter Tryz.func84, Tryz.ntmps84
  go_wp2
  exact bodyPost_ret (v := bandV r (l - 1)) (by simp [results, Tryz.results84, go_sem, bandV]) rfl ⟨rfl, HA.out _ _⟩

def nextV (r l wd h p v : Int) : Value := .tuple #[bandV (Bd.nR r l wd p v) (Bd.nL r l wd h p v), .bool (Bd.nO r l wd p v), .nilIface]

set_option maxHeartbeats 1000000 in
theorem next_bad (r l wd h p v : Int) (T : TypeId) (v1 : Value) (w : World) (he : Hid (BEr w T v1)) (hk : (Bd.bOk r l && (Bd.rOk wd h && Bd.vOk p v)) = false) :
  Calls Tryz.prog 50 #[bandV r l, bandV wd h, .int .i64 p, .int .i64 v] w fun e w' => e = .returned (.tuple #[bandV 0 0, .bool false, .iface T v1]) ∧ Below w.heap.size w w' := by
 obtain ⟨W, hWd⟩ : ∃ W, ((w.alloc (.cells #[.int .i64 r, .int .i64 l] 69)).alloc (.cells #[.int .i64 wd, .int .i64 h] 31)).alloc (.cells #[.int .i64 0, .int .i64 0] 69) = W := ⟨_, rfl⟩
 have hb2 : Below w.heap.size w W := by rw [← hWd]; exact ((bal).alloc (by simp) _).alloc (by simp; omega) _
 have hY0 : W.heap[w.heap.size + 1 + 1]? = some (.cells #[.int .i64 0, .int .i64 0] 69 (0, 0)) := by
  rw [← hWd]
  have := heap_alloc_new ((w.alloc (.cells #[.int .i64 r, .int .i64 l] 69)).alloc (.cells #[.int .i64 wd, .int .i64 h] 31)) (.cells #[.int .i64 0, .int .i64 0] 69)
  rw [show ((w.alloc (.cells #[.int .i64 r, .int .i64 l] 69)).alloc (.cells #[.int .i64 wd, .int .i64 h] 31)).heap.size = w.heap.size + 1 + 1 by simp] at this
  exact this
 have HC := hide (checkNext_any r l wd h p v T v1 W (he.out.later hb2))
 rw [hk] at HC
 unfold bandV at HC ⊢
 have HY0 := hide hY0; have HBW := hide hb2; have HWd := hide hWd
 clear hb2 hY0 hWd hk
 go_enter Tryz.func50, Tryz.ntmps50
 go_wp2_with fail
 rw [HWd.out]
 clear HWd
 refine HC.out.mono ?_
 rintro e w2 ⟨rfl, hb2⟩
 have HB : Hid (Below w.heap.size w w2) := HBW.out.trans (hb2.mono HBW.out.size)
 have hY : w2.heap[w.heap.size + 1 + 1]? = some (.cells #[.int .i64 0, .int .i64 0] 69 (0, 0)) := by rw [hb2.block _ (Array.getElem?_eq_some_iff.1 HY0.out).1]; exact HY0.out
 have y0 : w2.cell? ⟨w.heap.size + 1 + 1, 0, none⟩ = some (.int .i64 0) := cof hY rfl
 have y1 : w2.cell? ⟨w.heap.size + 1 + 1, 1, none⟩ = some (.int .i64 0) := cof hY rfl
 have z0 : w2.frozen? ⟨w.heap.size + 1 + 1, 0, none⟩ = false := fof hY
 have z1 : w2.frozen? ⟨w.heap.size + 1 + 1, 1, none⟩ = false := fof hY
 clear hb2 HC HBW HY0 hY
 simp only [okE, if_neg Bool.false_ne_true]
 go_wp2
 exact bodyPost_ret (v := .tuple #[.agg #[.int .i64 0, .int .i64 0], .bool false, .iface T v1]) (by simp [results, Tryz.results50, go_sem, y0, y1]) rfl ⟨rfl, (HB.out.setCell (by simp; omega) _).setCell (by simp; omega) _⟩

set_option maxHeartbeats 2000000 in
theorem next_ok (r l wd h p v : Int) (T : TypeId) (v1 : Value) (w : World) (he : Hid (BEr w T v1)) (hk : (Bd.bOk r l && (Bd.rOk wd h && Bd.vOk p v)) = true) :
  Calls Tryz.prog 50 #[bandV r l, bandV wd h, .int .i64 p, .int .i64 v] w fun e w' => e = .returned (nextV r l wd h p v) ∧ Below w.heap.size w w' := by
 obtain ⟨W, hWd⟩ : ∃ W, ((w.alloc (.cells #[.int .i64 r, .int .i64 l] 69)).alloc (.cells #[.int .i64 wd, .int .i64 h] 31)).alloc (.cells #[.int .i64 0, .int .i64 0] 69) = W := ⟨_, rfl⟩
 have hb2 : Below w.heap.size w W := by rw [← hWd]; exact ((bal).alloc (by simp) _).alloc (by simp; omega) _
 have hX0 : W.heap[w.heap.size]? = some (.cells #[.int .i64 r, .int .i64 l] 69 (0, 0)) := by
  rw [← hWd]
  exact (Below.heap_alloc _ _ _ (by simp; omega)).trans ((Below.heap_alloc _ _ _ (by simp)).trans (heap_alloc_new _ _))
 have hU0 : W.heap[w.heap.size + 1]? = some (.cells #[.int .i64 wd, .int .i64 h] 31 (0, 0)) := by
  rw [← hWd]
  refine (Below.heap_alloc _ _ _ (by simp)).trans ?_
  have := heap_alloc_new (w.alloc (.cells #[.int .i64 r, .int .i64 l] 69)) (.cells #[.int .i64 wd, .int .i64 h] 31)
  rw [show (w.alloc (.cells #[.int .i64 r, .int .i64 l] 69)).heap.size = w.heap.size + 1 by simp] at this
  exact this
 have hY0 : W.heap[w.heap.size + 1 + 1]? = some (.cells #[.int .i64 0, .int .i64 0] 69 (0, 0)) := by
  rw [← hWd]
  have := heap_alloc_new ((w.alloc (.cells #[.int .i64 r, .int .i64 l] 69)).alloc (.cells #[.int .i64 wd, .int .i64 h] 31)) (.cells #[.int .i64 0, .int .i64 0] 69)
  rw [show ((w.alloc (.cells #[.int .i64 r, .int .i64 l] 69)).alloc (.cells #[.int .i64 wd, .int .i64 h] 31)).heap.size = w.heap.size + 1 + 1 by simp] at this
  exact this
 have HC := hide (checkNext_any r l wd h p v T v1 W (he.out.later hb2))
 rw [hk] at HC
 have hk' : ((1 ≤ r ∧ r ≤ 1000) ∧ 0 ≤ l ∧ l ≤ 1000) ∧ ((0 ≤ wd ∧ wd ≤ 100) ∧ 1 ≤ h ∧ h ≤ 1000) ∧ 0 ≤ v ∧ (v ≤ 0 ∨ 1 ≤ p ∧ p ≤ 1000) := by
  simpa [Bd.bOk, Bd.rOk, Bd.vOk, Wi.withinB] using hk
 obtain ⟨⟨⟨r1, r2⟩, l1, l2⟩, ⟨⟨wd1, wd2⟩, h1, h2⟩, vv1, vv2⟩ := hk'
 unfold bandV at HC ⊢
 have HX0 := hide hX0; have HU0 := hide hU0; have HY0 := hide hY0; have HBW := hide hb2; have HWd := hide hWd
 clear hb2 hX0 hU0 hY0 hWd hk
 go_enter Tryz.func50, Tryz.ntmps50
 go_wp2_with fail
 rw [HWd.out]
 clear HWd
 refine HC.out.mono ?_
 rintro e w2 ⟨rfl, hb2⟩
 have HB : Hid (Below w.heap.size w w2) := HBW.out.trans (hb2.mono HBW.out.size)
 have hX : w2.heap[w.heap.size]? = some (.cells #[.int .i64 r, .int .i64 l] 69 (0, 0)) := by rw [hb2.block _ (Array.getElem?_eq_some_iff.1 HX0.out).1]; exact HX0.out
 have hU : w2.heap[w.heap.size + 1]? = some (.cells #[.int .i64 wd, .int .i64 h] 31 (0, 0)) := by rw [hb2.block _ (Array.getElem?_eq_some_iff.1 HU0.out).1]; exact HU0.out
 have hY : w2.heap[w.heap.size + 1 + 1]? = some (.cells #[.int .i64 0, .int .i64 0] 69 (0, 0)) := by rw [hb2.block _ (Array.getElem?_eq_some_iff.1 HY0.out).1]; exact HY0.out
 have HX := hide hX; have HU := hide hU; have HY := hide hY
 clear hb2 HC HBW HX0 HU0 HY0 hX hU hY
 obtain ⟨B, hB⟩ : ∃ B, w.heap.size = B := ⟨_, rfl⟩
 rw [hB] at HX HU HY ⊢
 have HBe := hide hB
 clear hB
 have x0 : w2.cell? ⟨B, 0, none⟩ = some (.int .i64 r) := cof HX.out rfl
 have x1 : w2.cell? ⟨B, 1, none⟩ = some (.int .i64 l) := cof HX.out rfl
 have u0 : w2.cell? ⟨B + 1, 0, none⟩ = some (.int .i64 wd) := cof HU.out rfl
 have u1 : w2.cell? ⟨B + 1, 1, none⟩ = some (.int .i64 h) := cof HU.out rfl
 simp only [okE, if_pos]
 have HBB : Hid (∀ W : World, Below w.heap.size w W → ∀ (q1 q2 : Addr) (x1 x2 : Value), B ≤ q1.block → B ≤ q2.block → Below w.heap.size w ((W.setCell q1 x1).setCell q2 x2)) := fun W hb q1 q2 x1 x2 g1 g2 =>
  (hb.setCell (by rw [HBe.out]; exact g1) _).setCell (by rw [HBe.out]; exact g2) _
 by_cases hl : 0 < l
 ·have HG := hide (fun W => goOn_any r l p (decide (0 < v)) W hl l2)
  unfold bandV at HG
  have hans : nextV r l wd h p v = .tuple #[.agg #[.int .i64 (if l = 1 ∧ decide (0 < v) = true then p else r), .int .i64 (l - 1)], .bool false, .nilIface] := by
   simp [nextV, bandV, Bd.nR, Bd.nL, Bd.nO, hl]
  have HAN := hide hans
  clear hans
  generalize (if l = 1 ∧ decide (0 < v) = true then p else r) = nr at HG HAN
  have HN := HAN
  by_cases hv : 0 < v
  all_goals
   first | (have hvd : decide (0 < v) = true := by simpa using hv
            rw [hvd] at HG) | (have hvd : decide (0 < v) = false := by simpa using hv
                               rw [hvd] at HG)
   go_wp2_with fail
   refine (HG.out _).mono ?_
   rintro e w3 ⟨rfl, hb3⟩
   have HB3 : Hid (Below w.heap.size w w3) := HB.out.trans (hb3.mono HB.out.size)
   have hY : w3.heap[B + 1 + 1]? = some (.cells #[.int .i64 0, .int .i64 0] 69 (0, 0)) := by rw [hb3.block _ (Array.getElem?_eq_some_iff.1 HY.out).1]; exact HY.out
   have y0 : w3.cell? ⟨B + 1 + 1, 0, none⟩ = some (.int .i64 0) := cof hY rfl
   have y1 : w3.cell? ⟨B + 1 + 1, 1, none⟩ = some (.int .i64 0) := cof hY rfl
   have z0 : w3.frozen? ⟨B + 1 + 1, 0, none⟩ = false := fof hY
   have z1 : w3.frozen? ⟨B + 1 + 1, 1, none⟩ = false := fof hY
   clear hb3 HG x0 x1 u0 u1 hY HX HU HY HB
   simp only []
   go_wp2
   exact bodyPost_ret (v := .tuple #[.agg #[.int .i64 nr, .int .i64 (l - 1)], .bool false, .nilIface]) (by simp [results, Tryz.results50, go_sem, y0, y1]) rfl ⟨by rw [HAN.out], HBB.out _ HB3.out _ _ _ _ (by simp; omega) (by simp; omega)⟩
 ·obtain rfl : l = 0 := by omega
  have hy0 : w2.cell? ⟨B + 1 + 1, 0, none⟩ = some (.int .i64 0) := cof HY.out rfl
  by_cases hv : 0 < v
  ·have hvd : decide (0 < v) = true := by simpa using hv
   have hp : 1 ≤ p ∧ p ≤ 1000 := by omega
   have HG := hide (fun W => ruleIn_any wd h r p W r1 r2 wd1 wd2 hp.1 hp.2)
   unfold bandV at HG
   cases hin : Bd.inB wd r p with
   | false =>
    have hans : nextV r 0 wd h p v = .tuple #[.agg #[.int .i64 r, .int .i64 h], .bool false, .nilIface] := by
     simp [nextV, bandV, Bd.nR, Bd.nL, Bd.nO, hin, hv]
    have HAN := hide hans
    rw [hin] at HG
    clear hans hin
    go_wp2_with fail
    refine (HG.out _).mono ?_
    rintro e w3 ⟨rfl, hb3⟩
    have HB3 : Hid (Below w.heap.size w w3) := HB.out.trans (hb3.mono HB.out.size)
    have hX : w3.heap[B]? = some (.cells #[.int .i64 r, .int .i64 0] 69 (0, 0)) := by rw [hb3.block _ (Array.getElem?_eq_some_iff.1 HX.out).1]; exact HX.out
    have hU : w3.heap[B + 1]? = some (.cells #[.int .i64 wd, .int .i64 h] 31 (0, 0)) := by rw [hb3.block _ (Array.getElem?_eq_some_iff.1 HU.out).1]; exact HU.out
    have hY : w3.heap[B + 1 + 1]? = some (.cells #[.int .i64 0, .int .i64 0] 69 (0, 0)) := by rw [hb3.block _ (Array.getElem?_eq_some_iff.1 HY.out).1]; exact HY.out
    clear x0 x1 u0 u1 hy0
    have x0 : w3.cell? ⟨B, 0, none⟩ = some (.int .i64 r) := cof hX rfl
    have x1 : w3.cell? ⟨B, 1, none⟩ = some (.int .i64 0) := cof hX rfl
    have u1 : w3.cell? ⟨B + 1, 1, none⟩ = some (.int .i64 h) := cof hU rfl
    have y0 : w3.cell? ⟨B + 1 + 1, 0, none⟩ = some (.int .i64 0) := cof hY rfl
    have y1 : w3.cell? ⟨B + 1 + 1, 1, none⟩ = some (.int .i64 0) := cof hY rfl
    have z0 : w3.frozen? ⟨B + 1 + 1, 0, none⟩ = false := fof hY
    have z1 : w3.frozen? ⟨B + 1 + 1, 1, none⟩ = false := fof hY
    have f0 : w3.frozen? ⟨B, 0, none⟩ = false := fof hX
    have f1 : w3.frozen? ⟨B, 1, none⟩ = false := fof hX
    clear hb3 HG hX hU hY HX HU HY HB
    simp only []
    go_wp2
    exact bodyPost_ret (v := .tuple #[.agg #[.int .i64 r, .int .i64 h], .bool false, .nilIface]) (by simp [results, Tryz.results50, go_sem, y0, y1]) rfl ⟨by rw [HAN.out], HBB.out _ (HB3.out.setCell (by rw [HBe.out]; exact Nat.le_refl _) _) _ _ _ _ (by simp; omega) (by simp; omega)⟩
   | true =>
    have hans : nextV r 0 wd h p v = .tuple #[.agg #[.int .i64 p, .int .i64 0], .bool true, .nilIface] := by
     simp [nextV, bandV, Bd.nR, Bd.nL, Bd.nO, hin, hv]
    have HAN := hide hans
    rw [hin] at HG
    clear hans hin
    go_wp2_with fail
    refine (HG.out _).mono ?_
    rintro e w3 ⟨rfl, hb3⟩
    have HB3 : Hid (Below w.heap.size w w3) := HB.out.trans (hb3.mono HB.out.size)
    have hX : w3.heap[B]? = some (.cells #[.int .i64 r, .int .i64 0] 69 (0, 0)) := by rw [hb3.block _ (Array.getElem?_eq_some_iff.1 HX.out).1]; exact HX.out
    have hU : w3.heap[B + 1]? = some (.cells #[.int .i64 wd, .int .i64 h] 31 (0, 0)) := by rw [hb3.block _ (Array.getElem?_eq_some_iff.1 HU.out).1]; exact HU.out
    have hY : w3.heap[B + 1 + 1]? = some (.cells #[.int .i64 0, .int .i64 0] 69 (0, 0)) := by rw [hb3.block _ (Array.getElem?_eq_some_iff.1 HY.out).1]; exact HY.out
    clear x0 x1 u0 u1 hy0
    have x0 : w3.cell? ⟨B, 0, none⟩ = some (.int .i64 r) := cof hX rfl
    have x1 : w3.cell? ⟨B, 1, none⟩ = some (.int .i64 0) := cof hX rfl
    have u1 : w3.cell? ⟨B + 1, 1, none⟩ = some (.int .i64 h) := cof hU rfl
    have y0 : w3.cell? ⟨B + 1 + 1, 0, none⟩ = some (.int .i64 0) := cof hY rfl
    have y1 : w3.cell? ⟨B + 1 + 1, 1, none⟩ = some (.int .i64 0) := cof hY rfl
    have z0 : w3.frozen? ⟨B + 1 + 1, 0, none⟩ = false := fof hY
    have z1 : w3.frozen? ⟨B + 1 + 1, 1, none⟩ = false := fof hY
    have f0 : w3.frozen? ⟨B, 0, none⟩ = false := fof hX
    have f1 : w3.frozen? ⟨B, 1, none⟩ = false := fof hX
    clear hb3 HG hX hU hY HX HU HY HB
    simp only []
    go_wp2
    exact bodyPost_ret (v := .tuple #[.agg #[.int .i64 p, .int .i64 0], .bool true, .nilIface]) (by simp [results, Tryz.results50, go_sem, y0, y1]) rfl ⟨by rw [HAN.out], HBB.out _ (HB3.out.setCell (by rw [HBe.out]; exact Nat.le_refl _) _) _ _ _ _ (by simp; omega) (by simp; omega)⟩
  ·have hvd : decide (0 < v) = false := by simpa using hv
   have hans : nextV r 0 wd h p v = .tuple #[.agg #[.int .i64 r, .int .i64 0], .bool true, .nilIface] := by
    simp [nextV, bandV, Bd.nR, Bd.nL, Bd.nO, hv]
   have HAN := hide hans
   have y1 : w2.cell? ⟨B + 1 + 1, 1, none⟩ = some (.int .i64 0) := cof HY.out rfl
   have z0 : w2.frozen? ⟨B + 1 + 1, 0, none⟩ = false := fof HY.out
   have z1 : w2.frozen? ⟨B + 1 + 1, 1, none⟩ = false := fof HY.out
   clear hans
   go_wp2
   exact bodyPost_ret (v := .tuple #[.agg #[.int .i64 r, .int .i64 0], .bool true, .nilIface]) (by simp [results, Tryz.results50, go_sem, hy0, y1]) rfl ⟨by rw [HAN.out], HBB.out _ HB.out _ _ _ _ (by simp; omega) (by simp; omega)⟩
def ArgAt (w : World) (g : Addr) (l : List Cv.Lot) : Prop :=
 ∀ i, i < l.length → w.cell? (g.add (i * 5)) = some (.int .i64 (Cv.nth l i).id) ∧ w.cell? ⟨(g.add (i * 5)).block, (g.add (i * 5)).off + 1, none⟩ = some (.int .i64 (Cv.nth l i).ow) ∧ w.cell? ⟨(g.add (i * 5)).block, (g.add (i * 5)).off + 2, none⟩ = some (.int .i64 (Cv.nth l i).sd) ∧
  w.cell? ⟨(g.add (i * 5)).block, (g.add (i * 5)).off + 3, none⟩ = some (.int .i64 (Cv.nth l i).pr) ∧ w.cell? ⟨(g.add (i * 5)).block, (g.add (i * 5)).off + 4, none⟩ = some (.int .i64 (Cv.nth l i).q)
theorem ArgAt.later {w w' : World} {g : Addr} {l : List Cv.Lot} (h : ArgAt w g l) (hb : Below w.heap.size w w') : ArgAt w' g l :=
 fun i hi => ⟨cell_later hb (h i hi).1, cell_later hb (h i hi).2.1, cell_later hb (h i hi).2.2.1, cell_later hb (h i hi).2.2.2.1, cell_later hb (h i hi).2.2.2.2⟩
set_option maxHeartbeats 400000 in
theorem demandOf_some (g : Addr) (n cap : Nat) (p : Int) (l : List Cv.Lot) (w : World) (hn : Hid (l.length = n)) (hok : Hid (Cv.Well l)) (hl : Hid (ArgAt w g l)) :
  Calls Tryz.prog 104 #[.slice (some g) n cap, .int .i64 p] w fun e w' => e = .returned (.int .i64 (Cv.demand l p)) ∧ w' = w := by
 have h120 := hok.out.1
 rw [hn.out] at h120
 have HR : Hid (∀ k, 0 ≤ Cv.sumIf (Cv.dB p) (l.take k) ∧ Cv.sumIf (Cv.dB p) (l.take k) ≤ 120000) := fun k => by
  have := Cv.sumIf_bounds (Cv.dB p) (l.take k) (hok.out.oks.take k)
  have h2 : (l.take k).length ≤ 120 := by rw [List.length_take, hn.out]; omega
  omega
 go_enter Tryz.func104, Tryz.ntmps104
 go_wp2
 go_loop [5, 6] (fun s i => ∃ k : Nat, k ≤ n ∧ i = .int .i64 k ∧ s = .int .i64 (Cv.sumIf (Cv.dB p) (l.take k))) (fun _ i => n - (intOf i).toNat)
 case atStart => exact ⟨0, Nat.zero_le _, rfl, rfl⟩
 case round =>
  obtain ⟨k, hk, rfl, rfl⟩ := hrel
  by_cases hlt : k < n
  ·have hki : (k : Int) < n := by omega
   obtain ⟨c0, c1, c2, c3, c4⟩ := hl.out k (by rw [hn.out]; exact hlt)
   have HS := hide (Cv.sumIf_step (Cv.dB p) (l := l) (k := k) (by rw [hn.out]; exact hlt))
   obtain ⟨r1, r2⟩ := HR.out k
   have HR2 := hide (HR.out (k + 1))
   rw [HS.out] at HR2
   generalize Cv.sumIf (Cv.dB p) (l.take k) = sk at *
   generalize Cv.nth l k = x at *
   have hdB : Cv.dB p x = (x.sd == 0 && decide (p ≤ x.pr)) := rfl
   by_cases hs : x.sd = 0
   ·by_cases hp : p ≤ x.pr
    ·have hd : Cv.dB p x = true := by rw [hdB]; simp [hs, hp]
     have HS2 := hide (show Cv.sumIf (Cv.dB p) (l.take (k + 1)) = sk + x.q by have := HS.out; rw [hd] at this; simpa using this)
     have hr2 : 0 ≤ sk + x.q ∧ sk + x.q ≤ 120000 := by have := HR2.out; rw [hd] at this; simpa using this
     clear HS HR2 hd hdB
     obtain ⟨r3, r4⟩ := hr2
     go_wp2
     exact ⟨⟨k + 1, by omega, by go_num, by rw [HS2.out]⟩, by simp [intOf]; omega⟩
    ·have hd : Cv.dB p x = false := by rw [hdB]; simp [hp]
     have HS2 := hide (show Cv.sumIf (Cv.dB p) (l.take (k + 1)) = sk by have := HS.out; rw [hd] at this; simpa using this)
     clear HS HR2 hd hdB
     go_wp2
     exact ⟨⟨k + 1, by omega, by go_num, by rw [HS2.out]⟩, by simp [intOf]; omega⟩
   ·have hd : Cv.dB p x = false := by rw [hdB]; simp [hs]
    have HS2 := hide (show Cv.sumIf (Cv.dB p) (l.take (k + 1)) = sk by have := HS.out; rw [hd] at this; simpa using this)
    clear HS HR2 hd hdB
    go_wp2
    exact ⟨⟨k + 1, by omega, by go_num, by rw [HS2.out]⟩, by simp [intOf]; omega⟩
  ·have hki : ¬ (k : Int) < n := by omega
   have hkk : l.take k = l := by
    have : k = l.length := by rw [hn.out]; omega
    rw [this, List.take_length]
   have Hkk := hide hkk
   clear hkk
   go_wp2
   go_ret
   exact ⟨by rw [Hkk.out]; rfl, rfl⟩
theorem demandOf_none (a : Option Addr) (cap : Nat) (p : Int) (w : World) : Calls Tryz.prog 104 #[.slice a 0 cap, .int .i64 p] w fun e w' => e = .returned (.int .i64 0) ∧ w' = w := by
 go_enter Tryz.func104, Tryz.ntmps104
 go_wp2
 refine wp_loop_rounds 1 ?_
 rw [rounds_succ]
 go_wp2
 go_ret
 exact ⟨rfl, rfl⟩

set_option maxHeartbeats 400000 in
theorem supplyOf_some (g : Addr) (n cap : Nat) (p : Int) (l : List Cv.Lot) (w : World) (hn : Hid (l.length = n)) (hok : Hid (Cv.Well l)) (hl : Hid (ArgAt w g l)) :
  Calls Tryz.prog 105 #[.slice (some g) n cap, .int .i64 p] w fun e w' => e = .returned (.int .i64 (Cv.supply l p)) ∧ w' = w := by
 have h120 := hok.out.1
 rw [hn.out] at h120
 have HR : Hid (∀ k, 0 ≤ Cv.sumIf (Cv.sB p) (l.take k) ∧ Cv.sumIf (Cv.sB p) (l.take k) ≤ 120000) := fun k => by
  have := Cv.sumIf_bounds (Cv.sB p) (l.take k) (hok.out.oks.take k)
  have h2 : (l.take k).length ≤ 120 := by rw [List.length_take, hn.out]; omega
  omega
 go_enter Tryz.func105, Tryz.ntmps105
 go_wp2
 go_loop [5, 6] (fun s i => ∃ k : Nat, k ≤ n ∧ i = .int .i64 k ∧ s = .int .i64 (Cv.sumIf (Cv.sB p) (l.take k))) (fun _ i => n - (intOf i).toNat)
 case atStart => exact ⟨0, Nat.zero_le _, rfl, rfl⟩
 case round =>
  obtain ⟨k, hk, rfl, rfl⟩ := hrel
  by_cases hlt : k < n
  ·have hki : (k : Int) < n := by omega
   obtain ⟨c0, c1, c2, c3, c4⟩ := hl.out k (by rw [hn.out]; exact hlt)
   have HS := hide (Cv.sumIf_step (Cv.sB p) (l := l) (k := k) (by rw [hn.out]; exact hlt))
   obtain ⟨r1, r2⟩ := HR.out k
   have HR2 := hide (HR.out (k + 1))
   rw [HS.out] at HR2
   generalize Cv.sumIf (Cv.sB p) (l.take k) = sk at *
   generalize Cv.nth l k = x at *
   have hdB : Cv.sB p x = (x.sd == 1 && decide (x.pr ≤ p)) := rfl
   by_cases hs : x.sd = 1
   ·by_cases hp : x.pr ≤ p
    ·have hd : Cv.sB p x = true := by rw [hdB]; simp [hs, hp]
     have HS2 := hide (show Cv.sumIf (Cv.sB p) (l.take (k + 1)) = sk + x.q by have := HS.out; rw [hd] at this; simpa using this)
     have hr2 : 0 ≤ sk + x.q ∧ sk + x.q ≤ 120000 := by have := HR2.out; rw [hd] at this; simpa using this
     clear HS HR2 hd hdB
     obtain ⟨r3, r4⟩ := hr2
     go_wp2
     exact ⟨⟨k + 1, by omega, by go_num, by rw [HS2.out]⟩, by simp [intOf]; omega⟩
    ·have hd : Cv.sB p x = false := by rw [hdB]; simp [hp]
     have HS2 := hide (show Cv.sumIf (Cv.sB p) (l.take (k + 1)) = sk by have := HS.out; rw [hd] at this; simpa using this)
     clear HS HR2 hd hdB
     go_wp2
     exact ⟨⟨k + 1, by omega, by go_num, by rw [HS2.out]⟩, by simp [intOf]; omega⟩
   ·have hd : Cv.sB p x = false := by rw [hdB]; simp [hs]
    have HS2 := hide (show Cv.sumIf (Cv.sB p) (l.take (k + 1)) = sk by have := HS.out; rw [hd] at this; simpa using this)
    clear HS HR2 hd hdB
    go_wp2
    exact ⟨⟨k + 1, by omega, by go_num, by rw [HS2.out]⟩, by simp [intOf]; omega⟩
  ·have hki : ¬ (k : Int) < n := by omega
   have hkk : l.take k = l := by
    have : k = l.length := by rw [hn.out]; omega
    rw [this, List.take_length]
   have Hkk := hide hkk
   clear hkk
   go_wp2
   go_ret
   exact ⟨by rw [Hkk.out]; rfl, rfl⟩
theorem supplyOf_none (a : Option Addr) (cap : Nat) (p : Int) (w : World) : Calls Tryz.prog 105 #[.slice a 0 cap, .int .i64 p] w fun e w' => e = .returned (.int .i64 0) ∧ w' = w := by
 go_enter Tryz.func105, Tryz.ntmps105
 go_wp2
 refine wp_loop_rounds 1 ?_
 rw [rounds_succ]
 go_wp2
 go_ret
 exact ⟨rfl, rfl⟩

def Came (w : World) (v : Value) (l : List Cv.Lot) : Prop := (l = [] ∧ ∃ a cap, v = .slice a 0 cap) ∨ ∃ g cap, v = .slice (some g) l.length cap ∧ ArgAt w g l
theorem Came.later {w w' : World} {v : Value} {l : List Cv.Lot} (h : Came w v l) (hb : Below w.heap.size w w') : Came w' v l := by
 rcases h with h | ⟨g, cap, h1, h2⟩
 ·exact .inl h
 ·exact .inr ⟨g, cap, h1, h2.later hb⟩
theorem demandOf_any (v : Value) (l : List Cv.Lot) (p : Int) (w : World) (hv : Came w v l) (hok : Cv.Well l) : Calls Tryz.prog 104 #[v, .int .i64 p] w fun e w' => e = .returned (.int .i64 (Cv.demand l p)) ∧ w' = w := by
 rcases hv with ⟨rfl, a, cap, rfl⟩ | ⟨g, cap, rfl, hl⟩
 ·exact demandOf_none a cap p w
 ·exact demandOf_some g _ cap p l w rfl hok hl
theorem supplyOf_any (v : Value) (l : List Cv.Lot) (p : Int) (w : World) (hv : Came w v l) (hok : Cv.Well l) : Calls Tryz.prog 105 #[v, .int .i64 p] w fun e w' => e = .returned (.int .i64 (Cv.supply l p)) ∧ w' = w := by
 rcases hv with ⟨rfl, a, cap, rfl⟩ | ⟨g, cap, rfl, hl⟩
 ·exact supplyOf_none a cap p w
 ·exact supplyOf_some g _ cap p l w rfl hok hl
theorem Came.form {w : World} {v : Value} {l : List Cv.Lot} (h : Came w v l) : ∃ a n cap, v = .slice a n cap := by
 rcases h with ⟨_, a, cap, rfl⟩ | ⟨g, cap, rfl, _⟩
 ·exact ⟨_, _, _, rfl⟩
 ·exact ⟨_, _, _, rfl⟩
def lotE (x : Cv.Lot) : Int := if Cv.ok x = true then 0 else 2
set_option maxHeartbeats 1000000 in
theorem lotError_any (x : Cv.Lot) (w : World) : Calls Tryz.prog 61 #[lotV x] w fun e w' => e = .returned (.int .i64 (lotE x)) ∧ Below w.heap.size w w' := by
 show Calls Tryz.prog 61 #[.agg #[.int .i64 x.id, .int .i64 x.ow, .int .i64 x.sd, .int .i64 x.pr, .int .i64 x.q]] w _
 go_enter Tryz.func61, Tryz.ntmps61
 go_wp2_with (go_at_call 101; refine (in_any _ _ _ _).mono ?_; rintro e w' ⟨rfl, rfl⟩)
 all_goals go_ret
 all_goals
  refine ⟨ret_int ?_, bal⟩
  simp_all [lotE, Cv.ok]

theorem lots_none (c1 c2 : Nat) (a1 a2 : Option Addr) (w : World) : Calls Tryz.prog 24 #[.slice a1 0 c1, .slice a2 0 c2] w fun e w' => e = .returned (.bool true) ∧ Below w.heap.size w w' := by
 go_enter Tryz.func24, Tryz.ntmps24
 go_wp2
 refine wp_loop_rounds 1 ?_
 rw [rounds_succ]
 go_wp2
 go_ret
 exact ⟨rfl, Below.refl _ _⟩
set_option maxHeartbeats 1000000 in
theorem lots_cells (b1 o1 b2 o2 c1 c2 n : Nat) (l : List Cv.Lot) (w : World) (hn : n ≤ 1000) (hl : Hid (l.length = n)) (h1 : Hid (LotsAt w b1 o1 l)) (h2 : Hid (LotsAt w b2 o2 l)) :
  Calls Tryz.prog 24 #[.slice (some ⟨b1, o1, none⟩) n c1, .slice (some ⟨b2, o2, none⟩) n c2] w fun e w' => e = .returned (.bool true) ∧ Below w.heap.size w w' := by
 go_enter Tryz.func24, Tryz.ntmps24
 go_wp2
 go_loopw [5] (fun i wr => ∃ k : Nat, k ≤ n ∧ i = .int .i64 k ∧ Below w.heap.size w wr) (fun i _ => n - (intOf i).toNat)
 case atStart => exact ⟨0, by omega, rfl, Below.refl _ _⟩
 case round =>
  obtain ⟨k, hk, rfl, hb⟩ := hrel
  have HB := hide hb
  clear hb
  by_cases hlt : k < n
  ·obtain ⟨c0, c1, c2, c3, c4⟩ := (h1.out.later HB.out) k (by rw [hl.out]; exact hlt)
   obtain ⟨d0, d1, d2, d3, d4⟩ := (h2.out.later HB.out) k (by rw [hl.out]; exact hlt)
   have hki : (k : Int) < n := by omega
   generalize Cv.nth l k = x at *
   go_wp2
   go_quiet (fail)
   go_wp2
   exact ⟨⟨k + 1, by omega, by go_num, HB.out.trans ((blw_drew nq).mono HB.out.size)⟩, by simp [intOf]; omega⟩
  ·go_wp2
   go_ret
   exact ⟨rfl, HB.out⟩
theorem row_lots {w : World} {base : Nat} {v : Value} {l : List Cv.Lot} (h : w.ownsRow base 56 5 v l.length (flat l)) : (v = .slice none 0 0 ∧ l = []) ∨ ∃ g cap, v = .slice (some ⟨g, 0, none⟩) l.length cap ∧ LotsAt w g 0 l := by
 rcases h.2 with ⟨e, e2⟩ | ⟨g, cap, cur, e, hg, hgg, hle, _, _, _⟩
 ·exact .inl ⟨e, List.eq_nil_of_length_eq_zero e2⟩
 ·refine .inr ⟨g, cap, e, lotsAt_of_flat fun j u hu => ?_⟩
  have := World.ownsRow.cells h (g := g) (by rw [e]; rfl) j u hu
  have hp : (⟨g, 0, none⟩ : Addr).add j = ⟨g, j, none⟩ := by unfold Addr.add; split <;> simp_all
  rwa [hp] at this
theorem lots_same {base base' : Nat} (v1 v2 : Value) (l : List Cv.Lot) (w : World) (hn : l.length ≤ 1000) (h1 : w.ownsRow base 56 5 v1 l.length (flat l)) (h2 : w.ownsRow base' 56 5 v2 l.length (flat l)) :
  Calls Tryz.prog 24 #[v1, v2] w fun e w' => e = .returned (.bool true) ∧ Below w.heap.size w w' := by
 rcases row_lots h1 with ⟨rfl, e⟩ | ⟨g1, c1, rfl, a1⟩
 ·rcases row_lots h2 with ⟨rfl, _⟩ | ⟨g2, c2, rfl, a2⟩
  ·exact lots_none _ _ _ _ w
  ·subst e; exact lots_none _ _ _ _ w
 ·rcases row_lots h2 with ⟨rfl, e⟩ | ⟨g2, c2, rfl, a2⟩
  ·subst e; exact lots_none _ _ _ _ w
  ·exact lots_cells g1 0 g2 0 c1 c2 _ l w hn rfl a1 a2
def okN (b : Bool) : Int := if b = true then 0 else 2
set_option maxHeartbeats 2000000 in
theorem bandError_any (r l wd h : Int) (w : World) : Calls Tryz.prog 57 #[bandV r l, .int .i64 wd, .int .i64 h] w fun e w' => e = .returned (.int .i64 (okN (Bd.bOk r l && Bd.rOk wd h))) ∧ Below w.heap.size w w' := by
 show Calls Tryz.prog 57 #[.agg #[.int .i64 r, .int .i64 l], .int .i64 wd, .int .i64 h] w _
 have HB : Hid (Below w.heap.size w (w.alloc (.cells #[.int .i64 r, .int .i64 l] 124))) := bal
 go_enter Tryz.func57, Tryz.ntmps57
 go_wp2
 all_goals go_ret
 all_goals
  refine ⟨ret_int ?_, HB.out⟩
  simp only [okN, Bd.bOk, Bd.rOk, Wi.withinB, Bool.and_eq_true, decide_eq_true_eq]
  split <;> first | rfl | omega | (exfalso; simp_all; done) | (exfalso; simp_all; omega)

theorem isWithin_any (wd r p : Int) (w : World) (h1 : 1 ≤ r) (h2 : r ≤ 1000) (h3 : 0 ≤ wd) (h4 : wd ≤ 100) (h5 : 1 ≤ p) (h6 : p ≤ 1000) :
  Calls Tryz.prog 107 #[.int .i64 wd, .int .i64 r, .int .i64 p] w fun e w' => e = .returned (.bool (Bd.inB wd r p)) ∧ w' = w := by
 have hp := prod_bounds h1 h2 h3 h4
 have w1 : IntKind.i64.wrap (r * wd) = r * wd := IntWalk.i64_in _ (by omega)
 by_cases hs : p - r < 0
 ·go_enter Tryz.func107, Tryz.ntmps107
  go_wp2
  go_ret
  refine ⟨ret_bool ?_, rfl⟩
  rw [Bd.inB, show Cv.size (p - r) = -(p - r) by unfold Cv.size; omega]
 ·go_enter Tryz.func107, Tryz.ntmps107
  go_wp2
  go_ret
  refine ⟨ret_bool ?_, rfl⟩
  rw [Bd.inB, show Cv.size (p - r) = p - r by unfold Cv.size; omega]
set_option maxHeartbeats 2000000 in
theorem nextBand_any (r l wd h p v : Int) (w : World) (hk : (Bd.bOk r l && (Bd.rOk wd h && Bd.vOk p v)) = true) :
  Calls Tryz.prog 69 #[bandV r l, .int .i64 wd, .int .i64 h, .int .i64 p, .int .i64 v] w fun e w' => e = .returned (.tuple #[bandV (Bd.nR r l wd p v) (Bd.nL r l wd h p v), .bool (Bd.nO r l wd p v)]) ∧ Below w.heap.size w w' := by
 have hk' : ((1 ≤ r ∧ r ≤ 1000) ∧ 0 ≤ l ∧ l ≤ 1000) ∧ ((0 ≤ wd ∧ wd ≤ 100) ∧ 1 ≤ h ∧ h ≤ 1000) ∧ 0 ≤ v ∧ (v ≤ 0 ∨ 1 ≤ p ∧ p ≤ 1000) := by
  simpa [Bd.bOk, Bd.rOk, Bd.vOk, Wi.withinB] using hk
 obtain ⟨⟨⟨r1, r2⟩, l1, l2⟩, ⟨⟨wd1, wd2⟩, h1, h2⟩, vv1, vv2⟩ := hk'
 clear hk
 have HA : Hid (∀ x y, Below w.heap.size w ((w.alloc x).alloc y)) := fun x y => ((Below.refl _ _).alloc (Nat.le_refl _) x).alloc (by simp) y
 have wl : IntKind.i64.wrap (l - 1) = l - 1 := IntWalk.i64_in _ (by omega)
 by_cases hl : 0 < l
 ·by_cases hl1 : l = 1
  ·subst hl1
   by_cases hv : 0 < v
   ·rw [show Bd.nR r 1 wd p v = p by simp [Bd.nR, hv], show Bd.nL r 1 wd h p v = 0 by simp [Bd.nL], show Bd.nO r 1 wd p v = false by simp [Bd.nO]]
    unfold bandV
    go_enter Tryz.func69, Tryz.ntmps69
    go_wp2
    exact bodyPost_ret (v := .tuple #[.agg #[.int .i64 p, .int .i64 0], .bool false]) (by simp [results, Tryz.results69, go_sem]) rfl ⟨rfl, HA.out _ _⟩
   ·rw [show Bd.nR r 1 wd p v = r by simp [Bd.nR, hv], show Bd.nL r 1 wd h p v = 0 by simp [Bd.nL], show Bd.nO r 1 wd p v = false by simp [Bd.nO]]
    unfold bandV
    go_enter Tryz.func69, Tryz.ntmps69
    go_wp2
    exact bodyPost_ret (v := .tuple #[.agg #[.int .i64 r, .int .i64 0], .bool false]) (by simp [results, Tryz.results69, go_sem]) rfl ⟨rfl, HA.out _ _⟩
  ·have hl2 : ¬ l - 1 = 0 := by omega
   rw [show Bd.nR r l wd p v = r by simp [Bd.nR, hl, hl1], show Bd.nL r l wd h p v = l - 1 by simp [Bd.nL, hl], show Bd.nO r l wd p v = false by simp [Bd.nO, hl]]
   unfold bandV
   go_enter Tryz.func69, Tryz.ntmps69
   go_wp2
   exact bodyPost_ret (v := .tuple #[.agg #[.int .i64 r, .int .i64 (l - 1)], .bool false]) (by simp [results, Tryz.results69, go_sem]) rfl ⟨rfl, HA.out _ _⟩
 ·obtain rfl : l = 0 := by omega
  by_cases hv : v = 0
  ·subst hv
   rw [show Bd.nR r 0 wd p 0 = r by simp [Bd.nR], show Bd.nL r 0 wd h p 0 = 0 by simp [Bd.nL], show Bd.nO r 0 wd p 0 = true by simp [Bd.nO]]
   unfold bandV
   go_enter Tryz.func69, Tryz.ntmps69
   go_wp2
   exact bodyPost_ret (v := .tuple #[.agg #[.int .i64 r, .int .i64 0], .bool true]) (by simp [results, Tryz.results69, go_sem]) rfl ⟨rfl, HA.out _ _⟩
  ·have hv0 : 0 < v := by omega
   have hp : 1 ≤ p ∧ p ≤ 1000 := by omega
   have HG := hide (fun W => isWithin_any wd r p W r1 r2 wd1 wd2 hp.1 hp.2)
   cases hin : Bd.inB wd r p with
   | false =>
    rw [show Bd.nR r 0 wd p v = r by simp [Bd.nR, hin], show Bd.nL r 0 wd h p v = h by simp [Bd.nL, hin, hv0], show Bd.nO r 0 wd p v = false by simp [Bd.nO, hin, hv0]]
    rw [hin] at HG
    clear hin
    unfold bandV
    go_enter Tryz.func69, Tryz.ntmps69
    go_wp2_with (go_at_call 107; refine (HG.out _).mono ?_; rintro e w' ⟨rfl, rfl⟩)
    exact bodyPost_ret (v := .tuple #[.agg #[.int .i64 r, .int .i64 h], .bool false]) (by simp [results, Tryz.results69, go_sem]) rfl ⟨rfl, HA.out _ _⟩
   | true =>
    rw [show Bd.nR r 0 wd p v = p by simp [Bd.nR, hin, hv0], show Bd.nL r 0 wd h p v = 0 by simp [Bd.nL, hin], show Bd.nO r 0 wd p v = true by simp [Bd.nO, hin]]
    rw [hin] at HG
    clear hin
    unfold bandV
    go_enter Tryz.func69, Tryz.ntmps69
    go_wp2_with (go_at_call 107; refine (HG.out _).mono ?_; rintro e w' ⟨rfl, rfl⟩)
    exact bodyPost_ret (v := .tuple #[.agg #[.int .i64 p, .int .i64 0], .bool true]) (by simp [results, Tryz.results69, go_sem]) rfl ⟨rfl, HA.out _ _⟩
end Go.Proofs.YtdggddjgipgllaaGreatDoor
