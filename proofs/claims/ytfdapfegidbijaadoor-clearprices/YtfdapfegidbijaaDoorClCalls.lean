/- Short and Strict by their contracts; Price of lots that are well, and of others; cleared: a closed fact. -/
import Derived.Test.YtfdapfegidbijaaDoorClPrice
import Derived.Test.YtfdapfegidbijaaDoorCvAddsWalk
namespace Go.Proofs.YtfdapfegidbijaaDoor
open Go.RowKit
set_option maxRecDepth 100000

set_option maxHeartbeats 1000000 in
theorem stClos_any (x : Cv.Lot) (B C : Nat) (side p : Int) (w : World) (hc : w.cell? ⟨B, 0, none⟩ = some (.int .i64 side)) (hc2 : w.cell? ⟨C, 0, none⟩ = some (.int .i64 p)) :
    Calls Tryd.prog 51 #[lotV x, .pointer (some ⟨B, 0, none⟩), .pointer (some ⟨C, 0, none⟩)] w fun e w' => e = .returned (.bool (Cv.stB side p x)) ∧ Below w.heap.size w w' := by
  have hB : B < w.heap.size := World.block_lt_of_cell? _ _ hc
  have hne : B ≠ w.heap.size := by omega
  have hC : C < w.heap.size := World.block_lt_of_cell? _ _ hc2
  have hne2 : C ≠ w.heap.size := by omega
  show Calls Tryd.prog 51 #[.agg #[.int .i64 x.id, .int .i64 x.ow, .int .i64 x.sd, .int .i64 x.pr, .int .i64 x.q], .pointer (some ⟨B, 0, none⟩), .pointer (some ⟨C, 0, none⟩)] w _
  by_cases hs : x.sd = side
  · have hsb : (x.sd == side) = true := by simpa using hs
    clear hs
    go_enter Tryd.func51, Tryd.ntmps51
    go_wp2_with (go_at_call 44; refine (better_any _ _ _ _).mono ?_; rintro e w' ⟨rfl, rfl⟩)
    go_ret
    exact ⟨ret_bool (by simp [Cv.stB, hsb]), (Below.refl _ _).alloc (Nat.le_refl _) _⟩
  · have hsb : (x.sd == side) = false := by simpa using hs
    clear hs
    go_enter Tryd.func51, Tryd.ntmps51
    go_wp2_with (go_at_call 44; refine (better_any _ _ _ _).mono ?_; rintro e w' ⟨rfl, rfl⟩)
    go_ret
    exact ⟨ret_bool (by simp [Cv.stB, hsb]), (Below.refl _ _).alloc (Nat.le_refl _) _⟩

set_option maxHeartbeats 1000000 in
theorem sumSt_fine (b off cap n B C : Nat) (side p : Int) (l : List Cv.Lot) (T : TypeId) (v1 v6 v7 : Value) (w : World) (hn : Hid (l.length = n)) (hcap : n ≤ cap) (hl : Hid (LotsAt w b off l)) (he : Hid (Er w T v1 v6 v7)) (hok : Hid (Cv.Well l)) (hc : w.cell? ⟨B, 0, none⟩ = some (.int .i64 side)) (hc2 : w.cell? ⟨C, 0, none⟩ = some (.int .i64 p)) :
    Calls Tryd.prog 38 #[.slice (some ⟨b, off, none⟩) n cap, .func (.func 51) #[] #[.pointer (some ⟨B, 0, none⟩), .pointer (some ⟨C, 0, none⟩)]] w fun e w' => e = .returned (.int .i64 (Cv.sumIf (Cv.stB side p) l)) ∧ Below w.heap.size w w' := by
  have h120 := hok.out.1
  rw [hn.out] at h120
  have HR : Hid (∀ k, 0 ≤ Cv.sumIf (Cv.stB side p) (l.take k) ∧ Cv.sumIf (Cv.stB side p) (l.take k) ≤ 120000) := fun k => by
    have := Cv.sumIf_bounds (Cv.stB side p) (l.take k) (hok.out.oks.take k)
    have h2 : (l.take k).length ≤ 120 := by rw [List.length_take, hn.out]; omega
    omega
  go_enter Tryd.func38, Tryd.ntmps38
  go_wp2_with fail
  refine (well_fine b off cap n l T v1 v6 v7 w hn hcap hl he hok).mono ?_
  rintro e w1 ⟨rfl, hb1⟩
  have HB1 := hide hb1
  clear hb1
  simp only []
  go_wp2
  go_loopw [5, 11] (fun s i wr => ∃ k : Nat, k ≤ n ∧ i = .int .i64 k ∧ s = .int .i64 (Cv.sumIf (Cv.stB side p) (l.take k)) ∧ Below w.heap.size w wr) (fun _ i _ => n - (intOf i).toNat)
  case atStart => exact ⟨0, Nat.zero_le _, rfl, rfl, HB1.out⟩
  case round =>
    obtain ⟨k, hk, rfl, rfl, hb⟩ := hrel
    have HB := hide hb
    clear hb
    by_cases hlt : k < n
    · have hki : (k : Int) < n := by omega
      obtain ⟨c0, c1, c2, c3, c4⟩ := (hl.out.later HB.out) k (by rw [hn.out]; exact hlt)
      have HS := hide (Cv.sumIf_step (Cv.stB side p) (l := l) (k := k) (by rw [hn.out]; exact hlt))
      obtain ⟨r1, r2⟩ := HR.out k
      have HR2 := hide (HR.out (k + 1))
      rw [HS.out] at HR2
      generalize Cv.sumIf (Cv.stB side p) (l.take k) = sk at *
      generalize Cv.nth l k = x at *
      have hcc := fun W (h : Below w.heap.size w W) => stClos_any x B C side p W (cell_later h hc) (cell_later h hc2)
      have HCC := hide hcc
      clear hcc
      have HBa : Hid (Below w.heap.size w (wr.alloc (.cells #[.int .i64 x.id, .int .i64 x.ow, .int .i64 x.sd, .int .i64 x.pr, .int .i64 x.q] 44))) := HB.out.alloc HB.out.size _
      go_wp2_with fail
      refine (HCC.out _ HBa.out).mono ?_
      rintro e w2 ⟨rfl, hb2⟩
      have HB2 : Hid (Below w.heap.size w w2) := HBa.out.trans (hb2.mono HBa.out.size)
      have d4 : w2.cell? ⟨wr.heap.size, 4, none⟩ = some (.int .i64 x.q) := by rw [hb2.cell (p := ⟨wr.heap.size, 4, none⟩) (by simp)]; simp
      clear hb2 c0 c1 c2 c3 c4 HCC HBa
      cases hp : Cv.stB side p x with
      | true =>
        have HS2 := hide (show Cv.sumIf (Cv.stB side p) (l.take (k + 1)) = sk + x.q by have := HS.out; rw [hp] at this; simpa using this)
        have hr2 : 0 ≤ sk + x.q ∧ sk + x.q ≤ 120000 := by have := HR2.out; rw [hp] at this; simpa using this
        clear HS HR2 hp
        obtain ⟨r3, r4⟩ := hr2
        simp only []
        go_wp2
        exact ⟨⟨k + 1, by omega, by go_num, by rw [HS2.out], HB2.out⟩, by simp [intOf]; omega⟩
      | false =>
        have HS2 := hide (show Cv.sumIf (Cv.stB side p) (l.take (k + 1)) = sk by have := HS.out; rw [hp] at this; simpa using this)
        clear HS HR2 hp
        simp only []
        go_wp2
        exact ⟨⟨k + 1, by omega, by go_num, by rw [HS2.out], HB2.out⟩, by simp [intOf]; omega⟩
    · have hki : ¬ (k : Int) < n := by omega
      have hkk : l.take k = l := by
        have : k = l.length := by rw [hn.out]; omega
        rw [this, List.take_length]
      have Hkk := hide hkk
      clear hkk
      go_wp2
      go_ret
      exact ⟨by rw [Hkk.out]; rfl, HB.out⟩


theorem strict_some (b off cap n : Nat) (side p r : Int) (w : World) (HC : Hid (∀ W, W = (w.alloc (.cells #[.int .i64 side] 3)).alloc (.cells #[.int .i64 p] 3) → Calls Tryd.prog 38 #[.slice (some ⟨b, off, none⟩) n cap, .func (.func 51) #[] #[.pointer (some ⟨w.heap.size, 0, none⟩), .pointer (some ⟨w.heap.size + 1, 0, none⟩)]] W fun e w' => e = .returned (.int .i64 r) ∧ Below W.heap.size W w')) :
    Calls Tryd.prog 32 #[.slice (some ⟨b, off, none⟩) n cap, .int .i64 side, .int .i64 p] w fun e w' => e = .returned (.int .i64 r) ∧ Below w.heap.size w w' := by
  go_enter Tryd.func32, Tryd.ntmps32
  go_wp2_with fail
  refine (HC.out _ rfl).mono ?_
  rintro e w2 ⟨rfl, hb⟩
  have HB := hide hb
  clear hb
  simp only []
  go_wp2
  go_ret
  exact ⟨rfl, (((Below.refl _ _).alloc (Nat.le_refl _) _).alloc (by simp) _).trans (HB.out.mono (by simp; omega))⟩
theorem strict_none (cap : Nat) (a : Option Addr) (side p : Int) (w : World) :
    Calls Tryd.prog 32 #[.slice a 0 cap, .int .i64 side, .int .i64 p] w fun e w' => e = .returned (.int .i64 0) ∧ Below w.heap.size w w' := by
  go_enter Tryd.func32, Tryd.ntmps32
  go_wp2_with fail
  refine (sumD_none cap a _ _).mono ?_
  rintro e w2 ⟨rfl, rfl⟩
  simp only []
  go_wp2
  go_ret
  exact ⟨rfl, ((Below.refl _ _).alloc (Nat.le_refl _) _).alloc (by simp) _⟩
theorem two_boxes (w : World) (x y : Value) : Below w.heap.size w ((w.alloc (.cells #[x] 3)).alloc (.cells #[y] 3)) := ((Below.refl _ _).alloc (Nat.le_refl _) _).alloc (by simp) _
/-- what is strictly better, of any lots -/
theorem strict_any (v : Value) (l : List Cv.Lot) (side p : Int) (T : TypeId) (v1 v6 v7 : Value) (w : World) (hv : Lots w v l) (he : Hid (Er w T v1 v6 v7)) (hok : Cv.Well l) :
    Calls Tryd.prog 32 #[v, .int .i64 side, .int .i64 p] w fun e w' => e = .returned (.int .i64 (Cv.strict l side p)) ∧ Below w.heap.size w w' := by
  rcases hv with ⟨rfl, a, cap, rfl⟩ | ⟨b, off, cap, rfl, hcap, hl⟩
  · exact strict_none cap a side p w
  · refine strict_some b off cap _ side p _ w (fun W hW => ?_)
    subst hW
    exact sumSt_fine b off cap l.length w.heap.size (w.heap.size + 1) side p l T v1 v6 v7 _ rfl hcap (hl.later (two_boxes w _ _)) (he.out.later (two_boxes w _ _)) hok (by simp) (by rw [show w.heap.size + 1 = (w.alloc (.cells #[.int .i64 side] 3)).heap.size by simp, World.cell?_alloc_new]; rfl)
theorem strict_bad (v : Value) (l : List Cv.Lot) (side p : Int) (T : TypeId) (v1 v6 v7 : Value) (w : World) (hv : Lots w v l) (he : Hid (Er w T v1 v6 v7)) (hbad : ¬ Cv.Well l) :
    Calls Tryd.prog 32 #[v, .int .i64 side, .int .i64 p] w fun e w' => e = .returned (.int .i64 0) ∧ Below w.heap.size w w' := by
  rcases hv with ⟨rfl, a, cap, rfl⟩ | ⟨b, off, cap, rfl, hcap, hl⟩
  · exact absurd Cv.well_nil hbad
  · refine strict_some b off cap _ side p _ w (fun W hW => ?_)
    subst hW
    exact sumD_bad b off cap l.length _ l T v1 v6 v7 _ rfl hcap (hl.later (two_boxes w _ _)) (he.out.later (two_boxes w _ _)) hbad

/-- who is short, by demand and supply -/
def shortOf (d s : Int) : Int := if d < s then 0 else if s < d then 1 else -1
theorem short_of (v : Value) (p d s : Int) (w : World) (hd : -1000000 ≤ d - s) (hs : d - s ≤ 1000000) (HC : Hid (Calls Tryd.prog 17 #[v, .int .i64 p] w fun e w' => e = .returned (.int .i64 (d - s)) ∧ Below w.heap.size w w')) :
    Calls Tryd.prog 31 #[v, .int .i64 p] w fun e w' => e = .returned (.int .i64 (shortOf d s)) ∧ Below w.heap.size w w' := by
  go_enter Tryd.func31, Tryd.ntmps31
  go_wp2_with fail
  refine HC.out.mono ?_
  rintro e w1 ⟨rfl, hb1⟩
  have HB1 := hide hb1
  clear hb1
  simp only []
  go_wp2
  all_goals go_ret
  all_goals exact ⟨ret_int (by unfold shortOf; repeat' split <;> omega), HB1.out⟩
theorem short_any (v : Value) (l : List Cv.Lot) (p : Int) (T : TypeId) (v1 v6 v7 : Value) (w : World) (hv : Lots w v l) (he : Hid (Er w T v1 v6 v7)) (hok : Cv.Well l) :
    Calls Tryd.prog 31 #[v, .int .i64 p] w fun e w' => e = .returned (.int .i64 (shortOf (Cv.demand l p) (Cv.supply l p))) ∧ Below w.heap.size w w' := by
  have h1 := Cv.demand_range l p hok
  have h2 := Cv.supply_range l p hok
  exact short_of v p _ _ w (by omega) (by omega) (surplus_any v l p T v1 v6 v7 w hv he hok)
theorem short_bad (v : Value) (l : List Cv.Lot) (p : Int) (T : TypeId) (v1 v6 v7 : Value) (w : World) (hv : Lots w v l) (he : Hid (Er w T v1 v6 v7)) (hbad : ¬ Cv.Well l) :
    Calls Tryd.prog 31 #[v, .int .i64 p] w fun e w' => e = .returned (.int .i64 (-1)) ∧ Below w.heap.size w w' :=
  short_of v p 0 0 w (by omega) (by omega) (surplus_bad v l p T v1 v6 v7 w hv he hbad)

/-- the price of lots that are well -/
theorem price_any (v : Value) (l : List Cv.Lot) (ref : Int) (T : TypeId) (v1 v6 v7 : Value) (w : World) (hv : Lots w v l) (he : Hid (Er w T v1 v6 v7)) (hok : Cv.Well l) (hr : Wi.withinB ref 1 1000 = true) :
    Calls Tryd.prog 28 #[v, .int .i64 ref] w fun e w' => (∃ p vol, e = .returned (.tuple #[.int .i64 p, .int .i64 vol, .nilIface]) ∧ Cv.Won l ref 1000 p vol) ∧ Below w.heap.size w w' :=
  price_well v l ref w hv hok hr (check_well v l T v1 v6 v7 w hv he hok)
/-- else 0, 0 and an error -/
theorem price_bad (v : Value) (l : List Cv.Lot) (ref : Int) (T : TypeId) (v1 v6 v7 : Value) (w : World) (hv : Lots w v l) (he : Hid (Er w T v1 v6 v7)) (hbad : ¬ (Cv.Well l ∧ Wi.withinB ref 1 1000 = true)) :
    Calls Tryd.prog 28 #[v, .int .i64 ref] w fun e w' => (∃ U x, e = .returned (.tuple #[.int .i64 0, .int .i64 0, .iface U x])) ∧ Below w.heap.size w w' := by
  by_cases hok : Cv.Well l
  · have hr : Wi.withinB ref 1 1000 = false := by
      cases h : Wi.withinB ref 1 1000 with
      | true => exact absurd ⟨hok, h⟩ hbad
      | false => rfl
    refine (price_ref v ref T v1 v6 v7 w he hr (check_well v l T v1 v6 v7 w hv he hok)).mono ?_
    rintro e w' ⟨rfl, hb⟩
    exact ⟨⟨_, _, rfl⟩, hb⟩
  · have h := check_ill v l T v1 v6 v7 w hv he hok
    refine (price_err v ref (fun _ _ => True) w (h.mono ?_)).mono ?_
    · rintro e w' ⟨⟨U, x, rfl⟩, hb⟩
      exact ⟨⟨U, x, rfl, trivial⟩, hb⟩
    · rintro e w' ⟨⟨U, x, rfl, _⟩, hb⟩
      exact ⟨⟨U, x, rfl⟩, hb⟩

def twoLots : List Cv.Lot := [⟨1, 0, 0, 10, 5⟩, ⟨2, 0, 1, 8, 4⟩]
set_option maxHeartbeats 1000000 in
theorem cleared_any (T : TypeId) (v1 v6 v7 : Value) (w : World) (he : Hid (Er w T v1 v6 v7)) :
    Calls Tryd.prog 27 #[] w fun e w' => e = .returned (.bool true) ∧ Below w.heap.size w w' := by
  go_enter Tryd.func27, Tryd.ntmps27
  go_wp2_with fail
  have HB1 : Hid (Below w.heap.size w (w.alloc (.cells #[.int .i64 1, .int .i64 0, .int .i64 0, .int .i64 10, .int .i64 5, .int .i64 2, .int .i64 0, .int .i64 1, .int .i64 8, .int .i64 4] 44))) := (Below.refl _ _).alloc (Nat.le_refl _) _
  have HL1 : Hid (Lots (w.alloc (.cells #[.int .i64 1, .int .i64 0, .int .i64 0, .int .i64 10, .int .i64 5, .int .i64 2, .int .i64 0, .int .i64 1, .int .i64 8, .int .i64 4] 44)) (.slice (some ⟨w.heap.size, 0, none⟩) 2 2) twoLots) := by
    refine .inr ⟨w.heap.size, 0, 2, rfl, by decide, fun i hi => ?_⟩
    have hi : i < 2 := hi
    match i, hi with
    | 0, _ => refine ⟨?_, ?_, ?_, ?_, ?_⟩ <;> (rw [World.cell?_alloc_new]; rfl)
    | 1, _ => refine ⟨?_, ?_, ?_, ?_, ?_⟩ <;> (rw [World.cell?_alloc_new]; rfl)
  generalize w.alloc (.cells #[.int .i64 1, .int .i64 0, .int .i64 0, .int .i64 10, .int .i64 5, .int .i64 2, .int .i64 0, .int .i64 1, .int .i64 8, .int .i64 4] 44) = w1 at *
  refine (price_any _ twoLots 9 T v1 v6 v7 w1 HL1.out (he.out.later HB1.out) Cv.well_two (by decide)).mono ?_
  rintro e w2 ⟨⟨p, vol, rfl, hwon⟩, hb2⟩
  obtain ⟨rfl, rfl⟩ := hwon.unique Cv.won_two
  have HB2 := hide (HB1.out.trans (hb2.mono HB1.out.size))
  clear hb2 HB1 HL1 hwon
  simp only []
  go_wp2
  go_ret
  exact ⟨rfl, HB2.out⟩
end Go.Proofs.YtfdapfegidbijaaDoor
