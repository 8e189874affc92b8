/- The law CurveAdds, for all lots. -/
import Derived.Test.YtfdapfegidbijaaDoorCvCurved
namespace Go.Proofs.YtfdapfegidbijaaDoor
open Go.RowKit
set_option maxRecDepth 100000

theorem check_well (v : Value) (l : List Cv.Lot) (T : TypeId) (v1 v6 v7 : Value) (w : World) (hv : Lots w v l) (he : Hid (Er w T v1 v6 v7)) (hok : Cv.Well l) :
    Calls Tryd.prog 13 #[v] w fun e w' => e = .returned .nilIface ∧ Below w.heap.size w w' := by
  rcases hv with ⟨rfl, a, cap, rfl⟩ | ⟨b, off, cap, rfl, hcap, hl⟩
  · refine (check_none cap a w).mono ?_
    rintro e w' ⟨rfl, rfl⟩
    exact ⟨rfl, Below.refl _ _⟩
  · exact check_fine' b off cap _ l T v1 v6 v7 w rfl hcap hl he hok
theorem check_ill (v : Value) (l : List Cv.Lot) (T : TypeId) (v1 v6 v7 : Value) (w : World) (hv : Lots w v l) (he : Hid (Er w T v1 v6 v7)) (hbad : ¬ Cv.Well l) :
    Calls Tryd.prog 13 #[v] w fun e w' => (∃ U x, e = .returned (.iface U x)) ∧ Below w.heap.size w w' := by
  rcases hv with ⟨rfl, a, cap, rfl⟩ | ⟨b, off, cap, rfl, hcap, hl⟩
  · exact absurd Cv.well_nil hbad
  · exact check_bad b off cap _ l T v1 v6 v7 w rfl hcap hl he hbad
theorem Lots.take {w : World} {b off cap : Nat} {l : List Cv.Lot} (h : LotsAt w b off l) (hn : l.length ≤ cap) (k : Nat) (hk : k ≤ l.length) : Lots w (.slice (some ⟨b, off, none⟩) k cap) (l.take k) := by
  have e : (l.take k).length = k := by rw [List.length_take]; omega
  exact .inr ⟨b, off, cap, by rw [e], by rw [e]; omega, h.take k⟩
theorem Lots.drop {w : World} {b off cap : Nat} {l : List Cv.Lot} (h : LotsAt w b off l) (hn : l.length ≤ cap) (k : Nat) (hk : k ≤ l.length) : Lots w (.slice (some ⟨b, off + k * 5, none⟩) (l.length - k) (cap - k)) (l.drop k) := by
  exact .inr ⟨b, off + k * 5, cap - k, by rw [List.length_drop], by rw [List.length_drop]; omega, h.drop k⟩

/-- what the calls of package curve answer of lots that are well, wherever they are made behind w -/
structure Tells (w : World) (v : Value) (p d s : Int) : Prop where
  dem : ∀ W, Below w.heap.size w W → Calls Tryd.prog 14 #[v, .int .i64 p] W fun e w' => e = .returned (.int .i64 d) ∧ Below W.heap.size W w'
  sup : ∀ W, Below w.heap.size w W → Calls Tryd.prog 15 #[v, .int .i64 p] W fun e w' => e = .returned (.int .i64 s) ∧ Below W.heap.size W w'
  vol : ∀ W, Below w.heap.size w W → Calls Tryd.prog 16 #[v, .int .i64 p] W fun e w' => e = .returned (.int .i64 (min d s)) ∧ Below W.heap.size W w'
  sur : ∀ W, Below w.heap.size w W → Calls Tryd.prog 17 #[v, .int .i64 p] W fun e w' => e = .returned (.int .i64 (d - s)) ∧ Below W.heap.size W w'
theorem tells_of {v : Value} {l : List Cv.Lot} {T : TypeId} {v1 v6 v7 : Value} {w : World} (p : Int) (hv : Lots w v l) (he : Er w T v1 v6 v7) (hok : Cv.Well l) : Tells w v p (Cv.demand l p) (Cv.supply l p) :=
  ⟨fun W hb => demand_any v l p T v1 v6 v7 W (hv.later hb) (he.later hb) hok, fun W hb => supply_any v l p T v1 v6 v7 W (hv.later hb) (he.later hb) hok,
   fun W hb => volume_any v l p T v1 v6 v7 W (hv.later hb) (he.later hb) hok, fun W hb => surplus_any v l p T v1 v6 v7 W (hv.later hb) (he.later hb) hok⟩

set_option maxHeartbeats 400000 in
theorem adds_out (a : Option Addr) (n cap : Nat) (cut p : Int) (T : TypeId) (v1 v6 v7 : Value) (w : World) (he : Hid (Er w T v1 v6 v7)) (h : (60 : Int) < n ∨ ¬ (60 : Int) < n ∧ (cut < 0 ∨ ¬ cut < 0 ∧ (n : Int) < cut)) :
    Calls Tryd.prog 5 #[.slice a n cap, .int .i64 cut, .int .i64 p] w fun e w' => e = .returned (.bool true) ∧ Below w.heap.size w w' := by
  rcases h with h | ⟨h, h' | ⟨h', h''⟩⟩
  all_goals
    go_enter Tryd.func5, Tryd.ntmps5
    go_wp2_with fail
    refine (curved_any T v1 v6 v7 w he).mono ?_
    rintro e w1 ⟨rfl, hb1⟩
    have HB1 := hide hb1
    clear hb1
    simp only []
    go_wp2
    go_ret
    exact ⟨rfl, HB1.out⟩

set_option maxHeartbeats 1000000 in
theorem adds_main (a : Option Addr) (n cap cut : Nat) (p : Int) (l : List Cv.Lot) (T : TypeId) (v1 v6 v7 : Value) (w : World) (he : Hid (Er w T v1 v6 v7)) (hn : Hid (l.length = n)) (hn' : n ≤ 60) (hcut : cut ≤ n) (hl : Hid (ArgLots w a l)) :
    Calls Tryd.prog 5 #[.slice a n cap, .int .i64 cut, .int .i64 p] w fun e w' => e = .returned (.bool true) ∧ Below w.heap.size w w' := by
  have h1 : ¬ (60 : Int) < n := by omega
  have h2 : ¬ (cut : Int) < 0 := by omega
  have h3 : ¬ (n : Int) < cut := by omega
  have HO : Hid (∀ w1, Below w.heap.size w w1 → Calls Tryd.prog 10 #[.slice a n cap] w1 fun e w' => ∃ v, e = .returned v ∧ Lots w' v l ∧ (l = [] → v = .slice none 0 0) ∧ Below w1.heap.size w1 w') := fun w1 hb => by
    have := own_any a cap l w1 (by rw [hn.out]; omega) (by
      rcases hl.out with h | ⟨g, h, hc⟩
      · exact .inl h
      · exact .inr ⟨g, h, fun j u hu => cell_later hb (hc j u hu)⟩)
    rwa [hn.out] at this
  go_enter Tryd.func5, Tryd.ntmps5
  go_wp2_with fail
  refine (curved_any T v1 v6 v7 w he).mono ?_
  rintro e w1 ⟨rfl, hb1⟩
  have HB1 := hide hb1
  clear hb1
  simp only []
  go_wp2_with fail
  refine (HO.out w1 HB1.out).mono ?_
  rintro e w2 ⟨v, rfl, hlv, hnv, hb2⟩
  have HNV := hide hnv
  clear hnv
  have HB2 := hide (HB1.out.trans (hb2.mono HB1.out.size)); have HL2 := hide hlv
  clear hb2 hlv HB1 HO
  by_cases hok : Cv.Well l
  · have HOK := hide hok
    clear hok
    simp only []
    go_wp2_with fail
    refine (check_well v l T v1 v6 v7 w2 HL2.out (he.out.later HB2.out) HOK.out).mono ?_
    rintro e w3 ⟨rfl, hb3⟩
    have HB3 := hide (HB2.out.trans (hb3.mono HB2.out.size)); have HL3 := hide (HL2.out.later hb3)
    clear hb3 HB2 HL2
    rcases HL3.out with ⟨hnil, _⟩ | ⟨b, off, cap3, hv, hcap3, hat⟩
    · have hv := HNV.out hnil
      subst hv
      have hn0 : n = 0 := by rw [← hn.out, hnil]; rfl
      have HA3 : Hid (Lots w3 (.slice none 0 0) (l.take cut)) := .inl ⟨by rw [hnil]; simp, _, _, rfl⟩
      have HD3 : Hid (Lots w3 (.slice none 0 0) (l.drop cut)) := .inl ⟨by rw [hnil]; simp, _, _, rfl⟩
      have HQ0 : Hid (Below w3.heap.size w3 w3) := Below.refl _ _
      have CO := hide (tells_of p HL3.out (he.out.later HB3.out) HOK.out)
      have CA := hide (tells_of p HA3.out (he.out.later HB3.out) (HOK.out.take cut))
      have CD := hide (tells_of p HD3.out (he.out.later HB3.out) (HOK.out.drop cut))
      rw [show Cv.demand l p = Cv.demand (l.take cut) p + Cv.demand (l.drop cut) p from Cv.sumIf_split _ l cut, show Cv.supply l p = Cv.supply (l.take cut) p + Cv.supply (l.drop cut) p from Cv.sumIf_split _ l cut] at CO
      obtain ⟨p1, p2⟩ := Cv.demand_range (l.take cut) p (HOK.out.take cut)
      obtain ⟨p3, p4⟩ := Cv.demand_range (l.drop cut) p (HOK.out.drop cut)
      obtain ⟨p5, p6⟩ := Cv.supply_range (l.take cut) p (HOK.out.take cut)
      obtain ⟨p7, p8⟩ := Cv.supply_range (l.drop cut) p (HOK.out.drop cut)
      generalize Cv.demand (l.take cut) p = da at *
      generalize Cv.demand (l.drop cut) p = db at *
      generalize Cv.supply (l.take cut) p = sa at *
      generalize Cv.supply (l.drop cut) p = sb at *
      clear hnil HNV HL3 HA3 HD3
      have hc0 : cut = 0 := by omega
      subst hc0
      subst hn0
      simp only []
      go_wp2_with fail
      refine (CO.out.dem _ HQ0.out).mono ?_
      rintro e wq ⟨rfl, hq⟩
      have HQ : Hid (Below w3.heap.size w3 wq) := HQ0.out.trans hq
      clear hq
      simp only []
      go_wp2_with fail
      refine (CA.out.dem _ HQ.out).mono ?_
      rintro e wq ⟨rfl, hq⟩
      replace HQ : Hid (Below w3.heap.size w3 wq) := HQ.out.trans (hq.mono HQ.out.size)
      clear hq
      simp only []
      go_wp2_with fail
      refine (CD.out.dem _ HQ.out).mono ?_
      rintro e wq ⟨rfl, hq⟩
      replace HQ : Hid (Below w3.heap.size w3 wq) := HQ.out.trans (hq.mono HQ.out.size)
      clear hq
      simp only []
      go_wp2_with fail
      refine (CO.out.sup _ HQ.out).mono ?_
      rintro e wq ⟨rfl, hq⟩
      replace HQ : Hid (Below w3.heap.size w3 wq) := HQ.out.trans (hq.mono HQ.out.size)
      clear hq
      simp only []
      go_wp2_with fail
      refine (CA.out.sup _ HQ.out).mono ?_
      rintro e wq ⟨rfl, hq⟩
      replace HQ : Hid (Below w3.heap.size w3 wq) := HQ.out.trans (hq.mono HQ.out.size)
      clear hq
      simp only []
      go_wp2_with fail
      refine (CD.out.sup _ HQ.out).mono ?_
      rintro e wq ⟨rfl, hq⟩
      replace HQ : Hid (Below w3.heap.size w3 wq) := HQ.out.trans (hq.mono HQ.out.size)
      clear hq
      simp only []
      go_wp2_with fail
      refine (CO.out.sur _ HQ.out).mono ?_
      rintro e wq ⟨rfl, hq⟩
      replace HQ : Hid (Below w3.heap.size w3 wq) := HQ.out.trans (hq.mono HQ.out.size)
      clear hq
      simp only []
      go_wp2_with fail
      refine (CA.out.sur _ HQ.out).mono ?_
      rintro e wq ⟨rfl, hq⟩
      replace HQ : Hid (Below w3.heap.size w3 wq) := HQ.out.trans (hq.mono HQ.out.size)
      clear hq
      simp only []
      go_wp2_with fail
      refine (CD.out.sur _ HQ.out).mono ?_
      rintro e wq ⟨rfl, hq⟩
      replace HQ : Hid (Below w3.heap.size w3 wq) := HQ.out.trans (hq.mono HQ.out.size)
      clear hq
      simp only []
      go_wp2_with fail
      refine (CO.out.vol _ HQ.out).mono ?_
      rintro e wq ⟨rfl, hq⟩
      replace HQ : Hid (Below w3.heap.size w3 wq) := HQ.out.trans (hq.mono HQ.out.size)
      clear hq
      simp only []
      go_wp2_with fail
      refine (CA.out.vol _ HQ.out).mono ?_
      rintro e wq ⟨rfl, hq⟩
      replace HQ : Hid (Below w3.heap.size w3 wq) := HQ.out.trans (hq.mono HQ.out.size)
      clear hq
      simp only []
      go_wp2_with fail
      refine (CD.out.vol _ HQ.out).mono ?_
      rintro e wq ⟨rfl, hq⟩
      replace HQ : Hid (Below w3.heap.size w3 wq) := HQ.out.trans (hq.mono HQ.out.size)
      clear hq
      simp only []
      go_wp2
      go_ret
      exact ⟨ret_bool (by simp; omega), HB3.out.trans (HQ.out.mono HB3.out.size)⟩
    · subst hv
      rw [hn.out] at hcap3
      simp only [hn.out] at HL3
      rw [hn.out]
      have hcc : cut ≤ cap3 := by omega
      by_cases hce : cap3 = cut
      · have hcn : n = cut := by omega
        have HA3 : Hid (Lots w3 (.slice (some ⟨b, off, none⟩) cut cut) (l.take cut)) := by
          rw [List.take_of_length_le (by rw [hn.out]; omega)]
          have := HL3.out
          rw [hce, hcn] at this
          exact this
        have HD3 : Hid (Lots w3 (.slice (some ⟨b, off, none⟩) 0 0) (l.drop cut)) := .inl ⟨by rw [List.drop_of_length_le (by rw [hn.out]; omega)], _, _, rfl⟩
        have HQ0 : Hid (Below w3.heap.size w3 w3) := Below.refl _ _
        have CO := hide (tells_of p HL3.out (he.out.later HB3.out) HOK.out)
        have CA := hide (tells_of p HA3.out (he.out.later HB3.out) (HOK.out.take cut))
        have CD := hide (tells_of p HD3.out (he.out.later HB3.out) (HOK.out.drop cut))
        rw [show Cv.demand l p = Cv.demand (l.take cut) p + Cv.demand (l.drop cut) p from Cv.sumIf_split _ l cut, show Cv.supply l p = Cv.supply (l.take cut) p + Cv.supply (l.drop cut) p from Cv.sumIf_split _ l cut] at CO
        obtain ⟨p1, p2⟩ := Cv.demand_range (l.take cut) p (HOK.out.take cut)
        obtain ⟨p3, p4⟩ := Cv.demand_range (l.drop cut) p (HOK.out.drop cut)
        obtain ⟨p5, p6⟩ := Cv.supply_range (l.take cut) p (HOK.out.take cut)
        obtain ⟨p7, p8⟩ := Cv.supply_range (l.drop cut) p (HOK.out.drop cut)
        generalize Cv.demand (l.take cut) p = da at *
        generalize Cv.demand (l.drop cut) p = db at *
        generalize Cv.supply (l.take cut) p = sa at *
        generalize Cv.supply (l.drop cut) p = sb at *
        clear HL3 HA3 HD3 hat HNV
        subst hce
        subst hcn
        simp only []
        go_wp2_with fail
        refine (CO.out.dem _ HQ0.out).mono ?_
        rintro e wq ⟨rfl, hq⟩
        have HQ : Hid (Below w3.heap.size w3 wq) := HQ0.out.trans hq
        clear hq
        simp only []
        go_wp2_with fail
        refine (CA.out.dem _ HQ.out).mono ?_
        rintro e wq ⟨rfl, hq⟩
        replace HQ : Hid (Below w3.heap.size w3 wq) := HQ.out.trans (hq.mono HQ.out.size)
        clear hq
        simp only []
        go_wp2_with fail
        refine (CD.out.dem _ HQ.out).mono ?_
        rintro e wq ⟨rfl, hq⟩
        replace HQ : Hid (Below w3.heap.size w3 wq) := HQ.out.trans (hq.mono HQ.out.size)
        clear hq
        simp only []
        go_wp2_with fail
        refine (CO.out.sup _ HQ.out).mono ?_
        rintro e wq ⟨rfl, hq⟩
        replace HQ : Hid (Below w3.heap.size w3 wq) := HQ.out.trans (hq.mono HQ.out.size)
        clear hq
        simp only []
        go_wp2_with fail
        refine (CA.out.sup _ HQ.out).mono ?_
        rintro e wq ⟨rfl, hq⟩
        replace HQ : Hid (Below w3.heap.size w3 wq) := HQ.out.trans (hq.mono HQ.out.size)
        clear hq
        simp only []
        go_wp2_with fail
        refine (CD.out.sup _ HQ.out).mono ?_
        rintro e wq ⟨rfl, hq⟩
        replace HQ : Hid (Below w3.heap.size w3 wq) := HQ.out.trans (hq.mono HQ.out.size)
        clear hq
        simp only []
        go_wp2_with fail
        refine (CO.out.sur _ HQ.out).mono ?_
        rintro e wq ⟨rfl, hq⟩
        replace HQ : Hid (Below w3.heap.size w3 wq) := HQ.out.trans (hq.mono HQ.out.size)
        clear hq
        simp only []
        go_wp2_with fail
        refine (CA.out.sur _ HQ.out).mono ?_
        rintro e wq ⟨rfl, hq⟩
        replace HQ : Hid (Below w3.heap.size w3 wq) := HQ.out.trans (hq.mono HQ.out.size)
        clear hq
        simp only []
        go_wp2_with fail
        refine (CD.out.sur _ HQ.out).mono ?_
        rintro e wq ⟨rfl, hq⟩
        replace HQ : Hid (Below w3.heap.size w3 wq) := HQ.out.trans (hq.mono HQ.out.size)
        clear hq
        simp only []
        go_wp2_with fail
        refine (CO.out.vol _ HQ.out).mono ?_
        rintro e wq ⟨rfl, hq⟩
        replace HQ : Hid (Below w3.heap.size w3 wq) := HQ.out.trans (hq.mono HQ.out.size)
        clear hq
        simp only []
        go_wp2_with fail
        refine (CA.out.vol _ HQ.out).mono ?_
        rintro e wq ⟨rfl, hq⟩
        replace HQ : Hid (Below w3.heap.size w3 wq) := HQ.out.trans (hq.mono HQ.out.size)
        clear hq
        simp only []
        go_wp2_with fail
        refine (CD.out.vol _ HQ.out).mono ?_
        rintro e wq ⟨rfl, hq⟩
        replace HQ : Hid (Below w3.heap.size w3 wq) := HQ.out.trans (hq.mono HQ.out.size)
        clear hq
        simp only []
        go_wp2
        go_ret
        exact ⟨ret_bool (by simp; omega), HB3.out.trans (HQ.out.mono HB3.out.size)⟩
      · have HA3 := hide (Lots.take hat (by rw [hn.out]; exact hcap3) cut (by rw [hn.out]; exact hcut))
        have HD3 := hide (Lots.drop hat (by rw [hn.out]; exact hcap3) cut (by rw [hn.out]; exact hcut))
        simp only [hn.out] at HD3
        have HQ0 : Hid (Below w3.heap.size w3 w3) := Below.refl _ _
        have CO := hide (tells_of p HL3.out (he.out.later HB3.out) HOK.out)
        have CA := hide (tells_of p HA3.out (he.out.later HB3.out) (HOK.out.take cut))
        have CD := hide (tells_of p HD3.out (he.out.later HB3.out) (HOK.out.drop cut))
        rw [show Cv.demand l p = Cv.demand (l.take cut) p + Cv.demand (l.drop cut) p from Cv.sumIf_split _ l cut, show Cv.supply l p = Cv.supply (l.take cut) p + Cv.supply (l.drop cut) p from Cv.sumIf_split _ l cut] at CO
        obtain ⟨p1, p2⟩ := Cv.demand_range (l.take cut) p (HOK.out.take cut)
        obtain ⟨p3, p4⟩ := Cv.demand_range (l.drop cut) p (HOK.out.drop cut)
        obtain ⟨p5, p6⟩ := Cv.supply_range (l.take cut) p (HOK.out.take cut)
        obtain ⟨p7, p8⟩ := Cv.supply_range (l.drop cut) p (HOK.out.drop cut)
        generalize Cv.demand (l.take cut) p = da at *
        generalize Cv.demand (l.drop cut) p = db at *
        generalize Cv.supply (l.take cut) p = sa at *
        generalize Cv.supply (l.drop cut) p = sb at *
        clear HL3 HA3 HD3 hat HNV
        simp only []
        go_wp2_with fail
        refine (CO.out.dem _ HQ0.out).mono ?_
        rintro e wq ⟨rfl, hq⟩
        have HQ : Hid (Below w3.heap.size w3 wq) := HQ0.out.trans hq
        clear hq
        simp only []
        go_wp2_with fail
        refine (CA.out.dem _ HQ.out).mono ?_
        rintro e wq ⟨rfl, hq⟩
        replace HQ : Hid (Below w3.heap.size w3 wq) := HQ.out.trans (hq.mono HQ.out.size)
        clear hq
        simp only []
        go_wp2_with fail
        refine (CD.out.dem _ HQ.out).mono ?_
        rintro e wq ⟨rfl, hq⟩
        replace HQ : Hid (Below w3.heap.size w3 wq) := HQ.out.trans (hq.mono HQ.out.size)
        clear hq
        simp only []
        go_wp2_with fail
        refine (CO.out.sup _ HQ.out).mono ?_
        rintro e wq ⟨rfl, hq⟩
        replace HQ : Hid (Below w3.heap.size w3 wq) := HQ.out.trans (hq.mono HQ.out.size)
        clear hq
        simp only []
        go_wp2_with fail
        refine (CA.out.sup _ HQ.out).mono ?_
        rintro e wq ⟨rfl, hq⟩
        replace HQ : Hid (Below w3.heap.size w3 wq) := HQ.out.trans (hq.mono HQ.out.size)
        clear hq
        simp only []
        go_wp2_with fail
        refine (CD.out.sup _ HQ.out).mono ?_
        rintro e wq ⟨rfl, hq⟩
        replace HQ : Hid (Below w3.heap.size w3 wq) := HQ.out.trans (hq.mono HQ.out.size)
        clear hq
        simp only []
        go_wp2_with fail
        refine (CO.out.sur _ HQ.out).mono ?_
        rintro e wq ⟨rfl, hq⟩
        replace HQ : Hid (Below w3.heap.size w3 wq) := HQ.out.trans (hq.mono HQ.out.size)
        clear hq
        simp only []
        go_wp2_with fail
        refine (CA.out.sur _ HQ.out).mono ?_
        rintro e wq ⟨rfl, hq⟩
        replace HQ : Hid (Below w3.heap.size w3 wq) := HQ.out.trans (hq.mono HQ.out.size)
        clear hq
        simp only []
        go_wp2_with fail
        refine (CD.out.sur _ HQ.out).mono ?_
        rintro e wq ⟨rfl, hq⟩
        replace HQ : Hid (Below w3.heap.size w3 wq) := HQ.out.trans (hq.mono HQ.out.size)
        clear hq
        simp only []
        go_wp2_with fail
        refine (CO.out.vol _ HQ.out).mono ?_
        rintro e wq ⟨rfl, hq⟩
        replace HQ : Hid (Below w3.heap.size w3 wq) := HQ.out.trans (hq.mono HQ.out.size)
        clear hq
        simp only []
        go_wp2_with fail
        refine (CA.out.vol _ HQ.out).mono ?_
        rintro e wq ⟨rfl, hq⟩
        replace HQ : Hid (Below w3.heap.size w3 wq) := HQ.out.trans (hq.mono HQ.out.size)
        clear hq
        simp only []
        go_wp2_with fail
        refine (CD.out.vol _ HQ.out).mono ?_
        rintro e wq ⟨rfl, hq⟩
        replace HQ : Hid (Below w3.heap.size w3 wq) := HQ.out.trans (hq.mono HQ.out.size)
        clear hq
        simp only []
        go_wp2
        go_ret
        exact ⟨ret_bool (by simp; omega), HB3.out.trans (HQ.out.mono HB3.out.size)⟩
  · have HBAD := hide hok
    clear hok
    simp only []
    go_wp2_with fail
    refine (check_ill v l T v1 v6 v7 w2 HL2.out (he.out.later HB2.out) HBAD.out).mono ?_
    rintro e w3 ⟨⟨U, x, rfl⟩, hb3⟩
    have HB3 := hide (HB2.out.trans (hb3.mono HB2.out.size))
    clear hb3
    simp only []
    go_wp2
    go_ret
    exact ⟨rfl, HB3.out⟩

theorem adds_any (a : Option Addr) (n cap : Nat) (cut p : Int) (l : List Cv.Lot) (T : TypeId) (v1 v6 v7 : Value) (w : World) (he : Er w T v1 v6 v7) (hl : n ≤ 60 → l.length = n ∧ ArgLots w a l) :
    Calls Tryd.prog 5 #[.slice a n cap, .int .i64 cut, .int .i64 p] w fun e w' => e = .returned (.bool true) ∧ Below w.heap.size w w' := by
  by_cases h1 : (60 : Int) < n
  · exact adds_out a n cap cut p T v1 v6 v7 w he (.inl h1)
  · by_cases h2 : cut < 0
    · exact adds_out a n cap cut p T v1 v6 v7 w he (.inr ⟨h1, .inl h2⟩)
    · by_cases h3 : (n : Int) < cut
      · exact adds_out a n cap cut p T v1 v6 v7 w he (.inr ⟨h1, .inr ⟨h2, h3⟩⟩)
      · obtain ⟨c, rfl⟩ := Int.eq_ofNat_of_zero_le (Int.not_lt.1 h2)
        exact adds_main a n cap c p l T v1 v6 v7 w he (hl (by omega)).1 (by omega) (by omega) (hl (by omega)).2
end Go.Proofs.YtfdapfegidbijaaDoor
