/- The law ClearBest, for all lots. -/
import Derived.Test.YtfdapfegidbijaaDoorClCalls
namespace Go.Proofs.YtfdapfegidbijaaDoor
open Go.RowKit
set_option maxRecDepth 100000

/-- a call that answers so wherever it is made behind w -/
def Ans (w : World) (f : Nat) (args : Array Value) (x : Value) : Prop := ∀ W, Below w.heap.size w W → Calls Tryd.prog f args W fun e w' => e = .returned x ∧ Below W.heap.size W w'

set_option maxHeartbeats 400000 in
theorem cbest_out (a : Option Addr) (n cap : Nat) (ref o : Int) (T : TypeId) (v1 v6 v7 : Value) (w : World) (he : Hid (Er w T v1 v6 v7)) (h : (60 : Int) < n ∨ ¬ (60 : Int) < n ∧ (o < 1 ∨ ¬ o < 1 ∧ (1000 : Int) < o)) :
    Calls Tryd.prog 7 #[.slice a n cap, .int .i64 ref, .int .i64 o] w fun e w' => e = .returned (.bool true) ∧ Below w.heap.size w w' := by
  rcases h with h | ⟨h, h' | ⟨h', h''⟩⟩
  all_goals
    go_enter Tryd.func7, Tryd.ntmps7
    go_wp2_with fail
    refine (cleared_any T v1 v6 v7 w he).mono ?_
    rintro e w1 ⟨rfl, hb1⟩
    have HB1 := hide hb1
    clear hb1
    simp only []
    go_wp2
    go_ret
    exact ⟨rfl, HB1.out⟩

/-- what Price has answered -/
def Priced2 (l : List Cv.Lot) (ref : Int) (x : Value) : Prop :=
  (∃ U y, x = .tuple #[.int .i64 0, .int .i64 0, .iface U y]) ∨ ∃ p vol, x = .tuple #[.int .i64 p, .int .i64 vol, .nilIface] ∧ Cv.Well l ∧ Cv.Won l ref 1000 p vol
theorem price_all (v : Value) (l : List Cv.Lot) (ref : Int) (T : TypeId) (v1 v6 v7 : Value) (w : World) (hv : Lots w v l) (he : Hid (Er w T v1 v6 v7)) :
    Calls Tryd.prog 28 #[v, .int .i64 ref] w fun e w' => (∃ x, e = .returned x ∧ Priced2 l ref x) ∧ Below w.heap.size w w' := by
  by_cases h : Cv.Well l ∧ Wi.withinB ref 1 1000 = true
  · refine (price_any v l ref T v1 v6 v7 w hv he h.1 h.2).mono ?_
    rintro e w' ⟨⟨p, vol, rfl, hw⟩, hb⟩
    exact ⟨⟨_, rfl, .inr ⟨p, vol, rfl, h.1, hw⟩⟩, hb⟩
  · refine (price_bad v l ref T v1 v6 v7 w hv he h).mono ?_
    rintro e w' ⟨⟨U, x, rfl⟩, hb⟩
    exact ⟨⟨_, rfl, .inl ⟨U, x, rfl⟩⟩, hb⟩

set_option maxHeartbeats 2000000 in
theorem cbest_main (a : Option Addr) (n cap : Nat) (ref o : Int) (l : List Cv.Lot) (T : TypeId) (v1 v6 v7 : Value) (w : World) (he : Hid (Er w T v1 v6 v7)) (hn : Hid (l.length = n)) (hn' : n ≤ 60) (ho1 : 1 ≤ o) (ho2 : o ≤ 1000) (hl : Hid (ArgLots w a l)) :
    Calls Tryd.prog 7 #[.slice a n cap, .int .i64 ref, .int .i64 o] w fun e w' => e = .returned (.bool true) ∧ Below w.heap.size w w' := by
  have h1 : ¬ (60 : Int) < n := by omega
  have h2 : ¬ o < 1 := by omega
  have h3 : ¬ (1000 : Int) < o := by omega
  have HO : Hid (∀ w1, Below w.heap.size w w1 → Calls Tryd.prog 10 #[.slice a n cap] w1 fun e w' => ∃ v, e = .returned v ∧ Lots w' v l ∧ (l = [] → v = .slice none 0 0) ∧ Below w1.heap.size w1 w') := fun w1 hb => by
    have := own_any a cap l w1 (by rw [hn.out]; omega) (by
      rcases hl.out with h | ⟨g, h, hc⟩
      · exact .inl h
      · exact .inr ⟨g, h, fun j u hu => cell_later hb (hc j u hu)⟩)
    rwa [hn.out] at this
  go_enter Tryd.func7, Tryd.ntmps7
  go_wp2_with fail
  refine (cleared_any T v1 v6 v7 w he).mono ?_
  rintro e w1 ⟨rfl, hb1⟩
  have HB1 := hide hb1
  clear hb1
  simp only []
  go_wp2_with fail
  refine (HO.out w1 HB1.out).mono ?_
  rintro e w2 ⟨v, rfl, hlv, hnv, hb2⟩
  have HB2 := hide (HB1.out.trans (hb2.mono HB1.out.size)); have HL2 := hide hlv
  clear hb2 hlv HB1 HO hnv
  simp only []
  go_wp2_with fail
  refine (price_all v l ref T v1 v6 v7 w2 HL2.out (he.out.later HB2.out)).mono ?_
  rintro e w3 ⟨⟨x, rfl, hx⟩, hb3⟩
  have HB3 := hide (HB2.out.trans (hb3.mono HB2.out.size)); have HL3 := hide (HL2.out.later hb3)
  have HE3 := hide (he.out.later HB3.out)
  clear hb3 HB2 HL2
  rcases hx with ⟨U, y, rfl⟩ | ⟨p, vol, rfl, hok, hwon⟩
  · simp only []
    go_wp2
    go_ret
    exact ⟨rfl, HB3.out⟩
  · have HQ : Hid (Below w3.heap.size w3 w3) := Below.refl _ _
    have AVO : Hid (Ans w3 16 #[v, .int .i64 o] (.int .i64 (Cv.volume l o))) := fun W hb => volume_any v l o T v1 v6 v7 W (HL3.out.later hb) (HE3.out.later hb) hok
    have ACR : Hid (Ans w3 26 #[v] (.bool (decide (0 < vol)))) := fun W hb => by
      have := cross_any v l T v1 v6 v7 W (HL3.out.later hb) (HE3.out.later hb) hok
      rwa [hwon.cross hok.oks] at this
    rcases hwon with ⟨e1, e2, e3⟩ | ⟨e1, e2, e3, e4, e5⟩
    · rw [e3 o ho1 ho2] at AVO
      subst e1 e2
      clear e3
      simp only []
      go_wp2_with fail
      refine (AVO.out _ HQ.out).mono ?_
      rintro e wq ⟨rfl, hq⟩
      replace HQ := hide (HQ.out.trans (hq.mono HQ.out.size))
      clear hq
      simp only []
      go_wp2_with fail
      refine (ACR.out _ HQ.out).mono ?_
      rintro e wq ⟨rfl, hq⟩
      replace HQ := hide (HQ.out.trans (hq.mono HQ.out.size))
      clear hq
      simp only []
      go_wp2
      go_ret
      exact ⟨rfl, HB3.out.trans (HQ.out.mono HB3.out.size)⟩
    · have ASP : Hid (Ans w3 17 #[v, .int .i64 p] (.int .i64 (Cv.demand l p - Cv.supply l p))) := fun W hb => surplus_any v l p T v1 v6 v7 W (HL3.out.later hb) (HE3.out.later hb) hok
      have ASO : Hid (Ans w3 17 #[v, .int .i64 o] (.int .i64 (Cv.demand l o - Cv.supply l o))) := fun W hb => surplus_any v l o T v1 v6 v7 W (HL3.out.later hb) (HE3.out.later hb) hok
      have AVP : Hid (Ans w3 16 #[v, .int .i64 p] (.int .i64 (Cv.volume l p))) := fun W hb => volume_any v l p T v1 v6 v7 W (HL3.out.later hb) (HE3.out.later hb) hok
      have AT0 : Hid (Ans w3 32 #[v, .int .i64 0, .int .i64 p] (.int .i64 (Cv.strict l 0 p))) := fun W hb => strict_any v l 0 p T v1 v6 v7 W (HL3.out.later hb) (HE3.out.later hb) hok
      have AT1 : Hid (Ans w3 32 #[v, .int .i64 1, .int .i64 p] (.int .i64 (Cv.strict l 1 p))) := fun W hb => strict_any v l 1 p T v1 v6 v7 W (HL3.out.later hb) (HE3.out.later hb) hok
      have AD : Hid (Ans w3 14 #[v, .int .i64 p] (.int .i64 (Cv.demand l p))) := fun W hb => demand_any v l p T v1 v6 v7 W (HL3.out.later hb) (HE3.out.later hb) hok
      have AS : Hid (Ans w3 15 #[v, .int .i64 p] (.int .i64 (Cv.supply l p))) := fun W hb => supply_any v l p T v1 v6 v7 W (HL3.out.later hb) (HE3.out.later hb) hok
      rw [e4] at AVP
      rw [show decide (0 < vol) = true by simpa using e1] at ACR
      have x0 := Cv.strict_buy l hok.oks p
      have x1 := Cv.strict_sell l hok.oks p
      have r1 := Cv.demand_range l p hok
      have r2 := Cv.supply_range l p hok
      have r3 := Cv.demand_range l o hok
      have r4 := Cv.supply_range l o hok
      have ho := e5 o ho1 ho2
      have hle : Cv.volume l o ≤ vol := by omega
      have hls : Cv.volume l o = vol → Cv.size (Cv.demand l p - Cv.supply l p) ≤ Cv.size (Cv.demand l o - Cv.supply l o) := fun h => by
        unfold Cv.left at ho; omega
      unfold Cv.size at hls
      have s1 : -200000 ≤ Cv.demand l p - Cv.supply l p ∧ Cv.demand l p - Cv.supply l p ≤ 200000 := by omega
      have s2 : -200000 ≤ Cv.demand l o - Cv.supply l o ∧ Cv.demand l o - Cv.supply l o ≤ 200000 := by omega
      clear ho e5 e4 r1 r2 r3 r4 hok
      generalize Cv.demand l p - Cv.supply l p = sa at *
      generalize Cv.demand l o - Cv.supply l o = sb at *
      generalize Cv.demand l p = dp at *
      generalize Cv.supply l p = sp at *
      generalize Cv.strict l 0 p = t0 at *
      generalize Cv.strict l 1 p = t1 at *
      generalize Cv.volume l o = vo at *
      obtain ⟨s11, s12⟩ := s1
      obtain ⟨s21, s22⟩ := s2
      have hv0 : ¬ vol = 0 := by omega
      have hle' : ¬ vol < vo := by omega
      have hcases : (vo = vol ∧ ¬ max sb (-sb) < max sa (-sa)) ∨ ¬ vo = vol := by
        by_cases h : vo = vol
        · exact .inl ⟨h, by have := hls h; omega⟩
        · exact .inr h
      clear hls
      have hA : (sa < 0 ∧ max sa (-sa) = -sa) ∨ (¬ sa < 0 ∧ max sa (-sa) = sa) := by omega
      have hB : (sb < 0 ∧ max sb (-sb) = -sb) ∨ (¬ sb < 0 ∧ max sb (-sb) = sb) := by omega
      simp only []
      go_wp2_with fail
      refine (AVO.out _ HQ.out).mono ?_
      rintro e wq ⟨rfl, hq⟩
      replace HQ := hide (HQ.out.trans (hq.mono HQ.out.size))
      clear hq
      simp only []
      go_wp2_with fail
      refine (ACR.out _ HQ.out).mono ?_
      rintro e wq ⟨rfl, hq⟩
      replace HQ := hide (HQ.out.trans (hq.mono HQ.out.size))
      clear hq
      simp only []
      go_wp2_with fail
      refine (ASP.out _ HQ.out).mono ?_
      rintro e wq ⟨rfl, hq⟩
      replace HQ := hide (HQ.out.trans (hq.mono HQ.out.size))
      clear hq
      simp only []
      go_wp2_with fail
      refine (ASO.out _ HQ.out).mono ?_
      rintro e wq ⟨rfl, hq⟩
      replace HQ := hide (HQ.out.trans (hq.mono HQ.out.size))
      clear hq
      simp only []
      rcases hcases with ⟨rfl, hc⟩ | hc
      all_goals
        rcases hA with ⟨hA, hA'⟩ | ⟨hA, hA'⟩
        all_goals
          rcases hB with ⟨hB, hB'⟩ | ⟨hB, hB'⟩
          all_goals
            try rw [hA', hB'] at hc
            clear hA' hB'
            go_wp2_with fail
            refine (AVO.out _ HQ.out).mono ?_
            rintro e wq ⟨rfl, hq⟩
            replace HQ := hide (HQ.out.trans (hq.mono HQ.out.size))
            clear hq
            simp only []
            go_wp2_with fail
            refine (AVP.out _ HQ.out).mono ?_
            rintro e wq ⟨rfl, hq⟩
            replace HQ := hide (HQ.out.trans (hq.mono HQ.out.size))
            clear hq
            simp only []
            go_wp2_with fail
            refine (AT0.out _ HQ.out).mono ?_
            rintro e wq ⟨rfl, hq⟩
            replace HQ := hide (HQ.out.trans (hq.mono HQ.out.size))
            clear hq
            simp only []
            go_wp2_with fail
            refine (AD.out _ HQ.out).mono ?_
            rintro e wq ⟨rfl, hq⟩
            replace HQ := hide (HQ.out.trans (hq.mono HQ.out.size))
            clear hq
            simp only []
            go_wp2_with fail
            refine (AT1.out _ HQ.out).mono ?_
            rintro e wq ⟨rfl, hq⟩
            replace HQ := hide (HQ.out.trans (hq.mono HQ.out.size))
            clear hq
            simp only []
            go_wp2_with fail
            refine (AS.out _ HQ.out).mono ?_
            rintro e wq ⟨rfl, hq⟩
            replace HQ := hide (HQ.out.trans (hq.mono HQ.out.size))
            clear hq
            simp only []
            go_wp2
            go_ret
            exact ⟨ret_bool (by simp [*]), HB3.out.trans (HQ.out.mono HB3.out.size)⟩

/-- ClearBest returns true, whatever the lots, the reference and the other price -/
theorem cbest_any (a : Option Addr) (n cap : Nat) (ref o : Int) (l : List Cv.Lot) (T : TypeId) (v1 v6 v7 : Value) (w : World) (he : Er w T v1 v6 v7) (hl : n ≤ 60 → l.length = n ∧ ArgLots w a l) :
    Calls Tryd.prog 7 #[.slice a n cap, .int .i64 ref, .int .i64 o] w fun e w' => e = .returned (.bool true) ∧ Below w.heap.size w w' := by
  by_cases h : (60 : Int) < n
  · exact cbest_out a n cap ref o T v1 v6 v7 w he (.inl h)
  · by_cases h1 : o < 1
    · exact cbest_out a n cap ref o T v1 v6 v7 w he (.inr ⟨h, .inl h1⟩)
    · by_cases h2 : (1000 : Int) < o
      · exact cbest_out a n cap ref o T v1 v6 v7 w he (.inr ⟨h, .inr ⟨h1, h2⟩⟩)
      · obtain ⟨h3, h4⟩ := hl (by omega)
        exact cbest_main a n cap ref o l T v1 v6 v7 w he h3 (by omega) (by omega) (by omega) h4
end Go.Proofs.YtfdapfegidbijaaDoor
