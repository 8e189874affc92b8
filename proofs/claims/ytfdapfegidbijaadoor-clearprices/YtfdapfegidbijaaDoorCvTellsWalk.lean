/- The law CurveTells, for all lots. -/
import Derived.Test.YtfdapfegidbijaaDoorCvFaulted
import Derived.Test.YtfdapfegidbijaaDoorCvPricesOf
import Derived.Test.YtfdapfegidbijaaDoorCvFallsWalk
import Derived.Deep.RegionWith
namespace Go.Proofs.YtfdapfegidbijaaDoor
open Go.RowKit
set_option maxRecDepth 100000

theorem ErrIs.well {w : World} {ad : Nat → Addr} {l : List Cv.Lot} {x : Value} {c at_ : Int} (h : ErrIs w ad l x c at_) (hw : Cv.Well l) : c = 0 := by
  rcases h with ⟨h1, _⟩ | ⟨_, _, h, _⟩ | ⟨_, i, B, j, hi, _, hno, _⟩
  · have := hw.1; omega
  · exact h
  · rw [hw.2 i hi] at hno; cases hno
theorem ErrIs.ill {w : World} {ad : Nat → Addr} {l : List Cv.Lot} {x : Value} {c at_ : Int} (h : ErrIs w ad l x c at_) (hw : ¬ Cv.Well l) : 0 < c := by
  rcases h with ⟨_, _, h, _⟩ | ⟨h, _⟩ | ⟨_, i, B, j, _, _, _, _, h, _⟩
  · omega
  · exact absurd h hw
  · omega
theorem ErrIs.later {w w' : World} {ad : Nat → Addr} {l : List Cv.Lot} {x : Value} {c at_ : Int} (h : ErrIs w ad l x c at_) (hb : Below w.heap.size w w') : ErrIs w' ad l x c at_ := by
  rcases h with h | h | ⟨h1, i, B, j, g1, g2, g3, g4, g5, g6, g7, g8, g9, g10⟩
  · exact .inl h
  · exact .inr (.inl h)
  · exact .inr (.inr ⟨h1, i, B, j, g1, g2, g3, g4, g5, g6, g7, g8, cell_later hb g9, cell_later hb g10⟩)

set_option maxHeartbeats 400000 in
theorem tells_out (a : Option Addr) (n cap : Nat) (p side : Int) (T : TypeId) (v1 v6 v7 : Value) (w : World) (he : Hid (Er w T v1 v6 v7)) (h : (130 : Int) < n) :
    Calls Tryd.prog 3 #[.slice a n cap, .int .i64 p, .int .i64 side] w fun e w' => e = .returned (.bool true) ∧ Below w.heap.size w w' := by
  go_enter Tryd.func3, Tryd.ntmps3
  go_wp2_with fail
  refine (curved_any T v1 v6 v7 w he).mono ?_
  rintro e w1 ⟨rfl, hb1⟩
  have HB1 := hide hb1
  clear hb1
  simp only []
  go_wp2
  go_ret
  exact ⟨rfl, HB1.out⟩

set_option maxHeartbeats 1000000 in
theorem tells_main (a : Option Addr) (n cap : Nat) (p side : Int) (l : List Cv.Lot) (ad : Nat → Addr) (w : World) (hs : Hid (Sent w ad)) (hn : Hid (l.length = n)) (hn' : n ≤ 130) (hl : Hid (ArgLots w a l)) :
    Calls Tryd.prog 3 #[.slice a n cap, .int .i64 p, .int .i64 side] w fun e w' => e = .returned (.bool true) ∧ Below w.heap.size w w' := by
  have h1 : ¬ (130 : Int) < n := by omega
  have HO : Hid (∀ w1, Below w.heap.size w w1 → Calls Tryd.prog 10 #[.slice a n cap] w1 fun e w' => ∃ v, e = .returned v ∧ Lots w' v l ∧ (l = [] → v = .slice none 0 0) ∧ Below w1.heap.size w1 w') := fun w1 hb => by
    have := own_any a cap l w1 (by rw [hn.out]; omega) (by
      rcases hl.out with h | ⟨g, h, hc⟩
      · exact .inl h
      · exact .inr ⟨g, h, fun j u hu => cell_later hb (hc j u hu)⟩)
    rwa [hn.out] at this
  have HCM : Hid (∀ W, Below w.heap.size w W → Came W (.slice a n cap) l) := fun W hb => by
    have := (came_of (cap := cap) hl.out).later hb
    rwa [hn.out] at this
  go_enter Tryd.func3, Tryd.ntmps3
  go_wp2_with fail
  refine (curved_any 127 _ _ _ w (sent_er hs.out)).mono ?_
  rintro e w1 ⟨rfl, hb1⟩
  have HB1 := hide hb1
  clear hb1
  simp only []
  go_wp2_with fail
  refine (HO.out w1 HB1.out).mono ?_
  rintro e w2 ⟨v, rfl, hlv, _, hb2⟩
  have HB2 := hide (HB1.out.trans (hb2.mono HB1.out.size)); have HL2 := hide hlv
  clear hb2 hlv HB1 HO
  simp only []
  go_wp2_with fail
  refine (lotsFault_tells (.slice a n cap) l _ (HCM.out _ HB2.out)).mono ?_
  rintro e w3 ⟨⟨c, at_, rfl, hca⟩, hb3⟩
  have HB3 : Hid (Below w.heap.size w w3) := HB2.out.trans (hb3.mono HB2.out.size)
  have HL3 := hide (HL2.out.later hb3)
  have HCA := hide hca
  clear hb3 hca HL2 HB2
  have HB4 : Hid (Below w.heap.size w (w3.alloc (.cells #[.int .i64 c, .int .i64 at_] 26))) := HB3.out.alloc HB3.out.size _
  have HL4 : Hid (Lots (w3.alloc (.cells #[.int .i64 c, .int .i64 at_] 26)) v l) := HL3.out.later ((Below.refl _ _).alloc (Nat.le_refl _) _)
  have d0 : (w3.alloc (.cells #[.int .i64 c, .int .i64 at_] 26)).cell? ⟨w3.heap.size, 0, none⟩ = some (.int .i64 c) := by simp
  have d1 : (w3.alloc (.cells #[.int .i64 c, .int .i64 at_] 26)).cell? ⟨w3.heap.size, 1, none⟩ = some (.int .i64 at_) := by simp
  have hz : w3.heap.size < (w3.alloc (.cells #[.int .i64 c, .int .i64 at_] 26)).heap.size := by simp
  simp only []
  go_wp2_with fail
  generalize w3.alloc (.cells #[.int .i64 c, .int .i64 at_] 26) = w4 at *
  generalize w3.heap.size = B at *
  have HBd : Hid (Below w4.heap.size w4 w4.drew) := ⟨rfl, rfl, rfl, Nat.le_refl _, fun _ _ => rfl⟩
  have HC4 := hide (check_tells v l ad w4.drew (HL4.out.later HBd.out) ((hs.out.later HB4.out).later HBd.out))
  go_region_with (first
    | (go_at_call 13
       refine HC4.out.mono ?_
       rintro e w5 ⟨⟨x, c', at', rfl, hx⟩, hb5⟩
       obtain ⟨e1, e2⟩ := HCA.out _ _ _ _ _ hx
       rw [e1, e2] at hx
       clear e1 e2
       have HB45 : Hid (Below w4.heap.size w4 w5) := HBd.out.trans hb5
       have q0 := cell_later HB45.out d0
       have q1 := cell_later HB45.out d1
       have HX5 := hide hx
       clear hx hb5)
    | (go_at_call 12
       refine (faulted_tells _ l _ _ ad _ (hs.out.later (HB4.out.trans (HB45.out.mono HB4.out.size))) HX5.out).mono ?_
       rintro e w6 ⟨rfl, hb6⟩
       have HB46 : Hid (Below w4.heap.size w4 w6) := HB45.out.trans (hb6.mono HB45.out.size)
       clear hb6))
  all_goals
    have HB6 : Hid (Below w.heap.size w w6) := HB4.out.trans (HB46.out.mono HB4.out.size)
    have HL6 := hide (HL4.out.later HB46.out)
    have HS6 := hide (hs.out.later HB6.out)
    have r0 := cell_later HB46.out d0
    have HQ : Hid (Below w6.heap.size w6 w6) := Below.refl _ _
    clear d0 d1 q0 q1 HC4 HBd
    by_cases hw : Cv.Well l
    · have HW := hide hw
      have hc0 := HX5.out.well hw
      clear hw
      have TW := hide (tells_of p HL6.out (sent_er HS6.out) HW.out)
      have HRD : Hid (∀ W, Below w6.heap.size w6 W → Calls Tryd.prog 19 #[.slice a n cap, .int .i64 p] W fun e w' => e = .returned (.int .i64 (Cv.demand l p)) ∧ w' = W) := fun W hb => demandOf_any _ l p W (HCM.out W (HB6.out.trans (hb.mono HB6.out.size))) HW.out
      have HRS : Hid (∀ W, Below w6.heap.size w6 W → Calls Tryd.prog 20 #[.slice a n cap, .int .i64 p] W fun e w' => e = .returned (.int .i64 (Cv.supply l p)) ∧ w' = W) := fun W hb => supplyOf_any _ l p W (HCM.out W (HB6.out.trans (hb.mono HB6.out.size))) HW.out
      have HRV : Hid (∀ W, Below w6.heap.size w6 W → Calls Tryd.prog 21 #[.slice a n cap, .int .i64 p] W fun e w' => e = .returned (.int .i64 (min (Cv.demand l p) (Cv.supply l p))) ∧ w' = W) := fun W hb => volumeOf_any _ l p W (HCM.out W (HB6.out.trans (hb.mono HB6.out.size))) HW.out
      have HRB : Hid (∀ sd W, Below w6.heap.size w6 W → Calls Tryd.prog 22 #[.slice a n cap, .int .i64 sd] W fun e w' => e = .returned (.int .i64 (Cv.best sd l)) ∧ w' = W) := fun sd W hb => bestOf_any _ l sd W (HCM.out W (HB6.out.trans (hb.mono HB6.out.size))) HW.out
      obtain ⟨b1, b2⟩ := Cv.demand_range l p HW.out
      obtain ⟨b3, b4⟩ := Cv.supply_range l p HW.out
      generalize Cv.demand l p = d at *
      generalize Cv.supply l p = sp at *
      subst hc0
      go_wp2_with fail
      refine (HRD.out _ HQ.out).mono ?_
      rintro e wy ⟨rfl, rfl⟩
      simp only []
      go_wp2_with fail
      refine (HRS.out _ HQ.out).mono ?_
      rintro e wy ⟨rfl, rfl⟩
      simp only []
      go_wp2_with fail
      refine (TW.out.dem _ HQ.out).mono ?_
      rintro e wy ⟨rfl, hby⟩
      replace HQ := hide (HQ.out.trans (hby.mono HQ.out.size))
      clear hby
      simp only []
      go_wp2_with fail
      refine (TW.out.sup _ HQ.out).mono ?_
      rintro e wy ⟨rfl, hby⟩
      replace HQ := hide (HQ.out.trans (hby.mono HQ.out.size))
      clear hby
      simp only []
      go_wp2_with fail
      refine (TW.out.vol _ HQ.out).mono ?_
      rintro e wy ⟨rfl, hby⟩
      replace HQ := hide (HQ.out.trans (hby.mono HQ.out.size))
      clear hby
      simp only []
      go_wp2_with fail
      refine (HRV.out _ HQ.out).mono ?_
      rintro e wy ⟨rfl, rfl⟩
      simp only []
      go_wp2_with fail
      refine (TW.out.sur _ HQ.out).mono ?_
      rintro e wy ⟨rfl, hby⟩
      replace HQ := hide (HQ.out.trans (hby.mono HQ.out.size))
      clear hby
      simp only []
      go_wp2_with fail
      refine (HRB.out side _ HQ.out).mono ?_
      rintro e wy ⟨rfl, rfl⟩
      simp only []
      have HCR := hide (Cv.cross_ref l HW.out.oks)
      have hside : (side = 0 ∨ side = 1) ∨ (¬ side = 0 ∧ ((side != 0) = true ∧ (side != 1) = true) ∧ Cv.best side l = 0) := by
        by_cases h0 : side = 0
        · exact .inl (.inl h0)
        · by_cases h1 : side = 1
          · exact .inl (.inr h1)
          · exact .inr ⟨h0, ⟨by simpa using h0, by simpa using h1⟩, Cv.best_other l HW.out.oks side h0 h1⟩
      rcases hside with (rfl | rfl) | ⟨hs0, ⟨hs1, hs2⟩, hb0⟩
      all_goals
        go_wp2_with fail
        refine (HRB.out 0 _ HQ.out).mono ?_
        rintro e wy ⟨rfl, rfl⟩
        simp only []
        go_wp2_with fail
        refine (HRB.out 1 _ HQ.out).mono ?_
        rintro e wy ⟨rfl, rfl⟩
        simp only []
        go_wp2_with fail
        refine (prices_any v l 127 _ _ _ _ (HL6.out.later HQ.out) (sent_er (HS6.out.later HQ.out)) HW.out).mono ?_
        rintro e w7 ⟨⟨x1, ps, rfl, hps, hx1⟩, hby⟩
        replace HQ := hide (HQ.out.trans (hby.mono HQ.out.size))
        have HPS := hide hps; have HX1 := hide hx1
        clear hby hps hx1
        simp only []
        go_wp2_with fail
        refine (pricesOf_any _ l _ (HCM.out _ (HB6.out.trans (HQ.out.mono HB6.out.size))) HW.out).mono ?_
        rintro e w8 ⟨⟨x2, ps2, rfl, hps2, hx2⟩, hby⟩
        replace HQ := hide (HQ.out.trans (hby.mono HQ.out.size))
        have HX2 : Hid (Ints w8 x2 ps) := by rw [HPS.out.unique hps2]; exact hx2
        replace HX1 := hide (HX1.out.later hby)
        clear hby hps2 hx2
        simp only []
        go_wp2_with fail
        refine (ints_any x1 x2 ps _ (prices_length HPS.out HW.out) HX1.out HX2.out).mono ?_
        rintro e wy ⟨rfl, hby⟩
        replace HQ := hide (HQ.out.trans (hby.mono HQ.out.size))
        clear hby
        simp only []
        go_wp2_with fail
        refine (best_any v l _ 127 _ _ _ _ (HL6.out.later HQ.out) (sent_er (HS6.out.later HQ.out)) HW.out).mono ?_
        rintro e wy ⟨rfl, hby⟩
        replace HQ := hide (HQ.out.trans (hby.mono HQ.out.size))
        clear hby
        simp only []
        go_wp2_with fail
        refine (cross_any v l 127 _ _ _ _ (HL6.out.later HQ.out) (sent_er (HS6.out.later HQ.out)) HW.out).mono ?_
        rintro e wy ⟨rfl, hby⟩
        replace HQ := hide (HQ.out.trans (hby.mono HQ.out.size))
        clear hby
        rw [HCR.out]
        simp only []
        generalize Cv.best 0 l = k0 at *
        generalize Cv.best 1 l = k1 at *
        go_wp2
        all_goals go_ret
        all_goals exact ⟨ret_bool (by simp [*]), HB6.out.trans (HQ.out.mono HB6.out.size)⟩
    · have HW := hide hw
      have hc0 := HX5.out.ill hw
      clear hw
      have TB : Hid (Tells w6 v p 0 0) := ⟨fun W hb => demand_bad v l p 127 _ _ _ W (HL6.out.later hb) (sent_er (HS6.out.later hb)) HW.out, fun W hb => supply_bad v l p 127 _ _ _ W (HL6.out.later hb) (sent_er (HS6.out.later hb)) HW.out, fun W hb => volume_bad v l p 127 _ _ _ W (HL6.out.later hb) (sent_er (HS6.out.later hb)) HW.out, fun W hb => surplus_bad v l p 127 _ _ _ W (HL6.out.later hb) (sent_er (HS6.out.later hb)) HW.out⟩
      go_wp2_with fail
      refine (TB.out.dem _ HQ.out).mono ?_
      rintro e wy ⟨rfl, hby⟩
      replace HQ := hide (HQ.out.trans (hby.mono HQ.out.size))
      clear hby
      simp only []
      go_wp2_with fail
      refine (TB.out.sup _ HQ.out).mono ?_
      rintro e wy ⟨rfl, hby⟩
      replace HQ := hide (HQ.out.trans (hby.mono HQ.out.size))
      clear hby
      simp only []
      go_wp2_with fail
      refine (TB.out.vol _ HQ.out).mono ?_
      rintro e wy ⟨rfl, hby⟩
      replace HQ := hide (HQ.out.trans (hby.mono HQ.out.size))
      clear hby
      simp only []
      go_wp2_with fail
      refine (TB.out.sur _ HQ.out).mono ?_
      rintro e wy ⟨rfl, hby⟩
      replace HQ := hide (HQ.out.trans (hby.mono HQ.out.size))
      clear hby
      simp only []
      go_wp2_with fail
      refine (prices_bad v l 127 _ _ _ _ (HL6.out.later HQ.out) (sent_er (HS6.out.later HQ.out)) HW.out).mono ?_
      rintro e wy ⟨rfl, hby⟩
      replace HQ := hide (HQ.out.trans (hby.mono HQ.out.size))
      clear hby
      simp only []
      go_wp2
      go_ret
      exact ⟨rfl, HB6.out.trans (HQ.out.mono HB6.out.size)⟩

theorem curveTells_any (a : Option Addr) (n cap : Nat) (p side : Int) (l : List Cv.Lot) (ad : Nat → Addr) (w : World) (hs : Sent w ad) (hl : l.length = n ∧ ArgLots w a l) :
    Calls Tryd.prog 3 #[.slice a n cap, .int .i64 p, .int .i64 side] w fun e w' => e = .returned (.bool true) ∧ Below w.heap.size w w' := by
  by_cases h1 : (130 : Int) < n
  · exact tells_out a n cap p side 127 _ _ _ w (sent_er hs) h1
  · exact tells_main a n cap p side l ad w hs hl.1 (by omega) hl.2
end Go.Proofs.YtfdapfegidbijaaDoor
