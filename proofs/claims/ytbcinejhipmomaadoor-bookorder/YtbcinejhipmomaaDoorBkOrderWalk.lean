/- The law BookOrder, for all acts. -/
import Derived.Test.YtbcinejhipmomaaDoorBkArg
import Derived.Test.YtbcinejhipmomaaDoorBkFit
import Derived.Deep.QuietTactic
import Derived.BigQuiet
namespace Go.Proofs.YtbcinejhipmomaaDoor
open Go.RowKit
set_option maxRecDepth 100000

theorem order_big (a : Option Addr) (n cap : Nat) (T : TypeId) (v1 v5 v6 v7 : Value) (w : World) (he : Hid (Er4 w T v1 v5 v6 v7)) (hn : 100 < n) :
    Calls Tryd.prog 7 #[.slice a n cap] w fun e w' => e = .returned (.bool true) ∧ Below w.heap.size w w' := by
  have hn' : (100 : Int) < n := by omega
  go_enter Tryd.func7, Tryd.ntmps7
  go_wp2_with fail
  refine (booked_any T v1 v5 v6 v7 w he).mono ?_
  rintro e w1 ⟨rfl, hb1⟩
  have HB1 := hide hb1
  clear hb1
  simp only []
  go_wp2
  go_ret
  exact ⟨rfl, HB1.out⟩
theorem _root_.Go.World.ownsRow.kept_below {w w' : World} {base : Nat} {e : TypeId} {s : Nat} {v : Value} {n : Nat} {xs : List Value} (h : w.ownsRow base e s v n xs) (hb : Below w.heap.size w w') : w'.ownsRow base e s v n xs :=
  row_only h (Only.of_below hb none none) (fun _ _ => by simp) (fun _ _ => by simp)
/-- a list of lots of the call's own: its slice, and its cells -/
def OwnL (w : World) (v : Value) (l : List Cv.Lot) : Prop := (l = [] ∧ v = .slice none 0 0) ∨ ∃ g cap, v = .slice (some ⟨g, 0, none⟩) l.length cap ∧ LotsAt w g 0 l
theorem lots_of {w : World} {base : Nat} {v : Value} {l : List Cv.Lot} (h : w.ownsRow base 43 5 v l.length (flat l)) : OwnL w v l := by
  rcases h.2 with ⟨e, e2⟩ | ⟨g, cap, cur, e, hg, hgg, hle, _, _, _⟩
  · exact .inl ⟨List.eq_nil_of_length_eq_zero e2, e⟩
  · refine .inr ⟨g, cap, e, lotsAt_of_flat fun j u hu => ?_⟩
    have := World.ownsRow.cells h (g := g) (by rw [e]; rfl) j u hu
    have hp : (⟨g, 0, none⟩ : Addr).add j = ⟨g, j, none⟩ := by unfold Addr.add; split <;> simp_all
    rwa [hp] at this

theorem OwnL.form {w : World} {v : Value} {l : List Cv.Lot} (h : OwnL w v l) : ∃ (a : Option Addr) (c : Nat), v = .slice a l.length c ∧ (l = [] ∨ ∃ g, a = some ⟨g, 0, none⟩ ∧ LotsAt w g 0 l) := by
  rcases h with ⟨rfl, rfl⟩ | ⟨g, cap, rfl, h⟩
  · exact ⟨none, 0, rfl, .inl rfl⟩
  · exact ⟨_, _, rfl, .inr ⟨g, rfl, h⟩⟩
set_option maxHeartbeats 4000000 in
theorem order_some (a : Option Addr) (n cap : Nat) (l : List BAct) (T : TypeId) (v1 v5 v6 v7 : Value) (w : World) (he : Hid (Er4 w T v1 v5 v6 v7)) (hn : Hid (l.length = n)) (hn' : n ≤ 100) (hl : Hid (n = 0 ∨ ∃ g, a = some g ∧ ActsAt w g l)) :
    Calls Tryd.prog 7 #[.slice a n cap] w fun e w' => e = .returned (.bool true) ∧ Below w.heap.size w w' := by
  have hni : ¬ (100 : Int) < n := by omega
  go_enter Tryd.func7, Tryd.ntmps7
  go_wp2_with fail
  refine (booked_any T v1 v5 v6 v7 w he).mono ?_
  rintro e w1 ⟨rfl, hb1⟩
  have HB1 := hide hb1
  clear hb1
  simp only []
  go_wp2_with fail
  refine (newBook_any w1).mono ?_
  rintro e w2 ⟨rfl, rfl⟩
  have HBN : Hid (Book (w1.alloc (.cells #[.slice none 0 0] 92)) w.heap.size w1.heap.size (.slice none 0 0) []) := book_new w1 w.heap.size HB1.out.size
  have HB2 : Hid (Below w.heap.size w (w1.alloc (.cells #[.slice none 0 0] 92))) := HB1.out.alloc HB1.out.size _
  obtain ⟨p, hp⟩ : ∃ p, w1.heap.size = p := ⟨_, rfl⟩
  rw [hp] at HBN ⊢
  clear hp HB1
  generalize w1.alloc (.cells #[.slice none 0 0] 92) = w2 at *
  simp only []
  go_wp2
  go_loopw [5] (fun i wr => ∃ (k : Nat) (v : Value) (L : List Cv.Lot), k ≤ n ∧ i = .int .i64 k ∧ Bk.Good L ∧ Book wr w.heap.size p v L ∧ Below w.heap.size w wr) (fun i _ => n - (intOf i).toNat)
  case atStart => exact ⟨0, _, [], Nat.zero_le _, rfl, Bk.good_nil, HBN.out, HB2.out⟩
  case round =>
    obtain ⟨k, v, L, hk, rfl, hG, hBk, hbl⟩ := hrel
    have HG := hide hG; have HK0 := hide hBk; have HB0 := hide hbl
    clear hG hBk hbl
    obtain ⟨w0, hw0⟩ : ∃ w0, w0 = wr := ⟨_, rfl⟩
    subst hw0
    by_cases hlt : k < n
    · have hki : (k : Int) < n := by omega
      obtain ⟨g, rfl, hlg⟩ : ∃ g, a = some g ∧ ActsAt w g l := by
        rcases hl.out with h | h
        · omega
        · exact h
      have HLG := hide hlg
      clear hlg
      go_wp2_with fail
      refine (lots_any p w.heap.size v L w0 HK0.out HG.out.len).mono ?_
      rintro e wr ⟨vw, rfl, hrw, hbw⟩
      have HB : Hid (Below w.heap.size w wr) := HB0.out.trans (hbw.mono HB0.out.size)
      have HK := hide (HK0.out.later hbw)
      have HW0 := hide hrw
      have HNP0 : Hid (p < w0.heap.size ∧ ∀ j, v.ownBlock = some j → j < w0.heap.size) := ⟨HK0.out.lt, fun j hj => (HK0.out.rowLt j hj).2⟩
      have HWlo : Hid (∀ j, vw.ownBlock = some j → w0.heap.size ≤ j) := fun j hj => (hrw.lt j hj).1
      clear hbw hrw HK0
      obtain ⟨c0, c1, c2, c3, c4, c5, c6, c7⟩ := (HLG.out.later HB.out) k (by rw [hn.out]; exact hlt)
      generalize anth l k = A at *
      obtain ⟨kd, ⟨xi, xo, xs, xp, xq⟩, id, q⟩ := A
      simp only [] at c0 c1 c2 c3 c4 c5 c6 c7
      have hbA : Below w.heap.size w (wr.alloc (.cells #[.string kd, .int .i64 xi, .int .i64 xo, .int .i64 xs, .int .i64 xp, .int .i64 xq, .int .i64 id, .int .i64 q] 51)) := HB.out.alloc HB.out.size _
      have HBA := hide hbA
      have hnA : Below wr.heap.size wr (wr.alloc (.cells #[.string kd, .int .i64 xi, .int .i64 xo, .int .i64 xs, .int .i64 xp, .int .i64 xq, .int .i64 id, .int .i64 q] 51)) := (Below.refl _ _).alloc (Nat.le_refl _) _
      have HKA := hide (HK.out.later hnA)
      have HWA := hide (HW0.out.kept_below hnA)
      have HEA := hide (he.out.later hbA)
      have HNP : Hid (p < w0.heap.size ∧ ∀ j, v.ownBlock = some j → j < w0.heap.size) := HNP0.out
      clear hbA hnA HNP0
      cases hka : (kd.toList == [97, 100, 100]) with
      | true =>
        have HA := hide (add_any p w.heap.size v ⟨xi, xo, xs, xp, xq⟩ L T v1 v5 v6 v7 _ HEA.out HKA.out HG.out.len)
        unfold lotV at HA
        simp only [] at HA
        obtain ⟨kp, gn, hfit⟩ := Bk.fit_addL L ⟨xi, xo, xs, xp, xq⟩
        have HG3 := hide (Bk.good_addL HG.out ⟨xi, xo, xs, xp, xq⟩)
        generalize Bk.addL L ⟨xi, xo, xs, xp, xq⟩ = L3 at *
        have HFIT := hide hfit
        clear hfit
        go_wp2_with fail
        refine HA.out.mono ?_
        rintro e w3 ⟨rfl, v3, hk3, hs3⟩
        clear HA
        generalize errOf T v1 v5 v6 v7 _ = ev
        have HB3 : Hid (Below w.heap.size w w3) := HBA.out.trans ((hs3.below HKA.out _ (Nat.le_refl _)))
        have HW3 : Hid (w3.ownsRow w0.heap.size 43 5 vw L.length (flat L)) := row_only (HWA.out) hs3.only (fun j hj e => by have := (HWlo.out j hj); have := HNP.out.1; simp at e; omega) (fun j hj e => by have := (HWlo.out j hj); have := HNP.out.2 _ e.symm; omega)
        have HK3 := hide hk3
        clear hk3 hs3
        simp only []
        go_wp2_with fail
        refine (lots_any p w.heap.size v3 L3 w3 HK3.out HG3.out.len).mono ?_
        rintro e w4 ⟨vn, rfl, hrn, hb4⟩
        have HB4 : Hid (Below w.heap.size w w4) := HB3.out.trans (hb4.mono HB3.out.size)
        have HK4 := hide (HK3.out.later hb4)
        have HA4 := hide (lots_of (HW3.out.kept_below hb4))
        have HN4 := hide (lots_of hrn)
        clear hb4 hrn HK3 HW3
        simp only []
        obtain ⟨av, cv, rfl, hav⟩ := HA4.out.form
        obtain ⟨an, cn, rfl, han⟩ := HN4.out.form
        have HAV := hide hav; have HAN := hide han
        have hlens := HFIT.out.lens
        have hlast := HFIT.out.last
        have hl60 := HG.out.len
        have hn60 := HG3.out.len
        obtain ⟨na, hna⟩ : ∃ na, L.length = na := ⟨_, rfl⟩
        obtain ⟨nn, hnn⟩ : ∃ nn, L3.length = nn := ⟨_, rfl⟩
        rw [hna] at hlens hlast hl60 ⊢
        rw [hnn] at hlens hlast hn60 ⊢
        have HNA := hide hna; have HNN := hide hnn
        clear hna hnn hav han HA4 HN4
        go_wp2
        go_loopw [9, 10, 11] (fun kk gone i wy => ∃ j : Nat, j ≤ na ∧ i = .int .i64 j ∧ kk = .int .i64 (kp j : Nat) ∧ gone = .int .i64 (gn j : Nat) ∧ Below w4.heap.size w4 wy) (fun _ _ i _ => na - (intOf i).toNat)
        case atStart => exact ⟨0, Nat.zero_le _, rfl, by rw [HFIT.out.start.1]; rfl, by rw [HFIT.out.start.2]; rfl, Below.refl _ _⟩
        case round =>
          obtain ⟨j, hj, rfl, rfl, rfl, hby⟩ := hrel
          obtain ⟨wy, hwy⟩ : ∃ wy, wy = wr := ⟨_, rfl⟩
          subst hwy
          have HY := hide hby
          clear hby
          by_cases hjn : j < na
          · have hji : (j : Int) < na := by omega
            obtain ⟨ga, rfl, hga⟩ : ∃ ga, av = some ⟨ga, 0, none⟩ ∧ LotsAt w4 ga 0 L := by
              rcases HAV.out with h | h
              · have := HNA.out; rw [h] at this; simp at this; omega
              · exact h
            obtain ⟨d0, d1, d2, d3, d4⟩ := (hga.later HY.out) j (by rw [HNA.out]; exact hjn)
            simp only [Nat.zero_add] at d0 d1 d2 d3 d4
            have hlow := HFIT.out.low j
            have hst := HFIT.out.step j (by rw [HNA.out]; exact hjn)
            clear hga
            rw [HNN.out] at hst
            rcases hst with ⟨hkn, hid, hq, hpr, how, hk1, hg1⟩ | ⟨hst, hk1, hg1⟩
            · obtain ⟨gb, rfl, hgb⟩ : ∃ gb, an = some ⟨gb, 0, none⟩ ∧ LotsAt w4 gb 0 L3 := by
                rcases HAN.out with h | h
                · have := HNN.out; rw [h] at this; simp at this; omega
                · exact h
              obtain ⟨b0, b1, b2, b3, b4⟩ := (hgb.later HY.out) (kp j) (by rw [HNN.out]; exact hkn)
              simp only [Nat.zero_add] at b0 b1 b2 b3 b4
              have HK1 := hide hk1; have HG1 := hide hg1
              clear hgb hk1 hg1
              generalize Cv.nth L j = x at *
              generalize Cv.nth L3 (kp j) = y at *
              generalize kp j = kj at *
              generalize gn j = gj at *
              have hkni : (kj : Int) < nn := by omega
              have t1 : (y.id == x.id) = true := by simp [hid]
              have t2 : decide (x.q < y.q) = false := decide_eq_false (by omega)
              have t3 : (y.pr != x.pr) = false := by simp [hpr]
              have t4 : (y.ow != x.ow) = false := by simp [how]
              have t5 : ¬ x.q < y.q := by omega
              clear hid hq hpr how
              go_wp2
              go_quiet (fail)
              go_wp2
              go_quiet (fail)
              go_wp2
              exact ⟨⟨j + 1, by omega, by go_num, by rw [HK1.out]; go_num, by rw [HG1.out], HY.out.trans ((blw_drew _).mono HY.out.size)⟩, by simp [intOf]; omega⟩
            · have HK1 := hide hk1; have HG1 := hide hg1
              clear hk1 hg1
              rcases hst with hle | ⟨hkn, hid⟩
              · generalize Cv.nth L j = x at *
                generalize kp j = kj at *
                generalize gn j = gj at *
                subst hle
                go_wp2
                go_quiet (fail)
                go_wp2
                exact ⟨⟨j + 1, by omega, by go_num, by rw [HK1.out], by rw [HG1.out]; go_num, HY.out.trans ((blw_drew _).mono HY.out.size)⟩, by simp [intOf]; omega⟩
              · obtain ⟨gb, rfl, hgb⟩ : ∃ gb, an = some ⟨gb, 0, none⟩ ∧ LotsAt w4 gb 0 L3 := by
                  rcases HAN.out with h | h
                  · have := HNN.out; rw [h] at this; simp at this; omega
                  · exact h
                obtain ⟨b0, b1, b2, b3, b4⟩ := (hgb.later HY.out) (kp j) (by rw [HNN.out]; exact hkn)
                simp only [Nat.zero_add] at b0 b1 b2 b3 b4
                clear hgb
                generalize Cv.nth L j = x at *
                generalize Cv.nth L3 (kp j) = y at *
                generalize kp j = kj at *
                generalize gn j = gj at *
                have hkni : (kj : Int) < nn := by omega
                have t1 : (y.id == x.id) = false := by simp [hid]
                clear hid
                go_wp2
                go_quiet (fail)
                go_wp2
                exact ⟨⟨j + 1, by omega, by go_num, by rw [HK1.out], by rw [HG1.out]; go_num, HY.out.trans ((blw_drew _).mono HY.out.size)⟩, by simp [intOf]; omega⟩
          · have hji : ¬ (j : Int) < na := by omega
            obtain rfl : j = na := by omega
            obtain ⟨hl1, hl2, hl3⟩ := hlast
            generalize kp j = kj at *
            generalize gn j = gj at *
            go_wp2
            go_loopw [12] (fun i wx => ∃ i' : Nat, i' ≤ kj ∧ i = .int .i64 i' ∧ Below w4.heap.size w4 wx) (fun i _ => kj - (intOf i).toNat)
            case atStart => exact ⟨0, Nat.zero_le _, rfl, HY.out⟩
            case round =>
              obtain ⟨i, hi, rfl, hbx⟩ := hrel
              obtain ⟨wx, hwx⟩ : ∃ wx, wx = wr := ⟨_, rfl⟩
              subst hwx
              have HX := hide hbx
              clear hbx
              by_cases hin : i < kj
              · have hii : (i : Int) < kj := by omega
                obtain ⟨gb, rfl, hgb⟩ : ∃ gb, an = some ⟨gb, 0, none⟩ ∧ LotsAt w4 gb 0 L3 := by
                  rcases HAN.out with h | h
                  · have := HNN.out; rw [h] at this; simp at this; omega
                  · exact h
                obtain ⟨m, rfl⟩ : ∃ m, nn = m + 1 := ⟨nn - 1, by omega⟩
                obtain ⟨b0, _, _, _, _⟩ := (hgb.later HX.out) i (by rw [HNN.out]; omega)
                obtain ⟨e0, _, _, _, _⟩ := (hgb.later HX.out) m (by rw [HNN.out]; omega)
                simp only [Nat.zero_add] at b0 e0
                by_cases him : i = m
                · subst him
                  generalize Cv.nth L3 i = y at *
                  clear hgb
                  go_wp2
                  go_quiet (fail)
                  go_wp2
                  exact ⟨⟨i + 1, by omega, by go_num, HX.out.trans ((blw_drew _).mono HX.out.size)⟩, by simp [intOf]; omega⟩
                · have hne := Bk.once_ne HG3.out.once (i := i) (j := m) (by rw [HNN.out]; omega) (by rw [HNN.out]; omega) him
                  generalize Cv.nth L3 i = y at *
                  generalize Cv.nth L3 m = z at *
                  have t1 : (y.id == z.id) = false := by simp [hne]
                  clear hgb hne
                  go_wp2
                  go_quiet (fail)
                  go_wp2
                  exact ⟨⟨i + 1, by omega, by go_num, HX.out.trans ((blw_drew _).mono HX.out.size)⟩, by simp [intOf]; omega⟩
              · have hii : ¬ (i : Int) < kj := by omega
                go_wp2
                exact ⟨⟨k + 1, v3, L3, by omega, by go_num, HG3.out, HK4.out.later HX.out, HB4.out.trans (HX.out.mono HB4.out.size)⟩, by simp [intOf]; omega⟩
      | false =>
        cases hkc : (kd.toList == [99, 97, 110, 99, 101, 108]) with
        | true =>
          have HA := hide (cancel_any p w.heap.size v id L T v1 v5 v6 v7 _ HEA.out HKA.out HG.out.len)
          obtain ⟨kp, gn, hfit⟩ := Bk.fit_canL HG.out id
          have HG3 := hide (Bk.good_canL HG.out id)
          generalize Bk.canL L id = L3 at *
          have HFIT := hide hfit
          clear hfit
          go_wp2_with fail
          refine HA.out.mono ?_
          rintro e w3 ⟨rfl, v3, hk3, hs3⟩
          clear HA
          generalize errOf T v1 v5 v6 v7 _ = ev
          generalize lotV _ = lv0
          have HB3 : Hid (Below w.heap.size w w3) := HBA.out.trans ((hs3.below HKA.out _ (Nat.le_refl _)))
          have HW3 : Hid (w3.ownsRow w0.heap.size 43 5 vw L.length (flat L)) := row_only (HWA.out) hs3.only (fun j hj e => by have := (HWlo.out j hj); have := HNP.out.1; simp at e; omega) (fun j hj e => by have := (HWlo.out j hj); have := HNP.out.2 _ e.symm; omega)
          have HK3 := hide hk3
          clear hk3 hs3
          simp only []
          go_wp2_with fail
          refine (lots_any p w.heap.size v3 L3 w3 HK3.out HG3.out.len).mono ?_
          rintro e w4 ⟨vn, rfl, hrn, hb4⟩
          have HB4 : Hid (Below w.heap.size w w4) := HB3.out.trans (hb4.mono HB3.out.size)
          have HK4 := hide (HK3.out.later hb4)
          have HA4 := hide (lots_of (HW3.out.kept_below hb4))
          have HN4 := hide (lots_of hrn)
          clear hb4 hrn HK3 HW3
          simp only []
          obtain ⟨av, cv, rfl, hav⟩ := HA4.out.form
          obtain ⟨an, cn, rfl, han⟩ := HN4.out.form
          have HAV := hide hav; have HAN := hide han
          have hlens := HFIT.out.lens
          have hlast := HFIT.out.last
          have hl60 := HG.out.len
          have hn60 := HG3.out.len
          obtain ⟨na, hna⟩ : ∃ na, L.length = na := ⟨_, rfl⟩
          obtain ⟨nn, hnn⟩ : ∃ nn, L3.length = nn := ⟨_, rfl⟩
          rw [hna] at hlens hlast hl60 ⊢
          rw [hnn] at hlens hlast hn60 ⊢
          have HNA := hide hna; have HNN := hide hnn
          clear hna hnn hav han HA4 HN4
          go_wp2
          go_loopw [9, 10, 11] (fun kk gone i wy => ∃ j : Nat, j ≤ na ∧ i = .int .i64 j ∧ kk = .int .i64 (kp j : Nat) ∧ gone = .int .i64 (gn j : Nat) ∧ Below w4.heap.size w4 wy) (fun _ _ i _ => na - (intOf i).toNat)
          case atStart => exact ⟨0, Nat.zero_le _, rfl, by rw [HFIT.out.start.1]; rfl, by rw [HFIT.out.start.2]; rfl, Below.refl _ _⟩
          case round =>
            obtain ⟨j, hj, rfl, rfl, rfl, hby⟩ := hrel
            obtain ⟨wy, hwy⟩ : ∃ wy, wy = wr := ⟨_, rfl⟩
            subst hwy
            have HY := hide hby
            clear hby
            by_cases hjn : j < na
            · have hji : (j : Int) < na := by omega
              obtain ⟨ga, rfl, hga⟩ : ∃ ga, av = some ⟨ga, 0, none⟩ ∧ LotsAt w4 ga 0 L := by
                rcases HAV.out with h | h
                · have := HNA.out; rw [h] at this; simp at this; omega
                · exact h
              obtain ⟨d0, d1, d2, d3, d4⟩ := (hga.later HY.out) j (by rw [HNA.out]; exact hjn)
              simp only [Nat.zero_add] at d0 d1 d2 d3 d4
              have hlow := HFIT.out.low j
              have hst := HFIT.out.step j (by rw [HNA.out]; exact hjn)
              clear hga
              rw [HNN.out] at hst
              rcases hst with ⟨hkn, hid, hq, hpr, how, hk1, hg1⟩ | ⟨hst, hk1, hg1⟩
              · obtain ⟨gb, rfl, hgb⟩ : ∃ gb, an = some ⟨gb, 0, none⟩ ∧ LotsAt w4 gb 0 L3 := by
                  rcases HAN.out with h | h
                  · have := HNN.out; rw [h] at this; simp at this; omega
                  · exact h
                obtain ⟨b0, b1, b2, b3, b4⟩ := (hgb.later HY.out) (kp j) (by rw [HNN.out]; exact hkn)
                simp only [Nat.zero_add] at b0 b1 b2 b3 b4
                have HK1 := hide hk1; have HG1 := hide hg1
                clear hgb hk1 hg1
                generalize Cv.nth L j = x at *
                generalize Cv.nth L3 (kp j) = y at *
                generalize kp j = kj at *
                generalize gn j = gj at *
                have hkni : (kj : Int) < nn := by omega
                have t1 : (y.id == x.id) = true := by simp [hid]
                have t2 : decide (x.q < y.q) = false := decide_eq_false (by omega)
                have t3 : (y.pr != x.pr) = false := by simp [hpr]
                have t4 : (y.ow != x.ow) = false := by simp [how]
                have t5 : ¬ x.q < y.q := by omega
                clear hid hq hpr how
                go_wp2
                go_quiet (fail)
                go_wp2
                go_quiet (fail)
                go_wp2
                exact ⟨⟨j + 1, by omega, by go_num, by rw [HK1.out]; go_num, by rw [HG1.out], HY.out.trans ((blw_drew _).mono HY.out.size)⟩, by simp [intOf]; omega⟩
              · have HK1 := hide hk1; have HG1 := hide hg1
                clear hk1 hg1
                rcases hst with hle | ⟨hkn, hid⟩
                · generalize Cv.nth L j = x at *
                  generalize kp j = kj at *
                  generalize gn j = gj at *
                  subst hle
                  go_wp2
                  go_quiet (fail)
                  go_wp2
                  exact ⟨⟨j + 1, by omega, by go_num, by rw [HK1.out], by rw [HG1.out]; go_num, HY.out.trans ((blw_drew _).mono HY.out.size)⟩, by simp [intOf]; omega⟩
                · obtain ⟨gb, rfl, hgb⟩ : ∃ gb, an = some ⟨gb, 0, none⟩ ∧ LotsAt w4 gb 0 L3 := by
                    rcases HAN.out with h | h
                    · have := HNN.out; rw [h] at this; simp at this; omega
                    · exact h
                  obtain ⟨b0, b1, b2, b3, b4⟩ := (hgb.later HY.out) (kp j) (by rw [HNN.out]; exact hkn)
                  simp only [Nat.zero_add] at b0 b1 b2 b3 b4
                  clear hgb
                  generalize Cv.nth L j = x at *
                  generalize Cv.nth L3 (kp j) = y at *
                  generalize kp j = kj at *
                  generalize gn j = gj at *
                  have hkni : (kj : Int) < nn := by omega
                  have t1 : (y.id == x.id) = false := by simp [hid]
                  clear hid
                  go_wp2
                  go_quiet (fail)
                  go_wp2
                  exact ⟨⟨j + 1, by omega, by go_num, by rw [HK1.out], by rw [HG1.out]; go_num, HY.out.trans ((blw_drew _).mono HY.out.size)⟩, by simp [intOf]; omega⟩
            · have hji : ¬ (j : Int) < na := by omega
              obtain rfl : j = na := by omega
              obtain ⟨hl1, hl2, hl3⟩ := hlast
              generalize kp j = kj at *
              generalize gn j = gj at *
              go_wp2
              go_loopw [12] (fun i wx => ∃ i' : Nat, i' ≤ kj ∧ i = .int .i64 i' ∧ Below w4.heap.size w4 wx) (fun i _ => kj - (intOf i).toNat)
              case atStart => exact ⟨0, Nat.zero_le _, rfl, HY.out⟩
              case round =>
                obtain ⟨i, hi, rfl, hbx⟩ := hrel
                obtain ⟨wx, hwx⟩ : ∃ wx, wx = wr := ⟨_, rfl⟩
                subst hwx
                have HX := hide hbx
                clear hbx
                by_cases hin : i < kj
                · have hii : (i : Int) < kj := by omega
                  obtain ⟨gb, rfl, hgb⟩ : ∃ gb, an = some ⟨gb, 0, none⟩ ∧ LotsAt w4 gb 0 L3 := by
                    rcases HAN.out with h | h
                    · have := HNN.out; rw [h] at this; simp at this; omega
                    · exact h
                  obtain ⟨m, rfl⟩ : ∃ m, nn = m + 1 := ⟨nn - 1, by omega⟩
                  obtain ⟨b0, _, _, _, _⟩ := (hgb.later HX.out) i (by rw [HNN.out]; omega)
                  obtain ⟨e0, _, _, _, _⟩ := (hgb.later HX.out) m (by rw [HNN.out]; omega)
                  simp only [Nat.zero_add] at b0 e0
                  by_cases him : i = m
                  · subst him
                    generalize Cv.nth L3 i = y at *
                    clear hgb
                    go_wp2
                    go_quiet (fail)
                    go_wp2
                    exact ⟨⟨i + 1, by omega, by go_num, HX.out.trans ((blw_drew _).mono HX.out.size)⟩, by simp [intOf]; omega⟩
                  · have hne := Bk.once_ne HG3.out.once (i := i) (j := m) (by rw [HNN.out]; omega) (by rw [HNN.out]; omega) him
                    generalize Cv.nth L3 i = y at *
                    generalize Cv.nth L3 m = z at *
                    have t1 : (y.id == z.id) = false := by simp [hne]
                    clear hgb hne
                    go_wp2
                    go_quiet (fail)
                    go_wp2
                    exact ⟨⟨i + 1, by omega, by go_num, HX.out.trans ((blw_drew _).mono HX.out.size)⟩, by simp [intOf]; omega⟩
                · have hii : ¬ (i : Int) < kj := by omega
                  go_wp2
                  exact ⟨⟨k + 1, v3, L3, by omega, by go_num, HG3.out, HK4.out.later HX.out, HB4.out.trans (HX.out.mono HB4.out.size)⟩, by simp [intOf]; omega⟩
        | false =>
          have HA := hide (take_any p w.heap.size v id q L T v1 v5 v6 v7 _ HEA.out HKA.out HG.out)
          obtain ⟨kp, gn, hfit⟩ := Bk.fit_takL HG.out id q
          have HG3 := hide (Bk.good_takL HG.out id q)
          generalize Bk.takL L id q = L3 at *
          have HFIT := hide hfit
          clear hfit
          go_wp2_with fail
          refine HA.out.mono ?_
          rintro e w3 ⟨rfl, v3, hk3, hs3⟩
          clear HA
          generalize errOf T v1 v5 v6 v7 _ = ev
          have HB3 : Hid (Below w.heap.size w w3) := HBA.out.trans ((hs3.below HKA.out _ (Nat.le_refl _)))
          have HW3 : Hid (w3.ownsRow w0.heap.size 43 5 vw L.length (flat L)) := row_only (HWA.out) hs3.only (fun j hj e => by have := (HWlo.out j hj); have := HNP.out.1; simp at e; omega) (fun j hj e => by have := (HWlo.out j hj); have := HNP.out.2 _ e.symm; omega)
          have HK3 := hide hk3
          clear hk3 hs3
          simp only []
          go_wp2_with fail
          refine (lots_any p w.heap.size v3 L3 w3 HK3.out HG3.out.len).mono ?_
          rintro e w4 ⟨vn, rfl, hrn, hb4⟩
          have HB4 : Hid (Below w.heap.size w w4) := HB3.out.trans (hb4.mono HB3.out.size)
          have HK4 := hide (HK3.out.later hb4)
          have HA4 := hide (lots_of (HW3.out.kept_below hb4))
          have HN4 := hide (lots_of hrn)
          clear hb4 hrn HK3 HW3
          simp only []
          obtain ⟨av, cv, rfl, hav⟩ := HA4.out.form
          obtain ⟨an, cn, rfl, han⟩ := HN4.out.form
          have HAV := hide hav; have HAN := hide han
          have hlens := HFIT.out.lens
          have hlast := HFIT.out.last
          have hl60 := HG.out.len
          have hn60 := HG3.out.len
          obtain ⟨na, hna⟩ : ∃ na, L.length = na := ⟨_, rfl⟩
          obtain ⟨nn, hnn⟩ : ∃ nn, L3.length = nn := ⟨_, rfl⟩
          rw [hna] at hlens hlast hl60 ⊢
          rw [hnn] at hlens hlast hn60 ⊢
          have HNA := hide hna; have HNN := hide hnn
          clear hna hnn hav han HA4 HN4
          go_wp2
          go_loopw [9, 10, 11] (fun kk gone i wy => ∃ j : Nat, j ≤ na ∧ i = .int .i64 j ∧ kk = .int .i64 (kp j : Nat) ∧ gone = .int .i64 (gn j : Nat) ∧ Below w4.heap.size w4 wy) (fun _ _ i _ => na - (intOf i).toNat)
          case atStart => exact ⟨0, Nat.zero_le _, rfl, by rw [HFIT.out.start.1]; rfl, by rw [HFIT.out.start.2]; rfl, Below.refl _ _⟩
          case round =>
            obtain ⟨j, hj, rfl, rfl, rfl, hby⟩ := hrel
            obtain ⟨wy, hwy⟩ : ∃ wy, wy = wr := ⟨_, rfl⟩
            subst hwy
            have HY := hide hby
            clear hby
            by_cases hjn : j < na
            · have hji : (j : Int) < na := by omega
              obtain ⟨ga, rfl, hga⟩ : ∃ ga, av = some ⟨ga, 0, none⟩ ∧ LotsAt w4 ga 0 L := by
                rcases HAV.out with h | h
                · have := HNA.out; rw [h] at this; simp at this; omega
                · exact h
              obtain ⟨d0, d1, d2, d3, d4⟩ := (hga.later HY.out) j (by rw [HNA.out]; exact hjn)
              simp only [Nat.zero_add] at d0 d1 d2 d3 d4
              have hlow := HFIT.out.low j
              have hst := HFIT.out.step j (by rw [HNA.out]; exact hjn)
              clear hga
              rw [HNN.out] at hst
              rcases hst with ⟨hkn, hid, hq, hpr, how, hk1, hg1⟩ | ⟨hst, hk1, hg1⟩
              · obtain ⟨gb, rfl, hgb⟩ : ∃ gb, an = some ⟨gb, 0, none⟩ ∧ LotsAt w4 gb 0 L3 := by
                  rcases HAN.out with h | h
                  · have := HNN.out; rw [h] at this; simp at this; omega
                  · exact h
                obtain ⟨b0, b1, b2, b3, b4⟩ := (hgb.later HY.out) (kp j) (by rw [HNN.out]; exact hkn)
                simp only [Nat.zero_add] at b0 b1 b2 b3 b4
                have HK1 := hide hk1; have HG1 := hide hg1
                clear hgb hk1 hg1
                generalize Cv.nth L j = x at *
                generalize Cv.nth L3 (kp j) = y at *
                generalize kp j = kj at *
                generalize gn j = gj at *
                have hkni : (kj : Int) < nn := by omega
                have t1 : (y.id == x.id) = true := by simp [hid]
                have t2 : decide (x.q < y.q) = false := decide_eq_false (by omega)
                have t3 : (y.pr != x.pr) = false := by simp [hpr]
                have t4 : (y.ow != x.ow) = false := by simp [how]
                have t5 : ¬ x.q < y.q := by omega
                clear hid hq hpr how
                go_wp2
                go_quiet (fail)
                go_wp2
                go_quiet (fail)
                go_wp2
                exact ⟨⟨j + 1, by omega, by go_num, by rw [HK1.out]; go_num, by rw [HG1.out], HY.out.trans ((blw_drew _).mono HY.out.size)⟩, by simp [intOf]; omega⟩
              · have HK1 := hide hk1; have HG1 := hide hg1
                clear hk1 hg1
                rcases hst with hle | ⟨hkn, hid⟩
                · generalize Cv.nth L j = x at *
                  generalize kp j = kj at *
                  generalize gn j = gj at *
                  subst hle
                  go_wp2
                  go_quiet (fail)
                  go_wp2
                  exact ⟨⟨j + 1, by omega, by go_num, by rw [HK1.out], by rw [HG1.out]; go_num, HY.out.trans ((blw_drew _).mono HY.out.size)⟩, by simp [intOf]; omega⟩
                · obtain ⟨gb, rfl, hgb⟩ : ∃ gb, an = some ⟨gb, 0, none⟩ ∧ LotsAt w4 gb 0 L3 := by
                    rcases HAN.out with h | h
                    · have := HNN.out; rw [h] at this; simp at this; omega
                    · exact h
                  obtain ⟨b0, b1, b2, b3, b4⟩ := (hgb.later HY.out) (kp j) (by rw [HNN.out]; exact hkn)
                  simp only [Nat.zero_add] at b0 b1 b2 b3 b4
                  clear hgb
                  generalize Cv.nth L j = x at *
                  generalize Cv.nth L3 (kp j) = y at *
                  generalize kp j = kj at *
                  generalize gn j = gj at *
                  have hkni : (kj : Int) < nn := by omega
                  have t1 : (y.id == x.id) = false := by simp [hid]
                  clear hid
                  go_wp2
                  go_quiet (fail)
                  go_wp2
                  exact ⟨⟨j + 1, by omega, by go_num, by rw [HK1.out], by rw [HG1.out]; go_num, HY.out.trans ((blw_drew _).mono HY.out.size)⟩, by simp [intOf]; omega⟩
            · have hji : ¬ (j : Int) < na := by omega
              obtain rfl : j = na := by omega
              obtain ⟨hl1, hl2, hl3⟩ := hlast
              generalize kp j = kj at *
              generalize gn j = gj at *
              go_wp2
              go_loopw [12] (fun i wx => ∃ i' : Nat, i' ≤ kj ∧ i = .int .i64 i' ∧ Below w4.heap.size w4 wx) (fun i _ => kj - (intOf i).toNat)
              case atStart => exact ⟨0, Nat.zero_le _, rfl, HY.out⟩
              case round =>
                obtain ⟨i, hi, rfl, hbx⟩ := hrel
                obtain ⟨wx, hwx⟩ : ∃ wx, wx = wr := ⟨_, rfl⟩
                subst hwx
                have HX := hide hbx
                clear hbx
                by_cases hin : i < kj
                · have hii : (i : Int) < kj := by omega
                  obtain ⟨gb, rfl, hgb⟩ : ∃ gb, an = some ⟨gb, 0, none⟩ ∧ LotsAt w4 gb 0 L3 := by
                    rcases HAN.out with h | h
                    · have := HNN.out; rw [h] at this; simp at this; omega
                    · exact h
                  obtain ⟨m, rfl⟩ : ∃ m, nn = m + 1 := ⟨nn - 1, by omega⟩
                  obtain ⟨b0, _, _, _, _⟩ := (hgb.later HX.out) i (by rw [HNN.out]; omega)
                  obtain ⟨e0, _, _, _, _⟩ := (hgb.later HX.out) m (by rw [HNN.out]; omega)
                  simp only [Nat.zero_add] at b0 e0
                  by_cases him : i = m
                  · subst him
                    generalize Cv.nth L3 i = y at *
                    clear hgb
                    go_wp2
                    go_quiet (fail)
                    go_wp2
                    exact ⟨⟨i + 1, by omega, by go_num, HX.out.trans ((blw_drew _).mono HX.out.size)⟩, by simp [intOf]; omega⟩
                  · have hne := Bk.once_ne HG3.out.once (i := i) (j := m) (by rw [HNN.out]; omega) (by rw [HNN.out]; omega) him
                    generalize Cv.nth L3 i = y at *
                    generalize Cv.nth L3 m = z at *
                    have t1 : (y.id == z.id) = false := by simp [hne]
                    clear hgb hne
                    go_wp2
                    go_quiet (fail)
                    go_wp2
                    exact ⟨⟨i + 1, by omega, by go_num, HX.out.trans ((blw_drew _).mono HX.out.size)⟩, by simp [intOf]; omega⟩
                · have hii : ¬ (i : Int) < kj := by omega
                  go_wp2
                  exact ⟨⟨k + 1, v3, L3, by omega, by go_num, HG3.out, HK4.out.later HX.out, HB4.out.trans (HX.out.mono HB4.out.size)⟩, by simp [intOf]; omega⟩
    · have hki : ¬ (k : Int) < n := by omega
      go_wp2
      go_ret
      exact ⟨rfl, HB0.out⟩
theorem bookOrder_any (a : Option Addr) (n cap : Nat) (l : List BAct) (T : TypeId) (v1 v5 v6 v7 : Value) (w : World) (he : Er4 w T v1 v5 v6 v7) (hl : ArgActs w a n l) :
    Calls Tryd.prog 7 #[.slice a n cap] w fun e w' => e = .returned (.bool true) ∧ Below w.heap.size w w' := by
  by_cases hn : 100 < n
  · exact order_big a n cap T v1 v5 v6 v7 w he hn
  · exact order_some a n cap l T v1 v5 v6 v7 w he hl.1 (by omega) hl.2
end Go.Proofs.YtbcinejhipmomaaDoor
