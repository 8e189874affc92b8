/- The law BookKeeps, for all acts. -/
import Derived.Test.YtbcinejhipmomaaDoorBkArg
import Derived.Deep.QuietTactic
import Derived.BigQuiet
namespace Go.Proofs.YtbcinejhipmomaaDoor
open Go.RowKit
set_option maxRecDepth 100000

theorem keeps_big (a : Option Addr) (n cap : Nat) (T : TypeId) (v1 v5 v6 v7 : Value) (w : World) (he : Hid (Er4 w T v1 v5 v6 v7)) (hn : 100 < n) :
    Calls Tryd.prog 6 #[.slice a n cap] w fun e w' => e = .returned (.bool true) ∧ Below w.heap.size w w' := by
  have hn' : (100 : Int) < n := by omega
  go_enter Tryd.func6, Tryd.ntmps6
  go_wp2_with fail
  refine (booked_any T v1 v5 v6 v7 w he).mono ?_
  rintro e w1 ⟨rfl, hb1⟩
  have HB1 := hide hb1
  clear hb1
  simp only []
  go_wp2
  go_ret
  exact ⟨rfl, HB1.out⟩

def KInv (w wr : World) (p k : Nat) (c t : Int) (v : Value) (L : List Cv.Lot) : Prop := c = t + Ra.tot L ∧ 0 ≤ t ∧ c ≤ 1000 * k ∧ Bk.Good L ∧ Book wr w.heap.size p v L ∧ Below w.heap.size w wr
def restTo (L : List Cv.Lot) : Nat → Int
  | 0 => 0
  | 1 => Bk.lq (Bk.levs L 0)
  | _ => Ra.tot L
def manyTo (L : List Cv.Lot) : Nat → Int
  | 0 => 0
  | 1 => Bk.lm (Bk.levs L 0)
  | _ => L.length

set_option maxHeartbeats 4000000 in
theorem keeps_some (a : Option Addr) (n cap : Nat) (l : List BAct) (T : TypeId) (v1 v5 v6 v7 : Value) (w : World) (he : Hid (Er4 w T v1 v5 v6 v7)) (hn : Hid (l.length = n)) (hn' : n ≤ 100) (hl : Hid (n = 0 ∨ ∃ g, a = some g ∧ ActsAt w g l)) :
    Calls Tryd.prog 6 #[.slice a n cap] w fun e w' => e = .returned (.bool true) ∧ Below w.heap.size w w' := by
  have hni : ¬ (100 : Int) < n := by omega
  go_enter Tryd.func6, Tryd.ntmps6
  go_wp2_with fail
  refine (booked_any T v1 v5 v6 v7 w he).mono ?_
  rintro e w1 ⟨rfl, hb1⟩
  have HB1 := hide hb1
  clear hb1
  simp only []
  go_wp2_with fail
  refine (newBook_any w1).mono ?_
  rintro e w2 ⟨rfl, rfl⟩
  have HBN : Hid (Book (w1.alloc (.cells #[.slice none 0 0] 92)) w.heap.size w1.heap.size (.slice none 0 0) []) := book_new w1 w.heap.size HB1.out.size
  have HB2 : Hid (Below w.heap.size w (w1.alloc (.cells #[.slice none 0 0] 92))) := HB1.out.alloc HB1.out.size _
  obtain ⟨p, hp⟩ : ∃ p, w1.heap.size = p := ⟨_, rfl⟩
  rw [hp] at HBN ⊢
  have HP := hide hp
  clear hp
  generalize w1.alloc (.cells #[.slice none 0 0] 92) = w2 at *
  simp only []
  go_wp2
  go_loopw [5, 6, 7] (fun came left i wr => ∃ (k : Nat) (c t : Int) (v : Value) (L : List Cv.Lot), k ≤ n ∧ i = .int .i64 k ∧ came = .int .i64 c ∧ left = .int .i64 t ∧ KInv w wr p k c t v L) (fun _ _ i _ => n - (intOf i).toNat)
  case atStart => exact ⟨0, 0, 0, _, [], Nat.zero_le _, rfl, rfl, rfl, by simp [Ra.tot], Int.le_refl _, by simp, Bk.good_nil, HBN.out, HB2.out⟩
  case round =>
    obtain ⟨k, c, t, v, L, hk, rfl, rfl, rfl, hc, ht, hck, hG, hBk, hbl⟩ := hrel
    have HG := hide hG; have HK := hide hBk; have HB := hide hbl; have HC := hide hc
    have htot := Bk.tot_bound hG.oks
    have hlen := hG.len
    have hcb : 0 ≤ c ∧ c ≤ 100000 ∧ 0 ≤ t ∧ t ≤ c := by omega
    clear hG hBk hbl hc htot
    by_cases hlt : k < n
    · have hki : (k : Int) < n := by omega
      obtain ⟨g, rfl, hlg⟩ : ∃ g, a = some g ∧ ActsAt w g l := by
        rcases hl.out with h | h
        · omega
        · exact h
      obtain ⟨c0, c1, c2, c3, c4, c5, c6, c7⟩ := (hlg.later HB.out) k (by rw [hn.out]; exact hlt)
      clear hlg
      generalize anth l k = A at *
      obtain ⟨kd, ⟨xi, xo, xs, xp, xq⟩, id, q⟩ := A
      simp only [] at c0 c1 c2 c3 c4 c5 c6 c7
      have hbA : Below w.heap.size w (wr.alloc (.cells #[.string kd, .int .i64 xi, .int .i64 xo, .int .i64 xs, .int .i64 xp, .int .i64 xq, .int .i64 id, .int .i64 q] 51)) := HB.out.alloc HB.out.size _
      have HBA := hide hbA
      have hnA : Below wr.heap.size wr (wr.alloc (.cells #[.string kd, .int .i64 xi, .int .i64 xo, .int .i64 xs, .int .i64 xp, .int .i64 xq, .int .i64 id, .int .i64 q] 51)) := (Below.refl _ _).alloc (Nat.le_refl _) _
      have HKA := hide (HK.out.later hnA)
      have HEA := hide (he.out.later hbA)
      have HNP : Hid (p < wr.heap.size ∧ ∀ j, v.ownBlock = some j → j < wr.heap.size) := ⟨HK.out.lt, fun j hj => (HK.out.rowLt j hj).2⟩
      have HW8 : Hid ((wr.alloc (.cells #[.string kd, .int .i64 xi, .int .i64 xo, .int .i64 xs, .int .i64 xp, .int .i64 xq, .int .i64 id, .int .i64 q] 51)).heap[wr.heap.size]? = some (.cells #[.string kd, .int .i64 xi, .int .i64 xo, .int .i64 xs, .int .i64 xp, .int .i64 xq, .int .i64 id, .int .i64 q] 51 (0, 0))) := heap_alloc_new _ _
      clear hbA hnA
      cases hka : (kd.toList == [97, 100, 100]) with
      | true =>
        have HA := hide (add_any p w.heap.size v ⟨xi, xo, xs, xp, xq⟩ L T v1 v5 v6 v7 _ HEA.out HKA.out HG.out.len)
        unfold lotV at HA
        simp only [] at HA
        go_wp2_with fail
        refine HA.out.mono ?_
        rintro e w3 ⟨rfl, v3, hk3, hs3⟩
        have HB3 : Hid (Below w.heap.size w w3) := HBA.out.trans ((hs3.below HKA.out _ (Nat.le_refl _)))
        have h8 : w3.cell? ⟨wr.heap.size, 5, none⟩ = some (.int .i64 xq) := hs3.only.cell ((cell_of_row _ _ 5 _ _ _ HW8.out).trans rfl) (fun e => by have := HNP.out.1; simp at e; omega) (fun e => by have := HNP.out.2 _ e.symm; simp at this)
        have HK3 := hide hk3
        have HT3 := hide (Bk.tot_addL L ⟨xi, xo, xs, xp, xq⟩)
        have HG3 := hide (Bk.good_addL HG.out ⟨xi, xo, xs, xp, xq⟩)
        clear hk3 hs3 HA
        by_cases hz : Bk.addC L ⟨xi, xo, xs, xp, xq⟩ = 0
        · rw [errOf_zero T v1 v5 v6 v7 hz]
          have hq := (Cv.ok_bounds (Bk.add_ok hz).1).2.2.2.2
          simp only [] at hq
          have ht3 := HT3.out
          rw [if_pos hz] at ht3
          have HT4 := hide ht3
          clear hz ht3 HT3
          simp only []
          go_wp2
          exact ⟨⟨k + 1, c + xq, t, v3, _, by omega, by go_num, by go_num, rfl, by rw [HT4.out, HC.out]; simp only []; omega, hcb.2.2.1, by omega, HG3.out, HK3.out, HB3.out⟩, by simp [intOf]; omega⟩
        · obtain ⟨y, hy⟩ := errOf_ne T v1 v5 v6 v7 hz
          rw [hy]
          have ht3 := HT3.out
          rw [if_neg hz] at ht3
          have HT4 := hide ht3
          clear hz ht3 HT3 hy
          simp only []
          go_wp2
          exact ⟨⟨k + 1, c, t, v3, _, by omega, by go_num, rfl, rfl, by rw [HT4.out, HC.out]; omega, hcb.2.2.1, by omega, HG3.out, HK3.out, HB3.out⟩, by simp [intOf]; omega⟩
      | false =>
        cases hkc : (kd.toList == [99, 97, 110, 99, 101, 108]) with
        | true =>
          have HA := hide (cancel_any p w.heap.size v id L T v1 v5 v6 v7 _ HEA.out HKA.out HG.out.len)
          have HT3 := hide (Bk.tot_canL L id)
          have HG3 := hide (Bk.good_canL HG.out id)
          have HXQ : Hid (Bk.canC L id = 0 → 0 ≤ (Bk.canX L id).q ∧ (Bk.canX L id).q ≤ 1000) := fun h => by
            have := (Cv.ok_bounds (HG.out.oks _ (Cv.nth_mem (Bk.can_ok h)))).2.2.2.2
            unfold Bk.canX
            rw [if_pos h]
            omega
          have HTB := hide (Bk.tot_bound HG3.out.oks).1
          generalize Bk.canX L id = y at *
          obtain ⟨yi, yo, ys, yp, yq⟩ := y
          unfold lotV at HA
          simp only [] at HA HT3 HXQ
          go_wp2_with fail
          refine HA.out.mono ?_
          rintro e w3 ⟨rfl, v3, hk3, hs3⟩
          have hb3 : Below w.heap.size w w3 := HBA.out.trans ((hs3.below HKA.out _ (Nat.le_refl _)))
          have HB3 : Hid (Below w.heap.size w (w3.alloc (.cells #[.int .i64 yi, .int .i64 yo, .int .i64 ys, .int .i64 yp, .int .i64 yq] 43))) := hb3.alloc hb3.size _
          have HK3 := hide (hk3.later ((Below.refl _ w3).alloc (Nat.le_refl _) (.cells #[.int .i64 yi, .int .i64 yo, .int .i64 ys, .int .i64 yp, .int .i64 yq] 43)))
          clear hk3 hs3 HA hb3
          by_cases hz : Bk.canC L id = 0
          · rw [errOf_zero T v1 v5 v6 v7 hz]
            have hq := HXQ.out hz
            have ht3 := HT3.out
            rw [if_pos hz] at ht3
            have HT4 := hide ht3
            have htb : t + yq ≤ c := by have := HTB.out; have := HC.out; omega
            clear hz ht3 HT3
            simp only []
            go_wp2
            exact ⟨⟨k + 1, c, t + yq, v3, _, by omega, by go_num, rfl, by go_num, by have := HT4.out; have := HC.out; omega, by omega, by omega, HG3.out, HK3.out, HB3.out⟩, by simp [intOf]; omega⟩
          · obtain ⟨y, hy⟩ := errOf_ne T v1 v5 v6 v7 hz
            rw [hy]
            have ht3 := HT3.out
            rw [if_neg hz] at ht3
            have HT4 := hide ht3
            clear hz ht3 HT3 hy
            simp only []
            go_wp2
            exact ⟨⟨k + 1, c, t, v3, _, by omega, by go_num, rfl, rfl, by have := HT4.out; have := HC.out; omega, by omega, by omega, HG3.out, HK3.out, HB3.out⟩, by simp [intOf]; omega⟩
        | false =>
          have HA := hide (take_any p w.heap.size v id q L T v1 v5 v6 v7 _ HEA.out HKA.out HG.out)
          have HT3 := hide (Bk.tot_takL L id q)
          have HG3 := hide (Bk.good_takL HG.out id q)
          have HXQ : Hid (Bk.takC L id q = 0 → 1 ≤ q ∧ q ≤ 1000) := fun h => by
            have h1 := Bk.tak_ok h
            have := (Cv.ok_bounds (HG.out.oks _ (Cv.nth_mem h1.1))).2.2.2.2
            omega
          have HTB := hide (Bk.tot_bound HG3.out.oks).1
          go_wp2_with fail
          refine HA.out.mono ?_
          rintro e w3 ⟨rfl, v3, hk3, hs3⟩
          have HB3 : Hid (Below w.heap.size w w3) := HBA.out.trans ((hs3.below HKA.out _ (Nat.le_refl _)))
          have h8 : w3.cell? ⟨wr.heap.size, 7, none⟩ = some (.int .i64 q) := hs3.only.cell ((cell_of_row _ _ 7 _ _ _ HW8.out).trans rfl) (fun e => by have := HNP.out.1; simp at e; omega) (fun e => by have := HNP.out.2 _ e.symm; simp at this)
          have HK3 := hide hk3
          clear hk3 hs3 HA
          by_cases hz : Bk.takC L id q = 0
          · rw [errOf_zero T v1 v5 v6 v7 hz]
            have hq := HXQ.out hz
            have ht3 := HT3.out
            rw [if_pos hz] at ht3
            have HT4 := hide ht3
            have htb : t + q ≤ c := by have := HTB.out; have := HC.out; omega
            clear hz ht3 HT3
            simp only []
            go_wp2
            exact ⟨⟨k + 1, c, t + q, v3, _, by omega, by go_num, rfl, by go_num, by have := HT4.out; have := HC.out; omega, by omega, by omega, HG3.out, HK3.out, HB3.out⟩, by simp [intOf]; omega⟩
          · obtain ⟨y, hy⟩ := errOf_ne T v1 v5 v6 v7 hz
            rw [hy]
            have ht3 := HT3.out
            rw [if_neg hz] at ht3
            have HT4 := hide ht3
            clear hz ht3 HT3 hy
            simp only []
            go_wp2
            exact ⟨⟨k + 1, c, t, v3, _, by omega, by go_num, rfl, rfl, by have := HT4.out; have := HC.out; omega, by omega, by omega, HG3.out, HK3.out, HB3.out⟩, by simp [intOf]; omega⟩
    · have hki : ¬ (k : Int) < n := by omega
      obtain ⟨wz, hwz⟩ : ∃ wz, wz = wr := ⟨_, rfl⟩
      subst hwz
      have HML0 : Hid ((Bk.levs L 0).length ≤ 60) := by show _ ≤ _; have := Bk.prs_length HG.out.oks 0; simp [Bk.levs]; omega
      have HML1 : Hid ((Bk.levs L 1).length ≤ 60) := by show _ ≤ _; have := Bk.prs_length HG.out.oks 1; simp [Bk.levs]; omega
      have htb := Bk.tot_bound HG.out.oks
      go_wp2
      go_loopw [11, 12, 13] (fun rest many side wx => ∃ s : Nat, s ≤ 2 ∧ side = .int .i64 s ∧ rest = .int .i64 (restTo L s) ∧ many = .int .i64 (manyTo L s) ∧ Below wz.heap.size wz wx) (fun _ _ side _ => 2 - (intOf side).toNat)
      case atStart => exact ⟨0, by omega, rfl, rfl, rfl, Below.refl _ _⟩
      case round =>
        obtain ⟨s, hs, rfl, rfl, rfl, hbx⟩ := hrel
        obtain ⟨wx, hwx⟩ : ∃ wx, wx = wr := ⟨_, rfl⟩
        subst hwx
        have HX := hide hbx
        clear hbx
        match s, hs with
        | 0, _ =>
          have er : restTo L 0 = 0 := rfl
          have em : manyTo L 0 = 0 := rfl
          rw [er, em, show ((0 : Nat) : Int) = 0 from rfl]
          clear er em
          go_wp2_with fail
          refine (levels_any p w.heap.size v 0 L wx (HK.out.later HX.out) HG.out).mono ?_
          rintro e w4 ⟨vl, rfl, hrow, hb4⟩
          have HB4 : Hid (Below wz.heap.size wz w4) := HX.out.trans (hb4.mono HX.out.size)
          have hLT := lq_take HG.out 0
          obtain ⟨LV, hLV⟩ : ∃ LV, Bk.levs L 0 = LV := ⟨_, rfl⟩
          have HFA := hide (levs_falls' hLV)
          have HE1 : Hid (0 + Bk.lq (Bk.levs L 0) = restTo L 1 ∧ 0 + Bk.lm (Bk.levs L 0) = manyTo L 1) := by exact ⟨by show 0 + _ = _; simp [restTo], by show 0 + _ = _; simp [manyTo]⟩
          clear hb4
          rw [hLV] at hrow hLT HE1 HML0
          have HR4 := hide hrow; have HLT := hide hLT
          clear hLT hLV
          rcases hrow.2 with ⟨rfl, h0⟩ | ⟨gl, cl, cur, rfl, _⟩
          · have HL0 : Hid (LV = []) := List.eq_nil_of_length_eq_zero h0
            clear hrow h0
            simp only []
            go_wp2
            refine wp_loop_rounds 1 ?_
            rw [rounds_succ]
            go_wp2
            have he1 := HE1.out
            rw [HL0.out] at he1
            simp [Bk.lq, Bk.lm] at he1
            exact ⟨⟨1, by omega, rfl, by rw [← he1.1], by rw [← he1.2], HB4.out⟩, by simp [intOf]⟩
          · obtain ⟨m, hm⟩ : ∃ m, LV.length = m := ⟨_, rfl⟩
            have HM := hide hm
            have HLA := hide (levAt_of hrow rfl)
            have hm60 : m ≤ 60 := by have := HR4.out; rw [← hm]; exact HML0.out
            rw [hm]
            clear hrow hm
            simp only []
            go_wp2
            go_loopw [11, 12, 15] (fun rest many i wy => ∃ j : Nat, j ≤ m ∧ i = .int .i64 j ∧ rest = .int .i64 (0 + Bk.lq (LV.take j)) ∧ many = .int .i64 (0 + Bk.lm (LV.take j)) ∧ Below w4.heap.size w4 wy) (fun _ _ i _ => m - (intOf i).toNat)
            case atStart => exact ⟨0, Nat.zero_le _, rfl, by simp [Bk.lq], by simp [Bk.lm], Below.refl _ _⟩
            case round =>
              obtain ⟨j, hj, rfl, rfl, rfl, hby⟩ := hrel
              have HY := hide hby
              clear hby
              obtain ⟨wy, hwy⟩ : ∃ wy, wy = wr := ⟨_, rfl⟩
              subst hwy
              by_cases hjm : j < m
              · have hji : (j : Int) < m := by omega
                obtain ⟨d0, d1, d2⟩ := (HLA.out.later HY.out) j (by rw [HM.out]; exact hjm)
                have hb0 := HLT.out j
                have hb1 := HLT.out (j + 1)
                obtain ⟨st1, st2⟩ := lq_step (L := LV) (j := j) (by rw [HM.out]; exact hjm)
                have HS1 := hide st1; have HS2 := hide st2
                rw [st1, st2] at hb1
                clear st1 st2
                match j, hj, hjm, hji, d0, d1, d2, hb0, hb1, HS1, HS2 with
                | 0, hj, hjm, hji, d0, d1, d2, hb0, hb1, HS1, HS2 =>
                  generalize Bk.lq (LV.take 0) = q0 at *
                  generalize Bk.lm (LV.take 0) = n0 at *
                  generalize (LV[0]'(by rw [HM.out]; exact hjm)) = y at *
                  go_wp2
                  go_quiet (fail)
                  go_wp2
                  exact ⟨⟨0 + 1, by omega, by go_num, by rw [HS1.out]; go_num, by rw [HS2.out]; go_num, HY.out.trans ((blw_drew nq).mono HY.out.size)⟩, by simp [intOf]; omega⟩
                | j + 1, hj, hjm, hji, d0, d1, d2, hb0, hb1, HS1, HS2 =>
                  obtain ⟨f0, _, _⟩ := (HLA.out.later HY.out) j (by rw [HM.out]; omega)
                  have hfa := HFA.out j (by rw [HM.out]; exact hjm)
                  generalize Bk.lq (LV.take (j + 1)) = q0 at *
                  generalize Bk.lm (LV.take (j + 1)) = n0 at *
                  generalize (LV[j + 1]'(by rw [HM.out]; exact hjm)) = y at *
                  generalize (LV[j]'(by rw [HM.out]; omega)) = y' at *
                  have hpr : y.pr < y'.pr := by simpa [Cv.better] using hfa
                  have hpd : (decide (y'.pr ≤ y.pr)) = false := decide_eq_false (by omega)
                  have hpn : ¬ y'.pr ≤ y.pr := by omega
                  clear hfa
                  go_wp2
                  go_quiet (fail)
                  go_wp2
                  exact ⟨⟨j + 1 + 1, by omega, by go_num, by rw [HS1.out]; go_num, by rw [HS2.out]; go_num, HY.out.trans ((blw_drew nq).mono HY.out.size)⟩, by simp [intOf]; omega⟩
              · have hji : ¬ (j : Int) < m := by omega
                obtain rfl : j = m := by omega
                have he1 := HE1.out
                rw [List.take_of_length_le (by rw [HM.out]; exact Nat.le_refl _)]
                go_wp2
                exact ⟨⟨1, by omega, rfl, by rw [← he1.1], by rw [← he1.2], HB4.out.trans (HY.out.mono HB4.out.size)⟩, by simp [intOf]⟩
        | 1, _ =>
          have HR0 : Hid (Bk.lq (Bk.levs L 0) = restTo L 1) := rfl
          have HM0 : Hid (Bk.lm (Bk.levs L 0) = manyTo L 1) := rfl
          have hrb : 0 ≤ restTo L 1 ∧ restTo L 1 ≤ 60000 ∧ 0 ≤ manyTo L 1 ∧ manyTo L 1 ≤ 60 := by
            have := lq_take HG.out 0 (Bk.levs L 0).length
            rw [List.take_length] at this
            exact this
          generalize restTo L 1 = r0 at *
          generalize manyTo L 1 = m0 at *
          rw [show ((1 : Nat) : Int) = 1 from rfl]
          go_wp2_with fail
          refine (levels_any p w.heap.size v 1 L wx (HK.out.later HX.out) HG.out).mono ?_
          rintro e w4 ⟨vl, rfl, hrow, hb4⟩
          have HB4 : Hid (Below wz.heap.size wz w4) := HX.out.trans (hb4.mono HX.out.size)
          have hLT := lq_take HG.out 1
          obtain ⟨LV, hLV⟩ : ∃ LV, Bk.levs L 1 = LV := ⟨_, rfl⟩
          have HFA := hide (levs_falls' hLV)
          have HE1 : Hid (r0 + Bk.lq (Bk.levs L 1) = restTo L 2 ∧ m0 + Bk.lm (Bk.levs L 1) = manyTo L 2) := by have h1 := Bk.lq_both HG.out.oks; have h2 := Bk.lm_both HG.out.oks; rw [HR0.out] at h1; rw [HM0.out] at h2; exact ⟨h1, h2⟩
          clear hb4
          rw [hLV] at hrow hLT HE1 HML1
          have HR4 := hide hrow; have HLT := hide hLT
          clear hLT hLV
          rcases hrow.2 with ⟨rfl, h0⟩ | ⟨gl, cl, cur, rfl, _⟩
          · have HL0 : Hid (LV = []) := List.eq_nil_of_length_eq_zero h0
            clear hrow h0
            simp only []
            go_wp2
            refine wp_loop_rounds 1 ?_
            rw [rounds_succ]
            go_wp2
            have he1 := HE1.out
            rw [HL0.out] at he1
            simp [Bk.lq, Bk.lm] at he1
            exact ⟨⟨2, by omega, rfl, by rw [← he1.1], by rw [← he1.2], HB4.out⟩, by simp [intOf]⟩
          · obtain ⟨m, hm⟩ : ∃ m, LV.length = m := ⟨_, rfl⟩
            have HM := hide hm
            have HLA := hide (levAt_of hrow rfl)
            have hm60 : m ≤ 60 := by have := HR4.out; rw [← hm]; exact HML1.out
            rw [hm]
            clear hrow hm
            simp only []
            go_wp2
            go_loopw [11, 12, 15] (fun rest many i wy => ∃ j : Nat, j ≤ m ∧ i = .int .i64 j ∧ rest = .int .i64 (r0 + Bk.lq (LV.take j)) ∧ many = .int .i64 (m0 + Bk.lm (LV.take j)) ∧ Below w4.heap.size w4 wy) (fun _ _ i _ => m - (intOf i).toNat)
            case atStart => exact ⟨0, Nat.zero_le _, rfl, by simp [Bk.lq], by simp [Bk.lm], Below.refl _ _⟩
            case round =>
              obtain ⟨j, hj, rfl, rfl, rfl, hby⟩ := hrel
              have HY := hide hby
              clear hby
              obtain ⟨wy, hwy⟩ : ∃ wy, wy = wr := ⟨_, rfl⟩
              subst hwy
              by_cases hjm : j < m
              · have hji : (j : Int) < m := by omega
                obtain ⟨d0, d1, d2⟩ := (HLA.out.later HY.out) j (by rw [HM.out]; exact hjm)
                have hb0 := HLT.out j
                have hb1 := HLT.out (j + 1)
                obtain ⟨st1, st2⟩ := lq_step (L := LV) (j := j) (by rw [HM.out]; exact hjm)
                have HS1 := hide st1; have HS2 := hide st2
                rw [st1, st2] at hb1
                clear st1 st2
                match j, hj, hjm, hji, d0, d1, d2, hb0, hb1, HS1, HS2 with
                | 0, hj, hjm, hji, d0, d1, d2, hb0, hb1, HS1, HS2 =>
                  generalize Bk.lq (LV.take 0) = q0 at *
                  generalize Bk.lm (LV.take 0) = n0 at *
                  generalize (LV[0]'(by rw [HM.out]; exact hjm)) = y at *
                  go_wp2
                  go_quiet (fail)
                  go_wp2
                  exact ⟨⟨0 + 1, by omega, by go_num, by rw [HS1.out]; go_num, by rw [HS2.out]; go_num, HY.out.trans ((blw_drew nq).mono HY.out.size)⟩, by simp [intOf]; omega⟩
                | j + 1, hj, hjm, hji, d0, d1, d2, hb0, hb1, HS1, HS2 =>
                  obtain ⟨f0, _, _⟩ := (HLA.out.later HY.out) j (by rw [HM.out]; omega)
                  have hfa := HFA.out j (by rw [HM.out]; exact hjm)
                  generalize Bk.lq (LV.take (j + 1)) = q0 at *
                  generalize Bk.lm (LV.take (j + 1)) = n0 at *
                  generalize (LV[j + 1]'(by rw [HM.out]; exact hjm)) = y at *
                  generalize (LV[j]'(by rw [HM.out]; omega)) = y' at *
                  have hpr : y'.pr < y.pr := by simpa [Cv.better] using hfa
                  clear hfa
                  go_wp2
                  go_quiet (fail)
                  go_wp2
                  exact ⟨⟨j + 1 + 1, by omega, by go_num, by rw [HS1.out]; go_num, by rw [HS2.out]; go_num, HY.out.trans ((blw_drew nq).mono HY.out.size)⟩, by simp [intOf]; omega⟩
              · have hji : ¬ (j : Int) < m := by omega
                obtain rfl : j = m := by omega
                have he1 := HE1.out
                rw [List.take_of_length_le (by rw [HM.out]; exact Nat.le_refl _)]
                go_wp2
                exact ⟨⟨2, by omega, rfl, by rw [← he1.1], by rw [← he1.2], HB4.out.trans (HY.out.mono HB4.out.size)⟩, by simp [intOf]⟩
        | 2, _ =>
          have er : restTo L 2 = Ra.tot L := rfl
          have em : manyTo L 2 = L.length := rfl
          rw [er, em]
          clear er em
          have hcc := HC.out
          have HLO := hide (lots_any p w.heap.size v L wx (HK.out.later HX.out) HG.out.len)
          obtain ⟨ln, hln⟩ : ∃ ln, L.length = ln := ⟨_, rfl⟩
          rw [hln] at hlen HLO htb
          rw [hln, show ((2 : Nat) : Int) = 2 from rfl]
          generalize Ra.tot L = tt at *
          have hln60 : (ln : Int) ≤ 60 := by omega
          go_wp2_with fail
          refine HLO.out.mono ?_
          rintro e w4 ⟨vl, rfl, hrow, hb4⟩
          have HB4 : Hid (Below w.heap.size w w4) := HB.out.trans ((HX.out.trans (hb4.mono HX.out.size)).mono HB.out.size)
          clear hb4
          rcases hrow.2 with ⟨rfl, h0⟩ | ⟨gl, cl, cur, rfl, _⟩
          · subst h0
            clear hrow
            simp only []
            go_wp2
            go_ret
            exact ⟨rfl, HB4.out⟩
          · clear hrow
            simp only []
            go_wp2
            go_ret
            exact ⟨rfl, HB4.out⟩
        | s + 3, hs => omega
theorem bookKeeps_any (a : Option Addr) (n cap : Nat) (l : List BAct) (T : TypeId) (v1 v5 v6 v7 : Value) (w : World) (he : Er4 w T v1 v5 v6 v7) (hl : ArgActs w a n l) :
    Calls Tryd.prog 6 #[.slice a n cap] w fun e w' => e = .returned (.bool true) ∧ Below w.heap.size w w' := by
  by_cases hn : 100 < n
  · exact keeps_big a n cap T v1 v5 v6 v7 w he hn
  · exact keeps_some a n cap l T v1 v5 v6 v7 w he hl.1 (by omega) hl.2
end Go.Proofs.YtbcinejhipmomaaDoor
