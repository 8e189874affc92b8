/- The law ClearPrices, for all lots. -/
import Derived.Test.YtfdapfegidbijaaDoorClPricesRef
namespace Go.Proofs.YtfdapfegidbijaaDoor
open Go.RowKit
set_option maxRecDepth 100000

set_option maxHeartbeats 4000000 in
theorem cprices_fine (a : Option Addr) (n cap : Nat) (ref p side : Int) (l : List Cv.Lot) (ad : Nat → Addr) (w : World) (hs : Hid (Sent w ad)) (hn : Hid (l.length = n)) (hn' : n ≤ 130) (hl : Hid (ArgLots w a l)) (hok : Hid (Cv.Well l)) (hr : Wi.withinB ref 1 1000 = true) :
    Calls Tryd.prog 6 #[.slice a n cap, .int .i64 ref, .int .i64 p, .int .i64 side] w fun e w' => e = .returned (.bool true) ∧ Below w.heap.size w w' := by
  have h1 : ¬ (130 : Int) < n := by omega
  have HO : Hid (∀ w1, Below w.heap.size w w1 → Calls Tryd.prog 10 #[.slice a n cap] w1 fun e w' => ∃ v, e = .returned v ∧ Lots w' v l ∧ (l = [] → v = .slice none 0 0) ∧ Below w1.heap.size w1 w') := fun w1 hb => by
    have := own_any a cap l w1 (by rw [hn.out]; omega) (by
      rcases hl.out with h | ⟨g, h, hc⟩
      · exact .inl h
      · exact .inr ⟨g, h, fun j u hu => cell_later hb (hc j u hu)⟩)
    rwa [hn.out] at this
  have HCM : Hid (∀ W, Below w.heap.size w W → Came W (.slice a n cap) l) := fun W hb => by
    have := (came_of (cap := cap) hl.out).later hb
    rwa [hn.out] at this
  go_enter Tryd.func6, Tryd.ntmps6
  go_wp2_with fail
  refine (cleared_any 127 _ _ _ w (sent_er hs.out)).mono ?_
  rintro e w1 ⟨rfl, hb1⟩
  have HB1 := hide hb1
  clear hb1
  simp only []
  go_wp2_with fail
  refine (HO.out w1 HB1.out).mono ?_
  rintro e w2 ⟨v, rfl, hlv, _, hb2⟩
  have HB2 := hide (HB1.out.trans (hb2.mono HB1.out.size)); have HL2 := hide hlv
  have HS2 := hide (hs.out.later HB2.out)
  clear hb2 hlv HB1 HO
  simp only []
  go_wp2_with fail
  refine (price_any v l ref 127 _ _ _ w2 HL2.out (sent_er HS2.out) hok.out hr).mono ?_
  rintro e w3 ⟨⟨pr, vol, rfl, hwon⟩, hb3⟩
  have HB3 := hide (HB2.out.trans (hb3.mono HB2.out.size)); have HL3 := hide (HL2.out.later hb3); have HWon := hide hwon
  clear hb3 hwon HB2 HL2 HS2
  have href : 1 ≤ ref ∧ ref ≤ 1000 := by simpa [Wi.withinB] using hr
  obtain ⟨hr1, hr2⟩ := href
  clear hr
  simp only []
  go_wp2_with fail
  refine (lotsFault_tells (.slice a n cap) l w3 (HCM.out _ HB3.out)).mono ?_
  rintro e w4 ⟨⟨c', at', rfl, hca⟩, hb4⟩
  obtain ⟨rfl, rfl⟩ := hca w3 ad .nilIface 0 (-1) (.inr (.inl ⟨hok.out, rfl, rfl, rfl⟩))
  have HB4 := hide (HB3.out.trans (hb4.mono HB3.out.size)); have HL4 := hide (HL3.out.later hb4)
  clear hb4 hca HB3 HL3
  have HBa : Hid (Below w4.heap.size w4 (w4.alloc (.cells #[.int .i64 0, .int .i64 (-1)] 26))) := (Below.refl _ _).alloc (Nat.le_refl _) _
  have HFl := hide (Flt.new w4 0 (-1))
  have HB5 : Hid (Below w.heap.size w (w4.alloc (.cells #[.int .i64 0, .int .i64 (-1)] 26))) := HB4.out.trans (HBa.out.mono HB4.out.size)
  have HFa := hide (faulted_of .nilIface 0 (-1) (w4.alloc (.cells #[.int .i64 0, .int .i64 (-1)] 26)) (fun W hb => (code_nil W).mono (by rintro e w' ⟨rfl, rfl⟩; exact ⟨rfl, Below.refl _ _⟩)))
  simp only []
  go_wp2_with fail
  refine HFa.out.mono ?_
  rintro e w5 ⟨rfl, hb5⟩
  have HF5 := hide (HFl.out.later hb5 (by simp))
  have HL5 := hide (HL4.out.later (HBa.out.trans (hb5.mono HBa.out.size)))
  have HB5' := hide (HB5.out.trans (hb5.mono HB5.out.size))
  clear hb5 HFa HFl HBa HB4 HL4 HB5
  obtain ⟨d0, d1⟩ := HF5.out.cells
  simp only []
  go_wp2_with fail
  refine (priceOf_any (.slice a n cap) l ref w5 (HCM.out _ HB5'.out) hok.out hr1 hr2).mono ?_
  rintro e w6 ⟨⟨pr2, vol2, rfl, hwon⟩, hb6⟩
  obtain ⟨rfl, rfl⟩ := hwon.unique HWon.out
  have HL6 := hide (HL5.out.later hb6)
  have HBB := hide (HB5'.out.trans (hb6.mono HB5'.out.size))
  clear hb6 hwon HWon d0 d1 HF5 HL5 HB5'
  simp only []
  go_wp2_with fail
  refine (demandOf_any (.slice a n cap) l p _ (HCM.out _ HBB.out) hok.out).mono ?_
  rintro e wq ⟨rfl, rfl⟩
  simp only []
  go_wp2_with fail
  refine (supplyOf_any (.slice a n cap) l p _ (HCM.out _ HBB.out) hok.out).mono ?_
  rintro e wq ⟨rfl, rfl⟩
  simp only []
  have HSh := hide (short_any v l p 127 _ _ _ wq HL6.out (sent_er (hs.out.later HBB.out)) hok.out)
  have HSt : Hid (∀ W, Below wq.heap.size wq W → Calls Tryd.prog 32 #[v, .int .i64 side, .int .i64 p] W fun e w' => e = .returned (.int .i64 (Cv.strict l side p)) ∧ Below W.heap.size W w') := fun W hb => strict_any v l side p 127 _ _ _ W (HL6.out.later hb) (sent_er ((hs.out.later HBB.out).later hb)) hok.out
  rw [Cv.strict_ref l hok.out.oks side p] at HSt
  have HG : Hid (0 < n → ∃ g, a = some g ∧ ArgAt wq g l) := fun h => (HCM.out _ HBB.out).some h
  have HR : Hid (∀ k, 0 ≤ Cv.sumIf (Cv.stR side p) (l.take k) ∧ Cv.sumIf (Cv.stR side p) (l.take k) ≤ 120000) := fun k => by
    have := Cv.sumIf_bounds (Cv.stR side p) (l.take k) (hok.out.oks.take k)
    have h2 : (l.take k).length ≤ 120 := by rw [List.length_take]; have := hok.out.1; omega
    omega
  generalize Cv.demand l p = dm at *
  generalize Cv.supply l p = sp at *
  have hcase : (dm < sp ∧ ¬ sp < dm ∧ shortOf dm sp = 0) ∨ (¬ dm < sp ∧ sp < dm ∧ shortOf dm sp = 1) ∨ (¬ dm < sp ∧ ¬ sp < dm ∧ shortOf dm sp = -1) := by
    unfold shortOf
    by_cases x1 : dm < sp
    · exact .inl ⟨x1, by omega, by rw [if_pos x1]⟩
    · by_cases x2 : sp < dm
      · exact .inr (.inl ⟨x1, x2, by rw [if_neg x1, if_pos x2]⟩)
      · exact .inr (.inr ⟨x1, x2, by rw [if_neg x1, if_neg x2]⟩)
  rcases hcase with ⟨y1, y2, y3⟩ | ⟨y1, y2, y3⟩ | ⟨y1, y2, y3⟩
  all_goals
    rw [y3] at HSh
    clear y3
    go_wp2_with fail
    go_loop [19, 22] (fun st i => ∃ k : Nat, k ≤ n ∧ i = .int .i64 k ∧ st = .int .i64 (Cv.sumIf (Cv.stR side p) (l.take k))) (fun _ i => n - (intOf i).toNat)
    case atStart => exact ⟨0, Nat.zero_le _, rfl, rfl⟩
    case round =>
      obtain ⟨k, hk, rfl, rfl⟩ := hrel
      by_cases hlt : k < n
      · have hki : (k : Int) < n := by omega
        obtain ⟨g, rfl, hat⟩ := HG.out (by omega)
        obtain ⟨c0, c1, c2, c3, c4⟩ := hat k (by rw [hn.out]; exact hlt)
        clear hat
        have HStp := hide (Cv.sumIf_step (Cv.stR side p) (l := l) (k := k) (by rw [hn.out]; exact hlt))
        have HX := hide (Cv.ok_bounds (hok.out.oks _ (Cv.nth_mem (l := l) (i := k) (by rw [hn.out]; exact hlt))))
        obtain ⟨r1, r2⟩ := HR.out k
        have HR2 := hide (HR.out (k + 1))
        rw [HStp.out] at HR2
        generalize Cv.sumIf (Cv.stR side p) (l.take k) = sk at *
        generalize Cv.nth l k = x at *
        have hstr : Cv.stR side p x = (x.sd == side && ((side == 0 && decide (p < x.pr)) || (side == 1 && decide (x.pr < p)))) := rfl
        have yes : Cv.stR side p x = true → Cv.sumIf (Cv.stR side p) (l.take (k + 1)) = sk + x.q ∧ 0 ≤ sk + x.q ∧ sk + x.q ≤ 120000 := fun h => by
          have t1 := HStp.out
          have t2 := HR2.out
          rw [h] at t1 t2
          simp only [if_true] at t1 t2
          exact ⟨t1, t2.1, t2.2⟩
        have no : Cv.stR side p x = false → Cv.sumIf (Cv.stR side p) (l.take (k + 1)) = sk := fun h => by
          have t1 := HStp.out
          rw [h] at t1
          simpa using t1
        have HY := hide yes; have HN := hide no
        clear yes no HStp HR2
        by_cases hsd : x.sd = side
        · have hsb : (x.sd == side) = true := by simpa using hsd
          rw [hsb] at hstr
          have Hsd := hide hsd
          clear hsd
          by_cases h0 : side = 0
          · have h0b : (side == 0) = true := by simpa using h0
            have h1b : (side == 1) = false := by simp [h0]
            rw [h0b, h1b] at hstr
            clear h0
            by_cases hp : p < x.pr
            · obtain ⟨q1, q2, q3⟩ := HY.out (by rw [hstr]; simp [hp])
              have Q1 := hide q1
              clear q1 hstr HY HN
              go_wp2
              exact ⟨⟨k + 1, by omega, by go_num, by rw [Q1.out]⟩, by simp [intOf]; omega⟩
            · have Q1 := hide (HN.out (by rw [hstr]; simp [hp]))
              clear hstr HY HN
              go_wp2
              exact ⟨⟨k + 1, by omega, by go_num, by rw [Q1.out]⟩, by simp [intOf]; omega⟩
          · have h1 : side = 1 := by have t := HX.out.2.2.1; have t2 := Hsd.out; omega
            have h0b : (side == 0) = false := by simpa using h0
            have h1b : (side == 1) = true := by simpa using h1
            rw [h0b, h1b] at hstr
            clear h0 h1
            by_cases hp : x.pr < p
            · obtain ⟨q1, q2, q3⟩ := HY.out (by rw [hstr]; simp [hp])
              have Q1 := hide q1
              clear q1 hstr HY HN
              go_wp2
              exact ⟨⟨k + 1, by omega, by go_num, by rw [Q1.out]⟩, by simp [intOf]; omega⟩
            · have Q1 := hide (HN.out (by rw [hstr]; simp [hp]))
              clear hstr HY HN
              go_wp2
              exact ⟨⟨k + 1, by omega, by go_num, by rw [Q1.out]⟩, by simp [intOf]; omega⟩
        · have hsb : (x.sd == side) = false := by simpa using hsd
          have Q1 := hide (HN.out (by rw [hstr, hsb]; rfl))
          clear hstr HY HN hsd
          go_wp2
          exact ⟨⟨k + 1, by omega, by go_num, by rw [Q1.out]⟩, by simp [intOf]; omega⟩
      · have hki : ¬ (k : Int) < n := by omega
        have hkk : l.take k = l := by
          have : k = l.length := by rw [hn.out]; omega
          rw [this, List.take_length]
        rw [hkk]
        clear hkk
        go_wp2_with fail
        refine HSh.out.mono ?_
        rintro e w7 ⟨rfl, hb7⟩
        have HB7 := hide hb7
        clear hb7
        simp only []
        go_wp2_with fail
        refine (HSt.out w7 HB7.out).mono ?_
        rintro e w8 ⟨rfl, hb8⟩
        have HB8 := hide (HBB.out.trans ((HB7.out.trans (hb8.mono HB7.out.size)).mono HBB.out.size))
        clear hb8
        simp only []
        go_wp2
        go_ret
        exact ⟨ret_bool (by simp), HB8.out⟩

/-- ClearPrices returns true, whatever the lots, the reference, the price and the side -/
theorem cprices_any (a : Option Addr) (n cap : Nat) (ref p side : Int) (l : List Cv.Lot) (ad : Nat → Addr) (w : World) (hs : Sent w ad) (hl : l.length = n ∧ ArgLots w a l) :
    Calls Tryd.prog 6 #[.slice a n cap, .int .i64 ref, .int .i64 p, .int .i64 side] w fun e w' => e = .returned (.bool true) ∧ Below w.heap.size w w' := by
  by_cases h : (130 : Int) < n
  · exact cprices_out a n cap ref p side 127 _ _ _ w (sent_er hs) h
  · by_cases hw : Cv.Well l
    · cases hr : Wi.withinB ref 1 1000 with
      | true => exact cprices_fine a n cap ref p side l ad w hs hl.1 (by omega) hl.2 hw hr
      | false => exact cprices_ref a n cap ref p side l ad w hs hl.1 (by omega) hl.2 hw hr
    · exact cprices_ill a n cap ref p side l ad w hs hl.1 (by omega) hl.2 hw
end Go.Proofs.YtfdapfegidbijaaDoor
