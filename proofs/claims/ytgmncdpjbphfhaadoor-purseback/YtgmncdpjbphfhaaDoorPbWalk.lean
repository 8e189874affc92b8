/- The law PurseBack, for all acts, items and lots. -/
import Derived.Test.YtgmncdpjbphfhaaDoorPuPay
import Derived.Test.YtgmncdpjbphfhaaDoorPuCheck
import Derived.Deep.RegionWith
namespace Go.Proofs.YtgmncdpjbphfhaaDoor
open Go.RowKit
set_option maxRecDepth 100000

theorem back_big (a : Option Addr) (n cap : Nat) (item : Int) (x : Cv.Lot) (v : Nat → Value) (w : World) (he : Hid (PEr w v)) (hn : 60 < n) :
    Calls Tryd.prog 5 #[.slice a n cap, .int .i64 item, lotV x] w fun e w' => e = .returned (.bool true) ∧ Below w.heap.size w w' := by
  have hn' : (60 : Int) < n := by omega
  show Calls Tryd.prog 5 #[.slice a n cap, .int .i64 item, .agg #[.int .i64 x.id, .int .i64 x.ow, .int .i64 x.sd, .int .i64 x.pr, .int .i64 x.q]] w _
  have hb0 : Below w.heap.size w (w.alloc (.cells #[.int .i64 x.id, .int .i64 x.ow, .int .i64 x.sd, .int .i64 x.pr, .int .i64 x.q] 34)) := (Below.refl _ _).alloc (Nat.le_refl _) _
  have HB0 := hide hb0
  have HP := hide (pursed_any v _ (he.out.later hb0))
  clear hb0
  go_enter Tryd.func5, Tryd.ntmps5
  go_wp2_with fail
  refine HP.out.mono ?_
  rintro e w1 ⟨rfl, hb1⟩
  have HB1 : Hid (Below w.heap.size w w1) := HB0.out.trans (hb1.mono HB0.out.size)
  clear hb1 HP
  simp only []
  go_wp2
  go_ret
  exact ⟨rfl, HB1.out⟩

/-- what is so behind some acts -/
def BInv (w wr : World) (p : Nat) (x : Cv.Lot) (f : Nat → Int) : Prop := Pu.Good f ∧ Purse wr 55 p f ∧ Below w.heap.size w wr ∧ wr.heap[w.heap.size]? = some (.cells (lotA x) 34 (0, 0))
theorem hold_parts {f : Nat → Int} {item : Int} {x : Cv.Lot} (hg : Pu.Good f) (h : Pu.holdC f item x = 0) :
    Pu.freeC (Pu.holdF f item x) item x = 0 ∧ (∀ j, Pu.freeF (Pu.holdF f item x) item x j = f j) ∧ ∃ c : Nat, x.ow = c ∧ c < 6 ∧ ∃ j, j < 8 ∧ 0 < j ∧ Pu.holdF f item x (c * 8 + j) ≠ f (c * 8 + j) := by
  obtain ⟨h1, h2⟩ := Pu.hold_zero h
  have hm := Pu.mu_bounds (Pu.well_ok h1)
  have hga := Pu.good_at hg h1
  have e1 : Pu.holdF f item x = Pu.add f (Pu.hx item x) (Pu.mu x) := by unfold Pu.holdF; rw [if_pos h]
  have e2 : Pu.freeC (Pu.holdF f item x) item x = 0 := by
    unfold Pu.freeC
    rw [if_pos h1, e1, Pu.add_at, if_neg (by omega)]
  refine ⟨e2, fun j => ?_, ?_⟩
  · unfold Pu.freeF
    rw [if_pos e2, e1, Pu.add_dl, Pu.add_dl]
    unfold Pu.dl
    split <;> omega
  · obtain ⟨c, hc, hc6⟩ := Pu.well_ow h1
    refine ⟨c, hc, hc6, ?_⟩
    obtain ⟨k, hk, hk3⟩ := Pu.well_item h1
    rw [e1]
    have : Pu.hx item x = c * 8 + 1 ∨ Pu.hx item x = c * 8 + (5 + k) := by
      unfold Pu.hx
      split
      · left; omega
      · right; omega
    rcases this with e | e
    · exact ⟨1, by decide, by decide, by rw [e, Pu.add_at]; omega⟩
    · exact ⟨5 + k, by omega, by omega, by rw [e, Pu.add_at]; omega⟩
theorem differ {f g : Nat → Int} {c : Nat} (h : ∃ j, j < 8 ∧ 0 < j ∧ f (c * 8 + j) ≠ g (c * 8 + j)) :
    same8 (f (c * 8)) (f (c * 8 + 1)) (f (c * 8 + 2)) (f (c * 8 + 3)) (f (c * 8 + 4)) (f (c * 8 + 5)) (f (c * 8 + 6)) (f (c * 8 + 7)) (g (c * 8)) (g (c * 8 + 1)) (g (c * 8 + 2)) (g (c * 8 + 3)) (g (c * 8 + 4)) (g (c * 8 + 5)) (g (c * 8 + 6)) (g (c * 8 + 7)) = false := by
  rw [Bool.eq_false_iff]
  intro hs
  simp only [same8, Bool.and_eq_true, beq_iff_eq] at hs
  obtain ⟨e0, e1, ⟨e2, e3, e4⟩, e5, e6, e7⟩ := hs
  obtain ⟨j, hj, h0, hne⟩ := h
  have : j = 1 ∨ j = 2 ∨ j = 3 ∨ j = 4 ∨ j = 5 ∨ j = 6 ∨ j = 7 := by omega
  rcases this with rfl | rfl | rfl | rfl | rfl | rfl | rfl
  · exact hne e1
  · exact hne e2
  · exact hne e3
  · exact hne e4
  · exact hne e5
  · exact hne e6
  · exact hne e7

set_option maxHeartbeats 4000000 in
theorem back_some (a : Option Addr) (n cap : Nat) (item : Int) (x : Cv.Lot) (l : List PAct) (v : Nat → Value) (w : World) (he : Hid (PEr w v)) (hn : Hid (l.length = n)) (hn' : n ≤ 60) (hl : Hid (n = 0 ∨ ∃ g, a = some g ∧ PaysAt w g l)) :
    Calls Tryd.prog 5 #[.slice a n cap, .int .i64 item, lotV x] w fun e w' => e = .returned (.bool true) ∧ Below w.heap.size w w' := by
  have hni : ¬ (60 : Int) < n := by omega
  show Calls Tryd.prog 5 #[.slice a n cap, .int .i64 item, .agg #[.int .i64 x.id, .int .i64 x.ow, .int .i64 x.sd, .int .i64 x.pr, .int .i64 x.q]] w _
  have hb0 : Below w.heap.size w (w.alloc (.cells #[.int .i64 x.id, .int .i64 x.ow, .int .i64 x.sd, .int .i64 x.pr, .int .i64 x.q] 34)) := (Below.refl _ _).alloc (Nat.le_refl _) _
  have HB0 := hide hb0
  have HP := hide (pursed_any v _ (he.out.later hb0))
  have HX0 : Hid ((w.alloc (.cells #[.int .i64 x.id, .int .i64 x.ow, .int .i64 x.sd, .int .i64 x.pr, .int .i64 x.q] 34)).heap[w.heap.size]? = some (.cells (lotA x) 34 (0, 0))) := heap_alloc_new _ _
  clear hb0
  go_enter Tryd.func5, Tryd.ntmps5
  go_wp2_with fail
  refine HP.out.mono ?_
  rintro e w1 ⟨rfl, hb1⟩
  have HB1 : Hid (Below w.heap.size w w1) := HB0.out.trans (hb1.mono HB0.out.size)
  have HX1 : Hid (w1.heap[w.heap.size]? = some (.cells (lotA x) 34 (0, 0))) := by show _ = _; rw [hb1.block _ (lt_of_block HX0.out)]; exact HX0.out
  clear hb1 HP HX0 HB0
  simp only []
  go_wp2_with fail
  refine (new_any w1).mono ?_
  rintro e w2 ⟨rfl, rfl⟩
  have HPN := hide (Purse.new w1 55 (fun _ => 0))
  have HB2 : Hid (Below w.heap.size w (w1.alloc (.cells (row fun _ => 0) 55))) := HB1.out.alloc HB1.out.size _
  have HX2 : Hid ((w1.alloc (.cells (row fun _ => 0) 55)).heap[w.heap.size]? = some (.cells (lotA x) 34 (0, 0))) := (Below.heap_alloc _ _ _ (lt_of_block HX1.out)).trans HX1.out
  obtain ⟨p, hp⟩ : ∃ p, w1.heap.size = p := ⟨_, rfl⟩
  have hwp : w.heap.size < p := by rw [← hp]; exact lt_of_block HX1.out
  rw [hp] at HPN ⊢
  clear hp HX1
  generalize w1.alloc (.cells (row fun _ => 0) 55) = w2 at *
  simp only []
  go_wp2
  go_loopw [9] (fun i wr => ∃ (k : Nat) (f : Nat → Int), k ≤ n ∧ i = .int .i64 k ∧ BInv w wr p x f) (fun i _ => n - (intOf i).toNat)
  case atStart => exact ⟨0, _, Nat.zero_le _, rfl, Pu.good_zero, HPN.out, HB2.out, HX2.out⟩
  case round =>
    obtain ⟨k, f, hk, rfl, hG, hPu, hbl, hbx⟩ := hrel
    have HG := hide hG; have HK := hide hPu; have HB := hide hbl; have HX := hide hbx
    clear hG hPu hbl hbx HPN HB2 HX2 HB1
    by_cases hlt : k < n
    · have hki : (k : Int) < n := by omega
      obtain ⟨g, rfl, hlg⟩ : ∃ g, a = some g ∧ PaysAt w g l := by
        rcases hl.out with h | h
        · omega
        · exact h
      have HPA : Hid (PayAt wr (g.add (k * 19)) (pnth l k)) := (hlg.later HB.out) k (by rw [hn.out]; exact hlt)
      generalize pnth l k = A at *
      clear hlg
      obtain ⟨WA, hWA⟩ : ∃ WA, wr.alloc (.cells (payA A) 36) = WA := ⟨_, rfl⟩
      have hnA : Below wr.heap.size wr WA := by rw [← hWA]; exact (Below.refl _ _).alloc (Nat.le_refl _) _
      have hRA : WA.heap[wr.heap.size]? = some (.cells (payA A) 36 (0, 0)) := by rw [← hWA]; exact heap_alloc_new _ _
      have HBA : Hid (Below w.heap.size w WA) := HB.out.trans (hnA.mono HB.out.size)
      have HKA := hide (HK.out.lat hnA)
      have HXA : Hid (WA.heap[w.heap.size]? = some (.cells (lotA x) 34 (0, 0))) := by show _ = _; rw [hnA.block _ (lt_of_block HX.out)]; exact HX.out
      have HEA := hide (he.out.later HBA.out)
      have HWA := hide hWA
      have z36 := zero36
      obtain ⟨kd, an, ac, s0, s1, s2, it, ⟨xi, xo, xs, xp, xq⟩, yy, pr, qt⟩ := A
      have d0 : WA.cell? ⟨wr.heap.size, 0, none⟩ = some (.string kd) := hs_cell hRA rfl
      have d1 : WA.cell? ⟨wr.heap.size, 1, none⟩ = some (.int .i64 an) := hs_cell hRA rfl
      have d2 : WA.cell? ⟨wr.heap.size, 2, none⟩ = some (.int .i64 ac) := hs_cell hRA rfl
      have d3 : WA.cell? ⟨wr.heap.size, 3, none⟩ = some (.int .i64 s0) := hs_cell hRA rfl
      have d4 : WA.cell? ⟨wr.heap.size, 4, none⟩ = some (.int .i64 s1) := hs_cell hRA rfl
      have d5 : WA.cell? ⟨wr.heap.size, 5, none⟩ = some (.int .i64 s2) := hs_cell hRA rfl
      have d6 : WA.cell? ⟨wr.heap.size, 6, none⟩ = some (.int .i64 it) := hs_cell hRA rfl
      have d7 : WA.cell? ⟨wr.heap.size, 7, none⟩ = some (.int .i64 xi) := hs_cell hRA rfl
      have d8 : WA.cell? ⟨wr.heap.size, 8, none⟩ = some (.int .i64 xo) := hs_cell hRA rfl
      have d9 : WA.cell? ⟨wr.heap.size, 9, none⟩ = some (.int .i64 xs) := hs_cell hRA rfl
      have d10 : WA.cell? ⟨wr.heap.size, 10, none⟩ = some (.int .i64 xp) := hs_cell hRA rfl
      have d11 : WA.cell? ⟨wr.heap.size, 11, none⟩ = some (.int .i64 xq) := hs_cell hRA rfl
      clear hnA hWA hRA
      cases hka : (kd.toList == [103, 105, 118, 101]) with
      | true =>
        have HA := hide (give_any p ⟨an, ac, s0, s1, s2⟩ f v WA HEA.out HKA.out HG.out)
        unfold giftV at HA
        simp only [] at HA
        go_wp2_with (first | (guard_target =~ wpList _ _ _ ({ dst := _, op := Op.load 36 _, type := _, pos := _, after := _, guard := _ } :: _) _ _; refine wpList_load36 (G := g.add (k * 19)) HPA.out rfl (.tmp 34) rfl rfl ?_) | (guard_target =~ wpList _ _ _ ({ dst := _, op := Op.store 36 _ _, type := _, pos := _, after := _, guard := _ } :: _) _ _; refine wpList_store36 WA HWA.out rfl (.tmp 10) (.tmp 35) rfl rfl rfl ?_))
        refine HA.out.mono ?_
        rintro e w3 ⟨rfl, hp3, hs3⟩
        have HB3 : Hid (Below w.heap.size w w3) := HBA.out.trans (hs3.below HBA.out.size (by omega))
        have HX3 : Hid (w3.heap[w.heap.size]? = some (.cells (lotA x) 34 (0, 0))) := by show _ = _; rw [hs3.block _ (lt_of_block HXA.out) (by omega)]; exact HXA.out
        have HP3 := hide hp3
        have HG3 := hide (Pu.good_give HG.out ⟨an, ac, s0, s1, s2⟩)
        clear hp3 hs3 HA
        simp only []
        go_wp2
        exact ⟨⟨k + 1, _, by omega, by go_num, HG3.out, HP3.out, HB3.out, HX3.out⟩, by simp [intOf]; omega⟩
      | false =>
        cases hkh : (kd.toList == [104, 111, 108, 100]) with
        | true =>
          have HA := hide (hold_any p it ⟨xi, xo, xs, xp, xq⟩ f v WA HEA.out HKA.out HG.out)
          unfold lotV at HA
          simp only [] at HA
          go_wp2_with (first | (guard_target =~ wpList _ _ _ ({ dst := _, op := Op.load 36 _, type := _, pos := _, after := _, guard := _ } :: _) _ _; refine wpList_load36 (G := g.add (k * 19)) HPA.out rfl (.tmp 34) rfl rfl ?_) | (guard_target =~ wpList _ _ _ ({ dst := _, op := Op.store 36 _ _, type := _, pos := _, after := _, guard := _ } :: _) _ _; refine wpList_store36 WA HWA.out rfl (.tmp 10) (.tmp 35) rfl rfl rfl ?_))
          refine HA.out.mono ?_
          rintro e w3 ⟨rfl, hp3, hs3⟩
          have HB3 : Hid (Below w.heap.size w w3) := HBA.out.trans (hs3.below HBA.out.size (by omega))
          have HX3 : Hid (w3.heap[w.heap.size]? = some (.cells (lotA x) 34 (0, 0))) := by show _ = _; rw [hs3.block _ (lt_of_block HXA.out) (by omega)]; exact HXA.out
          have HP3 := hide hp3
          have HG3 := hide (Pu.good_hold HG.out it ⟨xi, xo, xs, xp, xq⟩)
          clear hp3 hs3 HA
          simp only []
          go_wp2
          exact ⟨⟨k + 1, _, by omega, by go_num, HG3.out, HP3.out, HB3.out, HX3.out⟩, by simp [intOf]; omega⟩
        | false =>
          go_wp2_with (first | (guard_target =~ wpList _ _ _ ({ dst := _, op := Op.load 36 _, type := _, pos := _, after := _, guard := _ } :: _) _ _; refine wpList_load36 (G := g.add (k * 19)) HPA.out rfl (.tmp 34) rfl rfl ?_) | (guard_target =~ wpList _ _ _ ({ dst := _, op := Op.store 36 _ _, type := _, pos := _, after := _, guard := _ } :: _) _ _; refine wpList_store36 WA HWA.out rfl (.tmp 10) (.tmp 35) rfl rfl rfl ?_))
          exact ⟨⟨k + 1, _, by omega, by go_num, HG.out, HKA.out, HBA.out, HXA.out⟩, by simp [intOf]; omega⟩
    · have hki : ¬ (k : Int) < n := by omega
      go_wp2_with fail
      refine (copy_any p f wr HK.out).mono ?_
      rintro e w3 ⟨rfl, hq3, hb3⟩
      have hpq : p < wr.heap.size := HK.out.lt
      obtain ⟨q, hqe⟩ : ∃ q, wr.heap.size = q := ⟨_, rfl⟩
      rw [hqe] at hq3 hpq ⊢
      have HB3 : Hid (Below w.heap.size w w3) := HB.out.trans (hb3.mono HB.out.size)
      have HP3 := hide (HK.out.lat hb3)
      have HQ3 := hide hq3
      clear hqe
      have HX3 : Hid (w3.heap[w.heap.size]? = some (.cells (lotA x) 34 (0, 0))) := by show _ = _; rw [hb3.block _ (lt_of_block HX.out)]; exact HX.out
      have HH := hide (hold_any p item x f v w3 (he.out.later HB3.out) HP3.out HG.out)
      unfold lotV at HH
      have d0 : w3.cell? ⟨w.heap.size, 0, none⟩ = some (.int .i64 x.id) := hs_cell HX3.out rfl
      have d1 : w3.cell? ⟨w.heap.size, 1, none⟩ = some (.int .i64 x.ow) := hs_cell HX3.out rfl
      have d2 : w3.cell? ⟨w.heap.size, 2, none⟩ = some (.int .i64 x.sd) := hs_cell HX3.out rfl
      have d3 : w3.cell? ⟨w.heap.size, 3, none⟩ = some (.int .i64 x.pr) := hs_cell HX3.out rfl
      have d4 : w3.cell? ⟨w.heap.size, 4, none⟩ = some (.int .i64 x.q) := hs_cell HX3.out rfl
      clear hq3 hb3 HB HX HK
      simp only []
      go_wp2_with fail
      refine HH.out.mono ?_
      rintro e w4 ⟨rfl, hp4, hs4⟩
      have HB4 : Hid (Below w.heap.size w w4) := HB3.out.trans (hs4.below HB3.out.size (by omega))
      have HQ4 := hide (HQ3.out.save hs4 (by omega))
      have HX4 : Hid (w4.heap[w.heap.size]? = some (.cells (lotA x) 34 (0, 0))) := by show _ = _; rw [hs4.block _ (lt_of_block HX3.out) (by omega)]; exact HX3.out
      clear hs4 HH HX3 HQ3 HP3 HB3 d0 d1 d2 d3 d4
      by_cases hz : Pu.holdC f item x = 0
      · obtain ⟨hfc, hff, c, hc, hc6, hdf⟩ := hold_parts HG.out hz
        have HDF := hide (differ hdf)
        have HFF := hide hff
        have HP4 := hide hp4
        have HG4 := hide (Pu.good_hold HG.out item x)
        rw [errE_zero v hz]
        generalize Pu.holdF f item x = f2 at *
        have HOP : Hid (∀ W, Below w4.heap.size w4 W → Calls Tryd.prog 19 #[.pointer (some ⟨p, 0, none⟩), .int .i64 c] W fun e w' => e = .returned (hasV f2 c) ∧ Below W.heap.size W w') := fun W h => by
          have := of_any p c f2 W (HP4.out.lat h)
          rw [ofV_in f2 hc6] at this
          exact this
        have HOQ : Hid (∀ W, Below w4.heap.size w4 W → Calls Tryd.prog 19 #[.pointer (some ⟨q, 0, none⟩), .int .i64 c] W fun e w' => e = .returned (hasV f c) ∧ Below W.heap.size W w') := fun W h => by
          have := of_any q c f W (HQ4.out.lat h)
          rw [ofV_in f hc6] at this
          exact this
        have HFR : Hid (∀ W, Below w4.heap.size w4 W → Calls Tryd.prog 13 #[.pointer (some ⟨p, 0, none⟩), .int .i64 item, .agg #[.int .i64 x.id, .int .i64 c, .int .i64 x.sd, .int .i64 x.pr, .int .i64 x.q]] W fun e w' => e = .returned .nilIface ∧ Purse w' 55 p f ∧ Save W w' p) := fun W h => by
          have := free_any p item x f2 v W (he.out.later (HB4.out.trans (h.mono HB4.out.size))) (HP4.out.lat h) HG4.out
          rw [hfc] at this
          rw [show lotV x = .agg #[.int .i64 x.id, .int .i64 c, .int .i64 x.sd, .int .i64 x.pr, .int .i64 x.q] by simp [lotV, hc]] at this
          exact this.mono fun e w' ⟨h1, h2, h3⟩ => ⟨h1, h2.congr fun j _ => HFF.out j, h3⟩
        unfold hasV at HOP HOQ
        have hcmp : ∀ W, (binOp .eql 47 (.agg #[.int .i64 (f2 (c * 8)), .int .i64 (f2 (c * 8 + 1)), .int .i64 (f2 (c * 8 + 2)), .int .i64 (f2 (c * 8 + 3)), .int .i64 (f2 (c * 8 + 4)), .int .i64 (f2 (c * 8 + 5)), .int .i64 (f2 (c * 8 + 6)), .int .i64 (f2 (c * 8 + 7))]) (.agg #[.int .i64 (f (c * 8)), .int .i64 (f (c * 8 + 1)), .int .i64 (f (c * 8 + 2)), .int .i64 (f (c * 8 + 3)), .int .i64 (f (c * 8 + 4)), .int .i64 (f (c * 8 + 5)), .int .i64 (f (c * 8 + 6)), .int .i64 (f (c * 8 + 7))])).run Tryd.prog W = .ok (.bool false) W := fun W => by rw [eql47, HDF.out]
        have d0 : w4.cell? ⟨w.heap.size, 0, none⟩ = some (.int .i64 x.id) := hs_cell HX4.out rfl
        have d1 : w4.cell? ⟨w.heap.size, 1, none⟩ = some (.int .i64 c) := by rw [← hc]; exact hs_cell HX4.out rfl
        have d2 : w4.cell? ⟨w.heap.size, 2, none⟩ = some (.int .i64 x.sd) := hs_cell HX4.out rfl
        have d3 : w4.cell? ⟨w.heap.size, 3, none⟩ = some (.int .i64 x.pr) := hs_cell HX4.out rfl
        have d4 : w4.cell? ⟨w.heap.size, 4, none⟩ = some (.int .i64 x.q) := hs_cell HX4.out rfl
        have HBc : Hid (Below w4.heap.size w4 w4.drew) := ⟨rfl, rfl, rfl, Nat.le_refl _, fun _ _ => rfl⟩
        clear hfc hff hdf hp4 hz HFF HDF HP4
        simp only []
        go_wp2_with fail
        go_region_with (first
          | (go_at_call_of 19 (Value.pointer (some ⟨p, 0, none⟩))
             refine (HOP.out _ HBc.out).mono ?_
             rintro e w5 ⟨rfl, hb5⟩
             replace HBc := hide (HBc.out.trans (hb5.mono HBc.out.size))
             have q0 := cell_later HBc.out d0
             have q1 := cell_later HBc.out d1
             have q2 := cell_later HBc.out d2
             have q3 := cell_later HBc.out d3
             have q4 := cell_later HBc.out d4
             clear hb5)
          | (go_at_call_of 19 (Value.pointer (some ⟨q, 0, none⟩))
             refine (HOQ.out _ HBc.out).mono ?_
             rintro e w5 ⟨rfl, hb5⟩
             replace HBc := hide (HBc.out.trans (hb5.mono HBc.out.size))
             have q0 := cell_later HBc.out d0
             have q1 := cell_later HBc.out d1
             have q2 := cell_later HBc.out d2
             have q3 := cell_later HBc.out d3
             have q4 := cell_later HBc.out d4
             clear hb5)
          | (go_at_call 13
             refine (HFR.out _ HBc.out).mono ?_
             rintro e w8 ⟨rfl, hp8, hs8⟩
             have HPF := hide hp8
             have HBF : Hid (Below w.heap.size w w8) := (HB4.out.trans (HBc.out.mono HB4.out.size)).trans (hs8.below (HB4.out.trans (HBc.out.mono HB4.out.size)).size (by omega))
             have HQF := hide ((HQ4.out.lat HBc.out).save hs8 (by omega))
             clear hp8 hs8))
        all_goals
          clear HOP HOQ HFR hcmp d0 d1 d2 d3 d4 q0 q1 q2 q3 q4 HBc HG4
          go_wp2
          go_loopw [13] (fun i wz => ∃ (m : Nat), m ≤ 6 ∧ i = .int .i64 m ∧ Purse wz 55 p f ∧ Purse wz 55 q f ∧ Below w.heap.size w wz) (fun i _ => 6 - (intOf i).toNat)
          case atStart => exact ⟨0, by decide, rfl, HPF.out, HQF.out, HBF.out⟩
          case round =>
            obtain ⟨m, hm, rfl, hp1, hq1, hbl⟩ := hrel
            have HP1 := hide hp1; have HQ1 := hide hq1; have HB1 := hide hbl
            clear hp1 hq1 hbl
            by_cases hm6 : m < 6
            · have hmi : (m : Int) < 6 := by omega
              have HOP := hide (fun W (h : Purse W 55 p f) => of_any p m f W h)
              have HOQ := hide (fun W (h : Purse W 55 q f) => of_any q m f W h)
              rw [ofV_in f hm6] at HOP HOQ
              unfold hasV at HOP HOQ
              have hcmp : ∀ W, (binOp .neq 47 (.agg #[.int .i64 (f (m * 8)), .int .i64 (f (m * 8 + 1)), .int .i64 (f (m * 8 + 2)), .int .i64 (f (m * 8 + 3)), .int .i64 (f (m * 8 + 4)), .int .i64 (f (m * 8 + 5)), .int .i64 (f (m * 8 + 6)), .int .i64 (f (m * 8 + 7))]) (.agg #[.int .i64 (f (m * 8)), .int .i64 (f (m * 8 + 1)), .int .i64 (f (m * 8 + 2)), .int .i64 (f (m * 8 + 3)), .int .i64 (f (m * 8 + 4)), .int .i64 (f (m * 8 + 5)), .int .i64 (f (m * 8 + 6)), .int .i64 (f (m * 8 + 7))])).run Tryd.prog W = .ok (.bool false) W := fun W => by rw [neq47, same8_refl]; rfl
              go_wp2_with fail
              refine (HOP.out _ HP1.out).mono ?_
              rintro e wy ⟨rfl, hby⟩
              have HBy : Hid (Below w.heap.size w wy) := HB1.out.trans (hby.mono HB1.out.size)
              have HPy := hide (HP1.out.lat hby)
              have HQy := hide (HQ1.out.lat hby)
              clear hby
              simp only []
              go_wp2_with fail
              refine (HOQ.out _ HQy.out).mono ?_
              rintro e wx ⟨rfl, hbx⟩
              have HBx : Hid (Below w.heap.size w wx) := HBy.out.trans (hbx.mono HBy.out.size)
              have HPx := hide (HPy.out.lat hbx)
              have HQx := hide (HQy.out.lat hbx)
              clear hbx HOP HOQ
              generalize f (m * 8) = u0 at *
              generalize f (m * 8 + 1) = u1 at *
              generalize f (m * 8 + 2) = u2 at *
              generalize f (m * 8 + 3) = u3 at *
              generalize f (m * 8 + 4) = u4 at *
              generalize f (m * 8 + 5) = u5 at *
              generalize f (m * 8 + 6) = u6 at *
              generalize f (m * 8 + 7) = u7 at *
              simp only []
              go_wp2
              exact ⟨⟨m + 1, by omega, by go_num, HPx.out, HQx.out, HBx.out⟩, by simp [intOf]; omega⟩
            · have hmi : ¬ (m : Int) < 6 := by omega
              go_wp2
              go_ret
              exact ⟨rfl, HB1.out⟩
      · have HPF : Hid (Purse w4 55 p f) := by
          have : Pu.holdF f item x = f := by unfold Pu.holdF; rw [if_neg hz]
          rw [this] at hp4
          exact hp4
        have HQF := HQ4
        have HBF := HB4
        obtain ⟨y, hy⟩ := errE_ne v hz
        rw [hy]
        clear hy hz hp4
        simp only []
        go_wp2
        go_loopw [13] (fun i wz => ∃ (m : Nat), m ≤ 6 ∧ i = .int .i64 m ∧ Purse wz 55 p f ∧ Purse wz 55 q f ∧ Below w.heap.size w wz) (fun i _ => 6 - (intOf i).toNat)
        case atStart => exact ⟨0, by decide, rfl, HPF.out, HQF.out, HBF.out⟩
        case round =>
          obtain ⟨m, hm, rfl, hp1, hq1, hbl⟩ := hrel
          have HP1 := hide hp1; have HQ1 := hide hq1; have HB1 := hide hbl
          clear hp1 hq1 hbl
          by_cases hm6 : m < 6
          · have hmi : (m : Int) < 6 := by omega
            have HOP := hide (fun W (h : Purse W 55 p f) => of_any p m f W h)
            have HOQ := hide (fun W (h : Purse W 55 q f) => of_any q m f W h)
            rw [ofV_in f hm6] at HOP HOQ
            unfold hasV at HOP HOQ
            have hcmp : ∀ W, (binOp .neq 47 (.agg #[.int .i64 (f (m * 8)), .int .i64 (f (m * 8 + 1)), .int .i64 (f (m * 8 + 2)), .int .i64 (f (m * 8 + 3)), .int .i64 (f (m * 8 + 4)), .int .i64 (f (m * 8 + 5)), .int .i64 (f (m * 8 + 6)), .int .i64 (f (m * 8 + 7))]) (.agg #[.int .i64 (f (m * 8)), .int .i64 (f (m * 8 + 1)), .int .i64 (f (m * 8 + 2)), .int .i64 (f (m * 8 + 3)), .int .i64 (f (m * 8 + 4)), .int .i64 (f (m * 8 + 5)), .int .i64 (f (m * 8 + 6)), .int .i64 (f (m * 8 + 7))])).run Tryd.prog W = .ok (.bool false) W := fun W => by rw [neq47, same8_refl]; rfl
            go_wp2_with fail
            refine (HOP.out _ HP1.out).mono ?_
            rintro e wy ⟨rfl, hby⟩
            have HBy : Hid (Below w.heap.size w wy) := HB1.out.trans (hby.mono HB1.out.size)
            have HPy := hide (HP1.out.lat hby)
            have HQy := hide (HQ1.out.lat hby)
            clear hby
            simp only []
            go_wp2_with fail
            refine (HOQ.out _ HQy.out).mono ?_
            rintro e wx ⟨rfl, hbx⟩
            have HBx : Hid (Below w.heap.size w wx) := HBy.out.trans (hbx.mono HBy.out.size)
            have HPx := hide (HPy.out.lat hbx)
            have HQx := hide (HQy.out.lat hbx)
            clear hbx HOP HOQ
            generalize f (m * 8) = u0 at *
            generalize f (m * 8 + 1) = u1 at *
            generalize f (m * 8 + 2) = u2 at *
            generalize f (m * 8 + 3) = u3 at *
            generalize f (m * 8 + 4) = u4 at *
            generalize f (m * 8 + 5) = u5 at *
            generalize f (m * 8 + 6) = u6 at *
            generalize f (m * 8 + 7) = u7 at *
            simp only []
            go_wp2
            exact ⟨⟨m + 1, by omega, by go_num, HPx.out, HQx.out, HBx.out⟩, by simp [intOf]; omega⟩
          · have hmi : ¬ (m : Int) < 6 := by omega
            go_wp2
            go_ret
            exact ⟨rfl, HB1.out⟩
theorem back_any (a : Option Addr) (n cap : Nat) (item : Int) (x : Cv.Lot) (l : List PAct) (v : Nat → Value) (w : World) (he : PEr w v) (hl : ArgPays w a n l) :
    Calls Tryd.prog 5 #[.slice a n cap, .int .i64 item, lotV x] w fun e w' => e = .returned (.bool true) ∧ Below w.heap.size w w' := by
  by_cases h : 60 < n
  · exact back_big a n cap item x v w he h
  · exact back_some a n cap item x l v w he hl.1 (by omega) hl.2
end Go.Proofs.YtgmncdpjbphfhaaDoor
