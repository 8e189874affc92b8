/- The law ClearPrices, for all lots. -/
import Derived.Test.YtfdapfegidbijaaDoorClPriceOf
import Derived.Test.YtfdapfegidbijaaDoorCvTellsWalk
namespace Go.Proofs.YtfdapfegidbijaaDoor
open Go.RowKit
set_option maxRecDepth 100000

theorem Came.some {w : World} {a : Option Addr} {n cap : Nat} {l : List Cv.Lot} (h : Came w (.slice a n cap) l) (h0 : 0 < n) : ∃ g, a = some g ∧ ArgAt w g l := by
  rcases h with ⟨_, a', cap', e⟩ | ⟨g, cap', e, hl⟩
  · obtain ⟨_, e2, _⟩ := Value.slice.inj e
    omega
  · obtain ⟨e1, _, _⟩ := Value.slice.inj e
    exact ⟨g, e1, hl⟩
/-- a fault of the call's own, at a block -/
def Flt (w : World) (B : Nat) (c at_ : Int) : Prop := w.heap[B]? = some (.cells #[.int .i64 c, .int .i64 at_] 26 (0, 0))
theorem Flt.later {w w' : World} {B n : Nat} {c at_ : Int} (h : Flt w B c at_) (hb : Below n w w') (hn : B < n) : Flt w' B c at_ := (hb.block B hn).trans h
theorem Flt.lt {w : World} {B : Nat} {c at_ : Int} (h : Flt w B c at_) : B < w.heap.size := (Array.getElem?_eq_some_iff.1 h).1
theorem Flt.cells {w : World} {B : Nat} {c at_ : Int} (h : Flt w B c at_) : w.cell? ⟨B, 0, none⟩ = some (.int .i64 c) ∧ w.cell? ⟨B, 1, none⟩ = some (.int .i64 at_) := by
  refine ⟨?_, ?_⟩ <;> (rw [cell_of_row w B _ _ _ _ h]; rfl)
theorem Flt.frozen {w : World} {B : Nat} {c at_ : Int} (h : Flt w B c at_) (i : Nat) : w.frozen? ⟨B, i, none⟩ = false := by
  simp [World.frozen?, show w.heap[B]? = _ from h]
theorem Flt.set {w : World} {B : Nat} {c at_ : Int} (h : Flt w B c at_) (c' at' : Int) : Flt ((w.setCell ⟨B, 0, none⟩ (.int .i64 c')).setCell ⟨B, 1, none⟩ (.int .i64 at')) B c' at' := by
  unfold Flt at h ⊢
  have h1 : (w.setCell ⟨B, 0, none⟩ (.int .i64 c')).heap[B]? = some (.cells #[.int .i64 c', .int .i64 at_] 26 (0, 0)) := by
    rw [setCell_eq_setRow w B 0 _ _ _ _ h]; exact setRow_heap w B _ _ _ _ h
  rw [setCell_eq_setRow _ B 1 _ _ _ _ h1]; exact setRow_heap _ B _ _ _ _ h1
theorem Flt.new (w : World) (c at_ : Int) : Flt (w.alloc (.cells #[.int .i64 c, .int .i64 at_] 26)) w.heap.size c at_ := heap_alloc_last w _

set_option maxHeartbeats 400000 in
theorem cprices_out (a : Option Addr) (n cap : Nat) (ref p side : Int) (T : TypeId) (v1 v6 v7 : Value) (w : World) (he : Hid (Er w T v1 v6 v7)) (h : (130 : Int) < n) :
    Calls Tryd.prog 6 #[.slice a n cap, .int .i64 ref, .int .i64 p, .int .i64 side] w fun e w' => e = .returned (.bool true) ∧ Below w.heap.size w w' := by
  go_enter Tryd.func6, Tryd.ntmps6
  go_wp2_with fail
  refine (cleared_any T v1 v6 v7 w he).mono ?_
  rintro e w1 ⟨rfl, hb1⟩
  have HB1 := hide hb1
  clear hb1
  simp only []
  go_wp2
  go_ret
  exact ⟨rfl, HB1.out⟩

set_option maxHeartbeats 4000000 in
theorem cprices_ill (a : Option Addr) (n cap : Nat) (ref p side : Int) (l : List Cv.Lot) (ad : Nat → Addr) (w : World) (hs : Hid (Sent w ad)) (hn : Hid (l.length = n)) (hn' : n ≤ 130) (hl : Hid (ArgLots w a l)) (hbad : Hid (¬ Cv.Well l)) :
    Calls Tryd.prog 6 #[.slice a n cap, .int .i64 ref, .int .i64 p, .int .i64 side] w fun e w' => e = .returned (.bool true) ∧ Below w.heap.size w w' := by
  have h1 : ¬ (130 : Int) < n := by omega
  have HO : Hid (∀ w1, Below w.heap.size w w1 → Calls Tryd.prog 10 #[.slice a n cap] w1 fun e w' => ∃ v, e = .returned v ∧ Lots w' v l ∧ (l = [] → v = .slice none 0 0) ∧ Below w1.heap.size w1 w') := fun w1 hb => by
    have := own_any a cap l w1 (by rw [hn.out]; omega) (by
      rcases hl.out with h | ⟨g, h, hc⟩
      · exact .inl h
      · exact .inr ⟨g, h, fun j u hu => cell_later hb (hc j u hu)⟩)
    rwa [hn.out] at this
  have HCM : Hid (∀ W, Below w.heap.size w W → Came W (.slice a n cap) l) := fun W hb => by
    have := (came_of (cap := cap) hl.out).later hb
    rwa [hn.out] at this
  go_enter Tryd.func6, Tryd.ntmps6
  go_wp2_with fail
  refine (cleared_any 127 _ _ _ w (sent_er hs.out)).mono ?_
  rintro e w1 ⟨rfl, hb1⟩
  have HB1 := hide hb1
  clear hb1
  simp only []
  go_wp2_with fail
  refine (HO.out w1 HB1.out).mono ?_
  rintro e w2 ⟨v, rfl, hlv, _, hb2⟩
  have HB2 := hide (HB1.out.trans (hb2.mono HB1.out.size)); have HL2 := hide hlv
  have HS2 := hide (hs.out.later HB2.out)
  clear hb2 hlv HB1 HO
  simp only []
  go_wp2_with fail
  refine (price_err v ref (fun W x => ∃ c at_, ErrIs W ad l x c at_) w2 (show Hid _ from (check_tells v l ad w2 HL2.out HS2.out).mono ?_)).mono ?_
  · rintro e w' ⟨⟨x, c, at_, rfl, hx⟩, hb⟩
    refine ⟨?_, hb⟩
    rcases hx with ⟨h0, rfl, h2, h3⟩ | ⟨h0, _⟩ | ⟨h0, i, B, j, g1, g2, g3, g4, g5, g6, g7, rfl, g9, g10⟩
    · exact ⟨_, _, rfl, c, at_, .inl ⟨h0, rfl, h2, h3⟩⟩
    · exact absurd h0 hbad.out
    · exact ⟨_, _, rfl, c, at_, .inr (.inr ⟨h0, i, B, j, g1, g2, g3, g4, g5, g6, g7, rfl, g9, g10⟩)⟩
  rintro e w3 ⟨⟨U, x, rfl, c, at_, hx⟩, hb3⟩
  have HB3 := hide (HB2.out.trans (hb3.mono HB2.out.size)); have HL3 := hide (HL2.out.later hb3); have HX3 := hide hx
  have hc0 := hx.ill hbad.out
  clear hb3 hx HB2 HL2 HS2
  simp only []
  go_wp2_with fail
  refine (lotsFault_tells (.slice a n cap) l w3 (HCM.out _ HB3.out)).mono ?_
  rintro e w4 ⟨⟨c', at', rfl, hca⟩, hb4⟩
  obtain ⟨rfl, rfl⟩ := hca _ _ _ _ _ HX3.out
  have HB4 := hide (HB3.out.trans (hb4.mono HB3.out.size)); have HL4 := hide (HL3.out.later hb4); have HX4 := hide (HX3.out.later hb4)
  clear hb4 hca HB3 HL3 HX3
  have hcz : ¬ c = 0 := by omega
  have hczb : (c == 0) = false := by simpa using hcz
  have HBa : Hid (Below w4.heap.size w4 (w4.alloc (.cells #[.int .i64 c, .int .i64 at_] 26))) := (Below.refl _ _).alloc (Nat.le_refl _) _
  have HF := hide (faulted_tells _ l c at_ ad _ ((hs.out.later HB4.out).later HBa.out) (HX4.out.later HBa.out))
  have HFl := hide (Flt.new w4 c at_)
  clear hcz
  simp only []
  go_wp2_with fail
  refine HF.out.mono ?_
  rintro e w6 ⟨rfl, hb6⟩
  have HB6 : Hid (Below w4.heap.size w4 w6) := HBa.out.trans (hb6.mono HBa.out.size)
  have HFl6 := hide (HFl.out.later hb6 (by simp))
  obtain ⟨d0, d1⟩ := HFl6.out.cells
  have HBB : Hid (Below w.heap.size w w6) := HB4.out.trans (HB6.out.mono HB4.out.size)
  have HL6 := hide (HL4.out.later HB6.out)
  clear hb6 HF HFl HBa HB4 HL4 HB6 HX4
  simp only []
  go_wp2_with fail
  refine (short_bad v l p 127 _ _ _ w6 HL6.out (sent_er (hs.out.later HBB.out)) hbad.out).mono ?_
  rintro e w7 ⟨rfl, hb7⟩
  have HB7 := hide (HBB.out.trans (hb7.mono HBB.out.size)); have HL7 := hide (HL6.out.later hb7)
  clear hb7
  simp only []
  go_wp2_with fail
  refine (strict_bad v l side p 127 _ _ _ w7 HL7.out (sent_er (hs.out.later HB7.out)) hbad.out).mono ?_
  rintro e w8 ⟨rfl, hb8⟩
  have HB8 := hide (HB7.out.trans (hb8.mono HB7.out.size))
  clear hb8
  simp only []
  go_wp2
  go_ret
  exact ⟨rfl, HB8.out⟩

end Go.Proofs.YtfdapfegidbijaaDoor
