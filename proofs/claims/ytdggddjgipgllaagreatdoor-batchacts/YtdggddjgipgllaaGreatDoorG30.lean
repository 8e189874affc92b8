/- The document's purses: Trade for every item; coded and sameHas by their contracts. -/
import Derived.Test.YtdggddjgipgllaaGreatDoorG03
import Derived.Test.YtdggddjgipgllaaGreatDoorG29
import Derived.Test.YtdggddjgipgllaaGreatDoorG17
import Derived.Test.YtdggddjgipgllaaGreatDoorG28
namespace Go.Proofs.YtdggddjgipgllaaGreatDoor
open Go.RowKit
set_option maxRecDepth 100000

set_option maxHeartbeats 2000000 in
theorem mtrade_out (p : Nat) (item : Int) (b s : Cv.Lot) (price qty : Int) (f : Nat → Int) (w : World) (hp : Hid (Purse w 131 p f)) (hin : Wi.withinB item 0 2 = false) :
  Calls Tryz.prog 71 #[.pointer (some ⟨p, 0, none⟩), .int .i64 item, lotV b, lotV s, .int .i64 price, .int .i64 qty] w fun e w' => e = .returned (.int .i64 (p_errNo (Pu.tradeC f item b s price qty))) ∧ Purse w' 131 p (Pu.tradeF f item b s price qty) ∧ Save w w' p := by
 show Calls Tryz.prog 71 #[.pointer (some ⟨p, 0, none⟩), .int .i64 item, .agg #[.int .i64 b.id, .int .i64 b.ow, .int .i64 b.sd, .int .i64 b.pr, .int .i64 b.q], .agg #[.int .i64 s.id, .int .i64 s.ow, .int .i64 s.sd, .int .i64 s.pr, .int .i64 s.q], .int .i64 price, .int .i64 qty] w _
 obtain ⟨W, hWd⟩ : ∃ W, (w.alloc (.cells #[.int .i64 b.id, .int .i64 b.ow, .int .i64 b.sd, .int .i64 b.pr, .int .i64 b.q] 56)).alloc (.cells #[.int .i64 s.id, .int .i64 s.ow, .int .i64 s.sd, .int .i64 s.pr, .int .i64 s.q] 56) = W := ⟨_, rfl⟩
 have hb1 : Below w.heap.size w (w.alloc (.cells #[.int .i64 b.id, .int .i64 b.ow, .int .i64 b.sd, .int .i64 b.pr, .int .i64 b.q] 56)) := bal
 have hb2 : Below w.heap.size w W := by rw [← hWd]; exact hb1.alloc hb1.size _
 have hX0 : W.heap[w.heap.size]? = some (.cells (lotA b) 56 (0, 0)) := by
  rw [← hWd]
  exact (Below.heap_alloc _ _ _ (by simp)).trans (heap_alloc_new _ _)
 have hY0 : W.heap[w.heap.size + 1]? = some (.cells (lotA s) 56 (0, 0)) := by
  rw [← hWd]
  have := heap_alloc_new (w.alloc (.cells #[.int .i64 b.id, .int .i64 b.ow, .int .i64 b.sd, .int .i64 b.pr, .int .i64 b.q] 56)) (.cells #[.int .i64 s.id, .int .i64 s.ow, .int .i64 s.sd, .int .i64 s.pr, .int .i64 s.q] 56)
  rw [show (w.alloc (.cells #[.int .i64 b.id, .int .i64 b.ow, .int .i64 b.sd, .int .i64 b.pr, .int .i64 b.q] 56)).heap.size = w.heap.size + 1 by simp] at this
  exact this
 have HX0 := hide hX0; have HY0 := hide hY0; have HBW := hide hb2
 have HI := hide (isItem_any item W)
 have HWd := hide hWd
 have HP1 := hide (hp.out.lat hb2)
 have HTB : Hid (∀ c, Pu.tchk item b s price qty = c → ¬ c = 0 → Pu.tradeC f item b s price qty = c ∧ Pu.tradeF f item b s price qty = f) := fun c h h0 => by
  have e : Pu.tradeC f item b s price qty = c := by unfold Pu.tradeC; rw [if_neg (by rw [h]; exact h0), h]
  exact ⟨e, by unfold Pu.tradeF; rw [e, if_neg h0]⟩
 clear hb1 hb2 hX0 hY0 hWd
 have HA := hide (HTB.out 1 (by unfold Pu.tchk Pu.well; rw [if_neg (by rw [hin]; simp)]) (by decide))
 rw [hin] at HI
 clear hin
 go_enter Tryz.func71, Tryz.ntmps71
 go_wp2_with fail
 rw [HWd.out]
 refine HI.out.mono ?_
 rintro e w2 ⟨rfl, rfl⟩
 simp only []
 go_wp2
 go_quiet (fail)
 go_wp2
 go_ret
 exact ⟨by rw [HA.out.1]; rfl, by rw [HA.out.2]; exact HP1.out.lat (bdn (Below.refl _ _) _), Save.of_below (bdn HBW.out _) p⟩

theorem mtrade_any (p : Nat) (item : Int) (b s : Cv.Lot) (price qty : Int) (f : Nat → Int) (w : World) (hp : Hid (Purse w 131 p f)) (hg : Hid (Pu.Good f)) :
  Calls Tryz.prog 71 #[.pointer (some ⟨p, 0, none⟩), .int .i64 item, lotV b, lotV s, .int .i64 price, .int .i64 qty] w fun e w' => e = .returned (.int .i64 (p_errNo (Pu.tradeC f item b s price qty))) ∧ Purse w' 131 p (Pu.tradeF f item b s price qty) ∧ Save w w' p := by
 cases h : Wi.withinB item 0 2 with
 | false => exact mtrade_out p item b s price qty f w hp h
 | true =>
  have hi : item = 0 ∨ item = 1 ∨ item = 2 := by
   simp only [Wi.withinB, Bool.and_eq_true, decide_eq_true_eq] at h
   omega
  rcases hi with rfl | rfl | rfl
  ·exact mtrade_0 p b s price qty f w hp hg
  ·exact mtrade_1 p b s price qty f w hp hg
  ·exact mtrade_2 p b s price qty f w hp hg

def adV (ad : Nat → Addr) (c : Nat) : Value := .pointer (some (ad c))
theorem p_coded_any (ad : Nat → Addr) (c : Nat) (w : World) (hs : Hid (Sent w ad)) (hc : c < 12) :
  Calls Tryz.prog 27 #[errE (adV ad) c, .int .i64 (p_errNo c)] w fun e w' => e = .returned (.bool true) ∧ Below w.heap.size w w' := by
 have HC : Hid (Calls Tryz.prog 58 #[errE (adV ad) c] w fun e w' => e = .returned (.tuple #[.int .i64 (p_errNo c), .int .i64 (-1)]) ∧ Below w.heap.size w w') := by
  show Calls _ _ _ _ _
  match c, hc with
  | 0, _ =>
   refine (code_nil w).mono ?_
   rintro e w' ⟨rfl, rfl⟩
   exact ⟨rfl, Below.refl _ _⟩
  | d + 1, hd =>
   refine (code_sent (d + 1) hd ad w hs.out).mono ?_
   rintro e w' ⟨rfl, hb⟩
   refine ⟨?_, hb⟩
   rw [show p_errNo (d + 1) = ((d + 1 : Nat) : Int) + 1 by unfold p_errNo; rw [if_neg (by omega)]]
 generalize errE (adV ad) c = ev at *
 generalize p_errNo c = en at *
 go_enter Tryz.func27, Tryz.ntmps27
 go_wp2_with fail
 refine HC.out.mono ?_
 rintro e w2 ⟨rfl, hb2⟩
 have HB := hide hb2
 clear hb2 HC
 simp only []
 go_wp2
 go_ret
 exact ⟨rfl, HB.out⟩

set_option maxHeartbeats 1000000 in
theorem same_any (a b c d e f g h : Int) (w : World) :
  Calls Tryz.prog 73 #[.agg #[.int .i64 a, .int .i64 b, .int .i64 c, .int .i64 d, .int .i64 e, .int .i64 f, .int .i64 g, .int .i64 h], .agg #[.int .i64 a, .int .i64 b, .int .i64 c, .int .i64 d, .int .i64 e, .int .i64 f, .int .i64 g, .int .i64 h]] w fun r w' => r = .returned (.bool true) ∧ Below w.heap.size w w' := by
 have q1 : ∀ W, (binOp .eql 41 (.agg #[.int .i64 c, .int .i64 d, .int .i64 e]) (.agg #[.int .i64 c, .int .i64 d, .int .i64 e])).run Tryz.prog W = .ok (.bool true) W := fun W => by rw [eql27]; simp
 have q2 : ∀ W, (binOp .eql 41 (.agg #[.int .i64 f, .int .i64 g, .int .i64 h]) (.agg #[.int .i64 f, .int .i64 g, .int .i64 h])).run Tryz.prog W = .ok (.bool true) W := fun W => by rw [eql27]; simp
 have hb0 : Below w.heap.size w (w.alloc (.cells #[.int .i64 a, .int .i64 b, .int .i64 c, .int .i64 d, .int .i64 e, .int .i64 f, .int .i64 g, .int .i64 h] 60)) := bal
 have HB : Hid (Below w.heap.size w ((w.alloc (.cells #[.int .i64 a, .int .i64 b, .int .i64 c, .int .i64 d, .int .i64 e, .int .i64 f, .int .i64 g, .int .i64 h] 60)).alloc (.cells #[.int .i64 a, .int .i64 b, .int .i64 c, .int .i64 d, .int .i64 e, .int .i64 f, .int .i64 g, .int .i64 h] 128))) := hb0.alloc hb0.size _
 clear hb0
 go_enter Tryz.func73, Tryz.ntmps73
 go_wp2
 go_ret
 exact ⟨rfl, HB.out⟩
end Go.Proofs.YtdggddjgipgllaaGreatDoor
