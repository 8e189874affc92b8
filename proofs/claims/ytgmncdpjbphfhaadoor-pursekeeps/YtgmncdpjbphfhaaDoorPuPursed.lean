/- The closed fact 'pursed' by its contract. -/
import Derived.Test.YtgmncdpjbphfhaaDoorPuGive
namespace Go.Proofs.YtgmncdpjbphfhaaDoor
open Go.RowKit
set_option maxRecDepth 100000

def pg : Pu.Gift := ⟨1, 100, 0, 0, 0⟩
def px : Cv.Lot := ⟨1, 1, 0, 10, 3⟩
def pf1 : Nat → Int := Pu.giveF (fun _ => 0) pg
def pf2 : Nat → Int := Pu.holdF pf1 0 px
theorem pf1_code : Pu.giveC (fun _ => 0) pg = 0 := by decide
theorem pf2_code : Pu.holdC pf1 0 px = 0 := by decide
theorem field47_0 (a b c d e f g h : Int) (w : World) : (Instr.field 47 (.agg #[.int .i64 a, .int .i64 b, .int .i64 c, .int .i64 d, .int .i64 e, .int .i64 f, .int .i64 g, .int .i64 h]) 0).run Tryd.prog w = .ok (.int .i64 a) w := by kernel_rfl
theorem field47_1 (a b c d e f g h : Int) (w : World) : (Instr.field 47 (.agg #[.int .i64 a, .int .i64 b, .int .i64 c, .int .i64 d, .int .i64 e, .int .i64 f, .int .i64 g, .int .i64 h]) 1).run Tryd.prog w = .ok (.int .i64 b) w := by kernel_rfl
theorem pf2_of : ofV pf2 1 = .agg #[.int .i64 100, .int .i64 30, .int .i64 0, .int .i64 0, .int .i64 0, .int .i64 0, .int .i64 0, .int .i64 0] := by rfl

set_option maxHeartbeats 1000000 in
theorem pursed_any (v : Nat → Value) (w : World) (he : Hid (PEr w v)) :
    Calls Tryd.prog 6 #[] w fun e w' => e = .returned (.bool true) ∧ Below w.heap.size w w' := by
  have hb0 : Below w.heap.size w (w.alloc (.cells (row fun _ => 0) 55)) := (Below.refl _ _).alloc (Nat.le_refl _) _
  have HB0 := hide hb0
  have HG := hide (give_any w.heap.size pg (fun _ => 0) v _ (he.out.later hb0) (Purse.new w 55 _) Pu.good_zero)
  rw [pf1_code] at HG
  unfold giftV pg at HG
  clear hb0
  go_enter Tryd.func6, Tryd.ntmps6
  go_wp2_with fail
  refine (new_any w).mono ?_
  rintro e w1 ⟨rfl, rfl⟩
  simp only []
  go_wp2_with fail
  refine HG.out.mono ?_
  rintro e w2 ⟨rfl, hp2, hs2⟩
  have HB2 : Hid (Below w.heap.size w w2) := HB0.out.trans (hs2.below (by simp) (Nat.le_refl _))
  have HP2 : Hid (Purse w2 55 w.heap.size pf1) := hp2
  have HH := hide (hold_any w.heap.size 0 px pf1 v w2 (he.out.later HB2.out) HP2.out (Pu.good_give Pu.good_zero pg))
  rw [pf2_code] at HH
  unfold lotV px at HH
  clear hp2 hs2 HG HB0
  unfold errE
  simp only []
  go_wp2_with fail
  refine HH.out.mono ?_
  rintro e w3 ⟨rfl, hp3, hs3⟩
  have HB3 : Hid (Below w.heap.size w w3) := HB2.out.trans (hs3.below HB2.out.size (Nat.le_refl _))
  have HP3 : Hid (Purse w3 55 w.heap.size pf2) := hp3
  have HO := hide (of_any w.heap.size 1 pf2 w3 HP3.out)
  rw [pf2_of] at HO
  clear hp3 hs3 HH HB2 HP2
  have f0 := @field47_0
  have f1 := @field47_1
  unfold errE
  simp only []
  go_wp2_with fail
  refine HO.out.mono ?_
  rintro e w4 ⟨rfl, hb4⟩
  have HB4 : Hid (Below w.heap.size w w4) := HB3.out.trans (hb4.mono HB3.out.size)
  have HO := hide (of_any w.heap.size 1 pf2 w4 (HP3.out.lat hb4))
  rw [pf2_of] at HO
  clear hb4
  simp only []
  go_wp2_with fail
  refine HO.out.mono ?_
  rintro e w5 ⟨rfl, hb5⟩
  have HB5 : Hid (Below w.heap.size w w5) := HB4.out.trans (hb5.mono HB4.out.size)
  clear hb5
  simp only []
  go_wp2
  go_ret
  exact ⟨rfl, HB5.out⟩
end Go.Proofs.YtgmncdpjbphfhaaDoor
