/- curved: a closed fact. -/
import Derived.Test.YtfdapfegidbijaaDoorCvOwn
namespace Go.Proofs.YtfdapfegidbijaaDoor
open Go.RowKit
set_option maxRecDepth 100000

def three : List Cv.Lot := [⟨1, 0, 0, 10, 5⟩, ⟨2, 0, 0, 8, 3⟩, ⟨3, 0, 1, 9, 4⟩]
theorem three_well : Cv.Well three := by
  refine ⟨by decide, ?_⟩
  intro i hi
  have hi : i < 3 := hi
  match i, hi with
  | 0, _ => decide
  | 1, _ => decide
  | 2, _ => decide

set_option maxHeartbeats 1000000 in
theorem curved_any (T : TypeId) (v1 v6 v7 : Value) (w : World) (he : Hid (Er w T v1 v6 v7)) :
    Calls Tryd.prog 9 #[] w fun e w' => e = .returned (.bool true) ∧ Below w.heap.size w w' := by
  go_enter Tryd.func9, Tryd.ntmps9
  go_wp2_with fail
  have HB1 : Hid (Below w.heap.size w (w.alloc (.cells #[.int .i64 1, .int .i64 0, .int .i64 0, .int .i64 10, .int .i64 5, .int .i64 2, .int .i64 0, .int .i64 0, .int .i64 8, .int .i64 3, .int .i64 3, .int .i64 0, .int .i64 1, .int .i64 9, .int .i64 4] 44))) := (Below.refl _ _).alloc (Nat.le_refl _) _
  have HL1 : Hid (Lots (w.alloc (.cells #[.int .i64 1, .int .i64 0, .int .i64 0, .int .i64 10, .int .i64 5, .int .i64 2, .int .i64 0, .int .i64 0, .int .i64 8, .int .i64 3, .int .i64 3, .int .i64 0, .int .i64 1, .int .i64 9, .int .i64 4] 44)) (.slice (some ⟨w.heap.size, 0, none⟩) 3 3) three) := by
    refine .inr ⟨w.heap.size, 0, 3, rfl, by decide, fun i hi => ?_⟩
    have hi : i < 3 := hi
    match i, hi with
    | 0, _ => refine ⟨?_, ?_, ?_, ?_, ?_⟩ <;> (rw [World.cell?_alloc_new]; rfl)
    | 1, _ => refine ⟨?_, ?_, ?_, ?_, ?_⟩ <;> (rw [World.cell?_alloc_new]; rfl)
    | 2, _ => refine ⟨?_, ?_, ?_, ?_, ?_⟩ <;> (rw [World.cell?_alloc_new]; rfl)
  generalize w.alloc (.cells #[.int .i64 1, .int .i64 0, .int .i64 0, .int .i64 10, .int .i64 5, .int .i64 2, .int .i64 0, .int .i64 0, .int .i64 8, .int .i64 3, .int .i64 3, .int .i64 0, .int .i64 1, .int .i64 9, .int .i64 4] 44) = w1 at *
  generalize hv : Value.slice (some ⟨w.heap.size, 0, none⟩) 3 3 = v at *
  refine (demand_any v three 9 T v1 v6 v7 w1 HL1.out (he.out.later HB1.out) three_well).mono ?_
  rintro e w2 ⟨rfl, hb2⟩
  have HB2 := hide (HB1.out.trans (hb2.mono HB1.out.size)); have HL2 := hide (HL1.out.later hb2)
  clear hb2 HB1 HL1
  rw [show Cv.demand three 9 = 5 by decide]
  simp only []
  go_wp2_with fail
  refine (demand_any v three 8 T v1 v6 v7 w2 HL2.out (he.out.later HB2.out) three_well).mono ?_
  rintro e w3 ⟨rfl, hb3⟩
  have HB3 := hide (HB2.out.trans (hb3.mono HB2.out.size)); have HL3 := hide (HL2.out.later hb3)
  clear hb3 HB2 HL2
  rw [show Cv.demand three 8 = 8 by decide]
  simp only []
  go_wp2_with fail
  refine (volume_any v three 9 T v1 v6 v7 w3 HL3.out (he.out.later HB3.out) three_well).mono ?_
  rintro e w4 ⟨rfl, hb4⟩
  have HB4 := hide (HB3.out.trans (hb4.mono HB3.out.size)); have HL4 := hide (HL3.out.later hb4)
  clear hb4 HB3 HL3
  rw [show Cv.volume three 9 = 4 by decide]
  simp only []
  go_wp2_with fail
  refine (cross_any v three T v1 v6 v7 w4 HL4.out (he.out.later HB4.out) three_well).mono ?_
  rintro e w5 ⟨rfl, hb5⟩
  have HB5 := hide (HB4.out.trans (hb5.mono HB4.out.size))
  clear hb5 HB4 HL4
  rw [show Cv.cross three = true by decide]
  simp only []
  go_wp2
  go_ret
  exact ⟨rfl, HB5.out⟩
end Go.Proofs.YtfdapfegidbijaaDoor
