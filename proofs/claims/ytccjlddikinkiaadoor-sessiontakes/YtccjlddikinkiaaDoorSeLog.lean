/- A login; what a number of an error is held against. -/
import Derived.Test.YtccjlddikinkiaaDoorSeTake2
namespace Go.Proofs.YtccjlddikinkiaaDoor
open Go.RowKit
set_option maxRecDepth 100000
section
variable {T : Nat → Value}
theorem log_take (w : World) (he : Hid (SEr w T)) : Calls Tryd.prog 8 #[.agg #[.bool false, .int .i64 0, .int .i64 0], .agg #[.int .u8 108, .int .i64 0, .int .i64 1, .int .i64 0, .int .i64 0, .int .i64 0, .int .i64 0, .int .i64 0], .int .i64 9] w fun e w' => e = .returned (.tuple #[.agg #[.bool true, .int .i64 2, .int .i64 9], .nilIface]) ∧ Below w.heap.size w w' :=
  take_any (T := T) false 0 0 9 ⟨108, 0, 1, 0, 0, 0, 0, 0⟩ w he
theorem log_late (w : World) (now : Int) : Calls Tryd.prog 6 #[.agg #[.bool true, .int .i64 2, .int .i64 9], .int .i64 now] w fun e w' => e = .returned (.bool (Se.late true 9 now)) ∧ Below w.heap.size w w' := late_any true 2 9 now w (by decide)
set_option maxHeartbeats 2000000 in
theorem logged_any (w : World) (he : Hid (SEr w T)) : Calls Tryd.prog 5 #[] w fun e w' => e = .returned (.bool true) ∧ Below w.heap.size w w' := by
  have HT := hide (log_take w he)
  have HL := hide (fun W => log_late W 15)
  have HM := hide (fun W => log_late W 14)
  rw [show Se.late true 9 15 = true from rfl] at HL
  rw [show Se.late true 9 14 = false from rfl] at HM
  go_enter Tryd.func5, Tryd.ntmps5
  go_wp2_with fail
  refine HT.out.mono ?_
  rintro e w2 ⟨rfl, hb2⟩
  have HB2 := hide hb2
  clear hb2
  simp only []
  go_wp2_with fail
  refine (HL.out _).mono ?_
  rintro e w3 ⟨rfl, hb3⟩
  have HR := hide (row_later hb3 (heap_alloc_new w2 (.cells #[.bool true, .int .i64 2, .int .i64 9] 26)))
  have HB3 : Hid (Below w.heap.size w w3) := (HB2.out.alloc HB2.out.size _).trans (hb3.mono (by have := HB2.out.size; simp; omega))
  have c0 : w3.cell? ⟨w2.heap.size, 0, none⟩ = some (.bool true) := by rw [cell_of_row _ _ 0 _ _ _ HR.out]; rfl
  have c1 : w3.cell? ⟨w2.heap.size, 1, none⟩ = some (.int .i64 2) := by rw [cell_of_row _ _ 1 _ _ _ HR.out]; rfl
  have c2 : w3.cell? ⟨w2.heap.size, 2, none⟩ = some (.int .i64 9) := by rw [cell_of_row _ _ 2 _ _ _ HR.out]; rfl
  clear hb3 HB2
  simp only []
  go_wp2_with fail
  refine (HM.out _).mono ?_
  rintro e w4 ⟨rfl, hb4⟩
  have HB4 : Hid (Below w.heap.size w w4) := HB3.out.trans (hb4.mono HB3.out.size)
  clear hb4
  simp only []
  go_wp2
  go_ret
  exact ⟨rfl, HB4.out⟩
end
end Go.Proofs.YtccjlddikinkiaaDoor
