/- The checks of a lot, and the functions that package curve hands on, by their contracts. -/
import Derived.Test.YtbcinejhipmomaaDoorSumWalks
import Derived.Test.YtbcinejhipmomaaDoorCvFacts
import Derived.Deep.QuietTactic
import Derived.BigQuiet
namespace Go.Proofs.YtbcinejhipmomaaDoor
open Go.RowKit
set_option maxRecDepth 100000

def lotV (x : Cv.Lot) : Value := .agg #[.int .i64 x.id, .int .i64 x.ow, .int .i64 x.sd, .int .i64 x.pr, .int .i64 x.q]

set_option maxHeartbeats 1000000 in
theorem lotOk_any (x : Cv.Lot) (w : World) : Calls Tryd.prog 70 #[lotV x] w fun e w' => e = .returned (.bool (Cv.ok x)) ∧ Below w.heap.size w w' := by
  show Calls Tryd.prog 70 #[.agg #[.int .i64 x.id, .int .i64 x.ow, .int .i64 x.sd, .int .i64 x.pr, .int .i64 x.q]] w _
  go_enter Tryd.func70, Tryd.ntmps70
  go_wp2_with (first | (go_at_call 88; refine (isClB_any _ _).mono ?_; rintro e w' ⟨rfl, rfl⟩) | (go_at_call 56; refine (within_any _ _ _ _).mono ?_; rintro e w' ⟨rfl, rfl⟩))
  all_goals go_ret
  all_goals
    refine ⟨ret_bool ?_, (Below.refl _ _).alloc (Nat.le_refl _) _⟩
    go_light
    simp_all [Cv.ok]

set_option maxHeartbeats 1000000 in
theorem dClos_any (x : Cv.Lot) (B : Nat) (p : Int) (w : World) (hc : w.cell? ⟨B, 0, none⟩ = some (.int .i64 p)) :
    Calls Tryd.prog 51 #[lotV x, .pointer (some ⟨B, 0, none⟩)] w fun e w' => e = .returned (.bool (Cv.dB p x)) ∧ Below w.heap.size w w' := by
  have hB : B < w.heap.size := World.block_lt_of_cell? _ _ hc
  have hne : B ≠ w.heap.size := by omega
  show Calls Tryd.prog 51 #[.agg #[.int .i64 x.id, .int .i64 x.ow, .int .i64 x.sd, .int .i64 x.pr, .int .i64 x.q], .pointer (some ⟨B, 0, none⟩)] w _
  go_enter Tryd.func51, Tryd.ntmps51
  go_wp2
  all_goals go_ret
  all_goals
    refine ⟨ret_bool ?_, (Below.refl _ _).alloc (Nat.le_refl _) _⟩
    simp_all [Cv.dB]

set_option maxHeartbeats 1000000 in
theorem sClos_any (x : Cv.Lot) (B : Nat) (p : Int) (w : World) (hc : w.cell? ⟨B, 0, none⟩ = some (.int .i64 p)) :
    Calls Tryd.prog 52 #[lotV x, .pointer (some ⟨B, 0, none⟩)] w fun e w' => e = .returned (.bool (Cv.sB p x)) ∧ Below w.heap.size w w' := by
  have hB : B < w.heap.size := World.block_lt_of_cell? _ _ hc
  have hne : B ≠ w.heap.size := by omega
  show Calls Tryd.prog 52 #[.agg #[.int .i64 x.id, .int .i64 x.ow, .int .i64 x.sd, .int .i64 x.pr, .int .i64 x.q], .pointer (some ⟨B, 0, none⟩)] w _
  go_enter Tryd.func52, Tryd.ntmps52
  go_wp2
  all_goals go_ret
  all_goals
    refine ⟨ret_bool ?_, (Below.refl _ _).alloc (Nat.le_refl _) _⟩
    simp_all [Cv.sB]

set_option maxHeartbeats 1000000 in
theorem idClos_any (x : Cv.Lot) (B : Nat) (id : Int) (w : World) (hc : w.cell? ⟨B, 0, none⟩ = some (.int .i64 id)) :
    Calls Tryd.prog 90 #[lotV x, .pointer (some ⟨B, 0, none⟩)] w fun e w' => e = .returned (.bool (x.id == id)) ∧ Below w.heap.size w w' := by
  have hB : B < w.heap.size := World.block_lt_of_cell? _ _ hc
  have hne : B ≠ w.heap.size := by omega
  show Calls Tryd.prog 90 #[.agg #[.int .i64 x.id, .int .i64 x.ow, .int .i64 x.sd, .int .i64 x.pr, .int .i64 x.q], .pointer (some ⟨B, 0, none⟩)] w _
  go_enter Tryd.func90, Tryd.ntmps90
  go_wp2
  all_goals go_ret
  all_goals
    refine ⟨ret_bool ?_, (Below.refl _ _).alloc (Nat.le_refl _) _⟩
    first | rfl | simp_all

theorem better_any (side p than : Int) (w : World) : Calls Tryd.prog 61 #[.int .i64 side, .int .i64 p, .int .i64 than] w fun e w' => e = .returned (.bool (Cv.better side p than)) ∧ w' = w := by
  go_enter Tryd.func61, Tryd.ntmps61
  go_wp2
  all_goals go_ret
  all_goals
    refine ⟨ret_bool ?_, rfl⟩
    simp_all [Cv.better]

end Go.Proofs.YtbcinejhipmomaaDoor
