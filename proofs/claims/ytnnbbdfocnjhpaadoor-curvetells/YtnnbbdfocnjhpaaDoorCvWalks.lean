/- The checks of a lot, and the functions that package curve hands on, by their contracts. -/
import Derived.Test.YtnnbbdfocnjhpaaDoorSumWalks
import Derived.Test.YtnnbbdfocnjhpaaDoorCvFacts
import Derived.Deep.QuietTactic
import Derived.BigQuiet
namespace Go.Proofs.YtnnbbdfocnjhpaaDoor
open Go.RowKit
set_option maxRecDepth 100000

def lotV (x : Cv.Lot) : Value := .agg #[.int .i64 x.id, .int .i64 x.ow, .int .i64 x.sd, .int .i64 x.pr, .int .i64 x.q]

set_option maxHeartbeats 1000000 in
theorem lotOk_any (x : Cv.Lot) (w : World) : Calls Tryd.prog 80 #[lotV x] w fun e w' => e = .returned (.bool (Cv.ok x)) ∧ Below w.heap.size w w' := by
  show Calls Tryd.prog 80 #[.agg #[.int .i64 x.id, .int .i64 x.ow, .int .i64 x.sd, .int .i64 x.pr, .int .i64 x.q]] w _
  go_enter Tryd.func80, Tryd.ntmps80
  go_wp2_with (go_at_call 95; refine (within_any _ _ _ _).mono ?_; rintro e w' ⟨rfl, rfl⟩)
  all_goals go_ret
  all_goals
    refine ⟨ret_bool ?_, (Below.refl _ _).alloc (Nat.le_refl _) _⟩
    go_light
    simp_all [Cv.ok]

set_option maxHeartbeats 1000000 in
theorem dClos_any (x : Cv.Lot) (B : Nat) (p : Int) (w : World) (hc : w.cell? ⟨B, 0, none⟩ = some (.int .i64 p)) :
    Calls Tryd.prog 83 #[lotV x, .pointer (some ⟨B, 0, none⟩)] w fun e w' => e = .returned (.bool (Cv.dB p x)) ∧ Below w.heap.size w w' := by
  have hB : B < w.heap.size := World.block_lt_of_cell? _ _ hc
  have hne : B ≠ w.heap.size := by omega
  show Calls Tryd.prog 83 #[.agg #[.int .i64 x.id, .int .i64 x.ow, .int .i64 x.sd, .int .i64 x.pr, .int .i64 x.q], .pointer (some ⟨B, 0, none⟩)] w _
  go_enter Tryd.func83, Tryd.ntmps83
  go_wp2
  all_goals go_ret
  all_goals
    refine ⟨ret_bool ?_, (Below.refl _ _).alloc (Nat.le_refl _) _⟩
    simp_all [Cv.dB]

set_option maxHeartbeats 1000000 in
theorem sClos_any (x : Cv.Lot) (B : Nat) (p : Int) (w : World) (hc : w.cell? ⟨B, 0, none⟩ = some (.int .i64 p)) :
    Calls Tryd.prog 84 #[lotV x, .pointer (some ⟨B, 0, none⟩)] w fun e w' => e = .returned (.bool (Cv.sB p x)) ∧ Below w.heap.size w w' := by
  have hB : B < w.heap.size := World.block_lt_of_cell? _ _ hc
  have hne : B ≠ w.heap.size := by omega
  show Calls Tryd.prog 84 #[.agg #[.int .i64 x.id, .int .i64 x.ow, .int .i64 x.sd, .int .i64 x.pr, .int .i64 x.q], .pointer (some ⟨B, 0, none⟩)] w _
  go_enter Tryd.func84, Tryd.ntmps84
  go_wp2
  all_goals go_ret
  all_goals
    refine ⟨ret_bool ?_, (Below.refl _ _).alloc (Nat.le_refl _) _⟩
    simp_all [Cv.sB]

set_option maxHeartbeats 1000000 in
theorem idClos_any (x : Cv.Lot) (B : Nat) (id : Int) (w : World) (hc : w.cell? ⟨B, 0, none⟩ = some (.int .i64 id)) :
    Calls Tryd.prog 100 #[lotV x, .pointer (some ⟨B, 0, none⟩)] w fun e w' => e = .returned (.bool (x.id == id)) ∧ Below w.heap.size w w' := by
  have hB : B < w.heap.size := World.block_lt_of_cell? _ _ hc
  have hne : B ≠ w.heap.size := by omega
  show Calls Tryd.prog 100 #[.agg #[.int .i64 x.id, .int .i64 x.ow, .int .i64 x.sd, .int .i64 x.pr, .int .i64 x.q], .pointer (some ⟨B, 0, none⟩)] w _
  go_enter Tryd.func100, Tryd.ntmps100
  go_wp2
  all_goals go_ret
  all_goals
    refine ⟨ret_bool ?_, (Below.refl _ _).alloc (Nat.le_refl _) _⟩
    first | rfl | simp_all

theorem better_any (side p than : Int) (w : World) : Calls Tryd.prog 88 #[.int .i64 side, .int .i64 p, .int .i64 than] w fun e w' => e = .returned (.bool (Cv.better side p than)) ∧ w' = w := by
  go_enter Tryd.func88, Tryd.ntmps88
  go_wp2
  all_goals go_ret
  all_goals
    refine ⟨ret_bool ?_, rfl⟩
    simp_all [Cv.better]

end Go.Proofs.YtnnbbdfocnjhpaaDoor
