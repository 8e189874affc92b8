/- The small functions of package band, by their contracts. -/
import Derived.Test.YtomiebjfpfddhaaDoorBdFacts
import Derived.Test.YtomiebjfpfddhaaDoorCvCheck
namespace Go.Proofs.YtomiebjfpfddhaaDoor
open Go.RowKit
set_option maxRecDepth 100000

theorem apartN_any (a b : Int) (w : World) (h1 : -1000000 ≤ a) (h2 : a ≤ 1000000) (h3 : -1000000 ≤ b) (h4 : b ≤ 1000000) : Calls Tryd.prog 37 #[.int .i64 a, .int .i64 b] w fun e w' => e = .returned (.int .i64 (Cv.size (a - b))) ∧ w' = w := by
  go_enter Tryd.func37, Tryd.ntmps37
  go_wp2
  all_goals go_ret
  all_goals exact ⟨ret_int (by unfold Cv.size; omega), rfl⟩

theorem isPrice_any (n : Int) (w : World) : Calls Tryd.prog 53 #[.int .i64 n] w fun e w' => e = .returned (.bool (Wi.withinB n 1 1000)) ∧ w' = w := by
  go_enter Tryd.func53, Tryd.ntmps53
  go_wp2_with (go_at_call 34; refine (within_any _ _ _ _).mono ?_; rintro e w' ⟨rfl, rfl⟩)
  go_ret
  exact ⟨rfl, rfl⟩

/-- what ErrBound holds -/
structure BEr (w : World) (T : TypeId) (v1 : Value) : Prop where
  c1 : w.cell? ⟨0, 0, none⟩ = some (.iface T v1)
theorem BEr.later {w w' : World} {T : TypeId} {v1 : Value} (h : BEr w T v1) (hb : Below w.heap.size w w') : BEr w' T v1 := ⟨cell_later hb h.c1⟩
def bandV (r l : Int) : Value := .agg #[.int .i64 r, .int .i64 l]
def okE (T : TypeId) (v : Value) (b : Bool) : Value := if b = true then .nilIface else .iface T v

set_option maxHeartbeats 1000000 in
theorem bcheck_any (r l : Int) (T : TypeId) (v1 : Value) (w : World) (he : Hid (BEr w T v1)) :
    Calls Tryd.prog 29 #[bandV r l] w fun e w' => e = .returned (okE T v1 (Bd.bOk r l)) ∧ Below w.heap.size w w' := by
  show Calls Tryd.prog 29 #[.agg #[.int .i64 r, .int .i64 l]] w _
  have hb0 : Below w.heap.size w (w.alloc (.cells #[.int .i64 r, .int .i64 l] 45)) := (Below.refl _ _).alloc (Nat.le_refl _) _
  have e1 := (he.out.later hb0).c1
  have HB := hide hb0
  clear hb0
  go_enter Tryd.func29, Tryd.ntmps29
  cases h1 : Wi.withinB r 1 1000 <;> cases h2 : Wi.withinB l 0 1000
  all_goals
    go_wp2_with (first | (go_at_call 53; refine (isPrice_any _ _).mono ?_; rintro e w' ⟨rfl, rfl⟩; rw [h1]) | (go_at_call 34; refine (within_any _ _ _ _).mono ?_; rintro e w' ⟨rfl, rfl⟩; rw [h2]))
    all_goals go_ret
    all_goals exact ⟨by simp [okE, Bd.bOk, h1, h2], HB.out⟩

set_option maxHeartbeats 1000000 in
theorem rcheck_any (r l : Int) (T : TypeId) (v1 : Value) (w : World) (he : Hid (BEr w T v1)) :
    Calls Tryd.prog 30 #[bandV r l] w fun e w' => e = .returned (okE T v1 (Bd.rOk r l)) ∧ Below w.heap.size w w' := by
  show Calls Tryd.prog 30 #[.agg #[.int .i64 r, .int .i64 l]] w _
  have hb0 : Below w.heap.size w (w.alloc (.cells #[.int .i64 r, .int .i64 l] 47)) := (Below.refl _ _).alloc (Nat.le_refl _) _
  have e1 := (he.out.later hb0).c1
  have HB := hide hb0
  clear hb0
  go_enter Tryd.func30, Tryd.ntmps30
  cases h1 : Wi.withinB r 0 100 <;> cases h2 : Wi.withinB l 1 1000
  all_goals
    go_wp2_with (go_at_call 34; refine (within_any _ _ _ _).mono ?_; rintro e w' ⟨rfl, rfl⟩; first | rw [h1] | rw [h2])
    all_goals go_ret
    all_goals exact ⟨by simp [okE, Bd.rOk, h1, h2], HB.out⟩

set_option maxHeartbeats 1000000 in
theorem ruleIn_any (wd h r p : Int) (w : World) (h1 : 1 ≤ r) (h2 : r ≤ 1000) (h3 : 0 ≤ wd) (h4 : wd ≤ 100) (h5 : 1 ≤ p) (h6 : p ≤ 1000) :
    Calls Tryd.prog 32 #[bandV wd h, .int .i64 r, .int .i64 p] w fun e w' => e = .returned (.bool (Bd.inB wd r p)) ∧ Below w.heap.size w w' := by
  show Calls Tryd.prog 32 #[.agg #[.int .i64 wd, .int .i64 h], .int .i64 r, .int .i64 p] w _
  have HB : Hid (Below w.heap.size w (w.alloc (.cells #[.int .i64 wd, .int .i64 h] 47))) := (Below.refl _ _).alloc (Nat.le_refl _) _
  have hp := prod_bounds h1 h2 h3 h4
  have w1 : IntKind.i64.wrap (r * wd) = r * wd := IntWalk.i64_in _ (by omega)
  have hs : 0 ≤ Cv.size (p - r) ∧ Cv.size (p - r) ≤ 1000 := by unfold Cv.size; omega
  have w2 : IntKind.i64.wrap (Cv.size (p - r) * 100) = Cv.size (p - r) * 100 := IntWalk.i64_in _ (by omega)
  have n1 : ¬ wd < -1 := by omega
  have n2 : ¬ 100000 < wd := by omega
  go_enter Tryd.func32, Tryd.ntmps32
  go_wp2_with (go_at_call 37; refine (apartN_any _ _ _ (by omega) (by omega) (by omega) (by omega)).mono ?_; rintro e w' ⟨rfl, rfl⟩)
  all_goals go_ret
  all_goals first | exact ⟨rfl, HB.out⟩ | exact ⟨ret_bool (by simp [Bd.inB]), HB.out⟩
end Go.Proofs.YtomiebjfpfddhaaDoor
