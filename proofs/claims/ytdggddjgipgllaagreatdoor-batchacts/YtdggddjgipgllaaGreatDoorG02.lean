/- What each call of package wire's checks does, for every request: the walks of within, isItem, isKind, isBounded, isShaped and Check. -/
import Derived.Test.YtdggddjgipgllaaGreatDoorRows
import Derived.Test.YtdggddjgipgllaaGreatDoorG01
import Derived.WalkKit
import Derived.WalkSpells
import Derived.WalkLawsBesides
import Derived.Laws.BitsAllLaws
import Derived.Deep.Light
namespace Go.Proofs.YtdggddjgipgllaaGreatDoor
open Go.RowKit

theorem ret_bool {a b : Bool} (h : a = b) : Ending.returned (.bool a) = .returned (.bool b) := by rw [h]
theorem ret_int {k : IntKind} {a b : Int} (h : a = b) : Ending.returned (.int k a) = .returned (.int k b) := by rw [h]

set_option maxHeartbeats 400000 in
theorem within_any (x lo hi : Int) (w : World) :
  Calls Tryz.prog 35 #[.int .i64 x, .int .i64 lo, .int .i64 hi] w fun e w' => e = .returned (.bool (Wi.withinB x lo hi)) ∧ w' = w := by
 by_cases h : lo ≤ x
 ·go_enter Tryz.func35, Tryz.ntmps35
  go_wp2
  go_ret
  exact ⟨ret_bool (by simp [Wi.withinB, h]), rfl⟩
 ·have h' : decide (lo ≤ x) = false := by simpa using h
  go_enter Tryz.func35, Tryz.ntmps35
  go_wp2
  go_ret
  exact ⟨ret_bool (by simp [Wi.withinB, h']), rfl⟩

theorem isClB_any (n : Int) (w : World) : Calls Tryz.prog 54 #[.int .i64 n] w fun e w' => e = .returned (.bool (Wi.withinB n 0 5)) ∧ w' = w := by
  go_enter Tryz.func54, Tryz.ntmps54
  go_wp2_with fail
  refine (within_any n 0 5 w).mono ?_
  rintro e w2 ⟨rfl, rfl⟩
  simp only []
  go_wp2
  go_ret
  exact ⟨rfl, rfl⟩

theorem item_any (n : Int) (w : World) :
  Calls Tryz.prog 130 #[.int .i64 n] w fun e w' => e = .returned (.bool (Wi.withinB n 0 2)) ∧ w' = w := by
 go_enter Tryz.func130, Tryz.ntmps130
 go_wp2_with (go_at_call 35; refine (within_any _ _ _ _).mono ?_; rintro e w' ⟨rfl, rfl⟩)
 go_ret
 exact ⟨rfl, rfl⟩

set_option maxHeartbeats 400000 in
theorem kind_any (k : Int) (w : World) :
  Calls Tryz.prog 109 #[.int .u8 k] w fun e w' => e = .returned (.bool (Wi.kindB k)) ∧ w' = w := by
 go_enter Tryz.func109, Tryz.ntmps109
 go_wp2
 all_goals go_ret
 all_goals simp [Wi.kindB, *]

set_option maxHeartbeats 400000 in
theorem shape_any (k c sq it sd pr q id : Int) (w : World) :
  Calls Tryz.prog 111 #[.agg #[.int .u8 k, .int .i64 c, .int .i64 sq, .int .i64 it, .int .i64 sd, .int .i64 pr, .int .i64 q, .int .i64 id]] w fun e w' => e = .returned (.bool (Wi.shapeB k it sd pr q id)) ∧ Below w.heap.size w w' := by
 go_enter Tryz.func111, Tryz.ntmps111
 go_wp2
 all_goals go_ret
 all_goals
  refine ⟨ret_bool ?_, (Below.refl _ _).alloc (Nat.le_refl _) _⟩
  go_light
  simp [Wi.shapeB, *]

set_option maxHeartbeats 1000000 in
theorem bound_any (k c sq it sd pr q id : Int) (w : World) :
  Calls Tryz.prog 110 #[.agg #[.int .u8 k, .int .i64 c, .int .i64 sq, .int .i64 it, .int .i64 sd, .int .i64 pr, .int .i64 q, .int .i64 id]] w fun e w' => e = .returned (.bool (Wi.boundB k c sq it sd pr q id)) ∧ Below w.heap.size w w' := by
 go_enter Tryz.func110, Tryz.ntmps110
 go_wp2_with (first | (go_at_call 54; refine (isClB_any _ _).mono ?_; rintro e w' ⟨rfl, rfl⟩) | (go_at_call 35; refine (within_any _ _ _ _).mono ?_; rintro e w' ⟨rfl, rfl⟩) | (go_at_call 130; refine (item_any _ _).mono ?_; rintro e w' ⟨rfl, rfl⟩))
 all_goals go_ret
 all_goals
  refine ⟨ret_bool ?_, (Below.refl _ _).alloc (Nat.le_refl _) _⟩
  go_light
  simp_all [Wi.boundB]

theorem bcell {W w1 : World} (hb : Below W.heap.size W w1) : (∀ b o, b < W.heap.size → w1.cell? ⟨b, o, none⟩ = W.cell? ⟨b, o, none⟩) ∧ (∀ b o, b < W.heap.size → w1.frozen? ⟨b, o, none⟩ = W.frozen? ⟨b, o, none⟩) :=
 ⟨fun b o h => hb.cell (p := ⟨b, o, none⟩) h, fun b o h => hb.frozen (p := ⟨b, o, none⟩) h⟩

set_option maxHeartbeats 1000000 in
theorem check_kind (k c sq it sd pr q id : Int) (v3 : Value) (w : World) (hz : 3 < w.heap.size) (h3 : w.cell? ⟨3, 0, none⟩ = some v3) (hk : Wi.kindB k = false) :
  Calls Tryz.prog 76 #[.agg #[.int .u8 k, .int .i64 c, .int .i64 sq, .int .i64 it, .int .i64 sd, .int .i64 pr, .int .i64 q, .int .i64 id]] w fun e w' => e = .returned v3 ∧ Below w.heap.size w w' := by
 go_enter Tryz.func76, Tryz.ntmps76
 go_wp2_with fail
 refine (kind_any _ _).mono ?_
 rintro e w1 ⟨rfl, rfl⟩
 go_wp2
 go_ret
 exact ⟨rfl, (Below.refl _ _).alloc (Nat.le_refl _) _⟩

set_option maxHeartbeats 1000000 in
theorem check_bound (k c sq it sd pr q id : Int) (v1 : Value) (w : World) (hz : 0 < w.heap.size) (h3 : w.cell? ⟨0, 0, none⟩ = some v1) (hk : Wi.kindB k = true) (hbd : Wi.boundB k c sq it sd pr q id = false) :
  Calls Tryz.prog 76 #[.agg #[.int .u8 k, .int .i64 c, .int .i64 sq, .int .i64 it, .int .i64 sd, .int .i64 pr, .int .i64 q, .int .i64 id]] w fun e w' => e = .returned v1 ∧ Below w.heap.size w w' := by
 go_enter Tryz.func76, Tryz.ntmps76
 go_wp2_with fail
 refine (kind_any _ _).mono ?_
 rintro e w1 ⟨rfl, rfl⟩
 go_wp2_with fail
 refine (bound_any _ _ _ _ _ _ _ _ _).mono ?_
 rintro e w1 ⟨rfl, hb1⟩
 obtain ⟨hc1, hf1⟩ := bcell hb1
 have hz1 : w.heap.size < w1.heap.size := by have := hb1.size; simp at this; omega
 have hB1 : Below w.heap.size w w1 := ((Below.refl _ _).alloc (Nat.le_refl _) _).trans (hb1.mono (by simp))
 have hg1 : w1.cell? ⟨0, 0, none⟩ = some v1 := by rw [hB1.cell (p := ⟨0, 0, none⟩) hz]; exact h3
 go_wp2
 go_ret
 exact ⟨rfl, ((Below.refl _ _).alloc (Nat.le_refl _) _).trans (hb1.mono (by simp))⟩

set_option maxHeartbeats 1000000 in
theorem check_shape (k c sq it sd pr q id : Int) (v2 : Value) (w : World) (hz : 7 < w.heap.size) (h3 : w.cell? ⟨7, 0, none⟩ = some v2) (hk : Wi.kindB k = true) (hbd : Wi.boundB k c sq it sd pr q id = true) (hsh : Wi.shapeB k it sd pr q id = false) :
  Calls Tryz.prog 76 #[.agg #[.int .u8 k, .int .i64 c, .int .i64 sq, .int .i64 it, .int .i64 sd, .int .i64 pr, .int .i64 q, .int .i64 id]] w fun e w' => e = .returned v2 ∧ Below w.heap.size w w' := by
 go_enter Tryz.func76, Tryz.ntmps76
 go_wp2_with fail
 refine (kind_any _ _).mono ?_
 rintro e w1 ⟨rfl, rfl⟩
 go_wp2_with fail
 refine (bound_any _ _ _ _ _ _ _ _ _).mono ?_
 rintro e w1 ⟨rfl, hb1⟩
 obtain ⟨hc1, hf1⟩ := bcell hb1
 have hz1 : w.heap.size < w1.heap.size := by have := hb1.size; simp at this; omega
 have hB1 : Below w.heap.size w w1 := ((Below.refl _ _).alloc (Nat.le_refl _) _).trans (hb1.mono (by simp))
 have hg1 : w1.cell? ⟨7, 0, none⟩ = some v2 := by rw [hB1.cell (p := ⟨7, 0, none⟩) hz]; exact h3
 go_wp2_with fail
 refine (shape_any _ _ _ _ _ _ _ _ _).mono ?_
 rintro e w2 ⟨rfl, hb2⟩
 obtain ⟨hc2, hf2⟩ := bcell hb2
 have hg2 : w2.cell? ⟨7, 0, none⟩ = some v2 := by rw [hb2.cell (p := ⟨7, 0, none⟩) (by simp; omega)]; exact hg1
 go_wp2
 go_ret
 exact ⟨rfl, (((Below.refl _ _).alloc (Nat.le_refl _) _).trans (hb1.mono (by simp))).trans (hb2.mono (by omega))⟩

set_option maxHeartbeats 1000000 in
theorem check_fine (k c sq it sd pr q id : Int) (w : World) (hk : Wi.kindB k = true) (hbd : Wi.boundB k c sq it sd pr q id = true) (hsh : Wi.shapeB k it sd pr q id = true) :
  Calls Tryz.prog 76 #[.agg #[.int .u8 k, .int .i64 c, .int .i64 sq, .int .i64 it, .int .i64 sd, .int .i64 pr, .int .i64 q, .int .i64 id]] w fun e w' => e = .returned .nilIface ∧ Below w.heap.size w w' := by
 go_enter Tryz.func76, Tryz.ntmps76
 go_wp2_with fail
 refine (kind_any _ _).mono ?_
 rintro e w1 ⟨rfl, rfl⟩
 go_wp2_with fail
 refine (bound_any _ _ _ _ _ _ _ _ _).mono ?_
 rintro e w1 ⟨rfl, hb1⟩
 obtain ⟨hc1, hf1⟩ := bcell hb1
 have hz1 : w.heap.size < w1.heap.size := by have := hb1.size; simp at this; omega
 go_wp2_with fail
 refine (shape_any _ _ _ _ _ _ _ _ _).mono ?_
 rintro e w2 ⟨rfl, hb2⟩
 obtain ⟨hc2, hf2⟩ := bcell hb2
 go_wp2
 go_ret
 exact ⟨rfl, (((Below.refl _ _).alloc (Nat.le_refl _) _).trans (hb1.mono (by simp))).trans (hb2.mono (by omega))⟩

theorem hide {p : Prop} (h : p) : Hid p := h
theorem take_snoc (s : ByteArray) (k : Nat) (h : k < s.size) : s.data.toList.take (k + 1) = s.data.toList.take k ++ [s[k]] := by
 rw [List.take_succ_eq_append_getElem (by simpa using h)]; rfl

end Go.Proofs.YtdggddjgipgllaaGreatDoor
