/- What framed does (a closed fact: it is true), and Encode on a request that is not right. -/
import Derived.Test.YtibdemdhbpkeeaaDoorEncodeWalks
namespace Go.Proofs.YtibdemdhbpkeeaaDoor
open Go.RowKit
set_option maxRecDepth 100000

theorem Wi.frame_length (k c sq it sd pr q id : Int) : (Wi.frame k c sq it sd pr q id).length = 30 := by simp [Wi.frame, Wi.body, Wi.high, Wi.low]
theorem strOfNums_size (xs : List Int) : (strOfNums xs).size = xs.length := by simp [strOfNums, ByteArray.size]
theorem Wi.check_sum : Wi.sum [49, 50, 51, 52, 53, 54, 55, 56, 57] = 3421780262 := by decide +kernel
theorem login_head : ((strOfNums (Wi.frame 108 2 1 0 0 0 0 0)).extract 0 6) = ⟨#[108, 2, 0, 0, 0, 1]⟩ := by
  apply ByteArray.ext
  simp [strOfNums, Wi.frame, Wi.body, Wi.high]

set_option maxHeartbeats 1000000 in
theorem framed_any (w : World) : Calls Tryd.prog 7 #[] w fun e w' => e = .returned (.bool true) ∧ Below w.heap.size w w' := by
  have h30 : (strOfNums (Wi.frame 108 2 1 0 0 0 0 0)).size = 30 := by rw [strOfNums_size, Wi.frame_length]
  have h6 := login_head
  go_enter Tryd.func7, Tryd.ntmps7
  go_wp2_with fail
  refine (encode_fine 108 2 1 0 0 0 0 0 _ (by decide) (by decide) (by decide)).mono ?_
  rintro e w1 ⟨rfl, hb1⟩
  generalize strOfNums (Wi.frame 108 2 1 0 0 0 0 0) = s at *
  go_wp2_with fail
  refine (sum_any ⟨#[49, 50, 51, 52, 53, 54, 55, 56, 57]⟩ _ (by decide)).mono ?_
  rintro e w2 ⟨rfl, rfl⟩
  rw [show Wi.sum (ByteArray.mk #[49, 50, 51, 52, 53, 54, 55, 56, 57]).data.toList = 3421780262 from Wi.check_sum]
  go_wp2
  go_ret
  exact ⟨rfl, hb1⟩

/-- the value of the error of a request that is not right: v1 of a bound, v2 of a shape, v3 of a kind -/
def errOf (v1 v2 v3 : Value) (n : Nat) : Value := if n = 2 then v1 else if n = 3 then v2 else v3

theorem check_bad (k c sq it sd pr q id : Int) (v1 v2 v3 : Value) (w : World) (h1 : w.cell? ⟨1, 0, none⟩ = some v1) (h2 : w.cell? ⟨2, 0, none⟩ = some v2) (h3 : w.cell? ⟨0, 0, none⟩ = some v3) (hc : Wi.code k c sq it sd pr q id ≠ 0) :
    Calls Tryd.prog 11 #[.agg #[.int .u8 k, .int .i64 c, .int .i64 sq, .int .i64 it, .int .i64 sd, .int .i64 pr, .int .i64 q, .int .i64 id]] w fun e w' => e = .returned (errOf v1 v2 v3 (Wi.code k c sq it sd pr q id)) ∧ Below w.heap.size w w' := by
  have z1 := World.block_lt_of_cell? _ _ h1
  have z2 := World.block_lt_of_cell? _ _ h2
  have z3 := World.block_lt_of_cell? _ _ h3
  cases hk : Wi.kindB k with
  | false =>
    have e : errOf v1 v2 v3 (Wi.code k c sq it sd pr q id) = v3 := by simp [Wi.code, hk, errOf]
    rw [e]; exact check_kind k c sq it sd pr q id v3 w z3 h3 hk
  | true =>
    cases hb : Wi.boundB k c sq it sd pr q id with
    | false =>
      have e : errOf v1 v2 v3 (Wi.code k c sq it sd pr q id) = v1 := by simp [Wi.code, hk, hb, errOf]
      rw [e]; exact check_bound k c sq it sd pr q id v1 w z1 h1 hk hb
    | true =>
      cases hs : Wi.shapeB k it sd pr q id with
      | false =>
        have e : errOf v1 v2 v3 (Wi.code k c sq it sd pr q id) = v2 := by simp [Wi.code, hk, hb, hs, errOf]
        rw [e]; exact check_shape k c sq it sd pr q id v2 w z2 h2 hk hb hs
      | true => simp [Wi.code, hk, hb, hs] at hc

theorem errOf_iface {T1 T2 T3 : TypeId} {x1 x2 x3 : Value} (n : Nat) : ∃ T x, errOf (.iface T1 x1) (.iface T2 x2) (.iface T3 x3) n = .iface T x := by
  unfold errOf; split
  · exact ⟨_, _, rfl⟩
  · split
    · exact ⟨_, _, rfl⟩
    · exact ⟨_, _, rfl⟩

theorem encode_err (k c sq it sd pr q id : Int) (T1 T2 T3 : TypeId) (x1 x2 x3 : Value) (w : World) (h1 : w.cell? ⟨1, 0, none⟩ = some (.iface T1 x1)) (h2 : w.cell? ⟨2, 0, none⟩ = some (.iface T2 x2)) (h3 : w.cell? ⟨0, 0, none⟩ = some (.iface T3 x3)) (hc : Wi.code k c sq it sd pr q id ≠ 0) :
    Calls Tryd.prog 9 #[.agg #[.int .u8 k, .int .i64 c, .int .i64 sq, .int .i64 it, .int .i64 sd, .int .i64 pr, .int .i64 q, .int .i64 id]] w fun e w' => e = .returned (.tuple #[.string ⟨#[]⟩, errOf (.iface T1 x1) (.iface T2 x2) (.iface T3 x3) (Wi.code k c sq it sd pr q id)]) ∧ Below w.heap.size w w' := by
  obtain ⟨T, x, he⟩ := errOf_iface (T1 := T1) (T2 := T2) (T3 := T3) (x1 := x1) (x2 := x2) (x3 := x3) (Wi.code k c sq it sd pr q id)
  rw [he]
  refine encode_bad k c sq it sd pr q id T x w (fun o => ?_)
  rw [← he]
  have hb : Below w.heap.size w (w.alloc o) := (Below.refl _ _).alloc (Nat.le_refl _) o
  exact check_bad k c sq it sd pr q id _ _ _ (w.alloc o) (cell_later hb h1) (cell_later hb h2) (cell_later hb h3) hc

theorem code_zero {k c sq it sd pr q id : Int} (h : Wi.code k c sq it sd pr q id = 0) : Wi.kindB k = true ∧ Wi.boundB k c sq it sd pr q id = true ∧ Wi.shapeB k it sd pr q id = true := by
  cases hk : Wi.kindB k <;> cases hb : Wi.boundB k c sq it sd pr q id <;> cases hs : Wi.shapeB k it sd pr q id <;> simp [Wi.code, hk, hb, hs] at h ⊢

end Go.Proofs.YtibdemdhbpkeeaaDoor
