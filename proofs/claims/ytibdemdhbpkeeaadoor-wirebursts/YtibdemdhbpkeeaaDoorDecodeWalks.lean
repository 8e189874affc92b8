/- What Decode does, for every text: the walk, way by way. -/
import Derived.Test.YtibdemdhbpkeeaaDoorFields
import Derived.Test.YtibdemdhbpkeeaaDoorFramedWalks
import Derived.RegionTactic
import Derived.ChangeAlike
namespace Go.Proofs.YtibdemdhbpkeeaaDoor
open Go.RowKit
set_option maxRecDepth 100000

def zeroAsk : Value := .agg #[.int .u8 0, .int .i64 0, .int .i64 0, .int .i64 0, .int .i64 0, .int .i64 0, .int .i64 0, .int .i64 0]
def fieldsAsk (s : ByteArray) : Value := .agg #[.int .u8 (bAt s 0), .int .i64 (bAt s 1), .int .i64 (highAt s 2), .int .i64 (bAt s 6), .int .i64 (bAt s 7), .int .i64 (highAt s 8), .int .i64 (highAt s 12), .int .i64 (highAt s 16)]

set_option maxHeartbeats 1000000 in
theorem decode_text (s : ByteArray) (v0 : Value) (w : World) (c0 : w.cell? ⟨3, 0, none⟩ = some v0) (hs : ((s.size : Int) != 30) = true) :
    Calls Tryd.prog 12 #[.string s] w fun e w' => e = .returned (.tuple #[zeroAsk, v0]) ∧ Below w.heap.size w w' := by
  have hz : 3 < w.heap.size := World.block_lt_of_cell? _ _ c0
  go_enter Tryd.func12, Tryd.ntmps12
  go_wp2
  go_region
  all_goals go_wp2
  all_goals
    refine bodyPost_ret (v := .tuple #[zeroAsk, v0]) (by simp [results, Tryd.results12, go_sem, zeroAsk]) rfl ⟨rfl, ?_⟩
    repeat first | exact (Below.refl _ _).alloc (Nat.le_refl _) _ | refine Below.drew ?_ | refine Below.setCell (p := ⟨w.heap.size, _, none⟩) ?_ (Nat.le_refl w.heap.size) _

set_option maxHeartbeats 1000000 in
theorem decode_sum (s : ByteArray) (v4 : Value) (w : World) (c4 : w.cell? ⟨4, 0, none⟩ = some v4) (hs : ((s.size : Int) != 30) = false) (hne : ((lowAt s 26 : Int) != (Wi.sum (s.data.toList.take 26) : Int)) = true) :
    Calls Tryd.prog 12 #[.string s] w fun e w' => e = .returned (.tuple #[zeroAsk, v4]) ∧ Below w.heap.size w w' := by
  have hz : 4 < w.heap.size := World.block_lt_of_cell? _ _ c4
  have hs' : s.size = 30 := by have := hs; simp at this; omega
  have e26 : 26 ≤ s.size := by omega
  have f26 : (26 : Int) ≤ s.size := by omega
  have hl : lowAt (s.extract 26 s.size) 0 = lowAt s 26 := lowAt_extract s 26 s.size (by omega) (Nat.le_refl _)
  have Hs := hide hs'
  clear hs'
  go_enter Tryd.func12, Tryd.ntmps12
  go_wp2
  go_quiet (first | (go_at_call 27; refine Calls.quiet_of (getLow _ _ ?_); (simp; have := Hs.out; omega)) | (go_at_call 15; refine Calls.quiet_of_same (sum_any _ _ ?_); (simp [maxLen]; have := Hs.out; omega)))
  go_wp2
  go_region
  all_goals go_wp2
  all_goals
    refine bodyPost_ret (v := .tuple #[zeroAsk, v4]) (by simp [results, Tryd.results12, go_sem, zeroAsk]) rfl ⟨rfl, ?_⟩
    iterate 8 refine Below.setCell (p := ⟨w.heap.size, _, none⟩) ?_ (Nat.le_refl w.heap.size) _
    exact ((Below.refl _ _).alloc (Nat.le_refl _) _).trans ((below_drewN (nq + 1)).mono (by simp))

set_option maxHeartbeats 1000000 in
theorem decode_shape (s : ByteArray) (v2 : Value) (w : World) (c2 : w.cell? ⟨2, 0, none⟩ = some v2) (hs : ((s.size : Int) != 30) = false) (hne : ((lowAt s 26 : Int) != (Wi.sum (s.data.toList.take 26) : Int)) = false) (hsp : ((s.extract 20 26).toList == [0, 0, 0, 0, 0, 0]) = false) :
    Calls Tryd.prog 12 #[.string s] w fun e w' => e = .returned (.tuple #[zeroAsk, v2]) ∧ Below w.heap.size w w' := by
  have hz : 2 < w.heap.size := World.block_lt_of_cell? _ _ c2
  have hs' : s.size = 30 := by have := hs; simp at this; omega
  have e20 : 20 ≤ s.size := by omega
  have f20 : (20 : Int) ≤ s.size := by omega
  have e26 : 26 ≤ s.size := by omega
  have f26 : (26 : Int) ≤ s.size := by omega
  have hl : lowAt (s.extract 26 s.size) 0 = lowAt s 26 := lowAt_extract s 26 s.size (by omega) (Nat.le_refl _)
  have Hs := hide hs'
  clear hs'
  go_enter Tryd.func12, Tryd.ntmps12
  go_wp2
  go_quiet (first | (go_at_call 27; refine Calls.quiet_of (getLow _ _ ?_); (simp; have := Hs.out; omega)) | (go_at_call 15; refine Calls.quiet_of_same (sum_any _ _ ?_); (simp [maxLen]; have := Hs.out; omega)))
  go_wp2
  go_region
  all_goals go_wp2
  all_goals
    refine bodyPost_ret (v := .tuple #[zeroAsk, v2]) (by simp [results, Tryd.results12, go_sem, zeroAsk]) rfl ⟨rfl, ?_⟩
    iterate 8 refine Below.setCell (p := ⟨w.heap.size, _, none⟩) ?_ (Nat.le_refl w.heap.size) _
    exact ((Below.refl _ _).alloc (Nat.le_refl _) _).trans ((below_drewN (nq + 1)).mono (by simp))

set_option maxHeartbeats 1000000 in
theorem decode_ok (s : ByteArray) (w : World) (hs : ((s.size : Int) != 30) = false) (hne : ((lowAt s 26 : Int) != (Wi.sum (s.data.toList.take 26) : Int)) = false) (hsp : ((s.extract 20 26).toList == [0, 0, 0, 0, 0, 0]) = true)
    (hchk : Hid (∀ wz, Below w.heap.size w wz → Calls Tryd.prog 11 #[fieldsAsk s] wz fun e w' => e = .returned .nilIface ∧ Below wz.heap.size wz w')) :
    Calls Tryd.prog 12 #[.string s] w fun e w' => e = .returned (.tuple #[fieldsAsk s, .nilIface]) ∧ Below w.heap.size w w' := by
  have hs' : s.size = 30 := by have := hs; simp at this; omega
  have e20 : 20 ≤ s.size := by omega
  have f20 : (20 : Int) ≤ s.size := by omega
  have e26 : 26 ≤ s.size := by omega
  have f26 : (26 : Int) ≤ s.size := by omega
  have hl : lowAt (s.extract 26 s.size) 0 = lowAt s 26 := lowAt_extract s 26 s.size (by omega) (Nat.le_refl _)
  have Hs := hide hs'
  clear hs'
  go_enter Tryd.func12, Tryd.ntmps12
  go_wp2
  go_quiet (first | (go_at_call 27; refine Calls.quiet_of (getLow _ _ ?_); (simp; have := Hs.out; omega)) | (go_at_call 15; refine Calls.quiet_of_same (sum_any _ _ ?_); (simp [maxLen]; have := Hs.out; omega)))
  go_wp2_with fail
  have hB : Below w.heap.size w ((w.alloc (.cells #[.int .u8 0, .int .i64 0, .int .i64 0, .int .i64 0, .int .i64 0, .int .i64 0, .int .i64 0, .int .i64 0] 23)).drewN nq) := ((Below.refl _ _).alloc (Nat.le_refl _) _).trans ((below_drewN nq).mono (by simp))
  have HB := hide hB
  clear hB
  refine (fields_any s _ Hs.out).mono ?_
  rintro e w1 ⟨rfl, hb1⟩
  go_wp2_with fail
  have hz1 : w.heap.size < w1.heap.size := by have := hb1.size; simp at this; omega
  have HB1 : Hid (Below w.heap.size w w1) := HB.out.trans (hb1.mono HB.out.size)
  have HBz : Hid (Below w.heap.size w (w1.alloc (.cells #[.int .u8 (bAt s 0), .int .i64 (bAt s 1), .int .i64 (highAt s 2), .int .i64 (bAt s 6), .int .i64 (bAt s 7), .int .i64 (highAt s 8), .int .i64 (highAt s 12), .int .i64 (highAt s 16)] 23))) := HB1.out.alloc HB1.out.size _
  have r0 : w1.cell? ⟨w.heap.size, 0, none⟩ = some (.int .u8 0) := by rw [hb1.cell (p := ⟨w.heap.size, 0, none⟩) (by simp)]; simp
  have z0 : w1.frozen? ⟨w.heap.size, 0, none⟩ = false := by rw [hb1.frozen (p := ⟨w.heap.size, 0, none⟩) (by simp)]; simp
  have r1 : w1.cell? ⟨w.heap.size, 1, none⟩ = some (.int .i64 0) := by rw [hb1.cell (p := ⟨w.heap.size, 1, none⟩) (by simp)]; simp
  have z1 : w1.frozen? ⟨w.heap.size, 1, none⟩ = false := by rw [hb1.frozen (p := ⟨w.heap.size, 1, none⟩) (by simp)]; simp
  have r2 : w1.cell? ⟨w.heap.size, 2, none⟩ = some (.int .i64 0) := by rw [hb1.cell (p := ⟨w.heap.size, 2, none⟩) (by simp)]; simp
  have z2 : w1.frozen? ⟨w.heap.size, 2, none⟩ = false := by rw [hb1.frozen (p := ⟨w.heap.size, 2, none⟩) (by simp)]; simp
  have r3 : w1.cell? ⟨w.heap.size, 3, none⟩ = some (.int .i64 0) := by rw [hb1.cell (p := ⟨w.heap.size, 3, none⟩) (by simp)]; simp
  have z3 : w1.frozen? ⟨w.heap.size, 3, none⟩ = false := by rw [hb1.frozen (p := ⟨w.heap.size, 3, none⟩) (by simp)]; simp
  have r4 : w1.cell? ⟨w.heap.size, 4, none⟩ = some (.int .i64 0) := by rw [hb1.cell (p := ⟨w.heap.size, 4, none⟩) (by simp)]; simp
  have z4 : w1.frozen? ⟨w.heap.size, 4, none⟩ = false := by rw [hb1.frozen (p := ⟨w.heap.size, 4, none⟩) (by simp)]; simp
  have r5 : w1.cell? ⟨w.heap.size, 5, none⟩ = some (.int .i64 0) := by rw [hb1.cell (p := ⟨w.heap.size, 5, none⟩) (by simp)]; simp
  have z5 : w1.frozen? ⟨w.heap.size, 5, none⟩ = false := by rw [hb1.frozen (p := ⟨w.heap.size, 5, none⟩) (by simp)]; simp
  have r6 : w1.cell? ⟨w.heap.size, 6, none⟩ = some (.int .i64 0) := by rw [hb1.cell (p := ⟨w.heap.size, 6, none⟩) (by simp)]; simp
  have z6 : w1.frozen? ⟨w.heap.size, 6, none⟩ = false := by rw [hb1.frozen (p := ⟨w.heap.size, 6, none⟩) (by simp)]; simp
  have r7 : w1.cell? ⟨w.heap.size, 7, none⟩ = some (.int .i64 0) := by rw [hb1.cell (p := ⟨w.heap.size, 7, none⟩) (by simp)]; simp
  have z7 : w1.frozen? ⟨w.heap.size, 7, none⟩ = false := by rw [hb1.frozen (p := ⟨w.heap.size, 7, none⟩) (by simp)]; simp
  clear hb1 HB
  refine (hchk.out _ HBz.out).mono ?_
  rintro e w2 ⟨rfl, hb2⟩
  have HB2 : Hid (Below w.heap.size w w2) := HBz.out.trans (hb2.mono HBz.out.size)
  have hz2 : w1.heap.size < w2.heap.size := by have := hb2.size; simp at this; omega
  have R0 : w2.cell? ⟨w.heap.size, 0, none⟩ = some (.int .u8 0) := by rw [hb2.cell (p := ⟨w.heap.size, 0, none⟩) (by simp; omega), World.cell?_alloc_lt _ _ ⟨w.heap.size, 0, none⟩ hz1]; exact r0
  have Z0 : w2.frozen? ⟨w.heap.size, 0, none⟩ = false := by rw [hb2.frozen (p := ⟨w.heap.size, 0, none⟩) (by simp; omega), World.frozen?_alloc_old _ _ ⟨w.heap.size, 0, none⟩ (Nat.ne_of_lt hz1)]; exact z0
  have A0 : w2.cell? ⟨w1.heap.size, 0, none⟩ = some (.int .u8 (bAt s 0)) := by rw [hb2.cell (p := ⟨w1.heap.size, 0, none⟩) (by simp)]; simp
  have R1 : w2.cell? ⟨w.heap.size, 1, none⟩ = some (.int .i64 0) := by rw [hb2.cell (p := ⟨w.heap.size, 1, none⟩) (by simp; omega), World.cell?_alloc_lt _ _ ⟨w.heap.size, 1, none⟩ hz1]; exact r1
  have Z1 : w2.frozen? ⟨w.heap.size, 1, none⟩ = false := by rw [hb2.frozen (p := ⟨w.heap.size, 1, none⟩) (by simp; omega), World.frozen?_alloc_old _ _ ⟨w.heap.size, 1, none⟩ (Nat.ne_of_lt hz1)]; exact z1
  have A1 : w2.cell? ⟨w1.heap.size, 1, none⟩ = some (.int .i64 (bAt s 1)) := by rw [hb2.cell (p := ⟨w1.heap.size, 1, none⟩) (by simp)]; simp
  have R2 : w2.cell? ⟨w.heap.size, 2, none⟩ = some (.int .i64 0) := by rw [hb2.cell (p := ⟨w.heap.size, 2, none⟩) (by simp; omega), World.cell?_alloc_lt _ _ ⟨w.heap.size, 2, none⟩ hz1]; exact r2
  have Z2 : w2.frozen? ⟨w.heap.size, 2, none⟩ = false := by rw [hb2.frozen (p := ⟨w.heap.size, 2, none⟩) (by simp; omega), World.frozen?_alloc_old _ _ ⟨w.heap.size, 2, none⟩ (Nat.ne_of_lt hz1)]; exact z2
  have A2 : w2.cell? ⟨w1.heap.size, 2, none⟩ = some (.int .i64 (highAt s 2)) := by rw [hb2.cell (p := ⟨w1.heap.size, 2, none⟩) (by simp)]; simp
  have R3 : w2.cell? ⟨w.heap.size, 3, none⟩ = some (.int .i64 0) := by rw [hb2.cell (p := ⟨w.heap.size, 3, none⟩) (by simp; omega), World.cell?_alloc_lt _ _ ⟨w.heap.size, 3, none⟩ hz1]; exact r3
  have Z3 : w2.frozen? ⟨w.heap.size, 3, none⟩ = false := by rw [hb2.frozen (p := ⟨w.heap.size, 3, none⟩) (by simp; omega), World.frozen?_alloc_old _ _ ⟨w.heap.size, 3, none⟩ (Nat.ne_of_lt hz1)]; exact z3
  have A3 : w2.cell? ⟨w1.heap.size, 3, none⟩ = some (.int .i64 (bAt s 6)) := by rw [hb2.cell (p := ⟨w1.heap.size, 3, none⟩) (by simp)]; simp
  have R4 : w2.cell? ⟨w.heap.size, 4, none⟩ = some (.int .i64 0) := by rw [hb2.cell (p := ⟨w.heap.size, 4, none⟩) (by simp; omega), World.cell?_alloc_lt _ _ ⟨w.heap.size, 4, none⟩ hz1]; exact r4
  have Z4 : w2.frozen? ⟨w.heap.size, 4, none⟩ = false := by rw [hb2.frozen (p := ⟨w.heap.size, 4, none⟩) (by simp; omega), World.frozen?_alloc_old _ _ ⟨w.heap.size, 4, none⟩ (Nat.ne_of_lt hz1)]; exact z4
  have A4 : w2.cell? ⟨w1.heap.size, 4, none⟩ = some (.int .i64 (bAt s 7)) := by rw [hb2.cell (p := ⟨w1.heap.size, 4, none⟩) (by simp)]; simp
  have R5 : w2.cell? ⟨w.heap.size, 5, none⟩ = some (.int .i64 0) := by rw [hb2.cell (p := ⟨w.heap.size, 5, none⟩) (by simp; omega), World.cell?_alloc_lt _ _ ⟨w.heap.size, 5, none⟩ hz1]; exact r5
  have Z5 : w2.frozen? ⟨w.heap.size, 5, none⟩ = false := by rw [hb2.frozen (p := ⟨w.heap.size, 5, none⟩) (by simp; omega), World.frozen?_alloc_old _ _ ⟨w.heap.size, 5, none⟩ (Nat.ne_of_lt hz1)]; exact z5
  have A5 : w2.cell? ⟨w1.heap.size, 5, none⟩ = some (.int .i64 (highAt s 8)) := by rw [hb2.cell (p := ⟨w1.heap.size, 5, none⟩) (by simp)]; simp
  have R6 : w2.cell? ⟨w.heap.size, 6, none⟩ = some (.int .i64 0) := by rw [hb2.cell (p := ⟨w.heap.size, 6, none⟩) (by simp; omega), World.cell?_alloc_lt _ _ ⟨w.heap.size, 6, none⟩ hz1]; exact r6
  have Z6 : w2.frozen? ⟨w.heap.size, 6, none⟩ = false := by rw [hb2.frozen (p := ⟨w.heap.size, 6, none⟩) (by simp; omega), World.frozen?_alloc_old _ _ ⟨w.heap.size, 6, none⟩ (Nat.ne_of_lt hz1)]; exact z6
  have A6 : w2.cell? ⟨w1.heap.size, 6, none⟩ = some (.int .i64 (highAt s 12)) := by rw [hb2.cell (p := ⟨w1.heap.size, 6, none⟩) (by simp)]; simp
  have R7 : w2.cell? ⟨w.heap.size, 7, none⟩ = some (.int .i64 0) := by rw [hb2.cell (p := ⟨w.heap.size, 7, none⟩) (by simp; omega), World.cell?_alloc_lt _ _ ⟨w.heap.size, 7, none⟩ hz1]; exact r7
  have Z7 : w2.frozen? ⟨w.heap.size, 7, none⟩ = false := by rw [hb2.frozen (p := ⟨w.heap.size, 7, none⟩) (by simp; omega), World.frozen?_alloc_old _ _ ⟨w.heap.size, 7, none⟩ (Nat.ne_of_lt hz1)]; exact z7
  have A7 : w2.cell? ⟨w1.heap.size, 7, none⟩ = some (.int .i64 (highAt s 16)) := by rw [hb2.cell (p := ⟨w1.heap.size, 7, none⟩) (by simp)]; simp
  clear hb2 r0 r1 r2 r3 r4 r5 r6 r7 z0 z1 z2 z3 z4 z5 z6 z7
  go_wp2
  refine bodyPost_ret (v := .tuple #[fieldsAsk s, .nilIface]) (by simp [results, Tryd.results12, go_sem, fieldsAsk, R0, R1, R2, R3, R4, R5, R6, R7]) rfl ⟨rfl, ?_⟩
  iterate 8 refine Below.setCell (p := ⟨w.heap.size, _, none⟩) ?_ (Nat.le_refl w.heap.size) _
  exact HB2.out

set_option maxHeartbeats 1000000 in
theorem decode_bad (s : ByteArray) (T : TypeId) (x : Value) (w : World) (hs : ((s.size : Int) != 30) = false) (hne : ((lowAt s 26 : Int) != (Wi.sum (s.data.toList.take 26) : Int)) = false) (hsp : ((s.extract 20 26).toList == [0, 0, 0, 0, 0, 0]) = true)
    (hchk : Hid (∀ wz, Below w.heap.size w wz → Calls Tryd.prog 11 #[fieldsAsk s] wz fun e w' => e = .returned (.iface T x) ∧ Below wz.heap.size wz w')) :
    Calls Tryd.prog 12 #[.string s] w fun e w' => e = .returned (.tuple #[zeroAsk, .iface T x]) ∧ Below w.heap.size w w' := by
  have hs' : s.size = 30 := by have := hs; simp at this; omega
  have e20 : 20 ≤ s.size := by omega
  have f20 : (20 : Int) ≤ s.size := by omega
  have e26 : 26 ≤ s.size := by omega
  have f26 : (26 : Int) ≤ s.size := by omega
  have hl : lowAt (s.extract 26 s.size) 0 = lowAt s 26 := lowAt_extract s 26 s.size (by omega) (Nat.le_refl _)
  have Hs := hide hs'
  clear hs'
  go_enter Tryd.func12, Tryd.ntmps12
  go_wp2
  go_quiet (first | (go_at_call 27; refine Calls.quiet_of (getLow _ _ ?_); (simp; have := Hs.out; omega)) | (go_at_call 15; refine Calls.quiet_of_same (sum_any _ _ ?_); (simp [maxLen]; have := Hs.out; omega)))
  go_wp2_with fail
  have hB : Below w.heap.size w ((w.alloc (.cells #[.int .u8 0, .int .i64 0, .int .i64 0, .int .i64 0, .int .i64 0, .int .i64 0, .int .i64 0, .int .i64 0] 23)).drewN nq) := ((Below.refl _ _).alloc (Nat.le_refl _) _).trans ((below_drewN nq).mono (by simp))
  have HB := hide hB
  clear hB
  refine (fields_any s _ Hs.out).mono ?_
  rintro e w1 ⟨rfl, hb1⟩
  go_wp2_with fail
  have hz1 : w.heap.size < w1.heap.size := by have := hb1.size; simp at this; omega
  have HB1 : Hid (Below w.heap.size w w1) := HB.out.trans (hb1.mono HB.out.size)
  have HBz : Hid (Below w.heap.size w (w1.alloc (.cells #[.int .u8 (bAt s 0), .int .i64 (bAt s 1), .int .i64 (highAt s 2), .int .i64 (bAt s 6), .int .i64 (bAt s 7), .int .i64 (highAt s 8), .int .i64 (highAt s 12), .int .i64 (highAt s 16)] 23))) := HB1.out.alloc HB1.out.size _
  have r0 : w1.cell? ⟨w.heap.size, 0, none⟩ = some (.int .u8 0) := by rw [hb1.cell (p := ⟨w.heap.size, 0, none⟩) (by simp)]; simp
  have z0 : w1.frozen? ⟨w.heap.size, 0, none⟩ = false := by rw [hb1.frozen (p := ⟨w.heap.size, 0, none⟩) (by simp)]; simp
  have r1 : w1.cell? ⟨w.heap.size, 1, none⟩ = some (.int .i64 0) := by rw [hb1.cell (p := ⟨w.heap.size, 1, none⟩) (by simp)]; simp
  have z1 : w1.frozen? ⟨w.heap.size, 1, none⟩ = false := by rw [hb1.frozen (p := ⟨w.heap.size, 1, none⟩) (by simp)]; simp
  have r2 : w1.cell? ⟨w.heap.size, 2, none⟩ = some (.int .i64 0) := by rw [hb1.cell (p := ⟨w.heap.size, 2, none⟩) (by simp)]; simp
  have z2 : w1.frozen? ⟨w.heap.size, 2, none⟩ = false := by rw [hb1.frozen (p := ⟨w.heap.size, 2, none⟩) (by simp)]; simp
  have r3 : w1.cell? ⟨w.heap.size, 3, none⟩ = some (.int .i64 0) := by rw [hb1.cell (p := ⟨w.heap.size, 3, none⟩) (by simp)]; simp
  have z3 : w1.frozen? ⟨w.heap.size, 3, none⟩ = false := by rw [hb1.frozen (p := ⟨w.heap.size, 3, none⟩) (by simp)]; simp
  have r4 : w1.cell? ⟨w.heap.size, 4, none⟩ = some (.int .i64 0) := by rw [hb1.cell (p := ⟨w.heap.size, 4, none⟩) (by simp)]; simp
  have z4 : w1.frozen? ⟨w.heap.size, 4, none⟩ = false := by rw [hb1.frozen (p := ⟨w.heap.size, 4, none⟩) (by simp)]; simp
  have r5 : w1.cell? ⟨w.heap.size, 5, none⟩ = some (.int .i64 0) := by rw [hb1.cell (p := ⟨w.heap.size, 5, none⟩) (by simp)]; simp
  have z5 : w1.frozen? ⟨w.heap.size, 5, none⟩ = false := by rw [hb1.frozen (p := ⟨w.heap.size, 5, none⟩) (by simp)]; simp
  have r6 : w1.cell? ⟨w.heap.size, 6, none⟩ = some (.int .i64 0) := by rw [hb1.cell (p := ⟨w.heap.size, 6, none⟩) (by simp)]; simp
  have z6 : w1.frozen? ⟨w.heap.size, 6, none⟩ = false := by rw [hb1.frozen (p := ⟨w.heap.size, 6, none⟩) (by simp)]; simp
  have r7 : w1.cell? ⟨w.heap.size, 7, none⟩ = some (.int .i64 0) := by rw [hb1.cell (p := ⟨w.heap.size, 7, none⟩) (by simp)]; simp
  have z7 : w1.frozen? ⟨w.heap.size, 7, none⟩ = false := by rw [hb1.frozen (p := ⟨w.heap.size, 7, none⟩) (by simp)]; simp
  clear hb1 HB
  refine (hchk.out _ HBz.out).mono ?_
  rintro e w2 ⟨rfl, hb2⟩
  have HB2 : Hid (Below w.heap.size w w2) := HBz.out.trans (hb2.mono HBz.out.size)
  have hz2 : w1.heap.size < w2.heap.size := by have := hb2.size; simp at this; omega
  have R0 : w2.cell? ⟨w.heap.size, 0, none⟩ = some (.int .u8 0) := by rw [hb2.cell (p := ⟨w.heap.size, 0, none⟩) (by simp; omega), World.cell?_alloc_lt _ _ ⟨w.heap.size, 0, none⟩ hz1]; exact r0
  have Z0 : w2.frozen? ⟨w.heap.size, 0, none⟩ = false := by rw [hb2.frozen (p := ⟨w.heap.size, 0, none⟩) (by simp; omega), World.frozen?_alloc_old _ _ ⟨w.heap.size, 0, none⟩ (Nat.ne_of_lt hz1)]; exact z0
  have A0 : w2.cell? ⟨w1.heap.size, 0, none⟩ = some (.int .u8 (bAt s 0)) := by rw [hb2.cell (p := ⟨w1.heap.size, 0, none⟩) (by simp)]; simp
  have R1 : w2.cell? ⟨w.heap.size, 1, none⟩ = some (.int .i64 0) := by rw [hb2.cell (p := ⟨w.heap.size, 1, none⟩) (by simp; omega), World.cell?_alloc_lt _ _ ⟨w.heap.size, 1, none⟩ hz1]; exact r1
  have Z1 : w2.frozen? ⟨w.heap.size, 1, none⟩ = false := by rw [hb2.frozen (p := ⟨w.heap.size, 1, none⟩) (by simp; omega), World.frozen?_alloc_old _ _ ⟨w.heap.size, 1, none⟩ (Nat.ne_of_lt hz1)]; exact z1
  have A1 : w2.cell? ⟨w1.heap.size, 1, none⟩ = some (.int .i64 (bAt s 1)) := by rw [hb2.cell (p := ⟨w1.heap.size, 1, none⟩) (by simp)]; simp
  have R2 : w2.cell? ⟨w.heap.size, 2, none⟩ = some (.int .i64 0) := by rw [hb2.cell (p := ⟨w.heap.size, 2, none⟩) (by simp; omega), World.cell?_alloc_lt _ _ ⟨w.heap.size, 2, none⟩ hz1]; exact r2
  have Z2 : w2.frozen? ⟨w.heap.size, 2, none⟩ = false := by rw [hb2.frozen (p := ⟨w.heap.size, 2, none⟩) (by simp; omega), World.frozen?_alloc_old _ _ ⟨w.heap.size, 2, none⟩ (Nat.ne_of_lt hz1)]; exact z2
  have A2 : w2.cell? ⟨w1.heap.size, 2, none⟩ = some (.int .i64 (highAt s 2)) := by rw [hb2.cell (p := ⟨w1.heap.size, 2, none⟩) (by simp)]; simp
  have R3 : w2.cell? ⟨w.heap.size, 3, none⟩ = some (.int .i64 0) := by rw [hb2.cell (p := ⟨w.heap.size, 3, none⟩) (by simp; omega), World.cell?_alloc_lt _ _ ⟨w.heap.size, 3, none⟩ hz1]; exact r3
  have Z3 : w2.frozen? ⟨w.heap.size, 3, none⟩ = false := by rw [hb2.frozen (p := ⟨w.heap.size, 3, none⟩) (by simp; omega), World.frozen?_alloc_old _ _ ⟨w.heap.size, 3, none⟩ (Nat.ne_of_lt hz1)]; exact z3
  have A3 : w2.cell? ⟨w1.heap.size, 3, none⟩ = some (.int .i64 (bAt s 6)) := by rw [hb2.cell (p := ⟨w1.heap.size, 3, none⟩) (by simp)]; simp
  have R4 : w2.cell? ⟨w.heap.size, 4, none⟩ = some (.int .i64 0) := by rw [hb2.cell (p := ⟨w.heap.size, 4, none⟩) (by simp; omega), World.cell?_alloc_lt _ _ ⟨w.heap.size, 4, none⟩ hz1]; exact r4
  have Z4 : w2.frozen? ⟨w.heap.size, 4, none⟩ = false := by rw [hb2.frozen (p := ⟨w.heap.size, 4, none⟩) (by simp; omega), World.frozen?_alloc_old _ _ ⟨w.heap.size, 4, none⟩ (Nat.ne_of_lt hz1)]; exact z4
  have A4 : w2.cell? ⟨w1.heap.size, 4, none⟩ = some (.int .i64 (bAt s 7)) := by rw [hb2.cell (p := ⟨w1.heap.size, 4, none⟩) (by simp)]; simp
  have R5 : w2.cell? ⟨w.heap.size, 5, none⟩ = some (.int .i64 0) := by rw [hb2.cell (p := ⟨w.heap.size, 5, none⟩) (by simp; omega), World.cell?_alloc_lt _ _ ⟨w.heap.size, 5, none⟩ hz1]; exact r5
  have Z5 : w2.frozen? ⟨w.heap.size, 5, none⟩ = false := by rw [hb2.frozen (p := ⟨w.heap.size, 5, none⟩) (by simp; omega), World.frozen?_alloc_old _ _ ⟨w.heap.size, 5, none⟩ (Nat.ne_of_lt hz1)]; exact z5
  have A5 : w2.cell? ⟨w1.heap.size, 5, none⟩ = some (.int .i64 (highAt s 8)) := by rw [hb2.cell (p := ⟨w1.heap.size, 5, none⟩) (by simp)]; simp
  have R6 : w2.cell? ⟨w.heap.size, 6, none⟩ = some (.int .i64 0) := by rw [hb2.cell (p := ⟨w.heap.size, 6, none⟩) (by simp; omega), World.cell?_alloc_lt _ _ ⟨w.heap.size, 6, none⟩ hz1]; exact r6
  have Z6 : w2.frozen? ⟨w.heap.size, 6, none⟩ = false := by rw [hb2.frozen (p := ⟨w.heap.size, 6, none⟩) (by simp; omega), World.frozen?_alloc_old _ _ ⟨w.heap.size, 6, none⟩ (Nat.ne_of_lt hz1)]; exact z6
  have A6 : w2.cell? ⟨w1.heap.size, 6, none⟩ = some (.int .i64 (highAt s 12)) := by rw [hb2.cell (p := ⟨w1.heap.size, 6, none⟩) (by simp)]; simp
  have R7 : w2.cell? ⟨w.heap.size, 7, none⟩ = some (.int .i64 0) := by rw [hb2.cell (p := ⟨w.heap.size, 7, none⟩) (by simp; omega), World.cell?_alloc_lt _ _ ⟨w.heap.size, 7, none⟩ hz1]; exact r7
  have Z7 : w2.frozen? ⟨w.heap.size, 7, none⟩ = false := by rw [hb2.frozen (p := ⟨w.heap.size, 7, none⟩) (by simp; omega), World.frozen?_alloc_old _ _ ⟨w.heap.size, 7, none⟩ (Nat.ne_of_lt hz1)]; exact z7
  have A7 : w2.cell? ⟨w1.heap.size, 7, none⟩ = some (.int .i64 (highAt s 16)) := by rw [hb2.cell (p := ⟨w1.heap.size, 7, none⟩) (by simp)]; simp
  clear hb2 r0 r1 r2 r3 r4 r5 r6 r7 z0 z1 z2 z3 z4 z5 z6 z7
  go_wp2
  refine bodyPost_ret (v := .tuple #[zeroAsk, .iface T x]) (by simp [results, Tryd.results12, go_sem, zeroAsk, R0, R1, R2, R3, R4, R5, R6, R7]) rfl ⟨rfl, ?_⟩
  iterate 8 refine Below.setCell (p := ⟨w.heap.size, _, none⟩) ?_ (Nat.le_refl w.heap.size) _
  exact HB2.out

end Go.Proofs.YtibdemdhbpkeeaaDoor
