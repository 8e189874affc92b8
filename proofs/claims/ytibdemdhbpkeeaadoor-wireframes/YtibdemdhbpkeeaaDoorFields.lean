/- What fields does, for every text of a frame's length. -/
import Derived.Test.YtibdemdhbpkeeaaDoorGet
import Derived.Test.YtibdemdhbpkeeaaDoorTail
namespace Go.Proofs.YtibdemdhbpkeeaaDoor
open Go.RowKit
set_option maxRecDepth 100000
theorem highAt_lt (s : ByteArray) (i : Nat) : highAt s i < 4294967296 := by
  have := bAt_lt s i; have := bAt_lt s (i + 1); have := bAt_lt s (i + 2); have := bAt_lt s (i + 3)
  unfold highAt; omega
theorem highAt_extract (s : ByteArray) (a b : Nat) (h : a + 4 ≤ b) (hb : b ≤ s.size) : highAt (s.extract a b) 0 = highAt s a := by
  simp only [highAt]
  rw [bAt_extract s a b 0 (by omega) hb, bAt_extract s a b (0 + 1) (by omega) hb, bAt_extract s a b (0 + 2) (by omega) hb, bAt_extract s a b (0 + 3) (by omega) hb]
  rfl
theorem lowAt_extract (s : ByteArray) (a b : Nat) (h : a + 4 ≤ b) (hb : b ≤ s.size) : lowAt (s.extract a b) 0 = lowAt s a := by
  simp only [lowAt]
  rw [bAt_extract s a b 0 (by omega) hb, bAt_extract s a b (0 + 1) (by omega) hb, bAt_extract s a b (0 + 2) (by omega) hb, bAt_extract s a b (0 + 3) (by omega) hb]
  rfl

theorem below_drewN {w : World} (m : Nat) : Below w.heap.size w (w.drewN m) := by
  induction m with
  | zero => exact Below.refl _ _
  | succ n ih => exact ih.drew

set_option maxHeartbeats 4000000 in
theorem fields_any (s : ByteArray) (w : World) (hs : s.size = 30) :
    Calls Tryd.prog 28 #[.string s] w fun e w' => e = .returned (.agg #[.int .u8 (bAt s 0), .int .i64 (bAt s 1), .int .i64 (highAt s 2), .int .i64 (bAt s 6), .int .i64 (bAt s 7), .int .i64 (highAt s 8), .int .i64 (highAt s 12), .int .i64 (highAt s 16)]) ∧ Below w.heap.size w w' := by
  have Hs := hide hs
  have g0 : 0 < s.size := by omega
  have g1 : 1 < s.size := by omega
  have g6 : 6 < s.size := by omega
  have g7 : 7 < s.size := by omega
  have h1 : (1 : Int) < s.size := by omega
  have h6 : (6 : Int) < s.size := by omega
  have h7 : (7 : Int) < s.size := by omega
  have e6 : 6 ≤ s.size := by omega
  have e12 : 12 ≤ s.size := by omega
  have e16 : 16 ≤ s.size := by omega
  have e20 : 20 ≤ s.size := by omega
  have f6 : (6 : Int) ≤ s.size := by omega
  have f12 : (12 : Int) ≤ s.size := by omega
  have f16 : (16 : Int) ≤ s.size := by omega
  have f20 : (20 : Int) ≤ s.size := by omega
  clear hs
  go_enter Tryd.func28, Tryd.ntmps28
  go_wp2
  refine region_quiet_tail 28 (by kernel_rfl) (by kernel_rfl) ?_
  simp only [List.take_succ_cons, List.take_zero, List.drop_succ_cons, List.drop_zero]
  repeat (first | go_big_quiet_step ((go_at_call 40; refine Calls.quiet_of (getHigh _ _ ?_); (simp; have := Hs.out; omega))) | quiet_step ((go_at_call 40; refine Calls.quiet_of (getHigh _ _ ?_); (simp; have := Hs.out; omega))))
  refine wpQuiet_nil ?_
  intro _ hw'
  obtain ⟨nq, hw''⟩ := hw'
  subst hw''
  go_wp2
  have E : Value.agg #[.int .u8 (s[0]).toNat, .int .i64 (wrap64 (s[1]).toNat), .int .i64 (wrap64 (highAt (s.extract 2 6) 0)), .int .i64 (wrap64 (s[6]).toNat), .int .i64 (wrap64 (s[7]).toNat), .int .i64 (wrap64 (highAt (s.extract 8 12) 0)), .int .i64 (wrap64 (highAt (s.extract 12 16) 0)), .int .i64 (wrap64 (highAt (s.extract 16 20) 0))]
      = .agg #[.int .u8 (bAt s 0), .int .i64 (bAt s 1), .int .i64 (highAt s 2), .int .i64 (bAt s 6), .int .i64 (bAt s 7), .int .i64 (highAt s 8), .int .i64 (highAt s 12), .int .i64 (highAt s 16)] := by
    have hs := Hs.out
    rw [bAt_eq s 0 g0, bAt_eq s 1 g1, bAt_eq s 6 g6, bAt_eq s 7 g7, wrap64_small (bAt s 1) (by have := bAt_lt s 1; omega), wrap64_small (bAt s 6) (by have := bAt_lt s 6; omega), wrap64_small (bAt s 7) (by have := bAt_lt s 7; omega),
      highAt_extract s 2 6 (by omega) (by omega), highAt_extract s 8 12 (by omega) (by omega), highAt_extract s 12 16 (by omega) (by omega), highAt_extract s 16 20 (by omega) (by omega), wrap64_small (highAt s 2) (by have := highAt_lt s 2; omega), wrap64_small (highAt s 8) (by have := highAt_lt s 8; omega), wrap64_small (highAt s 12) (by have := highAt_lt s 12; omega), wrap64_small (highAt s 16) (by have := highAt_lt s 16; omega)]
  refine bodyPost_ret (v := .agg #[.int .u8 (s[0]).toNat, .int .i64 (wrap64 (s[1]).toNat), .int .i64 (wrap64 (highAt (s.extract 2 6) 0)), .int .i64 (wrap64 (s[6]).toNat), .int .i64 (wrap64 (s[7]).toNat), .int .i64 (wrap64 (highAt (s.extract 8 12) 0)), .int .i64 (wrap64 (highAt (s.extract 12 16) 0)), .int .i64 (wrap64 (highAt (s.extract 16 20) 0))]) (by simp [results, Tryd.results28, go_sem]) rfl ⟨?_, ?_⟩
  · rw [E]
  · iterate 8 refine Below.setCell (p := ⟨w.heap.size, _, none⟩) ?_ (Nat.le_refl w.heap.size) _
    exact ((Below.refl _ _).alloc (Nat.le_refl _) _).trans ((below_drewN nq).mono (by simp))

end Go.Proofs.YtibdemdhbpkeeaaDoor
