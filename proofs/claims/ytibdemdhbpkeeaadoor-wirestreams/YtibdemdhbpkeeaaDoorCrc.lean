/- The document's sum, bit by bit: CRC is Sum, for every text. -/
import Derived.Test.YtibdemdhbpkeeaaDoorGet
import Derived.Test.YtibdemdhbpkeeaaDoorBurst
namespace Go.Proofs.YtibdemdhbpkeeaaDoor
open Go.RowKit
set_option maxRecDepth 100000

theorem runN_lt : ∀ (n N : Nat) {r : Nat}, r < 4294967296 → Wi.runN n N r < 4294967296
  | 0, _, _, h => h
  | n + 1, N, _, h => runN_lt n (N / 2) (Wi.bit_lt (Wi.xor_lt h (by have := Nat.mod_lt N (show 0 < 2 by decide); omega)))
theorem runN_succ : ∀ (n N r : Nat), Wi.runN (n + 1) N r = Wi.bit (Wi.runN n N r ^^^ N / 2 ^ n % 2)
  | 0, N, r => by simp [Wi.runN]
  | n + 1, N, r => by
    show Wi.runN (n + 1) (N / 2) (Wi.bit (r ^^^ N % 2)) = Wi.bit (Wi.runN n (N / 2) (Wi.bit (r ^^^ N % 2)) ^^^ N / 2 ^ (n + 1) % 2)
    rw [runN_succ n, Nat.div_div_eq_div_mul, Nat.pow_succ, Nat.mul_comm 2]

theorem crc_test (z b j : Nat) (hz : z < 4294967296) (hb : b < 256) : (bits .xor .i64 (z : Int) ((b : Int) / 2 ^ j)).tmod 2 = (((z ^^^ b / 2 ^ j % 2) % 2 : Nat) : Int) := by
  have hq : b / 2 ^ j < 256 := Nat.lt_of_le_of_lt (Nat.div_le_self _ _) hb
  have e : ((b : Int) / 2 ^ j) = ((b / 2 ^ j : Nat) : Int) := by push_cast; rfl
  rw [e, i64_xor_nat z (b / 2 ^ j) (by omega) (by omega), Int.tmod_eq_emod_of_nonneg (by omega)]
  have h2 : (z ^^^ b / 2 ^ j) % 2 = (z ^^^ b / 2 ^ j % 2) % 2 := by rw [Wi.odd_xor, Wi.odd_xor, Nat.mod_mod]
  rw [← h2]
  omega
theorem crc_half (z q : Nat) : (z ^^^ q % 2) / 2 = z / 2 := by
  rw [Wi.half_xor, Nat.div_eq_of_lt (Nat.mod_lt _ (by decide)), Nat.xor_zero]
theorem crc_one (z b j : Nat) (hz : z < 4294967296) (hb : b < 256) (h : ((bits .xor .i64 (z : Int) ((b : Int) / 2 ^ j)).tmod 2 == 1) = true) : bits .xor .i64 ((z : Int) / 2) 3988292384 = (Wi.bit (z ^^^ b / 2 ^ j % 2) : Int) := by
  rw [crc_test z b j hz hb, beq_iff_eq] at h
  have h1 : (z ^^^ b / 2 ^ j % 2) % 2 = 1 := by omega
  rw [show ((z : Int) / 2) = ((z / 2 : Nat) : Int) by omega, show (3988292384 : Int) = ((3988292384 : Nat) : Int) from rfl, i64_xor_nat _ _ (by omega) (by omega)]
  unfold Wi.bit
  rw [if_pos h1, crc_half]
theorem crc_zero (z b j : Nat) (hz : z < 4294967296) (hb : b < 256) (h : ((bits .xor .i64 (z : Int) ((b : Int) / 2 ^ j)).tmod 2 == 1) = false) : ((z : Int) / 2) = (Wi.bit (z ^^^ b / 2 ^ j % 2) : Int) := by
  rw [crc_test z b j hz hb, beq_eq_false_iff_ne] at h
  have h1 : ¬ (z ^^^ b / 2 ^ j % 2) % 2 = 1 := by omega
  unfold Wi.bit
  rw [if_neg h1, crc_half]
  omega

set_option maxHeartbeats 1000000 in
theorem crc_any (s : ByteArray) (w : World) (hs : s.size ≤ maxLen) :
    Calls Tryd.prog 16 #[.string s] w fun e w' => e = .returned (.int .i64 (Wi.sum s.data.toList)) ∧ w' = w := by
  unfold maxLen at hs
  go_enter Tryd.func16, Tryd.ntmps16
  go_wp2
  go_loop [3, 4] (fun n i => ∃ k : Nat, k ≤ s.size ∧ i = .int .i64 k ∧ n = .int .i64 (Wi.run (s.data.toList.take k) 4294967295)) (fun _ i => s.size - (intOf i).toNat)
  case atStart => exact ⟨0, Nat.zero_le _, rfl, rfl⟩
  case round =>
    obtain ⟨k, hk, rfl, rfl⟩ := hrel
    have hr : Wi.run (s.data.toList.take k) 4294967295 < 4294967296 := Wi.run_lt _ (by decide)
    by_cases hlt : k < s.size
    · have HS : Hid (Wi.run (s.data.toList.take (k + 1)) 4294967295 = Wi.byte (Wi.run (s.data.toList.take k) 4294967295) s[k].toNat) := by
        rw [take_snoc s k hlt]; exact Wi.run_snoc _ _ _
      have hb : s[k].toNat < 256 := s[k].toNat_lt
      generalize hg : Wi.run (s.data.toList.take k) 4294967295 = r at *
      have Hg := hide hg; clear hg
      go_wp2
      go_loop [3, 5] (fun n i => ∃ j : Nat, j ≤ 8 ∧ i = .int .i64 j ∧ n = .int .i64 (Wi.runN j s[k].toNat r)) (fun _ i => 8 - (intOf i).toNat)
      case atStart => exact ⟨0, Nat.zero_le _, rfl, rfl⟩
      case round =>
        obtain ⟨j, hj, rfl, rfl⟩ := hrel
        have hy2 : Wi.runN j s[k].toNat r < 4294967296 := runN_lt j _ hr
        generalize hz : Wi.runN j s[k].toNat r = z at *
        have Hz := hide hz; clear hz
        by_cases hj8 : j < 8
        · go_wp2
          · exact ⟨⟨j + 1, by omega, by go_num, val_int (by rw [runN_succ, Hz.out]; exact crc_one z _ j hy2 hb ‹_›)⟩, by simp [intOf]; omega⟩
          · exact ⟨⟨j + 1, by omega, by go_num, val_int (by rw [runN_succ, Hz.out]; exact crc_zero z _ j hy2 hb ‹_›)⟩, by simp [intOf]; omega⟩
        · go_wp2
          have hj' : j = 8 := by omega
          exact ⟨⟨k + 1, by omega, by go_num, val_int (by rw [HS.out, Wi.byte, ← Wi.runN_bits 8 _ _ hb, ← Hz.out, hj'])⟩, by simp [intOf]; omega⟩
    · go_wp2
      go_ret
      exact ⟨ret_int (by rw [show (4294967295 : Int) = ((4294967295 : Nat) : Int) from rfl, i64_xor_nat _ _ (by omega) (by decide), List.take_of_length_le (by simp; omega)]; rfl), rfl⟩

end Go.Proofs.YtibdemdhbpkeeaaDoor
