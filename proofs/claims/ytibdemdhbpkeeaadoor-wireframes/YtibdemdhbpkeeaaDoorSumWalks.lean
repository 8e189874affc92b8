/- What Sum does, for every text: the walk of its two loops. -/
import Derived.Test.YtibdemdhbpkeeaaDoorCheckWalks
namespace Go.Proofs.YtibdemdhbpkeeaaDoor
open Go.RowKit

theorem hide {p : Prop} (h : p) : Hid p := h
theorem take_snoc (s : ByteArray) (k : Nat) (h : k < s.size) : s.data.toList.take (k + 1) = s.data.toList.take k ++ [s[k]] := by
  rw [List.take_succ_eq_append_getElem (by simpa using h)]; rfl

theorem and_one (z : Nat) (hz : z < 4294967296) : bits .and .u32 (z : Int) 1 = ((z % 2 : Nat) : Int) := by
  rw [show (1 : Int) = ((1 : Nat) : Int) from rfl, u32_and_nat z 1 hz (by decide), Nat.and_one_is_mod]
theorem bit_one (z : Nat) (hz : z < 4294967296) (h : (bits .and .u32 (z : Int) 1 == 1) = true) : bits .xor .u32 ((z : Int) / 2) 3988292384 = (Wi.bit z : Int) := by
  rw [and_one z hz, beq_iff_eq] at h
  have h2 : z % 2 = 1 := by omega
  rw [show ((z : Int) / 2) = ((z / 2 : Nat) : Int) from by omega, show (3988292384 : Int) = ((3988292384 : Nat) : Int) from rfl, u32_xor_nat (z / 2) 3988292384 (by omega) (by decide)]
  simp [Wi.bit, h2]
theorem bit_zero (z : Nat) (hz : z < 4294967296) (h : (bits .and .u32 (z : Int) 1 == 1) = false) : ((z : Int) / 2) = (Wi.bit z : Int) := by
  rw [and_one z hz, beq_eq_false_iff_ne] at h
  have h2 : ¬ z % 2 = 1 := by omega
  simp [Wi.bit, h2]
theorem val_int {k : IntKind} {a b : Int} (h : a = b) : Value.int k a = .int k b := by rw [h]

set_option maxHeartbeats 1000000 in
theorem sum_any (s : ByteArray) (w : World) (hs : s.size ≤ maxLen) :
    Calls Tryd.prog 15 #[.string s] w fun e w' => e = .returned (.int .u32 (Wi.sum s.data.toList)) ∧ w' = w := by
  unfold maxLen at hs
  go_enter Tryd.func15, Tryd.ntmps15
  go_wp2
  go_loop [3, 8] (fun n i => ∃ k : Nat, k ≤ s.size ∧ i = .int .i64 k ∧ n = .int .u32 (Wi.run (s.data.toList.take k) 4294967295)) (fun _ i => s.size - (intOf i).toNat)
  case atStart => exact ⟨0, Nat.zero_le _, rfl, rfl⟩
  case round =>
    obtain ⟨k, hk, rfl, rfl⟩ := hrel
    have hr : Wi.run (s.data.toList.take k) 4294967295 < 4294967296 := Wi.run_lt _ (by decide)
    by_cases hlt : k < s.size
    · have HS : Hid (Wi.run (s.data.toList.take (k + 1)) 4294967295 = Wi.byte (Wi.run (s.data.toList.take k) 4294967295) s[k].toNat) := by
        rw [take_snoc s k hlt]; exact Wi.run_snoc _ _ _
      have hb : s[k].toNat < 256 := s[k].toNat_lt
      generalize hg : Wi.run (s.data.toList.take k) 4294967295 = r at *
      have Hg := hide hg; clear hg
      go_wp2
      rw [u32_xor_nat r s[k].toNat hr (by omega)]
      have hx : r ^^^ s[k].toNat < 4294967296 := Wi.xor_lt hr (by omega)
      generalize hy : r ^^^ s[k].toNat = y at *
      have Hy := hide hy; clear hy
      go_loop [3, 17] (fun n i => ∃ j : Nat, j ≤ 8 ∧ i = .int .i64 j ∧ n = .int .u32 (Wi.bits j y)) (fun _ i => 8 - (intOf i).toNat)
      case atStart => exact ⟨0, Nat.zero_le _, rfl, rfl⟩
      case round =>
        obtain ⟨j, hj, rfl, rfl⟩ := hrel
        have hy2 : Wi.bits j y < 4294967296 := Wi.bits_lt j hx
        have HB := hide (Wi.bits_succ j y)
        generalize hz : Wi.bits j y = z at *
        have Hz := hide hz; clear hz
        by_cases hj8 : j < 8
        · go_wp2
          · exact ⟨⟨j + 1, by omega, by go_num, val_int (by rw [HB.out]; exact bit_one z hy2 ‹_›)⟩, by simp [intOf]; omega⟩
          · exact ⟨⟨j + 1, by omega, by go_num, val_int (by rw [HB.out]; exact bit_zero z hy2 ‹_›)⟩, by simp [intOf]; omega⟩
        · go_wp2
          have hj' : j = 8 := by omega
          exact ⟨⟨k + 1, by omega, by go_num, val_int (by rw [HS.out, Wi.byte, Hy.out, ← Hz.out, hj'])⟩, by simp [intOf]; omega⟩
    · go_wp2
      go_ret
      exact ⟨ret_int (by rw [show IntKind.u32.max = ((4294967295 : Nat) : Int) from rfl, u32_xor_nat _ _ (by decide) hr, List.take_of_length_le (by simp; omega), Nat.xor_comm]; rfl), rfl⟩

end Go.Proofs.YtibdemdhbpkeeaaDoor
