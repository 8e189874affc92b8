/- The document's bytes of numbers: Byte, High, Low and Number. -/
import Derived.Test.YtibdemdhbpkeeaaDoorCrc
import Derived.Test.YtibdemdhbpkeeaaDoorEncodeWalks
namespace Go.Proofs.YtibdemdhbpkeeaaDoor
open Go.RowKit
set_option maxRecDepth 100000

theorem one_byte (x : Int) (w : World) : (convert 41 9 (.slice (some ⟨w.heap.size, 0, none⟩) 1 1)).run Tryd.prog (w.alloc (.cells #[.int .u8 x] 5)) = .ok (.string (strOfNums [x])) (w.alloc (.cells #[.int .u8 x] 5)) :=
  run_convert_bytes_arg (w.alloc (.cells #[.int .u8 x] 5)) 41 5 Tryd.underlying41 Tryd.underlying5 w.heap.size 0 1 1 [x] rfl (fun i hi => by
    obtain rfl : i = 0 := by omega
    simp) 9 Tryd.underlying9

theorem byte_any (n : Int) (w : World) : Calls Tryd.prog 29 #[.int .i64 n] w fun e w' => e = .returned (.string (strOfNums [n % 256])) ∧ Below w.heap.size w w' := by
  have hcv := one_byte
  go_enter Tryd.func29, Tryd.ntmps29
  go_wp2
  go_ret
  exact ⟨rfl, (Below.refl _ _).alloc (Nat.le_refl _) _⟩

theorem nums_append (a b : List Int) : strOfNums a ++ strOfNums b = strOfNums (a ++ b) := by
  apply ByteArray.ext
  simp [strOfNums]
theorem ret_string {a b : ByteArray} (h : a = b) : Ending.returned (.string a) = .returned (.string b) := by rw [h]
theorem below4 {w w1 w2 w3 w4 : World} (h1 : Below w.heap.size w w1) (h2 : Below w1.heap.size w1 w2) (h3 : Below w2.heap.size w2 w3) (h4 : Below w3.heap.size w3 w4) : Below w.heap.size w w4 :=
  ((h1.trans (h2.mono h1.size)).trans (h3.mono (Nat.le_trans h1.size h2.size))).trans (h4.mono (Nat.le_trans h1.size (Nat.le_trans h2.size h3.size)))

set_option maxHeartbeats 1000000 in
theorem high_any (n : Nat) (w : World) (_hn : n < 4294967296) : Calls Tryd.prog 30 #[.int .i64 n] w fun e w' => e = .returned (.string (strOfNums (Wi.high n))) ∧ Below w.heap.size w w' := by
  go_enter Tryd.func30, Tryd.ntmps30
  go_wp2_with fail
  refine (byte_any _ _).mono ?_
  rintro e w1 ⟨rfl, hb1⟩
  go_wp2_with fail
  refine (byte_any _ _).mono ?_
  rintro e w2 ⟨rfl, hb2⟩
  go_wp2_with fail
  refine (byte_any _ _).mono ?_
  rintro e w3 ⟨rfl, hb3⟩
  go_wp2_with fail
  refine (byte_any _ _).mono ?_
  rintro e w4 ⟨rfl, hb4⟩
  go_wp2
  go_ret
  exact ⟨ret_string (by rw [nums_append, nums_append, nums_append]; rfl), below4 hb1 hb2 hb3 hb4⟩

set_option maxHeartbeats 1000000 in
theorem low_any (n : Nat) (w : World) (_hn : n < 4294967296) : Calls Tryd.prog 31 #[.int .i64 n] w fun e w' => e = .returned (.string (strOfNums (Wi.low n))) ∧ Below w.heap.size w w' := by
  go_enter Tryd.func31, Tryd.ntmps31
  go_wp2_with fail
  refine (byte_any _ _).mono ?_
  rintro e w1 ⟨rfl, hb1⟩
  go_wp2_with fail
  refine (byte_any _ _).mono ?_
  rintro e w2 ⟨rfl, hb2⟩
  go_wp2_with fail
  refine (byte_any _ _).mono ?_
  rintro e w3 ⟨rfl, hb3⟩
  go_wp2_with fail
  refine (byte_any _ _).mono ?_
  rintro e w4 ⟨rfl, hb4⟩
  go_wp2
  go_ret
  refine ⟨ret_string ?_, below4 hb1 hb2 hb3 hb4⟩
  rw [nums_append, nums_append, nums_append]
  simp [Wi.low]

/-- a number of bytes, the highest first -/
def numHigh (l : List UInt8) : Nat := l.foldl (fun n b => 256 * n + b.toNat) 0
theorem numHigh_snoc (l : List UInt8) (b : UInt8) : numHigh (l ++ [b]) = 256 * numHigh l + b.toNat := by simp [numHigh, List.foldl_append]
theorem numHigh_from : ∀ (l : List UInt8) (n m : Nat), n < 256 ^ m → l.foldl (fun n b => 256 * n + b.toNat) n < 256 ^ (m + l.length)
  | [], n, m, h => by simpa using h
  | b :: l, n, m, h => by
    have hb := b.toNat_lt
    have := numHigh_from l (256 * n + b.toNat) (m + 1) (by rw [Nat.pow_succ]; omega)
    rw [List.length_cons, show m + (l.length + 1) = m + 1 + l.length by omega]
    exact this
theorem numHigh_lt (l : List UInt8) : numHigh l < 256 ^ l.length := by
  have := numHigh_from l 0 0 (by decide)
  simpa [numHigh] using this

set_option maxHeartbeats 1000000 in
theorem number_any (s : ByteArray) (w : World) (hs : s.size ≤ 4) : Calls Tryd.prog 32 #[.string s] w fun e w' => e = .returned (.int .i64 (numHigh s.data.toList)) ∧ w' = w := by
  go_enter Tryd.func32, Tryd.ntmps32
  go_wp2
  go_loop [3, 4] (fun n i => ∃ k : Nat, k ≤ s.size ∧ i = .int .i64 k ∧ n = .int .i64 (numHigh (s.data.toList.take k))) (fun _ i => s.size - (intOf i).toNat)
  case atStart => exact ⟨0, Nat.zero_le _, rfl, rfl⟩
  case round =>
    obtain ⟨k, hk, rfl, rfl⟩ := hrel
    by_cases hlt : k < s.size
    · have HS : Hid (numHigh (s.data.toList.take (k + 1)) = 256 * numHigh (s.data.toList.take k) + s[k].toNat) := by
        rw [take_snoc s k hlt]; exact numHigh_snoc _ _
      have hb : s[k].toNat < 256 := s[k].toNat_lt
      have hr : numHigh (s.data.toList.take k) < 4294967296 := by
        refine Nat.lt_of_lt_of_le (numHigh_lt _) ?_
        have : (s.data.toList.take k).length ≤ 4 := by simp; omega
        exact Nat.pow_le_pow_right (show 0 < 256 by decide) this
      generalize numHigh (s.data.toList.take k) = r at *
      go_wp2
      exact ⟨⟨k + 1, by omega, by go_num, val_int (by rw [HS.out]; omega)⟩, by simp [intOf]; omega⟩
    · go_wp2
      go_ret
      exact ⟨ret_int (by rw [List.take_of_length_le (by simp; omega)]), rfl⟩

end Go.Proofs.YtibdemdhbpkeeaaDoor
