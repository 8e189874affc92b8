/- The readers of numbers in bytes: four.Low and four.High, at every text of at least four bytes. -/
import Derived.Test.YtibdemdhbpkeeaaDoorFramedWalks
import Derived.Deep.QuietTactic
import Derived.BigQuiet
namespace Go.Proofs.YtibdemdhbpkeeaaDoor
open Go.RowKit
set_option maxRecDepth 100000

/-- the i-th byte of a text, 0 behind its end -/
def bAt (s : ByteArray) (i : Nat) : Nat := (s.data.toList.getD i 0).toNat
theorem bAt_lt (s : ByteArray) (i : Nat) : bAt s i < 256 := by unfold bAt; exact UInt8.toNat_lt _
theorem bAt_eq (s : ByteArray) (i : Nat) (h : i < s.size) : (s[i]).toNat = bAt s i := by
  have h' : i < s.data.toList.length := by simpa using h
  unfold bAt
  rw [List.getD_eq_getElem?_getD, List.getElem?_eq_getElem h']
  rfl
def lowAt (s : ByteArray) (i : Nat) : Nat := bAt s i + 256 * bAt s (i + 1) + 65536 * bAt s (i + 2) + 16777216 * bAt s (i + 3)
def highAt (s : ByteArray) (i : Nat) : Nat := 16777216 * bAt s i + 65536 * bAt s (i + 1) + 256 * bAt s (i + 2) + bAt s (i + 3)

theorem u32_join (x y : Nat) (i : Nat) (hx : x < 2 ^ i) (hy : y % 2 ^ i = 0) (h1 : x < 4294967296) (h2 : y < 4294967296) : bits .or .u32 (x : Int) (y : Int) = ((x + y : Nat) : Int) := by
  rw [u32_or_nat x y h1 h2, Nat.or_comm, nat_join i y x hy hx, Nat.add_comm]

theorem wrap_i64_id (n : Nat) (h : n < 9223372036854775808) : IntKind.i64.wrap (n : Int) = (n : Int) := by
  have h2 : (n : Int) % 2 ^ 64 = n := by omega
  simp only [IntKind.wrap, IntKind.bits, IntKind.signed, h2]
  rw [if_neg]
  simp
  omega
theorem ofInt_i64 (a : Nat) (ha : a < 9223372036854775808) : (BitVec.ofInt 64 (a : Int)).toNat = a := by
  rw [BitVec.ofInt_natCast, BitVec.toNat_ofNat]; exact Nat.mod_eq_of_lt (by omega)
theorem i64_or_nat (a b : Nat) (ha : a < 9223372036854775808) (hb : b < 9223372036854775808) : bits .or .i64 (a : Int) (b : Int) = ((a ||| b : Nat) : Int) := by
  have hx : a ||| b < 2 ^ 63 := Nat.or_lt_two_pow (by omega) (by omega)
  show IntKind.i64.wrap ((BitVec.ofInt 64 (a : Int) ||| BitVec.ofInt 64 (b : Int)).toNat : Int) = _
  rw [BitVec.toNat_or, ofInt_i64 a ha, ofInt_i64 b hb]
  exact wrap_i64_id _ (by omega)
theorem i64_xor_nat (a b : Nat) (ha : a < 9223372036854775808) (hb : b < 9223372036854775808) : bits .xor .i64 (a : Int) (b : Int) = ((a ^^^ b : Nat) : Int) := by
  have hx : a ^^^ b < 2 ^ 63 := Nat.xor_lt_two_pow (by omega) (by omega)
  show IntKind.i64.wrap ((BitVec.ofInt 64 (a : Int) ^^^ BitVec.ofInt 64 (b : Int)).toNat : Int) = _
  rw [BitVec.toNat_xor, ofInt_i64 a ha, ofInt_i64 b hb]
  exact wrap_i64_id _ (by omega)
theorem i64_join (x y : Nat) (i : Nat) (hx : x % 2 ^ i = 0) (hy : y < 2 ^ i) (h1 : x < 9223372036854775808) (h2 : y < 9223372036854775808) : bits .or .i64 (x : Int) (y : Int) = ((x + y : Nat) : Int) := by
  rw [i64_or_nat x y h1 h2, nat_join i x y hx hy]

theorem low_of (a b c d : Nat) (ha : a < 256) (hb : b < 256) (hc : c < 256) (hd : d < 256) :
    bits .or .u32 (bits .or .u32 (bits .or .u32 ((a : Int) % 4294967296) ((b : Int) % 4294967296 * 256 % 4294967296)) ((c : Int) % 4294967296 * 65536 % 4294967296)) ((d : Int) % 4294967296 * 16777216 % 4294967296)
      = ((a + 256 * b + 65536 * c + 16777216 * d : Nat) : Int) := by
  rw [show ((a : Int) % 4294967296) = (a : Int) by omega, show ((b : Int) % 4294967296 * 256 % 4294967296) = ((256 * b : Nat) : Int) by omega, show ((c : Int) % 4294967296 * 65536 % 4294967296) = ((65536 * c : Nat) : Int) by omega, show ((d : Int) % 4294967296 * 16777216 % 4294967296) = ((16777216 * d : Nat) : Int) by omega]
  rw [u32_join a (256 * b) 8 (by omega) (by omega) (by omega) (by omega), u32_join (a + 256 * b) (65536 * c) 16 (by omega) (by omega) (by omega) (by omega), u32_join (a + 256 * b + 65536 * c) (16777216 * d) 24 (by omega) (by omega) (by omega) (by omega)]

theorem wrap64_small (n : Nat) (h : n < 9223372036854775808) : wrap64 (n : Int) = (n : Int) := by
  unfold wrap64; omega
theorem u32_join' (x y : Nat) (i : Nat) (hx : x % 2 ^ i = 0) (hy : y < 2 ^ i) (h1 : x < 4294967296) (h2 : y < 4294967296) : bits .or .u32 (x : Int) (y : Int) = ((x + y : Nat) : Int) := by
  rw [u32_or_nat x y h1 h2, nat_join i x y hx hy]
theorem high_of (a b c d : Nat) (ha : a < 256) (hb : b < 256) (hc : c < 256) (hd : d < 256) :
    bits .or .u32 (bits .or .u32 (bits .or .u32 ((a : Int) % 4294967296 * 16777216 % 4294967296) ((b : Int) % 4294967296 * 65536 % 4294967296)) ((c : Int) % 4294967296 * 256 % 4294967296)) ((d : Int) % 4294967296)
      = ((16777216 * a + 65536 * b + 256 * c + d : Nat) : Int) := by
  rw [show ((d : Int) % 4294967296) = (d : Int) by omega, show ((c : Int) % 4294967296 * 256 % 4294967296) = ((256 * c : Nat) : Int) by omega, show ((b : Int) % 4294967296 * 65536 % 4294967296) = ((65536 * b : Nat) : Int) by omega, show ((a : Int) % 4294967296 * 16777216 % 4294967296) = ((16777216 * a : Nat) : Int) by omega]
  rw [u32_join' (16777216 * a) (65536 * b) 24 (by omega) (by omega) (by omega) (by omega), u32_join' (16777216 * a + 65536 * b) (256 * c) 16 (by omega) (by omega) (by omega) (by omega), u32_join' (16777216 * a + 65536 * b + 256 * c) d 8 (by omega) (by omega) (by omega) (by omega)]

set_option maxHeartbeats 1000000 in
theorem getLow (s : ByteArray) (w : World) (hs : 4 ≤ s.size) :
    Calls Tryd.prog 27 #[.string s] w fun e w' => e = .returned (.int .u32 (lowAt s 0)) ∧ ∃ m, w' = w.drewN m := by
  have g0 : 0 < s.size := by omega
  have g1 : 1 < s.size := by omega
  have g2 : 2 < s.size := by omega
  have g3 : 3 < s.size := by omega
  have h1 : (1 : Int) < s.size := by omega
  have h2 : (2 : Int) < s.size := by omega
  have h3 : (3 : Int) < s.size := by omega
  clear hs
  go_enter Tryd.func27, Tryd.ntmps27
  go_wp2
  go_quiet (fail)
  go_wp2
  go_ret
  refine ⟨ret_int ?_, nq, rfl⟩
  rw [bAt_eq s 0 g0, bAt_eq s 1 g1, bAt_eq s 2 g2, bAt_eq s 3 g3]
  exact low_of _ _ _ _ (bAt_lt _ _) (bAt_lt _ _) (bAt_lt _ _) (bAt_lt _ _)

set_option maxHeartbeats 1000000 in
theorem getHigh (s : ByteArray) (w : World) (hs : 4 ≤ s.size) :
    Calls Tryd.prog 40 #[.string s] w fun e w' => e = .returned (.int .u32 (highAt s 0)) ∧ ∃ m, w' = w.drewN m := by
  have g0 : 0 < s.size := by omega
  have g1 : 1 < s.size := by omega
  have g2 : 2 < s.size := by omega
  have g3 : 3 < s.size := by omega
  have h1 : (1 : Int) < s.size := by omega
  have h2 : (2 : Int) < s.size := by omega
  have h3 : (3 : Int) < s.size := by omega
  clear hs
  go_enter Tryd.func40, Tryd.ntmps40
  go_wp2
  go_quiet (fail)
  go_wp2
  go_ret
  refine ⟨ret_int ?_, nq, rfl⟩
  rw [bAt_eq s 0 g0, bAt_eq s 1 g1, bAt_eq s 2 g2, bAt_eq s 3 g3]
  exact high_of _ _ _ _ (bAt_lt _ _) (bAt_lt _ _) (bAt_lt _ _) (bAt_lt _ _)

theorem bAt_extract (s : ByteArray) (a b i : Nat) (h : a + i < b) (hb : b ≤ s.size) : bAt (s.extract a b) i = bAt s (a + i) := by
  have h1 : i < (s.extract a b).size := by simp; omega
  rw [← bAt_eq (s.extract a b) i h1, ← bAt_eq s (a + i) (by omega)]
  congr 1
  exact ByteArray.getElem_extract ..

end Go.Proofs.YtibdemdhbpkeeaaDoor
