/- Plain facts on the sum of a frame (CRC-32, bit by bit) and on the checks of a request, as functions of numbers; no program is spoken of. -/
namespace Go.Proofs.YtbcinejhipmomaaDoor
namespace Wi

/-- one bit of the sum -/
def bit (r : Nat) : Nat := if r % 2 = 1 then (r / 2) ^^^ 3988292384 else r / 2
def bits : Nat → Nat → Nat
  | 0, r => r
  | n + 1, r => bits n (bit r)
def byte (r b : Nat) : Nat := bits 8 (r ^^^ b)
def run (l : List UInt8) (r : Nat) : Nat := l.foldl (fun r b => byte r b.toNat) r
def sum (l : List UInt8) : Nat := run l 4294967295 ^^^ 4294967295

theorem xor_lt {a b : Nat} (ha : a < 4294967296) (hb : b < 4294967296) : a ^^^ b < 4294967296 := by
  have := Nat.xor_lt_two_pow (n := 32) (x := a) (y := b) (by simpa using ha) (by simpa using hb)
  simpa using this
theorem bit_lt {r : Nat} (h : r < 4294967296) : bit r < 4294967296 := by
  unfold bit; split
  · exact xor_lt (by omega) (by decide)
  · omega
theorem bits_lt : ∀ (n : Nat) {r : Nat}, r < 4294967296 → bits n r < 4294967296
  | 0, _, h => h
  | n + 1, _, h => bits_lt n (bit_lt h)
theorem bits_succ : ∀ (n r : Nat), bits (n + 1) r = bit (bits n r)
  | 0, _ => rfl
  | n + 1, r => by show bits (n + 1) (bit r) = bit (bits n (bit r)); exact bits_succ n (bit r)
theorem byte_lt {r b : Nat} (h : r < 4294967296) (hb : b < 256) : byte r b < 4294967296 := bits_lt 8 (xor_lt h (by omega))
theorem run_lt : ∀ (l : List UInt8) {r : Nat}, r < 4294967296 → run l r < 4294967296
  | [], _, h => h
  | b :: l, r, h => by
    show run l (byte r b.toNat) < 4294967296
    exact run_lt l (byte_lt h (by have := b.toNat_lt; omega))
theorem run_snoc (l : List UInt8) (b : UInt8) (r : Nat) : run (l ++ [b]) r = byte (run l r) b.toNat := by
  simp [run, List.foldl_append]
theorem sum_lt (l : List UInt8) : sum l < 4294967296 := xor_lt (run_lt l (by decide)) (by decide)

/-- the checks of a request -/
def withinB (x lo hi : Int) : Bool := decide (lo ≤ x) && decide (x ≤ hi)
def kindB (k : Int) : Bool := k == 108 || k == 104 || k == 111 || k == 99 || k == 113
def boundB (k c sq it sd pr q id : Int) : Bool :=
  withinB c 0 5 && withinB sq 0 1073741824 && withinB id 0 1073741824 &&
    (if k == 111 then withinB it 0 2 && withinB sd 0 1 && withinB pr 1 1000 && withinB q 1 1000 else if k == 99 then withinB it 0 2 else true)
def shapeB (k it sd pr q id : Int) : Bool :=
  if k == 111 then true else if k == 99 then sd == 0 && pr == 0 && q == 0 else it == 0 && sd == 0 && pr == 0 && q == 0 && id == 0
/-- the number of the error of a request, 0 for none -/
def code (k c sq it sd pr q id : Int) : Nat :=
  if kindB k then if boundB k c sq it sd pr q id then if shapeB k it sd pr q id then 0 else 3 else 2 else 4

end Wi
end Go.Proofs.YtbcinejhipmomaaDoor
