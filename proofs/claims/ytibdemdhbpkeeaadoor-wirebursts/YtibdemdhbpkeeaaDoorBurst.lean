/- Plain facts: of two lists of 30 bytes that both bear their sum and that differ only by a burst of up to 32 bits in a row, the two are one (PETERSON). No program is spoken of. -/
import Derived.Test.YtibdemdhbpkeeaaDoorPlain
namespace Go.Proofs.YtibdemdhbpkeeaaDoor
namespace Wi

theorem half_xor (a b : Nat) : (a ^^^ b) / 2 = a / 2 ^^^ b / 2 := Nat.xor_div_two
theorem odd_xor (a b : Nat) : (a ^^^ b) % 2 = (a % 2) ^^^ (b % 2) := by
  have := Nat.xor_mod_two_pow (a := a) (b := b) (n := 1)
  simpa using this

theorem bit_xor (a b : Nat) : bit (a ^^^ b) = bit a ^^^ bit b := by
  have ho := odd_xor a b
  have hh := half_xor a b
  unfold bit
  rw [hh]
  rcases Nat.mod_two_eq_zero_or_one a with h1 | h1 <;> rcases Nat.mod_two_eq_zero_or_one b with h2 | h2 <;> rw [h1, h2] at ho <;> simp at ho <;> simp [h1, h2, ho]
  · rw [Nat.xor_assoc]
  · rw [Nat.xor_assoc, Nat.xor_assoc, Nat.xor_comm (b / 2)]
  · rw [← Nat.xor_assoc, Nat.xor_assoc (a / 2), Nat.xor_comm 3988292384, ← Nat.xor_assoc, Nat.xor_assoc, Nat.xor_self, Nat.xor_zero]
theorem bits_xor : ∀ (n a b : Nat), bits n (a ^^^ b) = bits n a ^^^ bits n b
  | 0, _, _ => rfl
  | n + 1, a, b => by
    show bits n (bit (a ^^^ b)) = _
    rw [bit_xor]; exact bits_xor n _ _
theorem bit_two (x : Nat) : bit (2 * x) = x := by unfold bit; simp
theorem bit_zero_of {x : Nat} (hx : x < 4294967296) (h : bit x = 0) : x = 0 := by
  unfold bit at h
  split at h
  · rename_i ho
    have e : x / 2 = 3988292384 := by
      have := congrArg (· ^^^ 3988292384) h
      simpa [Nat.xor_assoc] using this
    omega
  · omega
theorem bits_zero_of : ∀ (n : Nat) {x : Nat}, x < 4294967296 → bits n x = 0 → x = 0
  | 0, _, _, h => h
  | n + 1, _, hx, h => bit_zero_of hx (bits_zero_of n (bit_lt hx) h)

/-- the sum's register over n bits of a number, the lowest first -/
def runN : Nat → Nat → Nat → Nat
  | 0, _, r => r
  | n + 1, N, r => runN n (N / 2) (bit (r ^^^ N % 2))

theorem runN_bits : ∀ (n N r : Nat), N < 2 ^ n → runN n N r = bits n (r ^^^ N)
  | 0, N, r, h => by
    have : N = 0 := by simpa using h
    subst this; simp [runN, bits]
  | n + 1, N, r, h => by
    show runN n (N / 2) (bit (r ^^^ N % 2)) = bits n (bit (r ^^^ N))
    rw [runN_bits n (N / 2) _ (by rw [Nat.pow_succ] at h; omega)]
    congr 1
    have e : r ^^^ N = (r ^^^ N % 2) ^^^ (2 * (N / 2)) := by
      have hN : N = (N % 2) ^^^ (2 * (N / 2)) := by
        apply Nat.eq_of_testBit_eq
        intro i
        rw [Nat.testBit_xor]
        cases i with
        | zero =>
          have : (2 * (N / 2)).testBit 0 = false := by simp
          rw [this]
          simp
        | succ i =>
          have h1 : (N % 2).testBit (i + 1) = false := by
            apply Nat.testBit_lt_two_pow
            have := Nat.mod_lt N (show 0 < 2 by decide)
            have h2 : 2 ≤ 2 ^ (i + 1) := by rw [Nat.pow_succ]; have := Nat.two_pow_pos i; omega
            omega
          rw [h1, Nat.testBit_succ, Nat.testBit_succ]
          simp
      conv => lhs; rw [hN]
      rw [Nat.xor_assoc]
    rw [e, bit_xor (r ^^^ N % 2) (2 * (N / 2)), bit_two]

theorem runN_xor : ∀ (n N M r s : Nat), runN n (N ^^^ M) (r ^^^ s) = runN n N r ^^^ runN n M s
  | 0, _, _, _, _ => rfl
  | n + 1, N, M, r, s => by
    show runN n ((N ^^^ M) / 2) (bit ((r ^^^ s) ^^^ (N ^^^ M) % 2)) = runN n (N / 2) (bit (r ^^^ N % 2)) ^^^ runN n (M / 2) (bit (s ^^^ M % 2))
    rw [← runN_xor n, half_xor, odd_xor, ← bit_xor]
    congr 2
    rw [Nat.xor_assoc, Nat.xor_assoc, ← Nat.xor_assoc s, Nat.xor_comm s, Nat.xor_assoc]

theorem runN_add : ∀ (n m N r : Nat), runN (n + m) N r = runN m (N / 2 ^ n) (runN n N r)
  | 0, m, N, r => by simp [runN]
  | n + 1, m, N, r => by
    rw [show n + 1 + m = (n + m) + 1 by omega]
    show runN (n + m) (N / 2) (bit (r ^^^ N % 2)) = runN m (N / 2 ^ (n + 1)) (runN n (N / 2) (bit (r ^^^ N % 2)))
    rw [runN_add n m, Nat.div_div_eq_div_mul, Nat.pow_succ, Nat.mul_comm 2]

theorem runN_mod : ∀ (n N r : Nat), runN n (N % 2 ^ n) r = runN n N r
  | 0, _, _ => rfl
  | n + 1, N, r => by
    show runN n (N % 2 ^ (n + 1) / 2) (bit (r ^^^ N % 2 ^ (n + 1) % 2)) = runN n (N / 2) (bit (r ^^^ N % 2))
    have e1 : N % 2 ^ (n + 1) % 2 = N % 2 := by rw [Nat.pow_succ, Nat.mul_comm]; exact Nat.mod_mul_right_mod N 2 (2 ^ n)
    have e2 : N % 2 ^ (n + 1) / 2 = N / 2 % 2 ^ n := by rw [Nat.pow_succ, Nat.mul_comm]; exact Nat.mod_mul_right_div_self N 2 (2 ^ n)
    rw [e1, e2, runN_mod n]

theorem runN_shift : ∀ (a m M : Nat), runN (a + m) (2 ^ a * M) 0 = runN m M 0
  | 0, m, M => by simp
  | a + 1, m, M => by
    rw [show a + 1 + m = (a + m) + 1 by omega]
    show runN (a + m) (2 ^ (a + 1) * M / 2) (bit (0 ^^^ 2 ^ (a + 1) * M % 2)) = _
    have e1 : 2 ^ (a + 1) * M / 2 = 2 ^ a * M := by rw [Nat.pow_succ, Nat.mul_right_comm]; exact Nat.mul_div_cancel _ (by decide)
    have e2 : 2 ^ (a + 1) * M % 2 = 0 := by rw [Nat.pow_succ, Nat.mul_right_comm]; exact Nat.mul_mod_left _ _
    rw [e1, e2, show bit (0 ^^^ 0) = 0 from rfl, runN_shift a m M]

/-- a text as a number, the lowest byte first -/
def numOf : List UInt8 → Nat
  | [] => 0
  | b :: l => b.toNat + 256 * numOf l

theorem numOf_lt : ∀ (l : List UInt8), numOf l < 2 ^ (8 * l.length)
  | [] => by simp [numOf]
  | b :: l => by
    have := numOf_lt l
    have hb := b.toNat_lt
    have e : 2 ^ (8 * (b :: l).length) = 256 * 2 ^ (8 * l.length) := by rw [List.length_cons, Nat.mul_add, Nat.pow_add]; omega
    rw [e]
    show b.toNat + 256 * numOf l < _
    omega

theorem run_runN : ∀ (l : List UInt8) (r : Nat), run l r = runN (8 * l.length) (numOf l) r
  | [], _ => rfl
  | b :: l, r => by
    show run l (byte r b.toNat) = runN (8 * (l.length + 1)) (b.toNat + 256 * numOf l) r
    have hb := b.toNat_lt
    have h1 : runN 8 (b.toNat + 256 * numOf l) r = byte r b.toNat := by
      rw [← runN_mod 8, show (b.toNat + 256 * numOf l) % 2 ^ 8 = b.toNat by omega, runN_bits 8 _ _ (by omega)]; rfl
    rw [run_runN l, show 8 * (l.length + 1) = 8 + 8 * l.length by omega, runN_add, h1, show (b.toNat + 256 * numOf l) / 2 ^ 8 = numOf l by omega]

theorem numOf_inj : ∀ {l m : List UInt8}, l.length = m.length → numOf l = numOf m → l = m
  | [], [], _, _ => rfl
  | b :: l, c :: m, hl, h => by
    have h' : b.toNat + 256 * numOf l = c.toNat + 256 * numOf m := h
    have hb := b.toNat_lt
    have hc := c.toNat_lt
    have e1 : b.toNat = c.toNat := by omega
    have e2 : numOf l = numOf m := by omega
    rw [UInt8.toNat_inj.1 e1, numOf_inj (by simpa using hl) e2]

/-- the number of four bytes, the lowest first -/
def low4 (l : List UInt8) (i : Nat) : Nat := (l.getD i 0).toNat + 256 * (l.getD (i + 1) 0).toNat + 65536 * (l.getD (i + 2) 0).toNat + 16777216 * (l.getD (i + 3) 0).toNat

theorem run_append (l m : List UInt8) (r : Nat) : run (l ++ m) r = run m (run l r) := by simp [run, List.foldl_append]

/-- a text of 30 bytes that bears its sum leaves one number in the register -/
theorem run_right (l : List UInt8) (hl : l.length = 30) (h : low4 l 26 = sum (l.take 26)) : run l 4294967295 = bits 32 4294967295 := by
  have e : l = l.take 26 ++ [l.getD 26 0, l.getD 27 0, l.getD 28 0, l.getD 29 0] := by
    have h1 := List.take_append_drop 26 l
    have h2 : l.drop 26 = [l.getD 26 0, l.getD 27 0, l.getD 28 0, l.getD 29 0] := by
      apply List.ext_getElem
      · simp [hl]
      · intro i hi hj
        have : i < 4 := by simpa using hj
        match i, this with
        | 0, _ => simp [hl]
        | 1, _ => simp [hl]
        | 2, _ => simp [hl]
        | 3, _ => simp [hl]
    rw [← h2]; exact h1.symm
  have hrun : run l 4294967295 = run [l.getD 26 0, l.getD 27 0, l.getD 28 0, l.getD 29 0] (run (l.take 26) 4294967295) := by
    conv => lhs; rw [e]
    exact run_append _ _ _
  rw [hrun, run_runN]
  have hn : numOf [l.getD 26 0, l.getD 27 0, l.getD 28 0, l.getD 29 0] = low4 l 26 := by
    simp only [numOf, low4, Nat.reduceAdd]; omega
  have hlt : low4 l 26 < 2 ^ 32 := by
    rw [← hn]; exact numOf_lt [l.getD 26 0, l.getD 27 0, l.getD 28 0, l.getD 29 0]
  rw [hn]
  show runN 32 (low4 l 26) _ = _
  rw [runN_bits 32 _ _ hlt, h]
  unfold sum
  rw [← Nat.xor_assoc, Nat.xor_self, Nat.zero_xor]

/-- a bit of the number is a bit of a byte -/
theorem numOf_testBit : ∀ (l : List UInt8) (p : Nat), (numOf l).testBit p = (l.getD (p / 8) 0).toNat.testBit (p % 8)
  | [], p => by simp [numOf]
  | b :: l, p => by
    show (b.toNat + 256 * numOf l).testBit p = _
    have hb : b.toNat < 2 ^ 8 := b.toNat_lt
    rw [Nat.add_comm, show 256 = 2 ^ 8 from rfl, Nat.testBit_two_pow_mul_add _ hb]
    by_cases h : p < 8
    · rw [if_pos h, Nat.div_eq_of_lt h, Nat.mod_eq_of_lt h]; rfl
    · rw [if_neg h, numOf_testBit l (p - 8)]
      have e1 : p / 8 = (p - 8) / 8 + 1 := by omega
      have e2 : p % 8 = (p - 8) % 8 := by omega
      rw [e1, e2]; rfl

/-- one bit is turned -/
def flip1 (l : List UInt8) (p : Nat) : List UInt8 := l.set (p / 8) (l.getD (p / 8) 0 ^^^ UInt8.ofNat (2 ^ (p % 8)))
theorem flip1_length (l : List UInt8) (p : Nat) : (flip1 l p).length = l.length := by simp [flip1]
theorem pow_byte (r : Nat) (h : r < 8) : (UInt8.ofNat (2 ^ r)).toNat = 2 ^ r := by
  have : 2 ^ r < 2 ^ 8 := Nat.pow_lt_pow_right (by decide) h
  rw [UInt8.toNat_ofNat']; exact Nat.mod_eq_of_lt this
theorem flip1_num (l : List UInt8) (p : Nat) (h : p < 8 * l.length) : numOf (flip1 l p) = numOf l ^^^ 2 ^ p := by
  apply Nat.eq_of_testBit_eq
  intro i
  rw [Nat.testBit_xor, Nat.testBit_two_pow, numOf_testBit, numOf_testBit]
  unfold flip1
  have hp : p / 8 < l.length := by omega
  by_cases hi : i / 8 = p / 8
  · rw [hi]
    have e1 : (l.set (p / 8) (l.getD (p / 8) 0 ^^^ UInt8.ofNat (2 ^ (p % 8)))).getD (p / 8) 0 = l.getD (p / 8) 0 ^^^ UInt8.ofNat (2 ^ (p % 8)) := by simp [hp]
    rw [e1, UInt8.toNat_xor, Nat.testBit_xor, pow_byte _ (Nat.mod_lt _ (by decide)), Nat.testBit_two_pow]
    congr 1
    have : (p % 8 = i % 8) ↔ (p = i) := by omega
    simp [this]
  · have e1 : (l.set (p / 8) (l.getD (p / 8) 0 ^^^ UInt8.ofNat (2 ^ (p % 8)))).getD (i / 8) 0 = l.getD (i / 8) 0 := by
      simp [Ne.symm hi]
    rw [e1]
    have : ¬ p = i := by intro h; rw [h] at hi; exact hi rfl
    simp [this]

/-- the first n bits of a burst at a place are turned, as far as there are bits -/
def flips (l : List UInt8) (at_ bu : Nat) : Nat → List UInt8
  | 0 => l
  | i + 1 => if bu / 2 ^ i % 2 = 1 ∧ at_ + i < 8 * l.length then flip1 (flips l at_ bu i) (at_ + i) else flips l at_ bu i
theorem flips_length (l : List UInt8) (at_ bu : Nat) : ∀ n, (flips l at_ bu n).length = l.length
  | 0 => rfl
  | n + 1 => by unfold flips; split <;> simp [flip1_length, flips_length l at_ bu n]

theorem flips_testBit (l : List UInt8) (at_ bu : Nat) : ∀ n j, (numOf (flips l at_ bu n)).testBit j = ((numOf l).testBit j ^^ (decide (at_ ≤ j) && decide (j < at_ + n) && decide (j < 8 * l.length) && bu.testBit (j - at_)))
  | 0, j => by
    have : (decide (at_ ≤ j) && decide (j < at_ + 0)) = false := by simp
    rw [this]; simp [flips]
  | n + 1, j => by
    have hb : (bu / 2 ^ n % 2 = 1) ↔ bu.testBit n = true := by
      rw [Nat.testBit_eq_decide_div_mod_eq]; simp
    unfold flips
    split
    · rename_i h
      rw [flip1_num _ _ (by rw [flips_length]; exact h.2), Nat.testBit_xor, flips_testBit l at_ bu n j, Nat.testBit_two_pow]
      by_cases hj : j = at_ + n
      · subst hj
        have e : at_ + n - at_ = n := by omega
        have h1 := hb.1 h.1
        rw [e, h1]
        simp [h.2]
      · have e : decide (j < at_ + (n + 1)) = decide (j < at_ + n) := by simp; omega
        have e2 : ¬ at_ + n = j := fun h => hj h.symm
        rw [e]; simp [e2]
    · rename_i h
      rw [flips_testBit l at_ bu n j]
      by_cases hj : j = at_ + n
      · subst hj
        have e : at_ + n - at_ = n := by omega
        have h1 : bu.testBit n = false ∨ ¬ at_ + n < 8 * l.length := by
          by_cases hx : bu.testBit n = true
          · right; intro hy; exact h ⟨hb.2 hx, hy⟩
          · left; simpa using hx
        rw [e]
        rcases h1 with h1 | h1
        · simp [h1]
        · simp [h1]
      · have e : decide (j < at_ + (n + 1)) = decide (j < at_ + n) := by simp; omega
        rw [e]

/-- PETERSON: of two texts of 30 bytes that both bear their sum one is not the other with a burst of up to 32 bits turned, unless they are one -/
theorem burst_seen (l : List UInt8) (at_ bu : Nat) (hl : l.length = 30) (hat : at_ < 240) (hbu : bu < 4294967296)
    (h1 : low4 l 26 = sum (l.take 26)) (h2 : low4 (flips l at_ bu 32) 26 = sum ((flips l at_ bu 32).take 26)) : flips l at_ bu 32 = l := by
  have ht : (flips l at_ bu 32).length = 30 := by rw [flips_length, hl]
  have r1 := run_right l hl h1
  have r2 := run_right _ ht h2
  rw [run_runN, hl] at r1
  rw [run_runN, ht] at r2
  have hE : numOf (flips l at_ bu 32) = numOf l ^^^ (2 ^ at_ * (bu % 2 ^ (240 - at_))) := by
    apply Nat.eq_of_testBit_eq
    intro j
    rw [flips_testBit, Nat.testBit_xor, Nat.testBit_two_pow_mul, Nat.testBit_mod_two_pow, hl]
    congr 1
    by_cases ha : at_ ≤ j
    · by_cases hb : j < at_ + 32
      · have : (decide (j < 8 * 30)) = decide (j - at_ < 240 - at_) := by simp; omega
        simp [ha, hb, this]
      · have hz : bu.testBit (j - at_) = false := by
          apply Nat.testBit_lt_two_pow
          have : 2 ^ 32 ≤ 2 ^ (j - at_) := Nat.pow_le_pow_right (by decide) (by omega)
          omega
        simp [hz]
    · simp [ha]
  have hx := runN_xor (8 * 30) (numOf l) (numOf (flips l at_ bu 32)) 4294967295 4294967295
  rw [r1, r2, Nat.xor_self, Nat.xor_self, hE, ← Nat.xor_assoc, Nat.xor_self, Nat.zero_xor, show 8 * 30 = at_ + (240 - at_) by omega, runN_shift, runN_bits _ _ _ (Nat.mod_lt _ (Nat.two_pow_pos _)), Nat.zero_xor] at hx
  have hM := bits_zero_of _ (Nat.lt_of_le_of_lt (Nat.mod_le _ _) hbu) hx
  rw [hM] at hE
  exact numOf_inj (by rw [ht, hl]) (by simpa using hE)
end Wi
end Go.Proofs.YtibdemdhbpkeeaaDoor
