/- The first text of bytes: firstText, for every text. -/
import Derived.Test.YtnnbbdfocnjhpaaDoorTapeApp2
namespace Go.Proofs.YtnnbbdfocnjhpaaDoor
open Go.RowKit
set_option maxRecDepth 100000

theorem data_extract (b : ByteArray) (i j : Nat) : (b.extract i j).data.toList = (b.data.toList.take j).drop i := by
  rw [ByteArray.data_extract, Array.toList_extract, List.extract_eq_take_drop]
  rw [List.drop_take]
theorem list_extract2 (b : ByteArray) (i n : Nat) : ((b.extract i b.size).extract 0 n).data.toList = (b.data.toList.drop i).take n := by
  rw [data_extract, data_extract, List.drop_zero, List.take_of_length_le (l := b.data.toList) (by rw [size_list]; exact Nat.le_refl _)]
theorem lowAt_extract2 (b : ByteArray) (i n : Nat) (h : i + n + 4 ≤ b.size) : lowAt (b.extract i b.size) n = lowAt b (i + n) := by
  simp only [lowAt]
  rw [bAt_extract b i b.size n (by omega) (Nat.le_refl _), bAt_extract b i b.size (n + 1) (by omega) (Nat.le_refl _), bAt_extract b i b.size (n + 2) (by omega) (Nat.le_refl _), bAt_extract b i b.size (n + 3) (by omega) (Nat.le_refl _)]
  simp only [Nat.add_assoc]

set_option maxHeartbeats 400000 in
theorem first_short (b : ByteArray) (w : World) (h : b.size < 8) :
    Calls Tryd.prog 76 #[.string b] w fun e w' => e = .returned (.tuple #[.string ⟨#[]⟩, .bool false]) ∧ w' = w := by
  have h' : (b.size : Int) < 8 := by omega
  go_enter Tryd.func76, Tryd.ntmps76
  go_wp2
  go_ret2
  exact ⟨rfl, rfl⟩

set_option maxHeartbeats 400000 in
theorem first_twice (b : ByteArray) (w : World) (hb : b.size ≤ 1000000000) (h8 : 8 ≤ b.size) (h4 : highAt b 4 ≠ 4294967295 - highAt b 0) :
    Calls Tryd.prog 76 #[.string b] w fun e w' => e = .returned (.tuple #[.string ⟨#[]⟩, .bool false]) ∧ ∃ m, w' = w.drewN m := by
  have h' : ¬ (b.size : Int) < 8 := by omega
  have g4 : (4 : Int) ≤ b.size := by omega
  have g4' : 4 ≤ b.size := by omega
  go_enter Tryd.func76, Tryd.ntmps76
  go_wp2_with fail
  refine (getHigh b w (by omega)).mono ?_
  rintro e w1 ⟨rfl, m1, rfl⟩
  have e4 : highAt (b.extract 4 b.size) 0 = highAt b 4 := highAt_extract b 4 b.size (by omega) (Nat.le_refl _)
  have hz : highAt b 0 < 4294967296 := highAt_lt b 0
  have hx : bits .xor .u32 IntKind.u32.max (highAt b 0 : Int) = ((4294967295 - highAt b 0 : Nat) : Int) := by
    rw [show IntKind.u32.max = ((4294967295 : Nat) : Int) from rfl, u32_xor_nat _ _ (by decide) hz, not32 _ hz]
  generalize hn : highAt b 0 = n at *
  have Hn := hide hn
  clear hn
  go_wp2_with fail
  refine (getHigh _ _ (by simp; omega)).mono ?_
  rintro e w2 ⟨rfl, m2, rfl⟩
  have h4' : ¬ ((highAt b 4 : Nat) : Int) = ((4294967295 - n : Nat) : Int) := by omega
  rw [e4]
  simp only []
  generalize highAt b 4 = k at *
  clear e4 h4
  have h4'' : ¬ (k : Int) = bits .xor .u32 IntKind.u32.max (n : Int) := by rw [hx]; exact h4'
  go_wp2
  go_ret2
  exact ⟨rfl, m1 + m2, rfl⟩

set_option maxHeartbeats 400000 in
theorem first_long (b : ByteArray) (w : World) (hb : b.size ≤ 1000000000) (h8 : 8 ≤ b.size) (h4 : highAt b 4 = 4294967295 - highAt b 0) (hm : 10000 < highAt b 0) :
    Calls Tryd.prog 76 #[.string b] w fun e w' => e = .returned (.tuple #[.string ⟨#[]⟩, .bool false]) ∧ ∃ m, w' = w.drewN m := by
  have h' : ¬ (b.size : Int) < 8 := by omega
  have g4 : (4 : Int) ≤ b.size := by omega
  have g4' : 4 ≤ b.size := by omega
  go_enter Tryd.func76, Tryd.ntmps76
  go_wp2_with fail
  refine (getHigh b w (by omega)).mono ?_
  rintro e w1 ⟨rfl, m1, rfl⟩
  have e4 : highAt (b.extract 4 b.size) 0 = highAt b 4 := highAt_extract b 4 b.size (by omega) (Nat.le_refl _)
  have hz : highAt b 0 < 4294967296 := highAt_lt b 0
  have hx : bits .xor .u32 IntKind.u32.max (highAt b 0 : Int) = ((4294967295 - highAt b 0 : Nat) : Int) := by
    rw [show IntKind.u32.max = ((4294967295 : Nat) : Int) from rfl, u32_xor_nat _ _ (by decide) hz, not32 _ hz]
  generalize hn : highAt b 0 = n at *
  have Hn := hide hn
  clear hn
  go_wp2_with fail
  refine (getHigh _ _ (by simp; omega)).mono ?_
  rintro e w2 ⟨rfl, m2, rfl⟩
  rw [e4, h4]
  simp only []
  clear e4 h4
  have hm' : (10000 : Int) < n := by omega
  go_wp2
  go_ret2
  exact ⟨rfl, m1 + m2, rfl⟩

set_option maxHeartbeats 400000 in
theorem first_less (b : ByteArray) (w : World) (hb : b.size ≤ 1000000000) (h8 : 8 ≤ b.size) (h4 : highAt b 4 = 4294967295 - highAt b 0) (hm : highAt b 0 ≤ 10000) (hl : b.size - 8 < highAt b 0 + 4) :
    Calls Tryd.prog 76 #[.string b] w fun e w' => e = .returned (.tuple #[.string ⟨#[]⟩, .bool false]) ∧ ∃ m, w' = w.drewN m := by
  have h' : ¬ (b.size : Int) < 8 := by omega
  have g4 : (4 : Int) ≤ b.size := by omega
  have g4' : 4 ≤ b.size := by omega
  go_enter Tryd.func76, Tryd.ntmps76
  go_wp2_with fail
  refine (getHigh b w (by omega)).mono ?_
  rintro e w1 ⟨rfl, m1, rfl⟩
  have e4 : highAt (b.extract 4 b.size) 0 = highAt b 4 := highAt_extract b 4 b.size (by omega) (Nat.le_refl _)
  have hz : highAt b 0 < 4294967296 := highAt_lt b 0
  have hx : bits .xor .u32 IntKind.u32.max (highAt b 0 : Int) = ((4294967295 - highAt b 0 : Nat) : Int) := by
    rw [show IntKind.u32.max = ((4294967295 : Nat) : Int) from rfl, u32_xor_nat _ _ (by decide) hz, not32 _ hz]
  generalize hn : highAt b 0 = n at *
  have Hn := hide hn
  clear hn
  go_wp2_with fail
  refine (getHigh _ _ (by simp; omega)).mono ?_
  rintro e w2 ⟨rfl, m2, rfl⟩
  rw [e4, h4]
  simp only []
  clear e4 h4
  go_wp2
  go_ret2
  exact ⟨rfl, m1 + m2, rfl⟩

set_option maxHeartbeats 400000 in
theorem first_sum (b : ByteArray) (w : World) (hb : b.size ≤ 1000000000) (h8 : 8 ≤ b.size) (h4 : highAt b 4 = 4294967295 - highAt b 0) (hm : highAt b 0 ≤ 10000) (hl : highAt b 0 + 4 ≤ b.size - 8) (hs : lowAt b (8 + highAt b 0) ≠ Wi.sum ((b.data.toList.drop 8).take (highAt b 0))) :
    Calls Tryd.prog 76 #[.string b] w fun e w' => e = .returned (.tuple #[.string ⟨#[]⟩, .bool false]) ∧ ∃ m, w' = w.drewN m := by
  have h' : ¬ (b.size : Int) < 8 := by omega
  have g4 : (4 : Int) ≤ b.size := by omega
  have g4' : 4 ≤ b.size := by omega
  go_enter Tryd.func76, Tryd.ntmps76
  go_wp2_with fail
  refine (getHigh b w (by omega)).mono ?_
  rintro e w1 ⟨rfl, m1, rfl⟩
  have e4 : highAt (b.extract 4 b.size) 0 = highAt b 4 := highAt_extract b 4 b.size (by omega) (Nat.le_refl _)
  have hz : highAt b 0 < 4294967296 := highAt_lt b 0
  have hx : bits .xor .u32 IntKind.u32.max (highAt b 0 : Int) = ((4294967295 - highAt b 0 : Nat) : Int) := by
    rw [show IntKind.u32.max = ((4294967295 : Nat) : Int) from rfl, u32_xor_nat _ _ (by decide) hz, not32 _ hz]
  generalize hn : highAt b 0 = n at *
  have Hn := hide hn
  clear hn
  generalize hS : Wi.sum ((b.data.toList.drop 8).take n) = S at *
  have HS := hide hS
  have Hs := hide hs
  clear hs hS
  go_wp2_with fail
  refine (getHigh _ _ (by simp; omega)).mono ?_
  rintro e w2 ⟨rfl, m2, rfl⟩
  rw [e4, h4]
  simp only []
  clear e4 h4
  go_wp2_with fail
  refine (getLow _ _ (by simp; omega)).mono ?_
  rintro e w3 ⟨rfl, m3, rfl⟩
  have el : lowAt ((b.extract 8 b.size).extract n (b.size - 8)) 0 = lowAt b (8 + n) := by
    rw [lowAt_extract _ n (b.size - 8) (by omega) (by simp)]
    exact lowAt_extract2 b 8 n (by omega)
  rw [el]
  clear el
  simp only []
  go_wp2_with fail
  refine (sum_any _ _ (by simp [maxLen]; omega)).mono ?_
  rintro e w4 ⟨rfl, rfl⟩
  have es : ((b.extract 8 b.size).extract 0 n).data.toList = (b.data.toList.drop 8).take n := list_extract2 b 8 n
  rw [es, HS.out]
  simp only []
  have hs' : ¬ (lowAt b (8 + n) : Int) = S := by have := Hs.out; omega
  generalize lowAt b (8 + n) = k at *
  go_wp2
  go_ret2
  exact ⟨rfl, m1 + m2 + m3, rfl⟩

set_option maxHeartbeats 400000 in
theorem first_ok (b : ByteArray) (w : World) (hb : b.size ≤ 1000000000) (h8 : 8 ≤ b.size) (h4 : highAt b 4 = 4294967295 - highAt b 0) (hm : highAt b 0 ≤ 10000) (hl : highAt b 0 + 4 ≤ b.size - 8) (hs : lowAt b (8 + highAt b 0) = Wi.sum ((b.data.toList.drop 8).take (highAt b 0))) :
    Calls Tryd.prog 76 #[.string b] w fun e w' => e = .returned (.tuple #[.string (ba ((b.data.toList.drop 8).take (highAt b 0))), .bool true]) ∧ ∃ m, w' = w.drewN m := by
  have h' : ¬ (b.size : Int) < 8 := by omega
  have g4 : (4 : Int) ≤ b.size := by omega
  have g4' : 4 ≤ b.size := by omega
  go_enter Tryd.func76, Tryd.ntmps76
  go_wp2_with fail
  refine (getHigh b w (by omega)).mono ?_
  rintro e w1 ⟨rfl, m1, rfl⟩
  have e4 : highAt (b.extract 4 b.size) 0 = highAt b 4 := highAt_extract b 4 b.size (by omega) (Nat.le_refl _)
  have hz : highAt b 0 < 4294967296 := highAt_lt b 0
  have hx : bits .xor .u32 IntKind.u32.max (highAt b 0 : Int) = ((4294967295 - highAt b 0 : Nat) : Int) := by
    rw [show IntKind.u32.max = ((4294967295 : Nat) : Int) from rfl, u32_xor_nat _ _ (by decide) hz, not32 _ hz]
  generalize hn : highAt b 0 = n at *
  have Hn := hide hn
  clear hn
  generalize hS : Wi.sum ((b.data.toList.drop 8).take n) = S at *
  have HS := hide hS
  have Hs := hide hs
  clear hs hS
  go_wp2_with fail
  refine (getHigh _ _ (by simp; omega)).mono ?_
  rintro e w2 ⟨rfl, m2, rfl⟩
  rw [e4, h4]
  simp only []
  clear e4 h4
  go_wp2_with fail
  refine (getLow _ _ (by simp; omega)).mono ?_
  rintro e w3 ⟨rfl, m3, rfl⟩
  have el : lowAt ((b.extract 8 b.size).extract n (b.size - 8)) 0 = lowAt b (8 + n) := by
    rw [lowAt_extract _ n (b.size - 8) (by omega) (by simp)]
    exact lowAt_extract2 b 8 n (by omega)
  rw [el, Hs.out]
  clear el
  simp only []
  go_wp2_with fail
  refine (sum_any _ _ (by simp [maxLen]; omega)).mono ?_
  rintro e w4 ⟨rfl, rfl⟩
  have es : ((b.extract 8 b.size).extract 0 n).data.toList = (b.data.toList.drop 8).take n := list_extract2 b 8 n
  rw [es, HS.out]
  simp only []
  go_wp2
  go_ret2
  refine ⟨?_, m1 + m2 + m3, rfl⟩
  rw [Hn.out, ← es]
  rfl

theorem first_any (b : ByteArray) (w : World) (hb : b.size ≤ 1000000000) :
    Calls Tryd.prog 76 #[.string b] w fun e w' => e = .returned (match Tp.first b.data.toList with | none => .tuple #[.string ⟨#[]⟩, .bool false] | some t => .tuple #[.string (ba t), .bool true]) ∧ ∃ m, w' = w.drewN m := by
  have hlen := size_list b
  have hh : ∀ i, Tp.hi4 b.data.toList i = highAt b i := fun _ => rfl
  have hl : ∀ i, Tp.lo4 b.data.toList i = lowAt b i := fun _ => rfl
  unfold Tp.first
  rw [hlen, hh, hh, hl]
  by_cases h8 : b.size < 8
  · rw [if_pos h8]
    exact (first_short b w h8).mono fun e w' ⟨h1, h2⟩ => ⟨h1, 0, h2⟩
  · rw [if_neg h8]
    by_cases h4 : highAt b 4 = 4294967295 - highAt b 0
    · rw [if_neg (by simpa using h4)]
      by_cases hm : 10000 < highAt b 0
      · rw [if_pos hm]
        exact first_long b w hb (by omega) h4 hm
      · rw [if_neg hm]
        by_cases hs : b.size - 8 < highAt b 0 + 4
        · rw [if_pos hs]
          exact first_less b w hb (by omega) h4 (by omega) hs
        · rw [if_neg hs]
          by_cases hq : lowAt b (8 + highAt b 0) = Wi.sum ((b.data.toList.drop 8).take (highAt b 0))
          · rw [if_neg (by simpa using hq)]
            exact first_ok b w hb (by omega) h4 (by omega) (by omega) hq
          · rw [if_pos hq]
            exact first_sum b w hb (by omega) h4 (by omega) (by omega) hq
    · rw [if_pos h4]
      exact first_twice b w hb (by omega) h4
end Go.Proofs.YtnnbbdfocnjhpaaDoor
