/- AskOf, for every text: what Decode gives. -/
import Derived.Test.YtibdemdhbpkeeaaDoorAskOfFields
namespace Go.Proofs.YtibdemdhbpkeeaaDoor
open Go.RowKit

theorem four_bytes (s : ByteArray) (h : s.size = 30) : (s.extract 26 s.size).data.toList = [s.data.toList.getD 26 0, s.data.toList.getD 27 0, s.data.toList.getD 28 0, s.data.toList.getD 29 0] := by
  have hl : s.data.toList.length = 30 := by simpa using h
  have d : ∀ j (hj : j < s.data.toList.length), s.data.toList.getD j 0 = s.data.toList[j] := fun j hj => by
    rw [List.getD_eq_getElem?_getD, List.getElem?_eq_getElem hj]; rfl
  have e : (s.extract 26 s.size).data.toList = s.data.toList.drop 26 := by
    rw [h]; simp
    rw [List.take_of_length_le (by simp; omega)]
  rw [e, List.drop_eq_getElem_cons (by omega), List.drop_eq_getElem_cons (by omega), List.drop_eq_getElem_cons (by omega), List.drop_eq_getElem_cons (by omega), d 26 (by omega), d 27 (by omega), d 28 (by omega), d 29 (by omega), List.drop_of_length_le (by omega)]

theorem sum_bytes (s : ByteArray) (h : s.size = 30) (z : Nat) (hz : z < 4294967296) : ((strOfNums (Wi.low z)).toList == (s.extract 26 s.size).toList) = decide (lowAt s 26 = z) := by
  rw [ByteArray.toList_eq, ByteArray.toList_eq, four_bytes s h]
  have e : (strOfNums (Wi.low z)).data.toList = [UInt8.ofNat (z % 256), UInt8.ofNat (z / 256 % 256), UInt8.ofNat (z / 65536 % 256), UInt8.ofNat (z / 16777216 % 256)] := by
    simp only [strOfNums, Wi.low, List.map_cons, List.map_nil]
    rw [show ((z : Int) % 256).toNat = z % 256 by omega, show ((z : Int) / 256 % 256).toNat = z / 256 % 256 by omega, show ((z : Int) / 65536 % 256).toNat = z / 65536 % 256 by omega, show ((z : Int) / 16777216 % 256).toNat = z / 16777216 % 256 by omega]
  rw [e]
  have key : ∀ (b : UInt8) (y : Nat), y < 256 → (UInt8.ofNat y = b ↔ y = b.toNat) := by
    intro b y hy
    constructor
    · intro h; rw [← h, UInt8.toNat_ofNat']; omega
    · intro h; apply UInt8.toNat_inj.1; rw [UInt8.toNat_ofNat']; omega
  have b0 := UInt8.toNat_lt (s.data.toList.getD 26 0)
  have b1 := UInt8.toNat_lt (s.data.toList.getD 27 0)
  have b2 := UInt8.toNat_lt (s.data.toList.getD 28 0)
  have b3 := UInt8.toNat_lt (s.data.toList.getD 29 0)
  rw [Bool.eq_iff_iff]
  simp only [beq_iff_eq, List.cons.injEq, and_true, decide_eq_true_eq]
  rw [key _ _ (by omega), key _ _ (by omega), key _ _ (by omega), key _ _ (by omega)]
  unfold lowAt bAt
  simp only [Nat.reduceAdd]
  omega

theorem numHigh_zero : ∀ (l : List UInt8) (n : Nat), l.foldl (fun n b => 256 * n + b.toNat) n = 0 ↔ n = 0 ∧ ∀ b ∈ l, b = 0
  | [], n => by simp
  | b :: l, n => by
    rw [List.foldl_cons, numHigh_zero l]
    constructor
    · rintro ⟨h1, h2⟩
      refine ⟨by omega, fun c hc => ?_⟩
      rcases List.mem_cons.1 hc with rfl | hc
      · apply UInt8.toNat_inj.1; show c.toNat = 0; omega
      · exact h2 c hc
    · rintro ⟨rfl, h2⟩
      have := h2 b (by simp)
      subst this
      exact ⟨rfl, fun c hc => h2 c (by simp [hc])⟩

theorem spare_iff (s : ByteArray) (h : s.size = 30) : (s.extract 20 26).toList = [0, 0, 0, 0, 0, 0] ↔ numHigh (s.extract 20 23).data.toList = 0 ∧ numHigh (s.extract 23 26).data.toList = 0 := by
  have hl : s.data.toList.length = 30 := by simpa using h
  have e : (s.extract 20 26).data.toList = (s.extract 20 23).data.toList ++ (s.extract 23 26).data.toList := by
    simp
    rw [show List.drop 23 s.data.toList = List.drop 3 (List.drop 20 s.data.toList) by rw [List.drop_drop]]
    rw [show (6 : Nat) = 3 + 3 from rfl, List.take_add]
  have l1 : (s.extract 20 23).data.toList.length = 3 := by simp; omega
  have l2 : (s.extract 23 26).data.toList.length = 3 := by simp; omega
  rw [ByteArray.toList_eq, e]
  unfold numHigh
  rw [numHigh_zero, numHigh_zero]
  constructor
  · intro hx
    have hm : ∀ b ∈ (s.extract 20 23).data.toList ++ (s.extract 23 26).data.toList, b = 0 := by rw [hx]; simp
    exact ⟨⟨rfl, fun b hb => hm b (List.mem_append_left _ hb)⟩, rfl, fun b hb => hm b (List.mem_append_right _ hb)⟩
  · rintro ⟨⟨_, h1⟩, _, h2⟩
    have r1 := List.eq_replicate_iff.2 ⟨l1, h1⟩
    have r2 := List.eq_replicate_iff.2 ⟨l2, h2⟩
    rw [r1, r2]
    rfl

theorem askOf_any (s : ByteArray) (w : World) : Calls Tryd.prog 14 #[.string s] w fun e w' => e = .returned (.tuple #[decAsk s, .int .i64 (decCode s)]) ∧ Below w.heap.size w w' := by
  by_cases h1 : s.size = 30
  · have t1 : ((s.size : Int) != 30) = false := by simp; omega
    have hsum := sum_bytes s h1 (Wi.sum (s.data.toList.take 26)) (Wi.sum_lt _)
    by_cases h2 : lowAt s 26 = Wi.sum (s.data.toList.take 26)
    · rw [decide_eq_true h2] at hsum
      by_cases h3 : (s.extract 20 26).toList = [0, 0, 0, 0, 0, 0]
      · obtain ⟨z1, z2⟩ := (spare_iff s h1).1 h3
        have hd : decCode s = Wi.code (bAt s 0) (bAt s 1) (highAt s 2) (bAt s 6) (bAt s 7) (highAt s 8) (highAt s 12) (highAt s 16) := by simp [decCode, h1, h2, h3]
        by_cases h4 : decCode s = 0
        · rw [decAsk, if_pos h4, h4]
          exact askOf_ok s w t1 hsum z1 z2 (by rw [← hd, h4]; exact rfl)
        · rw [decAsk, if_neg h4]
          exact askOf_bad s w t1 hsum z1 z2 (decCode s) (by omega) hd.symm
      · have hd : decCode s = 3 := by simp [decCode, h1, h2, h3]
        rw [decAsk, hd]
        by_cases z1 : numHigh (s.extract 20 23).data.toList = 0
        · have z2 : 0 < numHigh (s.extract 23 26).data.toList := by
            rcases Nat.eq_zero_or_pos (numHigh (s.extract 23 26).data.toList) with h | h
            · exact absurd ((spare_iff s h1).2 ⟨z1, h⟩) h3
            · exact h
          exact askOf_shape2 s w t1 hsum z1 z2
        · exact askOf_shape1 s w t1 hsum (by omega)
    · rw [decide_eq_false h2] at hsum
      have hd : decCode s = 5 := by simp [decCode, h1, h2]
      rw [decAsk, hd]
      exact askOf_sum s w t1 hsum
  · have t1 : ((s.size : Int) != 30) = true := by simp; omega
    have hd : decCode s = 1 := by simp [decCode, h1]
    rw [decAsk, hd]
    exact askOf_text s w t1

end Go.Proofs.YtibdemdhbpkeeaaDoor
