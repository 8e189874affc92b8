/- What Check, Encode and Decode give, for every request and every text, in a world that holds the errors of package api. -/
import Derived.Test.YtibdemdhbpkeeaaDoorDecodeWalks
import Derived.Test.YtibdemdhbpkeeaaDoorCode
namespace Go.Proofs.YtibdemdhbpkeeaaDoor
open Go.RowKit

/-- the error of a number: nil for 0 -/
def errV (ad : Nat → Addr) (n : Nat) : Value := if n = 0 then .nilIface else .iface 104 (.pointer (some (ad (n - 1))))
theorem errV_pos (ad : Nat → Addr) {n : Nat} (h : n ≠ 0) : errV ad n = .iface 104 (.pointer (some (ad (n - 1)))) := by simp [errV, h]

theorem Wi.code_cases (k c sq it sd pr q id : Int) : Wi.code k c sq it sd pr q id = 0 ∨ Wi.code k c sq it sd pr q id = 2 ∨ Wi.code k c sq it sd pr q id = 3 ∨ Wi.code k c sq it sd pr q id = 4 := by
  unfold Wi.code
  split
  · split
    · split
      · exact .inl rfl
      · exact .inr (.inr (.inl rfl))
    · exact .inr (.inl rfl)
  · exact .inr (.inr (.inr rfl))

theorem errOf_errV (ad : Nat → Addr) {n : Nat} (h : n = 0 ∨ n = 2 ∨ n = 3 ∨ n = 4) (h0 : n ≠ 0) :
    errOf (.iface 104 (.pointer (some (ad 1)))) (.iface 104 (.pointer (some (ad 2)))) (.iface 104 (.pointer (some (ad 3)))) n = errV ad n := by
  rcases h with rfl | rfl | rfl | rfl
  · exact absurd rfl h0
  · rfl
  · rfl
  · rfl

theorem check_any (k c sq it sd pr q id : Int) (ad : Nat → Addr) (w : World) (hs : Sent w ad) :
    Calls Tryd.prog 11 #[.agg #[.int .u8 k, .int .i64 c, .int .i64 sq, .int .i64 it, .int .i64 sd, .int .i64 pr, .int .i64 q, .int .i64 id]] w fun e w' => e = .returned (errV ad (Wi.code k c sq it sd pr q id)) ∧ Below w.heap.size w w' := by
  by_cases h : Wi.code k c sq it sd pr q id = 0
  · obtain ⟨h1, h2, h3⟩ := code_zero h
    rw [h]
    exact check_fine k c sq it sd pr q id w h1 h2 h3
  · rw [← errOf_errV ad (Wi.code_cases k c sq it sd pr q id) h]
    exact check_bad k c sq it sd pr q id _ _ _ w (hs.cell 1 (by decide)) (hs.cell 2 (by decide)) (hs.cell 3 (by decide)) h

/-- what Encode hands back as a text -/
def encText (k c sq it sd pr q id : Int) : ByteArray := if Wi.code k c sq it sd pr q id = 0 then strOfNums (Wi.frame k c sq it sd pr q id) else ⟨#[]⟩

theorem encode_any (k c sq it sd pr q id : Int) (ad : Nat → Addr) (w : World) (hs : Sent w ad) :
    Calls Tryd.prog 9 #[.agg #[.int .u8 k, .int .i64 c, .int .i64 sq, .int .i64 it, .int .i64 sd, .int .i64 pr, .int .i64 q, .int .i64 id]] w fun e w' => e = .returned (.tuple #[.string (encText k c sq it sd pr q id), errV ad (Wi.code k c sq it sd pr q id)]) ∧ Below w.heap.size w w' := by
  by_cases h : Wi.code k c sq it sd pr q id = 0
  · obtain ⟨h1, h2, h3⟩ := code_zero h
    rw [encText, if_pos h, h]
    exact encode_fine k c sq it sd pr q id w h1 h2 h3
  · rw [encText, if_neg h, ← errOf_errV ad (Wi.code_cases k c sq it sd pr q id) h]
    exact encode_err k c sq it sd pr q id 104 104 104 _ _ _ w (hs.cell 1 (by decide)) (hs.cell 2 (by decide)) (hs.cell 3 (by decide)) h

/-- the number of the error of a text as a frame, 0 for none -/
def decCode (s : ByteArray) : Nat :=
  if s.size = 30 then
    if lowAt s 26 = Wi.sum (s.data.toList.take 26) then
      if (s.extract 20 26).toList = [0, 0, 0, 0, 0, 0] then Wi.code (bAt s 0) (bAt s 1) (highAt s 2) (bAt s 6) (bAt s 7) (highAt s 8) (highAt s 12) (highAt s 16) else 3
    else 5
  else 1
def decAsk (s : ByteArray) : Value := if decCode s = 0 then fieldsAsk s else zeroAsk

theorem decode_any (s : ByteArray) (ad : Nat → Addr) (w : World) (hs : Sent w ad) :
    Calls Tryd.prog 12 #[.string s] w fun e w' => e = .returned (.tuple #[decAsk s, errV ad (decCode s)]) ∧ Below w.heap.size w w' := by
  by_cases h1 : s.size = 30
  · have t1 : ((s.size : Int) != 30) = false := by simp; omega
    by_cases h2 : lowAt s 26 = Wi.sum (s.data.toList.take 26)
    · have t2 : ((lowAt s 26 : Int) != (Wi.sum (s.data.toList.take 26) : Int)) = false := by simp; omega
      by_cases h3 : (s.extract 20 26).toList = [0, 0, 0, 0, 0, 0]
      · have t3 : ((s.extract 20 26).toList == [0, 0, 0, 0, 0, 0]) = true := by rw [h3]; rfl
        have hd : decCode s = Wi.code (bAt s 0) (bAt s 1) (highAt s 2) (bAt s 6) (bAt s 7) (highAt s 8) (highAt s 12) (highAt s 16) := by simp [decCode, h1, h2, h3]
        by_cases h4 : decCode s = 0
        · rw [decAsk, if_pos h4, h4]
          refine decode_ok s w t1 t2 t3 (fun wz hb => ?_)
          have := check_any (bAt s 0) (bAt s 1) (highAt s 2) (bAt s 6) (bAt s 7) (highAt s 8) (highAt s 12) (highAt s 16) ad wz (hs.later hb)
          rw [← hd, h4] at this
          exact this
        · rw [decAsk, if_neg h4, errV_pos ad h4]
          refine decode_bad s 104 _ w t1 t2 t3 (fun wz hb => ?_)
          have := check_any (bAt s 0) (bAt s 1) (highAt s 2) (bAt s 6) (bAt s 7) (highAt s 8) (highAt s 12) (highAt s 16) ad wz (hs.later hb)
          rw [← hd, errV_pos ad h4] at this
          exact this
      · have t3 : ((s.extract 20 26).toList == [0, 0, 0, 0, 0, 0]) = false := beq_eq_false_iff_ne.2 h3
        have hd : decCode s = 3 := by simp [decCode, h1, h2, h3]
        rw [decAsk, hd]
        exact decode_shape s _ w (hs.cell 2 (by decide)) t1 t2 t3
    · have t2 : ((lowAt s 26 : Int) != (Wi.sum (s.data.toList.take 26) : Int)) = true := by simp; omega
      have hd : decCode s = 5 := by simp [decCode, h1, h2]
      rw [decAsk, hd]
      exact decode_sum s _ w (hs.cell 4 (by decide)) t1 t2
  · have t1 : ((s.size : Int) != 30) = true := by simp; omega
    have hd : decCode s = 1 := by simp [decCode, h1]
    rw [decAsk, hd]
    exact decode_text s _ w (hs.cell 0 (by decide)) t1

theorem decCode_le (s : ByteArray) : decCode s ≤ 5 := by
  unfold decCode
  have := Wi.code_cases (bAt s 0) (bAt s 1) (highAt s 2) (bAt s 6) (bAt s 7) (highAt s 8) (highAt s 12) (highAt s 16)
  repeat' split
  all_goals omega

end Go.Proofs.YtibdemdhbpkeeaaDoor
