/- A right request's frame is read back as the request. -/
import Derived.Test.YtibdemdhbpkeeaaDoorBurstsWalk
import Derived.Test.YtibdemdhbpkeeaaDoorFrameFacts
namespace Go.Proofs.YtibdemdhbpkeeaaDoor
open Go.RowKit

theorem bAt_nums (xs : List Int) (i : Nat) : bAt (strOfNums xs) i = ((xs.getD i 0).toNat) % 256 := by
  unfold bAt strOfNums
  rcases Nat.lt_or_ge i xs.length with h | h
  · simp [h]
  · simp [List.getElem?_eq_none h]

theorem nat_byte {x : Int} (h : 0 ≤ x ∧ x < 256) : ((x.toNat % 256 : Nat) : Int) = x := by omega
theorem nat_low (x : Int) (h : 0 ≤ x ∧ x < 256) : (((x % 256).toNat % 256 : Nat) : Int) = x := by omega
theorem nat_high (x : Int) (h : 0 ≤ x ∧ x < 4294967296) :
    ((16777216 * ((x / 16777216 % 256).toNat % 256) + 65536 * ((x / 65536 % 256).toNat % 256) + 256 * ((x / 256 % 256).toNat % 256) + (x % 256).toNat % 256 : Nat) : Int) = x := by omega

theorem fields_frame {k c sq it sd pr q id : Int} (h : Wi.code k c sq it sd pr q id = 0) :
    ((bAt (strOfNums (Wi.frame k c sq it sd pr q id)) 0 : Nat) : Int) = k ∧ ((bAt (strOfNums (Wi.frame k c sq it sd pr q id)) 1 : Nat) : Int) = c ∧ ((highAt (strOfNums (Wi.frame k c sq it sd pr q id)) 2 : Nat) : Int) = sq ∧ ((bAt (strOfNums (Wi.frame k c sq it sd pr q id)) 6 : Nat) : Int) = it ∧ ((bAt (strOfNums (Wi.frame k c sq it sd pr q id)) 7 : Nat) : Int) = sd ∧ ((highAt (strOfNums (Wi.frame k c sq it sd pr q id)) 8 : Nat) : Int) = pr ∧ ((highAt (strOfNums (Wi.frame k c sq it sd pr q id)) 12 : Nat) : Int) = q ∧ ((highAt (strOfNums (Wi.frame k c sq it sd pr q id)) 16 : Nat) : Int) = id := by
  have f := Wi.fits h
  unfold highAt
  simp only [bAt_nums]
  refine ⟨?_, ?_, ?_, ?_, ?_, ?_, ?_, ?_⟩
  · exact nat_byte f.k
  · exact nat_low c f.c
  · exact nat_high sq f.sq
  · exact nat_low it f.it
  · exact nat_low sd f.sd
  · exact nat_high pr f.pr
  · exact nat_high q f.q
  · exact nat_high id f.id

theorem dec_frame {k c sq it sd pr q id : Int} (h : Wi.code k c sq it sd pr q id = 0) : decCode (strOfNums (Wi.frame k c sq it sd pr q id)) = 0 ∧ fieldsAsk (strOfNums (Wi.frame k c sq it sd pr q id)) = .agg #[.int .u8 k, .int .i64 c, .int .i64 sq, .int .i64 it, .int .i64 sd, .int .i64 pr, .int .i64 q, .int .i64 id] := by
  obtain ⟨e0, e1, e2, e3, e4, e5, e6, e7⟩ := fields_frame h
  have h30 : (strOfNums (Wi.frame k c sq it sd pr q id)).size = 30 := by rw [strOfNums_size, Wi.frame_length]
  have hs : ((strOfNums (Wi.frame k c sq it sd pr q id)).extract 20 26).toList = [0, 0, 0, 0, 0, 0] := by
    rw [ByteArray.toList_eq]
    simp [strOfNums, Wi.frame, Wi.body, Wi.high]
  have hl : lowAt (strOfNums (Wi.frame k c sq it sd pr q id)) 26 = Wi.sum ((strOfNums (Wi.frame k c sq it sd pr q id)).data.toList.take 26) := frame_right k c sq it sd pr q id
  refine ⟨?_, ?_⟩
  · unfold decCode
    rw [if_pos h30, if_pos hl, if_pos hs, e0, e1, e2, e3, e4, e5, e6, e7]
    exact h
  · unfold fieldsAsk
    rw [e0, e1, e2, e3, e4, e5, e6, e7]

theorem coded_errV (n : Nat) (hn : n ≤ 12) (ad : Nat → Addr) (w : World) (hs : Sent w ad) : Calls Tryd.prog 10 #[errV ad n, .int .i64 n] w fun e w' => e = .returned (.bool true) ∧ Below w.heap.size w w' := by
  by_cases h : n = 0
  · subst h
    exact (coded_nil w).mono fun e w' ⟨he, hw⟩ => ⟨he, hw ▸ Below.refl _ _⟩
  · rw [errV_pos ad h]
    have := coded_sent (n - 1) (by omega) ad w hs
    rw [show ((n - 1 : Nat) : Int) + 1 = n by omega] at this
    exact this

end Go.Proofs.YtibdemdhbpkeeaaDoor
