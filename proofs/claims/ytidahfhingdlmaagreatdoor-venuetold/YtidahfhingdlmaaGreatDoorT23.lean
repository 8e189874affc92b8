/- What Check, Encode and Decode give, for every request and every text, in a world that holds the errors of package api. -/
import Derived.Test.YtidahfhingdlmaaGreatDoorT09
import Derived.Test.YtidahfhingdlmaaGreatDoorT04
import Derived.Laws.IdiomStrings
import Derived.Test.YtidahfhingdlmaaGreatDoorT02
import Derived.Test.YtidahfhingdlmaaGreatDoorT03
namespace Go.Proofs.YtidahfhingdlmaaGreatDoor
open Go.RowKit
def errV (ad:Nat→Addr) (n:Nat):Value:=if n = 0 then .nilIface else .iface 362 (.pointer (some (ad (n - 1))))
theorem errV_pos (ad:Nat→Addr) {n:Nat} (h:n≠0):errV ad n = .iface 362 (.pointer (some (ad (n - 1)))):=by simp [errV,h]
theorem Wi.code_cases (k c sq it sd pr q id:Int):Wi.code k c sq it sd pr q id = 0∨Wi.code k c sq it sd pr q id = 2∨Wi.code k c sq it sd pr q id = 3∨Wi.code k c sq it sd pr q id = 4:=by
 unfold Wi.code
 split
 ·split
  ·split
   ·exact .inl rfl
   ·exact .inr (.inr (.inl rfl))
  ·exact .inr (.inl rfl)
 ·exact .inr (.inr (.inr rfl))
theorem errOf_errV (ad:Nat→Addr) {n:Nat} (h:n = 0∨n = 2∨n = 3∨n = 4) (h0:n≠0) :
  w_errOf (.iface 362 (.pointer (some (ad 1)))) (.iface 362 (.pointer (some (ad 2)))) (.iface 362 (.pointer (some (ad 3)))) n = errV ad n:=by
 rcases h with rfl | rfl | rfl | rfl
 ·exact absurd rfl h0
 ·rfl
 ·rfl
 ·rfl
theorem w_check_any (k c sq it sd pr q id:Int) (ad:Nat→Addr) (w:World) (hs:Sent w ad) :
  Calls Tryz.prog 127 #[.agg #[.int .u8 k,.int .i64 c,.int .i64 sq,.int .i64 it,.int .i64 sd,.int .i64 pr,.int .i64 q,.int .i64 id]] w fun e w'=>e = .returned (errV ad (Wi.code k c sq it sd pr q id))∧Below w.heap.size w w':=by
 by_cases h:Wi.code k c sq it sd pr q id = 0
 ·obtain ⟨h1,h2,h3⟩:=code_zero h
  rw [h]
  exact check_fine k c sq it sd pr q id w h1 h2 h3
 ·rw [← errOf_errV ad (Wi.code_cases k c sq it sd pr q id) h]
  exact w_check_bad k c sq it sd pr q id _ _ _ w (hs.cell 1 (by decide)) (hs.cell 2 (by decide)) (hs.cell 3 (by decide)) h
def encText (k c sq it sd pr q id:Int):ByteArray:=if Wi.code k c sq it sd pr q id = 0 then strOfNums (Wi.frame k c sq it sd pr q id) else ⟨#[]⟩
theorem encode_any (k c sq it sd pr q id:Int) (ad:Nat→Addr) (w:World) (hs:Sent w ad) :
  Calls Tryz.prog 95 #[.agg #[.int .u8 k,.int .i64 c,.int .i64 sq,.int .i64 it,.int .i64 sd,.int .i64 pr,.int .i64 q,.int .i64 id]] w fun e w'=>e = .returned (.tuple #[.string (encText k c sq it sd pr q id),errV ad (Wi.code k c sq it sd pr q id)])∧Below w.heap.size w w':=by
 by_cases h:Wi.code k c sq it sd pr q id = 0
 ·obtain ⟨h1,h2,h3⟩:=code_zero h
  rw [encText,if_pos h,h]
  exact encode_fine k c sq it sd pr q id w h1 h2 h3
 ·rw [encText,if_neg h,← errOf_errV ad (Wi.code_cases k c sq it sd pr q id) h]
  exact encode_err k c sq it sd pr q id 362 362 362 _ _ _ w (hs.cell 1 (by decide)) (hs.cell 2 (by decide)) (hs.cell 3 (by decide)) h
def decCode (s:ByteArray):Nat :=
 if s.size = 30 then
  if lowAt s 26 = Wi.sum (s.data.toList.take 26) then
   if (s.extract 20 26).toList = [0,0,0,0,0,0] then Wi.code (bAt s 0) (bAt s 1) (highAt s 2) (bAt s 6) (bAt s 7) (highAt s 8) (highAt s 12) (highAt s 16) else 3
  else 5
 else 1
def decAsk (s:ByteArray):Value:=if decCode s = 0 then fieldsAsk s else zeroAsk
theorem decode_any (s:ByteArray) (ad:Nat→Addr) (w:World) (hs:Sent w ad) :
  Calls Tryz.prog 105 #[.string s] w fun e w'=>e = .returned (.tuple #[decAsk s,errV ad (decCode s)])∧Below w.heap.size w w':=by
 by_cases h1:s.size = 30
 ·have t1:((s.size:Int) != 30) = false:=by simp;omega
  by_cases h2:lowAt s 26 = Wi.sum (s.data.toList.take 26)
  ·have t2:((lowAt s 26:Int) != (Wi.sum (s.data.toList.take 26):Int)) = false:=by simp;omega
   by_cases h3:(s.extract 20 26).toList = [0,0,0,0,0,0]
   ·have t3:((s.extract 20 26).toList == [0,0,0,0,0,0]) = true:=by rw [h3];rfl
    have hd:decCode s = Wi.code (bAt s 0) (bAt s 1) (highAt s 2) (bAt s 6) (bAt s 7) (highAt s 8) (highAt s 12) (highAt s 16):=by simp [decCode,h1,h2,h3]
    by_cases h4:decCode s = 0
    ·rw [decAsk,if_pos h4,h4]
     refine decode_ok s w t1 t2 t3 (fun wz hb=>?_)
     have:=w_check_any (bAt s 0) (bAt s 1) (highAt s 2) (bAt s 6) (bAt s 7) (highAt s 8) (highAt s 12) (highAt s 16) ad wz (hs.later hb)
     rw [← hd,h4] at this
     exact this
    ·rw [decAsk,if_neg h4,errV_pos ad h4]
     refine decode_bad s 362 _ w t1 t2 t3 (fun wz hb=>?_)
     have:=w_check_any (bAt s 0) (bAt s 1) (highAt s 2) (bAt s 6) (bAt s 7) (highAt s 8) (highAt s 12) (highAt s 16) ad wz (hs.later hb)
     rw [← hd,errV_pos ad h4] at this
     exact this
   ·have t3:((s.extract 20 26).toList == [0,0,0,0,0,0]) = false:=beq_eq_false_iff_ne.2 h3
    have hd:decCode s = 3:=by simp [decCode,h1,h2,h3]
    rw [decAsk,hd]
    exact decode_shape s _ w (hs.cell 2 (by decide)) t1 t2 t3
  ·have t2:((lowAt s 26:Int) != (Wi.sum (s.data.toList.take 26):Int)) = true:=by simp;omega
   have hd:decCode s = 5:=by simp [decCode,h1,h2]
   rw [decAsk,hd]
   exact decode_sum s _ w (hs.cell 4 (by decide)) t1 t2
 ·have t1:((s.size:Int) != 30) = true:=by simp;omega
  have hd:decCode s = 1:=by simp [decCode,h1]
  rw [decAsk,hd]
  exact decode_text s _ w (hs.cell 0 (by decide)) t1
theorem decCode_le (s:ByteArray):decCode s≤5:=by
 unfold decCode
 have:=Wi.code_cases (bAt s 0) (bAt s 1) (highAt s 2) (bAt s 6) (bAt s 7) (highAt s 8) (highAt s 12) (highAt s 16)
 repeat' split
 all_goals omega
end Go.Proofs.YtidahfhingdlmaaGreatDoor
namespace Go.Proofs.YtidahfhingdlmaaGreatDoor
open Go.RowKit
set_option maxRecDepth 100000
theorem frame_right (k c sq it sd pr q id:Int):Wi.low4 (strOfNums (Wi.frame k c sq it sd pr q id)).data.toList 26 = Wi.sum ((strOfNums (Wi.frame k c sq it sd pr q id)).data.toList.take 26):=by
 have e1:(strOfNums (Wi.frame k c sq it sd pr q id)).data.toList.take 26 = (strOfNums (Wi.body k c sq it sd pr q id)).data.toList:=by
  simp [strOfNums,Wi.frame,Wi.body,Wi.high]
 rw [e1]
 have hlt:=Wi.sum_lt (strOfNums (Wi.body k c sq it sd pr q id)).data.toList
 have e2:Wi.low4 (strOfNums (Wi.frame k c sq it sd pr q id)).data.toList 26 = (UInt8.ofNat ((Wi.sum (strOfNums (Wi.body k c sq it sd pr q id)).data.toList:Int) % 256).toNat).toNat + 256 * (UInt8.ofNat ((Wi.sum (strOfNums (Wi.body k c sq it sd pr q id)).data.toList:Int) / 256 % 256).toNat).toNat
   + 65536 * (UInt8.ofNat ((Wi.sum (strOfNums (Wi.body k c sq it sd pr q id)).data.toList:Int) / 65536 % 256).toNat).toNat + 16777216 * (UInt8.ofNat ((Wi.sum (strOfNums (Wi.body k c sq it sd pr q id)).data.toList:Int) / 16777216 % 256).toNat).toNat:=by
  unfold Wi.frame
  generalize Wi.sum (strOfNums (Wi.body k c sq it sd pr q id)).data.toList = z
  simp [Wi.low4,strOfNums,Wi.body,Wi.high,Wi.low]
 rw [e2]
 generalize Wi.sum (strOfNums (Wi.body k c sq it sd pr q id)).data.toList = z at hlt ⊢
 simp only [UInt8.toNat_ofNat']
 omega
end Go.Proofs.YtidahfhingdlmaaGreatDoor
namespace Go.Proofs.YtidahfhingdlmaaGreatDoor
open Go.RowKit
theorem bAt_nums (xs:List Int) (i:Nat):bAt (strOfNums xs) i = ((xs.getD i 0).toNat) % 256:=by
 unfold bAt strOfNums
 rcases Nat.lt_or_ge i xs.length with h | h
 ·simp [h]
 ·simp [List.getElem?_eq_none h]
theorem nat_byte {x:Int} (h:0≤x∧x < 256):((x.toNat % 256:Nat):Int) = x:=by omega
theorem nat_low (x:Int) (h:0≤x∧x < 256):(((x % 256).toNat % 256:Nat):Int) = x:=by omega
theorem nat_high (x:Int) (h:0≤x∧x < 4294967296) :
  ((16777216 * ((x / 16777216 % 256).toNat % 256) + 65536 * ((x / 65536 % 256).toNat % 256) + 256 * ((x / 256 % 256).toNat % 256) + (x % 256).toNat % 256:Nat):Int) = x:=by omega
theorem fields_frame {k c sq it sd pr q id:Int} (h:Wi.code k c sq it sd pr q id = 0) :
  ((bAt (strOfNums (Wi.frame k c sq it sd pr q id)) 0:Nat):Int) = k∧((bAt (strOfNums (Wi.frame k c sq it sd pr q id)) 1:Nat):Int) = c∧((highAt (strOfNums (Wi.frame k c sq it sd pr q id)) 2:Nat):Int) = sq∧((bAt (strOfNums (Wi.frame k c sq it sd pr q id)) 6:Nat):Int) = it∧((bAt (strOfNums (Wi.frame k c sq it sd pr q id)) 7:Nat):Int) = sd∧((highAt (strOfNums (Wi.frame k c sq it sd pr q id)) 8:Nat):Int) = pr∧((highAt (strOfNums (Wi.frame k c sq it sd pr q id)) 12:Nat):Int) = q∧((highAt (strOfNums (Wi.frame k c sq it sd pr q id)) 16:Nat):Int) = id:=by
 have f:=Wi.fits h
 unfold highAt
 simp only [bAt_nums]
 refine ⟨?_,?_,?_,?_,?_,?_,?_,?_⟩
 ·exact nat_byte f.k
 ·exact nat_low c f.c
 ·exact nat_high sq f.sq
 ·exact nat_low it f.it
 ·exact nat_low sd f.sd
 ·exact nat_high pr f.pr
 ·exact nat_high q f.q
 ·exact nat_high id f.id
theorem dec_frame {k c sq it sd pr q id:Int} (h:Wi.code k c sq it sd pr q id = 0):decCode (strOfNums (Wi.frame k c sq it sd pr q id)) = 0∧fieldsAsk (strOfNums (Wi.frame k c sq it sd pr q id)) = .agg #[.int .u8 k,.int .i64 c,.int .i64 sq,.int .i64 it,.int .i64 sd,.int .i64 pr,.int .i64 q,.int .i64 id]:=by
 obtain ⟨e0,e1,e2,e3,e4,e5,e6,e7⟩:=fields_frame h
 have h30:(strOfNums (Wi.frame k c sq it sd pr q id)).size = 30:=by rw [strOfNums_size,Wi.frame_length]
 have hs:((strOfNums (Wi.frame k c sq it sd pr q id)).extract 20 26).toList = [0,0,0,0,0,0]:=by
  rw [ByteArray.toList_eq]
  simp [strOfNums,Wi.frame,Wi.body,Wi.high]
 have hl:lowAt (strOfNums (Wi.frame k c sq it sd pr q id)) 26 = Wi.sum ((strOfNums (Wi.frame k c sq it sd pr q id)).data.toList.take 26):=frame_right k c sq it sd pr q id
 refine ⟨?_,?_⟩
 ·unfold decCode
  rw [if_pos h30,if_pos hl,if_pos hs,e0,e1,e2,e3,e4,e5,e6,e7]
  exact h
 ·unfold fieldsAsk
  rw [e0,e1,e2,e3,e4,e5,e6,e7]
end Go.Proofs.YtidahfhingdlmaaGreatDoor
