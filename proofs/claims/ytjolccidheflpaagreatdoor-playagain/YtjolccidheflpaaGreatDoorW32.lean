/- What Check, Encode and Decode give, for every request and every text, in a world that holds the errors of package api. -/
import Derived.Test.YtjolccidheflpaaGreatDoorW09
import Derived.Test.YtjolccidheflpaaGreatDoorW04
import Derived.Laws.IdiomStrings
import Derived.Test.YtjolccidheflpaaGreatDoorW00
import Derived.Test.YtjolccidheflpaaGreatDoorW03
namespace Go.Proofs.YtjolccidheflpaaGreatDoor
set_option maxHeartbeats 8000000
set_option maxRecDepth 100000
open Go.RowKit
def gy (ad:Nat->Addr) (n:Nat):Value:=if n=0 then .nilIface else .iface 412 (.pointer (some (ad (n-1))))
theorem vX (ad:Nat->Addr) {n:Nat} (h:n≠0):gy ad n=.iface 412 (.pointer (some (ad (n-1)))):=by simp[gy,h]
theorem ah.Jy (k c sq it sd pr q id:Int):ah.code k c sq it sd pr q id=0\/ah.code k c sq it sd pr q id=2\/ah.code k c sq it sd pr q id=3\/ah.code k c sq it sd pr q id=4:=by
 unfold ah.code;split
 .split
  .split
   .exact .inl rfl
   .exact .inr (.inr (.inl rfl))
  .exact .inr (.inl rfl)
 .exact .inr (.inr (.inr rfl))
theorem Q8 (ad:Nat->Addr) {n:Nat} (h:n=0\/n=2\/n=3\/n=4) (h0:n≠0) :
  pD (.iface 412 (.pointer (some (ad 1)))) (.iface 412 (.pointer (some (ad 2)))) (.iface 412 (.pointer (some (ad 3)))) n=gy ad n:=by
 rcases h with rfl | rfl | rfl | rfl
 .exact absurd rfl h0
 .rfl
 .rfl
 .rfl
theorem Q9 (k c sq it sd pr q id:Int) (ad:Nat->Addr) (w:World) (hs:bO w ad) :
  Calls Tryz.prog 151 #[.agg #[.int .u8 k,Qa c,Qa sq,Qa it,Qa sd,Qa pr,Qa q,Qa id]] w fun e w'=>e=.returned (gy ad (ah.code k c sq it sd pr q id))/\Qd w w':=by
 by_cases h:ah.code k c sq it sd pr q id=0
 .obtain⟨h1,h2,h3⟩:=Jz h
  rw[h];exact DV k c sq it sd pr q id w h1 h2 h3
 .rw[<- Q8 ad (ah.Jy k c sq it sd pr q id) h]
  exact Q_ k c sq it sd pr q id _ _ _ w (hs.cell 1 (by decide)) (hs.cell 2 (by decide)) (hs.cell 3 (by decide)) h
def nh (k c sq it sd pr q id:Int):ByteArray:=if ah.code k c sq it sd pr q id=0 then strOfNums (ah.frame k c sq it sd pr q id) else ⟨#[]⟩
theorem Rb (k c sq it sd pr q id:Int) (ad:Nat->Addr) (w:World) (hs:bO w ad) :
  Calls Tryz.prog 138 #[.agg #[.int .u8 k,Qa c,Qa sq,Qa it,Qa sd,Qa pr,Qa q,Qa id]] w fun e w'=>e=.returned (.tuple #[.string (nh k c sq it sd pr q id),gy ad (ah.code k c sq it sd pr q id)])/\Qd w w':=by
 by_cases h:ah.code k c sq it sd pr q id=0
 .obtain⟨h1,h2,h3⟩:=Jz h
  rw[nh,if_pos h,h];exact acP k c sq it sd pr q id w h1 h2 h3
 .rw[nh,if_neg h,<- Q8 ad (ah.Jy k c sq it sd pr q id) h]
  exact acQ k c sq it sd pr q id 412 412 412 _ _ _ w (hs.cell 1 (by decide)) (hs.cell 2 (by decide)) (hs.cell 3 (by decide)) h
def eu (s:ByteArray):Nat :=
 if s.size=30 then
  if eJ s 26=ah.sum (s.data.toList.take 26) then
   if (s.extract 20 26).toList=[0,0,0,0,0,0] then ah.code (aN s 0) (aN s 1) (aA s 2) (aN s 6) (aN s 7) (aA s 8) (aA s 12) (aA s 16) else 3
  else 5
 else 1
def rU (s:ByteArray):Value:=if eu s=0 then rV s else ni
theorem Rc (s:ByteArray) (ad:Nat->Addr) (w:World) (hs:bO w ad) :
  Calls Tryz.prog 86 #[.string s] w fun e w'=>e=.returned (.tuple #[rU s,gy ad (eu s)])/\Qd w w':=by
 by_cases h1:s.size=30
 .have t1:((s.size:Int) != 30)=false:=by simp;omega
  by_cases h2:eJ s 26=ah.sum (s.data.toList.take 26)
  .have t2:((eJ s 26:Int) != (ah.sum (s.data.toList.take 26):Int))=false:=by simp;omega
   by_cases h3:(s.extract 20 26).toList=[0,0,0,0,0,0]
   .have t3:((s.extract 20 26).toList==[0,0,0,0,0,0])=true:=by rw[h3];rfl
    have hd:eu s=ah.code (aN s 0) (aN s 1) (aA s 2) (aN s 6) (aN s 7) (aA s 8) (aA s 12) (aA s 16):=by simp[eu,h1,h2,h3]
    by_cases h4:eu s=0
    .rw[rU,if_pos h4,h4]
     refine acR s w t1 t2 t3 (fun aj hb=>?_)
     have:=Q9 (aN s 0) (aN s 1) (aA s 2) (aN s 6) (aN s 7) (aA s 8) (aA s 12) (aA s 16) ad aj (hs.later hb)
     rw[<- hd,h4]at this;exact this
    .rw[rU,if_neg h4,vX ad h4]
     refine acS s 412 _ w t1 t2 t3 (fun aj hb=>?_)
     have:=Q9 (aN s 0) (aN s 1) (aA s 2) (aN s 6) (aN s 7) (aA s 8) (aA s 12) (aA s 16) ad aj (hs.later hb)
     rw[<- hd,vX ad h4]at this;exact this
   .have t3:((s.extract 20 26).toList==[0,0,0,0,0,0])=false:=beq_eq_false_iff_ne.2 h3
    have hd:eu s=3:=by simp[eu,h1,h2,h3]
    rw[rU,hd];exact acT s _ w (hs.cell 2 (by decide)) t1 t2 t3
  .have t2:((eJ s 26:Int) != (ah.sum (s.data.toList.take 26):Int))=true:=by simp;omega
   have hd:eu s=5:=by simp[eu,h1,h2]
   rw[rU,hd];exact acU s _ w (hs.cell 4 (by decide)) t1 t2
 .have t1:((s.size:Int) != 30)=true:=by simp;omega
  have hd:eu s=1:=by simp[eu,h1]
  rw[rU,hd];exact acV s _ w (hs.cell 0 (by decide)) t1
theorem acW (s:ByteArray):eu s<=5:=by
 unfold eu
 have:=ah.Jy (aN s 0) (aN s 1) (aA s 2) (aN s 6) (aN s 7) (aA s 8) (aA s 12) (aA s 16)
 repeat' split
 all_goals omega
theorem abF (k c sq it sd pr q id:Int):ah.Jd (strOfNums (ah.frame k c sq it sd pr q id)).data.toList 26=ah.sum ((strOfNums (ah.frame k c sq it sd pr q id)).data.toList.take 26):=by
 have e1:(strOfNums (ah.frame k c sq it sd pr q id)).data.toList.take 26=(strOfNums (ah.body k c sq it sd pr q id)).data.toList:=by
  simp[strOfNums,ah.frame,ah.body,ah.high]
 rw[e1];have hlt:=ah.sum_lt (strOfNums (ah.body k c sq it sd pr q id)).data.toList;have e2:ah.Jd (strOfNums (ah.frame k c sq it sd pr q id)).data.toList 26=(UInt8.ofNat ((ah.sum (strOfNums (ah.body k c sq it sd pr q id)).data.toList:Int)%256).toNat).toNat+256*(UInt8.ofNat ((ah.sum (strOfNums (ah.body k c sq it sd pr q id)).data.toList:Int)/256%256).toNat).toNat
   + 65536*(UInt8.ofNat ((ah.sum (strOfNums (ah.body k c sq it sd pr q id)).data.toList:Int)/65536%256).toNat).toNat+16777216*(UInt8.ofNat ((ah.sum (strOfNums (ah.body k c sq it sd pr q id)).data.toList:Int)/16777216%256).toNat).toNat:=by
  unfold ah.frame;generalize ah.sum (strOfNums (ah.body k c sq it sd pr q id)).data.toList=z;simp[ah.Jd,strOfNums,ah.body,ah.high,ah.low]
 rw[e2];generalize ah.sum (strOfNums (ah.body k c sq it sd pr q id)).data.toList=z at hlt ⊢;simp only[UInt8.toNat_ofNat'];omega
theorem ai4 (xs:List Int) (i:Nat):aN (strOfNums xs) i=((xs.getD i 0).toNat)%256:=by
 unfold aN strOfNums;rcases Nat.lt_or_ge i xs.length with h | h
 .simp[h]
 .simp[List.getElem?_eq_none h]
theorem ai5 {x:Int} (h:0<=x/\x<256):((x.toNat%256:Nat):Int)=x:=by omega
theorem Oa (x:Int) (h:0<=x/\x<256):(((x%256).toNat%256:Nat):Int)=x:=by omega
theorem Hy (x:Int) (h:0<=x/\x<4294967296) :
  ((16777216*((x/16777216%256).toNat%256)+65536*((x/65536%256).toNat%256)+256*((x/256%256).toNat%256)+(x%256).toNat%256:Nat):Int)=x:=by omega
theorem Xv {k c sq it sd pr q id:Int} (h:ah.code k c sq it sd pr q id=0) :
  ((aN (strOfNums (ah.frame k c sq it sd pr q id)) 0:Nat):Int)=k/\((aN (strOfNums (ah.frame k c sq it sd pr q id)) 1:Nat):Int)=c/\((aA (strOfNums (ah.frame k c sq it sd pr q id)) 2:Nat):Int)=sq/\((aN (strOfNums (ah.frame k c sq it sd pr q id)) 6:Nat):Int)=it/\((aN (strOfNums (ah.frame k c sq it sd pr q id)) 7:Nat):Int)=sd/\((aA (strOfNums (ah.frame k c sq it sd pr q id)) 8:Nat):Int)=pr/\((aA (strOfNums (ah.frame k c sq it sd pr q id)) 12:Nat):Int)=q/\((aA (strOfNums (ah.frame k c sq it sd pr q id)) 16:Nat):Int)=id:=by
 have f:=ah.fits h;unfold aA;simp only[ai4];refine⟨?_,?_,?_,?_,?_,?_,?_,?_⟩
 .exact ai5 f.k
 .exact Oa c f.c
 .exact Hy sq f.sq
 .exact Oa it f.it
 .exact Oa sd f.sd
 .exact Hy pr f.pr
 .exact Hy q f.q
 .exact Hy id f.id
theorem Xw {k c sq it sd pr q id:Int} (h:ah.code k c sq it sd pr q id=0):eu (strOfNums (ah.frame k c sq it sd pr q id))=0/\rV (strOfNums (ah.frame k c sq it sd pr q id))=.agg #[.int .u8 k,Qa c,Qa sq,Qa it,Qa sd,Qa pr,Qa q,Qa id]:=by
 obtain⟨e0,e1,e2,e3,e4,e5,e6,e7⟩:=Xv h;have ai6:(strOfNums (ah.frame k c sq it sd pr q id)).size=30:=by rw[strOfNums_size,ah.BA]
 have hs:((strOfNums (ah.frame k c sq it sd pr q id)).extract 20 26).toList=[0,0,0,0,0,0]:=by
  rw[ByteArray.toList_eq];simp[strOfNums,ah.frame,ah.body,ah.high]
 have hl:eJ (strOfNums (ah.frame k c sq it sd pr q id)) 26=ah.sum ((strOfNums (ah.frame k c sq it sd pr q id)).data.toList.take 26):=abF k c sq it sd pr q id;refine⟨?_,?_⟩
 .unfold eu
  rw[if_pos ai6,if_pos hl,if_pos hs,e0,e1,e2,e3,e4,e5,e6,e7];exact h
 .unfold rV
  rw[e0,e1,e2,e3,e4,e5,e6,e7]
end Go.Proofs.YtjolccidheflpaaGreatDoor
