/- What Check, Encode and Decode give, for every request and every text, in a world that holds the errors of package api. -/
import Derived.Test.YtjolccidheflpaaGreatDoorX09
import Derived.Test.YtjolccidheflpaaGreatDoorX04
namespace Go.Proofs.YtjolccidheflpaaGreatDoor
open Go.Proofs.Tryz
set_option maxHeartbeats 8000000
set_option maxRecDepth 100000
open Go.RowKit
def fq(ad:Nat->Addr)(n:Nat):Value:=if n=0 then .nilIface else .iface 412 (.pointer (some (ad (n-1))))
theorem xy(ad:Nat->Addr){n:Nat}(h:n≠0):fq ad n=.iface 412 (.pointer (some (ad (n-1)))):=by simp[fq,h]
theorem ah.J_(k c sq it sd pr q id:Int):ah.code k c sq it sd pr q id=0\/ah.code k c sq it sd pr q id=2\/ah.code k c sq it sd pr q id=3\/ah.code k c sq it sd pr q id=4:=by
 unfold ah.code;split
 .split
  .split
   .exact .inl rfl
   .exact .inr (.inr (.inl rfl))
  .exact .inr (.inl rfl)
 .exact .inr (.inr (.inr rfl))
theorem SV(ad:Nat->Addr){n:Nat}(h:n=0\/n=2\/n=3\/n=4)(h0:n≠0):
  qp (.iface 412 (.pointer (some (ad 1)))) (.iface 412 (.pointer (some (ad 2)))) (.iface 412 (.pointer (some (ad 3)))) n=fq ad n:=by
 rcases h with rfl | rfl | rfl | rfl
 .exact absurd rfl h0
 .rfl
 .rfl
 .rfl
theorem SX(k c sq it sd pr q id:Int)(ad:Nat->Addr)(w:World)(hs:bJ w ad):
  Calls prog 151 #[.agg #[.int .u8 k,Z c,Z sq,Z it,Z sd,Z pr,Z q,Z id]] w fun e w'=>e=.returned (fq ad (ah.code k c sq it sd pr q id))/\U w w':=by
 by_cases h:ah.code k c sq it sd pr q id=0
 .obtain⟨h1,h2,h3⟩:=FC h
  rw[h];exact Fq k c sq it sd pr q id w h1 h2 h3
 .rw[<- SV ad (ah.J_ k c sq it sd pr q id) h]
  exact SY k c sq it sd pr q id _ _ _ w (hs.cell 1 (by decide)) (hs.cell 2 (by decide)) (hs.cell 3 (by decide)) h
def oA(k c sq it sd pr q id:Int):ByteArray:=if ah.code k c sq it sd pr q id=0 then strOfNums (ah.frame k c sq it sd pr q id) else ⟨#[]⟩
theorem SZ(k c sq it sd pr q id:Int)(ad:Nat->Addr)(w:World)(hs:bJ w ad):
  Calls prog 138 #[.agg #[.int .u8 k,Z c,Z sq,Z it,Z sd,Z pr,Z q,Z id]] w fun e w'=>e=.returned (.tuple #[.string (oA k c sq it sd pr q id),fq ad (ah.code k c sq it sd pr q id)])/\U w w':=by
 by_cases h:ah.code k c sq it sd pr q id=0
 .obtain⟨h1,h2,h3⟩:=FC h
  rw[oA,if_pos h,h];exact ae0 k c sq it sd pr q id w h1 h2 h3
 .rw[oA,if_neg h,<- SV ad (ah.J_ k c sq it sd pr q id) h]
  exact ae1 k c sq it sd pr q id 412 412 412 _ _ _ w (hs.cell 1 (by decide)) (hs.cell 2 (by decide)) (hs.cell 3 (by decide)) h
def eM(s:ByteArray):Nat :=
 if s.size=30 then
  if ft s 26=ah.sum (s.data.toList.take 26) then
   if (s.extract 20 26).toList=[0,0,0,0,0,0] then ah.code (aS s 0) (aS s 1) (aJ s 2) (aS s 6) (aS s 7) (aJ s 8) (aJ s 12) (aJ s 16) else 3
  else 5
 else 1
def s4(s:ByteArray):Value:=if eM s=0 then s5 s else oB
theorem S4(s:ByteArray)(ad:Nat->Addr)(w:World)(hs:bJ w ad):
  Calls prog 86 #[.string s] w fun e w'=>e=.returned (.tuple #[s4 s,fq ad (eM s)])/\U w w':=by
 by_cases h1:s.size=30
 .have t1:((s.size:Int) != 30)=false:=by simp;omega
  by_cases h2:ft s 26=ah.sum (s.data.toList.take 26)
  .have t2:((ft s 26:Int) != (ah.sum (s.data.toList.take 26):Int))=false:=by simp;omega
   by_cases h3:(s.extract 20 26).toList=[0,0,0,0,0,0]
   .have t3:((s.extract 20 26).toList==[0,0,0,0,0,0])=true:=by rw[h3];rfl
    have hd:eM s=ah.code (aS s 0) (aS s 1) (aJ s 2) (aS s 6) (aS s 7) (aJ s 8) (aJ s 12) (aJ s 16):=by simp[eM,h1,h2,h3]
    by_cases h4:eM s=0
    .rw[s4,if_pos h4,h4]
     refine ae2 s w t1 t2 t3 (fun aD hb=>?_)
     have:=SX (aS s 0) (aS s 1) (aJ s 2) (aS s 6) (aS s 7) (aJ s 8) (aJ s 12) (aJ s 16) ad aD (hs.later hb)
     rw[<- hd,h4]at this;exact this
    .rw[s4,if_neg h4,xy ad h4]
     refine ae3 s 412 _ w t1 t2 t3 (fun aD hb=>?_)
     have:=SX (aS s 0) (aS s 1) (aJ s 2) (aS s 6) (aS s 7) (aJ s 8) (aJ s 12) (aJ s 16) ad aD (hs.later hb)
     rw[<- hd,xy ad h4]at this;exact this
   .have t3:((s.extract 20 26).toList==[0,0,0,0,0,0])=false:=beq_eq_false_iff_ne.2 h3
    have hd:eM s=3:=by simp[eM,h1,h2,h3]
    rw[s4,hd];exact ae4 s _ w (hs.cell 2 (by decide)) t1 t2 t3
  .have t2:((ft s 26:Int) != (ah.sum (s.data.toList.take 26):Int))=true:=by simp;omega
   have hd:eM s=5:=by simp[eM,h1,h2]
   rw[s4,hd];exact ae5 s _ w (hs.cell 4 (by decide)) t1 t2
 .have t1:((s.size:Int) != 30)=true:=by simp;omega
  have hd:eM s=1:=by simp[eM,h1]
  rw[s4,hd];exact ae6 s _ w (hs.cell 0 (by decide)) t1
theorem S7(s:ByteArray):eM s<=5:=by
 unfold eM
 have:=ah.J_ (aS s 0) (aS s 1) (aJ s 2) (aS s 6) (aS s 7) (aJ s 8) (aJ s 12) (aJ s 16)
 repeat' split
 all_goals omega
theorem adT(k c sq it sd pr q id:Int):ah.JN (strOfNums (ah.frame k c sq it sd pr q id)).data.toList 26=ah.sum ((strOfNums (ah.frame k c sq it sd pr q id)).data.toList.take 26):=by
 have e1:(strOfNums (ah.frame k c sq it sd pr q id)).data.toList.take 26=(strOfNums (ah.body k c sq it sd pr q id)).data.toList:=by simp[strOfNums,ah.frame,ah.body,ah.high]
 rw[e1];have hlt:=ah.sum_lt (strOfNums (ah.body k c sq it sd pr q id)).data.toList;have e2:ah.JN (strOfNums (ah.frame k c sq it sd pr q id)).data.toList 26=(UInt8.ofNat ((ah.sum (strOfNums (ah.body k c sq it sd pr q id)).data.toList:Int)%256).toNat).toNat+256*(UInt8.ofNat ((ah.sum (strOfNums (ah.body k c sq it sd pr q id)).data.toList:Int)/256%256).toNat).toNat
   + 65536*(UInt8.ofNat ((ah.sum (strOfNums (ah.body k c sq it sd pr q id)).data.toList:Int)/65536%256).toNat).toNat+16777216*(UInt8.ofNat ((ah.sum (strOfNums (ah.body k c sq it sd pr q id)).data.toList:Int)/16777216%256).toNat).toNat:=by
  unfold ah.frame;generalize ah.sum (strOfNums (ah.body k c sq it sd pr q id)).data.toList=z;simp[ah.JN,strOfNums,ah.body,ah.high,ah.low]
 rw[e2];generalize ah.sum (strOfNums (ah.body k c sq it sd pr q id)).data.toList=z at hlt ⊢;simp only[UInt8.toNat_ofNat'];omega
theorem ak4(xs:List Int)(i:Nat):aS (strOfNums xs) i=((xs.getD i 0).toNat)%256:=by
 unfold aS strOfNums;rcases Nat.lt_or_ge i xs.length with h | h
 .simp[h]
 .simp[List.getElem?_eq_none h]
theorem ak5{x:Int}(h:0<=x/\x<256):((x.toNat%256:Nat):Int)=x:=by omega
theorem OT(x:Int)(h:0<=x/\x<256):(((x%256).toNat%256:Nat):Int)=x:=by omega
theorem Ia(x:Int)(h:0<=x/\x<4294967296):
  ((16777216*((x/16777216%256).toNat%256)+65536*((x/65536%256).toNat%256)+256*((x/256%256).toNat%256)+(x%256).toNat%256:Nat):Int)=x:=by omega
theorem YG{k c sq it sd pr q id:Int}(h:ah.code k c sq it sd pr q id=0):
  ((aS (strOfNums (ah.frame k c sq it sd pr q id)) 0:Nat):Int)=k/\((aS (strOfNums (ah.frame k c sq it sd pr q id)) 1:Nat):Int)=c/\((aJ (strOfNums (ah.frame k c sq it sd pr q id)) 2:Nat):Int)=sq/\((aS (strOfNums (ah.frame k c sq it sd pr q id)) 6:Nat):Int)=it/\((aS (strOfNums (ah.frame k c sq it sd pr q id)) 7:Nat):Int)=sd/\((aJ (strOfNums (ah.frame k c sq it sd pr q id)) 8:Nat):Int)=pr/\((aJ (strOfNums (ah.frame k c sq it sd pr q id)) 12:Nat):Int)=q/\((aJ (strOfNums (ah.frame k c sq it sd pr q id)) 16:Nat):Int)=id:=by
 have f:=ah.fits h;unfold aJ;simp only[ak4];refine⟨?_,?_,?_,?_,?_,?_,?_,?_⟩
 .exact ak5 f.k
 .exact OT c f.c
 .exact Ia sq f.sq
 .exact OT it f.it
 .exact OT sd f.sd
 .exact Ia pr f.pr
 .exact Ia q f.q
 .exact Ia id f.id
theorem YH{k c sq it sd pr q id:Int}(h:ah.code k c sq it sd pr q id=0):eM (strOfNums (ah.frame k c sq it sd pr q id))=0/\s5 (strOfNums (ah.frame k c sq it sd pr q id))=.agg #[.int .u8 k,Z c,Z sq,Z it,Z sd,Z pr,Z q,Z id]:=by
 obtain⟨e0,e1,e2,e3,e4,e5,e6,e7⟩:=YG h;have ak6:(strOfNums (ah.frame k c sq it sd pr q id)).size=30:=by rw[strOfNums_size,ah.Db]
 have hs:((strOfNums (ah.frame k c sq it sd pr q id)).extract 20 26).toList=[0,0,0,0,0,0]:=by rw[ByteArray.toList_eq];simp[strOfNums,ah.frame,ah.body,ah.high]
 have hl:ft (strOfNums (ah.frame k c sq it sd pr q id)) 26=ah.sum ((strOfNums (ah.frame k c sq it sd pr q id)).data.toList.take 26):=adT k c sq it sd pr q id;refine⟨?_,?_⟩
 .unfold eM
  rw[if_pos ak6,if_pos hl,if_pos hs,e0,e1,e2,e3,e4,e5,e6,e7];exact h
 .unfold s5
  rw[e0,e1,e2,e3,e4,e5,e6,e7]
end Go.Proofs.YtjolccidheflpaaGreatDoor
