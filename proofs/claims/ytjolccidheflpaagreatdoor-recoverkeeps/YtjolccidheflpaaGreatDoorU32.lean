/- What Check, Encode and Decode give, for every request and every text, in a world that holds the errors of package api. -/
import Derived.Test.YtjolccidheflpaaGreatDoorU09
import Derived.Test.YtjolccidheflpaaGreatDoorU04
import Derived.Laws.IdiomStrings
import Derived.Test.YtjolccidheflpaaGreatDoorU00
import Derived.Test.YtjolccidheflpaaGreatDoorU03
namespace Go.Proofs.YtjolccidheflpaaGreatDoor
set_option maxHeartbeats 8000000
open Go.RowKit
def gq (ad:Nat->Addr) (n:Nat):Value:=if n=0 then .nilIface else .iface 412 (.pointer (some (ad (n-1))))
theorem xN (ad:Nat->Addr) {n:Nat} (h:n≠0):gq ad n=.iface 412 (.pointer (some (ad (n-1)))):=by simp[gq,h]
theorem ah.Jz (k c sq it sd pr q id:Int):ah.code k c sq it sd pr q id=0∨ah.code k c sq it sd pr q id=2∨ah.code k c sq it sd pr q id=3∨ah.code k c sq it sd pr q id=4:=by
 unfold ah.code;split
 ·split
  ·split
   ·exact .inl rfl
   ·exact .inr (.inr (.inl rfl))
  ·exact .inr (.inl rfl)
 ·exact .inr (.inr (.inr rfl))
theorem Q_ (ad:Nat->Addr) {n:Nat} (h:n=0∨n=2∨n=3∨n=4) (h0:n≠0) :
  oX (.iface 412 (.pointer (some (ad 1)))) (.iface 412 (.pointer (some (ad 2)))) (.iface 412 (.pointer (some (ad 3)))) n=gq ad n:=by
 rcases h with rfl | rfl | rfl | rfl
 ·exact absurd rfl h0
 ·rfl
 ·rfl
 ·rfl
theorem Rb (k c sq it sd pr q id:Int) (ad:Nat->Addr) (w:World) (hs:bT w ad) :
  Calls Tryz.prog 151 #[.agg #[.int .u8 k,.int .i64 c,.int .i64 sq,.int .i64 it,.int .i64 sd,.int .i64 pr,.int .i64 q,.int .i64 id]] w fun e w'=>e=.returned (gq ad (ah.code k c sq it sd pr q id))∧Below w.heap.size w w':=by
 by_cases h:ah.code k c sq it sd pr q id=0
 ·obtain⟨h1,h2,h3⟩:=JA h
  rw[h];exact DI k c sq it sd pr q id w h1 h2 h3
 ·rw[<- Q_ ad (ah.Jz k c sq it sd pr q id) h]
  exact Rc k c sq it sd pr q id _ _ _ w (hs.cell 1 (by decide)) (hs.cell 2 (by decide)) (hs.cell 3 (by decide)) h
def tx (k c sq it sd pr q id:Int):ByteArray:=if ah.code k c sq it sd pr q id=0 then strOfNums (ah.frame k c sq it sd pr q id) else ⟨#[]⟩
theorem acT (k c sq it sd pr q id:Int) (ad:Nat->Addr) (w:World) (hs:bT w ad) :
  Calls Tryz.prog 138 #[.agg #[.int .u8 k,.int .i64 c,.int .i64 sq,.int .i64 it,.int .i64 sd,.int .i64 pr,.int .i64 q,.int .i64 id]] w fun e w'=>e=.returned (.tuple #[.string (tx k c sq it sd pr q id),gq ad (ah.code k c sq it sd pr q id)])∧Below w.heap.size w w':=by
 by_cases h:ah.code k c sq it sd pr q id=0
 ·obtain⟨h1,h2,h3⟩:=JA h
  rw[tx,if_pos h,h];exact acU k c sq it sd pr q id w h1 h2 h3
 ·rw[tx,if_neg h,<- Q_ ad (ah.Jz k c sq it sd pr q id) h]
  exact acV k c sq it sd pr q id 412 412 412 _ _ _ w (hs.cell 1 (by decide)) (hs.cell 2 (by decide)) (hs.cell 3 (by decide)) h
def d6 (s:ByteArray):Nat :=
 if s.size=30 then
  if eB s 26=ah.sum (s.data.toList.take 26) then
   if (s.extract 20 26).toList=[0,0,0,0,0,0] then ah.code (aL s 0) (aL s 1) (az s 2) (aL s 6) (aL s 7) (az s 8) (az s 12) (az s 16) else 3
  else 5
 else 1
def rF (s:ByteArray):Value:=if d6 s=0 then rG s else mD
theorem Re (s:ByteArray) (ad:Nat->Addr) (w:World) (hs:bT w ad) :
  Calls Tryz.prog 86 #[.string s] w fun e w'=>e=.returned (.tuple #[rF s,gq ad (d6 s)])∧Below w.heap.size w w':=by
 by_cases h1:s.size=30
 ·have t1:((s.size:Int) != 30)=false:=by simp;omega
  by_cases h2:eB s 26=ah.sum (s.data.toList.take 26)
  ·have t2:((eB s 26:Int) != (ah.sum (s.data.toList.take 26):Int))=false:=by simp;omega
   by_cases h3:(s.extract 20 26).toList=[0,0,0,0,0,0]
   ·have t3:((s.extract 20 26).toList==[0,0,0,0,0,0])=true:=by rw[h3];rfl
    have hd:d6 s=ah.code (aL s 0) (aL s 1) (az s 2) (aL s 6) (aL s 7) (az s 8) (az s 12) (az s 16):=by simp[d6,h1,h2,h3]
    by_cases h4:d6 s=0
    ·rw[rF,if_pos h4,h4]
     refine acW s w t1 t2 t3 (fun aj hb=>?_)
     have:=Rb (aL s 0) (aL s 1) (az s 2) (aL s 6) (aL s 7) (az s 8) (az s 12) (az s 16) ad aj (hs.later hb)
     rw[<- hd,h4]at this;exact this
    ·rw[rF,if_neg h4,xN ad h4]
     refine acX s 412 _ w t1 t2 t3 (fun aj hb=>?_)
     have:=Rb (aL s 0) (aL s 1) (az s 2) (aL s 6) (aL s 7) (az s 8) (az s 12) (az s 16) ad aj (hs.later hb)
     rw[<- hd,xN ad h4]at this;exact this
   ·have t3:((s.extract 20 26).toList==[0,0,0,0,0,0])=false:=beq_eq_false_iff_ne.2 h3
    have hd:d6 s=3:=by simp[d6,h1,h2,h3]
    rw[rF,hd];exact acY s _ w (hs.cell 2 (by decide)) t1 t2 t3
  ·have t2:((eB s 26:Int) != (ah.sum (s.data.toList.take 26):Int))=true:=by simp;omega
   have hd:d6 s=5:=by simp[d6,h1,h2]
   rw[rF,hd];exact acZ s _ w (hs.cell 4 (by decide)) t1 t2
 ·have t1:((s.size:Int) != 30)=true:=by simp;omega
  have hd:d6 s=1:=by simp[d6,h1]
  rw[rF,hd];exact ac0 s _ w (hs.cell 0 (by decide)) t1
theorem ac1 (s:ByteArray):d6 s<=5:=by
 unfold d6
 have:=ah.Jz (aL s 0) (aL s 1) (az s 2) (aL s 6) (aL s 7) (az s 8) (az s 12) (az s 16)
 repeat' split
 all_goals omega
end Go.Proofs.YtjolccidheflpaaGreatDoor
namespace Go.Proofs.YtjolccidheflpaaGreatDoor
set_option maxHeartbeats 8000000
open Go.RowKit
set_option maxRecDepth 100000
theorem abA (k c sq it sd pr q id:Int):ah.Jd (strOfNums (ah.frame k c sq it sd pr q id)).data.toList 26=ah.sum ((strOfNums (ah.frame k c sq it sd pr q id)).data.toList.take 26):=by
 have e1:(strOfNums (ah.frame k c sq it sd pr q id)).data.toList.take 26=(strOfNums (ah.body k c sq it sd pr q id)).data.toList:=by
  simp[strOfNums,ah.frame,ah.body,ah.high]
 rw[e1];have hlt:=ah.sum_lt (strOfNums (ah.body k c sq it sd pr q id)).data.toList;have e2:ah.Jd (strOfNums (ah.frame k c sq it sd pr q id)).data.toList 26=(UInt8.ofNat ((ah.sum (strOfNums (ah.body k c sq it sd pr q id)).data.toList:Int)%256).toNat).toNat+256*(UInt8.ofNat ((ah.sum (strOfNums (ah.body k c sq it sd pr q id)).data.toList:Int)/256%256).toNat).toNat
   + 65536*(UInt8.ofNat ((ah.sum (strOfNums (ah.body k c sq it sd pr q id)).data.toList:Int)/65536%256).toNat).toNat+16777216*(UInt8.ofNat ((ah.sum (strOfNums (ah.body k c sq it sd pr q id)).data.toList:Int)/16777216%256).toNat).toNat:=by
  unfold ah.frame;generalize ah.sum (strOfNums (ah.body k c sq it sd pr q id)).data.toList=z;simp[ah.Jd,strOfNums,ah.body,ah.high,ah.low]
 rw[e2];generalize ah.sum (strOfNums (ah.body k c sq it sd pr q id)).data.toList=z at hlt ⊢;simp only[UInt8.toNat_ofNat'];omega
end Go.Proofs.YtjolccidheflpaaGreatDoor
namespace Go.Proofs.YtjolccidheflpaaGreatDoor
set_option maxHeartbeats 8000000
open Go.RowKit
theorem ah4 (xs:List Int) (i:Nat):aL (strOfNums xs) i=((xs.getD i 0).toNat)%256:=by
 unfold aL strOfNums;rcases Nat.lt_or_ge i xs.length with h | h
 ·simp[h]
 ·simp[List.getElem?_eq_none h]
theorem ah5 {x:Int} (h:0<=x∧x<256):((x.toNat%256:Nat):Int)=x:=by omega
theorem Nx (x:Int) (h:0<=x∧x<256):(((x%256).toNat%256:Nat):Int)=x:=by omega
theorem G3 (x:Int) (h:0<=x∧x<4294967296) :
  ((16777216*((x/16777216%256).toNat%256)+65536*((x/65536%256).toNat%256)+256*((x/256%256).toNat%256)+(x%256).toNat%256:Nat):Int)=x:=by omega
theorem Wq {k c sq it sd pr q id:Int} (h:ah.code k c sq it sd pr q id=0) :
  ((aL (strOfNums (ah.frame k c sq it sd pr q id)) 0:Nat):Int)=k∧((aL (strOfNums (ah.frame k c sq it sd pr q id)) 1:Nat):Int)=c∧((az (strOfNums (ah.frame k c sq it sd pr q id)) 2:Nat):Int)=sq∧((aL (strOfNums (ah.frame k c sq it sd pr q id)) 6:Nat):Int)=it∧((aL (strOfNums (ah.frame k c sq it sd pr q id)) 7:Nat):Int)=sd∧((az (strOfNums (ah.frame k c sq it sd pr q id)) 8:Nat):Int)=pr∧((az (strOfNums (ah.frame k c sq it sd pr q id)) 12:Nat):Int)=q∧((az (strOfNums (ah.frame k c sq it sd pr q id)) 16:Nat):Int)=id:=by
 have f:=ah.fits h;unfold az;simp only[ah4];refine⟨?_,?_,?_,?_,?_,?_,?_,?_⟩
 ·exact ah5 f.k
 ·exact Nx c f.c
 ·exact G3 sq f.sq
 ·exact Nx it f.it
 ·exact Nx sd f.sd
 ·exact G3 pr f.pr
 ·exact G3 q f.q
 ·exact G3 id f.id
theorem Ws {k c sq it sd pr q id:Int} (h:ah.code k c sq it sd pr q id=0):d6 (strOfNums (ah.frame k c sq it sd pr q id))=0∧rG (strOfNums (ah.frame k c sq it sd pr q id))=.agg #[.int .u8 k,.int .i64 c,.int .i64 sq,.int .i64 it,.int .i64 sd,.int .i64 pr,.int .i64 q,.int .i64 id]:=by
 obtain⟨e0,e1,e2,e3,e4,e5,e6,e7⟩:=Wq h;have ah6:(strOfNums (ah.frame k c sq it sd pr q id)).size=30:=by rw[strOfNums_size,ah.Ga]
 have hs:((strOfNums (ah.frame k c sq it sd pr q id)).extract 20 26).toList=[0,0,0,0,0,0]:=by
  rw[ByteArray.toList_eq];simp[strOfNums,ah.frame,ah.body,ah.high]
 have hl:eB (strOfNums (ah.frame k c sq it sd pr q id)) 26=ah.sum ((strOfNums (ah.frame k c sq it sd pr q id)).data.toList.take 26):=abA k c sq it sd pr q id;refine⟨?_,?_⟩
 ·unfold d6
  rw[if_pos ah6,if_pos hl,if_pos hs,e0,e1,e2,e3,e4,e5,e6,e7];exact h
 ·unfold rG
  rw[e0,e1,e2,e3,e4,e5,e6,e7]
end Go.Proofs.YtjolccidheflpaaGreatDoor
