/- What Check, Encode and Decode give, for every request and every text, in a world that holds the errors of package api. -/
import Derived.Test.YtjolccidheflpaaGreatDoorV09
import Derived.Test.YtjolccidheflpaaGreatDoorV04
import Derived.Laws.IdiomStrings
import Derived.Test.YtjolccidheflpaaGreatDoorV00
import Derived.Test.YtjolccidheflpaaGreatDoorV03
import Derived.Test.YtjolccidheflpaaGreatDoorV07
import Derived.Test.YtjolccidheflpaaGreatDoorV08
namespace Go.Proofs.YtjolccidheflpaaGreatDoor
set_option maxHeartbeats 8000000
open Go.RowKit
def ja (ad:Nat->Addr) (n:Nat):Value:=if n=0 then .nilIface else .iface 412 (.pointer (some (ad (n-1))))
theorem xL (ad:Nat->Addr) {n:Nat} (h:n≠0):ja ad n=.iface 412 (.pointer (some (ad (n-1)))):=by simp[ja,h]
theorem ah.J2 (k c sq it sd pr q id:Int):ah.code k c sq it sd pr q id=0∨ah.code k c sq it sd pr q id=2∨ah.code k c sq it sd pr q id=3∨ah.code k c sq it sd pr q id=4:=by
 unfold ah.code;split
 ·split
  ·split
   ·exact .inl rfl
   ·exact .inr (.inr (.inl rfl))
  ·exact .inr (.inl rfl)
 ·exact .inr (.inr (.inr rfl))
theorem RO (ad:Nat->Addr) {n:Nat} (h:n=0∨n=2∨n=3∨n=4) (h0:n≠0) :
  oT (.iface 412 (.pointer (some (ad 1)))) (.iface 412 (.pointer (some (ad 2)))) (.iface 412 (.pointer (some (ad 3)))) n=ja ad n:=by
 rcases h with rfl | rfl | rfl | rfl
 ·exact absurd rfl h0
 ·rfl
 ·rfl
 ·rfl
theorem RP (k c sq it sd pr q id:Int) (ad:Nat->Addr) (w:World) (hs:cP w ad) :
  Calls Tryz.prog 151 #[.agg #[.int .u8 k,.int .i64 c,.int .i64 sq,.int .i64 it,.int .i64 sd,.int .i64 pr,.int .i64 q,.int .i64 id]] w fun e w'=>e=.returned (ja ad (ah.code k c sq it sd pr q id))∧Below w.heap.size w w':=by
 by_cases h:ah.code k c sq it sd pr q id=0
 ·obtain⟨h1,h2,h3⟩:=J3 h
  rw[h];exact JH k c sq it sd pr q id w h1 h2 h3
 ·rw[<- RO ad (ah.J2 k c sq it sd pr q id) h]
  exact RQ k c sq it sd pr q id _ _ _ w (hs.cell 1 (by decide)) (hs.cell 2 (by decide)) (hs.cell 3 (by decide)) h
def p9 (k c sq it sd pr q id:Int):ByteArray:=if ah.code k c sq it sd pr q id=0 then strOfNums (ah.frame k c sq it sd pr q id) else ⟨#[]⟩
theorem ada (k c sq it sd pr q id:Int) (ad:Nat->Addr) (w:World) (hs:cP w ad) :
  Calls Tryz.prog 138 #[.agg #[.int .u8 k,.int .i64 c,.int .i64 sq,.int .i64 it,.int .i64 sd,.int .i64 pr,.int .i64 q,.int .i64 id]] w fun e w'=>e=.returned (.tuple #[.string (p9 k c sq it sd pr q id),ja ad (ah.code k c sq it sd pr q id)])∧Below w.heap.size w w':=by
 by_cases h:ah.code k c sq it sd pr q id=0
 ·obtain⟨h1,h2,h3⟩:=J3 h
  rw[p9,if_pos h,h];exact adb k c sq it sd pr q id w h1 h2 h3
 ·rw[p9,if_neg h,<- RO ad (ah.J2 k c sq it sd pr q id) h]
  exact ade k c sq it sd pr q id 412 412 412 _ _ _ w (hs.cell 1 (by decide)) (hs.cell 2 (by decide)) (hs.cell 3 (by decide)) h
def bM (s:ByteArray):Nat :=
 if s.size=30 then
  if dm s 26=ah.sum (s.data.toList.take 26) then
   if (s.extract 20 26).toList=[0,0,0,0,0,0] then ah.code (az s 0) (az s 1) (av s 2) (az s 6) (az s 7) (av s 8) (av s 12) (av s 16) else 3
  else 5
 else 1
def kS (s:ByteArray):Value:=if bM s=0 then nk s else ft
theorem adf (s:ByteArray) (ad:Nat->Addr) (w:World) (hs:cP w ad) :
  Calls Tryz.prog 86 #[.string s] w fun e w'=>e=.returned (.tuple #[kS s,ja ad (bM s)])∧Below w.heap.size w w':=by
 by_cases h1:s.size=30
 ·have t1:((s.size:Int) != 30)=false:=by simp;omega
  by_cases h2:dm s 26=ah.sum (s.data.toList.take 26)
  ·have t2:((dm s 26:Int) != (ah.sum (s.data.toList.take 26):Int))=false:=by simp;omega
   by_cases h3:(s.extract 20 26).toList=[0,0,0,0,0,0]
   ·have t3:((s.extract 20 26).toList==[0,0,0,0,0,0])=true:=by rw[h3];rfl
    have hd:bM s=ah.code (az s 0) (az s 1) (av s 2) (az s 6) (az s 7) (av s 8) (av s 12) (av s 16):=by simp[bM,h1,h2,h3]
    by_cases h4:bM s=0
    ·rw[kS,if_pos h4,h4]
     refine adg s w t1 t2 t3 (fun ar hb=>?_)
     have:=RP (az s 0) (az s 1) (av s 2) (az s 6) (az s 7) (av s 8) (av s 12) (av s 16) ad ar (hs.later hb)
     rw[<- hd,h4]at this;exact this
    ·rw[kS,if_neg h4,xL ad h4]
     refine adh s 412 _ w t1 t2 t3 (fun ar hb=>?_)
     have:=RP (az s 0) (az s 1) (av s 2) (az s 6) (az s 7) (av s 8) (av s 12) (av s 16) ad ar (hs.later hb)
     rw[<- hd,xL ad h4]at this;exact this
   ·have t3:((s.extract 20 26).toList==[0,0,0,0,0,0])=false:=beq_eq_false_iff_ne.2 h3
    have hd:bM s=3:=by simp[bM,h1,h2,h3]
    rw[kS,hd];exact adi s _ w (hs.cell 2 (by decide)) t1 t2 t3
  ·have t2:((dm s 26:Int) != (ah.sum (s.data.toList.take 26):Int))=true:=by simp;omega
   have hd:bM s=5:=by simp[bM,h1,h2]
   rw[kS,hd];exact adj s _ w (hs.cell 4 (by decide)) t1 t2
 ·have t1:((s.size:Int) != 30)=true:=by simp;omega
  have hd:bM s=1:=by simp[bM,h1]
  rw[kS,hd];exact adk s _ w (hs.cell 0 (by decide)) t1
theorem adl (s:ByteArray):bM s<=5:=by
 unfold bM
 have:=ah.J2 (az s 0) (az s 1) (av s 2) (az s 6) (az s 7) (av s 8) (av s 12) (av s 16)
 repeat' split
 all_goals omega
end Go.Proofs.YtjolccidheflpaaGreatDoor
namespace Go.Proofs.YtjolccidheflpaaGreatDoor
set_option maxHeartbeats 8000000
open Go.RowKit
set_option maxRecDepth 100000
theorem abU (k c sq it sd pr q id:Int):ah.JF (strOfNums (ah.frame k c sq it sd pr q id)).data.toList 26=ah.sum ((strOfNums (ah.frame k c sq it sd pr q id)).data.toList.take 26):=by
 have e1:(strOfNums (ah.frame k c sq it sd pr q id)).data.toList.take 26=(strOfNums (ah.body k c sq it sd pr q id)).data.toList:=by
  simp[strOfNums,ah.frame,ah.body,ah.high]
 rw[e1];have hlt:=ah.sum_lt (strOfNums (ah.body k c sq it sd pr q id)).data.toList;have e2:ah.JF (strOfNums (ah.frame k c sq it sd pr q id)).data.toList 26=(UInt8.ofNat ((ah.sum (strOfNums (ah.body k c sq it sd pr q id)).data.toList:Int)%256).toNat).toNat+256*(UInt8.ofNat ((ah.sum (strOfNums (ah.body k c sq it sd pr q id)).data.toList:Int)/256%256).toNat).toNat
   + 65536*(UInt8.ofNat ((ah.sum (strOfNums (ah.body k c sq it sd pr q id)).data.toList:Int)/65536%256).toNat).toNat+16777216*(UInt8.ofNat ((ah.sum (strOfNums (ah.body k c sq it sd pr q id)).data.toList:Int)/16777216%256).toNat).toNat:=by
  unfold ah.frame;generalize ah.sum (strOfNums (ah.body k c sq it sd pr q id)).data.toList=z;simp[ah.JF,strOfNums,ah.body,ah.high,ah.low]
 rw[e2];generalize ah.sum (strOfNums (ah.body k c sq it sd pr q id)).data.toList=z at hlt ⊢;simp only[UInt8.toNat_ofNat'];omega
end Go.Proofs.YtjolccidheflpaaGreatDoor
namespace Go.Proofs.YtjolccidheflpaaGreatDoor
set_option maxHeartbeats 8000000
open Go.RowKit
theorem ah5 (xs:List Int) (i:Nat):az (strOfNums xs) i=((xs.getD i 0).toNat)%256:=by
 unfold az strOfNums;rcases Nat.lt_or_ge i xs.length with h | h
 ·simp[h]
 ·simp[List.getElem?_eq_none h]
theorem ah6 {x:Int} (h:0<=x∧x<256):((x.toNat%256:Nat):Int)=x:=by omega
theorem NT (x:Int) (h:0<=x∧x<256):(((x%256).toNat%256:Nat):Int)=x:=by omega
theorem Hf (x:Int) (h:0<=x∧x<4294967296) :
  ((16777216*((x/16777216%256).toNat%256)+65536*((x/65536%256).toNat%256)+256*((x/256%256).toNat%256)+(x%256).toNat%256:Nat):Int)=x:=by omega
theorem WX {k c sq it sd pr q id:Int} (h:ah.code k c sq it sd pr q id=0) :
  ((az (strOfNums (ah.frame k c sq it sd pr q id)) 0:Nat):Int)=k∧((az (strOfNums (ah.frame k c sq it sd pr q id)) 1:Nat):Int)=c∧((av (strOfNums (ah.frame k c sq it sd pr q id)) 2:Nat):Int)=sq∧((az (strOfNums (ah.frame k c sq it sd pr q id)) 6:Nat):Int)=it∧((az (strOfNums (ah.frame k c sq it sd pr q id)) 7:Nat):Int)=sd∧((av (strOfNums (ah.frame k c sq it sd pr q id)) 8:Nat):Int)=pr∧((av (strOfNums (ah.frame k c sq it sd pr q id)) 12:Nat):Int)=q∧((av (strOfNums (ah.frame k c sq it sd pr q id)) 16:Nat):Int)=id:=by
 have f:=ah.fits h;unfold av;simp only[ah5];refine⟨?_,?_,?_,?_,?_,?_,?_,?_⟩
 ·exact ah6 f.k
 ·exact NT c f.c
 ·exact Hf sq f.sq
 ·exact NT it f.it
 ·exact NT sd f.sd
 ·exact Hf pr f.pr
 ·exact Hf q f.q
 ·exact Hf id f.id
theorem WY {k c sq it sd pr q id:Int} (h:ah.code k c sq it sd pr q id=0):bM (strOfNums (ah.frame k c sq it sd pr q id))=0∧nk (strOfNums (ah.frame k c sq it sd pr q id))=.agg #[.int .u8 k,.int .i64 c,.int .i64 sq,.int .i64 it,.int .i64 sd,.int .i64 pr,.int .i64 q,.int .i64 id]:=by
 obtain⟨e0,e1,e2,e3,e4,e5,e6,e7⟩:=WX h;have Hg:(strOfNums (ah.frame k c sq it sd pr q id)).size=30:=by rw[strOfNums_size,ah.Gi]
 have hs:((strOfNums (ah.frame k c sq it sd pr q id)).extract 20 26).toList=[0,0,0,0,0,0]:=by
  rw[ByteArray.toList_eq];simp[strOfNums,ah.frame,ah.body,ah.high]
 have hl:dm (strOfNums (ah.frame k c sq it sd pr q id)) 26=ah.sum ((strOfNums (ah.frame k c sq it sd pr q id)).data.toList.take 26):=abU k c sq it sd pr q id;refine⟨?_,?_⟩
 ·unfold bM
  rw[if_pos Hg,if_pos hl,if_pos hs,e0,e1,e2,e3,e4,e5,e6,e7];exact h
 ·unfold nk
  rw[e0,e1,e2,e3,e4,e5,e6,e7]
end Go.Proofs.YtjolccidheflpaaGreatDoor
namespace Go.Proofs.YtjolccidheflpaaGreatDoor
set_option maxHeartbeats 8000000
open Go.RowKit
set_option maxRecDepth 100000
theorem zJ {w0:World} (n:Nat) (hn:n<4294967296) (x:Later w0):Calls Tryz.prog 87 #[.int .i64 n] x.val fun e w''=>e=.returned (.string (strOfNums (ah.low n)))∧∃ y:Later w0,w''=y.val :=
 (Qx n x.val hn).mono fun _ w' ⟨he,hb⟩=>⟨he,⟨w',x.low.trans (hb.mono x.low.size)⟩,rfl⟩
theorem zI {w0:World} (s:ByteArray) (hs:s.size<=maxLen) (x:Later w0):Calls Tryz.prog 88 #[.string s] x.val fun e w''=>e=.returned (.int .i64 (ah.sum s.data.toList))∧∃ y:Later w0,w''=y.val :=
 (Qy s x.val hs).mono fun _ _ ⟨he,hb⟩=>⟨he,x,hb⟩
theorem abh (s:ByteArray) (w:World) (hs:((s.size:Int) != 30)=true) :
  Calls Tryz.prog 48 #[.string s] w fun e w'=>e=.returned (.tuple #[ft,.int .i64 1])∧Below w.heap.size w w':=by
 go_enter Tryz.func48,Tryz.ntmps48;go_wp2;refine bodyPost_ret (v:=.tuple #[ft,.int .i64 1]) (by simp[results,Tryz.results48,go_sem,ft]) rfl ⟨rfl,?_⟩;exact(bRq _ _).alloc (lRq _) _
theorem abg (s:ByteArray) (w:World) (hs:((s.size:Int) != 30)=false) (hne:((strOfNums (ah.low (ah.sum (s.data.toList.take 26)))).toList==(s.extract 26 s.size).toList)=false) :
  Calls Tryz.prog 48 #[.string s] w fun e w'=>e=.returned (.tuple #[ft,.int .i64 5])∧Below w.heap.size w w':=by
 have hs':s.size=30:=by have:=hs;simp at this;omega
 have sy:26<=s.size:=by omega
 have f26:(26:Int)<=s.size:=by omega
 have hm:(s.extract 0 26).size<=maxLen:=by simp[maxLen];omega
 have ht:(s.extract 0 26).data.toList=s.data.toList.take 26:=by simp
 have d8:=hDq hs';clear hs';go_enter Tryz.func48,Tryz.ntmps48;go_wp2;have hb0:Below w.heap.size w (w.alloc (.cells #[.int .u8 0,.int .i64 0,.int .i64 0,.int .i64 0,.int .i64 0,.int .i64 0,.int .i64 0,.int .i64 0] 95)):=(bRq _ _).alloc (lRq _) _;have p0:(w.alloc (.cells #[.int .u8 0,.int .i64 0,.int .i64 0,.int .i64 0,.int .i64 0,.int .i64 0,.int .i64 0,.int .i64 0] 95)).cell? ⟨w.heap.size,0,none⟩=some (.int .u8 0):=by simp
 have g0:(w.alloc (.cells #[.int .u8 0,.int .i64 0,.int .i64 0,.int .i64 0,.int .i64 0,.int .i64 0,.int .i64 0,.int .i64 0] 95)).frozen? ⟨w.heap.size,0,none⟩=false:=by simp
 have p1:(w.alloc (.cells #[.int .u8 0,.int .i64 0,.int .i64 0,.int .i64 0,.int .i64 0,.int .i64 0,.int .i64 0,.int .i64 0] 95)).cell? ⟨w.heap.size,1,none⟩=some (.int .i64 0):=by simp
 have g1:(w.alloc (.cells #[.int .u8 0,.int .i64 0,.int .i64 0,.int .i64 0,.int .i64 0,.int .i64 0,.int .i64 0,.int .i64 0] 95)).frozen? ⟨w.heap.size,1,none⟩=false:=by simp
 have p2:(w.alloc (.cells #[.int .u8 0,.int .i64 0,.int .i64 0,.int .i64 0,.int .i64 0,.int .i64 0,.int .i64 0,.int .i64 0] 95)).cell? ⟨w.heap.size,2,none⟩=some (.int .i64 0):=by simp
 have g2:(w.alloc (.cells #[.int .u8 0,.int .i64 0,.int .i64 0,.int .i64 0,.int .i64 0,.int .i64 0,.int .i64 0,.int .i64 0] 95)).frozen? ⟨w.heap.size,2,none⟩=false:=by simp
 have p3:(w.alloc (.cells #[.int .u8 0,.int .i64 0,.int .i64 0,.int .i64 0,.int .i64 0,.int .i64 0,.int .i64 0,.int .i64 0] 95)).cell? ⟨w.heap.size,3,none⟩=some (.int .i64 0):=by simp
 have g3:(w.alloc (.cells #[.int .u8 0,.int .i64 0,.int .i64 0,.int .i64 0,.int .i64 0,.int .i64 0,.int .i64 0,.int .i64 0] 95)).frozen? ⟨w.heap.size,3,none⟩=false:=by simp
 have p4:(w.alloc (.cells #[.int .u8 0,.int .i64 0,.int .i64 0,.int .i64 0,.int .i64 0,.int .i64 0,.int .i64 0,.int .i64 0] 95)).cell? ⟨w.heap.size,4,none⟩=some (.int .i64 0):=by simp
 have g4:(w.alloc (.cells #[.int .u8 0,.int .i64 0,.int .i64 0,.int .i64 0,.int .i64 0,.int .i64 0,.int .i64 0,.int .i64 0] 95)).frozen? ⟨w.heap.size,4,none⟩=false:=by simp
 have jP:(w.alloc (.cells #[.int .u8 0,.int .i64 0,.int .i64 0,.int .i64 0,.int .i64 0,.int .i64 0,.int .i64 0,.int .i64 0] 95)).cell? ⟨w.heap.size,5,none⟩=some (.int .i64 0):=by simp
 have g5:(w.alloc (.cells #[.int .u8 0,.int .i64 0,.int .i64 0,.int .i64 0,.int .i64 0,.int .i64 0,.int .i64 0,.int .i64 0] 95)).frozen? ⟨w.heap.size,5,none⟩=false:=by simp
 have jQ:(w.alloc (.cells #[.int .u8 0,.int .i64 0,.int .i64 0,.int .i64 0,.int .i64 0,.int .i64 0,.int .i64 0,.int .i64 0] 95)).cell? ⟨w.heap.size,6,none⟩=some (.int .i64 0):=by simp
 have g6:(w.alloc (.cells #[.int .u8 0,.int .i64 0,.int .i64 0,.int .i64 0,.int .i64 0,.int .i64 0,.int .i64 0,.int .i64 0] 95)).frozen? ⟨w.heap.size,6,none⟩=false:=by simp
 have jR:(w.alloc (.cells #[.int .u8 0,.int .i64 0,.int .i64 0,.int .i64 0,.int .i64 0,.int .i64 0,.int .i64 0,.int .i64 0] 95)).cell? ⟨w.heap.size,7,none⟩=some (.int .i64 0):=by simp
 have g7:(w.alloc (.cells #[.int .u8 0,.int .i64 0,.int .i64 0,.int .i64 0,.int .i64 0,.int .i64 0,.int .i64 0,.int .i64 0] 95)).frozen? ⟨w.heap.size,7,none⟩=false:=by simp
 have hz0:w.heap.size<(w.alloc (.cells #[.int .u8 0,.int .i64 0,.int .i64 0,.int .i64 0,.int .i64 0,.int .i64 0,.int .i64 0,.int .i64 0] 95)).heap.size:=by simp
 generalize w.alloc (.cells #[.int .u8 0,.int .i64 0,.int .i64 0,.int .i64 0,.int .i64 0,.int .i64 0,.int .i64 0,.int .i64 0] 95)=w0 at *;have jS:Nonempty (Later w0):=⟨⟨w0,bRq _ _⟩⟩;refine xy (X:=Later w0) Later.val (by kernel_rfl) (by kernel_rfl) ⟨_,(bRq _ _).drew⟩ rfl ?_
 repeat quiet_step ((first | (go_at_call 88;exact zI _ hm _) | (go_at_call 87;exact zJ _ (ah.sum_lt _) _)))
 refine wpQuiet_nil ?_;intro x;have ov:x.val.cell? ⟨w.heap.size,0,none⟩=some (.int .u8 0):=by rw[x.low.cell (p:=⟨w.heap.size,0,none⟩) hz0];exact p0
 have sA:x.val.frozen? ⟨w.heap.size,0,none⟩=false:=by rw[x.low.frozen (p:=⟨w.heap.size,0,none⟩) hz0];exact g0
 have P1:x.val.cell? ⟨w.heap.size,1,none⟩=some (.int .i64 0):=by rw[x.low.cell (p:=⟨w.heap.size,1,none⟩) hz0];exact p1
 have sD:x.val.frozen? ⟨w.heap.size,1,none⟩=false:=by rw[x.low.frozen (p:=⟨w.heap.size,1,none⟩) hz0];exact g1
 have ow:x.val.cell? ⟨w.heap.size,2,none⟩=some (.int .i64 0):=by rw[x.low.cell (p:=⟨w.heap.size,2,none⟩) hz0];exact p2
 have sF:x.val.frozen? ⟨w.heap.size,2,none⟩=false:=by rw[x.low.frozen (p:=⟨w.heap.size,2,none⟩) hz0];exact g2
 have P3:x.val.cell? ⟨w.heap.size,3,none⟩=some (.int .i64 0):=by rw[x.low.cell (p:=⟨w.heap.size,3,none⟩) hz0];exact p3
 have sG:x.val.frozen? ⟨w.heap.size,3,none⟩=false:=by rw[x.low.frozen (p:=⟨w.heap.size,3,none⟩) hz0];exact g3
 have oA:x.val.cell? ⟨w.heap.size,4,none⟩=some (.int .i64 0):=by rw[x.low.cell (p:=⟨w.heap.size,4,none⟩) hz0];exact p4
 have sH:x.val.frozen? ⟨w.heap.size,4,none⟩=false:=by rw[x.low.frozen (p:=⟨w.heap.size,4,none⟩) hz0];exact g4
 have oB:x.val.cell? ⟨w.heap.size,5,none⟩=some (.int .i64 0):=by rw[x.low.cell (p:=⟨w.heap.size,5,none⟩) hz0];exact jP
 have sI:x.val.frozen? ⟨w.heap.size,5,none⟩=false:=by rw[x.low.frozen (p:=⟨w.heap.size,5,none⟩) hz0];exact g5
 have oC:x.val.cell? ⟨w.heap.size,6,none⟩=some (.int .i64 0):=by rw[x.low.cell (p:=⟨w.heap.size,6,none⟩) hz0];exact jQ
 have sJ:x.val.frozen? ⟨w.heap.size,6,none⟩=false:=by rw[x.low.frozen (p:=⟨w.heap.size,6,none⟩) hz0];exact g6
 have oD:x.val.cell? ⟨w.heap.size,7,none⟩=some (.int .i64 0):=by rw[x.low.cell (p:=⟨w.heap.size,7,none⟩) hz0];exact jR
 have sK:x.val.frozen? ⟨w.heap.size,7,none⟩=false:=by rw[x.low.frozen (p:=⟨w.heap.size,7,none⟩) hz0];exact g7
 have HB1:Hid (Below w.heap.size w x.val):=hb0.trans (x.low.mono hb0.size);have hz1:w.heap.size<x.val.heap.size:=Nat.lt_of_lt_of_le hz0 x.low.size;clear p0 p1 p2 p3 p4 jP jQ jR g0 g1 g2 g3 g4 g5 g6 g7 hb0 hz0;generalize x.val=w1 at *;clear x jS hm;go_wp2;refine bodyPost_ret (v:=.tuple #[ft,.int .i64 5]) (by simp[results,Tryz.results48,go_sem,ft,ov,P1,ow,P3,oA,oB,oC,oD]) rfl ⟨rfl,?_⟩
 iterate 8 refine Below.setCell (p:=⟨w.heap.size,_,none⟩) ?_ (lRq w.heap.size) _
 exact HB1.out
theorem abf (s:ByteArray) (w:World) (hs:((s.size:Int) != 30)=false) (hne:((strOfNums (ah.low (ah.sum (s.data.toList.take 26)))).toList==(s.extract 26 s.size).toList)=true) (h1:0<dD (s.extract 20 23).data.toList) :
  Calls Tryz.prog 48 #[.string s] w fun e w'=>e=.returned (.tuple #[ft,.int .i64 3])∧Below w.heap.size w w':=by
 have H1:=hDq h1;clear h1;have hs':s.size=30:=by have:=hs;simp at this;omega
 have uQ:20<=s.size:=by omega
 have f20:(20:Int)<=s.size:=by omega
 have I9:23<=s.size:=by omega
 have f23:(23:Int)<=s.size:=by omega
 have sy:26<=s.size:=by omega
 have f26:(26:Int)<=s.size:=by omega
 have hm:(s.extract 0 26).size<=maxLen:=by simp[maxLen];omega
 have ht:(s.extract 0 26).data.toList=s.data.toList.take 26:=by simp
 have d8:=hDq hs';clear hs';go_enter Tryz.func48,Tryz.ntmps48;go_wp2;have hb0:Below w.heap.size w (w.alloc (.cells #[.int .u8 0,.int .i64 0,.int .i64 0,.int .i64 0,.int .i64 0,.int .i64 0,.int .i64 0,.int .i64 0] 95)):=(bRq _ _).alloc (lRq _) _;have p0:(w.alloc (.cells #[.int .u8 0,.int .i64 0,.int .i64 0,.int .i64 0,.int .i64 0,.int .i64 0,.int .i64 0,.int .i64 0] 95)).cell? ⟨w.heap.size,0,none⟩=some (.int .u8 0):=by simp
 have g0:(w.alloc (.cells #[.int .u8 0,.int .i64 0,.int .i64 0,.int .i64 0,.int .i64 0,.int .i64 0,.int .i64 0,.int .i64 0] 95)).frozen? ⟨w.heap.size,0,none⟩=false:=by simp
 have p1:(w.alloc (.cells #[.int .u8 0,.int .i64 0,.int .i64 0,.int .i64 0,.int .i64 0,.int .i64 0,.int .i64 0,.int .i64 0] 95)).cell? ⟨w.heap.size,1,none⟩=some (.int .i64 0):=by simp
 have g1:(w.alloc (.cells #[.int .u8 0,.int .i64 0,.int .i64 0,.int .i64 0,.int .i64 0,.int .i64 0,.int .i64 0,.int .i64 0] 95)).frozen? ⟨w.heap.size,1,none⟩=false:=by simp
 have p2:(w.alloc (.cells #[.int .u8 0,.int .i64 0,.int .i64 0,.int .i64 0,.int .i64 0,.int .i64 0,.int .i64 0,.int .i64 0] 95)).cell? ⟨w.heap.size,2,none⟩=some (.int .i64 0):=by simp
 have g2:(w.alloc (.cells #[.int .u8 0,.int .i64 0,.int .i64 0,.int .i64 0,.int .i64 0,.int .i64 0,.int .i64 0,.int .i64 0] 95)).frozen? ⟨w.heap.size,2,none⟩=false:=by simp
 have p3:(w.alloc (.cells #[.int .u8 0,.int .i64 0,.int .i64 0,.int .i64 0,.int .i64 0,.int .i64 0,.int .i64 0,.int .i64 0] 95)).cell? ⟨w.heap.size,3,none⟩=some (.int .i64 0):=by simp
 have g3:(w.alloc (.cells #[.int .u8 0,.int .i64 0,.int .i64 0,.int .i64 0,.int .i64 0,.int .i64 0,.int .i64 0,.int .i64 0] 95)).frozen? ⟨w.heap.size,3,none⟩=false:=by simp
 have p4:(w.alloc (.cells #[.int .u8 0,.int .i64 0,.int .i64 0,.int .i64 0,.int .i64 0,.int .i64 0,.int .i64 0,.int .i64 0] 95)).cell? ⟨w.heap.size,4,none⟩=some (.int .i64 0):=by simp
 have g4:(w.alloc (.cells #[.int .u8 0,.int .i64 0,.int .i64 0,.int .i64 0,.int .i64 0,.int .i64 0,.int .i64 0,.int .i64 0] 95)).frozen? ⟨w.heap.size,4,none⟩=false:=by simp
 have jP:(w.alloc (.cells #[.int .u8 0,.int .i64 0,.int .i64 0,.int .i64 0,.int .i64 0,.int .i64 0,.int .i64 0,.int .i64 0] 95)).cell? ⟨w.heap.size,5,none⟩=some (.int .i64 0):=by simp
 have g5:(w.alloc (.cells #[.int .u8 0,.int .i64 0,.int .i64 0,.int .i64 0,.int .i64 0,.int .i64 0,.int .i64 0,.int .i64 0] 95)).frozen? ⟨w.heap.size,5,none⟩=false:=by simp
 have jQ:(w.alloc (.cells #[.int .u8 0,.int .i64 0,.int .i64 0,.int .i64 0,.int .i64 0,.int .i64 0,.int .i64 0,.int .i64 0] 95)).cell? ⟨w.heap.size,6,none⟩=some (.int .i64 0):=by simp
 have g6:(w.alloc (.cells #[.int .u8 0,.int .i64 0,.int .i64 0,.int .i64 0,.int .i64 0,.int .i64 0,.int .i64 0,.int .i64 0] 95)).frozen? ⟨w.heap.size,6,none⟩=false:=by simp
 have jR:(w.alloc (.cells #[.int .u8 0,.int .i64 0,.int .i64 0,.int .i64 0,.int .i64 0,.int .i64 0,.int .i64 0,.int .i64 0] 95)).cell? ⟨w.heap.size,7,none⟩=some (.int .i64 0):=by simp
 have g7:(w.alloc (.cells #[.int .u8 0,.int .i64 0,.int .i64 0,.int .i64 0,.int .i64 0,.int .i64 0,.int .i64 0,.int .i64 0] 95)).frozen? ⟨w.heap.size,7,none⟩=false:=by simp
 have hz0:w.heap.size<(w.alloc (.cells #[.int .u8 0,.int .i64 0,.int .i64 0,.int .i64 0,.int .i64 0,.int .i64 0,.int .i64 0,.int .i64 0] 95)).heap.size:=by simp
 generalize w.alloc (.cells #[.int .u8 0,.int .i64 0,.int .i64 0,.int .i64 0,.int .i64 0,.int .i64 0,.int .i64 0,.int .i64 0] 95)=w0 at *;have jS:Nonempty (Later w0):=⟨⟨w0,bRq _ _⟩⟩;refine xy (X:=Later w0) Later.val (by kernel_rfl) (by kernel_rfl) ⟨_,(bRq _ _).drew⟩ rfl ?_
 repeat quiet_step ((first | (go_at_call 88;exact zI _ hm _) | (go_at_call 87;exact zJ _ (ah.sum_lt _) _)))
 refine wpQuiet_nil ?_;intro x;have ov:x.val.cell? ⟨w.heap.size,0,none⟩=some (.int .u8 0):=by rw[x.low.cell (p:=⟨w.heap.size,0,none⟩) hz0];exact p0
 have sA:x.val.frozen? ⟨w.heap.size,0,none⟩=false:=by rw[x.low.frozen (p:=⟨w.heap.size,0,none⟩) hz0];exact g0
 have P1:x.val.cell? ⟨w.heap.size,1,none⟩=some (.int .i64 0):=by rw[x.low.cell (p:=⟨w.heap.size,1,none⟩) hz0];exact p1
 have sD:x.val.frozen? ⟨w.heap.size,1,none⟩=false:=by rw[x.low.frozen (p:=⟨w.heap.size,1,none⟩) hz0];exact g1
 have ow:x.val.cell? ⟨w.heap.size,2,none⟩=some (.int .i64 0):=by rw[x.low.cell (p:=⟨w.heap.size,2,none⟩) hz0];exact p2
 have sF:x.val.frozen? ⟨w.heap.size,2,none⟩=false:=by rw[x.low.frozen (p:=⟨w.heap.size,2,none⟩) hz0];exact g2
 have P3:x.val.cell? ⟨w.heap.size,3,none⟩=some (.int .i64 0):=by rw[x.low.cell (p:=⟨w.heap.size,3,none⟩) hz0];exact p3
 have sG:x.val.frozen? ⟨w.heap.size,3,none⟩=false:=by rw[x.low.frozen (p:=⟨w.heap.size,3,none⟩) hz0];exact g3
 have oA:x.val.cell? ⟨w.heap.size,4,none⟩=some (.int .i64 0):=by rw[x.low.cell (p:=⟨w.heap.size,4,none⟩) hz0];exact p4
 have sH:x.val.frozen? ⟨w.heap.size,4,none⟩=false:=by rw[x.low.frozen (p:=⟨w.heap.size,4,none⟩) hz0];exact g4
 have oB:x.val.cell? ⟨w.heap.size,5,none⟩=some (.int .i64 0):=by rw[x.low.cell (p:=⟨w.heap.size,5,none⟩) hz0];exact jP
 have sI:x.val.frozen? ⟨w.heap.size,5,none⟩=false:=by rw[x.low.frozen (p:=⟨w.heap.size,5,none⟩) hz0];exact g5
 have oC:x.val.cell? ⟨w.heap.size,6,none⟩=some (.int .i64 0):=by rw[x.low.cell (p:=⟨w.heap.size,6,none⟩) hz0];exact jQ
 have sJ:x.val.frozen? ⟨w.heap.size,6,none⟩=false:=by rw[x.low.frozen (p:=⟨w.heap.size,6,none⟩) hz0];exact g6
 have oD:x.val.cell? ⟨w.heap.size,7,none⟩=some (.int .i64 0):=by rw[x.low.cell (p:=⟨w.heap.size,7,none⟩) hz0];exact jR
 have sK:x.val.frozen? ⟨w.heap.size,7,none⟩=false:=by rw[x.low.frozen (p:=⟨w.heap.size,7,none⟩) hz0];exact g7
 have HB1:Hid (Below w.heap.size w x.val):=hb0.trans (x.low.mono hb0.size);have hz1:w.heap.size<x.val.heap.size:=Nat.lt_of_lt_of_le hz0 x.low.size;clear p0 p1 p2 p3 p4 jP jQ jR g0 g1 g2 g3 g4 g5 g6 g7 hb0 hz0;generalize x.val=w1 at *;clear x jS hm
 go_wp2_with fail
 refine(mh _ _ (by simp;omega)).mono ?_;rintro e w2 ⟨rfl,rfl⟩;have t2:=H1.out;generalize dD (s.extract 20 23).data.toList=b at t2 ⊢;have t3:(0:Int)<b:=by omega
 go_wp2;refine bodyPost_ret (v:=.tuple #[ft,.int .i64 3]) (by simp[results,Tryz.results48,go_sem,ft,ov,P1,ow,P3,oA,oB,oC,oD]) rfl ⟨rfl,?_⟩
 iterate 8 refine Below.setCell (p:=⟨w.heap.size,_,none⟩) ?_ (lRq w.heap.size) _
 exact HB1.out
theorem abe (s:ByteArray) (w:World) (hs:((s.size:Int) != 30)=false) (hne:((strOfNums (ah.low (ah.sum (s.data.toList.take 26)))).toList==(s.extract 26 s.size).toList)=true) (h1:dD (s.extract 20 23).data.toList=0) (h2:0<dD (s.extract 23 26).data.toList) :
  Calls Tryz.prog 48 #[.string s] w fun e w'=>e=.returned (.tuple #[ft,.int .i64 3])∧Below w.heap.size w w':=by
 have H1:=hDq h1;have H2:=hDq h2;clear h1 h2;have hs':s.size=30:=by have:=hs;simp at this;omega
 have uQ:20<=s.size:=by omega
 have f20:(20:Int)<=s.size:=by omega
 have I9:23<=s.size:=by omega
 have f23:(23:Int)<=s.size:=by omega
 have sy:26<=s.size:=by omega
 have f26:(26:Int)<=s.size:=by omega
 have hm:(s.extract 0 26).size<=maxLen:=by simp[maxLen];omega
 have ht:(s.extract 0 26).data.toList=s.data.toList.take 26:=by simp
 have d8:=hDq hs';clear hs';go_enter Tryz.func48,Tryz.ntmps48;go_wp2;have hb0:Below w.heap.size w (w.alloc (.cells #[.int .u8 0,.int .i64 0,.int .i64 0,.int .i64 0,.int .i64 0,.int .i64 0,.int .i64 0,.int .i64 0] 95)):=(bRq _ _).alloc (lRq _) _;have p0:(w.alloc (.cells #[.int .u8 0,.int .i64 0,.int .i64 0,.int .i64 0,.int .i64 0,.int .i64 0,.int .i64 0,.int .i64 0] 95)).cell? ⟨w.heap.size,0,none⟩=some (.int .u8 0):=by simp
 have g0:(w.alloc (.cells #[.int .u8 0,.int .i64 0,.int .i64 0,.int .i64 0,.int .i64 0,.int .i64 0,.int .i64 0,.int .i64 0] 95)).frozen? ⟨w.heap.size,0,none⟩=false:=by simp
 have p1:(w.alloc (.cells #[.int .u8 0,.int .i64 0,.int .i64 0,.int .i64 0,.int .i64 0,.int .i64 0,.int .i64 0,.int .i64 0] 95)).cell? ⟨w.heap.size,1,none⟩=some (.int .i64 0):=by simp
 have g1:(w.alloc (.cells #[.int .u8 0,.int .i64 0,.int .i64 0,.int .i64 0,.int .i64 0,.int .i64 0,.int .i64 0,.int .i64 0] 95)).frozen? ⟨w.heap.size,1,none⟩=false:=by simp
 have p2:(w.alloc (.cells #[.int .u8 0,.int .i64 0,.int .i64 0,.int .i64 0,.int .i64 0,.int .i64 0,.int .i64 0,.int .i64 0] 95)).cell? ⟨w.heap.size,2,none⟩=some (.int .i64 0):=by simp
 have g2:(w.alloc (.cells #[.int .u8 0,.int .i64 0,.int .i64 0,.int .i64 0,.int .i64 0,.int .i64 0,.int .i64 0,.int .i64 0] 95)).frozen? ⟨w.heap.size,2,none⟩=false:=by simp
 have p3:(w.alloc (.cells #[.int .u8 0,.int .i64 0,.int .i64 0,.int .i64 0,.int .i64 0,.int .i64 0,.int .i64 0,.int .i64 0] 95)).cell? ⟨w.heap.size,3,none⟩=some (.int .i64 0):=by simp
 have g3:(w.alloc (.cells #[.int .u8 0,.int .i64 0,.int .i64 0,.int .i64 0,.int .i64 0,.int .i64 0,.int .i64 0,.int .i64 0] 95)).frozen? ⟨w.heap.size,3,none⟩=false:=by simp
 have p4:(w.alloc (.cells #[.int .u8 0,.int .i64 0,.int .i64 0,.int .i64 0,.int .i64 0,.int .i64 0,.int .i64 0,.int .i64 0] 95)).cell? ⟨w.heap.size,4,none⟩=some (.int .i64 0):=by simp
 have g4:(w.alloc (.cells #[.int .u8 0,.int .i64 0,.int .i64 0,.int .i64 0,.int .i64 0,.int .i64 0,.int .i64 0,.int .i64 0] 95)).frozen? ⟨w.heap.size,4,none⟩=false:=by simp
 have jP:(w.alloc (.cells #[.int .u8 0,.int .i64 0,.int .i64 0,.int .i64 0,.int .i64 0,.int .i64 0,.int .i64 0,.int .i64 0] 95)).cell? ⟨w.heap.size,5,none⟩=some (.int .i64 0):=by simp
 have g5:(w.alloc (.cells #[.int .u8 0,.int .i64 0,.int .i64 0,.int .i64 0,.int .i64 0,.int .i64 0,.int .i64 0,.int .i64 0] 95)).frozen? ⟨w.heap.size,5,none⟩=false:=by simp
 have jQ:(w.alloc (.cells #[.int .u8 0,.int .i64 0,.int .i64 0,.int .i64 0,.int .i64 0,.int .i64 0,.int .i64 0,.int .i64 0] 95)).cell? ⟨w.heap.size,6,none⟩=some (.int .i64 0):=by simp
 have g6:(w.alloc (.cells #[.int .u8 0,.int .i64 0,.int .i64 0,.int .i64 0,.int .i64 0,.int .i64 0,.int .i64 0,.int .i64 0] 95)).frozen? ⟨w.heap.size,6,none⟩=false:=by simp
 have jR:(w.alloc (.cells #[.int .u8 0,.int .i64 0,.int .i64 0,.int .i64 0,.int .i64 0,.int .i64 0,.int .i64 0,.int .i64 0] 95)).cell? ⟨w.heap.size,7,none⟩=some (.int .i64 0):=by simp
 have g7:(w.alloc (.cells #[.int .u8 0,.int .i64 0,.int .i64 0,.int .i64 0,.int .i64 0,.int .i64 0,.int .i64 0,.int .i64 0] 95)).frozen? ⟨w.heap.size,7,none⟩=false:=by simp
 have hz0:w.heap.size<(w.alloc (.cells #[.int .u8 0,.int .i64 0,.int .i64 0,.int .i64 0,.int .i64 0,.int .i64 0,.int .i64 0,.int .i64 0] 95)).heap.size:=by simp
 generalize w.alloc (.cells #[.int .u8 0,.int .i64 0,.int .i64 0,.int .i64 0,.int .i64 0,.int .i64 0,.int .i64 0,.int .i64 0] 95)=w0 at *;have jS:Nonempty (Later w0):=⟨⟨w0,bRq _ _⟩⟩;refine xy (X:=Later w0) Later.val (by kernel_rfl) (by kernel_rfl) ⟨_,(bRq _ _).drew⟩ rfl ?_
 repeat quiet_step ((first | (go_at_call 88;exact zI _ hm _) | (go_at_call 87;exact zJ _ (ah.sum_lt _) _)))
 refine wpQuiet_nil ?_;intro x;have ov:x.val.cell? ⟨w.heap.size,0,none⟩=some (.int .u8 0):=by rw[x.low.cell (p:=⟨w.heap.size,0,none⟩) hz0];exact p0
 have sA:x.val.frozen? ⟨w.heap.size,0,none⟩=false:=by rw[x.low.frozen (p:=⟨w.heap.size,0,none⟩) hz0];exact g0
 have P1:x.val.cell? ⟨w.heap.size,1,none⟩=some (.int .i64 0):=by rw[x.low.cell (p:=⟨w.heap.size,1,none⟩) hz0];exact p1
 have sD:x.val.frozen? ⟨w.heap.size,1,none⟩=false:=by rw[x.low.frozen (p:=⟨w.heap.size,1,none⟩) hz0];exact g1
 have ow:x.val.cell? ⟨w.heap.size,2,none⟩=some (.int .i64 0):=by rw[x.low.cell (p:=⟨w.heap.size,2,none⟩) hz0];exact p2
 have sF:x.val.frozen? ⟨w.heap.size,2,none⟩=false:=by rw[x.low.frozen (p:=⟨w.heap.size,2,none⟩) hz0];exact g2
 have P3:x.val.cell? ⟨w.heap.size,3,none⟩=some (.int .i64 0):=by rw[x.low.cell (p:=⟨w.heap.size,3,none⟩) hz0];exact p3
 have sG:x.val.frozen? ⟨w.heap.size,3,none⟩=false:=by rw[x.low.frozen (p:=⟨w.heap.size,3,none⟩) hz0];exact g3
 have oA:x.val.cell? ⟨w.heap.size,4,none⟩=some (.int .i64 0):=by rw[x.low.cell (p:=⟨w.heap.size,4,none⟩) hz0];exact p4
 have sH:x.val.frozen? ⟨w.heap.size,4,none⟩=false:=by rw[x.low.frozen (p:=⟨w.heap.size,4,none⟩) hz0];exact g4
 have oB:x.val.cell? ⟨w.heap.size,5,none⟩=some (.int .i64 0):=by rw[x.low.cell (p:=⟨w.heap.size,5,none⟩) hz0];exact jP
 have sI:x.val.frozen? ⟨w.heap.size,5,none⟩=false:=by rw[x.low.frozen (p:=⟨w.heap.size,5,none⟩) hz0];exact g5
 have oC:x.val.cell? ⟨w.heap.size,6,none⟩=some (.int .i64 0):=by rw[x.low.cell (p:=⟨w.heap.size,6,none⟩) hz0];exact jQ
 have sJ:x.val.frozen? ⟨w.heap.size,6,none⟩=false:=by rw[x.low.frozen (p:=⟨w.heap.size,6,none⟩) hz0];exact g6
 have oD:x.val.cell? ⟨w.heap.size,7,none⟩=some (.int .i64 0):=by rw[x.low.cell (p:=⟨w.heap.size,7,none⟩) hz0];exact jR
 have sK:x.val.frozen? ⟨w.heap.size,7,none⟩=false:=by rw[x.low.frozen (p:=⟨w.heap.size,7,none⟩) hz0];exact g7
 have HB1:Hid (Below w.heap.size w x.val):=hb0.trans (x.low.mono hb0.size);have hz1:w.heap.size<x.val.heap.size:=Nat.lt_of_lt_of_le hz0 x.low.size;clear p0 p1 p2 p3 p4 jP jQ jR g0 g1 g2 g3 g4 g5 g6 g7 hb0 hz0;generalize x.val=w1 at *;clear x jS hm
 go_wp2_with fail
 refine(mh _ _ (by simp;omega)).mono ?_;rintro e w2 ⟨rfl,rfl⟩;rw[H1.out]
 go_wp2_with fail
 refine(mh _ _ (by simp;omega)).mono ?_;rintro e w2 ⟨rfl,rfl⟩;have t2:=H2.out;generalize dD (s.extract 23 26).data.toList=b at t2 ⊢;have t3:(0:Int)<b:=by omega
 go_wp2;refine bodyPost_ret (v:=.tuple #[ft,.int .i64 3]) (by simp[results,Tryz.results48,go_sem,ft,ov,P1,ow,P3,oA,oB,oC,oD]) rfl ⟨rfl,?_⟩
 iterate 8 refine Below.setCell (p:=⟨w.heap.size,_,none⟩) ?_ (lRq w.heap.size) _
 exact HB1.out
theorem sx (s:ByteArray) (a:Nat) (h:a+4<=s.data.toList.length):dD (List.take 4 (List.drop a s.data.toList))=av s a:=by
 have e:List.take 4 (List.drop a s.data.toList)=[s.data.toList.getD a 0,s.data.toList.getD (a+1) 0,s.data.toList.getD (a+2) 0,s.data.toList.getD (a+3) 0]:=by
  have h0:s.data.toList.drop a=s.data.toList[a]::s.data.toList[a+1]::s.data.toList[a+2]::s.data.toList[a+3]::s.data.toList.drop (a+4):=by
   rw[List.drop_eq_getElem_cons (by omega),List.drop_eq_getElem_cons (by omega),List.drop_eq_getElem_cons (by omega),List.drop_eq_getElem_cons (by omega)]
  rw[h0];have d:∀ j (hj:j<s.data.toList.length),s.data.toList.getD j 0=s.data.toList[j]:=fun j hj=>by
   rw[gE,List.getElem?_eq_getElem hj];rfl
  rw[d a (by omega),d (a+1) (by omega),d (a+2) (by omega),d (a+3) (by omega)];rfl
 rw[e];unfold dD av az;simp only[List.foldl_cons,List.foldl_nil];omega
theorem abb (s:ByteArray) (w:World) (hs:((s.size:Int) != 30)=false) (hne:((strOfNums (ah.low (ah.sum (s.data.toList.take 26)))).toList==(s.extract 26 s.size).toList)=true) (h1:dD (s.extract 20 23).data.toList=0) (h2:dD (s.extract 23 26).data.toList=0) (hc:Hid (ah.code (az s 0) (az s 1) (av s 2) (az s 6) (az s 7) (av s 8) (av s 12) (av s 16)=0)) :
  Calls Tryz.prog 48 #[.string s] w fun e w'=>e=.returned (.tuple #[nk s,.int .i64 0])∧Below w.heap.size w w':=by
 have H1:=hDq h1;have H2:=hDq h2;clear h1 h2;have hs':s.size=30:=by have:=hs;simp at this;omega
 have e6:6<=s.size:=by omega
 have f6:(6:Int)<=s.size:=by omega
 have Qv:12<=s.size:=by omega
 have f12:(12:Int)<=s.size:=by omega
 have Qw:16<=s.size:=by omega
 have f16:(16:Int)<=s.size:=by omega
 have uQ:20<=s.size:=by omega
 have f20:(20:Int)<=s.size:=by omega
 have I9:23<=s.size:=by omega
 have f23:(23:Int)<=s.size:=by omega
 have sy:26<=s.size:=by omega
 have f26:(26:Int)<=s.size:=by omega
 have hm:(s.extract 0 26).size<=maxLen:=by simp[maxLen];omega
 have ht:(s.extract 0 26).data.toList=s.data.toList.take 26:=by simp
 have d8:=hDq hs';clear hs';go_enter Tryz.func48,Tryz.ntmps48;go_wp2;have hb0:Below w.heap.size w (w.alloc (.cells #[.int .u8 0,.int .i64 0,.int .i64 0,.int .i64 0,.int .i64 0,.int .i64 0,.int .i64 0,.int .i64 0] 95)):=(bRq _ _).alloc (lRq _) _;have p0:(w.alloc (.cells #[.int .u8 0,.int .i64 0,.int .i64 0,.int .i64 0,.int .i64 0,.int .i64 0,.int .i64 0,.int .i64 0] 95)).cell? ⟨w.heap.size,0,none⟩=some (.int .u8 0):=by simp
 have g0:(w.alloc (.cells #[.int .u8 0,.int .i64 0,.int .i64 0,.int .i64 0,.int .i64 0,.int .i64 0,.int .i64 0,.int .i64 0] 95)).frozen? ⟨w.heap.size,0,none⟩=false:=by simp
 have p1:(w.alloc (.cells #[.int .u8 0,.int .i64 0,.int .i64 0,.int .i64 0,.int .i64 0,.int .i64 0,.int .i64 0,.int .i64 0] 95)).cell? ⟨w.heap.size,1,none⟩=some (.int .i64 0):=by simp
 have g1:(w.alloc (.cells #[.int .u8 0,.int .i64 0,.int .i64 0,.int .i64 0,.int .i64 0,.int .i64 0,.int .i64 0,.int .i64 0] 95)).frozen? ⟨w.heap.size,1,none⟩=false:=by simp
 have p2:(w.alloc (.cells #[.int .u8 0,.int .i64 0,.int .i64 0,.int .i64 0,.int .i64 0,.int .i64 0,.int .i64 0,.int .i64 0] 95)).cell? ⟨w.heap.size,2,none⟩=some (.int .i64 0):=by simp
 have g2:(w.alloc (.cells #[.int .u8 0,.int .i64 0,.int .i64 0,.int .i64 0,.int .i64 0,.int .i64 0,.int .i64 0,.int .i64 0] 95)).frozen? ⟨w.heap.size,2,none⟩=false:=by simp
 have p3:(w.alloc (.cells #[.int .u8 0,.int .i64 0,.int .i64 0,.int .i64 0,.int .i64 0,.int .i64 0,.int .i64 0,.int .i64 0] 95)).cell? ⟨w.heap.size,3,none⟩=some (.int .i64 0):=by simp
 have g3:(w.alloc (.cells #[.int .u8 0,.int .i64 0,.int .i64 0,.int .i64 0,.int .i64 0,.int .i64 0,.int .i64 0,.int .i64 0] 95)).frozen? ⟨w.heap.size,3,none⟩=false:=by simp
 have p4:(w.alloc (.cells #[.int .u8 0,.int .i64 0,.int .i64 0,.int .i64 0,.int .i64 0,.int .i64 0,.int .i64 0,.int .i64 0] 95)).cell? ⟨w.heap.size,4,none⟩=some (.int .i64 0):=by simp
 have g4:(w.alloc (.cells #[.int .u8 0,.int .i64 0,.int .i64 0,.int .i64 0,.int .i64 0,.int .i64 0,.int .i64 0,.int .i64 0] 95)).frozen? ⟨w.heap.size,4,none⟩=false:=by simp
 have jP:(w.alloc (.cells #[.int .u8 0,.int .i64 0,.int .i64 0,.int .i64 0,.int .i64 0,.int .i64 0,.int .i64 0,.int .i64 0] 95)).cell? ⟨w.heap.size,5,none⟩=some (.int .i64 0):=by simp
 have g5:(w.alloc (.cells #[.int .u8 0,.int .i64 0,.int .i64 0,.int .i64 0,.int .i64 0,.int .i64 0,.int .i64 0,.int .i64 0] 95)).frozen? ⟨w.heap.size,5,none⟩=false:=by simp
 have jQ:(w.alloc (.cells #[.int .u8 0,.int .i64 0,.int .i64 0,.int .i64 0,.int .i64 0,.int .i64 0,.int .i64 0,.int .i64 0] 95)).cell? ⟨w.heap.size,6,none⟩=some (.int .i64 0):=by simp
 have g6:(w.alloc (.cells #[.int .u8 0,.int .i64 0,.int .i64 0,.int .i64 0,.int .i64 0,.int .i64 0,.int .i64 0,.int .i64 0] 95)).frozen? ⟨w.heap.size,6,none⟩=false:=by simp
 have jR:(w.alloc (.cells #[.int .u8 0,.int .i64 0,.int .i64 0,.int .i64 0,.int .i64 0,.int .i64 0,.int .i64 0,.int .i64 0] 95)).cell? ⟨w.heap.size,7,none⟩=some (.int .i64 0):=by simp
 have g7:(w.alloc (.cells #[.int .u8 0,.int .i64 0,.int .i64 0,.int .i64 0,.int .i64 0,.int .i64 0,.int .i64 0,.int .i64 0] 95)).frozen? ⟨w.heap.size,7,none⟩=false:=by simp
 have hz0:w.heap.size<(w.alloc (.cells #[.int .u8 0,.int .i64 0,.int .i64 0,.int .i64 0,.int .i64 0,.int .i64 0,.int .i64 0,.int .i64 0] 95)).heap.size:=by simp
 generalize w.alloc (.cells #[.int .u8 0,.int .i64 0,.int .i64 0,.int .i64 0,.int .i64 0,.int .i64 0,.int .i64 0,.int .i64 0] 95)=w0 at *;have jS:Nonempty (Later w0):=⟨⟨w0,bRq _ _⟩⟩;refine xy (X:=Later w0) Later.val (by kernel_rfl) (by kernel_rfl) ⟨_,(bRq _ _).drew⟩ rfl ?_
 repeat quiet_step ((first | (go_at_call 88;exact zI _ hm _) | (go_at_call 87;exact zJ _ (ah.sum_lt _) _)))
 refine wpQuiet_nil ?_;intro x;have ov:x.val.cell? ⟨w.heap.size,0,none⟩=some (.int .u8 0):=by rw[x.low.cell (p:=⟨w.heap.size,0,none⟩) hz0];exact p0
 have sA:x.val.frozen? ⟨w.heap.size,0,none⟩=false:=by rw[x.low.frozen (p:=⟨w.heap.size,0,none⟩) hz0];exact g0
 have P1:x.val.cell? ⟨w.heap.size,1,none⟩=some (.int .i64 0):=by rw[x.low.cell (p:=⟨w.heap.size,1,none⟩) hz0];exact p1
 have sD:x.val.frozen? ⟨w.heap.size,1,none⟩=false:=by rw[x.low.frozen (p:=⟨w.heap.size,1,none⟩) hz0];exact g1
 have ow:x.val.cell? ⟨w.heap.size,2,none⟩=some (.int .i64 0):=by rw[x.low.cell (p:=⟨w.heap.size,2,none⟩) hz0];exact p2
 have sF:x.val.frozen? ⟨w.heap.size,2,none⟩=false:=by rw[x.low.frozen (p:=⟨w.heap.size,2,none⟩) hz0];exact g2
 have P3:x.val.cell? ⟨w.heap.size,3,none⟩=some (.int .i64 0):=by rw[x.low.cell (p:=⟨w.heap.size,3,none⟩) hz0];exact p3
 have sG:x.val.frozen? ⟨w.heap.size,3,none⟩=false:=by rw[x.low.frozen (p:=⟨w.heap.size,3,none⟩) hz0];exact g3
 have oA:x.val.cell? ⟨w.heap.size,4,none⟩=some (.int .i64 0):=by rw[x.low.cell (p:=⟨w.heap.size,4,none⟩) hz0];exact p4
 have sH:x.val.frozen? ⟨w.heap.size,4,none⟩=false:=by rw[x.low.frozen (p:=⟨w.heap.size,4,none⟩) hz0];exact g4
 have oB:x.val.cell? ⟨w.heap.size,5,none⟩=some (.int .i64 0):=by rw[x.low.cell (p:=⟨w.heap.size,5,none⟩) hz0];exact jP
 have sI:x.val.frozen? ⟨w.heap.size,5,none⟩=false:=by rw[x.low.frozen (p:=⟨w.heap.size,5,none⟩) hz0];exact g5
 have oC:x.val.cell? ⟨w.heap.size,6,none⟩=some (.int .i64 0):=by rw[x.low.cell (p:=⟨w.heap.size,6,none⟩) hz0];exact jQ
 have sJ:x.val.frozen? ⟨w.heap.size,6,none⟩=false:=by rw[x.low.frozen (p:=⟨w.heap.size,6,none⟩) hz0];exact g6
 have oD:x.val.cell? ⟨w.heap.size,7,none⟩=some (.int .i64 0):=by rw[x.low.cell (p:=⟨w.heap.size,7,none⟩) hz0];exact jR
 have sK:x.val.frozen? ⟨w.heap.size,7,none⟩=false:=by rw[x.low.frozen (p:=⟨w.heap.size,7,none⟩) hz0];exact g7
 have HB1:Hid (Below w.heap.size w x.val):=hb0.trans (x.low.mono hb0.size);have hz1:w.heap.size<x.val.heap.size:=Nat.lt_of_lt_of_le hz0 x.low.size;clear p0 p1 p2 p3 p4 jP jQ jR g0 g1 g2 g3 g4 g5 g6 g7 hb0 hz0;generalize x.val=w1 at *;clear x jS hm
 go_wp2_with fail
 refine(mh _ _ (by simp;omega)).mono ?_;rintro e w2 ⟨rfl,rfl⟩;rw[H1.out]
 go_wp2_with fail
 refine(mh _ _ (by simp;omega)).mono ?_;rintro e w2 ⟨rfl,rfl⟩;rw[H2.out];have I_:0<s.size:=by omega
 have Ja:1<s.size:=by omega
 have Jb:6<s.size:=by omega
 have Jc:7<s.size:=by omega
 have abj:(1:Int)<s.size:=by omega
 have abk:(6:Int)<s.size:=by have:=d8.out;omega
 have abl:(7:Int)<s.size:=by have:=d8.out;omega
 go_wp2_with fail
 obtain⟨val,iy,mj⟩:∃ val:Bool->Nat->World,(∀ n,val false n=w2.drewN n)∧(∀ n,val true n=(w2.drewN n).alloc (.cells #[.int .u8 0,.int .i64 0,.int .i64 0,.int .i64 0,.int .i64 0,.int .i64 0,.int .i64 0,.int .i64 0] 95)):=⟨fun b n=>bif b then (w2.drewN n).alloc (.cells #[.int .u8 0,.int .i64 0,.int .i64 0,.int .i64 0,.int .i64 0,.int .i64 0,.int .i64 0,.int .i64 0] 95) else w2.drewN n,fun _=>rfl,fun _=>rfl⟩;have sL:=hDq iy;have sM:=hDq mj;have hal:∀ (a:Act) n,(execOp a.eval { dst:=some 4,op:=Op.alloc 95,type:=0,pos:= "base.go:169",after:=#[],guard:=none }).run Tryz.prog (val false n)=.ok (.value (.pointer (some ⟨w2.heap.size,0,none⟩))) (val true n):=by
  intro a n;rw[iy,mj]
  kernel_rfl
 clear iy mj;refine Jd (val:=val) (p:=.pointer (some ⟨w2.heap.size,0,none⟩)) 15 rfl (by kernel_rfl) (by kernel_rfl) (by kernel_rfl) rfl (by rw[sL.out];rfl) hal ?_;clear hal;simp only[List.take_succ_cons,List.take_zero]
 repeat (refine Je (fun K hK=>?_);refine⟨by rfl,?_⟩;unfold zK;go_simp;first | (refine hK _ ?_;clear hK K) | (refine⟨_,⟨fun n=>(mh _ _ (by simp;omega)).mono (fun e w' ⟨he,hw⟩=>⟨he,n,hw⟩),fun n=>(mh _ _ (by simp;omega)).mono (fun e w' ⟨he,hw⟩=>⟨he,n,hw⟩)⟩,hK _ ?_⟩;clear hK K))
 refine Jf ?_;intro n;rw[sM.out];have zL:(w2.drewN n).cell? ⟨w.heap.size,0,none⟩=some (.int .u8 0):=by simpa using ov
 have fF:(w2.drewN n).frozen? ⟨w.heap.size,0,none⟩=false:=by simpa using sA
 have Q1:(w2.drewN n).cell? ⟨w.heap.size,1,none⟩=some (.int .i64 0):=by simpa using P1
 have F1:(w2.drewN n).frozen? ⟨w.heap.size,1,none⟩=false:=by simpa using sD
 have Q2:(w2.drewN n).cell? ⟨w.heap.size,2,none⟩=some (.int .i64 0):=by simpa using ow
 have zM:(w2.drewN n).frozen? ⟨w.heap.size,2,none⟩=false:=by simpa using sF
 have Q3:(w2.drewN n).cell? ⟨w.heap.size,3,none⟩=some (.int .i64 0):=by simpa using P3
 have zN:(w2.drewN n).frozen? ⟨w.heap.size,3,none⟩=false:=by simpa using sG
 have Q4:(w2.drewN n).cell? ⟨w.heap.size,4,none⟩=some (.int .i64 0):=by simpa using oA
 have zO:(w2.drewN n).frozen? ⟨w.heap.size,4,none⟩=false:=by simpa using sH
 have zP:(w2.drewN n).cell? ⟨w.heap.size,5,none⟩=some (.int .i64 0):=by simpa using oB
 have zQ:(w2.drewN n).frozen? ⟨w.heap.size,5,none⟩=false:=by simpa using sI
 have zR:(w2.drewN n).cell? ⟨w.heap.size,6,none⟩=some (.int .i64 0):=by simpa using oC
 have zS:(w2.drewN n).frozen? ⟨w.heap.size,6,none⟩=false:=by simpa using sJ
 have zT:(w2.drewN n).cell? ⟨w.heap.size,7,none⟩=some (.int .i64 0):=by simpa using oD
 have zU:(w2.drewN n).frozen? ⟨w.heap.size,7,none⟩=false:=by simpa using sK
 have HB2:Hid (Below w.heap.size w (w2.drewN n)):=HB1.out.trans ((below_drewN n).mono HB1.out.size);have hz2:w.heap.size<(w2.drewN n).heap.size:=by simpa using hz1
 have hsz:w2.heap.size=(w2.drewN n).heap.size:=by simp
 rw[hsz];clear ov P1 ow P3 oA oB oC oD sA sD sF sG sH sI sJ sK HB1 hz1 sL sM hsz;generalize w2.drewN n=W at *
 go_wp2_with (go_at_call 89;refine(mh _ _ (by simp;omega)).mono ?_;rintro e w' ⟨rfl,rfl⟩)
 have r0:((s[0]).toNat:Int)=(az s 0:Int):=by rw[fW s 0 I_]
 have r1:wrap64 ((s[1]).toNat:Int)=(az s 1:Int):=by rw[fW s 1 Ja,ml _ (by have:=gW s 1;omega)]
 have r6:wrap64 ((s[6]).toNat:Int)=(az s 6:Int):=by rw[fW s 6 Jb,ml _ (by have:=gW s 6;omega)]
 have oF:wrap64 ((s[7]).toNat:Int)=(az s 7:Int):=by rw[fW s 7 Jc,ml _ (by have:=gW s 7;omega)]
 have hlen:s.data.toList.length=30:=by simpa using d8.out
 have n2:dD (List.take 4 (List.drop 2 s.data.toList))=av s 2:=sx s 2 (by omega);have n8:dD (List.take 4 (List.drop 8 s.data.toList))=av s 8:=sx s 8 (by omega);have n12:dD (List.take 4 (List.drop 12 s.data.toList))=av s 12:=sx s 12 (by omega);have n16:dD (List.take 4 (List.drop 16 s.data.toList))=av s 16:=sx s 16 (by omega);rw[r0,r1,r6,oF,n2,n8,n12,n16];clear r0 r1 r6 oF n2 n8 n12 n16 hlen;have b9:Hid (Below w.heap.size w (W.alloc (.cells #[.int .u8 (az s 0),.int .i64 (az s 1),.int .i64 (av s 2),.int .i64 (az s 6),.int .i64 (az s 7),.int .i64 (av s 8),.int .i64 (av s 12),.int .i64 (av s 16)] 95))):=HB2.out.alloc HB2.out.size _;refine(Qs _ _ _ _ _ _ _ _ _).mono ?_;rintro e w3 ⟨rfl,hb3⟩;have au:Hid (Below w.heap.size w w3):=b9.out.trans (hb3.mono b9.out.size);have hz3:W.heap.size<w3.heap.size:=by have:=hb3.size;simp at this;omega
 have R0:w3.cell? ⟨w.heap.size,0,none⟩=some (.int .u8 0):=by rw[hb3.cell (p:=⟨w.heap.size,0,none⟩) (by simp;omega),World.cell?_alloc_lt _ _ ⟨w.heap.size,0,none⟩ hz2];exact zL
 have Jg:w3.frozen? ⟨w.heap.size,0,none⟩=false:=by rw[hb3.frozen (p:=⟨w.heap.size,0,none⟩) (by simp;omega),World.frozen?_alloc_old _ _ ⟨w.heap.size,0,none⟩ (Nat.ne_of_lt hz2)];exact fF
 have A0:w3.cell? ⟨W.heap.size,0,none⟩=some (.int .u8 (az s 0)):=by rw[hb3.cell (p:=⟨W.heap.size,0,none⟩) (by simp)];simp
 have cp:w3.cell? ⟨w.heap.size,1,none⟩=some (.int .i64 0):=by rw[hb3.cell (p:=⟨w.heap.size,1,none⟩) (by simp;omega),World.cell?_alloc_lt _ _ ⟨w.heap.size,1,none⟩ hz2];exact Q1
 have Jh:w3.frozen? ⟨w.heap.size,1,none⟩=false:=by rw[hb3.frozen (p:=⟨w.heap.size,1,none⟩) (by simp;omega),World.frozen?_alloc_old _ _ ⟨w.heap.size,1,none⟩ (Nat.ne_of_lt hz2)];exact F1
 have Ji:w3.cell? ⟨W.heap.size,1,none⟩=some (.int .i64 (az s 1)):=by rw[hb3.cell (p:=⟨W.heap.size,1,none⟩) (by simp)];simp
 have R2:w3.cell? ⟨w.heap.size,2,none⟩=some (.int .i64 0):=by rw[hb3.cell (p:=⟨w.heap.size,2,none⟩) (by simp;omega),World.cell?_alloc_lt _ _ ⟨w.heap.size,2,none⟩ hz2];exact Q2
 have Jj:w3.frozen? ⟨w.heap.size,2,none⟩=false:=by rw[hb3.frozen (p:=⟨w.heap.size,2,none⟩) (by simp;omega),World.frozen?_alloc_old _ _ ⟨w.heap.size,2,none⟩ (Nat.ne_of_lt hz2)];exact zM
 have A2:w3.cell? ⟨W.heap.size,2,none⟩=some (.int .i64 (av s 2)):=by rw[hb3.cell (p:=⟨W.heap.size,2,none⟩) (by simp)];simp
 have lI:w3.cell? ⟨w.heap.size,3,none⟩=some (.int .i64 0):=by rw[hb3.cell (p:=⟨w.heap.size,3,none⟩) (by simp;omega),World.cell?_alloc_lt _ _ ⟨w.heap.size,3,none⟩ hz2];exact Q3
 have Jk:w3.frozen? ⟨w.heap.size,3,none⟩=false:=by rw[hb3.frozen (p:=⟨w.heap.size,3,none⟩) (by simp;omega),World.frozen?_alloc_old _ _ ⟨w.heap.size,3,none⟩ (Nat.ne_of_lt hz2)];exact zN
 have A3:w3.cell? ⟨W.heap.size,3,none⟩=some (.int .i64 (az s 6)):=by rw[hb3.cell (p:=⟨W.heap.size,3,none⟩) (by simp)];simp
 have uR:w3.cell? ⟨w.heap.size,4,none⟩=some (.int .i64 0):=by rw[hb3.cell (p:=⟨w.heap.size,4,none⟩) (by simp;omega),World.cell?_alloc_lt _ _ ⟨w.heap.size,4,none⟩ hz2];exact Q4
 have Jl:w3.frozen? ⟨w.heap.size,4,none⟩=false:=by rw[hb3.frozen (p:=⟨w.heap.size,4,none⟩) (by simp;omega),World.frozen?_alloc_old _ _ ⟨w.heap.size,4,none⟩ (Nat.ne_of_lt hz2)];exact zO
 have Jm:w3.cell? ⟨W.heap.size,4,none⟩=some (.int .i64 (az s 7)):=by rw[hb3.cell (p:=⟨W.heap.size,4,none⟩) (by simp)];simp
 have uS:w3.cell? ⟨w.heap.size,5,none⟩=some (.int .i64 0):=by rw[hb3.cell (p:=⟨w.heap.size,5,none⟩) (by simp;omega),World.cell?_alloc_lt _ _ ⟨w.heap.size,5,none⟩ hz2];exact zP
 have Jn:w3.frozen? ⟨w.heap.size,5,none⟩=false:=by rw[hb3.frozen (p:=⟨w.heap.size,5,none⟩) (by simp;omega),World.frozen?_alloc_old _ _ ⟨w.heap.size,5,none⟩ (Nat.ne_of_lt hz2)];exact zQ
 have Jo:w3.cell? ⟨W.heap.size,5,none⟩=some (.int .i64 (av s 8)):=by rw[hb3.cell (p:=⟨W.heap.size,5,none⟩) (by simp)];simp
 have uT:w3.cell? ⟨w.heap.size,6,none⟩=some (.int .i64 0):=by rw[hb3.cell (p:=⟨w.heap.size,6,none⟩) (by simp;omega),World.cell?_alloc_lt _ _ ⟨w.heap.size,6,none⟩ hz2];exact zR
 have Jp:w3.frozen? ⟨w.heap.size,6,none⟩=false:=by rw[hb3.frozen (p:=⟨w.heap.size,6,none⟩) (by simp;omega),World.frozen?_alloc_old _ _ ⟨w.heap.size,6,none⟩ (Nat.ne_of_lt hz2)];exact zS
 have Jq:w3.cell? ⟨W.heap.size,6,none⟩=some (.int .i64 (av s 12)):=by rw[hb3.cell (p:=⟨W.heap.size,6,none⟩) (by simp)];simp
 have uU:w3.cell? ⟨w.heap.size,7,none⟩=some (.int .i64 0):=by rw[hb3.cell (p:=⟨w.heap.size,7,none⟩) (by simp;omega),World.cell?_alloc_lt _ _ ⟨w.heap.size,7,none⟩ hz2];exact zT
 have Jr:w3.frozen? ⟨w.heap.size,7,none⟩=false:=by rw[hb3.frozen (p:=⟨w.heap.size,7,none⟩) (by simp;omega),World.frozen?_alloc_old _ _ ⟨w.heap.size,7,none⟩ (Nat.ne_of_lt hz2)];exact zU
 have Js:w3.cell? ⟨W.heap.size,7,none⟩=some (.int .i64 (av s 16)):=by rw[hb3.cell (p:=⟨W.heap.size,7,none⟩) (by simp)];simp
 clear hb3 zL Q1 Q2 Q3 Q4 zP zR zT fF F1 zM zN zO zQ zS zU;rw[hc.out];go_wp2;refine bodyPost_ret (v:=.tuple #[nk s,.int .i64 0]) (by simp[results,Tryz.results48,go_sem,nk,R0,cp,R2,lI,uR,uS,uT,uU]) rfl ⟨rfl,?_⟩
 iterate 8 refine Below.setCell (p:=⟨w.heap.size,_,none⟩) ?_ (lRq w.heap.size) _
 exact au.out
theorem abd (s:ByteArray) (w:World) (hs:((s.size:Int) != 30)=false) (hne:((strOfNums (ah.low (ah.sum (s.data.toList.take 26)))).toList==(s.extract 26 s.size).toList)=true) (h1:dD (s.extract 20 23).data.toList=0) (h2:dD (s.extract 23 26).data.toList=0) (e0:Nat) (anD:(0:Int)<e0) (hc:Hid (ah.code (az s 0) (az s 1) (av s 2) (az s 6) (az s 7) (av s 8) (av s 12) (av s 16)=e0)) :
  Calls Tryz.prog 48 #[.string s] w fun e w'=>e=.returned (.tuple #[ft,.int .i64 e0])∧Below w.heap.size w w':=by
 have H1:=hDq h1;have H2:=hDq h2;clear h1 h2;have hs':s.size=30:=by have:=hs;simp at this;omega
 have e6:6<=s.size:=by omega
 have f6:(6:Int)<=s.size:=by omega
 have Qv:12<=s.size:=by omega
 have f12:(12:Int)<=s.size:=by omega
 have Qw:16<=s.size:=by omega
 have f16:(16:Int)<=s.size:=by omega
 have uQ:20<=s.size:=by omega
 have f20:(20:Int)<=s.size:=by omega
 have I9:23<=s.size:=by omega
 have f23:(23:Int)<=s.size:=by omega
 have sy:26<=s.size:=by omega
 have f26:(26:Int)<=s.size:=by omega
 have hm:(s.extract 0 26).size<=maxLen:=by simp[maxLen];omega
 have ht:(s.extract 0 26).data.toList=s.data.toList.take 26:=by simp
 have d8:=hDq hs';clear hs';go_enter Tryz.func48,Tryz.ntmps48;go_wp2;have hb0:Below w.heap.size w (w.alloc (.cells #[.int .u8 0,.int .i64 0,.int .i64 0,.int .i64 0,.int .i64 0,.int .i64 0,.int .i64 0,.int .i64 0] 95)):=(bRq _ _).alloc (lRq _) _;have p0:(w.alloc (.cells #[.int .u8 0,.int .i64 0,.int .i64 0,.int .i64 0,.int .i64 0,.int .i64 0,.int .i64 0,.int .i64 0] 95)).cell? ⟨w.heap.size,0,none⟩=some (.int .u8 0):=by simp
 have g0:(w.alloc (.cells #[.int .u8 0,.int .i64 0,.int .i64 0,.int .i64 0,.int .i64 0,.int .i64 0,.int .i64 0,.int .i64 0] 95)).frozen? ⟨w.heap.size,0,none⟩=false:=by simp
 have p1:(w.alloc (.cells #[.int .u8 0,.int .i64 0,.int .i64 0,.int .i64 0,.int .i64 0,.int .i64 0,.int .i64 0,.int .i64 0] 95)).cell? ⟨w.heap.size,1,none⟩=some (.int .i64 0):=by simp
 have g1:(w.alloc (.cells #[.int .u8 0,.int .i64 0,.int .i64 0,.int .i64 0,.int .i64 0,.int .i64 0,.int .i64 0,.int .i64 0] 95)).frozen? ⟨w.heap.size,1,none⟩=false:=by simp
 have p2:(w.alloc (.cells #[.int .u8 0,.int .i64 0,.int .i64 0,.int .i64 0,.int .i64 0,.int .i64 0,.int .i64 0,.int .i64 0] 95)).cell? ⟨w.heap.size,2,none⟩=some (.int .i64 0):=by simp
 have g2:(w.alloc (.cells #[.int .u8 0,.int .i64 0,.int .i64 0,.int .i64 0,.int .i64 0,.int .i64 0,.int .i64 0,.int .i64 0] 95)).frozen? ⟨w.heap.size,2,none⟩=false:=by simp
 have p3:(w.alloc (.cells #[.int .u8 0,.int .i64 0,.int .i64 0,.int .i64 0,.int .i64 0,.int .i64 0,.int .i64 0,.int .i64 0] 95)).cell? ⟨w.heap.size,3,none⟩=some (.int .i64 0):=by simp
 have g3:(w.alloc (.cells #[.int .u8 0,.int .i64 0,.int .i64 0,.int .i64 0,.int .i64 0,.int .i64 0,.int .i64 0,.int .i64 0] 95)).frozen? ⟨w.heap.size,3,none⟩=false:=by simp
 have p4:(w.alloc (.cells #[.int .u8 0,.int .i64 0,.int .i64 0,.int .i64 0,.int .i64 0,.int .i64 0,.int .i64 0,.int .i64 0] 95)).cell? ⟨w.heap.size,4,none⟩=some (.int .i64 0):=by simp
 have g4:(w.alloc (.cells #[.int .u8 0,.int .i64 0,.int .i64 0,.int .i64 0,.int .i64 0,.int .i64 0,.int .i64 0,.int .i64 0] 95)).frozen? ⟨w.heap.size,4,none⟩=false:=by simp
 have jP:(w.alloc (.cells #[.int .u8 0,.int .i64 0,.int .i64 0,.int .i64 0,.int .i64 0,.int .i64 0,.int .i64 0,.int .i64 0] 95)).cell? ⟨w.heap.size,5,none⟩=some (.int .i64 0):=by simp
 have g5:(w.alloc (.cells #[.int .u8 0,.int .i64 0,.int .i64 0,.int .i64 0,.int .i64 0,.int .i64 0,.int .i64 0,.int .i64 0] 95)).frozen? ⟨w.heap.size,5,none⟩=false:=by simp
 have jQ:(w.alloc (.cells #[.int .u8 0,.int .i64 0,.int .i64 0,.int .i64 0,.int .i64 0,.int .i64 0,.int .i64 0,.int .i64 0] 95)).cell? ⟨w.heap.size,6,none⟩=some (.int .i64 0):=by simp
 have g6:(w.alloc (.cells #[.int .u8 0,.int .i64 0,.int .i64 0,.int .i64 0,.int .i64 0,.int .i64 0,.int .i64 0,.int .i64 0] 95)).frozen? ⟨w.heap.size,6,none⟩=false:=by simp
 have jR:(w.alloc (.cells #[.int .u8 0,.int .i64 0,.int .i64 0,.int .i64 0,.int .i64 0,.int .i64 0,.int .i64 0,.int .i64 0] 95)).cell? ⟨w.heap.size,7,none⟩=some (.int .i64 0):=by simp
 have g7:(w.alloc (.cells #[.int .u8 0,.int .i64 0,.int .i64 0,.int .i64 0,.int .i64 0,.int .i64 0,.int .i64 0,.int .i64 0] 95)).frozen? ⟨w.heap.size,7,none⟩=false:=by simp
 have hz0:w.heap.size<(w.alloc (.cells #[.int .u8 0,.int .i64 0,.int .i64 0,.int .i64 0,.int .i64 0,.int .i64 0,.int .i64 0,.int .i64 0] 95)).heap.size:=by simp
 generalize w.alloc (.cells #[.int .u8 0,.int .i64 0,.int .i64 0,.int .i64 0,.int .i64 0,.int .i64 0,.int .i64 0,.int .i64 0] 95)=w0 at *;have jS:Nonempty (Later w0):=⟨⟨w0,bRq _ _⟩⟩;refine xy (X:=Later w0) Later.val (by kernel_rfl) (by kernel_rfl) ⟨_,(bRq _ _).drew⟩ rfl ?_
 repeat quiet_step ((first | (go_at_call 88;exact zI _ hm _) | (go_at_call 87;exact zJ _ (ah.sum_lt _) _)))
 refine wpQuiet_nil ?_;intro x;have ov:x.val.cell? ⟨w.heap.size,0,none⟩=some (.int .u8 0):=by rw[x.low.cell (p:=⟨w.heap.size,0,none⟩) hz0];exact p0
 have sA:x.val.frozen? ⟨w.heap.size,0,none⟩=false:=by rw[x.low.frozen (p:=⟨w.heap.size,0,none⟩) hz0];exact g0
 have P1:x.val.cell? ⟨w.heap.size,1,none⟩=some (.int .i64 0):=by rw[x.low.cell (p:=⟨w.heap.size,1,none⟩) hz0];exact p1
 have sD:x.val.frozen? ⟨w.heap.size,1,none⟩=false:=by rw[x.low.frozen (p:=⟨w.heap.size,1,none⟩) hz0];exact g1
 have ow:x.val.cell? ⟨w.heap.size,2,none⟩=some (.int .i64 0):=by rw[x.low.cell (p:=⟨w.heap.size,2,none⟩) hz0];exact p2
 have sF:x.val.frozen? ⟨w.heap.size,2,none⟩=false:=by rw[x.low.frozen (p:=⟨w.heap.size,2,none⟩) hz0];exact g2
 have P3:x.val.cell? ⟨w.heap.size,3,none⟩=some (.int .i64 0):=by rw[x.low.cell (p:=⟨w.heap.size,3,none⟩) hz0];exact p3
 have sG:x.val.frozen? ⟨w.heap.size,3,none⟩=false:=by rw[x.low.frozen (p:=⟨w.heap.size,3,none⟩) hz0];exact g3
 have oA:x.val.cell? ⟨w.heap.size,4,none⟩=some (.int .i64 0):=by rw[x.low.cell (p:=⟨w.heap.size,4,none⟩) hz0];exact p4
 have sH:x.val.frozen? ⟨w.heap.size,4,none⟩=false:=by rw[x.low.frozen (p:=⟨w.heap.size,4,none⟩) hz0];exact g4
 have oB:x.val.cell? ⟨w.heap.size,5,none⟩=some (.int .i64 0):=by rw[x.low.cell (p:=⟨w.heap.size,5,none⟩) hz0];exact jP
 have sI:x.val.frozen? ⟨w.heap.size,5,none⟩=false:=by rw[x.low.frozen (p:=⟨w.heap.size,5,none⟩) hz0];exact g5
 have oC:x.val.cell? ⟨w.heap.size,6,none⟩=some (.int .i64 0):=by rw[x.low.cell (p:=⟨w.heap.size,6,none⟩) hz0];exact jQ
 have sJ:x.val.frozen? ⟨w.heap.size,6,none⟩=false:=by rw[x.low.frozen (p:=⟨w.heap.size,6,none⟩) hz0];exact g6
 have oD:x.val.cell? ⟨w.heap.size,7,none⟩=some (.int .i64 0):=by rw[x.low.cell (p:=⟨w.heap.size,7,none⟩) hz0];exact jR
 have sK:x.val.frozen? ⟨w.heap.size,7,none⟩=false:=by rw[x.low.frozen (p:=⟨w.heap.size,7,none⟩) hz0];exact g7
 have HB1:Hid (Below w.heap.size w x.val):=hb0.trans (x.low.mono hb0.size);have hz1:w.heap.size<x.val.heap.size:=Nat.lt_of_lt_of_le hz0 x.low.size;clear p0 p1 p2 p3 p4 jP jQ jR g0 g1 g2 g3 g4 g5 g6 g7 hb0 hz0;generalize x.val=w1 at *;clear x jS hm
 go_wp2_with fail
 refine(mh _ _ (by simp;omega)).mono ?_;rintro e w2 ⟨rfl,rfl⟩;rw[H1.out]
 go_wp2_with fail
 refine(mh _ _ (by simp;omega)).mono ?_;rintro e w2 ⟨rfl,rfl⟩;rw[H2.out];have I_:0<s.size:=by omega
 have Ja:1<s.size:=by omega
 have Jb:6<s.size:=by omega
 have Jc:7<s.size:=by omega
 have abj:(1:Int)<s.size:=by omega
 have abk:(6:Int)<s.size:=by have:=d8.out;omega
 have abl:(7:Int)<s.size:=by have:=d8.out;omega
 go_wp2_with fail
 obtain⟨val,iy,mj⟩:∃ val:Bool->Nat->World,(∀ n,val false n=w2.drewN n)∧(∀ n,val true n=(w2.drewN n).alloc (.cells #[.int .u8 0,.int .i64 0,.int .i64 0,.int .i64 0,.int .i64 0,.int .i64 0,.int .i64 0,.int .i64 0] 95)):=⟨fun b n=>bif b then (w2.drewN n).alloc (.cells #[.int .u8 0,.int .i64 0,.int .i64 0,.int .i64 0,.int .i64 0,.int .i64 0,.int .i64 0,.int .i64 0] 95) else w2.drewN n,fun _=>rfl,fun _=>rfl⟩;have sL:=hDq iy;have sM:=hDq mj;have hal:∀ (a:Act) n,(execOp a.eval { dst:=some 4,op:=Op.alloc 95,type:=0,pos:= "base.go:169",after:=#[],guard:=none }).run Tryz.prog (val false n)=.ok (.value (.pointer (some ⟨w2.heap.size,0,none⟩))) (val true n):=by
  intro a n;rw[iy,mj]
  kernel_rfl
 clear iy mj;refine Jd (val:=val) (p:=.pointer (some ⟨w2.heap.size,0,none⟩)) 15 rfl (by kernel_rfl) (by kernel_rfl) (by kernel_rfl) rfl (by rw[sL.out];rfl) hal ?_;clear hal;simp only[List.take_succ_cons,List.take_zero]
 repeat (refine Je (fun K hK=>?_);refine⟨by rfl,?_⟩;unfold zK;go_simp;first | (refine hK _ ?_;clear hK K) | (refine⟨_,⟨fun n=>(mh _ _ (by simp;omega)).mono (fun e w' ⟨he,hw⟩=>⟨he,n,hw⟩),fun n=>(mh _ _ (by simp;omega)).mono (fun e w' ⟨he,hw⟩=>⟨he,n,hw⟩)⟩,hK _ ?_⟩;clear hK K))
 refine Jf ?_;intro n;rw[sM.out];have zL:(w2.drewN n).cell? ⟨w.heap.size,0,none⟩=some (.int .u8 0):=by simpa using ov
 have fF:(w2.drewN n).frozen? ⟨w.heap.size,0,none⟩=false:=by simpa using sA
 have Q1:(w2.drewN n).cell? ⟨w.heap.size,1,none⟩=some (.int .i64 0):=by simpa using P1
 have F1:(w2.drewN n).frozen? ⟨w.heap.size,1,none⟩=false:=by simpa using sD
 have Q2:(w2.drewN n).cell? ⟨w.heap.size,2,none⟩=some (.int .i64 0):=by simpa using ow
 have zM:(w2.drewN n).frozen? ⟨w.heap.size,2,none⟩=false:=by simpa using sF
 have Q3:(w2.drewN n).cell? ⟨w.heap.size,3,none⟩=some (.int .i64 0):=by simpa using P3
 have zN:(w2.drewN n).frozen? ⟨w.heap.size,3,none⟩=false:=by simpa using sG
 have Q4:(w2.drewN n).cell? ⟨w.heap.size,4,none⟩=some (.int .i64 0):=by simpa using oA
 have zO:(w2.drewN n).frozen? ⟨w.heap.size,4,none⟩=false:=by simpa using sH
 have zP:(w2.drewN n).cell? ⟨w.heap.size,5,none⟩=some (.int .i64 0):=by simpa using oB
 have zQ:(w2.drewN n).frozen? ⟨w.heap.size,5,none⟩=false:=by simpa using sI
 have zR:(w2.drewN n).cell? ⟨w.heap.size,6,none⟩=some (.int .i64 0):=by simpa using oC
 have zS:(w2.drewN n).frozen? ⟨w.heap.size,6,none⟩=false:=by simpa using sJ
 have zT:(w2.drewN n).cell? ⟨w.heap.size,7,none⟩=some (.int .i64 0):=by simpa using oD
 have zU:(w2.drewN n).frozen? ⟨w.heap.size,7,none⟩=false:=by simpa using sK
 have HB2:Hid (Below w.heap.size w (w2.drewN n)):=HB1.out.trans ((below_drewN n).mono HB1.out.size);have hz2:w.heap.size<(w2.drewN n).heap.size:=by simpa using hz1
 have hsz:w2.heap.size=(w2.drewN n).heap.size:=by simp
 rw[hsz];clear ov P1 ow P3 oA oB oC oD sA sD sF sG sH sI sJ sK HB1 hz1 sL sM hsz;generalize w2.drewN n=W at *
 go_wp2_with (go_at_call 89;refine(mh _ _ (by simp;omega)).mono ?_;rintro e w' ⟨rfl,rfl⟩)
 have r0:((s[0]).toNat:Int)=(az s 0:Int):=by rw[fW s 0 I_]
 have r1:wrap64 ((s[1]).toNat:Int)=(az s 1:Int):=by rw[fW s 1 Ja,ml _ (by have:=gW s 1;omega)]
 have r6:wrap64 ((s[6]).toNat:Int)=(az s 6:Int):=by rw[fW s 6 Jb,ml _ (by have:=gW s 6;omega)]
 have oF:wrap64 ((s[7]).toNat:Int)=(az s 7:Int):=by rw[fW s 7 Jc,ml _ (by have:=gW s 7;omega)]
 have hlen:s.data.toList.length=30:=by simpa using d8.out
 have n2:dD (List.take 4 (List.drop 2 s.data.toList))=av s 2:=sx s 2 (by omega);have n8:dD (List.take 4 (List.drop 8 s.data.toList))=av s 8:=sx s 8 (by omega);have n12:dD (List.take 4 (List.drop 12 s.data.toList))=av s 12:=sx s 12 (by omega);have n16:dD (List.take 4 (List.drop 16 s.data.toList))=av s 16:=sx s 16 (by omega);rw[r0,r1,r6,oF,n2,n8,n12,n16];clear r0 r1 r6 oF n2 n8 n12 n16 hlen;have b9:Hid (Below w.heap.size w (W.alloc (.cells #[.int .u8 (az s 0),.int .i64 (az s 1),.int .i64 (av s 2),.int .i64 (az s 6),.int .i64 (az s 7),.int .i64 (av s 8),.int .i64 (av s 12),.int .i64 (av s 16)] 95))):=HB2.out.alloc HB2.out.size _;refine(Qs _ _ _ _ _ _ _ _ _).mono ?_;rintro e w3 ⟨rfl,hb3⟩;have au:Hid (Below w.heap.size w w3):=b9.out.trans (hb3.mono b9.out.size);have hz3:W.heap.size<w3.heap.size:=by have:=hb3.size;simp at this;omega
 have R0:w3.cell? ⟨w.heap.size,0,none⟩=some (.int .u8 0):=by rw[hb3.cell (p:=⟨w.heap.size,0,none⟩) (by simp;omega),World.cell?_alloc_lt _ _ ⟨w.heap.size,0,none⟩ hz2];exact zL
 have Jg:w3.frozen? ⟨w.heap.size,0,none⟩=false:=by rw[hb3.frozen (p:=⟨w.heap.size,0,none⟩) (by simp;omega),World.frozen?_alloc_old _ _ ⟨w.heap.size,0,none⟩ (Nat.ne_of_lt hz2)];exact fF
 have A0:w3.cell? ⟨W.heap.size,0,none⟩=some (.int .u8 (az s 0)):=by rw[hb3.cell (p:=⟨W.heap.size,0,none⟩) (by simp)];simp
 have cp:w3.cell? ⟨w.heap.size,1,none⟩=some (.int .i64 0):=by rw[hb3.cell (p:=⟨w.heap.size,1,none⟩) (by simp;omega),World.cell?_alloc_lt _ _ ⟨w.heap.size,1,none⟩ hz2];exact Q1
 have Jh:w3.frozen? ⟨w.heap.size,1,none⟩=false:=by rw[hb3.frozen (p:=⟨w.heap.size,1,none⟩) (by simp;omega),World.frozen?_alloc_old _ _ ⟨w.heap.size,1,none⟩ (Nat.ne_of_lt hz2)];exact F1
 have Ji:w3.cell? ⟨W.heap.size,1,none⟩=some (.int .i64 (az s 1)):=by rw[hb3.cell (p:=⟨W.heap.size,1,none⟩) (by simp)];simp
 have R2:w3.cell? ⟨w.heap.size,2,none⟩=some (.int .i64 0):=by rw[hb3.cell (p:=⟨w.heap.size,2,none⟩) (by simp;omega),World.cell?_alloc_lt _ _ ⟨w.heap.size,2,none⟩ hz2];exact Q2
 have Jj:w3.frozen? ⟨w.heap.size,2,none⟩=false:=by rw[hb3.frozen (p:=⟨w.heap.size,2,none⟩) (by simp;omega),World.frozen?_alloc_old _ _ ⟨w.heap.size,2,none⟩ (Nat.ne_of_lt hz2)];exact zM
 have A2:w3.cell? ⟨W.heap.size,2,none⟩=some (.int .i64 (av s 2)):=by rw[hb3.cell (p:=⟨W.heap.size,2,none⟩) (by simp)];simp
 have lI:w3.cell? ⟨w.heap.size,3,none⟩=some (.int .i64 0):=by rw[hb3.cell (p:=⟨w.heap.size,3,none⟩) (by simp;omega),World.cell?_alloc_lt _ _ ⟨w.heap.size,3,none⟩ hz2];exact Q3
 have Jk:w3.frozen? ⟨w.heap.size,3,none⟩=false:=by rw[hb3.frozen (p:=⟨w.heap.size,3,none⟩) (by simp;omega),World.frozen?_alloc_old _ _ ⟨w.heap.size,3,none⟩ (Nat.ne_of_lt hz2)];exact zN
 have A3:w3.cell? ⟨W.heap.size,3,none⟩=some (.int .i64 (az s 6)):=by rw[hb3.cell (p:=⟨W.heap.size,3,none⟩) (by simp)];simp
 have uR:w3.cell? ⟨w.heap.size,4,none⟩=some (.int .i64 0):=by rw[hb3.cell (p:=⟨w.heap.size,4,none⟩) (by simp;omega),World.cell?_alloc_lt _ _ ⟨w.heap.size,4,none⟩ hz2];exact Q4
 have Jl:w3.frozen? ⟨w.heap.size,4,none⟩=false:=by rw[hb3.frozen (p:=⟨w.heap.size,4,none⟩) (by simp;omega),World.frozen?_alloc_old _ _ ⟨w.heap.size,4,none⟩ (Nat.ne_of_lt hz2)];exact zO
 have Jm:w3.cell? ⟨W.heap.size,4,none⟩=some (.int .i64 (az s 7)):=by rw[hb3.cell (p:=⟨W.heap.size,4,none⟩) (by simp)];simp
 have uS:w3.cell? ⟨w.heap.size,5,none⟩=some (.int .i64 0):=by rw[hb3.cell (p:=⟨w.heap.size,5,none⟩) (by simp;omega),World.cell?_alloc_lt _ _ ⟨w.heap.size,5,none⟩ hz2];exact zP
 have Jn:w3.frozen? ⟨w.heap.size,5,none⟩=false:=by rw[hb3.frozen (p:=⟨w.heap.size,5,none⟩) (by simp;omega),World.frozen?_alloc_old _ _ ⟨w.heap.size,5,none⟩ (Nat.ne_of_lt hz2)];exact zQ
 have Jo:w3.cell? ⟨W.heap.size,5,none⟩=some (.int .i64 (av s 8)):=by rw[hb3.cell (p:=⟨W.heap.size,5,none⟩) (by simp)];simp
 have uT:w3.cell? ⟨w.heap.size,6,none⟩=some (.int .i64 0):=by rw[hb3.cell (p:=⟨w.heap.size,6,none⟩) (by simp;omega),World.cell?_alloc_lt _ _ ⟨w.heap.size,6,none⟩ hz2];exact zR
 have Jp:w3.frozen? ⟨w.heap.size,6,none⟩=false:=by rw[hb3.frozen (p:=⟨w.heap.size,6,none⟩) (by simp;omega),World.frozen?_alloc_old _ _ ⟨w.heap.size,6,none⟩ (Nat.ne_of_lt hz2)];exact zS
 have Jq:w3.cell? ⟨W.heap.size,6,none⟩=some (.int .i64 (av s 12)):=by rw[hb3.cell (p:=⟨W.heap.size,6,none⟩) (by simp)];simp
 have uU:w3.cell? ⟨w.heap.size,7,none⟩=some (.int .i64 0):=by rw[hb3.cell (p:=⟨w.heap.size,7,none⟩) (by simp;omega),World.cell?_alloc_lt _ _ ⟨w.heap.size,7,none⟩ hz2];exact zT
 have Jr:w3.frozen? ⟨w.heap.size,7,none⟩=false:=by rw[hb3.frozen (p:=⟨w.heap.size,7,none⟩) (by simp;omega),World.frozen?_alloc_old _ _ ⟨w.heap.size,7,none⟩ (Nat.ne_of_lt hz2)];exact zU
 have Js:w3.cell? ⟨W.heap.size,7,none⟩=some (.int .i64 (av s 16)):=by rw[hb3.cell (p:=⟨W.heap.size,7,none⟩) (by simp)];simp
 clear hb3 zL Q1 Q2 Q3 Q4 zP zR zT fF F1 zM zN zO zQ zS zU;rw[hc.out];go_wp2;refine bodyPost_ret (v:=.tuple #[ft,.int .i64 e0]) (by simp[results,Tryz.results48,go_sem,ft,R0,cp,R2,lI,uR,uS,uT,uU]) rfl ⟨rfl,?_⟩
 iterate 8 refine Below.setCell (p:=⟨w.heap.size,_,none⟩) ?_ (lRq w.heap.size) _
 exact au.out
end Go.Proofs.YtjolccidheflpaaGreatDoor
namespace Go.Proofs.YtjolccidheflpaaGreatDoor
set_option maxHeartbeats 8000000
open Go.RowKit
theorem aa9 (s:ByteArray) (h:s.size=30):(s.extract 26 s.size).data.toList=[s.data.toList.getD 26 0,s.data.toList.getD 27 0,s.data.toList.getD 28 0,s.data.toList.getD 29 0]:=by
 have hl:s.data.toList.length=30:=by simpa using h
 have d:∀ j (hj:j<s.data.toList.length),s.data.toList.getD j 0=s.data.toList[j]:=fun j hj=>by
  rw[gE,List.getElem?_eq_getElem hj];rfl
 have e:(s.extract 26 s.size).data.toList=s.data.toList.drop 26:=by
  rw[h];simp;rw[List.take_of_length_le (by simp;omega)]
 rw[e,List.drop_eq_getElem_cons (by omega),List.drop_eq_getElem_cons (by omega),List.drop_eq_getElem_cons (by omega),List.drop_eq_getElem_cons (by omega),d 26 (by omega),d 27 (by omega),d 28 (by omega),d 29 (by omega),List.drop_of_length_le (by omega)]
theorem aba (s:ByteArray) (h:s.size=30) (z:Nat) (hz:z<4294967296):((strOfNums (ah.low z)).toList==(s.extract 26 s.size).toList)=decide (dm s 26=z):=by
 rw[ByteArray.toList_eq,ByteArray.toList_eq,aa9 s h];have e:(strOfNums (ah.low z)).data.toList=[UInt8.ofNat (z%256),UInt8.ofNat (z/256%256),UInt8.ofNat (z/65536%256),UInt8.ofNat (z/16777216%256)]:=by
  simp only[strOfNums,ah.low,List.map_cons,List.map_nil];rw[show ((z:Int)%256).toNat=z%256 by omega,show ((z:Int)/256%256).toNat=z/256%256 by omega,show ((z:Int)/65536%256).toNat=z/65536%256 by omega,show ((z:Int)/16777216%256).toNat=z/16777216%256 by omega]
 rw[e];have key:∀ (b:UInt8) (y:Nat),y<256->(UInt8.ofNat y=b↔y=b.toNat):=by
  intro b y hy;constructor
  ·intro h;rw[<- h,UInt8.toNat_ofNat'];omega
  ·intro h;apply UInt8.toNat_inj.1;rw[UInt8.toNat_ofNat'];omega
 have b0:=UInt8.toNat_lt (s.data.toList.getD 26 0);have b1:=UInt8.toNat_lt (s.data.toList.getD 27 0);have b2:=UInt8.toNat_lt (s.data.toList.getD 28 0);have b3:=UInt8.toNat_lt (s.data.toList.getD 29 0);rw[Bool.eq_iff_iff];simp only[beq_iff_eq,List.cons.injEq,and_true,decide_eq_true_eq];rw[key _ _ (by omega),key _ _ (by omega),key _ _ (by omega),key _ _ (by omega)];unfold dm az;simp only[Nat.reduceAdd];omega
theorem I8:∀ (l:List UInt8) (n:Nat),l.foldl (fun n b=>256*n+b.toNat) n=0↔n=0∧∀ b∈l,b=0
 | [],n=>by simp
 | b::l,n=>by
  rw[List.foldl_cons,I8 l];constructor
  ·rintro⟨h1,h2⟩
   refine⟨by omega,fun c hc=>?_⟩;rcases List.mem_cons.1 hc with rfl | hc
   ·apply UInt8.toNat_inj.1;show c.toNat=0;omega
   ·exact h2 c hc
  ·rintro⟨rfl,h2⟩
   have:=h2 b (by simp)
   subst this;exact⟨rfl,fun c hc=>h2 c (by simp[hc])⟩
theorem Qt (s:ByteArray) (h:s.size=30):(s.extract 20 26).toList=[0,0,0,0,0,0]↔dD (s.extract 20 23).data.toList=0∧dD (s.extract 23 26).data.toList=0:=by
 have hl:s.data.toList.length=30:=by simpa using h
 have e:(s.extract 20 26).data.toList=(s.extract 20 23).data.toList++(s.extract 23 26).data.toList:=by
  simp;rw[show List.drop 23 s.data.toList=List.drop 3 (List.drop 20 s.data.toList) by rw[List.drop_drop]];rw[show (6:Nat)=3+3 from rfl,List.take_add]
 have l1:(s.extract 20 23).data.toList.length=3:=by simp;omega
 have l2:(s.extract 23 26).data.toList.length=3:=by simp;omega
 rw[ByteArray.toList_eq,e];unfold dD;rw[I8,I8];constructor
 ·intro hx
  have hm:∀ b∈(s.extract 20 23).data.toList++(s.extract 23 26).data.toList,b=0:=by rw[hx];simp
  exact⟨⟨rfl,fun b hb=>hm b (List.mem_append_left _ hb)⟩,rfl,fun b hb=>hm b (List.mem_append_right _ hb)⟩
 ·rintro⟨⟨_,h1⟩,_,h2⟩
  have r1:=List.eq_replicate_iff.2 ⟨l1,h1⟩;have r2:=List.eq_replicate_iff.2 ⟨l2,h2⟩;rw[r1,r2];rfl
theorem Qu (s:ByteArray) (w:World):Calls Tryz.prog 48 #[.string s] w fun e w'=>e=.returned (.tuple #[kS s,.int .i64 (bM s)])∧Below w.heap.size w w':=by
 by_cases h1:s.size=30
 ·have t1:((s.size:Int) != 30)=false:=by simp;omega
  have hsum:=aba s h1 (ah.sum (s.data.toList.take 26)) (ah.sum_lt _);by_cases h2:dm s 26=ah.sum (s.data.toList.take 26)
  ·rw[decide_eq_true h2]at hsum
   by_cases h3:(s.extract 20 26).toList=[0,0,0,0,0,0]
   ·obtain⟨cK,z2⟩:=(Qt s h1).1 h3
    have hd:bM s=ah.code (az s 0) (az s 1) (av s 2) (az s 6) (az s 7) (av s 8) (av s 12) (av s 16):=by simp[bM,h1,h2,h3]
    by_cases h4:bM s=0
    ·rw[kS,if_pos h4,h4]
     exact abb s w t1 hsum cK z2 (by rw[<- hd,h4];exact rfl)
    ·rw[kS,if_neg h4]
     exact abd s w t1 hsum cK z2 (bM s) (by omega) hd.symm
   ·have hd:bM s=3:=by simp[bM,h1,h2,h3]
    rw[kS,hd];by_cases cK:dD (s.extract 20 23).data.toList=0
    ·have z2:0<dD (s.extract 23 26).data.toList:=by
      rcases Nat.eq_zero_or_pos (dD (s.extract 23 26).data.toList) with h | h
      ·exact absurd ((Qt s h1).2 ⟨cK,h⟩) h3
      ·exact h
     exact abe s w t1 hsum cK z2
    ·exact abf s w t1 hsum (by omega)
  ·rw[decide_eq_false h2]at hsum
   have hd:bM s=5:=by simp[bM,h1,h2]
   rw[kS,hd];exact abg s w t1 hsum
 ·have t1:((s.size:Int) != 30)=true:=by simp;omega
  have hd:bM s=1:=by simp[bM,h1]
  rw[kS,hd];exact abh s w t1
end Go.Proofs.YtjolccidheflpaaGreatDoor
