/- No program: a number's digits are read back; a text cut at a byte; the bytes of a record. -/
import Derived.Test.YtjolccidheflpaaGreatDoorV39
import Derived.Test.YtjolccidheflpaaGreatDoorV14
import Derived.Test.YtjolccidheflpaaGreatDoorV38
import Derived.Test.YtjolccidheflpaaGreatDoorV32
import Derived.Lib.IndexMore
namespace Go.Proofs.YtjolccidheflpaaGreatDoor
set_option maxHeartbeats 8000000
open Go.RowKit
set_option maxRecDepth 100000
theorem YQ (d:Nat) (h:d<10):Lib.digitVal (UInt8.ofNat (48+d))=some d:=by
 have:∀ i:Fin 10,Lib.digitVal (UInt8.ofNat (48+i.val))=some i.val:=by decide +kernel
 exact this ⟨d,h⟩
theorem YR (b:UInt8) (d:Nat) (hb:Lib.digitVal b=some d):∀ (l:List UInt8) (a n:Nat),Lib.decFrom a l=some n->Lib.decFrom a (l++[b])=some (n*10+d)
 | [],a,n,h=>by
  simp only[Lib.decFrom,Option.some.injEq]at h;subst h;simp[Lib.decFrom,hb]
 | x::l,a,n,h=>by
  simp only[Lib.decFrom,List.cons_append]at h ⊢;cases hx:Lib.digitVal x with
  | none=>simp[hx]at h
  | some y=>simp only[hx]at h ⊢;exact YR b d hb l _ n h
theorem YS (n:Nat):Lib.decFrom 0 (Lib.decDigits n)=some n:=by
 induction n using Nat.strongRecOn with
 | _ n ih =>
  rw[Lib.decDigits];split
  ·rename_i h;rw[Lib.decFrom,YQ n h];simp[Lib.decFrom]
  ·rename_i h
   rw[YR _ (n%10) (YQ _ (by omega)) _ 0 (n/10) (ih (n/10) (by omega))];congr 1;omega
theorem Dg (n:Nat):∀ b∈Lib.decDigits n,48<=b.toNat∧b.toNat<=57:=by
 have key:∀ d,d<10->48<=(UInt8.ofNat (48+d)).toNat∧(UInt8.ofNat (48+d)).toNat<=57:=fun d hd=>by
  have:∀ i:Fin 10,48<=(UInt8.ofNat (48+i.val)).toNat∧(UInt8.ofNat (48+i.val)).toNat<=57:=by decide +kernel
  exact this ⟨d,hd⟩
 induction n using Nat.strongRecOn with
 | _ n ih =>
  intro b hb;rw[Lib.decDigits]at hb;split at hb
  ·rename_i h;rw[List.mem_singleton.1 hb];exact key n h
  ·rename_i h
   rcases List.mem_append.1 hb with h1 | h1
   ·exact ih _ (by omega) b h1
   ·rw[List.mem_singleton.1 h1];exact key _ (by omega)
theorem Iy (n:Nat):Lib.decDigits n≠[]:=by
 rw[Lib.decDigits];split <;> simp
theorem Iz:∀ (k n:Nat),n<10 ^ (k+1)->(Lib.decDigits n).length<=k+1
 | 0,n,h=>by rw[Lib.decDigits,dif_pos (by omega)];simp
 | k+1,n,h=>by
  rw[Lib.decDigits];split
  ·simp
  ·have:=Iz k (n/10) (by rw[Nat.pow_succ]at h;omega)
   simp;omega
theorem alE (n:Nat):Lib.atoi (Lib.decDigits n)=some (n:Int):=by
 have h1:=YS n;have h2:=Dg n;cases hd:Lib.decDigits n with
 | nil=>exact absurd hd (Iy n)
 | cons b r =>
  have hb:=h2 b (by rw[hd];exact mSq);have e1:(b==45)=false:=by
   cases h:b==45
   ·rfl
   ·have:b=45:=by simpa using h
    subst this;exact absurd hb.1 (by decide)
  have e2:(b==43)=false:=by
   cases h:b==43
   ·rfl
   ·have:b=43:=by simpa using h
    subst this;exact absurd hb.1 (by decide)
  rw[Lib.atoi,e1,e2];simp only[Bool.false_eq_true,if_false];rw[hd]at h1;rw[Lib.decNat,h1];simp
theorem Pf (n:Nat):Lib.itoa (n:Int)=Lib.decDigits n:=by unfold Lib.itoa;rw[if_neg (by omega)];simp
theorem Pg (k n:Nat) (h:n<10 ^ (k+1)):dX (k+1) (ai (Lib.decDigits n))=some n:=by
 have hl:=Iz k n h;have e:(ai (Lib.decDigits n)).size=(Lib.decDigits n).length:=by simp[ai,ByteArray.size]
 rw[dX,if_neg (by rw[e];omega)];have:(ai (Lib.decDigits n)).data.toList=Lib.decDigits n:=by simp[ai]
 rw[this,alE];simp only[];rw[if_neg (by omega),Pf];show (if (⟨(Lib.decDigits n).toArray⟩:ByteArray)=⟨(Lib.decDigits n).toArray⟩ then some (n:Int).toNat else none)=_;rw[if_pos rfl];rfl
theorem index_first (c:UInt8):∀ (a r:List UInt8),(∀ b∈a,b≠c)->Lib.index (a++c::r) [c]=a.length
 | [],r,_=>by simp[Lib.index,List.isPrefixOf]
 | x::a,r,h=>by
  have hx:(c==x)=false:=by
   cases hb:c==x
   ·rfl
   ·exact absurd (by simpa using hb:c=x).symm (h x mSq)
  have ih:=index_first c a r (fun b hb=>h b (mOq _ hb));rw[List.cons_append,Lib.index,ih];simp[List.isPrefixOf,hx]
theorem index_none (c:UInt8):∀ (a:List UInt8),(∀ b∈a,b≠c)->Lib.index a [c] = -1
 | [],_=>by simp[Lib.index]
 | x::a,h=>by
  have hx:(c==x)=false:=by
   cases hb:c==x
   ·rfl
   ·exact absurd (by simpa using hb:c=x).symm (h x mSq)
  rw[Lib.index,index_none c a (fun b hb=>h b (mOq _ hb))];simp[List.isPrefixOf,hx]
theorem xd (c:UInt8) (a r:List UInt8) (h:∀ b∈a,b≠c):Lib.cut (a++c::r) [c]=(a,r,true):=by
 unfold Lib.cut;rw[index_first c a r h,if_pos (by omega)];simp
theorem xe (c:UInt8) (a:List UInt8) (h:∀ b∈a,b≠c):Lib.cut a [c]=(a,[],false):=by
 unfold Lib.cut;rw[index_none c a h,if_neg (by omega)]
theorem zu (c:UInt8):∀ (a r:List UInt8),(∀ b∈a,b≠c)->pieces c (a++c::r)=a::pieces c r
 | [],r,_=>by simp[pieces]
 | x::a,r,h=>by
  have hx:(x==c)=false:=by simpa using h x mSq
  rw[List.cons_append,pieces,zu c a r (fun b hb=>h b (mOq _ hb)),hx];simp
theorem Dh (c:UInt8):∀ (a:List UInt8),(∀ b∈a,b≠c)->pieces c a=[a]
 | [],_=>rfl
 | x::a,h=>by
  have hx:(x==c)=false:=by simpa using h x mSq
  rw[pieces,Dh c a (fun b hb=>h b (mOq _ hb)),hx];simp
def eG (c:UInt8):List (List UInt8)->List UInt8
 | []=>[]
 | a::l=>a++l.flatMap (fun x=>c::x)
theorem Ph (c:UInt8):∀ (a:List UInt8) (l:List (List UInt8)),(∀ x∈a::l,∀ b∈x,b≠c)->pieces c (eG c (a::l))=a::l
 | a,[],h=>by
  simp only[eG,List.flatMap_nil,List.append_nil];exact Dh c a (h a mSq)
 | a,x::l,h=>by
  have ih:=Ph c x l (fun y hy=>h y (mOq _ hy));simp only[eG,List.flatMap_cons,List.cons_append]at ih ⊢;rw[zu c a _ (h a mSq),ih]
def ik (xs:List Int):List UInt8:=xs.map fun n=>UInt8.ofNat n.toNat
theorem Pb (xs:List Int):(strOfNums xs).data.toList=ik xs:=by simp[strOfNums,ik]
theorem lC (a b:List Int):ik (a++b)=ik a++ik b:=List.map_append
theorem YT (n:Int):ik (af.dec n)=Lib.itoa n:=by
 unfold ik af.dec;rw[List.map_map];have:((fun n:Int=>UInt8.ofNat n.toNat) ∘ fun b:UInt8=>(b.toNat:Int))=id:=by
  funext b;simp
 rw[this,List.map_id]
theorem YU:∀ x,x<16->UInt8.ofNat (af.rU x).toNat=gI x:=by
 have:∀ i:Fin 16,UInt8.ofNat (af.rU i.val).toNat=gI i.val:=by decide +kernel
 exact fun x h=>this ⟨x,h⟩
theorem YV (s:ByteArray):∀ k,k<=s.size->ik (af.lA s k)=dH (s.data.toList.take k)
 | 0,_=>rfl
 | k+1,h=>by
  have hk:k<s.data.toList.length:=by rw[Array.length_toList];exact h
  have hlt:az s k<256:=by unfold az;exact UInt8.toNat_lt _
  have e:s.data.toList.take (k+1)=s.data.toList.take k++[s.data.toList[k]]:=by rw[List.take_add_one,List.getElem?_eq_getElem hk];rfl
  have e2:(s.data.toList[k]).toNat=az s k:=by unfold az;rw[gE,List.getElem?_eq_getElem hk];rfl
  rw[af.lA,lC,YV s k (by omega),e];unfold dH;rw[List.flatMap_append];congr 1;simp only[List.flatMap_cons,List.flatMap_nil,List.append_nil,e2,ik,List.map_cons,List.map_nil];rw[YU _ (by omega),YU _ (by omega)]
theorem YW (c:UInt8) (l:List (List UInt8)) (x:List UInt8):eG c (l++[x])=eG c l++((if 0<l.length then [c] else [])++x):=by
 cases l with
 | nil=>simp[eG]
 | cons a l=>simp[eG]
theorem YX (ds:List Nat):∀ k,k<=ds.length->ik (af.lB ds k)=eG 44 ((ds.take k).map Lib.decDigits)
 | 0,_=>rfl
 | k+1,h=>by
  have hk:k<ds.length:=h;have e:ds.take (k+1)=ds.take k++[ds.getD k 0]:=by rw[List.take_add_one,List.getElem?_eq_getElem hk,gE,List.getElem?_eq_getElem hk];rfl
  rw[af.lB,lC,lC,YX ds k (by omega),YT,Pf,e,List.map_append,List.map_singleton,YW];congr 2;rw[List.length_map,lKq,Nat.min_eq_left (by omega)];split <;> rfl
theorem YY (l:List Ask):∀ k,k<=l.length->ik (af.ng l k)=(l.take k).flatMap fun a=>32::dH (af.cQ a).data.toList
 | 0,_=>rfl
 | k+1,h=>by
  have hk:k<l.length:=h;have e:l.take (k+1)=l.take k++[cg l k]:=by rw[List.take_add_one,MN hk];rfl
  rw[af.ng,lC,lC,YY l k (by omega),YV _ _ (lRq _),e,List.flatMap_append];congr 1;simp only[List.flatMap_cons,List.flatMap_nil,List.append_nil];rw[List.take_of_length_le (by rw[Array.length_toList];exact lRq _)];rfl
theorem YZ (bt:Nat) (ds:List Nat) (l:List Ask):(af.eQ bt ds l).data.toList=Lib.decDigits bt++58::(eG 44 (ds.map Lib.decDigits)++l.flatMap fun a=>32::dH (af.cQ a).data.toList):=by
 unfold af.eQ af.HZ;rw[Pb,lC,lC,lC,YT,Pf,YX ds _ (lRq _),YY l _ (lRq _),List.take_length,List.take_length];show (Lib.decDigits bt++[58]++_)++_=_;simp
def bW:List (List UInt8)->Option (List (List UInt8))
 | []=>some []
 | p::ps=>match unhex p with
  | none=>none
  | some x=>(bW ps).map (x :: ·)
theorem Y0:∀ l:List (List UInt8),bW (l.map dH)=some l
 | []=>rfl
 | x::l=>by simp[bW,Y1,Y0 l]
def dY (s:ByteArray):Option (Nat×List Nat×List (List UInt8)) :=
 let h:=Lib.cut s.data.toList [58]
 let t:=Lib.cut h.2.1 [32]
 if h.2.2=true then
  match dX 9 (ai h.1),iY (ai t.1) with
  | some n,some ds=>if t.2.2=true then (bW (pieces 32 t.2.1)).map fun fs=>(n,ds,fs) else some (n,ds,[])
  | _,_=>none
 else none
theorem alF (l:List UInt8):∀ b∈dH l,48<=b.toNat:=by
 have key:∀ i:Fin 16,48<=(gI i.val).toNat:=by decide +kernel
 intro b hb;obtain⟨x,_,hx⟩:=List.mem_flatMap.1 hb;have hlt:=x.toNat_lt;simp only[List.mem_cons,List.not_mem_nil,or_false]at hx;rcases hx with rfl | rfl
 ·exact key ⟨x.toNat/16,by omega⟩
 ·exact key ⟨x.toNat%16,by omega⟩
theorem IA {b c:UInt8} (h:b.toNat≠c.toNat):b≠c:=fun e=>h (by rw[e])
theorem alG (ds:List Nat):∀ b∈eG 44 (ds.map Lib.decDigits),44<=b.toNat:=by
 cases ds with
 | nil=>intro b hb;cases hb
 | cons d ds =>
  intro b hb;rcases List.mem_append.1 hb with h1 | h1
  ·have:=Dg d b h1;omega
  ·obtain⟨x,hx,hbx⟩:=List.mem_flatMap.1 h1
   obtain⟨n,_,rfl⟩:=List.mem_map.1 hx;rcases List.mem_cons.1 hbx with rfl | h2
   ·decide
   ·have:=Dg n b h2;omega
theorem Y2:∀ (ds:List Nat) (last:Int),ds.Pairwise (· < ·)->(∀ d∈ds,d<6)->(∀ d∈ds,last<(d:Int))->gz last (ds.map fun d=>ai (Lib.decDigits d))=some ds
 | [],_,_,_,_=>rfl
 | d::ds,last,hp,h6,hl=>by
  obtain⟨h1,h2⟩:=List.pairwise_cons.1 hp;have hd:=h6 d mSq;have e1:dX 9 (ai (Lib.decDigits d))=some d:=Pg 8 d (by omega);have ih:=Y2 ds d h2 (fun x hx=>h6 x (mOq _ hx)) (fun x hx=>by have:=h1 x hx;omega);simp only[List.map_cons,gz,e1];rw[if_pos ⟨by omega,hl d mSq⟩,ih];rfl
theorem alH (ds:List Nat) (hp:ds.Pairwise (· < ·)) (h6:∀ d∈ds,d<6):iY (ai (eG 44 (ds.map Lib.decDigits)))=some ds:=by
 cases ds with
 | nil=>rfl
 | cons d ds =>
  have hne:(ai (eG 44 ((d::ds).map Lib.decDigits))).size≠0:=by
   have:=Iy d
   have h2:0<(Lib.decDigits d).length:=List.length_pos_iff.2 this;show (eG 44 ((d::ds).map Lib.decDigits)).toArray.size≠0;simp only[List.map_cons,eG,List.size_toArray,List.length_append];omega
  rw[iY,if_neg hne];show gz (-1) ((pieces 44 (eG 44 ((d::ds).map Lib.decDigits))).map ai)=_;rw[List.map_cons,Ph 44 _ _ (fun x hx b hb=>?_),<- List.map_cons,List.map_map]
  ·exact Y2 (d::ds) (-1) hp h6 (fun x _=>by omega)
  ·rw[<- List.map_cons]at hx
   obtain⟨n,_,rfl⟩:=List.mem_map.1 hx
   have:=Dg n b hb
   exact IA (by show b.toNat≠44;omega)
theorem alI (bt:Nat) (b:af.eH) (hb:af.qA b) (hn:bt<1000000000):dY (af.eQ bt b.ds b.l)=some (bt,b.ds,b.l.map fun a=>(af.cQ a).data.toList):=by
 obtain⟨ds,l⟩:=b;have hr:=alH ds hb.Y3 hb.few;have oq:dX 9 (ai (Lib.decDigits bt))=some bt:=Pg 8 bt hn;have xg:∀ x∈Lib.decDigits bt,x≠58:=fun x hx=>by have:=Dg bt x hx;exact IA (by show x.toNat≠58;omega)
 have pE:∀ x∈eG 44 (ds.map Lib.decDigits),x≠32:=fun x hx=>by have:=alG ds x hx;exact IA (by show x.toNat≠32;omega)
 unfold dY;rw[YZ,xd 58 _ _ xg];simp only[];cases l with
 | nil =>
  rw[List.flatMap_nil,aNq,xe 32 _ pE];simp only[oq,hr];rfl
 | cons a l =>
  rw[List.flatMap_cons,List.cons_append,xd 32 _ _ pE];simp only[oq,hr];have e:dH (af.cQ a).data.toList++l.flatMap (fun a=>32::dH (af.cQ a).data.toList)=eG 32 (dH (af.cQ a).data.toList::(l.map fun a=>dH (af.cQ a).data.toList)):=by
   simp only[eG,List.flatMap_map]
  rw[e,Ph 32 _ _ (fun x hx b hb=>?_)]
  ·have e2:dH (af.cQ a).data.toList::(l.map fun a=>dH (af.cQ a).data.toList)=((a::l).map fun a=>(af.cQ a).data.toList).map dH:=by simp
   rw[e2,Y0];rfl
  ·have hx':∃ y,x=dH y:=by
    rcases List.mem_cons.1 hx with rfl | h1
    ·exact⟨_,rfl⟩
    ·obtain⟨y,_,rfl⟩:=List.mem_map.1 h1;exact⟨_,rfl⟩
   obtain⟨y,rfl⟩:=hx'
   have:=alF y b hb
   exact IA (by show b.toNat≠32;omega)
theorem YL {a:Ask} (h:jm.ac a=0):bM (af.cQ a)=0∧af.bq (af.cQ a)=a:=by
 have hc:ah.code a.k a.c a.sq a.it a.sd a.pr a.q a.id=0:=h;have e:af.cQ a=strOfNums (ah.frame a.k a.c a.sq a.it a.sd a.pr a.q a.id):=by unfold af.cQ p9;rw[if_pos hc]
 obtain⟨h1,h2⟩:=WY hc;rw[<- e]at h1 h2;refine⟨h1,?_⟩;unfold nk at h2;simp only[Value.agg.injEq,Array.mk.injEq,List.cons.injEq,Value.int.injEq,true_and,and_true]at h2;obtain⟨e0,e1,e2,e3,e4,e5,e6,e7⟩:=h2;unfold af.bq fj;simp only[h1,if_true,e0,e1,e2,e3,e4,e5,e6,e7]
end Go.Proofs.YtjolccidheflpaaGreatDoor
