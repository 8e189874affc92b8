/- Own. -/
import Derived.Test.YtjolccidheflpaaGreatDoorU39
import Derived.Test.YtjolccidheflpaaGreatDoorU14
import Derived.Test.YtjolccidheflpaaGreatDoorU38
import Derived.Test.YtjolccidheflpaaGreatDoorU32
import Derived.Lib.IndexMore
namespace Go.Proofs.YtjolccidheflpaaGreatDoor
set_option maxHeartbeats 8000000
open Go.RowKit
set_option maxRecDepth 100000
theorem YY (d:Nat) (h:d<10):Lib.digitVal (UInt8.ofNat (48+d))=some d:=by
 have:∀ i:Fin 10,Lib.digitVal (UInt8.ofNat (48+i.val))=some i.val:=by decide +kernel
 exact this ⟨d,h⟩
theorem YZ (b:UInt8) (d:Nat) (hb:Lib.digitVal b=some d):∀ (l:List UInt8) (a n:Nat),Lib.decFrom a l=some n->Lib.decFrom a (l++[b])=some (n*10+d)
 | [],a,n,h=>by
  simp only[Lib.decFrom,Option.some.injEq]at h;subst h;simp[Lib.decFrom,hb]
 | x::l,a,n,h=>by
  simp only[Lib.decFrom,List.cons_append]at h ⊢;cases hx:Lib.digitVal x with
  | none=>simp[hx]at h
  | some y=>simp only[hx]at h ⊢;exact YZ b d hb l _ n h
theorem alG (n:Nat):Lib.decFrom 0 (Lib.decDigits n)=some n:=by
 induction n using Nat.strongRecOn with
 | _ n ih =>
  rw[Lib.decDigits];split
  ·rename_i h;rw[Lib.decFrom,YY n h];simp[Lib.decFrom]
  ·rename_i h
   rw[YZ _ (n%10) (YY _ (by omega)) _ 0 (n/10) (ih (n/10) (by omega))];congr 1;omega
theorem De (n:Nat):∀ b∈Lib.decDigits n,48<=b.toNat/\b.toNat<=57:=by
 have key:∀ d,d<10->48<=(UInt8.ofNat (48+d)).toNat/\(UInt8.ofNat (48+d)).toNat<=57:=fun d hd=>by
  have:∀ i:Fin 10,48<=(UInt8.ofNat (48+i.val)).toNat/\(UInt8.ofNat (48+i.val)).toNat<=57:=by decide +kernel
  exact this ⟨d,hd⟩
 induction n using Nat.strongRecOn with
 | _ n ih =>
  intro b hb;rw[Lib.decDigits]at hb;split at hb
  ·rename_i h;rw[List.mem_singleton.1 hb];exact key n h
  ·rename_i h
   rcases List.mem_append.1 hb with h1 | h1
   ·exact ih _ (by omega) b h1
   ·rw[List.mem_singleton.1 h1];exact key _ (by omega)
theorem Y0 (n:Nat):Lib.decDigits n≠[]:=by
 rw[Lib.decDigits];split <;> simp
theorem Y1:∀ (k n:Nat),n<10 ^ (k+1)->(Lib.decDigits n).length<=k+1
 | 0,n,h=>by rw[Lib.decDigits,dif_pos (by omega)];simp
 | k+1,n,h=>by
  rw[Lib.decDigits];split
  ·simp
  ·have:=Y1 k (n/10) (by rw[Nat.pow_succ]at h;omega)
   simp;omega
theorem alH (n:Nat):Lib.atoi (Lib.decDigits n)=some (n:Int):=by
 have h1:=alG n;have h2:=De n;cases hd:Lib.decDigits n with
 | nil=>exact absurd hd (Y0 n)
 | cons b r =>
  have hb:=h2 b (by rw[hd];exact mSq);have e1:(b==45)=false:=by
   cases h:b==45
   ·rfl
   ·have:b=45:=by simpa using h
    subst this;exact absurd hb.1 (by decide)
  have e2:(b==43)=false:=by
   cases h:b==43
   ·rfl
   ·have:b=43:=by simpa using h
    subst this;exact absurd hb.1 (by decide)
  rw[Lib.atoi,e1,e2];simp only[Bool.false_eq_true,if_false];rw[hd]at h1;rw[Lib.decNat,h1];simp
theorem O_ (n:Nat):Lib.itoa (n:Int)=Lib.decDigits n:=by unfold Lib.itoa;rw[if_neg (by omega)];simp
theorem Y2 (k n:Nat) (h:n<10 ^ (k+1)):gF (k+1) (bn (Lib.decDigits n))=some n:=by
 have hl:=Y1 k n h;have e:(bn (Lib.decDigits n)).size=(Lib.decDigits n).length:=by simp[bn,ByteArray.size]
 rw[gF,if_neg (by rw[e];omega)];have:(bn (Lib.decDigits n)).data.toList=Lib.decDigits n:=by simp[bn]
 rw[this,alH];simp only[];rw[if_neg (by omega),O_];show (if (⟨(Lib.decDigits n).toArray⟩:ByteArray)=⟨(Lib.decDigits n).toArray⟩ then some (n:Int).toNat else none)=_;rw[if_pos rfl];rfl
theorem index_first (c:UInt8):∀ (a r:List UInt8),(∀ b∈a,b≠c)->Lib.index (a++c::r) [c]=a.length
 | [],r,_=>by simp[Lib.index,List.isPrefixOf]
 | x::a,r,h=>by
  have hx:(c==x)=false:=by
   cases hb:c==x
   ·rfl
   ·exact absurd (by simpa using hb:c=x).symm (h x mSq)
  have ih:=index_first c a r (fun b hb=>h b (mOq _ hb));rw[List.cons_append,Lib.index,ih];simp[List.isPrefixOf,hx]
theorem index_none (c:UInt8):∀ (a:List UInt8),(∀ b∈a,b≠c)->Lib.index a [c] = -1
 | [],_=>by simp[Lib.index]
 | x::a,h=>by
  have hx:(c==x)=false:=by
   cases hb:c==x
   ·rfl
   ·exact absurd (by simpa using hb:c=x).symm (h x mSq)
  rw[Lib.index,index_none c a (fun b hb=>h b (mOq _ hb))];simp[List.isPrefixOf,hx]
theorem Y3 (c:UInt8) (a r:List UInt8) (h:∀ b∈a,b≠c):Lib.cut (a++c::r) [c]=(a,r,true):=by
 unfold Lib.cut;rw[index_first c a r h,if_pos (by omega)];simp
theorem alI (c:UInt8) (a:List UInt8) (h:∀ b∈a,b≠c):Lib.cut a [c]=(a,[],false):=by
 unfold Lib.cut;rw[index_none c a h,if_neg (by omega)]
theorem Y4 (c:UInt8):∀ (a r:List UInt8),(∀ b∈a,b≠c)->pieces c (a++c::r)=a::pieces c r
 | [],r,_=>by simp[pieces]
 | x::a,r,h=>by
  have hx:(x==c)=false:=by simpa using h x mSq
  rw[List.cons_append,pieces,Y4 c a r (fun b hb=>h b (mOq _ hb)),hx];simp
theorem Y5 (c:UInt8):∀ (a:List UInt8),(∀ b∈a,b≠c)->pieces c a=[a]
 | [],_=>rfl
 | x::a,h=>by
  have hx:(x==c)=false:=by simpa using h x mSq
  rw[pieces,Y5 c a (fun b hb=>h b (mOq _ hb)),hx];simp
def jV (c:UInt8):List (List UInt8)->List UInt8
 | []=>[]
 | a::l=>a++l.flatMap (fun x=>c::x)
theorem Pb (c:UInt8):∀ (a:List UInt8) (l:List (List UInt8)),(∀ x∈a::l,∀ b∈x,b≠c)->pieces c (jV c (a::l))=a::l
 | a,[],h=>by
  simp only[jV,List.flatMap_nil,List.append_nil];exact Y5 c a (h a mSq)
 | a,x::l,h=>by
  have ih:=Pb c x l (fun y hy=>h y (mOq _ hy));simp only[jV,List.flatMap_cons,List.cons_append]at ih ⊢;rw[Y4 c a _ (h a mSq),ih]
def pX (xs:List Int):List UInt8:=xs.map fun n=>UInt8.ofNat n.toNat
theorem alJ (xs:List Int):(strOfNums xs).data.toList=pX xs:=by simp[strOfNums,pX]
theorem vn (a b:List Int):pX (a++b)=pX a++pX b:=List.map_append
theorem Y6 (n:Int):pX (af.dec n)=Lib.itoa n:=by
 unfold pX af.dec;rw[List.map_map];have:((fun n:Int=>UInt8.ofNat n.toNat) ∘ fun b:UInt8=>(b.toNat:Int))=id:=by
  funext b;simp
 rw[this,List.map_id]
theorem Y7:∀ x,x<16->UInt8.ofNat (af.sQ x).toNat=sZ x:=by
 have:∀ i:Fin 16,UInt8.ofNat (af.sQ i.val).toNat=sZ i.val:=by decide +kernel
 exact fun x h=>this ⟨x,h⟩
theorem Y8 (s:ByteArray):∀ k,k<=s.size->pX (af.lB s k)=kW (s.data.toList.take k)
 | 0,_=>rfl
 | k+1,h=>by
  have hk:k<s.data.toList.length:=by rw[Array.length_toList];exact h
  have hlt:aL s k<256:=by unfold aL;exact UInt8.toNat_lt _
  have e:s.data.toList.take (k+1)=s.data.toList.take k++[s.data.toList[k]]:=by rw[List.take_add_one,List.getElem?_eq_getElem hk];rfl
  have e2:(s.data.toList[k]).toNat=aL s k:=by unfold aL;rw[gE,List.getElem?_eq_getElem hk];rfl
  rw[af.lB,vn,Y8 s k (by omega),e];unfold kW;rw[List.flatMap_append];congr 1;simp only[List.flatMap_cons,List.flatMap_nil,List.append_nil,e2,pX,List.map_cons,List.map_nil];rw[Y7 _ (by omega),Y7 _ (by omega)]
theorem alK (c:UInt8) (l:List (List UInt8)) (x:List UInt8):jV c (l++[x])=jV c l++((if 0<l.length then [c] else [])++x):=by
 cases l with
 | nil=>simp[jV]
 | cons a l=>simp[jV]
theorem Y9 (ds:List Nat):∀ k,k<=ds.length->pX (af.lC ds k)=jV 44 ((ds.take k).map Lib.decDigits)
 | 0,_=>rfl
 | k+1,h=>by
  have hk:k<ds.length:=h;have e:ds.take (k+1)=ds.take k++[ds.getD k 0]:=by rw[List.take_add_one,List.getElem?_eq_getElem hk,gE,List.getElem?_eq_getElem hk];rfl
  rw[af.lC,vn,vn,Y9 ds k (by omega),Y6,O_,e,List.map_append,List.map_singleton,alK];congr 2;rw[List.length_map,lKq,Nat.min_eq_left (by omega)];split <;> rfl
theorem Y_ (l:List Ask):∀ k,k<=l.length->pX (af.nu l k)=(l.take k).flatMap fun a=>32::kW (af.eo a).data.toList
 | 0,_=>rfl
 | k+1,h=>by
  have hk:k<l.length:=h;have e:l.take (k+1)=l.take k++[bZ l k]:=by rw[List.take_add_one,Mt hk];rfl
  rw[af.nu,vn,vn,Y_ l k (by omega),Y8 _ _ (lRq _),e,List.flatMap_append];congr 1;simp only[List.flatMap_cons,List.flatMap_nil,List.append_nil];rw[List.take_of_length_le (by rw[Array.length_toList];exact lRq _)];rfl
theorem alL (bt:Nat) (ds:List Nat) (l:List Ask):(af.f_ bt ds l).data.toList=Lib.decDigits bt++58::(jV 44 (ds.map Lib.decDigits)++l.flatMap fun a=>32::kW (af.eo a).data.toList):=by
 unfold af.f_ af.Hw;rw[alJ,vn,vn,vn,Y6,O_,Y9 ds _ (lRq _),Y_ l _ (lRq _),List.take_length,List.take_length];show (Lib.decDigits bt++[58]++_)++_=_;simp
def iP:List (List UInt8)->Option (List (List UInt8))
 | []=>some []
 | p::ps=>match unhex p with
  | none=>none
  | some x=>(iP ps).map (x :: ·)
theorem Y':∀ l:List (List UInt8),iP (l.map kW)=some l
 | []=>rfl
 | x::l=>by simp[iP,Za,Y' l]
def vo (s:ByteArray):Option (Nat×List Nat×List (List UInt8)) :=
 let h:=Lib.cut s.data.toList [58]
 let t:=Lib.cut h.2.1 [32]
 if h.2.2=true then
  match gF 9 (bn h.1),oH (bn t.1) with
  | some n,some ds=>if t.2.2=true then (iP (pieces 32 t.2.1)).map fun fs=>(n,ds,fs) else some (n,ds,[])
  | _,_=>none
 else none
theorem alM (l:List UInt8):∀ b∈kW l,48<=b.toNat:=by
 have key:∀ i:Fin 16,48<=(sZ i.val).toNat:=by decide +kernel
 intro b hb;obtain⟨x,_,hx⟩:=List.mem_flatMap.1 hb;have hlt:=x.toNat_lt;simp only[List.mem_cons,List.not_mem_nil,or_false]at hx;rcases hx with rfl | rfl
 ·exact key ⟨x.toNat/16,by omega⟩
 ·exact key ⟨x.toNat%16,by omega⟩
theorem Iv {b c:UInt8} (h:b.toNat≠c.toNat):b≠c:=fun e=>h (by rw[e])
theorem alN (ds:List Nat):∀ b∈jV 44 (ds.map Lib.decDigits),44<=b.toNat:=by
 cases ds with
 | nil=>intro b hb;cases hb
 | cons d ds =>
  intro b hb;rcases List.mem_append.1 hb with h1 | h1
  ·have:=De d b h1;omega
  ·obtain⟨x,hx,hbx⟩:=List.mem_flatMap.1 h1
   obtain⟨n,_,rfl⟩:=List.mem_map.1 hx;rcases List.mem_cons.1 hbx with rfl | h2
   ·decide
   ·have:=De n b h2;omega
theorem Zb:∀ (ds:List Nat) (last:Int),ds.Pairwise (· < ·)->(∀ d∈ds,d<6)->(∀ d∈ds,last<(d:Int))->jW last (ds.map fun d=>bn (Lib.decDigits d))=some ds
 | [],_,_,_,_=>rfl
 | d::ds,last,hp,h6,hl=>by
  obtain⟨h1,h2⟩:=List.pairwise_cons.1 hp;have hd:=h6 d mSq;have e1:gF 9 (bn (Lib.decDigits d))=some d:=Y2 8 d (by omega);have ih:=Zb ds d h2 (fun x hx=>h6 x (mOq _ hx)) (fun x hx=>by have:=h1 x hx;omega);simp only[List.map_cons,jW,e1];rw[if_pos ⟨by omega,hl d mSq⟩,ih];rfl
theorem alO (ds:List Nat) (hp:ds.Pairwise (· < ·)) (h6:∀ d∈ds,d<6):oH (bn (jV 44 (ds.map Lib.decDigits)))=some ds:=by
 cases ds with
 | nil=>rfl
 | cons d ds =>
  have hne:(bn (jV 44 ((d::ds).map Lib.decDigits))).size≠0:=by
   have:=Y0 d
   have h2:0<(Lib.decDigits d).length:=List.length_pos_iff.2 this;show (jV 44 ((d::ds).map Lib.decDigits)).toArray.size≠0;simp only[List.map_cons,jV,List.size_toArray,List.length_append];omega
  rw[oH,if_neg hne];show jW (-1) ((pieces 44 (jV 44 ((d::ds).map Lib.decDigits))).map bn)=_;rw[List.map_cons,Pb 44 _ _ (fun x hx b hb=>?_),<- List.map_cons,List.map_map]
  ·exact Zb (d::ds) (-1) hp h6 (fun x _=>by omega)
  ·rw[<- List.map_cons]at hx
   obtain⟨n,_,rfl⟩:=List.mem_map.1 hx
   have:=De n b hb
   exact Iv (by show b.toNat≠44;omega)
theorem alP (bt:Nat) (b:af.eD) (hb:af.pY b) (hn:bt<1000000000):vo (af.f_ bt b.ds b.l)=some (bt,b.ds,b.l.map fun a=>(af.eo a).data.toList):=by
 obtain⟨ds,l⟩:=b;have hr:=alO ds hb.Zc hb.few;have oI:gF 9 (bn (Lib.decDigits bt))=some bt:=Y2 8 bt hn;have alQ:∀ x∈Lib.decDigits bt,x≠58:=fun x hx=>by have:=De bt x hx;exact Iv (by show x.toNat≠58;omega)
 have Gp:∀ x∈jV 44 (ds.map Lib.decDigits),x≠32:=fun x hx=>by have:=alN ds x hx;exact Iv (by show x.toNat≠32;omega)
 unfold vo;rw[alL,Y3 58 _ _ alQ];simp only[];cases l with
 | nil =>
  rw[List.flatMap_nil,aNq,alI 32 _ Gp];simp only[oI,hr];rfl
 | cons a l =>
  rw[List.flatMap_cons,List.cons_append,Y3 32 _ _ Gp];simp only[oI,hr];have e:kW (af.eo a).data.toList++l.flatMap (fun a=>32::kW (af.eo a).data.toList)=jV 32 (kW (af.eo a).data.toList::(l.map fun a=>kW (af.eo a).data.toList)):=by
   simp only[jV,List.flatMap_map]
  rw[e,Pb 32 _ _ (fun x hx b hb=>?_)]
  ·have e2:kW (af.eo a).data.toList::(l.map fun a=>kW (af.eo a).data.toList)=((a::l).map fun a=>(af.eo a).data.toList).map kW:=by simp
   rw[e2,Y'];rfl
  ·have hx':∃ y,x=kW y:=by
    rcases List.mem_cons.1 hx with rfl | h1
    ·exact⟨_,rfl⟩
    ·obtain⟨y,_,rfl⟩:=List.mem_map.1 h1;exact⟨_,rfl⟩
   obtain⟨y,rfl⟩:=hx'
   have:=alM y b hb
   exact Iv (by show b.toNat≠32;omega)
theorem YH {a:Ask} (h:bz.ac a=0):d6 (af.eo a)=0/\af.cB (af.eo a)=a:=by
 have hc:ah.code a.k a.c a.sq a.it a.sd a.pr a.q a.id=0:=h;have e:af.eo a=strOfNums (ah.frame a.k a.c a.sq a.it a.sd a.pr a.q a.id):=by unfold af.eo tx;rw[if_pos hc]
 obtain⟨h1,h2⟩:=Ws hc;rw[<- e]at h1 h2;refine⟨h1,?_⟩;unfold rG at h2;simp only[Value.agg.injEq,Array.mk.injEq,List.cons.injEq,Value.int.injEq,true_and,and_true]at h2;obtain⟨e0,e1,e2,e3,e4,e5,e6,e7⟩:=h2;unfold af.cB cZ;simp only[h1,if_true,e0,e1,e2,e3,e4,e5,e6,e7]
end Go.Proofs.YtjolccidheflpaaGreatDoor
