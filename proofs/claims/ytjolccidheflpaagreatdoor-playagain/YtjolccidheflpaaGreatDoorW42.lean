/- No program: a number's digits are read back; a text cut at a byte; the bytes of a record. -/
import Derived.Test.YtjolccidheflpaaGreatDoorW40
import Derived.Test.YtjolccidheflpaaGreatDoorW14
import Derived.Test.YtjolccidheflpaaGreatDoorW38
import Derived.Test.YtjolccidheflpaaGreatDoorW32
import Derived.Lib.IndexMore
namespace Go.Proofs.YtjolccidheflpaaGreatDoor
set_option maxHeartbeats 8000000
set_option maxRecDepth 100000
open Go.RowKit
theorem ZE (d:Nat) (h:d<10):Lib.digitVal (UInt8.ofNat (48+d))=some d:=by
 have:∀ i:Fin 10,Lib.digitVal (UInt8.ofNat (48+i.val))=some i.val:=by decide +kernel
 exact this ⟨d,h⟩
theorem ZF (b:UInt8) (d:Nat) (hb:Lib.digitVal b=some d):∀ (l:List UInt8) (a n:Nat),Lib.decFrom a l=some n->Lib.decFrom a (l++[b])=some (n*10+d)
 | [],a,n,h=>by
  simp only[Lib.decFrom,Option.some.injEq]at h;subst h;simp[Lib.decFrom,hb]
 | x::l,a,n,h=>by
  simp only[Lib.decFrom,List.cons_append]at h ⊢;cases hx:Lib.digitVal x with
  | none=>simp[hx]at h
  | some y=>simp only[hx]at h ⊢;exact ZF b d hb l _ n h
theorem aml (n:Nat):Lib.decFrom 0 (Lib.decDigits n)=some n:=by
 induction n using Nat.strongRecOn with
 | _ n ih =>
  rw[Lib.decDigits];split
  .rename_i h;rw[Lib.decFrom,ZE n h];simp[Lib.decFrom]
  .rename_i h
   rw[ZF _ (n%10) (ZE _ (by omega)) _ 0 (n/10) (ih (n/10) (by omega))];congr 1;omega
theorem Dt (n:Nat):∀ b∈Lib.decDigits n,48<=b.toNat/\b.toNat<=57:=by
 have key:∀ d,d<10->48<=(UInt8.ofNat (48+d)).toNat/\(UInt8.ofNat (48+d)).toNat<=57:=fun d hd=>by
  have:∀ i:Fin 10,48<=(UInt8.ofNat (48+i.val)).toNat/\(UInt8.ofNat (48+i.val)).toNat<=57:=by decide +kernel
  exact this ⟨d,hd⟩
 induction n using Nat.strongRecOn with
 | _ n ih =>
  intro b hb;rw[Lib.decDigits]at hb;split at hb
  .rename_i h;rw[List.mem_singleton.1 hb];exact key n h
  .rename_i h
   rcases List.mem_append.1 hb with h1 | h1
   .exact ih _ (by omega) b h1
   .rw[List.mem_singleton.1 h1];exact key _ (by omega)
theorem ZG (n:Nat):Lib.decDigits n≠[]:=by
 rw[Lib.decDigits];split <;> simp
theorem ZH:∀ (k n:Nat),n<10 ^ (k+1)->(Lib.decDigits n).length<=k+1
 | 0,n,h=>by rw[Lib.decDigits,dif_pos (by omega)];simp
 | k+1,n,h=>by
  rw[Lib.decDigits];split
  .simp
  .have:=ZH k (n/10) (by rw[Nat.pow_succ]at h;omega)
   simp;omega
theorem amm (n:Nat):Lib.atoi (Lib.decDigits n)=some (n:Int):=by
 have h1:=aml n;have h2:=Dt n;cases hd:Lib.decDigits n with
 | nil=>exact absurd hd (ZG n)
 | cons b r =>
  have hb:=h2 b (by rw[hd];exact mSq);have e1:(b==45)=false:=by
   cases h:b==45
   .rfl
   .have:b=45:=by simpa using h
    subst this;exact absurd hb.1 (by decide)
  have e2:(b==43)=false:=by
   cases h:b==43
   .rfl
   .have:b=43:=by simpa using h
    subst this;exact absurd hb.1 (by decide)
  rw[Lib.atoi,e1,e2];simp only[Bool.false_eq_true,if_false];rw[hd]at h1;rw[Lib.decNat,h1];simp
theorem PH (n:Nat):Lib.itoa (n:Int)=Lib.decDigits n:=by unfold Lib.itoa;rw[if_neg (by omega)];simp
theorem ZI (k n:Nat) (h:n<10 ^ (k+1)):gR (k+1) (bn (Lib.decDigits n))=some n:=by
 have hl:=ZH k n h;have e:(bn (Lib.decDigits n)).size=(Lib.decDigits n).length:=by simp[bn,ByteArray.size]
 rw[gR,if_neg (by rw[e];omega)];have:(bn (Lib.decDigits n)).data.toList=Lib.decDigits n:=by simp[bn]
 rw[this,amm];simp only[];rw[if_neg (by omega),PH];show (if (⟨(Lib.decDigits n).toArray⟩:ByteArray)=⟨(Lib.decDigits n).toArray⟩ then some (n:Int).toNat else none)=_;rw[if_pos rfl];rfl
theorem index_first (c:UInt8):∀ (a r:List UInt8),(∀ b∈a,b≠c)->Lib.index (a++c::r) [c]=a.length
 | [],r,_=>by simp[Lib.index,List.isPrefixOf]
 | x::a,r,h=>by
  have hx:(c==x)=false:=by
   cases hb:c==x
   .rfl
   .exact absurd (by simpa using hb:c=x).symm (h x mSq)
  have ih:=index_first c a r (fun b hb=>h b (mOq _ hb));rw[List.cons_append,Lib.index,ih];simp[List.isPrefixOf,hx]
theorem index_none (c:UInt8):∀ (a:List UInt8),(∀ b∈a,b≠c)->Lib.index a [c] = -1
 | [],_=>by simp[Lib.index]
 | x::a,h=>by
  have hx:(c==x)=false:=by
   cases hb:c==x
   .rfl
   .exact absurd (by simpa using hb:c=x).symm (h x mSq)
  rw[Lib.index,index_none c a (fun b hb=>h b (mOq _ hb))];simp[List.isPrefixOf,hx]
theorem ZJ (c:UInt8) (a r:List UInt8) (h:∀ b∈a,b≠c):Lib.cut (a++c::r) [c]=(a,r,true):=by
 unfold Lib.cut;rw[index_first c a r h,if_pos (by omega)];simp
theorem amn (c:UInt8) (a:List UInt8) (h:∀ b∈a,b≠c):Lib.cut a [c]=(a,[],false):=by
 unfold Lib.cut;rw[index_none c a h,if_neg (by omega)]
theorem ZK (c:UInt8):∀ (a r:List UInt8),(∀ b∈a,b≠c)->pieces c (a++c::r)=a::pieces c r
 | [],r,_=>by simp[pieces]
 | x::a,r,h=>by
  have hx:(x==c)=false:=by simpa using h x mSq
  rw[List.cons_append,pieces,ZK c a r (fun b hb=>h b (mOq _ hb)),hx];simp
theorem ZL (c:UInt8):∀ (a:List UInt8),(∀ b∈a,b≠c)->pieces c a=[a]
 | [],_=>rfl
 | x::a,h=>by
  have hx:(x==c)=false:=by simpa using h x mSq
  rw[pieces,ZL c a (fun b hb=>h b (mOq _ hb)),hx];simp
def kj (c:UInt8):List (List UInt8)->List UInt8
 | []=>[]
 | a::l=>a++l.flatMap (fun x=>c::x)
theorem PI (c:UInt8):∀ (a:List UInt8) (l:List (List UInt8)),(∀ x∈a::l,∀ b∈x,b≠c)->pieces c (kj c (a::l))=a::l
 | a,[],h=>by
  simp only[kj,List.flatMap_nil,List.append_nil];exact ZL c a (h a mSq)
 | a,x::l,h=>by
  have ih:=PI c x l (fun y hy=>h y (mOq _ hy));simp only[kj,List.flatMap_cons,List.cons_append]at ih ⊢;rw[ZK c a _ (h a mSq),ih]
def qw (xs:List Int):List UInt8:=xs.map fun n=>UInt8.ofNat n.toNat
theorem amo (xs:List Int):(strOfNums xs).data.toList=qw xs:=by simp[strOfNums,qw]
theorem vG (a b:List Int):qw (a++b)=qw a++qw b:=List.map_append
theorem ZM (n:Int):qw (af.dec n)=Lib.itoa n:=by
 unfold qw af.dec;rw[List.map_map];have:((fun n:Int=>UInt8.ofNat n.toNat) ∘ fun b:UInt8=>(b.toNat:Int))=id:=by
  funext b;simp
 rw[this,List.map_id]
theorem ZN:∀ x,x<16->UInt8.ofNat (af.tj x).toNat=tE x:=by
 have:∀ i:Fin 16,UInt8.ofNat (af.tj i.val).toNat=tE i.val:=by decide +kernel
 exact fun x h=>this ⟨x,h⟩
theorem ZO (s:ByteArray):∀ k,k<=s.size->qw (af.l4 s k)=ly (s.data.toList.take k)
 | 0,_=>rfl
 | k+1,h=>by
  have hk:k<s.data.toList.length:=by rw[Array.length_toList];exact h
  have hlt:aN s k<256:=by unfold aN;exact UInt8.toNat_lt _
  have e:s.data.toList.take (k+1)=s.data.toList.take k++[s.data.toList[k]]:=by rw[List.take_add_one,List.getElem?_eq_getElem hk];rfl
  have e2:(s.data.toList[k]).toNat=aN s k:=by unfold aN;rw[gE,List.getElem?_eq_getElem hk];rfl
  rw[af.l4,vG,ZO s k (by omega),e];unfold ly;rw[List.flatMap_append];congr 1;simp only[List.flatMap_cons,List.flatMap_nil,List.append_nil,e2,qw,List.map_cons,List.map_nil];rw[ZN _ (by omega),ZN _ (by omega)]
theorem amq (c:UInt8) (l:List (List UInt8)) (x:List UInt8):kj c (l++[x])=kj c l++((if 0<l.length then [c] else [])++x):=by
 cases l with
 | nil=>simp[kj]
 | cons a l=>simp[kj]
theorem ZP (ds:List Nat):∀ k,k<=ds.length->qw (af.l5 ds k)=kj 44 ((ds.take k).map Lib.decDigits)
 | 0,_=>rfl
 | k+1,h=>by
  have hk:k<ds.length:=h;have e:ds.take (k+1)=ds.take k++[ds.getD k 0]:=by rw[List.take_add_one,List.getElem?_eq_getElem hk,gE,List.getElem?_eq_getElem hk];rfl
  rw[af.l5,vG,vG,ZP ds k (by omega),ZM,PH,e,List.map_append,List.map_singleton,amq];congr 2;rw[List.length_map,lKq,Nat.min_eq_left (by omega)];split <;> rfl
theorem ZQ (l:List Ask):∀ k,k<=l.length->qw (af.nZ l k)=(l.take k).flatMap fun a=>32::ly (af.bL a).data.toList
 | 0,_=>rfl
 | k+1,h=>by
  have hk:k<l.length:=h;have e:l.take (k+1)=l.take k++[cY l k]:=by rw[List.take_add_one,Ms hk];rfl
  rw[af.nZ,vG,vG,ZQ l k (by omega),ZO _ _ (lRq _),e,List.flatMap_append];congr 1;simp only[List.flatMap_cons,List.flatMap_nil,List.append_nil];rw[List.take_of_length_le (by rw[Array.length_toList];exact lRq _)];rfl
theorem amr (bt:Nat) (ds:List Nat) (l:List Ask):(af.gF bt ds l).data.toList=Lib.decDigits bt++58::(kj 44 (ds.map Lib.decDigits)++l.flatMap fun a=>32::ly (af.bL a).data.toList):=by
 unfold af.gF af.Ig;rw[amo,vG,vG,vG,ZM,PH,ZP ds _ (lRq _),ZQ l _ (lRq _),List.take_length,List.take_length];show (Lib.decDigits bt++[58]++_)++_=_;simp
def iV:List (List UInt8)->Option (List (List UInt8))
 | []=>some []
 | p::ps=>match unhex p with
  | none=>none
  | some x=>(iV ps).map (x :: ·)
theorem ZR:∀ l:List (List UInt8),iV (l.map ly)=some l
 | []=>rfl
 | x::l=>by simp[iV,ZS,ZR l]
def vH (s:ByteArray):Option (Nat×List Nat×List (List UInt8)) :=
 let h:=Lib.cut s.data.toList [58]
 let t:=Lib.cut h.2.1 [32]
 if h.2.2=true then
  match gR 9 (bn h.1),o8 (bn t.1) with
  | some n,some ds=>if t.2.2=true then (iV (pieces 32 t.2.1)).map fun fs=>(n,ds,fs) else some (n,ds,[])
  | _,_=>none
 else none
theorem ams (l:List UInt8):∀ b∈ly l,48<=b.toNat:=by
 have key:∀ i:Fin 16,48<=(tE i.val).toNat:=by decide +kernel
 intro b hb;obtain⟨x,_,hx⟩:=List.mem_flatMap.1 hb;have hlt:=x.toNat_lt;simp only[List.mem_cons,List.not_mem_nil,or_false]at hx;rcases hx with rfl | rfl
 .exact key ⟨x.toNat/16,by omega⟩
 .exact key ⟨x.toNat%16,by omega⟩
theorem IQ {b c:UInt8} (h:b.toNat≠c.toNat):b≠c:=fun e=>h (by rw[e])
theorem amt (ds:List Nat):∀ b∈kj 44 (ds.map Lib.decDigits),44<=b.toNat:=by
 cases ds with
 | nil=>intro b hb;cases hb
 | cons d ds =>
  intro b hb;rcases List.mem_append.1 hb with h1 | h1
  .have:=Dt d b h1;omega
  .obtain⟨x,hx,hbx⟩:=List.mem_flatMap.1 h1
   obtain⟨n,_,rfl⟩:=List.mem_map.1 hx;rcases List.mem_cons.1 hbx with rfl | h2
   .decide
   .have:=Dt n b h2;omega
theorem ZT:∀ (ds:List Nat) (last:Int),ds.Pairwise (· < ·)->(∀ d∈ds,d<6)->(∀ d∈ds,last<(d:Int))->kn last (ds.map fun d=>bn (Lib.decDigits d))=some ds
 | [],_,_,_,_=>rfl
 | d::ds,last,hp,h6,hl=>by
  obtain⟨h1,h2⟩:=List.pairwise_cons.1 hp;have hd:=h6 d mSq;have e1:gR 9 (bn (Lib.decDigits d))=some d:=ZI 8 d (by omega);have ih:=ZT ds d h2 (fun x hx=>h6 x (mOq _ hx)) (fun x hx=>by have:=h1 x hx;omega);simp only[List.map_cons,kn,e1];rw[if_pos ⟨by omega,hl d mSq⟩,ih];rfl
theorem amu (ds:List Nat) (hp:ds.Pairwise (· < ·)) (h6:∀ d∈ds,d<6):o8 (bn (kj 44 (ds.map Lib.decDigits)))=some ds:=by
 cases ds with
 | nil=>rfl
 | cons d ds =>
  have hne:(bn (kj 44 ((d::ds).map Lib.decDigits))).size≠0:=by
   have:=ZG d
   have h2:0<(Lib.decDigits d).length:=List.length_pos_iff.2 this;show (kj 44 ((d::ds).map Lib.decDigits)).toArray.size≠0;simp only[List.map_cons,kj,List.size_toArray,List.length_append];omega
  rw[o8,if_neg hne];show kn (-1) ((pieces 44 (kj 44 ((d::ds).map Lib.decDigits))).map bn)=_;rw[List.map_cons,PI 44 _ _ (fun x hx b hb=>?_),<- List.map_cons,List.map_map]
  .exact ZT (d::ds) (-1) hp h6 (fun x _=>by omega)
  .rw[<- List.map_cons]at hx
   obtain⟨n,_,rfl⟩:=List.mem_map.1 hx
   have:=Dt n b hb
   exact IQ (by show b.toNat≠44;omega)
theorem amv (bt:Nat) (b:af.fq) (hb:af.rG b) (hn:bt<1000000000):vH (af.gF bt b.ds b.l)=some (bt,b.ds,b.l.map fun a=>(af.bL a).data.toList):=by
 obtain⟨ds,l⟩:=b;have hr:=amu ds hb.ZU hb.few;have o9:gR 9 (bn (Lib.decDigits bt))=some bt:=ZI 8 bt hn;have amw:∀ x∈Lib.decDigits bt,x≠58:=fun x hx=>by have:=Dt bt x hx;exact IQ (by show x.toNat≠58;omega)
 have Gt:∀ x∈kj 44 (ds.map Lib.decDigits),x≠32:=fun x hx=>by have:=amt ds x hx;exact IQ (by show x.toNat≠32;omega)
 unfold vH;rw[amr,ZJ 58 _ _ amw];simp only[];cases l with
 | nil =>
  rw[List.flatMap_nil,aNq,amn 32 _ Gt];simp only[o9,hr];rfl
 | cons a l =>
  rw[List.flatMap_cons,List.cons_append,ZJ 32 _ _ Gt];simp only[o9,hr];have e:ly (af.bL a).data.toList++l.flatMap (fun a=>32::ly (af.bL a).data.toList)=kj 32 (ly (af.bL a).data.toList::(l.map fun a=>ly (af.bL a).data.toList)):=by
   simp only[kj,List.flatMap_map]
  rw[e,PI 32 _ _ (fun x hx b hb=>?_)]
  .have e2:ly (af.bL a).data.toList::(l.map fun a=>ly (af.bL a).data.toList)=((a::l).map fun a=>(af.bL a).data.toList).map ly:=by simp
   rw[e2,ZR];rfl
  .have hx':∃ y,x=ly y:=by
    rcases List.mem_cons.1 hx with rfl | h1
    .exact⟨_,rfl⟩
    .obtain⟨y,_,rfl⟩:=List.mem_map.1 h1;exact⟨_,rfl⟩
   obtain⟨y,rfl⟩:=hx'
   have:=ams y b hb
   exact IQ (by show b.toNat≠32;omega)
theorem IJ {a:Ask} (h:bg.ac a=0):eu (af.bL a)=0/\af.cA (af.bL a)=a:=by
 have hc:ah.code a.k a.c a.sq a.it a.sd a.pr a.q a.id=0:=h;have e:af.bL a=strOfNums (ah.frame a.k a.c a.sq a.it a.sd a.pr a.q a.id):=by unfold af.bL nh;rw[if_pos hc]
 obtain⟨h1,h2⟩:=Xw hc;rw[<- e]at h1 h2;refine⟨h1,?_⟩;unfold rV at h2;simp only[Value.agg.injEq,Array.mk.injEq,List.cons.injEq,Value.int.injEq,true_and,and_true]at h2;obtain⟨e0,e1,e2,e3,e4,e5,e6,e7⟩:=h2;unfold af.cA dc;simp only[h1,if_true,e0,e1,e2,e3,e4,e5,e6,e7]
end Go.Proofs.YtjolccidheflpaaGreatDoor
