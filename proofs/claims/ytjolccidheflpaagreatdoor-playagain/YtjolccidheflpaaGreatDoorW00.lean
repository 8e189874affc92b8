/- Short names. -/
import Derived.Laws.Rows
import Derived.OneCell
import Derived.Below
import Derived.Test.YtjolccidheflpaaGreatDoorProg
namespace Go.Proofs.YtjolccidheflpaaGreatDoor
set_option maxHeartbeats 8000000
set_option maxRecDepth 100000
section
open Go.RowKit
abbrev lRq:=@Nat.le_refl
abbrev cR:=@cell_of_row
abbrev lBq:=@lt_of_block
abbrev bRq:=@Below.refl
abbrev lAq:=@List.length_append
abbrev lTq:=@Nat.le_trans
abbrev bCq:=@World.block_lt_of_cell?
abbrev hNq:=@heap_alloc_new
abbrev gE:=@List.getD_eq_getElem?_getD
abbrev mSq:=@List.mem_cons_self
abbrev mOq:=@List.mem_cons_of_mem
abbrev lKq:=@List.length_take
abbrev lCq:=@List.length_cons
abbrev aNq:=@List.append_nil
abbrev aAq:=@List.append_assoc
abbrev bEq:=@Bool.and_eq_true
abbrev Qa (x:Int):Value:=.int .i64 x
abbrev Qb (b o:Nat):Addr:=⟨b,o,none⟩
abbrev Qc (b:Nat):Value:=.pointer (some ⟨b,0,none⟩)
abbrev Qd (w v:World):Prop:=Below w.heap.size w v
end
namespace ah
def bit (r:Nat):Nat:=if r%2=1 then (r/2) ^^^ 3988292384 else r/2
def bits:Nat->Nat->Nat
 | 0,r=>r
 | n+1,r=>bits n (bit r)
def byte (r b:Nat):Nat:=bits 8 (r ^^^ b)
def run (l:List UInt8) (r:Nat):Nat:=l.foldl (fun r b=>byte r b.toNat) r
def sum (l:List UInt8):Nat:=run l 4294967295 ^^^ 4294967295
theorem GQ {a b:Nat} (ha:a<4294967296) (hb:b<4294967296):a ^^^ b<4294967296:=by
 have:=Nat.xor_lt_two_pow (n:=32) (x:=a) (y:=b) (by simpa using ha) (by simpa using hb)
 simpa using this
theorem ahz {r:Nat} (h:r<4294967296):bit r<4294967296:=by
 unfold bit;split
 .exact GQ (by omega) (by decide)
 .omega
theorem Nf:∀ (n:Nat) {r:Nat},r<4294967296->bits n r<4294967296
 | 0,_,h=>h
 | n+1,_,h=>Nf n (ahz h)
theorem VG:∀ (n r:Nat),bits (n+1) r=bit (bits n r)
 | 0,_=>rfl
 | n+1,r=>by show bits (n+1) (bit r)=bit (bits n (bit r));exact VG n (bit r)
theorem ahA {r b:Nat} (h:r<4294967296) (hb:b<256):byte r b<4294967296:=Nf 8 (GQ h (by omega))
theorem Ng:∀ (l:List UInt8) {r:Nat},r<4294967296->run l r<4294967296
 | [],_,h=>h
 | b::l,r,h=>by
  show run l (byte r b.toNat)<4294967296;exact Ng l (ahA h (by have:=b.toNat_lt;omega))
theorem ahB (l:List UInt8) (b:UInt8) (r:Nat):run (l++[b]) r=byte (run l r) b.toNat:=by
 simp[run,List.foldl_append]
theorem sum_lt (l:List UInt8):sum l<4294967296:=GQ (Ng l (by decide)) (by decide)
def aG (x lo hi:Int):Bool:=decide (lo<=x)&&decide (x<=hi)
def mg (k:Int):Bool:=k==108 || k==104 || k==111 || k==99 || k==113
def ku (k c sq it sd pr q id:Int):Bool :=
 aG c 0 5&&aG sq 0 1073741824&&aG id 0 1073741824 &&
  (if k==111 then aG it 0 2&&aG sd 0 1&&aG pr 1 1000&&aG q 1 1000 else if k==99 then aG it 0 2 else true)
def m_ (k it sd pr q id:Int):Bool :=
 if k==111 then true else if k==99 then sd==0&&pr==0&&q==0 else it==0&&sd==0&&pr==0&&q==0&&id==0
def code (k c sq it sd pr q id:Int):Nat :=
 if mg k then if ku k c sq it sd pr q id then if m_ k it sd pr q id then 0 else 3 else 2 else 4
end ah
namespace bC
def j9 (l:List UInt8) (i:Nat):Nat:=(l.getD i 0).toNat
def g_ (l:List UInt8) (i:Nat):Nat:=16777216*j9 l i+65536*j9 l (i+1)+256*j9 l (i+2)+j9 l (i+3)
def oX (l:List UInt8) (i:Nat):Nat:=j9 l i+256*j9 l (i+1)+65536*j9 l (i+2)+16777216*j9 l (i+3)
def four (n:Nat):List UInt8:=[UInt8.ofNat (n/16777216),UInt8.ofNat (n/65536),UInt8.ofNat (n/256),UInt8.ofNat n]
def low (n:Nat):List UInt8:=[UInt8.ofNat n,UInt8.ofNat (n/256),UInt8.ofNat (n/65536),UInt8.ofNat (n/16777216)]
def rec (s:List UInt8):List UInt8:=four s.length++four (4294967295-s.length)++s++low (ah.sum s)
def recs (l:List (List UInt8)):List UInt8:=(l.map rec).flatten
def first (l:List UInt8):Option (List UInt8) :=
 if l.length<8 then none
 else if g_ l 4≠4294967295-g_ l 0 then none
 else if 10000<g_ l 0 then none
 else if l.length-8<g_ l 0+4 then none
 else if oX l (8+g_ l 0)≠ah.sum ((l.drop 8).take (g_ l 0)) then none
 else some ((l.drop 8).take (g_ l 0))
theorem XL (l:List UInt8) (i j:Nat):j9 (l.drop i) j=j9 l (i+j):=by simp[j9,List.getD_eq_getElem?_getD]
theorem H6 (l:List UInt8) (i j:Nat):oX (l.drop i) j=oX l (i+j):=by simp only[oX,XL,Nat.add_assoc]
theorem ajy (l:List UInt8) (i j:Nat):g_ (l.drop i) j=g_ l (i+j):=by simp only[g_,XL,Nat.add_assoc]
theorem H7 (l r:List UInt8) (i:Nat) (h:i<l.length):j9 (l++r) i=j9 l i:=by
 simp[j9,List.getD_eq_getElem?_getD,List.getElem?_append_left h]
theorem vg (s:List UInt8):(rec s).length=12+s.length:=by simp[rec,four,low];omega
theorem ajz:recs []=[]:=rfl
theorem Oh (s:List UInt8) (l:List (List UInt8)):recs (s::l)=rec s++recs l:=rfl
theorem Oi (a:List (List UInt8)) (s:List UInt8):recs (a++[s])=recs a++rec s:=by simp[recs]
theorem vh {a:UInt8} {n:Nat} (h:n%256=a.toNat):UInt8.ofNat n=a:=by
 apply UInt8.toNat_inj.1;rw[UInt8.toNat_ofNat'];exact h
theorem XM (a b c d:UInt8) (l:List UInt8):four (g_ (a::b::c::d::l) 0)=[a,b,c,d]:=by
 have ha:=a.toNat_lt;have hb:=b.toNat_lt;have hc:=c.toNat_lt;have hd:=d.toNat_lt;simp only[four,g_,j9,List.getD_eq_getElem?_getD,List.getElem?_cons_zero,List.getElem?_cons_succ,Option.getD_some,Nat.zero_add];congr 1
 .exact vh (by omega)
 .congr 1
  .exact vh (by omega)
  .congr 1
   .exact vh (by omega)
   .congr 1
    exact vh (by omega)
theorem ajA (a b c d:UInt8) (l:List UInt8):low (oX (a::b::c::d::l) 0)=[a,b,c,d]:=by
 have ha:=a.toNat_lt;have hb:=b.toNat_lt;have hc:=c.toNat_lt;have hd:=d.toNat_lt;simp only[low,oX,j9,List.getD_eq_getElem?_getD,List.getElem?_cons_zero,List.getElem?_cons_succ,Option.getD_some,Nat.zero_add];congr 1
 .exact vh (by omega)
 .congr 1
  .exact vh (by omega)
  .congr 1
   .exact vh (by omega)
   .congr 1
    exact vh (by omega)
theorem Oj (n:Nat) (h:n<4294967296) (r:List UInt8):g_ (four n++r) 0=n:=by
 simp only[four,g_,j9,List.getD_eq_getElem?_getD,List.cons_append,List.getElem?_cons_zero,List.getElem?_cons_succ,Option.getD_some,Nat.zero_add,UInt8.toNat_ofNat'];omega
theorem ajB (n:Nat) (h:n<4294967296) (r:List UInt8):oX (low n++r) 0=n:=by
 simp only[low,oX,j9,List.getD_eq_getElem?_getD,List.cons_append,List.getElem?_cons_zero,List.getElem?_cons_succ,Option.getD_some,Nat.zero_add,UInt8.toNat_ofNat'];omega
theorem Ol {l:List UInt8} (h:4<=l.length):∃ a b c d r,l=a::b::c::d::r:=by
 match l,h with
 | a::b::c::d::r,_=>exact⟨a,b,c,d,r,rfl⟩
theorem ajC {l s:List UInt8} (h:first l=some s):s.length<=10000/\12+s.length<=l.length/\l=rec s++l.drop (12+s.length):=by
 unfold first at h
 split at h;· cases h
 rename_i h8;split at h;· cases h
 rename_i h4;split at h;· cases h
 rename_i hm;split at h;· cases h
 rename_i hl;split at h;· cases h
 rename_i hs;have hs:=Decidable.not_not.1 hs;have h4:=Decidable.not_not.1 h4;have hlen:((l.drop 8).take (g_ l 0)).length=g_ l 0:=by simp;omega
 obtain rfl:=(Option.some.inj h);rw[hlen];refine⟨by omega,by omega,?_⟩;obtain⟨a,b,c,d,r,rfl⟩:=Ol (l:=l) (by omega);obtain⟨e,f,g,i,r,rfl⟩:=Ol (l:=r) (by simp at h8;omega);have e1:=XM a b c d (e::f::g::i::r);have e2:four (g_ (a::b::c::d::e::f::g::i::r) 4)=[e,f,g,i]:=XM e f g i r;rw[h4]at e2;generalize g_ (a::b::c::d::e::f::g::i::r) 0=n at *;have hdr:(a::b::c::d::e::f::g::i::r).drop 8=r:=rfl;rw[hdr]at hs hlen ⊢;have hlo:oX (a::b::c::d::e::f::g::i::r) (8+n)=oX (r.drop n) 0:=by
  rw[<- H6 _ 8 n,hdr,H6,Nat.add_zero]
 have apg:n+4<=r.length:=by simp at hl;omega
 obtain⟨j,k,m,o,t,ht⟩:=Ol (l:=r.drop n) (by simp;omega);have e3:=ajA j k m o t;rw[<- ht,<- hlo,hs]at e3;have e4:(a::b::c::d::e::f::g::i::r).drop (12+n)=t:=by
  rw[show 12+n=8+(n+4) by omega,<- List.drop_drop,hdr,<- List.drop_drop,ht];rfl
 rw[e4,rec,hlen,e1,e2,e3];have e5:r=r.take n++r.drop n:=(List.take_append_drop n r).symm;rw[ht]at e5;simp only[List.append_assoc,List.cons_append,List.nil_append];rw[<- e5]
theorem H8 (s r:List UInt8):rec s++r=four s.length++(four (4294967295-s.length)++(s++(low (ah.sum s)++r))):=by simp[rec,List.append_assoc]
theorem Om (s r:List UInt8) (h:s.length<=10000):first (rec s++r)=some s:=by
 have e0:g_ (rec s++r) 0=s.length:=by rw[H8];exact Oj _ (by omega) _
 have ajD:(rec s++r).drop 4=four (4294967295-s.length)++(s++(low (ah.sum s)++r)):=by rw[H8];rfl
 have XN:(rec s++r).drop 8=s++(low (ah.sum s)++r):=by rw[H8];rfl
 have e4:g_ (rec s++r) 4=4294967295-s.length:=by
  have:=ajy (rec s++r) 4 0
  rw[ajD,Oj _ (by omega)]at this;exact this.symm
 have e8:oX (rec s++r) (8+s.length)=ah.sum s:=by
  have h1:=H6 (rec s++r) 8 s.length;have h2:=H6 (s++(low (ah.sum s)++r)) s.length 0;rw[List.drop_left,ajB _ (ah.sum_lt s),Nat.add_zero]at h2;rw[<- h1,XN];exact h2.symm
 have hlen:(rec s++r).length=12+s.length+r.length:=by rw[lAq,vg]
 unfold first
 rw[e0,e4,e8,XN,List.take_left,if_neg (by omega),if_neg (by omega),if_neg (by omega),if_neg (by omega),if_neg (by simp)]
theorem ajE (s p:List UInt8) (h:s.length<=10000) (hp:p <+: rec s) (hl:p.length<(rec s).length):first p=none:=by
 obtain⟨q,hq⟩:=hp;by_cases h8:p.length<8
 .unfold first;rw[if_pos h8]
 .have h0:g_ p 0=s.length:=by
   have e0:g_ (rec s++[]) 0=s.length:=by rw[H8];exact Oj _ (by omega) _
   rw[aNq,<- hq]at e0;rw[<- e0];simp only[g_];rw[H7 _ _ _ (by omega),H7 _ _ _ (by omega),H7 _ _ _ (by omega),H7 _ _ _ (by omega)]
  rw[vg]at hl;unfold first
  rw[if_neg h8,h0];split
  .rfl
  .split
   .rfl
   .rw[if_pos (by omega)]
def zz (l:List UInt8) (ts:List (List UInt8)) (r:List UInt8):Prop:=l=recs ts++r/\first r=none/\∀ s∈ts,s.length<=10000
theorem ajF {ts mO:List (List UInt8)} {more r2:List UInt8} (h:recs ts++more=recs mO++r2) (oY:∀ s∈ts,s.length<=10000) (XO:∀ s∈mO,s.length<=10000) (hr:first r2=none):∃ us,mO=ts++us/\more=recs us++r2:=by
 induction ts generalizing mO with
 | nil=>exact⟨mO,rfl,h⟩
 | cons t ts ih =>
  rw[Oh,aAq]at h;have hf:=Om t (recs ts++more) (oY t (by simp));cases mO with
  | nil=>rw[h]at hf;simp only[ajz,List.nil_append]at hf;rw[hr]at hf;cases hf
  | cons t2 mO =>
   rw[Oh,aAq]at h;have hf2:=Om t2 (recs mO++r2) (XO t2 (by simp));rw[h,hf2]at hf;obtain rfl:=Option.some.inj hf;have h':=List.append_cancel_left h;obtain⟨us,rfl,e⟩:=ih h' (fun s hs=>oY s (by simp[hs])) (fun s hs=>XO s (by simp[hs]));exact⟨us,rfl,e⟩
theorem zz.prefix {ts mO:List (List UInt8)} {more r2:List UInt8} (h:zz (recs ts++more) mO r2) (oY:∀ s∈ts,s.length<=10000):∃ us,mO=ts++us/\more=recs us++r2 :=
 ajF h.1 oY h.2.2 h.2.1
theorem zz.unique {ts mO:List (List UInt8)} {r r2:List UInt8} (h:zz (recs ts++r) mO r2) (oY:∀ s∈ts,s.length<=10000) (hr:first r=none):mO=ts/\r2=r:=by
 obtain⟨us,rfl,e⟩:=h.prefix oY;cases us with
 | nil=>exact⟨by simp,by rw[e];rfl⟩
 | cons u us =>
  rw[Oh,aAq]at e;rw[e,Om u _ (h.2.2 u (by simp))]at hr;cases hr
end bC
namespace Cv
structure ag where
 id:Int
 ak:Int
 sd:Int
 pr:Int
 q:Int
def z:ag:=⟨0,0,0,0,0⟩
def nth (l:List ag) (i:Nat):ag:=l.getD i z
def ok (x:ag):Bool:=ah.aG x.id 1 1073741824&&ah.aG x.ak 0 5&&ah.aG x.sd 0 1&&ah.aG x.pr 1 1000&&ah.aG x.q 1 1000
def has (l:List ag) (id:Int):Bool:=l.any fun x=>x.id==id
def mZ (l:List ag) (i:Nat):Bool:=ok (nth l i)&&!has (l.take i) (nth l i).id
def Ak (l:List ag) (k:Nat):Prop:=∀ i,i<k->mZ l i=true
def d8 (l:List ag):Prop:=l.length<=120/\Ak l l.length
def d9 (l:List ag):Prop:=∀ x∈l,ok x=true
theorem mY {l:List ag} {i:Nat} (h:i<l.length):nth l i∈l:=by
 unfold nth;rw[gE,List.getElem?_eq_getElem h];exact List.getElem_mem h
theorem take_succ {l:List ag} {i:Nat} (h:i<l.length):l.take (i+1)=l.take i++[nth l i]:=by
 unfold nth;rw[List.take_succ_eq_append_getElem h,gE,List.getElem?_eq_getElem h];rfl
theorem QW (l:List ag) (k i:Nat):nth (l.drop k) i=nth l (k+i):=by
 unfold nth;rw[gE,gE,List.getElem?_drop]
theorem QX {l:List ag} {k i:Nat} (h:i<k):nth (l.take k) i=nth l i:=by
 unfold nth;rw[gE,gE,List.getElem?_take_of_lt h]
theorem gw {x:ag} (h:ok x=true):(1<=x.id/\x.id<=1073741824)/\(0<=x.ak/\x.ak<=5)/\(0<=x.sd/\x.sd<=1)/\(1<=x.pr/\x.pr<=1000)/\(1<=x.q/\x.q<=1000):=by
 simp only[ok,ah.aG,Bool.and_eq_true,decide_eq_true_eq]at h;omega
theorem d8.oks {l:List ag} (h:d8 l):d9 l:=by
 intro x hx;obtain⟨i,hi,rfl⟩:=List.mem_iff_getElem.1 hx
 have:=h.2 i hi
 simp only[mZ,Bool.and_eq_true]at this;have e:nth l i=l[i]:=by unfold nth;rw[gE,List.getElem?_eq_getElem hi];rfl
 rw[<- e];exact this.1
theorem d8.take {l:List ag} (h:d8 l) (k:Nat):d8 (l.take k):=by
 refine⟨by rw[lKq];have:=h.1;omega,fun i hi=>?_⟩;rw[lKq]at hi
 have:=h.2 i (by omega)
 unfold mZ at this ⊢
 rwa [QX (by omega),List.take_take,Nat.min_eq_left (by omega)]
theorem acy {a b:List ag} {id:Int} (h:∀ x∈a,x∈b) (hb:has b id=false):has a id=false:=by
 unfold has at *;rw[List.any_eq_false]at *;exact fun x hx=>hb x (h x hx)
theorem d8.drop {l:List ag} (h:d8 l) (k:Nat):d8 (l.drop k):=by
 refine⟨by rw[List.length_drop];have:=h.1;omega,fun i hi=>?_⟩;rw[List.length_drop]at hi
 have:=h.2 (k+i) (by omega)
 unfold mZ at this ⊢;rw[QW];simp only[Bool.and_eq_true,Bool.not_eq_true']at this ⊢;refine⟨this.1,acy (fun x hx=>?_) this.2⟩;rw[List.take_drop]at hx;exact List.mem_of_mem_drop hx
def dK (f:ag->Bool):List ag->Int
 | []=>0
 | x::l=>(if f x=true then x.q else 0)+dK f l
theorem QY (f:ag->Bool):∀ a b:List ag,dK f (a++b)=dK f a+dK f b
 | [],b=>by simp[dK]
 | x::a,b=>by simp[dK,QY f a b];omega
theorem Jt (f:ag->Bool) {l:List ag} {k:Nat} (h:k<l.length):dK f (l.take (k+1))=dK f (l.take k)+if f (nth l k)=true then (nth l k).q else 0:=by
 rw[take_succ h,QY];simp[dK]
theorem nc (f:ag->Bool):∀ l:List ag,d9 l->0<=dK f l/\dK f l<=1000*l.length
 | [],_=>by simp[dK]
 | x::l,h=>by
  have ih:=nc f l (fun y hy=>h y (mOq _ hy));have hx:=(gw (h x mSq)).2.2.2.2;simp only[dK,List.length_cons];split <;> omega
theorem d9.take {l:List ag} (h:d9 l) (k:Nat):d9 (l.take k):=fun x hx=>h x (List.mem_of_mem_take hx)
theorem D6 {f g:ag->Bool}:∀ l:List ag,(∀ x∈l,f x=g x)->dK f l=dK g l
 | [],_=>rfl
 | x::l,h=>by
  simp only[dK];rw[D6 l (fun y hy=>h y (mOq _ hy)),h x mSq]
theorem Qx {f:ag->Bool} (l:List ag) (h:∀ x∈l,f x=false):dK f l=0:=by
 rw[D6 (g:=fun _=>false) l h];clear h
 induction l with
 | nil=>rfl
 | cons x l ih=>simp[dK,ih]
def h_ (p:Int) (x:ag):Bool:=x.sd==0&&decide (p<=x.pr)
def sB (p:Int) (x:ag):Bool:=x.sd==1&&decide (x.pr<=p)
def iN (l:List ag) (p:Int):Int:=dK (h_ p) l
def jQ (l:List ag) (p:Int):Int:=dK (sB p) l
def better (side p than:Int):Bool:=if side=0 then decide (than<p) else decide (p<than)
def acz (side b:Int) (x:ag):Int:=if (x.sd==side&&(b==0 || better side x.pr b))=true then x.pr else b
def best (side:Int) (l:List ag):Int:=l.foldl (acz side) 0
def dy (l:List ag) (p:Int):Int:=min (iN l p) (jQ l p)
end Cv
namespace Ra
open Cv
def bB:List ag->Int
 | []=>0
 | x::l=>x.q+bB l
def Pos (l:List ag):Prop:=∀ x∈l,1<=x.q
theorem WA:∀ a b:List ag,bB (a++b)=bB a+bB b
 | [],b=>by simp[bB]
 | x::a,b=>by simp[bB,WA a b];omega
theorem WB {a b:List ag} (h:a.Perm b):bB a=bB b:=by
 induction h with
 | nil=>rfl
 | cons x _ ih=>simp[bB,ih]
 | swap x y l=>simp[bB];omega
 | trans _ _ h1 h2=>exact h1.trans h2
theorem uD:∀ l:List ag,Pos l->0<=bB l
 | [],_=>by simp[bB]
 | x::l,h=>by
  have h1:=h x mSq;have h2:=uD l (fun y hy=>h y (mOq _ hy));simp only[bB];omega
theorem NM (f:ag->Bool):∀ l:List ag,bB (l.filter f)=dK f l
 | []=>rfl
 | x::l=>by
  have ih:=NM f l;rw[List.filter_cons];simp only[dK];split
  .simp[bB,ih]
  .simp[ih]
def fill:List ag->Int->List (Int×Int)
 | [],_=>[]
 | x::l,v=>if v=0 then [] else (x.id,min x.q v)::fill l (v-min x.q v)
theorem Cz:∀ l:List ag,fill l 0=[]
 | []=>rfl
 | x::l=>by simp[fill]
theorem Ha:∀ (a b:List ag) (v:Int),Pos a->0<=v->fill (a++b) v=fill a v++fill b (v-min (bB a) v)
 | [],b,v,_,hv=>by
  have:v-min 0 v=v:=by omega
  simp[fill,bB,this]
 | x::a,b,v,h,hv=>by
  have hx:=h x mSq;have ha:Pos a:=fun y hy=>h y (mOq _ hy);have hn:=uD a ha;rw[List.cons_append];by_cases e:v=0
  .subst e
   have:(0:Int)-min (bB (x::a)) 0=0:=by simp only[bB];omega
   rw[this,Cz,Cz,Cz];rfl
  .rw[fill,fill,if_neg e,if_neg e,Ha a b _ ha (by omega),List.cons_append]
   have:v-min x.q v-min (bB a) (v-min x.q v)=v-min (bB (x::a)) v:=by simp only[bB];omega
   rw[this]
def qs:List (Int×Int)->Int
 | []=>0
 | x::l=>x.2+qs l
theorem aid:∀ a b:List (Int×Int),qs (a++b)=qs a+qs b
 | [],b=>by simp[qs]
 | x::a,b=>by simp[qs,aid a b];omega
theorem WC:∀ (l:List ag) (v:Int),Pos l->0<=v->qs (fill l v)=min (bB l) v
 | [],v,_,hv=>by simp[fill,qs,bB];omega
 | x::l,v,h,hv=>by
  have hx:=h x mSq;have ha:Pos l:=fun y hy=>h y (mOq _ hy);have hn:=uD l ha;rw[fill];split
  .simp[qs,bB];omega
  .simp only[qs,bB]
   rw[WC l _ ha (by omega)];omega
theorem wQ:∀ (l:List ag) (v:Int),Pos l->0<=v->∀ f∈fill l v,1<=f.2/\∃ x∈l,x.id=f.1
 | [],v,_,_,f,hf=>by simp[fill]at hf
 | x::l,v,h,hv,f,hf=>by
  have hx:=h x mSq;have ha:Pos l:=fun y hy=>h y (mOq _ hy);rw[fill]at hf;split at hf
  .cases hf
  .rcases List.mem_cons.1 hf with rfl | hf
   .exact⟨by simp only[];omega,x,mSq,rfl⟩
   .obtain⟨h1,y,hy,e⟩:=wQ l _ ha (by omega) f hf
    exact⟨h1,y,mOq _ hy,e⟩
def got (id:Int):List (Int×Int)->Int
 | []=>0
 | f::l=>(if f.1=id then f.2 else 0)+got id l
theorem BH (id:Int):∀ a b:List (Int×Int),got id (a++b)=got id a+got id b
 | [],b=>by simp[got]
 | x::a,b=>by simp[got,BH id a b];omega
theorem Hd (id:Int):∀ l:List (Int×Int),(∀ f∈l,f.1≠id)->got id l=0
 | [],_=>rfl
 | f::l,h=>by
  have h1:=h f mSq;have h2:=Hd id l (fun g hg=>h g (mOq _ hg));simp[got,h1,h2]
def eP (l:List ag):Prop:=(l.map (·.id)).Nodup
theorem eP.perm {a b:List ag} (h:eP a) (p:a.Perm b):eP b:=(p.map _).nodup_iff.1 h
theorem aie (a:List ag) (x:ag) (b:List ag) (v:Int) (h:Pos (a++x::b)) (hv:0<=v) (ho:eP (a++x::b)):got x.id (fill (a++x::b) v)=max 0 (min x.q (v-bB a)):=by
 have ha:Pos a:=fun y hy=>h y (List.mem_append_left _ hy);have hb:Pos b:=fun y hy=>h y (List.mem_append_right _ (mOq _ hy));have hx:=h x (List.mem_append_right _ mSq);have hn:=uD a ha;unfold eP at ho;rw[List.map_append,List.map_cons,List.nodup_append]at ho;obtain⟨_,tX,NN⟩:=ho;obtain⟨He,_⟩:=List.nodup_cons.1 tX;rw[Ha a _ v ha hv,BH,Hd x.id (fill a v)]
 .rw[fill]
  have hz:∀ u,0<=u->got x.id (fill b u)=0:=fun u hu=>Hd _ _ fun f hf e=>by
   obtain⟨_,y,hy,e2⟩:=wQ b u hb hu f hf;exact He (List.mem_map.2 ⟨y,hy,e2.trans e⟩)
  split
  .simp only[got];omega
  .simp only[got,if_true]
   rw[hz _ (by omega)];omega
 .intro f hf e
  obtain⟨_,y,hy,e2⟩:=wQ a v ha hv f hf;exact NN _ (List.mem_map.2 ⟨y,hy,rfl⟩) _ mSq (e2.trans e)
theorem WE (s:List ag) (id v:Int) (h:Pos s) (hv:0<=v) (hn:∀ x∈s,x.id≠id):got id (fill s v)=0 :=
 Hd _ _ fun f hf e=>by
  obtain⟨_,y,hy,e2⟩:=wQ s v h hv f hf;exact hn y hy (e2.trans e)
def gT (F:List (Int×Int)):List ag->Int
 | []=>0
 | x::l=>got x.id F+gT F l
theorem WG (id q:Int) (F:List (Int×Int)):∀ l:List ag,(∀ x∈l,x.id≠id)->gT ((id,q)::F) l=gT F l
 | [],_=>rfl
 | x::l,h=>by
  have h1:¬ id=x.id:=fun e=>h x mSq e.symm;simp only[gT,got];rw[if_neg h1,WG id q F l (fun y hy=>h y (mOq _ hy))];omega
theorem Hf (id q:Int) (F:List (Int×Int)):∀ l:List ag,eP l->(∃ x∈l,x.id=id)->gT ((id,q)::F) l=q+gT F l
 | [],_,h=>by obtain⟨x,hx,_⟩:=h;cases hx
 | x::l,ho,h=>by
  obtain⟨xj,tX⟩:=List.nodup_cons.1 ho;by_cases e:id=x.id
  .simp only[gT,got]
   rw[if_pos e,WG id q F l (fun y hy e2=>xj (List.mem_map.2 ⟨y,hy,e2.trans e⟩))];omega
  .simp only[gT,got]
   rw[if_neg e,Hf id q F l tX ?_]
   .omega
   .obtain⟨y,hy,e2⟩:=h
    rcases List.mem_cons.1 hy with rfl | hy
    .exact absurd e2.symm e
    .exact⟨y,hy,e2⟩
theorem WH (l:List ag) (ho:eP l):∀ F:List (Int×Int),(∀ f∈F,∃ x∈l,x.id=f.1)->gT F l=qs F
 | [],_=>by
  simp only[qs];clear ho
  induction l with
  | nil=>rfl
  | cons x l ih=>simp[gT,got,ih]
 | f::F,h=>by
  rw[show f=(f.1,f.2) from rfl,Hf f.1 f.2 F l ho (h f mSq),WH l ho F (fun g hg=>h g (mOq _ hg))];rfl
/-! levels -/
def lv (l:List ag) (sd p:Int):List ag:=l.filter fun x=>x.sd==sd&&x.pr==p
def arr (sh:List ag->List ag) (x:List ag) (v:Int):List ag:=if v<bB x then sh x else x
def row (sh:List ag->List ag) (l:List ag) (sd:Int):List Int->Int->List ag
 | [],_=>[]
 | p::ps,v=>arr sh (lv l sd p) v++row sh l sd ps (v-min (bB (lv l sd p)) v)
def sT (sh:List ag->List ag):Prop:=∀ l,(sh l).Perm l
theorem NP {sh:List ag->List ag} (hs:sT sh) (x:List ag) (v:Int):(arr sh x v).Perm x:=by
 unfold arr;split
 .exact hs x
 .exact List.Perm.refl _
theorem WI {l:List ag} (h:Pos l) (sd p:Int):Pos (lv l sd p):=fun x hx=>h x (List.mem_filter.1 hx).1
theorem WJ {sh:List ag->List ag} (hs:sT sh) {x:List ag} (h:Pos x) (v:Int):Pos (arr sh x v):=fun y hy=>h y ((NP hs x v).mem_iff.1 hy)
theorem NQ {sh:List ag->List ag} (hs:sT sh) (x:List ag) (v:Int):bB (arr sh x v)=bB x:=WB (NP hs x v)
theorem WK {sh:List ag->List ag} (hs:sT sh) (l:List ag) (sd:Int):∀ (ps:List Int) (v:Int),(row sh l sd ps v).Perm (ps.flatMap (lv l sd))
 | [],_=>List.Perm.refl _
 | p::ps,v=>by
  rw[List.flatMap_cons];exact(NP hs _ _).append (WK hs l sd ps _)
def sf (sh:List ag->List ag) (l:List ag) (sd:Int) (ps:List Int) (v:Int):List (Int×Int):=fill (row sh l sd ps v) v
theorem NR {sh:List ag->List ag} (hs:sT sh) {l:List ag} (h:Pos l) (sd p:Int) (ps:List Int) (v:Int) (hv:0<=v) :
  sf sh l sd (p::ps) v=fill (arr sh (lv l sd p) v) v++sf sh l sd ps (v-min (bB (lv l sd p)) v):=by
 unfold sf;rw[row,Ha _ _ _ (WJ hs (WI h sd p) v) hv,NQ hs]
theorem aif {sh:List ag->List ag} (hs:sT sh) {l:List ag} (h:Pos l) (sd p:Int) (ps:List Int) (v:Int) (hv:0<=v) (he:lv l sd p=[]):sf sh l sd (p::ps) v=sf sh l sd ps v:=by
 rw[NR hs h sd p ps v hv,he];have e1:arr sh [] v=[]:=by unfold arr;rw[if_neg (by simp[bB];omega)]
 have e2:v-min (bB []) v=v:=by simp[bB];omega
 rw[e1,e2];rfl
theorem NS {sh:List ag->List ag} (hs:sT sh) {l:List ag} (h:Pos l) (sd:Int):∀ (ps:List Int) (v:Int),0<=v->sf sh l sd (ps.filter fun p=>!(lv l sd p).isEmpty) v=sf sh l sd ps v
 | [],_,_=>rfl
 | p::ps,v,hv=>by
  rw[List.filter_cons];split
  .have h2:=uD _ (WI h sd p)
   rw[NR hs h sd p _ v hv,NR hs h sd p _ v hv,NS hs h sd ps _ (by omega)]
  .rename_i e
   rw[aif hs h sd p ps v hv (by simpa using e),NS hs h sd ps v hv]
/-! who is aoZ than a price -/
def el (sd price:Int) (x:ag):Bool:=x.sd==sd&&!better sd price x.pr
def NT (sd:Int) (ps:List Int):Prop:=ps.Pairwise fun p q=>better sd p q=true
theorem aih (sd p:Int):better sd p p=false:=by unfold better;split <;> simp
theorem WL {α:Type} (f g:α->Bool):∀ l:List α,(∀ x∈l,f x=true->g x=false)->(l.filter fun x=>f x || g x).Perm (l.filter f++l.filter g)
 | [],_=>List.Perm.refl _
 | x::l,h=>by
  have ih:=WL f g l (fun y hy=>h y (mOq _ hy));have hx:=h x mSq;rw[List.filter_cons,List.filter_cons,List.filter_cons];cases hf:f x
  .cases hg:g x
   .simpa using ih
   .simpa using(ih.cons x).trans List.perm_middle.symm
  .simpa [hx hf] using ih.cons x
theorem WM (l:List ag) (sd:Int):∀ ps:List Int,ps.Nodup->(ps.flatMap (lv l sd)).Perm (l.filter fun x=>x.sd==sd&&ps.contains x.pr)
 | [],_=>by simp
 | p::ps,h=>by
  obtain⟨h1,h2⟩:=List.nodup_cons.1 h;rw[List.flatMap_cons];have ih:=WM l sd ps h2;have hp:=WL (fun x:ag=>x.sd==sd&&x.pr==p) (fun x:ag=>x.sd==sd&&ps.contains x.pr) l fun x _ hx=>by
   simp only[Bool.and_eq_true,beq_iff_eq]at hx;rw[hx.2];simp[h1]
  have he:(fun x:ag=>x.sd==sd&&(p::ps).contains x.pr)=fun x:ag=>(x.sd==sd&&x.pr==p) || (x.sd==sd&&ps.contains x.pr):=by
   funext x;rw[List.contains_cons];cases x.sd==sd <;> simp
  rw[he];exact((List.Perm.refl _).append ih).trans hp.symm
/-! the three facts: within,whole ahead,one level alone -/
theorem aii {s:List ag} {v:Int} (h:Pos s) (hv:0<=v) (ho:eP s) {x:ag} (hx:x∈s):0<=got x.id (fill s v)/\got x.id (fill s v)<=x.q:=by
 obtain⟨a,b,rfl⟩:=List.append_of_mem hx;have hq:=h x hx;rw[aie a x b v h hv ho];omega
end Ra
namespace Bk
open Cv Ra
def pos (l:List ag) (id:Int):Nat:=l.findIdx fun x=>x.id==id
def del (l:List ag) (k:Nat):List ag:=l.take k++l.drop (k+1)
def put (l:List ag) (k:Nat) (x:ag):List ag:=l.take k++x::l.drop (k+1)
def less (x:ag) (q:Int):ag:=⟨x.id,x.ak,x.sd,x.pr,x.q-q⟩
structure Good (l:List ag):Prop where
 oks:d9 l
 len:l.length<=60
 once:eP l
theorem abt:Good []:=⟨fun _ h=>absurd h List.not_mem_nil,Nat.zero_le _,List.nodup_nil⟩
theorem abu (l:List ag) (id:Int):pos l id<=l.length:=List.findIdx_le_length
theorem px {l:List ag} {id:Int}:has l id=true↔pos l id<l.length:=by
 unfold has pos;rw[List.findIdx_lt_length,List.any_eq_true]
theorem Qq {l:List ag} {id:Int}:has l id=false↔pos l id=l.length:=by
 have h1:=px (l:=l) (id:=id);have h2:=abu l id;cases h:has l id
 .simp only[h]at h1;simp at h1;simp;omega
 .have:=h1.1 h;simp;omega
theorem vQ {l:List ag} {i:Nat} (h:i<l.length):nth l i=l[i]:=by
 unfold nth;rw[gE,List.getElem?_eq_getElem h];rfl
theorem vR {l:List ag} {id:Int} (h:pos l id<l.length):(nth l (pos l id)).id=id:=by
 rw[vQ h]
 have:=List.findIdx_getElem (p:=fun x:ag=>x.id==id) (xs:=l) (w:=h)
 exact eq_of_beq this
theorem zW {l:List ag} {k:Nat} (h:k<l.length):l=l.take k++nth l k::l.drop (k+1):=by
 rw[vQ h,List.getElem_cons_drop,List.take_append_drop]
theorem Jb {l:List ag} {k:Nat} (h:k<l.length):(del l k).length=l.length-1:=by
 unfold del;rw[lAq,lKq,List.length_drop];omega
theorem DI {l:List ag} {k:Nat} (h:k<l.length) (x:ag):(put l k x).length=l.length:=by
 unfold put;rw[lAq,lCq,lKq,List.length_drop];omega
theorem abv {l:List ag} {k:Nat} {x:ag} (h:x∈del l k):x∈l:=by
 rcases List.mem_append.1 h with h | h
 .exact List.mem_of_mem_take h
 .exact List.mem_of_mem_drop h
theorem abw {l:List ag} (h:Good l) {k:Nat} (hk:k<l.length):Good (del l k):=by
 refine⟨fun x hx=>h.oks x (abv hx),by rw[Jb hk];have:=h.len;omega,?_⟩;have ho:=h.once;unfold eP at ho ⊢;refine List.Nodup.sublist ?_ ho;refine List.Sublist.map _ ?_;have e:=zW hk;exact Eq.subst (motive:=fun m=>(del l k).Sublist m) e.symm (List.Sublist.append (List.Sublist.refl _) (List.sublist_cons_self _ _))
theorem abx {l:List ag} (h:Good l) {x:ag} (hx:ok x=true) (hn:has l x.id=false) (hl:l.length<60):Good (l++[x]):=by
 refine⟨fun y hy=>?_,by simp;omega,?_⟩
 .rcases List.mem_append.1 hy with hy | hy
  .exact h.oks y hy
  .rw[List.mem_singleton.1 hy];exact hx
 .have ho:=h.once
  unfold eP at ho ⊢;rw[List.map_append,List.nodup_append];refine⟨ho,by simp,fun a ha b hb=>?_⟩;obtain⟨y,hy,rfl⟩:=List.mem_map.1 ha;obtain rfl:b=x.id:=by simpa using hb
  intro e;have:has l x.id=true:=List.any_eq_true.2 ⟨y,hy,by simpa using e⟩;rw[hn]at this;cases this
theorem Qr {x:ag} {q:Int} (h:ok x=true) (h1:1<=q) (h2:q<x.q):ok (less x q)=true:=by
 have:=gw h
 simp only[ok,ah.aG,less,Bool.and_eq_true];refine⟨⟨⟨⟨⟨?_,?_⟩,?_,?_⟩,?_,?_⟩,?_,?_⟩,?_,?_⟩ <;> exact decide_eq_true (by omega)
def eV (l:List ag) (x:ag):Nat:=if ok x=true then if has l x.id=true then 2 else if 60<=l.length then 3 else 0 else 1
def kt (l:List ag) (x:ag):List ag:=if eV l x=0 then l++[x] else l
def dh (l:List ag) (id:Int):Nat:=if has l id=true then 0 else 4
def dQ (l:List ag) (id:Int):List ag:=if dh l id=0 then del l (pos l id) else l
def fC (l:List ag) (id:Int):ag:=if dh l id=0 then nth l (pos l id) else z
def ma (l:List ag) (id q:Int):Nat:=if has l id=true then if ah.aG q 1 (nth l (pos l id)).q=true then 0 else 1 else 4
def mX (l:List ag) (id q:Int):List ag:=if ma l id q=0 then if q=(nth l (pos l id)).q then del l (pos l id) else put l (pos l id) (less (nth l (pos l id)) q) else l
theorem Qs {l:List ag} {x:ag} (h:eV l x=0):ok x=true/\has l x.id=false/\l.length<60:=by
 unfold eV at h;by_cases h1:ok x=true
 .rw[if_pos h1]at h
  by_cases h2:has l x.id=true
  .rw[if_pos h2]at h;cases h
  .rw[if_neg h2]at h
   by_cases h3:60<=l.length
   .rw[if_pos h3]at h;cases h
   .exact⟨h1,by simpa using h2,by omega⟩
 .rw[if_neg h1]at h;cases h
def pj (sd:Int) (j:Nat):Int:=if sd=0 then 1000-(j:Int) else 1+(j:Int)
def all (sd:Int):List Int:=(List.range 1000).map (pj sd)
end Bk
namespace Pu
def add (f:Nat->Int) (i:Nat) (v:Int):Nat->Int:=fun j=>if j=i then f j+v else f j
def dl (i:Nat) (v:Int) (j:Nat):Int:=if j=i then v else 0
theorem BK (f:Nat->Int) (i:Nat) (v:Int) (j:Nat):add f i v j=f j+dl i v j:=by
 unfold add dl;split <;> simp
theorem za (f:Nat->Int) (i:Nat) (v:Int):add f i v i=f i+v:=by simp[add]
theorem dS (f:Nat->Int) {i j:Nat} (v:Int) (h:j≠i):add f i v j=f j:=by simp[add,h]
structure Good (f:Nat->Int):Prop where
 cash:∀ c,c<6->0<=f (c*8+1)/\f (c*8+1)<=f (c*8)/\f (c*8)<=1099511627776
 stock:∀ c k,c<6->k<3->0<=f (c*8+5+k)/\f (c*8+5+k)<=f (c*8+2+k)/\f (c*8+2+k)<=1073741824
theorem adl:Good (fun _=>0):=⟨fun _ _=>by omega,fun _ _ _ _=>by omega⟩
def well (item:Int) (x:Cv.ag):Bool:=ah.aG item 0 2&&Cv.ok x
theorem Co {item:Int} {x:Cv.ag} (h:well item x=true):∃ k:Nat,item=k/\k<3:=by
 simp only[well,ah.aG,Bool.and_eq_true,decide_eq_true_eq]at h;exact⟨item.toNat,by omega,by omega⟩
theorem kG {item:Int} {x:Cv.ag} (h:well item x=true):Cv.ok x=true:=by
 simp only[well,Bool.and_eq_true]at h;exact h.2
theorem uR {item:Int} {x:Cv.ag} (h:well item x=true):∃ c:Nat,x.ak=c/\c<6:=by
 have:=Cv.gw (kG h)
 exact⟨x.ak.toNat,by omega,by omega⟩
def hx (item:Int) (x:Cv.ag):Nat:=if x.sd=0 then x.ak.toNat*8+1 else x.ak.toNat*8+5+item.toNat
def kL (item:Int) (x:Cv.ag):Nat:=if x.sd=0 then x.ak.toNat*8 else x.ak.toNat*8+2+item.toNat
def mu (x:Cv.ag):Int:=if x.sd=0 then x.pr*x.q else x.q
theorem Ni {a b:Int} {n m:Int} (h1:1<=a) (h2:a<=n) (h3:1<=b) (h4:b<=m):1<=a*b/\a*b<=n*m:=by
 refine⟨?_,?_⟩
 .have:=Int.mul_le_mul h1 h3 (by omega) (by omega);simpa using this
 .exact Int.mul_le_mul h2 h4 (by omega) (by omega)
theorem uF {x:Cv.ag} (h:Cv.ok x=true):1<=mu x/\mu x<=1000000:=by
 obtain⟨_,_,_,h4,h5⟩:=Cv.gw h;unfold mu;split
 .have:=Ni h4.1 h4.2 h5.1 h5.2;omega
 .omega
theorem places {item:Int} {x:Cv.ag} (h:well item x=true):(∃ c:Nat,c<6/\hx item x=c*8+1/\kL item x=c*8)\/∃ c k:Nat,c<6/\k<3/\hx item x=c*8+5+k/\kL item x=c*8+2+k:=by
 obtain⟨k,hk,hk3⟩:=Co h;obtain⟨c,hc,gO⟩:=uR h;unfold hx kL;split
 .exact .inl ⟨c,gO,by omega,by omega⟩
 .exact .inr ⟨c,k,gO,hk3,by omega,by omega⟩
theorem VL {item:Int} {x:Cv.ag} (h:well item x=true):hx item x<48/\kL item x<48:=by
 rcases places h with ⟨c,h1,h2,h3⟩ | ⟨c,k,h1,h4,h2,h3⟩ <;> omega
theorem GV {f:Nat->Int} (hg:Good f) {item:Int} {x:Cv.ag} (h:well item x=true):0<=f (hx item x)/\f (hx item x)<=f (kL item x)/\f (kL item x)<=1099511627776:=by
 rcases places h with ⟨c,h1,h2,h3⟩ | ⟨c,k,h1,h4,h2,h3⟩
 .rw[h2,h3];exact hg.cash c h1
 .rw[h2,h3];have:=hg.stock c k h1 h4;omega
theorem VN {f:Nat->Int} (hg:Good f) {item:Int} {x:Cv.ag} (h:well item x=true) (v:Int) (h0:0<=f (hx item x)+v) (h1:f (hx item x)+v<=f (kL item x)):Good (add f (hx item x) v):=by
 rcases places h with ⟨c,c1,e1,e2⟩ | ⟨c,k,c1,k1,e1,e2⟩
 .rw[e1]at h0 h1 ⊢
  rw[e2]at h1;refine⟨fun c' hc'=>?_,fun c' k' hc' hk'=>?_⟩
  .have:=hg.cash c' hc'
   by_cases e:c'=c
   .subst e;rw[za,dS _ _ (by omega)];omega
   .rw[dS _ _ (by omega),dS _ _ (by omega)];exact this
  .rw[dS _ _ (by omega),dS _ _ (by omega)];exact hg.stock c' k' hc' hk'
 .rw[e1]at h0 h1 ⊢
  rw[e2]at h1;refine⟨fun c' hc'=>?_,fun c' k' hc' hk'=>?_⟩
  .rw[dS _ _ (by omega),dS _ _ (by omega)];exact hg.cash c' hc'
  .have:=hg.stock c' k' hc' hk'
   by_cases e:c'=c/\k'=k
   .obtain⟨rfl,rfl⟩:=e;rw[za,dS _ _ (by omega)];omega
   .rw[dS _ _ (by omega),dS _ _ (by omega)];exact this
def jU (f:Nat->Int) (item:Int) (x:Cv.ag):Nat:=if well item x=true then (if f (kL item x)-f (hx item x)<mu x then 9 else 0) else 1
def ky (f:Nat->Int) (item:Int) (x:Cv.ag):Nat->Int:=if jU f item x=0 then add f (hx item x) (mu x) else f
def gU (f:Nat->Int) (item:Int) (x:Cv.ag):Nat:=if well item x=true then (if f (hx item x)<mu x then 9 else 0) else 1
def fE (f:Nat->Int) (item:Int) (x:Cv.ag):Nat->Int:=if gU f item x=0 then add f (hx item x) (-(mu x)) else f
theorem VO {f:Nat->Int} {item:Int} {x:Cv.ag} (h:jU f item x=0):well item x=true/\¬ f (kL item x)-f (hx item x)<mu x:=by
 unfold jU at h;split at h
 .split at h
  .exact absurd h (by decide)
  .exact⟨by assumption,by assumption⟩
 .exact absurd h (by decide)
theorem VP {f:Nat->Int} {item:Int} {x:Cv.ag} (h:gU f item x=0):well item x=true/\¬ f (hx item x)<mu x:=by
 unfold gU at h;split at h
 .split at h
  .exact absurd h (by decide)
  .exact⟨by assumption,by assumption⟩
 .exact absurd h (by decide)
theorem ado {f:Nat->Int} (hg:Good f) (item:Int) (x:Cv.ag):Good (ky f item x):=by
 unfold ky;split
 .rename_i h
  obtain⟨h1,h2⟩:=VO h
  have:=GV hg h1
  have:=uF (kG h1)
  exact VN hg h1 _ (by omega) (by omega)
 .exact hg
theorem Rs {f:Nat->Int} (hg:Good f) (item:Int) (x:Cv.ag):Good (fE f item x):=by
 unfold fE;split
 .rename_i h
  obtain⟨h1,h2⟩:=VP h
  have:=GV hg h1
  have:=uF (kG h1)
  exact VN hg h1 _ (by omega) (by omega)
 .exact hg
structure fI where
 n:Int
 cash:Int
 s0:Int
 s1:Int
 s2:Int
def fI.neg (g:fI):Bool:=decide (g.s0<0) || decide (g.s1<0) || decide (g.s2<0) || decide (g.cash<0)
def fI.fine (g:fI):Bool:=ah.aG g.n 0 5&&!g.neg
def fI.over (f:Nat->Int) (g:fI):Bool:=decide (1099511627776-f (g.n.toNat*8)<g.cash) || decide (1073741824-f (g.n.toNat*8+2)<g.s0) || decide (1073741824-f (g.n.toNat*8+3)<g.s1) || decide (1073741824-f (g.n.toNat*8+4)<g.s2)
def jA (f:Nat->Int) (g:fI):Nat:=if g.fine=true then (if g.over f=true then 7 else 0) else 1
def iO (f:Nat->Int) (g:fI):Nat->Int:=if jA f g=0 then add (add (add (add f (g.n.toNat*8) g.cash) (g.n.toNat*8+2) g.s0) (g.n.toNat*8+3) g.s1) (g.n.toNat*8+4) g.s2 else f
theorem VQ {f:Nat->Int} {g:fI} (h:jA f g=0):(∃ c:Nat,g.n=c/\c<6/\g.cash<=1099511627776-f (c*8)/\g.s0<=1073741824-f (c*8+2)/\g.s1<=1073741824-f (c*8+3)/\g.s2<=1073741824-f (c*8+4))/\0<=g.cash/\0<=g.s0/\0<=g.s1/\0<=g.s2:=by
 unfold jA at h;split at h
 .rename_i h1
  split at h
  .exact absurd h (by decide)
  .rename_i h2
   simp only[fI.over,fI.fine,fI.neg,ah.aG,Bool.or_eq_true,Bool.and_eq_true,Bool.not_eq_true',Bool.or_eq_false_iff,decide_eq_true_eq,decide_eq_false_iff_not,not_or]at h1 h2;refine⟨⟨g.n.toNat,by omega,by omega,?_,?_,?_,?_⟩,by omega,by omega,by omega,by omega⟩ <;> omega
 .exact absurd h (by decide)
theorem adn {f:Nat->Int} (hg:Good f) (g:fI):Good (iO f g):=by
 unfold iO;split
 .rename_i h
  obtain⟨⟨c,hc,c6,b0,b1,b2,b3⟩,p0,p1,p2,p3⟩:=VQ h;rw[hc,Int.toNat_natCast];refine⟨fun c' hc'=>?_,fun c' k' hc' hk'=>?_⟩
  .have:=hg.cash c' hc'
   simp only[BK,dl];by_cases e:c'=c
   .subst e
    simp only[if_true,if_neg (show ¬ c'*8+1=c'*8 by omega),if_neg (show ¬ c'*8+1=c'*8+2 by omega),if_neg (show ¬ c'*8+1=c'*8+3 by omega),if_neg (show ¬ c'*8+1=c'*8+4 by omega),if_neg (show ¬ c'*8=c'*8+2 by omega),if_neg (show ¬ c'*8=c'*8+3 by omega),if_neg (show ¬ c'*8=c'*8+4 by omega)];omega
   .repeat rw[if_neg (by omega)]
    omega
  .have hst:=hg.stock c' k' hc' hk'
   simp only[BK,dl];by_cases e:c'=c
   .subst e
    have:k'=0\/k'=1\/k'=2:=by omega
    rcases this with rfl | rfl | rfl
    all_goals
     repeat (first | rw[if_neg (by omega)] | rw[if_pos (by omega)])
     simp only[Nat.add_zero,Nat.add_assoc,Nat.reduceAdd]at hst ⊢;omega
   .repeat rw[if_neg (by omega)]
    omega
 .exact hg
def lQ (item:Int) (b s:Cv.ag) (price qty:Int):Nat :=
 if well item b=true/\well item s=true then
  if b.sd=0/\s.sd=1 then
   if (1<=price/\price<=1000)/\1<=qty/\qty<=b.q/\qty<=s.q then
    if s.pr<=price/\price<=b.pr then 0 else 11
   else 1
  else 2
 else 1
def six (f:Nat->Int) (b s item:Nat) (bp price qty:Int):Nat->Int :=
 add (add (add (add (add (add f (b*8+1) (-(bp*qty))) (s*8+5+item) (-qty)) (b*8) (-(price*qty))) (s*8+2+item) (-qty)) (b*8+2+item) qty) (s*8) (price*qty)
def nG (f:Nat->Int) (b s item:Nat) (bp qty:Int):Bool:=decide (f (b*8+1)<bp*qty) || decide (f (s*8+5+item)<qty)
def over (f:Nat->Int) (b s item:Nat) (price qty:Int):Bool:=decide (b≠s)&&(decide (1073741824<f (b*8+2+item)+qty) || decide (1099511627776<f (s*8)+price*qty))
def ik (f:Nat->Int) (item:Int) (b s:Cv.ag) (price qty:Int):Nat :=
 if lQ item b s price qty=0 then
  if nG f b.ak.toNat s.ak.toNat item.toNat b.pr qty=true then 9
  else if over f b.ak.toNat s.ak.toNat item.toNat price qty=true then 7 else 0
 else lQ item b s price qty
def jg (f:Nat->Int) (item:Int) (b s:Cv.ag) (price qty:Int):Nat->Int :=
 if ik f item b s price qty=0 then six f b.ak.toNat s.ak.toNat item.toNat b.pr price qty else f
structure Right (item:Int) (b s:Cv.ag) (price qty:Int):Prop where
 bN:well item b=true
 ws:well item s=true
 sb:b.sd=0
 ss:s.sd=1
 p:1<=price/\price<=1000
 q:1<=qty/\qty<=b.q/\qty<=s.q
 o:s.pr<=price/\price<=b.pr
theorem VR {item:Int} {b s:Cv.ag} {price qty:Int} (h:lQ item b s price qty=0):Right item b s price qty:=by
 unfold lQ at h;split at h
 .rename_i h1
  split at h
  .rename_i h2
   split at h
   .rename_i h3
    split at h
    .rename_i h4
     exact⟨h1.1,h1.2,h2.1,h2.2,h3.1,h3.2,h4⟩
    .exact absurd h (by decide)
   .exact absurd h (by decide)
  .exact absurd h (by decide)
 .exact absurd h (by decide)
theorem Right.VT {item:Int} {b s:Cv.ag} {price qty:Int} (h:Right item b s price qty):(1<=price*qty/\price*qty<=1000000)/\(1<=b.pr*qty/\b.pr*qty<=1000000)/\price*qty<=b.pr*qty/\qty<=1000:=by
 have h1:=Cv.gw (kG h.bN);have h2:=h.q;have h3:=Ni h.p.1 h.p.2 h2.1 (show qty<=1000 by omega);have h4:=Ni h1.2.2.2.1.1 h1.2.2.2.1.2 h2.1 (show qty<=1000 by omega);have h5:=Int.mul_le_mul_of_nonneg_right h.o.2 (show 0<=qty by omega);omega
theorem BG (f:Nat->Int) (b s item:Nat) (bp price qty:Int) (j:Nat):six f b s item bp price qty j=f j+dl (b*8+1) (-(bp*qty)) j+dl (s*8+5+item) (-qty) j+dl (b*8) (-(price*qty)) j+dl (s*8+2+item) (-qty) j+dl (b*8+2+item) qty j+dl (s*8) (price*qty) j:=by
 simp only[six,BK]
theorem dD {i j:Nat} {v:Int} (h:j≠i):dl i v j=0:=by simp[dl,h]
theorem oO {i:Nat} {v:Int}:dl i v i=v:=by simp[dl]
theorem ahH {f:Nat->Int} (hg:Good f) {b s k:Nat} {bp price qty:Int} (hb:b<6) (hs:s<6) (hk:k<3) (hm:1<=price*qty/\price*qty<=bp*qty) (hq:1<=qty) (hp:nG f b s k bp qty=false) (ho:over f b s k price qty=false):Good (six f b s k bp price qty):=by
 simp only[nG,over,Bool.or_eq_false_iff,Bool.and_eq_false_iff,decide_eq_false_iff_not,Decidable.not_not]at hp ho;refine⟨fun c hc=>?_,fun c k' hc hk'=>?_⟩
 .have h1:=hg.cash c hc
  have h2:=hg.cash b hb;have h3:=hg.cash s hs;rw[BG,BG];rw[dD (i:=s*8+5+k) (by omega),dD (i:=s*8+5+k) (by omega),dD (i:=s*8+2+k) (by omega),dD (i:=s*8+2+k) (by omega),dD (i:=b*8+2+k) (by omega),dD (i:=b*8+2+k) (by omega),dD (i:=b*8) (j:=c*8+1) (by omega),dD (i:=s*8) (j:=c*8+1) (by omega),dD (i:=b*8+1) (j:=c*8) (by omega)];by_cases e1:c=b
  .subst e1
   rw[oO,oO];by_cases e2:c=s
   .subst e2;rw[oO];omega
   .rw[dD (by omega)];omega
  .rw[dD (i:=b*8+1) (by omega),dD (i:=b*8) (by omega)]
   by_cases e2:c=s
   .subst e2;rw[oO];omega
   .rw[dD (by omega)];omega
 .have h1:=hg.stock c k' hc hk'
  have h2:=hg.stock b k hb hk;have h3:=hg.stock s k hs hk;rw[BG,BG];rw[dD (i:=b*8+1) (by omega),dD (i:=b*8+1) (by omega),dD (i:=b*8) (by omega),dD (i:=b*8) (by omega),dD (i:=s*8) (by omega),dD (i:=s*8) (by omega),dD (i:=s*8+2+k) (j:=c*8+5+k') (by omega),dD (i:=b*8+2+k) (j:=c*8+5+k') (by omega),dD (i:=s*8+5+k) (j:=c*8+2+k') (by omega)];by_cases e0:k'=k
  .subst e0
   by_cases e1:c=b
   .subst e1
    rw[oO];by_cases e2:c=s
    .subst e2;rw[oO,oO];omega
    .rw[dD (by omega),dD (by omega)];omega
   .rw[dD (i:=b*8+2+k') (by omega)]
    by_cases e2:c=s
    .subst e2;rw[oO,oO];omega
    .rw[dD (by omega),dD (by omega)];omega
  .rw[dD (by omega),dD (by omega),dD (by omega)];omega
theorem VU {f:Nat->Int} {item:Int} {b s:Cv.ag} {price qty:Int} (h:ik f item b s price qty=0):Right item b s price qty/\nG f b.ak.toNat s.ak.toNat item.toNat b.pr qty=false/\over f b.ak.toNat s.ak.toNat item.toNat price qty=false:=by
 unfold ik at h;split at h
 .rename_i h1
  split at h
  .exact absurd h (by decide)
  .rename_i h2
   split at h
   .exact absurd h (by decide)
   .rename_i h3
    exact⟨VR h1,by simpa using h2,by simpa using h3⟩
 .rename_i h1;exact absurd h h1
theorem afl {f:Nat->Int} (hg:Good f) (item:Int) (b s:Cv.ag) (price qty:Int):Good (jg f item b s price qty):=by
 unfold jg;split
 .rename_i h
  obtain⟨hr,hp,ho⟩:=VU h;have hm:=hr.VT;obtain⟨k,hk,hk3⟩:=Co hr.bN;obtain⟨c,hc,gO⟩:=uR hr.bN;obtain⟨c',hc',y_⟩:=uR hr.ws;exact ahH hg (by omega) (by omega) (by omega) ⟨hm.1.1,hm.2.2.1⟩ hr.q.1 hp ho
 .exact hg
end Pu
namespace Pu
def g1 (f:Nat->Int) (b:Nat) (H:Int):Nat->Int:=add f (b*8+1) (-H)
def g2 (f:Nat->Int) (b s k:Nat) (H Q:Int):Nat->Int:=add (g1 f b H) (s*8+5+k) (-Q)
def g3 (f:Nat->Int) (b s k:Nat) (H Q A:Int):Nat->Int:=add (g2 f b s k H Q) (b*8) (-A)
def g4 (f:Nat->Int) (b s k:Nat) (H Q A:Int):Nat->Int:=add (g3 f b s k H Q A) (s*8+2+k) (-Q)
def g5 (f:Nat->Int) (b s k:Nat) (H Q A:Int):Nat->Int:=add (g4 f b s k H Q A) (b*8+2+k) Q
theorem aoW {f:Nat->Int} {b s k:Nat} {H:Int}:g1 f b H (s*8+5+k)=f (s*8+5+k)\/¬ k<3:=by
 by_cases h:k<3
 .exact .inl (dS _ _ (by omega))
 .exact .inr h
theorem ahS {f:Nat->Int} {b s k:Nat} {H:Int} (hk:k<3):g1 f b H (s*8+5+k)=f (s*8+5+k):=dS _ _ (by omega)
theorem GY {f:Nat->Int} {b s k:Nat} {H Q:Int} (hk:k<3):g2 f b s k H Q (b*8)=f (b*8):=by
 unfold g2 g1;rw[dS _ _ (by omega),dS _ _ (by omega)]
theorem GZ {f:Nat->Int} {b s k:Nat} {H Q A:Int} (hk:k<3):g3 f b s k H Q A (s*8+2+k)=f (s*8+2+k):=by
 unfold g3 g2 g1;rw[dS _ _ (by omega),dS _ _ (by omega),dS _ _ (by omega)]
theorem ahT {f:Nat->Int} {b s k:Nat} {H Q A:Int} (hk:k<3):g4 f b s k H Q A (b*8+2+k)=f (b*8+2+k)+(if b=s then -Q else 0):=by
 unfold g4;by_cases e:b=s
 .subst e;rw[za,GZ hk,if_pos rfl]
 .unfold g3 g2 g1;rw[dS _ _ (by omega),dS _ _ (by omega),dS _ _ (by omega),dS _ _ (by omega),if_neg e];simp
theorem ahU {f:Nat->Int} {b s k:Nat} {H Q A:Int} (hk:k<3):g5 f b s k H Q A (s*8)=f (s*8)+(if b=s then -A else 0):=by
 unfold g5 g4;rw[dS _ _ (by omega),dS _ _ (by omega)];unfold g3;by_cases e:b=s
 .subst e;rw[za,GY hk,if_pos rfl]
 .unfold g2 g1;rw[dS _ _ (by omega),dS _ _ (by omega),dS _ _ (by omega),if_neg e];simp
theorem grows {f:Nat->Int} (hg:Good f) {b s k:Nat} {bp price qty:Int} (hb:b<6) (hs:s<6) (hk:k<3) (hm:1<=price*qty/\price*qty<=bp*qty) (hq:1<=qty) (hp:nG f b s k bp qty=false) :
  (0<=g4 f b s k (bp*qty) qty (price*qty) (b*8+2+k)/\g4 f b s k (bp*qty) qty (price*qty) (b*8+2+k)<=1073741824)/\(0<=g5 f b s k (bp*qty) qty (price*qty) (s*8)/\g5 f b s k (bp*qty) qty (price*qty) (s*8)<=1099511627776) /\
  over f b s k price qty=(decide (1073741824-g4 f b s k (bp*qty) qty (price*qty) (b*8+2+k)<qty) || decide (1099511627776-g5 f b s k (bp*qty) qty (price*qty) (s*8)<price*qty)):=by
 rw[ahT hk,ahU hk];simp only[nG,Bool.or_eq_false_iff,decide_eq_false_iff_not]at hp;have h1:=hg.cash b hb;have h2:=hg.cash s hs;have h3:=hg.stock b k hb hk;have h4:=hg.stock s k hs hk;unfold over;by_cases e:b=s
 .subst e
  simp only[if_true];refine⟨by omega,by omega,?_⟩;rw[show decide (b≠b)=false by simp,Bool.false_and];symm;rw[Bool.or_eq_false_iff,decide_eq_false_iff_not,decide_eq_false_iff_not];omega
 .rw[if_neg e,if_neg e]
  refine⟨by omega,by omega,?_⟩;rw[show decide (b≠s)=true by simpa using e,Bool.true_and];congr 1
  .rw[decide_eq_decide];omega
  .rw[decide_eq_decide];omega
def only (x:Cv.ag) (q:Int):Cv.ag:=⟨x.id,x.ak,x.sd,x.pr,q⟩
theorem Mh {item:Int} {x:Cv.ag} {q:Int} (h:well item x=true) (h1:1<=q) (h2:q<=x.q):well item (only x q)=true:=by
 show (ah.aG item 0 2&&(ah.aG x.id 1 1073741824&&ah.aG x.ak 0 5&&ah.aG x.sd 0 1&&ah.aG x.pr 1 1000&&ah.aG q 1 1000))=true;simp only[well,Cv.ok,ah.aG,Bool.and_eq_true,decide_eq_true_eq]at h ⊢;exact⟨h.1,h.2.1,h1,Int.le_trans h2 h.2.2.2⟩
theorem ahV {f:Nat->Int} {item:Int} {x:Cv.ag} {q:Int} (h:well item x=true) (h1:1<=q) (h2:q<=x.q) (hs:x.sd=0) :
  gU f item (only x q)=(if f (x.ak.toNat*8+1)<x.pr*q then 9 else 0)/\(¬ f (x.ak.toNat*8+1)<x.pr*q->fE f item (only x q)=g1 f x.ak.toNat (x.pr*q))/\(f (x.ak.toNat*8+1)<x.pr*q->fE f item (only x q)=f):=by
 have e1:hx item (only x q)=x.ak.toNat*8+1:=by unfold hx;rw[if_pos (by exact hs)];rfl
 have e2:mu (only x q)=x.pr*q:=by unfold mu;rw[if_pos (by exact hs)];rfl
 have e3:gU f item (only x q)=(if f (x.ak.toNat*8+1)<x.pr*q then 9 else 0):=by unfold gU;rw[if_pos (Mh h h1 h2),e1,e2]
 refine⟨e3,fun hn=>?_,fun hn=>?_⟩
 .unfold fE;rw[e3,if_neg hn,if_pos rfl,e1,e2];rfl
 .unfold fE;rw[e3,if_pos hn];rfl
theorem ahW {f:Nat->Int} {item:Int} {x:Cv.ag} {q:Int} (h:well item x=true) (h1:1<=q) (h2:q<=x.q) (hs:x.sd=1) :
  gU f item (only x q)=(if f (x.ak.toNat*8+5+item.toNat)<q then 9 else 0)/\(¬ f (x.ak.toNat*8+5+item.toNat)<q->fE f item (only x q)=add f (x.ak.toNat*8+5+item.toNat) (-q))/\(f (x.ak.toNat*8+5+item.toNat)<q->fE f item (only x q)=f):=by
 have hs':¬ x.sd=0:=by omega
 have e1:hx item (only x q)=x.ak.toNat*8+5+item.toNat:=by unfold hx;rw[if_neg (by exact hs')];rfl
 have e2:mu (only x q)=q:=by unfold mu;rw[if_neg (by exact hs')];rfl
 have e3:gU f item (only x q)=(if f (x.ak.toNat*8+5+item.toNat)<q then 9 else 0):=by unfold gU;rw[if_pos (Mh h h1 h2),e1,e2]
 refine⟨e3,fun hn=>?_,fun hn=>?_⟩
 .unfold fE;rw[e3,if_neg hn,if_pos rfl,e1,e2]
 .unfold fE;rw[e3,if_pos hn];rfl
end Pu
namespace Cv
def size (n:Int):Int:=max n (-n)
def left (l:List ag) (p:Int):Int:=size (iN l p-jQ l p)
def away (ref p:Int):Int:=size (p-ref)
theorem Ji (n:Int):0<=size n:=by unfold size;omega
def tM (v s a v' s' a':Int):Bool:=if v=v' then (if s=s' then decide (a<a') else decide (s<s')) else decide (v'<v)
def fD (l:List ag) (ref n p v:Int):Prop :=
 (p=0/\v=0/\∀ q,1<=q->q<=n->dy l q=0) \/
 (0<v/\1<=p/\p<=n/\dy l p=v/\∀ q,1<=q->q<=n->dy l q<v\/dy l q=v/\(left l p<left l q\/left l p=left l q/\(away ref p<away ref q\/away ref p=away ref q/\p<=q)))
theorem fD.unique {l:List ag} {ref n p v p' v':Int} (h:fD l ref n p v) (h':fD l ref n p' v'):p=p'/\v=v':=by
 rcases h with ⟨h1,h2,h3⟩ | ⟨h1,h2,h3,h4,h5⟩
 .rcases h' with ⟨g1,g2,g3⟩ | ⟨g1,g2,g3,g4,g5⟩
  .omega
  .have:=h3 p' g2 g3;omega
 .rcases h' with ⟨g1,g2,g3⟩ | ⟨g1,g2,g3,g4,g5⟩
  .have:=g3 p h2 h3;omega
  .have a:=h5 p' g2 g3
   have b:=g5 p h2 h3;omega
theorem Qw (l:List ag) (h:d9 l) (p:Int):0<=dy l p:=by
 have hd:=(nc (h_ p) l h).1;have hs:=(nc (sB p) l h).1;unfold dy iN jQ;omega
def wl (l:List ag) (p:Int):Int:=if p=0 then 0 else left l p
def gb (ref p:Int):Int:=if p=0 then 0 else away ref p
theorem fD.start (l:List ag) (ref:Int):fD l ref 0 0 0:=.inl ⟨rfl,rfl,fun q h1 h2=>by omega⟩
theorem fD.take {l:List ag} {ref n p v:Int} (hl:d9 l) (hn:0<=n) (h:fD l ref n p v) (hb:tM (dy l (n+1)) (left l (n+1)) (away ref (n+1)) v (wl l p) (gb ref p)=true):fD l ref (n+1) (n+1) (dy l (n+1)):=by
 have v0:=Qw l hl (n+1);have s0:0<=left l (n+1):=Ji _;have a0:0<=away ref (n+1):=Ji _;unfold tM wl gb at hb;rcases h with ⟨h1,h2,h3⟩ | ⟨h1,h2,h3,h4,h5⟩
 .rw[if_pos h1,if_pos h1]at hb
  have hv:0<dy l (n+1):=by
   split at hb
   .split at hb <;> simp only[decide_eq_true_eq]at hb <;> omega
   .simp only[decide_eq_true_eq]at hb;omega
  refine .inr ⟨hv,by omega,by omega,rfl,fun q q1 q2=>?_⟩;by_cases e:q=n+1
  .rw[e];omega
  .have:=h3 q q1 (by omega);omega
 .have hp:¬ p=0:=by omega
  rw[if_neg hp,if_neg hp]at hb;have key:v<dy l (n+1)\/dy l (n+1)=v/\(left l (n+1)<left l p\/left l (n+1)=left l p/\away ref (n+1)<away ref p):=by
   split at hb
   .split at hb <;> simp only[decide_eq_true_eq]at hb <;> omega
   .simp only[decide_eq_true_eq]at hb;omega
  refine .inr ⟨by omega,by omega,by omega,rfl,fun q q1 q2=>?_⟩;by_cases e:q=n+1
  .rw[e];omega
  .have:=h5 q q1 (by omega);omega
theorem fD.keep {l:List ag} {ref n p v:Int} (hl:d9 l) (h:fD l ref n p v) (hb:tM (dy l (n+1)) (left l (n+1)) (away ref (n+1)) v (wl l p) (gb ref p)=false):fD l ref (n+1) p v:=by
 have v0:=Qw l hl (n+1);unfold tM wl gb at hb;rcases h with ⟨h1,h2,h3⟩ | ⟨h1,h2,h3,h4,h5⟩
 .refine .inl ⟨h1,h2,fun q q1 q2=>?_⟩
  by_cases e:q=n+1
  .rw[e]
   by_cases hv:dy l (n+1)=v
   .omega
   .rw[if_neg hv]at hb;simp only[decide_eq_false_iff_not]at hb;omega
  .exact h3 q q1 (by omega)
 .have hp:¬ p=0:=by omega
  rw[if_neg hp,if_neg hp]at hb;refine .inr ⟨h1,h2,by omega,h4,fun q q1 q2=>?_⟩;by_cases e:q=n+1
  .rw[e]
   split at hb
   .split at hb <;> simp only[decide_eq_false_iff_not]at hb <;> omega
   .simp only[decide_eq_false_iff_not]at hb;omega
  .exact h5 q q1 (by omega)
theorem fD.range {l:List ag} {ref n p v:Int} (h:fD l ref n p v) (hn:0<=n):0<=p/\p<=n/\0<=v:=by
 rcases h with ⟨h1,h2,h3⟩ | ⟨h1,h2,h3,h4,h5⟩ <;> omega
def jz (side p:Int) (x:ag):Bool:=x.sd==side&&x.pr==p
def at_ (l:List ag) (side p:Int):Int:=dK (jz side p) l
theorem Jj (p:Int):∀ l:List ag,iN l p=iN l (p+1)+at_ l 0 p
 | []=>rfl
 | x::l=>by
  have ih:=Jj p l;unfold iN at_ at ih ⊢;simp only[dK];by_cases hs:x.sd=0
  .by_cases h1:x.pr=p
   .have h2:p<=x.pr:=by omega
    have h3:¬ p+1<=x.pr:=by omega
    have e:(x.pr==p)=true:=by simpa using h1
    simp only[h_,jz,hs,h2,h3,e,beq_self_eq_true,decide_true,decide_false,Bool.and_self,Bool.and_false,if_true,Bool.false_eq_true,if_false];omega
   .by_cases h2:p<=x.pr
    .have h3:p+1<=x.pr:=by omega
     simp[h_,jz,hs,h1,h2,h3]at *;omega
    .have h3:¬ p+1<=x.pr:=by omega
     simp[h_,jz,hs,h1,h2,h3]at *;omega
  .simp[h_,jz,hs]at *
   omega
theorem Jk (p:Int):∀ l:List ag,jQ l (p+1)=jQ l p+at_ l 1 (p+1)
 | []=>rfl
 | x::l=>by
  have ih:=Jk p l;unfold jQ at_ at ih ⊢;simp only[dK];by_cases hs:x.sd=1
  .by_cases h1:x.pr=p+1
   .have h3:¬ x.pr<=p:=by omega
    have h2:x.pr<=p+1:=by omega
    have e:(x.pr==p+1)=true:=by simpa using h1
    simp only[sB,jz,hs,h2,h3,e,beq_self_eq_true,decide_true,decide_false,Bool.and_self,Bool.and_false,if_true,Bool.false_eq_true,if_false];omega
   .by_cases h2:x.pr<=p
    .have h3:x.pr<=p+1:=by omega
     simp[sB,jz,hs,h1,h2,h3]at *;omega
    .have h3:¬ x.pr<=p+1:=by omega
     simp[sB,jz,hs,h1,h2,h3]at *;omega
  .simp[sB,jz,hs]at *
   omega
theorem abI (l:List ag) (h:d9 l) {p:Int} (hp:1000<=p):iN l (p+1)=0 :=
 Qx l fun x hx=>by
  have:=(gw (h x hx)).2.2.2.1
  have h2:¬ p+1<=x.pr:=by omega
  simp[h_,h2]
theorem abJ (l:List ag) (h:d9 l) {p:Int} (hp:p<=0):jQ l p=0 :=
 Qx l fun x hx=>by
  have:=(gw (h x hx)).2.2.2.1
  have h2:¬ x.pr<=p:=by omega
  simp[sB,h2]
end Cv
namespace aZ
def jv (r l:Int):Bool:=ah.aG r 1 1000&&ah.aG l 0 1000
def iW (w h:Int):Bool:=ah.aG w 0 100&&ah.aG h 1 1000
def mV (p v:Int):Bool:=!decide (v<0)&&(!decide (0<v) || ah.aG p 1 1000)
def vJ (w r p:Int):Bool:=decide (Cv.size (p-r)*100<=r*w)
def oc (r l w p v:Int):Int:=if 0<l then (if l=1/\0<v then p else r) else if 0<v/\vJ w r p=true then p else r
def od (r l w h p v:Int):Int:=if 0<l then l-1 else if 0<v/\vJ w r p=false then h else l
def og (r l w p v:Int):Bool:=!decide (0<l)&&(!decide (0<v) || vJ w r p)
end aZ
theorem aa7 {r w:Int} (h1:1<=r) (h2:r<=1000) (h3:0<=w) (h4:w<=100):0<=r*w/\r*w<=100000:=by
 refine⟨Int.mul_nonneg (by omega) h3,?_⟩;have a:=Int.mul_le_mul_of_nonneg_right h2 h3;omega
namespace Fu
open Cv Bk Ra
def k5 (c:Int->Int) (x:ag):Option ag:=if c x.id<x.q then some (less x (c x.id)) else none
def rem (c:Int->Int) (l:List ag):List ag:=l.filterMap (k5 c)
def oP (id q:Int) (x:ag):Option ag:=if x.id=id then (if q<x.q then some (less x q) else none) else some x
def more (c:Int->Int) (id q:Int) (j:Int):Int:=if j=id then c j+q else c j
theorem Tz {l:List ag} (h:d9 l):rem (fun _=>0) l=l:=by
 unfold rem
 induction l with
 | nil=>rfl
 | cons x l ih =>
  have hx:=gw (h x (mSq ..));rw[List.filterMap_cons];have:k5 (fun _=>0) x=some x:=by unfold k5 less;rw[if_pos (by show (0:Int)<x.q;omega)];simp
  rw[this];simp only[];rw[ih (fun y hy=>h y (mOq _ hy))]
theorem Ud {l:List ag} {id q:Int} (h:∀ x∈l,x.id≠id):l.filterMap (oP id q)=l:=by
 induction l with
 | nil=>rfl
 | cons x l ih =>
  rw[List.filterMap_cons];have:oP id q x=some x:=by unfold oP;rw[if_neg (h x (mSq ..))]
  rw[this];simp only[];rw[ih (fun y hy=>h y (mOq _ hy))]
theorem Rx {l:List ag} (ho:eP l) {k:Nat} (hk:k<l.length):(∀ x∈l.take k,x.id≠(nth l k).id)/\∀ x∈l.drop (k+1),x.id≠(nth l k).id:=by
 have e:=zW hk;have ho':(l.map (·.id)).Nodup:=ho;have h1:((l.take k++nth l k::l.drop (k+1)).map (·.id)).Nodup:=by rw[<- e];exact ho'
 rw[List.map_append,List.map_cons,List.nodup_append]at h1;obtain⟨_,h2,h3⟩:=h1;rw[List.nodup_cons]at h2;refine⟨fun x hx Mj=>?_,fun x hx Mj=>?_⟩
 .exact h3 x.id (List.mem_map_of_mem hx) (nth l k).id (mSq ..) Mj
 .exact h2.1 (by rw[<- Mj];exact List.mem_map_of_mem hx)
theorem afr {l:List ag} (ho:eP l) {id q:Int} (hh:has l id=true) (h1:1<=q) (h2:q<=(nth l (pos l id)).q):mX l id q=l.filterMap (oP id q):=by
 have hk:=px.1 hh;have hid:=vR hk;obtain⟨ha,hb⟩:=Rx ho hk;rw[hid]at ha hb;have hC:ma l id q=0:=by unfold ma;rw[if_pos hh,if_pos (by simp[ah.aG,h1,h2])]
 have e:l.filterMap (oP id q)=(l.take (pos l id)++nth l (pos l id)::l.drop (pos l id+1)).filterMap (oP id q):=congrArg _ (zW hk);rw[e,List.filterMap_append,List.filterMap_cons,Ud ha,Ud hb];unfold mX;rw[if_pos hC];by_cases hq:q=(nth l (pos l id)).q
 .rw[if_pos hq]
  have:oP id q (nth l (pos l id))=none:=by unfold oP;rw[if_pos hid,if_neg (by omega)]
  rw[this];rfl
 .rw[if_neg hq]
  have:oP id q (nth l (pos l id))=some (less (nth l (pos l id)) q):=by unfold oP;rw[if_pos hid,if_pos (by omega)]
  rw[this];rfl
theorem afs (c:Int->Int) (l:List ag) (id q:Int) (hq:1<=q):(rem c l).filterMap (oP id q)=rem (more c id q) l:=by
 unfold rem;rw[List.filterMap_filterMap];congr 1;funext x;unfold k5 oP more;by_cases h:c x.id<x.q
 .rw[if_pos h]
  simp only[Option.bind_some,less];by_cases hi:x.id=id
  .rw[if_pos hi,if_pos hi]
   by_cases h2:q<x.q-c x.id
   .rw[if_pos h2,if_pos (by omega)]
    simp;omega
   .rw[if_neg h2,if_neg (by omega)]
  .rw[if_neg hi,if_neg hi,if_pos h]
 .rw[if_neg h]
  simp only[Option.bind_none];by_cases hi:x.id=id
  .rw[if_pos hi,if_neg (by omega)]
  .rw[if_neg hi,if_neg h]
theorem Gn {c:Int->Int} {l:List ag} {y:ag}:y∈rem c l↔∃ x∈l,c x.id<x.q/\y=less x (c x.id):=by
 unfold rem;rw[List.mem_filterMap];constructor
 .rintro⟨x,hx,h⟩
  unfold k5 at h;split at h
  .rename_i hc
   exact⟨x,hx,hc,(Option.some.inj h).symm⟩
  .cases h
 .rintro⟨x,hx,hc,rfl⟩
  exact⟨x,hx,by unfold k5;rw[if_pos hc]⟩
theorem LA {c:Int->Int} {l:List ag} {id:Int}:has (rem c l) id=true↔∃ x∈l,x.id=id/\c id<x.q:=by
 unfold has;rw[List.any_eq_true];constructor
 .rintro⟨y,hy,he⟩
  obtain⟨x,hx,hc,rfl⟩:=Gn.1 hy;have:x.id=id:=by simpa [less] using he
  exact⟨x,hx,this,by rw[<- this];exact hc⟩
 .rintro⟨x,hx,he,hc⟩
  exact⟨less x (c x.id),Gn.2 ⟨x,hx,by rw[he];exact hc,rfl⟩,by simp[less,he]⟩
theorem Ub {c:Int->Int} {l:List ag} (ho:eP l):eP (rem c l):=by
 unfold eP at *;refine List.Nodup.sublist ?_ ho;unfold rem
 induction l with
 | nil=>exact List.Sublist.refl _
 | cons x l ih =>
  have ih':=ih (by simp only[List.map_cons,List.nodup_cons]at ho;exact ho.2);rw[List.filterMap_cons];by_cases h:c x.id<x.q
  .have:k5 c x=some (less x (c x.id)):=by unfold k5;rw[if_pos h]
   rw[this];exact List.Sublist.cons_cons _ ih'
  .have:k5 c x=none:=by unfold k5;rw[if_neg h]
   rw[this];exact List.Sublist.cons _ ih'
theorem Tg {c:Int->Int} {l:List ag} (ho:eP l) {x:ag} (hx:x∈l) (hc:c x.id<x.q):nth (rem c l) (pos (rem c l) x.id)=less x (c x.id):=by
 have hh:has (rem c l) x.id=true:=LA.2 ⟨x,hx,rfl,hc⟩;have hk:=px.1 hh;have hm:nth (rem c l) (pos (rem c l) x.id)∈rem c l:=by rw[vQ hk];exact List.getElem_mem hk
 obtain⟨y,hy,_,he⟩:=Gn.1 hm;have hid:=vR hk;rw[he]at hid ⊢;have:y.id=x.id:=by simpa [less] using hid
 have hxy:y=x:=by
  have ho':(l.map (·.id)).Nodup:=ho;obtain⟨i,hi,rfl⟩:=List.mem_iff_getElem.1 hy;obtain⟨j,hj,rfl⟩:=List.mem_iff_getElem.1 hx;have hp:=List.pairwise_iff_getElem.1 ho';rcases Nat.lt_trichotomy i j with h | h | h
  .exact absurd (by rw[List.getElem_map,List.getElem_map];exact this) (hp i j (by simpa using hi) (by simpa using hj) h)
  .subst h;rfl
  .exact absurd (by rw[List.getElem_map,List.getElem_map];exact this.symm) (hp j i (by simpa using hj) (by simpa using hi) h)
 rw[hxy]
theorem aeI {c:Int->Int} {l:List ag} (ho:eP l) {x:ag} (hx:x∈l) {q:Int} (h1:1<=q) (h2:c x.id+q<=x.q):mX (rem c l) x.id q=rem (more c x.id q) l:=by
 have hc:c x.id<x.q:=by omega
 rw[afr (Ub ho) (LA.2 ⟨x,hx,rfl,hc⟩) h1 (by rw[Tg ho hx hc];simp only[less];omega),afs c l _ q h1]
end Fu
namespace Pu
theorem TS (i:Nat) (a b:Int) (j:Nat):dl i (a+b) j=dl i a j+dl i b j:=by
 unfold dl;split <;> omega
end Pu
namespace Pu
def ew (f:Nat->Int):Nat->Int
 | 0=>0
 | m+1=>ew f m+f (m*8)
def ez (f:Nat->Int) (j:Nat):Nat->Int
 | 0=>0
 | m+1=>ez f j m+f (m*8+2+j)
theorem sS {f:Nat->Int} {i:Nat} {v:Int} (h:∀ c,i≠c*8) (m:Nat):ew (add f i v) m=ew f m:=by
 induction m with
 | zero=>rfl
 | succ m ih=>simp only[ew,ih];rw[dS _ _ (fun e=>h m e.symm)]
theorem Nt {f:Nat->Int} {c:Nat} {v:Int} (m:Nat):ew (add f (c*8) v) m=ew f m+if c<m then v else 0:=by
 induction m with
 | zero=>simp[ew]
 | succ m ih =>
  simp only[ew,ih];by_cases e:c=m
  .subst e;rw[za,if_neg (by omega),if_pos (by omega)];omega
  .rw[dS _ _ (by omega)]
   by_cases h:c<m
   .rw[if_pos h,if_pos (by omega)];omega
   .rw[if_neg h,if_neg (by omega)];omega
theorem xq {f:Nat->Int} {i j:Nat} {v:Int} (h:∀ c,i≠c*8+2+j) (m:Nat):ez (add f i v) j m=ez f j m:=by
 induction m with
 | zero=>rfl
 | succ m ih=>simp only[ez,ih];rw[dS _ _ (fun e=>h m e.symm)]
theorem Ct {f:Nat->Int} {c k j:Nat} {v:Int} (hk:k<3) (hj:j<3) (m:Nat):ez (add f (c*8+2+k) v) j m=ez f j m+if c<m/\k=j then v else 0:=by
 induction m with
 | zero=>simp[ez]
 | succ m ih =>
  simp only[ez,ih];by_cases e:c=m/\k=j
  .obtain⟨rfl,rfl⟩:=e;rw[za,if_neg (by omega),if_pos (by omega)];omega
  .rw[dS _ _ (by omega)]
   by_cases h:c<m/\k=j
   .rw[if_pos h,if_pos (by omega)];omega
   .rw[if_neg h,if_neg (by omega)];omega
theorem V6 {item:Int} {x:Cv.ag} (h:well item x=true):(∀ c,hx item x≠c*8)/\∀ c j,j<3->hx item x≠c*8+2+j:=by
 rcases places h with ⟨c,c1,e1,e2⟩ | ⟨c,k,c1,k1,e1,e2⟩
 .rw[e1];exact⟨fun d=>by omega,fun d j hj=>by omega⟩
 .rw[e1];exact⟨fun d=>by omega,fun d j hj=>by omega⟩
theorem Rp (f:Nat->Int) (item:Int) (x:Cv.ag) (m:Nat):ew (ky f item x) m=ew f m/\∀ j,j<3->ez (ky f item x) j m=ez f j m:=by
 unfold ky;split
 .rename_i h
  have hw:=V6 (VO h).1;exact⟨sS hw.1 m,fun j hj=>xq (fun c=>hw.2 c j hj) m⟩
 .exact⟨rfl,fun _ _=>rfl⟩
theorem JO (f:Nat->Int) (item:Int) (x:Cv.ag) (m:Nat):ew (fE f item x) m=ew f m/\∀ j,j<3->ez (fE f item x) j m=ez f j m:=by
 unfold fE;split
 .rename_i h
  have hw:=V6 (VP h).1;exact⟨sS hw.1 m,fun j hj=>xq (fun c=>hw.2 c j hj) m⟩
 .exact⟨rfl,fun _ _=>rfl⟩
def fI.part (g:fI):Nat->Int
 | 0=>g.s0
 | 1=>g.s1
 | _=>g.s2
theorem adt {f:Nat->Int} {g:fI} (h:jA f g=0):ew (iO f g) 6=ew f 6+g.cash/\∀ j,j<3->ez (iO f g) j 6=ez f j 6+g.part j:=by
 obtain⟨⟨c,hc,c6,_⟩,_⟩:=VQ h;unfold iO;rw[if_pos h,hc,Int.toNat_natCast];refine⟨?_,fun j hj=>?_⟩
 .rw[sS (fun d=>by omega),sS (fun d=>by omega),sS (fun d=>by omega),Nt,if_pos c6]
 .have e0:c*8+2=c*8+2+0:=rfl
  have e1:c*8+3=c*8+2+1:=rfl;have e2:c*8+4=c*8+2+2:=rfl;rw[e2,Ct (by decide) hj,e1,Ct (by decide) hj,e0,Ct (by decide) hj,xq (fun d=>by omega)];have:j=0\/j=1\/j=2:=by omega
  rcases this with rfl | rfl | rfl
  .simp[c6,fI.part]
  .simp[c6,fI.part]
  .simp[c6,fI.part]
theorem Ea (f:Nat->Int) (item:Int) (b s:Cv.ag) (price qty:Int):ew (jg f item b s price qty) 6=ew f 6/\∀ j,j<3->ez (jg f item b s price qty) j 6=ez f j 6:=by
 unfold jg;split
 .rename_i h
  obtain⟨hr,_,_⟩:=VU h;obtain⟨k,hk,hk3⟩:=Co hr.bN;obtain⟨c,hc,gO⟩:=uR hr.bN;obtain⟨c',hc',y_⟩:=uR hr.ws;rw[hk,hc,hc',Int.toNat_natCast,Int.toNat_natCast,Int.toNat_natCast];unfold six;refine⟨?_,fun j hj=>?_⟩
  .rw[Nt,if_pos y_,sS (fun d=>by omega),sS (fun d=>by omega),Nt,if_pos gO,sS (fun d=>by omega),sS (fun d=>by omega)]
   omega
  .rw[xq (fun d=>by omega),Ct hk3 hj,Ct hk3 hj,xq (fun d=>by omega),xq (fun d=>by omega),xq (fun d=>by omega)]
   by_cases e:k=j
   .rw[if_pos ⟨y_,e⟩,if_pos ⟨gO,e⟩];omega
   .rw[if_neg (fun h=>e h.2),if_neg (fun h=>e h.2)];omega
 .exact⟨rfl,fun _ _=>rfl⟩
end Pu
namespace Cv
def Most (l:List ag) (n m:Int):Prop:=0<=m/\(∀ q,1<=q->q<=n->dy l q<=m)/\(m=0\/∃ q,1<=q/\q<=n/\dy l q=m)
def Ab (l:List ag) (m n s:Int):Prop :=
 (s = -1/\∀ q,1<=q->q<=n->dy l q≠m)\/(0<=s/\(∃ q,1<=q/\q<=n/\dy l q=m/\left l q=s)/\∀ q,1<=q->q<=n->dy l q=m->s<=left l q)
def Ac (l:List ag) (m s ref n b:Int):Prop :=
 (b=0/\∀ q,n<q->q<=1000->¬ (dy l q=m/\left l q=s)) \/
 (n<b/\b<=1000/\dy l b=m/\left l b=s/\∀ q,n<q->q<=1000->dy l q=m->left l q=s->away ref b<away ref q\/away ref b=away ref q/\b<=q)
theorem Most.take {l:List ag} {n m:Int} (hn:0<=n) (h:Most l n m) (hv:m<dy l (n+1)):Most l (n+1) (dy l (n+1)):=by
 obtain⟨h1,h2,h3⟩:=h;refine⟨by omega,fun q q1 q2=>?_,.inr ⟨n+1,by omega,by omega,rfl⟩⟩;by_cases e:q=n+1
 .rw[e];omega
 .have:=h2 q q1 (by omega);omega
theorem Ab.range {l:List ag} {m n s:Int} (h:Ab l m n s):-1<=s:=by
 rcases h with ⟨h1,_⟩ | ⟨h1,_⟩ <;> omega
theorem Ab.take {l:List ag} {m n s:Int} (hn:0<=n) (h:Ab l m n s) (hv:dy l (n+1)=m) (hs:s<0\/left l (n+1)<s):Ab l m (n+1) (left l (n+1)):=by
 have s0:0<=left l (n+1):=Ji _;refine .inr ⟨s0,⟨n+1,by omega,by omega,hv,rfl⟩,fun q q1 q2 q3=>?_⟩;by_cases e:q=n+1
 .rw[e];omega
 .rcases h with ⟨h1,h2⟩ | ⟨h1,h2,h3⟩
  .exact absurd q3 (h2 q q1 (by omega))
  .have:=h3 q q1 (by omega) q3;omega
theorem Ac.range {l:List ag} {m s ref n b:Int} (hn:0<=n) (h:Ac l m s ref n b):0<=b/\b<=1000:=by
 rcases h with ⟨h1,_⟩ | ⟨h1,h2,_⟩ <;> omega
theorem Ac.take {l:List ag} {m s ref n b:Int} (h0:0<=n) (hn:n<=1000) (h:Ac l m s ref n b) (hv:dy l n=m) (hs:left l n=s) (ha:b=0\/away ref n<=away ref b):Ac l m s ref (n-1) n:=by
 refine .inr ⟨by omega,hn,hv,hs,fun q q1 q2 q3 q4=>?_⟩;by_cases e:q=n
 .rw[e];omega
 .rcases h with ⟨h1,h2⟩ | ⟨h1,h2,h3,h4,h5⟩
  .exact absurd ⟨q3,q4⟩ (h2 q (by omega) q2)
  .have:=h5 q (by omega) q2 q3 q4;omega
end Cv
namespace ah
def runN:Nat->Nat->Nat->Nat
 | 0,_,r=>r
 | n+1,N,r=>runN n (N/2) (bit (r ^^^ N%2))
def Jd (l:List UInt8) (i:Nat):Nat:=(l.getD i 0).toNat+256*(l.getD (i+1) 0).toNat+65536*(l.getD (i+2) 0).toNat+16777216*(l.getD (i+3) 0).toNat
end ah
end Go.Proofs.YtjolccidheflpaaGreatDoor
