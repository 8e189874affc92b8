/- Short names. -/
import Derived.OneCell
import Derived.Test.YtjolccidheflpaaGreatDoorProg
namespace Go.Proofs.YtjolccidheflpaaGreatDoor
set_option maxHeartbeats 8000000
set_option maxRecDepth 100000
section
open Go.RowKit
abbrev E:=@Nat.le_refl
abbrev cR:=@cell_of_row
abbrev lBq:=@lt_of_block
abbrev bRq:=@Below.refl
abbrev lAq:=@List.length_append
abbrev lTq:=@Nat.le_trans
abbrev bCq:=@World.block_lt_of_cell?
abbrev hNq:=@heap_alloc_new
abbrev gE:=@List.getD_eq_getElem?_getD
abbrev mSq:=@List.mem_cons_self
abbrev mOq:=@List.mem_cons_of_mem
abbrev lKq:=@List.length_take
abbrev lCq:=@List.length_cons
abbrev aNq:=@List.append_nil
abbrev aAq:=@List.append_assoc
abbrev bEq:=@Bool.and_eq_true
abbrev Z (x:Int):Value:=.int .i64 x
abbrev O (b o:Nat):Addr:=⟨b,o,none⟩
abbrev Rw (b:Nat):Value:=.pointer (some ⟨b,0,none⟩)
abbrev U (w v:World):Prop:=Below w.heap.size w v
abbrev hz(w:World):Nat:=w.heap.size
theorem ag{w:World}{b:Nat}{xs:Array Value}{t:TypeId}{q:Nat×Nat}(h:w.heap[b]?=some (.cells xs t q))(i:Nat){v:Value}(e:xs[i]?=some v):w.cell? (O b i)=some v:=by simp[World.cell?,h,e]
theorem aC{w:World}{b:Nat}{xs:Array Value}{t:TypeId}(h:w.heap[b]?=some (.cells xs t (0,0)))(i:Nat):w.frozen? (O b i)=false:=by simp[World.frozen?,h]
theorem aG{α:Type}(a:α):∃x,a=x:=⟨_,rfl⟩
theorem aj{w:World}{b:Obj}:U w (w.alloc b):=(bRq _ _).alloc (E _) _
theorem ar{w w1 w2:World}(a:U w w1)(b:U w1 w2):U w w2:=a.trans (b.mono a.size)
end
namespace ah
def bit(r:Nat):Nat:=if r%2=1 then (r/2) ^^^ 3988292384 else r/2
def bits:Nat->Nat->Nat
 | 0,r=>r
 | n+1,r=>bits n (bit r)
def byte(r b:Nat):Nat:=bits 8 (r ^^^ b)
def run(l:List UInt8)(r:Nat):Nat:=l.foldl (fun r b=>byte r b.toNat) r
def sum(l:List UInt8):Nat:=run l 4294967295 ^^^ 4294967295
theorem G5{a b:Nat}(ha:a<4294967296)(hb:b<4294967296):a ^^^ b<4294967296:=by
 have:=Nat.xor_lt_two_pow (n:=32) (x:=a) (y:=b) (by simpa using ha) (by simpa using hb)
 simpa using this
theorem ajt{r:Nat}(h:r<4294967296):bit r<4294967296:=by
 unfold bit;split
 .exact G5 (by omega) (by decide)
 .omega
theorem NK:∀(n:Nat) {r:Nat},r<4294967296->bits n r<4294967296
 | 0,_,h=>h
 | n+1,_,h=>NK n (ajt h)
theorem Xb:∀(n r:Nat),bits (n+1) r=bit (bits n r)
 | 0,_=>rfl
 | n+1,r=>by show bits (n+1) (bit r)=bit (bits n (bit r));exact Xb n (bit r)
theorem aju{r b:Nat}(h:r<4294967296)(hb:b<256):byte r b<4294967296:=NK 8 (G5 h (by omega))
theorem NL:∀(l:List UInt8) {r:Nat},r<4294967296->run l r<4294967296
 | [],_,h=>h
 | b::l,r,h=>by
  show run l (byte r b.toNat)<4294967296;exact NL l (aju h (by have:=b.toNat_lt;omega))
theorem ajv(l:List UInt8)(b:UInt8)(r:Nat):run (l++[b]) r=byte (run l r) b.toNat:=by simp[run,List.foldl_append]
theorem sum_lt(l:List UInt8):sum l<4294967296:=G5 (NL l (by decide)) (by decide)
def aK(x lo hi:Int):Bool:=decide (lo<=x)&&decide (x<=hi)
def ny(k:Int):Bool:=k==108 || k==104 || k==111 || k==99 || k==113
def kF(k c sq it sd pr q id:Int):Bool :=
 aK c 0 5&&aK sq 0 1073741824&&aK id 0 1073741824 &&
  (if k==111 then aK it 0 2&&aK sd 0 1&&aK pr 1 1000&&aK q 1 1000 else if k==99 then aK it 0 2 else true)
def ot(k it sd pr q id:Int):Bool :=
 if k==111 then true else if k==99 then sd==0&&pr==0&&q==0 else it==0&&sd==0&&pr==0&&q==0&&id==0
def code(k c sq it sd pr q id:Int):Nat :=
 if ny k then if kF k c sq it sd pr q id then if ot k it sd pr q id then 0 else 3 else 2 else 4
end ah
namespace bL
def k_(l:List UInt8)(i:Nat):Nat:=(l.getD i 0).toNat
def iT(l:List UInt8)(i:Nat):Nat:=16777216*k_ l i+65536*k_ l (i+1)+256*k_ l (i+2)+k_ l (i+3)
def p_(l:List UInt8)(i:Nat):Nat:=k_ l i+256*k_ l (i+1)+65536*k_ l (i+2)+16777216*k_ l (i+3)
def four(n:Nat):List UInt8:=[UInt8.ofNat (n/16777216),UInt8.ofNat (n/65536),UInt8.ofNat (n/256),UInt8.ofNat n]
def low(n:Nat):List UInt8:=[UInt8.ofNat n,UInt8.ofNat (n/256),UInt8.ofNat (n/65536),UInt8.ofNat (n/16777216)]
def rec(s:List UInt8):List UInt8:=four s.length++four (4294967295-s.length)++s++low (ah.sum s)
def recs(l:List (List UInt8)):List UInt8:=(l.map rec).flatten
def first(l:List UInt8):Option (List UInt8) :=
 if l.length<8 then none
 else if iT l 4≠4294967295-iT l 0 then none
 else if 10000<iT l 0 then none
 else if l.length-8<iT l 0+4 then none
 else if p_ l (8+iT l 0)≠ah.sum ((l.drop 8).take (iT l 0)) then none
 else some ((l.drop 8).take (iT l 0))
theorem aal(l:List UInt8)(i j:Nat):k_ (l.drop i) j=k_ l (i+j):=by simp[k_,List.getD_eq_getElem?_getD]
theorem I3(l:List UInt8)(i j:Nat):p_ (l.drop i) j=p_ l (i+j):=by simp only[p_,aal,Nat.add_assoc]
theorem aoi(l:List UInt8)(i j:Nat):iT (l.drop i) j=iT l (i+j):=by simp only[iT,aal,Nat.add_assoc]
theorem I4(l r:List UInt8)(i:Nat)(h:i<l.length):k_ (l++r) i=k_ l i:=by simp[k_,List.getD_eq_getElem?_getD,List.getElem?_append_left h]
theorem wW(s:List UInt8):(rec s).length=12+s.length:=by simp[rec,four,low];omega
theorem aoj:recs []=[]:=rfl
theorem P2(s:List UInt8)(l:List (List UInt8)):recs (s::l)=rec s++recs l:=rfl
theorem P4(a:List (List UInt8))(s:List UInt8):recs (a++[s])=recs a++rec s:=by simp[recs]
theorem wX{a:UInt8}{n:Nat}(h:n%256=a.toNat):UInt8.ofNat n=a:=by apply UInt8.toNat_inj.1;rw[UInt8.toNat_ofNat'];exact h
theorem aam(a b c d:UInt8)(l:List UInt8):four (iT (a::b::c::d::l) 0)=[a,b,c,d]:=by
 have ha:=a.toNat_lt;have hb:=b.toNat_lt;have hc:=c.toNat_lt;have hd:=d.toNat_lt;simp only[four,iT,k_,List.getD_eq_getElem?_getD,List.getElem?_cons_zero,List.getElem?_cons_succ,Option.getD_some,Nat.zero_add];congr 1
 .exact wX (by omega)
 .congr 1
  .exact wX (by omega)
  .congr 1
   .exact wX (by omega)
   .congr 1
    exact wX (by omega)
theorem aok(a b c d:UInt8)(l:List UInt8):low (p_ (a::b::c::d::l) 0)=[a,b,c,d]:=by
 have ha:=a.toNat_lt;have hb:=b.toNat_lt;have hc:=c.toNat_lt;have hd:=d.toNat_lt;simp only[low,p_,k_,List.getD_eq_getElem?_getD,List.getElem?_cons_zero,List.getElem?_cons_succ,Option.getD_some,Nat.zero_add];congr 1
 .exact wX (by omega)
 .congr 1
  .exact wX (by omega)
  .congr 1
   .exact wX (by omega)
   .congr 1
    exact wX (by omega)
theorem P5(n:Nat)(h:n<4294967296)(r:List UInt8):iT (four n++r) 0=n:=by simp only[four,iT,k_,List.getD_eq_getElem?_getD,List.cons_append,List.getElem?_cons_zero,List.getElem?_cons_succ,Option.getD_some,Nat.zero_add,UInt8.toNat_ofNat'];omega
theorem aol(n:Nat)(h:n<4294967296)(r:List UInt8):p_ (low n++r) 0=n:=by simp only[low,p_,k_,List.getD_eq_getElem?_getD,List.cons_append,List.getElem?_cons_zero,List.getElem?_cons_succ,Option.getD_some,Nat.zero_add,UInt8.toNat_ofNat'];omega
theorem P6{l:List UInt8}(h:4<=l.length):∃a b c d r,l=a::b::c::d::r:=by
 match l,h with
 | a::b::c::d::r,_=>exact⟨a,b,c,d,r,rfl⟩
theorem aom{l s:List UInt8}(h:first l=some s):s.length<=10000/\12+s.length<=l.length/\l=rec s++l.drop (12+s.length):=by
 unfold first at h
 split at h;· cases h
 rename_i h8;split at h;· cases h
 rename_i h4;split at h;· cases h
 rename_i hm;split at h;· cases h
 rename_i hl;split at h;· cases h
 rename_i hs;have hs:=Decidable.not_not.1 hs;have h4:=Decidable.not_not.1 h4;have hlen:((l.drop 8).take (iT l 0)).length=iT l 0:=by simp;omega
 obtain rfl:=(Option.some.inj h);rw[hlen];refine⟨by omega,by omega,?_⟩;obtain⟨a,b,c,d,r,rfl⟩:=P6 (l:=l) (by omega);obtain⟨e,f,g,i,r,rfl⟩:=P6 (l:=r) (by simp at h8;omega);have e1:=aam a b c d (e::f::g::i::r);have e2:four (iT (a::b::c::d::e::f::g::i::r) 4)=[e,f,g,i]:=aam e f g i r;rw[h4]at e2;generalize iT (a::b::c::d::e::f::g::i::r) 0=n at *;have hdr:(a::b::c::d::e::f::g::i::r).drop 8=r:=rfl;rw[hdr]at hs hlen ⊢;have hlo:p_ (a::b::c::d::e::f::g::i::r) (8+n)=p_ (r.drop n) 0:=by rw[<- I3 _ 8 n,hdr,I3,Nat.add_zero]
 have Ih:n+4<=r.length:=by simp at hl;omega
 obtain⟨j,k,m,o,t,ht⟩:=P6 (l:=r.drop n) (by simp;omega);have e3:=aok j k m o t;rw[<- ht,<- hlo,hs]at e3;have e4:(a::b::c::d::e::f::g::i::r).drop (12+n)=t:=by rw[show 12+n=8+(n+4) by omega,<- List.drop_drop,hdr,<- List.drop_drop,ht];rfl
 rw[e4,rec,hlen,e1,e2,e3];have e5:r=r.take n++r.drop n:=(List.take_append_drop n r).symm;rw[ht]at e5;simp only[List.append_assoc,List.cons_append,List.nil_append];rw[<- e5]
theorem I5(s r:List UInt8):rec s++r=four s.length++(four (4294967295-s.length)++(s++(low (ah.sum s)++r))):=by simp[rec,List.append_assoc]
theorem P7(s r:List UInt8)(h:s.length<=10000):first (rec s++r)=some s:=by
 have e0:iT (rec s++r) 0=s.length:=by rw[I5];exact P5 _ (by omega) _
 have aon:(rec s++r).drop 4=four (4294967295-s.length)++(s++(low (ah.sum s)++r)):=by rw[I5];rfl
 have aan:(rec s++r).drop 8=s++(low (ah.sum s)++r):=by rw[I5];rfl
 have e4:iT (rec s++r) 4=4294967295-s.length:=by
  have:=aoi (rec s++r) 4 0
  rw[aon,P5 _ (by omega)]at this;exact this.symm
 have e8:p_ (rec s++r) (8+s.length)=ah.sum s:=by have h1:=I3 (rec s++r) 8 s.length;have h2:=I3 (s++(low (ah.sum s)++r)) s.length 0;rw[List.drop_left,aol _ (ah.sum_lt s),Nat.add_zero]at h2;rw[<- h1,aan];exact h2.symm
 have hlen:(rec s++r).length=12+s.length+r.length:=by rw[lAq,wW]
 unfold first
 rw[e0,e4,e8,aan,List.take_left,if_neg (by omega),if_neg (by omega),if_neg (by omega),if_neg (by omega),if_neg (by simp)]
theorem aoo(s p:List UInt8)(h:s.length<=10000)(hp:p <+: rec s)(hl:p.length<(rec s).length):first p=none:=by
 obtain⟨q,hq⟩:=hp;by_cases h8:p.length<8
 .unfold first;rw[if_pos h8]
 .have h0:iT p 0=s.length:=by
   have e0:iT (rec s++[]) 0=s.length:=by rw[I5];exact P5 _ (by omega) _
   rw[aNq,<- hq]at e0;rw[<- e0];simp only[iT];rw[I4 _ _ _ (by omega),I4 _ _ _ (by omega),I4 _ _ _ (by omega),I4 _ _ _ (by omega)]
  rw[wW]at hl;unfold first
  rw[if_neg h8,h0];split
  .rfl
  .split
   .rfl
   .rw[if_pos (by omega)]
def A6(l:List UInt8)(ts:List (List UInt8))(r:List UInt8):Prop:=l=recs ts++r/\first r=none/\∀s∈ts,s.length<=10000
theorem aop{ts nX:List (List UInt8)}{more r2:List UInt8}(h:recs ts++more=recs nX++r2)(qa:∀s∈ts,s.length<=10000)(aao:∀s∈nX,s.length<=10000)(hr:first r2=none):∃us,nX=ts++us/\more=recs us++r2:=by
 induction ts generalizing nX with
 | nil=>exact⟨nX,rfl,h⟩
 | cons t ts ih =>
  rw[P2,aAq]at h;have hf:=P7 t (recs ts++more) (qa t (by simp));cases nX with
  | nil=>rw[h]at hf;simp only[aoj,List.nil_append]at hf;rw[hr]at hf;cases hf
  | cons t2 nX =>
   rw[P2,aAq]at h;have hf2:=P7 t2 (recs nX++r2) (aao t2 (by simp));rw[h,hf2]at hf;obtain rfl:=Option.some.inj hf;have h':=List.append_cancel_left h;obtain⟨us,rfl,e⟩:=ih h' (fun s hs=>qa s (by simp[hs])) (fun s hs=>aao s (by simp[hs]));exact⟨us,rfl,e⟩
theorem A6.prefix{ts nX:List (List UInt8)}{more r2:List UInt8}(h:A6 (recs ts++more) nX r2)(qa:∀s∈ts,s.length<=10000):∃us,nX=ts++us/\more=recs us++r2 :=
 aop h.1 qa h.2.2 h.2.1
theorem A6.unique{ts nX:List (List UInt8)}{r r2:List UInt8}(h:A6 (recs ts++r) nX r2)(qa:∀s∈ts,s.length<=10000)(hr:first r=none):nX=ts/\r2=r:=by
 obtain⟨us,rfl,e⟩:=h.prefix qa;cases us with
 | nil=>exact⟨by simp,by rw[e];rfl⟩
 | cons u us =>
  rw[P2,aAq]at e;rw[e,P7 u _ (h.2.2 u (by simp))]at hr;cases hr
end bL
namespace Cv
structure af where
 id:Int
 ai:Int
 sd:Int
 pr:Int
 q:Int
def z:af:=⟨0,0,0,0,0⟩
def nth(l:List af)(i:Nat):af:=l.getD i z
def ok(x:af):Bool:=ah.aK x.id 1 1073741824&&ah.aK x.ai 0 5&&ah.aK x.sd 0 1&&ah.aK x.pr 1 1000&&ah.aK x.q 1 1000
def has(l:List af)(id:Int):Bool:=l.any fun x=>x.id==id
def qj(l:List af)(i:Nat):Bool:=ok (nth l i)&&!has (l.take i) (nth l i).id
def BR(l:List af)(k:Nat):Prop:=∀i,i<k->qj l i=true
def gh(l:List af):Prop:=l.length<=120/\BR l l.length
def eu(l:List af):Prop:=∀x∈l,ok x=true
theorem oo{l:List af}{i:Nat}(h:i<l.length):nth l i∈l:=by unfold nth;rw[gE,List.getElem?_eq_getElem h];exact List.getElem_mem h
theorem take_succ{l:List af}{i:Nat}(h:i<l.length):l.take (i+1)=l.take i++[nth l i]:=by unfold nth;rw[List.take_succ_eq_append_getElem h,gE,List.getElem?_eq_getElem h];rfl
theorem aeK{l:List af}{k i:Nat}(h:i<k):nth (l.take k) i=nth l i:=by unfold nth;rw[gE,gE,List.getElem?_take_of_lt h]
theorem gB{x:af}(h:ok x=true):(1<=x.id/\x.id<=1073741824)/\(0<=x.ai/\x.ai<=5)/\(0<=x.sd/\x.sd<=1)/\(1<=x.pr/\x.pr<=1000)/\(1<=x.q/\x.q<=1000):=by simp only[ok,ah.aK,Bool.and_eq_true,decide_eq_true_eq]at h;omega
theorem gh.oks{l:List af}(h:gh l):eu l:=by
 intro x hx;obtain⟨i,hi,rfl⟩:=List.mem_iff_getElem.1 hx
 have:=h.2 i hi
 simp only[qj,Bool.and_eq_true]at this;have e:nth l i=l[i]:=by unfold nth;rw[gE,List.getElem?_eq_getElem hi];rfl
 rw[<- e];exact this.1
def dQ(f:af->Bool):List af->Int
 | []=>0
 | x::l=>(if f x=true then x.q else 0)+dQ f l
theorem SI(f:af->Bool):∀a b:List af,dQ f (a++b)=dQ f a+dQ f b
 | [],b=>by simp[dQ]
 | x::a,b=>by simp[dQ,SI f a b];omega
theorem J3(f:af->Bool){l:List af}{k:Nat}(h:k<l.length):dQ f (l.take (k+1))=dQ f (l.take k)+if f (nth l k)=true then (nth l k).q else 0:=by rw[take_succ h,SI];simp[dQ]
theorem nz(f:af->Bool):∀l:List af,eu l->0<=dQ f l/\dQ f l<=1000*l.length
 | [],_=>by simp[dQ]
 | x::l,h=>by
  have ih:=nz f l (fun y hy=>h y (mOq _ hy));have hx:=(gB (h x mSq)).2.2.2.2;simp only[dQ,List.length_cons];split <;> omega
theorem eu.take{l:List af}(h:eu l)(k:Nat):eu (l.take k):=fun x hx=>h x (List.mem_of_mem_take hx)
theorem FB{f g:af->Bool}:∀l:List af,(∀x∈l,f x=g x)->dQ f l=dQ g l
 | [],_=>rfl
 | x::l,h=>by
  simp only[dQ];rw[FB l (fun y hy=>h y (mOq _ hy)),h x mSq]
theorem R9{f:af->Bool}(l:List af)(h:∀x∈l,f x=false):dQ f l=0:=by
 rw[FB (g:=fun _=>false) l h];clear h
 induction l with
 | nil=>rfl
 | cons x l ih=>simp[dQ,ih]
def iK(p:Int)(x:af):Bool:=x.sd==0&&decide (p<=x.pr)
def sB(p:Int)(x:af):Bool:=x.sd==1&&decide (x.pr<=p)
def ji(l:List af)(p:Int):Int:=dQ (iK p) l
def jM(l:List af)(p:Int):Int:=dQ (sB p) l
def better(side p than:Int):Bool:=if side=0 then decide (than<p) else decide (p<than)
def aeL(side b:Int)(x:af):Int:=if (x.sd==side&&(b==0 || better side x.pr b))=true then x.pr else b
def best(side:Int)(l:List af):Int:=l.foldl (aeL side) 0
def fG(l:List af)(p:Int):Int:=min (ji l p) (jM l p)
end Cv
namespace Ra
open Cv
def bN:List af->Int
 | []=>0
 | x::l=>x.q+bN l
def Pos(l:List af):Prop:=∀x∈l,1<=x.q
theorem XW:∀a b:List af,bN (a++b)=bN a+bN b
 | [],b=>by simp[bN]
 | x::a,b=>by simp[bN,XW a b];omega
theorem XX{a b:List af}(h:a.Perm b):bN a=bN b:=by
 induction h with
 | nil=>rfl
 | cons x _ ih=>simp[bN,ih]
 | swap x y l=>simp[bN];omega
 | trans _ _ h1 h2=>exact h1.trans h2
theorem vS:∀l:List af,Pos l->0<=bN l
 | [],_=>by simp[bN]
 | x::l,h=>by
  have h1:=h x mSq;have h2:=vS l (fun y hy=>h y (mOq _ hy));simp only[bN];omega
theorem Ol(f:af->Bool):∀l:List af,bN (l.filter f)=dQ f l
 | []=>rfl
 | x::l=>by
  have ih:=Ol f l;rw[List.filter_cons];simp only[dQ];split
  .simp[bN,ih]
  .simp[ih]
def fill:List af->Int->List (Int×Int)
 | [],_=>[]
 | x::l,v=>if v=0 then [] else (x.id,min x.q v)::fill l (v-min x.q v)
theorem DG:∀l:List af,fill l 0=[]
 | []=>rfl
 | x::l=>by simp[fill]
theorem Hs:∀(a b:List af) (v:Int),Pos a->0<=v->fill (a++b) v=fill a v++fill b (v-min (bN a) v)
 | [],b,v,_,hv=>by
  have:v-min 0 v=v:=by omega
  simp[fill,bN,this]
 | x::a,b,v,h,hv=>by
  have hx:=h x mSq;have ha:Pos a:=fun y hy=>h y (mOq _ hy);have hn:=vS a ha;rw[List.cons_append];by_cases e:v=0
  .subst e
   have:(0:Int)-min (bN (x::a)) 0=0:=by simp only[bN];omega
   rw[this,DG,DG,DG];rfl
  .rw[fill,fill,if_neg e,if_neg e,Hs a b _ ha (by omega),List.cons_append]
   have:v-min x.q v-min (bN a) (v-min x.q v)=v-min (bN (x::a)) v:=by simp only[bN];omega
   rw[this]
def qs:List (Int×Int)->Int
 | []=>0
 | x::l=>x.2+qs l
theorem akc:∀a b:List (Int×Int),qs (a++b)=qs a+qs b
 | [],b=>by simp[qs]
 | x::a,b=>by simp[qs,akc a b];omega
theorem XY:∀(l:List af) (v:Int),Pos l->0<=v->qs (fill l v)=min (bN l) v
 | [],v,_,hv=>by simp[fill,qs,bN];omega
 | x::l,v,h,hv=>by
  have hx:=h x mSq;have ha:Pos l:=fun y hy=>h y (mOq _ hy);have hn:=vS l ha;rw[fill];split
  .simp[qs,bN];omega
  .simp only[qs,bN]
   rw[XY l _ ha (by omega)];omega
theorem xZ:∀(l:List af) (v:Int),Pos l->0<=v->∀f∈fill l v,1<=f.2/\∃x∈l,x.id=f.1
 | [],v,_,_,f,hf=>by simp[fill]at hf
 | x::l,v,h,hv,f,hf=>by
  have hx:=h x mSq;have ha:Pos l:=fun y hy=>h y (mOq _ hy);rw[fill]at hf;split at hf
  .cases hf
  .rcases List.mem_cons.1 hf with rfl | hf
   .exact⟨by simp only[];omega,x,mSq,rfl⟩
   .obtain⟨h1,y,hy,e⟩:=xZ l _ ha (by omega) f hf
    exact⟨h1,y,mOq _ hy,e⟩
def got(id:Int):List (Int×Int)->Int
 | []=>0
 | f::l=>(if f.1=id then f.2 else 0)+got id l
theorem Dg(id:Int):∀a b:List (Int×Int),got id (a++b)=got id a+got id b
 | [],b=>by simp[got]
 | x::a,b=>by simp[got,Dg id a b];omega
theorem Ht(id:Int):∀l:List (Int×Int),(∀f∈l,f.1≠id)->got id l=0
 | [],_=>rfl
 | f::l,h=>by
  have h1:=h f mSq;have h2:=Ht id l (fun g hg=>h g (mOq _ hg));simp[got,h1,h2]
def eL(l:List af):Prop:=(l.map (·.id)).Nodup
theorem eL.perm{a b:List af}(h:eL a)(p:a.Perm b):eL b:=(p.map _).nodup_iff.1 h
theorem akd(a:List af)(x:af)(b:List af)(v:Int)(h:Pos (a++x::b))(hv:0<=v)(ho:eL (a++x::b)):got x.id (fill (a++x::b) v)=max 0 (min x.q (v-bN a)):=by
 have ha:Pos a:=fun y hy=>h y (List.mem_append_left _ hy);have hb:Pos b:=fun y hy=>h y (List.mem_append_right _ (mOq _ hy));have hx:=h x (List.mem_append_right _ mSq);have hn:=vS a ha;unfold eL at ho;rw[List.map_append,List.map_cons,List.nodup_append]at ho;obtain⟨_,B6,Om⟩:=ho;obtain⟨yA,_⟩:=List.nodup_cons.1 B6;rw[Hs a _ v ha hv,Dg,Ht x.id (fill a v)]
 .rw[fill]
  have hz:∀u,0<=u->got x.id (fill b u)=0:=fun u hu=>Ht _ _ fun f hf e=>by
   obtain⟨_,y,hy,e2⟩:=xZ b u hb hu f hf;exact yA (List.mem_map.2 ⟨y,hy,e2.trans e⟩)
  split
  .simp only[got];omega
  .simp only[got,if_true]
   rw[hz _ (by omega)];omega
 .intro f hf e
  obtain⟨_,y,hy,e2⟩:=xZ a v ha hv f hf;exact Om _ (List.mem_map.2 ⟨y,hy,rfl⟩) _ mSq (e2.trans e)
theorem XZ(s:List af)(id v:Int)(h:Pos s)(hv:0<=v)(hn:∀x∈s,x.id≠id):got id (fill s v)=0 :=
 Ht _ _ fun f hf e=>by
  obtain⟨_,y,hy,e2⟩:=xZ s v h hv f hf;exact hn y hy (e2.trans e)
def iL(F:List (Int×Int)):List af->Int
 | []=>0
 | x::l=>got x.id F+iL F l
theorem X0(id q:Int)(F:List (Int×Int)):∀l:List af,(∀x∈l,x.id≠id)->iL ((id,q)::F) l=iL F l
 | [],_=>rfl
 | x::l,h=>by
  have h1:¬ id=x.id:=fun e=>h x mSq e.symm;simp only[iL,got];rw[if_neg h1,X0 id q F l (fun y hy=>h y (mOq _ hy))];omega
theorem Hu(id q:Int)(F:List (Int×Int)):∀l:List af,eL l->(∃x∈l,x.id=id)->iL ((id,q)::F) l=q+iL F l
 | [],_,h=>by obtain⟨x,hx,_⟩:=h;cases hx
 | x::l,ho,h=>by
  obtain⟨ake,B6⟩:=List.nodup_cons.1 ho;by_cases e:id=x.id
  .simp only[iL,got]
   rw[if_pos e,X0 id q F l (fun y hy e2=>ake (List.mem_map.2 ⟨y,hy,e2.trans e⟩))];omega
  .simp only[iL,got]
   rw[if_neg e,Hu id q F l B6 ?_]
   .omega
   .obtain⟨y,hy,e2⟩:=h
    rcases List.mem_cons.1 hy with rfl | hy
    .exact absurd e2.symm e
    .exact⟨y,hy,e2⟩
theorem X3(l:List af)(ho:eL l):∀F:List (Int×Int),(∀f∈F,∃x∈l,x.id=f.1)->iL F l=qs F
 | [],_=>by
  simp only[qs];clear ho
  induction l with
  | nil=>rfl
  | cons x l ih=>simp[iL,got,ih]
 | f::F,h=>by
  rw[show f=(f.1,f.2) from rfl,Hu f.1 f.2 F l ho (h f mSq),X3 l ho F (fun g hg=>h g (mOq _ hg))];rfl
/-! levels -/
def lv(l:List af)(sd p:Int):List af:=l.filter fun x=>x.sd==sd&&x.pr==p
def arr(sh:List af->List af)(x:List af)(v:Int):List af:=if v<bN x then sh x else x
def row(sh:List af->List af)(l:List af)(sd:Int):List Int->Int->List af
 | [],_=>[]
 | p::ps,v=>arr sh (lv l sd p) v++row sh l sd ps (v-min (bN (lv l sd p)) v)
def ug(sh:List af->List af):Prop:=∀l,(sh l).Perm l
theorem On{sh:List af->List af}(hs:ug sh)(x:List af)(v:Int):(arr sh x v).Perm x:=by
 unfold arr;split
 .exact hs x
 .exact List.Perm.refl _
theorem X4{l:List af}(h:Pos l)(sd p:Int):Pos (lv l sd p):=fun x hx=>h x (List.mem_filter.1 hx).1
theorem X5{sh:List af->List af}(hs:ug sh){x:List af}(h:Pos x)(v:Int):Pos (arr sh x v):=fun y hy=>h y ((On hs x v).mem_iff.1 hy)
theorem Oo{sh:List af->List af}(hs:ug sh)(x:List af)(v:Int):bN (arr sh x v)=bN x:=XX (On hs x v)
theorem X6{sh:List af->List af}(hs:ug sh)(l:List af)(sd:Int):∀(ps:List Int) (v:Int),(row sh l sd ps v).Perm (ps.flatMap (lv l sd))
 | [],_=>List.Perm.refl _
 | p::ps,v=>by
  rw[List.flatMap_cons];exact(On hs _ _).append (X6 hs l sd ps _)
def sf(sh:List af->List af)(l:List af)(sd:Int)(ps:List Int)(v:Int):List (Int×Int):=fill (row sh l sd ps v) v
theorem Oq{sh:List af->List af}(hs:ug sh){l:List af}(h:Pos l)(sd p:Int)(ps:List Int)(v:Int)(hv:0<=v):
  sf sh l sd (p::ps) v=fill (arr sh (lv l sd p) v) v++sf sh l sd ps (v-min (bN (lv l sd p)) v):=by
 unfold sf;rw[row,Hs _ _ _ (X5 hs (X4 h sd p) v) hv,Oo hs]
theorem akf{sh:List af->List af}(hs:ug sh){l:List af}(h:Pos l)(sd p:Int)(ps:List Int)(v:Int)(hv:0<=v)(he:lv l sd p=[]):sf sh l sd (p::ps) v=sf sh l sd ps v:=by
 rw[Oq hs h sd p ps v hv,he];have e1:arr sh [] v=[]:=by unfold arr;rw[if_neg (by simp[bN];omega)]
 have e2:v-min (bN []) v=v:=by simp[bN];omega
 rw[e1,e2];rfl
theorem Ot{sh:List af->List af}(hs:ug sh){l:List af}(h:Pos l)(sd:Int):∀(ps:List Int) (v:Int),0<=v->sf sh l sd (ps.filter fun p=>!(lv l sd p).isEmpty) v=sf sh l sd ps v
 | [],_,_=>rfl
 | p::ps,v,hv=>by
  rw[List.filter_cons];split
  .have h2:=vS _ (X4 h sd p)
   rw[Oq hs h sd p _ v hv,Oq hs h sd p _ v hv,Ot hs h sd ps _ (by omega)]
  .rename_i e
   rw[akf hs h sd p ps v hv (by simpa using e),Ot hs h sd ps v hv]
/-! who is atF than a price -/
def el(sd price:Int)(x:af):Bool:=x.sd==sd&&!better sd price x.pr
def Ou(sd:Int)(ps:List Int):Prop:=ps.Pairwise fun p q=>better sd p q=true
theorem akg(sd p:Int):better sd p p=false:=by unfold better;split <;> simp
theorem X7{α:Type}(f g:α->Bool):∀l:List α,(∀x∈l,f x=true->g x=false)->(l.filter fun x=>f x || g x).Perm (l.filter f++l.filter g)
 | [],_=>List.Perm.refl _
 | x::l,h=>by
  have ih:=X7 f g l (fun y hy=>h y (mOq _ hy));have hx:=h x mSq;rw[List.filter_cons,List.filter_cons,List.filter_cons];cases hf:f x
  .cases hg:g x
   .simpa using ih
   .simpa using(ih.cons x).trans List.perm_middle.symm
  .simpa [hx hf] using ih.cons x
theorem X8(l:List af)(sd:Int):∀ps:List Int,ps.Nodup->(ps.flatMap (lv l sd)).Perm (l.filter fun x=>x.sd==sd&&ps.contains x.pr)
 | [],_=>by simp
 | p::ps,h=>by
  obtain⟨h1,h2⟩:=List.nodup_cons.1 h;rw[List.flatMap_cons];have ih:=X8 l sd ps h2;have hp:=X7 (fun x:af=>x.sd==sd&&x.pr==p) (fun x:af=>x.sd==sd&&ps.contains x.pr) l fun x _ hx=>by
   simp only[Bool.and_eq_true,beq_iff_eq]at hx;rw[hx.2];simp[h1]
  have he:(fun x:af=>x.sd==sd&&(p::ps).contains x.pr)=fun x:af=>(x.sd==sd&&x.pr==p) || (x.sd==sd&&ps.contains x.pr):=by funext x;rw[List.contains_cons];cases x.sd==sd <;> simp
  rw[he];exact((List.Perm.refl _).append ih).trans hp.symm
/-! the three facts: within,whole ahead,one level alone -/
theorem akh{s:List af}{v:Int}(h:Pos s)(hv:0<=v)(ho:eL s){x:af}(hx:x∈s):0<=got x.id (fill s v)/\got x.id (fill s v)<=x.q:=by obtain⟨a,b,rfl⟩:=List.append_of_mem hx;have hq:=h x hx;rw[akd a x b v h hv ho];omega
end Ra
namespace Bk
open Cv Ra
def pos(l:List af)(id:Int):Nat:=l.findIdx fun x=>x.id==id
def del(l:List af)(k:Nat):List af:=l.take k++l.drop (k+1)
def put(l:List af)(k:Nat)(x:af):List af:=l.take k++x::l.drop (k+1)
def less(x:af)(q:Int):af:=⟨x.id,x.ai,x.sd,x.pr,x.q-q⟩
structure Good (l:List af):Prop where
 oks:eu l
 len:l.length<=60
 once:eL l
theorem adH:Good []:=⟨fun _ h=>absurd h List.not_mem_nil,Nat.zero_le _,List.nodup_nil⟩
theorem adI(l:List af)(id:Int):pos l id<=l.length:=List.findIdx_le_length
theorem sW{l:List af}{id:Int}:has l id=true↔pos l id<l.length:=by unfold has pos;rw[List.findIdx_lt_length,List.any_eq_true]
theorem RX{l:List af}{id:Int}:has l id=false↔pos l id=l.length:=by
 have h1:=sW (l:=l) (id:=id);have h2:=adI l id;cases h:has l id
 .simp only[h]at h1;simp at h1;simp;omega
 .have:=h1.1 h;simp;omega
theorem vg{l:List af}{i:Nat}(h:i<l.length):nth l i=l[i]:=by unfold nth;rw[gE,List.getElem?_eq_getElem h];rfl
theorem BD{l:List af}{id:Int}(h:pos l id<l.length):(nth l (pos l id)).id=id:=by
 rw[vg h]
 have:=List.findIdx_getElem (p:=fun x:af=>x.id==id) (xs:=l) (w:=h)
 exact eq_of_beq this
theorem Bt{l:List af}{k:Nat}(h:k<l.length):l=l.take k++nth l k::l.drop (k+1):=by rw[vg h,List.getElem_cons_drop,List.take_append_drop]
theorem JK{l:List af}{k:Nat}(h:k<l.length):(del l k).length=l.length-1:=by unfold del;rw[lAq,lKq,List.length_drop];omega
theorem Fb{l:List af}{k:Nat}(h:k<l.length)(x:af):(put l k x).length=l.length:=by unfold put;rw[lAq,lCq,lKq,List.length_drop];omega
theorem adJ{l:List af}{k:Nat}{x:af}(h:x∈del l k):x∈l:=by
 rcases List.mem_append.1 h with h | h
 .exact List.mem_of_mem_take h
 .exact List.mem_of_mem_drop h
theorem adK{l:List af}(h:Good l){k:Nat}(hk:k<l.length):Good (del l k):=by refine⟨fun x hx=>h.oks x (adJ hx),by rw[JK hk];have:=h.len;omega,?_⟩;have ho:=h.once;unfold eL at ho ⊢;refine List.Nodup.sublist ?_ ho;refine List.Sublist.map _ ?_;have e:=Bt hk;exact Eq.subst (motive:=fun m=>(del l k).Sublist m) e.symm (List.Sublist.append (List.Sublist.refl _) (List.sublist_cons_self _ _))
theorem adL{l:List af}(h:Good l){x:af}(hx:ok x=true)(hn:has l x.id=false)(hl:l.length<60):Good (l++[x]):=by
 refine⟨fun y hy=>?_,by simp;omega,?_⟩
 .rcases List.mem_append.1 hy with hy | hy
  .exact h.oks y hy
  .rw[List.mem_singleton.1 hy];exact hx
 .have ho:=h.once
  unfold eL at ho ⊢;rw[List.map_append,List.nodup_append];refine⟨ho,by simp,fun a ha b hb=>?_⟩;obtain⟨y,hy,rfl⟩:=List.mem_map.1 ha;obtain rfl:b=x.id:=by simpa using hb
  intro e;have:has l x.id=true:=List.any_eq_true.2 ⟨y,hy,by simpa using e⟩;rw[hn]at this;cases this
theorem RY{x:af}{q:Int}(h:ok x=true)(h1:1<=q)(h2:q<x.q):ok (less x q)=true:=by
 have:=gB h
 simp only[ok,ah.aK,less,Bool.and_eq_true];refine⟨⟨⟨⟨⟨?_,?_⟩,?_,?_⟩,?_,?_⟩,?_,?_⟩,?_,?_⟩ <;> exact decide_eq_true (by omega)
def fF(l:List af)(x:af):Nat:=if ok x=true then if has l x.id=true then 2 else if 60<=l.length then 3 else 0 else 1
def lq(l:List af)(x:af):List af:=if fF l x=0 then l++[x] else l
def dP(l:List af)(id:Int):Nat:=if has l id=true then 0 else 4
def eZ(l:List af)(id:Int):List af:=if dP l id=0 then del l (pos l id) else l
def gA(l:List af)(id:Int):af:=if dP l id=0 then nth l (pos l id) else z
def nu(l:List af)(id q:Int):Nat:=if has l id=true then if ah.aK q 1 (nth l (pos l id)).q=true then 0 else 1 else 4
def om(l:List af)(id q:Int):List af:=if nu l id q=0 then if q=(nth l (pos l id)).q then del l (pos l id) else put l (pos l id) (less (nth l (pos l id)) q) else l
theorem RZ{l:List af}{x:af}(h:fF l x=0):ok x=true/\has l x.id=false/\l.length<60:=by
 unfold fF at h;by_cases h1:ok x=true
 .rw[if_pos h1]at h
  by_cases h2:has l x.id=true
  .rw[if_pos h2]at h;cases h
  .rw[if_neg h2]at h
   by_cases h3:60<=l.length
   .rw[if_pos h3]at h;cases h
   .exact⟨h1,by simpa using h2,by omega⟩
 .rw[if_neg h1]at h;cases h
def pj(sd:Int)(j:Nat):Int:=if sd=0 then 1000-(j:Int) else 1+(j:Int)
def all(sd:Int):List Int:=(List.range 1000).map (pj sd)
end Bk
namespace Pu
def add(f:Nat->Int)(i:Nat)(v:Int):Nat->Int:=fun j=>if j=i then f j+v else f j
def dl(i:Nat)(v:Int)(j:Nat):Int:=if j=i then v else 0
theorem Dj(f:Nat->Int)(i:Nat)(v:Int)(j:Nat):add f i v j=f j+dl i v j:=by unfold add dl;split <;> simp
theorem Ao(f:Nat->Int)(i:Nat)(v:Int):add f i v i=f i+v:=by simp[add]
theorem ei(f:Nat->Int){i j:Nat}(v:Int)(h:j≠i):add f i v j=f j:=by simp[add,h]
structure Good (f:Nat->Int):Prop where
 cash:∀c,c<6->0<=f (c*8+1)/\f (c*8+1)<=f (c*8)/\f (c*8)<=1099511627776
 stock:∀c k,c<6->k<3->0<=f (c*8+5+k)/\f (c*8+5+k)<=f (c*8+2+k)/\f (c*8+2+k)<=1073741824
theorem aft:Good (fun _=>0):=⟨fun _ _=>by omega,fun _ _ _ _=>by omega⟩
def well(item:Int)(x:Cv.af):Bool:=ah.aK item 0 2&&Cv.ok x
theorem Du{item:Int}{x:Cv.af}(h:well item x=true):∃k:Nat,item=k/\k<3:=by simp only[well,ah.aK,Bool.and_eq_true,decide_eq_true_eq]at h;exact⟨item.toNat,by omega,by omega⟩
theorem lD{item:Int}{x:Cv.af}(h:well item x=true):Cv.ok x=true:=by simp only[well,Bool.and_eq_true]at h;exact h.2
theorem wu{item:Int}{x:Cv.af}(h:well item x=true):∃c:Nat,x.ai=c/\c<6:=by
 have:=Cv.gB (lD h)
 exact⟨x.ai.toNat,by omega,by omega⟩
def hx(item:Int)(x:Cv.af):Nat:=if x.sd=0 then x.ai.toNat*8+1 else x.ai.toNat*8+5+item.toNat
def bD(item:Int)(x:Cv.af):Nat:=if x.sd=0 then x.ai.toNat*8 else x.ai.toNat*8+2+item.toNat
def mu(x:Cv.af):Int:=if x.sd=0 then x.pr*x.q else x.q
theorem NN{a b:Int}{n m:Int}(h1:1<=a)(h2:a<=n)(h3:1<=b)(h4:b<=m):1<=a*b/\a*b<=n*m:=by
 refine⟨?_,?_⟩
 .have:=Int.mul_le_mul h1 h3 (by omega) (by omega);simpa using this
 .exact Int.mul_le_mul h2 h4 (by omega) (by omega)
theorem vU{x:Cv.af}(h:Cv.ok x=true):1<=mu x/\mu x<=1000000:=by
 obtain⟨_,_,_,h4,h5⟩:=Cv.gB h;unfold mu;split
 .have:=NN h4.1 h4.2 h5.1 h5.2;omega
 .omega
theorem places{item:Int}{x:Cv.af}(h:well item x=true):(∃c:Nat,c<6/\hx item x=c*8+1/\bD item x=c*8)\/∃c k:Nat,c<6/\k<3/\hx item x=c*8+5+k/\bD item x=c*8+2+k:=by
 obtain⟨k,hk,hk3⟩:=Du h;obtain⟨c,hc,ju⟩:=wu h;unfold hx bD;split
 .exact .inl ⟨c,ju,by omega,by omega⟩
 .exact .inr ⟨c,k,ju,hk3,by omega,by omega⟩
theorem Xg{item:Int}{x:Cv.af}(h:well item x=true):hx item x<48/\bD item x<48:=by rcases places h with ⟨c,h1,h2,h3⟩ | ⟨c,k,h1,h4,h2,h3⟩ <;> omega
theorem G8{f:Nat->Int}(hg:Good f){item:Int}{x:Cv.af}(h:well item x=true):0<=f (hx item x)/\f (hx item x)<=f (bD item x)/\f (bD item x)<=1099511627776:=by
 rcases places h with ⟨c,h1,h2,h3⟩ | ⟨c,k,h1,h4,h2,h3⟩
 .rw[h2,h3];exact hg.cash c h1
 .rw[h2,h3];have:=hg.stock c k h1 h4;omega
theorem Xh{f:Nat->Int}(hg:Good f){item:Int}{x:Cv.af}(h:well item x=true)(v:Int)(h0:0<=f (hx item x)+v)(h1:f (hx item x)+v<=f (bD item x)):Good (add f (hx item x) v):=by
 rcases places h with ⟨c,c1,e1,e2⟩ | ⟨c,k,c1,k1,e1,e2⟩
 .rw[e1]at h0 h1 ⊢
  rw[e2]at h1;refine⟨fun c' hc'=>?_,fun c' k' hc' hk'=>?_⟩
  .have:=hg.cash c' hc'
   by_cases e:c'=c
   .subst e;rw[Ao,ei _ _ (by omega)];omega
   .rw[ei _ _ (by omega),ei _ _ (by omega)];exact this
  .rw[ei _ _ (by omega),ei _ _ (by omega)];exact hg.stock c' k' hc' hk'
 .rw[e1]at h0 h1 ⊢
  rw[e2]at h1;refine⟨fun c' hc'=>?_,fun c' k' hc' hk'=>?_⟩
  .rw[ei _ _ (by omega),ei _ _ (by omega)];exact hg.cash c' hc'
  .have:=hg.stock c' k' hc' hk'
   by_cases e:c'=c/\k'=k
   .obtain⟨rfl,rfl⟩:=e;rw[Ao,ei _ _ (by omega)];omega
   .rw[ei _ _ (by omega),ei _ _ (by omega)];exact this
def kJ(f:Nat->Int)(item:Int)(x:Cv.af):Nat:=if well item x=true then (if f (bD item x)-f (hx item x)<mu x then 9 else 0) else 1
def lw(f:Nat->Int)(item:Int)(x:Cv.af):Nat->Int:=if kJ f item x=0 then add f (hx item x) (mu x) else f
def iM(f:Nat->Int)(item:Int)(x:Cv.af):Nat:=if well item x=true then (if f (hx item x)<mu x then 9 else 0) else 1
def gp(f:Nat->Int)(item:Int)(x:Cv.af):Nat->Int:=if iM f item x=0 then add f (hx item x) (-(mu x)) else f
theorem Xi{f:Nat->Int}{item:Int}{x:Cv.af}(h:kJ f item x=0):well item x=true/\¬ f (bD item x)-f (hx item x)<mu x:=by
 unfold kJ at h;split at h
 .split at h
  .exact absurd h (by decide)
  .exact⟨by assumption,by assumption⟩
 .exact absurd h (by decide)
theorem Xj{f:Nat->Int}{item:Int}{x:Cv.af}(h:iM f item x=0):well item x=true/\¬ f (hx item x)<mu x:=by
 unfold iM at h;split at h
 .split at h
  .exact absurd h (by decide)
  .exact⟨by assumption,by assumption⟩
 .exact absurd h (by decide)
theorem afv{f:Nat->Int}(hg:Good f)(item:Int)(x:Cv.af):Good (lw f item x):=by
 unfold lw;split
 .rename_i h
  obtain⟨h1,h2⟩:=Xi h
  have:=G8 hg h1
  have:=vU (lD h1)
  exact Xh hg h1 _ (by omega) (by omega)
 .exact hg
theorem Tk{f:Nat->Int}(hg:Good f)(item:Int)(x:Cv.af):Good (gp f item x):=by
 unfold gp;split
 .rename_i h
  obtain⟨h1,h2⟩:=Xj h
  have:=G8 hg h1
  have:=vU (lD h1)
  exact Xh hg h1 _ (by omega) (by omega)
 .exact hg
structure gD where
 n:Int
 cash:Int
 s0:Int
 s1:Int
 s2:Int
def gD.neg(g:gD):Bool:=decide (g.s0<0) || decide (g.s1<0) || decide (g.s2<0) || decide (g.cash<0)
def gD.fine(g:gD):Bool:=ah.aK g.n 0 5&&!g.neg
def gD.over(f:Nat->Int)(g:gD):Bool:=decide (1099511627776-f (g.n.toNat*8)<g.cash) || decide (1073741824-f (g.n.toNat*8+2)<g.s0) || decide (1073741824-f (g.n.toNat*8+3)<g.s1) || decide (1073741824-f (g.n.toNat*8+4)<g.s2)
def kj(f:Nat->Int)(g:gD):Nat:=if g.fine=true then (if g.over f=true then 7 else 0) else 1
def jB(f:Nat->Int)(g:gD):Nat->Int:=if kj f g=0 then add (add (add (add f (g.n.toNat*8) g.cash) (g.n.toNat*8+2) g.s0) (g.n.toNat*8+3) g.s1) (g.n.toNat*8+4) g.s2 else f
theorem Xk{f:Nat->Int}{g:gD}(h:kj f g=0):(∃c:Nat,g.n=c/\c<6/\g.cash<=1099511627776-f (c*8)/\g.s0<=1073741824-f (c*8+2)/\g.s1<=1073741824-f (c*8+3)/\g.s2<=1073741824-f (c*8+4))/\0<=g.cash/\0<=g.s0/\0<=g.s1/\0<=g.s2:=by
 unfold kj at h;split at h
 .rename_i h1
  split at h
  .exact absurd h (by decide)
  .rename_i h2
   simp only[gD.over,gD.fine,gD.neg,ah.aK,Bool.or_eq_true,Bool.and_eq_true,Bool.not_eq_true',Bool.or_eq_false_iff,decide_eq_true_eq,decide_eq_false_iff_not,not_or]at h1 h2;refine⟨⟨g.n.toNat,by omega,by omega,?_,?_,?_,?_⟩,by omega,by omega,by omega,by omega⟩ <;> omega
 .exact absurd h (by decide)
theorem afu{f:Nat->Int}(hg:Good f)(g:gD):Good (jB f g):=by
 unfold jB;split
 .rename_i h
  obtain⟨⟨c,hc,c6,b0,b1,b2,b3⟩,p0,p1,p2,p3⟩:=Xk h;rw[hc,Int.toNat_natCast];refine⟨fun c' hc'=>?_,fun c' k' hc' hk'=>?_⟩
  .have:=hg.cash c' hc'
   simp only[Dj,dl];by_cases e:c'=c
   .subst e
    simp only[if_true,if_neg (show ¬ c'*8+1=c'*8 by omega),if_neg (show ¬ c'*8+1=c'*8+2 by omega),if_neg (show ¬ c'*8+1=c'*8+3 by omega),if_neg (show ¬ c'*8+1=c'*8+4 by omega),if_neg (show ¬ c'*8=c'*8+2 by omega),if_neg (show ¬ c'*8=c'*8+3 by omega),if_neg (show ¬ c'*8=c'*8+4 by omega)];omega
   .repeat rw[if_neg (by omega)]
    omega
  .have hst:=hg.stock c' k' hc' hk'
   simp only[Dj,dl];by_cases e:c'=c
   .subst e
    have:k'=0\/k'=1\/k'=2:=by omega
    rcases this with rfl | rfl | rfl
    all_goals
     repeat (first | rw[if_neg (by omega)] | rw[if_pos (by omega)])
     simp only[Nat.add_zero,Nat.add_assoc,Nat.reduceAdd]at hst ⊢;omega
   .repeat rw[if_neg (by omega)]
    omega
 .exact hg
def mN(item:Int)(b s:Cv.af)(price qty:Int):Nat :=
 if well item b=true/\well item s=true then
  if b.sd=0/\s.sd=1 then
   if (1<=price/\price<=1000)/\1<=qty/\qty<=b.q/\qty<=s.q then
    if s.pr<=price/\price<=b.pr then 0 else 11
   else 1
  else 2
 else 1
def six(f:Nat->Int)(b s item:Nat)(bp price qty:Int):Nat->Int :=
 add (add (add (add (add (add f (b*8+1) (-(bp*qty))) (s*8+5+item) (-qty)) (b*8) (-(price*qty))) (s*8+2+item) (-qty)) (b*8+2+item) qty) (s*8) (price*qty)
def oP(f:Nat->Int)(b s item:Nat)(bp qty:Int):Bool:=decide (f (b*8+1)<bp*qty) || decide (f (s*8+5+item)<qty)
def over(f:Nat->Int)(b s item:Nat)(price qty:Int):Bool:=decide (b≠s)&&(decide (1073741824<f (b*8+2+item)+qty) || decide (1099511627776<f (s*8)+price*qty))
def i7(f:Nat->Int)(item:Int)(b s:Cv.af)(price qty:Int):Nat :=
 if mN item b s price qty=0 then
  if oP f b.ai.toNat s.ai.toNat item.toNat b.pr qty=true then 9
  else if over f b.ai.toNat s.ai.toNat item.toNat price qty=true then 7 else 0
 else mN item b s price qty
def jU(f:Nat->Int)(item:Int)(b s:Cv.af)(price qty:Int):Nat->Int :=
 if i7 f item b s price qty=0 then six f b.ai.toNat s.ai.toNat item.toNat b.pr price qty else f
structure Right (item:Int) (b s:Cv.af) (price qty:Int):Prop where
 dm:well item b=true
 ws:well item s=true
 sb:b.sd=0
 ss:s.sd=1
 p:1<=price/\price<=1000
 q:1<=qty/\qty<=b.q/\qty<=s.q
 o:s.pr<=price/\price<=b.pr
theorem Xl{item:Int}{b s:Cv.af}{price qty:Int}(h:mN item b s price qty=0):Right item b s price qty:=by
 unfold mN at h;split at h
 .rename_i h1
  split at h
  .rename_i h2
   split at h
   .rename_i h3
    split at h
    .rename_i h4
     exact⟨h1.1,h1.2,h2.1,h2.2,h3.1,h3.2,h4⟩
    .exact absurd h (by decide)
   .exact absurd h (by decide)
  .exact absurd h (by decide)
 .exact absurd h (by decide)
theorem Right.Xm{item:Int}{b s:Cv.af}{price qty:Int}(h:Right item b s price qty):(1<=price*qty/\price*qty<=1000000)/\(1<=b.pr*qty/\b.pr*qty<=1000000)/\price*qty<=b.pr*qty/\qty<=1000:=by have h1:=Cv.gB (lD h.dm);have h2:=h.q;have h3:=NN h.p.1 h.p.2 h2.1 (show qty<=1000 by omega);have h4:=NN h1.2.2.2.1.1 h1.2.2.2.1.2 h2.1 (show qty<=1000 by omega);have h5:=Int.mul_le_mul_of_nonneg_right h.o.2 (show 0<=qty by omega);omega
theorem Df(f:Nat->Int)(b s item:Nat)(bp price qty:Int)(j:Nat):six f b s item bp price qty j=f j+dl (b*8+1) (-(bp*qty)) j+dl (s*8+5+item) (-qty) j+dl (b*8) (-(price*qty)) j+dl (s*8+2+item) (-qty) j+dl (b*8+2+item) qty j+dl (s*8) (price*qty) j:=by simp only[six,Dj]
theorem dR{i j:Nat}{v:Int}(h:j≠i):dl i v j=0:=by simp[dl,h]
theorem pT{i:Nat}{v:Int}:dl i v i=v:=by simp[dl]
theorem ajx{f:Nat->Int}(hg:Good f){b s k:Nat}{bp price qty:Int}(hb:b<6)(hs:s<6)(hk:k<3)(hm:1<=price*qty/\price*qty<=bp*qty)(hq:1<=qty)(hp:oP f b s k bp qty=false)(ho:over f b s k price qty=false):Good (six f b s k bp price qty):=by
 simp only[oP,over,Bool.or_eq_false_iff,Bool.and_eq_false_iff,decide_eq_false_iff_not,Decidable.not_not]at hp ho;refine⟨fun c hc=>?_,fun c k' hc hk'=>?_⟩
 .have h1:=hg.cash c hc
  have h2:=hg.cash b hb;have h3:=hg.cash s hs;rw[Df,Df];rw[dR (i:=s*8+5+k) (by omega),dR (i:=s*8+5+k) (by omega),dR (i:=s*8+2+k) (by omega),dR (i:=s*8+2+k) (by omega),dR (i:=b*8+2+k) (by omega),dR (i:=b*8+2+k) (by omega),dR (i:=b*8) (j:=c*8+1) (by omega),dR (i:=s*8) (j:=c*8+1) (by omega),dR (i:=b*8+1) (j:=c*8) (by omega)];by_cases e1:c=b
  .subst e1
   rw[pT,pT];by_cases e2:c=s
   .subst e2;rw[pT];omega
   .rw[dR (by omega)];omega
  .rw[dR (i:=b*8+1) (by omega),dR (i:=b*8) (by omega)]
   by_cases e2:c=s
   .subst e2;rw[pT];omega
   .rw[dR (by omega)];omega
 .have h1:=hg.stock c k' hc hk'
  have h2:=hg.stock b k hb hk;have h3:=hg.stock s k hs hk;rw[Df,Df];rw[dR (i:=b*8+1) (by omega),dR (i:=b*8+1) (by omega),dR (i:=b*8) (by omega),dR (i:=b*8) (by omega),dR (i:=s*8) (by omega),dR (i:=s*8) (by omega),dR (i:=s*8+2+k) (j:=c*8+5+k') (by omega),dR (i:=b*8+2+k) (j:=c*8+5+k') (by omega),dR (i:=s*8+5+k) (j:=c*8+2+k') (by omega)];by_cases e0:k'=k
  .subst e0
   by_cases e1:c=b
   .subst e1
    rw[pT];by_cases e2:c=s
    .subst e2;rw[pT,pT];omega
    .rw[dR (by omega),dR (by omega)];omega
   .rw[dR (i:=b*8+2+k') (by omega)]
    by_cases e2:c=s
    .subst e2;rw[pT,pT];omega
    .rw[dR (by omega),dR (by omega)];omega
  .rw[dR (by omega),dR (by omega),dR (by omega)];omega
theorem Xn{f:Nat->Int}{item:Int}{b s:Cv.af}{price qty:Int}(h:i7 f item b s price qty=0):Right item b s price qty/\oP f b.ai.toNat s.ai.toNat item.toNat b.pr qty=false/\over f b.ai.toNat s.ai.toNat item.toNat price qty=false:=by
 unfold i7 at h;split at h
 .rename_i h1
  split at h
  .exact absurd h (by decide)
  .rename_i h2
   split at h
   .exact absurd h (by decide)
   .rename_i h3
    exact⟨Xl h1,by simpa using h2,by simpa using h3⟩
 .rename_i h1;exact absurd h h1
theorem ahZ{f:Nat->Int}(hg:Good f)(item:Int)(b s:Cv.af)(price qty:Int):Good (jU f item b s price qty):=by
 unfold jU;split
 .rename_i h
  obtain⟨hr,hp,ho⟩:=Xn h;have hm:=hr.Xm;obtain⟨k,hk,hk3⟩:=Du hr.dm;obtain⟨c,hc,ju⟩:=wu hr.dm;obtain⟨c',hc',NP⟩:=wu hr.ws;exact ajx hg (by omega) (by omega) (by omega) ⟨hm.1.1,hm.2.2.1⟩ hr.q.1 hp ho
 .exact hg
end Pu
namespace Pu
def g1(f:Nat->Int)(b:Nat)(H:Int):Nat->Int:=add f (b*8+1) (-H)
def g2(f:Nat->Int)(b s k:Nat)(H Q:Int):Nat->Int:=add (g1 f b H) (s*8+5+k) (-Q)
def g3(f:Nat->Int)(b s k:Nat)(H Q A:Int):Nat->Int:=add (g2 f b s k H Q) (b*8) (-A)
def g4(f:Nat->Int)(b s k:Nat)(H Q A:Int):Nat->Int:=add (g3 f b s k H Q A) (s*8+2+k) (-Q)
def g5(f:Nat->Int)(b s k:Nat)(H Q A:Int):Nat->Int:=add (g4 f b s k H Q A) (b*8+2+k) Q
theorem atC{f:Nat->Int}{b s k:Nat}{H:Int}:g1 f b H (s*8+5+k)=f (s*8+5+k)\/¬ k<3:=by
 by_cases h:k<3
 .exact .inl (ei _ _ (by omega))
 .exact .inr h
theorem ajI{f:Nat->Int}{b s k:Nat}{H:Int}(hk:k<3):g1 f b H (s*8+5+k)=f (s*8+5+k):=ei _ _ (by omega)
theorem Ha{f:Nat->Int}{b s k:Nat}{H Q:Int}(hk:k<3):g2 f b s k H Q (b*8)=f (b*8):=by unfold g2 g1;rw[ei _ _ (by omega),ei _ _ (by omega)]
theorem Hd{f:Nat->Int}{b s k:Nat}{H Q A:Int}(hk:k<3):g3 f b s k H Q A (s*8+2+k)=f (s*8+2+k):=by unfold g3 g2 g1;rw[ei _ _ (by omega),ei _ _ (by omega),ei _ _ (by omega)]
theorem ajJ{f:Nat->Int}{b s k:Nat}{H Q A:Int}(hk:k<3):g4 f b s k H Q A (b*8+2+k)=f (b*8+2+k)+(if b=s then -Q else 0):=by
 unfold g4;by_cases e:b=s
 .subst e;rw[Ao,Hd hk,if_pos rfl]
 .unfold g3 g2 g1;rw[ei _ _ (by omega),ei _ _ (by omega),ei _ _ (by omega),ei _ _ (by omega),if_neg e];simp
theorem ajK{f:Nat->Int}{b s k:Nat}{H Q A:Int}(hk:k<3):g5 f b s k H Q A (s*8)=f (s*8)+(if b=s then -A else 0):=by
 unfold g5 g4;rw[ei _ _ (by omega),ei _ _ (by omega)];unfold g3;by_cases e:b=s
 .subst e;rw[Ao,Ha hk,if_pos rfl]
 .unfold g2 g1;rw[ei _ _ (by omega),ei _ _ (by omega),ei _ _ (by omega),if_neg e];simp
theorem grows{f:Nat->Int}(hg:Good f){b s k:Nat}{bp price qty:Int}(hb:b<6)(hs:s<6)(hk:k<3)(hm:1<=price*qty/\price*qty<=bp*qty)(hq:1<=qty)(hp:oP f b s k bp qty=false):
  (0<=g4 f b s k (bp*qty) qty (price*qty) (b*8+2+k)/\g4 f b s k (bp*qty) qty (price*qty) (b*8+2+k)<=1073741824)/\(0<=g5 f b s k (bp*qty) qty (price*qty) (s*8)/\g5 f b s k (bp*qty) qty (price*qty) (s*8)<=1099511627776) /\
  over f b s k price qty=(decide (1073741824-g4 f b s k (bp*qty) qty (price*qty) (b*8+2+k)<qty) || decide (1099511627776-g5 f b s k (bp*qty) qty (price*qty) (s*8)<price*qty)):=by
 rw[ajJ hk,ajK hk];simp only[oP,Bool.or_eq_false_iff,decide_eq_false_iff_not]at hp;have h1:=hg.cash b hb;have h2:=hg.cash s hs;have h3:=hg.stock b k hb hk;have h4:=hg.stock s k hs hk;unfold over;by_cases e:b=s
 .subst e
  simp only[if_true];refine⟨by omega,by omega,?_⟩;rw[show decide (b≠b)=false by simp,Bool.false_and];symm;rw[Bool.or_eq_false_iff,decide_eq_false_iff_not,decide_eq_false_iff_not];omega
 .rw[if_neg e,if_neg e]
  refine⟨by omega,by omega,?_⟩;rw[show decide (b≠s)=true by simpa using e,Bool.true_and];congr 1
  .rw[decide_eq_decide];omega
  .rw[decide_eq_decide];omega
def only(x:Cv.af)(q:Int):Cv.af:=⟨x.id,x.ai,x.sd,x.pr,q⟩
theorem Nk{item:Int}{x:Cv.af}{q:Int}(h:well item x=true)(h1:1<=q)(h2:q<=x.q):well item (only x q)=true:=by show (ah.aK item 0 2&&(ah.aK x.id 1 1073741824&&ah.aK x.ai 0 5&&ah.aK x.sd 0 1&&ah.aK x.pr 1 1000&&ah.aK q 1 1000))=true;simp only[well,Cv.ok,ah.aK,Bool.and_eq_true,decide_eq_true_eq]at h ⊢;exact⟨h.1,h.2.1,h1,Int.le_trans h2 h.2.2.2⟩
theorem ajL{f:Nat->Int}{item:Int}{x:Cv.af}{q:Int}(h:well item x=true)(h1:1<=q)(h2:q<=x.q)(hs:x.sd=0):
  iM f item (only x q)=(if f (x.ai.toNat*8+1)<x.pr*q then 9 else 0)/\(¬ f (x.ai.toNat*8+1)<x.pr*q->gp f item (only x q)=g1 f x.ai.toNat (x.pr*q))/\(f (x.ai.toNat*8+1)<x.pr*q->gp f item (only x q)=f):=by
 have e1:hx item (only x q)=x.ai.toNat*8+1:=by unfold hx;rw[if_pos (by exact hs)];rfl
 have e2:mu (only x q)=x.pr*q:=by unfold mu;rw[if_pos (by exact hs)];rfl
 have e3:iM f item (only x q)=(if f (x.ai.toNat*8+1)<x.pr*q then 9 else 0):=by unfold iM;rw[if_pos (Nk h h1 h2),e1,e2]
 refine⟨e3,fun hn=>?_,fun hn=>?_⟩
 .unfold gp;rw[e3,if_neg hn,if_pos rfl,e1,e2];rfl
 .unfold gp;rw[e3,if_pos hn];rfl
theorem ajM{f:Nat->Int}{item:Int}{x:Cv.af}{q:Int}(h:well item x=true)(h1:1<=q)(h2:q<=x.q)(hs:x.sd=1):
  iM f item (only x q)=(if f (x.ai.toNat*8+5+item.toNat)<q then 9 else 0)/\(¬ f (x.ai.toNat*8+5+item.toNat)<q->gp f item (only x q)=add f (x.ai.toNat*8+5+item.toNat) (-q))/\(f (x.ai.toNat*8+5+item.toNat)<q->gp f item (only x q)=f):=by
 have hs':¬ x.sd=0:=by omega
 have e1:hx item (only x q)=x.ai.toNat*8+5+item.toNat:=by unfold hx;rw[if_neg (by exact hs')];rfl
 have e2:mu (only x q)=q:=by unfold mu;rw[if_neg (by exact hs')];rfl
 have e3:iM f item (only x q)=(if f (x.ai.toNat*8+5+item.toNat)<q then 9 else 0):=by unfold iM;rw[if_pos (Nk h h1 h2),e1,e2]
 refine⟨e3,fun hn=>?_,fun hn=>?_⟩
 .unfold gp;rw[e3,if_neg hn,if_pos rfl,e1,e2]
 .unfold gp;rw[e3,if_pos hn];rfl
end Pu
namespace Cv
def size(n:Int):Int:=max n (-n)
def left(l:List af)(p:Int):Int:=size (ji l p-jM l p)
def away(ref p:Int):Int:=size (p-ref)
theorem R7(n:Int):0<=size n:=by unfold size;omega
def vh(v s a v' s' a':Int):Bool:=if v=v' then (if s=s' then decide (a<a') else decide (s<s')) else decide (v'<v)
def fj(l:List af)(ref n p v:Int):Prop :=
 (p=0/\v=0/\∀q,1<=q->q<=n->fG l q=0) \/
 (0<v/\1<=p/\p<=n/\fG l p=v/\∀q,1<=q->q<=n->fG l q<v\/fG l q=v/\(left l p<left l q\/left l p=left l q/\(away ref p<away ref q\/away ref p=away ref q/\p<=q)))
theorem fj.unique{l:List af}{ref n p v p' v':Int}(h:fj l ref n p v)(h':fj l ref n p' v'):p=p'/\v=v':=by
 rcases h with ⟨h1,h2,h3⟩ | ⟨h1,h2,h3,h4,h5⟩
 .rcases h' with ⟨g1,g2,g3⟩ | ⟨g1,g2,g3,g4,g5⟩
  .omega
  .have:=h3 p' g2 g3;omega
 .rcases h' with ⟨g1,g2,g3⟩ | ⟨g1,g2,g3,g4,g5⟩
  .have:=g3 p h2 h3;omega
  .have a:=h5 p' g2 g3
   have b:=g5 p h2 h3;omega
theorem R8(l:List af)(h:eu l)(p:Int):0<=fG l p:=by have hd:=(nz (iK p) l h).1;have hs:=(nz (sB p) l h).1;unfold fG ji jM;omega
def wl(l:List af)(p:Int):Int:=if p=0 then 0 else left l p
def kG(ref p:Int):Int:=if p=0 then 0 else away ref p
theorem fj.start(l:List af)(ref:Int):fj l ref 0 0 0:=.inl ⟨rfl,rfl,fun q h1 h2=>by omega⟩
theorem fj.take{l:List af}{ref n p v:Int}(hl:eu l)(hn:0<=n)(h:fj l ref n p v)(hb:vh (fG l (n+1)) (left l (n+1)) (away ref (n+1)) v (wl l p) (kG ref p)=true):fj l ref (n+1) (n+1) (fG l (n+1)):=by
 have v0:=R8 l hl (n+1);have s0:0<=left l (n+1):=R7 _;have a0:0<=away ref (n+1):=R7 _;unfold vh wl kG at hb;rcases h with ⟨h1,h2,h3⟩ | ⟨h1,h2,h3,h4,h5⟩
 .rw[if_pos h1,if_pos h1]at hb
  have hv:0<fG l (n+1):=by
   split at hb
   .split at hb <;> simp only[decide_eq_true_eq]at hb <;> omega
   .simp only[decide_eq_true_eq]at hb;omega
  refine .inr ⟨hv,by omega,by omega,rfl,fun q q1 q2=>?_⟩;by_cases e:q=n+1
  .rw[e];omega
  .have:=h3 q q1 (by omega);omega
 .have hp:¬ p=0:=by omega
  rw[if_neg hp,if_neg hp]at hb;have key:v<fG l (n+1)\/fG l (n+1)=v/\(left l (n+1)<left l p\/left l (n+1)=left l p/\away ref (n+1)<away ref p):=by
   split at hb
   .split at hb <;> simp only[decide_eq_true_eq]at hb <;> omega
   .simp only[decide_eq_true_eq]at hb;omega
  refine .inr ⟨by omega,by omega,by omega,rfl,fun q q1 q2=>?_⟩;by_cases e:q=n+1
  .rw[e];omega
  .have:=h5 q q1 (by omega);omega
theorem fj.keep{l:List af}{ref n p v:Int}(hl:eu l)(h:fj l ref n p v)(hb:vh (fG l (n+1)) (left l (n+1)) (away ref (n+1)) v (wl l p) (kG ref p)=false):fj l ref (n+1) p v:=by
 have v0:=R8 l hl (n+1);unfold vh wl kG at hb;rcases h with ⟨h1,h2,h3⟩ | ⟨h1,h2,h3,h4,h5⟩
 .refine .inl ⟨h1,h2,fun q q1 q2=>?_⟩
  by_cases e:q=n+1
  .rw[e]
   by_cases hv:fG l (n+1)=v
   .omega
   .rw[if_neg hv]at hb;simp only[decide_eq_false_iff_not]at hb;omega
  .exact h3 q q1 (by omega)
 .have hp:¬ p=0:=by omega
  rw[if_neg hp,if_neg hp]at hb;refine .inr ⟨h1,h2,by omega,h4,fun q q1 q2=>?_⟩;by_cases e:q=n+1
  .rw[e]
   split at hb
   .split at hb <;> simp only[decide_eq_false_iff_not]at hb <;> omega
   .simp only[decide_eq_false_iff_not]at hb;omega
  .exact h5 q q1 (by omega)
theorem fj.range{l:List af}{ref n p v:Int}(h:fj l ref n p v)(hn:0<=n):0<=p/\p<=n/\0<=v:=by rcases h with ⟨h1,h2,h3⟩ | ⟨h1,h2,h3,h4,h5⟩ <;> omega
def kg(side p:Int)(x:af):Bool:=x.sd==side&&x.pr==p
def at_(l:List af)(side p:Int):Int:=dQ (kg side p) l
theorem JV(p:Int):∀l:List af,ji l p=ji l (p+1)+at_ l 0 p
 | []=>rfl
 | x::l=>by
  have ih:=JV p l;unfold ji at_ at ih ⊢;simp only[dQ];by_cases hs:x.sd=0
  .by_cases h1:x.pr=p
   .have h2:p<=x.pr:=by omega
    have h3:¬ p+1<=x.pr:=by omega
    have e:(x.pr==p)=true:=by simpa using h1
    simp only[iK,kg,hs,h2,h3,e,beq_self_eq_true,decide_true,decide_false,Bool.and_self,Bool.and_false,if_true,Bool.false_eq_true,if_false];omega
   .by_cases h2:p<=x.pr
    .have h3:p+1<=x.pr:=by omega
     simp[iK,kg,hs,h1,h2,h3]at *;omega
    .have h3:¬ p+1<=x.pr:=by omega
     simp[iK,kg,hs,h1,h2,h3]at *;omega
  .simp[iK,kg,hs]at *
   omega
theorem JW(p:Int):∀l:List af,jM l (p+1)=jM l p+at_ l 1 (p+1)
 | []=>rfl
 | x::l=>by
  have ih:=JW p l;unfold jM at_ at ih ⊢;simp only[dQ];by_cases hs:x.sd=1
  .by_cases h1:x.pr=p+1
   .have h3:¬ x.pr<=p:=by omega
    have h2:x.pr<=p+1:=by omega
    have e:(x.pr==p+1)=true:=by simpa using h1
    simp only[sB,kg,hs,h2,h3,e,beq_self_eq_true,decide_true,decide_false,Bool.and_self,Bool.and_false,if_true,Bool.false_eq_true,if_false];omega
   .by_cases h2:x.pr<=p
    .have h3:x.pr<=p+1:=by omega
     simp[sB,kg,hs,h1,h2,h3]at *;omega
    .have h3:¬ x.pr<=p+1:=by omega
     simp[sB,kg,hs,h1,h2,h3]at *;omega
  .simp[sB,kg,hs]at *
   omega
theorem adW(l:List af)(h:eu l){p:Int}(hp:1000<=p):ji l (p+1)=0 :=
 R9 l fun x hx=>by
  have:=(gB (h x hx)).2.2.2.1
  have h2:¬ p+1<=x.pr:=by omega
  simp[iK,h2]
theorem adX(l:List af)(h:eu l){p:Int}(hp:p<=0):jM l p=0 :=
 R9 l fun x hx=>by
  have:=(gB (h x hx)).2.2.2.1
  have h2:¬ x.pr<=p:=by omega
  simp[sB,h2]
end Cv
namespace bm
def kC(r l:Int):Bool:=ah.aK r 1 1000&&ah.aK l 0 1000
def jK(w h:Int):Bool:=ah.aK w 0 100&&ah.aK h 1 1000
def od(p v:Int):Bool:=!decide (v<0)&&(!decide (0<v) || ah.aK p 1 1000)
def xg(w r p:Int):Bool:=decide (Cv.size (p-r)*100<=r*w)
def pu(r l w p v:Int):Int:=if 0<l then (if l=1/\0<v then p else r) else if 0<v/\xg w r p=true then p else r
def px(r l w h p v:Int):Int:=if 0<l then l-1 else if 0<v/\xg w r p=false then h else l
def py(r l w p v:Int):Bool:=!decide (0<l)&&(!decide (0<v) || xg w r p)
end bm
theorem adq{r w:Int}(h1:1<=r)(h2:r<=1000)(h3:0<=w)(h4:w<=100):0<=r*w/\r*w<=100000:=by refine⟨Int.mul_nonneg (by omega) h3,?_⟩;have a:=Int.mul_le_mul_of_nonneg_right h2 h3;omega
namespace Fu
open Cv Bk Ra
def l5(c:Int->Int)(x:af):Option af:=if c x.id<x.q then some (less x (c x.id)) else none
def rem(c:Int->Int)(l:List af):List af:=l.filterMap (l5 c)
def pU(id q:Int)(x:af):Option af:=if x.id=id then (if q<x.q then some (less x q) else none) else some x
def more(c:Int->Int)(id q:Int)(j:Int):Int:=if j=id then c j+q else c j
theorem Vp{l:List af}(h:eu l):rem (fun _=>0) l=l:=by
 unfold rem
 induction l with
 | nil=>rfl
 | cons x l ih =>
  have hx:=gB (h x (mSq ..));rw[List.filterMap_cons];have:l5 (fun _=>0) x=some x:=by unfold l5 less;rw[if_pos (by show (0:Int)<x.q;omega)];simp
  rw[this];simp only[];rw[ih (fun y hy=>h y (mOq _ hy))]
theorem V3{l:List af}{id q:Int}(h:∀x∈l,x.id≠id):l.filterMap (pU id q)=l:=by
 induction l with
 | nil=>rfl
 | cons x l ih =>
  rw[List.filterMap_cons];have:pU id q x=some x:=by unfold pU;rw[if_neg (h x (mSq ..))]
  rw[this];simp only[];rw[ih (fun y hy=>h y (mOq _ hy))]
theorem Tv{l:List af}(ho:eL l){k:Nat}(hk:k<l.length):(∀x∈l.take k,x.id≠(nth l k).id)/\∀x∈l.drop (k+1),x.id≠(nth l k).id:=by
 have e:=Bt hk;have ho':(l.map (·.id)).Nodup:=ho;have h1:((l.take k++nth l k::l.drop (k+1)).map (·.id)).Nodup:=by rw[<- e];exact ho'
 rw[List.map_append,List.map_cons,List.nodup_append]at h1;obtain⟨_,h2,h3⟩:=h1;rw[List.nodup_cons]at h2;refine⟨fun x hx Nn=>?_,fun x hx Nn=>?_⟩
 .exact h3 x.id (List.mem_map_of_mem hx) (nth l k).id (mSq ..) Nn
 .exact h2.1 (by rw[<- Nn];exact List.mem_map_of_mem hx)
theorem ah5{l:List af}(ho:eL l){id q:Int}(hh:has l id=true)(h1:1<=q)(h2:q<=(nth l (pos l id)).q):om l id q=l.filterMap (pU id q):=by
 have hk:=sW.1 hh;have hid:=BD hk;obtain⟨ha,hb⟩:=Tv ho hk;rw[hid]at ha hb;have hC:nu l id q=0:=by unfold nu;rw[if_pos hh,if_pos (by simp[ah.aK,h1,h2])]
 have e:l.filterMap (pU id q)=(l.take (pos l id)++nth l (pos l id)::l.drop (pos l id+1)).filterMap (pU id q):=congrArg _ (Bt hk);rw[e,List.filterMap_append,List.filterMap_cons,V3 ha,V3 hb];unfold om;rw[if_pos hC];by_cases hq:q=(nth l (pos l id)).q
 .rw[if_pos hq]
  have:pU id q (nth l (pos l id))=none:=by unfold pU;rw[if_pos hid,if_neg (by omega)]
  rw[this];rfl
 .rw[if_neg hq]
  have:pU id q (nth l (pos l id))=some (less (nth l (pos l id)) q):=by unfold pU;rw[if_pos hid,if_pos (by omega)]
  rw[this];rfl
theorem ah6(c:Int->Int)(l:List af)(id q:Int)(hq:1<=q):(rem c l).filterMap (pU id q)=rem (more c id q) l:=by
 unfold rem;rw[List.filterMap_filterMap];congr 1;funext x;unfold l5 pU more;by_cases h:c x.id<x.q
 .rw[if_pos h]
  simp only[Option.bind_some,less];by_cases hi:x.id=id
  .rw[if_pos hi,if_pos hi]
   by_cases h2:q<x.q-c x.id
   .rw[if_pos h2,if_pos (by omega)]
    simp;omega
   .rw[if_neg h2,if_neg (by omega)]
  .rw[if_neg hi,if_neg hi,if_pos h]
 .rw[if_neg h]
  simp only[Option.bind_none];by_cases hi:x.id=id
  .rw[if_pos hi,if_neg (by omega)]
  .rw[if_neg hi,if_neg h]
theorem GK{c:Int->Int}{l:List af}{y:af}:y∈rem c l↔∃x∈l,c x.id<x.q/\y=less x (c x.id):=by
 unfold rem;rw[List.mem_filterMap];constructor
 .rintro⟨x,hx,h⟩
  unfold l5 at h;split at h
  .rename_i hc
   exact⟨x,hx,hc,(Option.some.inj h).symm⟩
  .cases h
 .rintro⟨x,hx,hc,rfl⟩
  exact⟨x,hx,by unfold l5;rw[if_pos hc]⟩
theorem MJ{c:Int->Int}{l:List af}{id:Int}:has (rem c l) id=true↔∃x∈l,x.id=id/\c id<x.q:=by
 unfold has;rw[List.any_eq_true];constructor
 .rintro⟨y,hy,he⟩
  obtain⟨x,hx,hc,rfl⟩:=GK.1 hy;have:x.id=id:=by simpa [less] using he
  exact⟨x,hx,this,by rw[<- this];exact hc⟩
 .rintro⟨x,hx,he,hc⟩
  exact⟨less x (c x.id),GK.2 ⟨x,hx,by rw[he];exact hc,rfl⟩,by simp[less,he]⟩
theorem V0{c:Int->Int}{l:List af}(ho:eL l):eL (rem c l):=by
 unfold eL at *;refine List.Nodup.sublist ?_ ho;unfold rem
 induction l with
 | nil=>exact List.Sublist.refl _
 | cons x l ih =>
  have ih':=ih (by simp only[List.map_cons,List.nodup_cons]at ho;exact ho.2);rw[List.filterMap_cons];by_cases h:c x.id<x.q
  .have:l5 c x=some (less x (c x.id)):=by unfold l5;rw[if_pos h]
   rw[this];exact List.Sublist.cons_cons _ ih'
  .have:l5 c x=none:=by unfold l5;rw[if_neg h]
   rw[this];exact List.Sublist.cons _ ih'
theorem Vj{c:Int->Int}{l:List af}(ho:eL l){x:af}(hx:x∈l)(hc:c x.id<x.q):nth (rem c l) (pos (rem c l) x.id)=less x (c x.id):=by
 have hh:has (rem c l) x.id=true:=MJ.2 ⟨x,hx,rfl,hc⟩;have hk:=sW.1 hh;have hm:nth (rem c l) (pos (rem c l) x.id)∈rem c l:=by rw[vg hk];exact List.getElem_mem hk
 obtain⟨y,hy,_,he⟩:=GK.1 hm;have hid:=BD hk;rw[he]at hid ⊢;have:y.id=x.id:=by simpa [less] using hid
 have hxy:y=x:=by
  have ho':(l.map (·.id)).Nodup:=ho;obtain⟨i,hi,rfl⟩:=List.mem_iff_getElem.1 hy;obtain⟨j,hj,rfl⟩:=List.mem_iff_getElem.1 hx;have hp:=List.pairwise_iff_getElem.1 ho';rcases Nat.lt_trichotomy i j with h | h | h
  .exact absurd (by rw[List.getElem_map,List.getElem_map];exact this) (hp i j (by simpa using hi) (by simpa using hj) h)
  .subst h;rfl
  .exact absurd (by rw[List.getElem_map,List.getElem_map];exact this.symm) (hp j i (by simpa using hj) (by simpa using hi) h)
 rw[hxy]
theorem ahi{c:Int->Int}{l:List af}(ho:eL l){x:af}(hx:x∈l){q:Int}(h1:1<=q)(h2:c x.id+q<=x.q):om (rem c l) x.id q=rem (more c x.id q) l:=by
 have hc:c x.id<x.q:=by omega
 rw[ah5 (V0 ho) (MJ.2 ⟨x,hx,rfl,hc⟩) h1 (by rw[Vj ho hx hc];simp only[less];omega),ah6 c l _ q h1]
end Fu
namespace Pu
theorem VH(i:Nat)(a b:Int)(j:Nat):dl i (a+b) j=dl i a j+dl i b j:=by unfold dl;split <;> omega
end Pu
namespace Pu
def eO(f:Nat->Int):Nat->Int
 | 0=>0
 | m+1=>eO f m+f (m*8)
def eP(f:Nat->Int)(j:Nat):Nat->Int
 | 0=>0
 | m+1=>eP f j m+f (m*8+2+j)
theorem uf{f:Nat->Int}{i:Nat}{v:Int}(h:∀c,i≠c*8)(m:Nat):eO (add f i v) m=eO f m:=by
 induction m with
 | zero=>rfl
 | succ m ih=>simp only[eO,ih];rw[ei _ _ (fun e=>h m e.symm)]
theorem NY{f:Nat->Int}{c:Nat}{v:Int}(m:Nat):eO (add f (c*8) v) m=eO f m+if c<m then v else 0:=by
 induction m with
 | zero=>simp[eO]
 | succ m ih =>
  simp only[eO,ih];by_cases e:c=m
  .subst e;rw[Ao,if_neg (by omega),if_pos (by omega)];omega
  .rw[ei _ _ (by omega)]
   by_cases h:c<m
   .rw[if_pos h,if_pos (by omega)];omega
   .rw[if_neg h,if_neg (by omega)];omega
theorem yx{f:Nat->Int}{i j:Nat}{v:Int}(h:∀c,i≠c*8+2+j)(m:Nat):eP (add f i v) j m=eP f j m:=by
 induction m with
 | zero=>rfl
 | succ m ih=>simp only[eP,ih];rw[ei _ _ (fun e=>h m e.symm)]
theorem Dx{f:Nat->Int}{c k j:Nat}{v:Int}(hk:k<3)(hj:j<3)(m:Nat):eP (add f (c*8+2+k) v) j m=eP f j m+if c<m/\k=j then v else 0:=by
 induction m with
 | zero=>simp[eP]
 | succ m ih =>
  simp only[eP,ih];by_cases e:c=m/\k=j
  .obtain⟨rfl,rfl⟩:=e;rw[Ao,if_neg (by omega),if_pos (by omega)];omega
  .rw[ei _ _ (by omega)]
   by_cases h:c<m/\k=j
   .rw[if_pos h,if_pos (by omega)];omega
   .rw[if_neg h,if_neg (by omega)];omega
theorem Xz{item:Int}{x:Cv.af}(h:well item x=true):(∀c,hx item x≠c*8)/\∀c j,j<3->hx item x≠c*8+2+j:=by
 rcases places h with ⟨c,c1,e1,e2⟩ | ⟨c,k,c1,k1,e1,e2⟩
 .rw[e1];exact⟨fun d=>by omega,fun d j hj=>by omega⟩
 .rw[e1];exact⟨fun d=>by omega,fun d j hj=>by omega⟩
theorem Ti(f:Nat->Int)(item:Int)(x:Cv.af)(m:Nat):eO (lw f item x) m=eO f m/\∀j,j<3->eP (lw f item x) j m=eP f j m:=by
 unfold lw;split
 .rename_i h
  have hw:=Xz (Xi h).1;exact⟨uf hw.1 m,fun j hj=>yx (fun c=>hw.2 c j hj) m⟩
 .exact⟨rfl,fun _ _=>rfl⟩
theorem Kp(f:Nat->Int)(item:Int)(x:Cv.af)(m:Nat):eO (gp f item x) m=eO f m/\∀j,j<3->eP (gp f item x) j m=eP f j m:=by
 unfold gp;split
 .rename_i h
  have hw:=Xz (Xj h).1;exact⟨uf hw.1 m,fun j hj=>yx (fun c=>hw.2 c j hj) m⟩
 .exact⟨rfl,fun _ _=>rfl⟩
def gD.part(g:gD):Nat->Int
 | 0=>g.s0
 | 1=>g.s1
 | _=>g.s2
theorem afz{f:Nat->Int}{g:gD}(h:kj f g=0):eO (jB f g) 6=eO f 6+g.cash/\∀j,j<3->eP (jB f g) j 6=eP f j 6+g.part j:=by
 obtain⟨⟨c,hc,c6,_⟩,_⟩:=Xk h;unfold jB;rw[if_pos h,hc,Int.toNat_natCast];refine⟨?_,fun j hj=>?_⟩
 .rw[uf (fun d=>by omega),uf (fun d=>by omega),uf (fun d=>by omega),NY,if_pos c6]
 .have e0:c*8+2=c*8+2+0:=rfl
  have e1:c*8+3=c*8+2+1:=rfl;have e2:c*8+4=c*8+2+2:=rfl;rw[e2,Dx (by decide) hj,e1,Dx (by decide) hj,e0,Dx (by decide) hj,yx (fun d=>by omega)];have:j=0\/j=1\/j=2:=by omega
  rcases this with rfl | rfl | rfl
  .simp[c6,gD.part]
  .simp[c6,gD.part]
  .simp[c6,gD.part]
theorem FH(f:Nat->Int)(item:Int)(b s:Cv.af)(price qty:Int):eO (jU f item b s price qty) 6=eO f 6/\∀j,j<3->eP (jU f item b s price qty) j 6=eP f j 6:=by
 unfold jU;split
 .rename_i h
  obtain⟨hr,_,_⟩:=Xn h;obtain⟨k,hk,hk3⟩:=Du hr.dm;obtain⟨c,hc,ju⟩:=wu hr.dm;obtain⟨c',hc',NP⟩:=wu hr.ws;rw[hk,hc,hc',Int.toNat_natCast,Int.toNat_natCast,Int.toNat_natCast];unfold six;refine⟨?_,fun j hj=>?_⟩
  .rw[NY,if_pos NP,uf (fun d=>by omega),uf (fun d=>by omega),NY,if_pos ju,uf (fun d=>by omega),uf (fun d=>by omega)]
   omega
  .rw[yx (fun d=>by omega),Dx hk3 hj,Dx hk3 hj,yx (fun d=>by omega),yx (fun d=>by omega),yx (fun d=>by omega)]
   by_cases e:k=j
   .rw[if_pos ⟨NP,e⟩,if_pos ⟨ju,e⟩];omega
   .rw[if_neg (fun h=>e h.2),if_neg (fun h=>e h.2)];omega
 .exact⟨rfl,fun _ _=>rfl⟩
end Pu
namespace Cv
end Cv
namespace ah
def runN:Nat->Nat->Nat->Nat
 | 0,_,r=>r
 | n+1,N,r=>runN n (N/2) (bit (r ^^^ N%2))
def JN(l:List UInt8)(i:Nat):Nat:=(l.getD i 0).toNat+256*(l.getD (i+1) 0).toNat+65536*(l.getD (i+2) 0).toNat+16777216*(l.getD (i+3) 0).toNat
end ah
end Go.Proofs.YtjolccidheflpaaGreatDoor
