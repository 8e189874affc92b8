/- The numbers of a seed: next, Stream, and the document's, by their contracts. -/
import Derived.Test.YtjolccidheflpaaGreatDoorX09
namespace Go.Proofs.YtjolccidheflpaaGreatDoor
open Go.Proofs.Tryz
set_option maxHeartbeats 8000000
set_option maxRecDepth 100000
section
open Go.RowKit
namespace Ra
def half(x:Int):Int:=bits .xor .u32 x (x*8192%4294967296)
def HZ(x:Int):Int:=bits .xor .u32 (half x) (half x/131072)
def DK(x:Int):Int:=bits .xor .u32 (HZ x) (HZ x*32%4294967296)
def DL(s:Int):Int:=if s=0 then 2463534242 else s
def num(s:Int):Nat->Int
 | 0=>DL s
 | k+1=>DK (num s k)
def IsU(x:Int):Prop:=0<=x/\x<4294967296
theorem akE(x:Int):IsU (DK x):=⟨(bits_within .xor .u32 _ _).1,by have:=(bits_within .xor .u32 (HZ x) (HZ x*32%4294967296)).2;unfold DK;have e:IntKind.u32.max=4294967295:=rfl;omega⟩
theorem akF{s:Int}(h:IsU s):IsU (DL s):=by unfold DL;split;exact⟨by omega,by omega⟩;exact h
theorem Yj{s:Int}(h:IsU s):∀k,IsU (num s k)
 | 0=>akF h
 | _+1=>akE _
def gb(s:Int)(n:Nat):Nat->Array Int
 | 0=>((List.range n).map Int.ofNat).toArray
 | k+1=>Sort.swp (gb s n k) (n-1-k) (num s (k+1)%((n-k:Nat):Int)).toNat
theorem sj(s:Int)(n:Nat):∀k,(gb s n k).size=n
 | 0=>by simp[gb]
 | k+1=>by rw[gb,Sort.size_swp];exact sj s n k
end Ra
theorem akG(x:Int)(hx:Ra.IsU x)(w:World):Calls prog 319 #[.int .u32 x] w fun e w'=>e=.returned (.int .u32 (Ra.DK x))/\w'=w:=by obtain⟨h0,h1⟩:=hx;go_enter func319,ntmps319;go_wp2;go_ret;exact⟨rfl,rfl⟩
def Words(w:World)(base:Nat)(v:Value)(n:Nat)(f:Nat->Int):Prop :=
 (n=0/\∃a cap,v=.slice a 0 cap)\/∃b cap,v=.slice (some (O b 0)) n cap/\base<=b/\b<w.heap.size/\∀i,i<n->w.cell? (O b i)=some (.int .u32 (f i))
theorem akH:∃i,prog.info? 41=some i/\i.zero=some (.int .u32 0)/\i.size=1/\i.bytes=4:=⟨_,rfl,rfl,rfl,rfl⟩
def yC(f:Nat->Int)(k:Nat):List Value:=(List.range k).map fun i=>.int .u32 (f i)
theorem akI(f:Nat->Int)(k:Nat):yC f (k+1)=yC f k++[.int .u32 (f k)]:=by simp[yC,List.range_succ]
theorem Yk(w:World)(o:Array Value)(T:TypeId)(u:Value)(j:Nat)(x:Value)(ho:o=#[x])(hj:[x][j]?=some u):(w.alloc (.cells o T)).cell? ((⟨w.heap.size,0,none⟩:Addr).add j)=some u:=by
 subst ho
 match j,hj with
 | 0,hj =>
  have hj:x=u:=by simpa using hj
  subst hj;show World.cell? _ (O w.heap.size 0)=_;rw[World.cell?_alloc_new];rfl
 | j+1,hj=>simp at hj
theorem akJ{w:World}{base n:Nat}{v:Value}{f:Nat->Int}(h:w.ownsRow base 41 1 v n (yC f n)):Words w base v n f:=by
 rcases h.2 with ⟨h1,h2⟩ | ⟨g,cap,cur,h1,hg1,hg2,_,_,_,_⟩
 .exact .inl ⟨h2,none,0,h1⟩
 .refine .inr ⟨g,cap,h1,hg1,(Array.getElem?_eq_some_iff.1 hg2).1,fun i hi=>?_⟩
  have:=World.ownsRow.cells h (g:=g) (by rw[h1];rfl) i (.int .u32 (f i)) (by simp[yC,hi])
  have hp:(⟨g,0,none⟩:Addr).add i=(O g i):=by unfold Addr.add;split <;> simp_all
  rwa [hp]at this
theorem akK(s x0:Int)(n:Nat)(hx:Hid (∀k,Ra.IsU (Ra.num s k)))(hn':n<=1000)(w:World)(hs:(x0=0/\Hid (2463534242=Ra.num s 0))\/(¬ x0=0/\Hid (x0=Ra.num s 0))):
  Calls prog 314 #[.int .u32 x0,Z (n:Int)] w fun e w'=>∃v,e=.returned v/\Words w' w.heap.size v n (fun i=>Ra.num s (i+1))/\U w w':=by
 obtain⟨i0,hi,hz0,hz1,hz2⟩:=akH;have Hi:=Y hi;have fe:=Y hz0;have fg:=Y hz1;have fh:=Y hz2;clear hi hz0 hz1 hz2;have hmin:(n:Int)<=1000:=by omega
 have qT:x0=0\/(x0==0)=false:=by by_cases h:x0=0;exact .inl h;exact .inr (by simpa using h)
 have h0:Hid ((if x0=0 then 2463534242 else x0)=Ra.num s 0):=by
  rcases hs with ⟨h1,h2⟩ | ⟨h1,h2⟩
  .show _=_;rw[if_pos h1];exact h2
  .show _=_;rw[if_neg h1];exact h2
 clear hs;rcases qT with rfl | h1
 all_goals
  go_enter func314,ntmps314;go_wp2
  go_loopw [5,6,12] (fun x v i wr=>∃k:Nat,k<=n/\i=Z k/\x=.int .u32 (Ra.num s k)/\wr.ownsRow w.heap.size 41 1 v k (yC (fun i=>Ra.num s (i+1)) k)/\U w wr) (fun _ _ i _=>n-(intOf i).toNat)
  case atStart=>exact⟨0,Nat.zero_le _,rfl,by rw[<- h0.out];simp_all,World.ownsRow_nil _ _ _ _,bRq _ _⟩
  case round =>
   obtain⟨k,hk,rfl,rfl,hown,hb⟩:=hrel;have HB:=Y hb;have HO:=Y hown;clear hb hown;by_cases hlt:k<n
   .have aT:(k:Int)<n:=by omega
    go_wp2_with fail
    refine(akG _ (hx k) _).mono ?_;rintro e w2 ⟨rfl,rfl⟩;simp only[];generalize hy:Ra.DK (Ra.num s k)=y;have fT:Hid (y=Ra.num s (k+1)):=hy.symm;clear hy
    go_wp2_with (at_builtin;refine wpList_append_own _ rfl _ _ 427 rfl w.heap.size 41 i0 (.int .u32 0) 1 4 underlying427 Hi fe fg fh rfl (by decide) _ _ _ rfl (HO.alloc _) (O w2.heap.size 0) 1 1 [.int .u32 y] rfl rfl ?c1 ?c2 ?c3 ?c4 ?c5 ?_)
    case c1=>exact fun j u hj=>Yk w2 _ _ u j _ rfl hj
    case c2=>intro u hu;have hu:u=.int .u32 y:=(by simpa using hu);rw[hu];rfl
    case c3=>unfold maxLen;omega
    case c4=>omega
    case c5=>have:=HB.size;simp;omega
    intro v3 w3 hown' hgrow _;have uj:Hid (w3.ownsRow w.heap.size 41 1 v3 (k+1) (yC (fun i=>Ra.num s (i+1)) (k+1))):=by show w3.ownsRow _ _ _ _ _ _;rw[akI,<- fT.out];exact hown'
    have av:Hid (U w w3):=(HB.alloc HB.size _).grown hgrow (by have:=HB.size;simp;omega) (fun j hj=>by
     rcases HO.2 with ⟨e,_⟩ | ⟨g,cap,cur,e,hg,_⟩
     .rw[e]at hj;cases hj
     .rw[e]at hj;cases hj;exact hg)
    clear hown' hgrow;go_wp2;exact⟨⟨k+1,by omega,by go_num,by rw[fT.out],uj,av⟩,by simp[intOf];omega⟩
   .have aT:¬ (k:Int)<n:=by omega
    obtain rfl:k=n:=by omega
    have HW:=Y (akJ HO);go_wp2;go_ret;exact⟨_,rfl,HW,HB⟩
theorem akL(s:Int)(n:Nat)(hs:Ra.IsU s)(hn':n<=1000)(w:World):
  Calls prog 314 #[.int .u32 s,Z (n:Int)] w fun e w'=>∃v,e=.returned v/\Words w' w.heap.size v n (fun i=>Ra.num s (i+1))/\U w w':=by
 refine akK s s n (Ra.Yj hs) hn' w ?_;by_cases h:s=0
 .exact .inl ⟨h,by subst h;rfl⟩
 .exact .inr ⟨h,by show s=Ra.DL s;unfold Ra.DL;rw[if_neg h]⟩
end
section
open Go.RowKit Go.Maps
def yz(v:Value):Option (DataW Value×List MemPlace):=some (.held v,[])
def um(g:Value)(q:Int):Value:=.agg #[g,.int .i64 q]
def OE:Value:=um (.slice none 0 0) 0
theorem DC:Keyed prog 3:=int_keyed underlying3
theorem akC(w:World):(zeroValue 406).run prog w=.ok OE w:=by kernel_rfl
theorem HV{p:Int}(h1:-9223372036854775808<=p)(h2:p<=9223372036854775807):keyOf prog 3 (.int .i64 p)=some (.int .i64 p):=keyOf_int_mk underlying3 (WalkArith.wf_i64 (by omega))
structure jv (w:World) (base b n:Nat) (f:Int->List Cv.af) (D:DataW Value) (g:Int->Value):Prop where
 own:w.ownsMap prog 3 yz b n D
 at_:∀p,D.atKey (.int .i64 p) (.held OE)=.held (um (g p) (Ra.bN (f p)))
 DF:∀p,Maps.has D (.int .i64 p)=!(f p).isEmpty
 row:∀p,w.ownsRow base 197 5 (g p) (f p).length (flat (f p))
 apart:∀p q r,p≠q->(g p).ownBlock=some r->(g q).ownBlock≠some r
theorem jv.akD{w:World}{base b n:Nat}{f:Int->List Cv.af}{D:DataW Value}{g:Int->Value}(h:jv w base b n f D g)(p:Int):(g p).ownBlock≠some b:=by
 intro e;obtain⟨es,clock,hb,_⟩:=h.own;rcases (h.row p).2 with ⟨e1,_⟩ | ⟨r,cap,cur,e1,_,hr,_⟩
 .rw[e1]at e;cases e
 .rw[e1]at e
  have:r=b:=by simpa [Value.ownBlock] using e
  rw[this,hb]at hr;cases hr
theorem jv.kept{w w':World}{base b n:Nat}{f:Int->List Cv.af}{D:DataW Value}{g:Int->Value}{row:Option Nat}(h:jv w base b n f D g)(hg:w.grownBy w' row)(hb:some b≠row)(hr:∀p,(g p).ownBlock=none\/(g p).ownBlock≠row):jv w' base b n f D g :=
 ⟨h.own.kept hg hb,h.at_,h.DF,fun p=>(h.row p).kept hg (hr p),h.apart⟩
theorem jv.alloc{w:World}{base b n:Nat}{f:Int->List Cv.af}{D:DataW Value}{g:Int->Value}(h:jv w base b n f D g)(o:Obj):jv (w.alloc o) base b n f D g :=
 ⟨h.own.alloc o,h.at_,h.DF,fun p=>(h.row p).alloc o,h.apart⟩
theorem jv.drew{w:World}{base b n:Nat}{f:Int->List Cv.af}{D:DataW Value}{g:Int->Value}(h:jv w base b n f D g):jv w.drew base b n f D g :=
 ⟨h.own.drew,h.at_,h.DF,fun p=>(h.row p).drew,h.apart⟩
theorem jv.later{w w':World}{base b n:Nat}{f:Int->List Cv.af}{D:DataW Value}{g:Int->Value}(h:jv w base b n f D g)(hb:U w w'):jv w' base b n f D g :=
 h.kept (row:=none) ⟨hb.os,hb.tape,hb.output,hb.size,fun i hi _=>hb.block i hi⟩ (by simp) (fun p=>by
  cases e:(g p).ownBlock with
  | none=>exact .inl rfl
  | some r=>exact .inr (by simp))
theorem jv.look{w:World}{base b n:Nat}{f:Int->List Cv.af}{D:DataW Value}{g:Int->Value}(h:jv w base b n f D g){p:Int}(h1:-9223372036854775808<=p)(h2:p<=9223372036854775807):
  (Instr.lookup 375 (.map (some b)) (.int .i64 p) false).run prog w=.ok (um (g p) (Ra.bN (f p))) w:=by
 obtain⟨v,ps,hrun,hv⟩:=h.own.lookup DC underlying375 (akC w) (zd:=.held OE) (zp:=[]) rfl (HV h1 h2);rw[h.at_]at hv;have:v=um (g p) (Ra.bN (f p)):=(by simpa [yz] using hv:_/\ps=[]).1;rw[hrun,this]
def grow(f:Int->List Cv.af)(p:Int)(x:Cv.af):Int->List Cv.af:=fun q=>if q=p then f p++[x] else f q
theorem jv.store{w w3:World}{base b n:Nat}{f:Int->List Cv.af}{D:DataW Value}{g:Int->Value}(h:jv w base b n f D g){p:Int}(x:Cv.af)(h1:-9223372036854775808<=p)(h2:p<=9223372036854775807)(hn:n<maxLen){v3:Value}(hrow:w3.ownsRow base 197 5 v3 ((f p).length+1) (flat (f p)++eK x))(hg:w.grownBy w3 (g p).ownBlock)(hloc:v3.ownBlock=(g p).ownBlock\/v3.ownBlock=some w.heap.size):
  ∃w4 OB g',(Instr.mapUpdate 375 (.map (some b)) (.int .i64 p) (um v3 (Ra.bN (f p)+x.q))).run prog w3=.ok () w4/\jv w4 base b (n+1) (grow f p x) OB g'/\w3.grownBy w4 (some b):=by
 have hown3:w3.ownsMap prog 3 yz b n D:=h.own.kept hg (fun e=>h.akD p e.symm);obtain⟨w4,hrun,OG,hg4⟩:=hown3.update DC underlying375 hn (HV h1 h2) (val:=um v3 (Ra.bN (f p)+x.q)) (d:=.held (um v3 (Ra.bN (f p)+x.q))) (ps:=[]) rfl;have hne:∀q:Int,q≠p->(Lit.int .i64 q)≠(Lit.int .i64 p):=fun q hq e=>hq (by simpa using e);have hD:IsMap D:=by obtain⟨es,clock,_,_,_,e⟩:=h.own;exact⟨_,e⟩
 refine⟨w4,_,fun q=>if q=p then v3 else g q,hrun,⟨OG,fun q=>?_,fun q=>?_,fun q=>?_,fun q r k kU hq=>?_⟩,hg4⟩
 .by_cases hq:q=p
  .subst hq
   rw[atKey_put_same hD (by trivial)];simp[grow,Ra.XW,Ra.bN]
  .rw[atKey_put_other (hne q hq),h.at_]
   simp[grow,hq]
 .by_cases hq:q=p
  .subst hq
   rw[has_put_same hD (by trivial)];simp[grow]
  .rw[has_put_other (hne q hq),h.DF]
   simp[grow,hq]
 .have hfl:flat (f p++[x])=flat (f p)++eK x:=by simp[flat]
  have h4:∀{v:Value} {m:Nat} {xs:List Value},w3.ownsRow base 197 5 v m xs->w4.ownsRow base 197 5 v m xs:=fun {v m xs} hv=>hv.kept hg4 (by
   cases e:v.ownBlock with
   | none=>exact .inl rfl
   | some r =>
    refine .inr fun e2=>?_;have hrb:r=b:=by simpa using e2
    obtain⟨es,clock,hb,_⟩:=hown3;rcases hv.2 with ⟨e1,_⟩ | ⟨r',cap,cur,e1,_,hr,_⟩
    .rw[e1]at e;cases e
    .rw[e1]at e
     have:r'=r:=by simpa [Value.ownBlock] using e
     rw[this,hrb,hb]at hr;cases hr)
  by_cases hq:q=p
  .subst hq
   simp only[grow,if_true];rw[hfl,lAq];exact h4 hrow
  .simp only[grow,hq,if_false]
   refine h4 ((h.row q).kept hg ?_);cases e:(g q).ownBlock with
   | none=>exact .inl rfl
   | some r=>exact .inr fun e2=>h.apart p q r (Ne.symm hq) e2.symm e
 .have hlt:∀(q:Int) k,(g q).ownBlock=some k->k<w.heap.size:=fun q k hk=>((h.row q).lt k hk).2
  by_cases HY:q=p
  .have qX:r≠p:=fun e=>kU (HY.trans e.symm)
   simp only[HY,if_true]at hq;simp only[qX,if_false];intro e;rcases hloc with hl | hl
   .exact h.apart p r k (fun e=>qX e.symm) (hl▸hq) e
   .rw[hl]at hq
    have:=hlt r k e
    have:w.heap.size=k:=by simpa using hq
    omega
  .simp only[HY,if_false]at hq
   by_cases qX:r=p
   .simp only[qX,if_true]
    intro e;rcases hloc with hl | hl
    .exact h.apart q p k HY hq (hl▸e)
    .rw[hl]at e
     have:=hlt q k hq
     have:w.heap.size=k:=by simpa using e
     omega
   .simp only[qX,if_false]
    exact h.apart q r k kU hq
end
end Go.Proofs.YtjolccidheflpaaGreatDoor
