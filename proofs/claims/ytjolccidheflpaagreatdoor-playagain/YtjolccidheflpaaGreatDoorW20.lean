/- The numbers of a seed: next, Stream, and the document's, by their contracts. -/
import Derived.Test.YtjolccidheflpaaGreatDoorW09
import Derived.Test.YtjolccidheflpaaGreatDoorW00
import Derived.Sort.Lot0
import Derived.Maps.OwnOps
import Derived.Maps.AppendAt
import Derived.Maps.Views
namespace Go.Proofs.YtjolccidheflpaaGreatDoor
set_option maxHeartbeats 8000000
set_option maxRecDepth 100000
section
open Go.RowKit
namespace Ra
def half (x:Int):Int:=bits .xor .u32 x (x*8192%4294967296)
def Hr (x:Int):Int:=bits .xor .u32 (half x) (half x/131072)
def CH (x:Int):Int:=bits .xor .u32 (Hr x) (Hr x*32%4294967296)
def CJ (s:Int):Int:=if s=0 then 2463534242 else s
def num (s:Int):Nat->Int
 | 0=>CJ s
 | k+1=>CH (num s k)
def IsU (x:Int):Prop:=0<=x/\x<4294967296
theorem aiE (x:Int):IsU (CH x):=⟨(bits_within .xor .u32 _ _).1,by have:=(bits_within .xor .u32 (Hr x) (Hr x*32%4294967296)).2;unfold CH;have e:IntKind.u32.max=4294967295:=rfl;omega⟩
theorem aiF {s:Int} (h:IsU s):IsU (CJ s):=by unfold CJ;split;exact⟨by omega,by omega⟩;exact h
theorem W7 {s:Int} (h:IsU s):∀ k,IsU (num s k)
 | 0=>aiF h
 | _+1=>aiE _
def fB (s:Int) (n:Nat):Nat->Array Int
 | 0=>((List.range n).map Int.ofNat).toArray
 | k+1=>Sort.swp (fB s n k) (n-1-k) (num s (k+1)%((n-k:Nat):Int)).toNat
theorem q9 (s:Int) (n:Nat):∀ k,(fB s n k).size=n
 | 0=>by simp[fB]
 | k+1=>by rw[fB,Sort.size_swp];exact q9 s n k
end Ra
theorem aiG (x:Int) (hx:Ra.IsU x) (w:World):Calls Tryz.prog 319 #[.int .u32 x] w fun e w'=>e=.returned (.int .u32 (Ra.CH x))/\w'=w:=by
 obtain⟨h0,h1⟩:=hx;go_enter Tryz.func319,Tryz.ntmps319;go_wp2;go_ret;exact⟨rfl,rfl⟩
def Words (w:World) (base:Nat) (v:Value) (n:Nat) (f:Nat->Int):Prop :=
 (n=0/\∃ a cap,v=.slice a 0 cap)\/∃ b cap,v=.slice (some (Qb b 0)) n cap/\base<=b/\b<w.heap.size/\∀ i,i<n->w.cell? (Qb b i)=some (.int .u32 (f i))
theorem aiH:∃ i,Tryz.prog.info? 41=some i/\i.zero=some (.int .u32 0)/\i.size=1/\i.bytes=4:=⟨_,rfl,rfl,rfl,rfl⟩
def xy (f:Nat->Int) (k:Nat):List Value:=(List.range k).map fun i=>.int .u32 (f i)
theorem aiI (f:Nat->Int) (k:Nat):xy f (k+1)=xy f k++[.int .u32 (f k)]:=by simp[xy,List.range_succ]
theorem W8 (w:World) (o:Array Value) (T:TypeId) (u:Value) (j:Nat) (x:Value) (ho:o=#[x]) (hj:[x][j]?=some u):(w.alloc (.cells o T)).cell? ((⟨w.heap.size,0,none⟩:Addr).add j)=some u:=by
 subst ho
 match j,hj with
 | 0,hj =>
  have hj:x=u:=by simpa using hj
  subst hj;show World.cell? _ (Qb w.heap.size 0)=_;rw[World.cell?_alloc_new];rfl
 | j+1,hj=>simp at hj
theorem aiJ {w:World} {base n:Nat} {v:Value} {f:Nat->Int} (h:w.ownsRow base 41 1 v n (xy f n)):Words w base v n f:=by
 rcases h.2 with ⟨h1,h2⟩ | ⟨g,cap,cur,h1,hg1,hg2,_,_,_,_⟩
 .exact .inl ⟨h2,none,0,h1⟩
 .refine .inr ⟨g,cap,h1,hg1,(Array.getElem?_eq_some_iff.1 hg2).1,fun i hi=>?_⟩
  have:=World.ownsRow.cells h (g:=g) (by rw[h1];rfl) i (.int .u32 (f i)) (by simp[xy,hi])
  have hp:(⟨g,0,none⟩:Addr).add i=(Qb g i):=by unfold Addr.add;split <;> simp_all
  rwa [hp]at this
theorem aiK (s x0:Int) (n:Nat) (hx:Hid (∀ k,Ra.IsU (Ra.num s k))) (hn':n<=1000) (w:World) (hs:(x0=0/\Hid (2463534242=Ra.num s 0))\/(¬ x0=0/\Hid (x0=Ra.num s 0))) :
  Calls Tryz.prog 314 #[.int .u32 x0,Qa (n:Int)] w fun e w'=>∃ v,e=.returned v/\Words w' w.heap.size v n (fun i=>Ra.num s (i+1))/\Qd w w':=by
 obtain⟨i0,hi,hz0,hz1,hz2⟩:=aiH;have Hi:=hDq hi;have eG:=hDq hz0;have eH:=hDq hz1;have eI:=hDq hz2;clear hi hz0 hz1 hz2;have hmin:(n:Int)<=1000:=by omega
 have jk:x0=0\/(x0==0)=false:=by by_cases h:x0=0;exact .inl h;exact .inr (by simpa using h)
 have h0:Hid ((if x0=0 then 2463534242 else x0)=Ra.num s 0):=by
  rcases hs with ⟨h1,h2⟩ | ⟨h1,h2⟩
  .show _=_;rw[if_pos h1];exact h2.out
  .show _=_;rw[if_neg h1];exact h2.out
 clear hs;rcases jk with rfl | h1
 all_goals
  go_enter Tryz.func314,Tryz.ntmps314;go_wp2
  go_loopw [5,6,12] (fun x v i wr=>∃ k:Nat,k<=n/\i=Qa k/\x=.int .u32 (Ra.num s k)/\wr.ownsRow w.heap.size 41 1 v k (xy (fun i=>Ra.num s (i+1)) k)/\Qd w wr) (fun _ _ i _=>n-(intOf i).toNat)
  case atStart=>exact⟨0,Nat.zero_le _,rfl,by rw[<- h0.out];simp_all,World.ownsRow_nil _ _ _ _,bRq _ _⟩
  case round =>
   obtain⟨k,hk,rfl,rfl,hown,hb⟩:=hrel;have HB:=hDq hb;have HO:=hDq hown;clear hb hown;by_cases hlt:k<n
   .have aX:(k:Int)<n:=by omega
    go_wp2_with fail
    refine(aiG _ (hx.out k) _).mono ?_;rintro e w2 ⟨rfl,rfl⟩;simp only[];generalize hy:Ra.CH (Ra.num s k)=y;have eo:Hid (y=Ra.num s (k+1)):=hy.symm;clear hy
    go_wp2_with (at_builtin;refine wpList_append_own _ rfl _ _ 427 rfl w.heap.size 41 i0 (.int .u32 0) 1 4 Tryz.underlying427 Hi.out eG.out eH.out eI.out rfl (by decide) _ _ _ rfl (HO.out.alloc _) (Qb w2.heap.size 0) 1 1 [.int .u32 y] rfl rfl ?c1 ?c2 ?c3 ?c4 ?c5 ?_)
    case c1=>exact fun j u hj=>W8 w2 _ _ u j _ rfl hj
    case c2=>intro u hu;have hu:u=.int .u32 y:=(by simpa using hu);rw[hu];rfl
    case c3=>unfold maxLen;omega
    case c4=>omega
    case c5=>have:=HB.out.size;simp;omega
    intro v3 w3 hown' hgrow _;have sV:Hid (w3.ownsRow w.heap.size 41 1 v3 (k+1) (xy (fun i=>Ra.num s (i+1)) (k+1))):=by
     show w3.ownsRow _ _ _ _ _ _;rw[aiI,<- eo.out];exact hown'
    have au:Hid (Qd w w3):=(HB.out.alloc HB.out.size _).grown hgrow (by have:=HB.out.size;simp;omega) (fun j hj=>by
     rcases HO.out.2 with ⟨e,_⟩ | ⟨g,cap,cur,e,hg,_⟩
     .rw[e]at hj;cases hj
     .rw[e]at hj;cases hj;exact hg)
    clear hown' hgrow HO HB;go_wp2;exact⟨⟨k+1,by omega,by go_num,by rw[eo.out],sV.out,au.out⟩,by simp[intOf];omega⟩
   .have aX:¬ (k:Int)<n:=by omega
    obtain rfl:k=n:=by omega
    have HW:=hDq (aiJ HO.out);clear HO;go_wp2;go_ret;exact⟨_,rfl,HW.out,HB.out⟩
theorem aiL (s:Int) (n:Nat) (hs:Ra.IsU s) (hn':n<=1000) (w:World) :
  Calls Tryz.prog 314 #[.int .u32 s,Qa (n:Int)] w fun e w'=>∃ v,e=.returned v/\Words w' w.heap.size v n (fun i=>Ra.num s (i+1))/\Qd w w':=by
 refine aiK s s n (Ra.W7 hs) hn' w ?_;by_cases h:s=0
 .exact .inl ⟨h,by subst h;rfl⟩
 .exact .inr ⟨h,by show s=Ra.CJ s;unfold Ra.CJ;rw[if_neg h]⟩
end
section
open Go.RowKit Go.Maps
def xu (v:Value):Option (DataW Value×List MemPlace):=some (.held v,[])
def sW (g:Value) (q:Int):Value:=.agg #[g,.int .i64 q]
def N3:Value:=sW (.slice none 0 0) 0
theorem Cx:Keyed Tryz.prog 3:=int_keyed Tryz.underlying3
theorem aiC (w:World):(zeroValue 406).run Tryz.prog w=.ok N3 w:=by kernel_rfl
theorem Ho {p:Int} (h1:-9223372036854775808<=p) (h2:p<=9223372036854775807):keyOf Tryz.prog 3 (.int .i64 p)=some (.int .i64 p):=keyOf_int_mk Tryz.underlying3 (WalkArith.wf_i64 (by omega))
structure iJ (w:World) (base b n:Nat) (f:Int->List Cv.ag) (D:DataW Value) (g:Int->Value):Prop where
 own:w.ownsMap Tryz.prog 3 xu b n D
 at_:∀ p,D.atKey (.int .i64 p) (.held N3)=.held (sW (g p) (Ra.bB (f p)))
 Cy:∀ p,Maps.has D (.int .i64 p)=!(f p).isEmpty
 row:∀ p,w.ownsRow base 197 5 (g p) (f p).length (flat (f p))
 apart:∀ p q r,p≠q->(g p).ownBlock=some r->(g q).ownBlock≠some r
theorem iJ.aiD {w:World} {base b n:Nat} {f:Int->List Cv.ag} {D:DataW Value} {g:Int->Value} (h:iJ w base b n f D g) (p:Int):(g p).ownBlock≠some b:=by
 intro e;obtain⟨es,clock,hb,_⟩:=h.own;rcases (h.row p).2 with ⟨e1,_⟩ | ⟨r,cap,cur,e1,_,hr,_⟩
 .rw[e1]at e;cases e
 .rw[e1]at e
  have:r=b:=by simpa [Value.ownBlock] using e
  rw[this,hb]at hr;cases hr
theorem iJ.kept {w w':World} {base b n:Nat} {f:Int->List Cv.ag} {D:DataW Value} {g:Int->Value} {row:Option Nat} (h:iJ w base b n f D g) (hg:w.grownBy w' row) (hb:some b≠row) (hr:∀ p,(g p).ownBlock=none\/(g p).ownBlock≠row):iJ w' base b n f D g :=
 ⟨h.own.kept hg hb,h.at_,h.Cy,fun p=>(h.row p).kept hg (hr p),h.apart⟩
theorem iJ.alloc {w:World} {base b n:Nat} {f:Int->List Cv.ag} {D:DataW Value} {g:Int->Value} (h:iJ w base b n f D g) (o:Obj):iJ (w.alloc o) base b n f D g :=
 ⟨h.own.alloc o,h.at_,h.Cy,fun p=>(h.row p).alloc o,h.apart⟩
theorem iJ.drew {w:World} {base b n:Nat} {f:Int->List Cv.ag} {D:DataW Value} {g:Int->Value} (h:iJ w base b n f D g):iJ w.drew base b n f D g :=
 ⟨h.own.drew,h.at_,h.Cy,fun p=>(h.row p).drew,h.apart⟩
theorem iJ.later {w w':World} {base b n:Nat} {f:Int->List Cv.ag} {D:DataW Value} {g:Int->Value} (h:iJ w base b n f D g) (hb:Qd w w'):iJ w' base b n f D g :=
 h.kept (row:=none) ⟨hb.os,hb.tape,hb.output,hb.size,fun i hi _=>hb.block i hi⟩ (by simp) (fun p=>by
  cases e:(g p).ownBlock with
  | none=>exact .inl rfl
  | some r=>exact .inr (by simp))
theorem iJ.look {w:World} {base b n:Nat} {f:Int->List Cv.ag} {D:DataW Value} {g:Int->Value} (h:iJ w base b n f D g) {p:Int} (h1:-9223372036854775808<=p) (h2:p<=9223372036854775807) :
  (Instr.lookup 375 (.map (some b)) (.int .i64 p) false).run Tryz.prog w=.ok (sW (g p) (Ra.bB (f p))) w:=by
 obtain⟨v,ps,hrun,hv⟩:=h.own.lookup Cx Tryz.underlying375 (aiC w) (zd:=.held N3) (zp:=[]) rfl (Ho h1 h2);rw[h.at_]at hv;have:v=sW (g p) (Ra.bB (f p)):=(by simpa [xu] using hv:_/\ps=[]).1;rw[hrun,this]
def grow (f:Int->List Cv.ag) (p:Int) (x:Cv.ag):Int->List Cv.ag:=fun q=>if q=p then f p++[x] else f q
theorem iJ.store {w w3:World} {base b n:Nat} {f:Int->List Cv.ag} {D:DataW Value} {g:Int->Value} (h:iJ w base b n f D g) {p:Int} (x:Cv.ag) (h1:-9223372036854775808<=p) (h2:p<=9223372036854775807) (hn:n<maxLen) {v3:Value}
  (hrow:w3.ownsRow base 197 5 v3 ((f p).length+1) (flat (f p)++ep x)) (hg:w.grownBy w3 (g p).ownBlock) (hloc:v3.ownBlock=(g p).ownBlock\/v3.ownBlock=some w.heap.size) :
  ∃ w4 N0 g',(Instr.mapUpdate 375 (.map (some b)) (.int .i64 p) (sW v3 (Ra.bB (f p)+x.q))).run Tryz.prog w3=.ok () w4/\iJ w4 base b (n+1) (grow f p x) N0 g'/\w3.grownBy w4 (some b):=by
 have hown3:w3.ownsMap Tryz.prog 3 xu b n D:=h.own.kept hg (fun e=>h.aiD p e.symm);obtain⟨w4,hrun,N4,hg4⟩:=hown3.update Cx Tryz.underlying375 hn (Ho h1 h2) (val:=sW v3 (Ra.bB (f p)+x.q)) (d:=.held (sW v3 (Ra.bB (f p)+x.q))) (ps:=[]) rfl;have hne:∀ q:Int,q≠p->(Lit.int .i64 q)≠(Lit.int .i64 p):=fun q hq e=>hq (by simpa using e);have hD:IsMap D:=by obtain⟨es,clock,_,_,_,e⟩:=h.own;exact⟨_,e⟩
 refine⟨w4,_,fun q=>if q=p then v3 else g q,hrun,⟨N4,fun q=>?_,fun q=>?_,fun q=>?_,fun q r k j6 hq=>?_⟩,hg4⟩
 .by_cases hq:q=p
  .subst hq
   rw[atKey_put_same hD (by trivial)];simp[grow,Ra.WA,Ra.bB]
  .rw[atKey_put_other (hne q hq),h.at_]
   simp[grow,hq]
 .by_cases hq:q=p
  .subst hq
   rw[has_put_same hD (by trivial)];simp[grow]
  .rw[has_put_other (hne q hq),h.Cy]
   simp[grow,hq]
 .have hfl:flat (f p++[x])=flat (f p)++ep x:=by simp[flat]
  have h4:∀ {v:Value} {m:Nat} {xs:List Value},w3.ownsRow base 197 5 v m xs->w4.ownsRow base 197 5 v m xs:=fun {v m xs} hv=>hv.kept hg4 (by
   cases e:v.ownBlock with
   | none=>exact .inl rfl
   | some r =>
    refine .inr fun e2=>?_;have hrb:r=b:=by simpa using e2
    obtain⟨es,clock,hb,_⟩:=hown3;rcases hv.2 with ⟨e1,_⟩ | ⟨r',cap,cur,e1,_,hr,_⟩
    .rw[e1]at e;cases e
    .rw[e1]at e
     have:r'=r:=by simpa [Value.ownBlock] using e
     rw[this,hrb,hb]at hr;cases hr)
  by_cases hq:q=p
  .subst hq
   simp only[grow,if_true];rw[hfl,lAq];exact h4 hrow
  .simp only[grow,hq,if_false]
   refine h4 ((h.row q).kept hg ?_);cases e:(g q).ownBlock with
   | none=>exact .inl rfl
   | some r=>exact .inr fun e2=>h.apart p q r (Ne.symm hq) e2.symm e
 .have hlt:∀ (q:Int) k,(g q).ownBlock=some k->k<w.heap.size:=fun q k hk=>((h.row q).lt k hk).2
  by_cases Hq:q=p
  .have nQ:r≠p:=fun e=>j6 (Hq.trans e.symm)
   simp only[Hq,if_true]at hq;simp only[nQ,if_false];intro e;rcases hloc with hl | hl
   .exact h.apart p r k (fun e=>nQ e.symm) (hl▸hq) e
   .rw[hl]at hq
    have:=hlt r k e
    have:w.heap.size=k:=by simpa using hq
    omega
  .simp only[Hq,if_false]at hq
   by_cases nQ:r=p
   .simp only[nQ,if_true]
    intro e;rcases hloc with hl | hl
    .exact h.apart q p k Hq hq (hl▸e)
    .rw[hl]at e
     have:=hlt q k hq
     have:w.heap.size=k:=by simpa using e
     omega
   .simp only[nQ,if_false]
    exact h.apart q r k j6 hq
end
end Go.Proofs.YtjolccidheflpaaGreatDoor
