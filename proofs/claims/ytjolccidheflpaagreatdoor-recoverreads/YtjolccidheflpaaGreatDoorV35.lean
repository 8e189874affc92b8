/- A venue: what it has, what bytes that are fed to it and a tick make of it; no program is spoken of. -/
import Derived.Test.YtjolccidheflpaaGreatDoorV30
import Derived.Test.YtjolccidheflpaaGreatDoorV11
import Derived.Test.YtjolccidheflpaaGreatDoorV31
import Derived.Test.YtjolccidheflpaaGreatDoorV34
import Derived.Test.YtjolccidheflpaaGreatDoorV00
import Derived.Lib.ItoaLen
import Derived.Test.YtjolccidheflpaaGreatDoorV13
import Derived.Test.YtjolccidheflpaaGreatDoorV10
namespace Go.Proofs.YtjolccidheflpaaGreatDoor
set_option maxHeartbeats 8000000
namespace af
structure jo where
 c:Int
 k:ByteArray
 id:Int
 pr:Int
 q:Int
 cd:Int
structure St where
 L:Nat->List Cv.ag
 pf:Nat->Int
 n:Nat->Int
 Q:Nat->List Ask
 t:Nat
 on:Nat->Bool
 bN:Nat->Int
 la:Nat->Int
 bk:Nat->ByteArray
 aJ:Nat->Bool
 tp:List UInt8
 cut:Bool
 left:Nat
 now:Nat
 bt:Nat
 down:Bool
def CF:ByteArray:=⟨#[114,101,102,117,115,101,100]⟩
def HY:ByteArray:=⟨#[102,105,108,108,101,100]⟩
def CG:ByteArray:=⟨#[114,101,115,116,115]⟩
def pM:ByteArray:=⟨#[103,111,110,101]⟩
def bq (f:ByteArray):Ask:=⟨fj f (az f 0),fj f (az f 1),fj f (av f 2),fj f (az f 6),fj f (az f 7),fj f (av f 8),fj f (av f 12),fj f (av f 16)⟩
def kr (c id:Int) (e:Nat):jo:=⟨c,CF,id,0,0,e⟩
def leave (S:St) (n:Nat):St:={ S with Q:=aD.pB S.Q n,aJ:=upd S.aJ n true }
def takeC (S:St) (n:Nat) (a:Ask):Nat:=if a.c=n then jm.tc (S.on n) (S.bN n) a else 3
def taken (S:St) (n:Nat) (a:Ask):St :=
 { S with on:=upd S.on n (jm.Qp (S.on n) (S.bN n) a),bN:=upd S.bN n (jm.aim (S.on n) (S.bN n) a),la:=upd S.la n (jm.ain (S.on n) (S.bN n) (S.la n) a S.now) }
def ajh (a:Ask):Bool:=a.k==111 || a.k==99
def aji (S:St) (n:Nat) (f:ByteArray):St :=
 if bM f=0 then
  if takeC S n (bq f)=0 then
   if ajh (bq f)=true then { taken S n (bq f) with Q:=aD.afZ S.Q (bq f) }
   else if (bq f).k=113 then leave (taken S n (bq f)) n else taken S n (bq f)
  else S
 else S
def ajj (S:St) (n:Nat) (b:ByteArray):Nat->St
 | 0=>S
 | k+1=>aji (ajj S n b k) n (fr b k)
def gone (S:St) (n:Nat):St :=
 { S with on:=upd S.on n false,bN:=upd S.bN n 0,la:=upd S.la n 0,bk:=upd S.bk n ByteArray.empty,aJ:=upd S.aJ n true,Q:=aD.pB S.Q n }
def hang (S:St) (n:Nat):St:=if jm.late (S.on n) (S.la n) S.now=true then gone S n else S
def hangs (S:St):Nat->St
 | 0=>S
 | k+1=>hang (hangs S k) k
def dA (aJ:Nat->Bool):Nat->List Nat
 | 0=>[]
 | k+1=>dA aJ k++if aJ k=true then [k] else []
def dec (n:Int):List Int:=(Lib.itoa n).map fun b=>(b.toNat:Int)
def rU (x:Nat):Int:=if x<10 then 48+(x:Int) else 87+(x:Int)
def lA (s:ByteArray):Nat->List Int
 | 0=>[]
 | k+1=>lA s k++[rU (az s k/16),rU (az s k%16)]
def lB (ds:List Nat):Nat->List Int
 | 0=>[]
 | k+1=>lB ds k++((if 0<k then [44] else [])++dec ((ds.getD k 0:Nat):Int))
def cQ (a:Ask):ByteArray:=p9 a.k a.c a.sq a.it a.sd a.pr a.q a.id
def ng (l:List Ask):Nat->List Int
 | 0=>[]
 | k+1=>ng l k++([32]++lA (cQ (cg l k)) (cQ (cg l k)).size)
def HZ (bt:Nat) (ds:List Nat) (l:List Ask):List Int:=((dec bt++[58])++lB ds ds.length)++ng l l.length
def eQ (bt:Nat) (ds:List Nat) (l:List Ask):ByteArray:=strOfNums (HZ bt ds l)
structure cJ where
 L:Nat->List Cv.ag
 pf:Nat->Int
 n:Nat->Int
 pl:List Ask
 rp:List jo
def tell (k:ByteArray) (x:Cv.ag):jo:=⟨x.ak,k,x.id,x.pr,x.q,0⟩
def uj (r:cJ) (c:Nat):cJ:={ r with L:=Fl.k5 c r.L 3,pf:=Fl.p_ c r.L r.pf 3,rp:=r.rp++(Fl.mD c r.L 3).map (tell pM) }
def kt (r:cJ) (ds:List Nat):Nat->cJ
 | 0=>r
 | k+1=>uj (kt r ds k) (ds.getD k 0)
def others (a:Ask) (l:List Ask):List Ask:=l.filter fun x=>!(x.it==a.it&&x.id==a.id)
def wN (r:cJ) (a:Ask):cJ :=
 { r with L:=Fl.kB r.L r.pf a,pf:=Fl.jD r.L r.pf a,pl:=if Fl.eC r.L r.pf a=0 then r.pl++[a] else r.pl,rp:=if Fl.eC r.L r.pf a=0 then r.rp else r.rp++[kr a.c a.id (Fl.eC r.L r.pf a+1)] }
def wI (r:cJ) (a:Ask):cJ :=
 { r with L:=Fl.dZ r.L a,pf:=Fl.jE r.L r.pf a,pl:=if Fl.cW r.L r.pf a=0 then others a r.pl else r.pl,rp:=r.rp++if Fl.cW r.L r.pf a=0 then [tell pM (Fl.fy r.L a)] else [kr a.c a.id (Fl.cW r.L r.pf a+1)] }
def og (r:cJ) (a:Ask):cJ:=if a.k=111 then wN r a else wI r a
def kO (r:cJ) (l:List Ask):Nat->cJ
 | 0=>r
 | k+1=>og (kO r l k) (cg l k)
def uk (l:List Cv.ag):Nat->Int->Int
 | 0=>fun _=>0
 | k+1=>fun id=>if id=(Cv.nth l k).id then (Cv.nth l k).ak else uk l k id
open Classical in
noncomputable def CH (l:List Cv.ag) (ref:Int):Int×Int:=if h:∃ pv:Int×Int,Cv.eN l ref 1000 pv.1 pv.2 then Classical.choose h else (0,0)
noncomputable def iV (r:cJ) (i:Nat):Int:=(CH (r.L i) (r.n (i*2))).1
noncomputable def pO (r:cJ) (i:Nat):Int:=(CH (r.L i) (r.n (i*2))).2
noncomputable def iW (wd:Int) (r:cJ) (i:Nat) (s:Int):List (Int×Int):=Fl.nS s (r.L i) (Fl.nQ r.n i wd (iV r i) (pO r i)) (iV r i) (pO r i)
def um (l:List Cv.ag) (p:Int) (f:Int×Int):jo:=⟨uk l l.length f.1,HY,f.1,p,f.2,0⟩
def oh (L:Nat->List Cv.ag) (i:Nat) (a:Ask):List jo:=if Cv.has (L i) a.id=true∧a.it=i then [tell CG (Bk.jv (L i) a.id)] else []
noncomputable def uo (wd h:Int) (r:cJ) (i:Nat) (s:Int):cJ :=
 { r with L := Fl.nP r.L i (iW wd r i s), pf := Fs.gN r.pf i (iV r i) (r.L i) (iW wd r i s), n := Fl.runN r.n i wd h (iV r i) (pO r i),
          rp:=r.rp++((iW wd r i s).map (um (r.L i) (iV r i))++r.pl.flatMap (oh (Fl.nP r.L i (iW wd r i s)) i)) }
def rV (seed:Int) (bt i:Nat):Int:=(seed+((3*bt+i:Nat):Int)%4294967296)%4294967296
noncomputable def l7 (wd h seed:Int) (bt:Nat) (r:cJ):Nat->cJ
 | 0=>r
 | k+1=>uo wd h (l7 wd h seed bt r k) k (rV seed bt k)
def start (S:St):cJ:=⟨S.L,S.pf,S.n,[],[]⟩
noncomputable def iH (wd h seed:Int) (S:St) (ds:List Nat) (l:List Ask):cJ:=l7 wd h seed S.bt (kO (kt (start S) ds ds.length) l l.length) 3
def uq (aJ:Nat->Bool):Nat->Nat->Bool
 | 0=>aJ
 | k+1=>upd (uq aJ k) k false
noncomputable def l8 (wd h seed:Int) (S:St) (ds:List Nat) (l:List Ask):St :=
 { S with L:=(iH wd h seed S ds l).L,pf:=(iH wd h seed S ds l).pf,n:=(iH wd h seed S ds l).n,aJ:=uq S.aJ 6,bt:=S.bt+1 }
def full (S:St) (s:ByteArray):Bool:=decide (1048576<S.tp.length+(12+s.size))
def ku (S:St) (s:ByteArray):Bool:=!full S s&&(!S.cut || decide (12+s.size<=S.left))
def bG (S:St) (s:ByteArray):St :=
 if full S s=true then S else { S with tp:=S.tp++(if S.cut=true then (bn.rec s.data.toList).take S.left else bn.rec s.data.toList),left:=if S.cut=true then S.left-(12+s.size) else S.left }
def bL (S:St):St:={ S with Q:=aD.BO S.Q S.t,t:=aD.who S.t 1 }
def cn (S:St):ByteArray:=eQ S.bt (dA S.aJ 6) (aD.out S.Q S.t)
noncomputable def rW (wd h seed:Int) (S:St):St :=
 if ku (bL S) (cn S)=true then l8 wd h seed (bG (bL S) (cn S)) (dA S.aJ 6) (aD.out S.Q S.t) else { bG (bL S) (cn S) with down:=true }
noncomputable def Oa (wd h seed:Int) (S:St):List jo :=
 if ku (bL S) (cn S)=true then (iH wd h seed (bG (bL S) (cn S)) (dA S.aJ 6) (aD.out S.Q S.t)).rp else []
def bl (S:St):St:=hangs { S with now:=S.now+1 } 6
noncomputable def dh (wd h seed:Int) (S:St):St :=
 if S.down=true then S else if (S.now+1)%3=0 then rW wd h seed (bl S) else bl S
noncomputable def rX (wd h seed:Int) (S:St):List jo :=
 if S.down=true then [] else if (S.now+1)%3=0 then Oa wd h seed (bl S) else []
end af
end Go.Proofs.YtjolccidheflpaaGreatDoor
namespace Go.Proofs.YtjolccidheflpaaGreatDoor
set_option maxHeartbeats 8000000
open Go.RowKit
set_option maxRecDepth 100000
structure cz where
 V:Nat
 F:Nat
 P:Nat
 q:Nat
 d:Nat
 I:Nat->Nat
 b:Nat->Nat
structure cm where
 v:Nat->Value
 qv:Nat->Value
 bH:Value
def fK (S:af.St) (c:Nat):Nat->Value
 | 0=>.bool (S.on c)
 | 1=>.int .i64 (S.bN c)
 | 2=>.int .i64 (S.la c)
 | 3=>.string (S.bk c)
 | _=>.bool (S.aJ c)
def wQ (S:af.St) (c:Nat):List Value:=[.bool (S.on c),.int .i64 (S.bN c),.int .i64 (S.la c),.string (S.bk c),.bool (S.aJ c)]
def jL (B:cz) (seed:Int) (S:af.St):Array Value :=
 (([.int .u32 seed,.pointer (some ⟨B.F,0,none⟩),.pointer (some ⟨B.q,0,none⟩),.pointer (some ⟨B.d,0,none⟩)]:List Value)++(wQ S 0++(wQ S 1++(wQ S 2++(wQ S 3++(wQ S 4++(wQ S 5++[Value.int .i64 S.now,Value.int .i64 S.bt,Value.bool S.down]))))))).toArray
theorem H6 (B:cz) (seed:Int) (S:af.St) {c j:Nat} (hc:c<6) (hj:j<5):(jL B seed S)[4+c*5+j]?=some (fK S c j):=by
 have h1:c=0∨c=1∨c=2∨c=3∨c=4∨c=5:=by omega
 have h2:j=0∨j=1∨j=2∨j=3∨j=4:=by omega
 rcases h1 with rfl | rfl | rfl | rfl | rfl | rfl <;> rcases h2 with rfl | rfl | rfl | rfl | rfl <;> rfl
theorem ajF (B:cz) (seed:Int) (S S':af.St) {c j:Nat} (hc:c<6) (hj:j<5) (u:Value)
  (h:∀ c' j',c'<6->j'<5->fK S' c' j'=if c'=c∧j'=j then u else fK S c' j') (hn:S'.now=S.now) (hb:S'.bt=S.bt) (hd:S'.down=S.down) :
  (jL B seed S).setIfInBounds (4+c*5+j) u=jL B seed S':=by
 have h0:=fun c' j' (h1:c'<6) (h2:j'<5)=>h c' j' h1 h2;have e:∀ c',c'<6->wQ S' c'=[if c'=c∧0=j then u else fK S c' 0,if c'=c∧1=j then u else fK S c' 1,if c'=c∧2=j then u else fK S c' 2,if c'=c∧3=j then u else fK S c' 3,if c'=c∧4=j then u else fK S c' 4]:=fun c' h1=>by
  rw[<- h0 c' 0 h1 (by decide),<- h0 c' 1 h1 (by decide),<- h0 c' 2 h1 (by decide),<- h0 c' 3 h1 (by decide),<- h0 c' 4 h1 (by decide)];rfl
 unfold jL;rw[e 0 (by decide),e 1 (by decide),e 2 (by decide),e 3 (by decide),e 4 (by decide),e 5 (by decide),hn,hb,hd];have h1:c=0∨c=1∨c=2∨c=3∨c=4∨c=5:=by omega
 have h2:j=0∨j=1∨j=2∨j=3∨j=4:=by omega
 rcases h1 with rfl | rfl | rfl | rfl | rfl | rfl <;> rcases h2 with rfl | rfl | rfl | rfl | rfl <;> rfl
structure aG (w W:World) (B:cz) (X:cm) (wd h seed:Int) (S:af.St):Prop where
 blk:W.heap[B.V]?=some (.cells (jL B seed S) 114 (0,0))
 fl:aU w W B.F B.P B.I B.b X.v S.L S.pf S.n wd h
 it:dw W w.heap.size B.q X.qv S.t S.Q
 dk:dG W w.heap.size B.d X.bH S.tp S.cut S.left
 lo:w.heap.size<=B.V
def iG (B:cz) (X:cm) (k:Nat):Prop:=k=B.V∨k=B.P∨(∃ i,i<3∧(k=B.I i∨k=B.b i∨(X.v i).ownBlock=some k))∨mU B.q X.qv k∨k=B.d∨X.bH.ownBlock=some k
structure bV (W W':World) (B:cz) (X X':cm):Prop where
 turned:aF W W' (iG B X)
 new:∀ k,iG B X' k->iG B X k∨W.heap.size<=k
section
variable {w W W' W2:World} {B:cz} {X X' X2:cm} {wd h seed:Int} {S:af.St}
theorem bV.refl (W:World) (B:cz) (X:cm):bV W W B X X:=⟨aF.refl _ _,fun _ h=>.inl h⟩
theorem bV.of_below (hb:Below W.heap.size W W') (B:cz) (X:cm):bV W W' B X X:=⟨aF.of_below hb _,fun _ h=>.inl h⟩
theorem bV.trans (h:bV W W' B X X') (h1:bV W' W2 B X' X2):bV W W2 B X X2 :=
 ⟨h.turned.trans h1.turned h.new,fun k hk=>by
  rcases h1.new k hk with h3 | h3
  ·exact h.new k h3
  ·exact .inr (lTq h.turned.size h3)⟩
theorem bV.below (h:bV W W' B X X') (hb:Below W'.heap.size W' W2):bV W W2 B X X':=h.trans (bV.of_below hb B X')
theorem dG.lt {base p:Nat} {v:Value} {l:List UInt8} {cut:Bool} {left:Int} (h:dG W base p v l cut left):p<W.heap.size:=lBq h.cell
theorem dz.turned {base:Nat} {v:Value} {xs:List Int} {T:Nat->Prop} (hr:dz W base v xs) (h:aF W W' T) (ha:∀ k,v.ownBlock=some k->¬ T k):dz W' base v xs :=
 hr.block fun k hk=>h.block k (hr.lt k hk).2 (ha k hk)
theorem dz.uw {base:Nat} {v:Value} {xs:List Int} {cur:Array Value} {e:TypeId} {fz:Nat×Nat} {q:Nat} (hr:dz W base v xs) (hq:W.heap[q]?=some (.cells cur e fz)) (hne:e≠5):v.ownBlock≠some q:=by
 obtain⟨g,cap,kL,XK,rfl,_,hg,_⟩:=hr;intro hk;have:g=q:=by simpa [Value.ownBlock] using hk
 rw[this,hq]at hg;simp at hg;exact hne hg.2.1
theorem dG.turned {base p:Nat} {v:Value} {l:List UInt8} {cut:Bool} {left:Int} {T:Nat->Prop} (h:dG W base p v l cut left) (ht:aF W W' T) (h1:¬ T p) (h2:∀ k,v.ownBlock=some k->¬ T k):dG W' base p v l cut left :=
 ⟨by rw[ht.block p h.lt h1];exact h.cell,h.row.turned ht h2,h.lo⟩
theorem aG.iR (H:aG w W B X wd h seed S) {k:Nat} (hk:iG B X k):w.heap.size<=k∧k<W.heap.size:=by
 rcases hk with rfl | rfl | ⟨i,hi,rfl | rfl | hk⟩ | hk | rfl | hk
 ·exact⟨H.lo,lBq H.blk⟩
 ·exact⟨H.fl.mG,lBq H.fl.cy⟩
 ·exact⟨H.fl.mH i hi,lBq (H.fl.it i hi)⟩
 ·exact⟨(H.fl.aB i hi).lo,lBq (H.fl.aB i hi).cell⟩
 ·exact(H.fl.aB i hi).sO k hk
 ·exact H.it.iR hk
 ·exact⟨H.dk.lo,H.dk.lt⟩
 ·exact H.dk.row.lt k hk
theorem aG.dv (H:aG w W B X wd h seed S):Below w.heap.size w W:=H.fl.dv
theorem aU.turned {F P:Nat} {I b:Nat->Nat} {v:Nat->Value} {L:Nat->List Cv.ag} {pf n:Nat->Int} {T:Nat->Prop} (hf:aU w W F P I b v L pf n wd h) (ht:aF W W' T) (hF:¬ T F) (hP:¬ T P) (h3:∀ i,i<3->¬ T (I i)∧¬ T (b i)∧∀ k,(v i).ownBlock=some k->¬ T k) (hT:∀ k,T k->w.heap.size<=k):aU w W' F P I b v L pf n wd h:=by
 refine⟨by rw[ht.block F (lBq hf.blk) hF];exact hf.blk,fun i hi=>by rw[ht.block _ (lBq (hf.it i hi)) (h3 i hi).1];exact hf.it i hi,fun i hi=>?_,hf.o5,hf.ne,hf.ap,?_,hf.lo,hf.mG,hf.mH,hf.dv.trans (ht.below hf.dv.size hT)⟩
 ·have hb:=hf.aB i hi
  exact⟨by rw[ht.block _ (lBq hb.cell) (h3 i hi).2.1];exact hb.cell,hb.lo,fJ hb.row ht (h3 i hi).2.2⟩
 ·show W'.heap[P]?=_
  rw[ht.block P (lBq hf.cy) hP];exact hf.cy
theorem aG.aside {T:Nat->Prop} (H:aG w W B X wd h seed S) (ht:aF W W' T) (hF:¬ T B.F) (ho:∀ k,iG B X k->¬ T k) (hT:∀ k,T k->w.heap.size<=k):aG w W' B X wd h seed S :=
 ⟨by rw[ht.block _ (lBq H.blk) (ho _ (.inl rfl))];exact H.blk,
  H.fl.turned ht hF (ho _ (.inr (.inl rfl))) (fun i hi=>⟨ho _ (.inr (.inr (.inl ⟨i,hi,.inl rfl⟩))),ho _ (.inr (.inr (.inl ⟨i,hi,.inr (.inl rfl)⟩))),fun k hk=>ho k (.inr (.inr (.inl ⟨i,hi,.inr (.inr hk)⟩)))⟩) hT,
  H.it.turned ht (fun k hk=>ho k (.inr (.inr (.inr (.inl hk))))),
  H.dk.turned ht (ho _ (.inr (.inr (.inr (.inr (.inl rfl)))))) (fun k hk=>ho k (.inr (.inr (.inr (.inr (.inr hk)))))),H.lo⟩
theorem aG.later (H:aG w W B X wd h seed S) (hb:Below W.heap.size W W'):aG w W' B X wd h seed S :=
 H.aside (aF.of_below hb (fun _=>False)) (fun h=>h) (fun _ _ h=>h) (fun _ h=>h.elim)
theorem H4 (H:aG w W B X wd h seed S) {k:Nat} {cur:Array Value} {e:TypeId} {fz:Nat×Nat} (hk:W.heap[k]?=some (.cells cur e fz)) (he:e≠114∧e≠213∧e≠267∧e≠276∧e≠197∧e≠232∧e≠95∧e≠117∧e≠5):¬ iG B X k:=by
 have ty:∀ {q:Nat} {a:Array Value} {T:TypeId} {KC:Nat×Nat},W.heap[q]?=some (.cells a T KC)->e≠T->k≠q:=fun hq hT=>aA hk hq hT;rintro (rfl | rfl | ⟨i,hi,rfl | rfl | h1⟩ | (rfl | ⟨c,hc,h1⟩) | rfl | h1)
 ·exact ty H.blk he.1 rfl
 ·exact ty H.fl.cy he.2.1 rfl
 ·exact ty (H.fl.it i hi) he.2.2.1 rfl
 ·exact ty (H.fl.aB i hi).cell he.2.2.2.1 rfl
 ·exact iM (H.fl.aB i hi).row hk he.2.2.2.2.1 h1
 ·exact ty H.it.cell he.2.2.2.2.2.1 rfl
 ·rcases (H.it.row c hc).2 with ⟨e1,_⟩ | ⟨r,cap,kL,e1,_,hr2,_⟩
  ·rw[e1]at h1;cases h1
  ·rw[e1]at h1
   have:r=k:=by simpa [Value.ownBlock] using h1
   rw[this,hk]at hr2;simp at hr2;exact he.2.2.2.2.2.2.1 hr2.2.1
 ·exact ty H.dk.cell he.2.2.2.2.2.2.2.1 rfl
 ·exact H.dk.row.uw hk he.2.2.2.2.2.2.2.2 h1
theorem bV.row {base:Nat} {e:TypeId} {s n:Nat} {v:Value} {xs:List Value} (hs:bV W W' B X X') (H:aG w W B X wd h seed S) (hr:W.ownsRow base e s v n xs) (he:e≠114∧e≠213∧e≠267∧e≠276∧e≠197∧e≠232∧e≠95∧e≠117∧e≠5):W'.ownsRow base e s v n xs:=by
 refine fJ hr hs.turned (fun k hk=>?_);rcases hr.2 with ⟨e1,_⟩ | ⟨r,cap,cur,e1,_,hr2,_⟩
 ·rw[e1]at hk;cases hk
 ·rw[e1]at hk
  have:r=k:=by simpa [Value.ownBlock] using hk
  rw[this]at hr2;exact H4 H hr2 he
theorem bV.block {k:Nat} {cur:Array Value} {e:TypeId} {fz:Nat×Nat} (hs:bV W W' B X X') (H:aG w W B X wd h seed S) (hk:W.heap[k]?=some (.cells cur e fz)) (he:e≠114∧e≠213∧e≠267∧e≠276∧e≠197∧e≠232∧e≠95∧e≠117∧e≠5):W'.heap[k]?=some (.cells cur e fz):=by
 rw[hs.turned.block k (lBq hk) (H4 H hk he)];exact hk
theorem aG.floor {v':Nat->Value} {L':Nat->List Cv.ag} {nR n':Nat->Int} (H:aG w W B X wd h seed S) (hf:aU w W' B.F B.P B.I B.b v' L' nR n' wd h) (hs:bC W W' B.P B.I B.b X.v v') :
  aG w W' B { X with v:=v' } wd h seed { S with L:=L',pf:=nR,n:=n' }∧bV W W' B X { X with v:=v' }:=by
 have ht:aF W W' (fun k=>k=B.P∨∃ i,i<3∧(k=B.I i∨k=B.b i∨(X.v i).ownBlock=some k)) :=
  ⟨hs.os,hs.tape,hs.output,hs.size,fun k hk hn=>hs.keep k hk (fun e=>hn (.inl e)) (fun i hi=>⟨fun e=>hn (.inr ⟨i,hi,.inl e⟩),fun e=>hn (.inr ⟨i,hi,.inr (.inl e)⟩),fun e=>hn (.inr ⟨i,hi,.inr (.inr e)⟩)⟩)⟩
 have ty:∀ {k:Nat} {cur:Array Value} {e:TypeId} {fz:Nat×Nat},W.heap[k]?=some (.cells cur e fz)->e≠213∧e≠267∧e≠276∧e≠197->¬ (k=B.P∨∃ i,i<3∧(k=B.I i∨k=B.b i∨(X.v i).ownBlock=some k)):=fun {k cur e fz} hk he=>by
  rintro (rfl | ⟨i,hi,rfl | rfl | h1⟩)
  ·exact aA hk H.fl.cy he.1 rfl
  ·exact aA hk (H.fl.it i hi) he.2.1 rfl
  ·exact aA hk (H.fl.aB i hi).cell he.2.2.1 rfl
  ·exact iM (H.fl.aB i hi).row hk he.2.2.2 h1
 refine⟨⟨?_,hf,?_,?_,H.lo⟩,⟨ht.mono (fun k hk=>?_),fun k hk=>?_⟩⟩
 ·rw[ht.block _ (lBq H.blk) (ty H.blk (by decide))];exact H.blk
 ·refine H.it.turned ht (fun k hk=>?_)
  rcases hk with rfl | ⟨c,hc,hk⟩
  ·exact ty H.it.cell (by decide)
  ·rcases (H.it.row c hc).2 with ⟨e1,_⟩ | ⟨r,cap,kL,e1,_,hr2,_⟩
   ·rw[e1]at hk;cases hk
   ·rw[e1]at hk
    have:r=k:=by simpa [Value.ownBlock] using hk
    rw[this]at hr2;exact ty hr2 (by decide)
 ·refine H.dk.turned ht (ty H.dk.cell (by decide)) (fun k hk=>?_)
  obtain⟨g,cap,kL,XK,e1,_,hg,_⟩:=H.dk.row;rw[e1]at hk;have:g=k:=by simpa [Value.ownBlock] using hk
  rw[this]at hg;exact ty hg (by decide)
 ·rcases hk with rfl | hk
  ·exact .inr (.inl rfl)
  ·exact .inr (.inr (.inl hk))
 ·rcases hk with rfl | rfl | ⟨i,hi,rfl | rfl | hk⟩ | hk
  ·exact .inl (.inl rfl)
  ·exact .inl (.inr (.inl rfl))
  ·exact .inl (.inr (.inr (.inl ⟨i,hi,.inl rfl⟩)))
  ·exact .inl (.inr (.inr (.inl ⟨i,hi,.inr (.inl rfl)⟩)))
  ·rcases hs.new i hi k hk with h1 | h1
   ·exact .inl (.inr (.inr (.inl ⟨i,hi,.inr (.inr h1)⟩)))
   ·exact .inr h1
  ·exact .inl (.inr (.inr (.inr hk)))
theorem aG.take {zk:Nat->Value} {t':Nat} {Q':Nat->List Ask} (H:aG w W B X wd h seed S) (hi:dw W' w.heap.size B.q zk t' Q') (hs:j_ W W' B.q X.qv zk) :
  aG w W' B { X with qv:=zk } wd h seed { S with Q:=Q',t:=t' }∧bV W W' B X { X with qv:=zk }:=by
 have ht:=hs.turned;have ty:∀ {k:Nat} {cur:Array Value} {e:TypeId} {fz:Nat×Nat},W.heap[k]?=some (.cells cur e fz)->e≠232∧e≠95->¬ mU B.q X.qv k:=fun {k cur e fz} hk he=>by
  rintro (rfl | ⟨c,hc,h1⟩)
  ·exact aA hk H.it.cell he.1 rfl
  ·rcases (H.it.row c hc).2 with ⟨e1,_⟩ | ⟨r,cap,kL,e1,_,hr2,_⟩
   ·rw[e1]at h1;cases h1
   ·rw[e1]at h1
    have:r=k:=by simpa [Value.ownBlock] using h1
    rw[this,hk]at hr2;simp at hr2;exact he.2 hr2.2.1
 have uy:∀ {i:Nat},i<3->∀ k,(X.v i).ownBlock=some k->¬ mU B.q X.qv k:=fun {i} hi k hk=>by
  rcases (H.fl.aB i hi).row.2 with ⟨e1,_⟩ | ⟨r,cap,kL,e1,_,hr2,_⟩
  ·rw[e1]at hk;cases hk
  ·rw[e1]at hk
   have:r=k:=by simpa [Value.ownBlock] using hk
   rw[this]at hr2;exact ty hr2 (by decide)
 refine⟨⟨?_,?_,hi,?_,H.lo⟩,⟨ht.mono (fun k hk=>.inr (.inr (.inr (.inl hk)))),fun k hk=>?_⟩⟩
 ·rw[ht.block _ (lBq H.blk) (ty H.blk (by decide))];exact H.blk
 ·exact H.fl.turned ht (ty H.fl.blk (by decide)) (ty H.fl.cy (by decide)) (fun i hi=>⟨ty (H.fl.it i hi) (by decide),ty (H.fl.aB i hi).cell (by decide),uy hi⟩) (fun k hk=>(H.it.iR hk).1)
 ·refine H.dk.turned ht (ty H.dk.cell (by decide)) (fun k hk=>?_)
  obtain⟨g,cap,kL,XK,e1,_,hg,_⟩:=H.dk.row;rw[e1]at hk;have:g=k:=by simpa [Value.ownBlock] using hk
  rw[this]at hg;exact ty hg (by decide)
 ·rcases hk with rfl | rfl | hk | hk | hk
  ·exact .inl (.inl rfl)
  ·exact .inl (.inr (.inl rfl))
  ·exact .inl (.inr (.inr (.inl hk)))
  ·rcases hs.new k hk with h1 | h1
   ·exact .inl (.inr (.inr (.inr (.inl h1))))
   ·exact .inr h1
  ·exact .inl (.inr (.inr (.inr (.inr hk))))
theorem aG.tape {r7:Value} {XL:List UInt8} {cut':Bool} {left':Nat} (H:aG w W B X wd h seed S) (hd:dG W' w.heap.size B.d r7 XL cut' left') (ht:aF W W' (fun k=>k=B.d∨X.bH.ownBlock=some k)) (hn:∀ k,r7.ownBlock=some k->X.bH.ownBlock=some k∨W.heap.size<=k) :
  aG w W' B { X with bH:=r7 } wd h seed { S with tp:=XL,cut:=cut',left:=left' }∧bV W W' B X { X with bH:=r7 }:=by
 have ty:∀ {k:Nat} {cur:Array Value} {e:TypeId} {fz:Nat×Nat},W.heap[k]?=some (.cells cur e fz)->e≠117∧e≠5->¬ (k=B.d∨X.bH.ownBlock=some k):=fun {k cur e fz} hk he=>by
  rintro (rfl | h1)
  ·exact aA hk H.dk.cell he.1 rfl
  ·exact H.dk.row.uw hk he.2 h1
 have uy:∀ {i:Nat},i<3->∀ k,(X.v i).ownBlock=some k->¬ (k=B.d∨X.bH.ownBlock=some k):=fun {i} hi k hk=>by
  rcases (H.fl.aB i hi).row.2 with ⟨e1,_⟩ | ⟨r,cap,kL,e1,_,hr2,_⟩
  ·rw[e1]at hk;cases hk
  ·rw[e1]at hk
   have:r=k:=by simpa [Value.ownBlock] using hk
   rw[this]at hr2;exact ty hr2 (by decide)
 have hlo:∀ k,(k=B.d∨X.bH.ownBlock=some k)->w.heap.size<=k:=fun k hk=>by
  rcases hk with rfl | hk
  ·exact H.dk.lo
  ·exact(H.dk.row.lt k hk).1
 refine⟨⟨?_,?_,?_,hd,H.lo⟩,⟨ht.mono (fun k hk=>?_),fun k hk=>?_⟩⟩
 ·rw[ht.block _ (lBq H.blk) (ty H.blk (by decide))];exact H.blk
 ·exact H.fl.turned ht (ty H.fl.blk (by decide)) (ty H.fl.cy (by decide)) (fun i hi=>⟨ty (H.fl.it i hi) (by decide),ty (H.fl.aB i hi).cell (by decide),uy hi⟩) hlo
 ·refine H.it.turned ht (fun k hk=>?_)
  rcases hk with rfl | ⟨c,hc,hk⟩
  ·exact ty H.it.cell (by decide)
  ·rcases (H.it.row c hc).2 with ⟨e1,_⟩ | ⟨r,cap,kL,e1,_,hr2,_⟩
   ·rw[e1]at hk;cases hk
   ·rw[e1]at hk
    have:r=k:=by simpa [Value.ownBlock] using hk
    rw[this]at hr2;exact ty hr2 (by decide)
 ·rcases hk with rfl | hk
  ·exact .inr (.inr (.inr (.inr (.inl rfl))))
  ·exact .inr (.inr (.inr (.inr (.inr hk))))
 ·rcases hk with rfl | rfl | hk | hk | rfl | hk
  ·exact .inl (.inl rfl)
  ·exact .inl (.inr (.inl rfl))
  ·exact .inl (.inr (.inr (.inl hk)))
  ·exact .inl (.inr (.inr (.inr (.inl hk))))
  ·exact .inl (.inr (.inr (.inr (.inr (.inl rfl)))))
  ·rcases hn k hk with h1 | h1
   ·exact .inl (.inr (.inr (.inr (.inr (.inr h1)))))
   ·exact .inr h1
theorem aG.own {S':af.St} (H:aG w W B X wd h seed S) (hs:aH W W' B.V) (hb:W'.heap[B.V]?=some (.cells (jL B seed S') 114 (0,0))) (e:S'.L=S.L∧S'.pf=S.pf∧S'.n=S.n∧S'.Q=S.Q∧S'.t=S.t∧S'.tp=S.tp∧S'.cut=S.cut∧S'.left=S.left):aG w W' B X wd h seed S'∧bV W W' B X X:=by
 have ht:aF W W' (fun k=>k=B.V):=⟨hs.os,hs.tape,hs.output,hs.size,fun k hk hn=>hs.block k hk hn⟩;have ty:∀ {k:Nat} {cur:Array Value} {e:TypeId} {fz:Nat×Nat},W.heap[k]?=some (.cells cur e fz)->e≠114->k≠B.V:=fun hk he=>aA hk H.blk he;have uy:∀ {base:Nat} {e:TypeId} {s n:Nat} {v:Value} {xs:List Value},W.ownsRow base e s v n xs->e≠114->∀ k,v.ownBlock=some k->k≠B.V:=fun {base e s n v xs} hr he k hk=>by
  rcases hr.2 with ⟨e1,_⟩ | ⟨r,cap,kL,e1,_,hr2,_⟩
  ·rw[e1]at hk;cases hk
  ·rw[e1]at hk
   have:r=k:=by simpa [Value.ownBlock] using hk
   rw[this]at hr2;exact ty hr2 he
 obtain⟨e1,e2,e3,e4,e5,e6,e7,e8⟩:=e;refine⟨⟨hb,?_,?_,?_,H.lo⟩,⟨ht.mono (fun k hk=>.inl hk),fun _ h=>.inl h⟩⟩
 ·rw[e1,e2,e3]
  exact H.fl.turned ht (ty H.fl.blk (by decide)) (ty H.fl.cy (by decide)) (fun i hi=>⟨ty (H.fl.it i hi) (by decide),ty (H.fl.aB i hi).cell (by decide),uy (H.fl.aB i hi).row (by decide)⟩) (fun k hk=>by subst hk;exact H.lo)
 ·rw[e4,e5]
  refine H.it.turned ht (fun k hk=>?_);rcases hk with rfl | ⟨c,hc,hk⟩
  ·exact ty H.it.cell (by decide)
  ·exact uy (H.it.row c hc) (by decide) k hk
 ·rw[e6,e7,e8]
  refine H.dk.turned ht (ty H.dk.cell (by decide)) (fun k hk e=>?_);exact H.dk.row.uw H.blk (by decide) (by rw[hk,e])
theorem aG.at (H:aG w W B X wd h seed S) (k:Nat):W.cell? ⟨B.V,k,none⟩=(jL B seed S)[k]?:=cR W B.V k _ _ _ H.blk
theorem aG.conn (H:aG w W B X wd h seed S) {c j:Nat} (hc:c<6) (hj:j<5):W.cell? ⟨B.V,4+c*5+j,none⟩=some (fK S c j):=by rw[H.at];exact H6 B seed S hc hj
theorem aG.free (H:aG w W B X wd h seed S) (k:Nat):W.frozen? ⟨B.V,k,none⟩=false:=by simp[World.frozen?,H.blk]
theorem aG.lt (H:aG w W B X wd h seed S):B.V<W.heap.size:=lBq H.blk
theorem aG.set {S':af.St} (H:aG w W B X wd h seed S) {c j:Nat} (hc:c<6) (hj:j<5) (u:Value)
  (hS:∀ c' j',c'<6->j'<5->fK S' c' j'=if c'=c∧j'=j then u else fK S c' j') (hn:S'.now=S.now) (hbt:S'.bt=S.bt) (hd:S'.down=S.down) (e:S'.L=S.L∧S'.pf=S.pf∧S'.n=S.n∧S'.Q=S.Q∧S'.t=S.t∧S'.tp=S.tp∧S'.cut=S.cut∧S'.left=S.left) :
  aG w (W.setCell ⟨B.V,4+c*5+j,none⟩ u) B X wd h seed S'∧bV W (W.setCell ⟨B.V,4+c*5+j,none⟩ u) B X X :=
 H.own (aH.setCell _ _ _ _) (by rw[block_setCell H.blk,ajF B seed S S' hc hj u hS hn hbt hd]) e
end
def eI:List ByteArray->Nat
 | []=>0
 | f::r=>if bM f=0 then eI r else bM f
theorem Pj (fs:List ByteArray) (k:Nat) (f:ByteArray) (h:fs[k]?=some f):eI (fs.drop k)=if bM f=0 then eI (fs.drop (k+1)) else bM f:=by
 obtain⟨h1,e⟩:=List.getElem?_eq_some_iff.1 h;rw[List.drop_eq_getElem_cons h1,e,eI]
theorem Pk (f:ByteArray):kS f=cr (af.bq f):=by rw[aiy];rfl
section
variable {ad:Nat->Addr}
theorem alJ (fs:List ByteArray) (v:Value) (base n:Nat) (w:World) (hs:Hid (cP w ad)) (hn:Hid (fs.length=n)) (hr:Hid (w.ownsRow base 9 1 v n (fs.map Value.string))) (hl:n<=100000) :
  Calls Tryz.prog 43 #[v] w fun e w'=>∃ va,e=.returned (.tuple #[va,ja ad (eI fs)])∧Below w.heap.size w w'∧(eI fs=0->w'.ownsRow w.heap.size 95 8 va fs.length (aL (fs.map af.bq)))∧(eI fs≠0->va=.slice none 0 0):=by
 obtain⟨a0,c0,hv⟩:=eo hr.out;subst hv;have hcell:∀ W',Below w.heap.size w W'->∀ k f,fs[k]?=some f->∃ g,a0=some ⟨g,0,none⟩∧k<n∧W'.cell? ⟨g,k,none⟩=some (.string f):=fun W' hb k f hk=>by
  obtain⟨hk1,_⟩:=List.getElem?_eq_some_iff.1 hk;have d9:=hr.out.kept (row:=none) ⟨hb.os,hb.tape,hb.output,hb.size,fun i hi _=>hb.block i hi⟩ (Classical.em _);rcases d9.2 with ⟨e,e0⟩ | ⟨g,cap,cur,e,_,hg,_,_,_,ht⟩
  ·rw[<- hn.out]at e0;omega
  ·cases e
   refine⟨g,rfl,by rw[<- hn.out];exact hk1,?_⟩;rw[cR W' g k _ _ _ hg,<- Array.getElem?_toList];have h2:=congrArg (·[k]?) ht;simp only[List.getElem?_map,hk,Option.map_some]at h2;rw[List.getElem?_take_of_lt (by rw[<- hn.out];omega)]at h2;exact h2
 have HC:=hDq hcell;clear hcell;have HD:Hid (eI fs=eI (fs.drop 0)):=hDq rfl;generalize xY:eI fs=D at *;have ao3:=hDq xY;clear xY;go_enter Tryz.func43,Tryz.ntmps43
 go_wp2_with fail
 go_loopw [4,11] (fun v kv wr=>∃ k:Nat,k<=n∧kv=.int .i64 k∧D=eI (fs.drop k)∧wr.ownsRow w.heap.size 95 8 v k (aL ((fs.take k).map af.bq))∧Below w.heap.size w wr) (fun _ kv _=>n-(intOf kv).toNat)
 case atStart=>exact⟨0,Nat.zero_le _,rfl,HD.out,World.ownsRow_nil _ _ _ _,bRq _ _⟩
 case round =>
  obtain⟨k,hk,rfl,hd,hrow,hb⟩:=hrel;have Pm:=hDq hd;have HR:=hDq hrow;have HB:=hDq hb;clear hd hrow hb HD;by_cases hlt:k<n
  ·have aK:(k:Int)<n:=by omega
   obtain⟨f,hf⟩:∃ f,fs[k]?=some f:=⟨_,List.getElem?_eq_getElem (by rw[hn.out];exact hlt)⟩;obtain⟨g,rfl,_,hc⟩:=HC.out wr HB.out k f hf;have HS:=hDq (Pj fs k f hf);have HT:Hid ((fs.take (k+1)).map af.bq=(fs.take k).map af.bq++[af.bq f]):=hDq (by rw[List.take_add_one,hf];simp);have fM:=hDq (adf f ad wr (hs.out.later HB.out));have Cc:((fs.take k).map af.bq).length=k:=by rw[List.length_map,lKq];have:=hn.out;omega
   have HL:=hDq Cc;clear Cc HC hf;rw[Pk]at fM;by_cases hc0:bM f=0
   ·rw[hc0,show ja ad 0=.nilIface from rfl]at fM
    have IB:Hid (D=eI (fs.drop (k+1))):=hDq (by rw[Pm.out,HS.out,if_pos hc0]);generalize af.bq f=a at *;unfold cr bw at fM
    go_wp2_with fail
    refine fM.out.mono ?_;rintro e w1 ⟨rfl,hb1⟩;have hb2:Below w.heap.size w w1:=HB.out.trans (hb1.mono HB.out.size);have au:=hDq (hb2.alloc hb2.size (.cells (bw a) 95));have hr2:(w1.alloc (.cells (bw a) 95)).ownsRow w.heap.size 95 8 u4 ((fs.take k).map af.bq).length (aL ((fs.take k).map af.bq)):=by
     rw[HL.out];exact(HR.out.kept (row:=none) ⟨hb1.os,hb1.tape,hb1.output,hb1.size,fun i hi _=>hb1.block i hi⟩ (Classical.em _)).alloc _
    obtain⟨v4,w4,hap,hr4,hg4⟩:=Hs (w1.alloc (.cells (bw a) 95)) u4 ((fs.take k).map af.bq) a hr2 (by rw[HL.out];omega) au.out.size;have bg:Hid (Below w.heap.size w w4):=hDq (below_grown (au.out.alloc au.out.size _) (World.ownsRow.alloc hr2 _) (lTq au.out.size (by simp)) hg4);have bF:Hid (w4.ownsRow w.heap.size 95 8 v4 (k+1) (aL ((fs.take (k+1)).map af.bq))):=hDq (by
     rw[HT.out];rw[lAq,HL.out]at hr4;exact hr4)
    rw[World.size_alloc]at hap;have cO:=hDq hap;unfold bw at cO;clear hap hr4 hg4 hr2 hb2 hb1 fM HR HB hc0;simp only[]
    go_wp2_with (at_builtin;refine wpList_append_run rfl _ _ 24 rfl _ _ _ rfl rfl cO.out ?_)
    go_roundw
    case rel=>exact⟨k+1,hlt,by go_num,IB.out,bF.out,bg.out⟩
    case measure=>simp[intOf];omega
   ·rw[xL ad hc0]at fM
    have IB:Hid (D=bM f):=hDq (by rw[Pm.out,HS.out,if_neg hc0]);generalize af.bq f=a at *;unfold cr bw at fM
    go_wp2_with fail
    refine fM.out.mono ?_;rintro e w1 ⟨rfl,hb1⟩;have hb2:Below w.heap.size w w1:=HB.out.trans (hb1.mono HB.out.size);have au:=hDq (hb2.alloc hb2.size (.cells (bw a) 95));clear hb1 hb2 fM;simp only[];go_wp2;go_ret2;refine⟨_,?_,au.out,fun e=>absurd (IB.out.symm.trans e) hc0,fun _=>rfl⟩;rw[IB.out,xL ad hc0];rfl
  ·have aK:¬ (k:Int)<n:=by omega
   obtain rfl:k=n:=by omega
   have Y4:D=0:=by rw[Pm.out,List.drop_of_length_le (by rw[hn.out];exact lRq _)];rfl
   have HD0:=hDq Y4;clear Y4;go_wp2;go_ret2;refine⟨_,by rw[HD0.out];rfl,HB.out,fun _=>?_,fun e=>absurd HD0.out e⟩
   have:=HR.out
   rw[List.take_of_length_le (by rw[hn.out];exact lRq _)]at this;rw[hn.out];exact this
end
end Go.Proofs.YtjolccidheflpaaGreatDoor
