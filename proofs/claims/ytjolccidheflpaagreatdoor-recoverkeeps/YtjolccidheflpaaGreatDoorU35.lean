/- A venue: what it has, what bytes that are fed to it and a tick make of it; no program is spoken of. -/
import Derived.Test.YtjolccidheflpaaGreatDoorU30
import Derived.Test.YtjolccidheflpaaGreatDoorU11
import Derived.Test.YtjolccidheflpaaGreatDoorU31
import Derived.Test.YtjolccidheflpaaGreatDoorU34
import Derived.Test.YtjolccidheflpaaGreatDoorU00
import Derived.Lib.ItoaLen
import Derived.Test.YtjolccidheflpaaGreatDoorU13
import Derived.Test.YtjolccidheflpaaGreatDoorU10
namespace Go.Proofs.YtjolccidheflpaaGreatDoor
set_option maxHeartbeats 8000000
namespace af
structure dc where
 c:Int
 k:ByteArray
 id:Int
 pr:Int
 q:Int
 cd:Int
structure St where
 L:Nat->List Cv.ag
 pf:Nat->Int
 n:Nat->Int
 Q:Nat->List Ask
 t:Nat
 on:Nat->Bool
 aD:Nat->Int
 la:Nat->Int
 aO:Nat->ByteArray
 aR:Nat->Bool
 tp:List UInt8
 cut:Bool
 left:Nat
 now:Nat
 bt:Nat
 down:Bool
def Hs:ByteArray:=⟨#[97,99,99,101,112,116,101,100]⟩
def nt:ByteArray:=⟨#[114,101,102,117,115,101,100]⟩
def Ht:ByteArray:=⟨#[98,117,115,121]⟩
def Hu:ByteArray:=⟨#[102,105,108,108,101,100]⟩
def CB:ByteArray:=⟨#[114,101,115,116,115]⟩
def pP:ByteArray:=⟨#[103,111,110,101]⟩
def cB (f:ByteArray):Ask:=⟨cZ f (aL f 0),cZ f (aL f 1),cZ f (az f 2),cZ f (aL f 6),cZ f (aL f 7),cZ f (az f 8),cZ f (az f 12),cZ f (az f 16)⟩
def fZ (c id:Int) (e:Nat):dc:=⟨c,nt,id,0,0,e⟩
def leave (S:St) (n:Nat):St:={ S with Q:=ay.oo S.Q n,aR:=upd S.aR n true }
def takeC (S:St) (n:Nat) (a:Ask):Nat:=if a.c=n then bz.tc (S.on n) (S.aD n) a else 3
def taken (S:St) (n:Nat) (a:Ask):St :=
 { S with on:=upd S.on n (bz.ja (S.on n) (S.aD n) a),aD:=upd S.aD n (bz.jP (S.on n) (S.aD n) a),la:=upd S.la n (bz.gN (S.on n) (S.aD n) (S.la n) a S.now) }
def lA (S:St) (n:Nat) (a:Ask):St:=if takeC S n a=0 then taken S n a else S
def uR (a:Ask):Bool:=a.k==111 || a.k==99
def kT (S:St) (n:Nat) (f:ByteArray):St :=
 if d6 f=0 then
  if takeC S n (cB f)=0 then
   if uR (cB f)=true then { taken S n (cB f) with Q:=ay.jK S.Q (cB f) }
   else if (cB f).k=113 then leave (taken S n (cB f)) n else taken S n (cB f)
  else S
 else S
def xg (S:St) (a:Ask):ByteArray:=if ay.jJ S.Q a=0 then Hs else Ht
def xh (S:St) (n:Nat) (f:ByteArray):List dc :=
 if d6 f=0 then
  if takeC S n (cB f)=0 then
   if uR (cB f)=true then [⟨n,xg S (cB f),(cB f).id,0,0,0⟩] else []
  else [fZ n (cB f).id (takeC S n (cB f))]
 else [fZ n 0 (d6 f)]
def gP (S:St) (n:Nat) (b:ByteArray):Nat->St
 | 0=>S
 | k+1=>kT (gP S n b k) n (fr b k)
def qP (S:St) (n:Nat) (b:ByteArray):Nat->List dc
 | 0=>[]
 | k+1=>qP S n b k++xh (gP S n b k) n (fr b k)
def zk (b:ByteArray):ByteArray:=b.extract (30*(b.size/30)) b.size
def gQ (S:St) (n:Nat) (b:ByteArray):St:={ S with aO:=upd S.aO n (zk b) }
def iN (S:St) (n:Int) (s:ByteArray):St :=
 if S.down=true∨ah.aB n 0 5=false then S else gP (gQ S n.toNat (S.aO n.toNat++s)) n.toNat (S.aO n.toNat++s) ((S.aO n.toNat++s).size/30)
def zl (S:St) (n:Int) (s:ByteArray):List dc :=
 if S.down=true∨ah.aB n 0 5=false then [] else qP (gQ S n.toNat (S.aO n.toNat++s)) n.toNat (S.aO n.toNat++s) ((S.aO n.toNat++s).size/30)
def gone (S:St) (n:Nat):St :=
 { S with on:=upd S.on n false,aD:=upd S.aD n 0,la:=upd S.la n 0,aO:=upd S.aO n ByteArray.empty,aR:=upd S.aR n true,Q:=ay.oo S.Q n }
def hang (S:St) (n:Nat):St:=if bz.late (S.on n) (S.la n) S.now=true then gone S n else S
def hangs (S:St):Nat->St
 | 0=>S
 | k+1=>hang (hangs S k) k
def dO (aR:Nat->Bool):Nat->List Nat
 | 0=>[]
 | k+1=>dO aR k++if aR k=true then [k] else []
def dec (n:Int):List Int:=(Lib.itoa n).map fun b=>(b.toNat:Int)
def sQ (x:Nat):Int:=if x<10 then 48+(x:Int) else 87+(x:Int)
def lB (s:ByteArray):Nat->List Int
 | 0=>[]
 | k+1=>lB s k++[sQ (aL s k/16),sQ (aL s k%16)]
def lC (ds:List Nat):Nat->List Int
 | 0=>[]
 | k+1=>lC ds k++((if 0<k then [44] else [])++dec ((ds.getD k 0:Nat):Int))
def eo (a:Ask):ByteArray:=tx a.k a.c a.sq a.it a.sd a.pr a.q a.id
def nu (l:List Ask):Nat->List Int
 | 0=>[]
 | k+1=>nu l k++([32]++lB (eo (bZ l k)) (eo (bZ l k)).size)
def Hw (bt:Nat) (ds:List Nat) (l:List Ask):List Int:=((dec bt++[58])++lC ds ds.length)++nu l l.length
def f_ (bt:Nat) (ds:List Nat) (l:List Ask):ByteArray:=strOfNums (Hw bt ds l)
structure di where
 L:Nat->List Cv.ag
 pf:Nat->Int
 n:Nat->Int
 pl:List Ask
 rp:List dc
def tell (k:ByteArray) (x:Cv.ag):dc:=⟨x.ak,k,x.id,x.pr,x.q,0⟩
def uQ (r:di) (c:Nat):di:={ r with L:=Fl.lf c r.L 3,pf:=Fl.qg c r.L r.pf 3,rp:=r.rp++(Fl.mG c r.L 3).map (tell pP) }
def kx (r:di) (ds:List Nat):Nat->di
 | 0=>r
 | k+1=>uQ (kx r ds k) (ds.getD k 0)
def others (a:Ask) (l:List Ask):List Ask:=l.filter fun x=>!(x.it==a.it&&x.id==a.id)
def xd (r:di) (a:Ask):di :=
 { r with L:=Fl.kF r.L r.pf a,pf:=Fl.jF r.L r.pf a,pl:=if Fl.eQ r.L r.pf a=0 then r.pl++[a] else r.pl,rp:=if Fl.eQ r.L r.pf a=0 then r.rp else r.rp++[fZ a.c a.id (Fl.eQ r.L r.pf a+1)] }
def w8 (r:di) (a:Ask):di :=
 { r with L:=Fl.eu r.L a,pf:=Fl.jG r.L r.pf a,pl:=if Fl.dx r.L r.pf a=0 then others a r.pl else r.pl,rp:=r.rp++if Fl.dx r.L r.pf a=0 then [tell pP (Fl.fD r.L a)] else [fZ a.c a.id (Fl.dx r.L r.pf a+1)] }
def oA (r:di) (a:Ask):di:=if a.k=111 then xd r a else w8 r a
def kU (r:di) (l:List Ask):Nat->di
 | 0=>r
 | k+1=>oA (kU r l k) (bZ l k)
def uS (l:List Cv.ag):Nat->Int->Int
 | 0=>fun _=>0
 | k+1=>fun id=>if id=(Cv.nth l k).id then (Cv.nth l k).ak else uS l k id
open Classical in
noncomputable def CF (l:List Cv.ag) (ref:Int):Int×Int:=if h:∃ pv:Int×Int,Cv.eW l ref 1000 pv.1 pv.2 then Classical.choose h else (0,0)
noncomputable def iZ (r:di) (i:Nat):Int:=(CF (r.L i) (r.n (i*2))).1
noncomputable def pT (r:di) (i:Nat):Int:=(CF (r.L i) (r.n (i*2))).2
noncomputable def i6 (wd:Int) (r:di) (i:Nat) (s:Int):List (Int×Int):=Fl.oc s (r.L i) (Fl.n_ r.n i wd (iZ r i) (pT r i)) (iZ r i) (pT r i)
def uT (l:List Cv.ag) (p:Int) (f:Int×Int):dc:=⟨uS l l.length f.1,Hu,f.1,p,f.2,0⟩
def oB (L:Nat->List Cv.ag) (i:Nat) (a:Ask):List dc:=if Cv.has (L i) a.id=true∧a.it=i then [tell CB (Bk.jw (L i) a.id)] else []
noncomputable def uU (wd h:Int) (r:di) (i:Nat) (s:Int):di :=
 { r with L := Fl.nZ r.L i (i6 wd r i s), pf := Fs.gW r.pf i (iZ r i) (r.L i) (i6 wd r i s), n := Fl.runN r.n i wd h (iZ r i) (pT r i),
          rp:=r.rp++((i6 wd r i s).map (uT (r.L i) (iZ r i))++r.pl.flatMap (oB (Fl.nZ r.L i (i6 wd r i s)) i)) }
def sR (seed:Int) (bt i:Nat):Int:=(seed+((3*bt+i:Nat):Int)%4294967296)%4294967296
noncomputable def mb (wd h seed:Int) (bt:Nat) (r:di):Nat->di
 | 0=>r
 | k+1=>uU wd h (mb wd h seed bt r k) k (sR seed bt k)
def start (S:St):di:=⟨S.L,S.pf,S.n,[],[]⟩
noncomputable def iO (wd h seed:Int) (S:St) (ds:List Nat) (l:List Ask):di:=mb wd h seed S.bt (kU (kx (start S) ds ds.length) l l.length) 3
def uV (aR:Nat->Bool):Nat->Nat->Bool
 | 0=>aR
 | k+1=>upd (uV aR k) k false
noncomputable def mf (wd h seed:Int) (S:St) (ds:List Nat) (l:List Ask):St :=
 { S with L:=(iO wd h seed S ds l).L,pf:=(iO wd h seed S ds l).pf,n:=(iO wd h seed S ds l).n,aR:=uV S.aR 6,bt:=S.bt+1 }
def full (S:St) (s:ByteArray):Bool:=decide (1048576<S.tp.length+(12+s.size))
def iA (S:St) (s:ByteArray):Bool:=!full S s&&(!S.cut || decide (12+s.size<=S.left))
def bI (S:St) (s:ByteArray):St :=
 if full S s=true then S else { S with tp:=S.tp++(if S.cut=true then (bm.rec s.data.toList).take S.left else bm.rec s.data.toList),left:=if S.cut=true then S.left-(12+s.size) else S.left }
def bu (S:St):St:={ S with Q:=ay.yD S.Q S.t,t:=ay.who S.t 1 }
def bV (S:St):ByteArray:=f_ S.bt (dO S.aR 6) (ay.out S.Q S.t)
noncomputable def jR (wd h seed:Int) (S:St):St :=
 if iA (bu S) (bV S)=true then mf wd h seed (bI (bu S) (bV S)) (dO S.aR 6) (ay.out S.Q S.t) else { bI (bu S) (bV S) with down:=true }
noncomputable def qQ (wd h seed:Int) (S:St):List dc :=
 if iA (bu S) (bV S)=true then (iO wd h seed (bI (bu S) (bV S)) (dO S.aR 6) (ay.out S.Q S.t)).rp else []
def bh (S:St):St:=hangs { S with now:=S.now+1 } 6
noncomputable def cz (wd h seed:Int) (S:St):St :=
 if S.down=true then S else if (S.now+1)%3=0 then jR wd h seed (bh S) else bh S
noncomputable def gR (wd h seed:Int) (S:St):List dc :=
 if S.down=true then [] else if (S.now+1)%3=0 then qQ wd h seed (bh S) else []
def Hf (S:St) (n:Int):Nat:=if n<0 then 2 else if S.cut=true∧S.left=0 then 9 else 0
def h_ (S:St) (n:Int):St:=if Hf S n=0 then { S with cut:=true,left:=n.toNat } else S
end af
end Go.Proofs.YtjolccidheflpaaGreatDoor
namespace Go.Proofs.YtjolccidheflpaaGreatDoor
set_option maxHeartbeats 8000000
open Go.RowKit
set_option maxRecDepth 100000
structure cJ where
 V:Nat
 F:Nat
 P:Nat
 q:Nat
 d:Nat
 I:Nat->Nat
 b:Nat->Nat
structure cy where
 v:Nat->Value
 qv:Nat->Value
 bH:Value
def fT (S:af.St) (c:Nat):Nat->Value
 | 0=>.bool (S.on c)
 | 1=>.int .i64 (S.aD c)
 | 2=>.int .i64 (S.la c)
 | 3=>.string (S.aO c)
 | _=>.bool (S.aR c)
def xj (S:af.St) (c:Nat):List Value:=[.bool (S.on c),.int .i64 (S.aD c),.int .i64 (S.la c),.string (S.aO c),.bool (S.aR c)]
def iB (B:cJ) (seed:Int) (S:af.St):Array Value :=
 (([.int .u32 seed,.pointer (some ⟨B.F,0,none⟩),.pointer (some ⟨B.q,0,none⟩),.pointer (some ⟨B.d,0,none⟩)]:List Value)++(xj S 0++(xj S 1++(xj S 2++(xj S 3++(xj S 4++(xj S 5++[Value.int .i64 S.now,Value.int .i64 S.bt,Value.bool S.down]))))))).toArray
theorem qT (B:cJ) (seed:Int) (S:af.St) {c j:Nat} (hc:c<6) (hj:j<5):(iB B seed S)[4+c*5+j]?=some (fT S c j):=by
 have h1:c=0∨c=1∨c=2∨c=3∨c=4∨c=5:=by omega
 have h2:j=0∨j=1∨j=2∨j=3∨j=4:=by omega
 rcases h1 with rfl | rfl | rfl | rfl | rfl | rfl <;> rcases h2 with rfl | rfl | rfl | rfl | rfl <;> rfl
theorem ajW (B:cJ) (seed:Int) (S S':af.St) {c j:Nat} (hc:c<6) (hj:j<5) (u:Value)
  (h:∀ c' j',c'<6->j'<5->fT S' c' j'=if c'=c∧j'=j then u else fT S c' j') (hn:S'.now=S.now) (hb:S'.bt=S.bt) (hd:S'.down=S.down) :
  (iB B seed S).setIfInBounds (4+c*5+j) u=iB B seed S':=by
 have h0:=fun c' j' (h1:c'<6) (h2:j'<5)=>h c' j' h1 h2;have e:∀ c',c'<6->xj S' c'=[if c'=c∧0=j then u else fT S c' 0,if c'=c∧1=j then u else fT S c' 1,if c'=c∧2=j then u else fT S c' 2,if c'=c∧3=j then u else fT S c' 3,if c'=c∧4=j then u else fT S c' 4]:=fun c' h1=>by
  rw[<- h0 c' 0 h1 (by decide),<- h0 c' 1 h1 (by decide),<- h0 c' 2 h1 (by decide),<- h0 c' 3 h1 (by decide),<- h0 c' 4 h1 (by decide)];rfl
 unfold iB;rw[e 0 (by decide),e 1 (by decide),e 2 (by decide),e 3 (by decide),e 4 (by decide),e 5 (by decide),hn,hb,hd];have h1:c=0∨c=1∨c=2∨c=3∨c=4∨c=5:=by omega
 have h2:j=0∨j=1∨j=2∨j=3∨j=4:=by omega
 rcases h1 with rfl | rfl | rfl | rfl | rfl | rfl <;> rcases h2 with rfl | rfl | rfl | rfl | rfl <;> rfl
structure av (w W:World) (B:cJ) (X:cy) (wd h seed:Int) (S:af.St):Prop where
 blk:W.heap[B.V]?=some (.cells (iB B seed S) 114 (0,0))
 fl:bk w W B.F B.P B.I B.b X.v S.L S.pf S.n wd h
 it:dA W w.heap.size B.q X.qv S.t S.Q
 dk:dI W w.heap.size B.d X.bH S.tp S.cut S.left
 lo:w.heap.size<=B.V
def eT (B:cJ) (X:cy) (k:Nat):Prop:=k=B.V∨k=B.P∨(∃ i,i<3∧(k=B.I i∨k=B.b i∨(X.v i).ownBlock=some k))∨mX B.q X.qv k∨k=B.d∨X.bH.ownBlock=some k
structure aV (W W':World) (B:cJ) (X X':cy):Prop where
 turned:aJ W W' (eT B X)
 new:∀ k,eT B X' k->eT B X k∨W.heap.size<=k
section
variable {w W W' W2:World} {B:cJ} {X X' X2:cy} {wd h seed:Int} {S:af.St}
theorem aV.refl (W:World) (B:cJ) (X:cy):aV W W B X X:=⟨aJ.refl _ _,fun _ h=>.inl h⟩
theorem aV.of_below (hb:Below W.heap.size W W') (B:cJ) (X:cy):aV W W' B X X:=⟨aJ.of_below hb _,fun _ h=>.inl h⟩
theorem aV.trans (h:aV W W' B X X') (h1:aV W' W2 B X' X2):aV W W2 B X X2 :=
 ⟨h.turned.trans h1.turned h.new,fun k hk=>by
  rcases h1.new k hk with h3 | h3
  ·exact h.new k h3
  ·exact .inr (lTq h.turned.size h3)⟩
theorem aV.below (h:aV W W' B X X') (hb:Below W'.heap.size W' W2):aV W W2 B X X':=h.trans (aV.of_below hb B X')
theorem dI.lt {base p:Nat} {v:Value} {l:List UInt8} {cut:Bool} {left:Int} (h:dI W base p v l cut left):p<W.heap.size:=lBq h.cell
theorem dN.turned {base:Nat} {v:Value} {xs:List Int} {T:Nat->Prop} (hr:dN W base v xs) (h:aJ W W' T) (ha:∀ k,v.ownBlock=some k->¬ T k):dN W' base v xs :=
 hr.block fun k hk=>h.block k (hr.lt k hk).2 (ha k hk)
theorem dN.uZ {base:Nat} {v:Value} {xs:List Int} {cur:Array Value} {e:TypeId} {fz:Nat×Nat} {q:Nat} (hr:dN W base v xs) (hq:W.heap[q]?=some (.cells cur e fz)) (hne:e≠5):v.ownBlock≠some q:=by
 obtain⟨g,cap,kN,zg,rfl,_,hg,_⟩:=hr;intro hk;have:g=q:=by simpa [Value.ownBlock] using hk
 rw[this,hq]at hg;simp at hg;exact hne hg.2.1
theorem dI.turned {base p:Nat} {v:Value} {l:List UInt8} {cut:Bool} {left:Int} {T:Nat->Prop} (h:dI W base p v l cut left) (ht:aJ W W' T) (h1:¬ T p) (h2:∀ k,v.ownBlock=some k->¬ T k):dI W' base p v l cut left :=
 ⟨by rw[ht.block p h.lt h1];exact h.cell,h.row.turned ht h2,h.lo⟩
theorem av.fe (H:av w W B X wd h seed S) {k:Nat} (hk:eT B X k):w.heap.size<=k∧k<W.heap.size:=by
 rcases hk with rfl | rfl | ⟨i,hi,rfl | rfl | hk⟩ | hk | rfl | hk
 ·exact⟨H.lo,lBq H.blk⟩
 ·exact⟨H.fl.mI,lBq H.fl.cY⟩
 ·exact⟨H.fl.mJ i hi,lBq (H.fl.it i hi)⟩
 ·exact⟨(H.fl.aG i hi).lo,lBq (H.fl.aG i hi).cell⟩
 ·exact(H.fl.aG i hi).s7 k hk
 ·exact H.it.fe hk
 ·exact⟨H.dk.lo,H.dk.lt⟩
 ·exact H.dk.row.lt k hk
theorem av.cp (H:av w W B X wd h seed S):Below w.heap.size w W:=H.fl.cp
theorem bk.turned {F P:Nat} {I b:Nat->Nat} {v:Nat->Value} {L:Nat->List Cv.ag} {pf n:Nat->Int} {T:Nat->Prop} (hf:bk w W F P I b v L pf n wd h) (ht:aJ W W' T) (hF:¬ T F) (hP:¬ T P) (h3:∀ i,i<3->¬ T (I i)∧¬ T (b i)∧∀ k,(v i).ownBlock=some k->¬ T k) (hT:∀ k,T k->w.heap.size<=k):bk w W' F P I b v L pf n wd h:=by
 refine⟨by rw[ht.block F (lBq hf.blk) hF];exact hf.blk,fun i hi=>by rw[ht.block _ (lBq (hf.it i hi)) (h3 i hi).1];exact hf.it i hi,fun i hi=>?_,hf.o_,hf.ne,hf.ap,?_,hf.lo,hf.mI,hf.mJ,hf.cp.trans (ht.below hf.cp.size hT)⟩
 ·have hb:=hf.aG i hi
  exact⟨by rw[ht.block _ (lBq hb.cell) (h3 i hi).2.1];exact hb.cell,hb.lo,fR hb.row ht (h3 i hi).2.2⟩
 ·show W'.heap[P]?=_
  rw[ht.block P (lBq hf.cY) hP];exact hf.cY
theorem av.aside {T:Nat->Prop} (H:av w W B X wd h seed S) (ht:aJ W W' T) (hF:¬ T B.F) (ho:∀ k,eT B X k->¬ T k) (hT:∀ k,T k->w.heap.size<=k):av w W' B X wd h seed S :=
 ⟨by rw[ht.block _ (lBq H.blk) (ho _ (.inl rfl))];exact H.blk,
  H.fl.turned ht hF (ho _ (.inr (.inl rfl))) (fun i hi=>⟨ho _ (.inr (.inr (.inl ⟨i,hi,.inl rfl⟩))),ho _ (.inr (.inr (.inl ⟨i,hi,.inr (.inl rfl)⟩))),fun k hk=>ho k (.inr (.inr (.inl ⟨i,hi,.inr (.inr hk)⟩)))⟩) hT,
  H.it.turned ht (fun k hk=>ho k (.inr (.inr (.inr (.inl hk))))),
  H.dk.turned ht (ho _ (.inr (.inr (.inr (.inr (.inl rfl)))))) (fun k hk=>ho k (.inr (.inr (.inr (.inr (.inr hk)))))),H.lo⟩
theorem av.later (H:av w W B X wd h seed S) (hb:Below W.heap.size W W'):av w W' B X wd h seed S :=
 H.aside (aJ.of_below hb (fun _=>False)) (fun h=>h) (fun _ _ h=>h) (fun _ h=>h.elim)
theorem Hy (H:av w W B X wd h seed S) {k:Nat} {cur:Array Value} {e:TypeId} {fz:Nat×Nat} (hk:W.heap[k]?=some (.cells cur e fz)) (he:e≠114∧e≠213∧e≠267∧e≠276∧e≠197∧e≠232∧e≠95∧e≠117∧e≠5):¬ eT B X k:=by
 have ty:∀ {q:Nat} {a:Array Value} {T:TypeId} {Ki:Nat×Nat},W.heap[q]?=some (.cells a T Ki)->e≠T->k≠q:=fun hq hT=>aF hk hq hT;rintro (rfl | rfl | ⟨i,hi,rfl | rfl | h1⟩ | (rfl | ⟨c,hc,h1⟩) | rfl | h1)
 ·exact ty H.blk he.1 rfl
 ·exact ty H.fl.cY he.2.1 rfl
 ·exact ty (H.fl.it i hi) he.2.2.1 rfl
 ·exact ty (H.fl.aG i hi).cell he.2.2.2.1 rfl
 ·exact iV (H.fl.aG i hi).row hk he.2.2.2.2.1 h1
 ·exact ty H.it.cell he.2.2.2.2.2.1 rfl
 ·rcases (H.it.row c hc).2 with ⟨e1,_⟩ | ⟨r,cap,kN,e1,_,hr2,_⟩
  ·rw[e1]at h1;cases h1
  ·rw[e1]at h1
   have:r=k:=by simpa [Value.ownBlock] using h1
   rw[this,hk]at hr2;simp at hr2;exact he.2.2.2.2.2.2.1 hr2.2.1
 ·exact ty H.dk.cell he.2.2.2.2.2.2.2.1 rfl
 ·exact H.dk.row.uZ hk he.2.2.2.2.2.2.2.2 h1
theorem aV.row {base:Nat} {e:TypeId} {s n:Nat} {v:Value} {xs:List Value} (hs:aV W W' B X X') (H:av w W B X wd h seed S) (hr:W.ownsRow base e s v n xs) (he:e≠114∧e≠213∧e≠267∧e≠276∧e≠197∧e≠232∧e≠95∧e≠117∧e≠5):W'.ownsRow base e s v n xs:=by
 refine fR hr hs.turned (fun k hk=>?_);rcases hr.2 with ⟨e1,_⟩ | ⟨r,cap,cur,e1,_,hr2,_⟩
 ·rw[e1]at hk;cases hk
 ·rw[e1]at hk
  have:r=k:=by simpa [Value.ownBlock] using hk
  rw[this]at hr2;exact Hy H hr2 he
theorem aV.block {k:Nat} {cur:Array Value} {e:TypeId} {fz:Nat×Nat} (hs:aV W W' B X X') (H:av w W B X wd h seed S) (hk:W.heap[k]?=some (.cells cur e fz)) (he:e≠114∧e≠213∧e≠267∧e≠276∧e≠197∧e≠232∧e≠95∧e≠117∧e≠5):W'.heap[k]?=some (.cells cur e fz):=by
 rw[hs.turned.block k (lBq hk) (Hy H hk he)];exact hk
theorem av.floor {v':Nat->Value} {L':Nat->List Cv.ag} {oa n':Nat->Int} (H:av w W B X wd h seed S) (hf:bk w W' B.F B.P B.I B.b v' L' oa n' wd h) (hs:bJ W W' B.P B.I B.b X.v v') :
  av w W' B { X with v:=v' } wd h seed { S with L:=L',pf:=oa,n:=n' }∧aV W W' B X { X with v:=v' }:=by
 have ht:aJ W W' (fun k=>k=B.P∨∃ i,i<3∧(k=B.I i∨k=B.b i∨(X.v i).ownBlock=some k)) :=
  ⟨hs.os,hs.tape,hs.output,hs.size,fun k hk hn=>hs.keep k hk (fun e=>hn (.inl e)) (fun i hi=>⟨fun e=>hn (.inr ⟨i,hi,.inl e⟩),fun e=>hn (.inr ⟨i,hi,.inr (.inl e)⟩),fun e=>hn (.inr ⟨i,hi,.inr (.inr e)⟩)⟩)⟩
 have ty:∀ {k:Nat} {cur:Array Value} {e:TypeId} {fz:Nat×Nat},W.heap[k]?=some (.cells cur e fz)->e≠213∧e≠267∧e≠276∧e≠197->¬ (k=B.P∨∃ i,i<3∧(k=B.I i∨k=B.b i∨(X.v i).ownBlock=some k)):=fun {k cur e fz} hk he=>by
  rintro (rfl | ⟨i,hi,rfl | rfl | h1⟩)
  ·exact aF hk H.fl.cY he.1 rfl
  ·exact aF hk (H.fl.it i hi) he.2.1 rfl
  ·exact aF hk (H.fl.aG i hi).cell he.2.2.1 rfl
  ·exact iV (H.fl.aG i hi).row hk he.2.2.2 h1
 refine⟨⟨?_,hf,?_,?_,H.lo⟩,⟨ht.mono (fun k hk=>?_),fun k hk=>?_⟩⟩
 ·rw[ht.block _ (lBq H.blk) (ty H.blk (by decide))];exact H.blk
 ·refine H.it.turned ht (fun k hk=>?_)
  rcases hk with rfl | ⟨c,hc,hk⟩
  ·exact ty H.it.cell (by decide)
  ·rcases (H.it.row c hc).2 with ⟨e1,_⟩ | ⟨r,cap,kN,e1,_,hr2,_⟩
   ·rw[e1]at hk;cases hk
   ·rw[e1]at hk
    have:r=k:=by simpa [Value.ownBlock] using hk
    rw[this]at hr2;exact ty hr2 (by decide)
 ·refine H.dk.turned ht (ty H.dk.cell (by decide)) (fun k hk=>?_)
  obtain⟨g,cap,kN,zg,e1,_,hg,_⟩:=H.dk.row;rw[e1]at hk;have:g=k:=by simpa [Value.ownBlock] using hk
  rw[this]at hg;exact ty hg (by decide)
 ·rcases hk with rfl | hk
  ·exact .inr (.inl rfl)
  ·exact .inr (.inr (.inl hk))
 ·rcases hk with rfl | rfl | ⟨i,hi,rfl | rfl | hk⟩ | hk
  ·exact .inl (.inl rfl)
  ·exact .inl (.inr (.inl rfl))
  ·exact .inl (.inr (.inr (.inl ⟨i,hi,.inl rfl⟩)))
  ·exact .inl (.inr (.inr (.inl ⟨i,hi,.inr (.inl rfl)⟩)))
  ·rcases hs.new i hi k hk with h1 | h1
   ·exact .inl (.inr (.inr (.inl ⟨i,hi,.inr (.inr h1)⟩)))
   ·exact .inr h1
  ·exact .inl (.inr (.inr (.inr hk)))
theorem av.take {zt:Nat->Value} {t':Nat} {Q':Nat->List Ask} (H:av w W B X wd h seed S) (hi:dA W' w.heap.size B.q zt t' Q') (hs:hZ W W' B.q X.qv zt) :
  av w W' B { X with qv:=zt } wd h seed { S with Q:=Q',t:=t' }∧aV W W' B X { X with qv:=zt }:=by
 have ht:=hs.turned;have ty:∀ {k:Nat} {cur:Array Value} {e:TypeId} {fz:Nat×Nat},W.heap[k]?=some (.cells cur e fz)->e≠232∧e≠95->¬ mX B.q X.qv k:=fun {k cur e fz} hk he=>by
  rintro (rfl | ⟨c,hc,h1⟩)
  ·exact aF hk H.it.cell he.1 rfl
  ·rcases (H.it.row c hc).2 with ⟨e1,_⟩ | ⟨r,cap,kN,e1,_,hr2,_⟩
   ·rw[e1]at h1;cases h1
   ·rw[e1]at h1
    have:r=k:=by simpa [Value.ownBlock] using h1
    rw[this,hk]at hr2;simp at hr2;exact he.2 hr2.2.1
 have u_:∀ {i:Nat},i<3->∀ k,(X.v i).ownBlock=some k->¬ mX B.q X.qv k:=fun {i} hi k hk=>by
  rcases (H.fl.aG i hi).row.2 with ⟨e1,_⟩ | ⟨r,cap,kN,e1,_,hr2,_⟩
  ·rw[e1]at hk;cases hk
  ·rw[e1]at hk
   have:r=k:=by simpa [Value.ownBlock] using hk
   rw[this]at hr2;exact ty hr2 (by decide)
 refine⟨⟨?_,?_,hi,?_,H.lo⟩,⟨ht.mono (fun k hk=>.inr (.inr (.inr (.inl hk)))),fun k hk=>?_⟩⟩
 ·rw[ht.block _ (lBq H.blk) (ty H.blk (by decide))];exact H.blk
 ·exact H.fl.turned ht (ty H.fl.blk (by decide)) (ty H.fl.cY (by decide)) (fun i hi=>⟨ty (H.fl.it i hi) (by decide),ty (H.fl.aG i hi).cell (by decide),u_ hi⟩) (fun k hk=>(H.it.fe hk).1)
 ·refine H.dk.turned ht (ty H.dk.cell (by decide)) (fun k hk=>?_)
  obtain⟨g,cap,kN,zg,e1,_,hg,_⟩:=H.dk.row;rw[e1]at hk;have:g=k:=by simpa [Value.ownBlock] using hk
  rw[this]at hg;exact ty hg (by decide)
 ·rcases hk with rfl | rfl | hk | hk | hk
  ·exact .inl (.inl rfl)
  ·exact .inl (.inr (.inl rfl))
  ·exact .inl (.inr (.inr (.inl hk)))
  ·rcases hs.new k hk with h1 | h1
   ·exact .inl (.inr (.inr (.inr (.inl h1))))
   ·exact .inr h1
  ·exact .inl (.inr (.inr (.inr (.inr hk))))
theorem av.tape {sU:Value} {XB:List UInt8} {cut':Bool} {left':Nat} (H:av w W B X wd h seed S) (hd:dI W' w.heap.size B.d sU XB cut' left') (ht:aJ W W' (fun k=>k=B.d∨X.bH.ownBlock=some k)) (hn:∀ k,sU.ownBlock=some k->X.bH.ownBlock=some k∨W.heap.size<=k) :
  av w W' B { X with bH:=sU } wd h seed { S with tp:=XB,cut:=cut',left:=left' }∧aV W W' B X { X with bH:=sU }:=by
 have ty:∀ {k:Nat} {cur:Array Value} {e:TypeId} {fz:Nat×Nat},W.heap[k]?=some (.cells cur e fz)->e≠117∧e≠5->¬ (k=B.d∨X.bH.ownBlock=some k):=fun {k cur e fz} hk he=>by
  rintro (rfl | h1)
  ·exact aF hk H.dk.cell he.1 rfl
  ·exact H.dk.row.uZ hk he.2 h1
 have u_:∀ {i:Nat},i<3->∀ k,(X.v i).ownBlock=some k->¬ (k=B.d∨X.bH.ownBlock=some k):=fun {i} hi k hk=>by
  rcases (H.fl.aG i hi).row.2 with ⟨e1,_⟩ | ⟨r,cap,kN,e1,_,hr2,_⟩
  ·rw[e1]at hk;cases hk
  ·rw[e1]at hk
   have:r=k:=by simpa [Value.ownBlock] using hk
   rw[this]at hr2;exact ty hr2 (by decide)
 have hlo:∀ k,(k=B.d∨X.bH.ownBlock=some k)->w.heap.size<=k:=fun k hk=>by
  rcases hk with rfl | hk
  ·exact H.dk.lo
  ·exact(H.dk.row.lt k hk).1
 refine⟨⟨?_,?_,?_,hd,H.lo⟩,⟨ht.mono (fun k hk=>?_),fun k hk=>?_⟩⟩
 ·rw[ht.block _ (lBq H.blk) (ty H.blk (by decide))];exact H.blk
 ·exact H.fl.turned ht (ty H.fl.blk (by decide)) (ty H.fl.cY (by decide)) (fun i hi=>⟨ty (H.fl.it i hi) (by decide),ty (H.fl.aG i hi).cell (by decide),u_ hi⟩) hlo
 ·refine H.it.turned ht (fun k hk=>?_)
  rcases hk with rfl | ⟨c,hc,hk⟩
  ·exact ty H.it.cell (by decide)
  ·rcases (H.it.row c hc).2 with ⟨e1,_⟩ | ⟨r,cap,kN,e1,_,hr2,_⟩
   ·rw[e1]at hk;cases hk
   ·rw[e1]at hk
    have:r=k:=by simpa [Value.ownBlock] using hk
    rw[this]at hr2;exact ty hr2 (by decide)
 ·rcases hk with rfl | hk
  ·exact .inr (.inr (.inr (.inr (.inl rfl))))
  ·exact .inr (.inr (.inr (.inr (.inr hk))))
 ·rcases hk with rfl | rfl | hk | hk | rfl | hk
  ·exact .inl (.inl rfl)
  ·exact .inl (.inr (.inl rfl))
  ·exact .inl (.inr (.inr (.inl hk)))
  ·exact .inl (.inr (.inr (.inr (.inl hk))))
  ·exact .inl (.inr (.inr (.inr (.inr (.inl rfl)))))
  ·rcases hn k hk with h1 | h1
   ·exact .inl (.inr (.inr (.inr (.inr (.inr h1)))))
   ·exact .inr h1
theorem av.own {S':af.St} (H:av w W B X wd h seed S) (hs:aM W W' B.V) (hb:W'.heap[B.V]?=some (.cells (iB B seed S') 114 (0,0))) (e:S'.L=S.L∧S'.pf=S.pf∧S'.n=S.n∧S'.Q=S.Q∧S'.t=S.t∧S'.tp=S.tp∧S'.cut=S.cut∧S'.left=S.left):av w W' B X wd h seed S'∧aV W W' B X X:=by
 have ht:aJ W W' (fun k=>k=B.V):=⟨hs.os,hs.tape,hs.output,hs.size,fun k hk hn=>hs.block k hk hn⟩;have ty:∀ {k:Nat} {cur:Array Value} {e:TypeId} {fz:Nat×Nat},W.heap[k]?=some (.cells cur e fz)->e≠114->k≠B.V:=fun hk he=>aF hk H.blk he;have u_:∀ {base:Nat} {e:TypeId} {s n:Nat} {v:Value} {xs:List Value},W.ownsRow base e s v n xs->e≠114->∀ k,v.ownBlock=some k->k≠B.V:=fun {base e s n v xs} hr he k hk=>by
  rcases hr.2 with ⟨e1,_⟩ | ⟨r,cap,kN,e1,_,hr2,_⟩
  ·rw[e1]at hk;cases hk
  ·rw[e1]at hk
   have:r=k:=by simpa [Value.ownBlock] using hk
   rw[this]at hr2;exact ty hr2 he
 obtain⟨e1,e2,e3,e4,e5,e6,e7,e8⟩:=e;refine⟨⟨hb,?_,?_,?_,H.lo⟩,⟨ht.mono (fun k hk=>.inl hk),fun _ h=>.inl h⟩⟩
 ·rw[e1,e2,e3]
  exact H.fl.turned ht (ty H.fl.blk (by decide)) (ty H.fl.cY (by decide)) (fun i hi=>⟨ty (H.fl.it i hi) (by decide),ty (H.fl.aG i hi).cell (by decide),u_ (H.fl.aG i hi).row (by decide)⟩) (fun k hk=>by subst hk;exact H.lo)
 ·rw[e4,e5]
  refine H.it.turned ht (fun k hk=>?_);rcases hk with rfl | ⟨c,hc,hk⟩
  ·exact ty H.it.cell (by decide)
  ·exact u_ (H.it.row c hc) (by decide) k hk
 ·rw[e6,e7,e8]
  refine H.dk.turned ht (ty H.dk.cell (by decide)) (fun k hk e=>?_);exact H.dk.row.uZ H.blk (by decide) (by rw[hk,e])
theorem av.at (H:av w W B X wd h seed S) (k:Nat):W.cell? ⟨B.V,k,none⟩=(iB B seed S)[k]?:=cR W B.V k _ _ _ H.blk
theorem av.conn (H:av w W B X wd h seed S) {c j:Nat} (hc:c<6) (hj:j<5):W.cell? ⟨B.V,4+c*5+j,none⟩=some (fT S c j):=by rw[H.at];exact qT B seed S hc hj
theorem av.free (H:av w W B X wd h seed S) (k:Nat):W.frozen? ⟨B.V,k,none⟩=false:=by simp[World.frozen?,H.blk]
theorem av.lt (H:av w W B X wd h seed S):B.V<W.heap.size:=lBq H.blk
theorem av.set {S':af.St} (H:av w W B X wd h seed S) {c j:Nat} (hc:c<6) (hj:j<5) (u:Value)
  (hS:∀ c' j',c'<6->j'<5->fT S' c' j'=if c'=c∧j'=j then u else fT S c' j') (hn:S'.now=S.now) (hbt:S'.bt=S.bt) (hd:S'.down=S.down) (e:S'.L=S.L∧S'.pf=S.pf∧S'.n=S.n∧S'.Q=S.Q∧S'.t=S.t∧S'.tp=S.tp∧S'.cut=S.cut∧S'.left=S.left) :
  av w (W.setCell ⟨B.V,4+c*5+j,none⟩ u) B X wd h seed S'∧aV W (W.setCell ⟨B.V,4+c*5+j,none⟩ u) B X X :=
 H.own (aM.setCell _ _ _ _) (by rw[block_setCell H.blk,ajW B seed S S' hc hj u hS hn hbt hd]) e
end
def jq:List ByteArray->Nat
 | []=>0
 | f::r=>if d6 f=0 then jq r else d6 f
theorem alR (fs:List ByteArray) (k:Nat) (f:ByteArray) (h:fs[k]?=some f):jq (fs.drop k)=if d6 f=0 then jq (fs.drop (k+1)) else d6 f:=by
 obtain⟨h1,e⟩:=List.getElem?_eq_some_iff.1 h;rw[List.drop_eq_getElem_cons h1,e,jq]
theorem alS (f:ByteArray):rF f=bM (af.cB f):=by rw[WB];rfl
section
variable {ad:Nat->Addr}
theorem alT (fs:List ByteArray) (v:Value) (base n:Nat) (w:World) (hs:Hid (bT w ad)) (hn:Hid (fs.length=n)) (hr:Hid (w.ownsRow base 9 1 v n (fs.map Value.string))) (hl:n<=100000) :
  Calls Tryz.prog 43 #[v] w fun e w'=>∃ va,e=.returned (.tuple #[va,gq ad (jq fs)])∧Below w.heap.size w w'∧(jq fs=0->w'.ownsRow w.heap.size 95 8 va fs.length (bl (fs.map af.cB)))∧(jq fs≠0->va=.slice none 0 0):=by
 obtain⟨a0,c0,hv⟩:=fH hr.out;subst hv;have hcell:∀ W',Below w.heap.size w W'->∀ k f,fs[k]?=some f->∃ g,a0=some ⟨g,0,none⟩∧k<n∧W'.cell? ⟨g,k,none⟩=some (.string f):=fun W' hb k f hk=>by
  obtain⟨hk1,_⟩:=List.getElem?_eq_some_iff.1 hk;have eY:=hr.out.kept (row:=none) ⟨hb.os,hb.tape,hb.output,hb.size,fun i hi _=>hb.block i hi⟩ (Classical.em _);rcases eY.2 with ⟨e,e0⟩ | ⟨g,cap,cur,e,_,hg,_,_,_,ht⟩
  ·rw[<- hn.out]at e0;omega
  ·cases e
   refine⟨g,rfl,by rw[<- hn.out];exact hk1,?_⟩;rw[cR W' g k _ _ _ hg,<- Array.getElem?_toList];have h2:=congrArg (·[k]?) ht;simp only[List.getElem?_map,hk,Option.map_some]at h2;rw[List.getElem?_take_of_lt (by rw[<- hn.out];omega)]at h2;exact h2
 have HC:=hDq hcell;clear hcell;have HD:Hid (jq fs=jq (fs.drop 0)):=hDq rfl;generalize xY:jq fs=D at *;have apt:=hDq xY;clear xY;go_enter Tryz.func43,Tryz.ntmps43
 go_wp2_with fail
 go_loopw [4,11] (fun v kv wr=>∃ k:Nat,k<=n∧kv=.int .i64 k∧D=jq (fs.drop k)∧wr.ownsRow w.heap.size 95 8 v k (bl ((fs.take k).map af.cB))∧Below w.heap.size w wr) (fun _ kv _=>n-(intOf kv).toNat)
 case atStart=>exact⟨0,Nat.zero_le _,rfl,HD.out,World.ownsRow_nil _ _ _ _,bRq _ _⟩
 case round =>
  obtain⟨k,hk,rfl,hd,hrow,hb⟩:=hrel;have Pd:=hDq hd;have HR:=hDq hrow;have HB:=hDq hb;clear hd hrow hb HD;by_cases hlt:k<n
  ·have aX:(k:Int)<n:=by omega
   obtain⟨f,hf⟩:∃ f,fs[k]?=some f:=⟨_,List.getElem?_eq_getElem (by rw[hn.out];exact hlt)⟩;obtain⟨g,rfl,_,hc⟩:=HC.out wr HB.out k f hf;have HS:=hDq (alR fs k f hf);have HT:Hid ((fs.take (k+1)).map af.cB=(fs.take k).map af.cB++[af.cB f]):=hDq (by rw[List.take_add_one,hf];simp);have s4:=hDq (Re f ad wr (hs.out.later HB.out));have wV:((fs.take k).map af.cB).length=k:=by rw[List.length_map,lKq];have:=hn.out;omega
   have HL:=hDq wV;clear wV HC hf;rw[alS]at s4;by_cases hc0:d6 f=0
   ·rw[hc0,show gq ad 0=.nilIface from rfl]at s4
    have Iw:Hid (D=jq (fs.drop (k+1))):=hDq (by rw[Pd.out,HS.out,if_pos hc0]);generalize af.cB f=a at *;unfold bM aT at s4
    go_wp2_with fail
    refine s4.out.mono ?_;rintro e w1 ⟨rfl,hb1⟩;have hb2:Below w.heap.size w w1:=HB.out.trans (hb1.mono HB.out.size);have ar:=hDq (hb2.alloc hb2.size (.cells (aT a) 95));have hr2:(w1.alloc (.cells (aT a) 95)).ownsRow w.heap.size 95 8 u4 ((fs.take k).map af.cB).length (bl ((fs.take k).map af.cB)):=by
     rw[HL.out];exact(HR.out.kept (row:=none) ⟨hb1.os,hb1.tape,hb1.output,hb1.size,fun i hi _=>hb1.block i hi⟩ (Classical.em _)).alloc _
    obtain⟨v4,w4,hap,hr4,hg4⟩:=WY (w1.alloc (.cells (aT a) 95)) u4 ((fs.take k).map af.cB) a hr2 (by rw[HL.out];omega) ar.out.size;have bQ:Hid (Below w.heap.size w w4):=hDq (below_grown (ar.out.alloc ar.out.size _) (World.ownsRow.alloc hr2 _) (lTq ar.out.size (by simp)) hg4);have bO:Hid (w4.ownsRow w.heap.size 95 8 v4 (k+1) (bl ((fs.take (k+1)).map af.cB))):=hDq (by
     rw[HT.out];rw[lAq,HL.out]at hr4;exact hr4)
    rw[World.size_alloc]at hap;have fg:=hDq hap;unfold aT at fg;clear hap hr4 hg4 hr2 hb2 hb1 s4 HR HB hc0;simp only[]
    go_wp2_with (at_builtin;refine wpList_append_run rfl _ _ 24 rfl _ _ _ rfl rfl fg.out ?_)
    go_roundw
    case rel=>exact⟨k+1,hlt,by go_num,Iw.out,bO.out,bQ.out⟩
    case measure=>simp[intOf];omega
   ·rw[xN ad hc0]at s4
    have Iw:Hid (D=d6 f):=hDq (by rw[Pd.out,HS.out,if_neg hc0]);generalize af.cB f=a at *;unfold bM aT at s4
    go_wp2_with fail
    refine s4.out.mono ?_;rintro e w1 ⟨rfl,hb1⟩;have hb2:Below w.heap.size w w1:=HB.out.trans (hb1.mono HB.out.size);have ar:=hDq (hb2.alloc hb2.size (.cells (aT a) 95));clear hb1 hb2 s4;simp only[];go_wp2;go_ret2;refine⟨_,?_,ar.out,fun e=>absurd (Iw.out.symm.trans e) hc0,fun _=>rfl⟩;rw[Iw.out,xN ad hc0];rfl
  ·have aX:¬ (k:Int)<n:=by omega
   obtain rfl:k=n:=by omega
   have Zd:D=0:=by rw[Pd.out,List.drop_of_length_le (by rw[hn.out];exact lRq _)];rfl
   have HD0:=hDq Zd;clear Zd;go_wp2;go_ret2;refine⟨_,by rw[HD0.out];rfl,HB.out,fun _=>?_,fun e=>absurd HD0.out e⟩
   have:=HR.out
   rw[List.take_of_length_le (by rw[hn.out];exact lRq _)]at this;rw[hn.out];exact this
end
end Go.Proofs.YtjolccidheflpaaGreatDoor
