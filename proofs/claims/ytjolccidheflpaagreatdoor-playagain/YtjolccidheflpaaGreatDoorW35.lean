/- A venue: what it has, what bytes that are fed to it and a tick make of it; no program is spoken of. -/
import Derived.Test.YtjolccidheflpaaGreatDoorW30
import Derived.Test.YtjolccidheflpaaGreatDoorW11
import Derived.Test.YtjolccidheflpaaGreatDoorW31
import Derived.Test.YtjolccidheflpaaGreatDoorW34
import Derived.Test.YtjolccidheflpaaGreatDoorW00
import Derived.Lib.ItoaLen
import Derived.Test.YtjolccidheflpaaGreatDoorW13
import Derived.Test.YtjolccidheflpaaGreatDoorW10
namespace Go.Proofs.YtjolccidheflpaaGreatDoor
set_option maxHeartbeats 8000000
set_option maxRecDepth 100000
namespace af
structure cy where
 c:Int
 k:ByteArray
 id:Int
 pr:Int
 q:Int
 cd:Int
structure St where
 L:Nat->List Cv.ag
 pf:Nat->Int
 n:Nat->Int
 Q:Nat->List Ask
 t:Nat
 on:Nat->Bool
 ar:Nat->Int
 la:Nat->Int
 az:Nat->ByteArray
 aU:Nat->Bool
 tp:List UInt8
 cut:Bool
 left:Nat
 now:Nat
 bt:Nat
 down:Bool
def sN:ByteArray:=⟨#[97,99,99,101,112,116,101,100]⟩
def nY:ByteArray:=⟨#[114,101,102,117,115,101,100]⟩
def Ic:ByteArray:=⟨#[98,117,115,121]⟩
def Ie:ByteArray:=⟨#[102,105,108,108,101,100]⟩
def C6:ByteArray:=⟨#[114,101,115,116,115]⟩
def oZ:ByteArray:=⟨#[103,111,110,101]⟩
def cA (f:ByteArray):Ask:=⟨dc f (aN f 0),dc f (aN f 1),dc f (aA f 2),dc f (aN f 6),dc f (aN f 7),dc f (aA f 8),dc f (aA f 12),dc f (aA f 16)⟩
def gD (c id:Int) (e:Nat):cy:=⟨c,nY,id,0,0,e⟩
def leave (S:St) (n:Nat):St:={ S with Q:=ay.nH S.Q n,aU:=upd S.aU n true }
def takeC (S:St) (n:Nat) (a:Ask):Nat:=if a.c=n then bg.tc (S.on n) (S.ar n) a else 3
def taken (S:St) (n:Nat) (a:Ask):St :=
 { S with on:=upd S.on n (bg.iL (S.on n) (S.ar n) a),ar:=upd S.ar n (bg.jl (S.on n) (S.ar n) a),la:=upd S.la n (bg.gC (S.on n) (S.ar n) (S.la n) a S.now) }
def lZ (S:St) (n:Nat) (a:Ask):St:=if takeC S n a=0 then taken S n a else S
def qo (a:Ask):Bool:=a.k==111 || a.k==99
def jM (S:St) (n:Nat) (f:ByteArray):St :=
 if eu f=0 then
  if takeC S n (cA f)=0 then
   if qo (cA f)=true then { taken S n (cA f) with Q:=ay.ji S.Q (cA f) }
   else if (cA f).k=113 then leave (taken S n (cA f)) n else taken S n (cA f)
  else S
 else S
def vt (S:St) (a:Ask):ByteArray:=if ay.jh S.Q a=0 then sN else Ic
def lW (S:St) (n:Nat) (f:ByteArray):List cy :=
 if eu f=0 then
  if takeC S n (cA f)=0 then
   if qo (cA f)=true then [⟨n,vt S (cA f),(cA f).id,0,0,0⟩] else []
  else [gD n (cA f).id (takeC S n (cA f))]
 else [gD n 0 (eu f)]
def cZ (S:St) (n:Nat) (b:ByteArray):Nat->St
 | 0=>S
 | k+1=>jM (cZ S n b k) n (fr b k)
def fR (S:St) (n:Nat) (b:ByteArray):Nat->List cy
 | 0=>[]
 | k+1=>fR S n b k++lW (cZ S n b k) n (fr b k)
def eF (b:ByteArray):ByteArray:=b.extract (30*(b.size/30)) b.size
def gp (S:St) (n:Nat) (b:ByteArray):St:={ S with az:=upd S.az n (eF b) }
def eN (S:St) (n:Int) (s:ByteArray):St :=
 if S.down=true\/ah.aG n 0 5=false then S else cZ (gp S n.toNat (S.az n.toNat++s)) n.toNat (S.az n.toNat++s) ((S.az n.toNat++s).size/30)
def gY (S:St) (n:Int) (s:ByteArray):List cy :=
 if S.down=true\/ah.aG n 0 5=false then [] else fR (gp S n.toNat (S.az n.toNat++s)) n.toNat (S.az n.toNat++s) ((S.az n.toNat++s).size/30)
def gone (S:St) (n:Nat):St :=
 { S with on:=upd S.on n false,ar:=upd S.ar n 0,la:=upd S.la n 0,az:=upd S.az n ByteArray.empty,aU:=upd S.aU n true,Q:=ay.nH S.Q n }
def hang (S:St) (n:Nat):St:=if bg.late (S.on n) (S.la n) S.now=true then gone S n else S
def hangs (S:St):Nat->St
 | 0=>S
 | k+1=>hang (hangs S k) k
def d6 (aU:Nat->Bool):Nat->List Nat
 | 0=>[]
 | k+1=>d6 aU k++if aU k=true then [k] else []
def dec (n:Int):List Int:=(Lib.itoa n).map fun b=>(b.toNat:Int)
def tj (x:Nat):Int:=if x<10 then 48+(x:Int) else 87+(x:Int)
def l4 (s:ByteArray):Nat->List Int
 | 0=>[]
 | k+1=>l4 s k++[tj (aN s k/16),tj (aN s k%16)]
def l5 (ds:List Nat):Nat->List Int
 | 0=>[]
 | k+1=>l5 ds k++((if 0<k then [44] else [])++dec ((ds.getD k 0:Nat):Int))
def bL (a:Ask):ByteArray:=nh a.k a.c a.sq a.it a.sd a.pr a.q a.id
def nZ (l:List Ask):Nat->List Int
 | 0=>[]
 | k+1=>nZ l k++([32]++l4 (bL (cY l k)) (bL (cY l k)).size)
def Ig (bt:Nat) (ds:List Nat) (l:List Ask):List Int:=((dec bt++[58])++l5 ds ds.length)++nZ l l.length
def gF (bt:Nat) (ds:List Nat) (l:List Ask):ByteArray:=strOfNums (Ig bt ds l)
structure cB where
 L:Nat->List Cv.ag
 pf:Nat->Int
 n:Nat->Int
 pl:List Ask
 rp:List cy
def tell (k:ByteArray) (x:Cv.ag):cy:=⟨x.ak,k,x.id,x.pr,x.q,0⟩
def ru (r:cB) (c:Nat):cB:={ r with L:=Fl.i_ c r.L 3,pf:=Fl.ot c r.L r.pf 3,rp:=r.rp++(Fl.kW c r.L 3).map (tell oZ) }
def kN (r:cB) (ds:List Nat):Nat->cB
 | 0=>r
 | k+1=>ru (kN r ds k) (ds.getD k 0)
def others (a:Ask) (l:List Ask):List Ask:=l.filter fun x=>!(x.it==a.it&&x.id==a.id)
def qm (r:cB) (a:Ask):cB :=
 { r with L:=Fl.iB r.L r.pf a,pf:=Fl.jV r.L r.pf a,pl:=if Fl.fA r.L r.pf a=0 then r.pl++[a] else r.pl,rp:=if Fl.fA r.L r.pf a=0 then r.rp else r.rp++[gD a.c a.id (Fl.fA r.L r.pf a+1)] }
def qj (r:cB) (a:Ask):cB :=
 { r with L:=Fl.dQ r.L a,pf:=Fl.jW r.L r.pf a,pl:=if Fl.dh r.L r.pf a=0 then others a r.pl else r.pl,rp:=r.rp++if Fl.dh r.L r.pf a=0 then [tell oZ (Fl.fC r.L a)] else [gD a.c a.id (Fl.dh r.L r.pf a+1)] }
def gq (r:cB) (a:Ask):cB:=if a.k=111 then qm r a else qj r a
def kO (r:cB) (l:List Ask):Nat->cB
 | 0=>r
 | k+1=>gq (kO r l k) (cY l k)
def vu (l:List Cv.ag):Nat->Int->Int
 | 0=>fun _=>0
 | k+1=>fun id=>if id=(Cv.nth l k).id then (Cv.nth l k).ak else vu l k id
open Classical in
noncomputable def C8 (l:List Cv.ag) (ref:Int):Int×Int:=if h:∃ pv:Int×Int,Cv.fD l ref 1000 pv.1 pv.2 then Classical.choose h else (0,0)
noncomputable def jm (r:cB) (i:Nat):Int:=(C8 (r.L i) (r.n (i*2))).1
noncomputable def qp (r:cB) (i:Nat):Int:=(C8 (r.L i) (r.n (i*2))).2
noncomputable def jo (wd:Int) (r:cB) (i:Nat) (s:Int):List (Int×Int):=Fl.oL s (r.L i) (Fl.oJ r.n i wd (jm r i) (qp r i)) (jm r i) (qp r i)
def vv (l:List Cv.ag) (p:Int) (f:Int×Int):cy:=⟨vu l l.length f.1,Ie,f.1,p,f.2,0⟩
def o5 (L:Nat->List Cv.ag) (i:Nat) (a:Ask):List cy:=if Cv.has (L i) a.id=true/\a.it=i then [tell C6 (Bk.jP (L i) a.id)] else []
noncomputable def vw (wd h:Int) (r:cB) (i:Nat) (s:Int):cB :=
 { r with L := Fl.oI r.L i (jo wd r i s), pf := Fs.ia r.pf i (jm r i) (r.L i) (jo wd r i s), n := Fl.runN r.n i wd h (jm r i) (qp r i),
          rp:=r.rp++((jo wd r i s).map (vv (r.L i) (jm r i))++r.pl.flatMap (o5 (Fl.oI r.L i (jo wd r i s)) i)) }
def tq (seed:Int) (bt i:Nat):Int:=(seed+((3*bt+i:Nat):Int)%4294967296)%4294967296
noncomputable def mQ (wd h seed:Int) (bt:Nat) (r:cB):Nat->cB
 | 0=>r
 | k+1=>vw wd h (mQ wd h seed bt r k) k (tq seed bt k)
def start (S:St):cB:=⟨S.L,S.pf,S.n,[],[]⟩
noncomputable def iU (wd h seed:Int) (S:St) (ds:List Nat) (l:List Ask):cB:=mQ wd h seed S.bt (kO (kN (start S) ds ds.length) l l.length) 3
def vx (aU:Nat->Bool):Nat->Nat->Bool
 | 0=>aU
 | k+1=>upd (vx aU k) k false
noncomputable def mR (wd h seed:Int) (S:St) (ds:List Nat) (l:List Ask):St :=
 { S with L:=(iU wd h seed S ds l).L,pf:=(iU wd h seed S ds l).pf,n:=(iU wd h seed S ds l).n,aU:=vx S.aU 6,bt:=S.bt+1 }
def full (S:St) (s:ByteArray):Bool:=decide (1048576<S.tp.length+(12+s.size))
def l6 (S:St) (s:ByteArray):Bool:=!full S s&&(!S.cut || decide (12+s.size<=S.left))
def bT (S:St) (s:ByteArray):St :=
 if full S s=true then S else { S with tp:=S.tp++(if S.cut=true then (bC.rec s.data.toList).take S.left else bC.rec s.data.toList),left:=if S.cut=true then S.left-(12+s.size) else S.left }
def cp (S:St):St:={ S with Q:=ay.BN S.Q S.t,t:=ay.who S.t 1 }
def dO (S:St):ByteArray:=gF S.bt (d6 S.aU 6) (ay.out S.Q S.t)
noncomputable def vy (wd h seed:Int) (S:St):St :=
 if l6 (cp S) (dO S)=true then mR wd h seed (bT (cp S) (dO S)) (d6 S.aU 6) (ay.out S.Q S.t) else { bT (cp S) (dO S) with down:=true }
noncomputable def Ov (wd h seed:Int) (S:St):List cy :=
 if l6 (cp S) (dO S)=true then (iU wd h seed (bT (cp S) (dO S)) (d6 S.aU 6) (ay.out S.Q S.t)).rp else []
def cg (S:St):St:=hangs { S with now:=S.now+1 } 6
noncomputable def ei (wd h seed:Int) (S:St):St :=
 if S.down=true then S else if (S.now+1)%3=0 then vy wd h seed (cg S) else cg S
noncomputable def nR (wd h seed:Int) (S:St):List cy :=
 if S.down=true then [] else if (S.now+1)%3=0 then Ov wd h seed (cg S) else []
def akc (S:St) (n:Int):Nat:=if n<0 then 2 else if S.cut=true/\S.left=0 then 9 else 0
def Ow (S:St) (n:Int):St:=if akc S n=0 then { S with cut:=true,left:=n.toNat } else S
end af
section
open Go.RowKit
structure bP where
 V:Nat
 F:Nat
 P:Nat
 q:Nat
 d:Nat
 I:Nat->Nat
 b:Nat->Nat
structure bX where
 v:Nat->Value
 qv:Nat->Value
 bV:Value
def gu (S:af.St) (c:Nat):Nat->Value
 | 0=>.bool (S.on c)
 | 1=>Qa (S.ar c)
 | 2=>Qa (S.la c)
 | 3=>.string (S.az c)
 | _=>.bool (S.aU c)
def xK (S:af.St) (c:Nat):List Value:=[.bool (S.on c),Qa (S.ar c),Qa (S.la c),.string (S.az c),.bool (S.aU c)]
def jq (B:bP) (seed:Int) (S:af.St):Array Value :=
 (([.int .u32 seed,Qc B.F,Qc B.q,Qc B.d]:List Value)++(xK S 0++(xK S 1++(xK S 2++(xK S 3++(xK S 4++(xK S 5++[Qa S.now,Qa S.bt,Value.bool S.down]))))))).toArray
theorem ry (B:bP) (seed:Int) (S:af.St) {c j:Nat} (hc:c<6) (hj:j<5):(jq B seed S)[4+c*5+j]?=some (gu S c j):=by
 have h1:c=0\/c=1\/c=2\/c=3\/c=4\/c=5:=by omega
 have h2:j=0\/j=1\/j=2\/j=3\/j=4:=by omega
 rcases h1 with rfl | rfl | rfl | rfl | rfl | rfl <;> rcases h2 with rfl | rfl | rfl | rfl | rfl <;> rfl
theorem akI (B:bP) (seed:Int) (S S':af.St) {c j:Nat} (hc:c<6) (hj:j<5) (u:Value)
  (h:∀ c' j',c'<6->j'<5->gu S' c' j'=if c'=c/\j'=j then u else gu S c' j') (hn:S'.now=S.now) (hb:S'.bt=S.bt) (hd:S'.down=S.down) :
  (jq B seed S).setIfInBounds (4+c*5+j) u=jq B seed S':=by
 have h0:=fun c' j' (h1:c'<6) (h2:j'<5)=>h c' j' h1 h2;have e:∀ c',c'<6->xK S' c'=[if c'=c/\0=j then u else gu S c' 0,if c'=c/\1=j then u else gu S c' 1,if c'=c/\2=j then u else gu S c' 2,if c'=c/\3=j then u else gu S c' 3,if c'=c/\4=j then u else gu S c' 4]:=fun c' h1=>by
  rw[<- h0 c' 0 h1 (by decide),<- h0 c' 1 h1 (by decide),<- h0 c' 2 h1 (by decide),<- h0 c' 3 h1 (by decide),<- h0 c' 4 h1 (by decide)];rfl
 unfold jq;rw[e 0 (by decide),e 1 (by decide),e 2 (by decide),e 3 (by decide),e 4 (by decide),e 5 (by decide),hn,hb,hd];have h1:c=0\/c=1\/c=2\/c=3\/c=4\/c=5:=by omega
 have h2:j=0\/j=1\/j=2\/j=3\/j=4:=by omega
 rcases h1 with rfl | rfl | rfl | rfl | rfl | rfl <;> rcases h2 with rfl | rfl | rfl | rfl | rfl <;> rfl
structure aD (w W:World) (B:bP) (X:bX) (wd h seed:Int) (S:af.St):Prop where
 blk:W.heap[B.V]?=some (.cells (jq B seed S) 114 (0,0))
 fl:bk w W B.F B.P B.I B.b X.v S.L S.pf S.n wd h
 it:dF W w.heap.size B.q X.qv S.t S.Q
 dk:ek W w.heap.size B.d X.bV S.tp S.cut S.left
 lo:w.heap.size<=B.V
def dH (B:bP) (X:bX) (k:Nat):Prop:=k=B.V\/k=B.P\/(∃ i,i<3/\(k=B.I i\/k=B.b i\/(X.v i).ownBlock=some k))\/nJ B.q X.qv k\/k=B.d\/X.bV.ownBlock=some k
structure bf (W W':World) (B:bP) (X X':bX):Prop where
 turned:aJ W W' (dH B X)
 new:∀ k,dH B X' k->dH B X k\/W.heap.size<=k
section
variable {w W W' W2:World} {B:bP} {X X' X2:bX} {wd h seed:Int} {S:af.St}
theorem bf.refl (W:World) (B:bP) (X:bX):bf W W B X X:=⟨aJ.refl _ _,fun _ h=>.inl h⟩
theorem bf.of_below (hb:Qd W W') (B:bP) (X:bX):bf W W' B X X:=⟨aJ.of_below hb _,fun _ h=>.inl h⟩
theorem bf.trans (h:bf W W' B X X') (h1:bf W' W2 B X' X2):bf W W2 B X X2 :=
 ⟨h.turned.trans h1.turned h.new,fun k hk=>by
  rcases h1.new k hk with h3 | h3
  .exact h.new k h3
  .exact .inr (lTq h.turned.size h3)⟩
theorem bf.below (h:bf W W' B X X') (hb:Qd W' W2):bf W W2 B X X':=h.trans (bf.of_below hb B X')
theorem ek.lt {base p:Nat} {v:Value} {l:List UInt8} {cut:Bool} {left:Int} (h:ek W base p v l cut left):p<W.heap.size:=lBq h.cell
theorem dY.turned {base:Nat} {v:Value} {xs:List Int} {T:Nat->Prop} (hr:dY W base v xs) (h:aJ W W' T) (ha:∀ k,v.ownBlock=some k->¬ T k):dY W' base v xs :=
 hr.block fun k hk=>h.block k (hr.lt k hk).2 (ha k hk)
theorem dY.sK {base:Nat} {v:Value} {xs:List Int} {cur:Array Value} {e:TypeId} {fz:Nat×Nat} {q:Nat} (hr:dY W base v xs) (hq:W.heap[q]?=some (.cells cur e fz)) (hne:e≠5):v.ownBlock≠some q:=by
 obtain⟨g,cap,lh,MU,rfl,_,hg,_⟩:=hr;intro hk;have:g=q:=by simpa [Value.ownBlock] using hk
 rw[this,hq]at hg;simp at hg;exact hne hg.2.1
theorem ek.turned {base p:Nat} {v:Value} {l:List UInt8} {cut:Bool} {left:Int} {T:Nat->Prop} (h:ek W base p v l cut left) (ht:aJ W W' T) (h1:¬ T p) (h2:∀ k,v.ownBlock=some k->¬ T k):ek W' base p v l cut left :=
 ⟨by rw[ht.block p h.lt h1];exact h.cell,h.row.turned ht h2,h.lo⟩
theorem aD.fj (H:aD w W B X wd h seed S) {k:Nat} (hk:dH B X k):w.heap.size<=k/\k<W.heap.size:=by
 rcases hk with rfl | rfl | ⟨i,hi,rfl | rfl | hk⟩ | hk | rfl | hk
 .exact⟨H.lo,lBq H.blk⟩
 .exact⟨H.fl.nt,lBq H.fl.cQ⟩
 .exact⟨H.fl.nu i hi,lBq (H.fl.it i hi)⟩
 .exact⟨(H.fl.aH i hi).lo,lBq (H.fl.aH i hi).cell⟩
 .exact(H.fl.aH i hi).tJ k hk
 .exact H.it.fj hk
 .exact⟨H.dk.lo,H.dk.lt⟩
 .exact H.dk.row.lt k hk
theorem aD.bG (H:aD w W B X wd h seed S):Qd w W:=H.fl.bG
theorem bk.turned {F P:Nat} {I b:Nat->Nat} {v:Nat->Value} {L:Nat->List Cv.ag} {pf n:Nat->Int} {T:Nat->Prop} (hf:bk w W F P I b v L pf n wd h) (ht:aJ W W' T) (hF:¬ T F) (hP:¬ T P) (h3:∀ i,i<3->¬ T (I i)/\¬ T (b i)/\∀ k,(v i).ownBlock=some k->¬ T k) (hT:∀ k,T k->w.heap.size<=k):bk w W' F P I b v L pf n wd h:=by
 refine⟨by rw[ht.block F (lBq hf.blk) hF];exact hf.blk,fun i hi=>by rw[ht.block _ (lBq (hf.it i hi)) (h3 i hi).1];exact hf.it i hi,fun i hi=>?_,hf.pJ,hf.ne,hf.ap,?_,hf.lo,hf.nt,hf.nu,hf.bG.trans (ht.below hf.bG.size hT)⟩
 .have hb:=hf.aH i hi
  exact⟨by rw[ht.block _ (lBq hb.cell) (h3 i hi).2.1];exact hb.cell,hb.lo,eM hb.row ht (h3 i hi).2.2⟩
 .show W'.heap[P]?=_
  rw[ht.block P (lBq hf.cQ) hP];exact hf.cQ
theorem aD.aside {T:Nat->Prop} (H:aD w W B X wd h seed S) (ht:aJ W W' T) (hF:¬ T B.F) (ho:∀ k,dH B X k->¬ T k) (hT:∀ k,T k->w.heap.size<=k):aD w W' B X wd h seed S :=
 ⟨by rw[ht.block _ (lBq H.blk) (ho _ (.inl rfl))];exact H.blk,
  H.fl.turned ht hF (ho _ (.inr (.inl rfl))) (fun i hi=>⟨ho _ (.inr (.inr (.inl ⟨i,hi,.inl rfl⟩))),ho _ (.inr (.inr (.inl ⟨i,hi,.inr (.inl rfl)⟩))),fun k hk=>ho k (.inr (.inr (.inl ⟨i,hi,.inr (.inr hk)⟩)))⟩) hT,
  H.it.turned ht (fun k hk=>ho k (.inr (.inr (.inr (.inl hk))))),
  H.dk.turned ht (ho _ (.inr (.inr (.inr (.inr (.inl rfl)))))) (fun k hk=>ho k (.inr (.inr (.inr (.inr (.inr hk)))))),H.lo⟩
theorem aD.later (H:aD w W B X wd h seed S) (hb:Qd W W'):aD w W' B X wd h seed S :=
 H.aside (aJ.of_below hb (fun _=>False)) (fun h=>h) (fun _ _ h=>h) (fun _ h=>h.elim)
theorem uO (H:aD w W B X wd h seed S) {k:Nat} {cur:Array Value} {e:TypeId} {fz:Nat×Nat} (hk:W.heap[k]?=some (.cells cur e fz)) (he:e≠114/\e≠213/\e≠267/\e≠276/\e≠197/\e≠232/\e≠95/\e≠117/\e≠5):¬ dH B X k:=by
 have ty:∀ {q:Nat} {a:Array Value} {T:TypeId} {Kj:Nat×Nat},W.heap[q]?=some (.cells a T Kj)->e≠T->k≠q:=fun hq hT=>aI hk hq hT;rintro (rfl | rfl | ⟨i,hi,rfl | rfl | h1⟩ | (rfl | ⟨c,hc,h1⟩) | rfl | h1)
 .exact ty H.blk he.1 rfl
 .exact ty H.fl.cQ he.2.1 rfl
 .exact ty (H.fl.it i hi) he.2.2.1 rfl
 .exact ty (H.fl.aH i hi).cell he.2.2.2.1 rfl
 .exact jc (H.fl.aH i hi).row hk he.2.2.2.2.1 h1
 .exact ty H.it.cell he.2.2.2.2.2.1 rfl
 .rcases (H.it.row c hc).2 with ⟨e1,_⟩ | ⟨r,cap,lh,e1,_,hr2,_⟩
  .rw[e1]at h1;cases h1
  .rw[e1]at h1
   have:r=k:=by simpa [Value.ownBlock] using h1
   rw[this,hk]at hr2;simp at hr2;exact he.2.2.2.2.2.2.1 hr2.2.1
 .exact ty H.dk.cell he.2.2.2.2.2.2.2.1 rfl
 .exact H.dk.row.sK hk he.2.2.2.2.2.2.2.2 h1
theorem bf.row {base:Nat} {e:TypeId} {s n:Nat} {v:Value} {xs:List Value} (hs:bf W W' B X X') (H:aD w W B X wd h seed S) (hr:W.ownsRow base e s v n xs) (he:e≠114/\e≠213/\e≠267/\e≠276/\e≠197/\e≠232/\e≠95/\e≠117/\e≠5):W'.ownsRow base e s v n xs:=by
 refine eM hr hs.turned (fun k hk=>?_);rcases hr.2 with ⟨e1,_⟩ | ⟨r,cap,cur,e1,_,hr2,_⟩
 .rw[e1]at hk;cases hk
 .rw[e1]at hk
  have:r=k:=by simpa [Value.ownBlock] using hk
  rw[this]at hr2;exact uO H hr2 he
theorem bf.block {k:Nat} {cur:Array Value} {e:TypeId} {fz:Nat×Nat} (hs:bf W W' B X X') (H:aD w W B X wd h seed S) (hk:W.heap[k]?=some (.cells cur e fz)) (he:e≠114/\e≠213/\e≠267/\e≠276/\e≠197/\e≠232/\e≠95/\e≠117/\e≠5):W'.heap[k]?=some (.cells cur e fz):=by
 rw[hs.turned.block k (lBq hk) (uO H hk he)];exact hk
theorem aD.floor {v':Nat->Value} {L':Nat->List Cv.ag} {oK n':Nat->Int} (H:aD w W B X wd h seed S) (hf:bk w W' B.F B.P B.I B.b v' L' oK n' wd h) (hs:bK W W' B.P B.I B.b X.v v') :
  aD w W' B { X with v:=v' } wd h seed { S with L:=L',pf:=oK,n:=n' }/\bf W W' B X { X with v:=v' }:=by
 have ht:aJ W W' (fun k=>k=B.P\/∃ i,i<3/\(k=B.I i\/k=B.b i\/(X.v i).ownBlock=some k)) :=
  ⟨hs.os,hs.tape,hs.output,hs.size,fun k hk hn=>hs.keep k hk (fun e=>hn (.inl e)) (fun i hi=>⟨fun e=>hn (.inr ⟨i,hi,.inl e⟩),fun e=>hn (.inr ⟨i,hi,.inr (.inl e)⟩),fun e=>hn (.inr ⟨i,hi,.inr (.inr e)⟩)⟩)⟩
 have ty:∀ {k:Nat} {cur:Array Value} {e:TypeId} {fz:Nat×Nat},W.heap[k]?=some (.cells cur e fz)->e≠213/\e≠267/\e≠276/\e≠197->¬ (k=B.P\/∃ i,i<3/\(k=B.I i\/k=B.b i\/(X.v i).ownBlock=some k)):=fun {k cur e fz} hk he=>by
  rintro (rfl | ⟨i,hi,rfl | rfl | h1⟩)
  .exact aI hk H.fl.cQ he.1 rfl
  .exact aI hk (H.fl.it i hi) he.2.1 rfl
  .exact aI hk (H.fl.aH i hi).cell he.2.2.1 rfl
  .exact jc (H.fl.aH i hi).row hk he.2.2.2 h1
 refine⟨⟨?_,hf,?_,?_,H.lo⟩,⟨ht.mono (fun k hk=>?_),fun k hk=>?_⟩⟩
 .rw[ht.block _ (lBq H.blk) (ty H.blk (by decide))];exact H.blk
 .refine H.it.turned ht (fun k hk=>?_)
  rcases hk with rfl | ⟨c,hc,hk⟩
  .exact ty H.it.cell (by decide)
  .rcases (H.it.row c hc).2 with ⟨e1,_⟩ | ⟨r,cap,lh,e1,_,hr2,_⟩
   .rw[e1]at hk;cases hk
   .rw[e1]at hk
    have:r=k:=by simpa [Value.ownBlock] using hk
    rw[this]at hr2;exact ty hr2 (by decide)
 .refine H.dk.turned ht (ty H.dk.cell (by decide)) (fun k hk=>?_)
  obtain⟨g,cap,lh,MU,e1,_,hg,_⟩:=H.dk.row;rw[e1]at hk;have:g=k:=by simpa [Value.ownBlock] using hk
  rw[this]at hg;exact ty hg (by decide)
 .rcases hk with rfl | hk
  .exact .inr (.inl rfl)
  .exact .inr (.inr (.inl hk))
 .rcases hk with rfl | rfl | ⟨i,hi,rfl | rfl | hk⟩ | hk
  .exact .inl (.inl rfl)
  .exact .inl (.inr (.inl rfl))
  .exact .inl (.inr (.inr (.inl ⟨i,hi,.inl rfl⟩)))
  .exact .inl (.inr (.inr (.inl ⟨i,hi,.inr (.inl rfl)⟩)))
  .rcases hs.new i hi k hk with h1 | h1
   .exact .inl (.inr (.inr (.inl ⟨i,hi,.inr (.inr h1)⟩)))
   .exact .inr h1
  .exact .inl (.inr (.inr (.inr hk)))
theorem aD.take {zH:Nat->Value} {t':Nat} {Q':Nat->List Ask} (H:aD w W B X wd h seed S) (hi:dF W' w.heap.size B.q zH t' Q') (hs:iq W W' B.q X.qv zH) :
  aD w W' B { X with qv:=zH } wd h seed { S with Q:=Q',t:=t' }/\bf W W' B X { X with qv:=zH }:=by
 have ht:=hs.turned;have ty:∀ {k:Nat} {cur:Array Value} {e:TypeId} {fz:Nat×Nat},W.heap[k]?=some (.cells cur e fz)->e≠232/\e≠95->¬ nJ B.q X.qv k:=fun {k cur e fz} hk he=>by
  rintro (rfl | ⟨c,hc,h1⟩)
  .exact aI hk H.it.cell he.1 rfl
  .rcases (H.it.row c hc).2 with ⟨e1,_⟩ | ⟨r,cap,lh,e1,_,hr2,_⟩
   .rw[e1]at h1;cases h1
   .rw[e1]at h1
    have:r=k:=by simpa [Value.ownBlock] using h1
    rw[this,hk]at hr2;simp at hr2;exact he.2 hr2.2.1
 have vC:∀ {i:Nat},i<3->∀ k,(X.v i).ownBlock=some k->¬ nJ B.q X.qv k:=fun {i} hi k hk=>by
  rcases (H.fl.aH i hi).row.2 with ⟨e1,_⟩ | ⟨r,cap,lh,e1,_,hr2,_⟩
  .rw[e1]at hk;cases hk
  .rw[e1]at hk
   have:r=k:=by simpa [Value.ownBlock] using hk
   rw[this]at hr2;exact ty hr2 (by decide)
 refine⟨⟨?_,?_,hi,?_,H.lo⟩,⟨ht.mono (fun k hk=>.inr (.inr (.inr (.inl hk)))),fun k hk=>?_⟩⟩
 .rw[ht.block _ (lBq H.blk) (ty H.blk (by decide))];exact H.blk
 .exact H.fl.turned ht (ty H.fl.blk (by decide)) (ty H.fl.cQ (by decide)) (fun i hi=>⟨ty (H.fl.it i hi) (by decide),ty (H.fl.aH i hi).cell (by decide),vC hi⟩) (fun k hk=>(H.it.fj hk).1)
 .refine H.dk.turned ht (ty H.dk.cell (by decide)) (fun k hk=>?_)
  obtain⟨g,cap,lh,MU,e1,_,hg,_⟩:=H.dk.row;rw[e1]at hk;have:g=k:=by simpa [Value.ownBlock] using hk
  rw[this]at hg;exact ty hg (by decide)
 .rcases hk with rfl | rfl | hk | hk | hk
  .exact .inl (.inl rfl)
  .exact .inl (.inr (.inl rfl))
  .exact .inl (.inr (.inr (.inl hk)))
  .rcases hs.new k hk with h1 | h1
   .exact .inl (.inr (.inr (.inr (.inl h1))))
   .exact .inr h1
  .exact .inl (.inr (.inr (.inr (.inr hk))))
theorem aD.tape {tv:Value} {Ys:List UInt8} {cut':Bool} {left':Nat} (H:aD w W B X wd h seed S) (hd:ek W' w.heap.size B.d tv Ys cut' left') (ht:aJ W W' (fun k=>k=B.d\/X.bV.ownBlock=some k)) (hn:∀ k,tv.ownBlock=some k->X.bV.ownBlock=some k\/W.heap.size<=k) :
  aD w W' B { X with bV:=tv } wd h seed { S with tp:=Ys,cut:=cut',left:=left' }/\bf W W' B X { X with bV:=tv }:=by
 have ty:∀ {k:Nat} {cur:Array Value} {e:TypeId} {fz:Nat×Nat},W.heap[k]?=some (.cells cur e fz)->e≠117/\e≠5->¬ (k=B.d\/X.bV.ownBlock=some k):=fun {k cur e fz} hk he=>by
  rintro (rfl | h1)
  .exact aI hk H.dk.cell he.1 rfl
  .exact H.dk.row.sK hk he.2 h1
 have vC:∀ {i:Nat},i<3->∀ k,(X.v i).ownBlock=some k->¬ (k=B.d\/X.bV.ownBlock=some k):=fun {i} hi k hk=>by
  rcases (H.fl.aH i hi).row.2 with ⟨e1,_⟩ | ⟨r,cap,lh,e1,_,hr2,_⟩
  .rw[e1]at hk;cases hk
  .rw[e1]at hk
   have:r=k:=by simpa [Value.ownBlock] using hk
   rw[this]at hr2;exact ty hr2 (by decide)
 have hlo:∀ k,(k=B.d\/X.bV.ownBlock=some k)->w.heap.size<=k:=fun k hk=>by
  rcases hk with rfl | hk
  .exact H.dk.lo
  .exact(H.dk.row.lt k hk).1
 refine⟨⟨?_,?_,?_,hd,H.lo⟩,⟨ht.mono (fun k hk=>?_),fun k hk=>?_⟩⟩
 .rw[ht.block _ (lBq H.blk) (ty H.blk (by decide))];exact H.blk
 .exact H.fl.turned ht (ty H.fl.blk (by decide)) (ty H.fl.cQ (by decide)) (fun i hi=>⟨ty (H.fl.it i hi) (by decide),ty (H.fl.aH i hi).cell (by decide),vC hi⟩) hlo
 .refine H.it.turned ht (fun k hk=>?_)
  rcases hk with rfl | ⟨c,hc,hk⟩
  .exact ty H.it.cell (by decide)
  .rcases (H.it.row c hc).2 with ⟨e1,_⟩ | ⟨r,cap,lh,e1,_,hr2,_⟩
   .rw[e1]at hk;cases hk
   .rw[e1]at hk
    have:r=k:=by simpa [Value.ownBlock] using hk
    rw[this]at hr2;exact ty hr2 (by decide)
 .rcases hk with rfl | hk
  .exact .inr (.inr (.inr (.inr (.inl rfl))))
  .exact .inr (.inr (.inr (.inr (.inr hk))))
 .rcases hk with rfl | rfl | hk | hk | rfl | hk
  .exact .inl (.inl rfl)
  .exact .inl (.inr (.inl rfl))
  .exact .inl (.inr (.inr (.inl hk)))
  .exact .inl (.inr (.inr (.inr (.inl hk))))
  .exact .inl (.inr (.inr (.inr (.inr (.inl rfl)))))
  .rcases hn k hk with h1 | h1
   .exact .inl (.inr (.inr (.inr (.inr (.inr h1)))))
   .exact .inr h1
theorem aD.own {S':af.St} (H:aD w W B X wd h seed S) (hs:aM W W' B.V) (hb:W'.heap[B.V]?=some (.cells (jq B seed S') 114 (0,0))) (e:S'.L=S.L/\S'.pf=S.pf/\S'.n=S.n/\S'.Q=S.Q/\S'.t=S.t/\S'.tp=S.tp/\S'.cut=S.cut/\S'.left=S.left):aD w W' B X wd h seed S'/\bf W W' B X X:=by
 have ht:aJ W W' (fun k=>k=B.V):=⟨hs.os,hs.tape,hs.output,hs.size,fun k hk hn=>hs.block k hk hn⟩;have ty:∀ {k:Nat} {cur:Array Value} {e:TypeId} {fz:Nat×Nat},W.heap[k]?=some (.cells cur e fz)->e≠114->k≠B.V:=fun hk he=>aI hk H.blk he;have vC:∀ {base:Nat} {e:TypeId} {s n:Nat} {v:Value} {xs:List Value},W.ownsRow base e s v n xs->e≠114->∀ k,v.ownBlock=some k->k≠B.V:=fun {base e s n v xs} hr he k hk=>by
  rcases hr.2 with ⟨e1,_⟩ | ⟨r,cap,lh,e1,_,hr2,_⟩
  .rw[e1]at hk;cases hk
  .rw[e1]at hk
   have:r=k:=by simpa [Value.ownBlock] using hk
   rw[this]at hr2;exact ty hr2 he
 obtain⟨e1,e2,e3,e4,e5,e6,e7,e8⟩:=e;refine⟨⟨hb,?_,?_,?_,H.lo⟩,⟨ht.mono (fun k hk=>.inl hk),fun _ h=>.inl h⟩⟩
 .rw[e1,e2,e3]
  exact H.fl.turned ht (ty H.fl.blk (by decide)) (ty H.fl.cQ (by decide)) (fun i hi=>⟨ty (H.fl.it i hi) (by decide),ty (H.fl.aH i hi).cell (by decide),vC (H.fl.aH i hi).row (by decide)⟩) (fun k hk=>by subst hk;exact H.lo)
 .rw[e4,e5]
  refine H.it.turned ht (fun k hk=>?_);rcases hk with rfl | ⟨c,hc,hk⟩
  .exact ty H.it.cell (by decide)
  .exact vC (H.it.row c hc) (by decide) k hk
 .rw[e6,e7,e8]
  refine H.dk.turned ht (ty H.dk.cell (by decide)) (fun k hk e=>?_);exact H.dk.row.sK H.blk (by decide) (by rw[hk,e])
theorem aD.at (H:aD w W B X wd h seed S) (k:Nat):W.cell? (Qb B.V k)=(jq B seed S)[k]?:=cR W B.V k _ _ _ H.blk
theorem aD.conn (H:aD w W B X wd h seed S) {c j:Nat} (hc:c<6) (hj:j<5):W.cell? ⟨B.V,4+c*5+j,none⟩=some (gu S c j):=by rw[H.at];exact ry B seed S hc hj
theorem aD.free (H:aD w W B X wd h seed S) (k:Nat):W.frozen? (Qb B.V k)=false:=by simp[World.frozen?,H.blk]
theorem aD.lt (H:aD w W B X wd h seed S):B.V<W.heap.size:=lBq H.blk
theorem aD.set {S':af.St} (H:aD w W B X wd h seed S) {c j:Nat} (hc:c<6) (hj:j<5) (u:Value)
  (hS:∀ c' j',c'<6->j'<5->gu S' c' j'=if c'=c/\j'=j then u else gu S c' j') (hn:S'.now=S.now) (hbt:S'.bt=S.bt) (hd:S'.down=S.down) (e:S'.L=S.L/\S'.pf=S.pf/\S'.n=S.n/\S'.Q=S.Q/\S'.t=S.t/\S'.tp=S.tp/\S'.cut=S.cut/\S'.left=S.left) :
  aD w (W.setCell ⟨B.V,4+c*5+j,none⟩ u) B X wd h seed S'/\bf W (W.setCell ⟨B.V,4+c*5+j,none⟩ u) B X X :=
 H.own (aM.setCell _ _ _ _) (by rw[block_setCell H.blk,akI B seed S S' hc hj u hS hn hbt hd]) e
end
def jN:List ByteArray->Nat
 | []=>0
 | f::r=>if eu f=0 then jN r else eu f
theorem amx (fs:List ByteArray) (k:Nat) (f:ByteArray) (h:fs[k]?=some f):jN (fs.drop k)=if eu f=0 then jN (fs.drop (k+1)) else eu f:=by
 obtain⟨h1,e⟩:=List.getElem?_eq_some_iff.1 h;rw[List.drop_eq_getElem_cons h1,e,jN]
theorem amy (f:ByteArray):rU f=bu (af.cA f):=by rw[XD];rfl
section
variable {ad:Nat->Addr}
theorem amz (fs:List ByteArray) (v:Value) (base n:Nat) (w:World) (hs:Hid (bO w ad)) (hn:Hid (fs.length=n)) (hr:Hid (w.ownsRow base 9 1 v n (fs.map Value.string))) (hl:n<=100000) :
  Calls Tryz.prog 43 #[v] w fun e w'=>∃ va,e=.returned (.tuple #[va,gy ad (jN fs)])/\Qd w w'/\(jN fs=0->w'.ownsRow w.heap.size 95 8 va fs.length (bm (fs.map af.cA)))/\(jN fs≠0->va=.slice none 0 0):=by
 obtain⟨a0,c0,hv⟩:=gi hr.out;subst hv;have hcell:∀ W',Qd w W'->∀ k f,fs[k]?=some f->∃ g,a0=some (Qb g 0)/\k<n/\W'.cell? (Qb g k)=some (.string f):=fun W' hb k f hk=>by
  obtain⟨hk1,_⟩:=List.getElem?_eq_some_iff.1 hk;have eK:=hr.out.kept (row:=none) ⟨hb.os,hb.tape,hb.output,hb.size,fun i hi _=>hb.block i hi⟩ (Classical.em _);rcases eK.2 with ⟨e,e0⟩ | ⟨g,cap,cur,e,_,hg,_,_,_,ht⟩
  .rw[<- hn.out]at e0;omega
  .cases e
   refine⟨g,rfl,by rw[<- hn.out];exact hk1,?_⟩;rw[cR W' g k _ _ _ hg,<- Array.getElem?_toList];have h2:=congrArg (·[k]?) ht;simp only[List.getElem?_map,hk,Option.map_some]at h2;rw[List.getElem?_take_of_lt (by rw[<- hn.out];omega)]at h2;exact h2
 have HC:=hDq hcell;clear hcell;have HD:Hid (jN fs=jN (fs.drop 0)):=hDq rfl;generalize yt:jN fs=D at *;have apG:=hDq yt;clear yt;go_enter Tryz.func43,Tryz.ntmps43
 go_wp2_with fail
 go_loopw [4,11] (fun v kv wr=>∃ k:Nat,k<=n/\kv=Qa k/\D=jN (fs.drop k)/\wr.ownsRow w.heap.size 95 8 v k (bm ((fs.take k).map af.cA))/\Qd w wr) (fun _ kv _=>n-(intOf kv).toNat)
 case atStart=>exact⟨0,Nat.zero_le _,rfl,HD.out,World.ownsRow_nil _ _ _ _,bRq _ _⟩
 case round =>
  obtain⟨k,hk,rfl,hd,hrow,hb⟩:=hrel;have PK:=hDq hd;have HR:=hDq hrow;have HB:=hDq hb;clear hd hrow hb HD;by_cases hlt:k<n
  .have aX:(k:Int)<n:=by omega
   obtain⟨f,hf⟩:∃ f,fs[k]?=some f:=⟨_,List.getElem?_eq_getElem (by rw[hn.out];exact hlt)⟩;obtain⟨g,rfl,_,hc⟩:=HC.out wr HB.out k f hf;have HS:=hDq (amx fs k f hf);have HT:Hid ((fs.take (k+1)).map af.cA=(fs.take k).map af.cA++[af.cA f]):=hDq (by rw[List.take_add_one,hf];simp);have tF:=hDq (Rc f ad wr (hs.out.later HB.out));have CB:((fs.take k).map af.cA).length=k:=by rw[List.length_map,lKq];have:=hn.out;omega
   have HL:=hDq CB;clear CB HC hf;rw[amy]at tF;by_cases hc0:eu f=0
   .rw[hc0,show gy ad 0=.nilIface from rfl]at tF
    have IU:Hid (D=jN (fs.drop (k+1))):=hDq (by rw[PK.out,HS.out,if_pos hc0]);generalize af.cA f=a at *;unfold bu aT at tF
    go_wp2_with fail
    refine tF.out.mono ?_;rintro e w1 ⟨rfl,hb1⟩;have hb2:Qd w w1:=HB.out.trans (hb1.mono HB.out.size);have au:=hDq (hb2.alloc hb2.size (.cells (aT a) 95));have hr2:(w1.alloc (.cells (aT a) 95)).ownsRow w.heap.size 95 8 u4 ((fs.take k).map af.cA).length (bm ((fs.take k).map af.cA)):=by
     rw[HL.out];exact(HR.out.kept (row:=none) ⟨hb1.os,hb1.tape,hb1.output,hb1.size,fun i hi _=>hb1.block i hi⟩ (Classical.em _)).alloc _
    obtain⟨v4,w4,hap,hr4,hg4⟩:=XY (w1.alloc (.cells (aT a) 95)) u4 ((fs.take k).map af.cA) a hr2 (by rw[HL.out];omega) au.out.size;have bJ:Hid (Qd w w4):=hDq (below_grown (au.out.alloc au.out.size _) (World.ownsRow.alloc hr2 _) (lTq au.out.size (by simp)) hg4);have bR:Hid (w4.ownsRow w.heap.size 95 8 v4 (k+1) (bm ((fs.take (k+1)).map af.cA))):=hDq (by
     rw[HT.out];rw[lAq,HL.out]at hr4;exact hr4)
    rw[World.size_alloc]at hap;have dJ:=hDq hap;unfold aT at dJ;clear hap hr4 hg4 hr2 hb2 hb1 tF HR HB hc0;simp only[]
    go_wp2_with (at_builtin;refine wpList_append_run rfl _ _ 24 rfl _ _ _ rfl rfl dJ.out ?_)
    go_roundw
    case rel=>exact⟨k+1,hlt,by go_num,IU.out,bR.out,bJ.out⟩
    case measure=>simp[intOf];omega
   .rw[vX ad hc0]at tF
    have IU:Hid (D=eu f):=hDq (by rw[PK.out,HS.out,if_neg hc0]);generalize af.cA f=a at *;unfold bu aT at tF
    go_wp2_with fail
    refine tF.out.mono ?_;rintro e w1 ⟨rfl,hb1⟩;have hb2:Qd w w1:=HB.out.trans (hb1.mono HB.out.size);have au:=hDq (hb2.alloc hb2.size (.cells (aT a) 95));clear hb1 hb2 tF;simp only[];go_wp2;go_ret2;refine⟨_,?_,au.out,fun e=>absurd (IU.out.symm.trans e) hc0,fun _=>rfl⟩;rw[IU.out,vX ad hc0];rfl
  .have aX:¬ (k:Int)<n:=by omega
   obtain rfl:k=n:=by omega
   have ZV:D=0:=by rw[PK.out,List.drop_of_length_le (by rw[hn.out];exact lRq _)];rfl
   have HD0:=hDq ZV;clear ZV;go_wp2;go_ret2;refine⟨_,by rw[HD0.out];rfl,HB.out,fun _=>?_,fun e=>absurd HD0.out e⟩
   have:=HR.out
   rw[List.take_of_length_le (by rw[hn.out];exact lRq _)]at this;rw[hn.out];exact this
end
end
end Go.Proofs.YtjolccidheflpaaGreatDoor
