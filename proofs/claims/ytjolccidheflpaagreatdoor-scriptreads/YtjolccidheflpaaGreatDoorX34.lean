/- A venue: what it has, what bytes that are fed to it and a tick make of it; no program is spoken of. -/
import Derived.Test.YtjolccidheflpaaGreatDoorX30
import Derived.Test.YtjolccidheflpaaGreatDoorX33
import Derived.Lib.ItoaLen
namespace Go.Proofs.YtjolccidheflpaaGreatDoor
open Go.Proofs.Tryz
set_option maxHeartbeats 8000000
set_option maxRecDepth 100000
namespace Ve
structure dr where
 c:Int
 k:ByteArray
 id:Int
 pr:Int
 q:Int
 cd:Int
structure St where
 L:Nat->List Cv.af
 pf:Nat->Int
 n:Nat->Int
 Q:Nat->List Ask
 t:Nat
 on:Nat->Bool
 ak:Nat->Int
 la:Nat->Int
 aF:Nat->ByteArray
 aY:Nat->Bool
 tp:List UInt8
 cut:Bool
 left:Nat
 now:Nat
 bt:Nat
 down:Bool
def uz:ByteArray:=⟨#[97,99,99,101,112,116,101,100]⟩
def pg:ByteArray:=⟨#[114,101,102,117,115,101,100]⟩
def I_:ByteArray:=⟨#[98,117,115,121]⟩
def Ja:ByteArray:=⟨#[102,105,108,108,101,100]⟩
def q7:ByteArray:=⟨#[114,101,115,116,115]⟩
def rq:ByteArray:=⟨#[103,111,110,101]⟩
def cH(f:ByteArray):Ask:=⟨dv f (aS f 0),dv f (aS f 1),dv f (aJ f 2),dv f (aS f 6),dv f (aS f 7),dv f (aJ f 8),dv f (aJ f 12),dv f (aJ f 16)⟩
def h_(c id:Int)(e:Nat):dr:=⟨c,pg,id,0,0,e⟩
def leave(S:St)(n:Nat):St:={ S with Q:=az.pV S.Q n,aY:=upd S.aY n true }
def takeC(S:St)(n:Nat)(a:Ask):Nat:=if a.c=n then a_.tc (S.on n) (S.ak n) a else 3
def taken(S:St)(n:Nat)(a:Ask):St :=
 { S with on:=upd S.on n (a_.jJ (S.on n) (S.ak n) a),ak:=upd S.ak n (a_.kA (S.on n) (S.ak n) a),la:=upd S.la n (a_.iR (S.on n) (S.ak n) (S.la n) a S.now) }
def mZ(S:St)(n:Nat)(a:Ask):St:=if takeC S n a=0 then taken S n a else S
def ry(a:Ask):Bool:=a.k==111 || a.k==99
def jE(S:St)(n:Nat)(f:ByteArray):St :=
 if eM f=0 then
  if takeC S n (cH f)=0 then
   if ry (cH f)=true then { taken S n (cH f) with Q:=az.jW S.Q (cH f) }
   else if (cH f).k=113 then leave (taken S n (cH f)) n else taken S n (cH f)
  else S
 else S
def uH(S:St)(a:Ask):ByteArray:=if az.jV S.Q a=0 then uz else I_
def jY(S:St)(n:Nat)(f:ByteArray):List dr :=
 if eM f=0 then
  if takeC S n (cH f)=0 then
   if ry (cH f)=true then [⟨n,uH S (cH f),(cH f).id,0,0,0⟩] else []
  else [h_ n (cH f).id (takeC S n (cH f))]
 else [h_ n 0 (eM f)]
def dn(S:St)(n:Nat)(b:ByteArray):Nat->St
 | 0=>S
 | k+1=>jE (dn S n b k) n (fr b k)
def fZ(S:St)(n:Nat)(b:ByteArray):Nat->List dr
 | 0=>[]
 | k+1=>fZ S n b k++jY (dn S n b k) n (fr b k)
def ee(b:ByteArray):ByteArray:=b.extract (30*(b.size/30)) b.size
def gw(S:St)(n:Nat)(b:ByteArray):St:={ S with aF:=upd S.aF n (ee b) }
def di(S:St)(n:Int)(s:ByteArray):St :=
 if S.down=true\/ah.aK n 0 5=false then S else dn (gw S n.toNat (S.aF n.toNat++s)) n.toNat (S.aF n.toNat++s) ((S.aF n.toNat++s).size/30)
def eW(S:St)(n:Int)(s:ByteArray):List dr :=
 if S.down=true\/ah.aK n 0 5=false then [] else fZ (gw S n.toNat (S.aF n.toNat++s)) n.toNat (S.aF n.toNat++s) ((S.aF n.toNat++s).size/30)
def gone(S:St)(n:Nat):St :=
 { S with on:=upd S.on n false,ak:=upd S.ak n 0,la:=upd S.la n 0,aF:=upd S.aF n ByteArray.empty,aY:=upd S.aY n true,Q:=az.pV S.Q n }
def hang(S:St)(n:Nat):St:=if a_.late (S.on n) (S.la n) S.now=true then gone S n else S
def hangs(S:St):Nat->St
 | 0=>S
 | k+1=>hang (hangs S k) k
def ek(aY:Nat->Bool):Nat->List Nat
 | 0=>[]
 | k+1=>ek aY k++if aY k=true then [k] else []
def dec(n:Int):List Int:=(Lib.itoa n).map fun b=>(b.toNat:Int)
def uN(x:Nat):Int:=if x<10 then 48+(x:Int) else 87+(x:Int)
def m_(s:ByteArray):Nat->List Int
 | 0=>[]
 | k+1=>m_ s k++[uN (aS s k/16),uN (aS s k%16)]
def nc(ds:List Nat):Nat->List Int
 | 0=>[]
 | k+1=>nc ds k++((if 0<k then [44] else [])++dec ((ds.getD k 0:Nat):Int))
def bA(a:Ask):ByteArray:=oA a.k a.c a.sq a.it a.sd a.pr a.q a.id
def pn(l:List Ask):Nat->List Int
 | 0=>[]
 | k+1=>pn l k++([32]++m_ (bA (dD l k)) (bA (dD l k)).size)
def Jb(bt:Nat)(ds:List Nat)(l:List Ask):List Int:=((dec bt++[58])++nc ds ds.length)++pn l l.length
def iq(bt:Nat)(ds:List Nat)(l:List Ask):ByteArray:=strOfNums (Jb bt ds l)
structure cQ where
 L:Nat->List Cv.af
 pf:Nat->Int
 n:Nat->Int
 pl:List Ask
 rp:List dr
def tell(k:ByteArray)(x:Cv.af):dr:=⟨x.ai,k,x.id,x.pr,x.q,0⟩
def sF(r:cQ)(c:Nat):cQ:={ r with L:=Fl.kO c r.L 3,pf:=Fl.pC c r.L r.pf 3,rp:=r.rp++(Fl.mF c r.L 3).map (tell rq) }
def jG(r:cQ)(ds:List Nat):Nat->cQ
 | 0=>r
 | k+1=>sF (jG r ds k) (ds.getD k 0)
def others(a:Ask)(l:List Ask):List Ask:=l.filter fun x=>!(x.it==a.it&&x.id==a.id)
def uD(r:cQ)(a:Ask):cQ :=
 { r with L:=Fl.kK r.L r.pf a,pf:=Fl.kL r.L r.pf a,pl:=if Fl.eN r.L r.pf a=0 then r.pl++[a] else r.pl,rp:=if Fl.eN r.L r.pf a=0 then r.rp else r.rp++[h_ a.c a.id (Fl.eN r.L r.pf a+1)] }
def wQ(r:cQ)(a:Ask):cQ :=
 { r with L:=Fl.eZ r.L a,pf:=Fl.kM r.L r.pf a,pl:=if Fl.dP r.L r.pf a=0 then others a r.pl else r.pl,rp:=r.rp++if Fl.dP r.L r.pf a=0 then [tell rq (Fl.gA r.L a)] else [h_ a.c a.id (Fl.dP r.L r.pf a+1)] }
def k5(r:cQ)(a:Ask):cQ:=if a.k=111 then uD r a else wQ r a
def j3(r:cQ)(l:List Ask):Nat->cQ
 | 0=>r
 | k+1=>k5 (j3 r l k) (dD l k)
def p7(l:List Cv.af):Nat->Int->Int
 | 0=>fun _=>0
 | k+1=>fun id=>if id=(Cv.nth l k).id then (Cv.nth l k).ai else p7 l k id
open Classical in
noncomputable def EI (l:List Cv.af) (ref:Int):Int×Int:=if h:∃pv:Int×Int,Cv.fj l ref 1000 pv.1 pv.2 then Classical.choose h else (0,0)
noncomputable def gW (r:cQ) (i:Nat):Int:=(EI (r.L i) (r.n (i*2))).1
noncomputable def mr (r:cQ) (i:Nat):Int:=(EI (r.L i) (r.n (i*2))).2
noncomputable def fO (wd:Int) (r:cQ) (i:Nat) (s:Int):List (Int×Int):=Fl.mL s (r.L i) (Fl.pQ r.n i wd (gW r i) (mr r i)) (gW r i) (mr r i)
def uO(l:List Cv.af)(p:Int)(f:Int×Int):dr:=⟨p7 l l.length f.1,Ja,f.1,p,f.2,0⟩
def jF(L:Nat->List Cv.af)(i:Nat)(a:Ask):List dr:=if Cv.has (L i) a.id=true/\a.it=i then [tell q7 (Bk.j_ (L i) a.id)] else []
noncomputable def lH (wd h:Int) (r:cQ) (i:Nat) (s:Int):cQ :=
 { r with L := Fl.mK r.L i (fO wd r i s), pf := Fs.iw r.pf i (gW r i) (r.L i) (fO wd r i s), n := Fl.runN r.n i wd h (gW r i) (mr r i),
          rp:=r.rp++((fO wd r i s).map (uO (r.L i) (gW r i))++r.pl.flatMap (jF (Fl.mK r.L i (fO wd r i s)) i)) }
def p6(seed:Int)(bt i:Nat):Int:=(seed+((3*bt+i:Nat):Int)%4294967296)%4294967296
noncomputable def fP (wd h seed:Int) (bt:Nat) (r:cQ):Nat->cQ
 | 0=>r
 | k+1=>lH wd h (fP wd h seed bt r k) k (p6 seed bt k)
def start(S:St):cQ:=⟨S.L,S.pf,S.n,[],[]⟩
noncomputable def iQ (wd h seed:Int) (S:St) (ds:List Nat) (l:List Ask):cQ:=fP wd h seed S.bt (j3 (jG (start S) ds ds.length) l l.length) 3
def w5(aY:Nat->Bool):Nat->Nat->Bool
 | 0=>aY
 | k+1=>upd (w5 aY k) k false
noncomputable def nZ (wd h seed:Int) (S:St) (ds:List Nat) (l:List Ask):St :=
 { S with L:=(iQ wd h seed S ds l).L,pf:=(iQ wd h seed S ds l).pf,n:=(iQ wd h seed S ds l).n,aY:=w5 S.aY 6,bt:=S.bt+1 }
def full(S:St)(s:ByteArray):Bool:=decide (1048576<S.tp.length+(12+s.size))
def lI(S:St)(s:ByteArray):Bool:=!full S s&&(!S.cut || decide (12+s.size<=S.left))
def bI(S:St)(s:ByteArray):St :=
 if full S s=true then S else { S with tp:=S.tp++(if S.cut=true then (bL.rec s.data.toList).take S.left else bL.rec s.data.toList),left:=if S.cut=true then S.left-(12+s.size) else S.left }
def bV(S:St):St:={ S with Q:=az.Ac S.Q S.t,t:=az.who S.t 1 }
def cV(S:St):ByteArray:=iq S.bt (ek S.aY 6) (az.out S.Q S.t)
noncomputable def sD (wd h seed:Int) (S:St):St :=
 if lI (bV S) (cV S)=true then nZ wd h seed (bI (bV S) (cV S)) (ek S.aY 6) (az.out S.Q S.t) else { bI (bV S) (cV S) with down:=true }
noncomputable def AX (wd h seed:Int) (S:St):List dr :=
 if lI (bV S) (cV S)=true then (iQ wd h seed (bI (bV S) (cV S)) (ek S.aY 6) (az.out S.Q S.t)).rp else []
def b9(S:St):St:=hangs { S with now:=S.now+1 } 6
noncomputable def df (wd h seed:Int) (S:St):St :=
 if S.down=true then S else if (S.now+1)%3=0 then sD wd h seed (b9 S) else b9 S
noncomputable def je (wd h seed:Int) (S:St):List dr :=
 if S.down=true then [] else if (S.now+1)%3=0 then AX wd h seed (b9 S) else []
def aoS(S:St)(n:Int):Nat:=if n<0 then 2 else if S.cut=true/\S.left=0 then 9 else 0
def aoT(S:St)(n:Int):St:=if aoS S n=0 then { S with cut:=true,left:=n.toNat } else S
end Ve
section
open Go.RowKit
structure bO where
 V:Nat
 F:Nat
 P:Nat
 q:Nat
 d:Nat
 I:Nat->Nat
 b:Nat->Nat
structure bQ where
 v:Nat->Value
 qv:Nat->Value
 bZ:Value
def ia(S:Ve.St)(c:Nat):Nat->Value
 | 0=>.bool (S.on c)
 | 1=>Z (S.ak c)
 | 2=>Z (S.la c)
 | 3=>.string (S.aF c)
 | _=>.bool (S.aY c)
def zf(S:Ve.St)(c:Nat):List Value:=[.bool (S.on c),Z (S.ak c),Z (S.la c),.string (S.aF c),.bool (S.aY c)]
def j5(B:bO)(seed:Int)(S:Ve.St):Array Value :=
 (([.int .u32 seed,Rw B.F,Rw B.q,Rw B.d]:List Value)++(zf S 0++(zf S 1++(zf S 2++(zf S 3++(zf S 4++(zf S 5++[Z S.now,Z S.bt,Value.bool S.down]))))))).toArray
theorem sL(B:bO)(seed:Int)(S:Ve.St){c j:Nat}(hc:c<6)(hj:j<5):(j5 B seed S)[4+c*5+j]?=some (ia S c j):=by
 have h1:c=0\/c=1\/c=2\/c=3\/c=4\/c=5:=by omega
 have h2:j=0\/j=1\/j=2\/j=3\/j=4:=by omega
 rcases h1 with rfl | rfl | rfl | rfl | rfl | rfl <;> rcases h2 with rfl | rfl | rfl | rfl | rfl <;> rfl
theorem apr(B:bO)(seed:Int)(S S':Ve.St){c j:Nat}(hc:c<6)(hj:j<5)(u:Value)(h:∀c' j',c'<6->j'<5->ia S' c' j'=if c'=c/\j'=j then u else ia S c' j')(hn:S'.now=S.now)(hb:S'.bt=S.bt)(hd:S'.down=S.down):
  (j5 B seed S).setIfInBounds (4+c*5+j) u=j5 B seed S':=by
 have h0:=fun c' j' (h1:c'<6) (h2:j'<5)=>h c' j' h1 h2;have e:∀c',c'<6->zf S' c'=[if c'=c/\0=j then u else ia S c' 0,if c'=c/\1=j then u else ia S c' 1,if c'=c/\2=j then u else ia S c' 2,if c'=c/\3=j then u else ia S c' 3,if c'=c/\4=j then u else ia S c' 4]:=fun c' h1=>by
  rw[<- h0 c' 0 h1 (by decide),<- h0 c' 1 h1 (by decide),<- h0 c' 2 h1 (by decide),<- h0 c' 3 h1 (by decide),<- h0 c' 4 h1 (by decide)];rfl
 unfold j5;rw[e 0 (by decide),e 1 (by decide),e 2 (by decide),e 3 (by decide),e 4 (by decide),e 5 (by decide),hn,hb,hd];have h1:c=0\/c=1\/c=2\/c=3\/c=4\/c=5:=by omega
 have h2:j=0\/j=1\/j=2\/j=3\/j=4:=by omega
 rcases h1 with rfl | rfl | rfl | rfl | rfl | rfl <;> rcases h2 with rfl | rfl | rfl | rfl | rfl <;> rfl
structure aM (w W:World) (B:bO) (X:bQ) (wd h seed:Int) (S:Ve.St):Prop where
 blk:W.heap[B.V]?=some (.cells (j5 B seed S) 114 (0,0))
 fl:bB w W B.F B.P B.I B.b X.v S.L S.pf S.n wd h
 it:dS W w.heap.size B.q X.qv S.t S.Q
 dk:eD W w.heap.size B.d X.bZ S.tp S.cut S.left
 lo:w.heap.size<=B.V
def dV(B:bO)(X:bQ)(k:Nat):Prop:=k=B.V\/k=B.P\/(∃i,i<3/\(k=B.I i\/k=B.b i\/(X.v i).ownBlock=some k))\/oT B.q X.qv k\/k=B.d\/X.bZ.ownBlock=some k
structure br (W W':World) (B:bO) (X X':bQ):Prop where
 turned:aL W W' (dV B X)
 new:∀k,dV B X' k->dV B X k\/W.heap.size<=k
section
variable {w W W' W2:World} {B:bO} {X X' X2:bQ} {wd h seed:Int} {S:Ve.St}
theorem br.refl(W:World)(B:bO)(X:bQ):br W W B X X:=⟨aL.refl _ _,fun _ h=>.inl h⟩
theorem br.of_below(hb:U W W')(B:bO)(X:bQ):br W W' B X X:=⟨aL.of_below hb _,fun _ h=>.inl h⟩
theorem br.trans(h:br W W' B X X')(h1:br W' W2 B X' X2):br W W2 B X X2 :=
 ⟨h.turned.trans h1.turned h.new,fun k hk=>by
  rcases h1.new k hk with h3 | h3
  .exact h.new k h3
  .exact .inr (lTq h.turned.size h3)⟩
theorem br.below(h:br W W' B X X')(hb:U W' W2):br W W2 B X X':=h.trans (br.of_below hb B X')
theorem eD.lt{base p:Nat}{v:Value}{l:List UInt8}{cut:Bool}{left:Int}(h:eD W base p v l cut left):p<W.heap.size:=lBq h.cell
theorem eA.turned{base:Nat}{v:Value}{xs:List Int}{T:Nat->Prop}(hr:eA W base v xs)(h:aL W W' T)(ha:∀k,v.ownBlock=some k->¬ T k):eA W' base v xs :=
 hr.block fun k hk=>h.block k (hr.lt k hk).2 (ha k hk)
theorem eA.w7{base:Nat}{v:Value}{xs:List Int}{cur:Array Value}{e:TypeId}{fz:Nat×Nat}{q:Nat}(hr:eA W base v xs)(hq:W.heap[q]?=some (.cells cur e fz))(hne:e≠5):v.ownBlock≠some q:=by
 obtain⟨g,cap,l9,Ii,rfl,_,hg,_⟩:=hr;intro hk;have:g=q:=by simpa [Value.ownBlock] using hk
 rw[this,hq]at hg;simp at hg;exact hne hg.2.1
theorem eD.turned{base p:Nat}{v:Value}{l:List UInt8}{cut:Bool}{left:Int}{T:Nat->Prop}(h:eD W base p v l cut left)(ht:aL W W' T)(h1:¬ T p)(h2:∀k,v.ownBlock=some k->¬ T k):eD W' base p v l cut left :=
 ⟨by rw[ht.block p h.lt h1];exact h.cell,h.row.turned ht h2,h.lo⟩
theorem aM.ig(H:aM w W B X wd h seed S){k:Nat}(hk:dV B X k):w.heap.size<=k/\k<W.heap.size:=by
 rcases hk with rfl | rfl | ⟨i,hi,rfl | rfl | hk⟩ | hk | rfl | hk
 .exact⟨H.lo,lBq H.blk⟩
 .exact⟨H.fl.oH,lBq H.fl.dJ⟩
 .exact⟨H.fl.oI i hi,lBq (H.fl.it i hi)⟩
 .exact⟨(H.fl.aO i hi).lo,lBq (H.fl.aO i hi).cell⟩
 .exact(H.fl.aO i hi).uY k hk
 .exact H.it.ig hk
 .exact⟨H.dk.lo,H.dk.lt⟩
 .exact H.dk.row.lt k hk
theorem aM.bG(H:aM w W B X wd h seed S):U w W:=H.fl.bG
theorem bB.turned{F P:Nat}{I b:Nat->Nat}{v:Nat->Value}{L:Nat->List Cv.af}{pf n:Nat->Int}{T:Nat->Prop}(hf:bB w W F P I b v L pf n wd h)(ht:aL W W' T)(hF:¬ T F)(hP:¬ T P)(h3:∀i,i<3->¬ T (I i)/\¬ T (b i)/\∀k,(v i).ownBlock=some k->¬ T k)(hT:∀k,T k->w.heap.size<=k):bB w W' F P I b v L pf n wd h:=by
 refine⟨by rw[ht.block F (lBq hf.blk) hF];exact hf.blk,fun i hi=>by rw[ht.block _ (lBq (hf.it i hi)) (h3 i hi).1];exact hf.it i hi,fun i hi=>?_,hf.qz,hf.ne,hf.ap,?_,hf.lo,hf.oH,hf.oI,hf.bG.trans (ht.below hf.bG.size hT)⟩
 .have hb:=hf.aO i hi
  exact⟨by rw[ht.block _ (lBq hb.cell) (h3 i hi).2.1];exact hb.cell,hb.lo,eV hb.row ht (h3 i hi).2.2⟩
 .show W'.heap[P]?=_
  rw[ht.block P (lBq hf.dJ) hP];exact hf.dJ
theorem aM.aside{T:Nat->Prop}(H:aM w W B X wd h seed S)(ht:aL W W' T)(hF:¬ T B.F)(ho:∀k,dV B X k->¬ T k)(hT:∀k,T k->w.heap.size<=k):aM w W' B X wd h seed S :=
 ⟨by rw[ht.block _ (lBq H.blk) (ho _ (.inl rfl))];exact H.blk,
  H.fl.turned ht hF (ho _ (.inr (.inl rfl))) (fun i hi=>⟨ho _ (.inr (.inr (.inl ⟨i,hi,.inl rfl⟩))),ho _ (.inr (.inr (.inl ⟨i,hi,.inr (.inl rfl)⟩))),fun k hk=>ho k (.inr (.inr (.inl ⟨i,hi,.inr (.inr hk)⟩)))⟩) hT,
  H.it.turned ht (fun k hk=>ho k (.inr (.inr (.inr (.inl hk))))),
  H.dk.turned ht (ho _ (.inr (.inr (.inr (.inr (.inl rfl)))))) (fun k hk=>ho k (.inr (.inr (.inr (.inr (.inr hk)))))),H.lo⟩
theorem aM.later(H:aM w W B X wd h seed S)(hb:U W W'):aM w W' B X wd h seed S :=
 H.aside (aL.of_below hb (fun _=>False)) (fun h=>h) (fun _ _ h=>h) (fun _ h=>h.elim)
theorem mR(H:aM w W B X wd h seed S){k:Nat}{cur:Array Value}{e:TypeId}{fz:Nat×Nat}(hk:W.heap[k]?=some (.cells cur e fz))(he:e≠114/\e≠213/\e≠267/\e≠276/\e≠197/\e≠232/\e≠95/\e≠117/\e≠5):¬ dV B X k:=by
 have ty:∀{q:Nat} {a:Array Value} {T:TypeId} {KU:Nat×Nat},W.heap[q]?=some (.cells a T KU)->e≠T->k≠q:=fun hq hT=>aN hk hq hT;rintro (rfl | rfl | ⟨i,hi,rfl | rfl | h1⟩ | (rfl | ⟨c,hc,h1⟩) | rfl | h1)
 .exact ty H.blk he.1 rfl
 .exact ty H.fl.dJ he.2.1 rfl
 .exact ty (H.fl.it i hi) he.2.2.1 rfl
 .exact ty (H.fl.aO i hi).cell he.2.2.2.1 rfl
 .exact jS (H.fl.aO i hi).row hk he.2.2.2.2.1 h1
 .exact ty H.it.cell he.2.2.2.2.2.1 rfl
 .rcases (H.it.row c hc).2 with ⟨e1,_⟩ | ⟨r,cap,l9,e1,_,hr2,_⟩
  .rw[e1]at h1;cases h1
  .rw[e1]at h1
   have:r=k:=by simpa [Value.ownBlock] using h1
   rw[this,hk]at hr2;simp at hr2;exact he.2.2.2.2.2.2.1 hr2.2.1
 .exact ty H.dk.cell he.2.2.2.2.2.2.2.1 rfl
 .exact H.dk.row.w7 hk he.2.2.2.2.2.2.2.2 h1
theorem br.row{base:Nat}{e:TypeId}{s n:Nat}{v:Value}{xs:List Value}(hs:br W W' B X X')(H:aM w W B X wd h seed S)(hr:W.ownsRow base e s v n xs)(he:e≠114/\e≠213/\e≠267/\e≠276/\e≠197/\e≠232/\e≠95/\e≠117/\e≠5):W'.ownsRow base e s v n xs:=by
 refine eV hr hs.turned (fun k hk=>?_);rcases hr.2 with ⟨e1,_⟩ | ⟨r,cap,cur,e1,_,hr2,_⟩
 .rw[e1]at hk;cases hk
 .rw[e1]at hk
  have:r=k:=by simpa [Value.ownBlock] using hk
  rw[this]at hr2;exact mR H hr2 he
theorem br.block{k:Nat}{cur:Array Value}{e:TypeId}{fz:Nat×Nat}(hs:br W W' B X X')(H:aM w W B X wd h seed S)(hk:W.heap[k]?=some (.cells cur e fz))(he:e≠114/\e≠213/\e≠267/\e≠276/\e≠197/\e≠232/\e≠95/\e≠117/\e≠5):W'.heap[k]?=some (.cells cur e fz):=by rw[hs.turned.block k (lBq hk) (mR H hk he)];exact hk
theorem aM.floor{v':Nat->Value}{L':Nat->List Cv.af}{pR n':Nat->Int}(H:aM w W B X wd h seed S)(hf:bB w W' B.F B.P B.I B.b v' L' pR n' wd h)(hs:bX W W' B.P B.I B.b X.v v'):
  aM w W' B { X with v:=v' } wd h seed { S with L:=L',pf:=pR,n:=n' }/\br W W' B X { X with v:=v' }:=by
 have ht:aL W W' (fun k=>k=B.P\/∃i,i<3/\(k=B.I i\/k=B.b i\/(X.v i).ownBlock=some k)) :=
  ⟨hs.os,hs.tape,hs.output,hs.size,fun k hk hn=>hs.keep k hk (fun e=>hn (.inl e)) (fun i hi=>⟨fun e=>hn (.inr ⟨i,hi,.inl e⟩),fun e=>hn (.inr ⟨i,hi,.inr (.inl e)⟩),fun e=>hn (.inr ⟨i,hi,.inr (.inr e)⟩)⟩)⟩
 have ty:∀{k:Nat} {cur:Array Value} {e:TypeId} {fz:Nat×Nat},W.heap[k]?=some (.cells cur e fz)->e≠213/\e≠267/\e≠276/\e≠197->¬ (k=B.P\/∃i,i<3/\(k=B.I i\/k=B.b i\/(X.v i).ownBlock=some k)):=fun {k cur e fz} hk he=>by
  rintro (rfl | ⟨i,hi,rfl | rfl | h1⟩)
  .exact aN hk H.fl.dJ he.1 rfl
  .exact aN hk (H.fl.it i hi) he.2.1 rfl
  .exact aN hk (H.fl.aO i hi).cell he.2.2.1 rfl
  .exact jS (H.fl.aO i hi).row hk he.2.2.2 h1
 refine⟨⟨?_,hf,?_,?_,H.lo⟩,⟨ht.mono (fun k hk=>?_),fun k hk=>?_⟩⟩
 .rw[ht.block _ (lBq H.blk) (ty H.blk (by decide))];exact H.blk
 .refine H.it.turned ht (fun k hk=>?_)
  rcases hk with rfl | ⟨c,hc,hk⟩
  .exact ty H.it.cell (by decide)
  .rcases (H.it.row c hc).2 with ⟨e1,_⟩ | ⟨r,cap,l9,e1,_,hr2,_⟩
   .rw[e1]at hk;cases hk
   .rw[e1]at hk
    have:r=k:=by simpa [Value.ownBlock] using hk
    rw[this]at hr2;exact ty hr2 (by decide)
 .refine H.dk.turned ht (ty H.dk.cell (by decide)) (fun k hk=>?_)
  obtain⟨g,cap,l9,Ii,e1,_,hg,_⟩:=H.dk.row;rw[e1]at hk;have:g=k:=by simpa [Value.ownBlock] using hk
  rw[this]at hg;exact ty hg (by decide)
 .rcases hk with rfl | hk
  .exact .inr (.inl rfl)
  .exact .inr (.inr (.inl hk))
 .rcases hk with rfl | rfl | ⟨i,hi,rfl | rfl | hk⟩ | hk
  .exact .inl (.inl rfl)
  .exact .inl (.inr (.inl rfl))
  .exact .inl (.inr (.inr (.inl ⟨i,hi,.inl rfl⟩)))
  .exact .inl (.inr (.inr (.inl ⟨i,hi,.inr (.inl rfl)⟩)))
  .rcases hs.new i hi k hk with h1 | h1
   .exact .inl (.inr (.inr (.inl ⟨i,hi,.inr (.inr h1)⟩)))
   .exact .inr h1
  .exact .inl (.inr (.inr (.inr hk)))
theorem aM.take{Be:Nat->Value}{t':Nat}{Q':Nat->List Ask}(H:aM w W B X wd h seed S)(hi:dS W' w.heap.size B.q Be t' Q')(hs:i_ W W' B.q X.qv Be):
  aM w W' B { X with qv:=Be } wd h seed { S with Q:=Q',t:=t' }/\br W W' B X { X with qv:=Be }:=by
 have ht:=hs.turned;have ty:∀{k:Nat} {cur:Array Value} {e:TypeId} {fz:Nat×Nat},W.heap[k]?=some (.cells cur e fz)->e≠232/\e≠95->¬ oT B.q X.qv k:=fun {k cur e fz} hk he=>by
  rintro (rfl | ⟨c,hc,h1⟩)
  .exact aN hk H.it.cell he.1 rfl
  .rcases (H.it.row c hc).2 with ⟨e1,_⟩ | ⟨r,cap,l9,e1,_,hr2,_⟩
   .rw[e1]at h1;cases h1
   .rw[e1]at h1
    have:r=k:=by simpa [Value.ownBlock] using h1
    rw[this,hk]at hr2;simp at hr2;exact he.2 hr2.2.1
 have w8:∀{i:Nat},i<3->∀k,(X.v i).ownBlock=some k->¬ oT B.q X.qv k:=fun {i} hi k hk=>by
  rcases (H.fl.aO i hi).row.2 with ⟨e1,_⟩ | ⟨r,cap,l9,e1,_,hr2,_⟩
  .rw[e1]at hk;cases hk
  .rw[e1]at hk
   have:r=k:=by simpa [Value.ownBlock] using hk
   rw[this]at hr2;exact ty hr2 (by decide)
 refine⟨⟨?_,?_,hi,?_,H.lo⟩,⟨ht.mono (fun k hk=>.inr (.inr (.inr (.inl hk)))),fun k hk=>?_⟩⟩
 .rw[ht.block _ (lBq H.blk) (ty H.blk (by decide))];exact H.blk
 .exact H.fl.turned ht (ty H.fl.blk (by decide)) (ty H.fl.dJ (by decide)) (fun i hi=>⟨ty (H.fl.it i hi) (by decide),ty (H.fl.aO i hi).cell (by decide),w8 hi⟩) (fun k hk=>(H.it.ig hk).1)
 .refine H.dk.turned ht (ty H.dk.cell (by decide)) (fun k hk=>?_)
  obtain⟨g,cap,l9,Ii,e1,_,hg,_⟩:=H.dk.row;rw[e1]at hk;have:g=k:=by simpa [Value.ownBlock] using hk
  rw[this]at hg;exact ty hg (by decide)
 .rcases hk with rfl | rfl | hk | hk | hk
  .exact .inl (.inl rfl)
  .exact .inl (.inr (.inl rfl))
  .exact .inl (.inr (.inr (.inl hk)))
  .rcases hs.new k hk with h1 | h1
   .exact .inl (.inr (.inr (.inr (.inl h1))))
   .exact .inr h1
  .exact .inl (.inr (.inr (.inr (.inr hk))))
theorem aM.tape{uQ:Value}{aaW:List UInt8}{cut':Bool}{left':Nat}(H:aM w W B X wd h seed S)(hd:eD W' w.heap.size B.d uQ aaW cut' left')(ht:aL W W' (fun k=>k=B.d\/X.bZ.ownBlock=some k))(hn:∀k,uQ.ownBlock=some k->X.bZ.ownBlock=some k\/W.heap.size<=k):
  aM w W' B { X with bZ:=uQ } wd h seed { S with tp:=aaW,cut:=cut',left:=left' }/\br W W' B X { X with bZ:=uQ }:=by
 have ty:∀{k:Nat} {cur:Array Value} {e:TypeId} {fz:Nat×Nat},W.heap[k]?=some (.cells cur e fz)->e≠117/\e≠5->¬ (k=B.d\/X.bZ.ownBlock=some k):=fun {k cur e fz} hk he=>by
  rintro (rfl | h1)
  .exact aN hk H.dk.cell he.1 rfl
  .exact H.dk.row.w7 hk he.2 h1
 have w8:∀{i:Nat},i<3->∀k,(X.v i).ownBlock=some k->¬ (k=B.d\/X.bZ.ownBlock=some k):=fun {i} hi k hk=>by
  rcases (H.fl.aO i hi).row.2 with ⟨e1,_⟩ | ⟨r,cap,l9,e1,_,hr2,_⟩
  .rw[e1]at hk;cases hk
  .rw[e1]at hk
   have:r=k:=by simpa [Value.ownBlock] using hk
   rw[this]at hr2;exact ty hr2 (by decide)
 have hlo:∀k,(k=B.d\/X.bZ.ownBlock=some k)->w.heap.size<=k:=fun k hk=>by
  rcases hk with rfl | hk
  .exact H.dk.lo
  .exact(H.dk.row.lt k hk).1
 refine⟨⟨?_,?_,?_,hd,H.lo⟩,⟨ht.mono (fun k hk=>?_),fun k hk=>?_⟩⟩
 .rw[ht.block _ (lBq H.blk) (ty H.blk (by decide))];exact H.blk
 .exact H.fl.turned ht (ty H.fl.blk (by decide)) (ty H.fl.dJ (by decide)) (fun i hi=>⟨ty (H.fl.it i hi) (by decide),ty (H.fl.aO i hi).cell (by decide),w8 hi⟩) hlo
 .refine H.it.turned ht (fun k hk=>?_)
  rcases hk with rfl | ⟨c,hc,hk⟩
  .exact ty H.it.cell (by decide)
  .rcases (H.it.row c hc).2 with ⟨e1,_⟩ | ⟨r,cap,l9,e1,_,hr2,_⟩
   .rw[e1]at hk;cases hk
   .rw[e1]at hk
    have:r=k:=by simpa [Value.ownBlock] using hk
    rw[this]at hr2;exact ty hr2 (by decide)
 .rcases hk with rfl | hk
  .exact .inr (.inr (.inr (.inr (.inl rfl))))
  .exact .inr (.inr (.inr (.inr (.inr hk))))
 .rcases hk with rfl | rfl | hk | hk | rfl | hk
  .exact .inl (.inl rfl)
  .exact .inl (.inr (.inl rfl))
  .exact .inl (.inr (.inr (.inl hk)))
  .exact .inl (.inr (.inr (.inr (.inl hk))))
  .exact .inl (.inr (.inr (.inr (.inr (.inl rfl)))))
  .rcases hn k hk with h1 | h1
   .exact .inl (.inr (.inr (.inr (.inr (.inr h1)))))
   .exact .inr h1
theorem aM.own{S':Ve.St}(H:aM w W B X wd h seed S)(hs:aU W W' B.V)(hb:W'.heap[B.V]?=some (.cells (j5 B seed S') 114 (0,0)))(e:S'.L=S.L/\S'.pf=S.pf/\S'.n=S.n/\S'.Q=S.Q/\S'.t=S.t/\S'.tp=S.tp/\S'.cut=S.cut/\S'.left=S.left):aM w W' B X wd h seed S'/\br W W' B X X:=by
 have ht:aL W W' (fun k=>k=B.V):=⟨hs.os,hs.tape,hs.output,hs.size,fun k hk hn=>hs.block k hk hn⟩;have ty:∀{k:Nat} {cur:Array Value} {e:TypeId} {fz:Nat×Nat},W.heap[k]?=some (.cells cur e fz)->e≠114->k≠B.V:=fun hk he=>aN hk H.blk he;have w8:∀{base:Nat} {e:TypeId} {s n:Nat} {v:Value} {xs:List Value},W.ownsRow base e s v n xs->e≠114->∀k,v.ownBlock=some k->k≠B.V:=fun {base e s n v xs} hr he k hk=>by
  rcases hr.2 with ⟨e1,_⟩ | ⟨r,cap,l9,e1,_,hr2,_⟩
  .rw[e1]at hk;cases hk
  .rw[e1]at hk
   have:r=k:=by simpa [Value.ownBlock] using hk
   rw[this]at hr2;exact ty hr2 he
 obtain⟨e1,e2,e3,e4,e5,e6,e7,e8⟩:=e;refine⟨⟨hb,?_,?_,?_,H.lo⟩,⟨ht.mono (fun k hk=>.inl hk),fun _ h=>.inl h⟩⟩
 .rw[e1,e2,e3]
  exact H.fl.turned ht (ty H.fl.blk (by decide)) (ty H.fl.dJ (by decide)) (fun i hi=>⟨ty (H.fl.it i hi) (by decide),ty (H.fl.aO i hi).cell (by decide),w8 (H.fl.aO i hi).row (by decide)⟩) (fun k hk=>by subst hk;exact H.lo)
 .rw[e4,e5]
  refine H.it.turned ht (fun k hk=>?_);rcases hk with rfl | ⟨c,hc,hk⟩
  .exact ty H.it.cell (by decide)
  .exact w8 (H.it.row c hc) (by decide) k hk
 .rw[e6,e7,e8]
  refine H.dk.turned ht (ty H.dk.cell (by decide)) (fun k hk e=>?_);exact H.dk.row.w7 H.blk (by decide) (by rw[hk,e])
theorem aM.at(H:aM w W B X wd h seed S)(k:Nat):W.cell? (O B.V k)=(j5 B seed S)[k]?:=cR W B.V k _ _ _ H.blk
theorem aM.conn(H:aM w W B X wd h seed S){c j:Nat}(hc:c<6)(hj:j<5):W.cell? ⟨B.V,4+c*5+j,none⟩=some (ia S c j):=by rw[H.at];exact sL B seed S hc hj
theorem aM.free(H:aM w W B X wd h seed S)(k:Nat):W.frozen? (O B.V k)=false:=by simp[World.frozen?,H.blk]
theorem aM.lt(H:aM w W B X wd h seed S):B.V<W.heap.size:=lBq H.blk
theorem aM.set{S':Ve.St}(H:aM w W B X wd h seed S){c j:Nat}(hc:c<6)(hj:j<5)(u:Value)(hS:∀c' j',c'<6->j'<5->ia S' c' j'=if c'=c/\j'=j then u else ia S c' j')(hn:S'.now=S.now)(hbt:S'.bt=S.bt)(hd:S'.down=S.down)(e:S'.L=S.L/\S'.pf=S.pf/\S'.n=S.n/\S'.Q=S.Q/\S'.t=S.t/\S'.tp=S.tp/\S'.cut=S.cut/\S'.left=S.left):
  aM w (W.setCell ⟨B.V,4+c*5+j,none⟩ u) B X wd h seed S'/\br W (W.setCell ⟨B.V,4+c*5+j,none⟩ u) B X X :=
 H.own (aU.setCell _ _ _ _) (by rw[block_setCell H.blk,apr B seed S S' hc hj u hS hn hbt hd]) e
end
def kB:List ByteArray->Nat
 | []=>0
 | f::r=>if eM f=0 then kB r else eM f
theorem arp(fs:List ByteArray)(k:Nat)(f:ByteArray)(h:fs[k]?=some f):kB (fs.drop k)=if eM f=0 then kB (fs.drop (k+1)) else eM f:=by obtain⟨h1,e⟩:=List.getElem?_eq_some_iff.1 h;rw[List.drop_eq_getElem_cons h1,e,kB]
theorem arq(f:ByteArray):s4 f=bM (Ve.cH f):=by rw[aac];rfl
section
variable {ad:Nat->Addr}
theorem ars(fs:List ByteArray)(v:Value)(base n:Nat)(w:World)(hs:Hid (bJ w ad))(hn:Hid (fs.length=n))(hr:Hid (w.ownsRow base 9 1 v n (fs.map Value.string)))(hl:n<=100000):
  Calls prog 43 #[v] w fun e w'=>∃va,e=.returned (.tuple #[va,fq ad (kB fs)])/\U w w'/\(kB fs=0->w'.ownsRow w.heap.size 95 8 va fs.length (bz (fs.map Ve.cH)))/\(kB fs≠0->va=.slice none 0 0):=by
 obtain⟨a0,c0,hv⟩:=fA hr;subst hv;have hcell:∀W',U w W'->∀k f,fs[k]?=some f->∃g,a0=some (O g 0)/\k<n/\W'.cell? (O g k)=some (.string f):=fun W' hb k f hk=>by
  obtain⟨hk1,_⟩:=List.getElem?_eq_some_iff.1 hk;have dZ:=hr.kept (row:=none) ⟨hb.os,hb.tape,hb.output,hb.size,fun i hi _=>hb.block i hi⟩ (Classical.em _);rcases dZ.2 with ⟨e,e0⟩ | ⟨g,cap,cur,e,_,hg,_,_,_,ht⟩
  .rw[<- hn.out]at e0;omega
  .cases e
   refine⟨g,rfl,by rw[<- hn.out];exact hk1,?_⟩;rw[cR W' g k _ _ _ hg,<- Array.getElem?_toList];have h2:=congrArg (·[k]?) ht;simp only[List.getElem?_map,hk,Option.map_some]at h2;rw[List.getElem?_take_of_lt (by rw[<- hn.out];omega)]at h2;exact h2
 have HC:=Y hcell;clear hcell;have HD:Hid (kB fs=kB (fs.drop 0)):=Y rfl;generalize zO:kB fs=D at *;have auL:=Y zO;clear zO;go_enter func43,ntmps43
 go_wp2_with fail
 go_loopw [4,11] (fun v kv wr=>∃k:Nat,k<=n/\kv=Z k/\D=kB (fs.drop k)/\wr.ownsRow w.heap.size 95 8 v k (bz ((fs.take k).map Ve.cH))/\U w wr) (fun _ kv _=>n-(intOf kv).toNat)
 case atStart=>exact⟨0,Nat.zero_le _,rfl,HD,World.ownsRow_nil _ _ _ _,bRq _ _⟩
 case round =>
  obtain⟨k,hk,rfl,hd,hrow,hb⟩:=hrel;have Re:=Y hd;have HR:=Y hrow;have HB:=Y hb;clear hd hrow hb;by_cases hlt:k<n
  .have aT:(k:Int)<n:=by omega
   obtain⟨f,hf⟩:∃f,fs[k]?=some f:=⟨_,List.getElem?_eq_getElem (by rw[hn.out];exact hlt)⟩;obtain⟨g,rfl,_,hc⟩:=HC.out wr HB k f hf;have HS:=Y (arp fs k f hf);have HT:Hid ((fs.take (k+1)).map Ve.cH=(fs.take k).map Ve.cH++[Ve.cH f]):=Y (by rw[List.take_add_one,hf];simp);have uE:=Y (S4 f ad wr (hs.later HB));have uk:((fs.take k).map Ve.cH).length=k:=by rw[List.length_map,lKq];have:=hn.out;omega
   have HL:=Y uk;clear uk hf;rw[arq]at uE;by_cases hc0:eM f=0
   .rw[hc0,show fq ad 0=.nilIface from rfl]at uE
    have Jv:Hid (D=kB (fs.drop (k+1))):=Y (by rw[Re.out,HS.out,if_pos hc0]);generalize Ve.cH f=a at *;unfold bM aX at uE
    go_wp2_with fail
    refine uE.mono ?_;rintro e w1 ⟨rfl,hb1⟩;have hb2:U w w1:=ar HB hb1;have av:=Y (hb2.alloc hb2.size (.cells (aX a) 95));have hr2:(w1.alloc (.cells (aX a) 95)).ownsRow w.heap.size 95 8 u4 ((fs.take k).map Ve.cH).length (bz ((fs.take k).map Ve.cH)):=by rw[HL.out];exact(HR.kept (row:=none) ⟨hb1.os,hb1.tape,hb1.output,hb1.size,fun i hi _=>hb1.block i hi⟩ (Classical.em _)).alloc _
    obtain⟨v4,w4,hap,hr4,hg4⟩:=aav (w1.alloc (.cells (aX a) 95)) u4 ((fs.take k).map Ve.cH) a hr2 (by rw[HL.out];omega) av.size;have bS:Hid (U w w4):=Y (below_grown (av.alloc av.size _) (World.ownsRow.alloc hr2 _) (lTq av.size (by simp)) hg4);have cO:Hid (w4.ownsRow w.heap.size 95 8 v4 (k+1) (bz ((fs.take (k+1)).map Ve.cH))):=Y (by
     rw[HT.out];rw[lAq,HL.out]at hr4;exact hr4)
    rw[World.size_alloc]at hap;have cW:=Y hap;unfold aX at cW;clear hap hr4 hg4 hr2 hb2 hb1 hc0;simp only[]
    go_wp2_with (at_builtin;refine wpList_append_run rfl _ _ 24 rfl _ _ _ rfl rfl cW ?_)
    go_roundw
    case rel=>exact⟨k+1,hlt,by go_num,Jv,cO,bS⟩
    case measure=>simp[intOf];omega
   .rw[xy ad hc0]at uE
    have Jv:Hid (D=eM f):=Y (by rw[Re.out,HS.out,if_neg hc0]);generalize Ve.cH f=a at *;unfold bM aX at uE
    go_wp2_with fail
    refine uE.mono ?_;rintro e w1 ⟨rfl,hb1⟩;have hb2:U w w1:=ar HB hb1;have av:=Y (hb2.alloc hb2.size (.cells (aX a) 95));clear hb1 hb2;simp only[];go_wp2;go_ret2;refine⟨_,?_,av,fun e=>absurd (Jv.symm.trans e) hc0,fun _=>rfl⟩;rw[Jv.out,xy ad hc0];rfl
  .have aT:¬ (k:Int)<n:=by omega
   obtain rfl:k=n:=by omega
   have acd:D=0:=by rw[Re.out,List.drop_of_length_le (by rw[hn.out];exact E _)];rfl
   have HD0:=Y acd;clear acd;go_wp2;go_ret2;refine⟨_,by rw[HD0.out];rfl,HB,fun _=>?_,fun e=>absurd HD0.out e⟩
   have:=HR.out
   rw[List.take_of_length_le (by rw[hn.out];exact E _)]at this;rw[hn.out];exact this
end
end
end Go.Proofs.YtjolccidheflpaaGreatDoor
