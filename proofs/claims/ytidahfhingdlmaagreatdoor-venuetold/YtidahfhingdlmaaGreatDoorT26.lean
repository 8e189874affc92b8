/- A venue: what it has, what bytes that are fed to it and a tick make of it; no program is spoken of. -/
import Derived.Test.YtidahfhingdlmaaGreatDoorT22
import Derived.Test.YtidahfhingdlmaaGreatDoorT06
import Derived.Test.YtidahfhingdlmaaGreatDoorT07
import Derived.Test.YtidahfhingdlmaaGreatDoorT25
import Derived.Test.YtidahfhingdlmaaGreatDoorT02
import Derived.Lib.ItoaLen
namespace Go.Proofs.YtidahfhingdlmaaGreatDoor
namespace Ve
structure Rep where
 c:Int
 k:ByteArray
 id:Int
 pr:Int
 q:Int
 cd:Int
structure St where
 L:Nat→List Cv.Lot
 pf:Nat→Int
 n:Nat→Int
 Q:Nat→List Ask
 t:Nat
 on:Nat→Bool
 nx:Nat→Int
 la:Nat→Int
 lf:Nat→ByteArray
 dr:Nat→Bool
 tp:List UInt8
 cut:Bool
 left:Nat
 now:Nat
 bt:Nat
 down:Bool
def kAcc:ByteArray:=⟨#[97,99,99,101,112,116,101,100]⟩
def kRef:ByteArray:=⟨#[114,101,102,117,115,101,100]⟩
def kBusy:ByteArray:=⟨#[98,117,115,121]⟩
def kFill:ByteArray:=⟨#[102,105,108,108,101,100]⟩
def kRest:ByteArray:=⟨#[114,101,115,116,115]⟩
def kGone:ByteArray:=⟨#[103,111,110,101]⟩
def askOf (f:ByteArray):Ask:=⟨df f (bAt f 0),df f (bAt f 1),df f (highAt f 2),df f (bAt f 6),df f (bAt f 7),df f (highAt f 8),df f (highAt f 12),df f (highAt f 16)⟩
def refu (c id:Int) (e:Nat):Rep:=⟨c,kRef,id,0,0,e⟩
def leave (S:St) (n:Nat):St:={ S with Q:=Ik.clearL S.Q n,dr:=upd S.dr n true }
def takeC (S:St) (n:Nat) (a:Ask):Nat:=if a.c = n then Se.tc (S.on n) (S.nx n) a else 3
def taken (S:St) (n:Nat) (a:Ask):St :=
 { S with on:=upd S.on n (Se.tO (S.on n) (S.nx n) a),nx:=upd S.nx n (Se.tN (S.on n) (S.nx n) a),la:=upd S.la n (Se.tL (S.on n) (S.nx n) (S.la n) a S.now) }
def takeS (S:St) (n:Nat) (a:Ask):St:=if takeC S n a = 0 then taken S n a else S
def isO (a:Ask):Bool:=a.k == 111 || a.k == 99
def hearS (S:St) (n:Nat) (f:ByteArray):St :=
 if decCode f = 0 then
  if takeC S n (askOf f) = 0 then
   if isO (askOf f) = true then { taken S n (askOf f) with Q:=Ik.putL S.Q (askOf f) }
   else if (askOf f).k = 113 then leave (taken S n (askOf f)) n else taken S n (askOf f)
  else S
 else S
def putK (S:St) (a:Ask):ByteArray:=if Ik.putC S.Q a = 0 then kAcc else kBusy
def hearR (S:St) (n:Nat) (f:ByteArray):List Rep :=
 if decCode f = 0 then
  if takeC S n (askOf f) = 0 then
   if isO (askOf f) = true then [⟨n,putK S (askOf f),(askOf f).id,0,0,0⟩] else []
  else [refu n (askOf f).id (takeC S n (askOf f))]
 else [refu n 0 (decCode f)]
def hearsS (S:St) (n:Nat) (b:ByteArray):Nat→St
 | 0=>S
 | k + 1=>hearS (hearsS S n b k) n (fr b k)
def hearsR (S:St) (n:Nat) (b:ByteArray):Nat→List Rep
 | 0=>[]
 | k + 1=>hearsR S n b k++hearR (hearsS S n b k) n (fr b k)
def restB (b:ByteArray):ByteArray:=b.extract (30 * (b.size / 30)) b.size
def fedS (S:St) (n:Nat) (b:ByteArray):St:={ S with lf:=upd S.lf n (restB b) }
def feedS (S:St) (n:Int) (s:ByteArray):St :=
 if S.down = true∨Wi.withinB n 0 5 = false then S else hearsS (fedS S n.toNat (S.lf n.toNat++s)) n.toNat (S.lf n.toNat++s) ((S.lf n.toNat++s).size / 30)
def feedR (S:St) (n:Int) (s:ByteArray):List Rep :=
 if S.down = true∨Wi.withinB n 0 5 = false then [] else hearsR (fedS S n.toNat (S.lf n.toNat++s)) n.toNat (S.lf n.toNat++s) ((S.lf n.toNat++s).size / 30)
def gone (S:St) (n:Nat):St :=
 { S with on:=upd S.on n false,nx:=upd S.nx n 0,la:=upd S.la n 0,lf:=upd S.lf n ByteArray.empty,dr:=upd S.dr n true,Q:=Ik.clearL S.Q n }
def hang (S:St) (n:Nat):St:=if Se.late (S.on n) (S.la n) S.now = true then gone S n else S
def hangs (S:St):Nat→St
 | 0=>S
 | k + 1=>hang (hangs S k) k
def dropsTo (dr:Nat→Bool):Nat→List Nat
 | 0=>[]
 | k + 1=>dropsTo dr k++if dr k = true then [k] else []
def dec (n:Int):List Int:=(Lib.itoa n).map fun b=>(b.toNat:Int)
def hexD (x:Nat):Int:=if x < 10 then 48 + (x:Int) else 87 + (x:Int)
def hexTo (s:ByteArray):Nat→List Int
 | 0=>[]
 | k + 1=>hexTo s k++[hexD (bAt s k / 16),hexD (bAt s k % 16)]
def recD (ds:List Nat):Nat→List Int
 | 0=>[]
 | k + 1=>recD ds k++((if 0 < k then [44] else [])++dec ((ds.getD k 0:Nat):Int))
def frameOf (a:Ask):ByteArray:=encText a.k a.c a.sq a.it a.sd a.pr a.q a.id
def recA (l:List Ask):Nat→List Int
 | 0=>[]
 | k + 1=>recA l k++([32]++hexTo (frameOf (anth l k)) (frameOf (anth l k)).size)
def recI (bt:Nat) (ds:List Nat) (l:List Ask):List Int:=((dec bt++[58])++recD ds ds.length)++recA l l.length
def recB (bt:Nat) (ds:List Nat) (l:List Ask):ByteArray:=strOfNums (recI bt ds l)
structure Ro where
 L:Nat→List Cv.Lot
 pf:Nat→Int
 n:Nat→Int
 pl:List Ask
 rp:List Rep
def tell (k:ByteArray) (x:Cv.Lot):Rep:=⟨x.ow,k,x.id,x.pr,x.q,0⟩
def dropR (r:Ro) (c:Nat):Ro:={ r with L:=Fl.dL c r.L 3,pf:=Fl.dF c r.L r.pf 3,rp:=r.rp++(Fl.dO c r.L 3).map (tell kGone) }
def dropsR (r:Ro) (ds:List Nat):Nat→Ro
 | 0=>r
 | k + 1=>dropR (dropsR r ds k) (ds.getD k 0)
def others (a:Ask) (l:List Ask):List Ask:=l.filter fun x=>!(x.it == a.it&&x.id == a.id)
def placeR (r:Ro) (a:Ask):Ro :=
 { r with L:=Fl.placeL r.L r.pf a,pf:=Fl.placeF r.L r.pf a,pl:=if Fl.placeC r.L r.pf a = 0 then r.pl++[a] else r.pl,rp:=if Fl.placeC r.L r.pf a = 0 then r.rp else r.rp++[refu a.c a.id (Fl.placeC r.L r.pf a + 1)] }
def cancelR (r:Ro) (a:Ask):Ro :=
 { r with L:=Fl.canL r.L a,pf:=Fl.canF r.L r.pf a,pl:=if Fl.canC r.L r.pf a = 0 then others a r.pl else r.pl,rp:=r.rp++if Fl.canC r.L r.pf a = 0 then [tell kGone (Fl.canX r.L a)] else [refu a.c a.id (Fl.canC r.L r.pf a + 1)] }
def askR (r:Ro) (a:Ask):Ro:=if a.k = 111 then placeR r a else cancelR r a
def asksR (r:Ro) (l:List Ask):Nat→Ro
 | 0=>r
 | k + 1=>askR (asksR r l k) (anth l k)
def ownT (l:List Cv.Lot):Nat→Int→Int
 | 0=>fun _=>0
 | k + 1=>fun id=>if id = (Cv.nth l k).id then (Cv.nth l k).ow else ownT l k id
open Classical in
noncomputable def won (l:List Cv.Lot) (ref:Int):Int × Int:=if h:∃ pv:Int × Int,Cv.Won l ref 1000 pv.1 pv.2 then Classical.choose h else (0,0)
noncomputable def tP (r:Ro) (i:Nat):Int:=(won (r.L i) (r.n (i * 2))).1
noncomputable def tV (r:Ro) (i:Nat):Int:=(won (r.L i) (r.n (i * 2))).2
noncomputable def tF (wd:Int) (r:Ro) (i:Nat) (s:Int):List (Int × Int):=Fl.runF s (r.L i) (Fl.runO r.n i wd (tP r i) (tV r i)) (tP r i) (tV r i)
def fillR (l:List Cv.Lot) (p:Int) (f:Int × Int):Rep:=⟨ownT l l.length f.1,kFill,f.1,p,f.2,0⟩
def restR (L:Nat→List Cv.Lot) (i:Nat) (a:Ask):List Rep:=if Cv.has (L i) a.id = true∧a.it = i then [tell kRest (Bk.getX (L i) a.id)] else []
noncomputable def tradeR (wd h:Int) (r:Ro) (i:Nat) (s:Int):Ro :=
 { r with L := Fl.runL r.L i (tF wd r i s), pf := Fs.sett r.pf i (tP r i) (r.L i) (tF wd r i s), n := Fl.runN r.n i wd h (tP r i) (tV r i),
          rp:=r.rp++((tF wd r i s).map (fillR (r.L i) (tP r i))++r.pl.flatMap (restR (Fl.runL r.L i (tF wd r i s)) i)) }
def seedAt (seed:Int) (bt i:Nat):Int:=(seed + ((3 * bt + i:Nat):Int) % 4294967296) % 4294967296
noncomputable def tradesR (wd h seed:Int) (bt:Nat) (r:Ro):Nat→Ro
 | 0=>r
 | k + 1=>tradeR wd h (tradesR wd h seed bt r k) k (seedAt seed bt k)
def start (S:St):Ro:=⟨S.L,S.pf,S.n,[],[]⟩
noncomputable def roundR (wd h seed:Int) (S:St) (ds:List Nat) (l:List Ask):Ro:=tradesR wd h seed S.bt (asksR (dropsR (start S) ds ds.length) l l.length) 3
def undr (dr:Nat→Bool):Nat→Nat→Bool
 | 0=>dr
 | k + 1=>upd (undr dr k) k false
noncomputable def ranS (wd h seed:Int) (S:St) (ds:List Nat) (l:List Ask):St :=
 { S with L:=(roundR wd h seed S ds l).L,pf:=(roundR wd h seed S ds l).pf,n:=(roundR wd h seed S ds l).n,dr:=undr S.dr 6,bt:=S.bt + 1 }
def full (S:St) (s:ByteArray):Bool:=decide (1048576 < S.tp.length + (12 + s.size))
def appOk (S:St) (s:ByteArray):Bool:=!full S s&&(!S.cut || decide (12 + s.size≤S.left))
def appS (S:St) (s:ByteArray):St :=
 if full S s = true then S else { S with tp:=S.tp++(if S.cut = true then (Tp.rec s.data.toList).take S.left else Tp.rec s.data.toList),left:=if S.cut = true then S.left - (12 + s.size) else S.left }
def drained (S:St):St:={ S with Q:=Ik.drL S.Q S.t,t:=Ik.who S.t 1 }
def recS (S:St):ByteArray:=recB S.bt (dropsTo S.dr 6) (Ik.out S.Q S.t)
noncomputable def batchS (wd h seed:Int) (S:St):St :=
 if appOk (drained S) (recS S) = true then ranS wd h seed (appS (drained S) (recS S)) (dropsTo S.dr 6) (Ik.out S.Q S.t) else { appS (drained S) (recS S) with down:=true }
noncomputable def batchR (wd h seed:Int) (S:St):List Rep :=
 if appOk (drained S) (recS S) = true then (roundR wd h seed (appS (drained S) (recS S)) (dropsTo S.dr 6) (Ik.out S.Q S.t)).rp else []
def tocks (S:St):St:=hangs { S with now:=S.now + 1 } 6
noncomputable def tickS (wd h seed:Int) (S:St):St :=
 if S.down = true then S else if (S.now + 1) % 3 = 0 then batchS wd h seed (tocks S) else tocks S
noncomputable def tickR (wd h seed:Int) (S:St):List Rep :=
 if S.down = true then [] else if (S.now + 1) % 3 = 0 then batchR wd h seed (tocks S) else []
def cutC (S:St) (n:Int):Nat:=if n < 0 then 2 else if S.cut = true∧S.left = 0 then 9 else 0
def cutS (S:St) (n:Int):St:=if cutC S n = 0 then { S with cut:=true,left:=n.toNat } else S
end Ve
end Go.Proofs.YtidahfhingdlmaaGreatDoor
