/- The small calls of a venue by their contracts. -/
import Derived.Test.YtjolccidheflpaaGreatDoorW35
import Derived.Test.YtjolccidheflpaaGreatDoorW34
import Derived.Test.YtjolccidheflpaaGreatDoorW36
import Derived.Test.YtjolccidheflpaaGreatDoorW25
import Derived.Test.YtjolccidheflpaaGreatDoorW12
import Derived.Deep.RegionWith
import Derived.BigRegion
import Derived.Test.YtjolccidheflpaaGreatDoorW08
import Derived.Test.YtjolccidheflpaaGreatDoorW30
import Derived.Test.YtjolccidheflpaaGreatDoorW13
import Derived.Test.YtjolccidheflpaaGreatDoorW20
import Derived.Test.YtjolccidheflpaaGreatDoorW29
import Derived.Test.YtjolccidheflpaaGreatDoorW32
import Derived.Test.YtjolccidheflpaaGreatDoorW10
namespace Go.Proofs.YtjolccidheflpaaGreatDoor
set_option maxHeartbeats 8000000
set_option maxRecDepth 100000
section
open Go.RowKit
def rh (ad:Nat->Addr) (j:Nat):Value:=.pointer (some (ad j))
theorem C_ {W:World} {R:Nat} {t:TypeId} {x0 x1 x2 x3 x4 x5:Value} (hz:W.heap[R]?=some (.cells #[x0,x1,x2,x3,x4,x5] t (0,0))) (v0 v1 v2 v3 v4 v5:Value) :
  ((((((W.setCell (Qb R 0) v0).setCell (Qb R 1) v1).setCell (Qb R 2) v2).setCell (Qb R 3) v3).setCell (Qb R 4) v4).setCell (Qb R 5) v5).heap[R]?=some (.cells #[v0,v1,v2,v3,v4,v5] t (0,0)):=by
 rw[block_setCell (block_setCell (block_setCell (block_setCell (block_setCell (block_setCell hz 0 v0) 1 v1) 2 v2) 3 v3) 4 v4) 5 v5];rfl
theorem alr {n R:Nat} {w W:World} (h:Below n w W) (hR:n<=R) (v0 v1 v2 v3 v4 v5:Value):Below n w ((((((W.setCell (Qb R 0) v0).setCell (Qb R 1) v1).setCell (Qb R 2) v2).setCell (Qb R 3) v3).setCell (Qb R 4) v4).setCell (Qb R 5) v5):=by
 iterate 6 refine Below.setCell (p:=(Qb R _)) ?_ hR _
 exact h
theorem Ik (W:World) (R:Nat) (v0 v1 v2 v3 v4 v5:Value):aM W ((((((W.setCell (Qb R 0) v0).setCell (Qb R 1) v1).setCell (Qb R 2) v2).setCell (Qb R 3) v3).setCell (Qb R 4) v4).setCell (Qb R 5) v5) R:=((((((aM.setCell _ _ _ _).put _ _).put _ _).put _ _).put _ _).put _ _)
section
variable {w W:World} {ad:Nat->Addr} {B:bP} {X:bX} {wd h seed:Int} {S:af.St}
theorem bO.CW (h:bO w ad):eA w (rh ad):=⟨h.cell 1 (by decide),h.cell 2 (by decide),h.cell 3 (by decide),h.cell 5 (by decide),h.cell 6 (by decide),h.cell 7 (by decide),h.cell 9 (by decide),h.cell 11 (by decide)⟩
theorem bO.Y7 (h:bO w ad):s5 w (rh ad):=⟨h.cell 10 (by decide),h.cell 11 (by decide),h.cell 1 (by decide),h.cell 2 (by decide),h.cell 3 (by decide)⟩
theorem bO.als (h:bO w ad):wV w (rh ad):=⟨h.cell 3 (by decide),h.cell 1 (by decide),h.cell 7 (by decide)⟩
theorem alu (ad:Nat->Addr) (c:Nat):Ue (rh ad) c=gy ad c:=by cases c <;> rfl
def fZ (r:af.cy):Array Value:=#[Qa r.c,.string r.k,Qa r.id,Qa r.pr,Qa r.q,Qa r.cd]
def j_ (r:af.cy):Value:=.agg (fZ r)
theorem aD.sent (H:aD w W B X wd h seed S) (hs:bO w ad):bO W ad:=hs.later H.bG
theorem eO:Qd W W.drew:=⟨rfl,rfl,rfl,lRq _,fun _ _=>rfl⟩
theorem agD (W:World) (H:aD w W B X wd h seed S):Calls Tryz.prog 19 #[Qc B.V] W fun e w'=>e=.returned (Qc B.d)/\w'=W:=by
 have c:W.cell? (Qb B.V 3)=some (Qc B.d):=H.at 3;clear H;go_enter Tryz.func19,Tryz.ntmps19;go_wp2;go_ret;exact⟨rfl,rfl⟩
theorem alv (S S':af.St) (n:Nat) (x:Bool) (h0:S'.on=upd S.on n x) (h1:S'.ar=S.ar) (h2:S'.la=S.la) (h3:S'.az=S.az) (h4:S'.aU=S.aU) (c' j':Nat) (hj:j'<5):gu S' c' j'=if c'=n/\j'=0 then .bool x else gu S c' j':=by
 have:j'=0\/j'=1\/j'=2\/j'=3\/j'=4:=by omega
 rcases this with rfl | rfl | rfl | rfl | rfl <;> simp[gu,h0,h1,h2,h3,h4]
 unfold upd;split <;> simp_all
theorem alw (S S':af.St) (n:Nat) (x:Int) (h0:S'.on=S.on) (h1:S'.ar=upd S.ar n x) (h2:S'.la=S.la) (h3:S'.az=S.az) (h4:S'.aU=S.aU) (c' j':Nat) (hj:j'<5):gu S' c' j'=if c'=n/\j'=1 then Qa x else gu S c' j':=by
 have:j'=0\/j'=1\/j'=2\/j'=3\/j'=4:=by omega
 rcases this with rfl | rfl | rfl | rfl | rfl <;> simp[gu,h0,h1,h2,h3,h4]
 unfold upd;split <;> simp_all
theorem alx (S S':af.St) (n:Nat) (x:Int) (h0:S'.on=S.on) (h1:S'.ar=S.ar) (h2:S'.la=upd S.la n x) (h3:S'.az=S.az) (h4:S'.aU=S.aU) (c' j':Nat) (hj:j'<5):gu S' c' j'=if c'=n/\j'=2 then Qa x else gu S c' j':=by
 have:j'=0\/j'=1\/j'=2\/j'=3\/j'=4:=by omega
 rcases this with rfl | rfl | rfl | rfl | rfl <;> simp[gu,h0,h1,h2,h3,h4]
 unfold upd;split <;> simp_all
theorem Yh (S S':af.St) (n:Nat) (x:ByteArray) (h0:S'.on=S.on) (h1:S'.ar=S.ar) (h2:S'.la=S.la) (h3:S'.az=upd S.az n x) (h4:S'.aU=S.aU) (c' j':Nat) (hj:j'<5):gu S' c' j'=if c'=n/\j'=3 then .string x else gu S c' j':=by
 have:j'=0\/j'=1\/j'=2\/j'=3\/j'=4:=by omega
 rcases this with rfl | rfl | rfl | rfl | rfl <;> simp[gu,h0,h1,h2,h3,h4]
 unfold upd;split <;> simp_all
theorem OD (S S':af.St) (n:Nat) (x:Bool) (h1:S'.on=S.on) (h2:S'.ar=S.ar) (h3:S'.la=S.la) (h4:S'.az=S.az) (h5:S'.aU=upd S.aU n x) (c' j':Nat) (hj:j'<5):gu S' c' j'=if c'=n/\j'=4 then .bool x else gu S c' j':=by
 have:j'=0\/j'=1\/j'=2\/j'=3\/j'=4:=by omega
 rcases this with rfl | rfl | rfl | rfl | rfl <;> simp[gu,h1,h2,h3,h4,h5]
 unfold upd;split <;> simp_all
theorem Yl (n:Nat) (hn:n<6) (W:World) (H:Hid (aD w W B X wd h seed S)):Calls Tryz.prog 132 #[Qc B.V,Qa n] W fun e w'=>e=.returned (.tuple #[])/\∃ X',aD w w' B X' wd h seed (af.leave S n)/\bf W w' B X X':=by
 have c:W.cell? (Qb B.V 2)=some (Qc B.q):=H.out.at 2;have HC:=hDq (afx n W H.out.it);go_enter Tryz.func132,Tryz.ntmps132
 go_wp2_with fail
 refine HC.out.mono ?_;rintro e w2 ⟨rfl,fh,hi,hq⟩;obtain⟨h1,h2⟩:=H.out.take hi hq;have H1:=hDq h1;have H2:=hDq h2;clear hi hq h1 h2 HC;have c4:=H1.out.conn hn (j:=4) (by decide);have f4:=H1.out.free (4+n*5+4);simp only[gu]at c4;simp only[];go_wp2;go_end0;obtain⟨h3,h4⟩:=H1.out.set (S':=af.leave S n) hn (j:=4) (by decide) (.bool true) (fun c' j' _ jy=>OD { S with Q:=ay.nH S.Q n } (af.leave S n) n true rfl rfl rfl rfl rfl c' j' jy) rfl rfl rfl ⟨rfl,rfl,rfl,rfl,rfl,rfl,rfl,rfl⟩;exact⟨rfl,_,h3,H2.out.trans h4⟩
theorem Ym (c id:Int) (n:Nat) (hn:n<=12) (W:World) (hs:Hid (bO W ad)):Calls Tryz.prog 166 #[Qa c,Qa id,gy ad n] W fun e w'=>e=.returned (j_ (af.gD c id n))/\Qd W w':=by
 go_enter Tryz.func166,Tryz.ntmps166
 go_wp2_with fail
 have bD:Hid (Qd W (W.alloc (.cells #[Qa 0,.string ⟨#[]⟩,Qa 0,Qa 0,Qa 0,Qa 0] 121))):=(bRq _ _).alloc (lRq _) _;have G0:=hDq (hNq W (.cells #[Qa 0,.string ⟨#[]⟩,Qa 0,Qa 0,Qa 0,Qa 0] 121));refine(XC n hn ad _ (hs.out.later bD.out)).mono ?_;rintro e w2 ⟨rfl,hb2⟩;have HB2:=hDq (bD.out.trans (hb2.mono bD.out.size));have kR:=hDq (dG hb2 G0.out);clear hb2;have c0:w2.cell? (Qb W.heap.size 0)=some (Qa 0):=by rw[cR _ _ 0 _ _ _ kR.out];rfl
 have c1:w2.cell? (Qb W.heap.size 1)=some (.string ⟨#[]⟩):=by rw[cR _ _ 1 _ _ _ kR.out];rfl
 have c2:w2.cell? (Qb W.heap.size 2)=some (Qa 0):=by rw[cR _ _ 2 _ _ _ kR.out];rfl
 have c3:w2.cell? (Qb W.heap.size 3)=some (Qa 0):=by rw[cR _ _ 3 _ _ _ kR.out];rfl
 have c4:w2.cell? (Qb W.heap.size 4)=some (Qa 0):=by rw[cR _ _ 4 _ _ _ kR.out];rfl
 have c5:w2.cell? (Qb W.heap.size 5)=some (Qa 0):=by rw[cR _ _ 5 _ _ _ kR.out];rfl
 have fz:∀ j,w2.frozen? (Qb W.heap.size j)=false:=fun j=>by simp[World.frozen?,kR.out]
 simp only[];go_wp2;have HX:=hDq (C_ kR.out (Qa c) (.string af.nY) (Qa id) (Qa 0) (Qa 0) (Qa n));have om:=hDq (alr HB2.out (lRq W.heap.size) (Qa c) (.string af.nY) (Qa id) (Qa 0) (Qa 0) (Qa n));unfold af.nY at HX om;generalize (((((w2.setCell (Qb W.heap.size 0) (Qa c)).setCell (Qb W.heap.size 1) _).setCell (Qb W.heap.size 2) (Qa id)).setCell (Qb W.heap.size 3) (Qa 0)).setCell (Qb W.heap.size 4) (Qa 0)).setCell (Qb W.heap.size 5) (Qa n)=w3 at *;have R:∀ j,w3.cell? (Qb W.heap.size j)=_:=fun j=>cR w3 _ j _ 121 _ HX.out;refine bodyPost_ret (v:=j_ (af.gD c id n)) (by simp[results,Tryz.results166,go_sem,R,j_,fZ,af.gD,af.nY]) rfl ⟨rfl,om.out⟩
theorem aky (a:Ask) (W:World) (H:Hid (aD w W B X wd h seed S)) (hs:Hid (bO w ad)) :
  Calls Tryz.prog 167 #[Qc B.V,bu a] W fun e w'=>e=.returned (.string (af.vt S a))/\∃ X',aD w w' B X' wd h seed { S with Q:=ay.ji S.Q a }/\bf W w' B X X':=by
 have HP:Hid (∀ W' X',aD w W' B X' wd h seed S->Calls Tryz.prog 209 #[Qc B.q,bu a] W' fun e w'=>e=.returned (gy ad (ay.jh S.Q a))/\∃ X2,aD w w' B X2 wd h seed { S with Q:=ay.ji S.Q a }/\bf W' w' B X' X2):=fun W' X' H'=>by
  refine(afR a W' (H'.sent hs.out).als H'.it).mono ?_;rintro e w' ⟨rfl,fh,h1,h2⟩;obtain⟨h3,h4⟩:=H'.take h1 h2;exact⟨by rw[alu],_,h3,h4⟩
 have H0:Hid (aD w (W.alloc (.cells (aT a) 95)) B X wd h seed S):=H.out.later ((bRq _ _).alloc (lRq _) _);have ft:Hid (bf W (W.alloc (.cells (aT a) 95)) B X X):=bf.of_below ((bRq _ _).alloc (lRq _) _) B X;have HK:Hid (af.vt S a=if ay.jh S.Q a=0 then af.sN else af.Ic):=rfl;have c2:W.cell? (Qb B.V 2)=some (Qc B.q):=H.out.at 2;have hlt:=H.out.lt;generalize af.vt S a=pk at *;generalize ay.jh S.Q a=pc at *;generalize ay.ji S.Q a=pl at *;unfold bu aT at *;cases pc with
 | zero =>
  rw[show gy ad 0=.nilIface from rfl]at HP;have hpk:pk=af.sN:=HK.out;subst hpk;unfold af.sN;go_enter Tryz.func167,Tryz.ntmps167
  go_wp2_with fail
  go_region_with (go_at_call 209;refine(HP.out _ X (H0.out.later eO)).mono ?_;rintro e w2 ⟨rfl,X2,h1,h2⟩;have H1:=hDq h1;have H2:=hDq h2;clear h1 h2)
  all_goals
   go_wp2;go_ret;exact⟨rfl,X2,H1.out,(ft.out.below eO).trans H2.out⟩
 | succ d =>
  rw[show gy ad (d+1)=.iface 412 (.pointer (some (ad d))) from rfl]at HP;have hpk:pk=af.Ic:=HK.out;subst hpk;unfold af.Ic;go_enter Tryz.func167,Tryz.ntmps167
  go_wp2_with fail
  go_region_with (go_at_call 209;refine(HP.out _ X (H0.out.later eO)).mono ?_;rintro e w2 ⟨rfl,X2,h1,h2⟩;have H1:=hDq h1;have H2:=hDq h2;clear h1 h2)
  all_goals
   go_wp2;go_ret;exact⟨rfl,X2,H1.out,(ft.out.below eO).trans H2.out⟩
def vA (S:af.St) (n:Nat) (o:Bool) (x l:Int):af.St:={ S with on:=upd S.on n o,ar:=upd S.ar n x,la:=upd S.la n l }
theorem aD.Yi (H:aD w W B X wd h seed S) {n:Nat} (hn:n<6) (o:Bool) (x l:Int) :
  aD w (((W.setCell ⟨B.V,4+n*5,none⟩ (.bool o)).setCell ⟨B.V,4+n*5+1,none⟩ (Qa x)).setCell ⟨B.V,4+n*5+2,none⟩ (Qa l)) B X wd h seed (vA S n o x l)/\bf W (((W.setCell ⟨B.V,4+n*5,none⟩ (.bool o)).setCell ⟨B.V,4+n*5+1,none⟩ (Qa x)).setCell ⟨B.V,4+n*5+2,none⟩ (Qa l)) B X X:=by
 obtain⟨a1,a2⟩:=H.set (S':={ S with on:=upd S.on n o }) hn (j:=0) (by decide) (.bool o) (fun c' j' _ jy=>alv S { S with on:=upd S.on n o } n o rfl rfl rfl rfl rfl c' j' jy) rfl rfl rfl ⟨rfl,rfl,rfl,rfl,rfl,rfl,rfl,rfl⟩;obtain⟨b1,b2⟩:=a1.set (S':={ S with on:=upd S.on n o,ar:=upd S.ar n x }) hn (j:=1) (by decide) (Qa x) (fun c' j' _ jy=>alw { S with on:=upd S.on n o } { S with on:=upd S.on n o,ar:=upd S.ar n x } n x rfl rfl rfl rfl rfl c' j' jy) rfl rfl rfl ⟨rfl,rfl,rfl,rfl,rfl,rfl,rfl,rfl⟩;obtain⟨d1,d2⟩:=b1.set (S':=vA S n o x l) hn (j:=2) (by decide) (Qa l) (fun c' j' _ jy=>alx { S with on:=upd S.on n o,ar:=upd S.ar n x } (vA S n o x l) n l rfl rfl rfl rfl rfl c' j' jy) rfl rfl rfl ⟨rfl,rfl,rfl,rfl,rfl,rfl,rfl,rfl⟩;exact⟨d1,(a2.trans b2).trans d2⟩
end
section
variable {w W:World} {ad:Nat->Addr} {B:bP} {X:bX} {wd h seed:Int} {S:af.St}
theorem CX (R:World->Prop):∃ (X:Type) (val:X->World),(∀ x,R (val x))/\∀ W,R W->∃ x,val x=W :=
 ⟨{ w:World // R w },fun x=>x.1,fun x=>x.2,fun W h=>⟨⟨W,h⟩,rfl⟩⟩
theorem aly (n:Nat) (a:Ask) (hne:a.c≠n) (W:World) (H:Hid (aD w W B X wd h seed S)) (hs:Hid (bO w ad)) :
  Calls Tryz.prog 165 #[Qc B.V,Qa n,bu a] W fun e w'=>e=.returned (gy ad 3)/\Qd W w':=by
 have g:=(H.out.sent hs.out).cell 2 (by decide);have g':W.cell? (Qb 3 0)=some (.iface 412 (.pointer (some (ad 2)))):=g;have hz:3<W.heap.size:=bCq W _ g;have hb:(a.c != (n:Int))=true:=by simpa using hne
 clear g hne;unfold bu aT;go_enter Tryz.func165,Tryz.ntmps165;go_wp2;go_ret;exact⟨rfl,(bRq _ _).alloc (lRq _) _⟩
theorem alz (n:Nat) (hn:n<6) (a:Ask) (hc:a.c=n) (rB:bg.tc (S.on n) (S.ar n) a=0) (W:World) (H:Hid (aD w W B X wd h seed S)) (hs:Hid (bO w ad)) :
  Calls Tryz.prog 165 #[Qc B.V,Qa n,bu a] W fun e w'=>e=.returned .nilIface/\aD w w' B X wd h seed (af.taken S n a)/\bf W w' B X X:=by
 have hb:(a.c != (n:Int))=false:=by simpa using hc
 have Yg:(n:Int)<6:=by omega
 have oT:Hid (af.taken S n a=vA S n (bg.iL (S.on n) (S.ar n) a) (bg.jl (S.on n) (S.ar n) a) (bg.gC (S.on n) (S.ar n) (S.la n) a S.now)):=rfl;have H1:Hid (aD w (W.alloc (.cells (aT a) 95)) B X wd h seed S):=H.out.later ((bRq _ _).alloc (lRq _) _);have HB1:Hid (Qd W (W.alloc (.cells (aT a) 95))):=(bRq _ _).alloc (lRq _) _;have HA:=hDq (hNq W (.cells (aT a) 95));have HT:Hid (∀ W',Below (W.alloc (.cells (aT a) 95)).heap.size (W.alloc (.cells (aT a) 95)) W'->Calls Tryz.prog 208 #[lx (S.on n) (S.ar n) (S.la n),bu a,Qa S.now] W' fun e w'=>e=.returned (.tuple #[lx (bg.iL (S.on n) (S.ar n) a) (bg.jl (S.on n) (S.ar n) a) (bg.gC (S.on n) (S.ar n) (S.la n) a S.now),.nilIface])/\Qd W' w'):=fun W' hb'=>by
  have:=Xx (S.on n) (S.ar n) (S.la n) S.now a W' ((H1.out.later hb').sent hs.out).Y7
  rw[rB]at this;exact this
 generalize af.taken S n a=DW at *;generalize bg.iL (S.on n) (S.ar n) a=to at *;generalize bg.jl (S.on n) (S.ar n) a=tn at *;generalize bg.gC (S.on n) (S.ar n) (S.la n) a S.now=tl at *;clear hc rB;unfold bu aT lx at *;go_enter Tryz.func165,Tryz.ntmps165;have a1:∀ q,(W.alloc (.cells #[.int .u8 a.k,Qa a.c,Qa a.sq,Qa a.it,Qa a.sd,Qa a.pr,Qa a.q,Qa a.id] 95)).cell? (Qb W.heap.size q)=(#[.int .u8 a.k,Qa a.c,Qa a.sq,Qa a.it,Qa a.sd,Qa a.pr,Qa a.q,Qa a.id]:Array Value)[q]?:=fun q=>cR _ _ q _ _ _ HA.out;go_wp2;clear a1;generalize W.alloc (.cells #[.int .u8 a.k,Qa a.c,Qa a.sq,Qa a.it,Qa a.sd,Qa a.pr,Qa a.q,Qa a.id] 95)=W1 at *;obtain⟨bH,val,hcl,aP⟩:=CX (fun W'=>W'.heap[B.V]?=some (.cells (jq B seed S) 114 (0,0))/\W'.heap[W.heap.size]?=some (.cells #[.int .u8 a.k,Qa a.c,Qa a.sq,Qa a.it,Qa a.sd,Qa a.pr,Qa a.q,Qa a.id] 95 (0,0)));have aR:Hid (∀ W',Qd W1 W'->∃ x,val x=W'):=fun W' hb=>aP W' ⟨(H1.out.later hb).blk,dG hb HA.out⟩;obtain⟨x0,hx0⟩:=aR.out W1.drew eO;have hnx:Nonempty bH:=⟨x0⟩;have s0:∀ x,(val x).cell? ⟨B.V,4+n*5,none⟩=some (.bool (S.on n)):=fun x=>by rw[cR _ _ _ _ _ _ (hcl x).1];exact ry B seed S hn (j:=0) (by decide)
 have s1:∀ x,(val x).cell? ⟨B.V,4+n*5+1,none⟩=some (Qa (S.ar n)):=fun x=>by rw[cR _ _ _ _ _ _ (hcl x).1];exact ry B seed S hn (j:=1) (by decide)
 have s2:∀ x,(val x).cell? ⟨B.V,4+n*5+2,none⟩=some (Qa (S.la n)):=fun x=>by rw[cR _ _ _ _ _ _ (hcl x).1];exact ry B seed S hn (j:=2) (by decide)
 have s3:∀ x,(val x).cell? (Qb B.V 34)=some (Qa S.now):=fun x=>by rw[cR _ _ _ _ _ _ (hcl x).1];rfl
 have e0:∀ x,(val x).cell? (Qb W.heap.size 0)=some (.int .u8 a.k):=fun x=>by rw[cR _ _ _ _ _ _ (hcl x).2];rfl
 have e1:∀ x,(val x).cell? (Qb W.heap.size 1)=some (Qa a.c):=fun x=>by rw[cR _ _ _ _ _ _ (hcl x).2];rfl
 have e2:∀ x,(val x).cell? (Qb W.heap.size 2)=some (Qa a.sq):=fun x=>by rw[cR _ _ _ _ _ _ (hcl x).2];rfl
 have e3:∀ x,(val x).cell? (Qb W.heap.size 3)=some (Qa a.it):=fun x=>by rw[cR _ _ _ _ _ _ (hcl x).2];rfl
 have e4:∀ x,(val x).cell? (Qb W.heap.size 4)=some (Qa a.sd):=fun x=>by rw[cR _ _ _ _ _ _ (hcl x).2];rfl
 have e5:∀ x,(val x).cell? (Qb W.heap.size 5)=some (Qa a.pr):=fun x=>by rw[cR _ _ _ _ _ _ (hcl x).2];rfl
 have e6:∀ x,(val x).cell? (Qb W.heap.size 6)=some (Qa a.q):=fun x=>by rw[cR _ _ _ _ _ _ (hcl x).2];rfl
 have e7:∀ x,(val x).cell? (Qb W.heap.size 7)=some (Qa a.id):=fun x=>by rw[cR _ _ _ _ _ _ (hcl x).2];rfl
 obtain⟨w4,hw4⟩:∃ w4,W1.drew=w4:=⟨_,rfl⟩;have cJ:Hid (Qd W1 w4):=by rw[<- hw4];exact eO
 clear aP hcl;refine t_ (val:=val) (fun D ai=>ai.heap[D]?=some (.cells #[.bool to,Qa tn,Qa tl] 107 (0,0))/\Qd W1 ai/\W1.heap.size<=D) (.read 0 (.read 1 (.read 2 (.read 3 (.read 4 (.read 5 (.read 6 (.read 7 (.read 8 (.read 9 (.read 10 (.read 11 (.two 12 (.read 13 (.read 14 (.read 15 (.one 16 (.one 17 (.read 18 .done)))))) 16 (.one 12 (.read 13 (.read 14 (.read 15 (.one 17 (.read 18 .done))))))))))))))))))) (by kernel_rfl) (by kernel_rfl) x0 hx0 ?_;apply Exists.intro;refine⟨?_,?_⟩
 case' refine_1 =>
  rw[hx0,hw4]
  iterate 12 (refine cr rfl (fun K hK=>?_);refine⟨by rfl,?_⟩;unfold aB;go_simp;refine hK _ ?_;clear hK K)
  refine⟨?_,?_⟩
  case refine_1 =>
   refine bW rfl (fun K hK=>?_);refine⟨by rfl,?_⟩;unfold aQ;go_simp;refine(HT.out _ cJ.out).mono ?_;rintro e wc ⟨rfl,hbc⟩;have dN:Hid (Qd W1 wc):=cJ.out.trans (hbc.mono cJ.out.size);refine⟨_,rfl,aR.out _ dN.out,hK _ _ ?_⟩;clear hK K hbc
   iterate 3 (refine cr rfl (fun K hK=>?_);refine⟨by rfl,?_⟩;unfold aB;go_simp;refine hK _ ?_;clear hK K)
   refine bW rfl (fun K hK=>?_);refine⟨by rfl,?_⟩;unfold aQ;go_simp;have av:=hDq (hNq wc (.cells #[.bool false,Qa 0,Qa 0] 107));have bZ:Hid (Qd W1 (wc.alloc (.cells #[.bool false,Qa 0,Qa 0] 107))):=dN.out.alloc dN.out.size _;have eE:Hid (W1.heap.size<=wc.heap.size):=dN.out.size;refine⟨aR.out _ bZ.out,hK _ _ ?_⟩;clear hK K;generalize wc.alloc (.cells #[.bool false,Qa 0,Qa 0] 107)=aj at *;generalize wc.heap.size=aL at *;have c0:aj.cell? (Qb aL 0)=some (.bool false):=by rw[cR _ _ 0 _ _ _ av.out];rfl
   have c1:aj.cell? (Qb aL 1)=some (Qa 0):=by rw[cR _ _ 1 _ _ _ av.out];rfl
   have c2:aj.cell? (Qb aL 2)=some (Qa 0):=by rw[cR _ _ 2 _ _ _ av.out];rfl
   have f0:aj.frozen? (Qb aL 0)=false:=by simp[World.frozen?,av.out]
   have f1:aj.frozen? (Qb aL 1)=false:=by simp[World.frozen?,av.out]
   have f2:aj.frozen? (Qb aL 2)=false:=by simp[World.frozen?,av.out]
   have HX:=hDq (xC av.out (.bool to) (Qa tn) (Qa tl));have qq:=hDq (xD bZ.out eE.out (.bool to) (Qa tn) (Qa tl));refine bW rfl (fun K hK=>?_);refine⟨by rfl,?_⟩;unfold aQ;go_simp;refine⟨aR.out _ qq.out,hK _ _ ?_⟩;clear hK K c0 c1 c2 f0 f1 f2;generalize ((aj.setCell (Qb aL 0) (.bool to)).setCell (Qb aL 1) (Qa tn)).setCell (Qb aL 2) (Qa tl)=wx at *;refine cr rfl (fun K hK=>?_);refine⟨by rfl,?_⟩;unfold aB;go_simp;refine hK _ ?_;clear hK K;refine ja ?_;exact⟨aL,rfl,HX.out,qq.out,eE.out⟩
  case refine_2 =>
   refine bW rfl (fun K hK=>?_);refine⟨by rfl,?_⟩;unfold aQ;go_simp;have jY:=hDq (hNq w4 (.cells #[.bool false,Qa 0,Qa 0] 107));have cG:Hid (Qd W1 (w4.alloc (.cells #[.bool false,Qa 0,Qa 0] 107))):=cJ.out.alloc cJ.out.size _;have eE:Hid (W1.heap.size<=w4.heap.size):=cJ.out.size;refine⟨aR.out _ cG.out,hK _ _ ?_⟩;clear hK K;generalize w4.alloc (.cells #[.bool false,Qa 0,Qa 0] 107)=iC at *;generalize w4.heap.size=aL at *;refine bW rfl (fun K hK=>?_);refine⟨by rfl,?_⟩;unfold aQ;go_simp;refine(HT.out _ cG.out).mono ?_;rintro e aj ⟨rfl,rC⟩;have av:=hDq (dG rC jY.out);have bZ:Hid (Qd W1 aj):=cG.out.trans (rC.mono cG.out.size);refine⟨_,rfl,aR.out _ bZ.out,hK _ _ ?_⟩;clear hK K rC jY cG
   iterate 3 (refine cr rfl (fun K hK=>?_);refine⟨by rfl,?_⟩;unfold aB;go_simp;refine hK _ ?_;clear hK K)
   have c0:aj.cell? (Qb aL 0)=some (.bool false):=by rw[cR _ _ 0 _ _ _ av.out];rfl
   have c1:aj.cell? (Qb aL 1)=some (Qa 0):=by rw[cR _ _ 1 _ _ _ av.out];rfl
   have c2:aj.cell? (Qb aL 2)=some (Qa 0):=by rw[cR _ _ 2 _ _ _ av.out];rfl
   have f0:aj.frozen? (Qb aL 0)=false:=by simp[World.frozen?,av.out]
   have f1:aj.frozen? (Qb aL 1)=false:=by simp[World.frozen?,av.out]
   have f2:aj.frozen? (Qb aL 2)=false:=by simp[World.frozen?,av.out]
   have HX:=hDq (xC av.out (.bool to) (Qa tn) (Qa tl));have qq:=hDq (xD bZ.out eE.out (.bool to) (Qa tn) (Qa tl));refine bW rfl (fun K hK=>?_);refine⟨by rfl,?_⟩;unfold aQ;go_simp;refine⟨aR.out _ qq.out,hK _ _ ?_⟩;clear hK K c0 c1 c2 f0 f1 f2;generalize ((aj.setCell (Qb aL 0) (.bool to)).setCell (Qb aL 1) (Qa tn)).setCell (Qb aL 2) (Qa tl)=wx at *;refine cr rfl (fun K hK=>?_);refine⟨by rfl,?_⟩;unfold aB;go_simp;refine hK _ ?_;clear hK K;refine ja ?_;exact⟨aL,rfl,HX.out,qq.out,eE.out⟩
 intro D ai ⟨IB,hb6,O4⟩;clear hx0 hw4 s0 s1 s2 s3 e0 e1 e2 e3 e4 e5 e6 e7 aR cJ;clear x0 hnx;clear val;clear bH;have HD:=hDq IB;have aY:=hDq hb6;have apw:B.V<D:=Nat.lt_of_lt_of_le H1.out.lt O4;have kP:=hDq (H1.out.later hb6);clear IB hb6;have d0:ai.cell? (Qb D 0)=some (.bool to):=by rw[cR _ _ 0 _ _ _ HD.out];rfl
 have d1:ai.cell? (Qb D 1)=some (Qa tn):=by rw[cR _ _ 1 _ _ _ HD.out];rfl
 have d2:ai.cell? (Qb D 2)=some (Qa tl):=by rw[cR _ _ 2 _ _ _ HD.out];rfl
 have c0:ai.cell? ⟨B.V,4+n*5,none⟩=some (.bool (S.on n)):=kP.out.conn hn (j:=0) (by decide);have c1:ai.cell? ⟨B.V,4+n*5+1,none⟩=some (Qa (S.ar n)):=kP.out.conn hn (j:=1) (by decide);have c2:ai.cell? ⟨B.V,4+n*5+2,none⟩=some (Qa (S.la n)):=kP.out.conn hn (j:=2) (by decide);have f0:=kP.out.free (4+n*5);have f1:=kP.out.free (4+n*5+1);have f2:=kP.out.free (4+n*5+2);go_wp2
 go_region
 go_wp2;go_ret;obtain⟨h7,h8⟩:=kP.out.Yi hn to tn tl;exact⟨rfl,by rw[oT.out];exact h7.later eO,(bf.of_below (HB1.out.trans (aY.out.mono HB1.out.size)) B X).trans (h8.below eO)⟩
theorem alA (n:Nat) (hn:n<6) (a:Ask) (hc:a.c=n) (d:Nat) (rB:bg.tc (S.on n) (S.ar n) a=d+1) (W:World) (H:Hid (aD w W B X wd h seed S)) (hs:Hid (bO w ad)) :
  Calls Tryz.prog 165 #[Qc B.V,Qa n,bu a] W fun e w'=>e=.returned (.iface 412 (.pointer (some (ad d))))/\Qd W w':=by
 have hb:(a.c != (n:Int))=false:=by simpa using hc
 have Yg:(n:Int)<6:=by omega
 have H1:Hid (aD w (W.alloc (.cells (aT a) 95)) B X wd h seed S):=H.out.later ((bRq _ _).alloc (lRq _) _);have HB1:Hid (Qd W (W.alloc (.cells (aT a) 95))):=(bRq _ _).alloc (lRq _) _;have HA:=hDq (hNq W (.cells (aT a) 95));have HT:Hid (∀ W',Below (W.alloc (.cells (aT a) 95)).heap.size (W.alloc (.cells (aT a) 95)) W'->Calls Tryz.prog 208 #[lx (S.on n) (S.ar n) (S.la n),bu a,Qa S.now] W' fun e w'=>e=.returned (.tuple #[lx (bg.iL (S.on n) (S.ar n) a) (bg.jl (S.on n) (S.ar n) a) (bg.gC (S.on n) (S.ar n) (S.la n) a S.now),.iface 412 (.pointer (some (ad d)))])/\Qd W' w'):=fun W' hb'=>by
  have:=Xx (S.on n) (S.ar n) (S.la n) S.now a W' ((H1.out.later hb').sent hs.out).Y7
  rw[rB]at this;exact this
 generalize bg.iL (S.on n) (S.ar n) a=to at *;generalize bg.jl (S.on n) (S.ar n) a=tn at *;generalize bg.gC (S.on n) (S.ar n) (S.la n) a S.now=tl at *;clear hc rB;unfold bu aT lx at *;go_enter Tryz.func165,Tryz.ntmps165;have a1:∀ q,(W.alloc (.cells #[.int .u8 a.k,Qa a.c,Qa a.sq,Qa a.it,Qa a.sd,Qa a.pr,Qa a.q,Qa a.id] 95)).cell? (Qb W.heap.size q)=(#[.int .u8 a.k,Qa a.c,Qa a.sq,Qa a.it,Qa a.sd,Qa a.pr,Qa a.q,Qa a.id]:Array Value)[q]?:=fun q=>cR _ _ q _ _ _ HA.out;go_wp2;clear a1;generalize W.alloc (.cells #[.int .u8 a.k,Qa a.c,Qa a.sq,Qa a.it,Qa a.sd,Qa a.pr,Qa a.q,Qa a.id] 95)=W1 at *;obtain⟨bH,val,hcl,aP⟩:=CX (fun W'=>W'.heap[B.V]?=some (.cells (jq B seed S) 114 (0,0))/\W'.heap[W.heap.size]?=some (.cells #[.int .u8 a.k,Qa a.c,Qa a.sq,Qa a.it,Qa a.sd,Qa a.pr,Qa a.q,Qa a.id] 95 (0,0)));have aR:Hid (∀ W',Qd W1 W'->∃ x,val x=W'):=fun W' hb=>aP W' ⟨(H1.out.later hb).blk,dG hb HA.out⟩;obtain⟨x0,hx0⟩:=aR.out W1.drew eO;have hnx:Nonempty bH:=⟨x0⟩;have s0:∀ x,(val x).cell? ⟨B.V,4+n*5,none⟩=some (.bool (S.on n)):=fun x=>by rw[cR _ _ _ _ _ _ (hcl x).1];exact ry B seed S hn (j:=0) (by decide)
 have s1:∀ x,(val x).cell? ⟨B.V,4+n*5+1,none⟩=some (Qa (S.ar n)):=fun x=>by rw[cR _ _ _ _ _ _ (hcl x).1];exact ry B seed S hn (j:=1) (by decide)
 have s2:∀ x,(val x).cell? ⟨B.V,4+n*5+2,none⟩=some (Qa (S.la n)):=fun x=>by rw[cR _ _ _ _ _ _ (hcl x).1];exact ry B seed S hn (j:=2) (by decide)
 have s3:∀ x,(val x).cell? (Qb B.V 34)=some (Qa S.now):=fun x=>by rw[cR _ _ _ _ _ _ (hcl x).1];rfl
 have e0:∀ x,(val x).cell? (Qb W.heap.size 0)=some (.int .u8 a.k):=fun x=>by rw[cR _ _ _ _ _ _ (hcl x).2];rfl
 have e1:∀ x,(val x).cell? (Qb W.heap.size 1)=some (Qa a.c):=fun x=>by rw[cR _ _ _ _ _ _ (hcl x).2];rfl
 have e2:∀ x,(val x).cell? (Qb W.heap.size 2)=some (Qa a.sq):=fun x=>by rw[cR _ _ _ _ _ _ (hcl x).2];rfl
 have e3:∀ x,(val x).cell? (Qb W.heap.size 3)=some (Qa a.it):=fun x=>by rw[cR _ _ _ _ _ _ (hcl x).2];rfl
 have e4:∀ x,(val x).cell? (Qb W.heap.size 4)=some (Qa a.sd):=fun x=>by rw[cR _ _ _ _ _ _ (hcl x).2];rfl
 have e5:∀ x,(val x).cell? (Qb W.heap.size 5)=some (Qa a.pr):=fun x=>by rw[cR _ _ _ _ _ _ (hcl x).2];rfl
 have e6:∀ x,(val x).cell? (Qb W.heap.size 6)=some (Qa a.q):=fun x=>by rw[cR _ _ _ _ _ _ (hcl x).2];rfl
 have e7:∀ x,(val x).cell? (Qb W.heap.size 7)=some (Qa a.id):=fun x=>by rw[cR _ _ _ _ _ _ (hcl x).2];rfl
 obtain⟨w4,hw4⟩:∃ w4,W1.drew=w4:=⟨_,rfl⟩;have cJ:Hid (Qd W1 w4):=by rw[<- hw4];exact eO
 clear aP hcl;refine t_ (val:=val) (fun D ai=>ai.heap[D]?=some (.cells #[.bool to,Qa tn,Qa tl] 107 (0,0))/\Qd W1 ai/\W1.heap.size<=D) (.read 0 (.read 1 (.read 2 (.read 3 (.read 4 (.read 5 (.read 6 (.read 7 (.read 8 (.read 9 (.read 10 (.read 11 (.two 12 (.read 13 (.read 14 (.read 15 (.one 16 (.one 17 (.read 18 .done)))))) 16 (.one 12 (.read 13 (.read 14 (.read 15 (.one 17 (.read 18 .done))))))))))))))))))) (by kernel_rfl) (by kernel_rfl) x0 hx0 ?_;apply Exists.intro;refine⟨?_,?_⟩
 case' refine_1 =>
  rw[hx0,hw4]
  iterate 12 (refine cr rfl (fun K hK=>?_);refine⟨by rfl,?_⟩;unfold aB;go_simp;refine hK _ ?_;clear hK K)
  refine⟨?_,?_⟩
  case refine_1 =>
   refine bW rfl (fun K hK=>?_);refine⟨by rfl,?_⟩;unfold aQ;go_simp;refine(HT.out _ cJ.out).mono ?_;rintro e wc ⟨rfl,hbc⟩;have dN:Hid (Qd W1 wc):=cJ.out.trans (hbc.mono cJ.out.size);refine⟨_,rfl,aR.out _ dN.out,hK _ _ ?_⟩;clear hK K hbc
   iterate 3 (refine cr rfl (fun K hK=>?_);refine⟨by rfl,?_⟩;unfold aB;go_simp;refine hK _ ?_;clear hK K)
   refine bW rfl (fun K hK=>?_);refine⟨by rfl,?_⟩;unfold aQ;go_simp;have av:=hDq (hNq wc (.cells #[.bool false,Qa 0,Qa 0] 107));have bZ:Hid (Qd W1 (wc.alloc (.cells #[.bool false,Qa 0,Qa 0] 107))):=dN.out.alloc dN.out.size _;have eE:Hid (W1.heap.size<=wc.heap.size):=dN.out.size;refine⟨aR.out _ bZ.out,hK _ _ ?_⟩;clear hK K;generalize wc.alloc (.cells #[.bool false,Qa 0,Qa 0] 107)=aj at *;generalize wc.heap.size=aL at *;have c0:aj.cell? (Qb aL 0)=some (.bool false):=by rw[cR _ _ 0 _ _ _ av.out];rfl
   have c1:aj.cell? (Qb aL 1)=some (Qa 0):=by rw[cR _ _ 1 _ _ _ av.out];rfl
   have c2:aj.cell? (Qb aL 2)=some (Qa 0):=by rw[cR _ _ 2 _ _ _ av.out];rfl
   have f0:aj.frozen? (Qb aL 0)=false:=by simp[World.frozen?,av.out]
   have f1:aj.frozen? (Qb aL 1)=false:=by simp[World.frozen?,av.out]
   have f2:aj.frozen? (Qb aL 2)=false:=by simp[World.frozen?,av.out]
   have HX:=hDq (xC av.out (.bool to) (Qa tn) (Qa tl));have qq:=hDq (xD bZ.out eE.out (.bool to) (Qa tn) (Qa tl));refine bW rfl (fun K hK=>?_);refine⟨by rfl,?_⟩;unfold aQ;go_simp;refine⟨aR.out _ qq.out,hK _ _ ?_⟩;clear hK K c0 c1 c2 f0 f1 f2;generalize ((aj.setCell (Qb aL 0) (.bool to)).setCell (Qb aL 1) (Qa tn)).setCell (Qb aL 2) (Qa tl)=wx at *;refine cr rfl (fun K hK=>?_);refine⟨by rfl,?_⟩;unfold aB;go_simp;refine hK _ ?_;clear hK K;refine ja ?_;exact⟨aL,rfl,HX.out,qq.out,eE.out⟩
  case refine_2 =>
   refine bW rfl (fun K hK=>?_);refine⟨by rfl,?_⟩;unfold aQ;go_simp;have jY:=hDq (hNq w4 (.cells #[.bool false,Qa 0,Qa 0] 107));have cG:Hid (Qd W1 (w4.alloc (.cells #[.bool false,Qa 0,Qa 0] 107))):=cJ.out.alloc cJ.out.size _;have eE:Hid (W1.heap.size<=w4.heap.size):=cJ.out.size;refine⟨aR.out _ cG.out,hK _ _ ?_⟩;clear hK K;generalize w4.alloc (.cells #[.bool false,Qa 0,Qa 0] 107)=iC at *;generalize w4.heap.size=aL at *;refine bW rfl (fun K hK=>?_);refine⟨by rfl,?_⟩;unfold aQ;go_simp;refine(HT.out _ cG.out).mono ?_;rintro e aj ⟨rfl,rC⟩;have av:=hDq (dG rC jY.out);have bZ:Hid (Qd W1 aj):=cG.out.trans (rC.mono cG.out.size);refine⟨_,rfl,aR.out _ bZ.out,hK _ _ ?_⟩;clear hK K rC jY cG
   iterate 3 (refine cr rfl (fun K hK=>?_);refine⟨by rfl,?_⟩;unfold aB;go_simp;refine hK _ ?_;clear hK K)
   have c0:aj.cell? (Qb aL 0)=some (.bool false):=by rw[cR _ _ 0 _ _ _ av.out];rfl
   have c1:aj.cell? (Qb aL 1)=some (Qa 0):=by rw[cR _ _ 1 _ _ _ av.out];rfl
   have c2:aj.cell? (Qb aL 2)=some (Qa 0):=by rw[cR _ _ 2 _ _ _ av.out];rfl
   have f0:aj.frozen? (Qb aL 0)=false:=by simp[World.frozen?,av.out]
   have f1:aj.frozen? (Qb aL 1)=false:=by simp[World.frozen?,av.out]
   have f2:aj.frozen? (Qb aL 2)=false:=by simp[World.frozen?,av.out]
   have HX:=hDq (xC av.out (.bool to) (Qa tn) (Qa tl));have qq:=hDq (xD bZ.out eE.out (.bool to) (Qa tn) (Qa tl));refine bW rfl (fun K hK=>?_);refine⟨by rfl,?_⟩;unfold aQ;go_simp;refine⟨aR.out _ qq.out,hK _ _ ?_⟩;clear hK K c0 c1 c2 f0 f1 f2;generalize ((aj.setCell (Qb aL 0) (.bool to)).setCell (Qb aL 1) (Qa tn)).setCell (Qb aL 2) (Qa tl)=wx at *;refine cr rfl (fun K hK=>?_);refine⟨by rfl,?_⟩;unfold aB;go_simp;refine hK _ ?_;clear hK K;refine ja ?_;exact⟨aL,rfl,HX.out,qq.out,eE.out⟩
 intro D ai ⟨IB,hb6,O4⟩;clear hx0 hw4 s0 s1 s2 s3 e0 e1 e2 e3 e4 e5 e6 e7 aR cJ;clear x0 hnx;clear val;clear bH;have aY:=hDq hb6;clear IB hb6 O4;go_wp2;go_ret;exact⟨rfl,HB1.out.trans (aY.out.mono HB1.out.size)⟩
theorem Ij (n:Nat) (hn:n<6) (a:Ask) (W:World) (H:aD w W B X wd h seed S) (hs:bO w ad) :
  Calls Tryz.prog 165 #[Qc B.V,Qa n,bu a] W fun e w'=>e=.returned (gy ad (af.takeC S n a))/\aD w w' B X wd h seed (af.lZ S n a)/\bf W w' B X X:=by
 by_cases hc:a.c=n
 .have e1:af.takeC S n a=bg.tc (S.on n) (S.ar n) a:=by unfold af.takeC;rw[if_pos hc]
  cases rB:bg.tc (S.on n) (S.ar n) a with
  | zero =>
   rw[rB]at e1;have e2:af.lZ S n a=af.taken S n a:=by unfold af.lZ;rw[if_pos e1]
   rw[e1,e2];exact alz n hn a hc rB W H hs
  | succ d =>
   rw[rB]at e1;have e2:af.lZ S n a=S:=by unfold af.lZ;rw[if_neg (by omega)]
   rw[e1,e2];refine(alA n hn a hc d rB W H hs).mono ?_;rintro e w' ⟨rfl,hb⟩;exact⟨rfl,H.later hb,bf.of_below hb B X⟩
 .have e1:af.takeC S n a=3:=by unfold af.takeC;rw[if_neg hc]
  have e2:af.lZ S n a=S:=by unfold af.lZ;rw[if_neg (by omega)]
  rw[e1,e2];refine(aly n a hc W H hs).mono ?_;rintro e w' ⟨rfl,hb⟩;exact⟨rfl,H.later hb,bf.of_below hb B X⟩
end
def o6 (a:Ask) (cd:Nat):Value:=.agg #[.int .u8 a.k,Qa a.c,Qa a.sq,Qa a.it,Qa a.sd,Qa a.pr,Qa a.q,Qa a.id,Qa cd]
def ej (a:Ask) (cd:Nat):Array Value:=#[.int .u8 a.k,Qa a.c,Qa a.sq,Qa a.it,Qa a.sd,Qa a.pr,Qa a.q,Qa a.id,Qa cd]
def fu:Array Value:=#[Qa 0,.string ⟨#[]⟩,Qa 0,Qa 0,Qa 0,Qa 0]
section
variable {w W W':World} {ad:Nat->Addr} {B:bP} {X X':bX} {wd h seed:Int} {S:af.St}
theorem bf.other {k n:Nat} {o:Obj} (hs:bf W W' B X X') (ho:∀ j,dH B X j->j<n) (hk:n<=k) (hb:W.heap[k]?=some o):W'.heap[k]?=some o:=by
 rw[hs.turned.block k (lBq hb) (fun e=>by have:=ho k e;omega)];exact hb
theorem aD.beside {q:Nat} {cur:Array Value} {e:TypeId} {fz:Nat×Nat} (H:aD w W B X wd h seed S) (hk:W.heap[q]?=some (.cells cur e fz)) (he:e≠114/\e≠213/\e≠267/\e≠276/\e≠197/\e≠232/\e≠95/\e≠117/\e≠5) (OA:e≠210) (hlo:w.heap.size<=q) (hs:aM W W' q):aD w W' B X wd h seed S :=
 H.aside (T:=fun k=>k=q) ⟨hs.os,hs.tape,hs.output,hs.size,fun k hk hn=>hs.block k hk hn⟩ (Ne.symm (aI hk H.fl.blk OA)) (fun k hv e=>uO H hk he (by rw[<- e];exact hv)) (fun k e=>by rw[e];exact hlo)
theorem bf.beside {W1 W2:World} {q:Nat} (hs:bf W W1 B X X') (h:aM W1 W2 q) (hq:W.heap.size<=q):bf W W2 B X X' :=
 ⟨hs.turned.trans (S1:=fun k=>k=q) ⟨h.os,h.tape,h.output,h.size,fun k hk hn=>h.block k hk hn⟩ (fun k e=>.inr (by rw[e];exact hq)),hs.new⟩
def zE (w W W':World) (e:Ending) (B:bP) (X:bX) (wd h seed:Int) (R:List af.cy) (S':af.St):Prop :=
 ∃ r b,e=.returned (.tuple #[j_ r,.bool b])/\R=(if b=true then [r] else [])/\∃ X',aD w W' B X' wd h seed S'/\bf W W' B X X'
theorem aks (n:Nat) (a:Ask) (cd:Nat) (hcd:cd≠0) (W:World) (H:Hid (aD w W B X wd h seed S)) :
  Calls Tryz.prog 99 #[Qc B.V,Qa n,o6 a cd] W fun e w'=>zE w W w' e B X wd h seed [af.gD n 0 cd] S:=by
 have hc:((cd:Int) != 0)=true:=by simpa using hcd
 have HB:Hid (Qd W ((W.alloc (.cells (ej a cd) 186)).alloc (.cells #[Qa n,.string af.nY,Qa 0,Qa 0,Qa 0,Qa cd] 121))):=((bRq _ _).alloc (lRq _) _).alloc (by simp) _;unfold o6;unfold ej af.nY at HB;go_enter Tryz.func99,Tryz.ntmps99;go_wp2;refine bodyPost_ret (v:=.tuple #[j_ (af.gD n 0 cd),.bool true]) (by simp[results,Tryz.results99,go_sem,j_,fZ,af.gD,af.nY]) rfl ⟨_,_,rfl,rfl,X,H.out.later HB.out,bf.of_below HB.out B X⟩
theorem akt (n:Nat) (hn:n<6) (a:Ask) (d:Nat) (hd:af.takeC S n a=d+1) (aku:d+1<=12) (W:World) (H:Hid (aD w W B X wd h seed S)) (hs:Hid (bO w ad)) :
  Calls Tryz.prog 99 #[Qc B.V,Qa n,o6 a 0] W fun e w'=>zE w W w' e B X wd h seed [af.gD n a.id (d+1)] S:=by
 have au:Hid (Qd W (((W.alloc (.cells (ej a 0) 186)).alloc (.cells fu 121)).alloc (.cells (aT a) 95))):=(((bRq _ _).alloc (lRq _) _).alloc (by simp) _).alloc (by simp;omega) _;have HR3:Hid ((((W.alloc (.cells (ej a 0) 186)).alloc (.cells fu 121)).alloc (.cells (aT a) 95)).heap[W.heap.size+1]?=some (.cells fu 121 (0,0))):=by
  have h:=hNq (W.alloc (.cells (ej a 0) 186)) (.cells fu 121);rw[show (W.alloc (.cells (ej a 0) 186)).heap.size=W.heap.size+1 by simp]at h;exact(Below.heap_alloc _ _ _ (by simp)).trans h
 have jE:Hid ((((W.alloc (.cells (ej a 0) 186)).alloc (.cells fu 121)).alloc (.cells (aT a) 95)).heap[W.heap.size+2]?=some (.cells (aT a) 95 (0,0))):=by
  have h:=hNq ((W.alloc (.cells (ej a 0) 186)).alloc (.cells fu 121)) (.cells (aT a) 95);rw[show ((W.alloc (.cells (ej a 0) 186)).alloc (.cells fu 121)).heap.size=W.heap.size+2 by simp]at h;exact h
 have HT:=hDq (Ij n hn a _ (H.out.later au.out) hs.out);rw[hd,show gy ad (d+1)=.iface 412 (.pointer (some (ad d))) from rfl,show af.lZ S n a=S by unfold af.lZ;rw[if_neg (by omega)]]at HT;have HF:=hDq (fun W' (H':aD w W' B X wd h seed S)=>Ym n a.id (d+1) aku W' (H'.sent hs.out));rw[show gy ad (d+1)=.iface 412 (.pointer (some (ad d))) from rfl]at HF;clear hd;unfold o6;unfold ej fu bu aT at *;go_enter Tryz.func99,Tryz.ntmps99
 go_wp2_with fail
 refine HT.out.mono ?_;rintro e w4 ⟨rfl,h4,dm⟩;have ee:=hDq h4;have cq:=hDq (bf.trans (bf.of_below au.out B X) dm);have ho:∀ j,dH B X j->j<W.heap.size:=fun j hj=>(H.out.fj hj).2;have bR:=hDq (dm.other ho (by omega) HR3.out);have eB:=hDq (dm.other ho (by omega) jE.out);clear h4 dm HT au HR3 jE;have a7:w4.cell? ⟨W.heap.size+2,7,none⟩=some (Qa a.id):=by rw[cR _ _ 7 _ _ _ eB.out];rfl
 simp only[]
 go_wp2_with fail
 refine(HF.out w4 ee.out).mono ?_;rintro e aC ⟨rfl,di⟩;have H5:=hDq (ee.out.later di);have d_:=hDq (cq.out.below di);have bA:=hDq (dG di bR.out);clear di ee cq bR eB a7 HF;have c0:aC.cell? ⟨W.heap.size+1,0,none⟩=some (Qa 0):=by rw[cR _ _ 0 _ _ _ bA.out];rfl
 have c1:aC.cell? ⟨W.heap.size+1,1,none⟩=some (.string ⟨#[]⟩):=by rw[cR _ _ 1 _ _ _ bA.out];rfl
 have c2:aC.cell? ⟨W.heap.size+1,2,none⟩=some (Qa 0):=by rw[cR _ _ 2 _ _ _ bA.out];rfl
 have c3:aC.cell? ⟨W.heap.size+1,3,none⟩=some (Qa 0):=by rw[cR _ _ 3 _ _ _ bA.out];rfl
 have c4:aC.cell? ⟨W.heap.size+1,4,none⟩=some (Qa 0):=by rw[cR _ _ 4 _ _ _ bA.out];rfl
 have c5:aC.cell? ⟨W.heap.size+1,5,none⟩=some (Qa 0):=by rw[cR _ _ 5 _ _ _ bA.out];rfl
 have fz:∀ j,aC.frozen? ⟨W.heap.size+1,j,none⟩=false:=fun j=>by simp[World.frozen?,bA.out]
 have HX:=hDq (C_ bA.out (Qa n) (.string af.nY) (Qa a.id) (Qa 0) (Qa 0) (Qa ((d:Int)+1)));have b9:=hDq (Ik aC (W.heap.size+1) (Qa n) (.string af.nY) (Qa a.id) (Qa 0) (Qa 0) (Qa ((d:Int)+1)));unfold j_ fZ af.gD af.nY;unfold af.nY at HX b9;simp only[];go_wp2;generalize (((((aC.setCell ⟨W.heap.size+1,0,none⟩ (Qa n)).setCell ⟨W.heap.size+1,1,none⟩ (.string ⟨#[114,101,102,117,115,101,100]⟩)).setCell ⟨W.heap.size+1,2,none⟩ (Qa a.id)).setCell ⟨W.heap.size+1,3,none⟩ (Qa 0)).setCell ⟨W.heap.size+1,4,none⟩ (Qa 0)).setCell ⟨W.heap.size+1,5,none⟩ (Qa ((d:Int)+1))=ai at *;have R:∀ j,ai.cell? ⟨W.heap.size+1,j,none⟩=_:=fun j=>cR ai _ j _ 121 _ HX.out;have xJ:=hDq (H5.out.beside bA.out (by decide) (by decide) (by have:=H.out.bG.size;omega) b9.out);have dA:=hDq (d_.out.beside b9.out (by omega));refine bodyPost_ret (v:=.tuple #[j_ (af.gD n a.id (d+1)),.bool true]) (by simp[results,Tryz.results99,go_sem,R,j_,fZ,af.gD,af.nY]) rfl ⟨_,_,rfl,rfl,X,xJ.out,dA.out⟩
theorem akv (n:Nat) (hn:n<6) (a:Ask) (hd:af.takeC S n a=0) (hk:af.qo a=false) (hq:a.k≠113) (W:World) (H:Hid (aD w W B X wd h seed S)) (hs:Hid (bO w ad)) :
  Calls Tryz.prog 99 #[Qc B.V,Qa n,o6 a 0] W fun e w'=>zE w W w' e B X wd h seed [] (af.taken S n a):=by
 have hk1:(a.k==111)=false:=by unfold af.qo at hk;simp only[Bool.or_eq_false_iff]at hk;exact hk.1
 have hk2:(a.k==99)=false:=by unfold af.qo at hk;simp only[Bool.or_eq_false_iff]at hk;exact hk.2
 have hk3:(a.k==113)=false:=by simpa using hq
 have au:Hid (Qd W (((W.alloc (.cells (ej a 0) 186)).alloc (.cells fu 121)).alloc (.cells (aT a) 95))):=(((bRq _ _).alloc (lRq _) _).alloc (by simp) _).alloc (by simp;omega) _;have HR3:Hid ((((W.alloc (.cells (ej a 0) 186)).alloc (.cells fu 121)).alloc (.cells (aT a) 95)).heap[W.heap.size+1]?=some (.cells fu 121 (0,0))):=by
  have h:=hNq (W.alloc (.cells (ej a 0) 186)) (.cells fu 121);rw[show (W.alloc (.cells (ej a 0) 186)).heap.size=W.heap.size+1 by simp]at h;exact(Below.heap_alloc _ _ _ (by simp)).trans h
 have jE:Hid ((((W.alloc (.cells (ej a 0) 186)).alloc (.cells fu 121)).alloc (.cells (aT a) 95)).heap[W.heap.size+2]?=some (.cells (aT a) 95 (0,0))):=by
  have h:=hNq ((W.alloc (.cells (ej a 0) 186)).alloc (.cells fu 121)) (.cells (aT a) 95);rw[show ((W.alloc (.cells (ej a 0) 186)).alloc (.cells fu 121)).heap.size=W.heap.size+2 by simp]at h;exact h
 have HT:=hDq (Ij n hn a _ (H.out.later au.out) hs.out);rw[hd,show gy ad 0=.nilIface from rfl,show af.lZ S n a=af.taken S n a by unfold af.lZ;rw[if_pos hd]]at HT;clear hd hk hq;unfold o6;unfold ej fu bu aT at *;go_enter Tryz.func99,Tryz.ntmps99
 go_wp2_with fail
 refine HT.out.mono ?_;rintro e aC ⟨rfl,h5,hs5⟩;have H5:=hDq h5;have d_:=hDq (bf.trans (bf.of_below au.out B X) hs5);have ho:∀ j,dH B X j->j<W.heap.size:=fun j hj=>(H.out.fj hj).2;have bA:=hDq (hs5.other ho (by omega) HR3.out);have vB:=hDq (hs5.other ho (by omega) jE.out);clear h5 hs5 HT au HR3 jE;have a0:aC.cell? ⟨W.heap.size+2,0,none⟩=some (.int .u8 a.k):=by rw[cR _ _ 0 _ _ _ vB.out];rfl
 have c0:aC.cell? ⟨W.heap.size+1,0,none⟩=some (Qa 0):=by rw[cR _ _ 0 _ _ _ bA.out];rfl
 have c1:aC.cell? ⟨W.heap.size+1,1,none⟩=some (.string ⟨#[]⟩):=by rw[cR _ _ 1 _ _ _ bA.out];rfl
 have c2:aC.cell? ⟨W.heap.size+1,2,none⟩=some (Qa 0):=by rw[cR _ _ 2 _ _ _ bA.out];rfl
 have c3:aC.cell? ⟨W.heap.size+1,3,none⟩=some (Qa 0):=by rw[cR _ _ 3 _ _ _ bA.out];rfl
 have c4:aC.cell? ⟨W.heap.size+1,4,none⟩=some (Qa 0):=by rw[cR _ _ 4 _ _ _ bA.out];rfl
 have c5:aC.cell? ⟨W.heap.size+1,5,none⟩=some (Qa 0):=by rw[cR _ _ 5 _ _ _ bA.out];rfl
 have fz:∀ j,aC.frozen? ⟨W.heap.size+1,j,none⟩=false:=fun j=>by simp[World.frozen?,bA.out]
 have HX:=hDq (C_ bA.out (Qa 0) (.string ⟨#[]⟩) (Qa 0) (Qa 0) (Qa 0) (Qa 0));have b9:=hDq (Ik aC (W.heap.size+1) (Qa 0) (.string ⟨#[]⟩) (Qa 0) (Qa 0) (Qa 0) (Qa 0));simp only[];go_wp2;generalize (((((aC.setCell ⟨W.heap.size+1,0,none⟩ (Qa 0)).setCell ⟨W.heap.size+1,1,none⟩ (.string ⟨#[]⟩)).setCell ⟨W.heap.size+1,2,none⟩ (Qa 0)).setCell ⟨W.heap.size+1,3,none⟩ (Qa 0)).setCell ⟨W.heap.size+1,4,none⟩ (Qa 0)).setCell ⟨W.heap.size+1,5,none⟩ (Qa 0)=ai at *;have R:∀ j,ai.cell? ⟨W.heap.size+1,j,none⟩=_:=fun j=>cR ai _ j _ 121 _ HX.out;have xJ:=hDq (H5.out.beside bA.out (by decide) (by decide) (by have:=H.out.bG.size;omega) b9.out);have dA:=hDq (d_.out.beside b9.out (by omega));refine bodyPost_ret (v:=.tuple #[j_ (⟨0,⟨#[]⟩,0,0,0,0⟩),.bool false]) (by simp[results,Tryz.results99,go_sem,R,j_,fZ]) rfl ⟨_,_,rfl,rfl,X,xJ.out,dA.out⟩
theorem akw (n:Nat) (hn:n<6) (a:Ask) (hd:af.takeC S n a=0) (hq:a.k=113) (W:World) (H:Hid (aD w W B X wd h seed S)) (hs:Hid (bO w ad)) :
  Calls Tryz.prog 99 #[Qc B.V,Qa n,o6 a 0] W fun e w'=>zE w W w' e B X wd h seed [] (af.leave (af.taken S n a) n):=by
 have hk1:(a.k==111)=false:=by rw[hq];rfl
 have hk2:(a.k==99)=false:=by rw[hq];rfl
 have hk3:(a.k==113)=true:=by rw[hq];rfl
 have au:Hid (Qd W (((W.alloc (.cells (ej a 0) 186)).alloc (.cells fu 121)).alloc (.cells (aT a) 95))):=(((bRq _ _).alloc (lRq _) _).alloc (by simp) _).alloc (by simp;omega) _;have HR3:Hid ((((W.alloc (.cells (ej a 0) 186)).alloc (.cells fu 121)).alloc (.cells (aT a) 95)).heap[W.heap.size+1]?=some (.cells fu 121 (0,0))):=by
  have h:=hNq (W.alloc (.cells (ej a 0) 186)) (.cells fu 121);rw[show (W.alloc (.cells (ej a 0) 186)).heap.size=W.heap.size+1 by simp]at h;exact(Below.heap_alloc _ _ _ (by simp)).trans h
 have jE:Hid ((((W.alloc (.cells (ej a 0) 186)).alloc (.cells fu 121)).alloc (.cells (aT a) 95)).heap[W.heap.size+2]?=some (.cells (aT a) 95 (0,0))):=by
  have h:=hNq ((W.alloc (.cells (ej a 0) 186)).alloc (.cells fu 121)) (.cells (aT a) 95);rw[show ((W.alloc (.cells (ej a 0) 186)).alloc (.cells fu 121)).heap.size=W.heap.size+2 by simp]at h;exact h
 have HT:=hDq (Ij n hn a _ (H.out.later au.out) hs.out);rw[hd,show gy ad 0=.nilIface from rfl,show af.lZ S n a=af.taken S n a by unfold af.lZ;rw[if_pos hd]]at HT;clear hd hq;unfold o6;unfold ej fu bu aT at *;go_enter Tryz.func99,Tryz.ntmps99
 go_wp2_with fail
 refine HT.out.mono ?_;rintro e w4 ⟨rfl,h4,dm⟩;have ee:=hDq h4;have cq:=hDq (bf.trans (bf.of_below au.out B X) dm);have ho:∀ j,dH B X j->j<W.heap.size:=fun j hj=>(H.out.fj hj).2;have bR:=hDq (dm.other ho (by omega) HR3.out);have eB:=hDq (dm.other ho (by omega) jE.out);clear h4 dm HT au HR3 jE;have a0:w4.cell? ⟨W.heap.size+2,0,none⟩=some (.int .u8 a.k):=by rw[cR _ _ 0 _ _ _ eB.out];rfl
 simp only[]
 go_wp2_with fail
 refine(Yl n hn w4 ee.out).mono ?_;rintro e aC ⟨rfl,qb,h5,hs5⟩;have H5:=hDq h5;have d_:=hDq (cq.out.trans hs5);have bA:=hDq (hs5.block ee.out bR.out (by decide));clear h5 hs5 ee cq bR eB a0;have c0:aC.cell? ⟨W.heap.size+1,0,none⟩=some (Qa 0):=by rw[cR _ _ 0 _ _ _ bA.out];rfl
 have c1:aC.cell? ⟨W.heap.size+1,1,none⟩=some (.string ⟨#[]⟩):=by rw[cR _ _ 1 _ _ _ bA.out];rfl
 have c2:aC.cell? ⟨W.heap.size+1,2,none⟩=some (Qa 0):=by rw[cR _ _ 2 _ _ _ bA.out];rfl
 have c3:aC.cell? ⟨W.heap.size+1,3,none⟩=some (Qa 0):=by rw[cR _ _ 3 _ _ _ bA.out];rfl
 have c4:aC.cell? ⟨W.heap.size+1,4,none⟩=some (Qa 0):=by rw[cR _ _ 4 _ _ _ bA.out];rfl
 have c5:aC.cell? ⟨W.heap.size+1,5,none⟩=some (Qa 0):=by rw[cR _ _ 5 _ _ _ bA.out];rfl
 have fz:∀ j,aC.frozen? ⟨W.heap.size+1,j,none⟩=false:=fun j=>by simp[World.frozen?,bA.out]
 have HX:=hDq (C_ bA.out (Qa 0) (.string ⟨#[]⟩) (Qa 0) (Qa 0) (Qa 0) (Qa 0));have b9:=hDq (Ik aC (W.heap.size+1) (Qa 0) (.string ⟨#[]⟩) (Qa 0) (Qa 0) (Qa 0) (Qa 0));simp only[];go_wp2;generalize (((((aC.setCell ⟨W.heap.size+1,0,none⟩ (Qa 0)).setCell ⟨W.heap.size+1,1,none⟩ (.string ⟨#[]⟩)).setCell ⟨W.heap.size+1,2,none⟩ (Qa 0)).setCell ⟨W.heap.size+1,3,none⟩ (Qa 0)).setCell ⟨W.heap.size+1,4,none⟩ (Qa 0)).setCell ⟨W.heap.size+1,5,none⟩ (Qa 0)=ai at *;have R:∀ j,ai.cell? ⟨W.heap.size+1,j,none⟩=_:=fun j=>cR ai _ j _ 121 _ HX.out;have xJ:=hDq (H5.out.beside bA.out (by decide) (by decide) (by have:=H.out.bG.size;omega) b9.out);have dA:=hDq (d_.out.beside b9.out (by omega));refine bodyPost_ret (v:=.tuple #[j_ (⟨0,⟨#[]⟩,0,0,0,0⟩),.bool false]) (by simp[results,Tryz.results99,go_sem,R,j_,fZ]) rfl ⟨_,_,rfl,rfl,qb,xJ.out,dA.out⟩
theorem akx (n:Nat) (hn:n<6) (a:Ask) (hd:af.takeC S n a=0) (hk:af.qo a=true) (W:World) (H:Hid (aD w W B X wd h seed S)) (hs:Hid (bO w ad)) :
  Calls Tryz.prog 99 #[Qc B.V,Qa n,o6 a 0] W fun e w'=>zE w W w' e B X wd h seed [⟨n,af.vt S a,a.id,0,0,0⟩] { af.taken S n a with Q:=ay.ji S.Q a }:=by
 have hk1:a.k=111\/a.k=99:=by unfold af.qo at hk;simpa using hk
 have au:Hid (Qd W (((W.alloc (.cells (ej a 0) 186)).alloc (.cells fu 121)).alloc (.cells (aT a) 95))):=(((bRq _ _).alloc (lRq _) _).alloc (by simp) _).alloc (by simp;omega) _;have HR3:Hid ((((W.alloc (.cells (ej a 0) 186)).alloc (.cells fu 121)).alloc (.cells (aT a) 95)).heap[W.heap.size+1]?=some (.cells fu 121 (0,0))):=by
  have h:=hNq (W.alloc (.cells (ej a 0) 186)) (.cells fu 121);rw[show (W.alloc (.cells (ej a 0) 186)).heap.size=W.heap.size+1 by simp]at h;exact(Below.heap_alloc _ _ _ (by simp)).trans h
 have jE:Hid ((((W.alloc (.cells (ej a 0) 186)).alloc (.cells fu 121)).alloc (.cells (aT a) 95)).heap[W.heap.size+2]?=some (.cells (aT a) 95 (0,0))):=by
  have h:=hNq ((W.alloc (.cells (ej a 0) 186)).alloc (.cells fu 121)) (.cells (aT a) 95);rw[show ((W.alloc (.cells (ej a 0) 186)).alloc (.cells fu 121)).heap.size=W.heap.size+2 by simp]at h;exact h
 have HT:=hDq (Ij n hn a _ (H.out.later au.out) hs.out);rw[hd,show gy ad 0=.nilIface from rfl,show af.lZ S n a=af.taken S n a by unfold af.lZ;rw[if_pos hd]]at HT;have HQ:Hid (∀ W',aD w W' B X wd h seed (af.taken S n a)->Calls Tryz.prog 167 #[Qc B.V,bu a] W' fun e w'=>e=.returned (.string (af.vt S a))/\∃ X',aD w w' B X' wd h seed { af.taken S n a with Q:=ay.ji S.Q a }/\bf W' w' B X X'):=fun W' H'=>aky a W' H' hs;generalize af.vt S a=pk at *;generalize ({ af.taken S n a with Q:=ay.ji S.Q a }:af.St)=S5 at *;clear hd hk;unfold o6;unfold ej fu bu aT at *;go_enter Tryz.func99,Tryz.ntmps99
 go_wp2_with fail
 refine HT.out.mono ?_;rintro e w4 ⟨rfl,h4,dm⟩;have ee:=hDq h4;have cq:=hDq (bf.trans (bf.of_below au.out B X) dm);have ho:∀ j,dH B X j->j<W.heap.size:=fun j hj=>(H.out.fj hj).2;have bR:=hDq (dm.other ho (by omega) HR3.out);have eB:=hDq (dm.other ho (by omega) jE.out);clear h4 dm HT au HR3 jE;have a0:w4.cell? ⟨W.heap.size+2,0,none⟩=some (.int .u8 a.k):=by rw[cR _ _ 0 _ _ _ eB.out];rfl
 simp only[];have dW:(a.k==111)=true\/(a.k==111)=false/\(a.k==99)=true:=by
  rcases hk1 with e | e
  .exact .inl (by rw[e];rfl)
  .exact .inr ⟨by rw[e];rfl,by rw[e];rfl⟩
 clear hk1;rcases dW with hk1 | ⟨hk1,hk2⟩
 all_goals
  go_wp2;obtain⟨bH,val,hcl,aP⟩:=CX (fun W'=>W'.heap[W.heap.size+2]?=some (.cells #[.int .u8 a.k,Qa a.c,Qa a.sq,Qa a.it,Qa a.sd,Qa a.pr,Qa a.q,Qa a.id] 95 (0,0)));obtain⟨x0,hx0⟩:=aP w4.drew eB.out;have hnx:Nonempty bH:=⟨x0⟩;have aR:=hDq aP;have e0:∀ x,(val x).cell? ⟨W.heap.size+2,0,none⟩=some (.int .u8 a.k):=fun x=>by rw[cR _ _ _ _ _ _ (hcl x)];rfl
  have e1:∀ x,(val x).cell? ⟨W.heap.size+2,1,none⟩=some (Qa a.c):=fun x=>by rw[cR _ _ _ _ _ _ (hcl x)];rfl
  have e2:∀ x,(val x).cell? ⟨W.heap.size+2,2,none⟩=some (Qa a.sq):=fun x=>by rw[cR _ _ _ _ _ _ (hcl x)];rfl
  have e3:∀ x,(val x).cell? ⟨W.heap.size+2,3,none⟩=some (Qa a.it):=fun x=>by rw[cR _ _ _ _ _ _ (hcl x)];rfl
  have e4:∀ x,(val x).cell? ⟨W.heap.size+2,4,none⟩=some (Qa a.sd):=fun x=>by rw[cR _ _ _ _ _ _ (hcl x)];rfl
  have e5:∀ x,(val x).cell? ⟨W.heap.size+2,5,none⟩=some (Qa a.pr):=fun x=>by rw[cR _ _ _ _ _ _ (hcl x)];rfl
  have e6:∀ x,(val x).cell? ⟨W.heap.size+2,6,none⟩=some (Qa a.q):=fun x=>by rw[cR _ _ _ _ _ _ (hcl x)];rfl
  have e7:∀ x,(val x).cell? ⟨W.heap.size+2,7,none⟩=some (Qa a.id):=fun x=>by rw[cR _ _ _ _ _ _ (hcl x)];rfl
  obtain⟨xe,hw4⟩:∃ xe,w4.drew=xe:=⟨_,rfl⟩;have cJ:Hid (Qd w4 xe):=by rw[<- hw4];exact eO
  clear aP hcl a0;refine sJ (val:=val) [3,7] [0,1,2,4,5,3,6,7,8] (by kernel_rfl) (by kernel_rfl) x0 hx0 ?_;rw[hx0,hw4];clear hx0 hw4
  iterate 5 (refine jG rfl rfl (fun K hK=>?_);refine⟨by rfl,?_⟩;unfold aB;go_simp;refine hK _ ?_;clear hK K)
  refine lT rfl rfl (fun K hK=>?_);refine⟨by rfl,?_⟩;unfold aQ;go_simp;refine(HQ.out _ (ee.out.later cJ.out)).mono ?_;rintro e aC ⟨rfl,qb,h5,hs5⟩;have H5:=hDq h5;have d_:=hDq ((cq.out.below cJ.out).trans hs5);have bA:=hDq (hs5.block (ee.out.later cJ.out) (dG cJ.out bR.out) (by decide));have vB:=hDq (hs5.other ho (by omega) (dG cJ.out eB.out));refine⟨_,rfl,aR.out _ vB.out,hK _ _ ?_⟩;clear hK K h5 hs5 ee cq bR eB HQ cJ;have c0:aC.cell? ⟨W.heap.size+1,0,none⟩=some (Qa 0):=by rw[cR _ _ 0 _ _ _ bA.out];rfl
  have c1:aC.cell? ⟨W.heap.size+1,1,none⟩=some (.string ⟨#[]⟩):=by rw[cR _ _ 1 _ _ _ bA.out];rfl
  have c2:aC.cell? ⟨W.heap.size+1,2,none⟩=some (Qa 0):=by rw[cR _ _ 2 _ _ _ bA.out];rfl
  have c3:aC.cell? ⟨W.heap.size+1,3,none⟩=some (Qa 0):=by rw[cR _ _ 3 _ _ _ bA.out];rfl
  have c4:aC.cell? ⟨W.heap.size+1,4,none⟩=some (Qa 0):=by rw[cR _ _ 4 _ _ _ bA.out];rfl
  have c5:aC.cell? ⟨W.heap.size+1,5,none⟩=some (Qa 0):=by rw[cR _ _ 5 _ _ _ bA.out];rfl
  have fz:∀ j,aC.frozen? ⟨W.heap.size+1,j,none⟩=false:=fun j=>by simp[World.frozen?,bA.out]
  have HX:=hDq (C_ bA.out (Qa n) (.string pk) (Qa a.id) (Qa 0) (Qa 0) (Qa 0));have b9:=hDq (Ik aC (W.heap.size+1) (Qa n) (.string pk) (Qa a.id) (Qa 0) (Qa 0) (Qa 0));have gV:=hDq ((b9.out.block (W.heap.size+2) (lBq vB.out) (by omega)).trans vB.out);refine jG rfl rfl (fun K hK=>?_);refine⟨by rfl,?_⟩;unfold aB;go_simp;refine hK _ ?_;clear hK K;refine lT rfl rfl (fun K hK=>?_);refine⟨by rfl,?_⟩;unfold aQ;go_simp;refine⟨aR.out _ gV.out,hK _ _ ?_⟩;clear hK K c0 c1 c2 c3 c4 c5 fz;generalize (((((aC.setCell ⟨W.heap.size+1,0,none⟩ (Qa n)).setCell ⟨W.heap.size+1,1,none⟩ (.string pk)).setCell ⟨W.heap.size+1,2,none⟩ (Qa a.id)).setCell ⟨W.heap.size+1,3,none⟩ (Qa 0)).setCell ⟨W.heap.size+1,4,none⟩ (Qa 0)).setCell ⟨W.heap.size+1,5,none⟩ (Qa 0)=ai at *;refine jG rfl rfl (fun K hK=>?_);refine⟨by rfl,?_⟩;unfold aB;go_simp;refine hK _ ?_;clear hK K;refine qW ?_;go_wp2;have R:∀ j,ai.cell? ⟨W.heap.size+1,j,none⟩=_:=fun j=>cR ai _ j _ 121 _ HX.out;have xJ:=hDq (H5.out.beside bA.out (by decide) (by decide) (by have:=H.out.bG.size;omega) b9.out);have dA:=hDq (d_.out.beside b9.out (by omega));refine bodyPost_ret (v:=.tuple #[j_ ⟨n,pk,a.id,0,0,0⟩,.bool true]) (by simp[results,Tryz.results99,go_sem,R,j_,fZ]) rfl ⟨_,_,rfl,rfl,qb,xJ.out,dA.out⟩
theorem akm (n:Nat) (hn:n<6) (f:ByteArray) (W:World) (H:aD w W B X wd h seed S) (hs:bO w ad) :
  Calls Tryz.prog 99 #[Qc B.V,Qa n,o6 (af.cA f) (eu f)] W fun e w'=>zE w W w' e B X wd h seed (af.lW S n f) (af.jM S n f):=by
 unfold af.lW af.jM;by_cases hc:eu f=0
 .rw[if_pos hc,if_pos hc,hc]
  generalize af.cA f=a;cases hd:af.takeC S n a with
  | zero =>
   rw[if_pos rfl,if_pos rfl];cases hk:af.qo a with
   | true=>exact akx n hn a hd hk W H hs
   | false =>
    rw[if_neg (by decide),if_neg (by decide)];by_cases hq:a.k=113
    .rw[if_pos hq];exact akw n hn a hd hq W H hs
    .rw[if_neg hq];exact akv n hn a hd hk hq W H hs
  | succ d =>
   rw[if_neg (by omega),if_neg (by omega)];refine akt n hn a d hd ?_ W H hs;rw[<- hd];unfold af.takeC;split
   .exact bg.ai8 _ _ _
   .decide
 .rw[if_neg hc,if_neg hc]
  exact aks n _ _ hc W H
end
def mJ (r:af.cy):List Value:=[Qa r.c,.string r.k,Qa r.id,Qa r.pr,Qa r.q,Qa r.cd]
def gZ (l:List af.cy):List Value:=l.flatMap mJ
theorem Yc:∀ l:List af.cy,(gZ l).length=l.length*6
 | []=>rfl
 | x::l=>by
  have:=Yc l
  simp only[gZ,List.flatMap_cons,List.length_append,List.length_cons]at this ⊢;rw[this];show 6+_=_;omega
theorem Ox (a b:List af.cy):gZ (a++b)=gZ a++gZ b:=by simp[gZ]
theorem Oy (r:af.cy):∀ u∈mJ r,u.oneCell'=true:=by
 intro u hu;simp only[mJ,List.mem_cons,List.not_mem_nil,or_false]at hu;rcases hu with rfl | rfl | rfl | rfl | rfl | rfl <;> rfl
def iI (w:World) (base:Nat) (v:Value) (l:List af.cy):Prop:=w.ownsRow base 121 6 v l.length (gZ l)
theorem Oz:∃ i z,Tryz.prog.info? 121=some i/\i.zero=some z/\i.size=6/\i.bytes=56/\z.cells.size=6:=⟨_,_,rfl,rfl,rfl,rfl,rfl⟩
theorem akd (w:World) (r:af.cy) (ty:TypeId) (fz:Nat×Nat) (hf:fz=(0,0)):∀ j u,(mJ r)[j]?=some u->(w.alloc (.cells (fZ r) ty fz)).cell? ((⟨w.heap.size,0,none⟩:Addr).add j)=some u:=by
 subst hf;intro j u hj;have hp:(⟨w.heap.size,0,none⟩:Addr).add j=(Qb w.heap.size j):=by unfold Addr.add;split <;> simp_all
 rw[hp,cR _ _ j _ ty _ (hNq w _)];simpa [fZ,mJ] using hj
theorem ake (f:ByteArray):pE f=[.int .u8 (af.cA f).k,Qa (af.cA f).c,Qa (af.cA f).sq,Qa (af.cA f).it,Qa (af.cA f).sd,Qa (af.cA f).pr,Qa (af.cA f).q,Qa (af.cA f).id,Qa (eu f)]:=rfl
theorem qH.form {w:World} {base:Nat} {v:Value} {t:ByteArray} {n:Nat} (h:qH w base v t n):∃ a cap,v=.slice a n cap/\(0<n->∃ g,a=some (Qb g 0)):=by
 rcases h.2 with ⟨rfl,rfl⟩ | ⟨g,cap,cur,rfl,_⟩
 .exact⟨none,0,rfl,fun h=>absurd h (Nat.lt_irrefl 0)⟩
 .exact⟨_,_,rfl,fun _=>⟨g,rfl⟩⟩
section
variable {w W W':World} {ad:Nat->Addr} {B:bP} {X X':bX} {wd h seed:Int} {S:af.St}
theorem cP {base:Nat} {e:TypeId} {sz n:Nat} {v:Value} {xs:List Value} (hr:W.ownsRow base e sz v n xs) {k:Nat} (hk:v.ownBlock=some k):base<=k/\∃ cur,W.heap[k]?=some (.cells cur e (0,0)):=by
 rcases hr.2 with ⟨e1,_⟩ | ⟨r,cap,cur,e1,hb,hr2,_⟩
 .rw[e1]at hk;cases hk
 .rw[e1]at hk
  have:r=k:=by simpa [Value.ownBlock] using hk
  subst this;exact⟨hb,cur,hr2⟩
theorem aD.grown {base:Nat} {e:TypeId} {sz n:Nat} {v:Value} {xs:List Value} (H:aD w W B X wd h seed S) (hr:W.ownsRow base e sz v n xs) (he:e≠114/\e≠213/\e≠267/\e≠276/\e≠197/\e≠232/\e≠95/\e≠117/\e≠5) (OA:e≠210) (hb:w.heap.size<=base) (hg:W.grownBy W' v.ownBlock):aD w W' B X wd h seed S :=
 H.aside (aJ.iM hg) (fun e1=>by
  obtain⟨_,cur,h2⟩:=cP hr e1.symm;exact aI h2 H.fl.blk OA rfl) (fun k hv e1=>by
  obtain⟨_,cur,h2⟩:=cP hr e1.symm;exact uO H h2 he hv) (fun _ e1=>lTq hb (cP hr e1.symm).1)
theorem bf.grown {W1 W2:World} {base:Nat} {e:TypeId} {sz n:Nat} {v:Value} {xs:List Value} (hs:bf W W1 B X X') (hr:W1.ownsRow base e sz v n xs) (hb:W.heap.size<=base) (hg:W1.grownBy W2 v.ownBlock):bf W W2 B X X' :=
 ⟨hs.turned.trans (aJ.iM hg) (fun _ e1=>.inr (lTq hb (cP hr e1.symm).1)),hs.new⟩
theorem OB {base b2:Nat} {e e2:TypeId} {sz s2 n n2:Nat} {v v2:Value} {xs x2:List Value} (hr:W.ownsRow base e sz v n xs) (hr2:W.ownsRow b2 e2 s2 v2 n2 x2) (hne:e≠e2) (hg:W.grownBy W' v.ownBlock):W'.ownsRow b2 e2 s2 v2 n2 x2 :=
 eM hr2 (aJ.iM hg) (fun k hk e1=>by
  obtain⟨_,cur,h1⟩:=cP hr e1.symm;obtain⟨_,lh,h2⟩:=cP hr2 hk;exact aI h1 h2 hne rfl)
theorem akf (S:af.St) (n:Nat) (f:ByteArray):(af.lW S n f).length<=1:=by
 unfold af.lW
 repeat' split
 all_goals simp
theorem Yd (S:af.St) (n:Nat) (b:ByteArray):∀ k,(af.fR S n b k).length<=k
 | 0=>by simp[af.fR]
 | k+1=>by
  have:=Yd S n b k
  have:=akf (af.cZ S n b k) n (fr b k)
  simp only[af.fR,List.length_append];omega
def Ye (w W W':World) (e:Ending) (B:bP) (X:bX) (wd h seed:Int) (R:List af.cy) (S':af.St):Prop :=
 ∃ v X',e=.returned v/\iI W' W.heap.size v R/\aD w W' B X' wd h seed S'/\bf W W' B X X'
theorem akg (n:Int) (s:ByteArray) (W:World) (H:aD w W B X wd h seed S) (hd:S.down=true\/ah.aG n 0 5=false) :
  Calls Tryz.prog 56 #[Qc B.V,Qa n,.string s] W fun e w'=>e=.returned (.slice none 0 0)/\w'=W:=by
 have c:W.cell? (Qb B.V 36)=some (.bool S.down):=H.at 36;have HC:=hDq (vU n W);clear H;cases vz:S.down with
 | true =>
  rw[vz]at c;go_enter Tryz.func56,Tryz.ntmps56;go_wp2;go_ret;exact⟨rfl,rfl⟩
 | false =>
  have hw:ah.aG n 0 5=false:=by
   rcases hd with e | e
   .rw[vz]at e;cases e
   .exact e
  rw[vz]at c;rw[hw]at HC;clear hd hw vz;go_enter Tryz.func56,Tryz.ntmps56
  go_wp2_with fail
  refine HC.out.mono ?_;rintro e w2 ⟨rfl,rfl⟩;simp only[];go_wp2;go_ret;exact⟨rfl,rfl⟩
theorem akh (n:Nat) (hn:n<6) (s:ByteArray) (W:World) (H:Hid (aD w W B X wd h seed S)) (hd:S.down=false) (hs:Hid (bO w ad)) (hsz:(S.az n++s).size<=100000) :
  Calls Tryz.prog 56 #[Qc B.V,Qa n,.string s] W fun e w'=>Ye w W w' e B X wd h seed (af.gY S n s) (af.eN S n s):=by
 have hcl:ah.aG (n:Int) 0 5=true:=by simp[ah.aG];omega
 have hno:¬ (S.down=true\/ah.aG (n:Int) 0 5=false):=by rw[hd,hcl];simp
 have Yf:af.gY S n s=af.fR (af.gp S n (S.az n++s)) n (S.az n++s) ((S.az n++s).size/30):=by unfold af.gY;rw[if_neg hno];rfl
 have eS:af.eN S n s=af.cZ (af.gp S n (S.az n++s)) n (S.az n++s) ((S.az n++s).size/30):=by unfold af.eN;rw[if_neg hno];rfl
 rw[Yf,eS];clear Yf eS hno;have Ih:W.cell? (Qb B.V 36)=some (.bool false):=by rw[<- hd];exact H.out.at 36
 have HC:=hDq (vU n W);rw[hcl]at HC;have Yg:(n:Int)<6:=by omega
 have HF:=hDq (adg B.V (4+n*5+3) (S.az n) s ad W (H.out.sent hs.out) (H.out.conn hn (j:=3) (by decide)) (H.out.free _) hsz);obtain⟨b,hb⟩:∃ b,S.az n++s=b:=⟨_,rfl⟩;rw[hb]at HF hsz ⊢;have dx:=hDq hb;clear hb hcl;obtain⟨m,hm⟩:∃ m,b.size/30=m:=⟨_,rfl⟩;rw[hm]at HF ⊢;have Wy:m<=100000:=by omega
 have HM:=hDq hm;clear hm;go_enter Tryz.func56,Tryz.ntmps56
 go_wp2_with fail
 refine HC.out.mono ?_;rintro e w2 ⟨rfl,rfl⟩;simp only[]
 go_wp2_with fail
 refine HF.out.mono ?_;rintro e w3 ⟨v1,w1,rfl,hg,hb1,hw3⟩;obtain⟨hv3,hs3⟩:=(H.out.later hb1).set (S':=af.gp S n b) hn (j:=3) (by decide) (.string (b.extract (30*m) b.size)) (fun c' j' _ jy=>by
  have e:af.eF b=b.extract (30*m) b.size:=by unfold af.eF;rw[HM.out]
  rw[<- e];exact Yh S (af.gp S n b) n (af.eF b) rfl rfl rfl rfl rfl c' j' jy) rfl rfl rfl ⟨rfl,rfl,rfl,rfl,rfl,rfl,rfl,rfl⟩
 have hg3:qH w3 w2.heap.size v1 b m:=by rw[hw3];exact hs3.row (H.out.later hb1) hg (by decide)
 rw[<- hw3]at hv3 hs3;have H3:=hDq hv3;have cK:=hDq ((bf.of_below hb1 B X).trans hs3);have JJ:=hDq hg3;obtain⟨a1,sU,hv1,ha1⟩:=qH.form hg3;have HA1:=hDq ha1;subst hv1;clear hv3 hs3 hg3 hw3 hb1 hg HF HC ha1;clear w1;obtain⟨i50,z50,hi,hz0,hz1,hz2,hz3⟩:=Oz;have Hi:=hDq hi;have eG:=hDq hz0;have eH:=hDq hz1;have eI:=hDq hz2;have kQ:=hDq hz3;clear hi hz0 hz1 hz2 hz3;simp only[]
 go_wp2_with fail
 go_loopw [7,30] (fun v kv wr=>∃ k X',k<=m/\kv=Qa k/\iI wr w2.heap.size v (af.fR (af.gp S n b) n b k)/\aD w wr B X' wd h seed (af.cZ (af.gp S n b) n b k)/\bf w2 wr B X X'/\qH wr w2.heap.size (.slice a1 m sU) b m) (fun _ kv _=>m-(intOf kv).toNat)
 case atStart=>exact⟨0,X,by omega,rfl,World.ownsRow_nil _ _ _ _,H3.out,cK.out,JJ.out⟩
 case round =>
  obtain⟨k,X',hk,rfl,hr,hv,hst,hg⟩:=hrel;have HR:=hDq hr;have cF:=hDq hv;have HST:=hDq hst;have HG:=hDq hg;clear hr hv hst;by_cases hlt:k<m
  .have aX:(k:Int)<m:=by omega
   obtain⟨g,rfl⟩:=HA1.out (by omega);have key:∀ j,j<9->∀ u,(pE (fr b k))[j]?=some u->wr.cell? ⟨g,k*9+j,none⟩=some u:=by
    intro j hj u hu
    have:=World.ownsRow.cells hg (g:=g) rfl (k*9+j) u (by rw[Nat.mul_comm k 9,XE b m k j hlt hj];exact hu)
    have hp:(⟨g,0,none⟩:Addr).add (k*9+j)=⟨g,k*9+j,none⟩:=by unfold Addr.add;split <;> simp_all
    rwa [hp]at this
   rw[ake]at key;have p0:=key 0 (by decide) _ rfl;have p1:=key 1 (by decide) _ rfl;have p2:=key 2 (by decide) _ rfl;have p3:=key 3 (by decide) _ rfl;have p4:=key 4 (by decide) _ rfl;have aki:=key 5 (by decide) _ rfl;have akj:=key 6 (by decide) _ rfl;have akk:=key 7 (by decide) _ rfl;have akl:=key 8 (by decide) _ rfl;have qd:g<wr.heap.size:=bCq _ _ p0;simp only[Nat.add_zero]at p0;clear key hg;have HH:=hDq (fun W' (H':aD w W' B X' wd h seed (af.cZ (af.gp S n b) n b k))=>akm n hn (fr b k) W' H' hs.out);have HN:Hid (af.fR (af.gp S n b) n b (k+1)=af.fR (af.gp S n b) n b k++af.lW (af.cZ (af.gp S n b) n b k) n (fr b k)/\af.cZ (af.gp S n b) n b (k+1)=af.jM (af.cZ (af.gp S n b) n b k) n (fr b k)):=⟨rfl,rfl⟩;have hlen:=Yd (af.gp S n b) n b k;generalize af.lW (af.cZ (af.gp S n b) n b k) n (fr b k)=hR at *;generalize af.jM (af.cZ (af.gp S n b) n b k) n (fr b k)=hS at *;generalize af.fR (af.gp S n b) n b k=OC at *;generalize af.cZ (af.gp S n b) n b k=apo at *;generalize af.cA (fr b k)=a at *;generalize eu (fr b k)=cd at *;have bJ:Hid (Qd wr (wr.alloc (.cells (ej a cd) 186))):=(bRq _ _).alloc (lRq _) _;unfold o6 at HH;unfold ej at bJ
   go_wp2_with fail
   refine(HH.out _ (cF.out.later bJ.out)).mono ?_;rintro e aC ⟨r,bb,rfl,hRe,qb,h5,hs5⟩;have H5:=hDq h5;have d_:=hDq (HST.out.trans ((bf.of_below bJ.out B X').trans hs5));have bA:=hDq (hs5.row (cF.out.later bJ.out) (cO HR.out bJ.out) (by decide));have Cw:=hDq (hs5.row (cF.out.later bJ.out) (cO HG.out bJ.out) (by decide));have qP:=hDq hRe;clear h5 hs5 HH bJ cF HR HST hRe p0 p1 p2 p3 p4 aki akj akk akl;have aY:Hid (Qd aC (aC.alloc (.cells (fZ r) 121))):=(bRq _ _).alloc (lRq _) _;have apq:Hid (fZ r=#[Qa r.c,.string r.k,Qa r.id,Qa r.pr,Qa r.q,Qa r.cd]):=rfl;have hwz:w2.heap.size<=aC.heap.size:=d_.out.turned.size;unfold fZ at aY;unfold j_ fZ;cases bb with
   | false =>
    have e:hR=[]:=qP.out;rw[e,aNq]at HN;simp only[];go_wp2;refine⟨⟨k+1,qb,hlt,by go_num,?_,?_,d_.out.below aY.out,cO Cw.out aY.out⟩,by simp[intOf];omega⟩
    .rw[HN.out.1];exact cO bA.out aY.out
    .rw[HN.out.2];exact H5.out.later aY.out
   | true =>
    have e:hR=[r]:=qP.out;rw[e]at HN;simp only[]
    go_wp2_with (at_builtin;refine wpList_append_own _ rfl _ _ 55 rfl w2.heap.size 121 i50 z50 6 56 Tryz.underlying55 Hi.out eG.out eH.out eI.out kQ.out (by decide) _ _ _ rfl (World.ownsRow.alloc (World.ownsRow.alloc bA.out _) _) ⟨aC.heap.size+1,0,none⟩ 1 1 (mJ r) rfl rfl ?c1 ?c2 ?c3 ?c4 ?c5 ?_)
    case c1 =>
     intro j u hj;exact hj
    case c2=>exact Oy r
    case c3=>unfold maxLen;omega
    case c4=>omega
    case c5=>first | omega | (simp;omega)
    intro v6 ai hown' hgrow _;have i6:Hid (Qd aC ((aC.alloc (.cells (fZ r) 121)).alloc (.cells (fZ r) 121))):=((bRq _ _).alloc (lRq _) _).alloc (by simp) _;have Ii:=cO bA.out i6.out;have akn:=hDq ((H5.out.later i6.out).grown Ii (by decide) (by decide) H.out.bG.size hgrow);have uo:=hDq ((d_.out.below i6.out).grown Ii (lRq _) hgrow);have ako:=hDq (OB Ii (cO Cw.out i6.out) (by decide) hgrow);have tV:Hid (iI ai w2.heap.size v6 (OC++[r])):=by
     show ai.ownsRow w2.heap.size 121 6 v6 (OC++[r]).length (gZ (OC++[r]));rw[Ox,lAq];simpa [gZ] using hown'
    clear hown' hgrow Ii;go_wp2;refine⟨⟨k+1,qb,hlt,by go_num,?_,?_,uo.out,ako.out⟩,by simp[intOf];omega⟩
    .rw[HN.out.1];exact tV.out
    .rw[HN.out.2];exact akn.out
  .have aX:¬ (k:Int)<m:=by omega
   obtain rfl:k=m:=by omega
   go_wp2;go_ret;exact⟨_,X',rfl,HR.out,cF.out,HST.out⟩
theorem ahf (n:Int) (s:ByteArray) (W:World) (H:aD w W B X wd h seed S) (hs:bO w ad) (hsz:∀ c,c<6->(S.az c++s).size<=100000) :
  Calls Tryz.prog 56 #[Qc B.V,Qa n,.string s] W fun e w'=>Ye w W w' e B X wd h seed (af.gY S n s) (af.eN S n s):=by
 by_cases hd:S.down=true\/ah.aG n 0 5=false
 .have e1:af.gY S n s=[]:=by unfold af.gY;rw[if_pos hd]
  have e2:af.eN S n s=S:=by unfold af.eN;rw[if_pos hd]
  rw[e1,e2];refine(akg n s W H hd).mono ?_;rintro e w' ⟨rfl,rfl⟩;exact⟨_,X,rfl,World.ownsRow_nil _ _ _ _,H,bf.refl _ _ _⟩
 .have vz:S.down=false:=by cases h1:S.down with
   | true=>exact absurd (.inl h1) hd
   | false=>rfl
  have hw:ah.aG n 0 5=true:=by cases h1:ah.aG n 0 5 with
   | false=>exact absurd (.inr h1) hd
   | true=>rfl
  obtain⟨c,rfl⟩:∃ c:Nat,n=c:=⟨n.toNat,by simp[ah.aG]at hw;omega⟩;have hc:c<6:=by simp[ah.aG]at hw;omega
  exact akh c hc s W H vz hs (hsz c hc)
end
def nX (B:bP) (X:bX) (k:Nat):Prop:=k=B.P\/∃ i,i<3/\(k=B.I i\/k=B.b i\/(X.v i).ownBlock=some k)
structure b_ (W W':World) (b0:Nat) (B:bP) (X X':bX):Prop where
 turned:aJ W W' (fun k=>nX B X k\/b0<=k)
 new:∀ k,nX B X' k->nX B X k\/W.heap.size<=k
 qv:X'.qv=X.qv
 bV:X'.bV=X.bV
def xN (S:af.St) (r:af.cB):af.St:={ S with L:=r.L,pf:=r.pf,n:=r.n }
structure bS (w:World) (b0:Nat) (W:World) (B:bP) (X:bX) (wd h seed:Int) (S:af.St) (q:Nat) (vp vr:Value) (r:af.cB):Prop where
 aS:aD w W B X wd h seed (xN S r)
 blk:W.heap[q]?=some (.cells #[Qc B.F,vp,vr] 240 (0,0))
 pl:W.ownsRow b0 95 8 vp r.pl.length (bm r.pl)
 rp:iI W b0 vr r.rp
 lo:b0<=q
 mP:w.heap.size<=b0
 hib:b0<=W.heap.size
 xE:∀ c,c<6->∀ k,(X.qv c).ownBlock=some k->k<b0
 all:dU r.L r.pf r.n wd h
section
variable {w W W' W1 W2:World} {b0 q:Nat} {B:bP} {X X' X2:bX} {wd h seed:Int} {S:af.St} {vp vr:Value} {r:af.cB}
theorem b_.trans (h:b_ W W1 b0 B X X') (h1:b_ W1 W2 b0 B X' X2):b_ W W2 b0 B X X2 :=
 ⟨h.turned.trans h1.turned (fun k hk=>by
  rcases hk with hk | hk
  .rcases h.new k hk with h2 | h2
   .exact .inl (.inl h2)
   .exact .inr h2
  .exact .inl (.inr hk)),fun k hk=>by
  rcases h1.new k hk with h2 | h2
  .exact h.new k h2
  .exact .inr (lTq h.turned.size h2),h1.qv.trans h.qv,h1.bV.trans h.bV⟩
theorem b_.high (ht:aJ W W' (fun k=>b0<=k)) (B:bP) (X:bX):b_ W W' b0 B X X:=⟨ht.mono (fun _ h=>.inr h),fun _ h=>.inl h,rfl,rfl⟩
theorem b_.below (hb:Qd W W') (b0:Nat) (B:bP) (X:bX):b_ W W' b0 B X X:=⟨aJ.of_below hb _,fun _ h=>.inl h,rfl,rfl⟩
theorem Iv (H:aD w W B X wd h seed S) {k:Nat} {cur:Array Value} {e:TypeId} {fz:Nat×Nat} (hk:W.heap[k]?=some (.cells cur e fz)) (he:e≠213/\e≠267/\e≠276/\e≠197):¬ nX B X k:=by
 rintro (rfl | ⟨i,hi,rfl | rfl | h1⟩)
 .exact aI hk H.fl.cQ he.1 rfl
 .exact aI hk (H.fl.it i hi) he.2.1 rfl
 .exact aI hk (H.fl.aH i hi).cell he.2.2.1 rfl
 .exact jc (H.fl.aH i hi).row hk he.2.2.2 h1
theorem Oo (H:aD w W B X wd h seed S) {k:Nat} (hk:nX B X k):k<W.heap.size:=by
 rcases hk with e | e
 .exact(H.fj (.inr (.inl e))).2
 .exact(H.fj (.inr (.inr (.inl e)))).2
theorem b_.row {base:Nat} {e:TypeId} {sz n:Nat} {v:Value} {xs:List Value} (hs:b_ W W' b0 B X X') (H:aD w W B X wd h seed S) (hr:W.ownsRow base e sz v n xs) (he:e≠213/\e≠267/\e≠276/\e≠197) (ho:∀ k,v.ownBlock=some k->k<b0):W'.ownsRow base e sz v n xs:=by
 refine eM hr hs.turned (fun k hk e1=>?_);rcases e1 with e1 | e1
 .obtain⟨_,cur,h2⟩:=cP hr hk
  exact Iv H h2 he e1
 .have:=ho k hk
  omega
theorem bS.floor {v':Nat->Value} {L':Nat->List Cv.ag} {oK n':Nat->Int} (R:bS w b0 W B X wd h seed S q vp vr r) (hf:bk w W' B.F B.P B.I B.b v' L' oK n' wd h) (hs:bK W W' B.P B.I B.b X.v v') (ha:dU L' oK n' wd h) :
  bS w b0 W' B { X with v:=v' } wd h seed S q vp vr { r with L:=L',pf:=oK,n:=n' }/\b_ W W' b0 B X { X with v:=v' }/\aJ W W' (fun k=>nX B X k):=by
 have ht:aJ W W' (fun k=>nX B X k) :=
  ⟨hs.os,hs.tape,hs.output,hs.size,fun k hk hn=>hs.keep k hk (fun e=>hn (.inl e)) (fun i hi=>⟨fun e=>hn (.inr ⟨i,hi,.inl e⟩),fun e=>hn (.inr ⟨i,hi,.inr (.inl e)⟩),fun e=>hn (.inr ⟨i,hi,.inr (.inr e)⟩)⟩)⟩
 obtain⟨h1,_⟩:=R.aS.floor hf hs;refine⟨⟨h1,?_,?_,?_,R.lo,R.mP,lTq R.hib hs.size,R.xE,ha⟩,⟨ht.mono (fun _ h=>.inl h),fun k hk=>?_,rfl,rfl⟩,ht⟩
 .rw[ht.block q (lBq R.blk) (Iv R.aS R.blk (by decide))];exact R.blk
 .refine eM R.pl ht (fun k hk=>?_)
  obtain⟨_,cur,h2⟩:=cP R.pl hk;exact Iv R.aS h2 (by decide)
 .refine eM R.rp ht (fun k hk=>?_)
  obtain⟨_,cur,h2⟩:=cP R.rp hk;exact Iv R.aS h2 (by decide)
 .rcases hk with e | ⟨i,hi,e | e | e⟩
  .exact .inl (.inl e)
  .exact .inl (.inr ⟨i,hi,.inl e⟩)
  .exact .inl (.inr ⟨i,hi,.inr (.inl e)⟩)
  .rcases hs.new i hi k e with h2 | h2
   .exact .inl (.inr ⟨i,hi,.inr (.inr h2)⟩)
   .exact .inr h2
theorem bS.later (R:bS w b0 W B X wd h seed S q vp vr r) (hb:Qd W W'):bS w b0 W' B X wd h seed S q vp vr r :=
 ⟨R.aS.later hb,dG hb R.blk,cO R.pl hb,cO R.rp hb,R.lo,R.mP,lTq R.hib hb.size,R.xE,R.all⟩
theorem bS.cells (R:bS w b0 W B X wd h seed S q vp vr r):W.cell? (Qb q 0)=some (Qc B.F)/\W.cell? (Qb q 1)=some vp/\W.cell? (Qb q 2)=some vr:=by
 refine⟨?_,?_,?_⟩ <;> (rw[cR _ _ _ _ _ _ R.blk];rfl)
theorem bS.lt (R:bS w b0 W B X wd h seed S q vp vr r):q<W.heap.size:=lBq R.blk
theorem bS.told {v4:Value} {x:List af.cy} (R:bS w b0 W B X wd h seed S q vp vr r) (hb:Qd W W1) (hg:W1.grownBy W2 vr.ownBlock) (hr:iI W2 b0 v4 (r.rp++x)) :
  bS w b0 (W2.setCell (Qb q 2) v4) B X wd h seed S q vp v4 { r with rp:=r.rp++x }/\b_ W (W2.setCell (Qb q 2) v4) b0 B X X/\aJ W (W2.setCell (Qb q 2) v4) (fun k=>k=q\/vr.ownBlock=some k):=by
 have dn:=R.later hb;have hblk:W2.heap[q]?=some (.cells #[Qc B.F,vp,vr] 240 (0,0)):=by
  rw[hg.block q (lBq dn.blk) (fun e=>?_)]
  .exact dn.blk
  .obtain⟨_,cur,h2⟩:=cP dn.rp e.symm
   exact aI h2 dn.blk (by decide) rfl
 have hv2:=dn.aS.grown dn.rp (by decide) (by decide) R.mP hg;have bF:=aM.setCell W2 q 2 v4;have rf:=aJ.setCell W2 q 2 v4;have key:∀ {base:Nat} {e:TypeId} {sz n:Nat} {v:Value} {xs:List Value},W2.ownsRow base e sz v n xs->e≠240->(W2.setCell (Qb q 2) v4).ownsRow base e sz v n xs:=fun {base e sz n v xs} qF hne=>eM qF rf (fun k hk e1=>by
  obtain⟨_,cur,h2⟩:=cP qF hk;exact aI h2 hblk hne e1)
 refine⟨⟨hv2.beside hblk (by decide) (by decide) (lTq R.mP R.lo) bF,?_,key (OB dn.rp dn.pl (by decide) hg) (by decide),key hr (by decide),R.lo,R.mP,?_,R.xE,R.all⟩,b_.high ?_ B X,?_⟩
 .rw[block_setCell hblk];rfl
 .exact lTq R.hib (lTq hb.size (lTq hg.size (by simp)))
 .exact(aJ.of_below hb _).trans (((aJ.iM hg).mono (S':=fun k=>b0<=k) (fun _ hk=>(cP dn.rp hk.symm).1)).trans rf (fun _ e=>.inl (by rw[e];exact R.lo))) (fun _ hk=>.inl hk)
 .exact(aJ.of_below hb _).trans (((aJ.iM hg).mono (S':=fun k=>k=q\/vr.ownBlock=some k) (fun _ hk=>.inr hk.symm)).trans rf (fun _ e=>.inl (.inl e))) (fun _ hk=>.inl hk)
theorem bS.row {base:Nat} {e:TypeId} {sz n:Nat} {v:Value} {xs:List Value} (R:bS w b0 W B X wd h seed S q vp vr r) (ht:aJ W W' (fun k=>k=q\/vr.ownBlock=some k)) (hr:W.ownsRow base e sz v n xs) (h1:e≠240) (h2:e≠121):W'.ownsRow base e sz v n xs:=by
 refine eM hr ht (fun k hk e1=>?_);obtain⟨_,cur,h3⟩:=cP hr hk;rcases e1 with e1 | e1
 .exact aI h3 R.blk h1 e1
 .obtain⟨_,lh,h4⟩:=cP R.rp e1
  exact aI h3 h4 h2 rfl
theorem bS.block {k:Nat} {cur:Array Value} {e:TypeId} {fz:Nat×Nat} (R:bS w b0 W B X wd h seed S q vp vr r) (ht:aJ W W' (fun k=>k=q\/vr.ownBlock=some k)) (hk:W.heap[k]?=some (.cells cur e fz)) (h1:e≠240) (h2:e≠121):W'.heap[k]?=some (.cells cur e fz):=by
 rw[ht.block k (lBq hk) (fun e1=>?_)]
 .exact hk
 .rcases e1 with e1 | e1
  .exact aI hk R.blk h1 e1
  .obtain⟨_,lh,h4⟩:=cP R.rp e1
   exact aI hk h4 h2 rfl
theorem bS.listed {v4:Value} {x:List Ask} (R:bS w b0 W B X wd h seed S q vp vr r) (hb:Qd W W1) (hg:W1.grownBy W2 vp.ownBlock) (hr:W2.ownsRow b0 95 8 v4 x.length (bm x)) :
  bS w b0 (W2.setCell (Qb q 1) v4) B X wd h seed S q v4 vr { r with pl:=x }/\b_ W (W2.setCell (Qb q 1) v4) b0 B X X:=by
 have dn:=R.later hb;have hblk:W2.heap[q]?=some (.cells #[Qc B.F,vp,vr] 240 (0,0)):=by
  rw[hg.block q (lBq dn.blk) (fun e=>?_)]
  .exact dn.blk
  .obtain⟨_,cur,h2⟩:=cP dn.pl e.symm
   exact aI h2 dn.blk (by decide) rfl
 have hv2:aD w W2 B X wd h seed (xN S r):=by
  refine dn.aS.aside (aJ.iM hg) (fun e1=>?_) (fun k hv e1=>?_) (fun _ e1=>lTq R.mP (cP dn.pl e1.symm).1)
  .obtain⟨_,cur,h2⟩:=cP dn.pl e1.symm
   exact aI h2 dn.aS.fl.blk (by decide) rfl
  .obtain⟨h3,cur,h2⟩:=cP dn.pl e1.symm
   rcases hv with rfl | rfl | ⟨i,hi,rfl | rfl | h1⟩ | (rfl | ⟨c,hc,h1⟩) | rfl | h1
   .exact aI h2 dn.aS.blk (by decide) rfl
   .exact aI h2 dn.aS.fl.cQ (by decide) rfl
   .exact aI h2 (dn.aS.fl.it i hi) (by decide) rfl
   .exact aI h2 (dn.aS.fl.aH i hi).cell (by decide) rfl
   .exact jc (dn.aS.fl.aH i hi).row h2 (by decide) h1
   .exact aI h2 dn.aS.it.cell (by decide) rfl
   .have:=R.xE c hc k h1;omega
   .exact aI h2 dn.aS.dk.cell (by decide) rfl
   .exact dn.aS.dk.row.sK h2 (by decide) h1
 have bF:=aM.setCell W2 q 1 v4;have rf:=aJ.setCell W2 q 1 v4;have key:∀ {base:Nat} {e:TypeId} {sz n:Nat} {v:Value} {xs:List Value},W2.ownsRow base e sz v n xs->e≠240->(W2.setCell (Qb q 1) v4).ownsRow base e sz v n xs:=fun {base e sz n v xs} qF hne=>eM qF rf (fun k hk e1=>by
  obtain⟨_,cur,h2⟩:=cP qF hk;exact aI h2 hblk hne e1)
 refine⟨⟨hv2.beside hblk (by decide) (by decide) (lTq R.mP R.lo) bF,?_,key hr (by decide),key (OB dn.pl dn.rp (by decide) hg) (by decide),R.lo,R.mP,?_,R.xE,R.all⟩,b_.high ?_ B X⟩
 .rw[block_setCell hblk];rfl
 .exact lTq R.hib (lTq hb.size (lTq hg.size (by simp)))
 .exact(aJ.of_below hb _).trans (((aJ.iM hg).mono (S':=fun k=>b0<=k) (fun _ hk=>(cP dn.pl hk.symm).1)).trans rf (fun _ e=>.inl (by rw[e];exact R.lo))) (fun _ hk=>.inl hk)
end
def CV (w:World) (b0:Nat) (W W':World) (B:bP) (X:bX) (wd h seed:Int) (S:af.St) (q:Nat) (r':af.cB):Prop :=
 ∃ X' alK s9,bS w b0 W' B X' wd h seed S q alK s9 r'/\b_ W W' b0 B X X'
def Zb (w:World) (b0:Nat) (W W':World) (B:bP) (X:bX) (wd h seed:Int) (S:af.St) (q:Nat) (vp vr:Value) (r':af.cB):Prop :=
 ∃ s9,bS w b0 W' B X wd h seed S q vp s9 r'/\b_ W W' b0 B X X/\aJ W W' (fun k=>k=q\/vr.ownBlock=some k)
section
variable {w W W':World} {ad:Nat->Addr} {b0 q:Nat} {B:bP} {X X' X2:bX} {wd h seed:Int} {S:af.St} {vp vr:Value} {r:af.cB}
theorem Zc (W:World) (v:Value) (l:List af.cy) (x:af.cy) (hr:iI W b0 v l) (hl:l.length<=100000) (hb:b0<=W.heap.size) :
  ∃ v' W',(Builtin.append_ #[55,55] 55 #[v,.slice (some (Qb W.heap.size 0)) 1 1]).run Tryz.prog (W.alloc (.cells (fZ x) 121))=.ok v' W'/\iI W' b0 v' (l++[x])/\(W.alloc (.cells (fZ x) 121)).grownBy W' v.ownBlock:=by
 obtain⟨i0,z0,hi,hz0,hz1,hz2,hz3⟩:=Oz;obtain⟨v4,w4,hap,hrow,hg,_,_⟩:=run_append_own_at (P:=Tryz.prog) (w:=W.alloc (.cells (fZ x) 121)) b0 55 55 121 i0 z0 6 56 Tryz.underlying55 hi hz0 hz1 hz2 hz3 (by decide) v l.length (gZ l) (World.ownsRow.alloc hr _) (Qb W.heap.size 0) 1 1 (mJ x) rfl
  (fun j u hj=>akd W x 121 _ rfl j u hj) (Oy x) (by unfold maxLen;omega) (by omega) (by simp;omega)
 refine⟨v4,w4,hap,?_,hg⟩;show w4.ownsRow b0 121 6 v4 (l++[x]).length (gZ (l++[x]));rw[Ox,lAq];simpa [gZ] using hrow
theorem Ia (k:ByteArray) (x:Cv.ag) (W:World) (R:Hid (bS w b0 W B X wd h seed S q vp vr r)) (hn:r.rp.length<=100000) :
  Calls Tryz.prog 187 #[Qc q,.string k,bU x] W fun e w'=>e=.returned (.tuple #[])/\Zb w b0 W w' B X wd h seed S q vp vr { r with rp:=r.rp++[af.tell k x] }:=by
 have hb1:Qd W (W.alloc (.cells #[Qa x.id,Qa x.ak,Qa x.sd,Qa x.pr,Qa x.q] 197)):=(bRq _ _).alloc (lRq _) _;have hb2:Qd W (W.alloc (.cells #[Qa x.id,Qa x.ak,Qa x.sd,Qa x.pr,Qa x.q] 197)).drew:=hb1.trans (eO.mono (by simp));have hb3:Qd W ((W.alloc (.cells #[Qa x.id,Qa x.ak,Qa x.sd,Qa x.pr,Qa x.q] 197)).drew.alloc (.cells (fZ (af.tell k x)) 121)):=hb2.alloc hb2.size _;have sy:=hNq W (.cells #[Qa x.id,Qa x.ak,Qa x.sd,Qa x.pr,Qa x.q] 197);have hL2:(W.alloc (.cells #[Qa x.id,Qa x.ak,Qa x.sd,Qa x.pr,Qa x.q] 197)).drew.heap[W.heap.size]?=some (.cells #[Qa x.id,Qa x.ak,Qa x.sd,Qa x.pr,Qa x.q] 197 (0,0)):=sy;have hL3:((W.alloc (.cells #[Qa x.id,Qa x.ak,Qa x.sd,Qa x.pr,Qa x.q] 197)).drew.alloc (.cells (fZ (af.tell k x)) 121)).heap[W.heap.size]?=some (.cells #[Qa x.id,Qa x.ak,Qa x.sd,Qa x.pr,Qa x.q] 197 (0,0)):=by rw[Below.heap_alloc _ _ _ (by simp[World.drew])];exact hL2
 obtain⟨v4,w4,hap,hrow,hg⟩:=Zc (W.alloc (.cells #[Qa x.id,Qa x.ak,Qa x.sd,Qa x.pr,Qa x.q] 197)).drew vr r.rp (af.tell k x) (R.out.later hb2).rp hn (R.out.later hb2).hib;have hL4:w4.heap[W.heap.size]?=some (.cells #[Qa x.id,Qa x.ak,Qa x.sd,Qa x.pr,Qa x.q] 197 (0,0)):=by
  rw[hg.block _ (lBq hL3) (fun e=>?_)]
  .exact hL3
  .obtain⟨_,cur,h2⟩:=cP (R.out.later hb3).rp e.symm
   exact aI h2 hL3 (by decide) rfl
 have zI:w4.cell? (Qb q 2)=some vr/\w4.frozen? (Qb q 2)=false:=by
  have e:w4.heap[q]?=some (.cells #[Qc B.F,vp,vr] 240 (0,0)):=by
   rw[hg.block q (lBq (R.out.later hb3).blk) (fun e=>?_)]
   .exact(R.out.later hb3).blk
   .obtain⟨_,cur,h2⟩:=cP (R.out.later hb3).rp e.symm
    exact aI h2 (R.out.later hb3).blk (by decide) rfl
  exact⟨by rw[cR _ _ _ _ _ _ e];rfl,by simp[World.frozen?,e]⟩
 obtain⟨g1,g2⟩:=zI;have HT:=hDq (R.out.told hb3 hg hrow);have q3:=(R.out.later hb3).cells.2.2;have q2:=(R.out.later hb2).cells.2.2;obtain⟨a0,c0,tB⟩:=gi R.out.rp;obtain⟨a4,c4,hv4⟩:=gi hrow;rw[lAq,List.length_singleton]at hv4;rw[tB]at hap q3 q2 g1;rw[hv4]at hap HT;rw[show (W.alloc (.cells #[Qa x.id,Qa x.ak,Qa x.sd,Qa x.pr,Qa x.q] 197)).drew.heap.size=W.heap.size+1 by simp[World.drew]]at hap;have dJ:=hDq hap;have jd:=hDq hL2;have qN:=hDq hL3;have oF:=hDq hL4;have OO:=hDq q3;have sM:=hDq g1;clear hap hrow hg hv4 tB sy hL2 hL3 hL4 hb1 hb2 hb3 q3 g1;have xz:q<W.heap.size:=R.out.lt;generalize r.rp.length=m at *;unfold af.tell at *;unfold bU fZ at *;go_enter Tryz.func187,Tryz.ntmps187;go_wp2;obtain⟨bH,val,hcl,aP⟩:=lg (fun W'=>W'.heap[W.heap.size]?=some (.cells #[Qa x.id,Qa x.ak,Qa x.sd,Qa x.pr,Qa x.q] 197 (0,0))/\W'.cell? (Qb q 2)=some (.slice a0 m c0));obtain⟨x0,hx0⟩:=aP (W.alloc (.cells #[Qa x.id,Qa x.ak,Qa x.sd,Qa x.pr,Qa x.q] 197)).drew ⟨jd.out,q2⟩;have hnx:Nonempty bH:=⟨x0⟩;have s0:∀ x0,(val x0).cell? (Qb W.heap.size 0)=some (Qa x.id):=fun x0=>by rw[cR _ _ _ _ _ _ (hcl x0).1];rfl
 have s1:∀ x0,(val x0).cell? (Qb W.heap.size 1)=some (Qa x.ak):=fun x0=>by rw[cR _ _ _ _ _ _ (hcl x0).1];rfl
 have s2:∀ x0,(val x0).cell? (Qb W.heap.size 2)=some (Qa x.sd):=fun x0=>by rw[cR _ _ _ _ _ _ (hcl x0).1];rfl
 have s3:∀ x0,(val x0).cell? (Qb W.heap.size 3)=some (Qa x.pr):=fun x0=>by rw[cR _ _ _ _ _ _ (hcl x0).1];rfl
 have qU:∀ x0,(val x0).cell? (Qb W.heap.size 4)=some (Qa x.q):=fun x0=>by rw[cR _ _ _ _ _ _ (hcl x0).1];rfl
 have p7:∀ x0,(val x0).cell? (Qb q 2)=some (.slice a0 m c0):=fun x0=>(hcl x0).2;have M1:=hDq (aP _ ⟨qN.out,OO.out⟩);have p9:=hDq (aP _ ⟨oF.out,sM.out⟩);have akS:=sM.out;clear aP hcl;refine uJ (val:=val) [15,16] 19 30 [0,1,2,3,4,5,6,7,8,9,10,11,12,13,14,15,16,17,18,19] (by kernel_rfl) (by kernel_rfl) x0 hx0 ?_;rw[hx0];clear hx0
 iterate 15 (refine bE rfl rfl (fun K hK=>?_);refine⟨by rfl,?_⟩;unfold aB;go_simp;refine hK _ ?_;clear hK K)
 refine mF rfl rfl (fun K hK=>?_);refine⟨by rfl,?_⟩;unfold aQ;go_simp;refine⟨M1.out,hK _ _ ?_⟩;clear hK K;refine mF rfl rfl (fun K hK=>?_);refine⟨by rfl,?_⟩;refine w5 _ _ 55 rfl _ _ _ rfl rfl dJ.out ?_;refine⟨p9.out,hK _ _ ?_⟩;clear hK K
 iterate 2 (refine bE rfl rfl (fun K hK=>?_);refine⟨by rfl,?_⟩;unfold aB;go_simp;refine hK _ ?_;clear hK K)
 refine uL rfl (fun K hK=>?_);refine⟨by rfl,?_⟩;unfold aQ;go_simp;refine hK _ _ ?_;clear hK K;go_wp2;go_end0;exact⟨rfl,_,HT.out.1,HT.out.2.1,HT.out.2.2⟩
theorem X0 (a:Ask) (d:Nat) (hd:d+1<=12) (W:World) (hs:Hid (bO w ad)) (R:Hid (bS w b0 W B X wd h seed S q vp vr r)) (hn:r.rp.length<=100000) :
  Calls Tryz.prog 216 #[Qc q,bu a,.iface 412 (.pointer (some (ad d)))] W fun e w'=>e=.returned (.tuple #[])/\Zb w b0 W w' B X wd h seed S q vp vr { r with rp:=r.rp++[af.gD a.c a.id (d+1)] }:=by
 have HF:Hid (∀ W',Qd W W'->Calls Tryz.prog 166 #[Qa a.c,Qa a.id,.iface 412 (.pointer (some (ad d)))] W' fun e w'=>e=.returned (j_ (af.gD a.c a.id (d+1)))/\Qd W' w'):=fun W' hb=>Ym a.c a.id (d+1) hd W' ((R.out.later hb).aS.sent hs.out);have xz:q<W.heap.size:=R.out.lt;have qP:Hid (∀ W',Qd W W'->W'.heap[W.heap.size]?=some (.cells #[.int .u8 a.k,Qa a.c,Qa a.sq,Qa a.it,Qa a.sd,Qa a.pr,Qa a.q,Qa a.id] 95 (0,0))->∃ v4 w4 a0 c0 a4 c4,(Builtin.append_ #[55,55] 55 #[.slice a0 r.rp.length c0,.slice (some (Qb W'.heap.size 0)) 1 1]).run Tryz.prog (W'.alloc (.cells (fZ (af.gD a.c a.id (d+1))) 121))=.ok v4 w4/\vr=.slice a0 r.rp.length c0/\v4=.slice a4 (r.rp.length+1) c4/\(w4.heap[W.heap.size]?=some (.cells #[.int .u8 a.k,Qa a.c,Qa a.sq,Qa a.it,Qa a.sd,Qa a.pr,Qa a.q,Qa a.id] 95 (0,0))/\w4.cell? (Qb q 2)=some vr/\w4.frozen? (Qb q 2)=false)/\(W'.alloc (.cells (fZ (af.gD a.c a.id (d+1))) 121)).heap[W.heap.size]?=some (.cells #[.int .u8 a.k,Qa a.c,Qa a.sq,Qa a.it,Qa a.sd,Qa a.pr,Qa a.q,Qa a.id] 95 (0,0))/\(W'.alloc (.cells (fZ (af.gD a.c a.id (d+1))) 121)).cell? (Qb q 2)=some vr/\bS w b0 (w4.setCell (Qb q 2) v4) B X wd h seed S q vp v4 { r with rp:=r.rp++[af.gD a.c a.id (d+1)] }/\b_ W (w4.setCell (Qb q 2) v4) b0 B X X/\aJ W (w4.setCell (Qb q 2) v4) (fun k=>k=q\/vr.ownBlock=some k)):=fun W' hb2 hL2=>by
  have hb3:Qd W (W'.alloc (.cells (fZ (af.gD a.c a.id (d+1))) 121)):=hb2.alloc hb2.size _;have hL3:(W'.alloc (.cells (fZ (af.gD a.c a.id (d+1))) 121)).heap[W.heap.size]?=some (.cells #[.int .u8 a.k,Qa a.c,Qa a.sq,Qa a.it,Qa a.sd,Qa a.pr,Qa a.q,Qa a.id] 95 (0,0)):=by rw[Below.heap_alloc _ _ _ (lBq hL2)];exact hL2
  obtain⟨v4,w4,hap,hrow,hg⟩:=Zc W' vr r.rp (af.gD a.c a.id (d+1)) (R.out.later hb2).rp hn (R.out.later hb2).hib;have hL4:w4.heap[W.heap.size]?=some (.cells #[.int .u8 a.k,Qa a.c,Qa a.sq,Qa a.it,Qa a.sd,Qa a.pr,Qa a.q,Qa a.id] 95 (0,0)):=by
   rw[hg.block _ (lBq hL3) (fun e=>?_)]
   .exact hL3
   .obtain⟨_,cur,h2⟩:=cP (R.out.later hb3).rp e.symm
    exact aI h2 hL3 (by decide) rfl
  have zI:w4.cell? (Qb q 2)=some vr/\w4.frozen? (Qb q 2)=false:=by
   have e:w4.heap[q]?=some (.cells #[Qc B.F,vp,vr] 240 (0,0)):=by
    rw[hg.block q (lBq (R.out.later hb3).blk) (fun e=>?_)]
    .exact(R.out.later hb3).blk
    .obtain⟨_,cur,h2⟩:=cP (R.out.later hb3).rp e.symm
     exact aI h2 (R.out.later hb3).blk (by decide) rfl
   exact⟨by rw[cR _ _ _ _ _ _ e];rfl,by simp[World.frozen?,e]⟩
  obtain⟨a0,c0,tB⟩:=gi R.out.rp;obtain⟨a4,c4,hv4⟩:=gi hrow;rw[lAq,List.length_singleton]at hv4;exact⟨v4,w4,a0,c0,a4,c4,by rw[<- tB];exact hap,tB,hv4,⟨hL4,zI.1,zI.2⟩,hL3,(R.out.later hb3).cells.2.2,(R.out.told hb3 hg hrow).1,(R.out.told hb3 hg hrow).2⟩
 have hb1:Qd W (W.alloc (.cells (aT a) 95)):=(bRq _ _).alloc (lRq _) _;have hb2:Qd W (W.alloc (.cells (aT a) 95)).drew:=hb1.trans (eO.mono (by simp));have hL2:(W.alloc (.cells (aT a) 95)).drew.heap[W.heap.size]?=some (.cells (aT a) 95 (0,0)):=hNq W (.cells (aT a) 95);have q2:=(R.out.later hb2).cells.2.2;have HB2:=hDq hb2;have jd:=hDq hL2;clear hb1 hb2 hL2;unfold af.gD at *;unfold bu aT j_ fZ at *;obtain⟨a0,c0,tB⟩:=gi R.out.rp;go_enter Tryz.func216,Tryz.ntmps216;go_wp2;obtain⟨bH,val,hcl,aP⟩:=lg (fun W'=>W'.heap[W.heap.size]?=some (.cells #[.int .u8 a.k,Qa a.c,Qa a.sq,Qa a.it,Qa a.sd,Qa a.pr,Qa a.q,Qa a.id] 95 (0,0))/\W'.cell? (Qb q 2)=some vr);obtain⟨x0,hx0⟩:=aP (W.alloc (.cells #[.int .u8 a.k,Qa a.c,Qa a.sq,Qa a.it,Qa a.sd,Qa a.pr,Qa a.q,Qa a.id] 95)).drew ⟨jd.out,q2⟩;have hnx:Nonempty bH:=⟨x0⟩;have s1:∀ x0,(val x0).cell? (Qb W.heap.size 1)=some (Qa a.c):=fun x0=>by rw[cR _ _ _ _ _ _ (hcl x0).1];rfl
 have w7:∀ x0,(val x0).cell? (Qb W.heap.size 7)=some (Qa a.id):=fun x0=>by rw[cR _ _ _ _ _ _ (hcl x0).1];rfl
 have p7:∀ x0,(val x0).cell? (Qb q 2)=some (.slice a0 r.rp.length c0):=fun x0=>by rw[<- tB];exact(hcl x0).2
 have aR:=hDq aP;clear aP hcl;refine uJ (val:=val) [10,11,12] 15 30 [0,1,2,3,4,5,6,7,8,9,10,11,12,13,14,15] (by kernel_rfl) (by kernel_rfl) x0 hx0 ?_;rw[hx0];clear hx0
 iterate 10 (refine bE rfl rfl (fun K hK=>?_);refine⟨by rfl,?_⟩;unfold aB;go_simp;refine hK _ ?_;clear hK K)
 refine mF rfl rfl (fun K hK=>?_);refine⟨by rfl,?_⟩;unfold aQ;go_simp;refine(HF.out _ HB2.out).mono ?_;rintro e aC ⟨rfl,di⟩;have Pf:=dG di jd.out;have w_:=HB2.out.trans (di.mono HB2.out.size);obtain⟨v4,w4,apy,qh,a4,c4,hap,Pg,hv4,⟨k1,k2,k3⟩,k4,uu,k6,k7⟩:=qP.out aC w_ Pf;rw[tB]at Pg;simp only[Value.slice.injEq,true_and]at Pg;obtain⟨rfl,rfl⟩:=Pg;refine⟨_,rfl,aR.out _ ⟨Pf,(R.out.later w_).cells.2.2⟩,hK _ _ ?_⟩;clear hK K;have M1:=hDq (aR.out _ ⟨k4,uu⟩);have p9:=hDq (aR.out _ ⟨k1,k2⟩);have HK:=hDq (And.intro k6 k7);have dJ:=hDq hap;rw[hv4]at dJ HK;rw[tB]at k2;clear hap k1 k4 uu k6 k7 hv4 di Pf w_ qP HF;refine mF rfl rfl (fun K hK=>?_);refine⟨by rfl,?_⟩;unfold aQ;go_simp;refine⟨M1.out,hK _ _ ?_⟩;clear hK K;refine mF rfl rfl (fun K hK=>?_);refine⟨by rfl,?_⟩;refine w5 _ _ 55 rfl _ _ _ rfl rfl dJ.out ?_;refine⟨p9.out,hK _ _ ?_⟩;clear hK K
 iterate 2 (refine bE rfl rfl (fun K hK=>?_);refine⟨by rfl,?_⟩;unfold aB;go_simp;refine hK _ ?_;clear hK K)
 refine uL rfl (fun K hK=>?_);refine⟨by rfl,?_⟩;unfold aQ;go_simp;refine hK _ _ ?_;clear hK K;go_wp2;go_end0;exact⟨rfl,_,HK.out.1,HK.out.2.1,HK.out.2.2⟩
end
section
variable {w W W':World} {ad:Nat->Addr} {b0 q:Nat} {B:bP} {X X' X2:bX} {wd h seed:Int} {S:af.St} {vp vr:Value} {r:af.cB}
theorem bS.fl (R:bS w b0 W B X wd h seed S q vp vr r):bk w W B.F B.P B.I B.b X.v r.L r.pf r.n wd h:=R.aS.fl
theorem aj8 (k:ByteArray) {l:List Cv.ag} {i:Nat} (hi:i<l.length):(l.take (i+1)).map (af.tell k)=(l.take i).map (af.tell k)++[af.tell k (Cv.nth l i)]:=by
 rw[Fl.wb hi,List.map_append];rfl
theorem aj9 (c:Nat) (W:World) (R:Hid (bS w b0 W B X wd h seed S q vp vr r)) (hs:Hid (bO w ad)) (hn:r.rp.length<=50000) :
  Calls Tryz.prog 140 #[Qc q,Qa c] W fun e w'=>e=.returned (.tuple #[])/\CV w b0 W w' B X wd h seed S q (af.ru r c):=by
 have HD:=hDq (adI (c:Int) R.out.fl hs.out.CW R.out.all.ok);have hlen:=Fl.D' (c:Int) r.L (fun i hi=>(R.out.all.ok.aH i hi).len) 3 (by decide);have HRR:Hid (af.ru r c = { r with L:=Fl.i_ c r.L 3,pf:=Fl.ot c r.L r.pf 3,rp:=r.rp++(Fl.kW c r.L 3).map (af.tell af.oZ) }):=rfl;generalize af.ru r c=rr at *;have c0:=R.out.cells.1;go_enter Tryz.func140,Tryz.ntmps140
 go_wp2_with fail
 refine HD.out.mono ?_;rintro e w2 ⟨u,v',rfl,hrow,hf,hst,hok⟩;obtain⟨h1,h2,_⟩:=R.out.floor hf hst ⟨hok,R.out.all.kZ,R.out.all.rule⟩;have H1:=hDq h1;have H2:=hDq h2;have iD:=hDq hrow;have hb0:=R.out.hib;clear hf hst hok h1 h2 HD;obtain⟨out,hout⟩:∃ out,Fl.kW (c:Int) r.L 3=out:=⟨_,rfl⟩;rw[hout]at iD hlen HRR hrow;obtain⟨Yb,akb,hu⟩:=gi hrow;obtain⟨m,hm⟩:∃ m,out.length=m:=⟨_,rfl⟩;rw[hm]at iD hlen hu;have HM:=hDq hm;clear hrow hm hout;subst hu;simp only[]
 go_wp2_with fail
 go_loopw [13] (fun kv wr=>∃ k s9,k<=m/\kv=Qa k/\bS w b0 wr B { X with v:=v' } wd h seed S q vp s9 { r with L:=Fl.i_ c r.L 3,pf:=Fl.ot c r.L r.pf 3,rp:=r.rp++(out.take k).map (af.tell af.oZ) }/\b_ W wr b0 B X { X with v:=v' }/\wr.ownsRow W.heap.size 197 5 (.slice Yb m akb) m (flat out)) (fun kv _=>m-(intOf kv).toNat)
 case atStart=>exact⟨0,vr,by omega,rfl,by simpa using H1.out,H2.out,iD.out⟩
 case round =>
  obtain⟨k,pK,hk,rfl,hr,hfr,hrow⟩:=hrel;have HR:=hDq hr;have HF:=hDq hfr;have HW:=hDq hrow;clear hr hfr;by_cases hlt:k<m
  .have aX:(k:Int)<m:=by omega
   have hkl:k<out.length:=by rw[HM.out];exact hlt
   obtain⟨g,hg⟩:∃ g,Yb=some (Qb g 0):=by
    rcases hrow.2 with ⟨e1,_⟩ | ⟨g,cap,cur,e1,_⟩
    .cases e1;omega
    .simp only[Value.slice.injEq]at e1;exact⟨g,e1.1⟩
   subst hg;obtain⟨x0,x1,x2,x3,x4⟩:=yr hrow k hkl;simp only[Nat.zero_add]at x0 x1 x2 x3 x4;have qd:g<wr.heap.size:=bCq _ _ x0;have HT:=hDq (fun W' (hb:Qd wr W')=>Ia af.oZ (Cv.nth out k) W' (HR.out.later hb) (by simp only[List.length_append,List.length_map,List.length_take];omega));have HN:=hDq (aj8 af.oZ hkl);generalize Cv.nth out k=x at *;clear hrow;have HB:Hid (Qd wr (wr.alloc (.cells #[Qa x.id,Qa x.ak,Qa x.sd,Qa x.pr,Qa x.q] 197))):=(bRq _ _).alloc (lRq _) _;unfold af.oZ bU at HT
   go_wp2_with fail
   refine(HT.out _ HB.out).mono ?_;rintro e w3 ⟨rfl,xI,h3,h4,h5⟩;have H3:=hDq h3;have ee:=hDq (HF.out.trans ((b_.below HB.out b0 B _).trans h4));have H5:=hDq ((HR.out.later HB.out).row h5 (cO HW.out HB.out) (by decide) (by decide));clear h3 h4 h5 HT HB;simp only[];go_wp2;refine⟨⟨k+1,xI,hlt,by go_num,?_,ee.out,H5.out⟩,by simp[intOf];omega⟩;rw[HN.out,<- aAq];exact H3.out
  .have aX:¬ (k:Int)<m:=by omega
   obtain rfl:k=m:=by omega
   go_wp2;go_end0;refine⟨rfl,_,vp,pK,?_,HF.out⟩
   have:=HR.out
   rw[<- HM.out,List.take_length]at this;rw[HRR.out];exact this
end
namespace Fl
theorem YD (a:Ask) (k:Int):fV a k<=4:=by
 unfold fV;split
 .decide
 .unfold ah.code
  split
  .split
   .split <;> decide
   .decide
  .decide
theorem akQ (L:Nat->List Cv.ag) (pf:Nat->Int) (a:Ask):fA L pf a<=9:=by
 have:=YD a 111
 unfold fA Pu.jU
 (repeat' split) <;> omega
theorem ajR (L:Nat->List Cv.ag) (pf:Nat->Int) (a:Ask):dh L pf a<=9:=by
 have:=YD a 99
 unfold dh Pu.gU
 (repeat' split) <;> omega
end Fl
section
variable {w W W':World} {ad:Nat->Addr} {b0 q:Nat} {B:bP} {X X' X2:bX} {wd h seed:Int} {S:af.St} {vp vr:Value} {r:af.cB}
theorem ajW (a:Ask) (W:World) (R:Hid (bS w b0 W B X wd h seed S q vp vr r)) (hs:Hid (bO w ad)) (hn:r.rp.length<=100000) (hp:r.pl.length<=100000) :
  Calls Tryz.prog 188 #[Qc q,bu a] W fun e w'=>e=.returned (.tuple #[])/\CV w b0 W w' B X wd h seed S q (af.qm r a):=by
 have HP:Hid (∀ W',Qd W W'->Calls Tryz.prog 215 #[Qc B.F,bu a] W' fun e w'=>e=.returned (cV (rh ad) (Fl.fA r.L r.pf a))/\∃ X',bS w b0 w' B X' wd h seed S q vp vr { r with L:=Fl.iB r.L r.pf a,pf:=Fl.jV r.L r.pf a }/\b_ W' w' b0 B X X'/\aJ W' w' (fun k=>nX B X k)):=fun W' hb=>by
  have R':=R.out.later hb;refine(aex a R'.fl hs.out.CW R'.all.ok).mono ?_;rintro e w' ⟨rfl,v',h1,h2⟩;exact⟨rfl,_,R'.floor h1 h2 ⟨R'.all.ok.place a,R'.all.kZ,R'.all.rule⟩⟩
 have hle:=Fl.akQ r.L r.pf a;have HRR:Hid (af.qm r a = { r with L:=Fl.iB r.L r.pf a,pf:=Fl.jV r.L r.pf a,pl:=if Fl.fA r.L r.pf a=0 then r.pl++[a] else r.pl,rp:=if Fl.fA r.L r.pf a=0 then r.rp else r.rp++[af.gD a.c a.id (Fl.fA r.L r.pf a+1)] }):=rfl;generalize af.qm r a=rr at *;generalize Fl.fA r.L r.pf a=pc at *;generalize Fl.iB r.L r.pf a=pL at *;generalize Fl.jV r.L r.pf a=apr at *;have hb1:Qd W (W.alloc (.cells (aT a) 95)):=(bRq _ _).alloc (lRq _) _;have hb2:Qd W (W.alloc (.cells (aT a) 95)).drew:=hb1.trans (eO.mono (by simp));have hA:(W.alloc (.cells (aT a) 95)).drew.heap[W.heap.size]?=some (.cells (aT a) 95 (0,0)):=hNq W (.cells (aT a) 95);have HB2:=hDq hb2;have HA:=hDq hA;have c0:=R.out.cells.1;have xz:=R.out.lt;have ho:∀ k,nX B X k->k<W.heap.size:=fun k hk=>Oo R.out.aS hk;clear hb1 hb2 hA;cases pc with
 | succ d =>
  rw[show cV (rh ad) (d+1)=.iface 412 (.pointer (some (ad (d+1)))) from rfl]at HP;rw[if_neg (by omega),if_neg (by omega)]at HRR;unfold bu aT at *;go_enter Tryz.func188,Tryz.ntmps188
  go_wp2_with fail
  go_region_with (go_at_call 215;refine(HP.out _ HB2.out).mono ?_;rintro e w2 ⟨rfl,X2,h1,h2,h3⟩;have H1:=hDq h1;have H2:=hDq h2;have cz:=hDq ((h3.block W.heap.size (lBq HA.out) (fun e=>by have:=ho _ e;omega)).trans HA.out);clear h1 h2 h3)
  all_goals
   have e0:w2.cell? (Qb W.heap.size 0)=some (.int .u8 a.k):=by rw[cR _ _ _ _ _ _ cz.out];rfl
   have e1:w2.cell? (Qb W.heap.size 1)=some (Qa a.c):=by rw[cR _ _ _ _ _ _ cz.out];rfl
   have e2:w2.cell? (Qb W.heap.size 2)=some (Qa a.sq):=by rw[cR _ _ _ _ _ _ cz.out];rfl
   have e3:w2.cell? (Qb W.heap.size 3)=some (Qa a.it):=by rw[cR _ _ _ _ _ _ cz.out];rfl
   have e4:w2.cell? (Qb W.heap.size 4)=some (Qa a.sd):=by rw[cR _ _ _ _ _ _ cz.out];rfl
   have e5:w2.cell? (Qb W.heap.size 5)=some (Qa a.pr):=by rw[cR _ _ _ _ _ _ cz.out];rfl
   have e6:w2.cell? (Qb W.heap.size 6)=some (Qa a.q):=by rw[cR _ _ _ _ _ _ cz.out];rfl
   have e7:w2.cell? (Qb W.heap.size 7)=some (Qa a.id):=by rw[cR _ _ _ _ _ _ cz.out];rfl
   have HF:=hDq (X0 a (d+1) (by omega) w2 hs H1.out hn);unfold bu aT at HF
   go_wp2_with fail
   refine HF.out.mono ?_;rintro e w3 ⟨rfl,xI,h3,h4,_⟩;have H3:=hDq h3;have ee:=hDq (((b_.below HB2.out b0 B X).trans H2.out).trans h4);clear h3 h4;simp only[];go_wp2;refine bodyPost_ret (v:=.tuple #[]) (by simp[results,Tryz.results188]) rfl ?_;exact⟨rfl,X2,vp,xI,by rw[HRR.out];exact H3.out,ee.out⟩
 | zero =>
  rw[show cV (rh ad) 0=.nilIface from rfl]at HP;rw[if_pos rfl,if_pos rfl]at HRR;unfold bu aT at *;go_enter Tryz.func188,Tryz.ntmps188
  go_wp2_with fail
  go_region_with (go_at_call 215;refine(HP.out _ HB2.out).mono ?_;rintro e w2 ⟨rfl,X2,h1,h2,h3⟩;have H1:=hDq h1;have H2:=hDq h2;have cz:=hDq ((h3.block W.heap.size (lBq HA.out) (fun e=>by have:=ho _ e;omega)).trans HA.out);clear h1 h2 h3)
  all_goals
   have hb3:Qd w2 (w2.drew.alloc (.cells (aT a) 95)):=eO.alloc eO.size _;have Io:=dG hb3 cz.out;obtain⟨v4,w4,hap,hrow,hg⟩:=XY w2.drew vp r.pl a (H1.out.later eO).pl hp (H1.out.later eO).hib;have qG:=H1.out.later hb3;have hb0:=R.out.hib;have YE:w4.heap[W.heap.size]?=some (.cells #[.int .u8 a.k,Qa a.c,Qa a.sq,Qa a.it,Qa a.sd,Qa a.pr,Qa a.q,Qa a.id] 95 (0,0)):=by
    rw[hg.block _ (lBq Io) (fun e=>?_)]
    .exact Io
    .have:=(R.out.pl.lt _ e.symm).2
     omega
   have zI:w4.cell? (Qb q 1)=some vp/\w4.frozen? (Qb q 1)=false:=by
    have e:w4.heap[q]?=some (.cells #[Qc B.F,vp,vr] 240 (0,0)):=by
     rw[hg.block q (lBq qG.blk) (fun e=>?_)]
     .exact qG.blk
     .obtain⟨_,cur,h2⟩:=cP qG.pl e.symm
      exact aI h2 qG.blk (by decide) rfl
    exact⟨by rw[cR _ _ _ _ _ _ e];rfl,by simp[World.frozen?,e]⟩
   obtain⟨g1,g2⟩:=zI;have HT:=hDq (H1.out.listed hb3 hg hrow);have q3:=qG.cells.2.1;have q2:=(H1.out.later eO).cells.2.1;obtain⟨a0,qh,hvp⟩:=gi H1.out.pl;obtain⟨a4,c4,hv4⟩:=gi hrow;rw[lAq,List.length_singleton]at hv4;have hvp:vp=.slice a0 r.pl.length qh:=hvp;rw[hvp]at hap q3 q2 g1;rw[hv4]at hap HT;rw[show w2.drew.heap.size=w2.heap.size from rfl]at hap;have dJ:=hDq hap;have jE:=hDq Io;have eB:=hDq YE;have OO:=hDq q3;have sM:=hDq g1;have akR:Hid (w2.drew.heap[W.heap.size]?=some (.cells #[.int .u8 a.k,Qa a.c,Qa a.sq,Qa a.it,Qa a.sd,Qa a.pr,Qa a.q,Qa a.id] 95 (0,0))):=cz.out;clear hap hrow hg hv4 hvp Io YE hb3 qG q3 g1;generalize r.pl.length=m at *;unfold aT at *;have aiz:q<w2.heap.size:=H1.out.lt;have e0:w2.cell? (Qb W.heap.size 0)=some (.int .u8 a.k):=by rw[cR _ _ _ _ _ _ cz.out];rfl
   have e1:w2.cell? (Qb W.heap.size 1)=some (Qa a.c):=by rw[cR _ _ _ _ _ _ cz.out];rfl
   have e2:w2.cell? (Qb W.heap.size 2)=some (Qa a.sq):=by rw[cR _ _ _ _ _ _ cz.out];rfl
   have e3:w2.cell? (Qb W.heap.size 3)=some (Qa a.it):=by rw[cR _ _ _ _ _ _ cz.out];rfl
   have e4:w2.cell? (Qb W.heap.size 4)=some (Qa a.sd):=by rw[cR _ _ _ _ _ _ cz.out];rfl
   have e5:w2.cell? (Qb W.heap.size 5)=some (Qa a.pr):=by rw[cR _ _ _ _ _ _ cz.out];rfl
   have e6:w2.cell? (Qb W.heap.size 6)=some (Qa a.q):=by rw[cR _ _ _ _ _ _ cz.out];rfl
   have e7:w2.cell? (Qb W.heap.size 7)=some (Qa a.id):=by rw[cR _ _ _ _ _ _ cz.out];rfl
   go_wp2;clear e0 e1 e2 e3 e4 e5 e6 e7;obtain⟨bH,val,hcl,aP⟩:=lg (fun W'=>W'.heap[W.heap.size]?=some (.cells #[.int .u8 a.k,Qa a.c,Qa a.sq,Qa a.it,Qa a.sd,Qa a.pr,Qa a.q,Qa a.id] 95 (0,0))/\W'.cell? (Qb q 1)=some (.slice a0 m qh));obtain⟨x0,hx0⟩:=aP w2.drew ⟨akR.out,q2⟩;have hnx:Nonempty bH:=⟨x0⟩;have s0:∀ x0,(val x0).cell? (Qb W.heap.size 0)=some (.int .u8 a.k):=fun x0=>by rw[cR _ _ _ _ _ _ (hcl x0).1];rfl
   have s1:∀ x0,(val x0).cell? (Qb W.heap.size 1)=some (Qa a.c):=fun x0=>by rw[cR _ _ _ _ _ _ (hcl x0).1];rfl
   have s2:∀ x0,(val x0).cell? (Qb W.heap.size 2)=some (Qa a.sq):=fun x0=>by rw[cR _ _ _ _ _ _ (hcl x0).1];rfl
   have s3:∀ x0,(val x0).cell? (Qb W.heap.size 3)=some (Qa a.it):=fun x0=>by rw[cR _ _ _ _ _ _ (hcl x0).1];rfl
   have qU:∀ x0,(val x0).cell? (Qb W.heap.size 4)=some (Qa a.sd):=fun x0=>by rw[cR _ _ _ _ _ _ (hcl x0).1];rfl
   have yV:∀ x0,(val x0).cell? (Qb W.heap.size 5)=some (Qa a.pr):=fun x0=>by rw[cR _ _ _ _ _ _ (hcl x0).1];rfl
   have yX:∀ x0,(val x0).cell? (Qb W.heap.size 6)=some (Qa a.q):=fun x0=>by rw[cR _ _ _ _ _ _ (hcl x0).1];rfl
   have w7:∀ x0,(val x0).cell? (Qb W.heap.size 7)=some (Qa a.id):=fun x0=>by rw[cR _ _ _ _ _ _ (hcl x0).1];rfl
   have p7:∀ x0,(val x0).cell? (Qb q 1)=some (.slice a0 m qh):=fun x0=>(hcl x0).2;have M1:=hDq (aP _ ⟨jE.out,OO.out⟩);have p9:=hDq (aP _ ⟨eB.out,sM.out⟩);have akS:=sM.out;clear aP hcl;refine uJ (val:=val) [6,7] 10 30 [0,1,2,3,4,5,6,7,8,9,10] (by kernel_rfl) (by kernel_rfl) x0 hx0 ?_;rw[hx0];clear hx0
   iterate 6 (refine bE rfl rfl (fun K hK=>?_);refine⟨by rfl,?_⟩;unfold aB;go_simp;refine hK _ ?_;clear hK K)
   refine mF rfl rfl (fun K hK=>?_);refine⟨by rfl,?_⟩;unfold aQ;go_simp;refine⟨M1.out,hK _ _ ?_⟩;clear hK K;refine mF rfl rfl (fun K hK=>?_);refine⟨by rfl,?_⟩;refine w5 _ _ 24 rfl _ _ _ rfl rfl dJ.out ?_;refine⟨p9.out,hK _ _ ?_⟩;clear hK K
   iterate 2 (refine bE rfl rfl (fun K hK=>?_);refine⟨by rfl,?_⟩;unfold aB;go_simp;refine hK _ ?_;clear hK K)
   refine uL rfl (fun K hK=>?_);refine⟨by rfl,?_⟩;unfold aQ;go_simp;refine hK _ _ ?_;clear hK K;go_wp2;go_end0;exact⟨rfl,X2,_,vr,by rw[HRR.out];exact HT.out.1,((b_.below HB2.out b0 B X).trans H2.out).trans HT.out.2⟩
end
namespace af
def same (a x:Ask):Bool:=x.it==a.it&&x.id==a.id
theorem Ot (a:Ask) (l:List Ask):others a l=l.filter fun x=>!same a x:=rfl
theorem X4 (a:Ask) (l:List Ask) (x:Ask):others a (l++[x])=others a l++if same a x=true then [] else [x]:=by
 rw[Ot,Ot,List.filter_append];cases h:same a x <;> simp[h]
theorem Ib {l:List Ask} {k:Nat} (h:k<l.length):l.take (k+1)=l.take k++[cY l k]:=by
 rw[List.take_succ_eq_append_getElem h];congr 2
 have:=Ms h
 rw[List.getElem?_eq_getElem h]at this;exact Option.some.inj this
theorem X5 {a:Ask} {l:List Ask} (h:∀ x∈l,same a x=false):others a l=l:=by
 rw[Ot,List.filter_eq_self];intro x hx;rw[h x hx];rfl
end af
theorem X6 (A:Nat) (a x:Ask) (w:World) (hA:w.heap[A]?=some (.cells (aT a) 95 (0,0))) :
  Calls Tryz.prog 219 #[bu x,Qc A] w fun e w'=>e=.returned (.bool (af.same a x))/\Qd w w':=by
 have c3:w.cell? (Qb A 3)=some (Qa a.it):=by rw[cR _ _ _ _ _ _ hA];rfl
 have c7:w.cell? (Qb A 7)=some (Qa a.id):=by rw[cR _ _ _ _ _ _ hA];rfl
 have hlt:=lBq hA;have hs:af.same a x=(x.it==a.it&&x.id==a.id):=rfl;rw[hs];clear hA hs;cases h1:(x.it==a.it)
 all_goals
  unfold bu aT;go_enter Tryz.func219,Tryz.ntmps219;go_wp2;go_ret;refine⟨by simp,(bRq _ _).alloc (lRq _) _⟩
theorem zD {w:World} {base g n cap:Nat} {R:List Ask} (hrow:w.ownsRow base 95 8 (.slice (some (Qb g 0)) n cap) n (bm R)) {k:Nat} (hk:k<R.length) (hkn:k<n) :
  w.cell? ⟨g,k*8,none⟩=some (.int .u8 (cY R k).k)/\w.cell? ⟨g,k*8+1,none⟩=some (Qa (cY R k).c)/\w.cell? ⟨g,k*8+2,none⟩=some (Qa (cY R k).sq)/\w.cell? ⟨g,k*8+3,none⟩=some (Qa (cY R k).it)/\w.cell? ⟨g,k*8+4,none⟩=some (Qa (cY R k).sd)/\w.cell? ⟨g,k*8+5,none⟩=some (Qa (cY R k).pr)/\w.cell? ⟨g,k*8+6,none⟩=some (Qa (cY R k).q)/\w.cell? ⟨g,k*8+7,none⟩=some (Qa (cY R k).id):=by
 have key:∀ j,j<8->w.cell? ⟨g,k*8+j,none⟩=(lR (cY R k))[j]?:=fun j hj=>by
  rw[(lS hrow (k*8+j) (by omega)).2.2,afN R k j hk hj]
 exact⟨key 0 (by decide),key 1 (by decide),key 2 (by decide),key 3 (by decide),key 4 (by decide),key 5 (by decide),key 6 (by decide),key 7 (by decide)⟩
theorem ajX (base g n cap A:Nat) (a:Ask) (l:List Ask) (w:World) (hn':n<=100000) (ln:Hid (l.length=n)) (hrow:Hid (w.ownsRow base 95 8 (.slice (some (Qb g 0)) n cap) n (bm l))) (hA:Hid (w.heap[A]?=some (.cells (aT a) 95 (0,0)))) :
  Calls Tryz.prog 249 #[.slice (some (Qb g 0)) n cap,.func (.func 219) #[] #[Qc A]] w fun e w'=>((e=.returned (Qa (-1))/\∀ x∈l,af.same a x=false)\/∃ k,k<n/\e=.returned (Qa (k:Nat))/\(∀ x∈l.take k,af.same a x=false)/\af.same a (cY l k)=true)/\Qd w w':=by
 go_enter Tryz.func249,Tryz.ntmps249;go_wp2
 go_loopw [8] (fun i wr=>∃ k:Nat,k<=n/\i=Qa k/\(∀ x∈l.take k,af.same a x=false)/\Qd w wr) (fun i _=>n-(intOf i).toNat)
 case atStart=>exact⟨0,Nat.zero_le _,rfl,by simp,bRq _ _⟩
 case round =>
  obtain⟨k,hk,rfl,hno,hb⟩:=hrel;have HN:=hDq hno;have HB:=hDq hb;clear hno hb;by_cases hlt:k<n
  .have aX:(k:Int)<n:=by omega
   have hkl:k<l.length:=by rw[ln.out];exact hlt
   obtain⟨c0,c1,c2,c3,c4,c5,c6,c7⟩:=zD (cO hrow.out HB.out) hkl hlt;have HC:=hDq (X6 A a (cY l k) wr (dG HB.out hA.out));have HT:=hDq (af.Ib hkl);obtain⟨x,rQ⟩:∃ x,cY l k=x:=⟨_,rfl⟩;rw[rQ]at HC HT c0 c1 c2 c3 c4 c5 c6 c7;have HX:=hDq rQ;clear rQ;unfold bu aT at HC
   go_wp2_with fail
   refine HC.out.mono ?_;rintro e w2 ⟨rfl,hb2⟩;have HB2:=hDq (HB.out.trans (hb2.mono HB.out.size));clear hb2 c0 c1 c2 c3 c4 c5 c6 c7 HC;cases hx:af.same a x with
   | true =>
    have Hx:=hDq hx;clear hx;simp only[];go_wp2;go_ret;exact⟨.inr ⟨k,hlt,rfl,HN.out,by rw[HX.out];exact Hx.out⟩,HB2.out⟩
   | false =>
    have py:Hid (∀ y∈l.take (k+1),af.same a y=false):=fun y hy=>by
     rw[HT.out]at hy;rcases List.mem_append.1 hy with h | h
     .exact HN.out y h
     .rw[List.mem_singleton.1 h];exact hx
    clear hx;simp only[];go_wp2;exact⟨⟨k+1,by omega,by go_num,py.out,HB2.out⟩,by simp[intOf];omega⟩
  .have aX:¬ (k:Int)<n:=by omega
   have dW:k=l.length:=by rw[ln.out];omega
   have hno:=HN.out;rw[dW,List.take_length]at hno;have py:=hDq hno;clear hno dW;go_wp2;go_ret;exact⟨.inl ⟨rfl,py.out⟩,HB.out⟩
theorem ajY (a:Option Addr) (f:Value) (w:World):Calls Tryz.prog 249 #[.slice a 0 0,f] w fun e w'=>e=.returned (Qa (-1))/\w'=w:=by
 go_enter Tryz.func249,Tryz.ntmps249;go_wp2;refine wp_loop_rounds 1 ?_;rw[rounds_succ];go_wp2;go_ret;exact⟨rfl,rfl⟩
theorem ajZ (w:World) (b o J c:Nat) (hJ:0<J) (hc:∀ j,j<J*8->(w.cell? ⟨b,o+j,none⟩).isSome=true) (hf:∀ j,j<J*8->w.frozen? ⟨b,o+j,none⟩=false) :
  ∃ zs:List Value,zs.length=J*8/\∀ ty,(Builtin.clear_ #[24] ty #[.slice (some (Qb b o)) J c]).run Tryz.prog w=.ok (.tuple #[]) (w.setCells b o zs):=by
 obtain⟨zs,hzs⟩:∃ zs,zs=(Builtin.zeroCells (Value.agg #[.int .u8 0,Qa 0,Qa 0,Qa 0,Qa 0,Qa 0,Qa 0,Qa 0]).cells J).toList:=⟨_,rfl⟩;have X7:(Value.agg #[.int .u8 0,Qa 0,Qa 0,Qa 0,Qa 0,Qa 0,Qa 0,Qa 0]).cells=#[.int .u8 0,Qa 0,Qa 0,Qa 0,Qa 0,Qa 0,Qa 0,Qa 0]:=by kernel_rfl
 have hl:zs.length=J*8:=by rw[hzs,X7];simp[Builtin.zeroCells]
 have h1:∀ u∈zs,u.oneCell'=true:=by
  intro u hu;rw[hzs,X7]at hu;simp only[Builtin.zeroCells,Array.toList_map,List.mem_map]at hu;obtain⟨i,_,rfl⟩:=hu;have:i%8=0\/i%8=1\/i%8=2\/i%8=3\/i%8=4\/i%8=5\/i%8=6\/i%8=7:=by omega
  show (#[(.int .u8 0:Value),Qa 0,Qa 0,Qa 0,Qa 0,Qa 0,Qa 0,Qa 0][i%8]!).oneCell'=true;rcases this with e | e | e | e | e | e | e | e <;> rw[e] <;> rfl
 have hst:=run_storeCells_cells (P:=Tryz.prog) b o zs 0 w (fun j hj=>by rw[hl]at hj;exact hc j hj) (fun j hj=>by rw[hl]at hj;exact hf j hj) h1;simp only[Nat.add_zero]at hst;refine⟨zs,hl,fun ty=>?_⟩;obtain⟨X8,rfl⟩:∃ X8,J=X8+1:=⟨J-1,by omega⟩;simp[Builtin.clear_,run_underlying Tryz.underlying24,<- hzs,hst]
theorem aj0 {w:World} {base g n cap:Nat} {R:List Ask} (hrow:w.ownsRow base 95 8 (.slice (some (Qb g 0)) n cap) n (bm R)) (hR:R.length=n) (hcap:n<=cap) {i:Nat} (hi:i<n) (x:Ask) :
  (w.setCells g (i*8) (lR x)).ownsRow base 95 8 (.slice (some (Qb g 0)) n cap) n (bm (R.take i++x::R.drop (i+1))):=by
 have e:bm (R.take i++x::R.drop (i+1))=(bm R).take (i*8)++lR x++(bm R).drop (i*8+(lR x).length):=by
  rw[uH,Un R i (by omega),show i*8+(lR x).length=(i+1)*8 by show i*8+8=_;omega,Uj R (i+1) (by omega),aAq];rfl
 have hl:(bm (R.take i++x::R.drop (i+1))).length=n*8:=by
  rw[nI];simp;omega
 exact Gq hrow (i*8) (lR x) n hcap (by show i*8+8<=_;omega) _ hl (lRq _) (by rw[<- e];exact List.take_of_length_le (by omega))
def X9 (w w':World) (e:Ending) (base:Nat) (v:Value) (l:List Ask):Prop :=
 ∃ v',e=.returned v'/\w'.ownsRow base 95 8 v' l.length (bm l)/\w.grownBy w' v.ownBlock
theorem aJ.aj1 {w w':World} {g:Nat} (h:aJ w w' (fun k=>k=g)):w.grownBy w' (some g):=⟨h.os,h.tape,h.output,h.size,fun k hk hn=>h.block k hk (fun e=>hn (by rw[e]))⟩
theorem aj2 (base g n cap A:Nat) (a:Ask) (l:List Ask) (w:World) (hn':n<=100000) (hcap:n<=cap) (ln:Hid (l.length=n)) (hrow:Hid (w.ownsRow base 95 8 (.slice (some (Qb g 0)) n cap) n (bm l))) (hA:Hid (w.heap[A]?=some (.cells (aT a) 95 (0,0)))) (aj3:Hid (g≠A)) :
  Calls Tryz.prog 218 #[.slice (some (Qb g 0)) n cap,.func (.func 219) #[] #[Qc A]] w fun e w'=>X9 w w' e base (.slice (some (Qb g 0)) n cap) (af.others a l):=by
 have HI:=hDq (ajX base g n cap A a l w hn' ln hrow hA);go_enter Tryz.func218,Tryz.ntmps218
 go_wp2_with fail
 refine HI.out.mono ?_;rintro e w2 ⟨h1 | ⟨kY,hk0,rfl,hno,X_⟩,hb2⟩
 .obtain⟨rfl,hno⟩:=h1
  have aj4:=hDq (af.X5 hno);have HB2:=hDq hb2;clear hno hb2 HI;simp only[];go_wp2;go_ret;refine⟨_,rfl,?_,?_⟩
  .rw[aj4.out,ln.out];exact cO hrow.out HB2.out
  .exact⟨HB2.out.os,HB2.out.tape,HB2.out.output,HB2.out.size,fun k hk _=>HB2.out.block k hk⟩
 .have hkl:kY<l.length:=by rw[ln.out];exact hk0
  have H0:Hid (af.others a (l.take (kY+1))=l.take kY):=by
   show _=_;rw[af.Ib hkl,af.X4,af.X5 hno,X_];simp
  have HB2:=hDq hb2;clear hno X_ hb2 HI;have hne:¬ ((kY:Int) = -1):=by omega
  simp only[]
  go_wp2_with fail
  go_loopw [5,6] (fun iv Ou wr=>∃ i j:Nat,i<j/\j<=n/\iv=Qa i/\Ou=Qa j/\i=(af.others a (l.take j)).length/\wr.ownsRow base 95 8 (.slice (some (Qb g 0)) n cap) n (bm (af.others a (l.take j)++l.drop i))/\aJ w wr (fun k=>k=g)) (fun _ Ou _=>n-(intOf Ou).toNat)
  case atStart =>
   refine⟨kY,kY+1,by omega,hk0,rfl,by go_num,?_,?_,aJ.of_below HB2.out _⟩
   .rw[H0.out,lKq];omega
   .rw[H0.out,List.take_append_drop];exact cO hrow.out HB2.out
  case round =>
   obtain⟨i,j,hij,hj,rfl,rfl,hi,hr,ht⟩:=hrel;have HR:=hDq hr;have HT:=hDq ht;have HL:=hDq hi;clear hr ht hi;have hin:(i:Int)<n:=by omega
   by_cases hlt:j<n
   .have bI:(j:Int)<n:=by omega
    have vq:j<l.length:=by rw[ln.out];exact hlt
    have wE:(af.others a (l.take j)++l.drop i).length=n:=by
     rw[lAq,<- HL.out,List.length_drop,ln.out];omega
    have hat:cY (af.others a (l.take j)++l.drop i) j=cY l j:=by
     unfold cY;rw[gE,gE,List.getElem?_append_right (by rw[<- HL.out];omega),<- HL.out,List.getElem?_drop];congr 2;omega
    obtain⟨c0,c1,c2,c3,c4,c5,c6,c7⟩:=zD HR.out (by rw[wE];exact hlt) hlt;rw[hat]at c0 c1 c2 c3 c4 c5 c6 c7;have qd:g<wr.heap.size:=bCq _ _ c0;have apk:g≠wr.heap.size:=by omega
    have my:Hid (af.others a (l.take (j+1))=af.others a (l.take j)++if af.same a (cY l j)=true then [] else [cY l j]):=by
     show _=_;rw[af.Ib vq,af.X4]
    have vk:=hDq wE;have HC:Hid (∀ W',Qd wr W'->Calls Tryz.prog 219 #[bu (cY l j),Qc A] W' fun e w'=>e=.returned (.bool (af.same a (cY l j)))/\Qd W' w'):=fun W' hb=>X6 A a (cY l j) W' (dG hb ((HT.out.block A (lBq hA.out) (fun e=>aj3.out e.symm)).trans hA.out));clear hat wE;generalize cY l j=x at *;have au:Hid (Qd wr (wr.alloc (.cells (aT x) 95))):=(bRq _ _).alloc (lRq _) _;have er:=hDq (hNq wr (.cells (aT x) 95));unfold bu aT at *
    go_wp2_with fail
    refine(HC.out _ au.out).mono ?_;rintro e w4 ⟨rfl,hb4⟩;have bJ:=hDq (au.out.trans (hb4.mono au.out.size));have kM:=hDq (dG hb4 er.out);have bR:=hDq (cO HR.out bJ.out);have Ya:Hid (aJ w w4 (fun k=>k=g)):=HT.out.trans (aJ.of_below bJ.out _) (fun _ h=>.inl h);have apl:wr.heap.size<w4.heap.size:=lBq kM.out;clear hb4 HC au er c0 c1 c2 c3 c4 c5 c6 c7;cases hx:af.same a x with
    | true =>
     rw[hx,if_pos rfl,aNq]at my;clear hx;simp only[];go_wp2;refine⟨⟨i,j+1,by omega,hlt,rfl,by go_num,?_,?_,Ya.out⟩,by simp[intOf];omega⟩
     .rw[my.out];exact HL.out
     .rw[my.out];exact bR.out
    | false =>
     rw[hx,if_neg (by decide)]at my;clear hx;obtain⟨d0,d1,d2,d3,d4,d5,kT,sR⟩:=zD bR.out (k:=i) (by rw[vk.out];omega) (by omega);generalize cY (af.others a (l.take j)++l.drop i) i=y at *;have f0:w4.frozen? ⟨g,i*8,none⟩=false:=(lS bR.out (i*8) (by omega)).2.1;have f1:w4.frozen? ⟨g,i*8+1,none⟩=false:=(lS bR.out (i*8+1) (by omega)).2.1;have f2:w4.frozen? ⟨g,i*8+2,none⟩=false:=(lS bR.out (i*8+2) (by omega)).2.1;have f3:w4.frozen? ⟨g,i*8+3,none⟩=false:=(lS bR.out (i*8+3) (by omega)).2.1;have f4:w4.frozen? ⟨g,i*8+4,none⟩=false:=(lS bR.out (i*8+4) (by omega)).2.1;have f5:w4.frozen? ⟨g,i*8+5,none⟩=false:=(lS bR.out (i*8+5) (by omega)).2.1;have f6:w4.frozen? ⟨g,i*8+6,none⟩=false:=(lS bR.out (i*8+6) (by omega)).2.1;have f7:w4.frozen? ⟨g,i*8+7,none⟩=false:=(lS bR.out (i*8+7) (by omega)).2.1;have b0:w4.cell? (Qb wr.heap.size 0)=some (.int .u8 x.k):=by rw[cR _ _ _ _ _ _ kM.out];rfl
     have b1:w4.cell? (Qb wr.heap.size 1)=some (Qa x.c):=by rw[cR _ _ _ _ _ _ kM.out];rfl
     have b2:w4.cell? (Qb wr.heap.size 2)=some (Qa x.sq):=by rw[cR _ _ _ _ _ _ kM.out];rfl
     have b3:w4.cell? (Qb wr.heap.size 3)=some (Qa x.it):=by rw[cR _ _ _ _ _ _ kM.out];rfl
     have b4:w4.cell? (Qb wr.heap.size 4)=some (Qa x.sd):=by rw[cR _ _ _ _ _ _ kM.out];rfl
     have b5:w4.cell? (Qb wr.heap.size 5)=some (Qa x.pr):=by rw[cR _ _ _ _ _ _ kM.out];rfl
     have b6:w4.cell? (Qb wr.heap.size 6)=some (Qa x.q):=by rw[cR _ _ _ _ _ _ kM.out];rfl
     have b7:w4.cell? (Qb wr.heap.size 7)=some (Qa x.id):=by rw[cR _ _ _ _ _ _ kM.out];rfl
     have HP:=hDq (aj0 bR.out vk.out hcap (i:=i) (by omega) x);have aj5:Hid (aJ w (w4.setCells g (i*8) (lR x)) (fun k=>k=g)):=Ya.out.trans (aJ.setCells w4 g (lR x) (i*8)) (fun _ h=>.inl h);have HE:Hid ((af.others a (l.take j)++l.drop i).take i++x::(af.others a (l.take j)++l.drop i).drop (i+1)=af.others a (l.take (j+1))++l.drop (i+1)):=by
      show _=_;rw[my.out];have hl:=HL.out;generalize af.others a (l.take j)=O at *;subst hl;rw[List.take_left,List.drop_append,List.drop_of_length_le (by omega),List.nil_append,List.drop_drop,show O.length+(O.length+1-O.length)=O.length+1 by omega];simp
     rw[HE.out]at HP;simp only[];go_wp2;refine⟨⟨i+1,j+1,by omega,hlt,by go_num,by go_num,?_,HP.out,aj5.out⟩,by simp[intOf];omega⟩;rw[my.out,lAq,<- HL.out];rfl
   .have bI:¬ (j:Int)<n:=by omega
    obtain rfl:j=n:=by omega
    have abq:i≠cap:=by omega
    obtain⟨zs,hzl,hcl⟩:=ajZ wr g (i*8) (j-i) (cap-i) (by omega) (fun t ht=>(lS HR.out _ (by omega)).1) (fun t ht=>(lS HR.out _ (by omega)).2.1);have hO:af.others a (l.take j)=af.others a l:=by rw[<- ln.out,List.take_length]
    have eU:Hid ((wr.setCells g (i*8) zs).ownsRow base 95 8 (.slice (some (Qb g 0)) i cap) i (bm (af.others a l))):=by
     have hl:=HL.out;rw[hO]at hl;have hr:=HR.out;rw[hO]at hr;refine Gq hr (i*8) zs i (by omega) (by rw[hzl];omega) _ (by rw[nI,<- hl]) (by omega) ?_;rw[Un _ i (by rw[lAq];omega),aAq,List.take_append_of_le_length (by rw[nI,lKq,lAq];omega)];rw[show (af.others a l++l.drop i).take i=af.others a l by rw[hl,List.take_left],List.take_of_length_le (by rw[nI,<- hl];omega)]
    have aj6:Hid (aJ w (wr.setCells g (i*8) zs) (fun k=>k=g)):=HT.out.trans (aJ.setCells wr g zs (i*8)) (fun _ h=>.inl h);have aj7:Hid (i=(af.others a l).length):=by rw[<- hO];exact HL.out
    have apm:i<=cap:=by omega
    have apn:i<=j:=by omega
    clear hO hzl;go_wp2;go_ret;exact⟨_,rfl,by rw[<- aj7.out];exact eU.out,aj6.out.aj1⟩
theorem ajT (base A:Nat) (v:Value) (a:Ask) (l:List Ask) (w:World) (hn:l.length<=100000) (hrow:w.ownsRow base 95 8 v l.length (bm l)) (hA:w.heap[A]?=some (.cells (aT a) 95 (0,0))) (hne:v.ownBlock≠some A) :
  Calls Tryz.prog 218 #[v,.func (.func 219) #[] #[Qc A]] w fun e w'=>X9 w w' e base v (af.others a l):=by
 rcases hrow.2 with ⟨rfl,hl⟩ | ⟨g,cap,cur,rfl,_,_,hcap,_⟩
 .have e:l=[]:=List.length_eq_zero_iff.1 hl
  subst e;have HI:=hDq (fun f=>ajY none f w);have HR:=hDq hrow;clear hrow hA hne hn hl;go_enter Tryz.func218,Tryz.ntmps218
  go_wp2_with fail
  refine(HI.out _).mono ?_;rintro e w2 ⟨rfl,rfl⟩;simp only[];go_wp2;go_ret;exact⟨_,rfl,HR.out,⟨rfl,rfl,rfl,lRq _,fun _ _ _=>rfl⟩⟩
 .exact aj2 base g l.length cap A a l w hn hcap rfl hrow hA (fun e=>hne (by rw[e];rfl))
section
variable {w W W':World} {ad:Nat->Addr} {b0 q:Nat} {B:bP} {X X' X2:bX} {wd h seed:Int} {S:af.St} {vp vr:Value} {r:af.cB}
theorem bS.H_ {D:Nat} {cur:Array Value} {fz:Nat×Nat} (R:bS w b0 W B X wd h seed S q vp vr r) (hk:W.heap[D]?=some (.cells cur 197 fz)) (hD:¬ dH B X D) (hs:aM W W' D) (hlo:w.heap.size<=D):bS w b0 W' B X wd h seed S q vp vr r:=by
 have ht:aJ W W' (fun k=>k=D):=⟨hs.os,hs.tape,hs.output,hs.size,fun k hk hn=>hs.block k hk hn⟩;have key:∀ {base:Nat} {e:TypeId} {sz n:Nat} {v:Value} {xs:List Value},W.ownsRow base e sz v n xs->e≠197->W'.ownsRow base e sz v n xs:=fun {base e sz n v xs} qF hne=>eM qF ht (fun k hk2 e1=>by
  obtain⟨_,cur,h2⟩:=cP qF hk2;exact aI h2 hk hne e1)
 refine⟨R.aS.aside ht (aI R.aS.fl.blk hk (by decide)) (fun k hv e=>hD (by rw[<- e];exact hv)) (fun k e=>by rw[e];exact hlo),?_,key R.pl (by decide),key R.rp (by decide),R.lo,R.mP,lTq R.hib hs.size,R.xE,R.all⟩;rw[hs.block q (lBq R.blk) (aI R.blk hk (by decide))];exact R.blk
theorem ajQ (a:Ask) (W:World) (R:Hid (bS w b0 W B X wd h seed S q vp vr r)) (hs:Hid (bO w ad)) (hn:r.rp.length<=100000) (hp:r.pl.length<=100000) :
  Calls Tryz.prog 189 #[Qc q,bu a] W fun e w'=>e=.returned (.tuple #[])/\CV w b0 W w' B X wd h seed S q (af.qj r a):=by
 have dn:Hid (bS w b0 (W.alloc (.cells (aT a) 95)) B X wd h seed S q vp vr r):=R.out.later ((bRq _ _).alloc (lRq _) _);have HB1:Hid (Qd W (W.alloc (.cells (aT a) 95))):=(bRq _ _).alloc (lRq _) _;have HA1:=hDq (hNq W (.cells (aT a) 95));have HW1:Hid (W.heap.size<(W.alloc (.cells (aT a) 95)).heap.size):=by show _<_;simp
 have HP:Hid (∀ W',Below (W.alloc (.cells (aT a) 95)).heap.size (W.alloc (.cells (aT a) 95)) W'->Calls Tryz.prog 217 #[Qc B.F,bu a] W' fun e w'=>e=.returned (.tuple #[bU (Fl.fC r.L a),cV (rh ad) (Fl.dh r.L r.pf a)])/\∃ X',bS w b0 w' B X' wd h seed S q vp vr { r with L:=Fl.dQ r.L a,pf:=Fl.jW r.L r.pf a }/\b_ W' w' b0 B X X'/\aJ W' w' (fun k=>nX B X k)):=fun W' hb=>by
  have R':=dn.out.later hb;refine(adC a R'.fl hs.out.CW R'.all.ok).mono ?_;rintro e w' ⟨rfl,v',h1,h2⟩;exact⟨rfl,_,R'.floor h1 h2 ⟨R'.all.ok.cancel a,R'.all.kZ,R'.all.rule⟩⟩
 have hle:=Fl.ajR r.L r.pf a;have HRR:Hid (af.qj r a = { r with L:=Fl.dQ r.L a,pf:=Fl.jW r.L r.pf a,pl:=if Fl.dh r.L r.pf a=0 then af.others a r.pl else r.pl,rp:=r.rp++if Fl.dh r.L r.pf a=0 then [af.tell af.oZ (Fl.fC r.L a)] else [af.gD a.c a.id (Fl.dh r.L r.pf a+1)] }):=rfl;generalize af.qj r a=rr at *;generalize Fl.dh r.L r.pf a=pc at *;generalize Fl.fC r.L a=x at *;obtain⟨rL,On⟩:∃ rL:af.cB,rL = { r with L:=Fl.dQ r.L a,pf:=Fl.jW r.L r.pf a }:=⟨_,rfl⟩;rw[<- On]at HP;have vk:=hDq On;clear On;have ho:∀ k,nX B X k->k<W.heap.size:=fun k hk=>Oo R.out.aS hk;cases pc with
 | succ d =>
  rw[show cV (rh ad) (d+1)=.iface 412 (.pointer (some (ad (d+1)))) from rfl]at HP;rw[if_neg (by omega),if_neg (by omega)]at HRR;unfold bu aT bU at *;go_enter Tryz.func189,Tryz.ntmps189;go_wp2;generalize W.alloc (.cells #[.int .u8 a.k,Qa a.c,Qa a.sq,Qa a.it,Qa a.sd,Qa a.pr,Qa a.q,Qa a.id] 95)=W1 at *;obtain⟨bH,val,hcl,aP⟩:=CX (fun W'=>W'.heap[W.heap.size]?=some (.cells #[.int .u8 a.k,Qa a.c,Qa a.sq,Qa a.it,Qa a.sd,Qa a.pr,Qa a.q,Qa a.id] 95 (0,0))/\W'.cell? (Qb q 0)=some (Qc B.F));have aR:Hid (∀ W',W'.heap[W.heap.size]?=some (.cells #[.int .u8 a.k,Qa a.c,Qa a.sq,Qa a.it,Qa a.sd,Qa a.pr,Qa a.q,Qa a.id] 95 (0,0))->W'.cell? (Qb q 0)=some (Qc B.F)->∃ x,val x=W'):=fun W' h1 h2=>aP W' ⟨h1,h2⟩;obtain⟨x0,hx0⟩:=aR.out W1.drew HA1.out dn.out.cells.1;have hnx:Nonempty bH:=⟨x0⟩;have s0:∀ x0,(val x0).cell? (Qb W.heap.size 0)=some (.int .u8 a.k):=fun x0=>by rw[cR _ _ _ _ _ _ (hcl x0).1];rfl
  have s1:∀ x0,(val x0).cell? (Qb W.heap.size 1)=some (Qa a.c):=fun x0=>by rw[cR _ _ _ _ _ _ (hcl x0).1];rfl
  have s2:∀ x0,(val x0).cell? (Qb W.heap.size 2)=some (Qa a.sq):=fun x0=>by rw[cR _ _ _ _ _ _ (hcl x0).1];rfl
  have s3:∀ x0,(val x0).cell? (Qb W.heap.size 3)=some (Qa a.it):=fun x0=>by rw[cR _ _ _ _ _ _ (hcl x0).1];rfl
  have qU:∀ x0,(val x0).cell? (Qb W.heap.size 4)=some (Qa a.sd):=fun x0=>by rw[cR _ _ _ _ _ _ (hcl x0).1];rfl
  have yV:∀ x0,(val x0).cell? (Qb W.heap.size 5)=some (Qa a.pr):=fun x0=>by rw[cR _ _ _ _ _ _ (hcl x0).1];rfl
  have yX:∀ x0,(val x0).cell? (Qb W.heap.size 6)=some (Qa a.q):=fun x0=>by rw[cR _ _ _ _ _ _ (hcl x0).1];rfl
  have w7:∀ x0,(val x0).cell? (Qb W.heap.size 7)=some (Qa a.id):=fun x0=>by rw[cR _ _ _ _ _ _ (hcl x0).1];rfl
  have p7:∀ x0,(val x0).cell? (Qb q 0)=some (Qc B.F):=fun x0=>(hcl x0).2;obtain⟨w4,hw4⟩:∃ w4,W1.drew=w4:=⟨_,rfl⟩;have cJ:Hid (Qd W1 w4):=by rw[<- hw4];exact eO
  clear aP hcl;refine t_ (val:=val) (fun D ai=>∃ X2,bS w b0 ai B X2 wd h seed S q vp vr rL/\b_ W1 ai b0 B X X2/\ai.heap[D]?=some (.cells #[Qa x.id,Qa x.ak,Qa x.sd,Qa x.pr,Qa x.q] 197 (0,0))/\W1.heap.size<=D/\ai.heap[W.heap.size]?=some (.cells #[.int .u8 a.k,Qa a.c,Qa a.sq,Qa a.it,Qa a.sd,Qa a.pr,Qa a.q,Qa a.id] 95 (0,0))) (.read 0 (.read 1 (.read 2 (.read 3 (.read 4 (.two 5 (.read 6 (.read 7 (.read 8 (.one 9 (.one 10 (.read 11 .done)))))) 9 (.one 5 (.read 6 (.read 7 (.read 8 (.one 10 (.read 11 .done)))))))))))) (by kernel_rfl) (by kernel_rfl) x0 hx0 ?_;apply Exists.intro;refine⟨?_,?_⟩
  case' refine_1 =>
   rw[hx0,hw4]
   iterate 5 (refine cr rfl (fun K hK=>?_);refine⟨by rfl,?_⟩;unfold aB;go_simp;refine hK _ ?_;clear hK K)
   refine⟨?_,?_⟩
   case refine_1 =>
    refine bW rfl (fun K hK=>?_);refine⟨by rfl,?_⟩;unfold aQ;go_simp;refine(HP.out _ cJ.out).mono ?_;rintro e wc ⟨rfl,X2,h1,h2,h3⟩;have s8:=hDq h1;have CY:=hDq ((b_.below cJ.out b0 B X).trans h2);have xF:=hDq ((h3.block W.heap.size (Nat.lt_of_lt_of_le HW1.out cJ.out.size) (fun e=>by have:=ho _ e;omega)).trans (dG cJ.out HA1.out));have CZ:Hid (W1.heap.size<=wc.heap.size):=lTq cJ.out.size h2.turned.size;refine⟨_,rfl,aR.out _ xF.out s8.out.cells.1,hK _ _ ?_⟩;clear hK K h1 h2 h3
    iterate 3 (refine cr rfl (fun K hK=>?_);refine⟨by rfl,?_⟩;unfold aB;go_simp;refine hK _ ?_;clear hK K)
    refine bW rfl (fun K hK=>?_);refine⟨by rfl,?_⟩;unfold aQ;go_simp;have hba:Qd wc (wc.alloc (.cells #[Qa 0,Qa 0,Qa 0,Qa 0,Qa 0] 197)):=(bRq _ _).alloc (lRq _) _;have av:=hDq (hNq wc (.cells #[Qa 0,Qa 0,Qa 0,Qa 0,Qa 0] 197));have eU:=hDq (s8.out.later hba);have lL:=hDq (CY.out.trans (b_.below hba b0 B X2));have lY:=hDq (dG hba xF.out);have rq:Hid (¬ dH B X2 wc.heap.size):=fun e=>by have:=(s8.out.aS.fj e).2;omega
    have eE:=hDq CZ.out;refine⟨aR.out _ lY.out eU.out.cells.1,hK _ _ ?_⟩;clear hK K hba s8 CY xF CZ;generalize wc.alloc (.cells #[Qa 0,Qa 0,Qa 0,Qa 0,Qa 0] 197)=aj at *;generalize wc.heap.size=aL at *;have c0:aj.cell? (Qb aL 0)=some (Qa 0):=by rw[cR _ _ _ _ _ _ av.out];rfl
    have f0:aj.frozen? (Qb aL 0)=false:=by simp[World.frozen?,av.out]
    have c1:aj.cell? (Qb aL 1)=some (Qa 0):=by rw[cR _ _ _ _ _ _ av.out];rfl
    have f1:aj.frozen? (Qb aL 1)=false:=by simp[World.frozen?,av.out]
    have c2:aj.cell? (Qb aL 2)=some (Qa 0):=by rw[cR _ _ _ _ _ _ av.out];rfl
    have f2:aj.frozen? (Qb aL 2)=false:=by simp[World.frozen?,av.out]
    have c3:aj.cell? (Qb aL 3)=some (Qa 0):=by rw[cR _ _ _ _ _ _ av.out];rfl
    have f3:aj.frozen? (Qb aL 3)=false:=by simp[World.frozen?,av.out]
    have c4:aj.cell? (Qb aL 4)=some (Qa 0):=by rw[cR _ _ _ _ _ _ av.out];rfl
    have f4:aj.frozen? (Qb aL 4)=false:=by simp[World.frozen?,av.out]
    have HX:=hDq (ow av.out x.id x.ak x.sd x.pr x.q);have b9:=hDq (wm aj aL (Qa x.id) (Qa x.ak) (Qa x.sd) (Qa x.pr) (Qa x.q));have ql:=hDq (eU.out.H_ av.out rq.out b9.out (lTq R.out.mP (lTq R.out.hib (lTq HB1.out.size eE.out))));have xG:=hDq (lL.out.trans (b_.high (b0:=b0) ⟨b9.out.os,b9.out.tape,b9.out.output,b9.out.size,fun k hk hn=>b9.out.block k hk (fun e=>hn (by rw[e];exact lTq R.out.hib (lTq HB1.out.size eE.out)))⟩ B X2));have mK:=hDq ((b9.out.block W.heap.size (lBq lY.out) (by have:=eE.out;have:=HW1.out;omega)).trans lY.out);refine bW rfl (fun K hK=>?_);refine⟨by rfl,?_⟩;unfold aQ;go_simp;refine⟨aR.out _ mK.out ql.out.cells.1,hK _ _ ?_⟩;clear hK K c0 c1 c2 c3 c4 f0 f1 f2 f3 f4;generalize ((((aj.setCell (Qb aL 0) (Qa x.id)).setCell (Qb aL 1) (Qa x.ak)).setCell (Qb aL 2) (Qa x.sd)).setCell (Qb aL 3) (Qa x.pr)).setCell (Qb aL 4) (Qa x.q)=wx at *;refine cr rfl (fun K hK=>?_);refine⟨by rfl,?_⟩;unfold aB;go_simp;refine hK _ ?_;clear hK K;refine ja ?_;exact⟨aL,rfl,X2,ql.out,xG.out,HX.out,eE.out,mK.out⟩
   case refine_2 =>
    refine bW rfl (fun K hK=>?_);refine⟨by rfl,?_⟩;unfold aQ;go_simp;have hba:Qd w4 (w4.alloc (.cells #[Qa 0,Qa 0,Qa 0,Qa 0,Qa 0] 197)):=(bRq _ _).alloc (lRq _) _;have cG:Hid (Qd W1 (w4.alloc (.cells #[Qa 0,Qa 0,Qa 0,Qa 0,Qa 0] 197))):=cJ.out.alloc cJ.out.size _;have jY:=hDq (hNq w4 (.cells #[Qa 0,Qa 0,Qa 0,Qa 0,Qa 0] 197));have eE:Hid (W1.heap.size<=w4.heap.size):=cJ.out.size;have lM:Hid (w4.heap.size<(w4.alloc (.cells #[Qa 0,Qa 0,Qa 0,Qa 0,Qa 0] 197)).heap.size):=by show _<_;simp
    have C4:=dn.out.later cG.out;refine⟨aR.out _ (dG cG.out HA1.out) C4.cells.1,hK _ _ ?_⟩;clear hK K hba C4;generalize w4.alloc (.cells #[Qa 0,Qa 0,Qa 0,Qa 0,Qa 0] 197)=iC at *;generalize w4.heap.size=aL at *;refine bW rfl (fun K hK=>?_);refine⟨by rfl,?_⟩;unfold aQ;go_simp;refine(HP.out _ cG.out).mono ?_;rintro e aj ⟨rfl,X2,h1,h2,h3⟩;have av:=hDq ((h3.block aL lM.out (fun e=>by have:=ho _ e;have:=eE.out;have:=HW1.out;omega)).trans jY.out);have eU:=hDq h1;have lL:=hDq ((b_.below cG.out b0 B X).trans h2);have lY:=hDq ((h3.block W.heap.size (Nat.lt_of_lt_of_le HW1.out cG.out.size) (fun e=>by have:=ho _ e;omega)).trans (dG cG.out HA1.out));have rq:Hid (¬ dH B X2 aL):=fun e=>by
     have hq:=h2.qv;have hd:=h2.bV;have hlt:∀ k,dH B X k->k<W.heap.size:=fun k hk=>(R.out.aS.fj hk).2;have lU:aL<W.heap.size\/iC.heap.size<=aL:=by
      rcases e with e | e | e | e | e | e
      .exact .inl (by rw[e];exact hlt _ (.inl rfl))
      .exact .inl (by rw[e];exact hlt _ (.inr (.inl rfl)))
      .rcases h2.new aL (.inr e) with h8 | h8
       .exact .inl (ho _ h8)
       .exact .inr h8
      .rw[hq]at e;exact .inl (hlt _ (.inr (.inr (.inr (.inl e)))))
      .exact .inl (by rw[e];exact hlt _ (.inr (.inr (.inr (.inr (.inl rfl))))))
      .rw[hd]at e;exact .inl (hlt _ (.inr (.inr (.inr (.inr (.inr e))))))
     have:=lM.out;have:=eE.out;have:=HW1.out
     omega
    refine⟨_,rfl,aR.out _ lY.out eU.out.cells.1,hK _ _ ?_⟩;clear hK K h1 h2 h3 jY cG lM
    iterate 3 (refine cr rfl (fun K hK=>?_);refine⟨by rfl,?_⟩;unfold aB;go_simp;refine hK _ ?_;clear hK K)
    have c0:aj.cell? (Qb aL 0)=some (Qa 0):=by rw[cR _ _ _ _ _ _ av.out];rfl
    have f0:aj.frozen? (Qb aL 0)=false:=by simp[World.frozen?,av.out]
    have c1:aj.cell? (Qb aL 1)=some (Qa 0):=by rw[cR _ _ _ _ _ _ av.out];rfl
    have f1:aj.frozen? (Qb aL 1)=false:=by simp[World.frozen?,av.out]
    have c2:aj.cell? (Qb aL 2)=some (Qa 0):=by rw[cR _ _ _ _ _ _ av.out];rfl
    have f2:aj.frozen? (Qb aL 2)=false:=by simp[World.frozen?,av.out]
    have c3:aj.cell? (Qb aL 3)=some (Qa 0):=by rw[cR _ _ _ _ _ _ av.out];rfl
    have f3:aj.frozen? (Qb aL 3)=false:=by simp[World.frozen?,av.out]
    have c4:aj.cell? (Qb aL 4)=some (Qa 0):=by rw[cR _ _ _ _ _ _ av.out];rfl
    have f4:aj.frozen? (Qb aL 4)=false:=by simp[World.frozen?,av.out]
    have HX:=hDq (ow av.out x.id x.ak x.sd x.pr x.q);have b9:=hDq (wm aj aL (Qa x.id) (Qa x.ak) (Qa x.sd) (Qa x.pr) (Qa x.q));have ql:=hDq (eU.out.H_ av.out rq.out b9.out (lTq R.out.mP (lTq R.out.hib (lTq HB1.out.size eE.out))));have xG:=hDq (lL.out.trans (b_.high (b0:=b0) ⟨b9.out.os,b9.out.tape,b9.out.output,b9.out.size,fun k hk hn=>b9.out.block k hk (fun e=>hn (by rw[e];exact lTq R.out.hib (lTq HB1.out.size eE.out)))⟩ B X2));have mK:=hDq ((b9.out.block W.heap.size (lBq lY.out) (by have:=eE.out;have:=HW1.out;omega)).trans lY.out);refine bW rfl (fun K hK=>?_);refine⟨by rfl,?_⟩;unfold aQ;go_simp;refine⟨aR.out _ mK.out ql.out.cells.1,hK _ _ ?_⟩;clear hK K c0 c1 c2 c3 c4 f0 f1 f2 f3 f4;generalize ((((aj.setCell (Qb aL 0) (Qa x.id)).setCell (Qb aL 1) (Qa x.ak)).setCell (Qb aL 2) (Qa x.sd)).setCell (Qb aL 3) (Qa x.pr)).setCell (Qb aL 4) (Qa x.q)=wx at *;refine cr rfl (fun K hK=>?_);refine⟨by rfl,?_⟩;unfold aB;go_simp;refine hK _ ?_;clear hK K;refine ja ?_;exact⟨aL,rfl,X2,ql.out,xG.out,HX.out,eE.out,mK.out⟩
  intro D ai ⟨X2,h1,h2,h3,h4,h5⟩;clear hx0 hw4 s0 s1 s2 s3 qU yV yX w7 p7 aR cJ;clear x0 hnx;clear val;clear bH;have bz:=hDq h1;have fe:=hDq ((b_.below HB1.out b0 B X).trans h2);have HD6:=hDq h3;have gV:=hDq h5;have ajS:=hDq h4;clear h1 h2 h3 h4 h5;have kY:ai.cell? (Qb W.heap.size 0)=some (.int .u8 a.k):=by rw[cR _ _ _ _ _ _ gV.out];rfl
  have k1:ai.cell? (Qb W.heap.size 1)=some (Qa a.c):=by rw[cR _ _ _ _ _ _ gV.out];rfl
  have k2:ai.cell? (Qb W.heap.size 2)=some (Qa a.sq):=by rw[cR _ _ _ _ _ _ gV.out];rfl
  have k3:ai.cell? (Qb W.heap.size 3)=some (Qa a.it):=by rw[cR _ _ _ _ _ _ gV.out];rfl
  have k4:ai.cell? (Qb W.heap.size 4)=some (Qa a.sd):=by rw[cR _ _ _ _ _ _ gV.out];rfl
  have uu:ai.cell? (Qb W.heap.size 5)=some (Qa a.pr):=by rw[cR _ _ _ _ _ _ gV.out];rfl
  have k6:ai.cell? (Qb W.heap.size 6)=some (Qa a.q):=by rw[cR _ _ _ _ _ _ gV.out];rfl
  have k7:ai.cell? (Qb W.heap.size 7)=some (Qa a.id):=by rw[cR _ _ _ _ _ _ gV.out];rfl
  have HF:=hDq (X0 a (d+1) (by omega) ai hs bz.out (by rw[vk.out];exact hn));unfold bu aT at HF
  go_wp2_with fail
  refine HF.out.mono ?_;rintro e br ⟨rfl,vn,h3,h4,_⟩;have H3:=hDq h3;have ee:=hDq (fe.out.trans h4);clear h3 h4;simp only[];go_wp2;refine bodyPost_ret (v:=.tuple #[]) (by simp[results,Tryz.results189]) rfl ?_;refine⟨rfl,X2,vp,vn,?_,ee.out⟩;have lU:=H3.out;rw[vk.out]at lU;rw[HRR.out];exact lU
 | zero =>
  rw[show cV (rh ad) 0=.nilIface from rfl]at HP;rw[if_pos rfl,if_pos rfl]at HRR;unfold bu aT bU at *;go_enter Tryz.func189,Tryz.ntmps189;go_wp2;generalize W.alloc (.cells #[.int .u8 a.k,Qa a.c,Qa a.sq,Qa a.it,Qa a.sd,Qa a.pr,Qa a.q,Qa a.id] 95)=W1 at *;obtain⟨bH,val,hcl,aP⟩:=CX (fun W'=>W'.heap[W.heap.size]?=some (.cells #[.int .u8 a.k,Qa a.c,Qa a.sq,Qa a.it,Qa a.sd,Qa a.pr,Qa a.q,Qa a.id] 95 (0,0))/\W'.cell? (Qb q 0)=some (Qc B.F));have aR:Hid (∀ W',W'.heap[W.heap.size]?=some (.cells #[.int .u8 a.k,Qa a.c,Qa a.sq,Qa a.it,Qa a.sd,Qa a.pr,Qa a.q,Qa a.id] 95 (0,0))->W'.cell? (Qb q 0)=some (Qc B.F)->∃ x,val x=W'):=fun W' h1 h2=>aP W' ⟨h1,h2⟩;obtain⟨x0,hx0⟩:=aR.out W1.drew HA1.out dn.out.cells.1;have hnx:Nonempty bH:=⟨x0⟩;have s0:∀ x0,(val x0).cell? (Qb W.heap.size 0)=some (.int .u8 a.k):=fun x0=>by rw[cR _ _ _ _ _ _ (hcl x0).1];rfl
  have s1:∀ x0,(val x0).cell? (Qb W.heap.size 1)=some (Qa a.c):=fun x0=>by rw[cR _ _ _ _ _ _ (hcl x0).1];rfl
  have s2:∀ x0,(val x0).cell? (Qb W.heap.size 2)=some (Qa a.sq):=fun x0=>by rw[cR _ _ _ _ _ _ (hcl x0).1];rfl
  have s3:∀ x0,(val x0).cell? (Qb W.heap.size 3)=some (Qa a.it):=fun x0=>by rw[cR _ _ _ _ _ _ (hcl x0).1];rfl
  have qU:∀ x0,(val x0).cell? (Qb W.heap.size 4)=some (Qa a.sd):=fun x0=>by rw[cR _ _ _ _ _ _ (hcl x0).1];rfl
  have yV:∀ x0,(val x0).cell? (Qb W.heap.size 5)=some (Qa a.pr):=fun x0=>by rw[cR _ _ _ _ _ _ (hcl x0).1];rfl
  have yX:∀ x0,(val x0).cell? (Qb W.heap.size 6)=some (Qa a.q):=fun x0=>by rw[cR _ _ _ _ _ _ (hcl x0).1];rfl
  have w7:∀ x0,(val x0).cell? (Qb W.heap.size 7)=some (Qa a.id):=fun x0=>by rw[cR _ _ _ _ _ _ (hcl x0).1];rfl
  have p7:∀ x0,(val x0).cell? (Qb q 0)=some (Qc B.F):=fun x0=>(hcl x0).2;obtain⟨w4,hw4⟩:∃ w4,W1.drew=w4:=⟨_,rfl⟩;have cJ:Hid (Qd W1 w4):=by rw[<- hw4];exact eO
  clear aP hcl;refine t_ (val:=val) (fun D ai=>∃ X2,bS w b0 ai B X2 wd h seed S q vp vr rL/\b_ W1 ai b0 B X X2/\ai.heap[D]?=some (.cells #[Qa x.id,Qa x.ak,Qa x.sd,Qa x.pr,Qa x.q] 197 (0,0))/\W1.heap.size<=D/\ai.heap[W.heap.size]?=some (.cells #[.int .u8 a.k,Qa a.c,Qa a.sq,Qa a.it,Qa a.sd,Qa a.pr,Qa a.q,Qa a.id] 95 (0,0))) (.read 0 (.read 1 (.read 2 (.read 3 (.read 4 (.two 5 (.read 6 (.read 7 (.read 8 (.one 9 (.one 10 (.read 11 .done)))))) 9 (.one 5 (.read 6 (.read 7 (.read 8 (.one 10 (.read 11 .done)))))))))))) (by kernel_rfl) (by kernel_rfl) x0 hx0 ?_;apply Exists.intro;refine⟨?_,?_⟩
  case' refine_1 =>
   rw[hx0,hw4]
   iterate 5 (refine cr rfl (fun K hK=>?_);refine⟨by rfl,?_⟩;unfold aB;go_simp;refine hK _ ?_;clear hK K)
   refine⟨?_,?_⟩
   case refine_1 =>
    refine bW rfl (fun K hK=>?_);refine⟨by rfl,?_⟩;unfold aQ;go_simp;refine(HP.out _ cJ.out).mono ?_;rintro e wc ⟨rfl,X2,h1,h2,h3⟩;have s8:=hDq h1;have CY:=hDq ((b_.below cJ.out b0 B X).trans h2);have xF:=hDq ((h3.block W.heap.size (Nat.lt_of_lt_of_le HW1.out cJ.out.size) (fun e=>by have:=ho _ e;omega)).trans (dG cJ.out HA1.out));have CZ:Hid (W1.heap.size<=wc.heap.size):=lTq cJ.out.size h2.turned.size;refine⟨_,rfl,aR.out _ xF.out s8.out.cells.1,hK _ _ ?_⟩;clear hK K h1 h2 h3
    iterate 3 (refine cr rfl (fun K hK=>?_);refine⟨by rfl,?_⟩;unfold aB;go_simp;refine hK _ ?_;clear hK K)
    refine bW rfl (fun K hK=>?_);refine⟨by rfl,?_⟩;unfold aQ;go_simp;have hba:Qd wc (wc.alloc (.cells #[Qa 0,Qa 0,Qa 0,Qa 0,Qa 0] 197)):=(bRq _ _).alloc (lRq _) _;have av:=hDq (hNq wc (.cells #[Qa 0,Qa 0,Qa 0,Qa 0,Qa 0] 197));have eU:=hDq (s8.out.later hba);have lL:=hDq (CY.out.trans (b_.below hba b0 B X2));have lY:=hDq (dG hba xF.out);have rq:Hid (¬ dH B X2 wc.heap.size):=fun e=>by have:=(s8.out.aS.fj e).2;omega
    have eE:=hDq CZ.out;refine⟨aR.out _ lY.out eU.out.cells.1,hK _ _ ?_⟩;clear hK K hba s8 CY xF CZ;generalize wc.alloc (.cells #[Qa 0,Qa 0,Qa 0,Qa 0,Qa 0] 197)=aj at *;generalize wc.heap.size=aL at *;have c0:aj.cell? (Qb aL 0)=some (Qa 0):=by rw[cR _ _ _ _ _ _ av.out];rfl
    have f0:aj.frozen? (Qb aL 0)=false:=by simp[World.frozen?,av.out]
    have c1:aj.cell? (Qb aL 1)=some (Qa 0):=by rw[cR _ _ _ _ _ _ av.out];rfl
    have f1:aj.frozen? (Qb aL 1)=false:=by simp[World.frozen?,av.out]
    have c2:aj.cell? (Qb aL 2)=some (Qa 0):=by rw[cR _ _ _ _ _ _ av.out];rfl
    have f2:aj.frozen? (Qb aL 2)=false:=by simp[World.frozen?,av.out]
    have c3:aj.cell? (Qb aL 3)=some (Qa 0):=by rw[cR _ _ _ _ _ _ av.out];rfl
    have f3:aj.frozen? (Qb aL 3)=false:=by simp[World.frozen?,av.out]
    have c4:aj.cell? (Qb aL 4)=some (Qa 0):=by rw[cR _ _ _ _ _ _ av.out];rfl
    have f4:aj.frozen? (Qb aL 4)=false:=by simp[World.frozen?,av.out]
    have HX:=hDq (ow av.out x.id x.ak x.sd x.pr x.q);have b9:=hDq (wm aj aL (Qa x.id) (Qa x.ak) (Qa x.sd) (Qa x.pr) (Qa x.q));have ql:=hDq (eU.out.H_ av.out rq.out b9.out (lTq R.out.mP (lTq R.out.hib (lTq HB1.out.size eE.out))));have xG:=hDq (lL.out.trans (b_.high (b0:=b0) ⟨b9.out.os,b9.out.tape,b9.out.output,b9.out.size,fun k hk hn=>b9.out.block k hk (fun e=>hn (by rw[e];exact lTq R.out.hib (lTq HB1.out.size eE.out)))⟩ B X2));have mK:=hDq ((b9.out.block W.heap.size (lBq lY.out) (by have:=eE.out;have:=HW1.out;omega)).trans lY.out);refine bW rfl (fun K hK=>?_);refine⟨by rfl,?_⟩;unfold aQ;go_simp;refine⟨aR.out _ mK.out ql.out.cells.1,hK _ _ ?_⟩;clear hK K c0 c1 c2 c3 c4 f0 f1 f2 f3 f4;generalize ((((aj.setCell (Qb aL 0) (Qa x.id)).setCell (Qb aL 1) (Qa x.ak)).setCell (Qb aL 2) (Qa x.sd)).setCell (Qb aL 3) (Qa x.pr)).setCell (Qb aL 4) (Qa x.q)=wx at *;refine cr rfl (fun K hK=>?_);refine⟨by rfl,?_⟩;unfold aB;go_simp;refine hK _ ?_;clear hK K;refine ja ?_;exact⟨aL,rfl,X2,ql.out,xG.out,HX.out,eE.out,mK.out⟩
   case refine_2 =>
    refine bW rfl (fun K hK=>?_);refine⟨by rfl,?_⟩;unfold aQ;go_simp;have hba:Qd w4 (w4.alloc (.cells #[Qa 0,Qa 0,Qa 0,Qa 0,Qa 0] 197)):=(bRq _ _).alloc (lRq _) _;have cG:Hid (Qd W1 (w4.alloc (.cells #[Qa 0,Qa 0,Qa 0,Qa 0,Qa 0] 197))):=cJ.out.alloc cJ.out.size _;have jY:=hDq (hNq w4 (.cells #[Qa 0,Qa 0,Qa 0,Qa 0,Qa 0] 197));have eE:Hid (W1.heap.size<=w4.heap.size):=cJ.out.size;have lM:Hid (w4.heap.size<(w4.alloc (.cells #[Qa 0,Qa 0,Qa 0,Qa 0,Qa 0] 197)).heap.size):=by show _<_;simp
    have C4:=dn.out.later cG.out;refine⟨aR.out _ (dG cG.out HA1.out) C4.cells.1,hK _ _ ?_⟩;clear hK K hba C4;generalize w4.alloc (.cells #[Qa 0,Qa 0,Qa 0,Qa 0,Qa 0] 197)=iC at *;generalize w4.heap.size=aL at *;refine bW rfl (fun K hK=>?_);refine⟨by rfl,?_⟩;unfold aQ;go_simp;refine(HP.out _ cG.out).mono ?_;rintro e aj ⟨rfl,X2,h1,h2,h3⟩;have av:=hDq ((h3.block aL lM.out (fun e=>by have:=ho _ e;have:=eE.out;have:=HW1.out;omega)).trans jY.out);have eU:=hDq h1;have lL:=hDq ((b_.below cG.out b0 B X).trans h2);have lY:=hDq ((h3.block W.heap.size (Nat.lt_of_lt_of_le HW1.out cG.out.size) (fun e=>by have:=ho _ e;omega)).trans (dG cG.out HA1.out));have rq:Hid (¬ dH B X2 aL):=fun e=>by
     have hq:=h2.qv;have hd:=h2.bV;have hlt:∀ k,dH B X k->k<W.heap.size:=fun k hk=>(R.out.aS.fj hk).2;have lU:aL<W.heap.size\/iC.heap.size<=aL:=by
      rcases e with e | e | e | e | e | e
      .exact .inl (by rw[e];exact hlt _ (.inl rfl))
      .exact .inl (by rw[e];exact hlt _ (.inr (.inl rfl)))
      .rcases h2.new aL (.inr e) with h8 | h8
       .exact .inl (ho _ h8)
       .exact .inr h8
      .rw[hq]at e;exact .inl (hlt _ (.inr (.inr (.inr (.inl e)))))
      .exact .inl (by rw[e];exact hlt _ (.inr (.inr (.inr (.inr (.inl rfl))))))
      .rw[hd]at e;exact .inl (hlt _ (.inr (.inr (.inr (.inr (.inr e))))))
     have:=lM.out;have:=eE.out;have:=HW1.out
     omega
    refine⟨_,rfl,aR.out _ lY.out eU.out.cells.1,hK _ _ ?_⟩;clear hK K h1 h2 h3 jY cG lM
    iterate 3 (refine cr rfl (fun K hK=>?_);refine⟨by rfl,?_⟩;unfold aB;go_simp;refine hK _ ?_;clear hK K)
    have c0:aj.cell? (Qb aL 0)=some (Qa 0):=by rw[cR _ _ _ _ _ _ av.out];rfl
    have f0:aj.frozen? (Qb aL 0)=false:=by simp[World.frozen?,av.out]
    have c1:aj.cell? (Qb aL 1)=some (Qa 0):=by rw[cR _ _ _ _ _ _ av.out];rfl
    have f1:aj.frozen? (Qb aL 1)=false:=by simp[World.frozen?,av.out]
    have c2:aj.cell? (Qb aL 2)=some (Qa 0):=by rw[cR _ _ _ _ _ _ av.out];rfl
    have f2:aj.frozen? (Qb aL 2)=false:=by simp[World.frozen?,av.out]
    have c3:aj.cell? (Qb aL 3)=some (Qa 0):=by rw[cR _ _ _ _ _ _ av.out];rfl
    have f3:aj.frozen? (Qb aL 3)=false:=by simp[World.frozen?,av.out]
    have c4:aj.cell? (Qb aL 4)=some (Qa 0):=by rw[cR _ _ _ _ _ _ av.out];rfl
    have f4:aj.frozen? (Qb aL 4)=false:=by simp[World.frozen?,av.out]
    have HX:=hDq (ow av.out x.id x.ak x.sd x.pr x.q);have b9:=hDq (wm aj aL (Qa x.id) (Qa x.ak) (Qa x.sd) (Qa x.pr) (Qa x.q));have ql:=hDq (eU.out.H_ av.out rq.out b9.out (lTq R.out.mP (lTq R.out.hib (lTq HB1.out.size eE.out))));have xG:=hDq (lL.out.trans (b_.high (b0:=b0) ⟨b9.out.os,b9.out.tape,b9.out.output,b9.out.size,fun k hk hn=>b9.out.block k hk (fun e=>hn (by rw[e];exact lTq R.out.hib (lTq HB1.out.size eE.out)))⟩ B X2));have mK:=hDq ((b9.out.block W.heap.size (lBq lY.out) (by have:=eE.out;have:=HW1.out;omega)).trans lY.out);refine bW rfl (fun K hK=>?_);refine⟨by rfl,?_⟩;unfold aQ;go_simp;refine⟨aR.out _ mK.out ql.out.cells.1,hK _ _ ?_⟩;clear hK K c0 c1 c2 c3 c4 f0 f1 f2 f3 f4;generalize ((((aj.setCell (Qb aL 0) (Qa x.id)).setCell (Qb aL 1) (Qa x.ak)).setCell (Qb aL 2) (Qa x.sd)).setCell (Qb aL 3) (Qa x.pr)).setCell (Qb aL 4) (Qa x.q)=wx at *;refine cr rfl (fun K hK=>?_);refine⟨by rfl,?_⟩;unfold aB;go_simp;refine hK _ ?_;clear hK K;refine ja ?_;exact⟨aL,rfl,X2,ql.out,xG.out,HX.out,eE.out,mK.out⟩
  intro D ai ⟨X2,h1,h2,h3,h4,h5⟩;clear hx0 hw4 s0 s1 s2 s3 qU yV yX w7 p7 aR cJ;clear x0 hnx;clear val;clear bH;have bz:=hDq h1;have fe:=hDq ((b_.below HB1.out b0 B X).trans h2);have HD6:=hDq h3;have gV:=hDq h5;have ajS:=hDq h4;clear h1 h2 h3 h4 h5;have kY:ai.cell? (Qb D 0)=some (Qa x.id):=by rw[cR _ _ _ _ _ _ HD6.out];rfl
  have k1:ai.cell? (Qb D 1)=some (Qa x.ak):=by rw[cR _ _ _ _ _ _ HD6.out];rfl
  have k2:ai.cell? (Qb D 2)=some (Qa x.sd):=by rw[cR _ _ _ _ _ _ HD6.out];rfl
  have k3:ai.cell? (Qb D 3)=some (Qa x.pr):=by rw[cR _ _ _ _ _ _ HD6.out];rfl
  have k4:ai.cell? (Qb D 4)=some (Qa x.q):=by rw[cR _ _ _ _ _ _ HD6.out];rfl
  have HF:=hDq (Ia af.oZ x ai bz.out (by rw[vk.out];exact hn));unfold bU af.oZ at HF
  go_wp2_with fail
  refine HF.out.mono ?_;rintro e br ⟨rfl,vn,h3,h4,h5⟩;have vo:=hDq (bz.out.block h5 gV.out (by decide) (by decide));have H3:=hDq h3;have ee:=hDq (fe.out.trans h4);clear h3 h4 h5 HF;have q1:=H3.out.cells.2.1;have X3:vp.ownBlock≠some W.heap.size:=fun e=>by have:=(R.out.pl.lt _ e).2;omega
  have AL:=hDq (ajT b0 W.heap.size vp a r.pl br hp (by have:=H3.out.pl;rw[vk.out]at this;exact this) vo.out X3);obtain⟨Vy,cv,hvp⟩:=gi R.out.pl;have C5:=hDq hvp;rw[hvp]at AL q1;clear hvp X3;simp only[]
  go_wp2_with fail
  refine AL.out.mono ?_;rintro e cn ⟨v8,rfl,Oq,xH⟩;obtain⟨a8,c8,ajU⟩:=gi Oq;subst ajU;rw[<- C5.out]at xH;have HT:=hDq (H3.out.listed (bRq _ _) xH Oq);have hblk:cn.heap[q]?=some (.cells #[Qc B.F,vp,vn] 240 (0,0)):=by
   rw[xH.block q (lBq H3.out.blk) (fun e=>?_)]
   .exact H3.out.blk
   .obtain⟨_,cur,h2⟩:=cP H3.out.pl e.symm
    exact aI h2 H3.out.blk (by decide) rfl
  have g1:cn.cell? (Qb q 1)=some vp:=by rw[cR _ _ _ _ _ _ hblk];rfl
  have g2:cn.frozen? (Qb q 1)=false:=by simp[World.frozen?,hblk]
  clear Oq xH hblk AL q1;go_wp2;go_end0;refine⟨rfl,X2,.slice a8 (af.others a r.pl).length c8,vn,?_,ee.out.trans HT.out.2⟩;have lU:=HT.out.1;rw[vk.out]at lU;rw[HRR.out];exact lU
theorem ajV (a:Ask) (W:World) (R:Hid (bS w b0 W B X wd h seed S q vp vr r)) (hs:Hid (bO w ad)) (hn:r.rp.length<=100000) (hp:r.pl.length<=100000) :
  Calls Tryz.prog 141 #[Qc q,bu a] W fun e w'=>e=.returned (.tuple #[])/\CV w b0 W w' B X wd h seed S q (af.gq r a):=by
 have HB1:Hid (Qd W (W.alloc (.cells (aT a) 95))):=(bRq _ _).alloc (lRq _) _;by_cases hk:a.k=111
 .have hk':(a.k==111)=true:=by simpa using hk
  have HP:=hDq (ajW a _ (R.out.later HB1.out) hs hn hp);rw[show af.gq r a=af.qm r a by unfold af.gq;rw[if_pos hk]];clear hk;unfold bu aT at *;go_enter Tryz.func141,Tryz.ntmps141
  go_wp2_with fail
  refine HP.out.mono ?_;rintro e w2 ⟨rfl,X2,zB,zC,h1,h2⟩;have H1:=hDq h1;have H2:=hDq ((b_.below HB1.out b0 B X).trans h2);clear h1 h2;simp only[];go_wp2
  first | go_end0 | refine bodyPost_ret (v:=.tuple #[]) (by simp[results,Tryz.results141]) rfl ?_
  exact⟨rfl,X2,zB,zC,H1.out,H2.out⟩
 .have hk':(a.k==111)=false:=by simpa using hk
  have HP:=hDq (ajQ a _ (R.out.later HB1.out) hs hn hp);rw[show af.gq r a=af.qj r a by unfold af.gq;rw[if_neg hk]];clear hk;unfold bu aT at *;go_enter Tryz.func141,Tryz.ntmps141
  go_wp2_with fail
  refine HP.out.mono ?_;rintro e w2 ⟨rfl,X2,zB,zC,h1,h2⟩;have H1:=hDq h1;have H2:=hDq ((b_.below HB1.out b0 B X).trans h2);clear h1 h2;simp only[];go_wp2
  first | go_end0 | refine bodyPost_ret (v:=.tuple #[]) (by simp[results,Tryz.results141]) rfl ?_
  exact⟨rfl,X2,zB,zC,H1.out,H2.out⟩
end
end
section
open Go.RowKit Go.Maps
def jr (w:World) (b n:Nat) (f:Int->Int):Prop:=∃ D:DataW Value,w.ownsMap Tryz.prog 3 xu b n D/\∀ p,D.atKey (.int .i64 p) (.held (.int .i64 0))=.held (.int .i64 (f p))
theorem akM (w:World):(zeroValue 3).run Tryz.prog w=.ok (.int .i64 0) w:=by kernel_rfl
section
variable {w w':World} {b n:Nat} {f:Int->Int}
theorem jr.block (h:jr w b n f):∃ es clock,w.heap[b]?=some (.map es clock):=by
 obtain⟨D,⟨es,clock,hb,_⟩,_⟩:=h;exact⟨es,clock,hb⟩
theorem jr.turned {T:Nat->Prop} (h:jr w b n f) (ht:aJ w w' T) (hb:¬ T b):jr w' b n f:=by
 obtain⟨D,⟨es,clock,h3,rest⟩,h2⟩:=h;exact⟨D,⟨es,clock,by rw[ht.block b (lBq h3) hb];exact h3,rest⟩,h2⟩
theorem jr.later (h:jr w b n f) (hb:Qd w w'):jr w' b n f:=by
 obtain⟨D,h1,h2⟩:=h;exact⟨D,h1.kept (row:=none) ⟨hb.os,hb.tape,hb.output,hb.size,fun i hi _=>hb.block i hi⟩ (by simp),h2⟩
theorem jr.look (h:jr w b n f) {p:Int} (h1:-9223372036854775808<=p) (h2:p<=9223372036854775807) :
  (Instr.lookup 292 (.map (some b)) (.int .i64 p) false).run Tryz.prog w=.ok (.int .i64 (f p)) w:=by
 obtain⟨D,h3,h4⟩:=h;obtain⟨v,ps,hrun,hv⟩:=h3.lookup Cx Tryz.underlying292 (akM w) (zd:=.held (.int .i64 0)) (zp:=[]) rfl (Ho h1 h2);rw[h4]at hv;have:v=.int .i64 (f p):=(by simpa [xu] using hv:_/\ps=[]).1;rw[hrun,this]
theorem jr.store (h:jr w b n f) {p x:Int} (h1:-9223372036854775808<=p) (h2:p<=9223372036854775807) (hn:n<maxLen) :
  ∃ w4,(Instr.mapUpdate 292 (.map (some b)) (.int .i64 p) (.int .i64 x)).run Tryz.prog w=.ok () w4/\jr w4 b (n+1) (fun q=>if q=p then x else f q)/\w.grownBy w4 (some b):=by
 obtain⟨D,h3,h4⟩:=h;obtain⟨w4,hrun,N4,hg4⟩:=h3.update Cx Tryz.underlying292 hn (Ho h1 h2) (val:=.int .i64 x) (d:=.held (.int .i64 x)) (ps:=[]) rfl;have hD:IsMap D:=by obtain⟨es,clock,_,_,_,e⟩:=h3;exact⟨_,e⟩
 refine⟨w4,hrun,⟨_,N4,fun q=>?_⟩,hg4⟩;by_cases hq:q=p
 .subst hq
  rw[atKey_put_same hD (by trivial)];simp
 .rw[atKey_put_other (fun e=>hq (by simpa using e)),h4];simp[hq]
end
theorem akN (base:Nat) (v:Value) (l:List Cv.ag) (w:World) (hrow:Hid (w.ownsRow base 197 5 v l.length (flat l))) (hl:l.length<=60) (hok:Hid (∀ x∈l,Cv.ok x=true)) :
  Calls Tryz.prog 190 #[v] w fun e w'=>e=.returned (.map (some w.heap.size))/\jr w' w.heap.size l.length (af.vu l l.length)/\Qd w w':=by
 obtain⟨m,hm⟩:∃ m,l.length=m:=⟨_,rfl⟩;rw[hm]at hrow hl ⊢;have HM:=hDq hm;obtain⟨a0,c0,hv⟩:=gi hrow.out;subst hv;clear hm;have bD:Hid (Qd w (w.alloc (.map #[] 0))):=(bRq _ _).alloc (lRq _) _;have akO:Hid (jr (w.alloc (.map #[] 0)) w.heap.size 0 (fun _=>0)):=⟨_,World.ownsMap_made w _ _ _,fun p=>rfl⟩;have aP:(Instr.makeMap 292 none).run Tryz.prog w=.ok (.map (some w.heap.size)) (w.alloc (.map #[] 0)):=by kernel_rfl
 go_enter Tryz.func190,Tryz.ntmps190
 go_wp2_with fail
 go_loopw [9] (fun kv wr=>∃ k:Nat,k<=m/\kv=.int .i64 k/\jr wr w.heap.size k (af.vu l k)/\Qd w wr) (fun kv _=>m-(intOf kv).toNat)
 case atStart=>exact⟨0,by omega,rfl,akO.out,bD.out⟩
 case round =>
  obtain⟨k,hk,rfl,ho,hb⟩:=hrel;have HO:=hDq ho;have HB:=hDq hb;clear ho hb;by_cases hlt:k<m
  .have aX:(k:Int)<m:=by omega
   have hkl:k<l.length:=by rw[HM.out];exact hlt
   have hrw:=cO hrow.out HB.out;obtain⟨g,hg⟩:∃ g,a0=some (Qb g 0):=by
    rcases hrw.2 with ⟨e1,_⟩ | ⟨g,cap,cur,e1,_⟩
    .cases e1;omega
    .simp only[Value.slice.injEq]at e1;exact⟨g,e1.1⟩
   subst hg;obtain⟨x0,x1,x2,x3,x4⟩:=yr hrw k hkl;simp only[Nat.zero_add]at x0 x1 x2 x3 x4;have qd:g<wr.heap.size:=bCq _ _ x0;have hx:=hok.out _ (Cv.mY hkl);simp only[Cv.ok,ah.aG,Bool.and_eq_true,decide_eq_true_eq]at hx;have HB1:Hid (Qd wr (wr.alloc (.cells #[.int .i64 (Cv.nth l k).id,.int .i64 (Cv.nth l k).ak,.int .i64 (Cv.nth l k).sd,.int .i64 (Cv.nth l k).pr,.int .i64 (Cv.nth l k).q] 197))):=(bRq _ _).alloc (lRq _) _;obtain⟨w4,hrun,He,hg4⟩:=(HO.out.later HB1.out).store (p:=(Cv.nth l k).id) (x:=(Cv.nth l k).ak) (by omega) (by omega) (by unfold maxLen;omega);have akP:Hid (jr w4 w.heap.size (k+1) (af.vu l (k+1))):=He;have bJ:Hid (Qd w w4):=(HB.out.trans (HB1.out.mono HB.out.size)).grown hg4 (lTq HB.out.size HB1.out.size) (fun j hj=>by have:=Option.some.inj hj;omega);generalize Cv.nth l k=x at *;clear He hg4 hrw hx HB1;go_wp2;exact⟨⟨k+1,by omega,by go_num,akP.out,bJ.out⟩,by simp[intOf];omega⟩
  .have aX:¬ (k:Int)<m:=by omega
   obtain rfl:k=m:=by omega
   go_wp2;go_ret;exact⟨rfl,HO.out,HB.out⟩
end
section
open Go.RowKit
namespace af
theorem O3 {l:List Cv.ag} (hl:Cv.d9 l) (ref:Int):Cv.fD l ref 1000 (C8 l ref).1 (C8 l ref).2:=by
 obtain⟨p,v,h⟩:=Tc hl ref 1000;have hex:∃ pv:Int×Int,Cv.fD l ref 1000 pv.1 pv.2:=⟨(p,v),h⟩;unfold C8;rw[dif_pos hex];exact Classical.choose_spec hex
theorem YO {wd h:Int} {r:cB} (H:dU r.L r.pf r.n wd h) {i:Nat} (hi:i<3) (s:Int):(jo wd r i s).length<=240/\∀ f∈jo wd r i s,1<=f.2/\∃ x∈r.L i,x.id=f.1:=by
 have hw:Cv.fD (r.L i) (r.n (i*2)) 1000 (jm r i) (qp r i):=O3 (H.ok.aH i hi).oks _;unfold jo Fl.oL;split
 .rename_i hc
  have hf:=Fs.K9 (AY (H.ok.aH i hi)) hw hc.2;refine⟨?_,Fs.T8 hf s⟩
  have:=Ra.Td s hf
  unfold Ra.fills;rw[lAq];omega
 .exact⟨by simp,fun f hf=>by cases hf⟩
end af
section
variable {w W W':World} {ad:Nat->Addr} {b0 q:Nat} {B:bP} {X X' X2:bX} {wd h seed:Int} {S:af.St} {vp vr:Value} {r:af.cB}
theorem bS.map {b n:Nat} {f:Int->Int} (R:bS w b0 W B X wd h seed S q vp vr r) (ht:aJ W W' (fun k=>k=q\/vr.ownBlock=some k)) (ho:jr W b n f):jr W' b n f:=by
 obtain⟨es,clock,hb⟩:=ho.block;refine ho.turned ht (fun e=>?_);rcases e with e | e
 .rw[e,R.blk]at hb;cases hb
 .obtain⟨_,cur,h2⟩:=cP R.rp e
  rw[h2]at hb;cases hb
theorem bS.alY {v:Value} {F:List (Int×Int)} (R:bS w b0 W B X wd h seed S q vp vr r) (ht:aJ W W' (fun k=>k=q\/vr.ownBlock=some k)) (hf:fM W v F):fM W' v F :=
 hf.keep fun g cur hg=>by
  rw[R.block ht hg (by decide) (by decide)];exact hg.symm
theorem alZ (L:Nat->List Cv.ag) (i:Nat) (a:Ask):(af.o5 L i a).length<=1:=by
 unfold af.o5;split <;> simp
theorem O1 (L:Nat->List Cv.ag) (i:Nat):∀ l:List Ask,(l.flatMap (af.o5 L i)).length<=l.length
 | []=>by simp
 | a::l=>by
  have:=O1 L i l
  have:=alZ L i a
  simp only[List.flatMap_cons,List.length_append,List.length_cons];omega
theorem alm (i:Nat) (hi:i<3) (s:Int) (Zn:Ra.IsU s) (W:World) (R:Hid (bS w b0 W B X wd h seed S q vp vr r)) (hs:Hid (bO w ad)) (hn:r.rp.length<=50000) (hp:r.pl.length<=1000) :
  Calls Tryz.prog 142 #[Qc q,Qa i,.int .u32 s] W fun e w'=>e=.returned (.tuple #[])/\CV w b0 W w' B X wd h seed S q (af.vw wd h r i s):=by
 have jS:Cv.fD (r.L i) (r.n (i*2)) 1000 (af.jm r i) (af.qp r i):=af.O3 (R.out.all.ok.aH i hi).oks _;have Pr:=hDq (af.YO R.out.all hi s);have Zo:Hid (∀ W',Qd W W'->Calls Tryz.prog 108 #[Qc B.F,Qa i] W' fun e w'=>e=.returned (.pointer (some ⟨B.b i,0,none⟩))/\w'=W'):=fun W' hb=>F2 i hi (R.out.later hb).fl;have lD:Hid (∀ W',Qd W W'->Calls Tryz.prog 109 #[.pointer (some ⟨B.b i,0,none⟩)] W' fun e w'=>∃ v2,e=.returned v2/\w'.ownsRow W'.heap.size 197 5 v2 (r.L i).length (flat (r.L i))/\Qd W' w'):=fun W' hb=>vT (B.b i) w.heap.size (X.v i) (r.L i) W' ((R.out.later hb).fl.aH i hi) (R.out.all.ok.aH i hi).len;have vF:Hid (∀ W',Qd W W'->Calls Tryz.prog 191 #[Qc B.F,Qa i,.int .u32 s] W' fun e w'=>∃ iE X',e=.returned (.tuple #[AX (af.jm r i) (af.qp r i) (Fl.oJ r.n i wd (af.jm r i) (af.qp r i)) iE,.nilIface])/\bS w b0 w' B X' wd h seed S q vp vr { r with L:=Fl.oI r.L i (af.jo wd r i s),pf:=Fs.ia r.pf i (af.jm r i) (r.L i) (af.jo wd r i s),n:=Fl.runN r.n i wd h (af.jm r i) (af.qp r i) }/\b_ W' w' b0 B X X'/\aJ W' w' (fun k=>nX B X k)/\fM w' iE (af.jo wd r i s)):=fun W' hb=>by
  refine(aeB i hi s _ _ Zn (R.out.later hb).fl hs.out.CW (R.out.later hb).all jS).mono ?_;rintro e w' ⟨iE,v',rfl,h1,h2,h3,h4⟩;obtain⟨k1,k2,k3⟩:=(R.out.later hb).floor h1 h2 h4;exact⟨iE,_,rfl,k1,k2,k3,h3⟩
 have HRR:Hid (af.vw wd h r i s = { r with L:=Fl.oI r.L i (af.jo wd r i s),pf:=Fs.ia r.pf i (af.jm r i) (r.L i) (af.jo wd r i s),n:=Fl.runN r.n i wd h (af.jm r i) (af.qp r i),rp:=r.rp++((af.jo wd r i s).map (af.vv (r.L i) (af.jm r i))++r.pl.flatMap (af.o5 (Fl.oI r.L i (af.jo wd r i s)) i)) }):=rfl;have ua:=hDq (R.out.all.ok.aH i hi).len;have Zp:=hDq (R.out.all.ok.aH i hi).oks;generalize af.vw wd h r i s=rr at *;generalize af.jo wd r i s=bh at *;generalize af.jm r i=p at *;generalize af.qp r i=vol at *;generalize Fl.oJ r.n i wd p vol=op at *;generalize Fl.runN r.n i wd h p vol=nn at *;generalize Fs.ia r.pf i p (r.L i) bh=oK at *;generalize Fl.oI r.L i bh=L' at *;clear jS Zn;have c0:=R.out.cells.1;have ho:∀ k,nX B X k->k<W.heap.size:=fun k hk=>Oo R.out.aS hk;go_enter Tryz.func142,Tryz.ntmps142
 go_wp2_with fail
 refine(Zo.out _ (bRq _ _)).mono ?_;rintro e w1 ⟨rfl,dz⟩;subst w1;simp only[]
 go_wp2_with fail
 refine(lD.out _ (bRq _ _)).mono ?_;rintro e w2 ⟨v2,rfl,hrow2,hb2⟩;have HB2:=hDq hb2;have HOW:=hDq (akN W.heap.size v2 (r.L i) w2 hrow2 ua.out Zp.out);clear hrow2 hb2;simp only[]
 go_wp2_with fail
 refine HOW.out.mono ?_;rintro e w3 ⟨rfl,Dn,hb3⟩;have au:=hDq (HB2.out.trans (hb3.mono HB2.out.size));have Zq:=hDq Dn;have hM:W.heap.size<=w2.heap.size:=HB2.out.size;generalize w2.heap.size=M at *;clear Dn hb3 HOW HB2;have c3:=(R.out.later au.out).cells.1;simp only[]
 go_wp2_with fail
 refine(vF.out _ au.out).mono ?_;rintro e w4 ⟨iE,rE,rfl,h1,h2,h3,h4⟩;have bR:=hDq h1;have dr:=hDq ((b_.below au.out b0 B X).trans h2);have Zr:=hDq h4;have Zs:=hDq (Zq.out.turned h3 (fun e=>by have:=ho _ e;omega));clear h1 h2 h3 Zo lD vF Zq;obtain⟨je,jF,ng⟩:=h4.val;have MN:=hDq ng;subst ng;obtain⟨m,hm⟩:∃ m,bh.length=m:=⟨_,rfl⟩;have HM:=hDq hm;have apC:m<=240:=by rw[<- hm];exact Pr.out.1
 rw[hm];clear h4;unfold AX;have ck:Hid (Qd w4 (w4.alloc (.cells #[Qa p,Qa vol,.bool op,.slice je m jF] 296))):=(bRq _ _).alloc (lRq _) _;have HD5:=hDq (hNq w4 (.cells #[Qa p,Qa vol,.bool op,.slice je m jF] 296));simp only[]
 go_wp2_with fail
 have bA:=hDq (bR.out.later ck.out);have jD:=hDq (dr.out.trans (b_.below ck.out b0 B rE));have Zt:=hDq (Zr.out.later ck.out);have al0:=hDq (Zs.out.later ck.out);rw[hm]at Zt;generalize w4.alloc (.cells #[Qa p,Qa vol,.bool op,.slice je m jF] 296)=aC at *;generalize w4.heap.size=D at *;clear bR dr Zr Zs ck hm
 go_loopw [38] (fun kv wr=>∃ k s9,k<=m/\kv=Qa k/\bS w b0 wr B rE wd h seed S q vp s9 { r with L:=L',pf:=oK,n:=nn,rp:=r.rp++(bh.take k).map (af.vv (r.L i) p) }/\b_ W wr b0 B X rE/\fM wr (.slice je m jF) bh/\jr wr M (r.L i).length (af.vu (r.L i) (r.L i).length)/\wr.heap[D]?=some (.cells #[Qa p,Qa vol,.bool op,.slice je m jF] 296 (0,0))) (fun kv _=>m-(intOf kv).toNat)
 case atStart=>exact⟨0,vr,by omega,rfl,by simpa using bA.out,jD.out,Zt.out,al0.out,HD5.out⟩
 case round =>
  obtain⟨k,pK,hk,rfl,hr,hfr,Dp,Dn,hd⟩:=hrel;have HR:=hDq hr;have HF:=hDq hfr;have pW:=hDq Dp;have HO:=hDq Dn;have HD:=hDq hd;clear hr hfr Dn;by_cases hlt:k<m
  .have aX:(k:Int)<m:=by omega
   have hkl:k<bh.length:=by rw[HM.out];exact hlt
   obtain⟨g,hg⟩:∃ g,je=some (Qb g 0):=by
    rcases Dp with ⟨e1,_⟩ | ⟨g,cap,cur,e1,_⟩
    .rw[e1]at hkl;cases hkl
    .simp only[Value.slice.injEq]at e1;exact⟨g,e1.1⟩
   subst hg;obtain⟨y0,y1⟩:wr.cell? ⟨g,k*2,none⟩=some (Qa (eQ bh k).1)/\wr.cell? ⟨g,k*2+1,none⟩=some (Qa (eQ bh k).2):=by
    rcases Dp with ⟨e1,_⟩ | ⟨g',cap,cur,e1,h2,_⟩
    .rw[e1]at hkl;cases hkl
    .simp only[Value.slice.injEq,Option.some.injEq,Addr.mk.injEq]at e1
     obtain⟨⟨rfl,_⟩,_⟩:=e1;exact h2 k hkl
   have qd:g<wr.heap.size:=bCq _ _ y0;have hDl:D<wr.heap.size:=lBq hd;have z0:wr.cell? (Qb D 0)=some (Qa p):=by rw[cR _ _ _ _ _ _ hd];rfl
   have r8:eQ bh k=bh[k]:=by unfold eQ;rw[gE,List.getElem?_eq_getElem hkl];rfl
   have hid:1<=(eQ bh k).1/\(eQ bh k).1<=1073741824:=by
    obtain⟨_,x,hx,Hu⟩:=Pr.out.2 (eQ bh k) (by rw[r8];exact List.getElem_mem hkl)
    have:=Zp.out x hx
    simp only[Cv.ok,ah.aG,Bool.and_eq_true,decide_eq_true_eq]at this;omega
   have HN:Hid ((bh.take (k+1)).map (af.vv (r.L i) p)=(bh.take k).map (af.vv (r.L i) p)++[af.tell af.Ie ⟨(eQ bh k).1,af.vu (r.L i) (r.L i).length (eQ bh k).1,0,p,(eQ bh k).2⟩]):=by
    show _=_;rw[List.take_succ_eq_append_getElem hkl,List.map_append,<- r8];rfl
   generalize eQ bh k=f at *;obtain⟨f1,f2⟩:=f;simp only at y0 y1 hid HN;have aY:Hid (Qd wr (wr.alloc (.cells #[Qa f1,Qa f2] 300))):=(bRq _ _).alloc (lRq _) _;have al1:=(HO.out.later aY.out).look (p:=f1) (by omega) (by omega);generalize af.vu (r.L i) (r.L i).length f1=ak at *;have HT:=hDq (fun W' (hb:Qd wr W')=>Ia af.Ie ⟨f1,ak,0,p,f2⟩ W' (HR.out.later hb) (by simp only[List.length_append,List.length_map,List.length_take];omega));unfold af.Ie bU at HT;clear Dp hd r8 hid
   go_wp2_with fail
   refine(HT.out _ aY.out).mono ?_;rintro e br ⟨rfl,vn,h3,h4,h5⟩;have H3:=hDq h3;have ee:=hDq (HF.out.trans ((b_.below aY.out b0 B _).trans h4));have H5:=hDq ((HR.out.later aY.out).alY h5 (pW.out.later aY.out));have kP:=hDq ((HR.out.later aY.out).map h5 (HO.out.later aY.out));have Dm:=hDq ((HR.out.later aY.out).block h5 (dG aY.out HD.out) (by decide) (by decide));clear h3 h4 h5 HT aY al1;simp only[];go_wp2;refine⟨⟨k+1,vn,hlt,by go_num,?_,ee.out,H5.out,kP.out,Dm.out⟩,by simp[intOf];omega⟩;rw[HN.out,<- aAq];exact H3.out
  .have aX:¬ (k:Int)<m:=by omega
   obtain rfl:k=m:=by omega
   have Dq:=HR.out;rw[<- HM.out,List.take_length]at Dq;have yB:=hDq Dq;obtain⟨gz,hwo⟩:∃ gz,gz=wr:=⟨_,rfl⟩;subst hwo;have q1:=Dq.cells.2.1;obtain⟨ap,uw,hvp⟩:=gi Dq.pl;have C5:Hid (vp=.slice ap r.pl.length uw):=hvp;rw[C5.out]at q1;obtain⟨mp,hmp⟩:∃ mp,r.pl.length=mp:=⟨_,rfl⟩;rw[hmp]at q1 C5 hp;have Ps:=hDq hmp;clear hmp hvp Dq Dp hd;have Lg:(bh.map (af.vv (r.L i) p)).length<=240:=by rw[List.length_map];exact Pr.out.1
   go_wp2_with fail
   go_loopw [61] (fun kv wr=>∃ k s9,k<=mp/\kv=Qa k/\bS w b0 wr B rE wd h seed S q vp s9 { r with L:=L',pf:=oK,n:=nn,rp:=(r.rp++bh.map (af.vv (r.L i) p))++(r.pl.take k).flatMap (af.o5 L' i) }/\b_ W wr b0 B X rE) (fun kv _=>mp-(intOf kv).toNat)
   case atStart=>exact⟨0,pK,by omega,rfl,by simpa using yB.out,HF.out⟩
   case round =>
    obtain⟨j,vj,hj,rfl,hr,hfr⟩:=hrel;have vD:=hDq hr;have Pt:=hDq hfr;clear hfr;by_cases n_:j<mp
    .have bI:(j:Int)<mp:=by omega
     have vq:j<r.pl.length:=by rw[Ps.out];exact n_
     have hrow:=hr.pl;rw[C5.out]at hrow;simp only[Ps.out]at hrow;obtain⟨g,hg⟩:∃ g,ap=some (Qb g 0):=by
      rcases hrow.2 with ⟨e1,_⟩ | ⟨g,cap,cur,e1,_⟩
      .cases e1;omega
      .simp only[Value.slice.injEq]at e1;exact⟨g,e1.1⟩
     subst hg;obtain⟨d0,d1,d2,d3,d4,d5,kT,sR⟩:=zD hrow vq n_;have qd:g<wr.heap.size:=bCq _ _ d0;have HN:Hid ((r.pl.take (j+1)).flatMap (af.o5 L' i)=(r.pl.take j).flatMap (af.o5 L' i)++af.o5 L' i (cY r.pl j)):=by
      show _=_;rw[af.Ib vq,List.flatMap_append];simp
     have hlen:=O1 L' i (r.pl.take j);rw[lKq]at hlen;generalize cY r.pl j=a at *;have aY:Hid (Qd wr (wr.alloc (.cells #[.int .u8 a.k,Qa a.c,Qa a.sq,Qa a.it,Qa a.sd,Qa a.pr,Qa a.q,Qa a.id] 95))):=(bRq _ _).alloc (lRq _) _;have gV:=hDq (hNq wr (.cells #[.int .u8 a.k,Qa a.c,Qa a.sq,Qa a.it,Qa a.sd,Qa a.pr,Qa a.q,Qa a.id] 95));have HG:=hDq (DR (B.b i) w.heap.size (rE.v i) a.id (L' i) _ ((vD.out.later aY.out).fl.aH i hi) (vD.out.all.ok.aH i hi).len);have gB:Hid (af.o5 L' i a=if Cv.has (L' i) a.id=true/\a.it=i then [af.tell af.C6 (Bk.jP (L' i) a.id)] else []):=rfl;generalize af.o5 L' i a=rs at *;generalize Bk.jP (L' i) a.id=x at *;generalize Cv.has (L' i) a.id=hb at *;unfold bU at HG;clear hr hrow
     go_wp2_with fail
     refine HG.out.mono ?_;rintro e br ⟨rfl,kU⟩;have i6:=hDq (aY.out.trans (kU.mono aY.out.size));have vo:=hDq (dG kU gV.out);have apD:wr.heap.size<br.heap.size:=lBq vo.out;clear kU HG aY gV d0 d1 d2 d3 d4 d5 kT sR;have e3:br.cell? (Qb wr.heap.size 3)=some (Qa a.it):=by rw[cR _ _ _ _ _ _ vo.out];rfl
     have mj:Hid (Qd wr (br.alloc (.cells #[Qa x.id,Qa x.ak,Qa x.sd,Qa x.pr,Qa x.q] 197))):=i6.out.alloc i6.out.size _;by_cases hc:hb=true/\a.it=i
     .obtain⟨rfl,hit⟩:=hc
      have al2:(a.it==(i:Int))=true:=by simpa using hit
      have Pv:rs=[af.tell af.C6 x]:=by rw[gB.out,if_pos ⟨rfl,hit⟩]
      rw[Pv]at HN;have HT:=hDq (Ia af.C6 x _ (vD.out.later mj.out) (by simp only[List.length_append];omega));unfold af.C6 bU at HT;clear hit;simp only[]
      go_wp2_with fail
      refine HT.out.mono ?_;rintro e i7 ⟨rfl,al3,h3,h4,_⟩;have H3:=hDq h3;have ee:=hDq (Pt.out.trans ((b_.below mj.out b0 B _).trans h4));clear h3 h4 HT;simp only[];go_wp2;refine⟨⟨j+1,al3,n_,by go_num,?_,ee.out⟩,by simp[intOf];omega⟩;rw[HN.out,<- aAq];exact H3.out
     .have Pv:rs=[]:=by rw[gB.out,if_neg hc]
      rw[Pv,aNq]at HN;have hcc:hb=false\/hb=true/\(a.it==(i:Int))=false:=by
       cases hb with
       | false=>exact .inl rfl
       | true=>exact .inr ⟨rfl,by simpa using fun e=>hc ⟨rfl,e⟩⟩
      clear hc;rcases hcc with rfl | ⟨rfl,al2⟩
      all_goals
       simp only[];go_wp2;refine⟨⟨j+1,vj,n_,by go_num,?_,Pt.out.trans (b_.below mj.out b0 B _)⟩,by simp[intOf];omega⟩;rw[HN.out];exact vD.out.later mj.out
    .have bI:¬ (j:Int)<mp:=by omega
     obtain rfl:j=mp:=by omega
     have Pw:=vD.out;rw[<- Ps.out,List.take_length,aAq]at Pw;have JH:=hDq Pw;clear Pw hr;go_wp2;go_end0;exact⟨rfl,rE,vp,vj,by rw[HRR.out];exact JH.out,Pt.out⟩
end
end
namespace af
def Same (f g:Nat->Int):Prop:=Pu.ew g 6=Pu.ew f 6/\∀ j,j<3->Pu.ez g j 6=Pu.ez f j 6
theorem Same.refl (f:Nat->Int):Same f f:=⟨rfl,fun _ _=>rfl⟩
theorem Same.trans {f g k:Nat->Int} (h:Same f g) (h2:Same g k):Same f k:=⟨h2.1.trans h.1,fun j hj=>(h2.2 j hj).trans (h.2 j hj)⟩
theorem Y8 (i:Nat):∀ (xs:List Cv.ag) (f:Nat->Int),Same f (Fl.ym i f xs)
 | [],f=>Same.refl f
 | x::xs,f=>by
  have h:=Pu.JO f (i:Int) x 6;exact Same.trans ⟨h.1,h.2⟩ (Y8 i xs (Pu.fE f i x))
theorem Y9 (c:Int) (L:Nat->List Cv.ag) (f:Nat->Int):∀ i,Same f (Fl.ot c L f i)
 | 0=>Same.refl f
 | i+1=>(Y9 c L f i).trans (Y8 i _ _)
theorem alb (r:cB) (c:Nat):Same r.pf (ru r c).pf:=Y9 c r.L r.pf 3
theorem alf (r:cB) (a:Ask):Same r.pf (gq r a).pf:=by
 unfold gq qm qj;split
 .show Same r.pf (Fl.jV r.L r.pf a)
  unfold Fl.jV;split
  .have h:=Pu.Rp r.pf a.it (Fl.eZ a) 6
   exact⟨h.1,h.2⟩
  .exact Same.refl _
 .show Same r.pf (Fl.jW r.L r.pf a)
  unfold Fl.jW;split
  .have h:=Pu.JO r.pf a.it (Fl.fC r.L a) 6
   exact⟨h.1,h.2⟩
  .exact Same.refl _
theorem alk {wd h:Int} {r:cB} (H:dU r.L r.pf r.n wd h) {i:Nat} (hi:i<3) (s:Int):Same r.pf (vw wd h r i s).pf:=by
 have hw:Cv.fD (r.L i) (r.n (i*2)) 1000 (jm r i) (qp r i):=O3 (H.ok.aH i hi).oks _;show Same r.pf (Fs.ia r.pf i (jm r i) (r.L i) (jo wd r i s));unfold jo Fl.oL;split
 .rename_i hc
  have hf:=Fs.K9 (AY (H.ok.aH i hi)) hw hc.2;have hF:=Fs.SC hf s;have hp:1<=jm r i/\jm r i<=1000:=by
   rcases hw with ⟨_,e2,_⟩ | ⟨_,e2,e3,_⟩
   .have:=hc.2;omega
   .exact⟨e2,e3⟩
  have h1:=Fs.ads H.ok hi hp hF;exact⟨h1.1,h1.2⟩
 .rw[Fs.Ta]
  exact Same.refl _
end af
section
open Go.RowKit
theorem OP (s:ByteArray):∀ k,(af.l4 s k).length=2*k
 | 0=>rfl
 | k+1=>by rw[af.l4,lAq,OP s k];rfl
theorem YF (x:Nat) (hx:x<16) (w:World):(Instr.index 9 (.string ⟨#[48,49,50,51,52,53,54,55,56,57,97,98,99,100,101,102]⟩) (.int .u8 x)).run Tryz.prog w=.ok (.int .u8 (af.tj x)) w:=by
 have:x=0\/x=1\/x=2\/x=3\/x=4\/x=5\/x=6\/x=7\/x=8\/x=9\/x=10\/x=11\/x=12\/x=13\/x=14\/x=15:=by omega
 rcases this with rfl | rfl | rfl | rfl | rfl | rfl | rfl | rfl | rfl | rfl | rfl | rfl | rfl | rfl | rfl | rfl <;> exact rfl
theorem akT:∀ b:Fin 256,bits .and .u8 ((b.val:Nat):Int) 15=((b.val%16:Nat):Int):=by decide +kernel
theorem akU (base:Nat) (v:Value) (xs:List Int) (s:ByteArray) (w:World) (hr:Hid (Row w base v xs)) (hx:xs.length<=100000) (hs:s.size<=1000) (hb:base<=w.heap.size) :
  Calls Tryz.prog 139 #[v,.string s] w fun e w'=>∃ v',e=.returned v'/\Row w' base v' (xs++af.l4 s s.size)/\Below base w w':=by
 obtain⟨a0,c0,hv⟩:=gi hr.out;go_enter Tryz.func139,Tryz.ntmps139
 go_wp2_with fail
 go_loopw [0,8] (fun v kv wr=>∃ k:Nat,k<=s.size/\kv=Qa k/\Row wr base v (xs++af.l4 s k)/\Below base w wr) (fun _ kv _=>s.size-(intOf kv).toNat)
 case atStart=>exact⟨0,by omega,rfl,by simpa [af.l4] using hr.out,bRq _ _⟩
 case round =>
  obtain⟨k,hk,rfl,hrow,jk⟩:=hrel;have HR:=hDq hrow;have HB:=hDq jk;clear jk;by_cases hlt:k<s.size
  .have aX:(k:Int)<s.size:=by omega
   have akV:=kV s k;have De:=kx s k hlt;obtain⟨bH,val,hcl,aP⟩:=lg (fun _=>True);go_wp2;obtain⟨x0,hx0⟩:=aP wr.drew trivial;have hnx:Nonempty bH:=⟨x0⟩;refine sJ (val:=val) [11,12] [0,1,2,3,4,5,6,7,8,9,10,11,12,13] (by kernel_rfl) (by kernel_rfl) x0 hx0 ?_;rw[hx0];clear hx0;have d1:∀ W,(Instr.index 9 (.string ⟨#[48,49,50,51,52,53,54,55,56,57,97,98,99,100,101,102]⟩) (.int .u8 ((aN s k:Int)/16))).run Tryz.prog W=.ok (.int .u8 (af.tj (aN s k/16))) W:=fun W=>by
    rw[show ((aN s k:Int)/16)=((aN s k/16:Nat):Int) by omega];exact YF _ (by omega) W
   have d2:∀ W,(Instr.index 9 (.string ⟨#[48,49,50,51,52,53,54,55,56,57,97,98,99,100,101,102]⟩) (.int .u8 (bits BinOp.and IntKind.u8 (aN s k:Int) 15))).run Tryz.prog W=.ok (.int .u8 (af.tj (aN s k%16))) W:=fun W=>by
    rw[akT ⟨aN s k,akV⟩];exact YF _ (by omega) W
   have hl2:(xs++af.l4 s k).length<=1000000:=by rw[lAq,OP];omega
   have hbw:base<=wr.heap.size:=lTq hb HB.out.size;have hrd:Row wr.drew base u0 (xs++af.l4 s k):=cO HR.out eO;obtain⟨v4,w4,hap,hr4,hg4⟩:=Df base wr.drew u0 (xs++af.l4 s k) [af.tj (aN s k/16),af.tj (aN s k%16)] hrd hl2 (by simp) hbw;have bJ:Hid (Below base w w4):=below_grown ((HB.out.trans (eO.mono hbw)).alloc hbw _) (World.ownsRow.alloc hrd _) (lTq hbw (by simp)) hg4;have bR:Hid (Row w4 base v4 (xs++af.l4 s (k+1))):=by
    show Row w4 base v4 (xs++(af.l4 s k++_));rw[<- aAq];exact hr4
   simp only[List.map_cons,List.map_nil,List.length_cons,List.length_nil]at hap;have dJ:=hDq hap;have aR:=hDq aP;clear hap hr4 hg4 hrd hrow aP hcl
   iterate 11 (refine jG rfl rfl (fun K hK=>?_);refine⟨by rfl,?_⟩;unfold aB;go_simp;refine hK _ ?_;clear hK K)
   refine lT rfl rfl (fun K hK=>?_);refine⟨by rfl,?_⟩;unfold aQ;go_simp;refine⟨aR.out _ trivial,hK _ _ ?_⟩;clear hK K;refine lT rfl rfl (fun K hK=>?_);refine⟨by rfl,?_⟩;refine w5 _ _ 115 rfl _ _ _ rfl rfl dJ.out ?_;refine⟨aR.out _ trivial,hK _ _ ?_⟩;clear hK K;refine jG rfl rfl (fun K hK=>?_);refine⟨by rfl,?_⟩;unfold aB;go_simp;refine hK _ ?_;clear hK K;refine qW ?_;go_wp2;exact⟨⟨k+1,hlt,by go_num,bR.out,bJ.out⟩,by simp[intOf];omega⟩
  .have aX:¬ (k:Int)<s.size:=by omega
   obtain rfl:k=s.size:=by omega
   go_wp2;go_ret;exact⟨_,rfl,HR.out,HB.out⟩
end
namespace Fs
open Cv Bk Ra Pu Fu
end Fs
namespace Fl
open Cv Bk Ra Pu Fu Fs
theorem aaH {L:Nat->List ag} {f:Nat->Int} {i:Nat} (hi:i<3) {l:List ag} {c:Int} (ho:eP l) (H:dM (upd L i l) f):∀ k,k<=l.length->dM (upd L i (fF c l k)) (ym i f (jX c l k))
 | 0,_=>by rw[Ru];exact H
 | k+1,hk=>by
  have ih:=aaH (c:=c) hi ho H k (by omega);by_cases hc:(nth l k).ak=c
  .have h1:=drop_one hi ih ho (by omega) hc
   obtain⟨_,h2,_⟩:=JQ ho (show k<l.length by omega) hc;rw[h2];unfold ym at *;rw[List.foldl_append];exact h1
  .obtain⟨h1,h2⟩:=keep_other (show k<l.length by omega) hc
   rw[h1,h2];exact ih
theorem aaI {L:Nat->List ag} {f:Nat->Int} (c:Int) (H:dM L f):∀ i,i<=3->dM (i_ c L i) (ot c L f i)
 | 0,_=>H
 | i+1,hi=>by
  have ih:=aaI c H i (by omega);have e:i_ c L i i=L i:=JR c L i i (lRq _);have h1:=aaH (L:=i_ c L i) (f:=ot c L f i) (i:=i) (by omega) (l:=L i) (c:=c) (H.aH i (by omega)).once (by rw[<- e,qI];exact ih) (L i).length (lRq _);rw[Rv c (lRq _),Rw c (lRq _)]at h1;exact h1
end Fl
namespace af
variable {r:cB} {wd h:Int}
def All (wd h:Int) (r:cB):Prop:=dU r.L r.pf r.n wd h
theorem All.drop (H:All wd h r) (c:Nat):All wd h (ru r c):=⟨Fl.aaI c H.ok 3 (lRq _),H.kZ,H.rule⟩
theorem All.ask (H:All wd h r) (a:Ask):All wd h (gq r a):=by
 unfold gq;split
 .exact⟨H.ok.place a,H.kZ,H.rule⟩
 .exact⟨H.ok.cancel a,H.kZ,H.rule⟩
theorem All.asks (H:All wd h r) (l:List Ask):∀ k,All wd h (kO r l k)
 | 0=>H
 | k+1=>(All.asks H l k).ask _
end af
end Go.Proofs.YtjolccidheflpaaGreatDoor
