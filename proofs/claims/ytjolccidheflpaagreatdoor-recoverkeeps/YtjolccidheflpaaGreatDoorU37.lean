/- Own. -/
import Derived.Test.YtjolccidheflpaaGreatDoorU35
import Derived.Test.YtjolccidheflpaaGreatDoorU34
import Derived.Test.YtjolccidheflpaaGreatDoorU36
import Derived.Test.YtjolccidheflpaaGreatDoorU25
import Derived.Test.YtjolccidheflpaaGreatDoorU12
import Derived.Deep.RegionWith
import Derived.BigRegion
import Derived.Test.YtjolccidheflpaaGreatDoorU08
import Derived.Test.YtjolccidheflpaaGreatDoorU30
import Derived.Test.YtjolccidheflpaaGreatDoorU13
import Derived.Test.YtjolccidheflpaaGreatDoorU20
import Derived.Test.YtjolccidheflpaaGreatDoorU29
import Derived.Test.YtjolccidheflpaaGreatDoorU32
import Derived.Test.YtjolccidheflpaaGreatDoorU10
namespace Go.Proofs.YtjolccidheflpaaGreatDoor
set_option maxHeartbeats 8000000
open Go.RowKit
set_option maxRecDepth 100000
def qN (ad:Nat->Addr) (j:Nat):Value:=.pointer (some (ad j))
theorem zn {W:World} {R:Nat} {t:TypeId} {x0 x1 x2 x3 x4 x5:Value} (hz:W.heap[R]?=some (.cells #[x0,x1,x2,x3,x4,x5] t (0,0))) (v0 v1 v2 v3 v4 v5:Value) :
  ((((((W.setCell ⟨R,0,none⟩ v0).setCell ⟨R,1,none⟩ v1).setCell ⟨R,2,none⟩ v2).setCell ⟨R,3,none⟩ v3).setCell ⟨R,4,none⟩ v4).setCell ⟨R,5,none⟩ v5).heap[R]?=some (.cells #[v0,v1,v2,v3,v4,v5] t (0,0)):=by
 rw[block_setCell (block_setCell (block_setCell (block_setCell (block_setCell (block_setCell hz 0 v0) 1 v1) 2 v2) 3 v3) 4 v4) 5 v5];rfl
theorem XI {n R:Nat} {w W:World} (h:Below n w W) (hR:n<=R) (v0 v1 v2 v3 v4 v5:Value):Below n w ((((((W.setCell ⟨R,0,none⟩ v0).setCell ⟨R,1,none⟩ v1).setCell ⟨R,2,none⟩ v2).setCell ⟨R,3,none⟩ v3).setCell ⟨R,4,none⟩ v4).setCell ⟨R,5,none⟩ v5):=by
 iterate 6 refine Below.setCell (p:=⟨R,_,none⟩) ?_ hR _
 exact h
theorem HZ (W:World) (R:Nat) (v0 v1 v2 v3 v4 v5:Value):aM W ((((((W.setCell ⟨R,0,none⟩ v0).setCell ⟨R,1,none⟩ v1).setCell ⟨R,2,none⟩ v2).setCell ⟨R,3,none⟩ v3).setCell ⟨R,4,none⟩ v4).setCell ⟨R,5,none⟩ v5) R:=((((((aM.setCell _ _ _ _).put _ _).put _ _).put _ _).put _ _).put _ _)
section
variable {w W:World} {ad:Nat->Addr} {B:cJ} {X:cy} {wd h seed:Int} {S:af.St}
theorem bT.Ct (h:bT w ad):ee w (qN ad):=⟨h.cell 1 (by decide),h.cell 2 (by decide),h.cell 3 (by decide),h.cell 5 (by decide),h.cell 6 (by decide),h.cell 7 (by decide),h.cell 9 (by decide),h.cell 11 (by decide)⟩
theorem bT.Yi (h:bT w ad):sM w (qN ad):=⟨h.cell 10 (by decide),h.cell 11 (by decide),h.cell 1 (by decide),h.cell 2 (by decide),h.cell 3 (by decide)⟩
theorem bT.akM (h:bT w ad):wF w (qN ad):=⟨h.cell 3 (by decide),h.cell 1 (by decide),h.cell 7 (by decide)⟩
theorem akN (ad:Nat->Addr) (c:Nat):Ui (qN ad) c=gq ad c:=by cases c <;> rfl
def fI (r:af.dc):Array Value:=#[.int .i64 r.c,.string r.k,.int .i64 r.id,.int .i64 r.pr,.int .i64 r.q,.int .i64 r.cd]
def jS (r:af.dc):Value:=.agg (fI r)
theorem av.sent (H:av w W B X wd h seed S) (hs:bT w ad):bT W ad:=hs.later H.cp
theorem dG:Below W.heap.size W W.drew:=⟨rfl,rfl,rfl,lRq _,fun _ _=>rfl⟩
theorem zx (W:World) (H:av w W B X wd h seed S):Calls Tryz.prog 19 #[.pointer (some ⟨B.V,0,none⟩)] W fun e w'=>e=.returned (.pointer (some ⟨B.d,0,none⟩))/\w'=W:=by
 have c:W.cell? ⟨B.V,3,none⟩=some (.pointer (some ⟨B.d,0,none⟩)):=H.at 3;clear H;go_enter Tryz.func19,Tryz.ntmps19;go_wp2;go_ret;exact⟨rfl,rfl⟩
theorem Ov (W:World) (H:av w W B X wd h seed S):Calls Tryz.prog 25 #[.pointer (some ⟨B.V,0,none⟩)] W fun e w'=>e=.returned (.int .i64 S.bt)/\w'=W:=by
 have c:W.cell? ⟨B.V,35,none⟩=some (.int .i64 S.bt):=H.at 35;clear H;go_enter Tryz.func25,Tryz.ntmps25;go_wp2;go_ret;exact⟨rfl,rfl⟩
theorem Ow (W:World) (H:av w W B X wd h seed S):Calls Tryz.prog 26 #[.pointer (some ⟨B.V,0,none⟩)] W fun e w'=>e=.returned (.int .i64 S.now)/\w'=W:=by
 have c:W.cell? ⟨B.V,34,none⟩=some (.int .i64 S.now):=H.at 34;clear H;go_enter Tryz.func26,Tryz.ntmps26;go_wp2;go_ret;exact⟨rfl,rfl⟩
theorem akO (S S':af.St) (n:Nat) (x:Bool) (h0:S'.on=upd S.on n x) (h1:S'.aD=S.aD) (h2:S'.la=S.la) (h3:S'.aO=S.aO) (h4:S'.aR=S.aR) (c' j':Nat) (hj:j'<5):fT S' c' j'=if c'=n/\j'=0 then .bool x else fT S c' j':=by
 have:j'=0\/j'=1\/j'=2\/j'=3\/j'=4:=by omega
 rcases this with rfl | rfl | rfl | rfl | rfl <;> simp[fT,h0,h1,h2,h3,h4]
 unfold upd;split <;> simp_all
theorem akP (S S':af.St) (n:Nat) (x:Int) (h0:S'.on=S.on) (h1:S'.aD=upd S.aD n x) (h2:S'.la=S.la) (h3:S'.aO=S.aO) (h4:S'.aR=S.aR) (c' j':Nat) (hj:j'<5):fT S' c' j'=if c'=n/\j'=1 then .int .i64 x else fT S c' j':=by
 have:j'=0\/j'=1\/j'=2\/j'=3\/j'=4:=by omega
 rcases this with rfl | rfl | rfl | rfl | rfl <;> simp[fT,h0,h1,h2,h3,h4]
 unfold upd;split <;> simp_all
theorem akQ (S S':af.St) (n:Nat) (x:Int) (h0:S'.on=S.on) (h1:S'.aD=S.aD) (h2:S'.la=upd S.la n x) (h3:S'.aO=S.aO) (h4:S'.aR=S.aR) (c' j':Nat) (hj:j'<5):fT S' c' j'=if c'=n/\j'=2 then .int .i64 x else fT S c' j':=by
 have:j'=0\/j'=1\/j'=2\/j'=3\/j'=4:=by omega
 rcases this with rfl | rfl | rfl | rfl | rfl <;> simp[fT,h0,h1,h2,h3,h4]
 unfold upd;split <;> simp_all
theorem Xm (S S':af.St) (n:Nat) (x:ByteArray) (h0:S'.on=S.on) (h1:S'.aD=S.aD) (h2:S'.la=S.la) (h3:S'.aO=upd S.aO n x) (h4:S'.aR=S.aR) (c' j':Nat) (hj:j'<5):fT S' c' j'=if c'=n/\j'=3 then .string x else fT S c' j':=by
 have:j'=0\/j'=1\/j'=2\/j'=3\/j'=4:=by omega
 rcases this with rfl | rfl | rfl | rfl | rfl <;> simp[fT,h0,h1,h2,h3,h4]
 unfold upd;split <;> simp_all
theorem N0 (S S':af.St) (n:Nat) (x:Bool) (h1:S'.on=S.on) (h2:S'.aD=S.aD) (h3:S'.la=S.la) (h4:S'.aO=S.aO) (h5:S'.aR=upd S.aR n x) (c' j':Nat) (hj:j'<5):fT S' c' j'=if c'=n/\j'=4 then .bool x else fT S c' j':=by
 have:j'=0\/j'=1\/j'=2\/j'=3\/j'=4:=by omega
 rcases this with rfl | rfl | rfl | rfl | rfl <;> simp[fT,h1,h2,h3,h4,h5]
 unfold upd;split <;> simp_all
theorem Xq (n:Nat) (hn:n<6) (W:World) (H:Hid (av w W B X wd h seed S)):Calls Tryz.prog 132 #[.pointer (some ⟨B.V,0,none⟩),.int .i64 n] W fun e w'=>e=.returned (.tuple #[])/\∃ X',av w w' B X' wd h seed (af.leave S n)/\aV W w' B X X':=by
 have c:W.cell? ⟨B.V,2,none⟩=some (.pointer (some ⟨B.q,0,none⟩)):=H.out.at 2;have HC:=hDq (afL n W H.out.it);go_enter Tryz.func132,Tryz.ntmps132
 go_wp2_with fail
 refine HC.out.mono ?_;rintro e w2 ⟨rfl,eO,hi,hq⟩;obtain⟨h1,h2⟩:=H.out.take hi hq;have H1:=hDq h1;have H2:=hDq h2;clear hi hq h1 h2 HC;have c4:=H1.out.conn hn (j:=4) (by decide);have f4:=H1.out.free (4+n*5+4);simp only[fT]at c4;simp only[];go_wp2;go_end0;obtain⟨h3,h4⟩:=H1.out.set (S':=af.leave S n) hn (j:=4) (by decide) (.bool true) (fun c' j' _ iE=>N0 { S with Q:=ay.oo S.Q n } (af.leave S n) n true rfl rfl rfl rfl rfl c' j' iE) rfl rfl rfl ⟨rfl,rfl,rfl,rfl,rfl,rfl,rfl,rfl⟩;exact⟨rfl,_,h3,H2.out.trans h4⟩
theorem Xr (c id:Int) (n:Nat) (hn:n<=12) (W:World) (hs:Hid (bT W ad)):Calls Tryz.prog 166 #[.int .i64 c,.int .i64 id,gq ad n] W fun e w'=>e=.returned (jS (af.fZ c id n))/\Below W.heap.size W w':=by
 go_enter Tryz.func166,Tryz.ntmps166
 go_wp2_with fail
 have bF:Hid (Below W.heap.size W (W.alloc (.cells #[.int .i64 0,.string ⟨#[]⟩,.int .i64 0,.int .i64 0,.int .i64 0,.int .i64 0] 121))):=(bRq _ _).alloc (lRq _) _;have Gy:=hDq (hNq W (.cells #[.int .i64 0,.string ⟨#[]⟩,.int .i64 0,.int .i64 0,.int .i64 0,.int .i64 0] 121));refine(WA n hn ad _ (hs.out.later bF.out)).mono ?_;rintro e w2 ⟨rfl,hb2⟩;have HB2:=hDq (bF.out.trans (hb2.mono bF.out.size));have jB:=hDq (dS hb2 Gy.out);clear hb2;have c0:w2.cell? ⟨W.heap.size,0,none⟩=some (.int .i64 0):=by rw[cR _ _ 0 _ _ _ jB.out];rfl
 have c1:w2.cell? ⟨W.heap.size,1,none⟩=some (.string ⟨#[]⟩):=by rw[cR _ _ 1 _ _ _ jB.out];rfl
 have c2:w2.cell? ⟨W.heap.size,2,none⟩=some (.int .i64 0):=by rw[cR _ _ 2 _ _ _ jB.out];rfl
 have c3:w2.cell? ⟨W.heap.size,3,none⟩=some (.int .i64 0):=by rw[cR _ _ 3 _ _ _ jB.out];rfl
 have c4:w2.cell? ⟨W.heap.size,4,none⟩=some (.int .i64 0):=by rw[cR _ _ 4 _ _ _ jB.out];rfl
 have c5:w2.cell? ⟨W.heap.size,5,none⟩=some (.int .i64 0):=by rw[cR _ _ 5 _ _ _ jB.out];rfl
 have fz:∀ j,w2.frozen? ⟨W.heap.size,j,none⟩=false:=fun j=>by simp[World.frozen?,jB.out]
 simp only[];go_wp2;have HX:=hDq (zn jB.out (.int .i64 c) (.string af.nt) (.int .i64 id) (.int .i64 0) (.int .i64 0) (.int .i64 n));have tu:=hDq (XI HB2.out (lRq W.heap.size) (.int .i64 c) (.string af.nt) (.int .i64 id) (.int .i64 0) (.int .i64 0) (.int .i64 n));unfold af.nt at HX tu;generalize (((((w2.setCell ⟨W.heap.size,0,none⟩ (.int .i64 c)).setCell ⟨W.heap.size,1,none⟩ _).setCell ⟨W.heap.size,2,none⟩ (.int .i64 id)).setCell ⟨W.heap.size,3,none⟩ (.int .i64 0)).setCell ⟨W.heap.size,4,none⟩ (.int .i64 0)).setCell ⟨W.heap.size,5,none⟩ (.int .i64 n)=w3 at *;have R:∀ j,w3.cell? ⟨W.heap.size,j,none⟩=_:=fun j=>cR w3 _ j _ 121 _ HX.out;refine bodyPost_ret (v:=jS (af.fZ c id n)) (by simp[results,Tryz.results166,go_sem,R,jS,fI,af.fZ,af.nt]) rfl ⟨rfl,tu.out⟩
theorem ajL (a:Ask) (W:World) (H:Hid (av w W B X wd h seed S)) (hs:Hid (bT w ad)) :
  Calls Tryz.prog 167 #[.pointer (some ⟨B.V,0,none⟩),bM a] W fun e w'=>e=.returned (.string (af.xg S a))/\∃ X',av w w' B X' wd h seed { S with Q:=ay.jK S.Q a }/\aV W w' B X X':=by
 have HP:Hid (∀ W' X',av w W' B X' wd h seed S->Calls Tryz.prog 209 #[.pointer (some ⟨B.q,0,none⟩),bM a] W' fun e w'=>e=.returned (gq ad (ay.jJ S.Q a))/\∃ X2,av w w' B X2 wd h seed { S with Q:=ay.jK S.Q a }/\aV W' w' B X' X2):=fun W' X' H'=>by
  refine(af4 a W' (H'.sent hs.out).akM H'.it).mono ?_;rintro e w' ⟨rfl,eO,h1,h2⟩;obtain⟨h3,h4⟩:=H'.take h1 h2;exact⟨by rw[akN],_,h3,h4⟩
 have H0:Hid (av w (W.alloc (.cells (aT a) 95)) B X wd h seed S):=H.out.later ((bRq _ _).alloc (lRq _) _);have ni:Hid (aV W (W.alloc (.cells (aT a) 95)) B X X):=aV.of_below ((bRq _ _).alloc (lRq _) _) B X;have HK:Hid (af.xg S a=if ay.jJ S.Q a=0 then af.Hs else af.Ht):=rfl;have c2:W.cell? ⟨B.V,2,none⟩=some (.pointer (some ⟨B.q,0,none⟩)):=H.out.at 2;have hlt:=H.out.lt;generalize af.xg S a=pk at *;generalize ay.jJ S.Q a=pc at *;generalize ay.jK S.Q a=pl at *;unfold bM aT at *;cases pc with
 | zero =>
  rw[show gq ad 0=.nilIface from rfl]at HP;have hpk:pk=af.Hs:=HK.out;subst hpk;unfold af.Hs;go_enter Tryz.func167,Tryz.ntmps167
  go_wp2_with fail
  go_region_with (go_at_call 209;refine(HP.out _ X (H0.out.later dG)).mono ?_;rintro e w2 ⟨rfl,X2,h1,h2⟩;have H1:=hDq h1;have H2:=hDq h2;clear h1 h2)
  all_goals
   go_wp2;go_ret;exact⟨rfl,X2,H1.out,(ni.out.below dG).trans H2.out⟩
 | succ d =>
  rw[show gq ad (d+1)=.iface 412 (.pointer (some (ad d))) from rfl]at HP;have hpk:pk=af.Ht:=HK.out;subst hpk;unfold af.Ht;go_enter Tryz.func167,Tryz.ntmps167
  go_wp2_with fail
  go_region_with (go_at_call 209;refine(HP.out _ X (H0.out.later dG)).mono ?_;rintro e w2 ⟨rfl,X2,h1,h2⟩;have H1:=hDq h1;have H2:=hDq h2;clear h1 h2)
  all_goals
   go_wp2;go_ret;exact⟨rfl,X2,H1.out,(ni.out.below dG).trans H2.out⟩
def uX (S:af.St) (n:Nat) (o:Bool) (x l:Int):af.St:={ S with on:=upd S.on n o,aD:=upd S.aD n x,la:=upd S.la n l }
theorem av.Xn (H:av w W B X wd h seed S) {n:Nat} (hn:n<6) (o:Bool) (x l:Int) :
  av w (((W.setCell ⟨B.V,4+n*5,none⟩ (.bool o)).setCell ⟨B.V,4+n*5+1,none⟩ (.int .i64 x)).setCell ⟨B.V,4+n*5+2,none⟩ (.int .i64 l)) B X wd h seed (uX S n o x l)/\aV W (((W.setCell ⟨B.V,4+n*5,none⟩ (.bool o)).setCell ⟨B.V,4+n*5+1,none⟩ (.int .i64 x)).setCell ⟨B.V,4+n*5+2,none⟩ (.int .i64 l)) B X X:=by
 obtain⟨a1,a2⟩:=H.set (S':={ S with on:=upd S.on n o }) hn (j:=0) (by decide) (.bool o) (fun c' j' _ iE=>akO S { S with on:=upd S.on n o } n o rfl rfl rfl rfl rfl c' j' iE) rfl rfl rfl ⟨rfl,rfl,rfl,rfl,rfl,rfl,rfl,rfl⟩;obtain⟨b1,b2⟩:=a1.set (S':={ S with on:=upd S.on n o,aD:=upd S.aD n x }) hn (j:=1) (by decide) (.int .i64 x) (fun c' j' _ iE=>akP { S with on:=upd S.on n o } { S with on:=upd S.on n o,aD:=upd S.aD n x } n x rfl rfl rfl rfl rfl c' j' iE) rfl rfl rfl ⟨rfl,rfl,rfl,rfl,rfl,rfl,rfl,rfl⟩;obtain⟨d1,d2⟩:=b1.set (S':=uX S n o x l) hn (j:=2) (by decide) (.int .i64 l) (fun c' j' _ iE=>akQ { S with on:=upd S.on n o,aD:=upd S.aD n x } (uX S n o x l) n l rfl rfl rfl rfl rfl c' j' iE) rfl rfl rfl ⟨rfl,rfl,rfl,rfl,rfl,rfl,rfl,rfl⟩;exact⟨d1,(a2.trans b2).trans d2⟩
end
section
variable {w W:World} {ad:Nat->Addr} {B:cJ} {X:cy} {wd h seed:Int} {S:af.St}
theorem Cu (R:World->Prop):∃ (X:Type) (val:X->World),(∀ x,R (val x))/\∀ W,R W->∃ x,val x=W :=
 ⟨{ w:World // R w },fun x=>x.1,fun x=>x.2,fun W h=>⟨⟨W,h⟩,rfl⟩⟩
theorem akR (n:Nat) (a:Ask) (hne:a.c≠n) (W:World) (H:Hid (av w W B X wd h seed S)) (hs:Hid (bT w ad)) :
  Calls Tryz.prog 165 #[.pointer (some ⟨B.V,0,none⟩),.int .i64 n,bM a] W fun e w'=>e=.returned (gq ad 3)/\Below W.heap.size W w':=by
 have g:=(H.out.sent hs.out).cell 2 (by decide);have g':W.cell? ⟨3,0,none⟩=some (.iface 412 (.pointer (some (ad 2)))):=g;have hz:3<W.heap.size:=bCq W _ g;have hb:(a.c != (n:Int))=true:=by simpa using hne
 clear g hne;unfold bM aT;go_enter Tryz.func165,Tryz.ntmps165;go_wp2;go_ret;exact⟨rfl,(bRq _ _).alloc (lRq _) _⟩
theorem akS (n:Nat) (hn:n<6) (a:Ask) (hc:a.c=n) (mh:bz.tc (S.on n) (S.aD n) a=0) (W:World) (H:Hid (av w W B X wd h seed S)) (hs:Hid (bT w ad)) :
  Calls Tryz.prog 165 #[.pointer (some ⟨B.V,0,none⟩),.int .i64 n,bM a] W fun e w'=>e=.returned .nilIface/\av w w' B X wd h seed (af.taken S n a)/\aV W w' B X X:=by
 have hb:(a.c != (n:Int))=false:=by simpa using hc
 have Xl:(n:Int)<6:=by omega
 have akT:Hid (af.taken S n a=uX S n (bz.ja (S.on n) (S.aD n) a) (bz.jP (S.on n) (S.aD n) a) (bz.gN (S.on n) (S.aD n) (S.la n) a S.now)):=rfl;have H1:Hid (av w (W.alloc (.cells (aT a) 95)) B X wd h seed S):=H.out.later ((bRq _ _).alloc (lRq _) _);have HB1:Hid (Below W.heap.size W (W.alloc (.cells (aT a) 95))):=(bRq _ _).alloc (lRq _) _;have HA:=hDq (hNq W (.cells (aT a) 95));have HT:Hid (∀ W',Below (W.alloc (.cells (aT a) 95)).heap.size (W.alloc (.cells (aT a) 95)) W'->Calls Tryz.prog 208 #[kS (S.on n) (S.aD n) (S.la n),bM a,.int .i64 S.now] W' fun e w'=>e=.returned (.tuple #[kS (bz.ja (S.on n) (S.aD n) a) (bz.jP (S.on n) (S.aD n) a) (bz.gN (S.on n) (S.aD n) (S.la n) a S.now),.nilIface])/\Below W'.heap.size W' w'):=fun W' hb'=>by
  have:=Wv (S.on n) (S.aD n) (S.la n) S.now a W' ((H1.out.later hb').sent hs.out).Yi
  rw[mh]at this;exact this
 generalize af.taken S n a=DJ at *;generalize bz.ja (S.on n) (S.aD n) a=to at *;generalize bz.jP (S.on n) (S.aD n) a=tn at *;generalize bz.gN (S.on n) (S.aD n) (S.la n) a S.now=tl at *;clear hc mh;unfold bM aT kS at *;go_enter Tryz.func165,Tryz.ntmps165;have a1:∀ q,(W.alloc (.cells #[.int .u8 a.k,.int .i64 a.c,.int .i64 a.sq,.int .i64 a.it,.int .i64 a.sd,.int .i64 a.pr,.int .i64 a.q,.int .i64 a.id] 95)).cell? ⟨W.heap.size,q,none⟩=(#[.int .u8 a.k,.int .i64 a.c,.int .i64 a.sq,.int .i64 a.it,.int .i64 a.sd,.int .i64 a.pr,.int .i64 a.q,.int .i64 a.id]:Array Value)[q]?:=fun q=>cR _ _ q _ _ _ HA.out;go_wp2;clear a1;generalize W.alloc (.cells #[.int .u8 a.k,.int .i64 a.c,.int .i64 a.sq,.int .i64 a.it,.int .i64 a.sd,.int .i64 a.pr,.int .i64 a.q,.int .i64 a.id] 95)=W1 at *;obtain⟨bG,val,hcl,aP⟩:=Cu (fun W'=>W'.heap[B.V]?=some (.cells (iB B seed S) 114 (0,0))/\W'.heap[W.heap.size]?=some (.cells #[.int .u8 a.k,.int .i64 a.c,.int .i64 a.sq,.int .i64 a.it,.int .i64 a.sd,.int .i64 a.pr,.int .i64 a.q,.int .i64 a.id] 95 (0,0)));have aN:Hid (∀ W',Below W1.heap.size W1 W'->∃ x,val x=W'):=fun W' hb=>aP W' ⟨(H1.out.later hb).blk,dS hb HA.out⟩;obtain⟨x0,hx0⟩:=aN.out W1.drew dG;have hnx:Nonempty bG:=⟨x0⟩;have s0:∀ x,(val x).cell? ⟨B.V,4+n*5,none⟩=some (.bool (S.on n)):=fun x=>by rw[cR _ _ _ _ _ _ (hcl x).1];exact qT B seed S hn (j:=0) (by decide)
 have s1:∀ x,(val x).cell? ⟨B.V,4+n*5+1,none⟩=some (.int .i64 (S.aD n)):=fun x=>by rw[cR _ _ _ _ _ _ (hcl x).1];exact qT B seed S hn (j:=1) (by decide)
 have s2:∀ x,(val x).cell? ⟨B.V,4+n*5+2,none⟩=some (.int .i64 (S.la n)):=fun x=>by rw[cR _ _ _ _ _ _ (hcl x).1];exact qT B seed S hn (j:=2) (by decide)
 have s3:∀ x,(val x).cell? ⟨B.V,34,none⟩=some (.int .i64 S.now):=fun x=>by rw[cR _ _ _ _ _ _ (hcl x).1];rfl
 have e0:∀ x,(val x).cell? ⟨W.heap.size,0,none⟩=some (.int .u8 a.k):=fun x=>by rw[cR _ _ _ _ _ _ (hcl x).2];rfl
 have e1:∀ x,(val x).cell? ⟨W.heap.size,1,none⟩=some (.int .i64 a.c):=fun x=>by rw[cR _ _ _ _ _ _ (hcl x).2];rfl
 have e2:∀ x,(val x).cell? ⟨W.heap.size,2,none⟩=some (.int .i64 a.sq):=fun x=>by rw[cR _ _ _ _ _ _ (hcl x).2];rfl
 have e3:∀ x,(val x).cell? ⟨W.heap.size,3,none⟩=some (.int .i64 a.it):=fun x=>by rw[cR _ _ _ _ _ _ (hcl x).2];rfl
 have e4:∀ x,(val x).cell? ⟨W.heap.size,4,none⟩=some (.int .i64 a.sd):=fun x=>by rw[cR _ _ _ _ _ _ (hcl x).2];rfl
 have e5:∀ x,(val x).cell? ⟨W.heap.size,5,none⟩=some (.int .i64 a.pr):=fun x=>by rw[cR _ _ _ _ _ _ (hcl x).2];rfl
 have e6:∀ x,(val x).cell? ⟨W.heap.size,6,none⟩=some (.int .i64 a.q):=fun x=>by rw[cR _ _ _ _ _ _ (hcl x).2];rfl
 have e7:∀ x,(val x).cell? ⟨W.heap.size,7,none⟩=some (.int .i64 a.id):=fun x=>by rw[cR _ _ _ _ _ _ (hcl x).2];rfl
 obtain⟨w4,hw4⟩:∃ w4,W1.drew=w4:=⟨_,rfl⟩;have dm:Hid (Below W1.heap.size W1 w4):=by rw[<- hw4];exact dG
 clear aP hcl;refine tJ (val:=val) (fun D ai=>ai.heap[D]?=some (.cells #[.bool to,.int .i64 tn,.int .i64 tl] 107 (0,0))/\Below W1.heap.size W1 ai/\W1.heap.size<=D) (.read 0 (.read 1 (.read 2 (.read 3 (.read 4 (.read 5 (.read 6 (.read 7 (.read 8 (.read 9 (.read 10 (.read 11 (.two 12 (.read 13 (.read 14 (.read 15 (.one 16 (.one 17 (.read 18 .done)))))) 16 (.one 12 (.read 13 (.read 14 (.read 15 (.one 17 (.read 18 .done))))))))))))))))))) (by kernel_rfl) (by kernel_rfl) x0 hx0 ?_;apply Exists.intro;refine⟨?_,?_⟩
 case' refine_1 =>
  rw[hx0,hw4]
  iterate 12 (refine cu rfl (fun K hK=>?_);refine⟨by rfl,?_⟩;unfold aA;go_simp;refine hK _ ?_;clear hK K)
  refine⟨?_,?_⟩
  case refine_1 =>
   refine bW rfl (fun K hK=>?_);refine⟨by rfl,?_⟩;unfold aQ;go_simp;refine(HT.out _ dm.out).mono ?_;rintro e wc ⟨rfl,hbc⟩;have ej:Hid (Below W1.heap.size W1 wc):=dm.out.trans (hbc.mono dm.out.size);refine⟨_,rfl,aN.out _ ej.out,hK _ _ ?_⟩;clear hK K hbc
   iterate 3 (refine cu rfl (fun K hK=>?_);refine⟨by rfl,?_⟩;unfold aA;go_simp;refine hK _ ?_;clear hK K)
   refine bW rfl (fun K hK=>?_);refine⟨by rfl,?_⟩;unfold aQ;go_simp;have au:=hDq (hNq wc (.cells #[.bool false,.int .i64 0,.int .i64 0] 107));have cg:Hid (Below W1.heap.size W1 (wc.alloc (.cells #[.bool false,.int .i64 0,.int .i64 0] 107))):=ej.out.alloc ej.out.size _;have er:Hid (W1.heap.size<=wc.heap.size):=ej.out.size;refine⟨aN.out _ cg.out,hK _ _ ?_⟩;clear hK K;generalize wc.alloc (.cells #[.bool false,.int .i64 0,.int .i64 0] 107)=aj at *;generalize wc.heap.size=aI at *;have c0:aj.cell? ⟨aI,0,none⟩=some (.bool false):=by rw[cR _ _ 0 _ _ _ au.out];rfl
   have c1:aj.cell? ⟨aI,1,none⟩=some (.int .i64 0):=by rw[cR _ _ 1 _ _ _ au.out];rfl
   have c2:aj.cell? ⟨aI,2,none⟩=some (.int .i64 0):=by rw[cR _ _ 2 _ _ _ au.out];rfl
   have f0:aj.frozen? ⟨aI,0,none⟩=false:=by simp[World.frozen?,au.out]
   have f1:aj.frozen? ⟨aI,1,none⟩=false:=by simp[World.frozen?,au.out]
   have f2:aj.frozen? ⟨aI,2,none⟩=false:=by simp[World.frozen?,au.out]
   have HX:=hDq (w5 au.out (.bool to) (.int .i64 tn) (.int .i64 tl));have pV:=hDq (w6 cg.out er.out (.bool to) (.int .i64 tn) (.int .i64 tl));refine bW rfl (fun K hK=>?_);refine⟨by rfl,?_⟩;unfold aQ;go_simp;refine⟨aN.out _ pV.out,hK _ _ ?_⟩;clear hK K c0 c1 c2 f0 f1 f2;generalize ((aj.setCell ⟨aI,0,none⟩ (.bool to)).setCell ⟨aI,1,none⟩ (.int .i64 tn)).setCell ⟨aI,2,none⟩ (.int .i64 tl)=wx at *;refine cu rfl (fun K hK=>?_);refine⟨by rfl,?_⟩;unfold aA;go_simp;refine hK _ ?_;clear hK K;refine iT ?_;exact⟨aI,rfl,HX.out,pV.out,er.out⟩
  case refine_2 =>
   refine bW rfl (fun K hK=>?_);refine⟨by rfl,?_⟩;unfold aQ;go_simp;have jH:=hDq (hNq w4 (.cells #[.bool false,.int .i64 0,.int .i64 0] 107));have cO:Hid (Below W1.heap.size W1 (w4.alloc (.cells #[.bool false,.int .i64 0,.int .i64 0] 107))):=dm.out.alloc dm.out.size _;have er:Hid (W1.heap.size<=w4.heap.size):=dm.out.size;refine⟨aN.out _ cO.out,hK _ _ ?_⟩;clear hK K;generalize w4.alloc (.cells #[.bool false,.int .i64 0,.int .i64 0] 107)=ij at *;generalize w4.heap.size=aI at *;refine bW rfl (fun K hK=>?_);refine⟨by rfl,?_⟩;unfold aQ;go_simp;refine(HT.out _ cO.out).mono ?_;rintro e aj ⟨rfl,qW⟩;have au:=hDq (dS qW jH.out);have cg:Hid (Below W1.heap.size W1 aj):=cO.out.trans (qW.mono cO.out.size);refine⟨_,rfl,aN.out _ cg.out,hK _ _ ?_⟩;clear hK K qW jH cO
   iterate 3 (refine cu rfl (fun K hK=>?_);refine⟨by rfl,?_⟩;unfold aA;go_simp;refine hK _ ?_;clear hK K)
   have c0:aj.cell? ⟨aI,0,none⟩=some (.bool false):=by rw[cR _ _ 0 _ _ _ au.out];rfl
   have c1:aj.cell? ⟨aI,1,none⟩=some (.int .i64 0):=by rw[cR _ _ 1 _ _ _ au.out];rfl
   have c2:aj.cell? ⟨aI,2,none⟩=some (.int .i64 0):=by rw[cR _ _ 2 _ _ _ au.out];rfl
   have f0:aj.frozen? ⟨aI,0,none⟩=false:=by simp[World.frozen?,au.out]
   have f1:aj.frozen? ⟨aI,1,none⟩=false:=by simp[World.frozen?,au.out]
   have f2:aj.frozen? ⟨aI,2,none⟩=false:=by simp[World.frozen?,au.out]
   have HX:=hDq (w5 au.out (.bool to) (.int .i64 tn) (.int .i64 tl));have pV:=hDq (w6 cg.out er.out (.bool to) (.int .i64 tn) (.int .i64 tl));refine bW rfl (fun K hK=>?_);refine⟨by rfl,?_⟩;unfold aQ;go_simp;refine⟨aN.out _ pV.out,hK _ _ ?_⟩;clear hK K c0 c1 c2 f0 f1 f2;generalize ((aj.setCell ⟨aI,0,none⟩ (.bool to)).setCell ⟨aI,1,none⟩ (.int .i64 tn)).setCell ⟨aI,2,none⟩ (.int .i64 tl)=wx at *;refine cu rfl (fun K hK=>?_);refine⟨by rfl,?_⟩;unfold aA;go_simp;refine hK _ ?_;clear hK K;refine iT ?_;exact⟨aI,rfl,HX.out,pV.out,er.out⟩
 intro D ai ⟨Ii,hb6,Oy⟩;clear hx0 hw4 s0 s1 s2 s3 e0 e1 e2 e3 e4 e5 e6 e7 aN dm;clear x0 hnx;clear val;clear bG;have HD:=hDq Ii;have aS:=hDq hb6;have apa:B.V<D:=Nat.lt_of_lt_of_le H1.out.lt Oy;have ky:=hDq (H1.out.later hb6);clear Ii hb6;have d0:ai.cell? ⟨D,0,none⟩=some (.bool to):=by rw[cR _ _ 0 _ _ _ HD.out];rfl
 have d1:ai.cell? ⟨D,1,none⟩=some (.int .i64 tn):=by rw[cR _ _ 1 _ _ _ HD.out];rfl
 have d2:ai.cell? ⟨D,2,none⟩=some (.int .i64 tl):=by rw[cR _ _ 2 _ _ _ HD.out];rfl
 have c0:ai.cell? ⟨B.V,4+n*5,none⟩=some (.bool (S.on n)):=ky.out.conn hn (j:=0) (by decide);have c1:ai.cell? ⟨B.V,4+n*5+1,none⟩=some (.int .i64 (S.aD n)):=ky.out.conn hn (j:=1) (by decide);have c2:ai.cell? ⟨B.V,4+n*5+2,none⟩=some (.int .i64 (S.la n)):=ky.out.conn hn (j:=2) (by decide);have f0:=ky.out.free (4+n*5);have f1:=ky.out.free (4+n*5+1);have f2:=ky.out.free (4+n*5+2);go_wp2
 go_region
 go_wp2;go_ret;obtain⟨h7,h8⟩:=ky.out.Xn hn to tn tl;exact⟨rfl,by rw[akT.out];exact h7.later dG,(aV.of_below (HB1.out.trans (aS.out.mono HB1.out.size)) B X).trans (h8.below dG)⟩
theorem akU (n:Nat) (hn:n<6) (a:Ask) (hc:a.c=n) (d:Nat) (mh:bz.tc (S.on n) (S.aD n) a=d+1) (W:World) (H:Hid (av w W B X wd h seed S)) (hs:Hid (bT w ad)) :
  Calls Tryz.prog 165 #[.pointer (some ⟨B.V,0,none⟩),.int .i64 n,bM a] W fun e w'=>e=.returned (.iface 412 (.pointer (some (ad d))))/\Below W.heap.size W w':=by
 have hb:(a.c != (n:Int))=false:=by simpa using hc
 have Xl:(n:Int)<6:=by omega
 have H1:Hid (av w (W.alloc (.cells (aT a) 95)) B X wd h seed S):=H.out.later ((bRq _ _).alloc (lRq _) _);have HB1:Hid (Below W.heap.size W (W.alloc (.cells (aT a) 95))):=(bRq _ _).alloc (lRq _) _;have HA:=hDq (hNq W (.cells (aT a) 95));have HT:Hid (∀ W',Below (W.alloc (.cells (aT a) 95)).heap.size (W.alloc (.cells (aT a) 95)) W'->Calls Tryz.prog 208 #[kS (S.on n) (S.aD n) (S.la n),bM a,.int .i64 S.now] W' fun e w'=>e=.returned (.tuple #[kS (bz.ja (S.on n) (S.aD n) a) (bz.jP (S.on n) (S.aD n) a) (bz.gN (S.on n) (S.aD n) (S.la n) a S.now),.iface 412 (.pointer (some (ad d)))])/\Below W'.heap.size W' w'):=fun W' hb'=>by
  have:=Wv (S.on n) (S.aD n) (S.la n) S.now a W' ((H1.out.later hb').sent hs.out).Yi
  rw[mh]at this;exact this
 generalize bz.ja (S.on n) (S.aD n) a=to at *;generalize bz.jP (S.on n) (S.aD n) a=tn at *;generalize bz.gN (S.on n) (S.aD n) (S.la n) a S.now=tl at *;clear hc mh;unfold bM aT kS at *;go_enter Tryz.func165,Tryz.ntmps165;have a1:∀ q,(W.alloc (.cells #[.int .u8 a.k,.int .i64 a.c,.int .i64 a.sq,.int .i64 a.it,.int .i64 a.sd,.int .i64 a.pr,.int .i64 a.q,.int .i64 a.id] 95)).cell? ⟨W.heap.size,q,none⟩=(#[.int .u8 a.k,.int .i64 a.c,.int .i64 a.sq,.int .i64 a.it,.int .i64 a.sd,.int .i64 a.pr,.int .i64 a.q,.int .i64 a.id]:Array Value)[q]?:=fun q=>cR _ _ q _ _ _ HA.out;go_wp2;clear a1;generalize W.alloc (.cells #[.int .u8 a.k,.int .i64 a.c,.int .i64 a.sq,.int .i64 a.it,.int .i64 a.sd,.int .i64 a.pr,.int .i64 a.q,.int .i64 a.id] 95)=W1 at *;obtain⟨bG,val,hcl,aP⟩:=Cu (fun W'=>W'.heap[B.V]?=some (.cells (iB B seed S) 114 (0,0))/\W'.heap[W.heap.size]?=some (.cells #[.int .u8 a.k,.int .i64 a.c,.int .i64 a.sq,.int .i64 a.it,.int .i64 a.sd,.int .i64 a.pr,.int .i64 a.q,.int .i64 a.id] 95 (0,0)));have aN:Hid (∀ W',Below W1.heap.size W1 W'->∃ x,val x=W'):=fun W' hb=>aP W' ⟨(H1.out.later hb).blk,dS hb HA.out⟩;obtain⟨x0,hx0⟩:=aN.out W1.drew dG;have hnx:Nonempty bG:=⟨x0⟩;have s0:∀ x,(val x).cell? ⟨B.V,4+n*5,none⟩=some (.bool (S.on n)):=fun x=>by rw[cR _ _ _ _ _ _ (hcl x).1];exact qT B seed S hn (j:=0) (by decide)
 have s1:∀ x,(val x).cell? ⟨B.V,4+n*5+1,none⟩=some (.int .i64 (S.aD n)):=fun x=>by rw[cR _ _ _ _ _ _ (hcl x).1];exact qT B seed S hn (j:=1) (by decide)
 have s2:∀ x,(val x).cell? ⟨B.V,4+n*5+2,none⟩=some (.int .i64 (S.la n)):=fun x=>by rw[cR _ _ _ _ _ _ (hcl x).1];exact qT B seed S hn (j:=2) (by decide)
 have s3:∀ x,(val x).cell? ⟨B.V,34,none⟩=some (.int .i64 S.now):=fun x=>by rw[cR _ _ _ _ _ _ (hcl x).1];rfl
 have e0:∀ x,(val x).cell? ⟨W.heap.size,0,none⟩=some (.int .u8 a.k):=fun x=>by rw[cR _ _ _ _ _ _ (hcl x).2];rfl
 have e1:∀ x,(val x).cell? ⟨W.heap.size,1,none⟩=some (.int .i64 a.c):=fun x=>by rw[cR _ _ _ _ _ _ (hcl x).2];rfl
 have e2:∀ x,(val x).cell? ⟨W.heap.size,2,none⟩=some (.int .i64 a.sq):=fun x=>by rw[cR _ _ _ _ _ _ (hcl x).2];rfl
 have e3:∀ x,(val x).cell? ⟨W.heap.size,3,none⟩=some (.int .i64 a.it):=fun x=>by rw[cR _ _ _ _ _ _ (hcl x).2];rfl
 have e4:∀ x,(val x).cell? ⟨W.heap.size,4,none⟩=some (.int .i64 a.sd):=fun x=>by rw[cR _ _ _ _ _ _ (hcl x).2];rfl
 have e5:∀ x,(val x).cell? ⟨W.heap.size,5,none⟩=some (.int .i64 a.pr):=fun x=>by rw[cR _ _ _ _ _ _ (hcl x).2];rfl
 have e6:∀ x,(val x).cell? ⟨W.heap.size,6,none⟩=some (.int .i64 a.q):=fun x=>by rw[cR _ _ _ _ _ _ (hcl x).2];rfl
 have e7:∀ x,(val x).cell? ⟨W.heap.size,7,none⟩=some (.int .i64 a.id):=fun x=>by rw[cR _ _ _ _ _ _ (hcl x).2];rfl
 obtain⟨w4,hw4⟩:∃ w4,W1.drew=w4:=⟨_,rfl⟩;have dm:Hid (Below W1.heap.size W1 w4):=by rw[<- hw4];exact dG
 clear aP hcl;refine tJ (val:=val) (fun D ai=>ai.heap[D]?=some (.cells #[.bool to,.int .i64 tn,.int .i64 tl] 107 (0,0))/\Below W1.heap.size W1 ai/\W1.heap.size<=D) (.read 0 (.read 1 (.read 2 (.read 3 (.read 4 (.read 5 (.read 6 (.read 7 (.read 8 (.read 9 (.read 10 (.read 11 (.two 12 (.read 13 (.read 14 (.read 15 (.one 16 (.one 17 (.read 18 .done)))))) 16 (.one 12 (.read 13 (.read 14 (.read 15 (.one 17 (.read 18 .done))))))))))))))))))) (by kernel_rfl) (by kernel_rfl) x0 hx0 ?_;apply Exists.intro;refine⟨?_,?_⟩
 case' refine_1 =>
  rw[hx0,hw4]
  iterate 12 (refine cu rfl (fun K hK=>?_);refine⟨by rfl,?_⟩;unfold aA;go_simp;refine hK _ ?_;clear hK K)
  refine⟨?_,?_⟩
  case refine_1 =>
   refine bW rfl (fun K hK=>?_);refine⟨by rfl,?_⟩;unfold aQ;go_simp;refine(HT.out _ dm.out).mono ?_;rintro e wc ⟨rfl,hbc⟩;have ej:Hid (Below W1.heap.size W1 wc):=dm.out.trans (hbc.mono dm.out.size);refine⟨_,rfl,aN.out _ ej.out,hK _ _ ?_⟩;clear hK K hbc
   iterate 3 (refine cu rfl (fun K hK=>?_);refine⟨by rfl,?_⟩;unfold aA;go_simp;refine hK _ ?_;clear hK K)
   refine bW rfl (fun K hK=>?_);refine⟨by rfl,?_⟩;unfold aQ;go_simp;have au:=hDq (hNq wc (.cells #[.bool false,.int .i64 0,.int .i64 0] 107));have cg:Hid (Below W1.heap.size W1 (wc.alloc (.cells #[.bool false,.int .i64 0,.int .i64 0] 107))):=ej.out.alloc ej.out.size _;have er:Hid (W1.heap.size<=wc.heap.size):=ej.out.size;refine⟨aN.out _ cg.out,hK _ _ ?_⟩;clear hK K;generalize wc.alloc (.cells #[.bool false,.int .i64 0,.int .i64 0] 107)=aj at *;generalize wc.heap.size=aI at *;have c0:aj.cell? ⟨aI,0,none⟩=some (.bool false):=by rw[cR _ _ 0 _ _ _ au.out];rfl
   have c1:aj.cell? ⟨aI,1,none⟩=some (.int .i64 0):=by rw[cR _ _ 1 _ _ _ au.out];rfl
   have c2:aj.cell? ⟨aI,2,none⟩=some (.int .i64 0):=by rw[cR _ _ 2 _ _ _ au.out];rfl
   have f0:aj.frozen? ⟨aI,0,none⟩=false:=by simp[World.frozen?,au.out]
   have f1:aj.frozen? ⟨aI,1,none⟩=false:=by simp[World.frozen?,au.out]
   have f2:aj.frozen? ⟨aI,2,none⟩=false:=by simp[World.frozen?,au.out]
   have HX:=hDq (w5 au.out (.bool to) (.int .i64 tn) (.int .i64 tl));have pV:=hDq (w6 cg.out er.out (.bool to) (.int .i64 tn) (.int .i64 tl));refine bW rfl (fun K hK=>?_);refine⟨by rfl,?_⟩;unfold aQ;go_simp;refine⟨aN.out _ pV.out,hK _ _ ?_⟩;clear hK K c0 c1 c2 f0 f1 f2;generalize ((aj.setCell ⟨aI,0,none⟩ (.bool to)).setCell ⟨aI,1,none⟩ (.int .i64 tn)).setCell ⟨aI,2,none⟩ (.int .i64 tl)=wx at *;refine cu rfl (fun K hK=>?_);refine⟨by rfl,?_⟩;unfold aA;go_simp;refine hK _ ?_;clear hK K;refine iT ?_;exact⟨aI,rfl,HX.out,pV.out,er.out⟩
  case refine_2 =>
   refine bW rfl (fun K hK=>?_);refine⟨by rfl,?_⟩;unfold aQ;go_simp;have jH:=hDq (hNq w4 (.cells #[.bool false,.int .i64 0,.int .i64 0] 107));have cO:Hid (Below W1.heap.size W1 (w4.alloc (.cells #[.bool false,.int .i64 0,.int .i64 0] 107))):=dm.out.alloc dm.out.size _;have er:Hid (W1.heap.size<=w4.heap.size):=dm.out.size;refine⟨aN.out _ cO.out,hK _ _ ?_⟩;clear hK K;generalize w4.alloc (.cells #[.bool false,.int .i64 0,.int .i64 0] 107)=ij at *;generalize w4.heap.size=aI at *;refine bW rfl (fun K hK=>?_);refine⟨by rfl,?_⟩;unfold aQ;go_simp;refine(HT.out _ cO.out).mono ?_;rintro e aj ⟨rfl,qW⟩;have au:=hDq (dS qW jH.out);have cg:Hid (Below W1.heap.size W1 aj):=cO.out.trans (qW.mono cO.out.size);refine⟨_,rfl,aN.out _ cg.out,hK _ _ ?_⟩;clear hK K qW jH cO
   iterate 3 (refine cu rfl (fun K hK=>?_);refine⟨by rfl,?_⟩;unfold aA;go_simp;refine hK _ ?_;clear hK K)
   have c0:aj.cell? ⟨aI,0,none⟩=some (.bool false):=by rw[cR _ _ 0 _ _ _ au.out];rfl
   have c1:aj.cell? ⟨aI,1,none⟩=some (.int .i64 0):=by rw[cR _ _ 1 _ _ _ au.out];rfl
   have c2:aj.cell? ⟨aI,2,none⟩=some (.int .i64 0):=by rw[cR _ _ 2 _ _ _ au.out];rfl
   have f0:aj.frozen? ⟨aI,0,none⟩=false:=by simp[World.frozen?,au.out]
   have f1:aj.frozen? ⟨aI,1,none⟩=false:=by simp[World.frozen?,au.out]
   have f2:aj.frozen? ⟨aI,2,none⟩=false:=by simp[World.frozen?,au.out]
   have HX:=hDq (w5 au.out (.bool to) (.int .i64 tn) (.int .i64 tl));have pV:=hDq (w6 cg.out er.out (.bool to) (.int .i64 tn) (.int .i64 tl));refine bW rfl (fun K hK=>?_);refine⟨by rfl,?_⟩;unfold aQ;go_simp;refine⟨aN.out _ pV.out,hK _ _ ?_⟩;clear hK K c0 c1 c2 f0 f1 f2;generalize ((aj.setCell ⟨aI,0,none⟩ (.bool to)).setCell ⟨aI,1,none⟩ (.int .i64 tn)).setCell ⟨aI,2,none⟩ (.int .i64 tl)=wx at *;refine cu rfl (fun K hK=>?_);refine⟨by rfl,?_⟩;unfold aA;go_simp;refine hK _ ?_;clear hK K;refine iT ?_;exact⟨aI,rfl,HX.out,pV.out,er.out⟩
 intro D ai ⟨Ii,hb6,Oy⟩;clear hx0 hw4 s0 s1 s2 s3 e0 e1 e2 e3 e4 e5 e6 e7 aN dm;clear x0 hnx;clear val;clear bG;have aS:=hDq hb6;clear Ii hb6 Oy;go_wp2;go_ret;exact⟨rfl,HB1.out.trans (aS.out.mono HB1.out.size)⟩
theorem HY (n:Nat) (hn:n<6) (a:Ask) (W:World) (H:av w W B X wd h seed S) (hs:bT w ad) :
  Calls Tryz.prog 165 #[.pointer (some ⟨B.V,0,none⟩),.int .i64 n,bM a] W fun e w'=>e=.returned (gq ad (af.takeC S n a))/\av w w' B X wd h seed (af.lA S n a)/\aV W w' B X X:=by
 by_cases hc:a.c=n
 ·have e1:af.takeC S n a=bz.tc (S.on n) (S.aD n) a:=by unfold af.takeC;rw[if_pos hc]
  cases mh:bz.tc (S.on n) (S.aD n) a with
  | zero =>
   rw[mh]at e1;have e2:af.lA S n a=af.taken S n a:=by unfold af.lA;rw[if_pos e1]
   rw[e1,e2];exact akS n hn a hc mh W H hs
  | succ d =>
   rw[mh]at e1;have e2:af.lA S n a=S:=by unfold af.lA;rw[if_neg (by omega)]
   rw[e1,e2];refine(akU n hn a hc d mh W H hs).mono ?_;rintro e w' ⟨rfl,hb⟩;exact⟨rfl,H.later hb,aV.of_below hb B X⟩
 ·have e1:af.takeC S n a=3:=by unfold af.takeC;rw[if_neg hc]
  have e2:af.lA S n a=S:=by unfold af.lA;rw[if_neg (by omega)]
  rw[e1,e2];refine(akR n a hc W H hs).mono ?_;rintro e w' ⟨rfl,hb⟩;exact⟨rfl,H.later hb,aV.of_below hb B X⟩
end
def oC (a:Ask) (cd:Nat):Value:=.agg #[.int .u8 a.k,.int .i64 a.c,.int .i64 a.sq,.int .i64 a.it,.int .i64 a.sd,.int .i64 a.pr,.int .i64 a.q,.int .i64 a.id,.int .i64 cd]
def dU (a:Ask) (cd:Nat):Array Value:=#[.int .u8 a.k,.int .i64 a.c,.int .i64 a.sq,.int .i64 a.it,.int .i64 a.sd,.int .i64 a.pr,.int .i64 a.q,.int .i64 a.id,.int .i64 cd]
def eP:Array Value:=#[.int .i64 0,.string ⟨#[]⟩,.int .i64 0,.int .i64 0,.int .i64 0,.int .i64 0]
section
variable {w W W':World} {ad:Nat->Addr} {B:cJ} {X X':cy} {wd h seed:Int} {S:af.St}
theorem aV.other {k n:Nat} {o:Obj} (hs:aV W W' B X X') (ho:∀ j,eT B X j->j<n) (hk:n<=k) (hb:W.heap[k]?=some o):W'.heap[k]?=some o:=by
 rw[hs.turned.block k (lBq hb) (fun e=>by have:=ho k e;omega)];exact hb
theorem av.beside {q:Nat} {cur:Array Value} {e:TypeId} {fz:Nat×Nat} (H:av w W B X wd h seed S) (hk:W.heap[q]?=some (.cells cur e fz)) (he:e≠114/\e≠213/\e≠267/\e≠276/\e≠197/\e≠232/\e≠95/\e≠117/\e≠5) (NW:e≠210) (hlo:w.heap.size<=q) (hs:aM W W' q):av w W' B X wd h seed S :=
 H.aside (T:=fun k=>k=q) ⟨hs.os,hs.tape,hs.output,hs.size,fun k hk hn=>hs.block k hk hn⟩ (Ne.symm (aF hk H.fl.blk NW)) (fun k hv e=>Hy H hk he (by rw[<- e];exact hv)) (fun k e=>by rw[e];exact hlo)
theorem aV.beside {W1 W2:World} {q:Nat} (hs:aV W W1 B X X') (h:aM W1 W2 q) (hq:W.heap.size<=q):aV W W2 B X X' :=
 ⟨hs.turned.trans (S1:=fun k=>k=q) ⟨h.os,h.tape,h.output,h.size,fun k hk hn=>h.block k hk hn⟩ (fun k e=>.inr (by rw[e];exact hq)),hs.new⟩
def zm (w W W':World) (e:Ending) (B:cJ) (X:cy) (wd h seed:Int) (R:List af.dc) (S':af.St):Prop :=
 ∃ r b,e=.returned (.tuple #[jS r,.bool b])/\R=(if b=true then [r] else [])/\∃ X',av w W' B X' wd h seed S'/\aV W W' B X X'
theorem ajF (n:Nat) (a:Ask) (cd:Nat) (hcd:cd≠0) (W:World) (H:Hid (av w W B X wd h seed S)) :
  Calls Tryz.prog 99 #[.pointer (some ⟨B.V,0,none⟩),.int .i64 n,oC a cd] W fun e w'=>zm w W w' e B X wd h seed [af.fZ n 0 cd] S:=by
 have hc:((cd:Int) != 0)=true:=by simpa using hcd
 have HB:Hid (Below W.heap.size W ((W.alloc (.cells (dU a cd) 186)).alloc (.cells #[.int .i64 n,.string af.nt,.int .i64 0,.int .i64 0,.int .i64 0,.int .i64 cd] 121))):=((bRq _ _).alloc (lRq _) _).alloc (by simp) _;unfold oC;unfold dU af.nt at HB;go_enter Tryz.func99,Tryz.ntmps99;go_wp2;refine bodyPost_ret (v:=.tuple #[jS (af.fZ n 0 cd),.bool true]) (by simp[results,Tryz.results99,go_sem,jS,fI,af.fZ,af.nt]) rfl ⟨_,_,rfl,rfl,X,H.out.later HB.out,aV.of_below HB.out B X⟩
theorem ajG (n:Nat) (hn:n<6) (a:Ask) (d:Nat) (hd:af.takeC S n a=d+1) (ajH:d+1<=12) (W:World) (H:Hid (av w W B X wd h seed S)) (hs:Hid (bT w ad)) :
  Calls Tryz.prog 99 #[.pointer (some ⟨B.V,0,none⟩),.int .i64 n,oC a 0] W fun e w'=>zm w W w' e B X wd h seed [af.fZ n a.id (d+1)] S:=by
 have ar:Hid (Below W.heap.size W (((W.alloc (.cells (dU a 0) 186)).alloc (.cells eP 121)).alloc (.cells (aT a) 95))):=(((bRq _ _).alloc (lRq _) _).alloc (by simp) _).alloc (by simp;omega) _;have HR3:Hid ((((W.alloc (.cells (dU a 0) 186)).alloc (.cells eP 121)).alloc (.cells (aT a) 95)).heap[W.heap.size+1]?=some (.cells eP 121 (0,0))):=by
  have h:=hNq (W.alloc (.cells (dU a 0) 186)) (.cells eP 121);rw[show (W.alloc (.cells (dU a 0) 186)).heap.size=W.heap.size+1 by simp]at h;exact(Below.heap_alloc _ _ _ (by simp)).trans h
 have ji:Hid ((((W.alloc (.cells (dU a 0) 186)).alloc (.cells eP 121)).alloc (.cells (aT a) 95)).heap[W.heap.size+2]?=some (.cells (aT a) 95 (0,0))):=by
  have h:=hNq ((W.alloc (.cells (dU a 0) 186)).alloc (.cells eP 121)) (.cells (aT a) 95);rw[show ((W.alloc (.cells (dU a 0) 186)).alloc (.cells eP 121)).heap.size=W.heap.size+2 by simp]at h;exact h
 have HT:=hDq (HY n hn a _ (H.out.later ar.out) hs.out);rw[hd,show gq ad (d+1)=.iface 412 (.pointer (some (ad d))) from rfl,show af.lA S n a=S by unfold af.lA;rw[if_neg (by omega)]]at HT;have HF:=hDq (fun W' (H':av w W' B X wd h seed S)=>Xr n a.id (d+1) ajH W' (H'.sent hs.out));rw[show gq ad (d+1)=.iface 412 (.pointer (some (ad d))) from rfl]at HF;clear hd;unfold oC;unfold dU eP bM aT at *;go_enter Tryz.func99,Tryz.ntmps99
 go_wp2_with fail
 refine HT.out.mono ?_;rintro e w4 ⟨rfl,h4,bX⟩;have cP:=hDq h4;have cr:=hDq (aV.trans (aV.of_below ar.out B X) bX);have ho:∀ j,eT B X j->j<W.heap.size:=fun j hj=>(H.out.fe hj).2;have bO:=hDq (bX.other ho (by omega) HR3.out);have ei:=hDq (bX.other ho (by omega) ji.out);clear h4 bX HT ar HR3 ji;have a7:w4.cell? ⟨W.heap.size+2,7,none⟩=some (.int .i64 a.id):=by rw[cR _ _ 7 _ _ _ ei.out];rfl
 simp only[]
 go_wp2_with fail
 refine(HF.out w4 cP.out).mono ?_;rintro e aC ⟨rfl,b_⟩;have H5:=hDq (cP.out.later b_);have dR:=hDq (cr.out.below b_);have bL:=hDq (dS b_ bO.out);clear b_ cP cr bO ei a7 HF;have c0:aC.cell? ⟨W.heap.size+1,0,none⟩=some (.int .i64 0):=by rw[cR _ _ 0 _ _ _ bL.out];rfl
 have c1:aC.cell? ⟨W.heap.size+1,1,none⟩=some (.string ⟨#[]⟩):=by rw[cR _ _ 1 _ _ _ bL.out];rfl
 have c2:aC.cell? ⟨W.heap.size+1,2,none⟩=some (.int .i64 0):=by rw[cR _ _ 2 _ _ _ bL.out];rfl
 have c3:aC.cell? ⟨W.heap.size+1,3,none⟩=some (.int .i64 0):=by rw[cR _ _ 3 _ _ _ bL.out];rfl
 have c4:aC.cell? ⟨W.heap.size+1,4,none⟩=some (.int .i64 0):=by rw[cR _ _ 4 _ _ _ bL.out];rfl
 have c5:aC.cell? ⟨W.heap.size+1,5,none⟩=some (.int .i64 0):=by rw[cR _ _ 5 _ _ _ bL.out];rfl
 have fz:∀ j,aC.frozen? ⟨W.heap.size+1,j,none⟩=false:=fun j=>by simp[World.frozen?,bL.out]
 have HX:=hDq (zn bL.out (.int .i64 n) (.string af.nt) (.int .i64 a.id) (.int .i64 0) (.int .i64 0) (.int .i64 ((d:Int)+1)));have cG:=hDq (HZ aC (W.heap.size+1) (.int .i64 n) (.string af.nt) (.int .i64 a.id) (.int .i64 0) (.int .i64 0) (.int .i64 ((d:Int)+1)));unfold jS fI af.fZ af.nt;unfold af.nt at HX cG;simp only[];go_wp2;generalize (((((aC.setCell ⟨W.heap.size+1,0,none⟩ (.int .i64 n)).setCell ⟨W.heap.size+1,1,none⟩ (.string ⟨#[114,101,102,117,115,101,100]⟩)).setCell ⟨W.heap.size+1,2,none⟩ (.int .i64 a.id)).setCell ⟨W.heap.size+1,3,none⟩ (.int .i64 0)).setCell ⟨W.heap.size+1,4,none⟩ (.int .i64 0)).setCell ⟨W.heap.size+1,5,none⟩ (.int .i64 ((d:Int)+1))=ai at *;have R:∀ j,ai.cell? ⟨W.heap.size+1,j,none⟩=_:=fun j=>cR ai _ j _ 121 _ HX.out;have lD:=hDq (H5.out.beside bL.out (by decide) (by decide) (by have:=H.out.cp.size;omega) cG.out);have dv:=hDq (dR.out.beside cG.out (by omega));refine bodyPost_ret (v:=.tuple #[jS (af.fZ n a.id (d+1)),.bool true]) (by simp[results,Tryz.results99,go_sem,R,jS,fI,af.fZ,af.nt]) rfl ⟨_,_,rfl,rfl,X,lD.out,dv.out⟩
theorem ajI (n:Nat) (hn:n<6) (a:Ask) (hd:af.takeC S n a=0) (hk:af.uR a=false) (hq:a.k≠113) (W:World) (H:Hid (av w W B X wd h seed S)) (hs:Hid (bT w ad)) :
  Calls Tryz.prog 99 #[.pointer (some ⟨B.V,0,none⟩),.int .i64 n,oC a 0] W fun e w'=>zm w W w' e B X wd h seed [] (af.taken S n a):=by
 have hk1:(a.k==111)=false:=by unfold af.uR at hk;simp only[Bool.or_eq_false_iff]at hk;exact hk.1
 have hk2:(a.k==99)=false:=by unfold af.uR at hk;simp only[Bool.or_eq_false_iff]at hk;exact hk.2
 have hk3:(a.k==113)=false:=by simpa using hq
 have ar:Hid (Below W.heap.size W (((W.alloc (.cells (dU a 0) 186)).alloc (.cells eP 121)).alloc (.cells (aT a) 95))):=(((bRq _ _).alloc (lRq _) _).alloc (by simp) _).alloc (by simp;omega) _;have HR3:Hid ((((W.alloc (.cells (dU a 0) 186)).alloc (.cells eP 121)).alloc (.cells (aT a) 95)).heap[W.heap.size+1]?=some (.cells eP 121 (0,0))):=by
  have h:=hNq (W.alloc (.cells (dU a 0) 186)) (.cells eP 121);rw[show (W.alloc (.cells (dU a 0) 186)).heap.size=W.heap.size+1 by simp]at h;exact(Below.heap_alloc _ _ _ (by simp)).trans h
 have ji:Hid ((((W.alloc (.cells (dU a 0) 186)).alloc (.cells eP 121)).alloc (.cells (aT a) 95)).heap[W.heap.size+2]?=some (.cells (aT a) 95 (0,0))):=by
  have h:=hNq ((W.alloc (.cells (dU a 0) 186)).alloc (.cells eP 121)) (.cells (aT a) 95);rw[show ((W.alloc (.cells (dU a 0) 186)).alloc (.cells eP 121)).heap.size=W.heap.size+2 by simp]at h;exact h
 have HT:=hDq (HY n hn a _ (H.out.later ar.out) hs.out);rw[hd,show gq ad 0=.nilIface from rfl,show af.lA S n a=af.taken S n a by unfold af.lA;rw[if_pos hd]]at HT;clear hd hk hq;unfold oC;unfold dU eP bM aT at *;go_enter Tryz.func99,Tryz.ntmps99
 go_wp2_with fail
 refine HT.out.mono ?_;rintro e aC ⟨rfl,h5,hs5⟩;have H5:=hDq h5;have dR:=hDq (aV.trans (aV.of_below ar.out B X) hs5);have ho:∀ j,eT B X j->j<W.heap.size:=fun j hj=>(H.out.fe hj).2;have bL:=hDq (hs5.other ho (by omega) HR3.out);have uY:=hDq (hs5.other ho (by omega) ji.out);clear h5 hs5 HT ar HR3 ji;have a0:aC.cell? ⟨W.heap.size+2,0,none⟩=some (.int .u8 a.k):=by rw[cR _ _ 0 _ _ _ uY.out];rfl
 have c0:aC.cell? ⟨W.heap.size+1,0,none⟩=some (.int .i64 0):=by rw[cR _ _ 0 _ _ _ bL.out];rfl
 have c1:aC.cell? ⟨W.heap.size+1,1,none⟩=some (.string ⟨#[]⟩):=by rw[cR _ _ 1 _ _ _ bL.out];rfl
 have c2:aC.cell? ⟨W.heap.size+1,2,none⟩=some (.int .i64 0):=by rw[cR _ _ 2 _ _ _ bL.out];rfl
 have c3:aC.cell? ⟨W.heap.size+1,3,none⟩=some (.int .i64 0):=by rw[cR _ _ 3 _ _ _ bL.out];rfl
 have c4:aC.cell? ⟨W.heap.size+1,4,none⟩=some (.int .i64 0):=by rw[cR _ _ 4 _ _ _ bL.out];rfl
 have c5:aC.cell? ⟨W.heap.size+1,5,none⟩=some (.int .i64 0):=by rw[cR _ _ 5 _ _ _ bL.out];rfl
 have fz:∀ j,aC.frozen? ⟨W.heap.size+1,j,none⟩=false:=fun j=>by simp[World.frozen?,bL.out]
 have HX:=hDq (zn bL.out (.int .i64 0) (.string ⟨#[]⟩) (.int .i64 0) (.int .i64 0) (.int .i64 0) (.int .i64 0));have cG:=hDq (HZ aC (W.heap.size+1) (.int .i64 0) (.string ⟨#[]⟩) (.int .i64 0) (.int .i64 0) (.int .i64 0) (.int .i64 0));simp only[];go_wp2;generalize (((((aC.setCell ⟨W.heap.size+1,0,none⟩ (.int .i64 0)).setCell ⟨W.heap.size+1,1,none⟩ (.string ⟨#[]⟩)).setCell ⟨W.heap.size+1,2,none⟩ (.int .i64 0)).setCell ⟨W.heap.size+1,3,none⟩ (.int .i64 0)).setCell ⟨W.heap.size+1,4,none⟩ (.int .i64 0)).setCell ⟨W.heap.size+1,5,none⟩ (.int .i64 0)=ai at *;have R:∀ j,ai.cell? ⟨W.heap.size+1,j,none⟩=_:=fun j=>cR ai _ j _ 121 _ HX.out;have lD:=hDq (H5.out.beside bL.out (by decide) (by decide) (by have:=H.out.cp.size;omega) cG.out);have dv:=hDq (dR.out.beside cG.out (by omega));refine bodyPost_ret (v:=.tuple #[jS (⟨0,⟨#[]⟩,0,0,0,0⟩),.bool false]) (by simp[results,Tryz.results99,go_sem,R,jS,fI]) rfl ⟨_,_,rfl,rfl,X,lD.out,dv.out⟩
theorem ajJ (n:Nat) (hn:n<6) (a:Ask) (hd:af.takeC S n a=0) (hq:a.k=113) (W:World) (H:Hid (av w W B X wd h seed S)) (hs:Hid (bT w ad)) :
  Calls Tryz.prog 99 #[.pointer (some ⟨B.V,0,none⟩),.int .i64 n,oC a 0] W fun e w'=>zm w W w' e B X wd h seed [] (af.leave (af.taken S n a) n):=by
 have hk1:(a.k==111)=false:=by rw[hq];rfl
 have hk2:(a.k==99)=false:=by rw[hq];rfl
 have hk3:(a.k==113)=true:=by rw[hq];rfl
 have ar:Hid (Below W.heap.size W (((W.alloc (.cells (dU a 0) 186)).alloc (.cells eP 121)).alloc (.cells (aT a) 95))):=(((bRq _ _).alloc (lRq _) _).alloc (by simp) _).alloc (by simp;omega) _;have HR3:Hid ((((W.alloc (.cells (dU a 0) 186)).alloc (.cells eP 121)).alloc (.cells (aT a) 95)).heap[W.heap.size+1]?=some (.cells eP 121 (0,0))):=by
  have h:=hNq (W.alloc (.cells (dU a 0) 186)) (.cells eP 121);rw[show (W.alloc (.cells (dU a 0) 186)).heap.size=W.heap.size+1 by simp]at h;exact(Below.heap_alloc _ _ _ (by simp)).trans h
 have ji:Hid ((((W.alloc (.cells (dU a 0) 186)).alloc (.cells eP 121)).alloc (.cells (aT a) 95)).heap[W.heap.size+2]?=some (.cells (aT a) 95 (0,0))):=by
  have h:=hNq ((W.alloc (.cells (dU a 0) 186)).alloc (.cells eP 121)) (.cells (aT a) 95);rw[show ((W.alloc (.cells (dU a 0) 186)).alloc (.cells eP 121)).heap.size=W.heap.size+2 by simp]at h;exact h
 have HT:=hDq (HY n hn a _ (H.out.later ar.out) hs.out);rw[hd,show gq ad 0=.nilIface from rfl,show af.lA S n a=af.taken S n a by unfold af.lA;rw[if_pos hd]]at HT;clear hd hq;unfold oC;unfold dU eP bM aT at *;go_enter Tryz.func99,Tryz.ntmps99
 go_wp2_with fail
 refine HT.out.mono ?_;rintro e w4 ⟨rfl,h4,bX⟩;have cP:=hDq h4;have cr:=hDq (aV.trans (aV.of_below ar.out B X) bX);have ho:∀ j,eT B X j->j<W.heap.size:=fun j hj=>(H.out.fe hj).2;have bO:=hDq (bX.other ho (by omega) HR3.out);have ei:=hDq (bX.other ho (by omega) ji.out);clear h4 bX HT ar HR3 ji;have a0:w4.cell? ⟨W.heap.size+2,0,none⟩=some (.int .u8 a.k):=by rw[cR _ _ 0 _ _ _ ei.out];rfl
 simp only[]
 go_wp2_with fail
 refine(Xq n hn w4 cP.out).mono ?_;rintro e aC ⟨rfl,qR,h5,hs5⟩;have H5:=hDq h5;have dR:=hDq (cr.out.trans hs5);have bL:=hDq (hs5.block cP.out bO.out (by decide));clear h5 hs5 cP cr bO ei a0;have c0:aC.cell? ⟨W.heap.size+1,0,none⟩=some (.int .i64 0):=by rw[cR _ _ 0 _ _ _ bL.out];rfl
 have c1:aC.cell? ⟨W.heap.size+1,1,none⟩=some (.string ⟨#[]⟩):=by rw[cR _ _ 1 _ _ _ bL.out];rfl
 have c2:aC.cell? ⟨W.heap.size+1,2,none⟩=some (.int .i64 0):=by rw[cR _ _ 2 _ _ _ bL.out];rfl
 have c3:aC.cell? ⟨W.heap.size+1,3,none⟩=some (.int .i64 0):=by rw[cR _ _ 3 _ _ _ bL.out];rfl
 have c4:aC.cell? ⟨W.heap.size+1,4,none⟩=some (.int .i64 0):=by rw[cR _ _ 4 _ _ _ bL.out];rfl
 have c5:aC.cell? ⟨W.heap.size+1,5,none⟩=some (.int .i64 0):=by rw[cR _ _ 5 _ _ _ bL.out];rfl
 have fz:∀ j,aC.frozen? ⟨W.heap.size+1,j,none⟩=false:=fun j=>by simp[World.frozen?,bL.out]
 have HX:=hDq (zn bL.out (.int .i64 0) (.string ⟨#[]⟩) (.int .i64 0) (.int .i64 0) (.int .i64 0) (.int .i64 0));have cG:=hDq (HZ aC (W.heap.size+1) (.int .i64 0) (.string ⟨#[]⟩) (.int .i64 0) (.int .i64 0) (.int .i64 0) (.int .i64 0));simp only[];go_wp2;generalize (((((aC.setCell ⟨W.heap.size+1,0,none⟩ (.int .i64 0)).setCell ⟨W.heap.size+1,1,none⟩ (.string ⟨#[]⟩)).setCell ⟨W.heap.size+1,2,none⟩ (.int .i64 0)).setCell ⟨W.heap.size+1,3,none⟩ (.int .i64 0)).setCell ⟨W.heap.size+1,4,none⟩ (.int .i64 0)).setCell ⟨W.heap.size+1,5,none⟩ (.int .i64 0)=ai at *;have R:∀ j,ai.cell? ⟨W.heap.size+1,j,none⟩=_:=fun j=>cR ai _ j _ 121 _ HX.out;have lD:=hDq (H5.out.beside bL.out (by decide) (by decide) (by have:=H.out.cp.size;omega) cG.out);have dv:=hDq (dR.out.beside cG.out (by omega));refine bodyPost_ret (v:=.tuple #[jS (⟨0,⟨#[]⟩,0,0,0,0⟩),.bool false]) (by simp[results,Tryz.results99,go_sem,R,jS,fI]) rfl ⟨_,_,rfl,rfl,qR,lD.out,dv.out⟩
theorem ajK (n:Nat) (hn:n<6) (a:Ask) (hd:af.takeC S n a=0) (hk:af.uR a=true) (W:World) (H:Hid (av w W B X wd h seed S)) (hs:Hid (bT w ad)) :
  Calls Tryz.prog 99 #[.pointer (some ⟨B.V,0,none⟩),.int .i64 n,oC a 0] W fun e w'=>zm w W w' e B X wd h seed [⟨n,af.xg S a,a.id,0,0,0⟩] { af.taken S n a with Q:=ay.jK S.Q a }:=by
 have hk1:a.k=111\/a.k=99:=by unfold af.uR at hk;simpa using hk
 have ar:Hid (Below W.heap.size W (((W.alloc (.cells (dU a 0) 186)).alloc (.cells eP 121)).alloc (.cells (aT a) 95))):=(((bRq _ _).alloc (lRq _) _).alloc (by simp) _).alloc (by simp;omega) _;have HR3:Hid ((((W.alloc (.cells (dU a 0) 186)).alloc (.cells eP 121)).alloc (.cells (aT a) 95)).heap[W.heap.size+1]?=some (.cells eP 121 (0,0))):=by
  have h:=hNq (W.alloc (.cells (dU a 0) 186)) (.cells eP 121);rw[show (W.alloc (.cells (dU a 0) 186)).heap.size=W.heap.size+1 by simp]at h;exact(Below.heap_alloc _ _ _ (by simp)).trans h
 have ji:Hid ((((W.alloc (.cells (dU a 0) 186)).alloc (.cells eP 121)).alloc (.cells (aT a) 95)).heap[W.heap.size+2]?=some (.cells (aT a) 95 (0,0))):=by
  have h:=hNq ((W.alloc (.cells (dU a 0) 186)).alloc (.cells eP 121)) (.cells (aT a) 95);rw[show ((W.alloc (.cells (dU a 0) 186)).alloc (.cells eP 121)).heap.size=W.heap.size+2 by simp]at h;exact h
 have HT:=hDq (HY n hn a _ (H.out.later ar.out) hs.out);rw[hd,show gq ad 0=.nilIface from rfl,show af.lA S n a=af.taken S n a by unfold af.lA;rw[if_pos hd]]at HT;have HQ:Hid (∀ W',av w W' B X wd h seed (af.taken S n a)->Calls Tryz.prog 167 #[.pointer (some ⟨B.V,0,none⟩),bM a] W' fun e w'=>e=.returned (.string (af.xg S a))/\∃ X',av w w' B X' wd h seed { af.taken S n a with Q:=ay.jK S.Q a }/\aV W' w' B X X'):=fun W' H'=>ajL a W' H' hs;generalize af.xg S a=pk at *;generalize ({ af.taken S n a with Q:=ay.jK S.Q a }:af.St)=S5 at *;clear hd hk;unfold oC;unfold dU eP bM aT at *;go_enter Tryz.func99,Tryz.ntmps99
 go_wp2_with fail
 refine HT.out.mono ?_;rintro e w4 ⟨rfl,h4,bX⟩;have cP:=hDq h4;have cr:=hDq (aV.trans (aV.of_below ar.out B X) bX);have ho:∀ j,eT B X j->j<W.heap.size:=fun j hj=>(H.out.fe hj).2;have bO:=hDq (bX.other ho (by omega) HR3.out);have ei:=hDq (bX.other ho (by omega) ji.out);clear h4 bX HT ar HR3 ji;have a0:w4.cell? ⟨W.heap.size+2,0,none⟩=some (.int .u8 a.k):=by rw[cR _ _ 0 _ _ _ ei.out];rfl
 simp only[];have dK:(a.k==111)=true\/(a.k==111)=false/\(a.k==99)=true:=by
  rcases hk1 with e | e
  ·exact .inl (by rw[e];rfl)
  ·exact .inr ⟨by rw[e];rfl,by rw[e];rfl⟩
 clear hk1;rcases dK with hk1 | ⟨hk1,hk2⟩
 all_goals
  go_wp2;obtain⟨bG,val,hcl,aP⟩:=Cu (fun W'=>W'.heap[W.heap.size+2]?=some (.cells #[.int .u8 a.k,.int .i64 a.c,.int .i64 a.sq,.int .i64 a.it,.int .i64 a.sd,.int .i64 a.pr,.int .i64 a.q,.int .i64 a.id] 95 (0,0)));obtain⟨x0,hx0⟩:=aP w4.drew ei.out;have hnx:Nonempty bG:=⟨x0⟩;have aN:=hDq aP;have e0:∀ x,(val x).cell? ⟨W.heap.size+2,0,none⟩=some (.int .u8 a.k):=fun x=>by rw[cR _ _ _ _ _ _ (hcl x)];rfl
  have e1:∀ x,(val x).cell? ⟨W.heap.size+2,1,none⟩=some (.int .i64 a.c):=fun x=>by rw[cR _ _ _ _ _ _ (hcl x)];rfl
  have e2:∀ x,(val x).cell? ⟨W.heap.size+2,2,none⟩=some (.int .i64 a.sq):=fun x=>by rw[cR _ _ _ _ _ _ (hcl x)];rfl
  have e3:∀ x,(val x).cell? ⟨W.heap.size+2,3,none⟩=some (.int .i64 a.it):=fun x=>by rw[cR _ _ _ _ _ _ (hcl x)];rfl
  have e4:∀ x,(val x).cell? ⟨W.heap.size+2,4,none⟩=some (.int .i64 a.sd):=fun x=>by rw[cR _ _ _ _ _ _ (hcl x)];rfl
  have e5:∀ x,(val x).cell? ⟨W.heap.size+2,5,none⟩=some (.int .i64 a.pr):=fun x=>by rw[cR _ _ _ _ _ _ (hcl x)];rfl
  have e6:∀ x,(val x).cell? ⟨W.heap.size+2,6,none⟩=some (.int .i64 a.q):=fun x=>by rw[cR _ _ _ _ _ _ (hcl x)];rfl
  have e7:∀ x,(val x).cell? ⟨W.heap.size+2,7,none⟩=some (.int .i64 a.id):=fun x=>by rw[cR _ _ _ _ _ _ (hcl x)];rfl
  obtain⟨N1,hw4⟩:∃ N1,w4.drew=N1:=⟨_,rfl⟩;have dm:Hid (Below w4.heap.size w4 N1):=by rw[<- hw4];exact dG
  clear aP hcl a0;refine sr (val:=val) [3,7] [0,1,2,4,5,3,6,7,8] (by kernel_rfl) (by kernel_rfl) x0 hx0 ?_;rw[hx0,hw4];clear hx0 hw4
  iterate 5 (refine ko rfl rfl (fun K hK=>?_);refine⟨by rfl,?_⟩;unfold aA;go_simp;refine hK _ ?_;clear hK K)
  refine kP rfl rfl (fun K hK=>?_);refine⟨by rfl,?_⟩;unfold aQ;go_simp;refine(HQ.out _ (cP.out.later dm.out)).mono ?_;rintro e aC ⟨rfl,qR,h5,hs5⟩;have H5:=hDq h5;have dR:=hDq ((cr.out.below dm.out).trans hs5);have bL:=hDq (hs5.block (cP.out.later dm.out) (dS dm.out bO.out) (by decide));have uY:=hDq (hs5.other ho (by omega) (dS dm.out ei.out));refine⟨_,rfl,aN.out _ uY.out,hK _ _ ?_⟩;clear hK K h5 hs5 cP cr bO ei HQ dm;have c0:aC.cell? ⟨W.heap.size+1,0,none⟩=some (.int .i64 0):=by rw[cR _ _ 0 _ _ _ bL.out];rfl
  have c1:aC.cell? ⟨W.heap.size+1,1,none⟩=some (.string ⟨#[]⟩):=by rw[cR _ _ 1 _ _ _ bL.out];rfl
  have c2:aC.cell? ⟨W.heap.size+1,2,none⟩=some (.int .i64 0):=by rw[cR _ _ 2 _ _ _ bL.out];rfl
  have c3:aC.cell? ⟨W.heap.size+1,3,none⟩=some (.int .i64 0):=by rw[cR _ _ 3 _ _ _ bL.out];rfl
  have c4:aC.cell? ⟨W.heap.size+1,4,none⟩=some (.int .i64 0):=by rw[cR _ _ 4 _ _ _ bL.out];rfl
  have c5:aC.cell? ⟨W.heap.size+1,5,none⟩=some (.int .i64 0):=by rw[cR _ _ 5 _ _ _ bL.out];rfl
  have fz:∀ j,aC.frozen? ⟨W.heap.size+1,j,none⟩=false:=fun j=>by simp[World.frozen?,bL.out]
  have HX:=hDq (zn bL.out (.int .i64 n) (.string pk) (.int .i64 a.id) (.int .i64 0) (.int .i64 0) (.int .i64 0));have cG:=hDq (HZ aC (W.heap.size+1) (.int .i64 n) (.string pk) (.int .i64 a.id) (.int .i64 0) (.int .i64 0) (.int .i64 0));have gL:=hDq ((cG.out.block (W.heap.size+2) (lBq uY.out) (by omega)).trans uY.out);refine ko rfl rfl (fun K hK=>?_);refine⟨by rfl,?_⟩;unfold aA;go_simp;refine hK _ ?_;clear hK K;refine kP rfl rfl (fun K hK=>?_);refine⟨by rfl,?_⟩;unfold aQ;go_simp;refine⟨aN.out _ gL.out,hK _ _ ?_⟩;clear hK K c0 c1 c2 c3 c4 c5 fz;generalize (((((aC.setCell ⟨W.heap.size+1,0,none⟩ (.int .i64 n)).setCell ⟨W.heap.size+1,1,none⟩ (.string pk)).setCell ⟨W.heap.size+1,2,none⟩ (.int .i64 a.id)).setCell ⟨W.heap.size+1,3,none⟩ (.int .i64 0)).setCell ⟨W.heap.size+1,4,none⟩ (.int .i64 0)).setCell ⟨W.heap.size+1,5,none⟩ (.int .i64 0)=ai at *;refine ko rfl rfl (fun K hK=>?_);refine⟨by rfl,?_⟩;unfold aA;go_simp;refine hK _ ?_;clear hK K;refine qA ?_;go_wp2;have R:∀ j,ai.cell? ⟨W.heap.size+1,j,none⟩=_:=fun j=>cR ai _ j _ 121 _ HX.out;have lD:=hDq (H5.out.beside bL.out (by decide) (by decide) (by have:=H.out.cp.size;omega) cG.out);have dv:=hDq (dR.out.beside cG.out (by omega));refine bodyPost_ret (v:=.tuple #[jS ⟨n,pk,a.id,0,0,0⟩,.bool true]) (by simp[results,Tryz.results99,go_sem,R,jS,fI]) rfl ⟨_,_,rfl,rfl,qR,lD.out,dv.out⟩
theorem ajx (n:Nat) (hn:n<6) (f:ByteArray) (W:World) (H:av w W B X wd h seed S) (hs:bT w ad) :
  Calls Tryz.prog 99 #[.pointer (some ⟨B.V,0,none⟩),.int .i64 n,oC (af.cB f) (d6 f)] W fun e w'=>zm w W w' e B X wd h seed (af.xh S n f) (af.kT S n f):=by
 unfold af.xh af.kT;by_cases hc:d6 f=0
 ·rw[if_pos hc,if_pos hc,hc]
  generalize af.cB f=a;cases hd:af.takeC S n a with
  | zero =>
   rw[if_pos rfl,if_pos rfl];cases hk:af.uR a with
   | true=>exact ajK n hn a hd hk W H hs
   | false =>
    rw[if_neg (by decide),if_neg (by decide)];by_cases hq:a.k=113
    ·rw[if_pos hq];exact ajJ n hn a hd hq W H hs
    ·rw[if_neg hq];exact ajI n hn a hd hk hq W H hs
  | succ d =>
   rw[if_neg (by omega),if_neg (by omega)];refine ajG n hn a d hd ?_ W H hs;rw[<- hd];unfold af.takeC;split
   ·exact bz.ail _ _ _
   ·decide
 ·rw[if_neg hc,if_neg hc]
  exact ajF n _ _ hc W H
end
def nx (r:af.dc):List Value:=[.int .i64 r.c,.string r.k,.int .i64 r.id,.int .i64 r.pr,.int .i64 r.q,.int .i64 r.cd]
def ia (l:List af.dc):List Value:=l.flatMap nx
theorem Xh:∀ l:List af.dc,(ia l).length=l.length*6
 | []=>rfl
 | x::l=>by
  have:=Xh l
  simp only[ia,List.flatMap_cons,List.length_append,List.length_cons]at this ⊢;rw[this];show 6+_=_;omega
theorem NT (a b:List af.dc):ia (a++b)=ia a++ia b:=by simp[ia]
theorem NU (r:af.dc):∀ u∈nx r,u.oneCell'=true:=by
 intro u hu;simp only[nx,List.mem_cons,List.not_mem_nil,or_false]at hu;rcases hu with rfl | rfl | rfl | rfl | rfl | rfl <;> rfl
def gD (w:World) (base:Nat) (v:Value) (l:List af.dc):Prop:=w.ownsRow base 121 6 v l.length (ia l)
theorem NV:∃ i z,Tryz.prog.info? 121=some i/\i.zero=some z/\i.size=6/\i.bytes=56/\z.cells.size=6:=⟨_,_,rfl,rfl,rfl,rfl,rfl⟩
theorem ajr (w:World) (r:af.dc) (ty:TypeId) (fz:Nat×Nat) (hf:fz=(0,0)):∀ j u,(nx r)[j]?=some u->(w.alloc (.cells (fI r) ty fz)).cell? ((⟨w.heap.size,0,none⟩:Addr).add j)=some u:=by
 subst hf;intro j u hj;have hp:(⟨w.heap.size,0,none⟩:Addr).add j=⟨w.heap.size,j,none⟩:=by unfold Addr.add;split <;> simp_all
 rw[hp,cR _ _ j _ ty _ (hNq w _)];simpa [fI,nx] using hj
theorem ajs (f:ByteArray):oZ f=[.int .u8 (af.cB f).k,.int .i64 (af.cB f).c,.int .i64 (af.cB f).sq,.int .i64 (af.cB f).it,.int .i64 (af.cB f).sd,.int .i64 (af.cB f).pr,.int .i64 (af.cB f).q,.int .i64 (af.cB f).id,.int .i64 (d6 f)]:=rfl
theorem qf.form {w:World} {base:Nat} {v:Value} {t:ByteArray} {n:Nat} (h:qf w base v t n):∃ a cap,v=.slice a n cap/\(0<n->∃ g,a=some ⟨g,0,none⟩):=by
 rcases h.2 with ⟨rfl,rfl⟩ | ⟨g,cap,cur,rfl,_⟩
 ·exact⟨none,0,rfl,fun h=>absurd h (Nat.lt_irrefl 0)⟩
 ·exact⟨_,_,rfl,fun _=>⟨g,rfl⟩⟩
section
variable {w W W':World} {ad:Nat->Addr} {B:cJ} {X X':cy} {wd h seed:Int} {S:af.St}
theorem ep {base:Nat} {e:TypeId} {sz n:Nat} {v:Value} {xs:List Value} (hr:W.ownsRow base e sz v n xs) {k:Nat} (hk:v.ownBlock=some k):base<=k/\∃ cur,W.heap[k]?=some (.cells cur e (0,0)):=by
 rcases hr.2 with ⟨e1,_⟩ | ⟨r,cap,cur,e1,hb,hr2,_⟩
 ·rw[e1]at hk;cases hk
 ·rw[e1]at hk
  have:r=k:=by simpa [Value.ownBlock] using hk
  subst this;exact⟨hb,cur,hr2⟩
theorem av.grown {base:Nat} {e:TypeId} {sz n:Nat} {v:Value} {xs:List Value} (H:av w W B X wd h seed S) (hr:W.ownsRow base e sz v n xs) (he:e≠114/\e≠213/\e≠267/\e≠276/\e≠197/\e≠232/\e≠95/\e≠117/\e≠5) (NW:e≠210) (hb:w.heap.size<=base) (hg:W.grownBy W' v.ownBlock):av w W' B X wd h seed S :=
 H.aside (aJ.jv hg) (fun e1=>by
  obtain⟨_,cur,h2⟩:=ep hr e1.symm;exact aF h2 H.fl.blk NW rfl) (fun k hv e1=>by
  obtain⟨_,cur,h2⟩:=ep hr e1.symm;exact Hy H h2 he hv) (fun _ e1=>lTq hb (ep hr e1.symm).1)
theorem aV.grown {W1 W2:World} {base:Nat} {e:TypeId} {sz n:Nat} {v:Value} {xs:List Value} (hs:aV W W1 B X X') (hr:W1.ownsRow base e sz v n xs) (hb:W.heap.size<=base) (hg:W1.grownBy W2 v.ownBlock):aV W W2 B X X' :=
 ⟨hs.turned.trans (aJ.jv hg) (fun _ e1=>.inr (lTq hb (ep hr e1.symm).1)),hs.new⟩
theorem NY {base b2:Nat} {e e2:TypeId} {sz s2 n n2:Nat} {v v2:Value} {xs x2:List Value} (hr:W.ownsRow base e sz v n xs) (hr2:W.ownsRow b2 e2 s2 v2 n2 x2) (hne:e≠e2) (hg:W.grownBy W' v.ownBlock):W'.ownsRow b2 e2 s2 v2 n2 x2 :=
 fR hr2 (aJ.jv hg) (fun k hk e1=>by
  obtain⟨_,cur,h1⟩:=ep hr e1.symm;obtain⟨_,kN,h2⟩:=ep hr2 hk;exact aF h1 h2 hne rfl)
theorem ajt (S:af.St) (n:Nat) (f:ByteArray):(af.xh S n f).length<=1:=by
 unfold af.xh
 repeat' split
 all_goals simp
theorem Xi (S:af.St) (n:Nat) (b:ByteArray):∀ k,(af.qP S n b k).length<=k
 | 0=>by simp[af.qP]
 | k+1=>by
  have:=Xi S n b k
  have:=ajt (af.gP S n b k) n (fr b k)
  simp only[af.qP,List.length_append];omega
def Xj (w W W':World) (e:Ending) (B:cJ) (X:cy) (wd h seed:Int) (R:List af.dc) (S':af.St):Prop :=
 ∃ v X',e=.returned v/\gD W' W.heap.size v R/\av w W' B X' wd h seed S'/\aV W W' B X X'
theorem aju (n:Int) (s:ByteArray) (W:World) (H:av w W B X wd h seed S) (hd:S.down=true\/ah.aB n 0 5=false) :
  Calls Tryz.prog 56 #[.pointer (some ⟨B.V,0,none⟩),.int .i64 n,.string s] W fun e w'=>e=.returned (.slice none 0 0)/\w'=W:=by
 have c:W.cell? ⟨B.V,36,none⟩=some (.bool S.down):=H.at 36;have HC:=hDq (xH n W);clear H;cases uW:S.down with
 | true =>
  rw[uW]at c;go_enter Tryz.func56,Tryz.ntmps56;go_wp2;go_ret;exact⟨rfl,rfl⟩
 | false =>
  have hw:ah.aB n 0 5=false:=by
   rcases hd with e | e
   ·rw[uW]at e;cases e
   ·exact e
  rw[uW]at c;rw[hw]at HC;clear hd hw uW;go_enter Tryz.func56,Tryz.ntmps56
  go_wp2_with fail
  refine HC.out.mono ?_;rintro e w2 ⟨rfl,rfl⟩;simp only[];go_wp2;go_ret;exact⟨rfl,rfl⟩
theorem ajv (n:Nat) (hn:n<6) (s:ByteArray) (W:World) (H:Hid (av w W B X wd h seed S)) (hd:S.down=false) (hs:Hid (bT w ad)) (hsz:(S.aO n++s).size<=100000) :
  Calls Tryz.prog 56 #[.pointer (some ⟨B.V,0,none⟩),.int .i64 n,.string s] W fun e w'=>Xj w W w' e B X wd h seed (af.zl S n s) (af.iN S n s):=by
 have hcl:ah.aB (n:Int) 0 5=true:=by simp[ah.aB];omega
 have hno:¬ (S.down=true\/ah.aB (n:Int) 0 5=false):=by rw[hd,hcl];simp
 have Xk:af.zl S n s=af.qP (af.gQ S n (S.aO n++s)) n (S.aO n++s) ((S.aO n++s).size/30):=by unfold af.zl;rw[if_neg hno];rfl
 have eS:af.iN S n s=af.gP (af.gQ S n (S.aO n++s)) n (S.aO n++s) ((S.aO n++s).size/30):=by unfold af.iN;rw[if_neg hno];rfl
 rw[Xk,eS];clear Xk eS hno;have Hz:W.cell? ⟨B.V,36,none⟩=some (.bool false):=by rw[<- hd];exact H.out.at 36
 have HC:=hDq (xH n W);rw[hcl]at HC;have Xl:(n:Int)<6:=by omega
 have HF:=hDq (adl B.V (4+n*5+3) (S.aO n) s ad W (H.out.sent hs.out) (H.out.conn hn (j:=3) (by decide)) (H.out.free _) hsz);obtain⟨b,hb⟩:∃ b,S.aO n++s=b:=⟨_,rfl⟩;rw[hb]at HF hsz ⊢;have dr:=hDq hb;clear hb hcl;obtain⟨m,hm⟩:∃ m,b.size/30=m:=⟨_,rfl⟩;rw[hm]at HF ⊢;have Vx:m<=100000:=by omega
 have HM:=hDq hm;clear hm;go_enter Tryz.func56,Tryz.ntmps56
 go_wp2_with fail
 refine HC.out.mono ?_;rintro e w2 ⟨rfl,rfl⟩;simp only[]
 go_wp2_with fail
 refine HF.out.mono ?_;rintro e w3 ⟨v1,w1,rfl,hg,hb1,hw3⟩;obtain⟨hv3,hs3⟩:=(H.out.later hb1).set (S':=af.gQ S n b) hn (j:=3) (by decide) (.string (b.extract (30*m) b.size)) (fun c' j' _ iE=>by
  have e:af.zk b=b.extract (30*m) b.size:=by unfold af.zk;rw[HM.out]
  rw[<- e];exact Xm S (af.gQ S n b) n (af.zk b) rfl rfl rfl rfl rfl c' j' iE) rfl rfl rfl ⟨rfl,rfl,rfl,rfl,rfl,rfl,rfl,rfl⟩
 have hg3:qf w3 w2.heap.size v1 b m:=by rw[hw3];exact hs3.row (H.out.later hb1) hg (by decide)
 rw[<- hw3]at hv3 hs3;have H3:=hDq hv3;have cQ:=hDq ((aV.of_below hb1 B X).trans hs3);have JK:=hDq hg3;obtain⟨a1,sG,hv1,ha1⟩:=qf.form hg3;have HA1:=hDq ha1;subst hv1;clear hv3 hs3 hg3 hw3 hb1 hg HF HC ha1;clear w1;obtain⟨i50,z50,hi,hz0,hz1,hz2,hz3⟩:=NV;have Hi:=hDq hi;have ew:=hDq hz0;have ez:=hDq hz1;have eA:=hDq hz2;have kB:=hDq hz3;clear hi hz0 hz1 hz2 hz3;simp only[]
 go_wp2_with fail
 go_loopw [7,30] (fun v kv wr=>∃ k X',k<=m/\kv=.int .i64 k/\gD wr w2.heap.size v (af.qP (af.gQ S n b) n b k)/\av w wr B X' wd h seed (af.gP (af.gQ S n b) n b k)/\aV w2 wr B X X'/\qf wr w2.heap.size (.slice a1 m sG) b m) (fun _ kv _=>m-(intOf kv).toNat)
 case atStart=>exact⟨0,X,by omega,rfl,World.ownsRow_nil _ _ _ _,H3.out,cQ.out,JK.out⟩
 case round =>
  obtain⟨k,X',hk,rfl,hr,hv,hst,hg⟩:=hrel;have HR:=hDq hr;have cF:=hDq hv;have HST:=hDq hst;have HG:=hDq hg;clear hr hv hst;by_cases hlt:k<m
  ·have aX:(k:Int)<m:=by omega
   obtain⟨g,rfl⟩:=HA1.out (by omega);have key:∀ j,j<9->∀ u,(oZ (fr b k))[j]?=some u->wr.cell? ⟨g,k*9+j,none⟩=some u:=by
    intro j hj u hu
    have:=World.ownsRow.cells hg (g:=g) rfl (k*9+j) u (by rw[Nat.mul_comm k 9,WC b m k j hlt hj];exact hu)
    have hp:(⟨g,0,none⟩:Addr).add (k*9+j)=⟨g,k*9+j,none⟩:=by unfold Addr.add;split <;> simp_all
    rwa [hp]at this
   rw[ajs]at key;have p0:=key 0 (by decide) _ rfl;have p1:=key 1 (by decide) _ rfl;have p2:=key 2 (by decide) _ rfl;have p3:=key 3 (by decide) _ rfl;have p4:=key 4 (by decide) _ rfl;have F7:=key 5 (by decide) _ rfl;have F8:=key 6 (by decide) _ rfl;have F9:=key 7 (by decide) _ rfl;have ajw:=key 8 (by decide) _ rfl;have jo:g<wr.heap.size:=bCq _ _ p0;simp only[Nat.add_zero]at p0;clear key hg;have HH:=hDq (fun W' (H':av w W' B X' wd h seed (af.gP (af.gQ S n b) n b k))=>ajx n hn (fr b k) W' H' hs.out);have HN:Hid (af.qP (af.gQ S n b) n b (k+1)=af.qP (af.gQ S n b) n b k++af.xh (af.gP (af.gQ S n b) n b k) n (fr b k)/\af.gP (af.gQ S n b) n b (k+1)=af.kT (af.gP (af.gQ S n b) n b k) n (fr b k)):=⟨rfl,rfl⟩;have hlen:=Xi (af.gQ S n b) n b k;generalize af.xh (af.gP (af.gQ S n b) n b k) n (fr b k)=hR at *;generalize af.kT (af.gP (af.gQ S n b) n b k) n (fr b k)=hS at *;generalize af.qP (af.gQ S n b) n b k=NZ at *;generalize af.gP (af.gQ S n b) n b k=ao1 at *;generalize af.cB (fr b k)=a at *;generalize d6 (fr b k)=cd at *;have bQ:Hid (Below wr.heap.size wr (wr.alloc (.cells (dU a cd) 186))):=(bRq _ _).alloc (lRq _) _;unfold oC at HH;unfold dU at bQ
   go_wp2_with fail
   refine(HH.out _ (cF.out.later bQ.out)).mono ?_;rintro e aC ⟨r,bb,rfl,hRe,qR,h5,hs5⟩;have H5:=hDq h5;have dR:=hDq (HST.out.trans ((aV.of_below bQ.out B X').trans hs5));have bL:=hDq (hs5.row (cF.out.later bQ.out) (dy HR.out bQ.out) (by decide));have BV:=hDq (hs5.row (cF.out.later bQ.out) (dy HG.out bQ.out) (by decide));have qq:=hDq hRe;clear h5 hs5 HH bQ cF HR HST hRe p0 p1 p2 p3 p4 F7 F8 F9 ajw;have aS:Hid (Below aC.heap.size aC (aC.alloc (.cells (fI r) 121))):=(bRq _ _).alloc (lRq _) _;have ao2:Hid (fI r=#[.int .i64 r.c,.string r.k,.int .i64 r.id,.int .i64 r.pr,.int .i64 r.q,.int .i64 r.cd]):=rfl;have hwz:w2.heap.size<=aC.heap.size:=dR.out.turned.size;unfold fI at aS;unfold jS fI;cases bb with
   | false =>
    have e:hR=[]:=qq.out;rw[e,aNq]at HN;simp only[];go_wp2;refine⟨⟨k+1,qR,hlt,by go_num,?_,?_,dR.out.below aS.out,dy BV.out aS.out⟩,by simp[intOf];omega⟩
    ·rw[HN.out.1];exact dy bL.out aS.out
    ·rw[HN.out.2];exact H5.out.later aS.out
   | true =>
    have e:hR=[r]:=qq.out;rw[e]at HN;simp only[]
    go_wp2_with (at_builtin;refine wpList_append_own _ rfl _ _ 55 rfl w2.heap.size 121 i50 z50 6 56 Tryz.underlying55 Hi.out ew.out ez.out eA.out kB.out (by decide) _ _ _ rfl (World.ownsRow.alloc (World.ownsRow.alloc bL.out _) _) ⟨aC.heap.size+1,0,none⟩ 1 1 (nx r) rfl rfl ?c1 ?c2 ?c3 ?c4 ?c5 ?_)
    case c1 =>
     intro j u hj;exact hj
    case c2=>exact NU r
    case c3=>unfold maxLen;omega
    case c4=>omega
    case c5=>first | omega | (simp;omega)
    intro v6 ai hown' hgrow _;have jC:Hid (Below aC.heap.size aC ((aC.alloc (.cells (fI r) 121)).alloc (.cells (fI r) 121))):=((bRq _ _).alloc (lRq _) _).alloc (by simp) _;have HV:=dy bL.out jC.out;have ajy:=hDq ((H5.out.later jC.out).grown HV (by decide) (by decide) H.out.cp.size hgrow);have tV:=hDq ((dR.out.below jC.out).grown HV (lRq _) hgrow);have ajz:=hDq (NY HV (dy BV.out jC.out) (by decide) hgrow);have tE:Hid (gD ai w2.heap.size v6 (NZ++[r])):=by
     show ai.ownsRow w2.heap.size 121 6 v6 (NZ++[r]).length (ia (NZ++[r]));rw[NT,lAq];simpa [ia] using hown'
    clear hown' hgrow HV;go_wp2;refine⟨⟨k+1,qR,hlt,by go_num,?_,?_,tV.out,ajz.out⟩,by simp[intOf];omega⟩
    ·rw[HN.out.1];exact tE.out
    ·rw[HN.out.2];exact ajy.out
  ·have aX:¬ (k:Int)<m:=by omega
   obtain rfl:k=m:=by omega
   go_wp2;go_ret;exact⟨_,X',rfl,HR.out,cF.out,HST.out⟩
theorem ajA (n:Int) (s:ByteArray) (W:World) (H:av w W B X wd h seed S) (hs:bT w ad) (hsz:∀ c,c<6->(S.aO c++s).size<=100000) :
  Calls Tryz.prog 56 #[.pointer (some ⟨B.V,0,none⟩),.int .i64 n,.string s] W fun e w'=>Xj w W w' e B X wd h seed (af.zl S n s) (af.iN S n s):=by
 by_cases hd:S.down=true\/ah.aB n 0 5=false
 ·have e1:af.zl S n s=[]:=by unfold af.zl;rw[if_pos hd]
  have e2:af.iN S n s=S:=by unfold af.iN;rw[if_pos hd]
  rw[e1,e2];refine(aju n s W H hd).mono ?_;rintro e w' ⟨rfl,rfl⟩;exact⟨_,X,rfl,World.ownsRow_nil _ _ _ _,H,aV.refl _ _ _⟩
 ·have uW:S.down=false:=by cases h1:S.down with
   | true=>exact absurd (.inl h1) hd
   | false=>rfl
  have hw:ah.aB n 0 5=true:=by cases h1:ah.aB n 0 5 with
   | false=>exact absurd (.inr h1) hd
   | true=>rfl
  obtain⟨c,rfl⟩:∃ c:Nat,n=c:=⟨n.toNat,by simp[ah.aB]at hw;omega⟩;have hc:c<6:=by simp[ah.aB]at hw;omega
  exact ajv c hc s W H uW hs (hsz c hc)
end
def nk (B:cJ) (X:cy) (k:Nat):Prop:=k=B.P\/∃ i,i<3/\(k=B.I i\/k=B.b i\/(X.v i).ownBlock=some k)
structure ck (W W':World) (b0:Nat) (B:cJ) (X X':cy):Prop where
 turned:aJ W W' (fun k=>nk B X k\/b0<=k)
 new:∀ k,nk B X' k->nk B X k\/W.heap.size<=k
 qv:X'.qv=X.qv
 bH:X'.bH=X.bH
def xt (S:af.St) (r:af.di):af.St:={ S with L:=r.L,pf:=r.pf,n:=r.n }
structure bR (w:World) (b0:Nat) (W:World) (B:cJ) (X:cy) (wd h seed:Int) (S:af.St) (q:Nat) (vp vr:Value) (r:af.di):Prop where
 bP:av w W B X wd h seed (xt S r)
 blk:W.heap[q]?=some (.cells #[.pointer (some ⟨B.F,0,none⟩),vp,vr] 240 (0,0))
 pl:W.ownsRow b0 95 8 vp r.pl.length (bl r.pl)
 rp:gD W b0 vr r.rp
 lo:b0<=q
 ma:w.heap.size<=b0
 hib:b0<=W.heap.size
 w7:∀ c,c<6->∀ k,(X.qv c).ownBlock=some k->k<b0
 all:d_ r.L r.pf r.n wd h
section
variable {w W W' W1 W2:World} {b0 q:Nat} {B:cJ} {X X' X2:cy} {wd h seed:Int} {S:af.St} {vp vr:Value} {r:af.di}
theorem ck.trans (h:ck W W1 b0 B X X') (h1:ck W1 W2 b0 B X' X2):ck W W2 b0 B X X2 :=
 ⟨h.turned.trans h1.turned (fun k hk=>by
  rcases hk with hk | hk
  ·rcases h.new k hk with h2 | h2
   ·exact .inl (.inl h2)
   ·exact .inr h2
  ·exact .inl (.inr hk)),fun k hk=>by
  rcases h1.new k hk with h2 | h2
  ·exact h.new k h2
  ·exact .inr (lTq h.turned.size h2),h1.qv.trans h.qv,h1.bH.trans h.bH⟩
theorem ck.high (ht:aJ W W' (fun k=>b0<=k)) (B:cJ) (X:cy):ck W W' b0 B X X:=⟨ht.mono (fun _ h=>.inr h),fun _ h=>.inl h,rfl,rfl⟩
theorem ck.below (hb:Below W.heap.size W W') (b0:Nat) (B:cJ) (X:cy):ck W W' b0 B X X:=⟨aJ.of_below hb _,fun _ h=>.inl h,rfl,rfl⟩
theorem Ic (H:av w W B X wd h seed S) {k:Nat} {cur:Array Value} {e:TypeId} {fz:Nat×Nat} (hk:W.heap[k]?=some (.cells cur e fz)) (he:e≠213/\e≠267/\e≠276/\e≠197):¬ nk B X k:=by
 rintro (rfl | ⟨i,hi,rfl | rfl | h1⟩)
 ·exact aF hk H.fl.cY he.1 rfl
 ·exact aF hk (H.fl.it i hi) he.2.1 rfl
 ·exact aF hk (H.fl.aG i hi).cell he.2.2.1 rfl
 ·exact iV (H.fl.aG i hi).row hk he.2.2.2 h1
theorem NN (H:av w W B X wd h seed S) {k:Nat} (hk:nk B X k):k<W.heap.size:=by
 rcases hk with e | e
 ·exact(H.fe (.inr (.inl e))).2
 ·exact(H.fe (.inr (.inr (.inl e)))).2
theorem ck.row {base:Nat} {e:TypeId} {sz n:Nat} {v:Value} {xs:List Value} (hs:ck W W' b0 B X X') (H:av w W B X wd h seed S) (hr:W.ownsRow base e sz v n xs) (he:e≠213/\e≠267/\e≠276/\e≠197) (ho:∀ k,v.ownBlock=some k->k<b0):W'.ownsRow base e sz v n xs:=by
 refine fR hr hs.turned (fun k hk e1=>?_);rcases e1 with e1 | e1
 ·obtain⟨_,cur,h2⟩:=ep hr hk
  exact Ic H h2 he e1
 ·have:=ho k hk
  omega
theorem bR.floor {v':Nat->Value} {L':Nat->List Cv.ag} {oa n':Nat->Int} (R:bR w b0 W B X wd h seed S q vp vr r) (hf:bk w W' B.F B.P B.I B.b v' L' oa n' wd h) (hs:bJ W W' B.P B.I B.b X.v v') (ha:d_ L' oa n' wd h) :
  bR w b0 W' B { X with v:=v' } wd h seed S q vp vr { r with L:=L',pf:=oa,n:=n' }/\ck W W' b0 B X { X with v:=v' }/\aJ W W' (fun k=>nk B X k):=by
 have ht:aJ W W' (fun k=>nk B X k) :=
  ⟨hs.os,hs.tape,hs.output,hs.size,fun k hk hn=>hs.keep k hk (fun e=>hn (.inl e)) (fun i hi=>⟨fun e=>hn (.inr ⟨i,hi,.inl e⟩),fun e=>hn (.inr ⟨i,hi,.inr (.inl e)⟩),fun e=>hn (.inr ⟨i,hi,.inr (.inr e)⟩)⟩)⟩
 obtain⟨h1,_⟩:=R.bP.floor hf hs;refine⟨⟨h1,?_,?_,?_,R.lo,R.ma,lTq R.hib hs.size,R.w7,ha⟩,⟨ht.mono (fun _ h=>.inl h),fun k hk=>?_,rfl,rfl⟩,ht⟩
 ·rw[ht.block q (lBq R.blk) (Ic R.bP R.blk (by decide))];exact R.blk
 ·refine fR R.pl ht (fun k hk=>?_)
  obtain⟨_,cur,h2⟩:=ep R.pl hk;exact Ic R.bP h2 (by decide)
 ·refine fR R.rp ht (fun k hk=>?_)
  obtain⟨_,cur,h2⟩:=ep R.rp hk;exact Ic R.bP h2 (by decide)
 ·rcases hk with e | ⟨i,hi,e | e | e⟩
  ·exact .inl (.inl e)
  ·exact .inl (.inr ⟨i,hi,.inl e⟩)
  ·exact .inl (.inr ⟨i,hi,.inr (.inl e)⟩)
  ·rcases hs.new i hi k e with h2 | h2
   ·exact .inl (.inr ⟨i,hi,.inr (.inr h2)⟩)
   ·exact .inr h2
theorem bR.later (R:bR w b0 W B X wd h seed S q vp vr r) (hb:Below W.heap.size W W'):bR w b0 W' B X wd h seed S q vp vr r :=
 ⟨R.bP.later hb,dS hb R.blk,dy R.pl hb,dy R.rp hb,R.lo,R.ma,lTq R.hib hb.size,R.w7,R.all⟩
theorem bR.cells (R:bR w b0 W B X wd h seed S q vp vr r):W.cell? ⟨q,0,none⟩=some (.pointer (some ⟨B.F,0,none⟩))/\W.cell? ⟨q,1,none⟩=some vp/\W.cell? ⟨q,2,none⟩=some vr:=by
 refine⟨?_,?_,?_⟩ <;> (rw[cR _ _ _ _ _ _ R.blk];rfl)
theorem bR.lt (R:bR w b0 W B X wd h seed S q vp vr r):q<W.heap.size:=lBq R.blk
theorem bR.told {v4:Value} {x:List af.dc} (R:bR w b0 W B X wd h seed S q vp vr r) (hb:Below W.heap.size W W1) (hg:W1.grownBy W2 vr.ownBlock) (hr:gD W2 b0 v4 (r.rp++x)) :
  bR w b0 (W2.setCell ⟨q,2,none⟩ v4) B X wd h seed S q vp v4 { r with rp:=r.rp++x }/\ck W (W2.setCell ⟨q,2,none⟩ v4) b0 B X X/\aJ W (W2.setCell ⟨q,2,none⟩ v4) (fun k=>k=q\/vr.ownBlock=some k):=by
 have cH:=R.later hb;have hblk:W2.heap[q]?=some (.cells #[.pointer (some ⟨B.F,0,none⟩),vp,vr] 240 (0,0)):=by
  rw[hg.block q (lBq cH.blk) (fun e=>?_)]
  ·exact cH.blk
  ·obtain⟨_,cur,h2⟩:=ep cH.rp e.symm
   exact aF h2 cH.blk (by decide) rfl
 have hv2:=cH.bP.grown cH.rp (by decide) (by decide) R.ma hg;have bE:=aM.setCell W2 q 2 v4;have qG:=aJ.setCell W2 q 2 v4;have key:∀ {base:Nat} {e:TypeId} {sz n:Nat} {v:Value} {xs:List Value},W2.ownsRow base e sz v n xs->e≠240->(W2.setCell ⟨q,2,none⟩ v4).ownsRow base e sz v n xs:=fun {base e sz n v xs} qc hne=>fR qc qG (fun k hk e1=>by
  obtain⟨_,cur,h2⟩:=ep qc hk;exact aF h2 hblk hne e1)
 refine⟨⟨hv2.beside hblk (by decide) (by decide) (lTq R.ma R.lo) bE,?_,key (NY cH.rp cH.pl (by decide) hg) (by decide),key hr (by decide),R.lo,R.ma,?_,R.w7,R.all⟩,ck.high ?_ B X,?_⟩
 ·rw[block_setCell hblk];rfl
 ·exact lTq R.hib (lTq hb.size (lTq hg.size (by simp)))
 ·exact(aJ.of_below hb _).trans (((aJ.jv hg).mono (S':=fun k=>b0<=k) (fun _ hk=>(ep cH.rp hk.symm).1)).trans qG (fun _ e=>.inl (by rw[e];exact R.lo))) (fun _ hk=>.inl hk)
 ·exact(aJ.of_below hb _).trans (((aJ.jv hg).mono (S':=fun k=>k=q\/vr.ownBlock=some k) (fun _ hk=>.inr hk.symm)).trans qG (fun _ e=>.inl (.inl e))) (fun _ hk=>.inl hk)
theorem bR.row {base:Nat} {e:TypeId} {sz n:Nat} {v:Value} {xs:List Value} (R:bR w b0 W B X wd h seed S q vp vr r) (ht:aJ W W' (fun k=>k=q\/vr.ownBlock=some k)) (hr:W.ownsRow base e sz v n xs) (h1:e≠240) (h2:e≠121):W'.ownsRow base e sz v n xs:=by
 refine fR hr ht (fun k hk e1=>?_);obtain⟨_,cur,h3⟩:=ep hr hk;rcases e1 with e1 | e1
 ·exact aF h3 R.blk h1 e1
 ·obtain⟨_,kN,h4⟩:=ep R.rp e1
  exact aF h3 h4 h2 rfl
theorem bR.block {k:Nat} {cur:Array Value} {e:TypeId} {fz:Nat×Nat} (R:bR w b0 W B X wd h seed S q vp vr r) (ht:aJ W W' (fun k=>k=q\/vr.ownBlock=some k)) (hk:W.heap[k]?=some (.cells cur e fz)) (h1:e≠240) (h2:e≠121):W'.heap[k]?=some (.cells cur e fz):=by
 rw[ht.block k (lBq hk) (fun e1=>?_)]
 ·exact hk
 ·rcases e1 with e1 | e1
  ·exact aF hk R.blk h1 e1
  ·obtain⟨_,kN,h4⟩:=ep R.rp e1
   exact aF hk h4 h2 rfl
theorem bR.listed {v4:Value} {x:List Ask} (R:bR w b0 W B X wd h seed S q vp vr r) (hb:Below W.heap.size W W1) (hg:W1.grownBy W2 vp.ownBlock) (hr:W2.ownsRow b0 95 8 v4 x.length (bl x)) :
  bR w b0 (W2.setCell ⟨q,1,none⟩ v4) B X wd h seed S q v4 vr { r with pl:=x }/\ck W (W2.setCell ⟨q,1,none⟩ v4) b0 B X X:=by
 have cH:=R.later hb;have hblk:W2.heap[q]?=some (.cells #[.pointer (some ⟨B.F,0,none⟩),vp,vr] 240 (0,0)):=by
  rw[hg.block q (lBq cH.blk) (fun e=>?_)]
  ·exact cH.blk
  ·obtain⟨_,cur,h2⟩:=ep cH.pl e.symm
   exact aF h2 cH.blk (by decide) rfl
 have hv2:av w W2 B X wd h seed (xt S r):=by
  refine cH.bP.aside (aJ.jv hg) (fun e1=>?_) (fun k hv e1=>?_) (fun _ e1=>lTq R.ma (ep cH.pl e1.symm).1)
  ·obtain⟨_,cur,h2⟩:=ep cH.pl e1.symm
   exact aF h2 cH.bP.fl.blk (by decide) rfl
  ·obtain⟨h3,cur,h2⟩:=ep cH.pl e1.symm
   rcases hv with rfl | rfl | ⟨i,hi,rfl | rfl | h1⟩ | (rfl | ⟨c,hc,h1⟩) | rfl | h1
   ·exact aF h2 cH.bP.blk (by decide) rfl
   ·exact aF h2 cH.bP.fl.cY (by decide) rfl
   ·exact aF h2 (cH.bP.fl.it i hi) (by decide) rfl
   ·exact aF h2 (cH.bP.fl.aG i hi).cell (by decide) rfl
   ·exact iV (cH.bP.fl.aG i hi).row h2 (by decide) h1
   ·exact aF h2 cH.bP.it.cell (by decide) rfl
   ·have:=R.w7 c hc k h1;omega
   ·exact aF h2 cH.bP.dk.cell (by decide) rfl
   ·exact cH.bP.dk.row.uZ h2 (by decide) h1
 have bE:=aM.setCell W2 q 1 v4;have qG:=aJ.setCell W2 q 1 v4;have key:∀ {base:Nat} {e:TypeId} {sz n:Nat} {v:Value} {xs:List Value},W2.ownsRow base e sz v n xs->e≠240->(W2.setCell ⟨q,1,none⟩ v4).ownsRow base e sz v n xs:=fun {base e sz n v xs} qc hne=>fR qc qG (fun k hk e1=>by
  obtain⟨_,cur,h2⟩:=ep qc hk;exact aF h2 hblk hne e1)
 refine⟨⟨hv2.beside hblk (by decide) (by decide) (lTq R.ma R.lo) bE,?_,key hr (by decide),key (NY cH.pl cH.rp (by decide) hg) (by decide),R.lo,R.ma,?_,R.w7,R.all⟩,ck.high ?_ B X⟩
 ·rw[block_setCell hblk];rfl
 ·exact lTq R.hib (lTq hb.size (lTq hg.size (by simp)))
 ·exact(aJ.of_below hb _).trans (((aJ.jv hg).mono (S':=fun k=>b0<=k) (fun _ hk=>(ep cH.pl hk.symm).1)).trans qG (fun _ e=>.inl (by rw[e];exact R.lo))) (fun _ hk=>.inl hk)
end
def Cr (w:World) (b0:Nat) (W W':World) (B:cJ) (X:cy) (wd h seed:Int) (S:af.St) (q:Nat) (r':af.di):Prop :=
 ∃ X' ak3 sP,bR w b0 W' B X' wd h seed S q ak3 sP r'/\ck W W' b0 B X X'
def Yo (w:World) (b0:Nat) (W W':World) (B:cJ) (X:cy) (wd h seed:Int) (S:af.St) (q:Nat) (vp vr:Value) (r':af.di):Prop :=
 ∃ sP,bR w b0 W' B X wd h seed S q vp sP r'/\ck W W' b0 B X X/\aJ W W' (fun k=>k=q\/vr.ownBlock=some k)
section
variable {w W W':World} {ad:Nat->Addr} {b0 q:Nat} {B:cJ} {X X' X2:cy} {wd h seed:Int} {S:af.St} {vp vr:Value} {r:af.di}
theorem Yp (W:World) (v:Value) (l:List af.dc) (x:af.dc) (hr:gD W b0 v l) (hl:l.length<=100000) (hb:b0<=W.heap.size) :
  ∃ v' W',(Builtin.append_ #[55,55] 55 #[v,.slice (some ⟨W.heap.size,0,none⟩) 1 1]).run Tryz.prog (W.alloc (.cells (fI x) 121))=.ok v' W'/\gD W' b0 v' (l++[x])/\(W.alloc (.cells (fI x) 121)).grownBy W' v.ownBlock:=by
 obtain⟨i0,z0,hi,hz0,hz1,hz2,hz3⟩:=NV;obtain⟨v4,w4,hap,hrow,hg,_,_⟩:=run_append_own_at (P:=Tryz.prog) (w:=W.alloc (.cells (fI x) 121)) b0 55 55 121 i0 z0 6 56 Tryz.underlying55 hi hz0 hz1 hz2 hz3 (by decide) v l.length (ia l) (World.ownsRow.alloc hr _) ⟨W.heap.size,0,none⟩ 1 1 (nx x) rfl
  (fun j u hj=>ajr W x 121 _ rfl j u hj) (NU x) (by unfold maxLen;omega) (by omega) (by simp;omega)
 refine⟨v4,w4,hap,?_,hg⟩;show w4.ownsRow b0 121 6 v4 (l++[x]).length (ia (l++[x]));rw[NT,lAq];simpa [ia] using hrow
theorem Hl (k:ByteArray) (x:Cv.ag) (W:World) (R:Hid (bR w b0 W B X wd h seed S q vp vr r)) (hn:r.rp.length<=100000) :
  Calls Tryz.prog 187 #[.pointer (some ⟨q,0,none⟩),.string k,bS x] W fun e w'=>e=.returned (.tuple #[])/\Yo w b0 W w' B X wd h seed S q vp vr { r with rp:=r.rp++[af.tell k x] }:=by
 have hb1:Below W.heap.size W (W.alloc (.cells #[.int .i64 x.id,.int .i64 x.ak,.int .i64 x.sd,.int .i64 x.pr,.int .i64 x.q] 197)):=(bRq _ _).alloc (lRq _) _;have hb2:Below W.heap.size W (W.alloc (.cells #[.int .i64 x.id,.int .i64 x.ak,.int .i64 x.sd,.int .i64 x.pr,.int .i64 x.q] 197)).drew:=hb1.trans (dG.mono (by simp));have hb3:Below W.heap.size W ((W.alloc (.cells #[.int .i64 x.id,.int .i64 x.ak,.int .i64 x.sd,.int .i64 x.pr,.int .i64 x.q] 197)).drew.alloc (.cells (fI (af.tell k x)) 121)):=hb2.alloc hb2.size _;have rZ:=hNq W (.cells #[.int .i64 x.id,.int .i64 x.ak,.int .i64 x.sd,.int .i64 x.pr,.int .i64 x.q] 197);have hL2:(W.alloc (.cells #[.int .i64 x.id,.int .i64 x.ak,.int .i64 x.sd,.int .i64 x.pr,.int .i64 x.q] 197)).drew.heap[W.heap.size]?=some (.cells #[.int .i64 x.id,.int .i64 x.ak,.int .i64 x.sd,.int .i64 x.pr,.int .i64 x.q] 197 (0,0)):=rZ;have hL3:((W.alloc (.cells #[.int .i64 x.id,.int .i64 x.ak,.int .i64 x.sd,.int .i64 x.pr,.int .i64 x.q] 197)).drew.alloc (.cells (fI (af.tell k x)) 121)).heap[W.heap.size]?=some (.cells #[.int .i64 x.id,.int .i64 x.ak,.int .i64 x.sd,.int .i64 x.pr,.int .i64 x.q] 197 (0,0)):=by rw[Below.heap_alloc _ _ _ (by simp[World.drew])];exact hL2
 obtain⟨v4,w4,hap,hrow,hg⟩:=Yp (W.alloc (.cells #[.int .i64 x.id,.int .i64 x.ak,.int .i64 x.sd,.int .i64 x.pr,.int .i64 x.q] 197)).drew vr r.rp (af.tell k x) (R.out.later hb2).rp hn (R.out.later hb2).hib;have hL4:w4.heap[W.heap.size]?=some (.cells #[.int .i64 x.id,.int .i64 x.ak,.int .i64 x.sd,.int .i64 x.pr,.int .i64 x.q] 197 (0,0)):=by
  rw[hg.block _ (lBq hL3) (fun e=>?_)]
  ·exact hL3
  ·obtain⟨_,cur,h2⟩:=ep (R.out.later hb3).rp e.symm
   exact aF h2 hL3 (by decide) rfl
 have zu:w4.cell? ⟨q,2,none⟩=some vr/\w4.frozen? ⟨q,2,none⟩=false:=by
  have e:w4.heap[q]?=some (.cells #[.pointer (some ⟨B.F,0,none⟩),vp,vr] 240 (0,0)):=by
   rw[hg.block q (lBq (R.out.later hb3).blk) (fun e=>?_)]
   ·exact(R.out.later hb3).blk
   ·obtain⟨_,cur,h2⟩:=ep (R.out.later hb3).rp e.symm
    exact aF h2 (R.out.later hb3).blk (by decide) rfl
  exact⟨by rw[cR _ _ _ _ _ _ e];rfl,by simp[World.frozen?,e]⟩
 obtain⟨g1,g2⟩:=zu;have HT:=hDq (R.out.told hb3 hg hrow);have q3:=(R.out.later hb3).cells.2.2;have q2:=(R.out.later hb2).cells.2.2;obtain⟨a0,c0,sW⟩:=fH R.out.rp;obtain⟨a4,c4,hv4⟩:=fH hrow;rw[lAq,List.length_singleton]at hv4;rw[sW]at hap q3 q2 g1;rw[hv4]at hap HT;rw[show (W.alloc (.cells #[.int .i64 x.id,.int .i64 x.ak,.int .i64 x.sd,.int .i64 x.pr,.int .i64 x.q] 197)).drew.heap.size=W.heap.size+1 by simp[World.drew]]at hap;have fg:=hDq hap;have iW:=hDq hL2;have lS:=hDq hL3;have nV:=hDq hL4;have Oa:=hDq q3;have CP:=hDq g1;clear hap hrow hg hv4 sW rZ hL2 hL3 hL4 hb1 hb2 hb3 q3 g1;have wX:q<W.heap.size:=R.out.lt;generalize r.rp.length=m at *;unfold af.tell at *;unfold bS fI at *;go_enter Tryz.func187,Tryz.ntmps187;go_wp2;obtain⟨bG,val,hcl,aP⟩:=kL (fun W'=>W'.heap[W.heap.size]?=some (.cells #[.int .i64 x.id,.int .i64 x.ak,.int .i64 x.sd,.int .i64 x.pr,.int .i64 x.q] 197 (0,0))/\W'.cell? ⟨q,2,none⟩=some (.slice a0 m c0));obtain⟨x0,hx0⟩:=aP (W.alloc (.cells #[.int .i64 x.id,.int .i64 x.ak,.int .i64 x.sd,.int .i64 x.pr,.int .i64 x.q] 197)).drew ⟨iW.out,q2⟩;have hnx:Nonempty bG:=⟨x0⟩;have s0:∀ x0,(val x0).cell? ⟨W.heap.size,0,none⟩=some (.int .i64 x.id):=fun x0=>by rw[cR _ _ _ _ _ _ (hcl x0).1];rfl
 have s1:∀ x0,(val x0).cell? ⟨W.heap.size,1,none⟩=some (.int .i64 x.ak):=fun x0=>by rw[cR _ _ _ _ _ _ (hcl x0).1];rfl
 have s2:∀ x0,(val x0).cell? ⟨W.heap.size,2,none⟩=some (.int .i64 x.sd):=fun x0=>by rw[cR _ _ _ _ _ _ (hcl x0).1];rfl
 have s3:∀ x0,(val x0).cell? ⟨W.heap.size,3,none⟩=some (.int .i64 x.pr):=fun x0=>by rw[cR _ _ _ _ _ _ (hcl x0).1];rfl
 have l4:∀ x0,(val x0).cell? ⟨W.heap.size,4,none⟩=some (.int .i64 x.q):=fun x0=>by rw[cR _ _ _ _ _ _ (hcl x0).1];rfl
 have pH:∀ x0,(val x0).cell? ⟨q,2,none⟩=some (.slice a0 m c0):=fun x0=>(hcl x0).2;have M1:=hDq (aP _ ⟨lS.out,Oa.out⟩);have r_:=hDq (aP _ ⟨nV.out,CP.out⟩);have akd:=CP.out;clear aP hcl;refine um (val:=val) [15,16] 19 30 [0,1,2,3,4,5,6,7,8,9,10,11,12,13,14,15,16,17,18,19] (by kernel_rfl) (by kernel_rfl) x0 hx0 ?_;rw[hx0];clear hx0
 iterate 15 (refine bD rfl rfl (fun K hK=>?_);refine⟨by rfl,?_⟩;unfold aA;go_simp;refine hK _ ?_;clear hK K)
 refine lY rfl rfl (fun K hK=>?_);refine⟨by rfl,?_⟩;unfold aQ;go_simp;refine⟨M1.out,hK _ _ ?_⟩;clear hK K;refine lY rfl rfl (fun K hK=>?_);refine⟨by rfl,?_⟩;refine yF _ _ 55 rfl _ _ _ rfl rfl fg.out ?_;refine⟨r_.out,hK _ _ ?_⟩;clear hK K
 iterate 2 (refine bD rfl rfl (fun K hK=>?_);refine⟨by rfl,?_⟩;unfold aA;go_simp;refine hK _ ?_;clear hK K)
 refine uq rfl (fun K hK=>?_);refine⟨by rfl,?_⟩;unfold aQ;go_simp;refine hK _ _ ?_;clear hK K;go_wp2;go_end0;exact⟨rfl,_,HT.out.1,HT.out.2.1,HT.out.2.2⟩
theorem W8 (a:Ask) (d:Nat) (hd:d+1<=12) (W:World) (hs:Hid (bT w ad)) (R:Hid (bR w b0 W B X wd h seed S q vp vr r)) (hn:r.rp.length<=100000) :
  Calls Tryz.prog 216 #[.pointer (some ⟨q,0,none⟩),bM a,.iface 412 (.pointer (some (ad d)))] W fun e w'=>e=.returned (.tuple #[])/\Yo w b0 W w' B X wd h seed S q vp vr { r with rp:=r.rp++[af.fZ a.c a.id (d+1)] }:=by
 have HF:Hid (∀ W',Below W.heap.size W W'->Calls Tryz.prog 166 #[.int .i64 a.c,.int .i64 a.id,.iface 412 (.pointer (some (ad d)))] W' fun e w'=>e=.returned (jS (af.fZ a.c a.id (d+1)))/\Below W'.heap.size W' w'):=fun W' hb=>Xr a.c a.id (d+1) hd W' ((R.out.later hb).bP.sent hs.out);have wX:q<W.heap.size:=R.out.lt;have qq:Hid (∀ W',Below W.heap.size W W'->W'.heap[W.heap.size]?=some (.cells #[.int .u8 a.k,.int .i64 a.c,.int .i64 a.sq,.int .i64 a.it,.int .i64 a.sd,.int .i64 a.pr,.int .i64 a.q,.int .i64 a.id] 95 (0,0))->∃ v4 w4 a0 c0 a4 c4,(Builtin.append_ #[55,55] 55 #[.slice a0 r.rp.length c0,.slice (some ⟨W'.heap.size,0,none⟩) 1 1]).run Tryz.prog (W'.alloc (.cells (fI (af.fZ a.c a.id (d+1))) 121))=.ok v4 w4/\vr=.slice a0 r.rp.length c0/\v4=.slice a4 (r.rp.length+1) c4/\(w4.heap[W.heap.size]?=some (.cells #[.int .u8 a.k,.int .i64 a.c,.int .i64 a.sq,.int .i64 a.it,.int .i64 a.sd,.int .i64 a.pr,.int .i64 a.q,.int .i64 a.id] 95 (0,0))/\w4.cell? ⟨q,2,none⟩=some vr/\w4.frozen? ⟨q,2,none⟩=false)/\(W'.alloc (.cells (fI (af.fZ a.c a.id (d+1))) 121)).heap[W.heap.size]?=some (.cells #[.int .u8 a.k,.int .i64 a.c,.int .i64 a.sq,.int .i64 a.it,.int .i64 a.sd,.int .i64 a.pr,.int .i64 a.q,.int .i64 a.id] 95 (0,0))/\(W'.alloc (.cells (fI (af.fZ a.c a.id (d+1))) 121)).cell? ⟨q,2,none⟩=some vr/\bR w b0 (w4.setCell ⟨q,2,none⟩ v4) B X wd h seed S q vp v4 { r with rp:=r.rp++[af.fZ a.c a.id (d+1)] }/\ck W (w4.setCell ⟨q,2,none⟩ v4) b0 B X X/\aJ W (w4.setCell ⟨q,2,none⟩ v4) (fun k=>k=q\/vr.ownBlock=some k)):=fun W' hb2 hL2=>by
  have hb3:Below W.heap.size W (W'.alloc (.cells (fI (af.fZ a.c a.id (d+1))) 121)):=hb2.alloc hb2.size _;have hL3:(W'.alloc (.cells (fI (af.fZ a.c a.id (d+1))) 121)).heap[W.heap.size]?=some (.cells #[.int .u8 a.k,.int .i64 a.c,.int .i64 a.sq,.int .i64 a.it,.int .i64 a.sd,.int .i64 a.pr,.int .i64 a.q,.int .i64 a.id] 95 (0,0)):=by rw[Below.heap_alloc _ _ _ (lBq hL2)];exact hL2
  obtain⟨v4,w4,hap,hrow,hg⟩:=Yp W' vr r.rp (af.fZ a.c a.id (d+1)) (R.out.later hb2).rp hn (R.out.later hb2).hib;have hL4:w4.heap[W.heap.size]?=some (.cells #[.int .u8 a.k,.int .i64 a.c,.int .i64 a.sq,.int .i64 a.it,.int .i64 a.sd,.int .i64 a.pr,.int .i64 a.q,.int .i64 a.id] 95 (0,0)):=by
   rw[hg.block _ (lBq hL3) (fun e=>?_)]
   ·exact hL3
   ·obtain⟨_,cur,h2⟩:=ep (R.out.later hb3).rp e.symm
    exact aF h2 hL3 (by decide) rfl
  have zu:w4.cell? ⟨q,2,none⟩=some vr/\w4.frozen? ⟨q,2,none⟩=false:=by
   have e:w4.heap[q]?=some (.cells #[.pointer (some ⟨B.F,0,none⟩),vp,vr] 240 (0,0)):=by
    rw[hg.block q (lBq (R.out.later hb3).blk) (fun e=>?_)]
    ·exact(R.out.later hb3).blk
    ·obtain⟨_,cur,h2⟩:=ep (R.out.later hb3).rp e.symm
     exact aF h2 (R.out.later hb3).blk (by decide) rfl
   exact⟨by rw[cR _ _ _ _ _ _ e];rfl,by simp[World.frozen?,e]⟩
  obtain⟨a0,c0,sW⟩:=fH R.out.rp;obtain⟨a4,c4,hv4⟩:=fH hrow;rw[lAq,List.length_singleton]at hv4;exact⟨v4,w4,a0,c0,a4,c4,by rw[<- sW];exact hap,sW,hv4,⟨hL4,zu.1,zu.2⟩,hL3,(R.out.later hb3).cells.2.2,(R.out.told hb3 hg hrow).1,(R.out.told hb3 hg hrow).2⟩
 have hb1:Below W.heap.size W (W.alloc (.cells (aT a) 95)):=(bRq _ _).alloc (lRq _) _;have hb2:Below W.heap.size W (W.alloc (.cells (aT a) 95)).drew:=hb1.trans (dG.mono (by simp));have hL2:(W.alloc (.cells (aT a) 95)).drew.heap[W.heap.size]?=some (.cells (aT a) 95 (0,0)):=hNq W (.cells (aT a) 95);have q2:=(R.out.later hb2).cells.2.2;have HB2:=hDq hb2;have iW:=hDq hL2;clear hb1 hb2 hL2;unfold af.fZ at *;unfold bM aT jS fI at *;obtain⟨a0,c0,sW⟩:=fH R.out.rp;go_enter Tryz.func216,Tryz.ntmps216;go_wp2;obtain⟨bG,val,hcl,aP⟩:=kL (fun W'=>W'.heap[W.heap.size]?=some (.cells #[.int .u8 a.k,.int .i64 a.c,.int .i64 a.sq,.int .i64 a.it,.int .i64 a.sd,.int .i64 a.pr,.int .i64 a.q,.int .i64 a.id] 95 (0,0))/\W'.cell? ⟨q,2,none⟩=some vr);obtain⟨x0,hx0⟩:=aP (W.alloc (.cells #[.int .u8 a.k,.int .i64 a.c,.int .i64 a.sq,.int .i64 a.it,.int .i64 a.sd,.int .i64 a.pr,.int .i64 a.q,.int .i64 a.id] 95)).drew ⟨iW.out,q2⟩;have hnx:Nonempty bG:=⟨x0⟩;have s1:∀ x0,(val x0).cell? ⟨W.heap.size,1,none⟩=some (.int .i64 a.c):=fun x0=>by rw[cR _ _ _ _ _ _ (hcl x0).1];rfl
 have wI:∀ x0,(val x0).cell? ⟨W.heap.size,7,none⟩=some (.int .i64 a.id):=fun x0=>by rw[cR _ _ _ _ _ _ (hcl x0).1];rfl
 have pH:∀ x0,(val x0).cell? ⟨q,2,none⟩=some (.slice a0 r.rp.length c0):=fun x0=>by rw[<- sW];exact(hcl x0).2
 have aN:=hDq aP;clear aP hcl;refine um (val:=val) [10,11,12] 15 30 [0,1,2,3,4,5,6,7,8,9,10,11,12,13,14,15] (by kernel_rfl) (by kernel_rfl) x0 hx0 ?_;rw[hx0];clear hx0
 iterate 10 (refine bD rfl rfl (fun K hK=>?_);refine⟨by rfl,?_⟩;unfold aA;go_simp;refine hK _ ?_;clear hK K)
 refine lY rfl rfl (fun K hK=>?_);refine⟨by rfl,?_⟩;unfold aQ;go_simp;refine(HF.out _ HB2.out).mono ?_;rintro e aC ⟨rfl,b_⟩;have OL:=dS b_ iW.out;have OM:=HB2.out.trans (b_.mono HB2.out.size);obtain⟨v4,w4,apc,pM,a4,c4,hap,OO,hv4,⟨k1,k2,k3⟩,k4,pC,k6,k7⟩:=qq.out aC OM OL;rw[sW]at OO;simp only[Value.slice.injEq,true_and]at OO;obtain⟨rfl,rfl⟩:=OO;refine⟨_,rfl,aN.out _ ⟨OL,(R.out.later OM).cells.2.2⟩,hK _ _ ?_⟩;clear hK K;have M1:=hDq (aN.out _ ⟨k4,pC⟩);have r_:=hDq (aN.out _ ⟨k1,k2⟩);have HK:=hDq (And.intro k6 k7);have fg:=hDq hap;rw[hv4]at fg HK;rw[sW]at k2;clear hap k1 k4 pC k6 k7 hv4 b_ OL OM qq HF;refine lY rfl rfl (fun K hK=>?_);refine⟨by rfl,?_⟩;unfold aQ;go_simp;refine⟨M1.out,hK _ _ ?_⟩;clear hK K;refine lY rfl rfl (fun K hK=>?_);refine⟨by rfl,?_⟩;refine yF _ _ 55 rfl _ _ _ rfl rfl fg.out ?_;refine⟨r_.out,hK _ _ ?_⟩;clear hK K
 iterate 2 (refine bD rfl rfl (fun K hK=>?_);refine⟨by rfl,?_⟩;unfold aA;go_simp;refine hK _ ?_;clear hK K)
 refine uq rfl (fun K hK=>?_);refine⟨by rfl,?_⟩;unfold aQ;go_simp;refine hK _ _ ?_;clear hK K;go_wp2;go_end0;exact⟨rfl,_,HK.out.1,HK.out.2.1,HK.out.2.2⟩
end
section
variable {w W W':World} {ad:Nat->Addr} {b0 q:Nat} {B:cJ} {X X' X2:cy} {wd h seed:Int} {S:af.St} {vp vr:Value} {r:af.di}
theorem bR.fl (R:bR w b0 W B X wd h seed S q vp vr r):bk w W B.F B.P B.I B.b X.v r.L r.pf r.n wd h:=R.bP.fl
theorem ajo (k:ByteArray) {l:List Cv.ag} {i:Nat} (hi:i<l.length):(l.take (i+1)).map (af.tell k)=(l.take i).map (af.tell k)++[af.tell k (Cv.nth l i)]:=by
 rw[Fl.tv hi,List.map_append];rfl
theorem ajp (c:Nat) (W:World) (R:Hid (bR w b0 W B X wd h seed S q vp vr r)) (hs:Hid (bT w ad)) (hn:r.rp.length<=50000) :
  Calls Tryz.prog 140 #[.pointer (some ⟨q,0,none⟩),.int .i64 c] W fun e w'=>e=.returned (.tuple #[])/\Cr w b0 W w' B X wd h seed S q (af.uQ r c):=by
 have HD:=hDq (adQ (c:Int) R.out.fl hs.out.Ct R.out.all.ok);have hlen:=Fl.D6 (c:Int) r.L (fun i hi=>(R.out.all.ok.aG i hi).len) 3 (by decide);have HRR:Hid (af.uQ r c = { r with L:=Fl.lf c r.L 3,pf:=Fl.qg c r.L r.pf 3,rp:=r.rp++(Fl.mG c r.L 3).map (af.tell af.pP) }):=rfl;generalize af.uQ r c=rr at *;have c0:=R.out.cells.1;go_enter Tryz.func140,Tryz.ntmps140
 go_wp2_with fail
 refine HD.out.mono ?_;rintro e w2 ⟨u,v',rfl,hrow,hf,hst,hok⟩;obtain⟨h1,h2,_⟩:=R.out.floor hf hst ⟨hok,R.out.all.ql,R.out.all.rule⟩;have H1:=hDq h1;have H2:=hDq h2;have ik:=hDq hrow;have hb0:=R.out.hib;clear hf hst hok h1 h2 HD;obtain⟨out,hout⟩:∃ out,Fl.mG (c:Int) r.L 3=out:=⟨_,rfl⟩;rw[hout]at ik hlen HRR hrow;obtain⟨Xg,ajq,hu⟩:=fH hrow;obtain⟨m,hm⟩:∃ m,out.length=m:=⟨_,rfl⟩;rw[hm]at ik hlen hu;have HM:=hDq hm;clear hrow hm hout;subst hu;simp only[]
 go_wp2_with fail
 go_loopw [13] (fun kv wr=>∃ k sP,k<=m/\kv=.int .i64 k/\bR w b0 wr B { X with v:=v' } wd h seed S q vp sP { r with L:=Fl.lf c r.L 3,pf:=Fl.qg c r.L r.pf 3,rp:=r.rp++(out.take k).map (af.tell af.pP) }/\ck W wr b0 B X { X with v:=v' }/\wr.ownsRow W.heap.size 197 5 (.slice Xg m ajq) m (flat out)) (fun kv _=>m-(intOf kv).toNat)
 case atStart=>exact⟨0,vr,by omega,rfl,by simpa using H1.out,H2.out,ik.out⟩
 case round =>
  obtain⟨k,pg,hk,rfl,hr,hfr,hrow⟩:=hrel;have HR:=hDq hr;have HF:=hDq hfr;have HW:=hDq hrow;clear hr hfr;by_cases hlt:k<m
  ·have aX:(k:Int)<m:=by omega
   have hkl:k<out.length:=by rw[HM.out];exact hlt
   obtain⟨g,hg⟩:∃ g,Xg=some ⟨g,0,none⟩:=by
    rcases hrow.2 with ⟨e1,_⟩ | ⟨g,cap,cur,e1,_⟩
    ·cases e1;omega
    ·simp only[Value.slice.injEq]at e1;exact⟨g,e1.1⟩
   subst hg;obtain⟨x0,x1,x2,x3,x4⟩:=xX hrow k hkl;simp only[Nat.zero_add]at x0 x1 x2 x3 x4;have jo:g<wr.heap.size:=bCq _ _ x0;have HT:=hDq (fun W' (hb:Below wr.heap.size wr W')=>Hl af.pP (Cv.nth out k) W' (HR.out.later hb) (by simp only[List.length_append,List.length_map,List.length_take];omega));have HN:=hDq (ajo af.pP hkl);generalize Cv.nth out k=x at *;clear hrow;have HB:Hid (Below wr.heap.size wr (wr.alloc (.cells #[.int .i64 x.id,.int .i64 x.ak,.int .i64 x.sd,.int .i64 x.pr,.int .i64 x.q] 197))):=(bRq _ _).alloc (lRq _) _;unfold af.pP bS at HT
   go_wp2_with fail
   refine(HT.out _ HB.out).mono ?_;rintro e w3 ⟨rfl,xe,h3,h4,h5⟩;have H3:=hDq h3;have cP:=hDq (HF.out.trans ((ck.below HB.out b0 B _).trans h4));have H5:=hDq ((HR.out.later HB.out).row h5 (dy HW.out HB.out) (by decide) (by decide));clear h3 h4 h5 HT HB;simp only[];go_wp2;refine⟨⟨k+1,xe,hlt,by go_num,?_,cP.out,H5.out⟩,by simp[intOf];omega⟩;rw[HN.out,<- aAq];exact H3.out
  ·have aX:¬ (k:Int)<m:=by omega
   obtain rfl:k=m:=by omega
   go_wp2;go_end0;refine⟨rfl,_,vp,pg,?_,HF.out⟩
   have:=HR.out
   rw[<- HM.out,List.take_length]at this;rw[HRR.out];exact this
end
namespace Fl
theorem XO (a:Ask) (k:Int):fP a k<=4:=by
 unfold fP;split
 ·decide
 ·unfold ah.code
  split
  ·split
   ·split <;> decide
   ·decide
  ·decide
theorem akb (L:Nat->List Cv.ag) (pf:Nat->Int) (a:Ask):eQ L pf a<=9:=by
 have:=XO a 111
 unfold eQ Pu.jE
 (repeat' split) <;> omega
theorem ai9 (L:Nat->List Cv.ag) (pf:Nat->Int) (a:Ask):dx L pf a<=9:=by
 have:=XO a 99
 unfold dx Pu.gK
 (repeat' split) <;> omega
end Fl
section
variable {w W W':World} {ad:Nat->Addr} {b0 q:Nat} {B:cJ} {X X' X2:cy} {wd h seed:Int} {S:af.St} {vp vr:Value} {r:af.di}
theorem ajd (a:Ask) (W:World) (R:Hid (bR w b0 W B X wd h seed S q vp vr r)) (hs:Hid (bT w ad)) (hn:r.rp.length<=100000) (hp:r.pl.length<=100000) :
  Calls Tryz.prog 188 #[.pointer (some ⟨q,0,none⟩),bM a] W fun e w'=>e=.returned (.tuple #[])/\Cr w b0 W w' B X wd h seed S q (af.xd r a):=by
 have HP:Hid (∀ W',Below W.heap.size W W'->Calls Tryz.prog 215 #[.pointer (some ⟨B.F,0,none⟩),bM a] W' fun e w'=>e=.returned (cV (qN ad) (Fl.eQ r.L r.pf a))/\∃ X',bR w b0 w' B X' wd h seed S q vp vr { r with L:=Fl.kF r.L r.pf a,pf:=Fl.jF r.L r.pf a }/\ck W' w' b0 B X X'/\aJ W' w' (fun k=>nk B X k)):=fun W' hb=>by
  have R':=R.out.later hb;refine(aeF a R'.fl hs.out.Ct R'.all.ok).mono ?_;rintro e w' ⟨rfl,v',h1,h2⟩;exact⟨rfl,_,R'.floor h1 h2 ⟨R'.all.ok.place a,R'.all.ql,R'.all.rule⟩⟩
 have hle:=Fl.akb r.L r.pf a;have HRR:Hid (af.xd r a = { r with L:=Fl.kF r.L r.pf a,pf:=Fl.jF r.L r.pf a,pl:=if Fl.eQ r.L r.pf a=0 then r.pl++[a] else r.pl,rp:=if Fl.eQ r.L r.pf a=0 then r.rp else r.rp++[af.fZ a.c a.id (Fl.eQ r.L r.pf a+1)] }):=rfl;generalize af.xd r a=rr at *;generalize Fl.eQ r.L r.pf a=pc at *;generalize Fl.kF r.L r.pf a=pL at *;generalize Fl.jF r.L r.pf a=ao4 at *;have hb1:Below W.heap.size W (W.alloc (.cells (aT a) 95)):=(bRq _ _).alloc (lRq _) _;have hb2:Below W.heap.size W (W.alloc (.cells (aT a) 95)).drew:=hb1.trans (dG.mono (by simp));have hA:(W.alloc (.cells (aT a) 95)).drew.heap[W.heap.size]?=some (.cells (aT a) 95 (0,0)):=hNq W (.cells (aT a) 95);have HB2:=hDq hb2;have HA:=hDq hA;have c0:=R.out.cells.1;have wX:=R.out.lt;have ho:∀ k,nk B X k->k<W.heap.size:=fun k hk=>NN R.out.bP hk;clear hb1 hb2 hA;cases pc with
 | succ d =>
  rw[show cV (qN ad) (d+1)=.iface 412 (.pointer (some (ad (d+1)))) from rfl]at HP;rw[if_neg (by omega),if_neg (by omega)]at HRR;unfold bM aT at *;go_enter Tryz.func188,Tryz.ntmps188
  go_wp2_with fail
  go_region_with (go_at_call 215;refine(HP.out _ HB2.out).mono ?_;rintro e w2 ⟨rfl,X2,h1,h2,h3⟩;have H1:=hDq h1;have H2:=hDq h2;have cm:=hDq ((h3.block W.heap.size (lBq HA.out) (fun e=>by have:=ho _ e;omega)).trans HA.out);clear h1 h2 h3)
  all_goals
   have e0:w2.cell? ⟨W.heap.size,0,none⟩=some (.int .u8 a.k):=by rw[cR _ _ _ _ _ _ cm.out];rfl
   have e1:w2.cell? ⟨W.heap.size,1,none⟩=some (.int .i64 a.c):=by rw[cR _ _ _ _ _ _ cm.out];rfl
   have e2:w2.cell? ⟨W.heap.size,2,none⟩=some (.int .i64 a.sq):=by rw[cR _ _ _ _ _ _ cm.out];rfl
   have e3:w2.cell? ⟨W.heap.size,3,none⟩=some (.int .i64 a.it):=by rw[cR _ _ _ _ _ _ cm.out];rfl
   have e4:w2.cell? ⟨W.heap.size,4,none⟩=some (.int .i64 a.sd):=by rw[cR _ _ _ _ _ _ cm.out];rfl
   have e5:w2.cell? ⟨W.heap.size,5,none⟩=some (.int .i64 a.pr):=by rw[cR _ _ _ _ _ _ cm.out];rfl
   have e6:w2.cell? ⟨W.heap.size,6,none⟩=some (.int .i64 a.q):=by rw[cR _ _ _ _ _ _ cm.out];rfl
   have e7:w2.cell? ⟨W.heap.size,7,none⟩=some (.int .i64 a.id):=by rw[cR _ _ _ _ _ _ cm.out];rfl
   have HF:=hDq (W8 a (d+1) (by omega) w2 hs H1.out hn);unfold bM aT at HF
   go_wp2_with fail
   refine HF.out.mono ?_;rintro e w3 ⟨rfl,xe,h3,h4,_⟩;have H3:=hDq h3;have cP:=hDq (((ck.below HB2.out b0 B X).trans H2.out).trans h4);clear h3 h4;simp only[];go_wp2;refine bodyPost_ret (v:=.tuple #[]) (by simp[results,Tryz.results188]) rfl ?_;exact⟨rfl,X2,vp,xe,by rw[HRR.out];exact H3.out,cP.out⟩
 | zero =>
  rw[show cV (qN ad) 0=.nilIface from rfl]at HP;rw[if_pos rfl,if_pos rfl]at HRR;unfold bM aT at *;go_enter Tryz.func188,Tryz.ntmps188
  go_wp2_with fail
  go_region_with (go_at_call 215;refine(HP.out _ HB2.out).mono ?_;rintro e w2 ⟨rfl,X2,h1,h2,h3⟩;have H1:=hDq h1;have H2:=hDq h2;have cm:=hDq ((h3.block W.heap.size (lBq HA.out) (fun e=>by have:=ho _ e;omega)).trans HA.out);clear h1 h2 h3)
  all_goals
   have hb3:Below w2.heap.size w2 (w2.drew.alloc (.cells (aT a) 95)):=dG.alloc dG.size _;have H8:=dS hb3 cm.out;obtain⟨v4,w4,hap,hrow,hg⟩:=WY w2.drew vp r.pl a (H1.out.later dG).pl hp (H1.out.later dG).hib;have mE:=H1.out.later hb3;have hb0:=R.out.hib;have XP:w4.heap[W.heap.size]?=some (.cells #[.int .u8 a.k,.int .i64 a.c,.int .i64 a.sq,.int .i64 a.it,.int .i64 a.sd,.int .i64 a.pr,.int .i64 a.q,.int .i64 a.id] 95 (0,0)):=by
    rw[hg.block _ (lBq H8) (fun e=>?_)]
    ·exact H8
    ·have:=(R.out.pl.lt _ e.symm).2
     omega
   have zu:w4.cell? ⟨q,1,none⟩=some vp/\w4.frozen? ⟨q,1,none⟩=false:=by
    have e:w4.heap[q]?=some (.cells #[.pointer (some ⟨B.F,0,none⟩),vp,vr] 240 (0,0)):=by
     rw[hg.block q (lBq mE.blk) (fun e=>?_)]
     ·exact mE.blk
     ·obtain⟨_,cur,h2⟩:=ep mE.pl e.symm
      exact aF h2 mE.blk (by decide) rfl
    exact⟨by rw[cR _ _ _ _ _ _ e];rfl,by simp[World.frozen?,e]⟩
   obtain⟨g1,g2⟩:=zu;have HT:=hDq (H1.out.listed hb3 hg hrow);have q3:=mE.cells.2.1;have q2:=(H1.out.later dG).cells.2.1;obtain⟨a0,pM,hvp⟩:=fH H1.out.pl;obtain⟨a4,c4,hv4⟩:=fH hrow;rw[lAq,List.length_singleton]at hv4;have hvp:vp=.slice a0 r.pl.length pM:=hvp;rw[hvp]at hap q3 q2 g1;rw[hv4]at hap HT;rw[show w2.drew.heap.size=w2.heap.size from rfl]at hap;have fg:=hDq hap;have ji:=hDq H8;have ei:=hDq XP;have Oa:=hDq q3;have CP:=hDq g1;have akc:Hid (w2.drew.heap[W.heap.size]?=some (.cells #[.int .u8 a.k,.int .i64 a.c,.int .i64 a.sq,.int .i64 a.it,.int .i64 a.sd,.int .i64 a.pr,.int .i64 a.q,.int .i64 a.id] 95 (0,0))):=cm.out;clear hap hrow hg hv4 hvp H8 XP hb3 mE q3 g1;generalize r.pl.length=m at *;unfold aT at *;have ahz:q<w2.heap.size:=H1.out.lt;have e0:w2.cell? ⟨W.heap.size,0,none⟩=some (.int .u8 a.k):=by rw[cR _ _ _ _ _ _ cm.out];rfl
   have e1:w2.cell? ⟨W.heap.size,1,none⟩=some (.int .i64 a.c):=by rw[cR _ _ _ _ _ _ cm.out];rfl
   have e2:w2.cell? ⟨W.heap.size,2,none⟩=some (.int .i64 a.sq):=by rw[cR _ _ _ _ _ _ cm.out];rfl
   have e3:w2.cell? ⟨W.heap.size,3,none⟩=some (.int .i64 a.it):=by rw[cR _ _ _ _ _ _ cm.out];rfl
   have e4:w2.cell? ⟨W.heap.size,4,none⟩=some (.int .i64 a.sd):=by rw[cR _ _ _ _ _ _ cm.out];rfl
   have e5:w2.cell? ⟨W.heap.size,5,none⟩=some (.int .i64 a.pr):=by rw[cR _ _ _ _ _ _ cm.out];rfl
   have e6:w2.cell? ⟨W.heap.size,6,none⟩=some (.int .i64 a.q):=by rw[cR _ _ _ _ _ _ cm.out];rfl
   have e7:w2.cell? ⟨W.heap.size,7,none⟩=some (.int .i64 a.id):=by rw[cR _ _ _ _ _ _ cm.out];rfl
   go_wp2;clear e0 e1 e2 e3 e4 e5 e6 e7;obtain⟨bG,val,hcl,aP⟩:=kL (fun W'=>W'.heap[W.heap.size]?=some (.cells #[.int .u8 a.k,.int .i64 a.c,.int .i64 a.sq,.int .i64 a.it,.int .i64 a.sd,.int .i64 a.pr,.int .i64 a.q,.int .i64 a.id] 95 (0,0))/\W'.cell? ⟨q,1,none⟩=some (.slice a0 m pM));obtain⟨x0,hx0⟩:=aP w2.drew ⟨akc.out,q2⟩;have hnx:Nonempty bG:=⟨x0⟩;have s0:∀ x0,(val x0).cell? ⟨W.heap.size,0,none⟩=some (.int .u8 a.k):=fun x0=>by rw[cR _ _ _ _ _ _ (hcl x0).1];rfl
   have s1:∀ x0,(val x0).cell? ⟨W.heap.size,1,none⟩=some (.int .i64 a.c):=fun x0=>by rw[cR _ _ _ _ _ _ (hcl x0).1];rfl
   have s2:∀ x0,(val x0).cell? ⟨W.heap.size,2,none⟩=some (.int .i64 a.sq):=fun x0=>by rw[cR _ _ _ _ _ _ (hcl x0).1];rfl
   have s3:∀ x0,(val x0).cell? ⟨W.heap.size,3,none⟩=some (.int .i64 a.it):=fun x0=>by rw[cR _ _ _ _ _ _ (hcl x0).1];rfl
   have l4:∀ x0,(val x0).cell? ⟨W.heap.size,4,none⟩=some (.int .i64 a.sd):=fun x0=>by rw[cR _ _ _ _ _ _ (hcl x0).1];rfl
   have yI:∀ x0,(val x0).cell? ⟨W.heap.size,5,none⟩=some (.int .i64 a.pr):=fun x0=>by rw[cR _ _ _ _ _ _ (hcl x0).1];rfl
   have yJ:∀ x0,(val x0).cell? ⟨W.heap.size,6,none⟩=some (.int .i64 a.q):=fun x0=>by rw[cR _ _ _ _ _ _ (hcl x0).1];rfl
   have wI:∀ x0,(val x0).cell? ⟨W.heap.size,7,none⟩=some (.int .i64 a.id):=fun x0=>by rw[cR _ _ _ _ _ _ (hcl x0).1];rfl
   have pH:∀ x0,(val x0).cell? ⟨q,1,none⟩=some (.slice a0 m pM):=fun x0=>(hcl x0).2;have M1:=hDq (aP _ ⟨ji.out,Oa.out⟩);have r_:=hDq (aP _ ⟨ei.out,CP.out⟩);have akd:=CP.out;clear aP hcl;refine um (val:=val) [6,7] 10 30 [0,1,2,3,4,5,6,7,8,9,10] (by kernel_rfl) (by kernel_rfl) x0 hx0 ?_;rw[hx0];clear hx0
   iterate 6 (refine bD rfl rfl (fun K hK=>?_);refine⟨by rfl,?_⟩;unfold aA;go_simp;refine hK _ ?_;clear hK K)
   refine lY rfl rfl (fun K hK=>?_);refine⟨by rfl,?_⟩;unfold aQ;go_simp;refine⟨M1.out,hK _ _ ?_⟩;clear hK K;refine lY rfl rfl (fun K hK=>?_);refine⟨by rfl,?_⟩;refine yF _ _ 24 rfl _ _ _ rfl rfl fg.out ?_;refine⟨r_.out,hK _ _ ?_⟩;clear hK K
   iterate 2 (refine bD rfl rfl (fun K hK=>?_);refine⟨by rfl,?_⟩;unfold aA;go_simp;refine hK _ ?_;clear hK K)
   refine uq rfl (fun K hK=>?_);refine⟨by rfl,?_⟩;unfold aQ;go_simp;refine hK _ _ ?_;clear hK K;go_wp2;go_end0;exact⟨rfl,X2,_,vr,by rw[HRR.out];exact HT.out.1,((ck.below HB2.out b0 B X).trans H2.out).trans HT.out.2⟩
end
namespace af
def same (a x:Ask):Bool:=x.it==a.it&&x.id==a.id
theorem NR (a:Ask) (l:List Ask):others a l=l.filter fun x=>!same a x:=rfl
theorem W9 (a:Ask) (l:List Ask) (x:Ask):others a (l++[x])=others a l++if same a x=true then [] else [x]:=by
 rw[NR,NR,List.filter_append];cases h:same a x <;> simp[h]
theorem Hq {l:List Ask} {k:Nat} (h:k<l.length):l.take (k+1)=l.take k++[bZ l k]:=by
 rw[List.take_succ_eq_append_getElem h];congr 2
 have:=Mt h
 rw[List.getElem?_eq_getElem h]at this;exact Option.some.inj this
theorem W_ {a:Ask} {l:List Ask} (h:∀ x∈l,same a x=false):others a l=l:=by
 rw[NR,List.filter_eq_self];intro x hx;rw[h x hx];rfl
end af
theorem Xa (A:Nat) (a x:Ask) (w:World) (hA:w.heap[A]?=some (.cells (aT a) 95 (0,0))) :
  Calls Tryz.prog 219 #[bM x,.pointer (some ⟨A,0,none⟩)] w fun e w'=>e=.returned (.bool (af.same a x))/\Below w.heap.size w w':=by
 have c3:w.cell? ⟨A,3,none⟩=some (.int .i64 a.it):=by rw[cR _ _ _ _ _ _ hA];rfl
 have c7:w.cell? ⟨A,7,none⟩=some (.int .i64 a.id):=by rw[cR _ _ _ _ _ _ hA];rfl
 have hlt:=lBq hA;have hs:af.same a x=(x.it==a.it&&x.id==a.id):=rfl;rw[hs];clear hA hs;cases h1:(x.it==a.it)
 all_goals
  unfold bM aT;go_enter Tryz.func219,Tryz.ntmps219;go_wp2;go_ret;refine⟨by simp,(bRq _ _).alloc (lRq _) _⟩
theorem zj {w:World} {base g n cap:Nat} {R:List Ask} (hrow:w.ownsRow base 95 8 (.slice (some ⟨g,0,none⟩) n cap) n (bl R)) {k:Nat} (hk:k<R.length) (hkn:k<n) :
  w.cell? ⟨g,k*8,none⟩=some (.int .u8 (bZ R k).k)/\w.cell? ⟨g,k*8+1,none⟩=some (.int .i64 (bZ R k).c)/\w.cell? ⟨g,k*8+2,none⟩=some (.int .i64 (bZ R k).sq)/\w.cell? ⟨g,k*8+3,none⟩=some (.int .i64 (bZ R k).it)/\w.cell? ⟨g,k*8+4,none⟩=some (.int .i64 (bZ R k).sd)/\w.cell? ⟨g,k*8+5,none⟩=some (.int .i64 (bZ R k).pr)/\w.cell? ⟨g,k*8+6,none⟩=some (.int .i64 (bZ R k).q)/\w.cell? ⟨g,k*8+7,none⟩=some (.int .i64 (bZ R k).id):=by
 have key:∀ j,j<8->w.cell? ⟨g,k*8+j,none⟩=(kI (bZ R k))[j]?:=fun j hj=>by
  rw[(ly hrow (k*8+j) (by omega)).2.2,af0 R k j hk hj]
 exact⟨key 0 (by decide),key 1 (by decide),key 2 (by decide),key 3 (by decide),key 4 (by decide),key 5 (by decide),key 6 (by decide),key 7 (by decide)⟩
theorem aje (base g n cap A:Nat) (a:Ask) (l:List Ask) (w:World) (hn':n<=100000) (pN:Hid (l.length=n)) (hrow:Hid (w.ownsRow base 95 8 (.slice (some ⟨g,0,none⟩) n cap) n (bl l))) (hA:Hid (w.heap[A]?=some (.cells (aT a) 95 (0,0)))) :
  Calls Tryz.prog 249 #[.slice (some ⟨g,0,none⟩) n cap,.func (.func 219) #[] #[.pointer (some ⟨A,0,none⟩)]] w fun e w'=>((e=.returned (.int .i64 (-1))/\∀ x∈l,af.same a x=false)\/∃ k,k<n/\e=.returned (.int .i64 (k:Nat))/\(∀ x∈l.take k,af.same a x=false)/\af.same a (bZ l k)=true)/\Below w.heap.size w w':=by
 go_enter Tryz.func249,Tryz.ntmps249;go_wp2
 go_loopw [8] (fun i wr=>∃ k:Nat,k<=n/\i=.int .i64 k/\(∀ x∈l.take k,af.same a x=false)/\Below w.heap.size w wr) (fun i _=>n-(intOf i).toNat)
 case atStart=>exact⟨0,Nat.zero_le _,rfl,by simp,bRq _ _⟩
 case round =>
  obtain⟨k,hk,rfl,hno,hb⟩:=hrel;have HN:=hDq hno;have HB:=hDq hb;clear hno hb;by_cases hlt:k<n
  ·have aX:(k:Int)<n:=by omega
   have hkl:k<l.length:=by rw[pN.out];exact hlt
   obtain⟨c0,c1,c2,c3,c4,c5,c6,c7⟩:=zj (dy hrow.out HB.out) hkl hlt;have HC:=hDq (Xa A a (bZ l k) wr (dS HB.out hA.out));have HT:=hDq (af.Hq hkl);obtain⟨x,rB⟩:∃ x,bZ l k=x:=⟨_,rfl⟩;rw[rB]at HC HT c0 c1 c2 c3 c4 c5 c6 c7;have HX:=hDq rB;clear rB;unfold bM aT at HC
   go_wp2_with fail
   refine HC.out.mono ?_;rintro e w2 ⟨rfl,hb2⟩;have HB2:=hDq (HB.out.trans (hb2.mono HB.out.size));clear hb2 c0 c1 c2 c3 c4 c5 c6 c7 HC;cases hx:af.same a x with
   | true =>
    have Hx:=hDq hx;clear hx;simp only[];go_wp2;go_ret;exact⟨.inr ⟨k,hlt,rfl,HN.out,by rw[HX.out];exact Hx.out⟩,HB2.out⟩
   | false =>
    have oQ:Hid (∀ y∈l.take (k+1),af.same a y=false):=fun y hy=>by
     rw[HT.out]at hy;rcases List.mem_append.1 hy with h | h
     ·exact HN.out y h
     ·rw[List.mem_singleton.1 h];exact hx
    clear hx;simp only[];go_wp2;exact⟨⟨k+1,by omega,by go_num,oQ.out,HB2.out⟩,by simp[intOf];omega⟩
  ·have aX:¬ (k:Int)<n:=by omega
   have dK:k=l.length:=by rw[pN.out];omega
   have hno:=HN.out;rw[dK,List.take_length]at hno;have oQ:=hDq hno;clear hno dK;go_wp2;go_ret;exact⟨.inl ⟨rfl,oQ.out⟩,HB.out⟩
theorem ajf (a:Option Addr) (f:Value) (w:World):Calls Tryz.prog 249 #[.slice a 0 0,f] w fun e w'=>e=.returned (.int .i64 (-1))/\w'=w:=by
 go_enter Tryz.func249,Tryz.ntmps249;go_wp2;refine wp_loop_rounds 1 ?_;rw[rounds_succ];go_wp2;go_ret;exact⟨rfl,rfl⟩
theorem ajg (w:World) (b o J c:Nat) (hJ:0<J) (hc:∀ j,j<J*8->(w.cell? ⟨b,o+j,none⟩).isSome=true) (hf:∀ j,j<J*8->w.frozen? ⟨b,o+j,none⟩=false) :
  ∃ zs:List Value,zs.length=J*8/\∀ ty,(Builtin.clear_ #[24] ty #[.slice (some ⟨b,o,none⟩) J c]).run Tryz.prog w=.ok (.tuple #[]) (w.setCells b o zs):=by
 obtain⟨zs,hzs⟩:∃ zs,zs=(Builtin.zeroCells (Value.agg #[.int .u8 0,.int .i64 0,.int .i64 0,.int .i64 0,.int .i64 0,.int .i64 0,.int .i64 0,.int .i64 0]).cells J).toList:=⟨_,rfl⟩;have Xb:(Value.agg #[.int .u8 0,.int .i64 0,.int .i64 0,.int .i64 0,.int .i64 0,.int .i64 0,.int .i64 0,.int .i64 0]).cells=#[.int .u8 0,.int .i64 0,.int .i64 0,.int .i64 0,.int .i64 0,.int .i64 0,.int .i64 0,.int .i64 0]:=by kernel_rfl
 have hl:zs.length=J*8:=by rw[hzs,Xb];simp[Builtin.zeroCells]
 have h1:∀ u∈zs,u.oneCell'=true:=by
  intro u hu;rw[hzs,Xb]at hu;simp only[Builtin.zeroCells,Array.toList_map,List.mem_map]at hu;obtain⟨i,_,rfl⟩:=hu;have:i%8=0\/i%8=1\/i%8=2\/i%8=3\/i%8=4\/i%8=5\/i%8=6\/i%8=7:=by omega
  show (#[(.int .u8 0:Value),.int .i64 0,.int .i64 0,.int .i64 0,.int .i64 0,.int .i64 0,.int .i64 0,.int .i64 0][i%8]!).oneCell'=true;rcases this with e | e | e | e | e | e | e | e <;> rw[e] <;> rfl
 have hst:=run_storeCells_cells (P:=Tryz.prog) b o zs 0 w (fun j hj=>by rw[hl]at hj;exact hc j hj) (fun j hj=>by rw[hl]at hj;exact hf j hj) h1;simp only[Nat.add_zero]at hst;refine⟨zs,hl,fun ty=>?_⟩;obtain⟨Xc,rfl⟩:∃ Xc,J=Xc+1:=⟨J-1,by omega⟩;simp[Builtin.clear_,run_underlying Tryz.underlying24,<- hzs,hst]
theorem ajh {w:World} {base g n cap:Nat} {R:List Ask} (hrow:w.ownsRow base 95 8 (.slice (some ⟨g,0,none⟩) n cap) n (bl R)) (hR:R.length=n) (hcap:n<=cap) {i:Nat} (hi:i<n) (x:Ask) :
  (w.setCells g (i*8) (kI x)).ownsRow base 95 8 (.slice (some ⟨g,0,none⟩) n cap) n (bl (R.take i++x::R.drop (i+1))):=by
 have e:bl (R.take i++x::R.drop (i+1))=(bl R).take (i*8)++kI x++(bl R).drop (i*8+(kI x).length):=by
  rw[ug,Uq R i (by omega),show i*8+(kI x).length=(i+1)*8 by show i*8+8=_;omega,Um R (i+1) (by omega),aAq];rfl
 have hl:(bl (R.take i++x::R.drop (i+1))).length=n*8:=by
  rw[mW];simp;omega
 exact Gl hrow (i*8) (kI x) n hcap (by show i*8+8<=_;omega) _ hl (lRq _) (by rw[<- e];exact List.take_of_length_le (by omega))
def Xd (w w':World) (e:Ending) (base:Nat) (v:Value) (l:List Ask):Prop :=
 ∃ v',e=.returned v'/\w'.ownsRow base 95 8 v' l.length (bl l)/\w.grownBy w' v.ownBlock
theorem aJ.aji {w w':World} {g:Nat} (h:aJ w w' (fun k=>k=g)):w.grownBy w' (some g):=⟨h.os,h.tape,h.output,h.size,fun k hk hn=>h.block k hk (fun e=>hn (by rw[e]))⟩
theorem ajj (base g n cap A:Nat) (a:Ask) (l:List Ask) (w:World) (hn':n<=100000) (hcap:n<=cap) (pN:Hid (l.length=n)) (hrow:Hid (w.ownsRow base 95 8 (.slice (some ⟨g,0,none⟩) n cap) n (bl l))) (hA:Hid (w.heap[A]?=some (.cells (aT a) 95 (0,0)))) (ajk:Hid (g≠A)) :
  Calls Tryz.prog 218 #[.slice (some ⟨g,0,none⟩) n cap,.func (.func 219) #[] #[.pointer (some ⟨A,0,none⟩)]] w fun e w'=>Xd w w' e base (.slice (some ⟨g,0,none⟩) n cap) (af.others a l):=by
 have HI:=hDq (aje base g n cap A a l w hn' pN hrow hA);go_enter Tryz.func218,Tryz.ntmps218
 go_wp2_with fail
 refine HI.out.mono ?_;rintro e w2 ⟨h1 | ⟨jg,hk0,rfl,hno,Xe⟩,hb2⟩
 ·obtain⟨rfl,hno⟩:=h1
  have Hr:=hDq (af.W_ hno);have HB2:=hDq hb2;clear hno hb2 HI;simp only[];go_wp2;go_ret;refine⟨_,rfl,?_,?_⟩
  ·rw[Hr.out,pN.out];exact dy hrow.out HB2.out
  ·exact⟨HB2.out.os,HB2.out.tape,HB2.out.output,HB2.out.size,fun k hk _=>HB2.out.block k hk⟩
 ·have hkl:jg<l.length:=by rw[pN.out];exact hk0
  have H0:Hid (af.others a (l.take (jg+1))=l.take jg):=by
   show _=_;rw[af.Hq hkl,af.W9,af.W_ hno,Xe];simp
  have HB2:=hDq hb2;clear hno Xe hb2 HI;have hne:¬ ((jg:Int) = -1):=by omega
  simp only[]
  go_wp2_with fail
  go_loopw [5,6] (fun iv NS wr=>∃ i j:Nat,i<j/\j<=n/\iv=.int .i64 i/\NS=.int .i64 j/\i=(af.others a (l.take j)).length/\wr.ownsRow base 95 8 (.slice (some ⟨g,0,none⟩) n cap) n (bl (af.others a (l.take j)++l.drop i))/\aJ w wr (fun k=>k=g)) (fun _ NS _=>n-(intOf NS).toNat)
  case atStart =>
   refine⟨jg,jg+1,by omega,hk0,rfl,by go_num,?_,?_,aJ.of_below HB2.out _⟩
   ·rw[H0.out,lKq];omega
   ·rw[H0.out,List.take_append_drop];exact dy hrow.out HB2.out
  case round =>
   obtain⟨i,j,hij,hj,rfl,rfl,hi,hr,ht⟩:=hrel;have HR:=hDq hr;have HT:=hDq ht;have HL:=hDq hi;clear hr ht hi;have hin:(i:Int)<n:=by omega
   by_cases hlt:j<n
   ·have bC:(j:Int)<n:=by omega
    have uP:j<l.length:=by rw[pN.out];exact hlt
    have vW:(af.others a (l.take j)++l.drop i).length=n:=by
     rw[lAq,<- HL.out,List.length_drop,pN.out];omega
    have hat:bZ (af.others a (l.take j)++l.drop i) j=bZ l j:=by
     unfold bZ;rw[gE,gE,List.getElem?_append_right (by rw[<- HL.out];omega),<- HL.out,List.getElem?_drop];congr 2;omega
    obtain⟨c0,c1,c2,c3,c4,c5,c6,c7⟩:=zj HR.out (by rw[vW];exact hlt) hlt;rw[hat]at c0 c1 c2 c3 c4 c5 c6 c7;have jo:g<wr.heap.size:=bCq _ _ c0;have aoX:g≠wr.heap.size:=by omega
    have pn:Hid (af.others a (l.take (j+1))=af.others a (l.take j)++if af.same a (bZ l j)=true then [] else [bZ l j]):=by
     show _=_;rw[af.Hq uP,af.W9]
    have pQ:=hDq vW;have HC:Hid (∀ W',Below wr.heap.size wr W'->Calls Tryz.prog 219 #[bM (bZ l j),.pointer (some ⟨A,0,none⟩)] W' fun e w'=>e=.returned (.bool (af.same a (bZ l j)))/\Below W'.heap.size W' w'):=fun W' hb=>Xa A a (bZ l j) W' (dS hb ((HT.out.block A (lBq hA.out) (fun e=>ajk.out e.symm)).trans hA.out));clear hat vW;generalize bZ l j=x at *;have ar:Hid (Below wr.heap.size wr (wr.alloc (.cells (aT x) 95))):=(bRq _ _).alloc (lRq _) _;have dX:=hDq (hNq wr (.cells (aT x) 95));unfold bM aT at *
    go_wp2_with fail
    refine(HC.out _ ar.out).mono ?_;rintro e w4 ⟨rfl,hb4⟩;have bQ:=hDq (ar.out.trans (hb4.mono ar.out.size));have kt:=hDq (dS hb4 dX.out);have bO:=hDq (dy HR.out bQ.out);have Xf:Hid (aJ w w4 (fun k=>k=g)):=HT.out.trans (aJ.of_below bQ.out _) (fun _ h=>.inl h);have aoY:wr.heap.size<w4.heap.size:=lBq kt.out;clear hb4 HC ar dX c0 c1 c2 c3 c4 c5 c6 c7;cases hx:af.same a x with
    | true =>
     rw[hx,if_pos rfl,aNq]at pn;clear hx;simp only[];go_wp2;refine⟨⟨i,j+1,by omega,hlt,rfl,by go_num,?_,?_,Xf.out⟩,by simp[intOf];omega⟩
     ·rw[pn.out];exact HL.out
     ·rw[pn.out];exact bO.out
    | false =>
     rw[hx,if_neg (by decide)]at pn;clear hx;obtain⟨d0,d1,d2,d3,d4,d5,iG,l5⟩:=zj bO.out (k:=i) (by rw[pQ.out];omega) (by omega);generalize bZ (af.others a (l.take j)++l.drop i) i=y at *;have f0:w4.frozen? ⟨g,i*8,none⟩=false:=(ly bO.out (i*8) (by omega)).2.1;have f1:w4.frozen? ⟨g,i*8+1,none⟩=false:=(ly bO.out (i*8+1) (by omega)).2.1;have f2:w4.frozen? ⟨g,i*8+2,none⟩=false:=(ly bO.out (i*8+2) (by omega)).2.1;have f3:w4.frozen? ⟨g,i*8+3,none⟩=false:=(ly bO.out (i*8+3) (by omega)).2.1;have f4:w4.frozen? ⟨g,i*8+4,none⟩=false:=(ly bO.out (i*8+4) (by omega)).2.1;have f5:w4.frozen? ⟨g,i*8+5,none⟩=false:=(ly bO.out (i*8+5) (by omega)).2.1;have f6:w4.frozen? ⟨g,i*8+6,none⟩=false:=(ly bO.out (i*8+6) (by omega)).2.1;have f7:w4.frozen? ⟨g,i*8+7,none⟩=false:=(ly bO.out (i*8+7) (by omega)).2.1;have b0:w4.cell? ⟨wr.heap.size,0,none⟩=some (.int .u8 x.k):=by rw[cR _ _ _ _ _ _ kt.out];rfl
     have b1:w4.cell? ⟨wr.heap.size,1,none⟩=some (.int .i64 x.c):=by rw[cR _ _ _ _ _ _ kt.out];rfl
     have b2:w4.cell? ⟨wr.heap.size,2,none⟩=some (.int .i64 x.sq):=by rw[cR _ _ _ _ _ _ kt.out];rfl
     have b3:w4.cell? ⟨wr.heap.size,3,none⟩=some (.int .i64 x.it):=by rw[cR _ _ _ _ _ _ kt.out];rfl
     have b4:w4.cell? ⟨wr.heap.size,4,none⟩=some (.int .i64 x.sd):=by rw[cR _ _ _ _ _ _ kt.out];rfl
     have b5:w4.cell? ⟨wr.heap.size,5,none⟩=some (.int .i64 x.pr):=by rw[cR _ _ _ _ _ _ kt.out];rfl
     have b6:w4.cell? ⟨wr.heap.size,6,none⟩=some (.int .i64 x.q):=by rw[cR _ _ _ _ _ _ kt.out];rfl
     have b7:w4.cell? ⟨wr.heap.size,7,none⟩=some (.int .i64 x.id):=by rw[cR _ _ _ _ _ _ kt.out];rfl
     have HP:=hDq (ajh bO.out pQ.out hcap (i:=i) (by omega) x);have ajl:Hid (aJ w (w4.setCells g (i*8) (kI x)) (fun k=>k=g)):=Xf.out.trans (aJ.setCells w4 g (kI x) (i*8)) (fun _ h=>.inl h);have HE:Hid ((af.others a (l.take j)++l.drop i).take i++x::(af.others a (l.take j)++l.drop i).drop (i+1)=af.others a (l.take (j+1))++l.drop (i+1)):=by
      show _=_;rw[pn.out];have hl:=HL.out;generalize af.others a (l.take j)=O at *;subst hl;rw[List.take_left,List.drop_append,List.drop_of_length_le (by omega),List.nil_append,List.drop_drop,show O.length+(O.length+1-O.length)=O.length+1 by omega];simp
     rw[HE.out]at HP;simp only[];go_wp2;refine⟨⟨i+1,j+1,by omega,hlt,by go_num,by go_num,?_,HP.out,ajl.out⟩,by simp[intOf];omega⟩;rw[pn.out,lAq,<- HL.out];rfl
   ·have bC:¬ (j:Int)<n:=by omega
    obtain rfl:j=n:=by omega
    have abj:i≠cap:=by omega
    obtain⟨zs,hzl,hcl⟩:=ajg wr g (i*8) (j-i) (cap-i) (by omega) (fun t ht=>(ly HR.out _ (by omega)).1) (fun t ht=>(ly HR.out _ (by omega)).2.1);have hO:af.others a (l.take j)=af.others a l:=by rw[<- pN.out,List.take_length]
    have eG:Hid ((wr.setCells g (i*8) zs).ownsRow base 95 8 (.slice (some ⟨g,0,none⟩) i cap) i (bl (af.others a l))):=by
     have hl:=HL.out;rw[hO]at hl;have hr:=HR.out;rw[hO]at hr;refine Gl hr (i*8) zs i (by omega) (by rw[hzl];omega) _ (by rw[mW,<- hl]) (by omega) ?_;rw[Uq _ i (by rw[lAq];omega),aAq,List.take_append_of_le_length (by rw[mW,lKq,lAq];omega)];rw[show (af.others a l++l.drop i).take i=af.others a l by rw[hl,List.take_left],List.take_of_length_le (by rw[mW,<- hl];omega)]
    have ajm:Hid (aJ w (wr.setCells g (i*8) zs) (fun k=>k=g)):=HT.out.trans (aJ.setCells wr g zs (i*8)) (fun _ h=>.inl h);have ajn:Hid (i=(af.others a l).length):=by rw[<- hO];exact HL.out
    have aoZ:i<=cap:=by omega
    have ao0:i<=j:=by omega
    clear hO hzl;go_wp2;go_ret;exact⟨_,rfl,by rw[<- ajn.out];exact eG.out,ajm.out.aji⟩
theorem ajb (base A:Nat) (v:Value) (a:Ask) (l:List Ask) (w:World) (hn:l.length<=100000) (hrow:w.ownsRow base 95 8 v l.length (bl l)) (hA:w.heap[A]?=some (.cells (aT a) 95 (0,0))) (hne:v.ownBlock≠some A) :
  Calls Tryz.prog 218 #[v,.func (.func 219) #[] #[.pointer (some ⟨A,0,none⟩)]] w fun e w'=>Xd w w' e base v (af.others a l):=by
 rcases hrow.2 with ⟨rfl,hl⟩ | ⟨g,cap,cur,rfl,_,_,hcap,_⟩
 ·have e:l=[]:=List.length_eq_zero_iff.1 hl
  subst e;have HI:=hDq (fun f=>ajf none f w);have HR:=hDq hrow;clear hrow hA hne hn hl;go_enter Tryz.func218,Tryz.ntmps218
  go_wp2_with fail
  refine(HI.out _).mono ?_;rintro e w2 ⟨rfl,rfl⟩;simp only[];go_wp2;go_ret;exact⟨_,rfl,HR.out,⟨rfl,rfl,rfl,lRq _,fun _ _ _=>rfl⟩⟩
 ·exact ajj base g l.length cap A a l w hn hcap rfl hrow hA (fun e=>hne (by rw[e];rfl))
section
variable {w W W':World} {ad:Nat->Addr} {b0 q:Nat} {B:cJ} {X X' X2:cy} {wd h seed:Int} {S:af.St} {vp vr:Value} {r:af.di}
theorem bR.Hg {D:Nat} {cur:Array Value} {fz:Nat×Nat} (R:bR w b0 W B X wd h seed S q vp vr r) (hk:W.heap[D]?=some (.cells cur 197 fz)) (hD:¬ eT B X D) (hs:aM W W' D) (hlo:w.heap.size<=D):bR w b0 W' B X wd h seed S q vp vr r:=by
 have ht:aJ W W' (fun k=>k=D):=⟨hs.os,hs.tape,hs.output,hs.size,fun k hk hn=>hs.block k hk hn⟩;have key:∀ {base:Nat} {e:TypeId} {sz n:Nat} {v:Value} {xs:List Value},W.ownsRow base e sz v n xs->e≠197->W'.ownsRow base e sz v n xs:=fun {base e sz n v xs} qc hne=>fR qc ht (fun k hk2 e1=>by
  obtain⟨_,cur,h2⟩:=ep qc hk2;exact aF h2 hk hne e1)
 refine⟨R.bP.aside ht (aF R.bP.fl.blk hk (by decide)) (fun k hv e=>hD (by rw[<- e];exact hv)) (fun k e=>by rw[e];exact hlo),?_,key R.pl (by decide),key R.rp (by decide),R.lo,R.ma,lTq R.hib hs.size,R.w7,R.all⟩;rw[hs.block q (lBq R.blk) (aF R.blk hk (by decide))];exact R.blk
theorem ai8 (a:Ask) (W:World) (R:Hid (bR w b0 W B X wd h seed S q vp vr r)) (hs:Hid (bT w ad)) (hn:r.rp.length<=100000) (hp:r.pl.length<=100000) :
  Calls Tryz.prog 189 #[.pointer (some ⟨q,0,none⟩),bM a] W fun e w'=>e=.returned (.tuple #[])/\Cr w b0 W w' B X wd h seed S q (af.w8 r a):=by
 have cH:Hid (bR w b0 (W.alloc (.cells (aT a) 95)) B X wd h seed S q vp vr r):=R.out.later ((bRq _ _).alloc (lRq _) _);have HB1:Hid (Below W.heap.size W (W.alloc (.cells (aT a) 95))):=(bRq _ _).alloc (lRq _) _;have HA1:=hDq (hNq W (.cells (aT a) 95));have HW1:Hid (W.heap.size<(W.alloc (.cells (aT a) 95)).heap.size):=by show _<_;simp
 have HP:Hid (∀ W',Below (W.alloc (.cells (aT a) 95)).heap.size (W.alloc (.cells (aT a) 95)) W'->Calls Tryz.prog 217 #[.pointer (some ⟨B.F,0,none⟩),bM a] W' fun e w'=>e=.returned (.tuple #[bS (Fl.fD r.L a),cV (qN ad) (Fl.dx r.L r.pf a)])/\∃ X',bR w b0 w' B X' wd h seed S q vp vr { r with L:=Fl.eu r.L a,pf:=Fl.jG r.L r.pf a }/\ck W' w' b0 B X X'/\aJ W' w' (fun k=>nk B X k)):=fun W' hb=>by
  have R':=cH.out.later hb;refine(adK a R'.fl hs.out.Ct R'.all.ok).mono ?_;rintro e w' ⟨rfl,v',h1,h2⟩;exact⟨rfl,_,R'.floor h1 h2 ⟨R'.all.ok.cancel a,R'.all.ql,R'.all.rule⟩⟩
 have hle:=Fl.ai9 r.L r.pf a;have HRR:Hid (af.w8 r a = { r with L:=Fl.eu r.L a,pf:=Fl.jG r.L r.pf a,pl:=if Fl.dx r.L r.pf a=0 then af.others a r.pl else r.pl,rp:=r.rp++if Fl.dx r.L r.pf a=0 then [af.tell af.pP (Fl.fD r.L a)] else [af.fZ a.c a.id (Fl.dx r.L r.pf a+1)] }):=rfl;generalize af.w8 r a=rr at *;generalize Fl.dx r.L r.pf a=pc at *;generalize Fl.fD r.L a=x at *;obtain⟨rL,NM⟩:∃ rL:af.di,rL = { r with L:=Fl.eu r.L a,pf:=Fl.jG r.L r.pf a }:=⟨_,rfl⟩;rw[<- NM]at HP;have pQ:=hDq NM;clear NM;have ho:∀ k,nk B X k->k<W.heap.size:=fun k hk=>NN R.out.bP hk;cases pc with
 | succ d =>
  rw[show cV (qN ad) (d+1)=.iface 412 (.pointer (some (ad (d+1)))) from rfl]at HP;rw[if_neg (by omega),if_neg (by omega)]at HRR;unfold bM aT bS at *;go_enter Tryz.func189,Tryz.ntmps189;go_wp2;generalize W.alloc (.cells #[.int .u8 a.k,.int .i64 a.c,.int .i64 a.sq,.int .i64 a.it,.int .i64 a.sd,.int .i64 a.pr,.int .i64 a.q,.int .i64 a.id] 95)=W1 at *;obtain⟨bG,val,hcl,aP⟩:=Cu (fun W'=>W'.heap[W.heap.size]?=some (.cells #[.int .u8 a.k,.int .i64 a.c,.int .i64 a.sq,.int .i64 a.it,.int .i64 a.sd,.int .i64 a.pr,.int .i64 a.q,.int .i64 a.id] 95 (0,0))/\W'.cell? ⟨q,0,none⟩=some (.pointer (some ⟨B.F,0,none⟩)));have aN:Hid (∀ W',W'.heap[W.heap.size]?=some (.cells #[.int .u8 a.k,.int .i64 a.c,.int .i64 a.sq,.int .i64 a.it,.int .i64 a.sd,.int .i64 a.pr,.int .i64 a.q,.int .i64 a.id] 95 (0,0))->W'.cell? ⟨q,0,none⟩=some (.pointer (some ⟨B.F,0,none⟩))->∃ x,val x=W'):=fun W' h1 h2=>aP W' ⟨h1,h2⟩;obtain⟨x0,hx0⟩:=aN.out W1.drew HA1.out cH.out.cells.1;have hnx:Nonempty bG:=⟨x0⟩;have s0:∀ x0,(val x0).cell? ⟨W.heap.size,0,none⟩=some (.int .u8 a.k):=fun x0=>by rw[cR _ _ _ _ _ _ (hcl x0).1];rfl
  have s1:∀ x0,(val x0).cell? ⟨W.heap.size,1,none⟩=some (.int .i64 a.c):=fun x0=>by rw[cR _ _ _ _ _ _ (hcl x0).1];rfl
  have s2:∀ x0,(val x0).cell? ⟨W.heap.size,2,none⟩=some (.int .i64 a.sq):=fun x0=>by rw[cR _ _ _ _ _ _ (hcl x0).1];rfl
  have s3:∀ x0,(val x0).cell? ⟨W.heap.size,3,none⟩=some (.int .i64 a.it):=fun x0=>by rw[cR _ _ _ _ _ _ (hcl x0).1];rfl
  have l4:∀ x0,(val x0).cell? ⟨W.heap.size,4,none⟩=some (.int .i64 a.sd):=fun x0=>by rw[cR _ _ _ _ _ _ (hcl x0).1];rfl
  have yI:∀ x0,(val x0).cell? ⟨W.heap.size,5,none⟩=some (.int .i64 a.pr):=fun x0=>by rw[cR _ _ _ _ _ _ (hcl x0).1];rfl
  have yJ:∀ x0,(val x0).cell? ⟨W.heap.size,6,none⟩=some (.int .i64 a.q):=fun x0=>by rw[cR _ _ _ _ _ _ (hcl x0).1];rfl
  have wI:∀ x0,(val x0).cell? ⟨W.heap.size,7,none⟩=some (.int .i64 a.id):=fun x0=>by rw[cR _ _ _ _ _ _ (hcl x0).1];rfl
  have pH:∀ x0,(val x0).cell? ⟨q,0,none⟩=some (.pointer (some ⟨B.F,0,none⟩)):=fun x0=>(hcl x0).2;obtain⟨w4,hw4⟩:∃ w4,W1.drew=w4:=⟨_,rfl⟩;have dm:Hid (Below W1.heap.size W1 w4):=by rw[<- hw4];exact dG
  clear aP hcl;refine tJ (val:=val) (fun D ai=>∃ X2,bR w b0 ai B X2 wd h seed S q vp vr rL/\ck W1 ai b0 B X X2/\ai.heap[D]?=some (.cells #[.int .i64 x.id,.int .i64 x.ak,.int .i64 x.sd,.int .i64 x.pr,.int .i64 x.q] 197 (0,0))/\W1.heap.size<=D/\ai.heap[W.heap.size]?=some (.cells #[.int .u8 a.k,.int .i64 a.c,.int .i64 a.sq,.int .i64 a.it,.int .i64 a.sd,.int .i64 a.pr,.int .i64 a.q,.int .i64 a.id] 95 (0,0))) (.read 0 (.read 1 (.read 2 (.read 3 (.read 4 (.two 5 (.read 6 (.read 7 (.read 8 (.one 9 (.one 10 (.read 11 .done)))))) 9 (.one 5 (.read 6 (.read 7 (.read 8 (.one 10 (.read 11 .done)))))))))))) (by kernel_rfl) (by kernel_rfl) x0 hx0 ?_;apply Exists.intro;refine⟨?_,?_⟩
  case' refine_1 =>
   rw[hx0,hw4]
   iterate 5 (refine cu rfl (fun K hK=>?_);refine⟨by rfl,?_⟩;unfold aA;go_simp;refine hK _ ?_;clear hK K)
   refine⟨?_,?_⟩
   case refine_1 =>
    refine bW rfl (fun K hK=>?_);refine⟨by rfl,?_⟩;unfold aQ;go_simp;refine(HP.out _ dm.out).mono ?_;rintro e wc ⟨rfl,X2,h1,h2,h3⟩;have sO:=hDq h1;have Cw:=hDq ((ck.below dm.out b0 B X).trans h2);have w9:=hDq ((h3.block W.heap.size (Nat.lt_of_lt_of_le HW1.out dm.out.size) (fun e=>by have:=ho _ e;omega)).trans (dS dm.out HA1.out));have Cx:Hid (W1.heap.size<=wc.heap.size):=lTq dm.out.size h2.turned.size;refine⟨_,rfl,aN.out _ w9.out sO.out.cells.1,hK _ _ ?_⟩;clear hK K h1 h2 h3
    iterate 3 (refine cu rfl (fun K hK=>?_);refine⟨by rfl,?_⟩;unfold aA;go_simp;refine hK _ ?_;clear hK K)
    refine bW rfl (fun K hK=>?_);refine⟨by rfl,?_⟩;unfold aQ;go_simp;have hba:Below wc.heap.size wc (wc.alloc (.cells #[.int .i64 0,.int .i64 0,.int .i64 0,.int .i64 0,.int .i64 0] 197)):=(bRq _ _).alloc (lRq _) _;have au:=hDq (hNq wc (.cells #[.int .i64 0,.int .i64 0,.int .i64 0,.int .i64 0,.int .i64 0] 197));have eG:=hDq (sO.out.later hba);have lp:=hDq (Cw.out.trans (ck.below hba b0 B X2));have lz:=hDq (dS hba w9.out);have qO:Hid (¬ eT B X2 wc.heap.size):=fun e=>by have:=(sO.out.bP.fe e).2;omega
    have er:=hDq Cx.out;refine⟨aN.out _ lz.out eG.out.cells.1,hK _ _ ?_⟩;clear hK K hba sO Cw w9 Cx;generalize wc.alloc (.cells #[.int .i64 0,.int .i64 0,.int .i64 0,.int .i64 0,.int .i64 0] 197)=aj at *;generalize wc.heap.size=aI at *;have c0:aj.cell? ⟨aI,0,none⟩=some (.int .i64 0):=by rw[cR _ _ _ _ _ _ au.out];rfl
    have f0:aj.frozen? ⟨aI,0,none⟩=false:=by simp[World.frozen?,au.out]
    have c1:aj.cell? ⟨aI,1,none⟩=some (.int .i64 0):=by rw[cR _ _ _ _ _ _ au.out];rfl
    have f1:aj.frozen? ⟨aI,1,none⟩=false:=by simp[World.frozen?,au.out]
    have c2:aj.cell? ⟨aI,2,none⟩=some (.int .i64 0):=by rw[cR _ _ _ _ _ _ au.out];rfl
    have f2:aj.frozen? ⟨aI,2,none⟩=false:=by simp[World.frozen?,au.out]
    have c3:aj.cell? ⟨aI,3,none⟩=some (.int .i64 0):=by rw[cR _ _ _ _ _ _ au.out];rfl
    have f3:aj.frozen? ⟨aI,3,none⟩=false:=by simp[World.frozen?,au.out]
    have c4:aj.cell? ⟨aI,4,none⟩=some (.int .i64 0):=by rw[cR _ _ _ _ _ _ au.out];rfl
    have f4:aj.frozen? ⟨aI,4,none⟩=false:=by simp[World.frozen?,au.out]
    have HX:=hDq (nP au.out x.id x.ak x.sd x.pr x.q);have cG:=hDq (vN aj aI (.int .i64 x.id) (.int .i64 x.ak) (.int .i64 x.sd) (.int .i64 x.pr) (.int .i64 x.q));have pR:=hDq (eG.out.Hg au.out qO.out cG.out (lTq R.out.ma (lTq R.out.hib (lTq HB1.out.size er.out))));have w_:=hDq (lp.out.trans (ck.high (b0:=b0) ⟨cG.out.os,cG.out.tape,cG.out.output,cG.out.size,fun k hk hn=>cG.out.block k hk (fun e=>hn (by rw[e];exact lTq R.out.hib (lTq HB1.out.size er.out)))⟩ B X2));have l6:=hDq ((cG.out.block W.heap.size (lBq lz.out) (by have:=er.out;have:=HW1.out;omega)).trans lz.out);refine bW rfl (fun K hK=>?_);refine⟨by rfl,?_⟩;unfold aQ;go_simp;refine⟨aN.out _ l6.out pR.out.cells.1,hK _ _ ?_⟩;clear hK K c0 c1 c2 c3 c4 f0 f1 f2 f3 f4;generalize ((((aj.setCell ⟨aI,0,none⟩ (.int .i64 x.id)).setCell ⟨aI,1,none⟩ (.int .i64 x.ak)).setCell ⟨aI,2,none⟩ (.int .i64 x.sd)).setCell ⟨aI,3,none⟩ (.int .i64 x.pr)).setCell ⟨aI,4,none⟩ (.int .i64 x.q)=wx at *;refine cu rfl (fun K hK=>?_);refine⟨by rfl,?_⟩;unfold aA;go_simp;refine hK _ ?_;clear hK K;refine iT ?_;exact⟨aI,rfl,X2,pR.out,w_.out,HX.out,er.out,l6.out⟩
   case refine_2 =>
    refine bW rfl (fun K hK=>?_);refine⟨by rfl,?_⟩;unfold aQ;go_simp;have hba:Below w4.heap.size w4 (w4.alloc (.cells #[.int .i64 0,.int .i64 0,.int .i64 0,.int .i64 0,.int .i64 0] 197)):=(bRq _ _).alloc (lRq _) _;have cO:Hid (Below W1.heap.size W1 (w4.alloc (.cells #[.int .i64 0,.int .i64 0,.int .i64 0,.int .i64 0,.int .i64 0] 197))):=dm.out.alloc dm.out.size _;have jH:=hDq (hNq w4 (.cells #[.int .i64 0,.int .i64 0,.int .i64 0,.int .i64 0,.int .i64 0] 197));have er:Hid (W1.heap.size<=w4.heap.size):=dm.out.size;have lq:Hid (w4.heap.size<(w4.alloc (.cells #[.int .i64 0,.int .i64 0,.int .i64 0,.int .i64 0,.int .i64 0] 197)).heap.size):=by show _<_;simp
    have Cy:=cH.out.later cO.out;refine⟨aN.out _ (dS cO.out HA1.out) Cy.cells.1,hK _ _ ?_⟩;clear hK K hba Cy;generalize w4.alloc (.cells #[.int .i64 0,.int .i64 0,.int .i64 0,.int .i64 0,.int .i64 0] 197)=ij at *;generalize w4.heap.size=aI at *;refine bW rfl (fun K hK=>?_);refine⟨by rfl,?_⟩;unfold aQ;go_simp;refine(HP.out _ cO.out).mono ?_;rintro e aj ⟨rfl,X2,h1,h2,h3⟩;have au:=hDq ((h3.block aI lq.out (fun e=>by have:=ho _ e;have:=er.out;have:=HW1.out;omega)).trans jH.out);have eG:=hDq h1;have lp:=hDq ((ck.below cO.out b0 B X).trans h2);have lz:=hDq ((h3.block W.heap.size (Nat.lt_of_lt_of_le HW1.out cO.out.size) (fun e=>by have:=ho _ e;omega)).trans (dS cO.out HA1.out));have qO:Hid (¬ eT B X2 aI):=fun e=>by
     have hq:=h2.qv;have hd:=h2.bH;have hlt:∀ k,eT B X k->k<W.heap.size:=fun k hk=>(R.out.bP.fe hk).2;have ku:aI<W.heap.size\/ij.heap.size<=aI:=by
      rcases e with e | e | e | e | e | e
      ·exact .inl (by rw[e];exact hlt _ (.inl rfl))
      ·exact .inl (by rw[e];exact hlt _ (.inr (.inl rfl)))
      ·rcases h2.new aI (.inr e) with h8 | h8
       ·exact .inl (ho _ h8)
       ·exact .inr h8
      ·rw[hq]at e;exact .inl (hlt _ (.inr (.inr (.inr (.inl e)))))
      ·exact .inl (by rw[e];exact hlt _ (.inr (.inr (.inr (.inr (.inl rfl))))))
      ·rw[hd]at e;exact .inl (hlt _ (.inr (.inr (.inr (.inr (.inr e))))))
     have:=lq.out;have:=er.out;have:=HW1.out
     omega
    refine⟨_,rfl,aN.out _ lz.out eG.out.cells.1,hK _ _ ?_⟩;clear hK K h1 h2 h3 jH cO lq
    iterate 3 (refine cu rfl (fun K hK=>?_);refine⟨by rfl,?_⟩;unfold aA;go_simp;refine hK _ ?_;clear hK K)
    have c0:aj.cell? ⟨aI,0,none⟩=some (.int .i64 0):=by rw[cR _ _ _ _ _ _ au.out];rfl
    have f0:aj.frozen? ⟨aI,0,none⟩=false:=by simp[World.frozen?,au.out]
    have c1:aj.cell? ⟨aI,1,none⟩=some (.int .i64 0):=by rw[cR _ _ _ _ _ _ au.out];rfl
    have f1:aj.frozen? ⟨aI,1,none⟩=false:=by simp[World.frozen?,au.out]
    have c2:aj.cell? ⟨aI,2,none⟩=some (.int .i64 0):=by rw[cR _ _ _ _ _ _ au.out];rfl
    have f2:aj.frozen? ⟨aI,2,none⟩=false:=by simp[World.frozen?,au.out]
    have c3:aj.cell? ⟨aI,3,none⟩=some (.int .i64 0):=by rw[cR _ _ _ _ _ _ au.out];rfl
    have f3:aj.frozen? ⟨aI,3,none⟩=false:=by simp[World.frozen?,au.out]
    have c4:aj.cell? ⟨aI,4,none⟩=some (.int .i64 0):=by rw[cR _ _ _ _ _ _ au.out];rfl
    have f4:aj.frozen? ⟨aI,4,none⟩=false:=by simp[World.frozen?,au.out]
    have HX:=hDq (nP au.out x.id x.ak x.sd x.pr x.q);have cG:=hDq (vN aj aI (.int .i64 x.id) (.int .i64 x.ak) (.int .i64 x.sd) (.int .i64 x.pr) (.int .i64 x.q));have pR:=hDq (eG.out.Hg au.out qO.out cG.out (lTq R.out.ma (lTq R.out.hib (lTq HB1.out.size er.out))));have w_:=hDq (lp.out.trans (ck.high (b0:=b0) ⟨cG.out.os,cG.out.tape,cG.out.output,cG.out.size,fun k hk hn=>cG.out.block k hk (fun e=>hn (by rw[e];exact lTq R.out.hib (lTq HB1.out.size er.out)))⟩ B X2));have l6:=hDq ((cG.out.block W.heap.size (lBq lz.out) (by have:=er.out;have:=HW1.out;omega)).trans lz.out);refine bW rfl (fun K hK=>?_);refine⟨by rfl,?_⟩;unfold aQ;go_simp;refine⟨aN.out _ l6.out pR.out.cells.1,hK _ _ ?_⟩;clear hK K c0 c1 c2 c3 c4 f0 f1 f2 f3 f4;generalize ((((aj.setCell ⟨aI,0,none⟩ (.int .i64 x.id)).setCell ⟨aI,1,none⟩ (.int .i64 x.ak)).setCell ⟨aI,2,none⟩ (.int .i64 x.sd)).setCell ⟨aI,3,none⟩ (.int .i64 x.pr)).setCell ⟨aI,4,none⟩ (.int .i64 x.q)=wx at *;refine cu rfl (fun K hK=>?_);refine⟨by rfl,?_⟩;unfold aA;go_simp;refine hK _ ?_;clear hK K;refine iT ?_;exact⟨aI,rfl,X2,pR.out,w_.out,HX.out,er.out,l6.out⟩
  intro D ai ⟨X2,h1,h2,h3,h4,h5⟩;clear hx0 hw4 s0 s1 s2 s3 l4 yI yJ wI pH aN dm;clear x0 hnx;clear val;clear bG;have bA:=hDq h1;have eM:=hDq ((ck.below HB1.out b0 B X).trans h2);have HD6:=hDq h3;have gL:=hDq h5;have aja:=hDq h4;clear h1 h2 h3 h4 h5;have jg:ai.cell? ⟨W.heap.size,0,none⟩=some (.int .u8 a.k):=by rw[cR _ _ _ _ _ _ gL.out];rfl
  have k1:ai.cell? ⟨W.heap.size,1,none⟩=some (.int .i64 a.c):=by rw[cR _ _ _ _ _ _ gL.out];rfl
  have k2:ai.cell? ⟨W.heap.size,2,none⟩=some (.int .i64 a.sq):=by rw[cR _ _ _ _ _ _ gL.out];rfl
  have k3:ai.cell? ⟨W.heap.size,3,none⟩=some (.int .i64 a.it):=by rw[cR _ _ _ _ _ _ gL.out];rfl
  have k4:ai.cell? ⟨W.heap.size,4,none⟩=some (.int .i64 a.sd):=by rw[cR _ _ _ _ _ _ gL.out];rfl
  have pC:ai.cell? ⟨W.heap.size,5,none⟩=some (.int .i64 a.pr):=by rw[cR _ _ _ _ _ _ gL.out];rfl
  have k6:ai.cell? ⟨W.heap.size,6,none⟩=some (.int .i64 a.q):=by rw[cR _ _ _ _ _ _ gL.out];rfl
  have k7:ai.cell? ⟨W.heap.size,7,none⟩=some (.int .i64 a.id):=by rw[cR _ _ _ _ _ _ gL.out];rfl
  have HF:=hDq (W8 a (d+1) (by omega) ai hs bA.out (by rw[pQ.out];exact hn));unfold bM aT at HF
  go_wp2_with fail
  refine HF.out.mono ?_;rintro e bq ⟨rfl,uN,h3,h4,_⟩;have H3:=hDq h3;have cP:=hDq (eM.out.trans h4);clear h3 h4;simp only[];go_wp2;refine bodyPost_ret (v:=.tuple #[]) (by simp[results,Tryz.results189]) rfl ?_;refine⟨rfl,X2,vp,uN,?_,cP.out⟩;have ku:=H3.out;rw[pQ.out]at ku;rw[HRR.out];exact ku
 | zero =>
  rw[show cV (qN ad) 0=.nilIface from rfl]at HP;rw[if_pos rfl,if_pos rfl]at HRR;unfold bM aT bS at *;go_enter Tryz.func189,Tryz.ntmps189;go_wp2;generalize W.alloc (.cells #[.int .u8 a.k,.int .i64 a.c,.int .i64 a.sq,.int .i64 a.it,.int .i64 a.sd,.int .i64 a.pr,.int .i64 a.q,.int .i64 a.id] 95)=W1 at *;obtain⟨bG,val,hcl,aP⟩:=Cu (fun W'=>W'.heap[W.heap.size]?=some (.cells #[.int .u8 a.k,.int .i64 a.c,.int .i64 a.sq,.int .i64 a.it,.int .i64 a.sd,.int .i64 a.pr,.int .i64 a.q,.int .i64 a.id] 95 (0,0))/\W'.cell? ⟨q,0,none⟩=some (.pointer (some ⟨B.F,0,none⟩)));have aN:Hid (∀ W',W'.heap[W.heap.size]?=some (.cells #[.int .u8 a.k,.int .i64 a.c,.int .i64 a.sq,.int .i64 a.it,.int .i64 a.sd,.int .i64 a.pr,.int .i64 a.q,.int .i64 a.id] 95 (0,0))->W'.cell? ⟨q,0,none⟩=some (.pointer (some ⟨B.F,0,none⟩))->∃ x,val x=W'):=fun W' h1 h2=>aP W' ⟨h1,h2⟩;obtain⟨x0,hx0⟩:=aN.out W1.drew HA1.out cH.out.cells.1;have hnx:Nonempty bG:=⟨x0⟩;have s0:∀ x0,(val x0).cell? ⟨W.heap.size,0,none⟩=some (.int .u8 a.k):=fun x0=>by rw[cR _ _ _ _ _ _ (hcl x0).1];rfl
  have s1:∀ x0,(val x0).cell? ⟨W.heap.size,1,none⟩=some (.int .i64 a.c):=fun x0=>by rw[cR _ _ _ _ _ _ (hcl x0).1];rfl
  have s2:∀ x0,(val x0).cell? ⟨W.heap.size,2,none⟩=some (.int .i64 a.sq):=fun x0=>by rw[cR _ _ _ _ _ _ (hcl x0).1];rfl
  have s3:∀ x0,(val x0).cell? ⟨W.heap.size,3,none⟩=some (.int .i64 a.it):=fun x0=>by rw[cR _ _ _ _ _ _ (hcl x0).1];rfl
  have l4:∀ x0,(val x0).cell? ⟨W.heap.size,4,none⟩=some (.int .i64 a.sd):=fun x0=>by rw[cR _ _ _ _ _ _ (hcl x0).1];rfl
  have yI:∀ x0,(val x0).cell? ⟨W.heap.size,5,none⟩=some (.int .i64 a.pr):=fun x0=>by rw[cR _ _ _ _ _ _ (hcl x0).1];rfl
  have yJ:∀ x0,(val x0).cell? ⟨W.heap.size,6,none⟩=some (.int .i64 a.q):=fun x0=>by rw[cR _ _ _ _ _ _ (hcl x0).1];rfl
  have wI:∀ x0,(val x0).cell? ⟨W.heap.size,7,none⟩=some (.int .i64 a.id):=fun x0=>by rw[cR _ _ _ _ _ _ (hcl x0).1];rfl
  have pH:∀ x0,(val x0).cell? ⟨q,0,none⟩=some (.pointer (some ⟨B.F,0,none⟩)):=fun x0=>(hcl x0).2;obtain⟨w4,hw4⟩:∃ w4,W1.drew=w4:=⟨_,rfl⟩;have dm:Hid (Below W1.heap.size W1 w4):=by rw[<- hw4];exact dG
  clear aP hcl;refine tJ (val:=val) (fun D ai=>∃ X2,bR w b0 ai B X2 wd h seed S q vp vr rL/\ck W1 ai b0 B X X2/\ai.heap[D]?=some (.cells #[.int .i64 x.id,.int .i64 x.ak,.int .i64 x.sd,.int .i64 x.pr,.int .i64 x.q] 197 (0,0))/\W1.heap.size<=D/\ai.heap[W.heap.size]?=some (.cells #[.int .u8 a.k,.int .i64 a.c,.int .i64 a.sq,.int .i64 a.it,.int .i64 a.sd,.int .i64 a.pr,.int .i64 a.q,.int .i64 a.id] 95 (0,0))) (.read 0 (.read 1 (.read 2 (.read 3 (.read 4 (.two 5 (.read 6 (.read 7 (.read 8 (.one 9 (.one 10 (.read 11 .done)))))) 9 (.one 5 (.read 6 (.read 7 (.read 8 (.one 10 (.read 11 .done)))))))))))) (by kernel_rfl) (by kernel_rfl) x0 hx0 ?_;apply Exists.intro;refine⟨?_,?_⟩
  case' refine_1 =>
   rw[hx0,hw4]
   iterate 5 (refine cu rfl (fun K hK=>?_);refine⟨by rfl,?_⟩;unfold aA;go_simp;refine hK _ ?_;clear hK K)
   refine⟨?_,?_⟩
   case refine_1 =>
    refine bW rfl (fun K hK=>?_);refine⟨by rfl,?_⟩;unfold aQ;go_simp;refine(HP.out _ dm.out).mono ?_;rintro e wc ⟨rfl,X2,h1,h2,h3⟩;have sO:=hDq h1;have Cw:=hDq ((ck.below dm.out b0 B X).trans h2);have w9:=hDq ((h3.block W.heap.size (Nat.lt_of_lt_of_le HW1.out dm.out.size) (fun e=>by have:=ho _ e;omega)).trans (dS dm.out HA1.out));have Cx:Hid (W1.heap.size<=wc.heap.size):=lTq dm.out.size h2.turned.size;refine⟨_,rfl,aN.out _ w9.out sO.out.cells.1,hK _ _ ?_⟩;clear hK K h1 h2 h3
    iterate 3 (refine cu rfl (fun K hK=>?_);refine⟨by rfl,?_⟩;unfold aA;go_simp;refine hK _ ?_;clear hK K)
    refine bW rfl (fun K hK=>?_);refine⟨by rfl,?_⟩;unfold aQ;go_simp;have hba:Below wc.heap.size wc (wc.alloc (.cells #[.int .i64 0,.int .i64 0,.int .i64 0,.int .i64 0,.int .i64 0] 197)):=(bRq _ _).alloc (lRq _) _;have au:=hDq (hNq wc (.cells #[.int .i64 0,.int .i64 0,.int .i64 0,.int .i64 0,.int .i64 0] 197));have eG:=hDq (sO.out.later hba);have lp:=hDq (Cw.out.trans (ck.below hba b0 B X2));have lz:=hDq (dS hba w9.out);have qO:Hid (¬ eT B X2 wc.heap.size):=fun e=>by have:=(sO.out.bP.fe e).2;omega
    have er:=hDq Cx.out;refine⟨aN.out _ lz.out eG.out.cells.1,hK _ _ ?_⟩;clear hK K hba sO Cw w9 Cx;generalize wc.alloc (.cells #[.int .i64 0,.int .i64 0,.int .i64 0,.int .i64 0,.int .i64 0] 197)=aj at *;generalize wc.heap.size=aI at *;have c0:aj.cell? ⟨aI,0,none⟩=some (.int .i64 0):=by rw[cR _ _ _ _ _ _ au.out];rfl
    have f0:aj.frozen? ⟨aI,0,none⟩=false:=by simp[World.frozen?,au.out]
    have c1:aj.cell? ⟨aI,1,none⟩=some (.int .i64 0):=by rw[cR _ _ _ _ _ _ au.out];rfl
    have f1:aj.frozen? ⟨aI,1,none⟩=false:=by simp[World.frozen?,au.out]
    have c2:aj.cell? ⟨aI,2,none⟩=some (.int .i64 0):=by rw[cR _ _ _ _ _ _ au.out];rfl
    have f2:aj.frozen? ⟨aI,2,none⟩=false:=by simp[World.frozen?,au.out]
    have c3:aj.cell? ⟨aI,3,none⟩=some (.int .i64 0):=by rw[cR _ _ _ _ _ _ au.out];rfl
    have f3:aj.frozen? ⟨aI,3,none⟩=false:=by simp[World.frozen?,au.out]
    have c4:aj.cell? ⟨aI,4,none⟩=some (.int .i64 0):=by rw[cR _ _ _ _ _ _ au.out];rfl
    have f4:aj.frozen? ⟨aI,4,none⟩=false:=by simp[World.frozen?,au.out]
    have HX:=hDq (nP au.out x.id x.ak x.sd x.pr x.q);have cG:=hDq (vN aj aI (.int .i64 x.id) (.int .i64 x.ak) (.int .i64 x.sd) (.int .i64 x.pr) (.int .i64 x.q));have pR:=hDq (eG.out.Hg au.out qO.out cG.out (lTq R.out.ma (lTq R.out.hib (lTq HB1.out.size er.out))));have w_:=hDq (lp.out.trans (ck.high (b0:=b0) ⟨cG.out.os,cG.out.tape,cG.out.output,cG.out.size,fun k hk hn=>cG.out.block k hk (fun e=>hn (by rw[e];exact lTq R.out.hib (lTq HB1.out.size er.out)))⟩ B X2));have l6:=hDq ((cG.out.block W.heap.size (lBq lz.out) (by have:=er.out;have:=HW1.out;omega)).trans lz.out);refine bW rfl (fun K hK=>?_);refine⟨by rfl,?_⟩;unfold aQ;go_simp;refine⟨aN.out _ l6.out pR.out.cells.1,hK _ _ ?_⟩;clear hK K c0 c1 c2 c3 c4 f0 f1 f2 f3 f4;generalize ((((aj.setCell ⟨aI,0,none⟩ (.int .i64 x.id)).setCell ⟨aI,1,none⟩ (.int .i64 x.ak)).setCell ⟨aI,2,none⟩ (.int .i64 x.sd)).setCell ⟨aI,3,none⟩ (.int .i64 x.pr)).setCell ⟨aI,4,none⟩ (.int .i64 x.q)=wx at *;refine cu rfl (fun K hK=>?_);refine⟨by rfl,?_⟩;unfold aA;go_simp;refine hK _ ?_;clear hK K;refine iT ?_;exact⟨aI,rfl,X2,pR.out,w_.out,HX.out,er.out,l6.out⟩
   case refine_2 =>
    refine bW rfl (fun K hK=>?_);refine⟨by rfl,?_⟩;unfold aQ;go_simp;have hba:Below w4.heap.size w4 (w4.alloc (.cells #[.int .i64 0,.int .i64 0,.int .i64 0,.int .i64 0,.int .i64 0] 197)):=(bRq _ _).alloc (lRq _) _;have cO:Hid (Below W1.heap.size W1 (w4.alloc (.cells #[.int .i64 0,.int .i64 0,.int .i64 0,.int .i64 0,.int .i64 0] 197))):=dm.out.alloc dm.out.size _;have jH:=hDq (hNq w4 (.cells #[.int .i64 0,.int .i64 0,.int .i64 0,.int .i64 0,.int .i64 0] 197));have er:Hid (W1.heap.size<=w4.heap.size):=dm.out.size;have lq:Hid (w4.heap.size<(w4.alloc (.cells #[.int .i64 0,.int .i64 0,.int .i64 0,.int .i64 0,.int .i64 0] 197)).heap.size):=by show _<_;simp
    have Cy:=cH.out.later cO.out;refine⟨aN.out _ (dS cO.out HA1.out) Cy.cells.1,hK _ _ ?_⟩;clear hK K hba Cy;generalize w4.alloc (.cells #[.int .i64 0,.int .i64 0,.int .i64 0,.int .i64 0,.int .i64 0] 197)=ij at *;generalize w4.heap.size=aI at *;refine bW rfl (fun K hK=>?_);refine⟨by rfl,?_⟩;unfold aQ;go_simp;refine(HP.out _ cO.out).mono ?_;rintro e aj ⟨rfl,X2,h1,h2,h3⟩;have au:=hDq ((h3.block aI lq.out (fun e=>by have:=ho _ e;have:=er.out;have:=HW1.out;omega)).trans jH.out);have eG:=hDq h1;have lp:=hDq ((ck.below cO.out b0 B X).trans h2);have lz:=hDq ((h3.block W.heap.size (Nat.lt_of_lt_of_le HW1.out cO.out.size) (fun e=>by have:=ho _ e;omega)).trans (dS cO.out HA1.out));have qO:Hid (¬ eT B X2 aI):=fun e=>by
     have hq:=h2.qv;have hd:=h2.bH;have hlt:∀ k,eT B X k->k<W.heap.size:=fun k hk=>(R.out.bP.fe hk).2;have ku:aI<W.heap.size\/ij.heap.size<=aI:=by
      rcases e with e | e | e | e | e | e
      ·exact .inl (by rw[e];exact hlt _ (.inl rfl))
      ·exact .inl (by rw[e];exact hlt _ (.inr (.inl rfl)))
      ·rcases h2.new aI (.inr e) with h8 | h8
       ·exact .inl (ho _ h8)
       ·exact .inr h8
      ·rw[hq]at e;exact .inl (hlt _ (.inr (.inr (.inr (.inl e)))))
      ·exact .inl (by rw[e];exact hlt _ (.inr (.inr (.inr (.inr (.inl rfl))))))
      ·rw[hd]at e;exact .inl (hlt _ (.inr (.inr (.inr (.inr (.inr e))))))
     have:=lq.out;have:=er.out;have:=HW1.out
     omega
    refine⟨_,rfl,aN.out _ lz.out eG.out.cells.1,hK _ _ ?_⟩;clear hK K h1 h2 h3 jH cO lq
    iterate 3 (refine cu rfl (fun K hK=>?_);refine⟨by rfl,?_⟩;unfold aA;go_simp;refine hK _ ?_;clear hK K)
    have c0:aj.cell? ⟨aI,0,none⟩=some (.int .i64 0):=by rw[cR _ _ _ _ _ _ au.out];rfl
    have f0:aj.frozen? ⟨aI,0,none⟩=false:=by simp[World.frozen?,au.out]
    have c1:aj.cell? ⟨aI,1,none⟩=some (.int .i64 0):=by rw[cR _ _ _ _ _ _ au.out];rfl
    have f1:aj.frozen? ⟨aI,1,none⟩=false:=by simp[World.frozen?,au.out]
    have c2:aj.cell? ⟨aI,2,none⟩=some (.int .i64 0):=by rw[cR _ _ _ _ _ _ au.out];rfl
    have f2:aj.frozen? ⟨aI,2,none⟩=false:=by simp[World.frozen?,au.out]
    have c3:aj.cell? ⟨aI,3,none⟩=some (.int .i64 0):=by rw[cR _ _ _ _ _ _ au.out];rfl
    have f3:aj.frozen? ⟨aI,3,none⟩=false:=by simp[World.frozen?,au.out]
    have c4:aj.cell? ⟨aI,4,none⟩=some (.int .i64 0):=by rw[cR _ _ _ _ _ _ au.out];rfl
    have f4:aj.frozen? ⟨aI,4,none⟩=false:=by simp[World.frozen?,au.out]
    have HX:=hDq (nP au.out x.id x.ak x.sd x.pr x.q);have cG:=hDq (vN aj aI (.int .i64 x.id) (.int .i64 x.ak) (.int .i64 x.sd) (.int .i64 x.pr) (.int .i64 x.q));have pR:=hDq (eG.out.Hg au.out qO.out cG.out (lTq R.out.ma (lTq R.out.hib (lTq HB1.out.size er.out))));have w_:=hDq (lp.out.trans (ck.high (b0:=b0) ⟨cG.out.os,cG.out.tape,cG.out.output,cG.out.size,fun k hk hn=>cG.out.block k hk (fun e=>hn (by rw[e];exact lTq R.out.hib (lTq HB1.out.size er.out)))⟩ B X2));have l6:=hDq ((cG.out.block W.heap.size (lBq lz.out) (by have:=er.out;have:=HW1.out;omega)).trans lz.out);refine bW rfl (fun K hK=>?_);refine⟨by rfl,?_⟩;unfold aQ;go_simp;refine⟨aN.out _ l6.out pR.out.cells.1,hK _ _ ?_⟩;clear hK K c0 c1 c2 c3 c4 f0 f1 f2 f3 f4;generalize ((((aj.setCell ⟨aI,0,none⟩ (.int .i64 x.id)).setCell ⟨aI,1,none⟩ (.int .i64 x.ak)).setCell ⟨aI,2,none⟩ (.int .i64 x.sd)).setCell ⟨aI,3,none⟩ (.int .i64 x.pr)).setCell ⟨aI,4,none⟩ (.int .i64 x.q)=wx at *;refine cu rfl (fun K hK=>?_);refine⟨by rfl,?_⟩;unfold aA;go_simp;refine hK _ ?_;clear hK K;refine iT ?_;exact⟨aI,rfl,X2,pR.out,w_.out,HX.out,er.out,l6.out⟩
  intro D ai ⟨X2,h1,h2,h3,h4,h5⟩;clear hx0 hw4 s0 s1 s2 s3 l4 yI yJ wI pH aN dm;clear x0 hnx;clear val;clear bG;have bA:=hDq h1;have eM:=hDq ((ck.below HB1.out b0 B X).trans h2);have HD6:=hDq h3;have gL:=hDq h5;have aja:=hDq h4;clear h1 h2 h3 h4 h5;have jg:ai.cell? ⟨D,0,none⟩=some (.int .i64 x.id):=by rw[cR _ _ _ _ _ _ HD6.out];rfl
  have k1:ai.cell? ⟨D,1,none⟩=some (.int .i64 x.ak):=by rw[cR _ _ _ _ _ _ HD6.out];rfl
  have k2:ai.cell? ⟨D,2,none⟩=some (.int .i64 x.sd):=by rw[cR _ _ _ _ _ _ HD6.out];rfl
  have k3:ai.cell? ⟨D,3,none⟩=some (.int .i64 x.pr):=by rw[cR _ _ _ _ _ _ HD6.out];rfl
  have k4:ai.cell? ⟨D,4,none⟩=some (.int .i64 x.q):=by rw[cR _ _ _ _ _ _ HD6.out];rfl
  have HF:=hDq (Hl af.pP x ai bA.out (by rw[pQ.out];exact hn));unfold bS af.pP at HF
  go_wp2_with fail
  refine HF.out.mono ?_;rintro e bq ⟨rfl,uN,h3,h4,h5⟩;have uO:=hDq (bA.out.block h5 gL.out (by decide) (by decide));have H3:=hDq h3;have cP:=hDq (eM.out.trans h4);clear h3 h4 h5 HF;have q1:=H3.out.cells.2.1;have Hm:vp.ownBlock≠some W.heap.size:=fun e=>by have:=(R.out.pl.lt _ e).2;omega
  have Ax:=hDq (ajb b0 W.heap.size vp a r.pl bq hp (by have:=H3.out.pl;rw[pQ.out]at this;exact this) uO.out Hm);obtain⟨NP,cv,hvp⟩:=fH R.out.pl;have Cz:=hDq hvp;rw[hvp]at Ax q1;clear hvp Hm;simp only[]
  go_wp2_with fail
  refine Ax.out.mono ?_;rintro e b9 ⟨v8,rfl,NQ,xb⟩;obtain⟨a8,c8,Ho⟩:=fH NQ;subst Ho;rw[<- Cz.out]at xb;have HT:=hDq (H3.out.listed (bRq _ _) xb NQ);have hblk:b9.heap[q]?=some (.cells #[.pointer (some ⟨B.F,0,none⟩),vp,uN] 240 (0,0)):=by
   rw[xb.block q (lBq H3.out.blk) (fun e=>?_)]
   ·exact H3.out.blk
   ·obtain⟨_,cur,h2⟩:=ep H3.out.pl e.symm
    exact aF h2 H3.out.blk (by decide) rfl
  have g1:b9.cell? ⟨q,1,none⟩=some vp:=by rw[cR _ _ _ _ _ _ hblk];rfl
  have g2:b9.frozen? ⟨q,1,none⟩=false:=by simp[World.frozen?,hblk]
  clear NQ xb hblk Ax q1;go_wp2;go_end0;refine⟨rfl,X2,.slice a8 (af.others a r.pl).length c8,uN,?_,cP.out.trans HT.out.2⟩;have ku:=HT.out.1;rw[pQ.out]at ku;rw[HRR.out];exact ku
theorem ajc (a:Ask) (W:World) (R:Hid (bR w b0 W B X wd h seed S q vp vr r)) (hs:Hid (bT w ad)) (hn:r.rp.length<=100000) (hp:r.pl.length<=100000) :
  Calls Tryz.prog 141 #[.pointer (some ⟨q,0,none⟩),bM a] W fun e w'=>e=.returned (.tuple #[])/\Cr w b0 W w' B X wd h seed S q (af.oA r a):=by
 have HB1:Hid (Below W.heap.size W (W.alloc (.cells (aT a) 95))):=(bRq _ _).alloc (lRq _) _;by_cases hk:a.k=111
 ·have hk':(a.k==111)=true:=by simpa using hk
  have HP:=hDq (ajd a _ (R.out.later HB1.out) hs hn hp);rw[show af.oA r a=af.xd r a by unfold af.oA;rw[if_pos hk]];clear hk;unfold bM aT at *;go_enter Tryz.func141,Tryz.ntmps141
  go_wp2_with fail
  refine HP.out.mono ?_;rintro e w2 ⟨rfl,X2,zh,zi,h1,h2⟩;have H1:=hDq h1;have H2:=hDq ((ck.below HB1.out b0 B X).trans h2);clear h1 h2;simp only[];go_wp2
  first | go_end0 | refine bodyPost_ret (v:=.tuple #[]) (by simp[results,Tryz.results141]) rfl ?_
  exact⟨rfl,X2,zh,zi,H1.out,H2.out⟩
 ·have hk':(a.k==111)=false:=by simpa using hk
  have HP:=hDq (ai8 a _ (R.out.later HB1.out) hs hn hp);rw[show af.oA r a=af.w8 r a by unfold af.oA;rw[if_neg hk]];clear hk;unfold bM aT at *;go_enter Tryz.func141,Tryz.ntmps141
  go_wp2_with fail
  refine HP.out.mono ?_;rintro e w2 ⟨rfl,X2,zh,zi,h1,h2⟩;have H1:=hDq h1;have H2:=hDq ((ck.below HB1.out b0 B X).trans h2);clear h1 h2;simp only[];go_wp2
  first | go_end0 | refine bodyPost_ret (v:=.tuple #[]) (by simp[results,Tryz.results141]) rfl ?_
  exact⟨rfl,X2,zh,zi,H1.out,H2.out⟩
end
end Go.Proofs.YtjolccidheflpaaGreatDoor
namespace Go.Proofs.YtjolccidheflpaaGreatDoor
set_option maxHeartbeats 8000000
open Go.RowKit Go.Maps
set_option maxRecDepth 100000
def i7 (w:World) (b n:Nat) (f:Int->Int):Prop:=∃ D:DataW Value,w.ownsMap Tryz.prog 3 wR b n D/\∀ p,D.atKey (.int .i64 p) (.held (.int .i64 0))=.held (.int .i64 (f p))
theorem aj6 (w:World):(zeroValue 3).run Tryz.prog w=.ok (.int .i64 0) w:=by kernel_rfl
section
variable {w w':World} {b n:Nat} {f:Int->Int}
theorem i7.block (h:i7 w b n f):∃ es clock,w.heap[b]?=some (.map es clock):=by
 obtain⟨D,⟨es,clock,hb,_⟩,_⟩:=h;exact⟨es,clock,hb⟩
theorem i7.turned {T:Nat->Prop} (h:i7 w b n f) (ht:aJ w w' T) (hb:¬ T b):i7 w' b n f:=by
 obtain⟨D,⟨es,clock,h3,rest⟩,h2⟩:=h;exact⟨D,⟨es,clock,by rw[ht.block b (lBq h3) hb];exact h3,rest⟩,h2⟩
theorem i7.later (h:i7 w b n f) (hb:Below w.heap.size w w'):i7 w' b n f:=by
 obtain⟨D,h1,h2⟩:=h;exact⟨D,h1.kept (row:=none) ⟨hb.os,hb.tape,hb.output,hb.size,fun i hi _=>hb.block i hi⟩ (by simp),h2⟩
theorem i7.look (h:i7 w b n f) {p:Int} (h1:-9223372036854775808<=p) (h2:p<=9223372036854775807) :
  (Instr.lookup 292 (.map (some b)) (.int .i64 p) false).run Tryz.prog w=.ok (.int .i64 (f p)) w:=by
 obtain⟨D,h3,h4⟩:=h;obtain⟨v,ps,hrun,hv⟩:=h3.lookup BX Tryz.underlying292 (aj6 w) (zd:=.held (.int .i64 0)) (zp:=[]) rfl (GU h1 h2);rw[h4]at hv;have:v=.int .i64 (f p):=(by simpa [wR] using hv:_/\ps=[]).1;rw[hrun,this]
theorem i7.store (h:i7 w b n f) {p x:Int} (h1:-9223372036854775808<=p) (h2:p<=9223372036854775807) (hn:n<maxLen) :
  ∃ w4,(Instr.mapUpdate 292 (.map (some b)) (.int .i64 p) (.int .i64 x)).run Tryz.prog w=.ok () w4/\i7 w4 b (n+1) (fun q=>if q=p then x else f q)/\w.grownBy w4 (some b):=by
 obtain⟨D,h3,h4⟩:=h;obtain⟨w4,hrun,Nq,hg4⟩:=h3.update BX Tryz.underlying292 hn (GU h1 h2) (val:=.int .i64 x) (d:=.held (.int .i64 x)) (ps:=[]) rfl;have hD:IsMap D:=by obtain⟨es,clock,_,_,_,e⟩:=h3;exact⟨_,e⟩
 refine⟨w4,hrun,⟨_,Nq,fun q=>?_⟩,hg4⟩;by_cases hq:q=p
 ·subst hq
  rw[atKey_put_same hD (by trivial)];simp
 ·rw[atKey_put_other (fun e=>hq (by simpa using e)),h4];simp[hq]
end
theorem aj7 (base:Nat) (v:Value) (l:List Cv.ag) (w:World) (hrow:Hid (w.ownsRow base 197 5 v l.length (flat l))) (hl:l.length<=60) (hok:Hid (∀ x∈l,Cv.ok x=true)) :
  Calls Tryz.prog 190 #[v] w fun e w'=>e=.returned (.map (some w.heap.size))/\i7 w' w.heap.size l.length (af.uS l l.length)/\Below w.heap.size w w':=by
 obtain⟨m,hm⟩:∃ m,l.length=m:=⟨_,rfl⟩;rw[hm]at hrow hl ⊢;have HM:=hDq hm;obtain⟨a0,c0,hv⟩:=fH hrow.out;subst hv;clear hm;have bF:Hid (Below w.heap.size w (w.alloc (.map #[] 0))):=(bRq _ _).alloc (lRq _) _;have aj8:Hid (i7 (w.alloc (.map #[] 0)) w.heap.size 0 (fun _=>0)):=⟨_,World.ownsMap_made w _ _ _,fun p=>rfl⟩;have aP:(Instr.makeMap 292 none).run Tryz.prog w=.ok (.map (some w.heap.size)) (w.alloc (.map #[] 0)):=by kernel_rfl
 go_enter Tryz.func190,Tryz.ntmps190
 go_wp2_with fail
 go_loopw [9] (fun kv wr=>∃ k:Nat,k<=m/\kv=.int .i64 k/\i7 wr w.heap.size k (af.uS l k)/\Below w.heap.size w wr) (fun kv _=>m-(intOf kv).toNat)
 case atStart=>exact⟨0,by omega,rfl,aj8.out,bF.out⟩
 case round =>
  obtain⟨k,hk,rfl,ho,hb⟩:=hrel;have HO:=hDq ho;have HB:=hDq hb;clear ho hb;by_cases hlt:k<m
  ·have aX:(k:Int)<m:=by omega
   have hkl:k<l.length:=by rw[HM.out];exact hlt
   have hrw:=dy hrow.out HB.out;obtain⟨g,hg⟩:∃ g,a0=some ⟨g,0,none⟩:=by
    rcases hrw.2 with ⟨e1,_⟩ | ⟨g,cap,cur,e1,_⟩
    ·cases e1;omega
    ·simp only[Value.slice.injEq]at e1;exact⟨g,e1.1⟩
   subst hg;obtain⟨x0,x1,x2,x3,x4⟩:=xX hrw k hkl;simp only[Nat.zero_add]at x0 x1 x2 x3 x4;have jo:g<wr.heap.size:=bCq _ _ x0;have hx:=hok.out _ (Cv.nJ hkl);simp only[Cv.ok,ah.aB,Bool.and_eq_true,decide_eq_true_eq]at hx;have HB1:Hid (Below wr.heap.size wr (wr.alloc (.cells #[.int .i64 (Cv.nth l k).id,.int .i64 (Cv.nth l k).ak,.int .i64 (Cv.nth l k).sd,.int .i64 (Cv.nth l k).pr,.int .i64 (Cv.nth l k).q] 197))):=(bRq _ _).alloc (lRq _) _;obtain⟨w4,hrun,wS,hg4⟩:=(HO.out.later HB1.out).store (p:=(Cv.nth l k).id) (x:=(Cv.nth l k).ak) (by omega) (by omega) (by unfold maxLen;omega);have aj9:Hid (i7 w4 w.heap.size (k+1) (af.uS l (k+1))):=wS;have bQ:Hid (Below w.heap.size w w4):=(HB.out.trans (HB1.out.mono HB.out.size)).grown hg4 (lTq HB.out.size HB1.out.size) (fun j hj=>by have:=Option.some.inj hj;omega);generalize Cv.nth l k=x at *;clear wS hg4 hrw hx HB1;go_wp2;exact⟨⟨k+1,by omega,by go_num,aj9.out,bQ.out⟩,by simp[intOf];omega⟩
  ·have aX:¬ (k:Int)<m:=by omega
   obtain rfl:k=m:=by omega
   go_wp2;go_ret;exact⟨rfl,HO.out,HB.out⟩
end Go.Proofs.YtjolccidheflpaaGreatDoor
namespace Go.Proofs.YtjolccidheflpaaGreatDoor
set_option maxHeartbeats 8000000
open Go.RowKit
set_option maxRecDepth 100000
namespace af
theorem Ox {l:List Cv.ag} (hl:Cv.dY l) (ref:Int):Cv.eW l ref 1000 (CF l ref).1 (CF l ref).2:=by
 obtain⟨p,v,h⟩:=Ta hl ref 1000;have hex:∃ pv:Int×Int,Cv.eW l ref 1000 pv.1 pv.2:=⟨(p,v),h⟩;unfold CF;rw[dif_pos hex];exact Classical.choose_spec hex
theorem XY {wd h:Int} {r:di} (H:d_ r.L r.pf r.n wd h) {i:Nat} (hi:i<3) (s:Int):(i6 wd r i s).length<=240/\∀ f∈i6 wd r i s,1<=f.2/\∃ x∈r.L i,x.id=f.1:=by
 have hw:Cv.eW (r.L i) (r.n (i*2)) 1000 (iZ r i) (pT r i):=Ox (H.ok.aG i hi).oks _;unfold i6 Fl.oc;split
 ·rename_i hc
  have hf:=Fs.K9 (AP (H.ok.aG i hi)) hw hc.2;refine⟨?_,Fs.Ua hf s⟩
  have:=Ra.Tb s hf
  unfold Ra.fills;rw[lAq];omega
 ·exact⟨by simp,fun f hf=>by cases hf⟩
end af
section
variable {w W W':World} {ad:Nat->Addr} {b0 q:Nat} {B:cJ} {X X' X2:cy} {wd h seed:Int} {S:af.St} {vp vr:Value} {r:af.di}
theorem bR.map {b n:Nat} {f:Int->Int} (R:bR w b0 W B X wd h seed S q vp vr r) (ht:aJ W W' (fun k=>k=q\/vr.ownBlock=some k)) (ho:i7 W b n f):i7 W' b n f:=by
 obtain⟨es,clock,hb⟩:=ho.block;refine ho.turned ht (fun e=>?_);rcases e with e | e
 ·rw[e,R.blk]at hb;cases hb
 ·obtain⟨_,cur,h2⟩:=ep R.rp e
  rw[h2]at hb;cases hb
theorem bR.ali {v:Value} {F:List (Int×Int)} (R:bR w b0 W B X wd h seed S q vp vr r) (ht:aJ W W' (fun k=>k=q\/vr.ownBlock=some k)) (hf:fu W v F):fu W' v F :=
 hf.keep fun g cur hg=>by
  rw[R.block ht hg (by decide) (by decide)];exact hg.symm
theorem alj (L:Nat->List Cv.ag) (i:Nat) (a:Ask):(af.oB L i a).length<=1:=by
 unfold af.oB;split <;> simp
theorem On (L:Nat->List Cv.ag) (i:Nat):∀ l:List Ask,(l.flatMap (af.oB L i)).length<=l.length
 | []=>by simp
 | a::l=>by
  have:=On L i l
  have:=alj L i a
  simp only[List.flatMap_cons,List.length_append,List.length_cons];omega
theorem akH (i:Nat) (hi:i<3) (s:Int) (YA:Ra.IsU s) (W:World) (R:Hid (bR w b0 W B X wd h seed S q vp vr r)) (hs:Hid (bT w ad)) (hn:r.rp.length<=50000) (hp:r.pl.length<=1000) :
  Calls Tryz.prog 142 #[.pointer (some ⟨q,0,none⟩),.int .i64 i,.int .u32 s] W fun e w'=>e=.returned (.tuple #[])/\Cr w b0 W w' B X wd h seed S q (af.uU wd h r i s):=by
 have jA:Cv.eW (r.L i) (r.n (i*2)) 1000 (af.iZ r i) (af.pT r i):=af.Ox (R.out.all.ok.aG i hi).oks _;have OY:=hDq (af.XY R.out.all hi s);have YB:Hid (∀ W',Below W.heap.size W W'->Calls Tryz.prog 108 #[.pointer (some ⟨B.F,0,none⟩),.int .i64 i] W' fun e w'=>e=.returned (.pointer (some ⟨B.b i,0,none⟩))/\w'=W'):=fun W' hb=>LJ i hi (R.out.later hb).fl;have nI:Hid (∀ W',Below W.heap.size W W'->Calls Tryz.prog 109 #[.pointer (some ⟨B.b i,0,none⟩)] W' fun e w'=>∃ v2,e=.returned v2/\w'.ownsRow W'.heap.size 197 5 v2 (r.L i).length (flat (r.L i))/\Below W'.heap.size W' w'):=fun W' hb=>xG (B.b i) w.heap.size (X.v i) (r.L i) W' ((R.out.later hb).fl.aG i hi) (R.out.all.ok.aG i hi).len;have vk:Hid (∀ W',Below W.heap.size W W'->Calls Tryz.prog 191 #[.pointer (some ⟨B.F,0,none⟩),.int .i64 i,.int .u32 s] W' fun e w'=>∃ iq X',e=.returned (.tuple #[AO (af.iZ r i) (af.pT r i) (Fl.n_ r.n i wd (af.iZ r i) (af.pT r i)) iq,.nilIface])/\bR w b0 w' B X' wd h seed S q vp vr { r with L:=Fl.nZ r.L i (af.i6 wd r i s),pf:=Fs.gW r.pf i (af.iZ r i) (r.L i) (af.i6 wd r i s),n:=Fl.runN r.n i wd h (af.iZ r i) (af.pT r i) }/\ck W' w' b0 B X X'/\aJ W' w' (fun k=>nk B X k)/\fu w' iq (af.i6 wd r i s)):=fun W' hb=>by
  refine(aeJ i hi s _ _ YA (R.out.later hb).fl hs.out.Ct (R.out.later hb).all jA).mono ?_;rintro e w' ⟨iq,v',rfl,h1,h2,h3,h4⟩;obtain⟨k1,k2,k3⟩:=(R.out.later hb).floor h1 h2 h4;exact⟨iq,_,rfl,k1,k2,k3,h3⟩
 have HRR:Hid (af.uU wd h r i s = { r with L:=Fl.nZ r.L i (af.i6 wd r i s),pf:=Fs.gW r.pf i (af.iZ r i) (r.L i) (af.i6 wd r i s),n:=Fl.runN r.n i wd h (af.iZ r i) (af.pT r i),rp:=r.rp++((af.i6 wd r i s).map (af.uT (r.L i) (af.iZ r i))++r.pl.flatMap (af.oB (Fl.nZ r.L i (af.i6 wd r i s)) i)) }):=rfl;have tK:=hDq (R.out.all.ok.aG i hi).len;have YC:=hDq (R.out.all.ok.aG i hi).oks;generalize af.uU wd h r i s=rr at *;generalize af.i6 wd r i s=bf at *;generalize af.iZ r i=p at *;generalize af.pT r i=vol at *;generalize Fl.n_ r.n i wd p vol=op at *;generalize Fl.runN r.n i wd h p vol=nn at *;generalize Fs.gW r.pf i p (r.L i) bf=oa at *;generalize Fl.nZ r.L i bf=L' at *;clear jA YA;have c0:=R.out.cells.1;have ho:∀ k,nk B X k->k<W.heap.size:=fun k hk=>NN R.out.bP hk;go_enter Tryz.func142,Tryz.ntmps142
 go_wp2_with fail
 refine(YB.out _ (bRq _ _)).mono ?_;rintro e w1 ⟨rfl,dM⟩;subst w1;simp only[]
 go_wp2_with fail
 refine(nI.out _ (bRq _ _)).mono ?_;rintro e w2 ⟨v2,rfl,hrow2,hb2⟩;have HB2:=hDq hb2;have HOW:=hDq (aj7 W.heap.size v2 (r.L i) w2 hrow2 tK.out YC.out);clear hrow2 hb2;simp only[]
 go_wp2_with fail
 refine HOW.out.mono ?_;rintro e w3 ⟨rfl,C8,hb3⟩;have ar:=hDq (HB2.out.trans (hb3.mono HB2.out.size));have YD:=hDq C8;have hM:W.heap.size<=w2.heap.size:=HB2.out.size;generalize w2.heap.size=M at *;clear C8 hb3 HOW HB2;have c3:=(R.out.later ar.out).cells.1;simp only[]
 go_wp2_with fail
 refine(vk.out _ ar.out).mono ?_;rintro e w4 ⟨iq,mj,rfl,h1,h2,h3,h4⟩;have bO:=hDq h1;have dh:=hDq ((ck.below ar.out b0 B X).trans h2);have YE:=hDq h4;have YF:=hDq (YD.out.turned h3 (fun e=>by have:=ho _ e;omega));clear h1 h2 h3 YB nI vk YD;obtain⟨iX,jk,mC⟩:=h4.val;have OZ:=hDq mC;subst mC;obtain⟨m,hm⟩:∃ m,bf.length=m:=⟨_,rfl⟩;have HM:=hDq hm;have apg:m<=240:=by rw[<- hm];exact OY.out.1
 rw[hm];clear h4;unfold AO;have cA:Hid (Below w4.heap.size w4 (w4.alloc (.cells #[.int .i64 p,.int .i64 vol,.bool op,.slice iX m jk] 296))):=(bRq _ _).alloc (lRq _) _;have HD5:=hDq (hNq w4 (.cells #[.int .i64 p,.int .i64 vol,.bool op,.slice iX m jk] 296));simp only[]
 go_wp2_with fail
 have bL:=hDq (bO.out.later cA.out);have jh:=hDq (dh.out.trans (ck.below cA.out b0 B mj));have YG:=hDq (YE.out.later cA.out);have alk:=hDq (YF.out.later cA.out);rw[hm]at YG;generalize w4.alloc (.cells #[.int .i64 p,.int .i64 vol,.bool op,.slice iX m jk] 296)=aC at *;generalize w4.heap.size=D at *;clear bO dh YE YF cA hm
 go_loopw [38] (fun kv wr=>∃ k sP,k<=m/\kv=.int .i64 k/\bR w b0 wr B mj wd h seed S q vp sP { r with L:=L',pf:=oa,n:=nn,rp:=r.rp++(bf.take k).map (af.uT (r.L i) p) }/\ck W wr b0 B X mj/\fu wr (.slice iX m jk) bf/\i7 wr M (r.L i).length (af.uS (r.L i) (r.L i).length)/\wr.heap[D]?=some (.cells #[.int .i64 p,.int .i64 vol,.bool op,.slice iX m jk] 296 (0,0))) (fun kv _=>m-(intOf kv).toNat)
 case atStart=>exact⟨0,vr,by omega,rfl,by simpa using bL.out,jh.out,YG.out,alk.out,HD5.out⟩
 case round =>
  obtain⟨k,pg,hk,rfl,hr,hfr,C9,C8,hd⟩:=hrel;have HR:=hDq hr;have HF:=hDq hfr;have tT:=hDq C9;have HO:=hDq C8;have HD:=hDq hd;clear hr hfr C8;by_cases hlt:k<m
  ·have aX:(k:Int)<m:=by omega
   have hkl:k<bf.length:=by rw[HM.out];exact hlt
   obtain⟨g,hg⟩:∃ g,iX=some ⟨g,0,none⟩:=by
    rcases C9 with ⟨e1,_⟩ | ⟨g,cap,cur,e1,_⟩
    ·rw[e1]at hkl;cases hkl
    ·simp only[Value.slice.injEq]at e1;exact⟨g,e1.1⟩
   subst hg;obtain⟨y0,y1⟩:wr.cell? ⟨g,k*2,none⟩=some (.int .i64 (eE bf k).1)/\wr.cell? ⟨g,k*2+1,none⟩=some (.int .i64 (eE bf k).2):=by
    rcases C9 with ⟨e1,_⟩ | ⟨g',cap,cur,e1,h2,_⟩
    ·rw[e1]at hkl;cases hkl
    ·simp only[Value.slice.injEq,Option.some.injEq,Addr.mk.injEq]at e1
     obtain⟨⟨rfl,_⟩,_⟩:=e1;exact h2 k hkl
   have jo:g<wr.heap.size:=bCq _ _ y0;have hDl:D<wr.heap.size:=lBq hd;have z0:wr.cell? ⟨D,0,none⟩=some (.int .i64 p):=by rw[cR _ _ _ _ _ _ hd];rfl
   have xV:eE bf k=bf[k]:=by unfold eE;rw[gE,List.getElem?_eq_getElem hkl];rfl
   have hid:1<=(eE bf k).1/\(eE bf k).1<=1073741824:=by
    obtain⟨_,x,hx,G0⟩:=OY.out.2 (eE bf k) (by rw[xV];exact List.getElem_mem hkl)
    have:=YC.out x hx
    simp only[Cv.ok,ah.aB,Bool.and_eq_true,decide_eq_true_eq]at this;omega
   have HN:Hid ((bf.take (k+1)).map (af.uT (r.L i) p)=(bf.take k).map (af.uT (r.L i) p)++[af.tell af.Hu ⟨(eE bf k).1,af.uS (r.L i) (r.L i).length (eE bf k).1,0,p,(eE bf k).2⟩]):=by
    show _=_;rw[List.take_succ_eq_append_getElem hkl,List.map_append,<- xV];rfl
   generalize eE bf k=f at *;obtain⟨f1,f2⟩:=f;simp only at y0 y1 hid HN;have aS:Hid (Below wr.heap.size wr (wr.alloc (.cells #[.int .i64 f1,.int .i64 f2] 300))):=(bRq _ _).alloc (lRq _) _;have alm:=(HO.out.later aS.out).look (p:=f1) (by omega) (by omega);generalize af.uS (r.L i) (r.L i).length f1=ak at *;have HT:=hDq (fun W' (hb:Below wr.heap.size wr W')=>Hl af.Hu ⟨f1,ak,0,p,f2⟩ W' (HR.out.later hb) (by simp only[List.length_append,List.length_map,List.length_take];omega));unfold af.Hu bS at HT;clear C9 hd xV hid
   go_wp2_with fail
   refine(HT.out _ aS.out).mono ?_;rintro e bq ⟨rfl,uN,h3,h4,h5⟩;have H3:=hDq h3;have cP:=hDq (HF.out.trans ((ck.below aS.out b0 B _).trans h4));have H5:=hDq ((HR.out.later aS.out).ali h5 (tT.out.later aS.out));have ky:=hDq ((HR.out.later aS.out).map h5 (HO.out.later aS.out));have C6:=hDq ((HR.out.later aS.out).block h5 (dS aS.out HD.out) (by decide) (by decide));clear h3 h4 h5 HT aS alm;simp only[];go_wp2;refine⟨⟨k+1,uN,hlt,by go_num,?_,cP.out,H5.out,ky.out,C6.out⟩,by simp[intOf];omega⟩;rw[HN.out,<- aAq];exact H3.out
  ·have aX:¬ (k:Int)<m:=by omega
   obtain rfl:k=m:=by omega
   have C_:=HR.out;rw[<- HM.out,List.take_length]at C_;have rY:=hDq C_;obtain⟨fV,hwo⟩:∃ fV,fV=wr:=⟨_,rfl⟩;subst hwo;have q1:=C_.cells.2.1;obtain⟨ap,tX,hvp⟩:=fH C_.pl;have Cz:Hid (vp=.slice ap r.pl.length tX):=hvp;rw[Cz.out]at q1;obtain⟨mp,hmp⟩:∃ mp,r.pl.length=mp:=⟨_,rfl⟩;rw[hmp]at q1 Cz hp;have O0:=hDq hmp;clear hmp hvp C_ C9 hd;have Lh:(bf.map (af.uT (r.L i) p)).length<=240:=by rw[List.length_map];exact OY.out.1
   go_wp2_with fail
   go_loopw [61] (fun kv wr=>∃ k sP,k<=mp/\kv=.int .i64 k/\bR w b0 wr B mj wd h seed S q vp sP { r with L:=L',pf:=oa,n:=nn,rp:=(r.rp++bf.map (af.uT (r.L i) p))++(r.pl.take k).flatMap (af.oB L' i) }/\ck W wr b0 B X mj) (fun kv _=>mp-(intOf kv).toNat)
   case atStart=>exact⟨0,pg,by omega,rfl,by simpa using rY.out,HF.out⟩
   case round =>
    obtain⟨j,vj,hj,rfl,hr,hfr⟩:=hrel;have vd:=hDq hr;have O1:=hDq hfr;clear hfr;by_cases nz:j<mp
    ·have bC:(j:Int)<mp:=by omega
     have uP:j<r.pl.length:=by rw[O0.out];exact nz
     have hrow:=hr.pl;rw[Cz.out]at hrow;simp only[O0.out]at hrow;obtain⟨g,hg⟩:∃ g,ap=some ⟨g,0,none⟩:=by
      rcases hrow.2 with ⟨e1,_⟩ | ⟨g,cap,cur,e1,_⟩
      ·cases e1;omega
      ·simp only[Value.slice.injEq]at e1;exact⟨g,e1.1⟩
     subst hg;obtain⟨d0,d1,d2,d3,d4,d5,iG,l5⟩:=zj hrow uP nz;have jo:g<wr.heap.size:=bCq _ _ d0;have HN:Hid ((r.pl.take (j+1)).flatMap (af.oB L' i)=(r.pl.take j).flatMap (af.oB L' i)++af.oB L' i (bZ r.pl j)):=by
      show _=_;rw[af.Hq uP,List.flatMap_append];simp
     have hlen:=On L' i (r.pl.take j);rw[lKq]at hlen;generalize bZ r.pl j=a at *;have aS:Hid (Below wr.heap.size wr (wr.alloc (.cells #[.int .u8 a.k,.int .i64 a.c,.int .i64 a.sq,.int .i64 a.it,.int .i64 a.sd,.int .i64 a.pr,.int .i64 a.q,.int .i64 a.id] 95))):=(bRq _ _).alloc (lRq _) _;have gL:=hDq (hNq wr (.cells #[.int .u8 a.k,.int .i64 a.c,.int .i64 a.sq,.int .i64 a.it,.int .i64 a.sd,.int .i64 a.pr,.int .i64 a.q,.int .i64 a.id] 95));have HG:=hDq (DC (B.b i) w.heap.size (mj.v i) a.id (L' i) _ ((vd.out.later aS.out).fl.aG i hi) (vd.out.all.ok.aG i hi).len);have jm:Hid (af.oB L' i a=if Cv.has (L' i) a.id=true/\a.it=i then [af.tell af.CB (Bk.jw (L' i) a.id)] else []):=rfl;generalize af.oB L' i a=rs at *;generalize Bk.jw (L' i) a.id=x at *;generalize Cv.has (L' i) a.id=hb at *;unfold bS at HG;clear hr hrow
     go_wp2_with fail
     refine HG.out.mono ?_;rintro e bq ⟨rfl,kD⟩;have jC:=hDq (aS.out.trans (kD.mono aS.out.size));have uO:=hDq (dS kD gL.out);have aph:wr.heap.size<bq.heap.size:=lBq uO.out;clear kD HG aS gL d0 d1 d2 d3 d4 d5 iG l5;have e3:bq.cell? ⟨wr.heap.size,3,none⟩=some (.int .i64 a.it):=by rw[cR _ _ _ _ _ _ uO.out];rfl
     have jD:Hid (Below wr.heap.size wr (bq.alloc (.cells #[.int .i64 x.id,.int .i64 x.ak,.int .i64 x.sd,.int .i64 x.pr,.int .i64 x.q] 197))):=jC.out.alloc jC.out.size _;by_cases hc:hb=true/\a.it=i
     ·obtain⟨rfl,hit⟩:=hc
      have aln:(a.it==(i:Int))=true:=by simpa using hit
      have O2:rs=[af.tell af.CB x]:=by rw[jm.out,if_pos ⟨rfl,hit⟩]
      rw[O2]at HN;have HT:=hDq (Hl af.CB x _ (vd.out.later jD.out) (by simp only[List.length_append];omega));unfold af.CB bS at HT;clear hit;simp only[]
      go_wp2_with fail
      refine HT.out.mono ?_;rintro e gw ⟨rfl,alo,h3,h4,_⟩;have H3:=hDq h3;have cP:=hDq (O1.out.trans ((ck.below jD.out b0 B _).trans h4));clear h3 h4 HT;simp only[];go_wp2;refine⟨⟨j+1,alo,nz,by go_num,?_,cP.out⟩,by simp[intOf];omega⟩;rw[HN.out,<- aAq];exact H3.out
     ·have O2:rs=[]:=by rw[jm.out,if_neg hc]
      rw[O2,aNq]at HN;have hcc:hb=false\/hb=true/\(a.it==(i:Int))=false:=by
       cases hb with
       | false=>exact .inl rfl
       | true=>exact .inr ⟨rfl,by simpa using fun e=>hc ⟨rfl,e⟩⟩
      clear hc;rcases hcc with rfl | ⟨rfl,aln⟩
      all_goals
       simp only[];go_wp2;refine⟨⟨j+1,vj,nz,by go_num,?_,O1.out.trans (ck.below jD.out b0 B _)⟩,by simp[intOf];omega⟩;rw[HN.out];exact vd.out.later jD.out
    ·have bC:¬ (j:Int)<mp:=by omega
     obtain rfl:j=mp:=by omega
     have O3:=vd.out;rw[<- O0.out,List.take_length,aAq]at O3;have JI:=hDq O3;clear O3 hr;go_wp2;go_end0;exact⟨rfl,mj,vp,vj,by rw[HRR.out];exact JI.out,O1.out⟩
end
end Go.Proofs.YtjolccidheflpaaGreatDoor
namespace Go.Proofs.YtjolccidheflpaaGreatDoor
set_option maxHeartbeats 8000000
set_option maxRecDepth 100000
namespace af
def Same (f g:Nat->Int):Prop:=Pu.d8 g 6=Pu.d8 f 6/\∀ j,j<3->Pu.d9 g j 6=Pu.d9 f j 6
theorem Same.refl (f:Nat->Int):Same f f:=⟨rfl,fun _ _=>rfl⟩
theorem Same.trans {f g k:Nat->Int} (h:Same f g) (h2:Same g k):Same f k:=⟨h2.1.trans h.1,fun j hj=>(h2.2 j hj).trans (h.2 j hj)⟩
theorem Yj (i:Nat):∀ (xs:List Cv.ag) (f:Nat->Int),Same f (Fl.D5 i f xs)
 | [],f=>Same.refl f
 | x::xs,f=>by
  have h:=Pu.JR f (i:Int) x 6;exact Same.trans ⟨h.1,h.2⟩ (Yj i xs (Pu.eX f i x))
theorem Yk (c:Int) (L:Nat->List Cv.ag) (f:Nat->Int):∀ i,Same f (Fl.qg c L f i)
 | 0=>Same.refl f
 | i+1=>(Yk c L f i).trans (Yj i _ _)
theorem akx (r:di) (c:Nat):Same r.pf (uQ r c).pf:=Yk c r.L r.pf 3
theorem akB (r:di) (a:Ask):Same r.pf (oA r a).pf:=by
 unfold oA xd w8;split
 ·show Same r.pf (Fl.jF r.L r.pf a)
  unfold Fl.jF;split
  ·have h:=Pu.Rq r.pf a.it (Fl.fE a) 6
   exact⟨h.1,h.2⟩
  ·exact Same.refl _
 ·show Same r.pf (Fl.jG r.L r.pf a)
  unfold Fl.jG;split
  ·have h:=Pu.JR r.pf a.it (Fl.fD r.L a) 6
   exact⟨h.1,h.2⟩
  ·exact Same.refl _
theorem akG {wd h:Int} {r:di} (H:d_ r.L r.pf r.n wd h) {i:Nat} (hi:i<3) (s:Int):Same r.pf (uU wd h r i s).pf:=by
 have hw:Cv.eW (r.L i) (r.n (i*2)) 1000 (iZ r i) (pT r i):=Ox (H.ok.aG i hi).oks _;show Same r.pf (Fs.gW r.pf i (iZ r i) (r.L i) (i6 wd r i s));unfold i6 Fl.oc;split
 ·rename_i hc
  have hf:=Fs.K9 (AP (H.ok.aG i hi)) hw hc.2;have hF:=Fs.SE hf s;have hp:1<=iZ r i/\iZ r i<=1000:=by
   rcases hw with ⟨_,e2,_⟩ | ⟨_,e2,e3,_⟩
   ·have:=hc.2;omega
   ·exact⟨e2,e3⟩
  have h1:=Fs.adA H.ok hi hp hF;exact⟨h1.1,h1.2⟩
 ·rw[Fs.S_]
  exact Same.refl _
end af
end Go.Proofs.YtjolccidheflpaaGreatDoor
namespace Go.Proofs.YtjolccidheflpaaGreatDoor
set_option maxHeartbeats 8000000
open Go.RowKit
set_option maxRecDepth 100000
theorem Ob (s:ByteArray):∀ k,(af.lB s k).length=2*k
 | 0=>rfl
 | k+1=>by rw[af.lB,lAq,Ob s k];rfl
theorem XQ (x:Nat) (hx:x<16) (w:World):(Instr.index 9 (.string ⟨#[48,49,50,51,52,53,54,55,56,57,97,98,99,100,101,102]⟩) (.int .u8 x)).run Tryz.prog w=.ok (.int .u8 (af.sQ x)) w:=by
 have:x=0\/x=1\/x=2\/x=3\/x=4\/x=5\/x=6\/x=7\/x=8\/x=9\/x=10\/x=11\/x=12\/x=13\/x=14\/x=15:=by omega
 rcases this with rfl | rfl | rfl | rfl | rfl | rfl | rfl | rfl | rfl | rfl | rfl | rfl | rfl | rfl | rfl | rfl <;> exact rfl
theorem ake:∀ b:Fin 256,bits .and .u8 ((b.val:Nat):Int) 15=((b.val%16:Nat):Int):=by decide +kernel
theorem akf (base:Nat) (v:Value) (xs:List Int) (s:ByteArray) (w:World) (hr:Hid (Row w base v xs)) (hx:xs.length<=100000) (hs:s.size<=1000) (hb:base<=w.heap.size) :
  Calls Tryz.prog 139 #[v,.string s] w fun e w'=>∃ v',e=.returned v'/\Row w' base v' (xs++af.lB s s.size)/\Below base w w':=by
 obtain⟨a0,c0,hv⟩:=fH hr.out;go_enter Tryz.func139,Tryz.ntmps139
 go_wp2_with fail
 go_loopw [0,8] (fun v kv wr=>∃ k:Nat,k<=s.size/\kv=.int .i64 k/\Row wr base v (xs++af.lB s k)/\Below base w wr) (fun _ kv _=>s.size-(intOf kv).toNat)
 case atStart=>exact⟨0,by omega,rfl,by simpa [af.lB] using hr.out,bRq _ _⟩
 case round =>
  obtain⟨k,hk,rfl,hrow,kq⟩:=hrel;have HR:=hDq hrow;have HB:=hDq kq;clear kq;by_cases hlt:k<s.size
  ·have aX:(k:Int)<s.size:=by omega
   have akg:=kE s k;have CQ:=j6 s k hlt;obtain⟨bG,val,hcl,aP⟩:=kL (fun _=>True);go_wp2;obtain⟨x0,hx0⟩:=aP wr.drew trivial;have hnx:Nonempty bG:=⟨x0⟩;refine sr (val:=val) [11,12] [0,1,2,3,4,5,6,7,8,9,10,11,12,13] (by kernel_rfl) (by kernel_rfl) x0 hx0 ?_;rw[hx0];clear hx0;have d1:∀ W,(Instr.index 9 (.string ⟨#[48,49,50,51,52,53,54,55,56,57,97,98,99,100,101,102]⟩) (.int .u8 ((aL s k:Int)/16))).run Tryz.prog W=.ok (.int .u8 (af.sQ (aL s k/16))) W:=fun W=>by
    rw[show ((aL s k:Int)/16)=((aL s k/16:Nat):Int) by omega];exact XQ _ (by omega) W
   have d2:∀ W,(Instr.index 9 (.string ⟨#[48,49,50,51,52,53,54,55,56,57,97,98,99,100,101,102]⟩) (.int .u8 (bits BinOp.and IntKind.u8 (aL s k:Int) 15))).run Tryz.prog W=.ok (.int .u8 (af.sQ (aL s k%16))) W:=fun W=>by
    rw[ake ⟨aL s k,akg⟩];exact XQ _ (by omega) W
   have hl2:(xs++af.lB s k).length<=1000000:=by rw[lAq,Ob];omega
   have hbw:base<=wr.heap.size:=lTq hb HB.out.size;have hrd:Row wr.drew base u0 (xs++af.lB s k):=dy HR.out dG;obtain⟨v4,w4,hap,hr4,hg4⟩:=CR base wr.drew u0 (xs++af.lB s k) [af.sQ (aL s k/16),af.sQ (aL s k%16)] hrd hl2 (by simp) hbw;have bQ:Hid (Below base w w4):=below_grown ((HB.out.trans (dG.mono hbw)).alloc hbw _) (World.ownsRow.alloc hrd _) (lTq hbw (by simp)) hg4;have bO:Hid (Row w4 base v4 (xs++af.lB s (k+1))):=by
    show Row w4 base v4 (xs++(af.lB s k++_));rw[<- aAq];exact hr4
   simp only[List.map_cons,List.map_nil,List.length_cons,List.length_nil]at hap;have fg:=hDq hap;have aN:=hDq aP;clear hap hr4 hg4 hrd hrow aP hcl
   iterate 11 (refine ko rfl rfl (fun K hK=>?_);refine⟨by rfl,?_⟩;unfold aA;go_simp;refine hK _ ?_;clear hK K)
   refine kP rfl rfl (fun K hK=>?_);refine⟨by rfl,?_⟩;unfold aQ;go_simp;refine⟨aN.out _ trivial,hK _ _ ?_⟩;clear hK K;refine kP rfl rfl (fun K hK=>?_);refine⟨by rfl,?_⟩;refine yF _ _ 115 rfl _ _ _ rfl rfl fg.out ?_;refine⟨aN.out _ trivial,hK _ _ ?_⟩;clear hK K;refine ko rfl rfl (fun K hK=>?_);refine⟨by rfl,?_⟩;unfold aA;go_simp;refine hK _ ?_;clear hK K;refine qA ?_;go_wp2;exact⟨⟨k+1,hlt,by go_num,bO.out,bQ.out⟩,by simp[intOf];omega⟩
  ·have aX:¬ (k:Int)<s.size:=by omega
   obtain rfl:k=s.size:=by omega
   go_wp2;go_ret;exact⟨_,rfl,HR.out,HB.out⟩
end Go.Proofs.YtjolccidheflpaaGreatDoor
namespace Go.Proofs.YtjolccidheflpaaGreatDoor
set_option maxHeartbeats 8000000
set_option maxRecDepth 100000
namespace Fs
open Cv Bk Ra Pu Fu
end Fs
namespace Fl
open Cv Bk Ra Pu Fu Fs
end Fl
namespace af
variable {r:di} {wd h:Int}
end af
end Go.Proofs.YtjolccidheflpaaGreatDoor
