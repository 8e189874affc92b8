/- The small calls of a venue by their contracts. -/
import Derived.Test.YtjolccidheflpaaGreatDoorX34
import Derived.Test.YtjolccidheflpaaGreatDoorX35
namespace Go.Proofs.YtjolccidheflpaaGreatDoor
open Go.Proofs.Tryz
set_option maxHeartbeats 8000000
set_option maxRecDepth 100000
section
open Go.RowKit
def sK(ad:Nat->Addr)(j:Nat):Value:=.pointer (some (ad j))
theorem EK{W:World}{R:Nat}{t:TypeId}{x0 x1 x2 x3 x4 x5:Value}(hz:W.heap[R]?=some (.cells #[x0,x1,x2,x3,x4,x5] t (0,0)))(v0 v1 v2 v3 v4 v5:Value):
  ((((((W.setCell (O R 0) v0).setCell (O R 1) v1).setCell (O R 2) v2).setCell (O R 3) v3).setCell (O R 4) v4).setCell (O R 5) v5).heap[R]?=some (.cells #[v0,v1,v2,v3,v4,v5] t (0,0)):=by
 rw[block_setCell (block_setCell (block_setCell (block_setCell (block_setCell (block_setCell hz 0 v0) 1 v1) 2 v2) 3 v3) 4 v4) 5 v5];rfl
theorem aqc{n R:Nat}{w W:World}(h:Below n w W)(hR:n<=R)(v0 v1 v2 v3 v4 v5:Value):Below n w ((((((W.setCell (O R 0) v0).setCell (O R 1) v1).setCell (O R 2) v2).setCell (O R 3) v3).setCell (O R 4) v4).setCell (O R 5) v5):=by
 iterate 6 refine Below.setCell (p:=(O R _)) ?_ hR _
 exact h
theorem Jf(W:World)(R:Nat)(v0 v1 v2 v3 v4 v5:Value):aU W ((((((W.setCell (O R 0) v0).setCell (O R 1) v1).setCell (O R 2) v2).setCell (O R 3) v3).setCell (O R 4) v4).setCell (O R 5) v5) R:=((((((aU.setCell _ _ _ _).put _ _).put _ _).put _ _).put _ _).put _ _)
section
variable {w W:World} {ad:Nat->Addr} {B:bO} {X:bQ} {wd h seed:Int} {S:Ve.St}
theorem bJ.ED(h:bJ w ad):eQ w (sK ad):=⟨h.cell 1 (by decide),h.cell 2 (by decide),h.cell 3 (by decide),h.cell 5 (by decide),h.cell 6 (by decide),h.cell 7 (by decide),h.cell 9 (by decide),h.cell 11 (by decide)⟩
theorem bJ.abw(h:bJ w ad):uK w (sK ad):=⟨h.cell 10 (by decide),h.cell 11 (by decide),h.cell 1 (by decide),h.cell 2 (by decide),h.cell 3 (by decide)⟩
theorem bJ.aqd(h:bJ w ad):yf w (sK ad):=⟨h.cell 3 (by decide),h.cell 1 (by decide),h.cell 7 (by decide)⟩
theorem aqe(ad:Nat->Addr)(c:Nat):V4 (sK ad) c=fq ad c:=by cases c <;> rfl
def gX(r:Ve.dr):Array Value:=#[Z r.c,.string r.k,Z r.id,Z r.pr,Z r.q,Z r.cd]
def lf(r:Ve.dr):Value:=.agg (gX r)
theorem aM.sent(H:aM w W B X wd h seed S)(hs:bJ w ad):bJ W ad:=hs.later H.bG
theorem cw:U W W.drew:=⟨rfl,rfl,rfl,E _,fun _ _=>rfl⟩
theorem Pb(W:World)(H:aM w W B X wd h seed S):Calls prog 19 #[Rw B.V] W fun e w'=>e=.returned (Rw B.d)/\w'=W:=by have c:W.cell? (O B.V 3)=some (Rw B.d):=H.at 3;clear H;go_enter func19,ntmps19;go_wp2;go_ret;exact⟨rfl,rfl⟩
theorem amj(W:World)(H:aM w W B X wd h seed S):Calls prog 25 #[Rw B.V] W fun e w'=>e=.returned (Z S.bt)/\w'=W:=by have c:W.cell? (O B.V 35)=some (Z S.bt):=H.at 35;clear H;go_enter func25,ntmps25;go_wp2;go_ret;exact⟨rfl,rfl⟩
theorem aqf(S S':Ve.St)(n:Nat)(x:Bool)(h0:S'.on=upd S.on n x)(h1:S'.ak=S.ak)(h2:S'.la=S.la)(h3:S'.aF=S.aF)(h4:S'.aY=S.aY)(c' j':Nat)(hj:j'<5):ia S' c' j'=if c'=n/\j'=0 then .bool x else ia S c' j':=by
 have:j'=0\/j'=1\/j'=2\/j'=3\/j'=4:=by omega
 rcases this with rfl | rfl | rfl | rfl | rfl <;> simp[ia,h0,h1,h2,h3,h4]
 unfold upd;split <;> simp_all
theorem aqg(S S':Ve.St)(n:Nat)(x:Int)(h0:S'.on=S.on)(h1:S'.ak=upd S.ak n x)(h2:S'.la=S.la)(h3:S'.aF=S.aF)(h4:S'.aY=S.aY)(c' j':Nat)(hj:j'<5):ia S' c' j'=if c'=n/\j'=1 then Z x else ia S c' j':=by
 have:j'=0\/j'=1\/j'=2\/j'=3\/j'=4:=by omega
 rcases this with rfl | rfl | rfl | rfl | rfl <;> simp[ia,h0,h1,h2,h3,h4]
 unfold upd;split <;> simp_all
theorem aqh(S S':Ve.St)(n:Nat)(x:Int)(h0:S'.on=S.on)(h1:S'.ak=S.ak)(h2:S'.la=upd S.la n x)(h3:S'.aF=S.aF)(h4:S'.aY=S.aY)(c' j':Nat)(hj:j'<5):ia S' c' j'=if c'=n/\j'=2 then Z x else ia S c' j':=by
 have:j'=0\/j'=1\/j'=2\/j'=3\/j'=4:=by omega
 rcases this with rfl | rfl | rfl | rfl | rfl <;> simp[ia,h0,h1,h2,h3,h4]
 unfold upd;split <;> simp_all
theorem aaM(S S':Ve.St)(n:Nat)(x:ByteArray)(h0:S'.on=S.on)(h1:S'.ak=S.ak)(h2:S'.la=S.la)(h3:S'.aF=upd S.aF n x)(h4:S'.aY=S.aY)(c' j':Nat)(hj:j'<5):ia S' c' j'=if c'=n/\j'=3 then .string x else ia S c' j':=by
 have:j'=0\/j'=1\/j'=2\/j'=3\/j'=4:=by omega
 rcases this with rfl | rfl | rfl | rfl | rfl <;> simp[ia,h0,h1,h2,h3,h4]
 unfold upd;split <;> simp_all
theorem Qi(S S':Ve.St)(n:Nat)(x:Bool)(h1:S'.on=S.on)(h2:S'.ak=S.ak)(h3:S'.la=S.la)(h4:S'.aF=S.aF)(h5:S'.aY=upd S.aY n x)(c' j':Nat)(hj:j'<5):ia S' c' j'=if c'=n/\j'=4 then .bool x else ia S c' j':=by
 have:j'=0\/j'=1\/j'=2\/j'=3\/j'=4:=by omega
 rcases this with rfl | rfl | rfl | rfl | rfl <;> simp[ia,h1,h2,h3,h4,h5]
 unfold upd;split <;> simp_all
theorem aaQ(n:Nat)(hn:n<6)(W:World)(H:Hid (aM w W B X wd h seed S)):Calls prog 132 #[Rw B.V,Z n] W fun e w'=>e=.returned (.tuple #[])/\∃X',aM w w' B X' wd h seed (Ve.leave S n)/\br W w' B X X':=by
 have c:W.cell? (O B.V 2)=some (Rw B.q):=H.at 2;have HC:=Y (aib n W H.it);go_enter func132,ntmps132
 go_wp2_with fail
 refine HC.mono ?_;rintro e w2 ⟨rfl,fK,hi,hq⟩;obtain⟨h1,h2⟩:=H.take hi hq;have H1:=Y h1;have H2:=Y h2;clear hi hq h1 h2;have c4:=H1.conn hn (j:=4) (by decide);have f4:=H1.free (4+n*5+4);simp only[ia]at c4;simp only[];go_wp2;go_end0;obtain⟨h3,h4⟩:=H1.set (S':=Ve.leave S n) hn (j:=4) (by decide) (.bool true) (fun c' j' _ j8=>Qi { S with Q:=az.pV S.Q n } (Ve.leave S n) n true rfl rfl rfl rfl rfl c' j' j8) rfl rfl rfl ⟨rfl,rfl,rfl,rfl,rfl,rfl,rfl,rfl⟩;exact⟨rfl,_,h3,H2.trans h4⟩
theorem aaR(c id:Int)(n:Nat)(hn:n<=12)(W:World)(hs:Hid (bJ W ad)):Calls prog 166 #[Z c,Z id,fq ad n] W fun e w'=>e=.returned (lf (Ve.h_ c id n))/\U W w':=by
 go_enter func166,ntmps166
 go_wp2_with fail
 have cG:Hid (U W (W.alloc (.cells #[Z 0,.string ⟨#[]⟩,Z 0,Z 0,Z 0,Z 0] 121))):=aj;have N0:=Y (hNq W (.cells #[Z 0,.string ⟨#[]⟩,Z 0,Z 0,Z 0,Z 0] 121));refine(O4 n hn ad _ (hs.later cG)).mono ?_;rintro e w2 ⟨rfl,hb2⟩;have HB2:=Y (ar cG hb2);have nA:=Y (bF hb2 N0);clear hb2;have c0:=ag nA 0 rfl;have c1:=ag nA 1 rfl;have c2:=ag nA 2 rfl;have c3:=ag nA 3 rfl;have c4:=ag nA 4 rfl;have c5:=ag nA 5 rfl;have fz:=aC nA;simp only[];go_wp2;have HX:=Y (EK nA (Z c) (.string Ve.pg) (Z id) (Z 0) (Z 0) (Z n));have ow:=Y (aqc HB2 (E W.heap.size) (Z c) (.string Ve.pg) (Z id) (Z 0) (Z 0) (Z n));unfold Ve.pg at HX ow;generalize (((((w2.setCell (O W.heap.size 0) (Z c)).setCell (O W.heap.size 1) _).setCell (O W.heap.size 2) (Z id)).setCell (O W.heap.size 3) (Z 0)).setCell (O W.heap.size 4) (Z 0)).setCell (O W.heap.size 5) (Z n)=w3 at *;have R:∀j,w3.cell? (O W.heap.size j)=_:=fun j=>cR w3 _ j _ 121 _ HX;refine bodyPost_ret (v:=lf (Ve.h_ c id n)) (by simp[results,results166,go_sem,R,lf,gX,Ve.h_,Ve.pg]) rfl ⟨rfl,ow⟩
theorem ape(a:Ask)(W:World)(H:Hid (aM w W B X wd h seed S))(hs:Hid (bJ w ad)):
  Calls prog 167 #[Rw B.V,bM a] W fun e w'=>e=.returned (.string (Ve.uH S a))/\∃X',aM w w' B X' wd h seed { S with Q:=az.jW S.Q a }/\br W w' B X X':=by
 have HP:Hid (∀W' X',aM w W' B X' wd h seed S->Calls prog 209 #[Rw B.q,bM a] W' fun e w'=>e=.returned (fq ad (az.jV S.Q a))/\∃X2,aM w w' B X2 wd h seed { S with Q:=az.jW S.Q a }/\br W' w' B X' X2):=fun W' X' H'=>by
  refine(aiv a W' (H'.sent hs).aqd H'.it).mono ?_;rintro e w' ⟨rfl,fK,h1,h2⟩;obtain⟨h3,h4⟩:=H'.take h1 h2;exact⟨by rw[aqe],_,h3,h4⟩
 have H0:Hid (aM w (W.alloc (.cells (aX a) 95)) B X wd h seed S):=H.later aj;have p5:Hid (br W (W.alloc (.cells (aX a) 95)) B X X):=br.of_below aj B X;have HK:Hid (Ve.uH S a=if az.jV S.Q a=0 then Ve.uz else Ve.I_):=rfl;have c2:W.cell? (O B.V 2)=some (Rw B.q):=H.at 2;have hlt:=H.lt;generalize Ve.uH S a=pk at *;generalize az.jV S.Q a=pc at *;generalize az.jW S.Q a=pl at *;unfold bM aX at *;cases pc with
 | zero =>
  rw[show fq ad 0=.nilIface from rfl]at HP;have hpk:pk=Ve.uz:=HK.out;subst hpk;unfold Ve.uz;go_enter func167,ntmps167
  go_wp2_with fail
  go_region_with (go_at_call 209;refine(HP _ X (H0.later cw)).mono ?_;rintro e w2 ⟨rfl,X2,h1,h2⟩;have H1:=Y h1;have H2:=Y h2;clear h1 h2)
  all_goals
   go_wp2;go_ret;exact⟨rfl,X2,H1,(p5.below cw).trans H2⟩
 | succ d =>
  rw[show fq ad (d+1)=.iface 412 (.pointer (some (ad d))) from rfl]at HP;have hpk:pk=Ve.I_:=HK.out;subst hpk;unfold Ve.I_;go_enter func167,ntmps167
  go_wp2_with fail
  go_region_with (go_at_call 209;refine(HP _ X (H0.later cw)).mono ?_;rintro e w2 ⟨rfl,X2,h1,h2⟩;have H1:=Y h1;have H2:=Y h2;clear h1 h2)
  all_goals
   go_wp2;go_ret;exact⟨rfl,X2,H1,(p5.below cw).trans H2⟩
def w6(S:Ve.St)(n:Nat)(o:Bool)(x l:Int):Ve.St:={ S with on:=upd S.on n o,ak:=upd S.ak n x,la:=upd S.la n l }
theorem aM.aaN(H:aM w W B X wd h seed S){n:Nat}(hn:n<6)(o:Bool)(x l:Int):
  aM w (((W.setCell ⟨B.V,4+n*5,none⟩ (.bool o)).setCell ⟨B.V,4+n*5+1,none⟩ (Z x)).setCell ⟨B.V,4+n*5+2,none⟩ (Z l)) B X wd h seed (w6 S n o x l)/\br W (((W.setCell ⟨B.V,4+n*5,none⟩ (.bool o)).setCell ⟨B.V,4+n*5+1,none⟩ (Z x)).setCell ⟨B.V,4+n*5+2,none⟩ (Z l)) B X X:=by
 obtain⟨a1,a2⟩:=H.set (S':={ S with on:=upd S.on n o }) hn (j:=0) (by decide) (.bool o) (fun c' j' _ j8=>aqf S { S with on:=upd S.on n o } n o rfl rfl rfl rfl rfl c' j' j8) rfl rfl rfl ⟨rfl,rfl,rfl,rfl,rfl,rfl,rfl,rfl⟩;obtain⟨b1,b2⟩:=a1.set (S':={ S with on:=upd S.on n o,ak:=upd S.ak n x }) hn (j:=1) (by decide) (Z x) (fun c' j' _ j8=>aqg { S with on:=upd S.on n o } { S with on:=upd S.on n o,ak:=upd S.ak n x } n x rfl rfl rfl rfl rfl c' j' j8) rfl rfl rfl ⟨rfl,rfl,rfl,rfl,rfl,rfl,rfl,rfl⟩;obtain⟨d1,d2⟩:=b1.set (S':=w6 S n o x l) hn (j:=2) (by decide) (Z l) (fun c' j' _ j8=>aqh { S with on:=upd S.on n o,ak:=upd S.ak n x } (w6 S n o x l) n l rfl rfl rfl rfl rfl c' j' j8) rfl rfl rfl ⟨rfl,rfl,rfl,rfl,rfl,rfl,rfl,rfl⟩;exact⟨d1,(a2.trans b2).trans d2⟩
end
section
variable {w W:World} {ad:Nat->Addr} {B:bO} {X:bQ} {wd h seed:Int} {S:Ve.St}
theorem EE(R:World->Prop):∃(X:Type) (val:X->World),(∀x,R (val x))/\∀W,R W->∃x,val x=W :=
 ⟨{ w:World // R w },fun x=>x.1,fun x=>x.2,fun W h=>⟨⟨W,h⟩,rfl⟩⟩
theorem aqi(n:Nat)(a:Ask)(hne:a.c≠n)(W:World)(H:Hid (aM w W B X wd h seed S))(hs:Hid (bJ w ad)):
  Calls prog 165 #[Rw B.V,Z n,bM a] W fun e w'=>e=.returned (fq ad 3)/\U W w':=by
 have g:=(H.sent hs).cell 2 (by decide);have g':W.cell? (O 3 0)=some (.iface 412 (.pointer (some (ad 2)))):=g;have hz:3<W.heap.size:=bCq W _ g;have hb:(a.c != (n:Int))=true:=by simpa using hne
 clear g hne;unfold bM aX;go_enter func165,ntmps165;go_wp2;go_ret;exact⟨rfl,aj⟩
theorem aqj(n:Nat)(hn:n<6)(a:Ask)(hc:a.c=n)(sO:a_.tc (S.on n) (S.ak n) a=0)(W:World)(H:Hid (aM w W B X wd h seed S))(hs:Hid (bJ w ad)):
  Calls prog 165 #[Rw B.V,Z n,bM a] W fun e w'=>e=.returned .nilIface/\aM w w' B X wd h seed (Ve.taken S n a)/\br W w' B X X:=by
 have hb:(a.c != (n:Int))=false:=by simpa using hc
 have OU:(n:Int)<6:=by omega
 have tX:Hid (Ve.taken S n a=w6 S n (a_.jJ (S.on n) (S.ak n) a) (a_.kA (S.on n) (S.ak n) a) (a_.iR (S.on n) (S.ak n) (S.la n) a S.now)):=rfl;have H1:Hid (aM w (W.alloc (.cells (aX a) 95)) B X wd h seed S):=H.later aj;have HB1:Hid (U W (W.alloc (.cells (aX a) 95))):=aj;have HA:=Y (hNq W (.cells (aX a) 95));have HT:Hid (∀W',Below (W.alloc (.cells (aX a) 95)).heap.size (W.alloc (.cells (aX a) 95)) W'->Calls prog 208 #[my (S.on n) (S.ak n) (S.la n),bM a,Z S.now] W' fun e w'=>e=.returned (.tuple #[my (a_.jJ (S.on n) (S.ak n) a) (a_.kA (S.on n) (S.ak n) a) (a_.iR (S.on n) (S.ak n) (S.la n) a S.now),.nilIface])/\U W' w'):=fun W' hb'=>by
  have:=Z8 (S.on n) (S.ak n) (S.la n) S.now a W' ((H1.later hb').sent hs).abw
  rw[sO]at this;exact this
 generalize Ve.taken S n a=Fv at *;generalize a_.jJ (S.on n) (S.ak n) a=to at *;generalize a_.kA (S.on n) (S.ak n) a=tn at *;generalize a_.iR (S.on n) (S.ak n) (S.la n) a S.now=tl at *;clear hc sO;unfold bM aX my at *;go_enter func165,ntmps165;have a1:∀q,(W.alloc (.cells #[.int .u8 a.k,Z a.c,Z a.sq,Z a.it,Z a.sd,Z a.pr,Z a.q,Z a.id] 95)).cell? (O W.heap.size q)=(#[.int .u8 a.k,Z a.c,Z a.sq,Z a.it,Z a.sd,Z a.pr,Z a.q,Z a.id]:Array Value)[q]?:=fun q=>cR _ _ q _ _ _ HA;go_wp2;clear a1;generalize W.alloc (.cells #[.int .u8 a.k,Z a.c,Z a.sq,Z a.it,Z a.sd,Z a.pr,Z a.q,Z a.id] 95)=W1 at *;obtain⟨bl,val,hcl,ay⟩:=EE (fun W'=>W'.heap[B.V]?=some (.cells (j5 B seed S) 114 (0,0))/\W'.heap[W.heap.size]?=some (.cells #[.int .u8 a.k,Z a.c,Z a.sq,Z a.it,Z a.sd,Z a.pr,Z a.q,Z a.id] 95 (0,0)));have aH:Hid (∀W',U W1 W'->∃x,val x=W'):=fun W' hb=>ay W' ⟨(H1.later hb).blk,bF hb HA⟩;obtain⟨x0,hx0⟩:=aH.out W1.drew cw;have hnx:Nonempty bl:=⟨x0⟩;have s0:∀x,(val x).cell? ⟨B.V,4+n*5,none⟩=some (.bool (S.on n)):=fun x=>by rw[cR _ _ _ _ _ _ (hcl x).1];exact sL B seed S hn (j:=0) (by decide)
 have s1:∀x,(val x).cell? ⟨B.V,4+n*5+1,none⟩=some (Z (S.ak n)):=fun x=>by rw[cR _ _ _ _ _ _ (hcl x).1];exact sL B seed S hn (j:=1) (by decide)
 have s2:∀x,(val x).cell? ⟨B.V,4+n*5+2,none⟩=some (Z (S.la n)):=fun x=>by rw[cR _ _ _ _ _ _ (hcl x).1];exact sL B seed S hn (j:=2) (by decide)
 have s3:=fun x=>ag (hcl x).1 34 rfl;have e0:=fun x=>ag (hcl x).2 0 rfl;have e1:=fun x=>ag (hcl x).2 1 rfl;have e2:=fun x=>ag (hcl x).2 2 rfl;have e3:=fun x=>ag (hcl x).2 3 rfl;have e4:=fun x=>ag (hcl x).2 4 rfl;have e5:=fun x=>ag (hcl x).2 5 rfl;have e6:=fun x=>ag (hcl x).2 6 rfl;have e7:=fun x=>ag (hcl x).2 7 rfl;obtain⟨w4,hw4⟩:=aG W1.drew;have bH:Hid (U W1 w4):=by rw[<- hw4];exact cw
 clear ay hcl;refine vB (val:=val) (fun D aA=>aA.heap[D]?=some (.cells #[.bool to,Z tn,Z tl] 107 (0,0))/\U W1 aA/\W1.heap.size<=D) (.read 0 (.read 1 (.read 2 (.read 3 (.read 4 (.read 5 (.read 6 (.read 7 (.read 8 (.read 9 (.read 10 (.read 11 (.two 12 (.read 13 (.read 14 (.read 15 (.one 16 (.one 17 (.read 18 .done)))))) 16 (.one 12 (.read 13 (.read 14 (.read 15 (.one 17 (.read 18 .done))))))))))))))))))) (by kernel_rfl) (by kernel_rfl) x0 hx0 ?_;apply Exists.intro;refine⟨?_,?_⟩
 case' refine_1 =>
  rw[hx0,hw4]
  iterate 12 (refine cF rfl (fun K hK=>?_);refine⟨by rfl,?_⟩;unfold aQ;go_simp;refine hK _ ?_;clear hK K)
  refine⟨?_,?_⟩
  case refine_1 =>
   refine cq rfl (fun K hK=>?_);refine⟨by rfl,?_⟩;unfold aB;go_simp;refine(HT _ bH).mono ?_;rintro e wc ⟨rfl,hbc⟩;have gG:Hid (U W1 wc):=ar bH hbc;refine⟨_,rfl,aH _ gG,hK _ _ ?_⟩;clear hK K hbc
   iterate 3 (refine cF rfl (fun K hK=>?_);refine⟨by rfl,?_⟩;unfold aQ;go_simp;refine hK _ ?_;clear hK K)
   refine cq rfl (fun K hK=>?_);refine⟨by rfl,?_⟩;unfold aB;go_simp;have au:=Y (hNq wc (.cells #[.bool false,Z 0,Z 0] 107));have cA:Hid (U W1 (wc.alloc (.cells #[.bool false,Z 0,Z 0] 107))):=gG.alloc gG.size _;have eY:Hid (W1.heap.size<=wc.heap.size):=gG.size;refine⟨aH _ cA,hK _ _ ?_⟩;clear hK K;generalize wc.alloc (.cells #[.bool false,Z 0,Z 0] 107)=aD at *;generalize wc.heap.size=ck at *;have c0:=ag au 0 rfl;have c1:=ag au 1 rfl;have c2:=ag au 2 rfl;have f0:=aC au 0;have f1:=aC au 1;have f2:=aC au 2;have HX:=Y (yZ au (.bool to) (Z tn) (Z tl));have rz:=Y (y5 cA eY (.bool to) (Z tn) (Z tl));refine cq rfl (fun K hK=>?_);refine⟨by rfl,?_⟩;unfold aB;go_simp;refine⟨aH _ rz,hK _ _ ?_⟩;clear hK K c0 c1 c2 f0 f1 f2;generalize ((aD.setCell (O ck 0) (.bool to)).setCell (O ck 1) (Z tn)).setCell (O ck 2) (Z tl)=wx at *;refine cF rfl (fun K hK=>?_);refine⟨by rfl,?_⟩;unfold aQ;go_simp;refine hK _ ?_;clear hK K;refine jR ?_;exact⟨ck,rfl,HX,rz,eY⟩
  case refine_2 =>
   refine cq rfl (fun K hK=>?_);refine⟨by rfl,?_⟩;unfold aB;go_simp;have pF:=Y (hNq w4 (.cells #[.bool false,Z 0,Z 0] 107));have ez:Hid (U W1 (w4.alloc (.cells #[.bool false,Z 0,Z 0] 107))):=bH.alloc bH.size _;have eY:Hid (W1.heap.size<=w4.heap.size):=bH.size;refine⟨aH _ ez,hK _ _ ?_⟩;clear hK K;generalize w4.alloc (.cells #[.bool false,Z 0,Z 0] 107)=jl at *;generalize w4.heap.size=ck at *;refine cq rfl (fun K hK=>?_);refine⟨by rfl,?_⟩;unfold aB;go_simp;refine(HT _ ez).mono ?_;rintro e aD ⟨rfl,sP⟩;have au:=Y (bF sP pF);have cA:Hid (U W1 aD):=ar ez sP;refine⟨_,rfl,aH _ cA,hK _ _ ?_⟩;clear hK K sP
   iterate 3 (refine cF rfl (fun K hK=>?_);refine⟨by rfl,?_⟩;unfold aQ;go_simp;refine hK _ ?_;clear hK K)
   have c0:=ag au 0 rfl;have c1:=ag au 1 rfl;have c2:=ag au 2 rfl;have f0:=aC au 0;have f1:=aC au 1;have f2:=aC au 2;have HX:=Y (yZ au (.bool to) (Z tn) (Z tl));have rz:=Y (y5 cA eY (.bool to) (Z tn) (Z tl));refine cq rfl (fun K hK=>?_);refine⟨by rfl,?_⟩;unfold aB;go_simp;refine⟨aH _ rz,hK _ _ ?_⟩;clear hK K c0 c1 c2 f0 f1 f2;generalize ((aD.setCell (O ck 0) (.bool to)).setCell (O ck 1) (Z tn)).setCell (O ck 2) (Z tl)=wx at *;refine cF rfl (fun K hK=>?_);refine⟨by rfl,?_⟩;unfold aQ;go_simp;refine hK _ ?_;clear hK K;refine jR ?_;exact⟨ck,rfl,HX,rz,eY⟩
 intro D aA ⟨Jo,hb6,QG⟩;clear hx0 hw4 s0 s1 s2 s3 e0 e1 e2 e3 e4 e5 e6 e7 aH;clear x0 hnx;clear val;clear bl;have HD:=Y Jo;have bk:=Y hb6;have auA:B.V<D:=Nat.lt_of_lt_of_le H1.lt QG;have lK:=Y (H1.later hb6);clear Jo hb6;have d0:=ag HD 0 rfl;have d1:=ag HD 1 rfl;have d2:=ag HD 2 rfl;have c0:aA.cell? ⟨B.V,4+n*5,none⟩=some (.bool (S.on n)):=lK.conn hn (j:=0) (by decide);have c1:aA.cell? ⟨B.V,4+n*5+1,none⟩=some (Z (S.ak n)):=lK.conn hn (j:=1) (by decide);have c2:aA.cell? ⟨B.V,4+n*5+2,none⟩=some (Z (S.la n)):=lK.conn hn (j:=2) (by decide);have f0:=lK.free (4+n*5);have f1:=lK.free (4+n*5+1);have f2:=lK.free (4+n*5+2);go_wp2
 go_region
 go_wp2;go_ret;obtain⟨h7,h8⟩:=lK.aaN hn to tn tl;exact⟨rfl,by rw[tX.out];exact h7.later cw,(br.of_below (ar HB1 bk) B X).trans (h8.below cw)⟩
theorem aqk(n:Nat)(hn:n<6)(a:Ask)(hc:a.c=n)(d:Nat)(sO:a_.tc (S.on n) (S.ak n) a=d+1)(W:World)(H:Hid (aM w W B X wd h seed S))(hs:Hid (bJ w ad)):
  Calls prog 165 #[Rw B.V,Z n,bM a] W fun e w'=>e=.returned (.iface 412 (.pointer (some (ad d))))/\U W w':=by
 have hb:(a.c != (n:Int))=false:=by simpa using hc
 have OU:(n:Int)<6:=by omega
 have H1:Hid (aM w (W.alloc (.cells (aX a) 95)) B X wd h seed S):=H.later aj;have HB1:Hid (U W (W.alloc (.cells (aX a) 95))):=aj;have HA:=Y (hNq W (.cells (aX a) 95));have HT:Hid (∀W',Below (W.alloc (.cells (aX a) 95)).heap.size (W.alloc (.cells (aX a) 95)) W'->Calls prog 208 #[my (S.on n) (S.ak n) (S.la n),bM a,Z S.now] W' fun e w'=>e=.returned (.tuple #[my (a_.jJ (S.on n) (S.ak n) a) (a_.kA (S.on n) (S.ak n) a) (a_.iR (S.on n) (S.ak n) (S.la n) a S.now),.iface 412 (.pointer (some (ad d)))])/\U W' w'):=fun W' hb'=>by
  have:=Z8 (S.on n) (S.ak n) (S.la n) S.now a W' ((H1.later hb').sent hs).abw
  rw[sO]at this;exact this
 generalize a_.jJ (S.on n) (S.ak n) a=to at *;generalize a_.kA (S.on n) (S.ak n) a=tn at *;generalize a_.iR (S.on n) (S.ak n) (S.la n) a S.now=tl at *;clear hc sO;unfold bM aX my at *;go_enter func165,ntmps165;have a1:∀q,(W.alloc (.cells #[.int .u8 a.k,Z a.c,Z a.sq,Z a.it,Z a.sd,Z a.pr,Z a.q,Z a.id] 95)).cell? (O W.heap.size q)=(#[.int .u8 a.k,Z a.c,Z a.sq,Z a.it,Z a.sd,Z a.pr,Z a.q,Z a.id]:Array Value)[q]?:=fun q=>cR _ _ q _ _ _ HA;go_wp2;clear a1;generalize W.alloc (.cells #[.int .u8 a.k,Z a.c,Z a.sq,Z a.it,Z a.sd,Z a.pr,Z a.q,Z a.id] 95)=W1 at *;obtain⟨bl,val,hcl,ay⟩:=EE (fun W'=>W'.heap[B.V]?=some (.cells (j5 B seed S) 114 (0,0))/\W'.heap[W.heap.size]?=some (.cells #[.int .u8 a.k,Z a.c,Z a.sq,Z a.it,Z a.sd,Z a.pr,Z a.q,Z a.id] 95 (0,0)));have aH:Hid (∀W',U W1 W'->∃x,val x=W'):=fun W' hb=>ay W' ⟨(H1.later hb).blk,bF hb HA⟩;obtain⟨x0,hx0⟩:=aH.out W1.drew cw;have hnx:Nonempty bl:=⟨x0⟩;have s0:∀x,(val x).cell? ⟨B.V,4+n*5,none⟩=some (.bool (S.on n)):=fun x=>by rw[cR _ _ _ _ _ _ (hcl x).1];exact sL B seed S hn (j:=0) (by decide)
 have s1:∀x,(val x).cell? ⟨B.V,4+n*5+1,none⟩=some (Z (S.ak n)):=fun x=>by rw[cR _ _ _ _ _ _ (hcl x).1];exact sL B seed S hn (j:=1) (by decide)
 have s2:∀x,(val x).cell? ⟨B.V,4+n*5+2,none⟩=some (Z (S.la n)):=fun x=>by rw[cR _ _ _ _ _ _ (hcl x).1];exact sL B seed S hn (j:=2) (by decide)
 have s3:=fun x=>ag (hcl x).1 34 rfl;have e0:=fun x=>ag (hcl x).2 0 rfl;have e1:=fun x=>ag (hcl x).2 1 rfl;have e2:=fun x=>ag (hcl x).2 2 rfl;have e3:=fun x=>ag (hcl x).2 3 rfl;have e4:=fun x=>ag (hcl x).2 4 rfl;have e5:=fun x=>ag (hcl x).2 5 rfl;have e6:=fun x=>ag (hcl x).2 6 rfl;have e7:=fun x=>ag (hcl x).2 7 rfl;obtain⟨w4,hw4⟩:=aG W1.drew;have bH:Hid (U W1 w4):=by rw[<- hw4];exact cw
 clear ay hcl;refine vB (val:=val) (fun D aA=>aA.heap[D]?=some (.cells #[.bool to,Z tn,Z tl] 107 (0,0))/\U W1 aA/\W1.heap.size<=D) (.read 0 (.read 1 (.read 2 (.read 3 (.read 4 (.read 5 (.read 6 (.read 7 (.read 8 (.read 9 (.read 10 (.read 11 (.two 12 (.read 13 (.read 14 (.read 15 (.one 16 (.one 17 (.read 18 .done)))))) 16 (.one 12 (.read 13 (.read 14 (.read 15 (.one 17 (.read 18 .done))))))))))))))))))) (by kernel_rfl) (by kernel_rfl) x0 hx0 ?_;apply Exists.intro;refine⟨?_,?_⟩
 case' refine_1 =>
  rw[hx0,hw4]
  iterate 12 (refine cF rfl (fun K hK=>?_);refine⟨by rfl,?_⟩;unfold aQ;go_simp;refine hK _ ?_;clear hK K)
  refine⟨?_,?_⟩
  case refine_1 =>
   refine cq rfl (fun K hK=>?_);refine⟨by rfl,?_⟩;unfold aB;go_simp;refine(HT _ bH).mono ?_;rintro e wc ⟨rfl,hbc⟩;have gG:Hid (U W1 wc):=ar bH hbc;refine⟨_,rfl,aH _ gG,hK _ _ ?_⟩;clear hK K hbc
   iterate 3 (refine cF rfl (fun K hK=>?_);refine⟨by rfl,?_⟩;unfold aQ;go_simp;refine hK _ ?_;clear hK K)
   refine cq rfl (fun K hK=>?_);refine⟨by rfl,?_⟩;unfold aB;go_simp;have au:=Y (hNq wc (.cells #[.bool false,Z 0,Z 0] 107));have cA:Hid (U W1 (wc.alloc (.cells #[.bool false,Z 0,Z 0] 107))):=gG.alloc gG.size _;have eY:Hid (W1.heap.size<=wc.heap.size):=gG.size;refine⟨aH _ cA,hK _ _ ?_⟩;clear hK K;generalize wc.alloc (.cells #[.bool false,Z 0,Z 0] 107)=aD at *;generalize wc.heap.size=ck at *;have c0:=ag au 0 rfl;have c1:=ag au 1 rfl;have c2:=ag au 2 rfl;have f0:=aC au 0;have f1:=aC au 1;have f2:=aC au 2;have HX:=Y (yZ au (.bool to) (Z tn) (Z tl));have rz:=Y (y5 cA eY (.bool to) (Z tn) (Z tl));refine cq rfl (fun K hK=>?_);refine⟨by rfl,?_⟩;unfold aB;go_simp;refine⟨aH _ rz,hK _ _ ?_⟩;clear hK K c0 c1 c2 f0 f1 f2;generalize ((aD.setCell (O ck 0) (.bool to)).setCell (O ck 1) (Z tn)).setCell (O ck 2) (Z tl)=wx at *;refine cF rfl (fun K hK=>?_);refine⟨by rfl,?_⟩;unfold aQ;go_simp;refine hK _ ?_;clear hK K;refine jR ?_;exact⟨ck,rfl,HX,rz,eY⟩
  case refine_2 =>
   refine cq rfl (fun K hK=>?_);refine⟨by rfl,?_⟩;unfold aB;go_simp;have pF:=Y (hNq w4 (.cells #[.bool false,Z 0,Z 0] 107));have ez:Hid (U W1 (w4.alloc (.cells #[.bool false,Z 0,Z 0] 107))):=bH.alloc bH.size _;have eY:Hid (W1.heap.size<=w4.heap.size):=bH.size;refine⟨aH _ ez,hK _ _ ?_⟩;clear hK K;generalize w4.alloc (.cells #[.bool false,Z 0,Z 0] 107)=jl at *;generalize w4.heap.size=ck at *;refine cq rfl (fun K hK=>?_);refine⟨by rfl,?_⟩;unfold aB;go_simp;refine(HT _ ez).mono ?_;rintro e aD ⟨rfl,sP⟩;have au:=Y (bF sP pF);have cA:Hid (U W1 aD):=ar ez sP;refine⟨_,rfl,aH _ cA,hK _ _ ?_⟩;clear hK K sP
   iterate 3 (refine cF rfl (fun K hK=>?_);refine⟨by rfl,?_⟩;unfold aQ;go_simp;refine hK _ ?_;clear hK K)
   have c0:=ag au 0 rfl;have c1:=ag au 1 rfl;have c2:=ag au 2 rfl;have f0:=aC au 0;have f1:=aC au 1;have f2:=aC au 2;have HX:=Y (yZ au (.bool to) (Z tn) (Z tl));have rz:=Y (y5 cA eY (.bool to) (Z tn) (Z tl));refine cq rfl (fun K hK=>?_);refine⟨by rfl,?_⟩;unfold aB;go_simp;refine⟨aH _ rz,hK _ _ ?_⟩;clear hK K c0 c1 c2 f0 f1 f2;generalize ((aD.setCell (O ck 0) (.bool to)).setCell (O ck 1) (Z tn)).setCell (O ck 2) (Z tl)=wx at *;refine cF rfl (fun K hK=>?_);refine⟨by rfl,?_⟩;unfold aQ;go_simp;refine hK _ ?_;clear hK K;refine jR ?_;exact⟨ck,rfl,HX,rz,eY⟩
 intro D aA ⟨Jo,hb6,QG⟩;clear hx0 hw4 s0 s1 s2 s3 e0 e1 e2 e3 e4 e5 e6 e7 aH;clear x0 hnx;clear val;clear bl;have bk:=Y hb6;clear Jo hb6 QG;go_wp2;go_ret;exact⟨rfl,ar HB1 bk⟩
theorem Je(n:Nat)(hn:n<6)(a:Ask)(W:World)(H:aM w W B X wd h seed S)(hs:bJ w ad):
  Calls prog 165 #[Rw B.V,Z n,bM a] W fun e w'=>e=.returned (fq ad (Ve.takeC S n a))/\aM w w' B X wd h seed (Ve.mZ S n a)/\br W w' B X X:=by
 by_cases hc:a.c=n
 .have e1:Ve.takeC S n a=a_.tc (S.on n) (S.ak n) a:=by unfold Ve.takeC;rw[if_pos hc]
  cases sO:a_.tc (S.on n) (S.ak n) a with
  | zero =>
   rw[sO]at e1;have e2:Ve.mZ S n a=Ve.taken S n a:=by unfold Ve.mZ;rw[if_pos e1]
   rw[e1,e2];exact aqj n hn a hc sO W H hs
  | succ d =>
   rw[sO]at e1;have e2:Ve.mZ S n a=S:=by unfold Ve.mZ;rw[if_neg (by omega)]
   rw[e1,e2];refine(aqk n hn a hc d sO W H hs).mono ?_;rintro e w' ⟨rfl,hb⟩;exact⟨rfl,H.later hb,br.of_below hb B X⟩
 .have e1:Ve.takeC S n a=3:=by unfold Ve.takeC;rw[if_neg hc]
  have e2:Ve.mZ S n a=S:=by unfold Ve.mZ;rw[if_neg (by omega)]
  rw[e1,e2];refine(aqi n a hc W H hs).mono ?_;rintro e w' ⟨rfl,hb⟩;exact⟨rfl,H.later hb,br.of_below hb B X⟩
end
def qb(a:Ask)(cd:Nat):Value:=.agg #[.int .u8 a.k,Z a.c,Z a.sq,Z a.it,Z a.sd,Z a.pr,Z a.q,Z a.id,Z cd]
def eI(a:Ask)(cd:Nat):Array Value:=#[.int .u8 a.k,Z a.c,Z a.sq,Z a.it,Z a.sd,Z a.pr,Z a.q,Z a.id,Z cd]
def fQ:Array Value:=#[Z 0,.string ⟨#[]⟩,Z 0,Z 0,Z 0,Z 0]
section
variable {w W W':World} {ad:Nat->Addr} {B:bO} {X X':bQ} {wd h seed:Int} {S:Ve.St}
theorem br.other{k n:Nat}{o:Obj}(hs:br W W' B X X')(ho:∀j,dV B X j->j<n)(hk:n<=k)(hb:W.heap[k]?=some o):W'.heap[k]?=some o:=by rw[hs.turned.block k (lBq hb) (fun e=>by have:=ho k e;omega)];exact hb
theorem aM.beside{q:Nat}{cur:Array Value}{e:TypeId}{fz:Nat×Nat}(H:aM w W B X wd h seed S)(hk:W.heap[q]?=some (.cells cur e fz))(he:e≠114/\e≠213/\e≠267/\e≠276/\e≠197/\e≠232/\e≠95/\e≠117/\e≠5)(uy:e≠210)(hlo:w.heap.size<=q)(hs:aU W W' q):aM w W' B X wd h seed S :=
 H.aside (T:=fun k=>k=q) ⟨hs.os,hs.tape,hs.output,hs.size,fun k hk hn=>hs.block k hk hn⟩ (Ne.symm (aN hk H.fl.blk uy)) (fun k hv e=>mR H hk he (by rw[<- e];exact hv)) (fun k e=>by rw[e];exact hlo)
theorem br.beside{W1 W2:World}{q:Nat}(hs:br W W1 B X X')(h:aU W1 W2 q)(hq:W.heap.size<=q):br W W2 B X X' :=
 ⟨hs.turned.trans (S1:=fun k=>k=q) ⟨h.os,h.tape,h.output,h.size,fun k hk hn=>h.block k hk hn⟩ (fun k e=>.inr (by rw[e];exact hq)),hs.new⟩
def Bb(w W W':World)(e:Ending)(B:bO)(X:bQ)(wd h seed:Int)(R:List Ve.dr)(S':Ve.St):Prop :=
 ∃r b,e=.returned (.tuple #[lf r,.bool b])/\R=(if b=true then [r] else [])/\∃X',aM w W' B X' wd h seed S'/\br W W' B X X'
theorem ao8(n:Nat)(a:Ask)(cd:Nat)(hcd:cd≠0)(W:World)(H:Hid (aM w W B X wd h seed S)):
  Calls prog 99 #[Rw B.V,Z n,qb a cd] W fun e w'=>Bb w W w' e B X wd h seed [Ve.h_ n 0 cd] S:=by
 have hc:((cd:Int) != 0)=true:=by simpa using hcd
 have HB:Hid (U W ((W.alloc (.cells (eI a cd) 186)).alloc (.cells #[Z n,.string Ve.pg,Z 0,Z 0,Z 0,Z cd] 121))):=aj.alloc (by simp) _;unfold qb;unfold eI Ve.pg at HB;go_enter func99,ntmps99;go_wp2;refine bodyPost_ret (v:=.tuple #[lf (Ve.h_ n 0 cd),.bool true]) (by simp[results,results99,go_sem,lf,gX,Ve.h_,Ve.pg]) rfl ⟨_,_,rfl,rfl,X,H.later HB,br.of_below HB B X⟩
theorem ao9(n:Nat)(hn:n<6)(a:Ask)(d:Nat)(hd:Ve.takeC S n a=d+1)(apa:d+1<=12)(W:World)(H:Hid (aM w W B X wd h seed S))(hs:Hid (bJ w ad)):
  Calls prog 99 #[Rw B.V,Z n,qb a 0] W fun e w'=>Bb w W w' e B X wd h seed [Ve.h_ n a.id (d+1)] S:=by
 have av:Hid (U W (((W.alloc (.cells (eI a 0) 186)).alloc (.cells fQ 121)).alloc (.cells (aX a) 95))):=(aj.alloc (by simp) _).alloc (by simp;omega) _;have HR3:Hid ((((W.alloc (.cells (eI a 0) 186)).alloc (.cells fQ 121)).alloc (.cells (aX a) 95)).heap[W.heap.size+1]?=some (.cells fQ 121 (0,0))):=by have h:=hNq (W.alloc (.cells (eI a 0) 186)) (.cells fQ 121);rw[show (W.alloc (.cells (eI a 0) 186)).heap.size=W.heap.size+1 by simp]at h;exact(Below.heap_alloc _ _ _ (by simp)).trans h
 have ko:Hid ((((W.alloc (.cells (eI a 0) 186)).alloc (.cells fQ 121)).alloc (.cells (aX a) 95)).heap[W.heap.size+2]?=some (.cells (aX a) 95 (0,0))):=by have h:=hNq ((W.alloc (.cells (eI a 0) 186)).alloc (.cells fQ 121)) (.cells (aX a) 95);rw[show ((W.alloc (.cells (eI a 0) 186)).alloc (.cells fQ 121)).heap.size=W.heap.size+2 by simp]at h;exact h
 have HT:=Y (Je n hn a _ (H.later av) hs);rw[hd,show fq ad (d+1)=.iface 412 (.pointer (some (ad d))) from rfl,show Ve.mZ S n a=S by unfold Ve.mZ;rw[if_neg (by omega)]]at HT;have HF:=Y (fun W' (H':aM w W' B X wd h seed S)=>aaR n a.id (d+1) apa W' (H'.sent hs));rw[show fq ad (d+1)=.iface 412 (.pointer (some (ad d))) from rfl]at HF;clear hd;unfold qb;unfold eI fQ bM aX at *;go_enter func99,ntmps99
 go_wp2_with fail
 refine HT.mono ?_;rintro e w4 ⟨rfl,h4,cK⟩;have d8:=Y h4;have dL:=Y (br.trans (br.of_below av B X) cK);have ho:∀j,dV B X j->j<W.heap.size:=fun j hj=>(H.ig hj).2;have cO:=Y (cK.other ho (by omega) HR3);have gF:=Y (cK.other ho (by omega) ko);clear h4 cK;have a7:=ag gF 7 rfl;simp only[]
 go_wp2_with fail
 refine(HF w4 d8).mono ?_;rintro e aI ⟨rfl,bR⟩;have H5:=Y (d8.later bR);have fu:=Y (dL.below bR);have bE:=Y (bF bR cO);clear bR a7;have c0:=ag bE 0 rfl;have c1:=ag bE 1 rfl;have c2:=ag bE 2 rfl;have c3:=ag bE 3 rfl;have c4:=ag bE 4 rfl;have c5:=ag bE 5 rfl;have fz:=aC bE;have HX:=Y (EK bE (Z n) (.string Ve.pg) (Z a.id) (Z 0) (Z 0) (Z ((d:Int)+1)));have cP:=Y (Jf aI (W.heap.size+1) (Z n) (.string Ve.pg) (Z a.id) (Z 0) (Z 0) (Z ((d:Int)+1)));unfold lf gX Ve.h_ Ve.pg;unfold Ve.pg at HX cP;simp only[];go_wp2;generalize (((((aI.setCell ⟨W.heap.size+1,0,none⟩ (Z n)).setCell ⟨W.heap.size+1,1,none⟩ (.string ⟨#[114,101,102,117,115,101,100]⟩)).setCell ⟨W.heap.size+1,2,none⟩ (Z a.id)).setCell ⟨W.heap.size+1,3,none⟩ (Z 0)).setCell ⟨W.heap.size+1,4,none⟩ (Z 0)).setCell ⟨W.heap.size+1,5,none⟩ (Z ((d:Int)+1))=aA at *;have R:∀j,aA.cell? ⟨W.heap.size+1,j,none⟩=_:=fun j=>cR aA _ j _ 121 _ HX;have zb:=Y (H5.beside bE (by decide) (by decide) (by have:=H.bG.size;omega) cP);have ej:=Y (fu.beside cP (by omega));refine bodyPost_ret (v:=.tuple #[lf (Ve.h_ n a.id (d+1)),.bool true]) (by simp[results,results99,go_sem,R,lf,gX,Ve.h_,Ve.pg]) rfl ⟨_,_,rfl,rfl,X,zb,ej⟩
theorem apb(n:Nat)(hn:n<6)(a:Ask)(hd:Ve.takeC S n a=0)(hk:Ve.ry a=false)(hq:a.k≠113)(W:World)(H:Hid (aM w W B X wd h seed S))(hs:Hid (bJ w ad)):
  Calls prog 99 #[Rw B.V,Z n,qb a 0] W fun e w'=>Bb w W w' e B X wd h seed [] (Ve.taken S n a):=by
 have hk1:(a.k==111)=false:=by unfold Ve.ry at hk;simp only[Bool.or_eq_false_iff]at hk;exact hk.1
 have hk2:(a.k==99)=false:=by unfold Ve.ry at hk;simp only[Bool.or_eq_false_iff]at hk;exact hk.2
 have hk3:(a.k==113)=false:=by simpa using hq
 have av:Hid (U W (((W.alloc (.cells (eI a 0) 186)).alloc (.cells fQ 121)).alloc (.cells (aX a) 95))):=(aj.alloc (by simp) _).alloc (by simp;omega) _;have HR3:Hid ((((W.alloc (.cells (eI a 0) 186)).alloc (.cells fQ 121)).alloc (.cells (aX a) 95)).heap[W.heap.size+1]?=some (.cells fQ 121 (0,0))):=by have h:=hNq (W.alloc (.cells (eI a 0) 186)) (.cells fQ 121);rw[show (W.alloc (.cells (eI a 0) 186)).heap.size=W.heap.size+1 by simp]at h;exact(Below.heap_alloc _ _ _ (by simp)).trans h
 have ko:Hid ((((W.alloc (.cells (eI a 0) 186)).alloc (.cells fQ 121)).alloc (.cells (aX a) 95)).heap[W.heap.size+2]?=some (.cells (aX a) 95 (0,0))):=by have h:=hNq ((W.alloc (.cells (eI a 0) 186)).alloc (.cells fQ 121)) (.cells (aX a) 95);rw[show ((W.alloc (.cells (eI a 0) 186)).alloc (.cells fQ 121)).heap.size=W.heap.size+2 by simp]at h;exact h
 have HT:=Y (Je n hn a _ (H.later av) hs);rw[hd,show fq ad 0=.nilIface from rfl,show Ve.mZ S n a=Ve.taken S n a by unfold Ve.mZ;rw[if_pos hd]]at HT;clear hd hk hq;unfold qb;unfold eI fQ bM aX at *;go_enter func99,ntmps99
 go_wp2_with fail
 refine HT.mono ?_;rintro e aI ⟨rfl,h5,hs5⟩;have H5:=Y h5;have fu:=Y (br.trans (br.of_below av B X) hs5);have ho:∀j,dV B X j->j<W.heap.size:=fun j hj=>(H.ig hj).2;have bE:=Y (hs5.other ho (by omega) HR3);have ze:=Y (hs5.other ho (by omega) ko);clear h5 hs5;have a0:=ag ze 0 rfl;have c0:=ag bE 0 rfl;have c1:=ag bE 1 rfl;have c2:=ag bE 2 rfl;have c3:=ag bE 3 rfl;have c4:=ag bE 4 rfl;have c5:=ag bE 5 rfl;have fz:=aC bE;have HX:=Y (EK bE (Z 0) (.string ⟨#[]⟩) (Z 0) (Z 0) (Z 0) (Z 0));have cP:=Y (Jf aI (W.heap.size+1) (Z 0) (.string ⟨#[]⟩) (Z 0) (Z 0) (Z 0) (Z 0));simp only[];go_wp2;generalize (((((aI.setCell ⟨W.heap.size+1,0,none⟩ (Z 0)).setCell ⟨W.heap.size+1,1,none⟩ (.string ⟨#[]⟩)).setCell ⟨W.heap.size+1,2,none⟩ (Z 0)).setCell ⟨W.heap.size+1,3,none⟩ (Z 0)).setCell ⟨W.heap.size+1,4,none⟩ (Z 0)).setCell ⟨W.heap.size+1,5,none⟩ (Z 0)=aA at *;have R:∀j,aA.cell? ⟨W.heap.size+1,j,none⟩=_:=fun j=>cR aA _ j _ 121 _ HX;have zb:=Y (H5.beside bE (by decide) (by decide) (by have:=H.bG.size;omega) cP);have ej:=Y (fu.beside cP (by omega));refine bodyPost_ret (v:=.tuple #[lf (⟨0,⟨#[]⟩,0,0,0,0⟩),.bool false]) (by simp[results,results99,go_sem,R,lf,gX]) rfl ⟨_,_,rfl,rfl,X,zb,ej⟩
theorem apc(n:Nat)(hn:n<6)(a:Ask)(hd:Ve.takeC S n a=0)(hq:a.k=113)(W:World)(H:Hid (aM w W B X wd h seed S))(hs:Hid (bJ w ad)):
  Calls prog 99 #[Rw B.V,Z n,qb a 0] W fun e w'=>Bb w W w' e B X wd h seed [] (Ve.leave (Ve.taken S n a) n):=by
 have hk1:(a.k==111)=false:=by rw[hq];rfl
 have hk2:(a.k==99)=false:=by rw[hq];rfl
 have hk3:(a.k==113)=true:=by rw[hq];rfl
 have av:Hid (U W (((W.alloc (.cells (eI a 0) 186)).alloc (.cells fQ 121)).alloc (.cells (aX a) 95))):=(aj.alloc (by simp) _).alloc (by simp;omega) _;have HR3:Hid ((((W.alloc (.cells (eI a 0) 186)).alloc (.cells fQ 121)).alloc (.cells (aX a) 95)).heap[W.heap.size+1]?=some (.cells fQ 121 (0,0))):=by have h:=hNq (W.alloc (.cells (eI a 0) 186)) (.cells fQ 121);rw[show (W.alloc (.cells (eI a 0) 186)).heap.size=W.heap.size+1 by simp]at h;exact(Below.heap_alloc _ _ _ (by simp)).trans h
 have ko:Hid ((((W.alloc (.cells (eI a 0) 186)).alloc (.cells fQ 121)).alloc (.cells (aX a) 95)).heap[W.heap.size+2]?=some (.cells (aX a) 95 (0,0))):=by have h:=hNq ((W.alloc (.cells (eI a 0) 186)).alloc (.cells fQ 121)) (.cells (aX a) 95);rw[show ((W.alloc (.cells (eI a 0) 186)).alloc (.cells fQ 121)).heap.size=W.heap.size+2 by simp]at h;exact h
 have HT:=Y (Je n hn a _ (H.later av) hs);rw[hd,show fq ad 0=.nilIface from rfl,show Ve.mZ S n a=Ve.taken S n a by unfold Ve.mZ;rw[if_pos hd]]at HT;clear hd hq;unfold qb;unfold eI fQ bM aX at *;go_enter func99,ntmps99
 go_wp2_with fail
 refine HT.mono ?_;rintro e w4 ⟨rfl,h4,cK⟩;have d8:=Y h4;have dL:=Y (br.trans (br.of_below av B X) cK);have ho:∀j,dV B X j->j<W.heap.size:=fun j hj=>(H.ig hj).2;have cO:=Y (cK.other ho (by omega) HR3);have gF:=Y (cK.other ho (by omega) ko);clear h4 cK;have a0:=ag gF 0 rfl;simp only[]
 go_wp2_with fail
 refine(aaQ n hn w4 d8).mono ?_;rintro e aI ⟨rfl,sg,h5,hs5⟩;have H5:=Y h5;have fu:=Y (dL.trans hs5);have bE:=Y (hs5.block d8 cO (by decide));clear h5 hs5 a0;have c0:=ag bE 0 rfl;have c1:=ag bE 1 rfl;have c2:=ag bE 2 rfl;have c3:=ag bE 3 rfl;have c4:=ag bE 4 rfl;have c5:=ag bE 5 rfl;have fz:=aC bE;have HX:=Y (EK bE (Z 0) (.string ⟨#[]⟩) (Z 0) (Z 0) (Z 0) (Z 0));have cP:=Y (Jf aI (W.heap.size+1) (Z 0) (.string ⟨#[]⟩) (Z 0) (Z 0) (Z 0) (Z 0));simp only[];go_wp2;generalize (((((aI.setCell ⟨W.heap.size+1,0,none⟩ (Z 0)).setCell ⟨W.heap.size+1,1,none⟩ (.string ⟨#[]⟩)).setCell ⟨W.heap.size+1,2,none⟩ (Z 0)).setCell ⟨W.heap.size+1,3,none⟩ (Z 0)).setCell ⟨W.heap.size+1,4,none⟩ (Z 0)).setCell ⟨W.heap.size+1,5,none⟩ (Z 0)=aA at *;have R:∀j,aA.cell? ⟨W.heap.size+1,j,none⟩=_:=fun j=>cR aA _ j _ 121 _ HX;have zb:=Y (H5.beside bE (by decide) (by decide) (by have:=H.bG.size;omega) cP);have ej:=Y (fu.beside cP (by omega));refine bodyPost_ret (v:=.tuple #[lf (⟨0,⟨#[]⟩,0,0,0,0⟩),.bool false]) (by simp[results,results99,go_sem,R,lf,gX]) rfl ⟨_,_,rfl,rfl,sg,zb,ej⟩
theorem apd(n:Nat)(hn:n<6)(a:Ask)(hd:Ve.takeC S n a=0)(hk:Ve.ry a=true)(W:World)(H:Hid (aM w W B X wd h seed S))(hs:Hid (bJ w ad)):
  Calls prog 99 #[Rw B.V,Z n,qb a 0] W fun e w'=>Bb w W w' e B X wd h seed [⟨n,Ve.uH S a,a.id,0,0,0⟩] { Ve.taken S n a with Q:=az.jW S.Q a }:=by
 have hk1:a.k=111\/a.k=99:=by unfold Ve.ry at hk;simpa using hk
 have av:Hid (U W (((W.alloc (.cells (eI a 0) 186)).alloc (.cells fQ 121)).alloc (.cells (aX a) 95))):=(aj.alloc (by simp) _).alloc (by simp;omega) _;have HR3:Hid ((((W.alloc (.cells (eI a 0) 186)).alloc (.cells fQ 121)).alloc (.cells (aX a) 95)).heap[W.heap.size+1]?=some (.cells fQ 121 (0,0))):=by have h:=hNq (W.alloc (.cells (eI a 0) 186)) (.cells fQ 121);rw[show (W.alloc (.cells (eI a 0) 186)).heap.size=W.heap.size+1 by simp]at h;exact(Below.heap_alloc _ _ _ (by simp)).trans h
 have ko:Hid ((((W.alloc (.cells (eI a 0) 186)).alloc (.cells fQ 121)).alloc (.cells (aX a) 95)).heap[W.heap.size+2]?=some (.cells (aX a) 95 (0,0))):=by have h:=hNq ((W.alloc (.cells (eI a 0) 186)).alloc (.cells fQ 121)) (.cells (aX a) 95);rw[show ((W.alloc (.cells (eI a 0) 186)).alloc (.cells fQ 121)).heap.size=W.heap.size+2 by simp]at h;exact h
 have HT:=Y (Je n hn a _ (H.later av) hs);rw[hd,show fq ad 0=.nilIface from rfl,show Ve.mZ S n a=Ve.taken S n a by unfold Ve.mZ;rw[if_pos hd]]at HT;have HQ:Hid (∀W',aM w W' B X wd h seed (Ve.taken S n a)->Calls prog 167 #[Rw B.V,bM a] W' fun e w'=>e=.returned (.string (Ve.uH S a))/\∃X',aM w w' B X' wd h seed { Ve.taken S n a with Q:=az.jW S.Q a }/\br W' w' B X X'):=fun W' H'=>ape a W' H' hs;generalize Ve.uH S a=pk at *;generalize ({ Ve.taken S n a with Q:=az.jW S.Q a }:Ve.St)=S5 at *;clear hd hk;unfold qb;unfold eI fQ bM aX at *;go_enter func99,ntmps99
 go_wp2_with fail
 refine HT.mono ?_;rintro e w4 ⟨rfl,h4,cK⟩;have d8:=Y h4;have dL:=Y (br.trans (br.of_below av B X) cK);have ho:∀j,dV B X j->j<W.heap.size:=fun j hj=>(H.ig hj).2;have cO:=Y (cK.other ho (by omega) HR3);have gF:=Y (cK.other ho (by omega) ko);clear h4 cK;have a0:=ag gF 0 rfl;simp only[];have ep:(a.k==111)=true\/(a.k==111)=false/\(a.k==99)=true:=by
  rcases hk1 with e | e
  .exact .inl (by rw[e];rfl)
  .exact .inr ⟨by rw[e];rfl,by rw[e];rfl⟩
 clear hk1;rcases ep with hk1 | ⟨hk1,hk2⟩
 all_goals
  go_wp2;obtain⟨bl,val,hcl,ay⟩:=EE (fun W'=>W'.heap[W.heap.size+2]?=some (.cells #[.int .u8 a.k,Z a.c,Z a.sq,Z a.it,Z a.sd,Z a.pr,Z a.q,Z a.id] 95 (0,0)));obtain⟨x0,hx0⟩:=ay w4.drew gF;have hnx:Nonempty bl:=⟨x0⟩;have aH:=Y ay;have e0:=fun x=>ag (hcl x) 0 rfl;have e1:=fun x=>ag (hcl x) 1 rfl;have e2:=fun x=>ag (hcl x) 2 rfl;have e3:=fun x=>ag (hcl x) 3 rfl;have e4:=fun x=>ag (hcl x) 4 rfl;have e5:=fun x=>ag (hcl x) 5 rfl;have e6:=fun x=>ag (hcl x) 6 rfl;have e7:=fun x=>ag (hcl x) 7 rfl;obtain⟨NG,hw4⟩:=aG w4.drew;have bH:Hid (U w4 NG):=by rw[<- hw4];exact cw
  clear ay hcl a0;refine kt (val:=val) [3,7] [0,1,2,4,5,3,6,7,8] (by kernel_rfl) (by kernel_rfl) x0 hx0 ?_;rw[hx0,hw4];clear hx0 hw4
  iterate 5 (refine d7 rfl rfl (fun K hK=>?_);refine⟨by rfl,?_⟩;unfold aQ;go_simp;refine hK _ ?_;clear hK K)
  refine cY rfl rfl (fun K hK=>?_);refine⟨by rfl,?_⟩;unfold aB;go_simp;refine(HQ _ (d8.later bH)).mono ?_;rintro e aI ⟨rfl,sg,h5,hs5⟩;have H5:=Y h5;have fu:=Y ((dL.below bH).trans hs5);have bE:=Y (hs5.block (d8.later bH) (bF bH cO) (by decide));have ze:=Y (hs5.other ho (by omega) (bF bH gF));refine⟨_,rfl,aH _ ze,hK _ _ ?_⟩;clear hK K h5 hs5;have c0:=ag bE 0 rfl;have c1:=ag bE 1 rfl;have c2:=ag bE 2 rfl;have c3:=ag bE 3 rfl;have c4:=ag bE 4 rfl;have c5:=ag bE 5 rfl;have fz:=aC bE;have HX:=Y (EK bE (Z n) (.string pk) (Z a.id) (Z 0) (Z 0) (Z 0));have cP:=Y (Jf aI (W.heap.size+1) (Z n) (.string pk) (Z a.id) (Z 0) (Z 0) (Z 0));have jm:=Y ((cP.block (W.heap.size+2) (lBq ze) (by omega)).trans ze);refine d7 rfl rfl (fun K hK=>?_);refine⟨by rfl,?_⟩;unfold aQ;go_simp;refine hK _ ?_;clear hK K;refine cY rfl rfl (fun K hK=>?_);refine⟨by rfl,?_⟩;unfold aB;go_simp;refine⟨aH _ jm,hK _ _ ?_⟩;clear hK K c0 c1 c2 c3 c4 c5 fz;generalize (((((aI.setCell ⟨W.heap.size+1,0,none⟩ (Z n)).setCell ⟨W.heap.size+1,1,none⟩ (.string pk)).setCell ⟨W.heap.size+1,2,none⟩ (Z a.id)).setCell ⟨W.heap.size+1,3,none⟩ (Z 0)).setCell ⟨W.heap.size+1,4,none⟩ (Z 0)).setCell ⟨W.heap.size+1,5,none⟩ (Z 0)=aA at *;refine d7 rfl rfl (fun K hK=>?_);refine⟨by rfl,?_⟩;unfold aQ;go_simp;refine hK _ ?_;clear hK K;refine jX ?_;go_wp2;have R:∀j,aA.cell? ⟨W.heap.size+1,j,none⟩=_:=fun j=>cR aA _ j _ 121 _ HX;have zb:=Y (H5.beside bE (by decide) (by decide) (by have:=H.bG.size;omega) cP);have ej:=Y (fu.beside cP (by omega));refine bodyPost_ret (v:=.tuple #[lf ⟨n,pk,a.id,0,0,0⟩,.bool true]) (by simp[results,results99,go_sem,R,lf,gX]) rfl ⟨_,_,rfl,rfl,sg,zb,ej⟩
theorem ao2(n:Nat)(hn:n<6)(f:ByteArray)(W:World)(H:aM w W B X wd h seed S)(hs:bJ w ad):
  Calls prog 99 #[Rw B.V,Z n,qb (Ve.cH f) (eM f)] W fun e w'=>Bb w W w' e B X wd h seed (Ve.jY S n f) (Ve.jE S n f):=by
 unfold Ve.jY Ve.jE;by_cases hc:eM f=0
 .rw[if_pos hc,if_pos hc,hc]
  generalize Ve.cH f=a;cases hd:Ve.takeC S n a with
  | zero =>
   rw[if_pos rfl,if_pos rfl];cases hk:Ve.ry a with
   | true=>exact apd n hn a hd hk W H hs
   | false =>
    rw[if_neg (by decide),if_neg (by decide)];by_cases hq:a.k=113
    .rw[if_pos hq];exact apc n hn a hd hq W H hs
    .rw[if_neg hq];exact apb n hn a hd hk hq W H hs
  | succ d =>
   rw[if_neg (by omega),if_neg (by omega)];refine ao9 n hn a d hd ?_ W H hs;rw[<- hd];unfold Ve.takeC;split
   .exact a_.Zt _ _ _
   .decide
 .rw[if_neg hc,if_neg hc]
  exact ao8 n _ _ hc W H
end
def po(r:Ve.dr):List Value:=[Z r.c,.string r.k,Z r.id,Z r.pr,Z r.q,Z r.cd]
def jf(l:List Ve.dr):List Value:=l.flatMap po
theorem aaI:∀l:List Ve.dr,(jf l).length=l.length*6
 | []=>rfl
 | x::l=>by
  have:=aaI l
  simp only[jf,List.flatMap_cons,List.length_append,List.length_cons]at this ⊢;rw[this];show 6+_=_;omega
theorem Qd(a b:List Ve.dr):jf (a++b)=jf a++jf b:=by simp[jf]
theorem Qe(r:Ve.dr):∀u∈po r,u.oneCell'=true:=by intro u hu;simp only[po,List.mem_cons,List.not_mem_nil,or_false]at hu;rcases hu with rfl | rfl | rfl | rfl | rfl | rfl <;> rfl
def kx(w:World)(base:Nat)(v:Value)(l:List Ve.dr):Prop:=w.ownsRow base 121 6 v l.length (jf l)
theorem Qf:∃i z,prog.info? 121=some i/\i.zero=some z/\i.size=6/\i.bytes=56/\z.cells.size=6:=⟨_,_,rfl,rfl,rfl,rfl,rfl⟩
theorem aoU(w:World)(r:Ve.dr)(ty:TypeId)(fz:Nat×Nat)(hf:fz=(0,0)):∀j u,(po r)[j]?=some u->(w.alloc (.cells (gX r) ty fz)).cell? ((⟨w.heap.size,0,none⟩:Addr).add j)=some u:=by
 subst hf;intro j u hj;have hp:(⟨w.heap.size,0,none⟩:Addr).add j=(O w.heap.size j):=by unfold Addr.add;split <;> simp_all
 rw[hp,cR _ _ j _ ty _ (hNq w _)];simpa [gX,po] using hj
theorem aoV(f:ByteArray):qq f=[.int .u8 (Ve.cH f).k,Z (Ve.cH f).c,Z (Ve.cH f).sq,Z (Ve.cH f).it,Z (Ve.cH f).sd,Z (Ve.cH f).pr,Z (Ve.cH f).q,Z (Ve.cH f).id,Z (eM f)]:=rfl
theorem rO.form{w:World}{base:Nat}{v:Value}{t:ByteArray}{n:Nat}(h:rO w base v t n):∃a cap,v=.slice a n cap/\(0<n->∃g,a=some (O g 0)):=by
 rcases h.2 with ⟨rfl,rfl⟩ | ⟨g,cap,cur,rfl,_⟩
 .exact⟨none,0,rfl,fun h=>absurd h (Nat.lt_irrefl 0)⟩
 .exact⟨_,_,rfl,fun _=>⟨g,rfl⟩⟩
section
variable {w W W':World} {ad:Nat->Addr} {B:bO} {X X':bQ} {wd h seed:Int} {S:Ve.St}
theorem cB{base:Nat}{e:TypeId}{sz n:Nat}{v:Value}{xs:List Value}(hr:W.ownsRow base e sz v n xs){k:Nat}(hk:v.ownBlock=some k):base<=k/\∃cur,W.heap[k]?=some (.cells cur e (0,0)):=by
 rcases hr.2 with ⟨e1,_⟩ | ⟨r,cap,cur,e1,hb,hr2,_⟩
 .rw[e1]at hk;cases hk
 .rw[e1]at hk
  have:r=k:=by simpa [Value.ownBlock] using hk
  subst this;exact⟨hb,cur,hr2⟩
theorem aM.grown{base:Nat}{e:TypeId}{sz n:Nat}{v:Value}{xs:List Value}(H:aM w W B X wd h seed S)(hr:W.ownsRow base e sz v n xs)(he:e≠114/\e≠213/\e≠267/\e≠276/\e≠197/\e≠232/\e≠95/\e≠117/\e≠5)(uy:e≠210)(hb:w.heap.size<=base)(hg:W.grownBy W' v.ownBlock):aM w W' B X wd h seed S :=
 H.aside (aL.j9 hg) (fun e1=>by
  obtain⟨_,cur,h2⟩:=cB hr e1.symm;exact aN h2 H.fl.blk uy rfl) (fun k hv e1=>by
  obtain⟨_,cur,h2⟩:=cB hr e1.symm;exact mR H h2 he hv) (fun _ e1=>lTq hb (cB hr e1.symm).1)
theorem br.grown{W1 W2:World}{base:Nat}{e:TypeId}{sz n:Nat}{v:Value}{xs:List Value}(hs:br W W1 B X X')(hr:W1.ownsRow base e sz v n xs)(hb:W.heap.size<=base)(hg:W1.grownBy W2 v.ownBlock):br W W2 B X X' :=
 ⟨hs.turned.trans (aL.j9 hg) (fun _ e1=>.inr (lTq hb (cB hr e1.symm).1)),hs.new⟩
theorem Qg{base b2:Nat}{e e2:TypeId}{sz s2 n n2:Nat}{v v2:Value}{xs x2:List Value}(hr:W.ownsRow base e sz v n xs)(hr2:W.ownsRow b2 e2 s2 v2 n2 x2)(hne:e≠e2)(hg:W.grownBy W' v.ownBlock):W'.ownsRow b2 e2 s2 v2 n2 x2 :=
 eV hr2 (aL.j9 hg) (fun k hk e1=>by
  obtain⟨_,cur,h1⟩:=cB hr e1.symm;obtain⟨_,l9,h2⟩:=cB hr2 hk;exact aN h1 h2 hne rfl)
theorem aoW(S:Ve.St)(n:Nat)(f:ByteArray):(Ve.jY S n f).length<=1:=by
 unfold Ve.jY
 repeat' split
 all_goals simp
theorem aaJ(S:Ve.St)(n:Nat)(b:ByteArray):∀k,(Ve.fZ S n b k).length<=k
 | 0=>by simp[Ve.fZ]
 | k+1=>by
  have:=aaJ S n b k
  have:=aoW (Ve.dn S n b k) n (fr b k)
  simp only[Ve.fZ,List.length_append];omega
def aaK(w W W':World)(e:Ending)(B:bO)(X:bQ)(wd h seed:Int)(R:List Ve.dr)(S':Ve.St):Prop :=
 ∃v X',e=.returned v/\kx W' W.heap.size v R/\aM w W' B X' wd h seed S'/\br W W' B X X'
theorem aoX(n:Int)(s:ByteArray)(W:World)(H:aM w W B X wd h seed S)(hd:S.down=true\/ah.aK n 0 5=false):
  Calls prog 56 #[Rw B.V,Z n,.string s] W fun e w'=>e=.returned (.slice none 0 0)/\w'=W:=by
 have c:W.cell? (O B.V 36)=some (.bool S.down):=H.at 36;have HC:=Y (xu n W);clear H;cases sI:S.down with
 | true =>
  rw[sI]at c;go_enter func56,ntmps56;go_wp2;go_ret;exact⟨rfl,rfl⟩
 | false =>
  have hw:ah.aK n 0 5=false:=by
   rcases hd with e | e
   .rw[sI]at e;cases e
   .exact e
  rw[sI]at c;rw[hw]at HC;clear hd hw sI;go_enter func56,ntmps56
  go_wp2_with fail
  refine HC.mono ?_;rintro e w2 ⟨rfl,rfl⟩;simp only[];go_wp2;go_ret;exact⟨rfl,rfl⟩
theorem aoY(n:Nat)(hn:n<6)(s:ByteArray)(W:World)(H:Hid (aM w W B X wd h seed S))(hd:S.down=false)(hs:Hid (bJ w ad))(hsz:(S.aF n++s).size<=100000):
  Calls prog 56 #[Rw B.V,Z n,.string s] W fun e w'=>aaK w W w' e B X wd h seed (Ve.eW S n s) (Ve.di S n s):=by
 have hcl:ah.aK (n:Int) 0 5=true:=by simp[ah.aK];omega
 have hno:¬ (S.down=true\/ah.aK (n:Int) 0 5=false):=by rw[hd,hcl];simp
 have aaL:Ve.eW S n s=Ve.fZ (Ve.gw S n (S.aF n++s)) n (S.aF n++s) ((S.aF n++s).size/30):=by unfold Ve.eW;rw[if_neg hno];rfl
 have eS:Ve.di S n s=Ve.dn (Ve.gw S n (S.aF n++s)) n (S.aF n++s) ((S.aF n++s).size/30):=by unfold Ve.di;rw[if_neg hno];rfl
 rw[aaL,eS];clear aaL eS hno;have Jc:W.cell? (O B.V 36)=some (.bool false):=by rw[<- hd];exact H.at 36
 have HC:=Y (xu n W);rw[hcl]at HC;have OU:(n:Int)<6:=by omega
 have HF:=Y (afo B.V (4+n*5+3) (S.aF n) s ad W (H.sent hs) (H.conn hn (j:=3) (by decide)) (H.free _) hsz);obtain⟨b,hb⟩:=aG (S.aF n++s);rw[hb]at HF hsz ⊢;have dY:=Y hb;clear hb hcl;obtain⟨m,hm⟩:=aG (b.size/30);rw[hm]at HF ⊢;have XU:m<=100000:=by omega
 have HM:=Y hm;clear hm;go_enter func56,ntmps56
 go_wp2_with fail
 refine HC.mono ?_;rintro e w2 ⟨rfl,rfl⟩;simp only[]
 go_wp2_with fail
 refine HF.mono ?_;rintro e w3 ⟨v1,w1,rfl,hg,hb1,hw3⟩;obtain⟨hv3,hs3⟩:=(H.later hb1).set (S':=Ve.gw S n b) hn (j:=3) (by decide) (.string (b.extract (30*m) b.size)) (fun c' j' _ j8=>by
  have e:Ve.ee b=b.extract (30*m) b.size:=by unfold Ve.ee;rw[HM.out]
  rw[<- e];exact aaM S (Ve.gw S n b) n (Ve.ee b) rfl rfl rfl rfl rfl c' j' j8) rfl rfl rfl ⟨rfl,rfl,rfl,rfl,rfl,rfl,rfl,rfl⟩
 have hg3:rO w3 w2.heap.size v1 b m:=by rw[hw3];exact hs3.row (H.later hb1) hg (by decide)
 rw[<- hw3]at hv3 hs3;have H3:=Y hv3;have eJ:=Y ((br.of_below hb1 B X).trans hs3);have Kj:=Y hg3;obtain⟨a1,uh,hv1,ha1⟩:=rO.form hg3;have HA1:=Y ha1;subst hv1;clear hv3 hs3 hg3 hw3 hb1 hg ha1;clear w1;obtain⟨i50,z50,hi,hz0,hz1,hz2,hz3⟩:=Qf;have Hi:=Y hi;have fe:=Y hz0;have fg:=Y hz1;have fh:=Y hz2;have lM:=Y hz3;clear hi hz0 hz1 hz2 hz3;simp only[]
 go_wp2_with fail
 go_loopw [7,30] (fun v kv wr=>∃k X',k<=m/\kv=Z k/\kx wr w2.heap.size v (Ve.fZ (Ve.gw S n b) n b k)/\aM w wr B X' wd h seed (Ve.dn (Ve.gw S n b) n b k)/\br w2 wr B X X'/\rO wr w2.heap.size (.slice a1 m uh) b m) (fun _ kv _=>m-(intOf kv).toNat)
 case atStart=>exact⟨0,X,by omega,rfl,World.ownsRow_nil _ _ _ _,H3,eJ,Kj⟩
 case round =>
  obtain⟨k,X',hk,rfl,hr,hv,hst,hg⟩:=hrel;have HR:=Y hr;have dM:=Y hv;have HST:=Y hst;have HG:=Y hg;clear hr hv hst;by_cases hlt:k<m
  .have aT:(k:Int)<m:=by omega
   obtain⟨g,rfl⟩:=HA1.out (by omega);have key:∀j,j<9->∀u,(qq (fr b k))[j]?=some u->wr.cell? ⟨g,k*9+j,none⟩=some u:=by
    intro j hj u hu
    have:=World.ownsRow.cells hg (g:=g) rfl (k*9+j) u (by rw[Nat.mul_comm k 9,aae b m k j hlt hj];exact hu)
    have hp:(⟨g,0,none⟩:Addr).add (k*9+j)=⟨g,k*9+j,none⟩:=by unfold Addr.add;split <;> simp_all
    rwa [hp]at this
   rw[aoV]at key;have p0:=key 0 (by decide) _ rfl;have p1:=key 1 (by decide) _ rfl;have p2:=key 2 (by decide) _ rfl;have p3:=key 3 (by decide) _ rfl;have p4:=key 4 (by decide) _ rfl;have aoZ:=key 5 (by decide) _ rfl;have PL:=key 6 (by decide) _ rfl;have ao0:=key 7 (by decide) _ rfl;have ao1:=key 8 (by decide) _ rfl;have su:g<wr.heap.size:=bCq _ _ p0;simp only[Nat.add_zero]at p0;clear key hg;have HH:=Y (fun W' (H':aM w W' B X' wd h seed (Ve.dn (Ve.gw S n b) n b k))=>ao2 n hn (fr b k) W' H' hs);have HN:Hid (Ve.fZ (Ve.gw S n b) n b (k+1)=Ve.fZ (Ve.gw S n b) n b k++Ve.jY (Ve.dn (Ve.gw S n b) n b k) n (fr b k)/\Ve.dn (Ve.gw S n b) n b (k+1)=Ve.jE (Ve.dn (Ve.gw S n b) n b k) n (fr b k)):=⟨rfl,rfl⟩;have hlen:=aaJ (Ve.gw S n b) n b k;generalize Ve.jY (Ve.dn (Ve.gw S n b) n b k) n (fr b k)=hR at *;generalize Ve.jE (Ve.dn (Ve.gw S n b) n b k) n (fr b k)=hS at *;generalize Ve.fZ (Ve.gw S n b) n b k=Qh at *;generalize Ve.dn (Ve.gw S n b) n b k=aus at *;generalize Ve.cH (fr b k)=a at *;generalize eM (fr b k)=cd at *;have bS:Hid (U wr (wr.alloc (.cells (eI a cd) 186))):=aj;unfold qb at HH;unfold eI at bS
   go_wp2_with fail
   refine(HH _ (dM.later bS)).mono ?_;rintro e aI ⟨r,bb,rfl,hRe,sg,h5,hs5⟩;have H5:=Y h5;have fu:=Y (HST.trans ((br.of_below bS B X').trans hs5));have bE:=Y (hs5.row (dM.later bS) (dh HR bS) (by decide));have Hq:=Y (hs5.row (dM.later bS) (dh HG bS) (by decide));have tG:=Y hRe;clear h5 hs5 hRe p0 p1 p2 p3 p4 aoZ PL ao0 ao1;have bk:Hid (U aI (aI.alloc (.cells (gX r) 121))):=aj;have aut:Hid (gX r=#[Z r.c,.string r.k,Z r.id,Z r.pr,Z r.q,Z r.cd]):=rfl;have hwz:w2.heap.size<=aI.heap.size:=fu.turned.size;unfold gX at bk;unfold lf gX;cases bb with
   | false =>
    have e:hR=[]:=tG.out;rw[e,aNq]at HN;simp only[];go_wp2;refine⟨⟨k+1,sg,hlt,by go_num,?_,?_,fu.below bk,dh Hq bk⟩,by simp[intOf];omega⟩
    .rw[HN.out.1];exact dh bE bk
    .rw[HN.out.2];exact H5.later bk
   | true =>
    have e:hR=[r]:=tG.out;rw[e]at HN;simp only[]
    go_wp2_with (at_builtin;refine wpList_append_own _ rfl _ _ 55 rfl w2.heap.size 121 i50 z50 6 56 underlying55 Hi fe fg fh lM (by decide) _ _ _ rfl (World.ownsRow.alloc (World.ownsRow.alloc bE _) _) ⟨aI.heap.size+1,0,none⟩ 1 1 (po r) rfl rfl ?c1 ?c2 ?c3 ?c4 ?c5 ?_)
    case c1 =>
     intro j u hj;exact hj
    case c2=>exact Qe r
    case c3=>unfold maxLen;omega
    case c4=>omega
    case c5=>first | omega | (simp;omega)
    intro v6 aA hown' hgrow _;have ic:Hid (U aI ((aI.alloc (.cells (gX r) 121)).alloc (.cells (gX r) 121))):=aj.alloc (by simp) _;have Jd:=dh bE ic;have ao3:=Y ((H5.later ic).grown Jd (by decide) (by decide) H.bG.size hgrow);have pP:=Y ((fu.below ic).grown Jd (E _) hgrow);have ao4:=Y (Qg Jd (dh Hq ic) (by decide) hgrow);have xz:Hid (kx aA w2.heap.size v6 (Qh++[r])):=by show aA.ownsRow w2.heap.size 121 6 v6 (Qh++[r]).length (jf (Qh++[r]));rw[Qd,lAq];simpa [jf] using hown'
    clear hown' hgrow Jd;go_wp2;refine⟨⟨k+1,sg,hlt,by go_num,?_,?_,pP,ao4⟩,by simp[intOf];omega⟩
    .rw[HN.out.1];exact xz
    .rw[HN.out.2];exact ao3
  .have aT:¬ (k:Int)<m:=by omega
   obtain rfl:k=m:=by omega
   go_wp2;go_ret;exact⟨_,X',rfl,HR,dM,HST⟩
theorem WY(n:Int)(s:ByteArray)(W:World)(H:aM w W B X wd h seed S)(hs:bJ w ad)(hsz:∀c,c<6->(S.aF c++s).size<=100000):
  Calls prog 56 #[Rw B.V,Z n,.string s] W fun e w'=>aaK w W w' e B X wd h seed (Ve.eW S n s) (Ve.di S n s):=by
 by_cases hd:S.down=true\/ah.aK n 0 5=false
 .have e1:Ve.eW S n s=[]:=by unfold Ve.eW;rw[if_pos hd]
  have e2:Ve.di S n s=S:=by unfold Ve.di;rw[if_pos hd]
  rw[e1,e2];refine(aoX n s W H hd).mono ?_;rintro e w' ⟨rfl,rfl⟩;exact⟨_,X,rfl,World.ownsRow_nil _ _ _ _,H,br.refl _ _ _⟩
 .have sI:S.down=false:=by cases h1:S.down with
   | true=>exact absurd (.inl h1) hd
   | false=>rfl
  have hw:ah.aK n 0 5=true:=by cases h1:ah.aK n 0 5 with
   | false=>exact absurd (.inr h1) hd
   | true=>rfl
  obtain⟨c,rfl⟩:∃c:Nat,n=c:=⟨n.toNat,by simp[ah.aK]at hw;omega⟩;have hc:c<6:=by simp[ah.aK]at hw;omega
  exact aoY c hc s W H sI hs (hsz c hc)
end
def o_(B:bO)(X:bQ)(k:Nat):Prop:=k=B.P\/∃i,i<3/\(k=B.I i\/k=B.b i\/(X.v i).ownBlock=some k)
structure cz (W W':World) (b0:Nat) (B:bO) (X X':bQ):Prop where
 turned:aL W W' (fun k=>o_ B X k\/b0<=k)
 new:∀k,o_ B X' k->o_ B X k\/W.heap.size<=k
 qv:X'.qv=X.qv
 bZ:X'.bZ=X.bZ
def zi(S:Ve.St)(r:Ve.cQ):Ve.St:={ S with L:=r.L,pf:=r.pf,n:=r.n }
structure cg (w:World) (b0:Nat) (W:World) (B:bO) (X:bQ) (wd h seed:Int) (S:Ve.St) (q:Nat) (vp vr:Value) (r:Ve.cQ):Prop where
 aV:aM w W B X wd h seed (zi S r)
 blk:W.heap[q]?=some (.cells #[Rw B.F,vp,vr] 240 (0,0))
 pl:W.ownsRow b0 95 8 vp r.pl.length (bz r.pl)
 rp:kx W b0 vr r.rp
 lo:b0<=q
 nY:w.heap.size<=b0
 hib:b0<=W.heap.size
 y7:∀c,c<6->∀k,(X.qv c).ownBlock=some k->k<b0
 all:dc r.L r.pf r.n wd h
section
variable {w W W' W1 W2:World} {b0 q:Nat} {B:bO} {X X' X2:bQ} {wd h seed:Int} {S:Ve.St} {vp vr:Value} {r:Ve.cQ}
theorem cz.trans(h:cz W W1 b0 B X X')(h1:cz W1 W2 b0 B X' X2):cz W W2 b0 B X X2 :=
 ⟨h.turned.trans h1.turned (fun k hk=>by
  rcases hk with hk | hk
  .rcases h.new k hk with h2 | h2
   .exact .inl (.inl h2)
   .exact .inr h2
  .exact .inl (.inr hk)),fun k hk=>by
  rcases h1.new k hk with h2 | h2
  .exact h.new k h2
  .exact .inr (lTq h.turned.size h2),h1.qv.trans h.qv,h1.bZ.trans h.bZ⟩
theorem cz.high(ht:aL W W' (fun k=>b0<=k))(B:bO)(X:bQ):cz W W' b0 B X X:=⟨ht.mono (fun _ h=>.inr h),fun _ h=>.inl h,rfl,rfl⟩
theorem cz.below(hb:U W W')(b0:Nat)(B:bO)(X:bQ):cz W W' b0 B X X:=⟨aL.of_below hb _,fun _ h=>.inl h,rfl,rfl⟩
theorem Jm(H:aM w W B X wd h seed S){k:Nat}{cur:Array Value}{e:TypeId}{fz:Nat×Nat}(hk:W.heap[k]?=some (.cells cur e fz))(he:e≠213/\e≠267/\e≠276/\e≠197):¬ o_ B X k:=by
 rintro (rfl | ⟨i,hi,rfl | rfl | h1⟩)
 .exact aN hk H.fl.dJ he.1 rfl
 .exact aN hk (H.fl.it i hi) he.2.1 rfl
 .exact aN hk (H.fl.aO i hi).cell he.2.2.1 rfl
 .exact jS (H.fl.aO i hi).row hk he.2.2.2 h1
theorem P9(H:aM w W B X wd h seed S){k:Nat}(hk:o_ B X k):k<W.heap.size:=by
 rcases hk with e | e
 .exact(H.ig (.inr (.inl e))).2
 .exact(H.ig (.inr (.inr (.inl e)))).2
theorem cz.row{base:Nat}{e:TypeId}{sz n:Nat}{v:Value}{xs:List Value}(hs:cz W W' b0 B X X')(H:aM w W B X wd h seed S)(hr:W.ownsRow base e sz v n xs)(he:e≠213/\e≠267/\e≠276/\e≠197)(ho:∀k,v.ownBlock=some k->k<b0):W'.ownsRow base e sz v n xs:=by
 refine eV hr hs.turned (fun k hk e1=>?_);rcases e1 with e1 | e1
 .obtain⟨_,cur,h2⟩:=cB hr hk
  exact Jm H h2 he e1
 .have:=ho k hk
  omega
theorem cg.floor{v':Nat->Value}{L':Nat->List Cv.af}{pR n':Nat->Int}(R:cg w b0 W B X wd h seed S q vp vr r)(hf:bB w W' B.F B.P B.I B.b v' L' pR n' wd h)(hs:bX W W' B.P B.I B.b X.v v')(ha:dc L' pR n' wd h):
  cg w b0 W' B { X with v:=v' } wd h seed S q vp vr { r with L:=L',pf:=pR,n:=n' }/\cz W W' b0 B X { X with v:=v' }/\aL W W' (fun k=>o_ B X k):=by
 have ht:aL W W' (fun k=>o_ B X k) :=
  ⟨hs.os,hs.tape,hs.output,hs.size,fun k hk hn=>hs.keep k hk (fun e=>hn (.inl e)) (fun i hi=>⟨fun e=>hn (.inr ⟨i,hi,.inl e⟩),fun e=>hn (.inr ⟨i,hi,.inr (.inl e)⟩),fun e=>hn (.inr ⟨i,hi,.inr (.inr e)⟩)⟩)⟩
 obtain⟨h1,_⟩:=R.aV.floor hf hs;refine⟨⟨h1,?_,?_,?_,R.lo,R.nY,lTq R.hib hs.size,R.y7,ha⟩,⟨ht.mono (fun _ h=>.inl h),fun k hk=>?_,rfl,rfl⟩,ht⟩
 .rw[ht.block q (lBq R.blk) (Jm R.aV R.blk (by decide))];exact R.blk
 .refine eV R.pl ht (fun k hk=>?_)
  obtain⟨_,cur,h2⟩:=cB R.pl hk;exact Jm R.aV h2 (by decide)
 .refine eV R.rp ht (fun k hk=>?_)
  obtain⟨_,cur,h2⟩:=cB R.rp hk;exact Jm R.aV h2 (by decide)
 .rcases hk with e | ⟨i,hi,e | e | e⟩
  .exact .inl (.inl e)
  .exact .inl (.inr ⟨i,hi,.inl e⟩)
  .exact .inl (.inr ⟨i,hi,.inr (.inl e)⟩)
  .rcases hs.new i hi k e with h2 | h2
   .exact .inl (.inr ⟨i,hi,.inr (.inr h2)⟩)
   .exact .inr h2
theorem cg.later(R:cg w b0 W B X wd h seed S q vp vr r)(hb:U W W'):cg w b0 W' B X wd h seed S q vp vr r :=
 ⟨R.aV.later hb,bF hb R.blk,dh R.pl hb,dh R.rp hb,R.lo,R.nY,lTq R.hib hb.size,R.y7,R.all⟩
theorem cg.cells(R:cg w b0 W B X wd h seed S q vp vr r):W.cell? (O q 0)=some (Rw B.F)/\W.cell? (O q 1)=some vp/\W.cell? (O q 2)=some vr:=by refine⟨?_,?_,?_⟩ <;> (rw[cR _ _ _ _ _ _ R.blk];rfl)
theorem cg.lt(R:cg w b0 W B X wd h seed S q vp vr r):q<W.heap.size:=lBq R.blk
theorem cg.told{v4:Value}{x:List Ve.dr}(R:cg w b0 W B X wd h seed S q vp vr r)(hb:U W W1)(hg:W1.grownBy W2 vr.ownBlock)(hr:kx W2 b0 v4 (r.rp++x)):
  cg w b0 (W2.setCell (O q 2) v4) B X wd h seed S q vp v4 { r with rp:=r.rp++x }/\cz W (W2.setCell (O q 2) v4) b0 B X X/\aL W (W2.setCell (O q 2) v4) (fun k=>k=q\/vr.ownBlock=some k):=by
 have dy:=R.later hb;have hblk:W2.heap[q]?=some (.cells #[Rw B.F,vp,vr] 240 (0,0)):=by
  rw[hg.block q (lBq dy.blk) (fun e=>?_)]
  .exact dy.blk
  .obtain⟨_,cur,h2⟩:=cB dy.rp e.symm
   exact aN h2 dy.blk (by decide) rfl
 have hv2:=dy.aV.grown dy.rp (by decide) (by decide) R.nY hg;have bP:=aU.setCell W2 q 2 v4;have ml:=aL.setCell W2 q 2 v4;have key:∀{base:Nat} {e:TypeId} {sz n:Nat} {v:Value} {xs:List Value},W2.ownsRow base e sz v n xs->e≠240->(W2.setCell (O q 2) v4).ownsRow base e sz v n xs:=fun {base e sz n v xs} rK hne=>eV rK ml (fun k hk e1=>by
  obtain⟨_,cur,h2⟩:=cB rK hk;exact aN h2 hblk hne e1)
 refine⟨⟨hv2.beside hblk (by decide) (by decide) (lTq R.nY R.lo) bP,?_,key (Qg dy.rp dy.pl (by decide) hg) (by decide),key hr (by decide),R.lo,R.nY,?_,R.y7,R.all⟩,cz.high ?_ B X,?_⟩
 .rw[block_setCell hblk];rfl
 .exact lTq R.hib (lTq hb.size (lTq hg.size (by simp)))
 .exact(aL.of_below hb _).trans (((aL.j9 hg).mono (S':=fun k=>b0<=k) (fun _ hk=>(cB dy.rp hk.symm).1)).trans ml (fun _ e=>.inl (by rw[e];exact R.lo))) (fun _ hk=>.inl hk)
 .exact(aL.of_below hb _).trans (((aL.j9 hg).mono (S':=fun k=>k=q\/vr.ownBlock=some k) (fun _ hk=>.inr hk.symm)).trans ml (fun _ e=>.inl (.inl e))) (fun _ hk=>.inl hk)
theorem cg.row{base:Nat}{e:TypeId}{sz n:Nat}{v:Value}{xs:List Value}(R:cg w b0 W B X wd h seed S q vp vr r)(ht:aL W W' (fun k=>k=q\/vr.ownBlock=some k))(hr:W.ownsRow base e sz v n xs)(h1:e≠240)(h2:e≠121):W'.ownsRow base e sz v n xs:=by
 refine eV hr ht (fun k hk e1=>?_);obtain⟨_,cur,h3⟩:=cB hr hk;rcases e1 with e1 | e1
 .exact aN h3 R.blk h1 e1
 .obtain⟨_,l9,h4⟩:=cB R.rp e1
  exact aN h3 h4 h2 rfl
theorem cg.block{k:Nat}{cur:Array Value}{e:TypeId}{fz:Nat×Nat}(R:cg w b0 W B X wd h seed S q vp vr r)(ht:aL W W' (fun k=>k=q\/vr.ownBlock=some k))(hk:W.heap[k]?=some (.cells cur e fz))(h1:e≠240)(h2:e≠121):W'.heap[k]?=some (.cells cur e fz):=by
 rw[ht.block k (lBq hk) (fun e1=>?_)]
 .exact hk
 .rcases e1 with e1 | e1
  .exact aN hk R.blk h1 e1
  .obtain⟨_,l9,h4⟩:=cB R.rp e1
   exact aN hk h4 h2 rfl
theorem cg.listed{v4:Value}{x:List Ask}(R:cg w b0 W B X wd h seed S q vp vr r)(hb:U W W1)(hg:W1.grownBy W2 vp.ownBlock)(hr:W2.ownsRow b0 95 8 v4 x.length (bz x)):
  cg w b0 (W2.setCell (O q 1) v4) B X wd h seed S q v4 vr { r with pl:=x }/\cz W (W2.setCell (O q 1) v4) b0 B X X:=by
 have dy:=R.later hb;have hblk:W2.heap[q]?=some (.cells #[Rw B.F,vp,vr] 240 (0,0)):=by
  rw[hg.block q (lBq dy.blk) (fun e=>?_)]
  .exact dy.blk
  .obtain⟨_,cur,h2⟩:=cB dy.pl e.symm
   exact aN h2 dy.blk (by decide) rfl
 have hv2:aM w W2 B X wd h seed (zi S r):=by
  refine dy.aV.aside (aL.j9 hg) (fun e1=>?_) (fun k hv e1=>?_) (fun _ e1=>lTq R.nY (cB dy.pl e1.symm).1)
  .obtain⟨_,cur,h2⟩:=cB dy.pl e1.symm
   exact aN h2 dy.aV.fl.blk (by decide) rfl
  .obtain⟨h3,cur,h2⟩:=cB dy.pl e1.symm
   rcases hv with rfl | rfl | ⟨i,hi,rfl | rfl | h1⟩ | (rfl | ⟨c,hc,h1⟩) | rfl | h1
   .exact aN h2 dy.aV.blk (by decide) rfl
   .exact aN h2 dy.aV.fl.dJ (by decide) rfl
   .exact aN h2 (dy.aV.fl.it i hi) (by decide) rfl
   .exact aN h2 (dy.aV.fl.aO i hi).cell (by decide) rfl
   .exact jS (dy.aV.fl.aO i hi).row h2 (by decide) h1
   .exact aN h2 dy.aV.it.cell (by decide) rfl
   .have:=R.y7 c hc k h1;omega
   .exact aN h2 dy.aV.dk.cell (by decide) rfl
   .exact dy.aV.dk.row.w7 h2 (by decide) h1
 have bP:=aU.setCell W2 q 1 v4;have ml:=aL.setCell W2 q 1 v4;have key:∀{base:Nat} {e:TypeId} {sz n:Nat} {v:Value} {xs:List Value},W2.ownsRow base e sz v n xs->e≠240->(W2.setCell (O q 1) v4).ownsRow base e sz v n xs:=fun {base e sz n v xs} rK hne=>eV rK ml (fun k hk e1=>by
  obtain⟨_,cur,h2⟩:=cB rK hk;exact aN h2 hblk hne e1)
 refine⟨⟨hv2.beside hblk (by decide) (by decide) (lTq R.nY R.lo) bP,?_,key hr (by decide),key (Qg dy.pl dy.rp (by decide) hg) (by decide),R.lo,R.nY,?_,R.y7,R.all⟩,cz.high ?_ B X⟩
 .rw[block_setCell hblk];rfl
 .exact lTq R.hib (lTq hb.size (lTq hg.size (by simp)))
 .exact(aL.of_below hb _).trans (((aL.j9 hg).mono (S':=fun k=>b0<=k) (fun _ hk=>(cB dy.pl hk.symm).1)).trans ml (fun _ e=>.inl (by rw[e];exact R.lo))) (fun _ hk=>.inl hk)
end
def EC(w:World)(b0:Nat)(W W':World)(B:bO)(X:bQ)(wd h seed:Int)(S:Ve.St)(q:Nat)(r':Ve.cQ):Prop :=
 ∃X' aqu uM,cg w b0 W' B X' wd h seed S q aqu uM r'/\cz W W' b0 B X X'
def abC(w:World)(b0:Nat)(W W':World)(B:bO)(X:bQ)(wd h seed:Int)(S:Ve.St)(q:Nat)(vp vr:Value)(r':Ve.cQ):Prop :=
 ∃uM,cg w b0 W' B X wd h seed S q vp uM r'/\cz W W' b0 B X X/\aL W W' (fun k=>k=q\/vr.ownBlock=some k)
section
variable {w W W':World} {ad:Nat->Addr} {b0 q:Nat} {B:bO} {X X' X2:bQ} {wd h seed:Int} {S:Ve.St} {vp vr:Value} {r:Ve.cQ}
theorem abD(W:World)(v:Value)(l:List Ve.dr)(x:Ve.dr)(hr:kx W b0 v l)(hl:l.length<=100000)(hb:b0<=W.heap.size):
  ∃v' W',(Builtin.append_ #[55,55] 55 #[v,.slice (some (O W.heap.size 0)) 1 1]).run prog (W.alloc (.cells (gX x) 121))=.ok v' W'/\kx W' b0 v' (l++[x])/\(W.alloc (.cells (gX x) 121)).grownBy W' v.ownBlock:=by
 obtain⟨i0,z0,hi,hz0,hz1,hz2,hz3⟩:=Qf;obtain⟨v4,w4,hap,hrow,hg,_,_⟩:=run_append_own_at (P:=prog) (w:=W.alloc (.cells (gX x) 121)) b0 55 55 121 i0 z0 6 56 underlying55 hi hz0 hz1 hz2 hz3 (by decide) v l.length (jf l) (World.ownsRow.alloc hr _) (O W.heap.size 0) 1 1 (po x) rfl
  (fun j u hj=>aoU W x 121 _ rfl j u hj) (Qe x) (by unfold maxLen;omega) (by omega) (by simp;omega)
 refine⟨v4,w4,hap,?_,hg⟩;show w4.ownsRow b0 121 6 v4 (l++[x]).length (jf (l++[x]));rw[Qd,lAq];simpa [jf] using hrow
theorem I8(k:ByteArray)(x:Cv.af)(W:World)(R:Hid (cg w b0 W B X wd h seed S q vp vr r))(hn:r.rp.length<=100000):
  Calls prog 187 #[Rw q,.string k,cm x] W fun e w'=>e=.returned (.tuple #[])/\abC w b0 W w' B X wd h seed S q vp vr { r with rp:=r.rp++[Ve.tell k x] }:=by
 have hb1:U W (W.alloc (.cells #[Z x.id,Z x.ai,Z x.sd,Z x.pr,Z x.q] 197)):=aj;have hb2:U W (W.alloc (.cells #[Z x.id,Z x.ai,Z x.sd,Z x.pr,Z x.q] 197)).drew:=hb1.trans (cw.mono (by simp));have hb3:U W ((W.alloc (.cells #[Z x.id,Z x.ai,Z x.sd,Z x.pr,Z x.q] 197)).drew.alloc (.cells (gX (Ve.tell k x)) 121)):=hb2.alloc hb2.size _;have oN:=hNq W (.cells #[Z x.id,Z x.ai,Z x.sd,Z x.pr,Z x.q] 197);have hL2:(W.alloc (.cells #[Z x.id,Z x.ai,Z x.sd,Z x.pr,Z x.q] 197)).drew.heap[W.heap.size]?=some (.cells #[Z x.id,Z x.ai,Z x.sd,Z x.pr,Z x.q] 197 (0,0)):=oN;have hL3:((W.alloc (.cells #[Z x.id,Z x.ai,Z x.sd,Z x.pr,Z x.q] 197)).drew.alloc (.cells (gX (Ve.tell k x)) 121)).heap[W.heap.size]?=some (.cells #[Z x.id,Z x.ai,Z x.sd,Z x.pr,Z x.q] 197 (0,0)):=by rw[Below.heap_alloc _ _ _ (by simp[World.drew])];exact hL2
 obtain⟨v4,w4,hap,hrow,hg⟩:=abD (W.alloc (.cells #[Z x.id,Z x.ai,Z x.sd,Z x.pr,Z x.q] 197)).drew vr r.rp (Ve.tell k x) (R.later hb2).rp hn (R.later hb2).hib;have hL4:w4.heap[W.heap.size]?=some (.cells #[Z x.id,Z x.ai,Z x.sd,Z x.pr,Z x.q] 197 (0,0)):=by
  rw[hg.block _ (lBq hL3) (fun e=>?_)]
  .exact hL3
  .obtain⟨_,cur,h2⟩:=cB (R.later hb3).rp e.symm
   exact aN h2 hL3 (by decide) rfl
 have Bf:w4.cell? (O q 2)=some vr/\w4.frozen? (O q 2)=false:=by
  have e:w4.heap[q]?=some (.cells #[Rw B.F,vp,vr] 240 (0,0)):=by
   rw[hg.block q (lBq (R.out.later hb3).blk) (fun e=>?_)]
   .exact(R.later hb3).blk
   .obtain⟨_,cur,h2⟩:=cB (R.later hb3).rp e.symm
    exact aN h2 (R.later hb3).blk (by decide) rfl
  exact⟨by rw[cR _ _ _ _ _ _ e];rfl,by simp[World.frozen?,e]⟩
 obtain⟨g1,g2⟩:=Bf;have HT:=Y (R.told hb3 hg hrow);have q3:=(R.later hb3).cells.2.2;have q2:=(R.later hb2).cells.2.2;obtain⟨a0,c0,uR⟩:=fA R.rp;obtain⟨a4,c4,hv4⟩:=fA hrow;rw[lAq,List.length_singleton]at hv4;rw[uR]at hap q3 q2 g1;rw[hv4]at hap HT;rw[show (W.alloc (.cells #[Z x.id,Z x.ai,Z x.sd,Z x.pr,Z x.q] 197)).drew.heap.size=W.heap.size+1 by simp[World.drew]]at hap;have cW:=Y hap;have lz:=Y hL2;have xK:=Y hL3;have tu:=Y hL4;have Qp:=Y q3;have EO:=Y g1;clear hap hrow hg hv4 uR oN hL2 hL3 hL4 hb1 hb2 hb3 q3 g1;have mS:q<W.heap.size:=R.lt;generalize r.rp.length=m at *;unfold Ve.tell at *;unfold cm gX at *;go_enter func187,ntmps187;go_wp2;obtain⟨bl,val,hcl,ay⟩:=gu (fun W'=>W'.heap[W.heap.size]?=some (.cells #[Z x.id,Z x.ai,Z x.sd,Z x.pr,Z x.q] 197 (0,0))/\W'.cell? (O q 2)=some (.slice a0 m c0));obtain⟨x0,hx0⟩:=ay (W.alloc (.cells #[Z x.id,Z x.ai,Z x.sd,Z x.pr,Z x.q] 197)).drew ⟨lz,q2⟩;have hnx:Nonempty bl:=⟨x0⟩;have s0:=fun x0=>ag (hcl x0).1 0 rfl;have s1:=fun x0=>ag (hcl x0).1 1 rfl;have s2:=fun x0=>ag (hcl x0).1 2 rfl;have s3:=fun x0=>ag (hcl x0).1 3 rfl;have r7:=fun x0=>ag (hcl x0).1 4 rfl;have qL:∀x0,(val x0).cell? (O q 2)=some (.slice a0 m c0):=fun x0=>(hcl x0).2;have M1:=Y (ay _ ⟨xK,Qp⟩);have qO:=Y (ay _ ⟨tu,EO⟩);have apD:=EO.out;clear ay hcl;refine wa (val:=val) [15,16] 19 30 [0,1,2,3,4,5,6,7,8,9,10,11,12,13,14,15,16,17,18,19] (by kernel_rfl) (by kernel_rfl) x0 hx0 ?_;rw[hx0];clear hx0
 iterate 15 (refine l8 rfl rfl (fun K hK=>?_);refine⟨by rfl,?_⟩;unfold aQ;go_simp;refine hK _ ?_;clear hK K)
 refine nL rfl rfl (fun K hK=>?_);refine⟨by rfl,?_⟩;unfold aB;go_simp;refine⟨M1,hK _ _ ?_⟩;clear hK K;refine nL rfl rfl (fun K hK=>?_);refine⟨by rfl,?_⟩;refine yi _ _ 55 rfl _ _ _ rfl rfl cW ?_;refine⟨qO,hK _ _ ?_⟩;clear hK K
 iterate 2 (refine l8 rfl rfl (fun K hK=>?_);refine⟨by rfl,?_⟩;unfold aQ;go_simp;refine hK _ ?_;clear hK K)
 refine wh rfl (fun K hK=>?_);refine⟨by rfl,?_⟩;unfold aB;go_simp;refine hK _ _ ?_;clear hK K;go_wp2;go_end0;exact⟨rfl,_,HT.1,HT.2.1,HT.2.2⟩
theorem aax(a:Ask)(d:Nat)(hd:d+1<=12)(W:World)(hs:Hid (bJ w ad))(R:Hid (cg w b0 W B X wd h seed S q vp vr r))(hn:r.rp.length<=100000):
  Calls prog 216 #[Rw q,bM a,.iface 412 (.pointer (some (ad d)))] W fun e w'=>e=.returned (.tuple #[])/\abC w b0 W w' B X wd h seed S q vp vr { r with rp:=r.rp++[Ve.h_ a.c a.id (d+1)] }:=by
 have HF:Hid (∀W',U W W'->Calls prog 166 #[Z a.c,Z a.id,.iface 412 (.pointer (some (ad d)))] W' fun e w'=>e=.returned (lf (Ve.h_ a.c a.id (d+1)))/\U W' w'):=fun W' hb=>aaR a.c a.id (d+1) hd W' ((R.later hb).aV.sent hs);have mS:q<W.heap.size:=R.lt;have tG:Hid (∀W',U W W'->W'.heap[W.heap.size]?=some (.cells #[.int .u8 a.k,Z a.c,Z a.sq,Z a.it,Z a.sd,Z a.pr,Z a.q,Z a.id] 95 (0,0))->∃v4 w4 a0 c0 a4 c4,(Builtin.append_ #[55,55] 55 #[.slice a0 r.rp.length c0,.slice (some (O W'.heap.size 0)) 1 1]).run prog (W'.alloc (.cells (gX (Ve.h_ a.c a.id (d+1))) 121))=.ok v4 w4/\vr=.slice a0 r.rp.length c0/\v4=.slice a4 (r.rp.length+1) c4/\(w4.heap[W.heap.size]?=some (.cells #[.int .u8 a.k,Z a.c,Z a.sq,Z a.it,Z a.sd,Z a.pr,Z a.q,Z a.id] 95 (0,0))/\w4.cell? (O q 2)=some vr/\w4.frozen? (O q 2)=false)/\(W'.alloc (.cells (gX (Ve.h_ a.c a.id (d+1))) 121)).heap[W.heap.size]?=some (.cells #[.int .u8 a.k,Z a.c,Z a.sq,Z a.it,Z a.sd,Z a.pr,Z a.q,Z a.id] 95 (0,0))/\(W'.alloc (.cells (gX (Ve.h_ a.c a.id (d+1))) 121)).cell? (O q 2)=some vr/\cg w b0 (w4.setCell (O q 2) v4) B X wd h seed S q vp v4 { r with rp:=r.rp++[Ve.h_ a.c a.id (d+1)] }/\cz W (w4.setCell (O q 2) v4) b0 B X X/\aL W (w4.setCell (O q 2) v4) (fun k=>k=q\/vr.ownBlock=some k)):=fun W' hb2 hL2=>by
  have hb3:U W (W'.alloc (.cells (gX (Ve.h_ a.c a.id (d+1))) 121)):=hb2.alloc hb2.size _;have hL3:(W'.alloc (.cells (gX (Ve.h_ a.c a.id (d+1))) 121)).heap[W.heap.size]?=some (.cells #[.int .u8 a.k,Z a.c,Z a.sq,Z a.it,Z a.sd,Z a.pr,Z a.q,Z a.id] 95 (0,0)):=by rw[Below.heap_alloc _ _ _ (lBq hL2)];exact hL2
  obtain⟨v4,w4,hap,hrow,hg⟩:=abD W' vr r.rp (Ve.h_ a.c a.id (d+1)) (R.later hb2).rp hn (R.later hb2).hib;have hL4:w4.heap[W.heap.size]?=some (.cells #[.int .u8 a.k,Z a.c,Z a.sq,Z a.it,Z a.sd,Z a.pr,Z a.q,Z a.id] 95 (0,0)):=by
   rw[hg.block _ (lBq hL3) (fun e=>?_)]
   .exact hL3
   .obtain⟨_,cur,h2⟩:=cB (R.later hb3).rp e.symm
    exact aN h2 hL3 (by decide) rfl
  have Bf:w4.cell? (O q 2)=some vr/\w4.frozen? (O q 2)=false:=by
   have e:w4.heap[q]?=some (.cells #[Rw B.F,vp,vr] 240 (0,0)):=by
    rw[hg.block q (lBq (R.out.later hb3).blk) (fun e=>?_)]
    .exact(R.later hb3).blk
    .obtain⟨_,cur,h2⟩:=cB (R.later hb3).rp e.symm
     exact aN h2 (R.later hb3).blk (by decide) rfl
   exact⟨by rw[cR _ _ _ _ _ _ e];rfl,by simp[World.frozen?,e]⟩
  obtain⟨a0,c0,uR⟩:=fA R.rp;obtain⟨a4,c4,hv4⟩:=fA hrow;rw[lAq,List.length_singleton]at hv4;exact⟨v4,w4,a0,c0,a4,c4,by rw[<- uR];exact hap,uR,hv4,⟨hL4,Bf.1,Bf.2⟩,hL3,(R.later hb3).cells.2.2,(R.told hb3 hg hrow).1,(R.told hb3 hg hrow).2⟩
 have hb1:U W (W.alloc (.cells (aX a) 95)):=aj;have hb2:U W (W.alloc (.cells (aX a) 95)).drew:=hb1.trans (cw.mono (by simp));have hL2:(W.alloc (.cells (aX a) 95)).drew.heap[W.heap.size]?=some (.cells (aX a) 95 (0,0)):=hNq W (.cells (aX a) 95);have q2:=(R.later hb2).cells.2.2;have HB2:=Y hb2;have lz:=Y hL2;clear hb1 hb2 hL2;unfold Ve.h_ at *;unfold bM aX lf gX at *;obtain⟨a0,c0,uR⟩:=fA R.rp;go_enter func216,ntmps216;go_wp2;obtain⟨bl,val,hcl,ay⟩:=gu (fun W'=>W'.heap[W.heap.size]?=some (.cells #[.int .u8 a.k,Z a.c,Z a.sq,Z a.it,Z a.sd,Z a.pr,Z a.q,Z a.id] 95 (0,0))/\W'.cell? (O q 2)=some vr);obtain⟨x0,hx0⟩:=ay (W.alloc (.cells #[.int .u8 a.k,Z a.c,Z a.sq,Z a.it,Z a.sd,Z a.pr,Z a.q,Z a.id] 95)).drew ⟨lz,q2⟩;have hnx:Nonempty bl:=⟨x0⟩;have s1:=fun x0=>ag (hcl x0).1 1 rfl;have ym:=fun x0=>ag (hcl x0).1 7 rfl;have qL:∀x0,(val x0).cell? (O q 2)=some (.slice a0 r.rp.length c0):=fun x0=>by rw[<- uR];exact(hcl x0).2
 have aH:=Y ay;clear ay hcl;refine wa (val:=val) [10,11,12] 15 30 [0,1,2,3,4,5,6,7,8,9,10,11,12,13,14,15] (by kernel_rfl) (by kernel_rfl) x0 hx0 ?_;rw[hx0];clear hx0
 iterate 10 (refine l8 rfl rfl (fun K hK=>?_);refine⟨by rfl,?_⟩;unfold aQ;go_simp;refine hK _ ?_;clear hK K)
 refine nL rfl rfl (fun K hK=>?_);refine⟨by rfl,?_⟩;unfold aB;go_simp;refine(HF _ HB2).mono ?_;rintro e aI ⟨rfl,bR⟩;have QQ:=bF bR lz;have q8:=ar HB2 bR;obtain⟨v4,w4,auC,qW,a4,c4,hap,QR,hv4,⟨k1,k2,k3⟩,k4,vL,k6,k7⟩:=tG.out aI q8 QQ;rw[uR]at QR;simp only[Value.slice.injEq,true_and]at QR;obtain⟨rfl,rfl⟩:=QR;refine⟨_,rfl,aH _ ⟨QQ,(R.later q8).cells.2.2⟩,hK _ _ ?_⟩;clear hK K;have M1:=Y (aH _ ⟨k4,vL⟩);have qO:=Y (aH _ ⟨k1,k2⟩);have HK:=Y (And.intro k6 k7);have cW:=Y hap;rw[hv4]at cW HK;rw[uR]at k2;clear hap k1 k4 vL k6 k7 hv4 bR QQ q8;refine nL rfl rfl (fun K hK=>?_);refine⟨by rfl,?_⟩;unfold aB;go_simp;refine⟨M1,hK _ _ ?_⟩;clear hK K;refine nL rfl rfl (fun K hK=>?_);refine⟨by rfl,?_⟩;refine yi _ _ 55 rfl _ _ _ rfl rfl cW ?_;refine⟨qO,hK _ _ ?_⟩;clear hK K
 iterate 2 (refine l8 rfl rfl (fun K hK=>?_);refine⟨by rfl,?_⟩;unfold aQ;go_simp;refine hK _ ?_;clear hK K)
 refine wh rfl (fun K hK=>?_);refine⟨by rfl,?_⟩;unfold aB;go_simp;refine hK _ _ ?_;clear hK K;go_wp2;go_end0;exact⟨rfl,_,HK.1,HK.2.1,HK.2.2⟩
end
section
variable {w W W':World} {ad:Nat->Addr} {b0 q:Nat} {B:bO} {X X' X2:bQ} {wd h seed:Int} {S:Ve.St} {vp vr:Value} {r:Ve.cQ}
theorem cg.fl(R:cg w b0 W B X wd h seed S q vp vr r):bB w W B.F B.P B.I B.b X.v r.L r.pf r.n wd h:=R.aV.fl
theorem aoP(k:ByteArray){l:List Cv.af}{i:Nat}(hi:i<l.length):(l.take (i+1)).map (Ve.tell k)=(l.take i).map (Ve.tell k)++[Ve.tell k (Cv.nth l i)]:=by rw[Fl.xB hi,List.map_append];rfl
theorem aoQ(c:Nat)(W:World)(R:Hid (cg w b0 W B X wd h seed S q vp vr r))(hs:Hid (bJ w ad))(hn:r.rp.length<=50000):
  Calls prog 140 #[Rw q,Z c] W fun e w'=>e=.returned (.tuple #[])/\EC w b0 W w' B X wd h seed S q (Ve.sF r c):=by
 have HD:=Y (afO (c:Int) R.fl hs.ED R.all.ok);have hlen:=Fl.FF (c:Int) r.L (fun i hi=>(R.all.ok.aO i hi).len) 3 (by decide);have HRR:Hid (Ve.sF r c = { r with L:=Fl.kO c r.L 3,pf:=Fl.pC c r.L r.pf 3,rp:=r.rp++(Fl.mF c r.L 3).map (Ve.tell Ve.rq) }):=rfl;generalize Ve.sF r c=rr at *;have c0:=R.cells.1;go_enter func140,ntmps140
 go_wp2_with fail
 refine HD.mono ?_;rintro e w2 ⟨u,v',rfl,hrow,hf,hst,hok⟩;obtain⟨h1,h2,_⟩:=R.floor hf hst ⟨hok,R.all.nG,R.all.rule⟩;have H1:=Y h1;have H2:=Y h2;have kn:=Y hrow;have hb0:=R.hib;clear hf hst hok h1 h2;obtain⟨out,hout⟩:=aG (Fl.mF (c:Int) r.L 3);rw[hout]at kn hlen HRR hrow;obtain⟨aaH,aoR,hu⟩:=fA hrow;obtain⟨m,hm⟩:=aG out.length;rw[hm]at kn hlen hu;have HM:=Y hm;clear hrow hm hout;subst hu;simp only[]
 go_wp2_with fail
 go_loopw [13] (fun kv wr=>∃k uM,k<=m/\kv=Z k/\cg w b0 wr B { X with v:=v' } wd h seed S q vp uM { r with L:=Fl.kO c r.L 3,pf:=Fl.pC c r.L r.pf 3,rp:=r.rp++(out.take k).map (Ve.tell Ve.rq) }/\cz W wr b0 B X { X with v:=v' }/\wr.ownsRow W.heap.size 197 5 (.slice aaH m aoR) m (flat out)) (fun kv _=>m-(intOf kv).toNat)
 case atStart=>exact⟨0,vr,by omega,rfl,by simpa using H1.out,H2,kn⟩
 case round =>
  obtain⟨k,qA,hk,rfl,hr,hfr,hrow⟩:=hrel;have HR:=Y hr;have HF:=Y hfr;have HW:=Y hrow;clear hr hfr;by_cases hlt:k<m
  .have aT:(k:Int)<m:=by omega
   have hkl:k<out.length:=by rw[HM.out];exact hlt
   obtain⟨g,hg⟩:∃g,aaH=some (O g 0):=by
    rcases hrow.2 with ⟨e1,_⟩ | ⟨g,cap,cur,e1,_⟩
    .cases e1;omega
    .simp only[Value.slice.injEq]at e1;exact⟨g,e1.1⟩
   subst hg;obtain⟨x0,x1,x2,x3,x4⟩:=zN hrow k hkl;simp only[Nat.zero_add]at x0 x1 x2 x3 x4;have su:g<wr.heap.size:=bCq _ _ x0;have HT:=Y (fun W' (hb:U wr W')=>I8 Ve.rq (Cv.nth out k) W' (HR.later hb) (by simp only[List.length_append,List.length_map,List.length_take];omega));have HN:=Y (aoP Ve.rq hkl);generalize Cv.nth out k=x at *;clear hrow;have HB:Hid (U wr (wr.alloc (.cells #[Z x.id,Z x.ai,Z x.sd,Z x.pr,Z x.q] 197))):=aj;unfold Ve.rq cm at HT
   go_wp2_with fail
   refine(HT _ HB).mono ?_;rintro e w3 ⟨rfl,za,h3,h4,h5⟩;have H3:=Y h3;have d8:=Y (HF.trans ((cz.below HB b0 B _).trans h4));have H5:=Y ((HR.later HB).row h5 (dh HW HB) (by decide) (by decide));clear h3 h4 h5;simp only[];go_wp2;refine⟨⟨k+1,za,hlt,by go_num,?_,d8,H5⟩,by simp[intOf];omega⟩;rw[HN.out,<- aAq];exact H3
  .have aT:¬ (k:Int)<m:=by omega
   obtain rfl:k=m:=by omega
   go_wp2;go_end0;refine⟨rfl,_,vp,qA,?_,HF⟩
   have:=HR.out
   rw[<- HM.out,List.take_length]at this;rw[HRR.out];exact this
end
namespace Fl
theorem aa4(a:Ask)(k:Int):gY a k<=4:=by
 unfold gY;split
 .decide
 .unfold ah.code
  split
  .split
   .split <;> decide
   .decide
  .decide
theorem Zw(L:Nat->List Cv.af)(pf:Nat->Int)(a:Ask):eN L pf a<=9:=by
 have:=aa4 a 111
 unfold eN Pu.kJ
 (repeat' split) <;> omega
theorem Zx(L:Nat->List Cv.af)(pf:Nat->Int)(a:Ask):dP L pf a<=9:=by
 have:=aa4 a 99
 unfold dP Pu.iM
 (repeat' split) <;> omega
end Fl
section
variable {w W W':World} {ad:Nat->Addr} {b0 q:Nat} {B:bO} {X X' X2:bQ} {wd h seed:Int} {S:Ve.St} {vp vr:Value} {r:Ve.cQ}
theorem aoE(a:Ask)(W:World)(R:Hid (cg w b0 W B X wd h seed S q vp vr r))(hs:Hid (bJ w ad))(hn:r.rp.length<=100000)(hp:r.pl.length<=100000):
  Calls prog 188 #[Rw q,bM a] W fun e w'=>e=.returned (.tuple #[])/\EC w b0 W w' B X wd h seed S q (Ve.uD r a):=by
 have HP:Hid (∀W',U W W'->Calls prog 215 #[Rw B.F,bM a] W' fun e w'=>e=.returned (dz (sK ad) (Fl.eN r.L r.pf a))/\∃X',cg w b0 w' B X' wd h seed S q vp vr { r with L:=Fl.kK r.L r.pf a,pf:=Fl.kL r.L r.pf a }/\cz W' w' b0 B X X'/\aL W' w' (fun k=>o_ B X k)):=fun W' hb=>by
  have R':=R.later hb;refine(ag8 a R'.fl hs.ED R'.all.ok).mono ?_;rintro e w' ⟨rfl,v',h1,h2⟩;exact⟨rfl,_,R'.floor h1 h2 ⟨R'.all.ok.place a,R'.all.nG,R'.all.rule⟩⟩
 have hle:=Fl.Zw r.L r.pf a;have HRR:Hid (Ve.uD r a = { r with L:=Fl.kK r.L r.pf a,pf:=Fl.kL r.L r.pf a,pl:=if Fl.eN r.L r.pf a=0 then r.pl++[a] else r.pl,rp:=if Fl.eN r.L r.pf a=0 then r.rp else r.rp++[Ve.h_ a.c a.id (Fl.eN r.L r.pf a+1)] }):=rfl;generalize Ve.uD r a=rr at *;generalize Fl.eN r.L r.pf a=pc at *;generalize Fl.kK r.L r.pf a=pL at *;generalize Fl.kL r.L r.pf a=auu at *;have hb1:U W (W.alloc (.cells (aX a) 95)):=aj;have hb2:U W (W.alloc (.cells (aX a) 95)).drew:=hb1.trans (cw.mono (by simp));have hA:(W.alloc (.cells (aX a) 95)).drew.heap[W.heap.size]?=some (.cells (aX a) 95 (0,0)):=hNq W (.cells (aX a) 95);have HB2:=Y hb2;have HA:=Y hA;have c0:=R.cells.1;have mS:=R.lt;have ho:∀k,o_ B X k->k<W.heap.size:=fun k hk=>P9 R.aV hk;clear hb1 hb2 hA;cases pc with
 | succ d =>
  rw[show dz (sK ad) (d+1)=.iface 412 (.pointer (some (ad (d+1)))) from rfl]at HP;rw[if_neg (by omega),if_neg (by omega)]at HRR;unfold bM aX at *;go_enter func188,ntmps188
  go_wp2_with fail
  go_region_with (go_at_call 215;refine(HP _ HB2).mono ?_;rintro e w2 ⟨rfl,X2,h1,h2,h3⟩;have H1:=Y h1;have H2:=Y h2;have cJ:=Y ((h3.block W.heap.size (lBq HA) (fun e=>by have:=ho _ e;omega)).trans HA);clear h1 h2 h3)
  all_goals
   have e0:=ag cJ 0 rfl;have e1:=ag cJ 1 rfl;have e2:=ag cJ 2 rfl;have e3:=ag cJ 3 rfl;have e4:=ag cJ 4 rfl;have e5:=ag cJ 5 rfl;have e6:=ag cJ 6 rfl;have e7:=ag cJ 7 rfl;have HF:=Y (aax a (d+1) (by omega) w2 hs H1 hn);unfold bM aX at HF
   go_wp2_with fail
   refine HF.mono ?_;rintro e w3 ⟨rfl,za,h3,h4,_⟩;have H3:=Y h3;have d8:=Y (((cz.below HB2 b0 B X).trans H2).trans h4);clear h3 h4;simp only[];go_wp2;refine bodyPost_ret (v:=.tuple #[]) (by simp[results,results188]) rfl ?_;exact⟨rfl,X2,vp,za,by rw[HRR.out];exact H3,d8⟩
 | zero =>
  rw[show dz (sK ad) 0=.nilIface from rfl]at HP;rw[if_pos rfl,if_pos rfl]at HRR;unfold bM aX at *;go_enter func188,ntmps188
  go_wp2_with fail
  go_region_with (go_at_call 215;refine(HP _ HB2).mono ?_;rintro e w2 ⟨rfl,X2,h1,h2,h3⟩;have H1:=Y h1;have H2:=Y h2;have cJ:=Y ((h3.block W.heap.size (lBq HA) (fun e=>by have:=ho _ e;omega)).trans HA);clear h1 h2 h3)
  all_goals
   have hb3:U w2 (w2.drew.alloc (.cells (aX a) 95)):=cw.alloc cw.size _;have wE:=bF hb3 cJ;obtain⟨v4,w4,hap,hrow,hg⟩:=aav w2.drew vp r.pl a (H1.later cw).pl hp (H1.later cw).hib;have oC:=H1.later hb3;have hb0:=R.hib;have aa5:w4.heap[W.heap.size]?=some (.cells #[.int .u8 a.k,Z a.c,Z a.sq,Z a.it,Z a.sd,Z a.pr,Z a.q,Z a.id] 95 (0,0)):=by
    rw[hg.block _ (lBq wE) (fun e=>?_)]
    .exact wE
    .have:=(R.pl.lt _ e.symm).2
     omega
   have Bf:w4.cell? (O q 1)=some vp/\w4.frozen? (O q 1)=false:=by
    have e:w4.heap[q]?=some (.cells #[Rw B.F,vp,vr] 240 (0,0)):=by
     rw[hg.block q (lBq oC.blk) (fun e=>?_)]
     .exact oC.blk
     .obtain⟨_,cur,h2⟩:=cB oC.pl e.symm
      exact aN h2 oC.blk (by decide) rfl
    exact⟨by rw[cR _ _ _ _ _ _ e];rfl,by simp[World.frozen?,e]⟩
   obtain⟨g1,g2⟩:=Bf;have HT:=Y (H1.listed hb3 hg hrow);have q3:=oC.cells.2.1;have q2:=(H1.later cw).cells.2.1;obtain⟨a0,qW,hvp⟩:=fA H1.pl;obtain⟨a4,c4,hv4⟩:=fA hrow;rw[lAq,List.length_singleton]at hv4;have hvp:vp=.slice a0 r.pl.length qW:=hvp;rw[hvp]at hap q3 q2 g1;rw[hv4]at hap HT;rw[show w2.drew.heap.size=w2.heap.size from rfl]at hap;have cW:=Y hap;have ko:=Y wE;have gF:=Y aa5;have Qp:=Y q3;have EO:=Y g1;have apC:Hid (w2.drew.heap[W.heap.size]?=some (.cells #[.int .u8 a.k,Z a.c,Z a.sq,Z a.it,Z a.sd,Z a.pr,Z a.q,Z a.id] 95 (0,0))):=cJ.out;clear hap hrow hg hv4 hvp wE aa5 hb3 oC q3 g1;generalize r.pl.length=m at *;unfold aX at *;have akz:q<w2.heap.size:=H1.lt;have e0:=ag cJ 0 rfl;have e1:=ag cJ 1 rfl;have e2:=ag cJ 2 rfl;have e3:=ag cJ 3 rfl;have e4:=ag cJ 4 rfl;have e5:=ag cJ 5 rfl;have e6:=ag cJ 6 rfl;have e7:=ag cJ 7 rfl;go_wp2;clear e0 e1 e2 e3 e4 e5 e6 e7;obtain⟨bl,val,hcl,ay⟩:=gu (fun W'=>W'.heap[W.heap.size]?=some (.cells #[.int .u8 a.k,Z a.c,Z a.sq,Z a.it,Z a.sd,Z a.pr,Z a.q,Z a.id] 95 (0,0))/\W'.cell? (O q 1)=some (.slice a0 m qW));obtain⟨x0,hx0⟩:=ay w2.drew ⟨apC,q2⟩;have hnx:Nonempty bl:=⟨x0⟩;have s0:=fun x0=>ag (hcl x0).1 0 rfl;have s1:=fun x0=>ag (hcl x0).1 1 rfl;have s2:=fun x0=>ag (hcl x0).1 2 rfl;have s3:=fun x0=>ag (hcl x0).1 3 rfl;have r7:=fun x0=>ag (hcl x0).1 4 rfl;have Ae:=fun x0=>ag (hcl x0).1 5 rfl;have Af:=fun x0=>ag (hcl x0).1 6 rfl;have ym:=fun x0=>ag (hcl x0).1 7 rfl;have qL:∀x0,(val x0).cell? (O q 1)=some (.slice a0 m qW):=fun x0=>(hcl x0).2;have M1:=Y (ay _ ⟨ko,Qp⟩);have qO:=Y (ay _ ⟨gF,EO⟩);have apD:=EO.out;clear ay hcl;refine wa (val:=val) [6,7] 10 30 [0,1,2,3,4,5,6,7,8,9,10] (by kernel_rfl) (by kernel_rfl) x0 hx0 ?_;rw[hx0];clear hx0
   iterate 6 (refine l8 rfl rfl (fun K hK=>?_);refine⟨by rfl,?_⟩;unfold aQ;go_simp;refine hK _ ?_;clear hK K)
   refine nL rfl rfl (fun K hK=>?_);refine⟨by rfl,?_⟩;unfold aB;go_simp;refine⟨M1,hK _ _ ?_⟩;clear hK K;refine nL rfl rfl (fun K hK=>?_);refine⟨by rfl,?_⟩;refine yi _ _ 24 rfl _ _ _ rfl rfl cW ?_;refine⟨qO,hK _ _ ?_⟩;clear hK K
   iterate 2 (refine l8 rfl rfl (fun K hK=>?_);refine⟨by rfl,?_⟩;unfold aQ;go_simp;refine hK _ ?_;clear hK K)
   refine wh rfl (fun K hK=>?_);refine⟨by rfl,?_⟩;unfold aB;go_simp;refine hK _ _ ?_;clear hK K;go_wp2;go_end0;exact⟨rfl,X2,_,vr,by rw[HRR.out];exact HT.1,((cz.below HB2 b0 B X).trans H2).trans HT.2⟩
end
namespace Ve
def same(a x:Ask):Bool:=x.it==a.it&&x.id==a.id
theorem Qc(a:Ask)(l:List Ask):others a l=l.filter fun x=>!same a x:=rfl
theorem aaz(a:Ask)(l:List Ask)(x:Ask):others a (l++[x])=others a l++if same a x=true then [] else [x]:=by rw[Qc,Qc,List.filter_append];cases h:same a x <;> simp[h]
theorem I9{l:List Ask}{k:Nat}(h:k<l.length):l.take (k+1)=l.take k++[dD l k]:=by
 rw[List.take_succ_eq_append_getElem h];congr 2
 have:=GQ h
 rw[List.getElem?_eq_getElem h]at this;exact Option.some.inj this
theorem aaA{a:Ask}{l:List Ask}(h:∀x∈l,same a x=false):others a l=l:=by rw[Qc,List.filter_eq_self];intro x hx;rw[h x hx];rfl
end Ve
theorem aaB(A:Nat)(a x:Ask)(w:World)(hA:w.heap[A]?=some (.cells (aX a) 95 (0,0))):
  Calls prog 219 #[bM x,Rw A] w fun e w'=>e=.returned (.bool (Ve.same a x))/\U w w':=by
 have c3:w.cell? (O A 3)=some (Z a.it):=by rw[cR _ _ _ _ _ _ hA];rfl
 have c7:w.cell? (O A 7)=some (Z a.id):=by rw[cR _ _ _ _ _ _ hA];rfl
 have hlt:=lBq hA;have hs:Ve.same a x=(x.it==a.it&&x.id==a.id):=rfl;rw[hs];clear hA hs;cases h1:(x.it==a.it)
 all_goals
  unfold bM aX;go_enter func219,ntmps219;go_wp2;go_ret;refine⟨by simp,aj⟩
theorem A_{w:World}{base g n cap:Nat}{R:List Ask}(hrow:w.ownsRow base 95 8 (.slice (some (O g 0)) n cap) n (bz R)){k:Nat}(hk:k<R.length)(hkn:k<n):
  w.cell? ⟨g,k*8,none⟩=some (.int .u8 (dD R k).k)/\w.cell? ⟨g,k*8+1,none⟩=some (Z (dD R k).c)/\w.cell? ⟨g,k*8+2,none⟩=some (Z (dD R k).sq)/\w.cell? ⟨g,k*8+3,none⟩=some (Z (dD R k).it)/\w.cell? ⟨g,k*8+4,none⟩=some (Z (dD R k).sd)/\w.cell? ⟨g,k*8+5,none⟩=some (Z (dD R k).pr)/\w.cell? ⟨g,k*8+6,none⟩=some (Z (dD R k).q)/\w.cell? ⟨g,k*8+7,none⟩=some (Z (dD R k).id):=by
 have key:∀j,j<8->w.cell? ⟨g,k*8+j,none⟩=(mO (dD R k))[j]?:=fun j hj=>by
  rw[(mP hrow (k*8+j) (by omega)).2.2,air R k j hk hj]
 exact⟨key 0 (by decide),key 1 (by decide),key 2 (by decide),key 3 (by decide),key 4 (by decide),key 5 (by decide),key 6 (by decide),key 7 (by decide)⟩
theorem aoF(base g n cap A:Nat)(a:Ask)(l:List Ask)(w:World)(hn':n<=100000)(mg:Hid (l.length=n))(hrow:Hid (w.ownsRow base 95 8 (.slice (some (O g 0)) n cap) n (bz l)))(hA:Hid (w.heap[A]?=some (.cells (aX a) 95 (0,0)))):
  Calls prog 249 #[.slice (some (O g 0)) n cap,.func (.func 219) #[] #[Rw A]] w fun e w'=>((e=.returned (Z (-1))/\∀x∈l,Ve.same a x=false)\/∃k,k<n/\e=.returned (Z (k:Nat))/\(∀x∈l.take k,Ve.same a x=false)/\Ve.same a (dD l k)=true)/\U w w':=by
 go_enter func249,ntmps249;go_wp2
 go_loopw [8] (fun i wr=>∃k:Nat,k<=n/\i=Z k/\(∀x∈l.take k,Ve.same a x=false)/\U w wr) (fun i _=>n-(intOf i).toNat)
 case atStart=>exact⟨0,Nat.zero_le _,rfl,by simp,bRq _ _⟩
 case round =>
  obtain⟨k,hk,rfl,hno,hb⟩:=hrel;have HN:=Y hno;have HB:=Y hb;clear hno hb;by_cases hlt:k<n
  .have aT:(k:Int)<n:=by omega
   have hkl:k<l.length:=by rw[mg.out];exact hlt
   obtain⟨c0,c1,c2,c3,c4,c5,c6,c7⟩:=A_ (dh hrow HB) hkl hlt;have HC:=Y (aaB A a (dD l k) wr (bF HB hA));have HT:=Y (Ve.I9 hkl);obtain⟨x,sX⟩:=aG (dD l k);rw[sX]at HC HT c0 c1 c2 c3 c4 c5 c6 c7;have HX:=Y sX;clear sX;unfold bM aX at HC
   go_wp2_with fail
   refine HC.mono ?_;rintro e w2 ⟨rfl,hb2⟩;have HB2:=Y (ar HB hb2);clear hb2 c0 c1 c2 c3 c4 c5 c6 c7;cases hx:Ve.same a x with
   | true =>
    have Hx:=Y hx;clear hx;simp only[];go_wp2;go_ret;exact⟨.inr ⟨k,hlt,rfl,HN,by rw[HX.out];exact Hx⟩,HB2⟩
   | false =>
    have ql:Hid (∀y∈l.take (k+1),Ve.same a y=false):=fun y hy=>by
     rw[HT.out]at hy;rcases List.mem_append.1 hy with h | h
     .exact HN y h
     .rw[List.mem_singleton.1 h];exact hx
    clear hx;simp only[];go_wp2;exact⟨⟨k+1,by omega,by go_num,ql,HB2⟩,by simp[intOf];omega⟩
  .have aT:¬ (k:Int)<n:=by omega
   have ep:k=l.length:=by rw[mg.out];omega
   have hno:=HN.out;rw[ep,List.take_length]at hno;have ql:=Y hno;clear hno ep;go_wp2;go_ret;exact⟨.inl ⟨rfl,ql⟩,HB⟩
theorem aoG(a:Option Addr)(f:Value)(w:World):Calls prog 249 #[.slice a 0 0,f] w fun e w'=>e=.returned (Z (-1))/\w'=w:=by go_enter func249,ntmps249;go_wp2;refine wp_loop_rounds 1 ?_;rw[rounds_succ];go_wp2;go_ret;exact⟨rfl,rfl⟩
theorem aoH(w:World)(b o J c:Nat)(hJ:0<J)(hc:∀j,j<J*8->(w.cell? ⟨b,o+j,none⟩).isSome=true)(hf:∀j,j<J*8->w.frozen? ⟨b,o+j,none⟩=false):
  ∃zs:List Value,zs.length=J*8/\∀ty,(Builtin.clear_ #[24] ty #[.slice (some (O b o)) J c]).run prog w=.ok (.tuple #[]) (w.setCells b o zs):=by
 obtain⟨zs,hzs⟩:∃zs,zs=(Builtin.zeroCells (Value.agg #[.int .u8 0,Z 0,Z 0,Z 0,Z 0,Z 0,Z 0,Z 0]).cells J).toList:=⟨_,rfl⟩;have aaC:(Value.agg #[.int .u8 0,Z 0,Z 0,Z 0,Z 0,Z 0,Z 0,Z 0]).cells=#[.int .u8 0,Z 0,Z 0,Z 0,Z 0,Z 0,Z 0,Z 0]:=by kernel_rfl
 have hl:zs.length=J*8:=by rw[hzs,aaC];simp[Builtin.zeroCells]
 have h1:∀u∈zs,u.oneCell'=true:=by
  intro u hu;rw[hzs,aaC]at hu;simp only[Builtin.zeroCells,Array.toList_map,List.mem_map]at hu;obtain⟨i,_,rfl⟩:=hu;have:i%8=0\/i%8=1\/i%8=2\/i%8=3\/i%8=4\/i%8=5\/i%8=6\/i%8=7:=by omega
  show (#[(.int .u8 0:Value),Z 0,Z 0,Z 0,Z 0,Z 0,Z 0,Z 0][i%8]!).oneCell'=true;rcases this with e | e | e | e | e | e | e | e <;> rw[e] <;> rfl
 have hst:=run_storeCells_cells (P:=prog) b o zs 0 w (fun j hj=>by rw[hl]at hj;exact hc j hj) (fun j hj=>by rw[hl]at hj;exact hf j hj) h1;simp only[Nat.add_zero]at hst;refine⟨zs,hl,fun ty=>?_⟩;obtain⟨aaD,rfl⟩:∃aaD,J=aaD+1:=⟨J-1,by omega⟩;simp[Builtin.clear_,run_underlying underlying24,<- hzs,hst]
theorem aoI{w:World}{base g n cap:Nat}{R:List Ask}(hrow:w.ownsRow base 95 8 (.slice (some (O g 0)) n cap) n (bz R))(hR:R.length=n)(hcap:n<=cap){i:Nat}(hi:i<n)(x:Ask):
  (w.setCells g (i*8) (mO x)).ownsRow base 95 8 (.slice (some (O g 0)) n cap) n (bz (R.take i++x::R.drop (i+1))):=by
 have e:bz (R.take i++x::R.drop (i+1))=(bz R).take (i*8)++mO x++(bz R).drop (i*8+(mO x).length):=by rw[vW,Wc R i (by omega),show i*8+(mO x).length=(i+1)*8 by show i*8+8=_;omega,V9 R (i+1) (by omega),aAq];rfl
 have hl:(bz (R.take i++x::R.drop (i+1))).length=n*8:=by rw[oQ];simp;omega
 exact GM hrow (i*8) (mO x) n hcap (by show i*8+8<=_;omega) _ hl (E _) (by rw[<- e];exact List.take_of_length_le (by omega))
def aaE(w w':World)(e:Ending)(base:Nat)(v:Value)(l:List Ask):Prop :=
 ∃v',e=.returned v'/\w'.ownsRow base 95 8 v' l.length (bz l)/\w.grownBy w' v.ownBlock
theorem aL.aoJ{w w':World}{g:Nat}(h:aL w w' (fun k=>k=g)):w.grownBy w' (some g):=⟨h.os,h.tape,h.output,h.size,fun k hk hn=>h.block k hk (fun e=>hn (by rw[e]))⟩
theorem aoK(base g n cap A:Nat)(a:Ask)(l:List Ask)(w:World)(hn':n<=100000)(hcap:n<=cap)(mg:Hid (l.length=n))(hrow:Hid (w.ownsRow base 95 8 (.slice (some (O g 0)) n cap) n (bz l)))(hA:Hid (w.heap[A]?=some (.cells (aX a) 95 (0,0))))(aoL:Hid (g≠A)):
  Calls prog 218 #[.slice (some (O g 0)) n cap,.func (.func 219) #[] #[Rw A]] w fun e w'=>aaE w w' e base (.slice (some (O g 0)) n cap) (Ve.others a l):=by
 have HI:=Y (aoF base g n cap A a l w hn' mg hrow hA);go_enter func218,ntmps218
 go_wp2_with fail
 refine HI.mono ?_;rintro e w2 ⟨h1 | ⟨lW,hk0,rfl,hno,aaF⟩,hb2⟩
 .obtain⟨rfl,hno⟩:=h1
  have Pe:=Y (Ve.aaA hno);have HB2:=Y hb2;clear hno hb2;simp only[];go_wp2;go_ret;refine⟨_,rfl,?_,?_⟩
  .rw[Pe.out,mg.out];exact dh hrow HB2
  .exact⟨HB2.os,HB2.tape,HB2.output,HB2.size,fun k hk _=>HB2.block k hk⟩
 .have hkl:lW<l.length:=by rw[mg.out];exact hk0
  have H0:Hid (Ve.others a (l.take (lW+1))=l.take lW):=by show _=_;rw[Ve.I9 hkl,Ve.aaz,Ve.aaA hno,aaF];simp
  have HB2:=Y hb2;clear hno aaF hb2;have hne:¬ ((lW:Int) = -1):=by omega
  simp only[]
  go_wp2_with fail
  go_loopw [5,6] (fun iv yS wr=>∃i j:Nat,i<j/\j<=n/\iv=Z i/\yS=Z j/\i=(Ve.others a (l.take j)).length/\wr.ownsRow base 95 8 (.slice (some (O g 0)) n cap) n (bz (Ve.others a (l.take j)++l.drop i))/\aL w wr (fun k=>k=g)) (fun _ yS _=>n-(intOf yS).toNat)
  case atStart =>
   refine⟨lW,lW+1,by omega,hk0,rfl,by go_num,?_,?_,aL.of_below HB2 _⟩
   .rw[H0.out,lKq];omega
   .rw[H0.out,List.take_append_drop];exact dh hrow HB2
  case round =>
   obtain⟨i,j,hij,hj,rfl,rfl,hi,hr,ht⟩:=hrel;have HR:=Y hr;have HT:=Y ht;have HL:=Y hi;clear hr ht hi;have hin:(i:Int)<n:=by omega
   by_cases hlt:j<n
   .have bC:(j:Int)<n:=by omega
    have sH:j<l.length:=by rw[mg.out];exact hlt
    have xN:(Ve.others a (l.take j)++l.drop i).length=n:=by rw[lAq,<- HL.out,List.length_drop,mg.out];omega
    have hat:dD (Ve.others a (l.take j)++l.drop i) j=dD l j:=by unfold dD;rw[gE,gE,List.getElem?_append_right (by rw[<- HL.out];omega),<- HL.out,List.getElem?_drop];congr 2;omega
    obtain⟨c0,c1,c2,c3,c4,c5,c6,c7⟩:=A_ HR (by rw[xN];exact hlt) hlt;rw[hat]at c0 c1 c2 c3 c4 c5 c6 c7;have su:g<wr.heap.size:=bCq _ _ c0;have auo:g≠wr.heap.size:=by omega
    have qB:Hid (Ve.others a (l.take (j+1))=Ve.others a (l.take j)++if Ve.same a (dD l j)=true then [] else [dD l j]):=by show _=_;rw[Ve.I9 sH,Ve.aaz]
    have sG:=Y xN;have HC:Hid (∀W',U wr W'->Calls prog 219 #[bM (dD l j),Rw A] W' fun e w'=>e=.returned (.bool (Ve.same a (dD l j)))/\U W' w'):=fun W' hb=>aaB A a (dD l j) W' (bF hb ((HT.block A (lBq hA) (fun e=>aoL e.symm)).trans hA));clear hat xN;generalize dD l j=x at *;have av:Hid (U wr (wr.alloc (.cells (aX x) 95))):=aj;have gC:=Y (hNq wr (.cells (aX x) 95));unfold bM aX at *
    go_wp2_with fail
    refine(HC _ av).mono ?_;rintro e w4 ⟨rfl,hb4⟩;have bS:=Y (ar av hb4);have mj:=Y (bF hb4 gC);have cO:=Y (dh HR bS);have aaG:Hid (aL w w4 (fun k=>k=g)):=HT.trans (aL.of_below bS _) (fun _ h=>.inl h);have aup:wr.heap.size<w4.heap.size:=lBq mj;clear hb4 c0 c1 c2 c3 c4 c5 c6 c7;cases hx:Ve.same a x with
    | true =>
     rw[hx,if_pos rfl,aNq]at qB;clear hx;simp only[];go_wp2;refine⟨⟨i,j+1,by omega,hlt,rfl,by go_num,?_,?_,aaG⟩,by simp[intOf];omega⟩
     .rw[qB.out];exact HL
     .rw[qB.out];exact cO
    | false =>
     rw[hx,if_neg (by decide)]at qB;clear hx;obtain⟨d0,d1,d2,d3,d4,d5,lO,t_⟩:=A_ cO (k:=i) (by rw[sG.out];omega) (by omega);generalize dD (Ve.others a (l.take j)++l.drop i) i=y at *;have f0:w4.frozen? ⟨g,i*8,none⟩=false:=(mP cO (i*8) (by omega)).2.1;have f1:w4.frozen? ⟨g,i*8+1,none⟩=false:=(mP cO (i*8+1) (by omega)).2.1;have f2:w4.frozen? ⟨g,i*8+2,none⟩=false:=(mP cO (i*8+2) (by omega)).2.1;have f3:w4.frozen? ⟨g,i*8+3,none⟩=false:=(mP cO (i*8+3) (by omega)).2.1;have f4:w4.frozen? ⟨g,i*8+4,none⟩=false:=(mP cO (i*8+4) (by omega)).2.1;have f5:w4.frozen? ⟨g,i*8+5,none⟩=false:=(mP cO (i*8+5) (by omega)).2.1;have f6:w4.frozen? ⟨g,i*8+6,none⟩=false:=(mP cO (i*8+6) (by omega)).2.1;have f7:w4.frozen? ⟨g,i*8+7,none⟩=false:=(mP cO (i*8+7) (by omega)).2.1;have b0:w4.cell? (O wr.heap.size 0)=some (.int .u8 x.k):=by rw[cR _ _ _ _ _ _ mj.out];rfl
     have b1:w4.cell? (O wr.heap.size 1)=some (Z x.c):=by rw[cR _ _ _ _ _ _ mj.out];rfl
     have b2:w4.cell? (O wr.heap.size 2)=some (Z x.sq):=by rw[cR _ _ _ _ _ _ mj.out];rfl
     have b3:w4.cell? (O wr.heap.size 3)=some (Z x.it):=by rw[cR _ _ _ _ _ _ mj.out];rfl
     have b4:w4.cell? (O wr.heap.size 4)=some (Z x.sd):=by rw[cR _ _ _ _ _ _ mj.out];rfl
     have b5:w4.cell? (O wr.heap.size 5)=some (Z x.pr):=by rw[cR _ _ _ _ _ _ mj.out];rfl
     have b6:w4.cell? (O wr.heap.size 6)=some (Z x.q):=by rw[cR _ _ _ _ _ _ mj.out];rfl
     have b7:w4.cell? (O wr.heap.size 7)=some (Z x.id):=by rw[cR _ _ _ _ _ _ mj.out];rfl
     have HP:=Y (aoI cO sG hcap (i:=i) (by omega) x);have aoM:Hid (aL w (w4.setCells g (i*8) (mO x)) (fun k=>k=g)):=aaG.trans (aL.setCells w4 g (mO x) (i*8)) (fun _ h=>.inl h);have HE:Hid ((Ve.others a (l.take j)++l.drop i).take i++x::(Ve.others a (l.take j)++l.drop i).drop (i+1)=Ve.others a (l.take (j+1))++l.drop (i+1)):=by show _=_;rw[qB.out];have hl:=HL.out;generalize Ve.others a (l.take j)=Oqq at *;subst hl;rw[List.take_left,List.drop_append,List.drop_of_length_le (by omega),List.nil_append,List.drop_drop,show Oqq.length+(Oqq.length+1-Oqq.length)=Oqq.length+1 by omega];simp
     rw[HE.out]at HP;simp only[];go_wp2;refine⟨⟨i+1,j+1,by omega,hlt,by go_num,by go_num,?_,HP,aoM⟩,by simp[intOf];omega⟩;rw[qB.out,lAq,<- HL.out];rfl
   .have bC:¬ (j:Int)<n:=by omega
    obtain rfl:j=n:=by omega
    have JL:i≠cap:=by omega
    obtain⟨zs,hzl,hcl⟩:=aoH wr g (i*8) (j-i) (cap-i) (by omega) (fun t ht=>(mP HR _ (by omega)).1) (fun t ht=>(mP HR _ (by omega)).2.1);have hO:Ve.others a (l.take j)=Ve.others a l:=by rw[<- mg.out,List.take_length]
    have fD:Hid ((wr.setCells g (i*8) zs).ownsRow base 95 8 (.slice (some (O g 0)) i cap) i (bz (Ve.others a l))):=by have hl:=HL.out;rw[hO]at hl;have hr:=HR.out;rw[hO]at hr;refine GM hr (i*8) zs i (by omega) (by rw[hzl];omega) _ (by rw[oQ,<- hl]) (by omega) ?_;rw[Wc _ i (by rw[lAq];omega),aAq,List.take_append_of_le_length (by rw[oQ,lKq,lAq];omega)];rw[show (Ve.others a l++l.drop i).take i=Ve.others a l by rw[hl,List.take_left],List.take_of_length_le (by rw[oQ,<- hl];omega)]
    have aoN:Hid (aL w (wr.setCells g (i*8) zs) (fun k=>k=g)):=HT.trans (aL.setCells wr g zs (i*8)) (fun _ h=>.inl h);have aoO:Hid (i=(Ve.others a l).length):=by rw[<- hO];exact HL
    have auq:i<=cap:=by omega
    have aur:i<=j:=by omega
    clear hO hzl;go_wp2;go_ret;exact⟨_,rfl,by rw[<- aoO.out];exact fD,aoN.aoJ⟩
theorem aoB(base A:Nat)(v:Value)(a:Ask)(l:List Ask)(w:World)(hn:l.length<=100000)(hrow:w.ownsRow base 95 8 v l.length (bz l))(hA:w.heap[A]?=some (.cells (aX a) 95 (0,0)))(hne:v.ownBlock≠some A):
  Calls prog 218 #[v,.func (.func 219) #[] #[Rw A]] w fun e w'=>aaE w w' e base v (Ve.others a l):=by
 rcases hrow.2 with ⟨rfl,hl⟩ | ⟨g,cap,cur,rfl,_,_,hcap,_⟩
 .have e:l=[]:=List.length_eq_zero_iff.1 hl
  subst e;have HI:=Y (fun f=>aoG none f w);have HR:=Y hrow;clear hrow hA hne hn hl;go_enter func218,ntmps218
  go_wp2_with fail
  refine(HI _).mono ?_;rintro e w2 ⟨rfl,rfl⟩;simp only[];go_wp2;go_ret;exact⟨_,rfl,HR,⟨rfl,rfl,rfl,E _,fun _ _ _=>rfl⟩⟩
 .exact aoK base g l.length cap A a l w hn hcap rfl hrow hA (fun e=>hne (by rw[e];rfl))
section
variable {w W W':World} {ad:Nat->Addr} {b0 q:Nat} {B:bO} {X X' X2:bQ} {wd h seed:Int} {S:Ve.St} {vp vr:Value} {r:Ve.cQ}
theorem cg.I7{D:Nat}{cur:Array Value}{fz:Nat×Nat}(R:cg w b0 W B X wd h seed S q vp vr r)(hk:W.heap[D]?=some (.cells cur 197 fz))(hD:¬ dV B X D)(hs:aU W W' D)(hlo:w.heap.size<=D):cg w b0 W' B X wd h seed S q vp vr r:=by
 have ht:aL W W' (fun k=>k=D):=⟨hs.os,hs.tape,hs.output,hs.size,fun k hk hn=>hs.block k hk hn⟩;have key:∀{base:Nat} {e:TypeId} {sz n:Nat} {v:Value} {xs:List Value},W.ownsRow base e sz v n xs->e≠197->W'.ownsRow base e sz v n xs:=fun {base e sz n v xs} rK hne=>eV rK ht (fun k hk2 e1=>by
  obtain⟨_,cur,h2⟩:=cB rK hk2;exact aN h2 hk hne e1)
 refine⟨R.aV.aside ht (aN R.aV.fl.blk hk (by decide)) (fun k hv e=>hD (by rw[<- e];exact hv)) (fun k e=>by rw[e];exact hlo),?_,key R.pl (by decide),key R.rp (by decide),R.lo,R.nY,lTq R.hib hs.size,R.y7,R.all⟩;rw[hs.block q (lBq R.blk) (aN R.blk hk (by decide))];exact R.blk
theorem aoA(a:Ask)(W:World)(R:Hid (cg w b0 W B X wd h seed S q vp vr r))(hs:Hid (bJ w ad))(hn:r.rp.length<=100000)(hp:r.pl.length<=100000):
  Calls prog 189 #[Rw q,bM a] W fun e w'=>e=.returned (.tuple #[])/\EC w b0 W w' B X wd h seed S q (Ve.wQ r a):=by
 have dy:Hid (cg w b0 (W.alloc (.cells (aX a) 95)) B X wd h seed S q vp vr r):=R.out.later aj;have HB1:Hid (U W (W.alloc (.cells (aX a) 95))):=aj;have HA1:=Y (hNq W (.cells (aX a) 95));have HW1:Hid (W.heap.size<(W.alloc (.cells (aX a) 95)).heap.size):=by show _<_;simp
 have HP:Hid (∀W',Below (W.alloc (.cells (aX a) 95)).heap.size (W.alloc (.cells (aX a) 95)) W'->Calls prog 217 #[Rw B.F,bM a] W' fun e w'=>e=.returned (.tuple #[cm (Fl.gA r.L a),dz (sK ad) (Fl.dP r.L r.pf a)])/\∃X',cg w b0 w' B X' wd h seed S q vp vr { r with L:=Fl.eZ r.L a,pf:=Fl.kM r.L r.pf a }/\cz W' w' b0 B X X'/\aL W' w' (fun k=>o_ B X k)):=fun W' hb=>by
  have R':=dy.out.later hb;refine(afI a R'.fl hs.out.ED R'.all.ok).mono ?_;rintro e w' ⟨rfl,v',h1,h2⟩;exact⟨rfl,_,R'.floor h1 h2 ⟨R'.all.ok.cancel a,R'.all.nG,R'.all.rule⟩⟩
 have hle:=Fl.Zx r.L r.pf a;have HRR:Hid (Ve.wQ r a = { r with L:=Fl.eZ r.L a,pf:=Fl.kM r.L r.pf a,pl:=if Fl.dP r.L r.pf a=0 then Ve.others a r.pl else r.pl,rp:=r.rp++if Fl.dP r.L r.pf a=0 then [Ve.tell Ve.rq (Fl.gA r.L a)] else [Ve.h_ a.c a.id (Fl.dP r.L r.pf a+1)] }):=rfl;generalize Ve.wQ r a=rr at *;generalize Fl.dP r.L r.pf a=pc at *;generalize Fl.gA r.L a=x at *;obtain⟨rL,P8⟩:∃rL:Ve.cQ,rL = { r with L:=Fl.eZ r.L a,pf:=Fl.kM r.L r.pf a }:=⟨_,rfl⟩;rw[<- P8]at HP;have sG:=Y P8;clear P8;have ho:∀k,o_ B X k->k<W.heap.size:=fun k hk=>P9 R.out.aV hk;cases pc with
 | succ d =>
  rw[show dz (sK ad) (d+1)=.iface 412 (.pointer (some (ad (d+1)))) from rfl]at HP;rw[if_neg (by omega),if_neg (by omega)]at HRR;unfold bM aX cm at *;go_enter func189,ntmps189;go_wp2;generalize W.alloc (.cells #[.int .u8 a.k,Z a.c,Z a.sq,Z a.it,Z a.sd,Z a.pr,Z a.q,Z a.id] 95)=W1 at *;obtain⟨bl,val,hcl,ay⟩:=EE (fun W'=>W'.heap[W.heap.size]?=some (.cells #[.int .u8 a.k,Z a.c,Z a.sq,Z a.it,Z a.sd,Z a.pr,Z a.q,Z a.id] 95 (0,0))/\W'.cell? (O q 0)=some (Rw B.F));have aH:Hid (∀W',W'.heap[W.heap.size]?=some (.cells #[.int .u8 a.k,Z a.c,Z a.sq,Z a.it,Z a.sd,Z a.pr,Z a.q,Z a.id] 95 (0,0))->W'.cell? (O q 0)=some (Rw B.F)->∃x,val x=W'):=fun W' h1 h2=>ay W' ⟨h1,h2⟩;obtain⟨x0,hx0⟩:=aH.out W1.drew HA1.out dy.out.cells.1;have hnx:Nonempty bl:=⟨x0⟩;have s0:∀x0,(val x0).cell? (O W.heap.size 0)=some (.int .u8 a.k):=fun x0=>by rw[cR _ _ _ _ _ _ (hcl x0).1];rfl
  have s1:∀x0,(val x0).cell? (O W.heap.size 1)=some (Z a.c):=fun x0=>by rw[cR _ _ _ _ _ _ (hcl x0).1];rfl
  have s2:∀x0,(val x0).cell? (O W.heap.size 2)=some (Z a.sq):=fun x0=>by rw[cR _ _ _ _ _ _ (hcl x0).1];rfl
  have s3:∀x0,(val x0).cell? (O W.heap.size 3)=some (Z a.it):=fun x0=>by rw[cR _ _ _ _ _ _ (hcl x0).1];rfl
  have r7:∀x0,(val x0).cell? (O W.heap.size 4)=some (Z a.sd):=fun x0=>by rw[cR _ _ _ _ _ _ (hcl x0).1];rfl
  have Ae:∀x0,(val x0).cell? (O W.heap.size 5)=some (Z a.pr):=fun x0=>by rw[cR _ _ _ _ _ _ (hcl x0).1];rfl
  have Af:∀x0,(val x0).cell? (O W.heap.size 6)=some (Z a.q):=fun x0=>by rw[cR _ _ _ _ _ _ (hcl x0).1];rfl
  have ym:∀x0,(val x0).cell? (O W.heap.size 7)=some (Z a.id):=fun x0=>by rw[cR _ _ _ _ _ _ (hcl x0).1];rfl
  have qL:∀x0,(val x0).cell? (O q 0)=some (Rw B.F):=fun x0=>(hcl x0).2;obtain⟨w4,hw4⟩:=aG W1.drew;have bH:Hid (U W1 w4):=by rw[<- hw4];exact cw
  clear ay hcl;refine vB (val:=val) (fun D aA=>∃X2,cg w b0 aA B X2 wd h seed S q vp vr rL/\cz W1 aA b0 B X X2/\aA.heap[D]?=some (.cells #[Z x.id,Z x.ai,Z x.sd,Z x.pr,Z x.q] 197 (0,0))/\W1.heap.size<=D/\aA.heap[W.heap.size]?=some (.cells #[.int .u8 a.k,Z a.c,Z a.sq,Z a.it,Z a.sd,Z a.pr,Z a.q,Z a.id] 95 (0,0))) (.read 0 (.read 1 (.read 2 (.read 3 (.read 4 (.two 5 (.read 6 (.read 7 (.read 8 (.one 9 (.one 10 (.read 11 .done)))))) 9 (.one 5 (.read 6 (.read 7 (.read 8 (.one 10 (.read 11 .done)))))))))))) (by kernel_rfl) (by kernel_rfl) x0 hx0 ?_;apply Exists.intro;refine⟨?_,?_⟩
  case' refine_1 =>
   rw[hx0,hw4]
   iterate 5 (refine cF rfl (fun K hK=>?_);refine⟨by rfl,?_⟩;unfold aQ;go_simp;refine hK _ ?_;clear hK K)
   refine⟨?_,?_⟩
   case refine_1 =>
    refine cq rfl (fun K hK=>?_);refine⟨by rfl,?_⟩;unfold aB;go_simp;refine(HP.out _ bH.out).mono ?_;rintro e wc ⟨rfl,X2,h1,h2,h3⟩;have y8:=Y h1;have P_:=Y ((cz.below bH.out b0 B X).trans h2);have EF:=Y ((h3.block W.heap.size (Nat.lt_of_lt_of_le HW1.out bH.out.size) (fun e=>by have:=ho _ e;omega)).trans (bF bH.out HA1.out));have Qa:Hid (W1.heap.size<=wc.heap.size):=lTq bH.out.size h2.turned.size;refine⟨_,rfl,aH.out _ EF.out y8.out.cells.1,hK _ _ ?_⟩;clear hK K h1 h2 h3
    iterate 3 (refine cF rfl (fun K hK=>?_);refine⟨by rfl,?_⟩;unfold aQ;go_simp;refine hK _ ?_;clear hK K)
    refine cq rfl (fun K hK=>?_);refine⟨by rfl,?_⟩;unfold aB;go_simp;have hba:U wc (wc.alloc (.cells #[Z 0,Z 0,Z 0,Z 0,Z 0] 197)):=aj;have au:=Y (hNq wc (.cells #[Z 0,Z 0,Z 0,Z 0,Z 0] 197));have fD:=Y (y8.out.later hba);have mJ:=Y (P_.out.trans (cz.below hba b0 B X2));have mY:=Y (bF hba EF.out);have uL:Hid (¬ dV B X2 wc.heap.size):=fun e=>by have:=(y8.out.aV.ig e).2;omega
    have eY:=Y Qa.out;refine⟨aH.out _ mY.out fD.out.cells.1,hK _ _ ?_⟩;clear hK K hba;generalize wc.alloc (.cells #[Z 0,Z 0,Z 0,Z 0,Z 0] 197)=aD at *;generalize wc.heap.size=ck at *;have c0:=ag au.out 0 rfl;have f0:=aC au.out 0;have c1:=ag au.out 1 rfl;have f1:=aC au.out 1;have c2:=ag au.out 2 rfl;have f2:=aC au.out 2;have c3:=ag au.out 3 rfl;have f3:=aC au.out 3;have c4:=ag au.out 4 rfl;have f4:=aC au.out 4;have HX:=Y (pE au.out x.id x.ai x.sd x.pr x.q);have cP:=Y (xC aD ck (Z x.id) (Z x.ai) (Z x.sd) (Z x.pr) (Z x.q));have ru:=Y (fD.out.I7 au.out uL.out cP.out (lTq R.out.nY (lTq R.out.hib (lTq HB1.out.size eY.out))));have y9:=Y (mJ.out.trans (cz.high (b0:=b0) ⟨cP.out.os,cP.out.tape,cP.out.output,cP.out.size,fun k hk hn=>cP.out.block k hk (fun e=>hn (by rw[e];exact lTq R.out.hib (lTq HB1.out.size eY.out)))⟩ B X2));have oV:=Y ((cP.out.block W.heap.size (lBq mY.out) (by have:=eY.out;have:=HW1.out;omega)).trans mY.out);refine cq rfl (fun K hK=>?_);refine⟨by rfl,?_⟩;unfold aB;go_simp;refine⟨aH.out _ oV.out ru.out.cells.1,hK _ _ ?_⟩;clear hK K c0 c1 c2 c3 c4 f0 f1 f2 f3 f4;generalize ((((aD.setCell (O ck 0) (Z x.id)).setCell (O ck 1) (Z x.ai)).setCell (O ck 2) (Z x.sd)).setCell (O ck 3) (Z x.pr)).setCell (O ck 4) (Z x.q)=wx at *;refine cF rfl (fun K hK=>?_);refine⟨by rfl,?_⟩;unfold aQ;go_simp;refine hK _ ?_;clear hK K;refine jR ?_;exact⟨ck,rfl,X2,ru.out,y9.out,HX.out,eY.out,oV.out⟩
   case refine_2 =>
    refine cq rfl (fun K hK=>?_);refine⟨by rfl,?_⟩;unfold aB;go_simp;have hba:U w4 (w4.alloc (.cells #[Z 0,Z 0,Z 0,Z 0,Z 0] 197)):=aj;have ez:Hid (U W1 (w4.alloc (.cells #[Z 0,Z 0,Z 0,Z 0,Z 0] 197))):=bH.out.alloc bH.out.size _;have pF:=Y (hNq w4 (.cells #[Z 0,Z 0,Z 0,Z 0,Z 0] 197));have eY:Hid (W1.heap.size<=w4.heap.size):=bH.out.size;have oM:Hid (w4.heap.size<(w4.alloc (.cells #[Z 0,Z 0,Z 0,Z 0,Z 0] 197)).heap.size):=by show _<_;simp
    have EG:=dy.out.later ez.out;refine⟨aH.out _ (bF ez.out HA1.out) EG.cells.1,hK _ _ ?_⟩;clear hK K hba EG;generalize w4.alloc (.cells #[Z 0,Z 0,Z 0,Z 0,Z 0] 197)=jl at *;generalize w4.heap.size=ck at *;refine cq rfl (fun K hK=>?_);refine⟨by rfl,?_⟩;unfold aB;go_simp;refine(HP.out _ ez.out).mono ?_;rintro e aD ⟨rfl,X2,h1,h2,h3⟩;have au:=Y ((h3.block ck oM.out (fun e=>by have:=ho _ e;have:=eY.out;have:=HW1.out;omega)).trans pF.out);have fD:=Y h1;have mJ:=Y ((cz.below ez.out b0 B X).trans h2);have mY:=Y ((h3.block W.heap.size (Nat.lt_of_lt_of_le HW1.out ez.out.size) (fun e=>by have:=ho _ e;omega)).trans (bF ez.out HA1.out));have uL:Hid (¬ dV B X2 ck):=fun e=>by
     have hq:=h2.qv;have hd:=h2.bZ;have hlt:∀k,dV B X k->k<W.heap.size:=fun k hk=>(R.out.aV.ig hk).2;have mX:ck<W.heap.size\/jl.heap.size<=ck:=by
      rcases e with e | e | e | e | e | e
      .exact .inl (by rw[e];exact hlt _ (.inl rfl))
      .exact .inl (by rw[e];exact hlt _ (.inr (.inl rfl)))
      .rcases h2.new ck (.inr e) with h8 | h8
       .exact .inl (ho _ h8)
       .exact .inr h8
      .rw[hq]at e;exact .inl (hlt _ (.inr (.inr (.inr (.inl e)))))
      .exact .inl (by rw[e];exact hlt _ (.inr (.inr (.inr (.inr (.inl rfl))))))
      .rw[hd]at e;exact .inl (hlt _ (.inr (.inr (.inr (.inr (.inr e))))))
     have:=oM.out;have:=eY.out;have:=HW1.out
     omega
    refine⟨_,rfl,aH.out _ mY.out fD.out.cells.1,hK _ _ ?_⟩;clear hK K h1 h2 h3
    iterate 3 (refine cF rfl (fun K hK=>?_);refine⟨by rfl,?_⟩;unfold aQ;go_simp;refine hK _ ?_;clear hK K)
    have c0:=ag au.out 0 rfl;have f0:=aC au.out 0;have c1:=ag au.out 1 rfl;have f1:=aC au.out 1;have c2:=ag au.out 2 rfl;have f2:=aC au.out 2;have c3:=ag au.out 3 rfl;have f3:=aC au.out 3;have c4:=ag au.out 4 rfl;have f4:=aC au.out 4;have HX:=Y (pE au.out x.id x.ai x.sd x.pr x.q);have cP:=Y (xC aD ck (Z x.id) (Z x.ai) (Z x.sd) (Z x.pr) (Z x.q));have ru:=Y (fD.out.I7 au.out uL.out cP.out (lTq R.out.nY (lTq R.out.hib (lTq HB1.out.size eY.out))));have y9:=Y (mJ.out.trans (cz.high (b0:=b0) ⟨cP.out.os,cP.out.tape,cP.out.output,cP.out.size,fun k hk hn=>cP.out.block k hk (fun e=>hn (by rw[e];exact lTq R.out.hib (lTq HB1.out.size eY.out)))⟩ B X2));have oV:=Y ((cP.out.block W.heap.size (lBq mY.out) (by have:=eY.out;have:=HW1.out;omega)).trans mY.out);refine cq rfl (fun K hK=>?_);refine⟨by rfl,?_⟩;unfold aB;go_simp;refine⟨aH.out _ oV.out ru.out.cells.1,hK _ _ ?_⟩;clear hK K c0 c1 c2 c3 c4 f0 f1 f2 f3 f4;generalize ((((aD.setCell (O ck 0) (Z x.id)).setCell (O ck 1) (Z x.ai)).setCell (O ck 2) (Z x.sd)).setCell (O ck 3) (Z x.pr)).setCell (O ck 4) (Z x.q)=wx at *;refine cF rfl (fun K hK=>?_);refine⟨by rfl,?_⟩;unfold aQ;go_simp;refine hK _ ?_;clear hK K;refine jR ?_;exact⟨ck,rfl,X2,ru.out,y9.out,HX.out,eY.out,oV.out⟩
  intro D aA ⟨X2,h1,h2,h3,h4,h5⟩;clear hx0 hw4 s0 s1 s2 s3 r7 Ae Af ym qL aH;clear x0 hnx;clear val;clear bl;have bT:=Y h1;have gH:=Y ((cz.below HB1.out b0 B X).trans h2);have HD6:=Y h3;have jm:=Y h5;have IE:=Y h4;clear h1 h2 h3 h4 h5;have lW:=ag jm.out 0 rfl;have k1:=ag jm.out 1 rfl;have k2:=ag jm.out 2 rfl;have k3:=ag jm.out 3 rfl;have k4:=ag jm.out 4 rfl;have vL:=ag jm.out 5 rfl;have k6:=ag jm.out 6 rfl;have k7:=ag jm.out 7 rfl;have HF:=Y (aax a (d+1) (by omega) aA hs bT.out (by rw[sG.out];exact hn));unfold bM aX at HF
  go_wp2_with fail
  refine HF.out.mono ?_;rintro e dH ⟨rfl,wY,h3,h4,_⟩;have H3:=Y h3;have d8:=Y (gH.out.trans h4);clear h3 h4;simp only[];go_wp2;refine bodyPost_ret (v:=.tuple #[]) (by simp[results,results189]) rfl ?_;refine⟨rfl,X2,vp,wY,?_,d8.out⟩;have mX:=H3.out;rw[sG.out]at mX;rw[HRR.out];exact mX
 | zero =>
  rw[show dz (sK ad) 0=.nilIface from rfl]at HP;rw[if_pos rfl,if_pos rfl]at HRR;unfold bM aX cm at *;go_enter func189,ntmps189;go_wp2;generalize W.alloc (.cells #[.int .u8 a.k,Z a.c,Z a.sq,Z a.it,Z a.sd,Z a.pr,Z a.q,Z a.id] 95)=W1 at *;obtain⟨bl,val,hcl,ay⟩:=EE (fun W'=>W'.heap[W.heap.size]?=some (.cells #[.int .u8 a.k,Z a.c,Z a.sq,Z a.it,Z a.sd,Z a.pr,Z a.q,Z a.id] 95 (0,0))/\W'.cell? (O q 0)=some (Rw B.F));have aH:Hid (∀W',W'.heap[W.heap.size]?=some (.cells #[.int .u8 a.k,Z a.c,Z a.sq,Z a.it,Z a.sd,Z a.pr,Z a.q,Z a.id] 95 (0,0))->W'.cell? (O q 0)=some (Rw B.F)->∃x,val x=W'):=fun W' h1 h2=>ay W' ⟨h1,h2⟩;obtain⟨x0,hx0⟩:=aH.out W1.drew HA1.out dy.out.cells.1;have hnx:Nonempty bl:=⟨x0⟩;have s0:∀x0,(val x0).cell? (O W.heap.size 0)=some (.int .u8 a.k):=fun x0=>by rw[cR _ _ _ _ _ _ (hcl x0).1];rfl
  have s1:∀x0,(val x0).cell? (O W.heap.size 1)=some (Z a.c):=fun x0=>by rw[cR _ _ _ _ _ _ (hcl x0).1];rfl
  have s2:∀x0,(val x0).cell? (O W.heap.size 2)=some (Z a.sq):=fun x0=>by rw[cR _ _ _ _ _ _ (hcl x0).1];rfl
  have s3:∀x0,(val x0).cell? (O W.heap.size 3)=some (Z a.it):=fun x0=>by rw[cR _ _ _ _ _ _ (hcl x0).1];rfl
  have r7:∀x0,(val x0).cell? (O W.heap.size 4)=some (Z a.sd):=fun x0=>by rw[cR _ _ _ _ _ _ (hcl x0).1];rfl
  have Ae:∀x0,(val x0).cell? (O W.heap.size 5)=some (Z a.pr):=fun x0=>by rw[cR _ _ _ _ _ _ (hcl x0).1];rfl
  have Af:∀x0,(val x0).cell? (O W.heap.size 6)=some (Z a.q):=fun x0=>by rw[cR _ _ _ _ _ _ (hcl x0).1];rfl
  have ym:∀x0,(val x0).cell? (O W.heap.size 7)=some (Z a.id):=fun x0=>by rw[cR _ _ _ _ _ _ (hcl x0).1];rfl
  have qL:∀x0,(val x0).cell? (O q 0)=some (Rw B.F):=fun x0=>(hcl x0).2;obtain⟨w4,hw4⟩:=aG W1.drew;have bH:Hid (U W1 w4):=by rw[<- hw4];exact cw
  clear ay hcl;refine vB (val:=val) (fun D aA=>∃X2,cg w b0 aA B X2 wd h seed S q vp vr rL/\cz W1 aA b0 B X X2/\aA.heap[D]?=some (.cells #[Z x.id,Z x.ai,Z x.sd,Z x.pr,Z x.q] 197 (0,0))/\W1.heap.size<=D/\aA.heap[W.heap.size]?=some (.cells #[.int .u8 a.k,Z a.c,Z a.sq,Z a.it,Z a.sd,Z a.pr,Z a.q,Z a.id] 95 (0,0))) (.read 0 (.read 1 (.read 2 (.read 3 (.read 4 (.two 5 (.read 6 (.read 7 (.read 8 (.one 9 (.one 10 (.read 11 .done)))))) 9 (.one 5 (.read 6 (.read 7 (.read 8 (.one 10 (.read 11 .done)))))))))))) (by kernel_rfl) (by kernel_rfl) x0 hx0 ?_;apply Exists.intro;refine⟨?_,?_⟩
  case' refine_1 =>
   rw[hx0,hw4]
   iterate 5 (refine cF rfl (fun K hK=>?_);refine⟨by rfl,?_⟩;unfold aQ;go_simp;refine hK _ ?_;clear hK K)
   refine⟨?_,?_⟩
   case refine_1 =>
    refine cq rfl (fun K hK=>?_);refine⟨by rfl,?_⟩;unfold aB;go_simp;refine(HP.out _ bH.out).mono ?_;rintro e wc ⟨rfl,X2,h1,h2,h3⟩;have y8:=Y h1;have P_:=Y ((cz.below bH.out b0 B X).trans h2);have EF:=Y ((h3.block W.heap.size (Nat.lt_of_lt_of_le HW1.out bH.out.size) (fun e=>by have:=ho _ e;omega)).trans (bF bH.out HA1.out));have Qa:Hid (W1.heap.size<=wc.heap.size):=lTq bH.out.size h2.turned.size;refine⟨_,rfl,aH.out _ EF.out y8.out.cells.1,hK _ _ ?_⟩;clear hK K h1 h2 h3
    iterate 3 (refine cF rfl (fun K hK=>?_);refine⟨by rfl,?_⟩;unfold aQ;go_simp;refine hK _ ?_;clear hK K)
    refine cq rfl (fun K hK=>?_);refine⟨by rfl,?_⟩;unfold aB;go_simp;have hba:U wc (wc.alloc (.cells #[Z 0,Z 0,Z 0,Z 0,Z 0] 197)):=aj;have au:=Y (hNq wc (.cells #[Z 0,Z 0,Z 0,Z 0,Z 0] 197));have fD:=Y (y8.out.later hba);have mJ:=Y (P_.out.trans (cz.below hba b0 B X2));have mY:=Y (bF hba EF.out);have uL:Hid (¬ dV B X2 wc.heap.size):=fun e=>by have:=(y8.out.aV.ig e).2;omega
    have eY:=Y Qa.out;refine⟨aH.out _ mY.out fD.out.cells.1,hK _ _ ?_⟩;clear hK K hba;generalize wc.alloc (.cells #[Z 0,Z 0,Z 0,Z 0,Z 0] 197)=aD at *;generalize wc.heap.size=ck at *;have c0:=ag au.out 0 rfl;have f0:=aC au.out 0;have c1:=ag au.out 1 rfl;have f1:=aC au.out 1;have c2:=ag au.out 2 rfl;have f2:=aC au.out 2;have c3:=ag au.out 3 rfl;have f3:=aC au.out 3;have c4:=ag au.out 4 rfl;have f4:=aC au.out 4;have HX:=Y (pE au.out x.id x.ai x.sd x.pr x.q);have cP:=Y (xC aD ck (Z x.id) (Z x.ai) (Z x.sd) (Z x.pr) (Z x.q));have ru:=Y (fD.out.I7 au.out uL.out cP.out (lTq R.out.nY (lTq R.out.hib (lTq HB1.out.size eY.out))));have y9:=Y (mJ.out.trans (cz.high (b0:=b0) ⟨cP.out.os,cP.out.tape,cP.out.output,cP.out.size,fun k hk hn=>cP.out.block k hk (fun e=>hn (by rw[e];exact lTq R.out.hib (lTq HB1.out.size eY.out)))⟩ B X2));have oV:=Y ((cP.out.block W.heap.size (lBq mY.out) (by have:=eY.out;have:=HW1.out;omega)).trans mY.out);refine cq rfl (fun K hK=>?_);refine⟨by rfl,?_⟩;unfold aB;go_simp;refine⟨aH.out _ oV.out ru.out.cells.1,hK _ _ ?_⟩;clear hK K c0 c1 c2 c3 c4 f0 f1 f2 f3 f4;generalize ((((aD.setCell (O ck 0) (Z x.id)).setCell (O ck 1) (Z x.ai)).setCell (O ck 2) (Z x.sd)).setCell (O ck 3) (Z x.pr)).setCell (O ck 4) (Z x.q)=wx at *;refine cF rfl (fun K hK=>?_);refine⟨by rfl,?_⟩;unfold aQ;go_simp;refine hK _ ?_;clear hK K;refine jR ?_;exact⟨ck,rfl,X2,ru.out,y9.out,HX.out,eY.out,oV.out⟩
   case refine_2 =>
    refine cq rfl (fun K hK=>?_);refine⟨by rfl,?_⟩;unfold aB;go_simp;have hba:U w4 (w4.alloc (.cells #[Z 0,Z 0,Z 0,Z 0,Z 0] 197)):=aj;have ez:Hid (U W1 (w4.alloc (.cells #[Z 0,Z 0,Z 0,Z 0,Z 0] 197))):=bH.out.alloc bH.out.size _;have pF:=Y (hNq w4 (.cells #[Z 0,Z 0,Z 0,Z 0,Z 0] 197));have eY:Hid (W1.heap.size<=w4.heap.size):=bH.out.size;have oM:Hid (w4.heap.size<(w4.alloc (.cells #[Z 0,Z 0,Z 0,Z 0,Z 0] 197)).heap.size):=by show _<_;simp
    have EG:=dy.out.later ez.out;refine⟨aH.out _ (bF ez.out HA1.out) EG.cells.1,hK _ _ ?_⟩;clear hK K hba EG;generalize w4.alloc (.cells #[Z 0,Z 0,Z 0,Z 0,Z 0] 197)=jl at *;generalize w4.heap.size=ck at *;refine cq rfl (fun K hK=>?_);refine⟨by rfl,?_⟩;unfold aB;go_simp;refine(HP.out _ ez.out).mono ?_;rintro e aD ⟨rfl,X2,h1,h2,h3⟩;have au:=Y ((h3.block ck oM.out (fun e=>by have:=ho _ e;have:=eY.out;have:=HW1.out;omega)).trans pF.out);have fD:=Y h1;have mJ:=Y ((cz.below ez.out b0 B X).trans h2);have mY:=Y ((h3.block W.heap.size (Nat.lt_of_lt_of_le HW1.out ez.out.size) (fun e=>by have:=ho _ e;omega)).trans (bF ez.out HA1.out));have uL:Hid (¬ dV B X2 ck):=fun e=>by
     have hq:=h2.qv;have hd:=h2.bZ;have hlt:∀k,dV B X k->k<W.heap.size:=fun k hk=>(R.out.aV.ig hk).2;have mX:ck<W.heap.size\/jl.heap.size<=ck:=by
      rcases e with e | e | e | e | e | e
      .exact .inl (by rw[e];exact hlt _ (.inl rfl))
      .exact .inl (by rw[e];exact hlt _ (.inr (.inl rfl)))
      .rcases h2.new ck (.inr e) with h8 | h8
       .exact .inl (ho _ h8)
       .exact .inr h8
      .rw[hq]at e;exact .inl (hlt _ (.inr (.inr (.inr (.inl e)))))
      .exact .inl (by rw[e];exact hlt _ (.inr (.inr (.inr (.inr (.inl rfl))))))
      .rw[hd]at e;exact .inl (hlt _ (.inr (.inr (.inr (.inr (.inr e))))))
     have:=oM.out;have:=eY.out;have:=HW1.out
     omega
    refine⟨_,rfl,aH.out _ mY.out fD.out.cells.1,hK _ _ ?_⟩;clear hK K h1 h2 h3
    iterate 3 (refine cF rfl (fun K hK=>?_);refine⟨by rfl,?_⟩;unfold aQ;go_simp;refine hK _ ?_;clear hK K)
    have c0:=ag au.out 0 rfl;have f0:=aC au.out 0;have c1:=ag au.out 1 rfl;have f1:=aC au.out 1;have c2:=ag au.out 2 rfl;have f2:=aC au.out 2;have c3:=ag au.out 3 rfl;have f3:=aC au.out 3;have c4:=ag au.out 4 rfl;have f4:=aC au.out 4;have HX:=Y (pE au.out x.id x.ai x.sd x.pr x.q);have cP:=Y (xC aD ck (Z x.id) (Z x.ai) (Z x.sd) (Z x.pr) (Z x.q));have ru:=Y (fD.out.I7 au.out uL.out cP.out (lTq R.out.nY (lTq R.out.hib (lTq HB1.out.size eY.out))));have y9:=Y (mJ.out.trans (cz.high (b0:=b0) ⟨cP.out.os,cP.out.tape,cP.out.output,cP.out.size,fun k hk hn=>cP.out.block k hk (fun e=>hn (by rw[e];exact lTq R.out.hib (lTq HB1.out.size eY.out)))⟩ B X2));have oV:=Y ((cP.out.block W.heap.size (lBq mY.out) (by have:=eY.out;have:=HW1.out;omega)).trans mY.out);refine cq rfl (fun K hK=>?_);refine⟨by rfl,?_⟩;unfold aB;go_simp;refine⟨aH.out _ oV.out ru.out.cells.1,hK _ _ ?_⟩;clear hK K c0 c1 c2 c3 c4 f0 f1 f2 f3 f4;generalize ((((aD.setCell (O ck 0) (Z x.id)).setCell (O ck 1) (Z x.ai)).setCell (O ck 2) (Z x.sd)).setCell (O ck 3) (Z x.pr)).setCell (O ck 4) (Z x.q)=wx at *;refine cF rfl (fun K hK=>?_);refine⟨by rfl,?_⟩;unfold aQ;go_simp;refine hK _ ?_;clear hK K;refine jR ?_;exact⟨ck,rfl,X2,ru.out,y9.out,HX.out,eY.out,oV.out⟩
  intro D aA ⟨X2,h1,h2,h3,h4,h5⟩;clear hx0 hw4 s0 s1 s2 s3 r7 Ae Af ym qL aH;clear x0 hnx;clear val;clear bl;have bT:=Y h1;have gH:=Y ((cz.below HB1.out b0 B X).trans h2);have HD6:=Y h3;have jm:=Y h5;have IE:=Y h4;clear h1 h2 h3 h4 h5;have lW:=ag HD6.out 0 rfl;have k1:=ag HD6.out 1 rfl;have k2:=ag HD6.out 2 rfl;have k3:=ag HD6.out 3 rfl;have k4:=ag HD6.out 4 rfl;have HF:=Y (I8 Ve.rq x aA bT.out (by rw[sG.out];exact hn));unfold cm Ve.rq at HF
  go_wp2_with fail
  refine HF.out.mono ?_;rintro e dH ⟨rfl,wY,h3,h4,h5⟩;have wZ:=Y (bT.out.block h5 jm.out (by decide) (by decide));have H3:=Y h3;have d8:=Y (gH.out.trans h4);clear h3 h4 h5;have q1:=H3.out.cells.2.1;have aay:vp.ownBlock≠some W.heap.size:=fun e=>by have:=(R.out.pl.lt _ e).2;omega
  have FI:=Y (aoB b0 W.heap.size vp a r.pl dH hp (by have:=H3.out.pl;rw[sG.out]at this;exact this) wZ.out aay);obtain⟨uw,cv,hvp⟩:=fA R.out.pl;have EH:=Y hvp;rw[hvp]at FI q1;clear hvp aay;simp only[]
  go_wp2_with fail
  refine FI.out.mono ?_;rintro e fJ ⟨v8,rfl,Qb,y_⟩;obtain⟨a8,c8,aoC⟩:=fA Qb;subst aoC;rw[<- EH.out]at y_;have HT:=Y (H3.out.listed (bRq _ _) y_ Qb);have hblk:fJ.heap[q]?=some (.cells #[Rw B.F,vp,wY] 240 (0,0)):=by
   rw[y_.block q (lBq H3.out.blk) (fun e=>?_)]
   .exact H3.out.blk
   .obtain⟨_,cur,h2⟩:=cB H3.out.pl e.symm
    exact aN h2 H3.out.blk (by decide) rfl
  have g1:=ag hblk 1 rfl;have g2:=aC hblk 1;clear Qb y_ hblk q1;go_wp2;go_end0;refine⟨rfl,X2,.slice a8 (Ve.others a r.pl).length c8,wY,?_,d8.out.trans HT.out.2⟩;have mX:=HT.out.1;rw[sG.out]at mX;rw[HRR.out];exact mX
theorem aoD(a:Ask)(W:World)(R:Hid (cg w b0 W B X wd h seed S q vp vr r))(hs:Hid (bJ w ad))(hn:r.rp.length<=100000)(hp:r.pl.length<=100000):
  Calls prog 141 #[Rw q,bM a] W fun e w'=>e=.returned (.tuple #[])/\EC w b0 W w' B X wd h seed S q (Ve.k5 r a):=by
 have HB1:Hid (U W (W.alloc (.cells (aX a) 95))):=aj;by_cases hk:a.k=111
 .have hk':(a.k==111)=true:=by simpa using hk
  have HP:=Y (aoE a _ (R.out.later HB1.out) hs hn hp);rw[show Ve.k5 r a=Ve.uD r a by unfold Ve.k5;rw[if_pos hk]];clear hk;unfold bM aX at *;go_enter func141,ntmps141
  go_wp2_with fail
  refine HP.out.mono ?_;rintro e w2 ⟨rfl,X2,A8,A9,h1,h2⟩;have H1:=Y h1;have H2:=Y ((cz.below HB1.out b0 B X).trans h2);clear h1 h2;simp only[];go_wp2
  first | go_end0 | refine bodyPost_ret (v:=.tuple #[]) (by simp[results,results141]) rfl ?_
  exact⟨rfl,X2,A8,A9,H1.out,H2.out⟩
 .have hk':(a.k==111)=false:=by simpa using hk
  have HP:=Y (aoA a _ (R.out.later HB1.out) hs hn hp);rw[show Ve.k5 r a=Ve.wQ r a by unfold Ve.k5;rw[if_neg hk]];clear hk;unfold bM aX at *;go_enter func141,ntmps141
  go_wp2_with fail
  refine HP.out.mono ?_;rintro e w2 ⟨rfl,X2,A8,A9,h1,h2⟩;have H1:=Y h1;have H2:=Y ((cz.below HB1.out b0 B X).trans h2);clear h1 h2;simp only[];go_wp2
  first | go_end0 | refine bodyPost_ret (v:=.tuple #[]) (by simp[results,results141]) rfl ?_
  exact⟨rfl,X2,A8,A9,H1.out,H2.out⟩
end
end
section
open Go.RowKit Go.Maps
def j6(w:World)(b n:Nat)(f:Int->Int):Prop:=∃D:DataW Value,w.ownsMap prog 3 yz b n D/\∀p,D.atKey (.int .i64 p) (.held (.int .i64 0))=.held (.int .i64 (f p))
theorem apy(w:World):(zeroValue 3).run prog w=.ok (.int .i64 0) w:=by kernel_rfl
section
variable {w w':World} {b n:Nat} {f:Int->Int}
theorem j6.block(h:j6 w b n f):∃es clock,w.heap[b]?=some (.map es clock):=by obtain⟨D,⟨es,clock,hb,_⟩,_⟩:=h;exact⟨es,clock,hb⟩
theorem j6.turned{T:Nat->Prop}(h:j6 w b n f)(ht:aL w w' T)(hb:¬ T b):j6 w' b n f:=by obtain⟨D,⟨es,clock,h3,rest⟩,h2⟩:=h;exact⟨D,⟨es,clock,by rw[ht.block b (lBq h3) hb];exact h3,rest⟩,h2⟩
theorem j6.later(h:j6 w b n f)(hb:U w w'):j6 w' b n f:=by obtain⟨D,h1,h2⟩:=h;exact⟨D,h1.kept (row:=none) ⟨hb.os,hb.tape,hb.output,hb.size,fun i hi _=>hb.block i hi⟩ (by simp),h2⟩
theorem j6.look(h:j6 w b n f){p:Int}(h1:-9223372036854775808<=p)(h2:p<=9223372036854775807):
  (Instr.lookup 292 (.map (some b)) (.int .i64 p) false).run prog w=.ok (.int .i64 (f p)) w:=by
 obtain⟨D,h3,h4⟩:=h;obtain⟨v,ps,hrun,hv⟩:=h3.lookup DC underlying292 (apy w) (zd:=.held (.int .i64 0)) (zp:=[]) rfl (HV h1 h2);rw[h4]at hv;have:v=.int .i64 (f p):=(by simpa [yz] using hv:_/\ps=[]).1;rw[hrun,this]
theorem j6.store(h:j6 w b n f){p x:Int}(h1:-9223372036854775808<=p)(h2:p<=9223372036854775807)(hn:n<maxLen):
  ∃w4,(Instr.mapUpdate 292 (.map (some b)) (.int .i64 p) (.int .i64 x)).run prog w=.ok () w4/\j6 w4 b (n+1) (fun q=>if q=p then x else f q)/\w.grownBy w4 (some b):=by
 obtain⟨D,h3,h4⟩:=h;obtain⟨w4,hrun,OG,hg4⟩:=h3.update DC underlying292 hn (HV h1 h2) (val:=.int .i64 x) (d:=.held (.int .i64 x)) (ps:=[]) rfl;have hD:IsMap D:=by obtain⟨es,clock,_,_,_,e⟩:=h3;exact⟨_,e⟩
 refine⟨w4,hrun,⟨_,OG,fun q=>?_⟩,hg4⟩;by_cases hq:q=p
 .subst hq
  rw[atKey_put_same hD (by trivial)];simp
 .rw[atKey_put_other (fun e=>hq (by simpa using e)),h4];simp[hq]
end
theorem apz(base:Nat)(v:Value)(l:List Cv.af)(w:World)(hrow:Hid (w.ownsRow base 197 5 v l.length (flat l)))(hl:l.length<=60)(hok:Hid (∀x∈l,Cv.ok x=true)):
  Calls prog 190 #[v] w fun e w'=>e=.returned (.map (some w.heap.size))/\j6 w' w.heap.size l.length (Ve.p7 l l.length)/\U w w':=by
 obtain⟨m,hm⟩:=aG l.length;rw[hm]at hrow hl ⊢;have HM:=Y hm;obtain⟨a0,c0,hv⟩:=fA hrow;subst hv;clear hm;have cG:Hid (U w (w.alloc (.map #[] 0))):=aj;have apA:Hid (j6 (w.alloc (.map #[] 0)) w.heap.size 0 (fun _=>0)):=⟨_,World.ownsMap_made w _ _ _,fun p=>rfl⟩;have ay:(Instr.makeMap 292 none).run prog w=.ok (.map (some w.heap.size)) (w.alloc (.map #[] 0)):=by kernel_rfl
 go_enter func190,ntmps190
 go_wp2_with fail
 go_loopw [9] (fun kv wr=>∃k:Nat,k<=m/\kv=.int .i64 k/\j6 wr w.heap.size k (Ve.p7 l k)/\U w wr) (fun kv _=>m-(intOf kv).toNat)
 case atStart=>exact⟨0,by omega,rfl,apA,cG⟩
 case round =>
  obtain⟨k,hk,rfl,ho,hb⟩:=hrel;have HO:=Y ho;have HB:=Y hb;clear ho hb;by_cases hlt:k<m
  .have aT:(k:Int)<m:=by omega
   have hkl:k<l.length:=by rw[HM.out];exact hlt
   have hrw:=dh hrow HB;obtain⟨g,hg⟩:∃g,a0=some (O g 0):=by
    rcases hrw.2 with ⟨e1,_⟩ | ⟨g,cap,cur,e1,_⟩
    .cases e1;omega
    .simp only[Value.slice.injEq]at e1;exact⟨g,e1.1⟩
   subst hg;obtain⟨x0,x1,x2,x3,x4⟩:=zN hrw k hkl;simp only[Nat.zero_add]at x0 x1 x2 x3 x4;have su:g<wr.heap.size:=bCq _ _ x0;have hx:=hok.out _ (Cv.oo hkl);simp only[Cv.ok,ah.aK,Bool.and_eq_true,decide_eq_true_eq]at hx;have HB1:Hid (U wr (wr.alloc (.cells #[.int .i64 (Cv.nth l k).id,.int .i64 (Cv.nth l k).ai,.int .i64 (Cv.nth l k).sd,.int .i64 (Cv.nth l k).pr,.int .i64 (Cv.nth l k).q] 197))):=aj;obtain⟨w4,hrun,yA,hg4⟩:=(HO.later HB1).store (p:=(Cv.nth l k).id) (x:=(Cv.nth l k).ai) (by omega) (by omega) (by unfold maxLen;omega);have apB:Hid (j6 w4 w.heap.size (k+1) (Ve.p7 l (k+1))):=yA;have bS:Hid (U w w4):=(ar HB HB1).grown hg4 (lTq HB.size HB1.size) (fun j hj=>by have:=Option.some.inj hj;omega);generalize Cv.nth l k=x at *;clear yA hg4 hrw hx;go_wp2;exact⟨⟨k+1,by omega,by go_num,apB,bS⟩,by simp[intOf];omega⟩
  .have aT:¬ (k:Int)<m:=by omega
   obtain rfl:k=m:=by omega
   go_wp2;go_ret;exact⟨rfl,HO,HB⟩
end
section
open Go.RowKit
namespace Ve
theorem yL{l:List Cv.af}(hl:Cv.eu l)(ref:Int):Cv.fj l ref 1000 (EI l ref).1 (EI l ref).2:=by obtain⟨p,v,h⟩:=Vf hl ref 1000;have hex:∃pv:Int×Int,Cv.fj l ref 1000 pv.1 pv.2:=⟨(p,v),h⟩;unfold EI;rw[dif_pos hex];exact Classical.choose_spec hex
theorem Ep{wd h:Int}{r:cQ}(H:dc r.L r.pf r.n wd h){i:Nat}(hi:i<3)(s:Int):(fO wd r i s).length<=240/\∀f∈fO wd r i s,1<=f.2/\∃x∈r.L i,x.id=f.1:=by
 have hw:Cv.fj (r.L i) (r.n (i*2)) 1000 (gW r i) (mr r i):=yL (H.ok.aO i hi).oks _;unfold fO Fl.mL;split
 .rename_i hc
  have hf:=Fs.Cx (xL (H.ok.aO i hi)) hw hc.2;refine⟨?_,Fs.VW hf s⟩
  have:=Ra.Vg s hf
  unfold Ra.fills;rw[lAq];omega
 .exact⟨by simp,fun f hf=>by cases hf⟩
end Ve
section
variable {w W W':World} {ad:Nat->Addr} {b0 q:Nat} {B:bO} {X X' X2:bQ} {wd h seed:Int} {S:Ve.St} {vp vr:Value} {r:Ve.cQ}
theorem cg.map{b n:Nat}{f:Int->Int}(R:cg w b0 W B X wd h seed S q vp vr r)(ht:aL W W' (fun k=>k=q\/vr.ownBlock=some k))(ho:j6 W b n f):j6 W' b n f:=by
 obtain⟨es,clock,hb⟩:=ho.block;refine ho.turned ht (fun e=>?_);rcases e with e | e
 .rw[e,R.blk]at hb;cases hb
 .obtain⟨_,cur,h2⟩:=cB R.rp e
  rw[h2]at hb;cases hb
theorem cg.aqM{v:Value}{F:List (Int×Int)}(R:cg w b0 W B X wd h seed S q vp vr r)(ht:aL W W' (fun k=>k=q\/vr.ownBlock=some k))(hf:gI W v F):gI W' v F :=
 hf.keep fun g cur hg=>by
  rw[R.block ht hg (by decide) (by decide)];exact hg.symm
theorem aqN(L:Nat->List Cv.af)(i:Nat)(a:Ask):(Ve.jF L i a).length<=1:=by unfold Ve.jF;split <;> simp
theorem QA(L:Nat->List Cv.af)(i:Nat):∀l:List Ask,(l.flatMap (Ve.jF L i)).length<=l.length
 | []=>by simp
 | a::l=>by
  have:=QA L i l
  have:=aqN L i a
  simp only[List.flatMap_cons,List.length_append,List.length_cons];omega
theorem ap7(i:Nat)(hi:i<3)(s:Int)(abM:Ra.IsU s)(W:World)(R:Hid (cg w b0 W B X wd h seed S q vp vr r))(hs:Hid (bJ w ad))(hn:r.rp.length<=50000)(hp:r.pl.length<=1000):
  Calls prog 142 #[Rw q,Z i,.int .u32 s] W fun e w'=>e=.returned (.tuple #[])/\EC w b0 W w' B X wd h seed S q (Ve.lH wd h r i s):=by
 have kI:Cv.fj (r.L i) (r.n (i*2)) 1000 (Ve.gW r i) (Ve.mr r i):=Ve.yL (R.all.ok.aO i hi).oks _;have QY:=Y (Ve.Ep R.all hi s);have wM:Hid (∀W',U W W'->Calls prog 108 #[Rw B.F,Z i] W' fun e w'=>e=.returned (.pointer (some ⟨B.b i,0,none⟩))/\w'=W'):=fun W' hb=>Vq i hi (R.later hb).fl;have lL:Hid (∀W',U W W'->Calls prog 109 #[.pointer (some ⟨B.b i,0,none⟩)] W' fun e w'=>∃v2,e=.returned v2/\w'.ownsRow W'.heap.size 197 5 v2 (r.L i).length (flat (r.L i))/\U W' w'):=fun W' hb=>BI (B.b i) w.heap.size (X.v i) (r.L i) W' ((R.later hb).fl.aO i hi) (R.all.ok.aO i hi).len;have EW:Hid (∀W',U W W'->Calls prog 191 #[Rw B.F,Z i,.int .u32 s] W' fun e w'=>∃jo X',e=.returned (.tuple #[Cw (Ve.gW r i) (Ve.mr r i) (Fl.pQ r.n i wd (Ve.gW r i) (Ve.mr r i)) jo,.nilIface])/\cg w b0 w' B X' wd h seed S q vp vr { r with L:=Fl.mK r.L i (Ve.fO wd r i s),pf:=Fs.iw r.pf i (Ve.gW r i) (r.L i) (Ve.fO wd r i s),n:=Fl.runN r.n i wd h (Ve.gW r i) (Ve.mr r i) }/\cz W' w' b0 B X X'/\aL W' w' (fun k=>o_ B X k)/\gI w' jo (Ve.fO wd r i s)):=fun W' hb=>by
  refine(Ge i hi s _ _ abM (R.later hb).fl hs.ED (R.later hb).all kI).mono ?_;rintro e w' ⟨jo,v',rfl,h1,h2,h3,h4⟩;obtain⟨k1,k2,k3⟩:=(R.later hb).floor h1 h2 h4;exact⟨jo,_,rfl,k1,k2,k3,h3⟩
 have HRR:Hid (Ve.lH wd h r i s = { r with L:=Fl.mK r.L i (Ve.fO wd r i s),pf:=Fs.iw r.pf i (Ve.gW r i) (r.L i) (Ve.fO wd r i s),n:=Fl.runN r.n i wd h (Ve.gW r i) (Ve.mr r i),rp:=r.rp++((Ve.fO wd r i s).map (Ve.uO (r.L i) (Ve.gW r i))++r.pl.flatMap (Ve.jF (Fl.mK r.L i (Ve.fO wd r i s)) i)) }):=rfl;have vC:=Y (R.all.ok.aO i hi).len;have abN:=Y (R.all.ok.aO i hi).oks;generalize Ve.lH wd h r i s=rr at *;generalize Ve.fO wd r i s=bu at *;generalize Ve.gW r i=p at *;generalize Ve.mr r i=vol at *;generalize Fl.pQ r.n i wd p vol=op at *;generalize Fl.runN r.n i wd h p vol=nn at *;generalize Fs.iw r.pf i p (r.L i) bu=pR at *;generalize Fl.mK r.L i bu=L' at *;clear kI abM;have c0:=R.cells.1;have ho:∀k,o_ B X k->k<W.heap.size:=fun k hk=>P9 R.aV hk;go_enter func142,ntmps142
 go_wp2_with fail
 refine(wM _ (bRq _ _)).mono ?_;rintro e w1 ⟨rfl,d6⟩;subst w1;simp only[]
 go_wp2_with fail
 refine(lL _ (bRq _ _)).mono ?_;rintro e w2 ⟨v2,rfl,hrow2,hb2⟩;have HB2:=Y hb2;have HOW:=Y (apz W.heap.size v2 (r.L i) w2 hrow2 vC abN);clear hrow2 hb2;simp only[]
 go_wp2_with fail
 refine HOW.mono ?_;rintro e w3 ⟨rfl,EX,hb3⟩;have av:=Y (ar HB2 hb3);have aqO:=Y EX;have hM:W.heap.size<=w2.heap.size:=HB2.size;generalize w2.heap.size=M at *;clear EX hb3;have c3:=(R.later av).cells.1;simp only[]
 go_wp2_with fail
 refine(EW _ av).mono ?_;rintro e w4 ⟨jo,p9,rfl,h1,h2,h3,h4⟩;have cO:=Y h1;have eR:=Y ((cz.below av b0 B X).trans h2);have aqP:=Y h4;have aqQ:=Y (aqO.turned h3 (fun e=>by have:=ho _ e;omega));clear h1 h2 h3 wM;obtain⟨lB,lY,ov⟩:=h4.val;have auG:=Y ov;subst ov;obtain⟨m,hm⟩:=aG bu.length;have HM:=Y hm;have auH:m<=240:=by rw[<- hm];exact QY.1
 rw[hm];clear h4;unfold Cw;have cr:Hid (U w4 (w4.alloc (.cells #[Z p,Z vol,.bool op,.slice lB m lY] 296))):=aj;have HD5:=Y (hNq w4 (.cells #[Z p,Z vol,.bool op,.slice lB m lY] 296));simp only[]
 go_wp2_with fail
 have bE:=Y (cO.later cr);have lX:=Y (eR.trans (cz.below cr b0 B p9));have abO:=Y (aqP.later cr);have aqR:=Y (aqQ.later cr);rw[hm]at abO;generalize w4.alloc (.cells #[Z p,Z vol,.bool op,.slice lB m lY] 296)=aI at *;generalize w4.heap.size=D at *;clear hm
 go_loopw [38] (fun kv wr=>∃k uM,k<=m/\kv=Z k/\cg w b0 wr B p9 wd h seed S q vp uM { r with L:=L',pf:=pR,n:=nn,rp:=r.rp++(bu.take k).map (Ve.uO (r.L i) p) }/\cz W wr b0 B X p9/\gI wr (.slice lB m lY) bu/\j6 wr M (r.L i).length (Ve.p7 (r.L i) (r.L i).length)/\wr.heap[D]?=some (.cells #[Z p,Z vol,.bool op,.slice lB m lY] 296 (0,0))) (fun kv _=>m-(intOf kv).toNat)
 case atStart=>exact⟨0,vr,by omega,rfl,by simpa using bE.out,lX,abO,aqR,HD5⟩
 case round =>
  obtain⟨k,qA,hk,rfl,hr,hfr,EY,EX,hd⟩:=hrel;have HR:=Y hr;have HF:=Y hfr;have zU:=Y EY;have HO:=Y EX;have HD:=Y hd;clear hr hfr EX;by_cases hlt:k<m
  .have aT:(k:Int)<m:=by omega
   have hkl:k<bu.length:=by rw[HM.out];exact hlt
   obtain⟨g,hg⟩:∃g,lB=some (O g 0):=by
    rcases EY with ⟨e1,_⟩ | ⟨g,cap,cur,e1,_⟩
    .rw[e1]at hkl;cases hkl
    .simp only[Value.slice.injEq]at e1;exact⟨g,e1.1⟩
   subst hg;obtain⟨y0,y1⟩:wr.cell? ⟨g,k*2,none⟩=some (Z (fC bu k).1)/\wr.cell? ⟨g,k*2+1,none⟩=some (Z (fC bu k).2):=by
    rcases EY with ⟨e1,_⟩ | ⟨g',cap,cur,e1,h2,_⟩
    .rw[e1]at hkl;cases hkl
    .simp only[Value.slice.injEq,Option.some.injEq,Addr.mk.injEq]at e1
     obtain⟨⟨rfl,_⟩,_⟩:=e1;exact h2 k hkl
   have su:g<wr.heap.size:=bCq _ _ y0;have hDl:D<wr.heap.size:=lBq hd;have z0:=ag hd 0 rfl;have zL:fC bu k=bu[k]:=by unfold fC;rw[gE,List.getElem?_eq_getElem hkl];rfl
   have hid:1<=(fC bu k).1/\(fC bu k).1<=1073741824:=by
    obtain⟨_,x,hx,oY⟩:=QY.2 (fC bu k) (by rw[zL];exact List.getElem_mem hkl)
    have:=abN.out x hx
    simp only[Cv.ok,ah.aK,Bool.and_eq_true,decide_eq_true_eq]at this;omega
   have HN:Hid ((bu.take (k+1)).map (Ve.uO (r.L i) p)=(bu.take k).map (Ve.uO (r.L i) p)++[Ve.tell Ve.Ja ⟨(fC bu k).1,Ve.p7 (r.L i) (r.L i).length (fC bu k).1,0,p,(fC bu k).2⟩]):=by show _=_;rw[List.take_succ_eq_append_getElem hkl,List.map_append,<- zL];rfl
   generalize fC bu k=f at *;obtain⟨f1,f2⟩:=f;simp only at y0 y1 hid HN;have bk:Hid (U wr (wr.alloc (.cells #[Z f1,Z f2] 300))):=aj;have aqS:=(HO.later bk).look (p:=f1) (by omega) (by omega);generalize Ve.p7 (r.L i) (r.L i).length f1=ai at *;have HT:=Y (fun W' (hb:U wr W')=>I8 Ve.Ja ⟨f1,ai,0,p,f2⟩ W' (HR.later hb) (by simp only[List.length_append,List.length_map,List.length_take];omega));unfold Ve.Ja cm at HT;clear EY hd zL hid
   go_wp2_with fail
   refine(HT _ bk).mono ?_;rintro e dH ⟨rfl,wY,h3,h4,h5⟩;have H3:=Y h3;have d8:=Y (HF.trans ((cz.below bk b0 B _).trans h4));have H5:=Y ((HR.later bk).aqM h5 (zU.later bk));have lK:=Y ((HR.later bk).map h5 (HO.later bk));have yU:=Y ((HR.later bk).block h5 (bF bk HD) (by decide) (by decide));clear h3 h4 h5 aqS;simp only[];go_wp2;refine⟨⟨k+1,wY,hlt,by go_num,?_,d8,H5,lK,yU⟩,by simp[intOf];omega⟩;rw[HN.out,<- aAq];exact H3
  .have aT:¬ (k:Int)<m:=by omega
   obtain rfl:k=m:=by omega
   have EZ:=HR.out;rw[<- HM.out,List.take_length]at EZ;have CL:=Y EZ;obtain⟨gP,hwo⟩:∃gP,gP=wr:=⟨_,rfl⟩;subst hwo;have q1:=EZ.cells.2.1;obtain⟨ap,vO,hvp⟩:=fA EZ.pl;have EH:Hid (vp=.slice ap r.pl.length vO):=hvp;rw[EH.out]at q1;obtain⟨mp,hmp⟩:=aG r.pl.length;rw[hmp]at q1 EH hp;have QZ:=Y hmp;clear hmp hvp EZ EY hd;have Ms:(bu.map (Ve.uO (r.L i) p)).length<=240:=by rw[List.length_map];exact QY.1
   go_wp2_with fail
   go_loopw [61] (fun kv wr=>∃k uM,k<=mp/\kv=Z k/\cg w b0 wr B p9 wd h seed S q vp uM { r with L:=L',pf:=pR,n:=nn,rp:=(r.rp++bu.map (Ve.uO (r.L i) p))++(r.pl.take k).flatMap (Ve.jF L' i) }/\cz W wr b0 B X p9) (fun kv _=>mp-(intOf kv).toNat)
   case atStart=>exact⟨0,qA,by omega,rfl,by simpa using CL.out,HF⟩
   case round =>
    obtain⟨j,vj,hj,rfl,hr,hfr⟩:=hrel;have w9:=Y hr;have Q0:=Y hfr;clear hfr;by_cases pq:j<mp
    .have bC:(j:Int)<mp:=by omega
     have sH:j<r.pl.length:=by rw[QZ.out];exact pq
     have hrow:=hr.pl;rw[EH.out]at hrow;simp only[QZ.out]at hrow;obtain⟨g,hg⟩:∃g,ap=some (O g 0):=by
      rcases hrow.2 with ⟨e1,_⟩ | ⟨g,cap,cur,e1,_⟩
      .cases e1;omega
      .simp only[Value.slice.injEq]at e1;exact⟨g,e1.1⟩
     subst hg;obtain⟨d0,d1,d2,d3,d4,d5,lO,t_⟩:=A_ hrow sH pq;have su:g<wr.heap.size:=bCq _ _ d0;have HN:Hid ((r.pl.take (j+1)).flatMap (Ve.jF L' i)=(r.pl.take j).flatMap (Ve.jF L' i)++Ve.jF L' i (dD r.pl j)):=by show _=_;rw[Ve.I9 sH,List.flatMap_append];simp
     have hlen:=QA L' i (r.pl.take j);rw[lKq]at hlen;generalize dD r.pl j=a at *;have bk:Hid (U wr (wr.alloc (.cells #[.int .u8 a.k,Z a.c,Z a.sq,Z a.it,Z a.sd,Z a.pr,Z a.q,Z a.id] 95))):=aj;have jm:=Y (hNq wr (.cells #[.int .u8 a.k,Z a.c,Z a.sq,Z a.it,Z a.sd,Z a.pr,Z a.q,Z a.id] 95));have HG:=Y (Fi (B.b i) w.heap.size (p9.v i) a.id (L' i) _ ((w9.later bk).fl.aO i hi) (w9.all.ok.aO i hi).len);have jC:Hid (Ve.jF L' i a=if Cv.has (L' i) a.id=true/\a.it=i then [Ve.tell Ve.q7 (Bk.j_ (L' i) a.id)] else []):=rfl;generalize Ve.jF L' i a=rs at *;generalize Bk.j_ (L' i) a.id=x at *;generalize Cv.has (L' i) a.id=hb at *;unfold cm at HG;clear hr hrow
     go_wp2_with fail
     refine HG.mono ?_;rintro e dH ⟨rfl,lQ⟩;have ic:=Y (ar bk lQ);have wZ:=Y (bF lQ jm);have auI:wr.heap.size<dH.heap.size:=lBq wZ;clear lQ d0 d1 d2 d3 d4 d5 lO t_;have e3:=ag wZ 3 rfl;have kh:Hid (U wr (dH.alloc (.cells #[Z x.id,Z x.ai,Z x.sd,Z x.pr,Z x.q] 197))):=ic.alloc ic.size _;by_cases hc:hb=true/\a.it=i
     .obtain⟨rfl,hit⟩:=hc
      have aqT:(a.it==(i:Int))=true:=by simpa using hit
      have Q5:rs=[Ve.tell Ve.q7 x]:=by rw[jC.out,if_pos ⟨rfl,hit⟩]
      rw[Q5]at HN;have HT:=Y (I8 Ve.q7 x _ (w9.later kh) (by simp only[List.length_append];omega));unfold Ve.q7 cm at HT;clear hit;simp only[]
      go_wp2_with fail
      refine HT.mono ?_;rintro e jP ⟨rfl,aqU,h3,h4,_⟩;have H3:=Y h3;have d8:=Y (Q0.trans ((cz.below kh b0 B _).trans h4));clear h3 h4;simp only[];go_wp2;refine⟨⟨j+1,aqU,pq,by go_num,?_,d8⟩,by simp[intOf];omega⟩;rw[HN.out,<- aAq];exact H3
     .have Q5:rs=[]:=by rw[jC.out,if_neg hc]
      rw[Q5,aNq]at HN;have hcc:hb=false\/hb=true/\(a.it==(i:Int))=false:=by
       cases hb with
       | false=>exact .inl rfl
       | true=>exact .inr ⟨rfl,by simpa using fun e=>hc ⟨rfl,e⟩⟩
      clear hc;rcases hcc with rfl | ⟨rfl,aqT⟩
      all_goals
       simp only[];go_wp2;refine⟨⟨j+1,vj,pq,by go_num,?_,Q0.trans (cz.below kh b0 B _)⟩,by simp[intOf];omega⟩;rw[HN.out];exact w9.later kh
    .have bC:¬ (j:Int)<mp:=by omega
     obtain rfl:j=mp:=by omega
     have Q6:=w9.out;rw[<- QZ.out,List.take_length,aAq]at Q6;have Kh:=Y Q6;clear Q6 hr;go_wp2;go_end0;exact⟨rfl,p9,vp,vj,by rw[HRR.out];exact Kh,Q0⟩
end
end
namespace Ve
def Same(f g:Nat->Int):Prop:=Pu.eO g 6=Pu.eO f 6/\∀j,j<3->Pu.eP g j 6=Pu.eP f j 6
theorem Same.refl(f:Nat->Int):Same f f:=⟨rfl,fun _ _=>rfl⟩
theorem Same.trans{f g k:Nat->Int}(h:Same f g)(h2:Same g k):Same f k:=⟨h2.1.trans h.1,fun j hj=>(h2.2 j hj).trans (h.2 j hj)⟩
theorem abx(i:Nat):∀(xs:List Cv.af) (f:Nat->Int),Same f (Fl.zH i f xs)
 | [],f=>Same.refl f
 | x::xs,f=>by
  have h:=Pu.Kp f (i:Int) x 6;exact Same.trans ⟨h.1,h.2⟩ (abx i xs (Pu.gp f i x))
theorem aby(c:Int)(L:Nat->List Cv.af)(f:Nat->Int):∀i,Same f (Fl.pC c L f i)
 | 0=>Same.refl f
 | i+1=>(aby c L f i).trans (abx i _ _)
theorem apY(r:cQ)(c:Nat):Same r.pf (sF r c).pf:=aby c r.L r.pf 3
theorem ap1(r:cQ)(a:Ask):Same r.pf (k5 r a).pf:=by
 unfold k5 uD wQ;split
 .show Same r.pf (Fl.kL r.L r.pf a)
  unfold Fl.kL;split
  .have h:=Pu.Ti r.pf a.it (Fl.gO a) 6
   exact⟨h.1,h.2⟩
  .exact Same.refl _
 .show Same r.pf (Fl.kM r.L r.pf a)
  unfold Fl.kM;split
  .have h:=Pu.Kp r.pf a.it (Fl.gA r.L a) 6
   exact⟨h.1,h.2⟩
  .exact Same.refl _
theorem ap6{wd h:Int}{r:cQ}(H:dc r.L r.pf r.n wd h){i:Nat}(hi:i<3)(s:Int):Same r.pf (lH wd h r i s).pf:=by
 have hw:Cv.fj (r.L i) (r.n (i*2)) 1000 (gW r i) (mr r i):=yL (H.ok.aO i hi).oks _;show Same r.pf (Fs.iw r.pf i (gW r i) (r.L i) (fO wd r i s));unfold fO Fl.mL;split
 .rename_i hc
  have hf:=Fs.Cx (xL (H.ok.aO i hi)) hw hc.2;have hF:=Fs.FY hf s;have hp:1<=gW r i/\gW r i<=1000:=by
   rcases hw with ⟨_,e2,_⟩ | ⟨_,e2,e3,_⟩
   .have:=hc.2;omega
   .exact⟨e2,e3⟩
  have h1:=Fs.Tw H.ok hi hp hF;exact⟨h1.1,h1.2⟩
 .rw[Fs.MG]
  exact Same.refl _
end Ve
section
open Go.RowKit
theorem Qq(s:ByteArray):∀k,(Ve.m_ s k).length=2*k
 | 0=>rfl
 | k+1=>by rw[Ve.m_,lAq,Qq s k];rfl
theorem aa6(x:Nat)(hx:x<16)(w:World):(Instr.index 9 (.string ⟨#[48,49,50,51,52,53,54,55,56,57,97,98,99,100,101,102]⟩) (.int .u8 x)).run prog w=.ok (.int .u8 (Ve.uN x)) w:=by
 have:x=0\/x=1\/x=2\/x=3\/x=4\/x=5\/x=6\/x=7\/x=8\/x=9\/x=10\/x=11\/x=12\/x=13\/x=14\/x=15:=by omega
 rcases this with rfl | rfl | rfl | rfl | rfl | rfl | rfl | rfl | rfl | rfl | rfl | rfl | rfl | rfl | rfl | rfl <;> exact rfl
theorem apE:∀b:Fin 256,bits .and .u8 ((b.val:Nat):Int) 15=((b.val%16:Nat):Int):=by decide +kernel
theorem apF(base:Nat)(v:Value)(xs:List Int)(s:ByteArray)(w:World)(hr:Hid (Row w base v xs))(hx:xs.length<=100000)(hs:s.size<=1000)(hb:base<=w.heap.size):
  Calls prog 139 #[v,.string s] w fun e w'=>∃v',e=.returned v'/\Row w' base v' (xs++Ve.m_ s s.size)/\Below base w w':=by
 obtain⟨a0,c0,hv⟩:=fA hr;go_enter func139,ntmps139
 go_wp2_with fail
 go_loopw [0,8] (fun v kv wr=>∃k:Nat,k<=s.size/\kv=Z k/\Row wr base v (xs++Ve.m_ s k)/\Below base w wr) (fun _ kv _=>s.size-(intOf kv).toNat)
 case atStart=>exact⟨0,by omega,rfl,by simpa [Ve.m_] using hr.out,bRq _ _⟩
 case round =>
  obtain⟨k,hk,rfl,hrow,qT⟩:=hrel;have HR:=Y hrow;have HB:=Y qT;clear qT;by_cases hlt:k<s.size
  .have aT:(k:Int)<s.size:=by omega
   have apG:=lR s k;have apH:=lu s k hlt;obtain⟨bl,val,hcl,ay⟩:=gu (fun _=>True);go_wp2;obtain⟨x0,hx0⟩:=ay wr.drew trivial;have hnx:Nonempty bl:=⟨x0⟩;refine kt (val:=val) [11,12] [0,1,2,3,4,5,6,7,8,9,10,11,12,13] (by kernel_rfl) (by kernel_rfl) x0 hx0 ?_;rw[hx0];clear hx0;have d1:∀W,(Instr.index 9 (.string ⟨#[48,49,50,51,52,53,54,55,56,57,97,98,99,100,101,102]⟩) (.int .u8 ((aS s k:Int)/16))).run prog W=.ok (.int .u8 (Ve.uN (aS s k/16))) W:=fun W=>by
    rw[show ((aS s k:Int)/16)=((aS s k/16:Nat):Int) by omega];exact aa6 _ (by omega) W
   have d2:∀W,(Instr.index 9 (.string ⟨#[48,49,50,51,52,53,54,55,56,57,97,98,99,100,101,102]⟩) (.int .u8 (bits BinOp.and IntKind.u8 (aS s k:Int) 15))).run prog W=.ok (.int .u8 (Ve.uN (aS s k%16))) W:=fun W=>by
    rw[apE ⟨aS s k,apG⟩];exact aa6 _ (by omega) W
   have hl2:(xs++Ve.m_ s k).length<=1000000:=by rw[lAq,Qq];omega
   have hbw:base<=wr.heap.size:=lTq hb HB.size;have hrd:Row wr.drew base u0 (xs++Ve.m_ s k):=dh HR cw;obtain⟨v4,w4,hap,hr4,hg4⟩:=EP base wr.drew u0 (xs++Ve.m_ s k) [Ve.uN (aS s k/16),Ve.uN (aS s k%16)] hrd hl2 (by simp) hbw;have bS:Hid (Below base w w4):=below_grown ((HB.trans (cw.mono hbw)).alloc hbw _) (World.ownsRow.alloc hrd _) (lTq hbw (by simp)) hg4;have cO:Hid (Row w4 base v4 (xs++Ve.m_ s (k+1))):=by show Row w4 base v4 (xs++(Ve.m_ s k++_));rw[<- aAq];exact hr4
   simp only[List.map_cons,List.map_nil,List.length_cons,List.length_nil]at hap;have cW:=Y hap;have aH:=Y ay;clear hap hr4 hg4 hrd hrow ay hcl
   iterate 11 (refine d7 rfl rfl (fun K hK=>?_);refine⟨by rfl,?_⟩;unfold aQ;go_simp;refine hK _ ?_;clear hK K)
   refine cY rfl rfl (fun K hK=>?_);refine⟨by rfl,?_⟩;unfold aB;go_simp;refine⟨aH _ trivial,hK _ _ ?_⟩;clear hK K;refine cY rfl rfl (fun K hK=>?_);refine⟨by rfl,?_⟩;refine yi _ _ 115 rfl _ _ _ rfl rfl cW ?_;refine⟨aH _ trivial,hK _ _ ?_⟩;clear hK K;refine d7 rfl rfl (fun K hK=>?_);refine⟨by rfl,?_⟩;unfold aQ;go_simp;refine hK _ ?_;clear hK K;refine jX ?_;go_wp2;exact⟨⟨k+1,hlt,by go_num,cO,bS⟩,by simp[intOf];omega⟩
  .have aT:¬ (k:Int)<s.size:=by omega
   obtain rfl:k=s.size:=by omega
   go_wp2;go_ret;exact⟨_,rfl,HR,HB⟩
end
namespace Fs
open Cv Bk Ra Pu Fu
theorem lS.fine{i:Nat}(hi:i<3){price:Int}(hp:1<=price/\price<=1000){G:Nat->Int}:∀(m:Nat) (f:Nat->Int) (bs ss:List af),bs.length+ss.length<=m->lS i price G f bs ss->Pu.Good G
 | m,f,[],ss,_,h=>by
  have e:f=G:=funext (h.done (.inl rfl));rw[<- e];exact h.good
 | m,f,x::bs,[],_,h=>by
  have e:f=G:=funext (h.done (.inr rfl));rw[<- e];exact h.good
 | 0,f,x::bs,y::ss,hm,h=>by simp at hm
 | m+1,f,x::bs,y::ss,hm,h=>by
  obtain⟨_,h2⟩:=h.step hi hp rfl;have hl:(gP (x::bs) (min x.q y.q)).length+(gP (y::ss) (min x.q y.q)).length<=m:=by rw[s8,s8];simp only[List.length_cons]at hm;split <;> split <;> (try simp only[List.length_cons]) <;> omega
  exact lS.fine hi hp m _ _ _ hl h2
theorem asn{L:Nat->List af}{f:Nat->Int}(h:dI L f){i:Nat}(hi:i<3){price:Int}(hp:1<=price/\price<=1000){F:List (Int×Int)}(hF:vx (L i) price F):dI (upd L i (iB F (L i))) (iw f i price (L i) F):=by have h1:=Tw h hi hp hF;exact h.settled hi hF (lS.fine hi hp _ _ _ _ (E _) (h.start hi hF)) h1.1 h1.2
end Fs
namespace Fl
open Cv Bk Ra Pu Fu Fs
theorem acZ{L:Nat->List af}{f:Nat->Int}{i:Nat}(hi:i<3){l:List af}{c:Int}(ho:eL l)(H:dI (upd L i l) f):∀k,k<=l.length->dI (upd L i (gq c l k)) (zH i f (kN c l k))
 | 0,_=>by rw[Tp];exact H
 | k+1,hk=>by
  have ih:=acZ (c:=c) hi ho H k (by omega);by_cases hc:(nth l k).ai=c
  .have h1:=drop_one hi ih ho (by omega) hc
   obtain⟨_,h2,_⟩:=Kq ho (show k<l.length by omega) hc;rw[h2];unfold zH at *;rw[List.foldl_append];exact h1
  .obtain⟨h1,h2⟩:=keep_other (show k<l.length by omega) hc
   rw[h1,h2];exact ih
theorem ac0{L:Nat->List af}{f:Nat->Int}(c:Int)(H:dI L f):∀i,i<=3->dI (kO c L i) (pC c L f i)
 | 0,_=>H
 | i+1,hi=>by
  have ih:=ac0 c H i (by omega);have e:kO c L i i=L i:=Kr c L i i (E _);have h1:=acZ (L:=kO c L i) (f:=pC c L f i) (i:=i) (by omega) (l:=L i) (c:=c) (H.aO i (by omega)).once (by rw[<- e,pB];exact ih) (L i).length (E _);rw[Tq c (E _),Tt c (E _)]at h1;exact h1
end Fl
namespace Ve
variable {r:cQ} {wd h:Int}
def All(wd h:Int)(r:cQ):Prop:=dc r.L r.pf r.n wd h
theorem All.drop(H:All wd h r)(c:Nat):All wd h (sF r c):=⟨Fl.ac0 c H.ok 3 (E _),H.nG,H.rule⟩
theorem All.Eo(H:All wd h r)(ds:List Nat):∀k,All wd h (jG r ds k)
 | 0=>H
 | k+1=>(All.Eo H ds k).drop _
theorem All.ask(H:All wd h r)(a:Ask):All wd h (k5 r a):=by
 unfold k5;split
 .exact⟨H.ok.place a,H.nG,H.rule⟩
 .exact⟨H.ok.cancel a,H.nG,H.rule⟩
theorem All.asks(H:All wd h r)(l:List Ask):∀k,All wd h (j3 r l k)
 | 0=>H
 | k+1=>(All.asks H l k).ask _
theorem All.Iz(H:All wd h r){i:Nat}(hi:i<3)(s:Int):All wd h (lH wd h r i s):=by
 have hw:Cv.fj (r.L i) (r.n (i*2)) 1000 (gW r i) (mr r i):=yL (H.ok.aO i hi).oks _;refine dc.run H hi hw ?_;show Fs.dI (upd r.L i (Fs.iB (fO wd r i s) (r.L i))) (Fs.iw r.pf i (gW r i) (r.L i) (fO wd r i s));unfold fO Fl.mL;split
 .rename_i hc
  have hf:=Fs.Cx (xL (H.ok.aO i hi)) hw hc.2;have hp:1<=gW r i/\gW r i<=1000:=by
   rcases hw with ⟨_,e2,_⟩ | ⟨_,e2,e3,_⟩
   .have:=hc.2;omega
   .exact⟨e2,e3⟩
  exact Fs.asn H.ok hi hp (Fs.FY hf s)
 .rw[Fs.MG,Fs.zY (H.ok.aO i hi).oks,pB]
  exact H.ok
theorem All.Er(H:All wd h r)(seed:Int)(bt:Nat):∀k,k<=3->All wd h (fP wd h seed bt r k)
 | 0,_=>H
 | k+1,hk=>(All.Er H seed bt k (by omega)).Iz (by omega) _
end Ve
end Go.Proofs.YtjolccidheflpaaGreatDoor
