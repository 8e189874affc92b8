/- The small functions of package purse by their contracts: grow, isClient, isBelowZero, isWell, asked. -/
import Derived.Test.YtjolccidheflpaaGreatDoorU23
import Derived.Test.YtjolccidheflpaaGreatDoorU09
import Derived.BigRegion
import Derived.Test.YtjolccidheflpaaGreatDoorU00
import Derived.Deep.WholeRow
import Derived.Laws.CopyOwn
import Derived.Deep.MidRow
import Derived.Laws.ResultCell
import Derived.Deep.RegionLaw
import Derived.Test.YtjolccidheflpaaGreatDoorU08
import Derived.OwnWalk
namespace Go.Proofs.YtjolccidheflpaaGreatDoor
set_option maxHeartbeats 8000000
open Go.RowKit
set_option maxRecDepth 100000
theorem yO (B o:Nat) (t more most:Int) (w:World) (hc:w.cell? ⟨B,o,none⟩=some (.int .i64 t)) (h0:0<=t) (h1:t<=most) (h2:most<=1099511627776) (h:most-t<more) :
  Calls Tryz.prog 207 #[.pointer (some ⟨B,o,none⟩),.int .i64 more,.int .i64 most] w fun e w'=>e=.returned (.bool false)∧w'=w:=by
 go_enter Tryz.func207,Tryz.ntmps207;go_wp2;go_ret;exact⟨rfl,rfl⟩
theorem yP (B o:Nat) (t more most:Int) (w:World) (hc:w.cell? ⟨B,o,none⟩=some (.int .i64 t)) (hf:w.frozen? ⟨B,o,none⟩=false) (h0:0<=t) (h1:t<=most) (h2:most<=1099511627776) (h3:0<=more) (h:¬ most-t<more) :
  Calls Tryz.prog 207 #[.pointer (some ⟨B,o,none⟩),.int .i64 more,.int .i64 most] w fun e w'=>e=.returned (.bool true)∧w'=w.setCell ⟨B,o,none⟩ (.int .i64 (t+more)):=by
 go_enter Tryz.func207,Tryz.ntmps207;go_wp2;go_ret;exact⟨rfl,rfl⟩
theorem UY (n:Int) (w:World):Calls Tryz.prog 97 #[.int .i64 n] w fun e w'=>e=.returned (.bool (ah.aB n 0 5))∧w'=w:=by
 go_enter Tryz.func97,Tryz.ntmps97
 go_wp2_with fail
 refine(gi n 0 5 w).mono ?_;rintro e w2 ⟨rfl,rfl⟩;simp only[];go_wp2;go_ret;exact⟨rfl,rfl⟩
theorem UZ (a b c:Int) (w:World):(Instr.index 138 (.agg #[.int .i64 a,.int .i64 b,.int .i64 c]) (.int .i64 0)).run Tryz.prog w=.ok (.int .i64 a) w:=by kernel_rfl
theorem U0 (a b c:Int) (w:World):(Instr.index 138 (.agg #[.int .i64 a,.int .i64 b,.int .i64 c]) (.int .i64 1)).run Tryz.prog w=.ok (.int .i64 b) w:=by kernel_rfl
theorem U1 (a b c:Int) (w:World):(Instr.index 138 (.agg #[.int .i64 a,.int .i64 b,.int .i64 c]) (.int .i64 2)).run Tryz.prog w=.ok (.int .i64 c) w:=by kernel_rfl
theorem agI (cash s0 s1 s2:Int) (w:World):Calls Tryz.prog 206 #[.int .i64 cash,.agg #[.int .i64 s0,.int .i64 s1,.int .i64 s2]] w fun e w'=>e=.returned (.bool (decide (s0<0) || decide (s1<0) || decide (s2<0) || decide (cash<0)))∧Below w.heap.size w w':=by
 have hb:Hid (Below w.heap.size w (w.alloc (.cells #[.int .i64 s0,.int .i64 s1,.int .i64 s2] 138))):=(bRq _ _).alloc (lRq _) _;have i0:=@UZ;have i1:=@U0;have i2:=@U1;by_cases h0:s0<0
 ·go_enter Tryz.func206,Tryz.ntmps206
  go_wp2;refine wp_loop_rounds 1 ?_;rw[rounds_succ];go_wp2;go_ret;exact⟨gG (by simp[h0]),hb.out⟩
 by_cases h1:s1<0
 ·go_enter Tryz.func206,Tryz.ntmps206
  go_wp2;refine wp_loop_rounds 2 ?_;rw[rounds_succ];go_wp2;rw[rounds_succ];go_wp2;go_ret;exact⟨gG (by simp[h1]),hb.out⟩
 by_cases h2:s2<0
 ·go_enter Tryz.func206,Tryz.ntmps206
  go_wp2;refine wp_loop_rounds 3 ?_;rw[rounds_succ];go_wp2;rw[rounds_succ];go_wp2;rw[rounds_succ];go_wp2;go_ret;exact⟨gG (by simp[h2]),hb.out⟩
 ·have H:Hid (¬ s0<0∧¬ s1<0∧¬ s2<0):=⟨h0,h1,h2⟩
  go_enter Tryz.func206,Tryz.ntmps206;go_wp2;refine wp_loop_rounds 4 ?_;rw[rounds_succ];go_wp2;rw[rounds_succ];go_wp2;rw[rounds_succ];go_wp2;rw[rounds_succ];go_wp2;go_ret;exact⟨gG (by obtain⟨a,b,c⟩:=H.out;simp[show ¬ s0<0 by omega,show ¬ s1<0 by omega,show ¬ s2<0 by omega]),hb.out⟩
theorem U8 (x:Cv.ag):Cv.oP [x] 0=Cv.ok x:=by simp[Cv.oP,Cv.nth,Cv.has]
theorem Gr (item:Int) (x:Cv.ag) (T:TypeId) (v1 v6 v7:Value) (w:World) (he:Hid (gU w T v1 v6 v7)) :
  Calls Tryz.prog 279 #[.int .i64 item,bS x] w fun e w'=>e=.returned (.bool (Pu.well item x))∧Below w.heap.size w w':=by
 show Calls Tryz.prog 279 #[.int .i64 item,.agg #[.int .i64 x.id,.int .i64 x.ak,.int .i64 x.sd,.int .i64 x.pr,.int .i64 x.q]] w _;have hb1:Below w.heap.size w (w.alloc (.cells #[.int .i64 x.id,.int .i64 x.ak,.int .i64 x.sd,.int .i64 x.pr,.int .i64 x.q] 197)):=(bRq _ _).alloc (lRq _) _;have hb2:Below w.heap.size w ((w.alloc (.cells #[.int .i64 x.id,.int .i64 x.ak,.int .i64 x.sd,.int .i64 x.pr,.int .i64 x.q] 197)).alloc (.cells #[.int .i64 x.id,.int .i64 x.ak,.int .i64 x.sd,.int .i64 x.pr,.int .i64 x.q] 197)):=hb1.alloc hb1.size _;have HB1:=hDq hb1;have HB2:=hDq hb2;have HC:=hDq (Jy (w.heap.size+1) 0 1 1 [x] T v1 v6 v7 ((w.alloc (.cells #[.int .i64 x.id,.int .i64 x.ak,.int .i64 x.sd,.int .i64 x.pr,.int .i64 x.q] 197)).alloc (.cells #[.int .i64 x.id,.int .i64 x.ak,.int .i64 x.sd,.int .i64 x.pr,.int .i64 x.q] 197)) rfl (by decide) (by decide) (by
  intro i hi;have:i=0:=by simp at hi;omega
  subst this;refine⟨?_,?_,?_,?_,?_⟩ <;> simp[Cv.nth]) (he.out.later hb2))
 clear hb1 hb2;cases hw:ah.aB item 0 2 with
 | false =>
  have HW:Hid (Pu.well item x=false):=by show _=_;unfold Pu.well;rw[hw];rfl
  have HI:=hDq (gi item 0 2 (w.alloc (.cells #[.int .i64 x.id,.int .i64 x.ak,.int .i64 x.sd,.int .i64 x.pr,.int .i64 x.q] 197)));rw[hw]at HI;clear hw;go_enter Tryz.func279,Tryz.ntmps279
  go_wp2_with fail
  refine HI.out.mono ?_;rintro e w2 ⟨rfl,rfl⟩;simp only[];go_wp2;go_ret;exact⟨gG HW.out.symm,HB1.out⟩
 | true =>
  have HW:Hid (Pu.well item x=Cv.ok x):=by show _=_;unfold Pu.well;rw[hw];rfl
  have HI:=hDq (gi item 0 2 (w.alloc (.cells #[.int .i64 x.id,.int .i64 x.ak,.int .i64 x.sd,.int .i64 x.pr,.int .i64 x.q] 197)));rw[hw]at HI;clear hw;go_enter Tryz.func279,Tryz.ntmps279
  go_wp2_with fail
  refine HI.out.mono ?_;rintro e w2 ⟨rfl,rfl⟩;simp only[]
  go_wp2_with fail
  refine HC.out.mono ?_;rintro e w3 ⟨h3,hb3⟩;have ar:Hid (Below w.heap.size w w3):=HB2.out.trans (hb3.mono HB2.out.size);rcases h3 with ⟨lM,rfl⟩ | ⟨i,B,hi,_,hno,rfl,_⟩
  ·have HO:Hid (Cv.ok x=true):=by show _=_;rw[<- U8];exact lM 0 (by decide)
   clear lM hb3;simp only[];go_wp2;go_ret;exact⟨gG (by rw[HW.out,HO.out]),ar.out⟩
  ·have HO:Hid (Cv.ok x=false):=by
    show _=_;have:i=0:=by omega
    subst this;rw[<- U8];exact hno
   clear hno hi hb3;simp only[];go_wp2;go_ret;exact⟨gG (by rw[HW.out,HO.out]),ar.out⟩
def cV (v:Nat->Value):Nat->Value
 | 0=>.nilIface
 | c+1=>.iface 412 (v (c+1))
structure tN (w:World) (v:Nat->Value):Prop where
 bN:gU w 412 (v 1) (v 6) (v 7)
 c9:w.cell? ⟨9,0,none⟩=some (.iface 412 (v 9))
theorem tN.later {w w':World} {v:Nat->Value} (h:tN w v) (hb:Below w.heap.size w w'):tN w' v:=⟨h.bN.later hb,cell_later hb h.c9⟩
theorem a_.gy {w w':World} {T:TypeId} {B:Nat} {f:Nat->Int} (h:a_ w T B f) (hb:Below w.heap.size w w'):a_ w' T B f:=h.later hb h.lt
structure aM (w w':World) (p:Nat):Prop where
 os:w'.os=w.os
 tape:w'.tape=w.tape
 output:w'.output=w.output
 size:w.heap.size<=w'.heap.size
 block:∀ k,k<w.heap.size->k≠p->w'.heap[k]?=w.heap[k]?
theorem aM.of_below {w w':World} (h:Below w.heap.size w w') (p:Nat):aM w w' p:=⟨h.os,h.tape,h.output,h.size,fun k hk _=>h.block k hk⟩
theorem aM.trans {w w1 w2:World} {p:Nat} (h:aM w w1 p) (h1:aM w1 w2 p):aM w w2 p :=
 ⟨h1.os.trans h.os,h1.tape.trans h.tape,h1.output.trans h.output,lTq h.size h1.size,fun k hk ha=>by rw[h1.block k (Nat.lt_of_lt_of_le hk h.size) ha];exact h.block k hk ha⟩
theorem aM.below {w w':World} {p n:Nat} (h:aM w w' p) (hn:n<=w.heap.size) (hp:n<=p):Below n w w':=⟨h.os,h.tape,h.output,h.size,fun k hk=>h.block k (by omega) (by omega)⟩
theorem aM.setCell (w:World) (g o:Nat) (v:Value):aM w (w.setCell ⟨g,o,none⟩ v) g:=⟨rfl,rfl,rfl,by simp,fun k _ ha=>Below.heap_setCell _ _ _ _ ha⟩
theorem a_.save {w w':World} {T:TypeId} {B p:Nat} {f:Nat->Int} (h:a_ w T B f) (hs:aM w w' p) (hne:B≠p):a_ w' T B f:=(hs.block B h.lt hne).trans h
theorem A8 {w w':World} {p:Nat} {a:Addr} {v:Value} (hs:aM w w' p) (h:w.cell? a=some v) (hne:a.block≠p):w'.cell? a=some v :=
 (World.cell?_of_block (hs.block a.block (bCq w a h) hne)).trans h
theorem U3 (p:Nat) (item:Int) (x:Cv.ag) (f:Nat->Int) (w:World) (hp:Hid (a_ w 213 p f)) (hw:Hid (Pu.well item x=true)) :
  Calls Tryz.prog 280 #[.pointer (some ⟨p,0,none⟩),.int .i64 item,bS x] w fun e w'=>e=.returned (.tuple #[.int .i64 (f (Pu.kr item x)),.pointer (some ⟨p,Pu.hx item x,none⟩),.int .i64 (Pu.mu x)])∧Below w.heap.size w w':=by
 show Calls Tryz.prog 280 #[.pointer (some ⟨p,0,none⟩),.int .i64 item,.agg #[.int .i64 x.id,.int .i64 x.ak,.int .i64 x.sd,.int .i64 x.pr,.int .i64 x.q]] w _;obtain⟨k,rfl,hk⟩:=Pu.BO hw.out;obtain⟨c,hc,h9⟩:=Pu.uw hw.out;have hpl:=hp.out.lt;have hne:¬ (w.heap.size=p):=by omega
 have vQ:¬ (p=w.heap.size):=by omega
 have hbd:=Cv.fU (Pu.kj hw.out);have ot:=Pu.ua (Pu.kj hw.out);have hbW:Below w.heap.size w (w.alloc (.cells #[.int .i64 x.id,.int .i64 c,.int .i64 x.sd,.int .i64 x.pr,.int .i64 x.q] 197)):=(bRq _ _).alloc (lRq _) _;have cq:=hDq hbW;clear hbW;have hci:(c:Int)<6:=by omega
 have aX:(k:Int)<3:=by omega
 by_cases hs:x.sd=0
 ·have HX:Hid (Pu.kr k x=c*8∧Pu.hx k x=c*8+1∧Pu.mu x=x.pr*x.q):=by
   refine⟨?_,?_,?_⟩
   ·unfold Pu.kr;rw[if_pos hs];omega
   ·unfold Pu.hx;rw[if_pos hs];omega
   ·unfold Pu.mu;rw[if_pos hs]
  have hm:1<=x.pr*x.q∧x.pr*x.q<=1000000:=by rw[<- HX.out.2.2];exact ot
  obtain⟨m1,m2⟩:=hm;have c0:=hp.out.cell (i:=c*8) (by omega);have k_:(x.sd==0)=true:=by simp[hs]
  clear ot hbd hs;rw[hc];go_enter Tryz.func280,Tryz.ntmps280;go_wp2
  go_quiet (fail)
  go_wp2
  go_quiet (fail)
  go_wp2;refine bodyPost_ret (v:=.tuple #[.int .i64 (f (c*8)),.pointer (some ⟨p,c*8+1,none⟩),.int .i64 (x.pr*x.q)]) (by simp[results,Tryz.results280,go_sem]) rfl ⟨?_,?_⟩
  ·rw[HX.out.1,HX.out.2.1,HX.out.2.2]
  ·exact(cq.out.trans ((dQ _).mono cq.out.size)).trans ((dQ _).mono (by simp))
 ·have hs1:x.sd=1:=by omega
  have HX:Hid (Pu.kr k x=c*8+2+k∧Pu.hx k x=c*8+5+k∧Pu.mu x=x.q):=by
   refine⟨?_,?_,?_⟩
   ·unfold Pu.kr;rw[if_neg hs];omega
   ·unfold Pu.hx;rw[if_neg hs];omega
   ·unfold Pu.mu;rw[if_neg hs]
  have c0:=hp.out.cell (i:=c*8+2+k) (by omega);have k_:(x.sd==0)=false:=by simp[hs]
  clear ot hbd hs hs1;rw[hc];go_enter Tryz.func280,Tryz.ntmps280;go_wp2
  go_quiet (fail)
  go_wp2
  go_quiet (fail)
  go_wp2;refine bodyPost_ret (v:=.tuple #[.int .i64 (f (c*8+2+k)),.pointer (some ⟨p,c*8+5+k,none⟩),.int .i64 x.q]) (by simp[results,Tryz.results280,go_sem]) rfl ⟨?_,?_⟩
  ·rw[HX.out.1,HX.out.2.1,HX.out.2.2]
  ·exact(cq.out.trans ((dQ _).mono cq.out.size)).trans ((dQ _).mono (by simp))
theorem aeE (p:Nat) (item:Int) (x:Cv.ag) (f:Nat->Int) (v:Nat->Value) (w:World) (he:Hid (tN w v)) (hp:Hid (a_ w 213 p f)) (hg:Hid (Pu.Good f)) :
  Calls Tryz.prog 248 #[.pointer (some ⟨p,0,none⟩),.int .i64 item,bS x] w fun e w'=>e=.returned (cV v (Pu.jE f item x))∧a_ w' 213 p (Pu.j7 f item x)∧aM w w' p:=by
 show Calls Tryz.prog 248 #[.pointer (some ⟨p,0,none⟩),.int .i64 item,.agg #[.int .i64 x.id,.int .i64 x.ak,.int .i64 x.sd,.int .i64 x.pr,.int .i64 x.q]] w _;have hbW:Below w.heap.size w (w.alloc (.cells #[.int .i64 x.id,.int .i64 x.ak,.int .i64 x.sd,.int .i64 x.pr,.int .i64 x.q] 197)):=(bRq _ _).alloc (lRq _) _;have cq:=hDq hbW;have HC:=hDq (Gr item x 412 _ _ _ _ (he.out.later hbW).bN);have HX0:Hid ((w.alloc (.cells #[.int .i64 x.id,.int .i64 x.ak,.int .i64 x.sd,.int .i64 x.pr,.int .i64 x.q] 197)).heap[w.heap.size]?=some (.cells #[.int .i64 x.id,.int .i64 x.ak,.int .i64 x.sd,.int .i64 x.pr,.int .i64 x.q] 197 (0,0))):=hNq _ _;unfold bS at HC;clear hbW;go_enter Tryz.func248,Tryz.ntmps248
 go_wp2_with fail
 refine HC.out.mono ?_;rintro e w2 ⟨rfl,hb2⟩;have HB:Hid (Below w.heap.size w w2):=cq.out.trans (hb2.mono cq.out.size);have hX:w2.heap[w.heap.size]?=some (.cells #[.int .i64 x.id,.int .i64 x.ak,.int .i64 x.sd,.int .i64 x.pr,.int .i64 x.q] 197 (0,0)):=by
  rw[hb2.block _ (lBq HX0.out)];exact HX0.out
 have dX:=hDq hX;have fY:=hDq (hp.out.gy HB.out);clear hb2 HC cq HX0;cases hok:Pu.well item x with
 | false =>
  have HA:Hid (Pu.jE f item x=1∧Pu.j7 f item x=f):=by
   have e:Pu.jE f item x=1:=by unfold Pu.jE;rw[hok];rfl
   exact⟨e,by unfold Pu.j7;rw[e];rfl⟩
  have e1:=(he.out.later HB.out).bN.c1;clear hok hX;simp only[];go_wp2;go_ret;exact⟨by rw[HA.out.1];rfl,by rw[HA.out.2];exact fY.out,aM.of_below HB.out p⟩
 | true =>
  have ic:=hDq hok;clear hok;have HQ:=hDq (U3 p item x f w2 fY.out ic.out);unfold bS at HQ;have b0:w2.cell? ⟨w.heap.size,0,none⟩=some (.int .i64 x.id):=by simp[World.cell?,hX]
  have b1:w2.cell? ⟨w.heap.size,1,none⟩=some (.int .i64 x.ak):=by simp[World.cell?,hX]
  have b2:w2.cell? ⟨w.heap.size,2,none⟩=some (.int .i64 x.sd):=by simp[World.cell?,hX]
  have b3:w2.cell? ⟨w.heap.size,3,none⟩=some (.int .i64 x.pr):=by simp[World.cell?,hX]
  have b4:w2.cell? ⟨w.heap.size,4,none⟩=some (.int .i64 x.q):=by simp[World.cell?,hX]
  clear hX;simp only[]
  go_wp2_with fail
  refine HQ.out.mono ?_;rintro e w3 ⟨rfl,hb3⟩;have ar:Hid (Below w.heap.size w w3):=HB.out.trans (hb3.mono HB.out.size);have gA:=hDq (fY.out.gy hb3);clear hb3 HQ b0 b1 b2 b3 b4;have MJ:=Pu.Gt hg.out ic.out;have ot:=Pu.ua (Pu.kj ic.out);have hlt:=Pu.UO ic.out;have ch:=gA.out.cell hlt.1;have agM:=gA.out.frozen (Pu.hx item x);have BQ:Hid (Pu.jE f item x=if f (Pu.kr item x)-f (Pu.hx item x)<Pu.mu x then 9 else 0):=by show _=_;unfold Pu.jE;rw[if_pos ic.out]
  have nQ:Hid (Pu.j7 f item x=if Pu.jE f item x=0 then Pu.add f (Pu.hx item x) (Pu.mu x) else f):=rfl;generalize Pu.hx item x=ih at *;generalize hft:f (Pu.kr item x)=yQ at *;generalize BR:f ih=fi at *;generalize Pu.mu x=m at *;have MK:=hDq BR;clear hft BR;obtain⟨g0,g1,g2⟩:=MJ;obtain⟨m0,m1⟩:=ot;by_cases pK:yQ-fi<m
  ·have HA:Hid (Pu.jE f item x=9∧Pu.j7 f item x=f):=by
    have e:Pu.jE f item x=9:=by rw[BQ.out,if_pos pK]
    exact⟨e,by rw[nQ.out,e];rfl⟩
   have e9:=(he.out.later ar.out).c9;simp only[];go_wp2;go_ret;exact⟨by rw[HA.out.1];rfl,by rw[HA.out.2];exact gA.out,aM.of_below ar.out p⟩
  ·have HA:Hid (Pu.jE f item x=0∧Pu.j7 f item x=Pu.add f ih m):=by
    have e:Pu.jE f item x=0:=by rw[BQ.out,if_neg pK]
    exact⟨e,by rw[nQ.out,e];rfl⟩
   simp only[];go_wp2;go_ret;exact⟨by rw[HA.out.1];rfl,by rw[HA.out.2];exact gA.out.add _ _ _ (by rw[MK.out]),(aM.of_below ar.out p).trans (aM.setCell _ _ _ _)⟩
theorem Lu (p:Nat) (item:Int) (x:Cv.ag) (f:Nat->Int) (v:Nat->Value) (w:World) (he:Hid (tN w v)) (hp:Hid (a_ w 213 p f)) (hg:Hid (Pu.Good f)) :
  Calls Tryz.prog 245 #[.pointer (some ⟨p,0,none⟩),.int .i64 item,bS x] w fun e w'=>e=.returned (cV v (Pu.gK f item x))∧a_ w' 213 p (Pu.eX f item x)∧aM w w' p:=by
 show Calls Tryz.prog 245 #[.pointer (some ⟨p,0,none⟩),.int .i64 item,.agg #[.int .i64 x.id,.int .i64 x.ak,.int .i64 x.sd,.int .i64 x.pr,.int .i64 x.q]] w _;have hbW:Below w.heap.size w (w.alloc (.cells #[.int .i64 x.id,.int .i64 x.ak,.int .i64 x.sd,.int .i64 x.pr,.int .i64 x.q] 197)):=(bRq _ _).alloc (lRq _) _;have cq:=hDq hbW;have HC:=hDq (Gr item x 412 _ _ _ _ (he.out.later hbW).bN);have HX0:Hid ((w.alloc (.cells #[.int .i64 x.id,.int .i64 x.ak,.int .i64 x.sd,.int .i64 x.pr,.int .i64 x.q] 197)).heap[w.heap.size]?=some (.cells #[.int .i64 x.id,.int .i64 x.ak,.int .i64 x.sd,.int .i64 x.pr,.int .i64 x.q] 197 (0,0))):=hNq _ _;unfold bS at HC;clear hbW;go_enter Tryz.func245,Tryz.ntmps245
 go_wp2_with fail
 refine HC.out.mono ?_;rintro e w2 ⟨rfl,hb2⟩;have HB:Hid (Below w.heap.size w w2):=cq.out.trans (hb2.mono cq.out.size);have hX:w2.heap[w.heap.size]?=some (.cells #[.int .i64 x.id,.int .i64 x.ak,.int .i64 x.sd,.int .i64 x.pr,.int .i64 x.q] 197 (0,0)):=by
  rw[hb2.block _ (lBq HX0.out)];exact HX0.out
 have dX:=hDq hX;have fY:=hDq (hp.out.gy HB.out);clear hb2 HC cq HX0;cases hok:Pu.well item x with
 | false =>
  have HA:Hid (Pu.gK f item x=1∧Pu.eX f item x=f):=by
   have e:Pu.gK f item x=1:=by unfold Pu.gK;rw[hok];rfl
   exact⟨e,by unfold Pu.eX;rw[e];rfl⟩
  have e1:=(he.out.later HB.out).bN.c1;clear hok hX;simp only[];go_wp2;go_ret;exact⟨by rw[HA.out.1];rfl,by rw[HA.out.2];exact fY.out,aM.of_below HB.out p⟩
 | true =>
  have ic:=hDq hok;clear hok;have HQ:=hDq (U3 p item x f w2 fY.out ic.out);unfold bS at HQ;have b0:w2.cell? ⟨w.heap.size,0,none⟩=some (.int .i64 x.id):=by simp[World.cell?,hX]
  have b1:w2.cell? ⟨w.heap.size,1,none⟩=some (.int .i64 x.ak):=by simp[World.cell?,hX]
  have b2:w2.cell? ⟨w.heap.size,2,none⟩=some (.int .i64 x.sd):=by simp[World.cell?,hX]
  have b3:w2.cell? ⟨w.heap.size,3,none⟩=some (.int .i64 x.pr):=by simp[World.cell?,hX]
  have b4:w2.cell? ⟨w.heap.size,4,none⟩=some (.int .i64 x.q):=by simp[World.cell?,hX]
  clear hX;simp only[]
  go_wp2_with fail
  refine HQ.out.mono ?_;rintro e w3 ⟨rfl,hb3⟩;have ar:Hid (Below w.heap.size w w3):=HB.out.trans (hb3.mono HB.out.size);have gA:=hDq (fY.out.gy hb3);clear hb3 HQ b0 b1 b2 b3 b4;have MJ:=Pu.Gt hg.out ic.out;have ot:=Pu.ua (Pu.kj ic.out);have hlt:=Pu.UO ic.out;have ch:=gA.out.cell hlt.1;have agM:=gA.out.frozen (Pu.hx item x);have BQ:Hid (Pu.gK f item x=if f (Pu.hx item x)<Pu.mu x then 9 else 0):=by show _=_;unfold Pu.gK;rw[if_pos ic.out]
  have nQ:Hid (Pu.eX f item x=if Pu.gK f item x=0 then Pu.add f (Pu.hx item x) (-(Pu.mu x)) else f):=rfl;generalize Pu.hx item x=ih at *;generalize hft:f (Pu.kr item x)=yQ at *;generalize BR:f ih=fi at *;generalize Pu.mu x=m at *;have MK:=hDq BR;clear hft BR;obtain⟨g0,g1,g2⟩:=MJ;obtain⟨m0,m1⟩:=ot;by_cases pK:fi<m
  ·have HA:Hid (Pu.gK f item x=9∧Pu.eX f item x=f):=by
    have e:Pu.gK f item x=9:=by rw[BQ.out,if_pos pK]
    exact⟨e,by rw[nQ.out,e];rfl⟩
   have e9:=(he.out.later ar.out).c9;simp only[];go_wp2;go_ret;exact⟨by rw[HA.out.1];rfl,by rw[HA.out.2];exact gA.out,aM.of_below ar.out p⟩
  ·have HA:Hid (Pu.gK f item x=0∧Pu.eX f item x=Pu.add f ih (-m)):=by
    have e:Pu.gK f item x=0:=by rw[BQ.out,if_neg pK]
    exact⟨e,by rw[nQ.out,e];rfl⟩
   simp only[];go_wp2;go_ret;exact⟨by rw[HA.out.1];rfl,by rw[HA.out.2];exact gA.out.add _ _ _ (by rw[MK.out];omega),(aM.of_below ar.out p).trans (aM.setCell _ _ _ _)⟩
theorem aM.setRow (w:World) (g:Nat) (c:Array Value):aM w (w.setRow g c) g:=⟨rfl,rfl,rfl,by simp[World.setRow],fun k _ ha=>setRow_other w g k c ha⟩
theorem ad9 (w:World):Calls Tryz.prog 161 #[] w fun e w'=>e=.returned (.pointer (some ⟨w.heap.size,0,none⟩))∧w'=w.alloc (.cells (cw fun _=>0) 213):=by
 have z55:=ML;go_enter Tryz.func161,Tryz.ntmps161;go_wp2;go_ret;exact⟨rfl,rfl⟩
def qB (f:Nat->Int) (c:Nat):Value:=.agg #[.int .i64 (f (c*8)),.int .i64 (f (c*8+1)),.int .i64 (f (c*8+2)),.int .i64 (f (c*8+3)),.int .i64 (f (c*8+4)),.int .i64 (f (c*8+5)),.int .i64 (f (c*8+6)),.int .i64 (f (c*8+7))]
def yR (f:Nat->Int) (n:Int):Value:=if ah.aB n 0 5=true then qB f n.toNat else qB (fun _=>0) 0
theorem U6 (f:Nat->Int) {c:Nat} (h:c<6):yR f c=qB f c:=by
 unfold yR;rw[if_pos (by simp[ah.aB];omega),Int.toNat_natCast]
theorem U7 (p:Nat) (n:Int) (f:Nat->Int) (w:World) (hp:Hid (a_ w 213 p f)) :
  Calls Tryz.prog 70 #[.pointer (some ⟨p,0,none⟩),.int .i64 n] w fun e w'=>e=.returned (yR f n)∧Below w.heap.size w w':=by
 have hbW:Below w.heap.size w (w.alloc (.cells #[.int .i64 0,.int .i64 0,.int .i64 0,.int .i64 0,.int .i64 0,.int .i64 0,.int .i64 0,.int .i64 0] 140)):=(bRq _ _).alloc (lRq _) _;have cq:=hDq hbW;have HI:=hDq (UY n (w.alloc (.cells #[.int .i64 0,.int .i64 0,.int .i64 0,.int .i64 0,.int .i64 0,.int .i64 0,.int .i64 0,.int .i64 0] 140)));clear hbW;have hpl:=hp.out.lt;cases hin:ah.aB n 0 5 with
 | false =>
  have HO:Hid (yR f n=qB (fun _=>0) 0):=by show _=_;unfold yR;rw[if_neg (by rw[hin];simp)]
  rw[hin]at HI;clear hin;go_enter Tryz.func70,Tryz.ntmps70
  go_wp2_with fail
  refine HI.out.mono ?_;rintro e w2 ⟨rfl,rfl⟩;simp only[];go_wp2;refine bodyPost_ret (v:=qB (fun _=>0) 0) (by simp[results,Tryz.results70,go_sem,qB]) rfl ⟨by rw[HO.out],?_⟩;exact cq.out
 | true =>
  obtain⟨c,rfl,h9⟩:∃ c:Nat,n=c∧c<6:=by
   simp only[ah.aB,Bool.and_eq_true,decide_eq_true_eq]at hin;exact⟨n.toNat,by omega,by omega⟩
  have HO:Hid (yR f c=qB f c):=U6 f h9;rw[hin]at HI;clear hin;have hci:(c:Int)<6:=by omega
  have c0:=hp.out.cell (i:=c*8) (by omega);have c1:=hp.out.cell (i:=c*8+1) (by omega);have c2:=hp.out.cell (i:=c*8+2) (by omega);have c3:=hp.out.cell (i:=c*8+3) (by omega);have c4:=hp.out.cell (i:=c*8+4) (by omega);have c5:=hp.out.cell (i:=c*8+5) (by omega);have c6:=hp.out.cell (i:=c*8+6) (by omega);have c7:=hp.out.cell (i:=c*8+7) (by omega);have hne:¬ (w.heap.size=p):=by omega
  have vQ:¬ (p=w.heap.size):=by omega
  go_enter Tryz.func70,Tryz.ntmps70
  go_wp2_with fail
  refine HI.out.mono ?_;rintro e w2 ⟨rfl,rfl⟩;simp only[];go_wp2;refine bodyPost_ret (v:=qB f c) (by simp[results,Tryz.results70,go_sem,qB]) rfl ⟨by rw[HO.out],?_⟩;exact(bRq _ _).alloc (lRq _) _
theorem aeT (p:Nat) (f:Nat->Int) (w:World) (hp:Hid (a_ w 213 p f)) :
  Calls Tryz.prog 261 #[.pointer (some ⟨p,0,none⟩)] w fun e w'=>e=.returned (.pointer (some ⟨w.heap.size,0,none⟩))∧a_ w' 213 w.heap.size f∧Below w.heap.size w w':=by
 have z55:=ML;have HN:Hid (a_ (w.alloc (.cells (cw fun _=>0) 213)) 213 w.heap.size (fun _=>0)):=a_.new w 213 _;go_enter Tryz.func261,Tryz.ntmps261
 go_wp2_with (first | refine MN (B:=p) (f:=f) hp.out rfl (.tmp 5) rfl rfl ?_ | refine FU (B:=w.heap.size) f (f:=fun _=>0) HN.out rfl (.tmp 3) (.tmp 6) rfl rfl rfl ?_)
 go_ret;exact⟨rfl,HN.out.stored f,aM.below ((aM.of_below ((bRq _ _).alloc (lRq _) _) _).trans (aM.setRow _ _ _)) (lRq _) (lRq _)⟩
def SB (g:Pu.fj):Value:=.agg #[.int .i64 g.s0,.int .i64 g.s1,.int .i64 g.s2]
def ig (w:World) (B:Nat) (T:TypeId) (v0 v1 v2 v3 v4 v5 v6 v7:Int):Prop:=w.heap[B]?=some (.cells #[.int .i64 v0,.int .i64 v1,.int .i64 v2,.int .i64 v3,.int .i64 v4,.int .i64 v5,.int .i64 v6,.int .i64 v7] T (0,0))
theorem yM {w:World} {B j:Nat} {T:TypeId} {a a':Array Value} (v:Value) (h:w.heap[B]?=some (.cells a T (0,0))) (e:a.setIfInBounds j v=a'):(w.setCell ⟨B,j,none⟩ v).heap[B]?=some (.cells a' T (0,0)):=by
 rw[setCell_eq_setRow w B j _ _ _ _ h,e];exact setRow_heap w B _ _ _ _ h
theorem dB {w:World} {B j:Nat} {T:TypeId} {a:Array Value} {v:Value} (h:w.heap[B]?=some (.cells a T (0,0))) (e:a[j]?=some v):w.cell? ⟨B,j,none⟩=some v:=by
 rw[cR w B j _ _ _ h,e]
theorem yN {w:World} {B j:Nat} {T:TypeId} {a:Array Value} (h:w.heap[B]?=some (.cells a T (0,0))):w.frozen? ⟨B,j,none⟩=false:=by
 simp[World.frozen?,h]
theorem agH {f:Nat->Int} {c:Nat} (cash s0 s1 s2:Int) (j:Nat) :
  (if j=c*8+7 then f (c*8+7) else if j=c*8+6 then f (c*8+6) else if j=c*8+5 then f (c*8+5) else if j=c*8+4 then f (c*8+4)+s2 else if j=c*8+3 then f (c*8+3)+s1 else if j=c*8+2 then f (c*8+2)+s0 else if j=c*8+1 then f (c*8+1) else if j=c*8 then f (c*8)+cash else f j)
   = Pu.add (Pu.add (Pu.add (Pu.add f (c*8) cash) (c*8+2) s0) (c*8+3) s1) (c*8+4) s2 j:=by
 simp only[Pu.add];by_cases h7:j=c*8+7
 ·subst h7;simp
 by_cases h6:j=c*8+6
 ·subst h6;simp
 by_cases h5:j=c*8+5
 ·subst h5;simp
 by_cases h4:j=c*8+4
 ·subst h4;simp
 by_cases h3:j=c*8+3
 ·subst h3;simp
 by_cases h2:j=c*8+2
 ·subst h2;simp
 by_cases h1:j=c*8+1
 ·subst h1;simp
 by_cases h0:j=c*8
 ·subst h0;simp
 simp[h0,h1,h2,h3,h4,h5,h6,h7]
theorem aee (p:Nat) (g:Pu.fj) (f:Nat->Int) (v:Nat->Value) (w:World) (he:Hid (tN w v)) (hp:Hid (a_ w 213 p f)) (hg:Hid (Pu.Good f)) :
  Calls Tryz.prog 163 #[.pointer (some ⟨p,0,none⟩),.int .i64 g.n,.int .i64 g.cash,SB g] w fun e w'=>e=.returned (cV v (Pu.jd f g))∧a_ w' 213 p (Pu.iH f g)∧aM w w' p:=by
 show Calls Tryz.prog 163 #[.pointer (some ⟨p,0,none⟩),.int .i64 g.n,.int .i64 g.cash,.agg #[.int .i64 g.s0,.int .i64 g.s1,.int .i64 g.s2]] w _;have hbW:Below w.heap.size w (w.alloc (.cells #[.int .i64 g.s0,.int .i64 g.s1,.int .i64 g.s2] 138)):=(bRq _ _).alloc (lRq _) _;have cq:=hDq hbW;have HI:=hDq (UY g.n (w.alloc (.cells #[.int .i64 g.s0,.int .i64 g.s1,.int .i64 g.s2] 138)));have HN:=hDq (agI g.cash g.s0 g.s1 g.s2 (w.alloc (.cells #[.int .i64 g.s0,.int .i64 g.s1,.int .i64 g.s2] 138)));have HX0:Hid ((w.alloc (.cells #[.int .i64 g.s0,.int .i64 g.s1,.int .i64 g.s2] 138)).heap[w.heap.size]?=some (.cells #[.int .i64 g.s0,.int .i64 g.s1,.int .i64 g.s2] 138 (0,0))):=hNq _ _;clear hbW;cases hin:ah.aB g.n 0 5 with
 | false =>
  have HA:Hid (Pu.jd f g=1∧Pu.iH f g=f):=by
   have e:Pu.jd f g=1:=by unfold Pu.jd Pu.fj.fine;rw[hin];rfl
   exact⟨e,by unfold Pu.iH;rw[e];rfl⟩
  have e1:=(he.out.later cq.out).bN.c1;rw[hin]at HI;clear hin;go_enter Tryz.func163,Tryz.ntmps163
  go_wp2_with fail
  refine HI.out.mono ?_;rintro e w2 ⟨rfl,rfl⟩;simp only[];go_wp2;go_ret;exact⟨by rw[HA.out.1];rfl,by rw[HA.out.2];exact hp.out.gy cq.out,aM.of_below cq.out p⟩
 | true =>
  rw[hin]at HI;have MG:=hDq hin;clear hin;cases wM:g.neg with
  | true =>
   have HA:Hid (Pu.jd f g=1∧Pu.iH f g=f):=by
    have e:Pu.jd f g=1:=by unfold Pu.jd Pu.fj.fine;rw[wM,MG.out];rfl
    exact⟨e,by unfold Pu.iH;rw[e];rfl⟩
   rw[show (decide (g.s0<0) || decide (g.s1<0) || decide (g.s2<0) || decide (g.cash<0))=true from wM]at HN;clear wM;go_enter Tryz.func163,Tryz.ntmps163
   go_wp2_with fail
   refine HI.out.mono ?_;rintro e w2 ⟨rfl,rfl⟩;simp only[]
   go_wp2_with fail
   refine HN.out.mono ?_;rintro e w3 ⟨rfl,hb3⟩;have ar:Hid (Below w.heap.size w w3):=cq.out.trans (hb3.mono cq.out.size);have e1:=(he.out.later ar.out).bN.c1;clear hb3;simp only[];go_wp2;go_ret;exact⟨by rw[HA.out.1];rfl,by rw[HA.out.2];exact hp.out.gy ar.out,aM.of_below ar.out p⟩
  | false =>
   rw[show (decide (g.s0<0) || decide (g.s1<0) || decide (g.s2<0) || decide (g.cash<0))=false from wM]at HN;have HF:Hid (g.fine=true):=by show _=_;unfold Pu.fj.fine;rw[MG.out,wM];rfl
   obtain⟨c,hc,h9⟩:∃ c:Nat,g.n=c∧c<6:=by
    have:=MG.out
    simp only[ah.aB,Bool.and_eq_true,decide_eq_true_eq]at this;exact⟨g.n.toNat,by omega,by omega⟩
   have hpos:0<=g.s0∧0<=g.s1∧0<=g.s2∧0<=g.cash:=by
    simp only[Pu.fj.neg,Bool.or_eq_false_iff,decide_eq_false_iff_not]at wM;omega
   clear wM;obtain⟨p0,p1,p2,p3⟩:=hpos;have hci:(c:Int)<6:=by omega
   have g1:=hg.out.cash c h9;have g2:=hg.out.stock c 0 h9 (by decide);have g3:=hg.out.stock c 1 h9 (by decide);have g4:=hg.out.stock c 2 h9 (by decide);simp only[Nat.add_zero,Nat.add_assoc,Nat.reduceAdd]at g1 g2 g3 g4;have fY:=hp.out.gy cq.out;rw[hc]at HI ⊢;have i0:=@UZ;have i1:=@U0;have i2:=@U1;go_enter Tryz.func163,Tryz.ntmps163
   go_wp2_with fail
   refine HI.out.mono ?_;rintro e w2 ⟨rfl,rfl⟩;simp only[]
   go_wp2_with fail
   refine HN.out.mono ?_;rintro e w3 ⟨rfl,hb3⟩;have ar:Hid (Below w.heap.size w w3):=cq.out.trans (hb3.mono cq.out.size);have hX:w3.heap[w.heap.size]?=some (.cells #[.int .i64 g.s0,.int .i64 g.s1,.int .i64 g.s2] 138 (0,0)):=by
    rw[hb3.block _ (lBq HX0.out)];exact HX0.out
   have BP:=hp.out.gy ar.out;have gA:=hDq BP;have x0:w3.cell? ⟨w.heap.size,0,none⟩=some (.int .i64 g.s0):=by simp[World.cell?,hX]
   have x1:w3.cell? ⟨w.heap.size,1,none⟩=some (.int .i64 g.s1):=by simp[World.cell?,hX]
   have x2:w3.cell? ⟨w.heap.size,2,none⟩=some (.int .i64 g.s2):=by simp[World.cell?,hX]
   have HX:=hDq (And.intro x0 (And.intro x1 x2));clear x0 x1 x2;have lM:w.heap.size<w3.heap.size:=lBq hX;have hpl:p<w3.heap.size:=BP.lt;have agJ:Hid (∀ w' a0 a2 a3 a4,a_ w' 213 p f->a0=f (c*8)+g.cash->a2=f (c*8+2)+g.s0->a3=f (c*8+3)+g.s1->a4=f (c*8+4)+g.s2 ->
     a_ ((((((((w'.setCell ⟨p,c*8,none⟩ (.int .i64 a0)).setCell ⟨p,c*8+1,none⟩ (.int .i64 (f (c*8+1)))).setCell ⟨p,c*8+2,none⟩ (.int .i64 a2)).setCell ⟨p,c*8+3,none⟩ (.int .i64 a3)).setCell ⟨p,c*8+4,none⟩ (.int .i64 a4)).setCell ⟨p,c*8+5,none⟩ (.int .i64 (f (c*8+5)))).setCell ⟨p,c*8+6,none⟩ (.int .i64 (f (c*8+6)))).setCell ⟨p,c*8+7,none⟩ (.int .i64 (f (c*8+7)))) 213 p
      (Pu.add (Pu.add (Pu.add (Pu.add f (c*8) g.cash) (c*8+2) g.s0) (c*8+3) g.s1) (c*8+4) g.s2)):=by
    intro w' a0 a2 a3 a4 h e0 e2 e3 e4;subst e0 e2 e3 e4;exact(h.agK c _ _ _ _ _ _ _ _).congr fun j _=>agH _ _ _ _ j
   have sx:Hid (g.over f=(decide (1099511627776-f (c*8)<g.cash) || decide (1073741824-f (c*8+2)<g.s0) || decide (1073741824-f (c*8+3)<g.s1) || decide (1073741824-f (c*8+4)<g.s2))):=by
    show _=_;unfold Pu.fj.over;rw[hc,Int.toNat_natCast]
   have uy:Hid (g.over f=true->Pu.jd f g=7∧Pu.iH f g=f):=fun h=>by
    have e:Pu.jd f g=7:=by unfold Pu.jd;rw[if_pos HF.out,if_pos h]
    exact⟨e,by unfold Pu.iH;rw[e];rfl⟩
   have U2:Hid (g.over f=false->Pu.jd f g=0∧Pu.iH f g=Pu.add (Pu.add (Pu.add (Pu.add f (c*8) g.cash) (c*8+2) g.s0) (c*8+3) g.s1) (c*8+4) g.s2):=fun h=>by
    have e:Pu.jd f g=0:=by unfold Pu.jd;rw[if_pos HF.out,if_neg (by rw[h];simp)]
    exact⟨e,by unfold Pu.iH;rw[if_pos e,hc,Int.toNat_natCast]⟩
   have MH:Hid (∀ w',Below w3.heap.size w3 w'->(∀ i,i<48->w'.cell? ⟨p,i,none⟩=some (.int .i64 (f i)))∧∀ i,w'.frozen? ⟨p,i,none⟩=false):=fun w' hb=>⟨fun i hi=>(BP.gy hb).cell hi,fun i=>(BP.gy hb).frozen i⟩;have hcl:=(MH.out w3 (bRq _ _)).1;have c0:=hcl (c*8) (by omega);have c1:=hcl (c*8+1) (by omega);have c2:=hcl (c*8+2) (by omega);have c3:=hcl (c*8+3) (by omega);have c4:=hcl (c*8+4) (by omega);have c5:=hcl (c*8+5) (by omega);have c6:=hcl (c*8+6) (by omega);have c7:=hcl (c*8+7) (by omega);clear hb3 hX BP HI HN HX0 fY hcl;generalize f (c*8)=u0 at *;generalize f (c*8+1)=u1 at *;generalize f (c*8+2)=u2 at *;generalize f (c*8+3)=u3 at *;generalize f (c*8+4)=u4 at *;generalize f (c*8+5)=u5 at *;generalize f (c*8+6)=u6 at *;generalize f (c*8+7)=u7 at *;generalize agL:g.cash=ca at *;generalize hs0:g.s0=s0 at *;generalize hs1:g.s1=s1 at *;generalize hs2:g.s2=s2 at *;clear agL hs0 hs1 hs2;have HH:Hid ((w3.alloc (.cells #[.int .i64 u0,.int .i64 u1,.int .i64 u2,.int .i64 u3,.int .i64 u4,.int .i64 u5,.int .i64 u6,.int .i64 u7] 140)).heap[w3.heap.size]?=some (.cells #[.int .i64 u0,.int .i64 u1,.int .i64 u2,.int .i64 u3,.int .i64 u4,.int .i64 u5,.int .i64 u6,.int .i64 u7] 140 (0,0))):=hNq _ _;have dr:Hid (Below w3.heap.size w3 (w3.alloc (.cells #[.int .i64 u0,.int .i64 u1,.int .i64 u2,.int .i64 u3,.int .i64 u4,.int .i64 u5,.int .i64 u6,.int .i64 u7] 140))):=(bRq _ _).alloc (lRq _) _;simp only[]
   go_wp2_with fail
   clear c0 c1 c2 c3 c4 c5 c6 c7;generalize w3.alloc (.cells #[.int .i64 u0,.int .i64 u1,.int .i64 u2,.int .i64 u3,.int .i64 u4,.int .i64 u5,.int .i64 u6,.int .i64 u7] 140)=w4 at *;by_cases o0:1099511627776-u0<ca
   ·have HO:Hid (g.over f=true):=by show _=_;rw[sx.out];simp[o0]
    refine(yO w3.heap.size 0 u0 ca 1099511627776 w4 (dB HH.out rfl) (by omega) (by omega) (by omega) o0).mono ?_;rintro e aj ⟨rfl,rfl⟩;have cg:Hid (Below w.heap.size w aj):=ar.out.trans (dr.out.mono ar.out.size);have e7:=(he.out.later cg.out).bN.c7;simp only[];go_wp2;go_ret;exact⟨by rw[(uy.out HO.out).1];rfl,by rw[(uy.out HO.out).2];exact gA.out.gy dr.out,aM.of_below cg.out p⟩
   refine(yP w3.heap.size 0 u0 ca 1099511627776 w4 (dB HH.out rfl) (yN HH.out) (by omega) (by omega) (by omega) (by omega) o0).mono ?_;rintro e aC ⟨rfl,tO⟩;have HH0:Hid (aC.heap[w3.heap.size]?=some (.cells #[.int .i64 (u0+ca),.int .i64 u1,.int .i64 u2,.int .i64 u3,.int .i64 u4,.int .i64 u5,.int .i64 u6,.int .i64 u7] 140 (0,0))):=by rw[tO];exact yM _ HH.out rfl
   have aot:Hid (Below w3.heap.size w3 aC):=by rw[tO];exact dr.out.setCell (lRq _) _
   clear HH dr tO
   rename Hid (aC.heap[w3.heap.size]?=_)=>HH
   rename Hid (Below w3.heap.size w3 aC)=>dr
   simp only[];have x0:=cell_later dr.out HX.out.1;have x1:=cell_later dr.out HX.out.2.1;have x2:=cell_later dr.out HX.out.2.2
   go_wp2_with fail
   clear x0 x1 x2;refine wp_loop_rounds 4 ?_;rw[rounds_succ]
   go_wp2_with fail
   by_cases o1:1073741824-u2<s0
   ·have HO:Hid (g.over f=true):=by show _=_;rw[sx.out];simp[o1]
    refine(yO w3.heap.size 2 u2 s0 1073741824 aC (dB HH.out rfl) (by omega) (by omega) (by omega) o1).mono ?_;rintro e aj ⟨rfl,rfl⟩;have cg:Hid (Below w.heap.size w aj):=ar.out.trans (dr.out.mono ar.out.size);have e7:=(he.out.later cg.out).bN.c7;simp only[];go_wp2;go_ret;exact⟨by rw[(uy.out HO.out).1];rfl,by rw[(uy.out HO.out).2];exact gA.out.gy dr.out,aM.of_below cg.out p⟩
   refine(yP w3.heap.size 2 u2 s0 1073741824 aC (dB HH.out rfl) (yN HH.out) (by omega) (by omega) (by omega) (by omega) o1).mono ?_;rintro e ai ⟨rfl,MI⟩;have sy:Hid (ai.heap[w3.heap.size]?=some (.cells #[.int .i64 (u0+ca),.int .i64 u1,.int .i64 (u2+s0),.int .i64 u3,.int .i64 u4,.int .i64 u5,.int .i64 u6,.int .i64 u7] 140 (0,0))):=by rw[MI];exact yM _ HH.out rfl
   have aou:Hid (Below w3.heap.size w3 ai):=by rw[MI];exact dr.out.setCell (lRq _) _
   clear HH dr MI
   rename Hid (ai.heap[w3.heap.size]?=_)=>HH
   rename Hid (Below w3.heap.size w3 ai)=>dr
   simp only[]
   go_wp2_with fail
   rw[rounds_succ]
   go_wp2_with fail
   by_cases o2:1073741824-u3<s1
   ·have HO:Hid (g.over f=true):=by show _=_;rw[sx.out];simp[o2]
    refine(yO w3.heap.size 3 u3 s1 1073741824 ai (dB HH.out rfl) (by omega) (by omega) (by omega) o2).mono ?_;rintro e aj ⟨rfl,rfl⟩;have cg:Hid (Below w.heap.size w aj):=ar.out.trans (dr.out.mono ar.out.size);have e7:=(he.out.later cg.out).bN.c7;simp only[];go_wp2;go_ret;exact⟨by rw[(uy.out HO.out).1];rfl,by rw[(uy.out HO.out).2];exact gA.out.gy dr.out,aM.of_below cg.out p⟩
   refine(yP w3.heap.size 3 u3 s1 1073741824 ai (dB HH.out rfl) (yN HH.out) (by omega) (by omega) (by omega) (by omega) o2).mono ?_;rintro e bq ⟨rfl,oU⟩;have wN:Hid (bq.heap[w3.heap.size]?=some (.cells #[.int .i64 (u0+ca),.int .i64 u1,.int .i64 (u2+s0),.int .i64 (u3+s1),.int .i64 u4,.int .i64 u5,.int .i64 u6,.int .i64 u7] 140 (0,0))):=by rw[oU];exact yM _ HH.out rfl
   have aov:Hid (Below w3.heap.size w3 bq):=by rw[oU];exact dr.out.setCell (lRq _) _
   clear HH dr oU
   rename Hid (bq.heap[w3.heap.size]?=_)=>HH
   rename Hid (Below w3.heap.size w3 bq)=>dr
   simp only[]
   go_wp2_with fail
   rw[rounds_succ]
   go_wp2_with fail
   by_cases o3:1073741824-u4<s2
   ·have HO:Hid (g.over f=true):=by show _=_;rw[sx.out];simp[o3]
    refine(yO w3.heap.size 4 u4 s2 1073741824 bq (dB HH.out rfl) (by omega) (by omega) (by omega) o3).mono ?_;rintro e aj ⟨rfl,rfl⟩;have cg:Hid (Below w.heap.size w aj):=ar.out.trans (dr.out.mono ar.out.size);have e7:=(he.out.later cg.out).bN.c7;simp only[];go_wp2;go_ret;exact⟨by rw[(uy.out HO.out).1];rfl,by rw[(uy.out HO.out).2];exact gA.out.gy dr.out,aM.of_below cg.out p⟩
   refine(yP w3.heap.size 4 u4 s2 1073741824 bq (dB HH.out rfl) (yN HH.out) (by omega) (by omega) (by omega) (by omega) o3).mono ?_;rintro e b9 ⟨rfl,Gu⟩;have aow:Hid (b9.heap[w3.heap.size]?=some (.cells #[.int .i64 (u0+ca),.int .i64 u1,.int .i64 (u2+s0),.int .i64 (u3+s1),.int .i64 (u4+s2),.int .i64 u5,.int .i64 u6,.int .i64 u7] 140 (0,0))):=by rw[Gu];exact yM _ HH.out rfl
   have aox:Hid (Below w3.heap.size w3 b9):=by rw[Gu];exact dr.out.setCell (lRq _) _
   clear HH dr Gu
   rename Hid (b9.heap[w3.heap.size]?=_)=>HH
   rename Hid (Below w3.heap.size w3 b9)=>dr
   simp only[]
   go_wp2_with fail
   rw[rounds_succ]
   go_wp2_with fail
   have HO:Hid (g.over f=false):=by show _=_;rw[sx.out];simp[o0,o1,o2,o3]
   have d0:b9.cell? ⟨w3.heap.size,0,none⟩=some (.int .i64 (u0+ca)):=dB HH.out rfl;have d1:b9.cell? ⟨w3.heap.size,1,none⟩=some (.int .i64 (u1)):=dB HH.out rfl;have d2:b9.cell? ⟨w3.heap.size,2,none⟩=some (.int .i64 (u2+s0)):=dB HH.out rfl;have d3:b9.cell? ⟨w3.heap.size,3,none⟩=some (.int .i64 (u3+s1)):=dB HH.out rfl;have d4:b9.cell? ⟨w3.heap.size,4,none⟩=some (.int .i64 (u4+s2)):=dB HH.out rfl;have d5:b9.cell? ⟨w3.heap.size,5,none⟩=some (.int .i64 (u5)):=dB HH.out rfl;have iG:b9.cell? ⟨w3.heap.size,6,none⟩=some (.int .i64 (u6)):=dB HH.out rfl;have l5:b9.cell? ⟨w3.heap.size,7,none⟩=some (.int .i64 (u7)):=dB HH.out rfl;have hfz:=fun i=>(MH.out _ dr.out).2 i;have hcl:=(MH.out _ dr.out).1;have c0:=hcl (c*8) (by omega);have c1:=hcl (c*8+1) (by omega);have c2:=hcl (c*8+2) (by omega);have c3:=hcl (c*8+3) (by omega);have c4:=hcl (c*8+4) (by omega);have c5:=hcl (c*8+5) (by omega);have c6:=hcl (c*8+6) (by omega);have c7:=hcl (c*8+7) (by omega);have z0:=hfz (c*8);have dn:=hfz (c*8+1);have z2:=hfz (c*8+2);have z3:=hfz (c*8+3);have z4:=hfz (c*8+4);have z5:=hfz (c*8+5);have xQ:=hfz (c*8+6);have xR:=hfz (c*8+7);clear hfz hcl;refine j5 6 (by kernel_rfl) (by kernel_rfl) ?_;simp only[List.take_succ_cons,List.take_zero,List.drop_succ_cons,List.drop_zero]
   repeat (first | go_big_quiet_step (fail) | quiet_step (fail))
   refine wpQuiet_nil ?_;intro _ hw';obtain⟨nq,hw''⟩:=hw';subst hw'';go_wp2;go_ret;have je:Below w.heap.size w (b9.drewN nq):=(ar.out.trans (dr.out.mono ar.out.size)).trans ((dQ nq).mono (ar.out.trans (dr.out.mono ar.out.size)).size);refine⟨by rw[(U2.out HO.out).1];rfl,by rw[(U2.out HO.out).2];exact agJ.out _ _ _ _ _ ((gA.out.gy dr.out).drew nq) rfl rfl rfl rfl,?_⟩;exact((((((((aM.of_below je p).trans (aM.setCell _ _ _ _)).trans (aM.setCell _ _ _ _)).trans (aM.setCell _ _ _ _)).trans (aM.setCell _ _ _ _)).trans (aM.setCell _ _ _ _)).trans (aM.setCell _ _ _ _)).trans (aM.setCell _ _ _ _)).trans (aM.setCell _ _ _ _)
structure ye (w:World) (v:Nat->Value):Prop where
 per:tN w v
 c2:w.cell? ⟨3,0,none⟩=some (.iface 412 (v 2))
 c11:w.cell? ⟨11,0,none⟩=some (.iface 412 (v 11))
theorem ye.later {w w':World} {v:Nat->Value} (h:ye w v) (hb:Below w.heap.size w w'):ye w' v:=⟨h.per.later hb,cell_later hb h.c2,cell_later hb h.c11⟩
def jl (x:Cv.ag):Array Value:=#[.int .i64 x.id,.int .i64 x.ak,.int .i64 x.sd,.int .i64 x.pr,.int .i64 x.q]
theorem agF (item:Int) (b s:Cv.ag) (price qty:Int) (v:Nat->Value) (w:World) (he:Hid (ye w v)) :
  Calls Tryz.prog 307 #[.int .i64 item,bS b,bS s,.int .i64 price,.int .i64 qty] w fun e w'=>e=.returned (cV v (Pu.lx item b s price qty))∧Below w.heap.size w w':=by
 show Calls Tryz.prog 307 #[.int .i64 item,.agg #[.int .i64 b.id,.int .i64 b.ak,.int .i64 b.sd,.int .i64 b.pr,.int .i64 b.q],.agg #[.int .i64 s.id,.int .i64 s.ak,.int .i64 s.sd,.int .i64 s.pr,.int .i64 s.q],.int .i64 price,.int .i64 qty] w _;obtain⟨W,fC⟩:∃ W,(w.alloc (.cells #[.int .i64 b.id,.int .i64 b.ak,.int .i64 b.sd,.int .i64 b.pr,.int .i64 b.q] 197)).alloc (.cells #[.int .i64 s.id,.int .i64 s.ak,.int .i64 s.sd,.int .i64 s.pr,.int .i64 s.q] 197)=W:=⟨_,rfl⟩;have hb1:Below w.heap.size w (w.alloc (.cells #[.int .i64 b.id,.int .i64 b.ak,.int .i64 b.sd,.int .i64 b.pr,.int .i64 b.q] 197)):=(bRq _ _).alloc (lRq _) _;have hb2:Below w.heap.size w W:=by rw[<- fC];exact hb1.alloc hb1.size _
 have oL:W.heap[w.heap.size]?=some (.cells (jl b) 197 (0,0)):=by
  rw[<- fC];exact(Below.heap_alloc _ _ _ (by simp)).trans (hNq _ _)
 have lK:W.heap[w.heap.size+1]?=some (.cells (jl s) 197 (0,0)):=by
  rw[<- fC]
  have:=hNq (w.alloc (.cells #[.int .i64 b.id,.int .i64 b.ak,.int .i64 b.sd,.int .i64 b.pr,.int .i64 b.q] 197)) (.cells #[.int .i64 s.id,.int .i64 s.ak,.int .i64 s.sd,.int .i64 s.pr,.int .i64 s.q] 197)
  rw[show (w.alloc (.cells #[.int .i64 b.id,.int .i64 b.ak,.int .i64 b.sd,.int .i64 b.pr,.int .i64 b.q] 197)).heap.size=w.heap.size+1 by simp]at this;exact this
 have HX0:=hDq oL;have gT:=hDq lK;have cq:=hDq hb2;have HC:=hDq (Gr item b 412 _ _ _ W (he.out.later hb2).per.bN);unfold bS at HC;have iQ:=hDq fC;clear hb1 hb2 oL lK fC;go_enter Tryz.func307,Tryz.ntmps307
 go_wp2_with fail
 rw[iQ.out];clear iQ;refine HC.out.mono ?_;rintro e w2 ⟨rfl,hb2⟩;have HB:Hid (Below w.heap.size w w2):=cq.out.trans (hb2.mono cq.out.size);have HX:Hid (w2.heap[w.heap.size]?=some (.cells (jl b) 197 (0,0))):=by show _=_;rw[hb2.block _ (lBq HX0.out)];exact HX0.out
 have dV:Hid (w2.heap[w.heap.size+1]?=some (.cells (jl s) 197 (0,0))):=by show _=_;rw[hb2.block _ (lBq gT.out)];exact gT.out
 clear hb2 HC cq HX0 gT;cases qd:Pu.well item b with
 | false =>
  have HA:Hid (Pu.lx item b s price qty=1):=by show _=_;unfold Pu.lx;rw[if_neg (by rw[qd];simp)]
  have e1:=(he.out.later HB.out).per.bN.c1;clear qd;simp only[];go_wp2;go_ret;exact⟨by rw[HA.out];rfl,HB.out⟩
 | true =>
  have xJ:=hDq qd;clear qd;have HC:=hDq (Gr item s 412 _ _ _ w2 (he.out.later HB.out).per.bN);unfold bS at HC;have s0:w2.cell? ⟨w.heap.size+1,0,none⟩=some (.int .i64 s.id):=dB dV.out rfl;have s1:w2.cell? ⟨w.heap.size+1,1,none⟩=some (.int .i64 s.ak):=dB dV.out rfl;have s2:w2.cell? ⟨w.heap.size+1,2,none⟩=some (.int .i64 s.sd):=dB dV.out rfl;have s3:w2.cell? ⟨w.heap.size+1,3,none⟩=some (.int .i64 s.pr):=dB dV.out rfl;have l4:w2.cell? ⟨w.heap.size+1,4,none⟩=some (.int .i64 s.q):=dB dV.out rfl;simp only[]
  go_wp2_with fail
  refine HC.out.mono ?_;rintro e w3 ⟨rfl,hb3⟩;have ar:Hid (Below w.heap.size w w3):=HB.out.trans (hb3.mono HB.out.size);have dX:Hid (w3.heap[w.heap.size]?=some (.cells (jl b) 197 (0,0))):=by show _=_;rw[hb3.block _ (lBq HX.out)];exact HX.out
  have MD:Hid (w3.heap[w.heap.size+1]?=some (.cells (jl s) 197 (0,0))):=by show _=_;rw[hb3.block _ (lBq dV.out)];exact dV.out
  clear hb3 HC HX dV s0 s1 s2 s3 l4 HB;have HE:=hDq (he.out.later ar.out);cases Gs:Pu.well item s with
  | false =>
   have HA:Hid (Pu.lx item b s price qty=1):=by show _=_;unfold Pu.lx;rw[if_neg (by rw[Gs];simp)]
   have e1:=HE.out.per.bN.c1;clear Gs;simp only[];go_wp2;go_ret;exact⟨by rw[HA.out];rfl,ar.out⟩
  | true =>
   have UK:=hDq Gs;clear Gs;have HT:Hid (Pu.lx item b s price qty=if b.sd=0∧s.sd=1 then (if (1<=price∧price<=1000)∧1<=qty∧qty<=b.q∧qty<=s.q then (if s.pr<=price∧price<=b.pr then 0 else 11) else 1) else 2):=by show _=_;unfold Pu.lx;rw[if_pos ⟨xJ.out,UK.out⟩]
   have FH:=(Cv.fU (Pu.kj xJ.out)).2.2.2.2;have TS:=(Cv.fU (Pu.kj UK.out)).2.2.2.2;have b2:w3.cell? ⟨w.heap.size,2,none⟩=some (.int .i64 b.sd):=dB dX.out rfl;have b3:w3.cell? ⟨w.heap.size,3,none⟩=some (.int .i64 b.pr):=dB dX.out rfl;have b4:w3.cell? ⟨w.heap.size,4,none⟩=some (.int .i64 b.q):=dB dX.out rfl;have s2:w3.cell? ⟨w.heap.size+1,2,none⟩=some (.int .i64 s.sd):=dB MD.out rfl;have s3:w3.cell? ⟨w.heap.size+1,3,none⟩=some (.int .i64 s.pr):=dB MD.out rfl;have l4:w3.cell? ⟨w.heap.size+1,4,none⟩=some (.int .i64 s.q):=dB MD.out rfl;obtain⟨R,hR⟩:∃ R,Pu.lx item b s price qty=R:=⟨_,rfl⟩;have HR:=hDq hR;rw[hR]at HT;clear hR;generalize b.sd=UL at *;generalize b.pr=su at *;generalize b.q=wL at *;generalize s.sd=UM at *;generalize s.pr=sw at *;generalize s.q=sq at *;have c1:=HE.out.per.bN.c1;have c2:=HE.out.c2;have c11:=HE.out.c11;by_cases kR:UL=0
   ·by_cases m_:UM=1
    ·have HT2:Hid (R=if (1<=price∧price<=1000)∧1<=qty∧qty<=wL∧qty<=sq then (if sw<=price∧price<=su then 0 else 11) else 1):=by show _=_;rw[HT.out,if_pos ⟨kR,m_⟩]
     subst kR m_;clear HT;have HP:=hDq (gi price 1 1000 w3);cases tZ:ah.aB price 1 1000 with
     | false =>
      rw[tZ]at HP;have HA:Hid (R=1):=by
       show _=_;rw[HT2.out,if_neg];rintro⟨h,_⟩;rw[show ah.aB price 1 1000=true by simp[ah.aB,h.1,h.2]]at tZ;cases tZ
      clear tZ;simp only[]
      go_wp2_with fail
      refine HP.out.mono ?_;rintro e w4 ⟨rfl,rfl⟩;simp only[];go_wp2;go_ret;exact⟨by rw[HR.out,HA.out];rfl,ar.out⟩
     | true =>
      rw[tZ]at HP;have UN:Hid (1<=price∧price<=1000):=by
       have:=tZ
       simp only[ah.aB,Bool.and_eq_true,decide_eq_true_eq]at this;exact this
      clear tZ;simp only[]
      go_wp2_with fail
      refine HP.out.mono ?_;rintro e w4 ⟨rfl,rfl⟩;simp only[];by_cases hmn:sq<wL
      ·cases jL:ah.aB qty 1 sq with
       | false =>
        have HA:Hid (R=1):=by
         show _=_;rw[HT2.out,if_neg];rintro⟨_,h1,h2,h3⟩;rw[show ah.aB qty 1 sq=true by simp only[ah.aB,Bool.and_eq_true,decide_eq_true_eq];omega]at jL;cases jL
        have HQ:=hDq (gi qty 1 sq w4);rw[jL]at HQ;clear jL
        go_wp2_with fail
        refine HQ.out.mono ?_;rintro e aC ⟨rfl,rfl⟩;simp only[];go_wp2;go_ret;exact⟨by rw[HR.out,HA.out];rfl,ar.out⟩
       | true =>
        have HT3:Hid (R=if sw<=price∧price<=su then 0 else 11):=by
         have:=jL
         simp only[ah.aB,Bool.and_eq_true,decide_eq_true_eq]at this;show _=_;rw[HT2.out,if_pos ⟨UN.out,by omega,by omega,by omega⟩]
        have HQ:=hDq (gi qty 1 sq w4);rw[jL]at HQ;clear jL
        go_wp2_with fail
        refine HQ.out.mono ?_;rintro e aC ⟨rfl,rfl⟩;simp only[];have HO:=hDq (gi price sw su aC);cases jM:ah.aB price sw su with
        | false =>
         have HA:Hid (R=11):=by
          show _=_;rw[HT3.out,if_neg];rintro⟨h1,h2⟩;rw[show ah.aB price sw su=true by simp[ah.aB,h1,h2]]at jM;cases jM
         rw[jM]at HO;clear jM
         go_wp2_with fail
         refine HO.out.mono ?_;rintro e ai ⟨rfl,rfl⟩;simp only[];go_wp2;go_ret;exact⟨by rw[HR.out,HA.out];rfl,ar.out⟩
        | true =>
         have HA:Hid (R=0):=by
          have:=jM
          simp only[ah.aB,Bool.and_eq_true,decide_eq_true_eq]at this;show _=_;rw[HT3.out,if_pos this]
         rw[jM]at HO;clear jM
         go_wp2_with fail
         refine HO.out.mono ?_;rintro e ai ⟨rfl,rfl⟩;simp only[];go_wp2;go_ret;exact⟨by rw[HR.out,HA.out];rfl,ar.out⟩
      ·have aor:wL<=sq:=by omega
       cases jL:ah.aB qty 1 wL with
       | false =>
        have HA:Hid (R=1):=by
         show _=_;rw[HT2.out,if_neg];rintro⟨_,h1,h2,h3⟩;rw[show ah.aB qty 1 wL=true by simp only[ah.aB,Bool.and_eq_true,decide_eq_true_eq];omega]at jL;cases jL
        have HQ:=hDq (gi qty 1 wL w4);rw[jL]at HQ;clear jL
        go_wp2_with fail
        refine HQ.out.mono ?_;rintro e aC ⟨rfl,rfl⟩;simp only[];go_wp2;go_ret;exact⟨by rw[HR.out,HA.out];rfl,ar.out⟩
       | true =>
        have HT3:Hid (R=if sw<=price∧price<=su then 0 else 11):=by
         have:=jL
         simp only[ah.aB,Bool.and_eq_true,decide_eq_true_eq]at this;show _=_;rw[HT2.out,if_pos ⟨UN.out,by omega,by omega,by omega⟩]
        have HQ:=hDq (gi qty 1 wL w4);rw[jL]at HQ;clear jL
        go_wp2_with fail
        refine HQ.out.mono ?_;rintro e aC ⟨rfl,rfl⟩;simp only[];have HO:=hDq (gi price sw su aC);cases jM:ah.aB price sw su with
        | false =>
         have HA:Hid (R=11):=by
          show _=_;rw[HT3.out,if_neg];rintro⟨h1,h2⟩;rw[show ah.aB price sw su=true by simp[ah.aB,h1,h2]]at jM;cases jM
         rw[jM]at HO;clear jM
         go_wp2_with fail
         refine HO.out.mono ?_;rintro e ai ⟨rfl,rfl⟩;simp only[];go_wp2;go_ret;exact⟨by rw[HR.out,HA.out];rfl,ar.out⟩
        | true =>
         have HA:Hid (R=0):=by
          have:=jM
          simp only[ah.aB,Bool.and_eq_true,decide_eq_true_eq]at this;show _=_;rw[HT3.out,if_pos this]
         rw[jM]at HO;clear jM
         go_wp2_with fail
         refine HO.out.mono ?_;rintro e ai ⟨rfl,rfl⟩;simp only[];go_wp2;go_ret;exact⟨by rw[HR.out,HA.out];rfl,ar.out⟩
    ·have HA:Hid (R=2):=by show _=_;rw[HT.out,if_neg (by rintro⟨h1,h2⟩;first | exact kR h1 | exact m_ h2)]
     have aos:(UM==1)=false:=by simp[m_]
     subst kR;simp only[];go_wp2;go_ret;exact⟨by rw[HR.out,HA.out];rfl,ar.out⟩
   ·have HA:Hid (R=2):=by show _=_;rw[HT.out,if_neg (by rintro⟨h1,h2⟩;first | exact kR h1 | exact m_ h2)]
    have kq:(UL==0)=false:=by simp[kR]
    simp only[];go_wp2;go_ret;exact⟨by rw[HR.out,HA.out];rfl,ar.out⟩
theorem agX {ops:Array Oper} {rest:List Oper} {op:Oper} {a:Act} {w:World} {Q:Exit->Act->World->Prop} {B:Nat} {f:Nat->Int} (g:Nat->Int) (W':World) (h:a_ w 213 B f) (hW:w.setRow B (cw g)=W') (hgd:op.guard=none) (x y:Operand) (ho:op.op=.store 213 x y)
  (hx:a.eval x=.pointer (some ⟨B,0,none⟩)) (hy:a.eval y=.agg (cw g)) (k:wpList Tryz.prog ops Q rest (a.put op.dst undef) W'):wpList Tryz.prog ops Q (op::rest) a w:=by
 subst hW;exact FU g h hgd x y ho hx hy k
theorem TR (p:Nat) (item:Int) (b s:Cv.ag) (price qty:Int) (f:Nat->Int) (v:Nat->Value) (w:World) (he:Hid (ye w v)) (hp:Hid (a_ w 213 p f)) (hg:Hid (Pu.Good f)) :
  Calls Tryz.prog 290 #[.pointer (some ⟨p,0,none⟩),.int .i64 item,bS b,bS s,.int .i64 price,.int .i64 qty] w fun e w'=>e=.returned (cV v (Pu.g_ f item b s price qty))∧a_ w' 213 p (Pu.iY f item b s price qty)∧aM w w' p:=by
 show Calls Tryz.prog 290 #[.pointer (some ⟨p,0,none⟩),.int .i64 item,.agg #[.int .i64 b.id,.int .i64 b.ak,.int .i64 b.sd,.int .i64 b.pr,.int .i64 b.q],.agg #[.int .i64 s.id,.int .i64 s.ak,.int .i64 s.sd,.int .i64 s.pr,.int .i64 s.q],.int .i64 price,.int .i64 qty] w _;obtain⟨W,fC⟩:∃ W,(w.alloc (.cells #[.int .i64 b.id,.int .i64 b.ak,.int .i64 b.sd,.int .i64 b.pr,.int .i64 b.q] 197)).alloc (.cells #[.int .i64 s.id,.int .i64 s.ak,.int .i64 s.sd,.int .i64 s.pr,.int .i64 s.q] 197)=W:=⟨_,rfl⟩;have hb1:Below w.heap.size w (w.alloc (.cells #[.int .i64 b.id,.int .i64 b.ak,.int .i64 b.sd,.int .i64 b.pr,.int .i64 b.q] 197)):=(bRq _ _).alloc (lRq _) _;have hb2:Below w.heap.size w W:=by rw[<- fC];exact hb1.alloc hb1.size _
 have oL:W.heap[w.heap.size]?=some (.cells (jl b) 197 (0,0)):=by
  rw[<- fC];exact(Below.heap_alloc _ _ _ (by simp)).trans (hNq _ _)
 have lK:W.heap[w.heap.size+1]?=some (.cells (jl s) 197 (0,0)):=by
  rw[<- fC]
  have:=hNq (w.alloc (.cells #[.int .i64 b.id,.int .i64 b.ak,.int .i64 b.sd,.int .i64 b.pr,.int .i64 b.q] 197)) (.cells #[.int .i64 s.id,.int .i64 s.ak,.int .i64 s.sd,.int .i64 s.pr,.int .i64 s.q] 197)
  rw[show (w.alloc (.cells #[.int .i64 b.id,.int .i64 b.ak,.int .i64 b.sd,.int .i64 b.pr,.int .i64 b.q] 197)).heap.size=w.heap.size+1 by simp]at this;exact this
 have HX0:=hDq oL;have gT:=hDq lK;have cq:=hDq hb2;have HC:=hDq (agF item b s price qty v W (he.out.later hb2));unfold bS at HC;have iQ:=hDq fC;have hpl:=hp.out.lt;clear hb1 hb2 oL lK fC;go_enter Tryz.func290,Tryz.ntmps290
 go_wp2_with fail
 rw[iQ.out];clear iQ;refine HC.out.mono ?_;rintro e w2 ⟨rfl,hb2⟩;have HB:Hid (Below w.heap.size w w2):=cq.out.trans (hb2.mono cq.out.size);have HX:Hid (w2.heap[w.heap.size]?=some (.cells (jl b) 197 (0,0))):=by show _=_;rw[hb2.block _ (lBq HX0.out)];exact HX0.out
 have dV:Hid (w2.heap[w.heap.size+1]?=some (.cells (jl s) 197 (0,0))):=by show _=_;rw[hb2.block _ (lBq gT.out)];exact gT.out
 clear hb2 HC cq HX0 gT;obtain⟨R,hR⟩:∃ R,Pu.lx item b s price qty=R:=⟨_,rfl⟩;by_cases h0:R=0
 ·have HT:Hid (Pu.g_ f item b s price qty=if Pu.mV f b.ak.toNat s.ak.toNat item.toNat b.pr qty=true then 9 else if Pu.over f b.ak.toNat s.ak.toNat item.toNat price qty=true then 7 else 0):=by
   show _=_;unfold Pu.g_;rw[if_pos (hR.trans h0)]
  have HF:Hid (Pu.iY f item b s price qty=if Pu.g_ f item b s price qty=0 then Pu.six f b.ak.toNat s.ak.toNat item.toNat b.pr price qty else f):=rfl;have hr:=Pu.UU (hR.trans h0);rw[hR,h0];obtain⟨k,rfl,hk⟩:=Pu.BO hr.bU;obtain⟨cb,hcb,U_⟩:=Pu.uw hr.bU;obtain⟨cs,hcs,U'⟩:=Pu.uw hr.ws;have hm:=hr.UW;have lV:=hDq hr;have BU:=hDq (Pu.agV (f:=f) hr.bU hr.q.1 hr.q.2.1 hr.sb);have FS:=hDq (fun g=>Pu.agW (f:=g) hr.ws hr.q.1 hr.q.2.2 hr.ss);have I7:=hr.q;have hgr:=hDq (fun pK=>Pu.grows hg.out (b:=cb) (s:=cs) (k:=k) (bp:=b.pr) (price:=price) (qty:=qty) U_ U' hk ⟨hm.1.1,hm.2.2.1⟩ hr.q.1 pK);rw[hcb,hcs]at HT HF;simp only[Int.toNat_natCast]at HT HF;simp only[hcb,hcs,Int.toNat_natCast]at BU FS;clear hR h0 R hr;obtain⟨W3,hW3⟩:∃ W3,(w2.alloc (.cells (cw fun _=>0) 213)).setRow w2.heap.size (cw f)=W3:=⟨_,rfl⟩;have MP:a_ (w2.alloc (.cells (cw fun _=>0) 213)) 213 w2.heap.size (fun _=>0):=a_.new w2 213 _;have Gy:=hDq MP;have Va:a_ W3 213 w2.heap.size f:=by rw[<- hW3];exact MP.stored f
  have hB3:Below w2.heap.size w2 W3:=by rw[<- hW3];exact below_setRow ((bRq _ _).alloc (lRq _) _) (lRq _) _
  have uD:W3.heap[w.heap.size]?=some (.cells (jl b) 197 (0,0)):=by rw[hB3.block _ (lBq HX.out)];exact HX.out
  have Gz:W3.heap[w.heap.size+1]?=some (.cells (jl s) 197 (0,0)):=by rw[hB3.block _ (lBq dV.out)];exact dV.out
  have lM:w.heap.size+1<w2.heap.size:=lBq dV.out;have fY:=hDq (hp.out.gy HB.out);have Vb:=hDq Va;have HW3:=hDq hW3;have ar:Hid (Below w.heap.size w W3):=HB.out.trans (hB3.mono HB.out.size);have x0:W3.cell? ⟨w.heap.size,0,none⟩=some (.int .i64 b.id):=dB uD rfl;have x1:W3.cell? ⟨w.heap.size,1,none⟩=some (.int .i64 b.ak):=dB uD rfl;have x2:W3.cell? ⟨w.heap.size,2,none⟩=some (.int .i64 b.sd):=dB uD rfl;have x3:W3.cell? ⟨w.heap.size,3,none⟩=some (.int .i64 b.pr):=dB uD rfl;have x4:W3.cell? ⟨w.heap.size,4,none⟩=some (.int .i64 b.q):=dB uD rfl;have y4:W3.cell? ⟨w.heap.size+1,4,none⟩=some (.int .i64 s.q):=dB Gz rfl;have xf:W3.frozen? ⟨w.heap.size,4,none⟩=false:=yN uD;have agY:W3.frozen? ⟨w.heap.size+1,4,none⟩=false:=yN Gz;have z55:=ML;have l6:=hDq uD;have Vd:=hDq Gz;clear Va hB3 uD Gz MP hW3;unfold cV;simp only[]
  go_wp2_with (first | refine MN (B:=p) (f:=f) fY.out rfl (.tmp 27) rfl rfl ?_ | refine agX (B:=w2.heap.size) f W3 (f:=fun _=>0) Gy.out HW3.out rfl (.tmp 14) (.tmp 28) rfl rfl rfl ?_)
  obtain⟨W4,yS⟩:∃ W4,(W3.setCell ⟨w.heap.size,4,none⟩ (.int .i64 qty)).setCell ⟨w.heap.size+1,4,none⟩ (.int .i64 qty)=W4:=⟨_,rfl⟩;have MQ:W4.heap[w.heap.size]?=some (.cells (jl (Pu.only b qty)) 197 (0,0)):=by
   rw[<- yS,Below.heap_setCell _ _ _ _ (by show w.heap.size≠w.heap.size+1;omega)];exact yM _ l6.out rfl
  have Ve:W4.heap[w.heap.size+1]?=some (.cells (jl (Pu.only s qty)) 197 (0,0)):=by
   rw[<- yS];refine yM (a:=jl s) _ ?_ rfl;rw[Below.heap_setCell _ _ _ _ (by show w.heap.size+1≠w.heap.size;omega)];exact Vd.out
  have yT:a_ W4 213 w2.heap.size f:=by
   rw[<- yS];exact(Vb.out.other (by show w2.heap.size≠w.heap.size;omega) _).other (by show w2.heap.size≠w.heap.size+1;omega) _
  have hB4:Below w.heap.size w W4:=by rw[<- yS];exact(ar.out.setCell (lRq _) _).setCell (by show w.heap.size<=w.heap.size+1;omega) _
  rw[yS];have kt:=hDq MQ;have MR:=hDq Ve;have Vf:=hDq yT;have bQ:=hDq hB4;clear MQ Ve yT hB4 yS HW3 Vb ar l6 Vd x0 x1 x2 x3 x4 y4 xf agY Gy;have fy:=hDq (Lu w2.heap.size k (Pu.only b qty) f v W4 (he.out.later bQ.out).per Vf.out hg.out);rw[show bS (Pu.only b qty)=.agg #[.int .i64 b.id,.int .i64 cb,.int .i64 b.sd,.int .i64 b.pr,.int .i64 qty] by simp[bS,Pu.only,hcb]]at fy;refine fy.out.mono ?_;clear fy;rintro e aC ⟨rfl,tW,hs5⟩;have cA:Hid (Below w.heap.size w aC):=bQ.out.trans (hs5.below bQ.out.size (by omega));have nY:Hid (aC.heap[w.heap.size]?=some (.cells (jl (Pu.only b qty)) 197 (0,0))):=by show _=_;rw[hs5.block _ (lBq kt.out) (by omega)];exact kt.out
  have uE:Hid (aC.heap[w.heap.size+1]?=some (.cells (jl (Pu.only s qty)) 197 (0,0))):=by show _=_;rw[hs5.block _ (lBq MR.out) (by omega)];exact MR.out
  clear hs5 kt MR Vf bQ;by_cases pK:f (cb*8+1)<b.pr*qty
  ·have HA:Hid (Pu.g_ f k b s price qty=9∧Pu.iY f k b s price qty=f):=by
    have e:Pu.g_ f k b s price qty=9:=by rw[HT.out,if_pos (by simp[Pu.mV,pK])]
    exact⟨e,by rw[HF.out,e];rfl⟩
   rw[BU.out.1,if_pos pK];have c9:=(he.out.later cA.out).per.c9;clear tW;unfold cV;simp only[];go_wp2;go_ret;exact⟨by rw[HA.out.1];rfl,by rw[HA.out.2];exact hp.out.gy cA.out,aM.of_below cA.out p⟩
  ·have MS:b.pr*qty<=f (cb*8+1):=by omega
   rw[BU.out.2.1 MS]at tW;rw[BU.out.1,if_neg pK];have mL:=hDq tW;have MU:Pu.Good (Pu.g1 f cb (b.pr*qty)):=by rw[<- BU.out.2.1 MS];exact Pu.Rt hg.out _ _
   have aoz:=hDq MU;have cn:=hDq (Lu w2.heap.size k (Pu.only s qty) _ v aC (he.out.later cA.out).per tW MU);rw[show bS (Pu.only s qty)=.agg #[.int .i64 s.id,.int .i64 cs,.int .i64 s.sd,.int .i64 s.pr,.int .i64 qty] by simp[bS,Pu.only,hcs]]at cn;have x0:aC.cell? ⟨w.heap.size+1,0,none⟩=some (.int .i64 s.id):=dB uE.out rfl;have x1:aC.cell? ⟨w.heap.size+1,1,none⟩=some (.int .i64 s.ak):=dB uE.out rfl;have x2:aC.cell? ⟨w.heap.size+1,2,none⟩=some (.int .i64 s.sd):=dB uE.out rfl;have x3:aC.cell? ⟨w.heap.size+1,3,none⟩=some (.int .i64 s.pr):=dB uE.out rfl;have x4:aC.cell? ⟨w.heap.size+1,4,none⟩=some (.int .i64 qty):=dB uE.out rfl;clear tW MU;unfold cV;simp only[]
   go_wp2_with fail
   refine cn.out.mono ?_;clear cn x0 x1 x2 x3 x4;rintro e ai ⟨rfl,GA,gz⟩;have aS:Hid (Below w.heap.size w ai):=cA.out.trans (gz.below cA.out.size (by omega));have mS:Hid (ai.heap[w.heap.size]?=some (.cells (jl (Pu.only b qty)) 197 (0,0))):=by show _=_;rw[gz.block _ (lBq nY.out) (by omega)];exact nY.out
   have Vg:Hid (ai.heap[w.heap.size+1]?=some (.cells (jl (Pu.only s qty)) 197 (0,0))):=by show _=_;rw[gz.block _ (lBq uE.out) (by omega)];exact uE.out
   clear gz nY uE;have HK:=hDq (Pu.agS (f:=f) (b:=cb) (s:=cs) (k:=k) (H:=b.pr*qty) hk);by_cases hpk:f (cs*8+5+k)<qty
   ·have HA:Hid (Pu.g_ f k b s price qty=9∧Pu.iY f k b s price qty=f):=by
     have e:Pu.g_ f k b s price qty=9:=by rw[HT.out,if_pos (by simp[Pu.mV,hpk])]
     exact⟨e,by rw[HF.out,e];rfl⟩
    rw[(FS.out _).1,HK.out,if_pos hpk];have c9:=(he.out.later aS.out).per.c9;clear GA;unfold cV;simp only[];go_wp2;go_ret;exact⟨by rw[HA.out.1];rfl,by rw[HA.out.2];exact hp.out.gy aS.out,aM.of_below aS.out p⟩
   ·have Vh:qty<=Pu.g1 f cb (b.pr*qty) (cs*8+5+k):=by rw[HK.out];omega
    rw[(FS.out _).2.1 Vh]at GA;rw[(FS.out _).1,HK.out,if_neg hpk];have GB:Hid (Pu.mV f cb cs k b.pr qty=false):=by show _=_;simp only[Pu.mV,Bool.or_eq_false_iff,decide_eq_false_iff_not];exact⟨by omega,by omega⟩
    have qx:Hid (a_ ai 213 w2.heap.size (Pu.g2 f cb cs k (b.pr*qty) qty)):=GA;have agZ:=hgr.out GB.out;have hcc:=hg.out.cash cb U_;have m_:=hg.out.stock cs k U' hk;have b0:ai.cell? ⟨w2.heap.size,cb*8,none⟩=some (.int .i64 (f (cb*8))):=by rw[qx.out.cell (by omega),Pu.Gw hk]
    have MV:=qx.out.frozen (cb*8);have o1:ai.cell? ⟨w.heap.size,1,none⟩=some (.int .i64 b.ak):=dB mS.out rfl;have o2:ai.cell? ⟨w.heap.size+1,1,none⟩=some (.int .i64 s.ak):=dB Vg.out rfl;have hbi:(cb:Int)<6:=by omega
    have hsi:(cs:Int)<6:=by omega
    have aX:(k:Int)<3:=by omega
    rw[hcb]at o1;rw[hcs]at o2;clear GA Vh MS;unfold cV;simp only[];go_wp2
    go_quiet (fail)
    have jC:Hid (Below w.heap.size w (ai.drewN nq)):=aS.out.trans ((dQ nq).mono aS.out.size);have nc:=hDq (qx.out.drew nq);clear qx aS mS Vg b0 MV o1 o2;generalize ai.drewN nq=bq at *;have b0:bq.cell? ⟨w2.heap.size,cb*8,none⟩=some (.int .i64 (f (cb*8))):=by rw[nc.out.cell (by omega),Pu.Gw hk]
    have MV:=nc.out.frozen (cb*8);obtain⟨⟨m1,m2⟩,⟨m3,m4⟩,m5,m6⟩:=hm;obtain⟨q1,q2,q3⟩:=I7;obtain⟨u1,u2,u3⟩:=hcc;obtain⟨u4,u5,u6⟩:=m_;have hwr:0<=f (cb*8)-price*qty:=by omega
    obtain⟨wP,GD⟩:∃ wP,bq.setCell ⟨w2.heap.size,cb*8,none⟩ (.int .i64 (f (cb*8)-price*qty))=wP:=⟨_,rfl⟩;have wQ:Hid (a_ wP 213 w2.heap.size (Pu.g3 f cb cs k (b.pr*qty) qty (price*qty))):=by
     show a_ _ _ _ _;rw[<- GD];exact nc.out.add _ _ _ (by rw[Pu.Gw hk];omega)
    have jD:Hid (Below w.heap.size w wP):=by show Below _ _ _;rw[<- GD];exact jC.out.setCell (by show _<=w2.heap.size;omega) _
    have Vi:=hDq GD;clear GD;go_wp2;rw[Vi.out];clear Vi nc jC b0 MV;have d0:wP.cell? ⟨w2.heap.size,cs*8+2+k,none⟩=some (.int .i64 (f (cs*8+2+k))):=by rw[wQ.out.cell (by omega),Pu.Gx hk]
    have aoA:0<=f (cs*8+2+k)-qty:=by omega
    refine j5 11 (by kernel_rfl) (by kernel_rfl) ?_;simp only[List.take_succ_cons,List.take_zero,List.drop_succ_cons,List.drop_zero]
    repeat (first | go_big_quiet_step (fail) | quiet_step (fail))
    refine wpQuiet_nil ?_;intro _ hw';obtain⟨nq,hw''⟩:=hw';subst hw'';have yU:Hid (Below w.heap.size w (wP.drewN nq)):=jD.out.trans ((dQ nq).mono jD.out.size);have sD:=hDq (wQ.out.drew nq);clear wQ jD d0;generalize wP.drewN nq=gw at *;have d0:gw.cell? ⟨w2.heap.size,cs*8+2+k,none⟩=some (.int .i64 (f (cs*8+2+k))):=by rw[sD.out.cell (by omega),Pu.Gx hk]
    have ag0:=sD.out.frozen (cs*8+2+k);obtain⟨yV,GF⟩:∃ yV,gw.setCell ⟨w2.heap.size,cs*8+2+k,none⟩ (.int .i64 (f (cs*8+2+k)-qty))=yV:=⟨_,rfl⟩;have GG:Hid (a_ yV 213 w2.heap.size (Pu.g4 f cb cs k (b.pr*qty) qty (price*qty))):=by
     show a_ _ _ _ _;rw[<- GF];exact sD.out.add _ _ _ (by rw[Pu.Gx hk];omega)
    have vH:Hid (Below w.heap.size w yV):=by show Below _ _ _;rw[<- GF];exact yU.out.setCell (by show _<=w2.heap.size;omega) _
    have Vj:=hDq GF;clear GF
    go_wp2_with fail
    rw[Vj.out];clear Vj sD yU d0 ag0;have MW:=GG.out.cell (i:=cb*8+2+k) (by omega);have Vk:=GG.out.frozen (cb*8+2+k);obtain⟨⟨k1,k2⟩,⟨k3,k4⟩,pC⟩:=agZ;have sx:=hDq pC;clear pC;have BV:Hid (∀ W,a_ W 213 w2.heap.size (Pu.g4 f cb cs k (b.pr*qty) qty (price*qty))->a_ (W.setCell ⟨w2.heap.size,cb*8+2+k,none⟩ (.int .i64 (Pu.g4 f cb cs k (b.pr*qty) qty (price*qty) (cb*8+2+k)+qty))) 213 w2.heap.size (Pu.g5 f cb cs k (b.pr*qty) qty (price*qty))):=fun W h=>h.add _ _ _ rfl;have Vl:Hid (∀ W,a_ W 213 w2.heap.size (Pu.g5 f cb cs k (b.pr*qty) qty (price*qty))->a_ (W.setCell ⟨w2.heap.size,cs*8,none⟩ (.int .i64 (Pu.g5 f cb cs k (b.pr*qty) qty (price*qty) (cs*8)+price*qty))) 213 w2.heap.size (Pu.six f cb cs k b.pr price qty)):=fun W h=>h.add _ _ _ rfl;generalize Pu.g4 f cb cs k (b.pr*qty) qty (price*qty) (cb*8+2+k)=t5 at *;by_cases o1:1073741824-t5<qty
    ·have HA:Hid (Pu.g_ f k b s price qty=7∧Pu.iY f k b s price qty=f):=by
      have e:Pu.g_ f k b s price qty=7:=by rw[HT.out,if_neg (by rw[GB.out];simp),if_pos (by rw[sx.out];simp[o1])]
      exact⟨e,by rw[HF.out,e];rfl⟩
     refine(yO w2.heap.size (cb*8+2+k) t5 qty 1073741824 yV MW k1 k2 (by omega) o1).mono ?_;rintro e aj ⟨rfl,rfl⟩;have c7:=(he.out.later vH.out).per.bN.c7;simp only[];go_wp2;go_ret;exact⟨by rw[HA.out.1];rfl,by rw[HA.out.2];exact hp.out.gy vH.out,aM.of_below vH.out p⟩
    refine(yP w2.heap.size (cb*8+2+k) t5 qty 1073741824 yV MW Vk k1 k2 (by omega) (by omega) o1).mono ?_;rintro e GH ⟨rfl,MX⟩;have GI:Hid (a_ GH 213 w2.heap.size (Pu.g5 f cb cs k (b.pr*qty) qty (price*qty))):=by
     show a_ _ _ _ _;rw[MX];exact BV.out _ GG.out
    have uF:Hid (Below w.heap.size w GH):=by show Below _ _ _;rw[MX];exact vH.out.setCell (by show _<=w2.heap.size;omega) _
    clear MX GG vH BV MW Vk;have MY:=GI.out.cell (i:=cs*8) (by omega);have Vm:=GI.out.frozen (cs*8);generalize Pu.g5 f cb cs k (b.pr*qty) qty (price*qty) (cs*8)=MZ at *;simp only[]
    go_wp2_with fail
    by_cases o2:1099511627776-MZ<price*qty
    ·have HA:Hid (Pu.g_ f k b s price qty=7∧Pu.iY f k b s price qty=f):=by
      have e:Pu.g_ f k b s price qty=7:=by rw[HT.out,if_neg (by rw[GB.out];simp),if_pos (by rw[sx.out];simp[o2])]
      exact⟨e,by rw[HF.out,e];rfl⟩
     refine(yO w2.heap.size (cs*8) MZ (price*qty) 1099511627776 GH MY k3 k4 (by omega) o2).mono ?_;rintro e aj ⟨rfl,rfl⟩;have c7:=(he.out.later uF.out).per.bN.c7;simp only[];go_wp2;go_ret;exact⟨by rw[HA.out.1];rfl,by rw[HA.out.2];exact hp.out.gy uF.out,aM.of_below uF.out p⟩
    have HA:Hid (Pu.g_ f k b s price qty=0∧Pu.iY f k b s price qty=Pu.six f cb cs k b.pr price qty):=by
     have e:Pu.g_ f k b s price qty=0:=by rw[HT.out,if_neg (by rw[GB.out];simp),if_neg (by rw[sx.out,Bool.or_eq_true,decide_eq_true_eq,decide_eq_true_eq];omega)]
     exact⟨e,by rw[HF.out,e];rfl⟩
    refine(yP w2.heap.size (cs*8) MZ (price*qty) 1099511627776 GH MY Vm k3 k4 (by omega) (by omega) o2).mono ?_;rintro e M0 ⟨rfl,M3⟩;have ag1:Hid (a_ M0 213 w2.heap.size (Pu.six f cb cs k b.pr price qty)):=by
     show a_ _ _ _ _;rw[M3];exact Vl.out _ GI.out
    have r7:Hid (Below w.heap.size w M0):=by show Below _ _ _;rw[M3];exact uF.out.setCell (by show _<=w2.heap.size;omega) _
    have AU:Hid (a_ M0 213 p f):=hp.out.gy r7.out;clear M3 GI uF Vl MY Vm;simp only[]
    go_wp2_with (first | refine MN (B:=w2.heap.size) (f:=Pu.six f cb cs k b.pr price qty) ag1.out rfl (.tmp 14) rfl rfl ?_ | refine FU (B:=p) (Pu.six f cb cs k b.pr price qty) (f:=f) AU.out rfl (.tmp 94) (.tmp 93) rfl rfl rfl ?_)
    go_ret;exact⟨by rw[HA.out.1];rfl,by rw[HA.out.2];exact AU.out.stored _,(aM.of_below r7.out p).trans (aM.setRow _ _ _)⟩
 ·have HA:Hid (Pu.g_ f item b s price qty=R∧Pu.iY f item b s price qty=f):=by
   have e:Pu.g_ f item b s price qty=R:=by unfold Pu.g_;rw[if_neg (by rw[hR];exact h0),hR]
   exact⟨e,by unfold Pu.iY;rw[e,if_neg h0]⟩
  rw[hR];obtain⟨y,hy⟩:∃ y,cV v R=.iface 412 y:=by
   match R,h0 with
   | 0,h=>exact absurd rfl h
   | c+1,_=>exact⟨_,rfl⟩
  have z8:=hDq hy;rw[hy];clear hy hR;simp only[];go_wp2;go_ret;exact⟨by rw[HA.out.1,z8.out];rfl,by rw[HA.out.2];exact hp.out.gy HB.out,aM.of_below HB.out p⟩
def row (f:Nat->Int):Array Value:=Array.ofFn (n:=1001) fun i=>Value.int .i64 (f i.val)
theorem tq (f:Nat->Int):(row f).size=1001:=by simp[row]
theorem DR (f:Nat->Int) {i:Nat} (h:i<1001):(row f)[i]?=some (.int .i64 (f i)):=by
 unfold row;rw[Array.getElem?_ofFn];simp[h]
theorem row_one (f:Nat->Int):(row f).all (·.oneCell')=true:=by
 rw[Array.all_eq_true];intro i hi;simp only[row,Array.getElem_ofFn];rfl
theorem abS {f g:Nat->Int} (h:∀ i,i<1001->f i=g i):row f=row g:=by
 unfold row;congr 1;funext i;rw[h i.val i.isLt]
theorem abT (f:Nat->Int) {i:Nat} (v:Int):(row f).setIfInBounds i (.int .i64 v)=row (fun j=>if j=i then v else f j):=by
 apply Array.ext_getElem?;intro j;by_cases hj:j<1001
 ·rw[DR _ hj]
  by_cases e:i=j
  ·subst e
   rw[Array.getElem?_setIfInBounds_self_of_lt (by rw[tq];exact hj)];simp
  ·rw[Array.getElem?_setIfInBounds_ne e,DR _ hj]
   have:¬ j=i:=fun h=>e h.symm;simp[this]
 ·rw[Array.getElem?_eq_none (by rw[Array.size_setIfInBounds,tq];omega),Array.getElem?_eq_none (by rw[tq];omega)]
theorem row_zero:row (fun _=>0)=Array.replicate 1001 (.int .i64 0):=by
 apply Array.ext_getElem?;intro j;by_cases hj:j<1001
 ·rw[DR _ hj,Array.getElem?_replicate];simp[hj]
 ·rw[Array.getElem?_eq_none (by rw[tq];omega),Array.getElem?_eq_none (by simp;omega)]
def br (w:World) (B:Nat) (f:Nat->Int):Prop:=w.heap[B]?=some (.cells (row f) 365 (0,0))
theorem br.cell {w:World} {B:Nat} {f:Nat->Int} (h:br w B f) {i:Nat} (hi:i<1001):w.cell? ⟨B,i,none⟩=some (.int .i64 (f i)):=by
 rw[cR w B i _ _ _ h,DR f hi]
theorem br.frozen {w:World} {B:Nat} {f:Nat->Int} (h:br w B f) (i:Nat):w.frozen? ⟨B,i,none⟩=false:=by
 simp[World.frozen?,show w.heap[B]?=_ from h]
theorem br.lt {w:World} {B:Nat} {f:Nat->Int} (h:br w B f):B<w.heap.size:=(Array.getElem?_eq_some_iff.1 h).1
theorem br.later {w w':World} {B n:Nat} {f:Nat->Int} (h:br w B f) (hb:Below n w w') (hn:B<n):br w' B f:=(hb.block B hn).trans h
theorem br.set {w:World} {B:Nat} {f:Nat->Int} (h:br w B f) (i:Nat) (v:Int):br (w.setCell ⟨B,i,none⟩ (.int .i64 v)) B (fun j=>if j=i then v else f j):=by
 unfold br at h ⊢;rw[setCell_eq_setRow w B i _ _ _ _ h,abT];exact setRow_heap w B _ _ _ _ h
theorem br.congr {w:World} {B:Nat} {f g:Nat->Int} (h:br w B f) (e:∀ i,i<1001->f i=g i):br w B g:=by
 unfold br at h ⊢;rw[<- abS e];exact h
theorem br.other {w:World} {B:Nat} {f:Nat->Int} (h:br w B f) {a:Addr} (ha:B≠a.block) (v:Value):br (w.setCell a v) B f :=
 (Below.heap_setCell w a v B ha).trans h
theorem br.alloc {w:World} {B:Nat} {f:Nat->Int} (h:br w B f) (o:Obj):br (w.alloc o) B f:=(Below.heap_alloc w o B h.lt).trans h
theorem br.new (w:World) (f:Nat->Int):br (w.alloc (.cells (row f) 365)) w.heap.size f:=heap_alloc_last w _
theorem br.drew {w:World} {B:Nat} {f:Nat->Int} (h:br w B f) (n:Nat):br (w.drewN n) B f:=h
theorem QI:(Tryz.prog.info? 365).map (fun i=>(i.zero,i.size))=some (some (.agg (Array.replicate 1001 (.int .i64 0))),1001):=by kernel_rfl
theorem zX (w:World):(zeroValue 365).run Tryz.prog w=.ok (.agg (row fun _=>0)) w:=by rw[row_zero];exact(zero_of_info QI).1 w
theorem QJ:(Tryz.prog.info? 365).map (·.size)=some 1001:=(zero_of_info QI).2
theorem abU:Tryz.prog.underlying 365=some (.array 1001 3):=by kernel_rfl
theorem z1 {w:World} {B:Nat} {f:Nat->Int} (h:br w B f):(loadVar 365 ⟨B,0,none⟩).run Tryz.prog w=.ok (.agg (row f)) w :=
 run_loadVar_row w B 365 365 (row f) (0,0) _ h abU rfl (by rw[tq];exact QJ)
theorem abV {w:World} {B:Nat} {f:Nat->Int} (g:Nat->Int) (h:br w B f):(storeVar 365 ⟨B,0,none⟩ (.agg (row g))).run Tryz.prog w=.ok () (w.setRow B (row g)) :=
 run_storeVar_row w B 365 365 (row f) (row g) h (by rw[tq];exact QJ) (by rw[tq,tq]) (row_one g)
theorem br.stored {w:World} {B:Nat} {f:Nat->Int} (g:Nat->Int) (h:br w B f):br (w.setRow B (row g)) B g:=setRow_heap w B _ _ _ _ h
theorem br.beside {w:World} {B C:Nat} {f:Nat->Int} (c:Array Value) (h:br w B f) (hne:B≠C):br (w.setRow C c) B f:=(setRow_other w C B c hne).trans h
theorem DT {ops:Array Oper} {rest:List Oper} {op:Oper} {a:Act} {w:World} {Q:Exit->Act->World->Prop} {B:Nat} {f:Nat->Int} (h:br w B f) (hgd:op.guard=none) (x:Operand) (ho:op.op=.load 365 x)
  (hx:a.eval x=.pointer (some ⟨B,0,none⟩)) (k:wpList Tryz.prog ops Q rest (a.put op.dst (.agg (row f))) w):wpList Tryz.prog ops Q (op::rest) a w :=
 wpList_plain hgd fun _ hK=>by
  unfold Oper.wp execOp;simp only[ho,hx,Instr.loadAt,Instr.sureAddr,Sem.run_bind,Sem.run_pure,Result.andThen_ok,z1 h];exact hK _ _ k
theorem tj {ops:Array Oper} {rest:List Oper} {op:Oper} {a:Act} {w:World} {Q:Exit->Act->World->Prop} {B:Nat} {f:Nat->Int} (g:Nat->Int) (h:br w B f) (hgd:op.guard=none) (x y:Operand) (ho:op.op=.store 365 x y)
  (hx:a.eval x=.pointer (some ⟨B,0,none⟩)) (hy:a.eval y=.agg (row g)) (k:wpList Tryz.prog ops Q rest (a.put op.dst undef) (w.setRow B (row g))):wpList Tryz.prog ops Q (op::rest) a w :=
 wpList_plain hgd fun _ hK=>by
  unfold Oper.wp execOp;simp only[ho,hx,hy,Instr.storeAt,Instr.sureAddr,Sem.run_bind,Sem.run_pure,Result.andThen_ok,abV g h];exact hK _ _ k
theorem z6 {fn:Func} {p:Tmp} {ty:TypeId} (h:fn.results=#[.cell p ty]) (tmps:Array Value) (P:Program) (w:World) :
  (results fn tmps).run P w=((asAddr (tmps.getD p undef)).run P w).andThen fun a w₁=>(loadVar ty a).run P w₁:=by
 simp only[results,h];simp[Sem.run_bind,Result.andThen]
def jz (f:Nat->Int):Value:=.agg (row f)
theorem abW (b off cap n:Nat) (side:Int) (l:List Cv.ag) (w:World) (hn:Hid (l.length=n)) (hl:Hid (eJ w b off l)) (hok:Hid (Cv.eV l)) :
  Calls Tryz.prog 283 #[.slice (some ⟨b,off,none⟩) n cap,.int .i64 side] w fun e w'=>e=.returned (jz fun i=>Cv.at_ l side i)∧Below w.heap.size w w':=by
 have tr:=hok.out.1;rw[hn.out]at tr;have z60:=zX;go_enter Tryz.func283,Tryz.ntmps283
 go_wp2_with fail
 go_loopw [10] (fun i wr=>∃ k:Nat,k<=n∧i=.int .i64 k∧br wr w.heap.size (fun _=>0)∧br wr (w.heap.size+1) (fun j=>Cv.at_ (l.take k) side j)∧Below w.heap.size w wr) (fun i _=>n-(intOf i).toNat)
 case atStart =>
  refine⟨0,Nat.zero_le _,rfl,(br.new w _).alloc _,?_,((bRq _ _).alloc (lRq _) _).alloc (by simp) _⟩
  have:=br.new (w.alloc (.cells (row fun _=>0) 365)) (fun _=>0)
  rw[show (w.alloc (.cells (row fun _=>0) 365)).heap.size=w.heap.size+1 by simp]at this;exact this
 case round =>
  obtain⟨k,hk,rfl,ht0,ht1,hb⟩:=hrel;have HT0:=hDq ht0;have HT1:=hDq ht1;have HB:=hDq hb;clear ht0 ht1 hb;by_cases hlt:k<n
  ·have aX:(k:Int)<n:=by omega
   obtain⟨c0,c1,c2,c3,c4⟩:=(hl.out.later HB.out) k (by rw[hn.out];exact hlt);have HS:=hDq (fun j=>Cv.Js (Cv.jc side j) (l:=l) (k:=k) (by rw[hn.out];exact hlt));have HX:=hDq (Cv.fU (hok.out.oks _ (Cv.nJ (l:=l) (i:=k) (by rw[hn.out];exact hlt))));generalize Cv.nth l k=x at *;have hbx:Below w.heap.size w (wr.alloc (.cells #[.int .i64 x.id,.int .i64 x.ak,.int .i64 x.sd,.int .i64 x.pr,.int .i64 x.q] 197)):=HB.out.alloc HB.out.size _;have tu:=hDq hbx;have HX0:Hid (br (wr.alloc (.cells #[.int .i64 x.id,.int .i64 x.ak,.int .i64 x.sd,.int .i64 x.pr,.int .i64 x.q] 197)) w.heap.size (fun _=>0)):=HT0.out.alloc _;have rD:Hid (br (wr.alloc (.cells #[.int .i64 x.id,.int .i64 x.ak,.int .i64 x.sd,.int .i64 x.pr,.int .i64 x.q] 197)) (w.heap.size+1) (fun j=>Cv.at_ (l.take k) side j)):=HT1.out.alloc _;clear hbx;by_cases hsd:x.sd=side
   ·have k_:(x.sd==side)=true:=by simpa using hsd
    clear hsd;obtain⟨kC,Jt⟩:∃ kC:Nat,x.pr=(kC:Int):=⟨x.pr.toNat,by have:=HX.out.2.2.2.1;omega⟩;have hp1:kC<1001:=by have:=HX.out.2.2.2.1;omega
    have Ju:=hDq Jt;rw[Jt]at c3;clear Jt;have hsum:0<=Cv.at_ (l.take k) side kC∧Cv.at_ (l.take k) side kC<=120000:=by
     have:=Cv.mB (Cv.jc side kC) (l.take k) (hok.out.oks.take k)
     have h2:(l.take k).length<=120:=by rw[lKq,hn.out];omega
     unfold Cv.at_;omega
    obtain⟨r1,r2⟩:=hsum;have hq:=HX.out.2.2.2.2;obtain⟨q1,q2⟩:=hq;rw[Ju.out]at tu HX0 rD
    go_wp2_with fail
    have d3:(wr.alloc (.cells #[.int .i64 x.id,.int .i64 x.ak,.int .i64 x.sd,.int .i64 kC,.int .i64 x.q] 197)).cell? ⟨wr.heap.size,3,none⟩=some (.int .i64 kC):=by simp
    have d4:(wr.alloc (.cells #[.int .i64 x.id,.int .i64 x.ak,.int .i64 x.sd,.int .i64 kC,.int .i64 x.q] 197)).cell? ⟨wr.heap.size,4,none⟩=some (.int .i64 x.q):=by simp
    clear c0 c1 c2 c3 c4;generalize wr.alloc (.cells #[.int .i64 x.id,.int .i64 x.ak,.int .i64 x.sd,.int .i64 kC,.int .i64 x.q] 197)=w1 at *;have d5:=rD.out.cell hp1;generalize hat:Cv.at_ (l.take k) side kC=abX at *;have QK:=hDq hat;clear hat;have QL:(kC:Int)<1001:=by omega
    refine j5 8 (by kernel_rfl) (by kernel_rfl) ?_;simp only[List.take_succ_cons,List.take_zero,List.drop_succ_cons,List.drop_zero]
    repeat (first | go_big_quiet_step (fail) | quiet_step (fail))
    refine wpQuiet_nil ?_;intro _ hw';obtain⟨nq,hw''⟩:=hw';subst hw'';have ar:Hid (Below w.heap.size w (w1.drewN nq)):=tu.out.trans ((dQ nq).mono tu.out.size);have e0:=HX0.out.drew nq;have e1:=rD.out.drew nq;have z7:=hDq e0;have oV:=hDq e1;clear e0 e1 d3 d4 d5 HX0 rD tu;generalize w1.drewN nq=w3 at *;have d5:=oV.out.cell hp1;have iG:=oV.out.frozen kC;rw[QK.out]at d5
    go_wp2_with fail
    refine⟨⟨k+1,by omega,by go_num,z7.out.other (by simp) _,(oV.out.set kC (abX+x.q)).congr fun j _=>?_,ar.out.setCell (by simp) _⟩,by simp[intOf];omega⟩
    have:=HS.out j
    unfold Cv.at_;rw[this];by_cases hj:j=kC
    ·subst hj
     rw[show Cv.jc side j x=true by simp[Cv.jc,k_,Ju.out]];rw[<- QK.out];simp[Cv.at_]
    ·have hne:¬ (kC:Int)=(j:Int):=fun h=>hj (by omega)
     rw[show Cv.jc side j x=false by simp[Cv.jc,Ju.out,hne]];simp[hj]
   ·have k_:(x.sd==side)=false:=by simpa using hsd
    have anT:=hDq hsd;clear hsd
    go_wp2_with fail
    refine⟨⟨k+1,by omega,by go_num,HX0.out,rD.out.congr fun j _=>?_,tu.out⟩,by simp[intOf];omega⟩
    have:=HS.out j
    rw[show Cv.jc side j x=false by simp[Cv.jc,k_]]at this;unfold Cv.at_;rw[this];simp
  ·have aX:¬ (k:Int)<n:=by omega
   have dK:l.take k=l:=by
    have:k=l.length:=by rw[hn.out];omega
    rw[this,List.take_length]
   have ht1:=HT1.out;rw[dK]at ht1;have H1:=hDq ht1;clear dK ht1 HT1;have HS2:=hDq (HT0.out.stored (fun i=>Cv.at_ l side i));have HB2:=hDq (below_setRow HB.out (lRq w.heap.size) (row fun i=>Cv.at_ l side i))
   go_wp2_with (first | (refine DT H1.out rfl _ rfl rfl ?_) | (refine tj (fun i=>Cv.at_ l side i) HT0.out rfl _ _ rfl rfl rfl ?_))
   refine bodyPost_ret (v:=jz fun i=>Cv.at_ l side i) ?_ rfl ⟨rfl,HB2.out⟩;rw[z6 rfl];simp[asAddr,Result.andThen,z1 HS2.out,jz]
theorem abY (cap:Nat) (a:Option Addr) (side:Int) (w:World) :
  Calls Tryz.prog 283 #[.slice a 0 cap,.int .i64 side] w fun e w'=>e=.returned (jz fun _=>0)∧Below w.heap.size w w':=by
 have z60:=zX;go_enter Tryz.func283,Tryz.ntmps283;go_wp2;refine wp_loop_rounds 1 ?_;rw[rounds_succ];have hh:Hid (br ((w.alloc (.cells (row fun _=>0) 365)).alloc (.cells (row fun _=>0) 365)) w.heap.size (fun _=>0)):=(br.new w _).alloc _;have h2:Hid (br ((w.alloc (.cells (row fun _=>0) 365)).alloc (.cells (row fun _=>0) 365)) (w.heap.size+1) (fun _=>0)):=by
  have:=br.new (w.alloc (.cells (row fun _=>0) 365)) (fun _=>0)
  rw[show (w.alloc (.cells (row fun _=>0) 365)).heap.size=w.heap.size+1 by simp]at this;exact this
 have hb:Hid (Below w.heap.size w ((w.alloc (.cells (row fun _=>0) 365)).alloc (.cells (row fun _=>0) 365))):=((bRq _ _).alloc (lRq _) _).alloc (by simp) _;generalize (w.alloc (.cells (row fun _=>0) 365)).alloc (.cells (row fun _=>0) 365)=wr at *;have HS2:=hDq (hh.out.stored (fun _=>0));have HB2:=hDq (below_setRow hb.out (lRq w.heap.size) (row fun _=>0))
 go_wp2_with (first | (refine DT h2.out rfl _ rfl rfl ?_) | (refine tj (fun _=>0) hh.out rfl _ _ rfl rfl rfl ?_))
 refine bodyPost_ret (v:=jz fun _=>0) ?_ rfl ⟨rfl,HB2.out⟩;rw[z6 rfl];simp[Act.put,asAddr,Result.andThen,z1 HS2.out,jz]
theorem QM (v:Value) (l:List Cv.ag) (side:Int) (w:World) (hv:gH w v l) (hok:Cv.eV l) :
  Calls Tryz.prog 283 #[v,.int .i64 side] w fun e w'=>e=.returned (jz fun i=>Cv.at_ l side i)∧Below w.heap.size w w':=by
 rcases hv with ⟨rfl,a,cap,rfl⟩ | ⟨b,off,cap,rfl,hcap,hl⟩
 ·exact abY cap a side w
 ·exact abW b off cap _ side l w rfl hl hok
def eK (l:List Cv.ag) (p i:Nat):Int:=if p<i then Cv.iF l i else Cv.at_ l 0 i
theorem abZ {l:List Cv.ag} (h:Cv.dY l) (i:Nat) (hi:i<1001):Cv.at_ l 0 i=eK l 999 i:=by
 unfold eK;by_cases e:999<i
 ·obtain rfl:i=1000:=by omega
  rw[if_pos e]
  have:=Cv.Jj ((1000:Nat):Int) l
  rw[Cv.abG l h (by omega)]at this;omega
 ·rw[if_neg e]
theorem ab0 {l:List Cv.ag} {p:Nat} (h1:1<=p) (i:Nat):(if i=p then eK l p p+eK l p (p+1) else eK l p i)=eK l (p-1) i:=by
 unfold eK;by_cases e:i=p
 ·subst e
  rw[if_pos rfl,if_neg (by omega),if_pos (by omega),if_pos (by omega)]
  have:=Cv.Jj (i:Int) l
  rw[show ((i+1:Nat):Int)=(i:Int)+1 by omega];omega
 ·rw[if_neg e]
  by_cases e2:p<i
  ·rw[if_pos e2,if_pos (by omega)]
  ·rw[if_neg e2,if_neg (by omega)]
theorem QN {l:List Cv.ag} (h:Cv.eV l) (p i:Nat):0<=eK l p i∧eK l p i<=120000:=by
 have h1:=Cv.mB (Cv.gV i) l h.oks;have h2:=Cv.mB (Cv.jc 0 i) l h.oks
 have:=h.1
 unfold eK Cv.iF Cv.at_;split <;> omega
theorem abJ (v:Value) (l:List Cv.ag) (w:World) (hv:Hid (gH w v l)) (hok:Hid (Cv.eV l)) :
  Calls Tryz.prog 251 #[v] w fun e w'=>e=.returned (jz (eK l 0))∧Below w.heap.size w w':=by
 have z60:=zX;have HQ:=hDq (QM v l 0 (w.alloc (.cells (row fun _=>0) 365)) (hv.out.later ((bRq _ _).alloc (lRq _) _)) hok.out);go_enter Tryz.func251,Tryz.ntmps251
 go_wp2_with fail
 refine HQ.out.mono ?_;rintro e w1 ⟨rfl,hb1⟩;have HB1:Hid (Below w.heap.size w w1):=((bRq _ _).alloc (lRq _) _).trans (hb1.mono (by simp));have HR:Hid (br w1 w.heap.size (fun _=>0)):=(br.new w _).later hb1 (by simp);have au:Hid (w.heap.size<w1.heap.size):=by have:=hb1.size;simp at this;exact this
 clear hb1 HQ;simp only[jz];have HA:Hid (br (w1.alloc (.cells (row fun _=>0) 365)) w1.heap.size (fun _=>0)):=br.new w1 _
 go_wp2_with (refine tj (fun i=>Cv.at_ l 0 i) HA.out rfl _ _ rfl rfl rfl ?_)
 have HS:Hid (br ((w1.alloc (.cells (row fun _=>0) 365)).setRow w1.heap.size (row fun i=>Cv.at_ l 0 i)) w1.heap.size (eK l 999)):=(HA.out.stored _).congr (abZ hok.out.oks);have bg:Hid (br ((w1.alloc (.cells (row fun _=>0) 365)).setRow w1.heap.size (row fun i=>Cv.at_ l 0 i)) w.heap.size (fun _=>0)):=(HR.out.alloc _).beside _ (by have:=au.out;omega);have HB2:Hid (Below w.heap.size w ((w1.alloc (.cells (row fun _=>0) 365)).setRow w1.heap.size (row fun i=>Cv.at_ l 0 i))):=below_setRow (HB1.out.alloc HB1.out.size _) HB1.out.size _;clear HR HA HB1;generalize (w1.alloc (.cells (row fun _=>0) 365)).setRow w1.heap.size (row fun i=>Cv.at_ l 0 i)=w2 at *
 go_loopw [4] (fun i wr=>∃ p:Nat,p<=999∧i=.int .i64 p∧br wr w.heap.size (fun _=>0)∧br wr w1.heap.size (eK l p)∧Below w.heap.size w wr) (fun i _=>(intOf i).toNat)
 case atStart=>exact⟨999,by omega,rfl,bg.out,HS.out,HB2.out⟩
 case round =>
  obtain⟨p,hp,rfl,ht0,ht1,hb⟩:=hrel;have HT0:=hDq ht0;have HT1:=hDq ht1;have HB:=hDq hb;clear ht0 ht1 hb HS bg HB2;by_cases hlt:1<=p
  ·have aX:(1:Int)<=(p:Int):=by omega
   have hp1:p<1001:=by omega
   have QL:(p:Int)<1001:=by omega
   have ab1:(p:Int)+1<1001:=by omega
   have d5:=HT1.out.cell hp1;have iG:=HT1.out.cell (i:=p+1) (by omega);have hb1:=QN hok.out p p;have hb2:=QN hok.out p (p+1);have HX:=hDq (fun i=>ab0 (l:=l) (p:=p) (by omega) i);generalize ha:eK l p p=x at *;generalize hb:eK l p (p+1)=y at *;have Hx:=hDq ha;have z8:=hDq hb;clear ha hb;obtain⟨r1,r2⟩:=hb1;obtain⟨r3,r4⟩:=hb2
   go_wp2_with fail
   refine j5 9 (by kernel_rfl) (by kernel_rfl) ?_;simp only[List.take_succ_cons,List.take_zero,List.drop_succ_cons,List.drop_zero]
   repeat (first | go_big_quiet_step (fail) | quiet_step (fail))
   refine wpQuiet_nil ?_;intro _ hw';obtain⟨nq,hw''⟩:=hw';subst hw'';have ar:Hid (Below w.heap.size w (wr.drewN nq)):=HB.out.trans ((dQ nq).mono HB.out.size);have e0:=HT0.out.drew nq;have e1:=HT1.out.drew nq;have z7:=hDq e0;have oV:=hDq e1;clear e0 e1 d5 iG HT0 HT1 HB;generalize wr.drewN nq=w3 at *;have d5:=oV.out.cell hp1;have iG:=oV.out.frozen p
   go_wp2_with fail
   have E2:=hDq ((oV.out.set p (x+y)).congr fun i _=>HX.out i);exact⟨⟨p-1,by omega,by go_num,z7.out.other (by have:=au.out;simp;omega) _,E2.out,ar.out.setCell (by have:=au.out;simp;omega) _⟩,by simp[intOf];omega⟩
  ·have aX:¬ (1:Int)<=(p:Int):=by omega
   obtain rfl:p=0:=by omega
   have HS2:=hDq (HT0.out.stored (eK l 0));have HB2:=hDq (below_setRow HB.out (lRq w.heap.size) (row (eK l 0)))
   go_wp2_with (first | (refine DT HT1.out rfl _ rfl rfl ?_) | (refine tj (eK l 0) HT0.out rfl _ _ rfl rfl rfl ?_))
   refine bodyPost_ret (v:=jz (eK l 0)) ?_ rfl ⟨rfl,HB2.out⟩;rw[z6 rfl];simp[asAddr,Result.andThen,z1 HS2.out,jz]
def sup (l:List Cv.ag) (p i:Nat):Int:=if i<p then Cv.jy l i else Cv.at_ l 1 i
theorem ab2 {l:List Cv.ag} (h:Cv.dY l) (i:Nat) (hi:i<1001):Cv.at_ l 1 i=sup l 2 i:=by
 unfold sup;by_cases e:i<2
 ·rw[if_pos e]
  have:=Cv.Jk ((i:Int)-1) l
  rw[Cv.abH l h (p:=(i:Int)-1) (by omega),show (i:Int)-1+1=i by omega]at this;omega
 ·rw[if_neg e]
theorem ab3 {l:List Cv.ag} {p:Nat} (h1:1<=p) (i:Nat):(if i=p then sup l p p+sup l p (p-1) else sup l p i)=sup l (p+1) i:=by
 unfold sup;by_cases e:i=p
 ·subst e
  rw[if_pos rfl,if_neg (by omega),if_pos (by omega),if_pos (by omega)]
  have:=Cv.Jk ((i:Int)-1) l
  rw[show (i:Int)-1+1=i by omega]at this;rw[show ((i-1:Nat):Int)=(i:Int)-1 by omega];omega
 ·rw[if_neg e]
  by_cases e2:i<p
  ·rw[if_pos e2,if_pos (by omega)]
  ·rw[if_neg e2,if_neg (by omega)]
theorem QO {l:List Cv.ag} (h:Cv.eV l) (p i:Nat):0<=sup l p i∧sup l p i<=120000:=by
 have h1:=Cv.mB (Cv.sB i) l h.oks;have h2:=Cv.mB (Cv.jc 1 i) l h.oks
 have:=h.1
 unfold sup Cv.jy Cv.at_;split <;> omega
theorem abK (v:Value) (l:List Cv.ag) (w:World) (hv:Hid (gH w v l)) (hok:Hid (Cv.eV l)) :
  Calls Tryz.prog 252 #[v] w fun e w'=>e=.returned (jz (sup l 1001))∧Below w.heap.size w w':=by
 have z60:=zX;have HQ:=hDq (QM v l 1 (w.alloc (.cells (row fun _=>0) 365)) (hv.out.later ((bRq _ _).alloc (lRq _) _)) hok.out);go_enter Tryz.func252,Tryz.ntmps252
 go_wp2_with fail
 refine HQ.out.mono ?_;rintro e w1 ⟨rfl,hb1⟩;have HB1:Hid (Below w.heap.size w w1):=((bRq _ _).alloc (lRq _) _).trans (hb1.mono (by simp));have HR:Hid (br w1 w.heap.size (fun _=>0)):=(br.new w _).later hb1 (by simp);have au:Hid (w.heap.size<w1.heap.size):=by have:=hb1.size;simp at this;exact this
 clear hb1 HQ;simp only[jz];have HA:Hid (br (w1.alloc (.cells (row fun _=>0) 365)) w1.heap.size (fun _=>0)):=br.new w1 _
 go_wp2_with (refine tj (fun i=>Cv.at_ l 1 i) HA.out rfl _ _ rfl rfl rfl ?_)
 have HS:Hid (br ((w1.alloc (.cells (row fun _=>0) 365)).setRow w1.heap.size (row fun i=>Cv.at_ l 1 i)) w1.heap.size (sup l 2)):=(HA.out.stored _).congr (ab2 hok.out.oks);have bg:Hid (br ((w1.alloc (.cells (row fun _=>0) 365)).setRow w1.heap.size (row fun i=>Cv.at_ l 1 i)) w.heap.size (fun _=>0)):=(HR.out.alloc _).beside _ (by have:=au.out;omega);have HB2:Hid (Below w.heap.size w ((w1.alloc (.cells (row fun _=>0) 365)).setRow w1.heap.size (row fun i=>Cv.at_ l 1 i))):=below_setRow (HB1.out.alloc HB1.out.size _) HB1.out.size _;clear HR HA HB1;generalize (w1.alloc (.cells (row fun _=>0) 365)).setRow w1.heap.size (row fun i=>Cv.at_ l 1 i)=w2 at *
 go_loopw [4] (fun i wr=>∃ p:Nat,(2<=p∧p<=1001)∧i=.int .i64 p∧br wr w.heap.size (fun _=>0)∧br wr w1.heap.size (sup l p)∧Below w.heap.size w wr) (fun i _=>1001-(intOf i).toNat)
 case atStart=>exact⟨2,by omega,rfl,bg.out,HS.out,HB2.out⟩
 case round =>
  obtain⟨p,hp,rfl,ht0,ht1,hb⟩:=hrel;have HT0:=hDq ht0;have HT1:=hDq ht1;have HB:=hDq hb;clear ht0 ht1 hb HS bg HB2;by_cases hlt:p<=1000
  ·have aX:(p:Int)<=1000:=by omega
   have hp1:p<1001:=by omega
   have QL:(p:Int)<1001:=by omega
   have ab1:(0:Int)<=(p:Int)-1:=by omega
   have d5:=HT1.out.cell hp1;have iG:=HT1.out.cell (i:=p-1) (by omega);have hb1:=QO hok.out p p;have hb2:=QO hok.out p (p-1);have HX:=hDq (fun i=>ab3 (l:=l) (p:=p) (by omega) i);generalize ha:sup l p p=x at *;generalize hb:sup l p (p-1)=y at *;have Hx:=hDq ha;have z8:=hDq hb;clear ha hb;obtain⟨r1,r2⟩:=hb1;obtain⟨r3,r4⟩:=hb2
   go_wp2_with fail
   refine j5 9 (by kernel_rfl) (by kernel_rfl) ?_;simp only[List.take_succ_cons,List.take_zero,List.drop_succ_cons,List.drop_zero]
   repeat (first | go_big_quiet_step (fail) | quiet_step (fail))
   refine wpQuiet_nil ?_;intro _ hw';obtain⟨nq,hw''⟩:=hw';subst hw'';have ar:Hid (Below w.heap.size w (wr.drewN nq)):=HB.out.trans ((dQ nq).mono HB.out.size);have e0:=HT0.out.drew nq;have e1:=HT1.out.drew nq;have z7:=hDq e0;have oV:=hDq e1;clear e0 e1 d5 iG HT0 HT1 HB;generalize wr.drewN nq=w3 at *;have d5:=oV.out.cell hp1;have iG:=oV.out.frozen p
   go_wp2_with fail
   have E2:=hDq ((oV.out.set p (x+y)).congr fun i _=>HX.out i);exact⟨⟨p+1,by omega,by go_num,z7.out.other (by have:=au.out;simp;omega) _,E2.out,ar.out.setCell (by have:=au.out;simp;omega) _⟩,by simp[intOf];omega⟩
  ·have aX:¬ (p:Int)<=1000:=by omega
   obtain rfl:p=1001:=by omega
   have HS2:=hDq (HT0.out.stored (sup l 1001));have HB2:=hDq (below_setRow HB.out (lRq w.heap.size) (row (sup l 1001)))
   go_wp2_with (first | (refine DT HT1.out rfl _ rfl rfl ?_) | (refine tj (sup l 1001) HT0.out rfl _ _ rfl rfl rfl ?_))
   refine bodyPost_ret (v:=jz (sup l 1001)) ?_ rfl ⟨rfl,HB2.out⟩;rw[z6 rfl];simp[asAddr,Result.andThen,z1 HS2.out,jz]
theorem Qx (a b:Int) (w:World) (h1:-1000000<=a) (h2:a<=1000000) (h3:-1000000<=b) (h4:b<=1000000):Calls Tryz.prog 253 #[.int .i64 a,.int .i64 b] w fun e w'=>e=.returned (.int .i64 (Cv.size (a-b)))∧w'=w:=by
 go_enter Tryz.func253,Tryz.ntmps253;go_wp2
 all_goals go_ret
 all_goals exact⟨rq (by unfold Cv.size;omega),rfl⟩
def Qy (v s a:Int):Value:=.agg #[.int .i64 v,.int .i64 s,.int .i64 a]
theorem abI (v s a v' s' a':Int) (w:World):Calls Tryz.prog 254 #[Qy v s a,Qy v' s' a'] w fun e w'=>e=.returned (.bool (Cv.s9 v s a v' s' a'))∧Below w.heap.size w w':=by
 show Calls Tryz.prog 254 #[.agg #[.int .i64 v,.int .i64 s,.int .i64 a],.agg #[.int .i64 v',.int .i64 s',.int .i64 a']] w _;go_enter Tryz.func254,Tryz.ntmps254;go_wp2
 all_goals go_ret
 all_goals
  refine⟨gG ?_,((bRq _ _).alloc (lRq _) _).alloc (by simp) _⟩;simp_all[Cv.s9]
def iR (w:World) (B:Nat) (v s a:Int):Prop:=w.heap[B]?=some (.cells #[.int .i64 v,.int .i64 s,.int .i64 a] 368 (0,0))
theorem iR.later {w w':World} {B n:Nat} {v s a:Int} (h:iR w B v s a) (hb:Below n w w') (hn:B<n):iR w' B v s a:=(hb.block B hn).trans h
theorem iR.lt {w:World} {B:Nat} {v s a:Int} (h:iR w B v s a):B<w.heap.size:=(Array.getElem?_eq_some_iff.1 h).1
theorem iR.cells {w:World} {B:Nat} {v s a:Int} (h:iR w B v s a):w.cell? ⟨B,0,none⟩=some (.int .i64 v)∧w.cell? ⟨B,1,none⟩=some (.int .i64 s)∧w.cell? ⟨B,2,none⟩=some (.int .i64 a):=by
 refine⟨?_,?_,?_⟩ <;> (rw[cR w B _ _ _ _ h];rfl)
theorem iR.frozen {w:World} {B:Nat} {v s a:Int} (h:iR w B v s a) (i:Nat):w.frozen? ⟨B,i,none⟩=false:=by
 simp[World.frozen?,show w.heap[B]?=_ from h]
theorem iR.set {w:World} {B:Nat} {v s a:Int} (h:iR w B v s a) (v' s' a':Int):iR (((w.setCell ⟨B,0,none⟩ (.int .i64 v')).setCell ⟨B,1,none⟩ (.int .i64 s')).setCell ⟨B,2,none⟩ (.int .i64 a')) B v' s' a':=by
 unfold iR at h ⊢;have h1:(w.setCell ⟨B,0,none⟩ (.int .i64 v')).heap[B]?=some (.cells #[.int .i64 v',.int .i64 s,.int .i64 a] 368 (0,0)):=by
  rw[setCell_eq_setRow w B 0 _ _ _ _ h];exact setRow_heap w B _ _ _ _ h
 have h2:((w.setCell ⟨B,0,none⟩ (.int .i64 v')).setCell ⟨B,1,none⟩ (.int .i64 s')).heap[B]?=some (.cells #[.int .i64 v',.int .i64 s',.int .i64 a] 368 (0,0)):=by
  rw[setCell_eq_setRow _ B 1 _ _ _ _ h1];exact setRow_heap _ B _ _ _ _ h1
 rw[setCell_eq_setRow _ B 2 _ _ _ _ h2];exact setRow_heap _ B _ _ _ _ h2
theorem abF (v:Value) (l:List Cv.ag) (ref:Int) (w:World) (hv:Hid (gH w v l)) (hok:Hid (Cv.eV l)) (hr:ah.aB ref 1 1000=true)
  (HC:Hid (Calls Tryz.prog 250 #[v] w fun e w'=>e=.returned .nilIface∧Below w.heap.size w w')) :
  Calls Tryz.prog 220 #[v,.int .i64 ref] w fun e w'=>(∃ p vol,e=.returned (.tuple #[.int .i64 p,.int .i64 vol,.nilIface])∧Cv.eW l ref 1000 p vol)∧Below w.heap.size w w':=by
 have z60:=zX;have HD:Hid (∀ W,Below w.heap.size w W->Calls Tryz.prog 251 #[v] W fun e w'=>e=.returned (jz (eK l 0))∧Below W.heap.size W w'):=fun W hb=>abJ v l W (hv.out.later hb) hok;have Qz:Hid (∀ W,Below w.heap.size w W->Calls Tryz.prog 252 #[v] W fun e w'=>e=.returned (jz (sup l 1001))∧Below W.heap.size W w'):=fun W hb=>abK v l W (hv.out.later hb) hok;have qc:1<=ref∧ref<=1000:=by simpa [ah.aB] using hr
 obtain⟨anL,anM⟩:=qc;go_enter Tryz.func220,Tryz.ntmps220
 go_wp2_with fail
 refine HC.out.mono ?_;rintro e w1 ⟨rfl,hb1⟩;have HB1:=hDq hb1;clear hb1 HC;simp only[]
 go_wp2_with fail
 refine(gi _ _ _ _).mono ?_;rintro e w1 ⟨rfl,rfl⟩;rw[hr];simp only[];clear hr
 go_wp2_with fail
 refine(HD.out w1 HB1.out).mono ?_;rintro e w2 ⟨rfl,hb2⟩;have HB2:=hDq (HB1.out.trans (hb2.mono HB1.out.size));clear hb2 HD HB1;simp only[]
 go_wp2_with fail
 refine(Qz.out w2 HB2.out).mono ?_;rintro e w3 ⟨rfl,hb3⟩;have ar:=hDq (HB2.out.trans (hb3.mono HB2.out.size));clear hb3 Qz HB2;simp only[jz];have HA:Hid (br ((w3.alloc (.cells (row fun _=>0) 365)).alloc (.cells (row fun _=>0) 365)) w3.heap.size (fun _=>0)):=(br.new w3 _).alloc _;have cm:Hid (br (((w3.alloc (.cells (row fun _=>0) 365)).alloc (.cells (row fun _=>0) 365)).setRow w3.heap.size (row (eK l 0))) (w3.heap.size+1) (fun _=>0)):=by
  have:=br.new (w3.alloc (.cells (row fun _=>0) 365)) (fun _=>0)
  rw[show (w3.alloc (.cells (row fun _=>0) 365)).heap.size=w3.heap.size+1 by simp]at this;exact this.beside _ (by omega)
 go_wp2_with (first | (refine tj (eK l 0) HA.out rfl _ _ rfl rfl rfl ?_) | (refine tj (sup l 1001) cm.out rfl _ _ rfl rfl rfl ?_))
 have QA:Hid (br ((((w3.alloc (.cells (row fun _=>0) 365)).alloc (.cells (row fun _=>0) 365)).setRow w3.heap.size (row (eK l 0))).setRow (w3.heap.size+1) (row (sup l 1001))) w3.heap.size (eK l 0)):=(HA.out.stored _).beside _ (by omega);have DJ:Hid (br ((((w3.alloc (.cells (row fun _=>0) 365)).alloc (.cells (row fun _=>0) 365)).setRow w3.heap.size (row (eK l 0))).setRow (w3.heap.size+1) (row (sup l 1001))) (w3.heap.size+1) (sup l 1001)):=cm.out.stored _;have bQ:Hid (Below w.heap.size w ((((w3.alloc (.cells (row fun _=>0) 365)).alloc (.cells (row fun _=>0) 365)).setRow w3.heap.size (row (eK l 0))).setRow (w3.heap.size+1) (row (sup l 1001)))) :=
  below_setRow (below_setRow ((ar.out.alloc ar.out.size _).alloc (by have:=ar.out.size;simp;omega) _) ar.out.size _) (by have:=ar.out.size;omega) _
 have DK:Hid (((((w3.alloc (.cells (row fun _=>0) 365)).alloc (.cells (row fun _=>0) 365)).setRow w3.heap.size (row (eK l 0))).setRow (w3.heap.size+1) (row (sup l 1001))).heap.size=w3.heap.size+1+1):=by show _=_;simp
 clear HA cm;generalize (((w3.alloc (.cells (row fun _=>0) 365)).alloc (.cells (row fun _=>0) 365)).setRow w3.heap.size (row (eK l 0))).setRow (w3.heap.size+1) (row (sup l 1001))=w4 at *;have QB:=hDq (QA.out.alloc (.cells #[.int .i64 0,.int .i64 0,.int .i64 0] 368));have QC:=hDq (DJ.out.alloc (.cells #[.int .i64 0,.int .i64 0,.int .i64 0] 368));have cA:=hDq (bQ.out.alloc bQ.out.size (.cells #[.int .i64 0,.int .i64 0,.int .i64 0] 368));have QD:Hid (iR (w4.alloc (.cells #[.int .i64 0,.int .i64 0,.int .i64 0] 368)) (w3.heap.size+1+1) 0 0 0):=by
  have:=heap_alloc_last w4 (.cells #[.int .i64 0,.int .i64 0,.int .i64 0] 368)
  rw[DK.out]at this;exact this
 have anN:Hid ((w4.alloc (.cells #[.int .i64 0,.int .i64 0,.int .i64 0] 368)).heap.size=w3.heap.size+3):=by show _=_;simp[DK.out]
 have au:Hid (w.heap.size<=w3.heap.size):=ar.out.size;clear QA DJ bQ DK ar;generalize w4.alloc (.cells #[.int .i64 0,.int .i64 0,.int .i64 0] 368)=aC at *;generalize w3.heap.size=N at *
 go_loopw [4,11] (fun pr i wr=>∃ (q:Nat) (p vol:Int),(1<=q∧q<=1001)∧i=.int .i64 q∧pr=.int .i64 p∧Cv.eW l ref ((q:Int)-1) p vol∧br wr N (eK l 0)∧br wr (N+1) (sup l 1001)∧iR wr (N+1+1) vol (Cv.wl l p) (Cv.gI ref p)∧Below w.heap.size w wr) (fun _ i _=>1001-(intOf i).toNat)
 case atStart=>exact⟨1,0,0,by omega,rfl,rfl,Cv.eW.start l ref,QB.out,QC.out,QD.out,cA.out⟩
 case round =>
  obtain⟨q,p,vol,hq,rfl,rfl,jA,hd,hs,hw,hb⟩:=hrel;obtain⟨hq1,anO⟩:=hq;have HW:=hDq jA;have Jl:=hDq hd;have lN:=hDq hs;have Jm:=hDq hw;have HB:=hDq hb;clear jA hd hs hw hb QB QC QD cA;by_cases hlt:q<=1000
  ·have aX:(q:Int)<=1000:=by omega
   have abL:(q:Int)<1001:=by omega
   have d1:=Jl.out.cell (i:=q) (by omega);have d2:=lN.out.cell (i:=q) (by omega);rw[show eK l 0 q=Cv.iF l q by unfold eK;rw[if_pos (by omega)]]at d1;rw[show sup l 1001 q=Cv.jy l q by unfold sup;rw[if_pos (by omega)]]at d2;have b1:0<=Cv.iF l q∧Cv.iF l q<=120000:=by
    have:=Cv.mB (Cv.gV q) l hok.out.oks;have h2:=hok.out.1;unfold Cv.iF;omega
   have b2:0<=Cv.jy l q∧Cv.jy l q<=120000:=by
    have:=Cv.mB (Cv.sB q) l hok.out.oks;have h2:=hok.out.1;unfold Cv.jy;omega
   have cF:Hid (Cv.dZ l q=min (Cv.iF l q) (Cv.jy l q)):=rfl;have HL:Hid (Cv.left l q=Cv.size (Cv.iF l q-Cv.jy l q)):=rfl;have QE:Hid (Cv.away ref q=Cv.size ((q:Int)-ref)):=rfl;generalize Cv.iF l q=xI at *;generalize Cv.jy l q=sp at *;obtain⟨anP,anQ⟩:=b1;obtain⟨anR,anS⟩:=b2
   go_wp2_with fail
   obtain⟨val,mC,zY⟩:∃ val:Bool->Nat->World,(∀ n,val false n=wr.drewN n)∧(∀ n,val true n=(wr.drewN n).alloc (.cells #[.int .i64 0,.int .i64 0,.int .i64 0] 368)):=⟨fun b n=>bif b then (wr.drewN n).alloc (.cells #[.int .i64 0,.int .i64 0,.int .i64 0] 368) else wr.drewN n,fun _=>rfl,fun _=>rfl⟩;have f1:∀ n,(val false n).cell? ⟨N,q,none⟩=some (.int .i64 xI):=fun n=>by rw[mC];exact d1
   have f2:∀ n,(val false n).cell? ⟨N+1,q,none⟩=some (.int .i64 sp):=fun n=>by rw[mC];exact d2
   have t1:∀ n,(val true n).cell? ⟨N,q,none⟩=some (.int .i64 xI):=fun n=>by
    rw[zY,((bRq (wr.drewN n).heap.size _).alloc (lRq _) _).cell (p:=⟨N,q,none⟩) (bCq _ _ (show (wr.drewN n).cell? ⟨N,q,none⟩=_ from d1))];exact d1
   have t2:∀ n,(val true n).cell? ⟨N+1,q,none⟩=some (.int .i64 sp):=fun n=>by
    rw[zY,((bRq (wr.drewN n).heap.size _).alloc (lRq _) _).cell (p:=⟨N+1,q,none⟩) (bCq _ _ (show (wr.drewN n).cell? ⟨N+1,q,none⟩=_ from d2))];exact d2
   have QF:=hDq mC;have QG:=hDq zY;have hal:∀ (a:Act) n,(execOp a.eval { dst:=some 12,op:=Op.alloc 368,type:=0,pos:= "clear.go:22",after:=#[],guard:=none }).run Tryz.prog (val false n)=.ok (.value (.pointer (some ⟨wr.heap.size,0,none⟩))) (val true n):=by
    intro a n;rw[mC,zY]
    kernel_rfl
   clear mC zY;refine abM (val:=val) (p:=.pointer (some ⟨wr.heap.size,0,none⟩)) 18 rfl (by kernel_rfl) (by kernel_rfl) (by kernel_rfl) rfl (by rw[QF.out];rfl) hal ?_;clear hal d1 d2;have abN:IntKind.i64.wrap (xI-sp)=xI-sp:=IntWalk.i64_in _ (by omega);have wr2:IntKind.i64.wrap ((q:Int)-ref)=(q:Int)-ref:=IntWalk.i64_in _ (by omega);simp only[List.take_succ_cons,List.take_zero]
   repeat (refine abO (fun K hK=>?_);refine⟨by rfl,?_⟩;unfold Jn;go_simp;first | (refine hK _ ?_;clear hK K) | (refine⟨_,⟨fun n=>(Qx _ _ _ (by omega) (by omega) (by omega) (by omega)).mono (fun e w' ⟨he,hw⟩=>⟨he,n,hw⟩),fun n=>(Qx _ _ _ (by omega) (by omega) (by omega) (by omega)).mono (fun e w' ⟨he,hw⟩=>⟨he,n,hw⟩)⟩,hK _ ?_⟩;clear hK K))
   rw[show (if sp<xI then sp else xI)=Cv.dZ l q by rw[cF.out];split <;> omega,<- HL.out,<- QE.out];refine abP ?_;intro n;rw[QG.out];have Jo:=hDq (Jl.out.drew n);have Jp:=hDq (lN.out.drew n);have DL:Hid (iR (wr.drewN n) (N+1+1) vol (Cv.wl l p) (Cv.gI ref p)):=Jm.out;have HB2:Hid (Below w.heap.size w (wr.drewN n)):=HB.out.trans ((dQ n).mono HB.out.size);rw[show wr.heap.size=(wr.drewN n).heap.size from rfl];clear QF QG f1 f2 t1 t2 Jl lN Jm HB abN wr2 cF HL QE;generalize wr.drewN n=W at *;have DN:Hid (N+1+1<W.heap.size):=DL.out.lt;have gp:Hid (Below W.heap.size W (W.alloc (.cells #[.int .i64 (Cv.dZ l q),.int .i64 (Cv.left l q),.int .i64 (Cv.away ref q)] 368))):=(bRq _ _).alloc (lRq _) _;obtain⟨o0,o1,o2⟩:=(DL.out.later gp.out DN.out).cells;have zZ:=hDq (abI (Cv.dZ l q) (Cv.left l q) (Cv.away ref q) vol (Cv.wl l p) (Cv.gI ref p) (W.alloc (.cells #[.int .i64 (Cv.dZ l q),.int .i64 (Cv.left l q),.int .i64 (Cv.away ref q)] 368)))
   go_wp2_with fail
   refine zZ.out.mono ?_;rintro e ai ⟨rfl,hb6⟩;have QH:Hid (iR ai W.heap.size (Cv.dZ l q) (Cv.left l q) (Cv.away ref q)):=(heap_alloc_last W _ |> fun h=>(show iR _ _ _ _ _ from h)).later hb6 (by simp);have aS:Hid (Below W.heap.size W ai):=gp.out.trans (hb6.mono gp.out.size);have Jq:Hid (br ai N (eK l 0)):=Jo.out.later aS.out Jo.out.lt;have Jr:Hid (br ai (N+1) (sup l 1001)):=Jp.out.later aS.out Jp.out.lt;have vD:Hid (iR ai (N+1+1) vol (Cv.wl l p) (Cv.gI ref p)):=DL.out.later aS.out DN.out;have dr:Hid (Below w.heap.size w ai):=HB2.out.trans (aS.out.mono HB2.out.size);clear hb6 gp o0 o1 o2 zZ Jo Jp DL HB2 aS;have jB:Hid (N+1+1≠W.heap.size):=by show _≠_;have:=DN.out;omega
   clear DN;cases qd:Cv.s9 (Cv.dZ l q) (Cv.left l q) (Cv.away ref q) vol (Cv.wl l p) (Cv.gI ref p) with
   | false =>
    have xJ:=hDq qd;clear qd;simp only[]
    go_wp2_with fail
    have hk:=HW.out.keep hok.out.oks (by rw[show (q:Int)-1+1=q by omega];exact xJ.out);rw[show (q:Int)-1+1=((q+1:Nat):Int)-1 by omega]at hk;exact⟨⟨q+1,p,vol,by omega,by go_num,rfl,hk,Jq.out,Jr.out,vD.out,dr.out⟩,by simp[intOf];omega⟩
   | true =>
    have xJ:=hDq qd;clear qd;simp only[];obtain⟨g0,g1,g2⟩:=QH.out.cells;have h0:=vD.out.frozen 0;have h1:=vD.out.frozen 1;have h2:=vD.out.frozen 2;obtain⟨o0,o1,o2⟩:=vD.out.cells
    go_wp2_with fail
    refine j5 3 (by kernel_rfl) (by kernel_rfl) ?_;simp only[List.take_succ_cons,List.take_zero,List.drop_succ_cons,List.drop_zero]
    repeat (first | go_big_quiet_step (fail) | quiet_step (fail))
    refine wpQuiet_nil ?_;intro _ hw';obtain⟨nq,hw''⟩:=hw';subst hw'';have vE:Hid (Below w.heap.size w (ai.drewN nq)):=dr.out.trans ((dQ nq).mono dr.out.size);have abQ:=hDq (Jq.out.drew nq);have abR:=hDq (Jr.out.drew nq);have iQ:Hid (iR (ai.drewN nq) (N+1+1) vol (Cv.wl l p) (Cv.gI ref p)):=vD.out;clear g0 g1 g2 h0 h1 h2 o0 o1 o2 QH Jq Jr vD dr;generalize ai.drewN nq=bq at *;have h0:=iQ.out.frozen 0;have h1:=iQ.out.frozen 1;have h2:=iQ.out.frozen 2;obtain⟨o0,o1,o2⟩:=iQ.out.cells
    go_wp2_with fail
    have hk:=HW.out.take hok.out.oks (by omega) (by rw[show (q:Int)-1+1=q by omega];exact xJ.out);rw[show (q:Int)-1+1=q by omega,show (q:Int)=((q+1:Nat):Int)-1 by omega]at hk;have vF:((q+1:Nat):Int)-1=q:=by omega
    rw[vF]at hk;have oU:=iQ.out.set (Cv.dZ l q) (Cv.left l q) (Cv.away ref q);refine⟨⟨q+1,q,Cv.dZ l q,by omega,by go_num,rfl,by rw[vF];exact hk,?_,?_,?_,?_⟩,by simp[intOf];omega⟩
    ·exact((abQ.out.other (by simp;omega) _).other (by simp;omega) _).other (by simp;omega) _
    ·exact((abR.out.other (by simp) _).other (by simp) _).other (by simp) _
    ·rw[show Cv.wl l q=Cv.left l q by unfold Cv.wl;rw[if_neg (by omega)],show Cv.gI ref q=Cv.away ref q by unfold Cv.gI;rw[if_neg (by omega)]]
     exact oU
    ·have:=au.out
     exact((vE.out.setCell (by simp;omega) _).setCell (by simp;omega) _).setCell (by simp;omega) _
  ·have aX:¬ (q:Int)<=1000:=by omega
   obtain rfl:q=1001:=by omega
   obtain⟨o0,o1,o2⟩:=Jm.out.cells
   go_wp2_with fail
   go_quiet (fail)
   have vE:Hid (Below w.heap.size w (wr.drewN nq)):=HB.out.trans ((dQ nq).mono HB.out.size);generalize wr.drewN nq=bq at *
   go_wp2_with fail
   go_ret3
   exact⟨⟨p,vol,rfl,HW.out⟩,vE.out⟩
theorem Qr (v:Value) (l:List Cv.ag) (ref:Int) (T:TypeId) (v1 v6 v7:Value) (w:World) (hv:gH w v l) (he:Hid (gU w T v1 v6 v7)) (hok:Cv.eV l) (hr:ah.aB ref 1 1000=true) :
  Calls Tryz.prog 220 #[v,.int .i64 ref] w fun e w'=>(∃ p vol,e=.returned (.tuple #[.int .i64 p,.int .i64 vol,.nilIface])∧Cv.eW l ref 1000 p vol)∧Below w.heap.size w w' :=
 abF v l ref w hv hok hr (I8 v l T v1 v6 v7 w hv he hok)
def Gg:Cv.ag:=⟨1,1,0,10,3⟩
theorem agB (d:Nat) (a b c a' b' c':Int) (w:World):(Op.equalIn (d+2) 138 (.agg #[.int .i64 a,.int .i64 b,.int .i64 c]) (.agg #[.int .i64 a',.int .i64 b',.int .i64 c'])).run Tryz.prog w=.ok (a==a'&&(b==b'&&c==c')) w:=by
 rw[show d+2=(d+1)+1 from rfl,Op.equalIn];simp[run_underlying Tryz.underlying138,go_sem,List.range'];by_cases h1:a=a' <;> by_cases h2:b=b' <;> by_cases h3:c=c' <;> simp[h1,h2,h3]
def BN (a b c d e f g h a' b' c' d' e' f' g' h':Int):Bool:=a==a'&&(b==b'&&((c==c'&&(d==d'&&e==e'))&&(f==f'&&(g==g'&&h==h'))))
theorem agC (a b c d e f g q a' b' c' d' e' f' g' q':Int) (w:World):(Op.equalIn 10000 140 (.agg #[.int .i64 a,.int .i64 b,.int .i64 c,.int .i64 d,.int .i64 e,.int .i64 f,.int .i64 g,.int .i64 q]) (.agg #[.int .i64 a',.int .i64 b',.int .i64 c',.int .i64 d',.int .i64 e',.int .i64 f',.int .i64 g',.int .i64 q'])).run Tryz.prog w=.ok (BN a b c d e f g q a' b' c' d' e' f' g' q') w:=by
 have h:=agB 9997;unfold BN;simp only[Nat.reduceAdd]at h;simp[go_sem,h];by_cases h1:a=a'
 ·by_cases h2:b=b'
  ·by_cases h3:c=c'->d=d'->¬ e=e'
   ·have k:(c==c'&&(d==d'&&e==e'))=false:=by
     rw[Bool.eq_false_iff];intro h;simp only[Bool.and_eq_true,beq_iff_eq]at h;exact h3 h.1 h.2.1 h.2.2
    rw[if_pos h1,if_pos h2,if_pos h3,k];simp
   ·have k:(c==c'&&(d==d'&&e==e'))=true:=by
     simp only[Bool.and_eq_true,beq_iff_eq];exact⟨Decidable.byContradiction fun x=>h3 fun y=>absurd y x,Decidable.byContradiction fun x=>h3 fun _ y=>absurd y x,Decidable.byContradiction fun x=>h3 fun _ _=>x⟩
    rw[if_pos h1,if_pos h2,if_neg h3,k];by_cases h4:f=f'->g=g'->¬ q=q'
    ·have k:(f==f'&&(g==g'&&q==q'))=false:=by
      rw[Bool.eq_false_iff];intro h;simp only[Bool.and_eq_true,beq_iff_eq]at h;exact h4 h.1 h.2.1 h.2.2
     rw[if_pos h4,k];simp
    ·have k:(f==f'&&(g==g'&&q==q'))=true:=by
      simp only[Bool.and_eq_true,beq_iff_eq];exact⟨Decidable.byContradiction fun x=>h4 fun y=>absurd y x,Decidable.byContradiction fun x=>h4 fun _ y=>absurd y x,Decidable.byContradiction fun x=>h4 fun _ _=>x⟩
     rw[if_neg h4,k];simp[h1,h2]
  ·simp[h1,h2]
 ·simp[h1]
theorem agD (a b c d e f g h a' b' c' d' e' f' g' h':Int) (w:World):(binOp .neq 140 (.agg #[.int .i64 a,.int .i64 b,.int .i64 c,.int .i64 d,.int .i64 e,.int .i64 f,.int .i64 g,.int .i64 h]) (.agg #[.int .i64 a',.int .i64 b',.int .i64 c',.int .i64 d',.int .i64 e',.int .i64 f',.int .i64 g',.int .i64 h'])).run Tryz.prog w=.ok (.bool (!BN a b c d e f g h a' b' c' d' e' f' g' h')) w:=by
 rw[run_neq_struct,agC];rfl
theorem agE (a b c d e f g h:Int):BN a b c d e f g h a b c d e f g h=true:=by simp[BN]
end Go.Proofs.YtjolccidheflpaaGreatDoor
