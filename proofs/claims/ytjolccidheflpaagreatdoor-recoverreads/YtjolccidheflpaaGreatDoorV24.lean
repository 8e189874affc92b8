/- The small functions of package purse by their contracts: grow, isClient, isBelowZero, isWell, asked. -/
import Derived.Test.YtjolccidheflpaaGreatDoorV23
import Derived.Test.YtjolccidheflpaaGreatDoorV09
import Derived.BigRegion
import Derived.Test.YtjolccidheflpaaGreatDoorV00
import Derived.Deep.WholeRow
import Derived.Laws.CopyOwn
import Derived.Deep.MidRow
import Derived.Laws.ResultCell
import Derived.Deep.RegionLaw
import Derived.Test.YtjolccidheflpaaGreatDoorV08
import Derived.OwnWalk
namespace Go.Proofs.YtjolccidheflpaaGreatDoor
set_option maxHeartbeats 8000000
open Go.RowKit
set_option maxRecDepth 100000
theorem yN (B o:Nat) (t more most:Int) (w:World) (hc:w.cell? ⟨B,o,none⟩=some (.int .i64 t)) (h0:0<=t) (h1:t<=most) (h2:most<=1099511627776) (h:most-t<more) :
  Calls Tryz.prog 207 #[.pointer (some ⟨B,o,none⟩),.int .i64 more,.int .i64 most] w fun e w'=>e=.returned (.bool false)∧w'=w:=by
 go_enter Tryz.func207,Tryz.ntmps207;go_wp2;go_ret;exact⟨rfl,rfl⟩
theorem yO (B o:Nat) (t more most:Int) (w:World) (hc:w.cell? ⟨B,o,none⟩=some (.int .i64 t)) (hf:w.frozen? ⟨B,o,none⟩=false) (h0:0<=t) (h1:t<=most) (h2:most<=1099511627776) (h3:0<=more) (h:¬ most-t<more) :
  Calls Tryz.prog 207 #[.pointer (some ⟨B,o,none⟩),.int .i64 more,.int .i64 most] w fun e w'=>e=.returned (.bool true)∧w'=w.setCell ⟨B,o,none⟩ (.int .i64 (t+more)):=by
 go_enter Tryz.func207,Tryz.ntmps207;go_wp2;go_ret;exact⟨rfl,rfl⟩
theorem Vr (n:Int) (w:World):Calls Tryz.prog 97 #[.int .i64 n] w fun e w'=>e=.returned (.bool (ah.aC n 0 5))∧w'=w:=by
 go_enter Tryz.func97,Tryz.ntmps97
 go_wp2_with fail
 refine(fY n 0 5 w).mono ?_;rintro e w2 ⟨rfl,rfl⟩;simp only[];go_wp2;go_ret;exact⟨rfl,rfl⟩
theorem Vs (a b c:Int) (w:World):(Instr.index 138 (.agg #[.int .i64 a,.int .i64 b,.int .i64 c]) (.int .i64 0)).run Tryz.prog w=.ok (.int .i64 a) w:=by kernel_rfl
theorem Vt (a b c:Int) (w:World):(Instr.index 138 (.agg #[.int .i64 a,.int .i64 b,.int .i64 c]) (.int .i64 1)).run Tryz.prog w=.ok (.int .i64 b) w:=by kernel_rfl
theorem Vu (a b c:Int) (w:World):(Instr.index 138 (.agg #[.int .i64 a,.int .i64 b,.int .i64 c]) (.int .i64 2)).run Tryz.prog w=.ok (.int .i64 c) w:=by kernel_rfl
theorem agI (cash s0 s1 s2:Int) (w:World):Calls Tryz.prog 206 #[.int .i64 cash,.agg #[.int .i64 s0,.int .i64 s1,.int .i64 s2]] w fun e w'=>e=.returned (.bool (decide (s0<0) || decide (s1<0) || decide (s2<0) || decide (cash<0)))∧Below w.heap.size w w':=by
 have hb:Hid (Below w.heap.size w (w.alloc (.cells #[.int .i64 s0,.int .i64 s1,.int .i64 s2] 138))):=(bRq _ _).alloc (lRq _) _;have i0:=@Vs;have i1:=@Vt;have i2:=@Vu;by_cases h0:s0<0
 ·go_enter Tryz.func206,Tryz.ntmps206
  go_wp2;refine wp_loop_rounds 1 ?_;rw[rounds_succ];go_wp2;go_ret;exact⟨gB (by simp[h0]),hb.out⟩
 by_cases h1:s1<0
 ·go_enter Tryz.func206,Tryz.ntmps206
  go_wp2;refine wp_loop_rounds 2 ?_;rw[rounds_succ];go_wp2;rw[rounds_succ];go_wp2;go_ret;exact⟨gB (by simp[h1]),hb.out⟩
 by_cases h2:s2<0
 ·go_enter Tryz.func206,Tryz.ntmps206
  go_wp2;refine wp_loop_rounds 3 ?_;rw[rounds_succ];go_wp2;rw[rounds_succ];go_wp2;rw[rounds_succ];go_wp2;go_ret;exact⟨gB (by simp[h2]),hb.out⟩
 ·have H:Hid (¬ s0<0∧¬ s1<0∧¬ s2<0):=⟨h0,h1,h2⟩
  go_enter Tryz.func206,Tryz.ntmps206;go_wp2;refine wp_loop_rounds 4 ?_;rw[rounds_succ];go_wp2;rw[rounds_succ];go_wp2;rw[rounds_succ];go_wp2;rw[rounds_succ];go_wp2;go_ret;exact⟨gB (by obtain⟨a,b,c⟩:=H.out;simp[show ¬ s0<0 by omega,show ¬ s1<0 by omega,show ¬ s2<0 by omega]),hb.out⟩
theorem VB (x:Cv.ag):Cv.oK [x] 0=Cv.ok x:=by simp[Cv.oK,Cv.nth,Cv.has]
theorem Gy (item:Int) (x:Cv.ag) (T:TypeId) (v1 v6 v7:Value) (w:World) (he:Hid (gK w T v1 v6 v7)) :
  Calls Tryz.prog 279 #[.int .i64 item,bJ x] w fun e w'=>e=.returned (.bool (Pu.well item x))∧Below w.heap.size w w':=by
 show Calls Tryz.prog 279 #[.int .i64 item,.agg #[.int .i64 x.id,.int .i64 x.ak,.int .i64 x.sd,.int .i64 x.pr,.int .i64 x.q]] w _;have hb1:Below w.heap.size w (w.alloc (.cells #[.int .i64 x.id,.int .i64 x.ak,.int .i64 x.sd,.int .i64 x.pr,.int .i64 x.q] 197)):=(bRq _ _).alloc (lRq _) _;have hb2:Below w.heap.size w ((w.alloc (.cells #[.int .i64 x.id,.int .i64 x.ak,.int .i64 x.sd,.int .i64 x.pr,.int .i64 x.q] 197)).alloc (.cells #[.int .i64 x.id,.int .i64 x.ak,.int .i64 x.sd,.int .i64 x.pr,.int .i64 x.q] 197)):=hb1.alloc hb1.size _;have HB1:=hDq hb1;have HB2:=hDq hb2;have HC:=hDq (JZ (w.heap.size+1) 0 1 1 [x] T v1 v6 v7 ((w.alloc (.cells #[.int .i64 x.id,.int .i64 x.ak,.int .i64 x.sd,.int .i64 x.pr,.int .i64 x.q] 197)).alloc (.cells #[.int .i64 x.id,.int .i64 x.ak,.int .i64 x.sd,.int .i64 x.pr,.int .i64 x.q] 197)) rfl (by decide) (by decide) (by
  intro i hi;have:i=0:=by simp at hi;omega
  subst this;refine⟨?_,?_,?_,?_,?_⟩ <;> simp[Cv.nth]) (he.out.later hb2))
 clear hb1 hb2;cases hw:ah.aC item 0 2 with
 | false =>
  have HW:Hid (Pu.well item x=false):=by show _=_;unfold Pu.well;rw[hw];rfl
  have HI:=hDq (fY item 0 2 (w.alloc (.cells #[.int .i64 x.id,.int .i64 x.ak,.int .i64 x.sd,.int .i64 x.pr,.int .i64 x.q] 197)));rw[hw]at HI;clear hw;go_enter Tryz.func279,Tryz.ntmps279
  go_wp2_with fail
  refine HI.out.mono ?_;rintro e w2 ⟨rfl,rfl⟩;simp only[];go_wp2;go_ret;exact⟨gB HW.out.symm,HB1.out⟩
 | true =>
  have HW:Hid (Pu.well item x=Cv.ok x):=by show _=_;unfold Pu.well;rw[hw];rfl
  have HI:=hDq (fY item 0 2 (w.alloc (.cells #[.int .i64 x.id,.int .i64 x.ak,.int .i64 x.sd,.int .i64 x.pr,.int .i64 x.q] 197)));rw[hw]at HI;clear hw;go_enter Tryz.func279,Tryz.ntmps279
  go_wp2_with fail
  refine HI.out.mono ?_;rintro e w2 ⟨rfl,rfl⟩;simp only[]
  go_wp2_with fail
  refine HC.out.mono ?_;rintro e w3 ⟨h3,hb3⟩;have au:Hid (Below w.heap.size w w3):=HB2.out.trans (hb3.mono HB2.out.size);rcases h3 with ⟨lL,rfl⟩ | ⟨i,B,hi,_,hno,rfl,_⟩
  ·have HO:Hid (Cv.ok x=true):=by show _=_;rw[<- VB];exact lL 0 (by decide)
   clear lL hb3;simp only[];go_wp2;go_ret;exact⟨gB (by rw[HW.out,HO.out]),au.out⟩
  ·have HO:Hid (Cv.ok x=false):=by
    show _=_;have:i=0:=by omega
    subst this;rw[<- VB];exact hno
   clear hno hi hb3;simp only[];go_wp2;go_ret;exact⟨gB (by rw[HW.out,HO.out]),au.out⟩
def cw (v:Nat->Value):Nat->Value
 | 0=>.nilIface
 | c+1=>.iface 412 (v (c+1))
structure s8 (w:World) (v:Nat->Value):Prop where
 bP:gK w 412 (v 1) (v 6) (v 7)
 c9:w.cell? ⟨9,0,none⟩=some (.iface 412 (v 9))
theorem s8.later {w w':World} {v:Nat->Value} (h:s8 w v) (hb:Below w.heap.size w w'):s8 w' v:=⟨h.bP.later hb,cell_later hb h.c9⟩
theorem aN.gi {w w':World} {T:TypeId} {B:Nat} {f:Nat->Int} (h:aN w T B f) (hb:Below w.heap.size w w'):aN w' T B f:=h.later hb h.lt
structure aH (w w':World) (p:Nat):Prop where
 os:w'.os=w.os
 tape:w'.tape=w.tape
 output:w'.output=w.output
 size:w.heap.size<=w'.heap.size
 block:∀ k,k<w.heap.size->k≠p->w'.heap[k]?=w.heap[k]?
theorem aH.of_below {w w':World} (h:Below w.heap.size w w') (p:Nat):aH w w' p:=⟨h.os,h.tape,h.output,h.size,fun k hk _=>h.block k hk⟩
theorem aH.trans {w w1 w2:World} {p:Nat} (h:aH w w1 p) (h1:aH w1 w2 p):aH w w2 p :=
 ⟨h1.os.trans h.os,h1.tape.trans h.tape,h1.output.trans h.output,lTq h.size h1.size,fun k hk ha=>by rw[h1.block k (Nat.lt_of_lt_of_le hk h.size) ha];exact h.block k hk ha⟩
theorem aH.below {w w':World} {p n:Nat} (h:aH w w' p) (hn:n<=w.heap.size) (hp:n<=p):Below n w w':=⟨h.os,h.tape,h.output,h.size,fun k hk=>h.block k (by omega) (by omega)⟩
theorem aH.setCell (w:World) (g o:Nat) (v:Value):aH w (w.setCell ⟨g,o,none⟩ v) g:=⟨rfl,rfl,rfl,by simp,fun k _ ha=>Below.heap_setCell _ _ _ _ ha⟩
theorem aN.save {w w':World} {T:TypeId} {B p:Nat} {f:Nat->Int} (h:aN w T B f) (hs:aH w w' p) (hne:B≠p):aN w' T B f:=(hs.block B h.lt hne).trans h
theorem Bg {w w':World} {p:Nat} {a:Addr} {v:Value} (hs:aH w w' p) (h:w.cell? a=some v) (hne:a.block≠p):w'.cell? a=some v :=
 (World.cell?_of_block (hs.block a.block (bCq w a h) hne)).trans h
theorem Vw (p:Nat) (item:Int) (x:Cv.ag) (f:Nat->Int) (w:World) (hp:Hid (aN w 213 p f)) (hw:Hid (Pu.well item x=true)) :
  Calls Tryz.prog 280 #[.pointer (some ⟨p,0,none⟩),.int .i64 item,bJ x] w fun e w'=>e=.returned (.tuple #[.int .i64 (f (Pu.kj item x)),.pointer (some ⟨p,Pu.hx item x,none⟩),.int .i64 (Pu.mu x)])∧Below w.heap.size w w':=by
 show Calls Tryz.prog 280 #[.pointer (some ⟨p,0,none⟩),.int .i64 item,.agg #[.int .i64 x.id,.int .i64 x.ak,.int .i64 x.sd,.int .i64 x.pr,.int .i64 x.q]] w _;obtain⟨k,rfl,hk⟩:=Pu.BV hw.out;obtain⟨c,hc,kn⟩:=Pu.tP hw.out;have hpl:=hp.out.lt;have hne:¬ (w.heap.size=p):=by omega
 have jS:¬ (p=w.heap.size):=by omega
 have hbd:=Cv.fP (Pu.j8 hw.out);have oa:=Pu.tH (Pu.j8 hw.out);have hbW:Below w.heap.size w (w.alloc (.cells #[.int .i64 x.id,.int .i64 c,.int .i64 x.sd,.int .i64 x.pr,.int .i64 x.q] 197)):=(bRq _ _).alloc (lRq _) _;have bz:=hDq hbW;clear hbW;have hci:(c:Int)<6:=by omega
 have aK:(k:Int)<3:=by omega
 by_cases hs:x.sd=0
 ·have HX:Hid (Pu.kj k x=c*8∧Pu.hx k x=c*8+1∧Pu.mu x=x.pr*x.q):=by
   refine⟨?_,?_,?_⟩
   ·unfold Pu.kj;rw[if_pos hs];omega
   ·unfold Pu.hx;rw[if_pos hs];omega
   ·unfold Pu.mu;rw[if_pos hs]
  have hm:1<=x.pr*x.q∧x.pr*x.q<=1000000:=by rw[<- HX.out.2.2];exact oa
  obtain⟨m1,m2⟩:=hm;have c0:=hp.out.cell (i:=c*8) (by omega);have kY:(x.sd==0)=true:=by simp[hs]
  clear oa hbd hs;rw[hc];go_enter Tryz.func280,Tryz.ntmps280;go_wp2
  go_quiet (fail)
  go_wp2
  go_quiet (fail)
  go_wp2;refine bodyPost_ret (v:=.tuple #[.int .i64 (f (c*8)),.pointer (some ⟨p,c*8+1,none⟩),.int .i64 (x.pr*x.q)]) (by simp[results,Tryz.results280,go_sem]) rfl ⟨?_,?_⟩
  ·rw[HX.out.1,HX.out.2.1,HX.out.2.2]
  ·exact(bz.out.trans ((dn _).mono bz.out.size)).trans ((dn _).mono (by simp))
 ·have hs1:x.sd=1:=by omega
  have HX:Hid (Pu.kj k x=c*8+2+k∧Pu.hx k x=c*8+5+k∧Pu.mu x=x.q):=by
   refine⟨?_,?_,?_⟩
   ·unfold Pu.kj;rw[if_neg hs];omega
   ·unfold Pu.hx;rw[if_neg hs];omega
   ·unfold Pu.mu;rw[if_neg hs]
  have c0:=hp.out.cell (i:=c*8+2+k) (by omega);have kY:(x.sd==0)=false:=by simp[hs]
  clear oa hbd hs hs1;rw[hc];go_enter Tryz.func280,Tryz.ntmps280;go_wp2
  go_quiet (fail)
  go_wp2
  go_quiet (fail)
  go_wp2;refine bodyPost_ret (v:=.tuple #[.int .i64 (f (c*8+2+k)),.pointer (some ⟨p,c*8+5+k,none⟩),.int .i64 x.q]) (by simp[results,Tryz.results280,go_sem]) rfl ⟨?_,?_⟩
  ·rw[HX.out.1,HX.out.2.1,HX.out.2.2]
  ·exact(bz.out.trans ((dn _).mono bz.out.size)).trans ((dn _).mono (by simp))
theorem aeB (p:Nat) (item:Int) (x:Cv.ag) (f:Nat->Int) (v:Nat->Value) (w:World) (he:Hid (s8 w v)) (hp:Hid (aN w 213 p f)) (hg:Hid (Pu.Good f)) :
  Calls Tryz.prog 248 #[.pointer (some ⟨p,0,none⟩),.int .i64 item,bJ x] w fun e w'=>e=.returned (cw v (Pu.jC f item x))∧aN w' 213 p (Pu.jX f item x)∧aH w w' p:=by
 show Calls Tryz.prog 248 #[.pointer (some ⟨p,0,none⟩),.int .i64 item,.agg #[.int .i64 x.id,.int .i64 x.ak,.int .i64 x.sd,.int .i64 x.pr,.int .i64 x.q]] w _;have hbW:Below w.heap.size w (w.alloc (.cells #[.int .i64 x.id,.int .i64 x.ak,.int .i64 x.sd,.int .i64 x.pr,.int .i64 x.q] 197)):=(bRq _ _).alloc (lRq _) _;have bz:=hDq hbW;have HC:=hDq (Gy item x 412 _ _ _ _ (he.out.later hbW).bP);have HX0:Hid ((w.alloc (.cells #[.int .i64 x.id,.int .i64 x.ak,.int .i64 x.sd,.int .i64 x.pr,.int .i64 x.q] 197)).heap[w.heap.size]?=some (.cells #[.int .i64 x.id,.int .i64 x.ak,.int .i64 x.sd,.int .i64 x.pr,.int .i64 x.q] 197 (0,0))):=hNq _ _;unfold bJ at HC;clear hbW;go_enter Tryz.func248,Tryz.ntmps248
 go_wp2_with fail
 refine HC.out.mono ?_;rintro e w2 ⟨rfl,hb2⟩;have HB:Hid (Below w.heap.size w w2):=bz.out.trans (hb2.mono bz.out.size);have hX:w2.heap[w.heap.size]?=some (.cells #[.int .i64 x.id,.int .i64 x.ak,.int .i64 x.sd,.int .i64 x.pr,.int .i64 x.q] 197 (0,0)):=by
  rw[hb2.block _ (lBq HX0.out)];exact HX0.out
 have dL:=hDq hX;have fT:=hDq (hp.out.gi HB.out);clear hb2 HC bz HX0;cases hok:Pu.well item x with
 | false =>
  have HA:Hid (Pu.jC f item x=1∧Pu.jX f item x=f):=by
   have e:Pu.jC f item x=1:=by unfold Pu.jC;rw[hok];rfl
   exact⟨e,by unfold Pu.jX;rw[e];rfl⟩
  have e1:=(he.out.later HB.out).bP.c1;clear hok hX;simp only[];go_wp2;go_ret;exact⟨by rw[HA.out.1];rfl,by rw[HA.out.2];exact fT.out,aH.of_below HB.out p⟩
 | true =>
  have gY:=hDq hok;clear hok;have HQ:=hDq (Vw p item x f w2 fT.out gY.out);unfold bJ at HQ;have b0:w2.cell? ⟨w.heap.size,0,none⟩=some (.int .i64 x.id):=by simp[World.cell?,hX]
  have b1:w2.cell? ⟨w.heap.size,1,none⟩=some (.int .i64 x.ak):=by simp[World.cell?,hX]
  have b2:w2.cell? ⟨w.heap.size,2,none⟩=some (.int .i64 x.sd):=by simp[World.cell?,hX]
  have b3:w2.cell? ⟨w.heap.size,3,none⟩=some (.int .i64 x.pr):=by simp[World.cell?,hX]
  have b4:w2.cell? ⟨w.heap.size,4,none⟩=some (.int .i64 x.q):=by simp[World.cell?,hX]
  clear hX;simp only[]
  go_wp2_with fail
  refine HQ.out.mono ?_;rintro e w3 ⟨rfl,hb3⟩;have au:Hid (Below w.heap.size w w3):=HB.out.trans (hb3.mono HB.out.size);have gq:=hDq (fT.out.gi hb3);clear hb3 HQ b0 b1 b2 b3 b4;have M4:=Pu.GA hg.out gY.out;have oa:=Pu.tH (Pu.j8 gY.out);have hlt:=Pu.Vj gY.out;have ch:=gq.out.cell hlt.1;have agM:=gq.out.frozen (Pu.hx item x);have ko:Hid (Pu.jC f item x=if f (Pu.kj item x)-f (Pu.hx item x)<Pu.mu x then 9 else 0):=by show _=_;unfold Pu.jC;rw[if_pos gY.out]
  have qR:Hid (Pu.jX f item x=if Pu.jC f item x=0 then Pu.add f (Pu.hx item x) (Pu.mu x) else f):=rfl;generalize Pu.hx item x=ih at *;generalize hft:f (Pu.kj item x)=yQ at *;generalize BZ:f ih=fi at *;generalize Pu.mu x=m at *;have M5:=hDq BZ;clear hft BZ;obtain⟨g0,g1,g2⟩:=M4;obtain⟨m0,m1⟩:=oa;by_cases pH:yQ-fi<m
  ·have HA:Hid (Pu.jC f item x=9∧Pu.jX f item x=f):=by
    have e:Pu.jC f item x=9:=by rw[ko.out,if_pos pH]
    exact⟨e,by rw[qR.out,e];rfl⟩
   have e9:=(he.out.later au.out).c9;simp only[];go_wp2;go_ret;exact⟨by rw[HA.out.1];rfl,by rw[HA.out.2];exact gq.out,aH.of_below au.out p⟩
  ·have HA:Hid (Pu.jC f item x=0∧Pu.jX f item x=Pu.add f ih m):=by
    have e:Pu.jC f item x=0:=by rw[ko.out,if_neg pH]
    exact⟨e,by rw[qR.out,e];rfl⟩
   simp only[];go_wp2;go_ret;exact⟨by rw[HA.out.1];rfl,by rw[HA.out.2];exact gq.out.add _ _ _ (by rw[M5.out]),(aH.of_below au.out p).trans (aH.setCell _ _ _ _)⟩
theorem LW (p:Nat) (item:Int) (x:Cv.ag) (f:Nat->Int) (v:Nat->Value) (w:World) (he:Hid (s8 w v)) (hp:Hid (aN w 213 p f)) (hg:Hid (Pu.Good f)) :
  Calls Tryz.prog 245 #[.pointer (some ⟨p,0,none⟩),.int .i64 item,bJ x] w fun e w'=>e=.returned (cw v (Pu.gD f item x))∧aN w' 213 p (Pu.eP f item x)∧aH w w' p:=by
 show Calls Tryz.prog 245 #[.pointer (some ⟨p,0,none⟩),.int .i64 item,.agg #[.int .i64 x.id,.int .i64 x.ak,.int .i64 x.sd,.int .i64 x.pr,.int .i64 x.q]] w _;have hbW:Below w.heap.size w (w.alloc (.cells #[.int .i64 x.id,.int .i64 x.ak,.int .i64 x.sd,.int .i64 x.pr,.int .i64 x.q] 197)):=(bRq _ _).alloc (lRq _) _;have bz:=hDq hbW;have HC:=hDq (Gy item x 412 _ _ _ _ (he.out.later hbW).bP);have HX0:Hid ((w.alloc (.cells #[.int .i64 x.id,.int .i64 x.ak,.int .i64 x.sd,.int .i64 x.pr,.int .i64 x.q] 197)).heap[w.heap.size]?=some (.cells #[.int .i64 x.id,.int .i64 x.ak,.int .i64 x.sd,.int .i64 x.pr,.int .i64 x.q] 197 (0,0))):=hNq _ _;unfold bJ at HC;clear hbW;go_enter Tryz.func245,Tryz.ntmps245
 go_wp2_with fail
 refine HC.out.mono ?_;rintro e w2 ⟨rfl,hb2⟩;have HB:Hid (Below w.heap.size w w2):=bz.out.trans (hb2.mono bz.out.size);have hX:w2.heap[w.heap.size]?=some (.cells #[.int .i64 x.id,.int .i64 x.ak,.int .i64 x.sd,.int .i64 x.pr,.int .i64 x.q] 197 (0,0)):=by
  rw[hb2.block _ (lBq HX0.out)];exact HX0.out
 have dL:=hDq hX;have fT:=hDq (hp.out.gi HB.out);clear hb2 HC bz HX0;cases hok:Pu.well item x with
 | false =>
  have HA:Hid (Pu.gD f item x=1∧Pu.eP f item x=f):=by
   have e:Pu.gD f item x=1:=by unfold Pu.gD;rw[hok];rfl
   exact⟨e,by unfold Pu.eP;rw[e];rfl⟩
  have e1:=(he.out.later HB.out).bP.c1;clear hok hX;simp only[];go_wp2;go_ret;exact⟨by rw[HA.out.1];rfl,by rw[HA.out.2];exact fT.out,aH.of_below HB.out p⟩
 | true =>
  have gY:=hDq hok;clear hok;have HQ:=hDq (Vw p item x f w2 fT.out gY.out);unfold bJ at HQ;have b0:w2.cell? ⟨w.heap.size,0,none⟩=some (.int .i64 x.id):=by simp[World.cell?,hX]
  have b1:w2.cell? ⟨w.heap.size,1,none⟩=some (.int .i64 x.ak):=by simp[World.cell?,hX]
  have b2:w2.cell? ⟨w.heap.size,2,none⟩=some (.int .i64 x.sd):=by simp[World.cell?,hX]
  have b3:w2.cell? ⟨w.heap.size,3,none⟩=some (.int .i64 x.pr):=by simp[World.cell?,hX]
  have b4:w2.cell? ⟨w.heap.size,4,none⟩=some (.int .i64 x.q):=by simp[World.cell?,hX]
  clear hX;simp only[]
  go_wp2_with fail
  refine HQ.out.mono ?_;rintro e w3 ⟨rfl,hb3⟩;have au:Hid (Below w.heap.size w w3):=HB.out.trans (hb3.mono HB.out.size);have gq:=hDq (fT.out.gi hb3);clear hb3 HQ b0 b1 b2 b3 b4;have M4:=Pu.GA hg.out gY.out;have oa:=Pu.tH (Pu.j8 gY.out);have hlt:=Pu.Vj gY.out;have ch:=gq.out.cell hlt.1;have agM:=gq.out.frozen (Pu.hx item x);have ko:Hid (Pu.gD f item x=if f (Pu.hx item x)<Pu.mu x then 9 else 0):=by show _=_;unfold Pu.gD;rw[if_pos gY.out]
  have qR:Hid (Pu.eP f item x=if Pu.gD f item x=0 then Pu.add f (Pu.hx item x) (-(Pu.mu x)) else f):=rfl;generalize Pu.hx item x=ih at *;generalize hft:f (Pu.kj item x)=yQ at *;generalize BZ:f ih=fi at *;generalize Pu.mu x=m at *;have M5:=hDq BZ;clear hft BZ;obtain⟨g0,g1,g2⟩:=M4;obtain⟨m0,m1⟩:=oa;by_cases pH:fi<m
  ·have HA:Hid (Pu.gD f item x=9∧Pu.eP f item x=f):=by
    have e:Pu.gD f item x=9:=by rw[ko.out,if_pos pH]
    exact⟨e,by rw[qR.out,e];rfl⟩
   have e9:=(he.out.later au.out).c9;simp only[];go_wp2;go_ret;exact⟨by rw[HA.out.1];rfl,by rw[HA.out.2];exact gq.out,aH.of_below au.out p⟩
  ·have HA:Hid (Pu.gD f item x=0∧Pu.eP f item x=Pu.add f ih (-m)):=by
    have e:Pu.gD f item x=0:=by rw[ko.out,if_neg pH]
    exact⟨e,by rw[qR.out,e];rfl⟩
   simp only[];go_wp2;go_ret;exact⟨by rw[HA.out.1];rfl,by rw[HA.out.2];exact gq.out.add _ _ _ (by rw[M5.out];omega),(aH.of_below au.out p).trans (aH.setCell _ _ _ _)⟩
theorem aH.setRow (w:World) (g:Nat) (c:Array Value):aH w (w.setRow g c) g:=⟨rfl,rfl,rfl,by simp[World.setRow],fun k _ ha=>setRow_other w g k c ha⟩
theorem ad8 (w:World):Calls Tryz.prog 161 #[] w fun e w'=>e=.returned (.pointer (some ⟨w.heap.size,0,none⟩))∧w'=w.alloc (.cells (bU fun _=>0) 213):=by
 have z55:=M6;go_enter Tryz.func161,Tryz.ntmps161;go_wp2;go_ret;exact⟨rfl,rfl⟩
def qq (f:Nat->Int) (c:Nat):Value:=.agg #[.int .i64 (f (c*8)),.int .i64 (f (c*8+1)),.int .i64 (f (c*8+2)),.int .i64 (f (c*8+3)),.int .i64 (f (c*8+4)),.int .i64 (f (c*8+5)),.int .i64 (f (c*8+6)),.int .i64 (f (c*8+7))]
def yR (f:Nat->Int) (n:Int):Value:=if ah.aC n 0 5=true then qq f n.toNat else qq (fun _=>0) 0
theorem Vz (f:Nat->Int) {c:Nat} (h:c<6):yR f c=qq f c:=by
 unfold yR;rw[if_pos (by simp[ah.aC];omega),Int.toNat_natCast]
theorem VA (p:Nat) (n:Int) (f:Nat->Int) (w:World) (hp:Hid (aN w 213 p f)) :
  Calls Tryz.prog 70 #[.pointer (some ⟨p,0,none⟩),.int .i64 n] w fun e w'=>e=.returned (yR f n)∧Below w.heap.size w w':=by
 have hbW:Below w.heap.size w (w.alloc (.cells #[.int .i64 0,.int .i64 0,.int .i64 0,.int .i64 0,.int .i64 0,.int .i64 0,.int .i64 0,.int .i64 0] 140)):=(bRq _ _).alloc (lRq _) _;have bz:=hDq hbW;have HI:=hDq (Vr n (w.alloc (.cells #[.int .i64 0,.int .i64 0,.int .i64 0,.int .i64 0,.int .i64 0,.int .i64 0,.int .i64 0,.int .i64 0] 140)));clear hbW;have hpl:=hp.out.lt;cases hin:ah.aC n 0 5 with
 | false =>
  have HO:Hid (yR f n=qq (fun _=>0) 0):=by show _=_;unfold yR;rw[if_neg (by rw[hin];simp)]
  rw[hin]at HI;clear hin;go_enter Tryz.func70,Tryz.ntmps70
  go_wp2_with fail
  refine HI.out.mono ?_;rintro e w2 ⟨rfl,rfl⟩;simp only[];go_wp2;refine bodyPost_ret (v:=qq (fun _=>0) 0) (by simp[results,Tryz.results70,go_sem,qq]) rfl ⟨by rw[HO.out],?_⟩;exact bz.out
 | true =>
  obtain⟨c,rfl,kn⟩:∃ c:Nat,n=c∧c<6:=by
   simp only[ah.aC,Bool.and_eq_true,decide_eq_true_eq]at hin;exact⟨n.toNat,by omega,by omega⟩
  have HO:Hid (yR f c=qq f c):=Vz f kn;rw[hin]at HI;clear hin;have hci:(c:Int)<6:=by omega
  have c0:=hp.out.cell (i:=c*8) (by omega);have c1:=hp.out.cell (i:=c*8+1) (by omega);have c2:=hp.out.cell (i:=c*8+2) (by omega);have c3:=hp.out.cell (i:=c*8+3) (by omega);have c4:=hp.out.cell (i:=c*8+4) (by omega);have c5:=hp.out.cell (i:=c*8+5) (by omega);have c6:=hp.out.cell (i:=c*8+6) (by omega);have c7:=hp.out.cell (i:=c*8+7) (by omega);have hne:¬ (w.heap.size=p):=by omega
  have jS:¬ (p=w.heap.size):=by omega
  go_enter Tryz.func70,Tryz.ntmps70
  go_wp2_with fail
  refine HI.out.mono ?_;rintro e w2 ⟨rfl,rfl⟩;simp only[];go_wp2;refine bodyPost_ret (v:=qq f c) (by simp[results,Tryz.results70,go_sem,qq]) rfl ⟨by rw[HO.out],?_⟩;exact(bRq _ _).alloc (lRq _) _
theorem aeQ (p:Nat) (f:Nat->Int) (w:World) (hp:Hid (aN w 213 p f)) :
  Calls Tryz.prog 261 #[.pointer (some ⟨p,0,none⟩)] w fun e w'=>e=.returned (.pointer (some ⟨w.heap.size,0,none⟩))∧aN w' 213 w.heap.size f∧Below w.heap.size w w':=by
 have z55:=M6;have HN:Hid (aN (w.alloc (.cells (bU fun _=>0) 213)) 213 w.heap.size (fun _=>0)):=aN.new w 213 _;go_enter Tryz.func261,Tryz.ntmps261
 go_wp2_with (first | refine M7 (B:=p) (f:=f) hp.out rfl (.tmp 5) rfl rfl ?_ | refine F6 (B:=w.heap.size) f (f:=fun _=>0) HN.out rfl (.tmp 3) (.tmp 6) rfl rfl rfl ?_)
 go_ret;exact⟨rfl,HN.out.stored f,aH.below ((aH.of_below ((bRq _ _).alloc (lRq _) _) _).trans (aH.setRow _ _ _)) (lRq _) (lRq _)⟩
def Tj (g:Pu.eW):Value:=.agg #[.int .i64 g.s0,.int .i64 g.s1,.int .i64 g.s2]
def d8 (w:World) (B:Nat) (T:TypeId) (v0 v1 v2 v3 v4 v5 v6 v7:Int):Prop:=w.heap[B]?=some (.cells #[.int .i64 v0,.int .i64 v1,.int .i64 v2,.int .i64 v3,.int .i64 v4,.int .i64 v5,.int .i64 v6,.int .i64 v7] T (0,0))
theorem yL {w:World} {B j:Nat} {T:TypeId} {a a':Array Value} (v:Value) (h:w.heap[B]?=some (.cells a T (0,0))) (e:a.setIfInBounds j v=a'):(w.setCell ⟨B,j,none⟩ v).heap[B]?=some (.cells a' T (0,0)):=by
 rw[setCell_eq_setRow w B j _ _ _ _ h,e];exact setRow_heap w B _ _ _ _ h
theorem dc {w:World} {B j:Nat} {T:TypeId} {a:Array Value} {v:Value} (h:w.heap[B]?=some (.cells a T (0,0))) (e:a[j]?=some v):w.cell? ⟨B,j,none⟩=some v:=by
 rw[cR w B j _ _ _ h,e]
theorem yM {w:World} {B j:Nat} {T:TypeId} {a:Array Value} (h:w.heap[B]?=some (.cells a T (0,0))):w.frozen? ⟨B,j,none⟩=false:=by
 simp[World.frozen?,h]
theorem agH {f:Nat->Int} {c:Nat} (cash s0 s1 s2:Int) (j:Nat) :
  (if j=c*8+7 then f (c*8+7) else if j=c*8+6 then f (c*8+6) else if j=c*8+5 then f (c*8+5) else if j=c*8+4 then f (c*8+4)+s2 else if j=c*8+3 then f (c*8+3)+s1 else if j=c*8+2 then f (c*8+2)+s0 else if j=c*8+1 then f (c*8+1) else if j=c*8 then f (c*8)+cash else f j)
   = Pu.add (Pu.add (Pu.add (Pu.add f (c*8) cash) (c*8+2) s0) (c*8+3) s1) (c*8+4) s2 j:=by
 simp only[Pu.add];by_cases h7:j=c*8+7
 ·subst h7;simp
 by_cases h6:j=c*8+6
 ·subst h6;simp
 by_cases h5:j=c*8+5
 ·subst h5;simp
 by_cases h4:j=c*8+4
 ·subst h4;simp
 by_cases h3:j=c*8+3
 ·subst h3;simp
 by_cases h2:j=c*8+2
 ·subst h2;simp
 by_cases h1:j=c*8+1
 ·subst h1;simp
 by_cases h0:j=c*8
 ·subst h0;simp
 simp[h0,h1,h2,h3,h4,h5,h6,h7]
theorem aed (p:Nat) (g:Pu.eW) (f:Nat->Int) (v:Nat->Value) (w:World) (he:Hid (s8 w v)) (hp:Hid (aN w 213 p f)) (hg:Hid (Pu.Good f)) :
  Calls Tryz.prog 163 #[.pointer (some ⟨p,0,none⟩),.int .i64 g.n,.int .i64 g.cash,Tj g] w fun e w'=>e=.returned (cw v (Pu.jd f g))∧aN w' 213 p (Pu.iC f g)∧aH w w' p:=by
 show Calls Tryz.prog 163 #[.pointer (some ⟨p,0,none⟩),.int .i64 g.n,.int .i64 g.cash,.agg #[.int .i64 g.s0,.int .i64 g.s1,.int .i64 g.s2]] w _;have hbW:Below w.heap.size w (w.alloc (.cells #[.int .i64 g.s0,.int .i64 g.s1,.int .i64 g.s2] 138)):=(bRq _ _).alloc (lRq _) _;have bz:=hDq hbW;have HI:=hDq (Vr g.n (w.alloc (.cells #[.int .i64 g.s0,.int .i64 g.s1,.int .i64 g.s2] 138)));have HN:=hDq (agI g.cash g.s0 g.s1 g.s2 (w.alloc (.cells #[.int .i64 g.s0,.int .i64 g.s1,.int .i64 g.s2] 138)));have HX0:Hid ((w.alloc (.cells #[.int .i64 g.s0,.int .i64 g.s1,.int .i64 g.s2] 138)).heap[w.heap.size]?=some (.cells #[.int .i64 g.s0,.int .i64 g.s1,.int .i64 g.s2] 138 (0,0))):=hNq _ _;clear hbW;cases hin:ah.aC g.n 0 5 with
 | false =>
  have HA:Hid (Pu.jd f g=1∧Pu.iC f g=f):=by
   have e:Pu.jd f g=1:=by unfold Pu.jd Pu.eW.fine;rw[hin];rfl
   exact⟨e,by unfold Pu.iC;rw[e];rfl⟩
  have e1:=(he.out.later bz.out).bP.c1;rw[hin]at HI;clear hin;go_enter Tryz.func163,Tryz.ntmps163
  go_wp2_with fail
  refine HI.out.mono ?_;rintro e w2 ⟨rfl,rfl⟩;simp only[];go_wp2;go_ret;exact⟨by rw[HA.out.1];rfl,by rw[HA.out.2];exact hp.out.gi bz.out,aH.of_below bz.out p⟩
 | true =>
  rw[hin]at HI;have MY:=hDq hin;clear hin;cases wu:g.neg with
  | true =>
   have HA:Hid (Pu.jd f g=1∧Pu.iC f g=f):=by
    have e:Pu.jd f g=1:=by unfold Pu.jd Pu.eW.fine;rw[wu,MY.out];rfl
    exact⟨e,by unfold Pu.iC;rw[e];rfl⟩
   rw[show (decide (g.s0<0) || decide (g.s1<0) || decide (g.s2<0) || decide (g.cash<0))=true from wu]at HN;clear wu;go_enter Tryz.func163,Tryz.ntmps163
   go_wp2_with fail
   refine HI.out.mono ?_;rintro e w2 ⟨rfl,rfl⟩;simp only[]
   go_wp2_with fail
   refine HN.out.mono ?_;rintro e w3 ⟨rfl,hb3⟩;have au:Hid (Below w.heap.size w w3):=bz.out.trans (hb3.mono bz.out.size);have e1:=(he.out.later au.out).bP.c1;clear hb3;simp only[];go_wp2;go_ret;exact⟨by rw[HA.out.1];rfl,by rw[HA.out.2];exact hp.out.gi au.out,aH.of_below au.out p⟩
  | false =>
   rw[show (decide (g.s0<0) || decide (g.s1<0) || decide (g.s2<0) || decide (g.cash<0))=false from wu]at HN;have HF:Hid (g.fine=true):=by show _=_;unfold Pu.eW.fine;rw[MY.out,wu];rfl
   obtain⟨c,hc,kn⟩:∃ c:Nat,g.n=c∧c<6:=by
    have:=MY.out
    simp only[ah.aC,Bool.and_eq_true,decide_eq_true_eq]at this;exact⟨g.n.toNat,by omega,by omega⟩
   have hpos:0<=g.s0∧0<=g.s1∧0<=g.s2∧0<=g.cash:=by
    simp only[Pu.eW.neg,Bool.or_eq_false_iff,decide_eq_false_iff_not]at wu;omega
   clear wu;obtain⟨p0,p1,p2,p3⟩:=hpos;have hci:(c:Int)<6:=by omega
   have g1:=hg.out.cash c kn;have g2:=hg.out.stock c 0 kn (by decide);have g3:=hg.out.stock c 1 kn (by decide);have g4:=hg.out.stock c 2 kn (by decide);simp only[Nat.add_zero,Nat.add_assoc,Nat.reduceAdd]at g1 g2 g3 g4;have fT:=hp.out.gi bz.out;rw[hc]at HI ⊢;have i0:=@Vs;have i1:=@Vt;have i2:=@Vu;go_enter Tryz.func163,Tryz.ntmps163
   go_wp2_with fail
   refine HI.out.mono ?_;rintro e w2 ⟨rfl,rfl⟩;simp only[]
   go_wp2_with fail
   refine HN.out.mono ?_;rintro e w3 ⟨rfl,hb3⟩;have au:Hid (Below w.heap.size w w3):=bz.out.trans (hb3.mono bz.out.size);have hX:w3.heap[w.heap.size]?=some (.cells #[.int .i64 g.s0,.int .i64 g.s1,.int .i64 g.s2] 138 (0,0)):=by
    rw[hb3.block _ (lBq HX0.out)];exact HX0.out
   have BX:=hp.out.gi au.out;have gq:=hDq BX;have x0:w3.cell? ⟨w.heap.size,0,none⟩=some (.int .i64 g.s0):=by simp[World.cell?,hX]
   have x1:w3.cell? ⟨w.heap.size,1,none⟩=some (.int .i64 g.s1):=by simp[World.cell?,hX]
   have x2:w3.cell? ⟨w.heap.size,2,none⟩=some (.int .i64 g.s2):=by simp[World.cell?,hX]
   have HX:=hDq (And.intro x0 (And.intro x1 x2));clear x0 x1 x2;have lL:w.heap.size<w3.heap.size:=lBq hX;have hpl:p<w3.heap.size:=BX.lt;have agJ:Hid (∀ w' a0 a2 a3 a4,aN w' 213 p f->a0=f (c*8)+g.cash->a2=f (c*8+2)+g.s0->a3=f (c*8+3)+g.s1->a4=f (c*8+4)+g.s2 ->
     aN ((((((((w'.setCell ⟨p,c*8,none⟩ (.int .i64 a0)).setCell ⟨p,c*8+1,none⟩ (.int .i64 (f (c*8+1)))).setCell ⟨p,c*8+2,none⟩ (.int .i64 a2)).setCell ⟨p,c*8+3,none⟩ (.int .i64 a3)).setCell ⟨p,c*8+4,none⟩ (.int .i64 a4)).setCell ⟨p,c*8+5,none⟩ (.int .i64 (f (c*8+5)))).setCell ⟨p,c*8+6,none⟩ (.int .i64 (f (c*8+6)))).setCell ⟨p,c*8+7,none⟩ (.int .i64 (f (c*8+7)))) 213 p
      (Pu.add (Pu.add (Pu.add (Pu.add f (c*8) g.cash) (c*8+2) g.s0) (c*8+3) g.s1) (c*8+4) g.s2)):=by
    intro w' a0 a2 a3 a4 h e0 e2 e3 e4;subst e0 e2 e3 e4;exact(h.agK c _ _ _ _ _ _ _ _).congr fun j _=>agH _ _ _ _ j
   have rB:Hid (g.over f=(decide (1099511627776-f (c*8)<g.cash) || decide (1073741824-f (c*8+2)<g.s0) || decide (1073741824-f (c*8+3)<g.s1) || decide (1073741824-f (c*8+4)<g.s2))):=by
    show _=_;unfold Pu.eW.over;rw[hc,Int.toNat_natCast]
   have tQ:Hid (g.over f=true->Pu.jd f g=7∧Pu.iC f g=f):=fun h=>by
    have e:Pu.jd f g=7:=by unfold Pu.jd;rw[if_pos HF.out,if_pos h]
    exact⟨e,by unfold Pu.iC;rw[e];rfl⟩
   have Vv:Hid (g.over f=false->Pu.jd f g=0∧Pu.iC f g=Pu.add (Pu.add (Pu.add (Pu.add f (c*8) g.cash) (c*8+2) g.s0) (c*8+3) g.s1) (c*8+4) g.s2):=fun h=>by
    have e:Pu.jd f g=0:=by unfold Pu.jd;rw[if_pos HF.out,if_neg (by rw[h];simp)]
    exact⟨e,by unfold Pu.iC;rw[if_pos e,hc,Int.toNat_natCast]⟩
   have MZ:Hid (∀ w',Below w3.heap.size w3 w'->(∀ i,i<48->w'.cell? ⟨p,i,none⟩=some (.int .i64 (f i)))∧∀ i,w'.frozen? ⟨p,i,none⟩=false):=fun w' hb=>⟨fun i hi=>(BX.gi hb).cell hi,fun i=>(BX.gi hb).frozen i⟩;have hcl:=(MZ.out w3 (bRq _ _)).1;have c0:=hcl (c*8) (by omega);have c1:=hcl (c*8+1) (by omega);have c2:=hcl (c*8+2) (by omega);have c3:=hcl (c*8+3) (by omega);have c4:=hcl (c*8+4) (by omega);have c5:=hcl (c*8+5) (by omega);have c6:=hcl (c*8+6) (by omega);have c7:=hcl (c*8+7) (by omega);clear hb3 hX BX HI HN HX0 fT hcl;generalize f (c*8)=u0 at *;generalize f (c*8+1)=u1 at *;generalize f (c*8+2)=u2 at *;generalize f (c*8+3)=u3 at *;generalize f (c*8+4)=u4 at *;generalize f (c*8+5)=u5 at *;generalize f (c*8+6)=u6 at *;generalize f (c*8+7)=u7 at *;generalize agL:g.cash=ca at *;generalize hs0:g.s0=s0 at *;generalize hs1:g.s1=s1 at *;generalize hs2:g.s2=s2 at *;clear agL hs0 hs1 hs2;have HH:Hid ((w3.alloc (.cells #[.int .i64 u0,.int .i64 u1,.int .i64 u2,.int .i64 u3,.int .i64 u4,.int .i64 u5,.int .i64 u6,.int .i64 u7] 140)).heap[w3.heap.size]?=some (.cells #[.int .i64 u0,.int .i64 u1,.int .i64 u2,.int .i64 u3,.int .i64 u4,.int .i64 u5,.int .i64 u6,.int .i64 u7] 140 (0,0))):=hNq _ _;have cV:Hid (Below w3.heap.size w3 (w3.alloc (.cells #[.int .i64 u0,.int .i64 u1,.int .i64 u2,.int .i64 u3,.int .i64 u4,.int .i64 u5,.int .i64 u6,.int .i64 u7] 140))):=(bRq _ _).alloc (lRq _) _;simp only[]
   go_wp2_with fail
   clear c0 c1 c2 c3 c4 c5 c6 c7;generalize w3.alloc (.cells #[.int .i64 u0,.int .i64 u1,.int .i64 u2,.int .i64 u3,.int .i64 u4,.int .i64 u5,.int .i64 u6,.int .i64 u7] 140)=w4 at *;by_cases o0:1099511627776-u0<ca
   ·have HO:Hid (g.over f=true):=by show _=_;rw[rB.out];simp[o0]
    refine(yN w3.heap.size 0 u0 ca 1099511627776 w4 (dc HH.out rfl) (by omega) (by omega) (by omega) o0).mono ?_;rintro e ar ⟨rfl,rfl⟩;have b9:Hid (Below w.heap.size w ar):=au.out.trans (cV.out.mono au.out.size);have e7:=(he.out.later b9.out).bP.c7;simp only[];go_wp2;go_ret;exact⟨by rw[(tQ.out HO.out).1];rfl,by rw[(tQ.out HO.out).2];exact gq.out.gi cV.out,aH.of_below b9.out p⟩
   refine(yO w3.heap.size 0 u0 ca 1099511627776 w4 (dc HH.out rfl) (yM HH.out) (by omega) (by omega) (by omega) (by omega) o0).mono ?_;rintro e aQ ⟨rfl,s9⟩;have HH0:Hid (aQ.heap[w3.heap.size]?=some (.cells #[.int .i64 (u0+ca),.int .i64 u1,.int .i64 u2,.int .i64 u3,.int .i64 u4,.int .i64 u5,.int .i64 u6,.int .i64 u7] 140 (0,0))):=by rw[s9];exact yL _ HH.out rfl
   have aok:Hid (Below w3.heap.size w3 aQ):=by rw[s9];exact cV.out.setCell (lRq _) _
   clear HH cV s9
   rename Hid (aQ.heap[w3.heap.size]?=_)=>HH
   rename Hid (Below w3.heap.size w3 aQ)=>cV
   simp only[];have x0:=cell_later cV.out HX.out.1;have x1:=cell_later cV.out HX.out.2.1;have x2:=cell_later cV.out HX.out.2.2
   go_wp2_with fail
   clear x0 x1 x2;refine wp_loop_rounds 4 ?_;rw[rounds_succ]
   go_wp2_with fail
   by_cases o1:1073741824-u2<s0
   ·have HO:Hid (g.over f=true):=by show _=_;rw[rB.out];simp[o1]
    refine(yN w3.heap.size 2 u2 s0 1073741824 aQ (dc HH.out rfl) (by omega) (by omega) (by omega) o1).mono ?_;rintro e ar ⟨rfl,rfl⟩;have b9:Hid (Below w.heap.size w ar):=au.out.trans (cV.out.mono au.out.size);have e7:=(he.out.later b9.out).bP.c7;simp only[];go_wp2;go_ret;exact⟨by rw[(tQ.out HO.out).1];rfl,by rw[(tQ.out HO.out).2];exact gq.out.gi cV.out,aH.of_below b9.out p⟩
   refine(yO w3.heap.size 2 u2 s0 1073741824 aQ (dc HH.out rfl) (yM HH.out) (by omega) (by omega) (by omega) (by omega) o1).mono ?_;rintro e aj ⟨rfl,M0⟩;have yP:Hid (aj.heap[w3.heap.size]?=some (.cells #[.int .i64 (u0+ca),.int .i64 u1,.int .i64 (u2+s0),.int .i64 u3,.int .i64 u4,.int .i64 u5,.int .i64 u6,.int .i64 u7] 140 (0,0))):=by rw[M0];exact yL _ HH.out rfl
   have aol:Hid (Below w3.heap.size w3 aj):=by rw[M0];exact cV.out.setCell (lRq _) _
   clear HH cV M0
   rename Hid (aj.heap[w3.heap.size]?=_)=>HH
   rename Hid (Below w3.heap.size w3 aj)=>cV
   simp only[]
   go_wp2_with fail
   rw[rounds_succ]
   go_wp2_with fail
   by_cases o2:1073741824-u3<s1
   ·have HO:Hid (g.over f=true):=by show _=_;rw[rB.out];simp[o2]
    refine(yN w3.heap.size 3 u3 s1 1073741824 aj (dc HH.out rfl) (by omega) (by omega) (by omega) o2).mono ?_;rintro e ar ⟨rfl,rfl⟩;have b9:Hid (Below w.heap.size w ar):=au.out.trans (cV.out.mono au.out.size);have e7:=(he.out.later b9.out).bP.c7;simp only[];go_wp2;go_ret;exact⟨by rw[(tQ.out HO.out).1];rfl,by rw[(tQ.out HO.out).2];exact gq.out.gi cV.out,aH.of_below b9.out p⟩
   refine(yO w3.heap.size 3 u3 s1 1073741824 aj (dc HH.out rfl) (yM HH.out) (by omega) (by omega) (by omega) (by omega) o2).mono ?_;rintro e bh ⟨rfl,oO⟩;have aom:Hid (bh.heap[w3.heap.size]?=some (.cells #[.int .i64 (u0+ca),.int .i64 u1,.int .i64 (u2+s0),.int .i64 (u3+s1),.int .i64 u4,.int .i64 u5,.int .i64 u6,.int .i64 u7] 140 (0,0))):=by rw[oO];exact yL _ HH.out rfl
   have aon:Hid (Below w3.heap.size w3 bh):=by rw[oO];exact cV.out.setCell (lRq _) _
   clear HH cV oO
   rename Hid (bh.heap[w3.heap.size]?=_)=>HH
   rename Hid (Below w3.heap.size w3 bh)=>cV
   simp only[]
   go_wp2_with fail
   rw[rounds_succ]
   go_wp2_with fail
   by_cases o3:1073741824-u4<s2
   ·have HO:Hid (g.over f=true):=by show _=_;rw[rB.out];simp[o3]
    refine(yN w3.heap.size 4 u4 s2 1073741824 bh (dc HH.out rfl) (by omega) (by omega) (by omega) o3).mono ?_;rintro e ar ⟨rfl,rfl⟩;have b9:Hid (Below w.heap.size w ar):=au.out.trans (cV.out.mono au.out.size);have e7:=(he.out.later b9.out).bP.c7;simp only[];go_wp2;go_ret;exact⟨by rw[(tQ.out HO.out).1];rfl,by rw[(tQ.out HO.out).2];exact gq.out.gi cV.out,aH.of_below b9.out p⟩
   refine(yO w3.heap.size 4 u4 s2 1073741824 bh (dc HH.out rfl) (yM HH.out) (by omega) (by omega) (by omega) (by omega) o3).mono ?_;rintro e bY ⟨rfl,M3⟩;have aoo:Hid (bY.heap[w3.heap.size]?=some (.cells #[.int .i64 (u0+ca),.int .i64 u1,.int .i64 (u2+s0),.int .i64 (u3+s1),.int .i64 (u4+s2),.int .i64 u5,.int .i64 u6,.int .i64 u7] 140 (0,0))):=by rw[M3];exact yL _ HH.out rfl
   have aop:Hid (Below w3.heap.size w3 bY):=by rw[M3];exact cV.out.setCell (lRq _) _
   clear HH cV M3
   rename Hid (bY.heap[w3.heap.size]?=_)=>HH
   rename Hid (Below w3.heap.size w3 bY)=>cV
   simp only[]
   go_wp2_with fail
   rw[rounds_succ]
   go_wp2_with fail
   have HO:Hid (g.over f=false):=by show _=_;rw[rB.out];simp[o0,o1,o2,o3]
   have d0:bY.cell? ⟨w3.heap.size,0,none⟩=some (.int .i64 (u0+ca)):=dc HH.out rfl;have d1:bY.cell? ⟨w3.heap.size,1,none⟩=some (.int .i64 (u1)):=dc HH.out rfl;have d2:bY.cell? ⟨w3.heap.size,2,none⟩=some (.int .i64 (u2+s0)):=dc HH.out rfl;have d3:bY.cell? ⟨w3.heap.size,3,none⟩=some (.int .i64 (u3+s1)):=dc HH.out rfl;have d4:bY.cell? ⟨w3.heap.size,4,none⟩=some (.int .i64 (u4+s2)):=dc HH.out rfl;have d5:bY.cell? ⟨w3.heap.size,5,none⟩=some (.int .i64 (u5)):=dc HH.out rfl;have jA:bY.cell? ⟨w3.heap.size,6,none⟩=some (.int .i64 (u6)):=dc HH.out rfl;have pG:bY.cell? ⟨w3.heap.size,7,none⟩=some (.int .i64 (u7)):=dc HH.out rfl;have hfz:=fun i=>(MZ.out _ cV.out).2 i;have hcl:=(MZ.out _ cV.out).1;have c0:=hcl (c*8) (by omega);have c1:=hcl (c*8+1) (by omega);have c2:=hcl (c*8+2) (by omega);have c3:=hcl (c*8+3) (by omega);have c4:=hcl (c*8+4) (by omega);have c5:=hcl (c*8+5) (by omega);have c6:=hcl (c*8+6) (by omega);have c7:=hcl (c*8+7) (by omega);have z0:=hfz (c*8);have cK:=hfz (c*8+1);have z2:=hfz (c*8+2);have z3:=hfz (c*8+3);have z4:=hfz (c*8+4);have z5:=hfz (c*8+5);have xO:=hfz (c*8+6);have xP:=hfz (c*8+7);clear hfz hcl;refine jW 6 (by kernel_rfl) (by kernel_rfl) ?_;simp only[List.take_succ_cons,List.take_zero,List.drop_succ_cons,List.drop_zero]
   repeat (first | go_big_quiet_step (fail) | quiet_step (fail))
   refine wpQuiet_nil ?_;intro _ hw';obtain⟨nq,hw''⟩:=hw';subst hw'';go_wp2;go_ret;have mF:Below w.heap.size w (bY.drewN nq):=(au.out.trans (cV.out.mono au.out.size)).trans ((dn nq).mono (au.out.trans (cV.out.mono au.out.size)).size);refine⟨by rw[(Vv.out HO.out).1];rfl,by rw[(Vv.out HO.out).2];exact agJ.out _ _ _ _ _ ((gq.out.gi cV.out).drew nq) rfl rfl rfl rfl,?_⟩;exact((((((((aH.of_below mF p).trans (aH.setCell _ _ _ _)).trans (aH.setCell _ _ _ _)).trans (aH.setCell _ _ _ _)).trans (aH.setCell _ _ _ _)).trans (aH.setCell _ _ _ _)).trans (aH.setCell _ _ _ _)).trans (aH.setCell _ _ _ _)).trans (aH.setCell _ _ _ _)
structure ye (w:World) (v:Nat->Value):Prop where
 per:s8 w v
 c2:w.cell? ⟨3,0,none⟩=some (.iface 412 (v 2))
 c11:w.cell? ⟨11,0,none⟩=some (.iface 412 (v 11))
theorem ye.later {w w':World} {v:Nat->Value} (h:ye w v) (hb:Below w.heap.size w w'):ye w' v:=⟨h.per.later hb,cell_later hb h.c2,cell_later hb h.c11⟩
def jk (x:Cv.ag):Array Value:=#[.int .i64 x.id,.int .i64 x.ak,.int .i64 x.sd,.int .i64 x.pr,.int .i64 x.q]
theorem agF (item:Int) (b s:Cv.ag) (price qty:Int) (v:Nat->Value) (w:World) (he:Hid (ye w v)) :
  Calls Tryz.prog 307 #[.int .i64 item,bJ b,bJ s,.int .i64 price,.int .i64 qty] w fun e w'=>e=.returned (cw v (Pu.lu item b s price qty))∧Below w.heap.size w w':=by
 show Calls Tryz.prog 307 #[.int .i64 item,.agg #[.int .i64 b.id,.int .i64 b.ak,.int .i64 b.sd,.int .i64 b.pr,.int .i64 b.q],.agg #[.int .i64 s.id,.int .i64 s.ak,.int .i64 s.sd,.int .i64 s.pr,.int .i64 s.q],.int .i64 price,.int .i64 qty] w _;obtain⟨W,fu⟩:∃ W,(w.alloc (.cells #[.int .i64 b.id,.int .i64 b.ak,.int .i64 b.sd,.int .i64 b.pr,.int .i64 b.q] 197)).alloc (.cells #[.int .i64 s.id,.int .i64 s.ak,.int .i64 s.sd,.int .i64 s.pr,.int .i64 s.q] 197)=W:=⟨_,rfl⟩;have hb1:Below w.heap.size w (w.alloc (.cells #[.int .i64 b.id,.int .i64 b.ak,.int .i64 b.sd,.int .i64 b.pr,.int .i64 b.q] 197)):=(bRq _ _).alloc (lRq _) _;have hb2:Below w.heap.size w W:=by rw[<- fu];exact hb1.alloc hb1.size _
 have oH:W.heap[w.heap.size]?=some (.cells (jk b) 197 (0,0)):=by
  rw[<- fu];exact(Below.heap_alloc _ _ _ (by simp)).trans (hNq _ _)
 have lJ:W.heap[w.heap.size+1]?=some (.cells (jk s) 197 (0,0)):=by
  rw[<- fu]
  have:=hNq (w.alloc (.cells #[.int .i64 b.id,.int .i64 b.ak,.int .i64 b.sd,.int .i64 b.pr,.int .i64 b.q] 197)) (.cells #[.int .i64 s.id,.int .i64 s.ak,.int .i64 s.sd,.int .i64 s.pr,.int .i64 s.q] 197)
  rw[show (w.alloc (.cells #[.int .i64 b.id,.int .i64 b.ak,.int .i64 b.sd,.int .i64 b.pr,.int .i64 b.q] 197)).heap.size=w.heap.size+1 by simp]at this;exact this
 have HX0:=hDq oH;have gJ:=hDq lJ;have bz:=hDq hb2;have HC:=hDq (Gy item b 412 _ _ _ W (he.out.later hb2).per.bP);unfold bJ at HC;have iI:=hDq fu;clear hb1 hb2 oH lJ fu;go_enter Tryz.func307,Tryz.ntmps307
 go_wp2_with fail
 rw[iI.out];clear iI;refine HC.out.mono ?_;rintro e w2 ⟨rfl,hb2⟩;have HB:Hid (Below w.heap.size w w2):=bz.out.trans (hb2.mono bz.out.size);have HX:Hid (w2.heap[w.heap.size]?=some (.cells (jk b) 197 (0,0))):=by show _=_;rw[hb2.block _ (lBq HX0.out)];exact HX0.out
 have dJ:Hid (w2.heap[w.heap.size+1]?=some (.cells (jk s) 197 (0,0))):=by show _=_;rw[hb2.block _ (lBq gJ.out)];exact gJ.out
 clear hb2 HC bz HX0 gJ;cases p8:Pu.well item b with
 | false =>
  have HA:Hid (Pu.lu item b s price qty=1):=by show _=_;unfold Pu.lu;rw[if_neg (by rw[p8];simp)]
  have e1:=(he.out.later HB.out).per.bP.c1;clear p8;simp only[];go_wp2;go_ret;exact⟨by rw[HA.out];rfl,HB.out⟩
 | true =>
  have xJ:=hDq p8;clear p8;have HC:=hDq (Gy item s 412 _ _ _ w2 (he.out.later HB.out).per.bP);unfold bJ at HC;have s0:w2.cell? ⟨w.heap.size+1,0,none⟩=some (.int .i64 s.id):=dc dJ.out rfl;have s1:w2.cell? ⟨w.heap.size+1,1,none⟩=some (.int .i64 s.ak):=dc dJ.out rfl;have s2:w2.cell? ⟨w.heap.size+1,2,none⟩=some (.int .i64 s.sd):=dc dJ.out rfl;have s3:w2.cell? ⟨w.heap.size+1,3,none⟩=some (.int .i64 s.pr):=dc dJ.out rfl;have tO:w2.cell? ⟨w.heap.size+1,4,none⟩=some (.int .i64 s.q):=dc dJ.out rfl;simp only[]
  go_wp2_with fail
  refine HC.out.mono ?_;rintro e w3 ⟨rfl,hb3⟩;have au:Hid (Below w.heap.size w w3):=HB.out.trans (hb3.mono HB.out.size);have dL:Hid (w3.heap[w.heap.size]?=some (.cells (jk b) 197 (0,0))):=by show _=_;rw[hb3.block _ (lBq HX.out)];exact HX.out
  have MV:Hid (w3.heap[w.heap.size+1]?=some (.cells (jk s) 197 (0,0))):=by show _=_;rw[hb3.block _ (lBq dJ.out)];exact dJ.out
  clear hb3 HC HX dJ s0 s1 s2 s3 tO HB;have HE:=hDq (he.out.later au.out);cases Gz:Pu.well item s with
  | false =>
   have HA:Hid (Pu.lu item b s price qty=1):=by show _=_;unfold Pu.lu;rw[if_neg (by rw[Gz];simp)]
   have e1:=HE.out.per.bP.c1;clear Gz;simp only[];go_wp2;go_ret;exact⟨by rw[HA.out];rfl,au.out⟩
  | true =>
   have Vf:=hDq Gz;clear Gz;have HT:Hid (Pu.lu item b s price qty=if b.sd=0∧s.sd=1 then (if (1<=price∧price<=1000)∧1<=qty∧qty<=b.q∧qty<=s.q then (if s.pr<=price∧price<=b.pr then 0 else 11) else 1) else 2):=by show _=_;unfold Pu.lu;rw[if_pos ⟨xJ.out,Vf.out⟩]
   have FT:=(Cv.fP (Pu.j8 xJ.out)).2.2.2.2;have Ur:=(Cv.fP (Pu.j8 Vf.out)).2.2.2.2;have b2:w3.cell? ⟨w.heap.size,2,none⟩=some (.int .i64 b.sd):=dc dL.out rfl;have b3:w3.cell? ⟨w.heap.size,3,none⟩=some (.int .i64 b.pr):=dc dL.out rfl;have b4:w3.cell? ⟨w.heap.size,4,none⟩=some (.int .i64 b.q):=dc dL.out rfl;have s2:w3.cell? ⟨w.heap.size+1,2,none⟩=some (.int .i64 s.sd):=dc MV.out rfl;have s3:w3.cell? ⟨w.heap.size+1,3,none⟩=some (.int .i64 s.pr):=dc MV.out rfl;have tO:w3.cell? ⟨w.heap.size+1,4,none⟩=some (.int .i64 s.q):=dc MV.out rfl;obtain⟨R,hR⟩:∃ R,Pu.lu item b s price qty=R:=⟨_,rfl⟩;have HR:=hDq hR;rw[hR]at HT;clear hR;generalize b.sd=Vg at *;generalize b.pr=rz at *;generalize b.q=wo at *;generalize s.sd=Vh at *;generalize s.pr=rA at *;generalize s.q=sq at *;have c1:=HE.out.per.bP.c1;have c2:=HE.out.c2;have c11:=HE.out.c11;by_cases kh:Vg=0
   ·by_cases mX:Vh=1
    ·have HT2:Hid (R=if (1<=price∧price<=1000)∧1<=qty∧qty<=wo∧qty<=sq then (if rA<=price∧price<=rz then 0 else 11) else 1):=by show _=_;rw[HT.out,if_pos ⟨kh,mX⟩]
     subst kh mX;clear HT;have HP:=hDq (fY price 1 1000 w3);cases tE:ah.aC price 1 1000 with
     | false =>
      rw[tE]at HP;have HA:Hid (R=1):=by
       show _=_;rw[HT2.out,if_neg];rintro⟨h,_⟩;rw[show ah.aC price 1 1000=true by simp[ah.aC,h.1,h.2]]at tE;cases tE
      clear tE;simp only[]
      go_wp2_with fail
      refine HP.out.mono ?_;rintro e w4 ⟨rfl,rfl⟩;simp only[];go_wp2;go_ret;exact⟨by rw[HR.out,HA.out];rfl,au.out⟩
     | true =>
      rw[tE]at HP;have Vi:Hid (1<=price∧price<=1000):=by
       have:=tE
       simp only[ah.aC,Bool.and_eq_true,decide_eq_true_eq]at this;exact this
      clear tE;simp only[]
      go_wp2_with fail
      refine HP.out.mono ?_;rintro e w4 ⟨rfl,rfl⟩;simp only[];by_cases hmn:sq<wo
      ·cases jG:ah.aC qty 1 sq with
       | false =>
        have HA:Hid (R=1):=by
         show _=_;rw[HT2.out,if_neg];rintro⟨_,h1,h2,h3⟩;rw[show ah.aC qty 1 sq=true by simp only[ah.aC,Bool.and_eq_true,decide_eq_true_eq];omega]at jG;cases jG
        have HQ:=hDq (fY qty 1 sq w4);rw[jG]at HQ;clear jG
        go_wp2_with fail
        refine HQ.out.mono ?_;rintro e aQ ⟨rfl,rfl⟩;simp only[];go_wp2;go_ret;exact⟨by rw[HR.out,HA.out];rfl,au.out⟩
       | true =>
        have HT3:Hid (R=if rA<=price∧price<=rz then 0 else 11):=by
         have:=jG
         simp only[ah.aC,Bool.and_eq_true,decide_eq_true_eq]at this;show _=_;rw[HT2.out,if_pos ⟨Vi.out,by omega,by omega,by omega⟩]
        have HQ:=hDq (fY qty 1 sq w4);rw[jG]at HQ;clear jG
        go_wp2_with fail
        refine HQ.out.mono ?_;rintro e aQ ⟨rfl,rfl⟩;simp only[];have HO:=hDq (fY price rA rz aQ);cases jH:ah.aC price rA rz with
        | false =>
         have HA:Hid (R=11):=by
          show _=_;rw[HT3.out,if_neg];rintro⟨h1,h2⟩;rw[show ah.aC price rA rz=true by simp[ah.aC,h1,h2]]at jH;cases jH
         rw[jH]at HO;clear jH
         go_wp2_with fail
         refine HO.out.mono ?_;rintro e aj ⟨rfl,rfl⟩;simp only[];go_wp2;go_ret;exact⟨by rw[HR.out,HA.out];rfl,au.out⟩
        | true =>
         have HA:Hid (R=0):=by
          have:=jH
          simp only[ah.aC,Bool.and_eq_true,decide_eq_true_eq]at this;show _=_;rw[HT3.out,if_pos this]
         rw[jH]at HO;clear jH
         go_wp2_with fail
         refine HO.out.mono ?_;rintro e aj ⟨rfl,rfl⟩;simp only[];go_wp2;go_ret;exact⟨by rw[HR.out,HA.out];rfl,au.out⟩
      ·have aoi:wo<=sq:=by omega
       cases jG:ah.aC qty 1 wo with
       | false =>
        have HA:Hid (R=1):=by
         show _=_;rw[HT2.out,if_neg];rintro⟨_,h1,h2,h3⟩;rw[show ah.aC qty 1 wo=true by simp only[ah.aC,Bool.and_eq_true,decide_eq_true_eq];omega]at jG;cases jG
        have HQ:=hDq (fY qty 1 wo w4);rw[jG]at HQ;clear jG
        go_wp2_with fail
        refine HQ.out.mono ?_;rintro e aQ ⟨rfl,rfl⟩;simp only[];go_wp2;go_ret;exact⟨by rw[HR.out,HA.out];rfl,au.out⟩
       | true =>
        have HT3:Hid (R=if rA<=price∧price<=rz then 0 else 11):=by
         have:=jG
         simp only[ah.aC,Bool.and_eq_true,decide_eq_true_eq]at this;show _=_;rw[HT2.out,if_pos ⟨Vi.out,by omega,by omega,by omega⟩]
        have HQ:=hDq (fY qty 1 wo w4);rw[jG]at HQ;clear jG
        go_wp2_with fail
        refine HQ.out.mono ?_;rintro e aQ ⟨rfl,rfl⟩;simp only[];have HO:=hDq (fY price rA rz aQ);cases jH:ah.aC price rA rz with
        | false =>
         have HA:Hid (R=11):=by
          show _=_;rw[HT3.out,if_neg];rintro⟨h1,h2⟩;rw[show ah.aC price rA rz=true by simp[ah.aC,h1,h2]]at jH;cases jH
         rw[jH]at HO;clear jH
         go_wp2_with fail
         refine HO.out.mono ?_;rintro e aj ⟨rfl,rfl⟩;simp only[];go_wp2;go_ret;exact⟨by rw[HR.out,HA.out];rfl,au.out⟩
        | true =>
         have HA:Hid (R=0):=by
          have:=jH
          simp only[ah.aC,Bool.and_eq_true,decide_eq_true_eq]at this;show _=_;rw[HT3.out,if_pos this]
         rw[jH]at HO;clear jH
         go_wp2_with fail
         refine HO.out.mono ?_;rintro e aj ⟨rfl,rfl⟩;simp only[];go_wp2;go_ret;exact⟨by rw[HR.out,HA.out];rfl,au.out⟩
    ·have HA:Hid (R=2):=by show _=_;rw[HT.out,if_neg (by rintro⟨h1,h2⟩;first | exact kh h1 | exact mX h2)]
     have aoj:(Vh==1)=false:=by simp[mX]
     subst kh;simp only[];go_wp2;go_ret;exact⟨by rw[HR.out,HA.out];rfl,au.out⟩
   ·have HA:Hid (R=2):=by show _=_;rw[HT.out,if_neg (by rintro⟨h1,h2⟩;first | exact kh h1 | exact mX h2)]
    have iE:(Vg==0)=false:=by simp[kh]
    simp only[];go_wp2;go_ret;exact⟨by rw[HR.out,HA.out];rfl,au.out⟩
theorem agX {ops:Array Oper} {rest:List Oper} {op:Oper} {a:Act} {w:World} {Q:Exit->Act->World->Prop} {B:Nat} {f:Nat->Int} (g:Nat->Int) (W':World) (h:aN w 213 B f) (hW:w.setRow B (bU g)=W') (hgd:op.guard=none) (x y:Operand) (ho:op.op=.store 213 x y)
  (hx:a.eval x=.pointer (some ⟨B,0,none⟩)) (hy:a.eval y=.agg (bU g)) (k:wpList Tryz.prog ops Q rest (a.put op.dst undef) W'):wpList Tryz.prog ops Q (op::rest) a w:=by
 subst hW;exact F6 g h hgd x y ho hx hy k
theorem Uq (p:Nat) (item:Int) (b s:Cv.ag) (price qty:Int) (f:Nat->Int) (v:Nat->Value) (w:World) (he:Hid (ye w v)) (hp:Hid (aN w 213 p f)) (hg:Hid (Pu.Good f)) :
  Calls Tryz.prog 290 #[.pointer (some ⟨p,0,none⟩),.int .i64 item,bJ b,bJ s,.int .i64 price,.int .i64 qty] w fun e w'=>e=.returned (cw v (Pu.gR f item b s price qty))∧aN w' 213 p (Pu.iQ f item b s price qty)∧aH w w' p:=by
 show Calls Tryz.prog 290 #[.pointer (some ⟨p,0,none⟩),.int .i64 item,.agg #[.int .i64 b.id,.int .i64 b.ak,.int .i64 b.sd,.int .i64 b.pr,.int .i64 b.q],.agg #[.int .i64 s.id,.int .i64 s.ak,.int .i64 s.sd,.int .i64 s.pr,.int .i64 s.q],.int .i64 price,.int .i64 qty] w _;obtain⟨W,fu⟩:∃ W,(w.alloc (.cells #[.int .i64 b.id,.int .i64 b.ak,.int .i64 b.sd,.int .i64 b.pr,.int .i64 b.q] 197)).alloc (.cells #[.int .i64 s.id,.int .i64 s.ak,.int .i64 s.sd,.int .i64 s.pr,.int .i64 s.q] 197)=W:=⟨_,rfl⟩;have hb1:Below w.heap.size w (w.alloc (.cells #[.int .i64 b.id,.int .i64 b.ak,.int .i64 b.sd,.int .i64 b.pr,.int .i64 b.q] 197)):=(bRq _ _).alloc (lRq _) _;have hb2:Below w.heap.size w W:=by rw[<- fu];exact hb1.alloc hb1.size _
 have oH:W.heap[w.heap.size]?=some (.cells (jk b) 197 (0,0)):=by
  rw[<- fu];exact(Below.heap_alloc _ _ _ (by simp)).trans (hNq _ _)
 have lJ:W.heap[w.heap.size+1]?=some (.cells (jk s) 197 (0,0)):=by
  rw[<- fu]
  have:=hNq (w.alloc (.cells #[.int .i64 b.id,.int .i64 b.ak,.int .i64 b.sd,.int .i64 b.pr,.int .i64 b.q] 197)) (.cells #[.int .i64 s.id,.int .i64 s.ak,.int .i64 s.sd,.int .i64 s.pr,.int .i64 s.q] 197)
  rw[show (w.alloc (.cells #[.int .i64 b.id,.int .i64 b.ak,.int .i64 b.sd,.int .i64 b.pr,.int .i64 b.q] 197)).heap.size=w.heap.size+1 by simp]at this;exact this
 have HX0:=hDq oH;have gJ:=hDq lJ;have bz:=hDq hb2;have HC:=hDq (agF item b s price qty v W (he.out.later hb2));unfold bJ at HC;have iI:=hDq fu;have hpl:=hp.out.lt;clear hb1 hb2 oH lJ fu;go_enter Tryz.func290,Tryz.ntmps290
 go_wp2_with fail
 rw[iI.out];clear iI;refine HC.out.mono ?_;rintro e w2 ⟨rfl,hb2⟩;have HB:Hid (Below w.heap.size w w2):=bz.out.trans (hb2.mono bz.out.size);have HX:Hid (w2.heap[w.heap.size]?=some (.cells (jk b) 197 (0,0))):=by show _=_;rw[hb2.block _ (lBq HX0.out)];exact HX0.out
 have dJ:Hid (w2.heap[w.heap.size+1]?=some (.cells (jk s) 197 (0,0))):=by show _=_;rw[hb2.block _ (lBq gJ.out)];exact gJ.out
 clear hb2 HC bz HX0 gJ;obtain⟨R,hR⟩:∃ R,Pu.lu item b s price qty=R:=⟨_,rfl⟩;by_cases h0:R=0
 ·have HT:Hid (Pu.gR f item b s price qty=if Pu.mQ f b.ak.toNat s.ak.toNat item.toNat b.pr qty=true then 9 else if Pu.over f b.ak.toNat s.ak.toNat item.toNat price qty=true then 7 else 0):=by
   show _=_;unfold Pu.gR;rw[if_pos (hR.trans h0)]
  have HF:Hid (Pu.iQ f item b s price qty=if Pu.gR f item b s price qty=0 then Pu.six f b.ak.toNat s.ak.toNat item.toNat b.pr price qty else f):=rfl;have hr:=Pu.Vo (hR.trans h0);rw[hR,h0];obtain⟨k,rfl,hk⟩:=Pu.BV hr.bK;obtain⟨cb,hcb,VD⟩:=Pu.tP hr.bK;obtain⟨cs,hcs,VE⟩:=Pu.tP hr.ws;have hm:=hr.Vp;have lT:=hDq hr;have B5:=hDq (Pu.agV (f:=f) hr.bK hr.q.1 hr.q.2.1 hr.sb);have FS:=hDq (fun g=>Pu.agW (f:=g) hr.ws hr.q.1 hr.q.2.2 hr.ss);have Jx:=hr.q;have hgr:=hDq (fun pH=>Pu.grows hg.out (b:=cb) (s:=cs) (k:=k) (bp:=b.pr) (price:=price) (qty:=qty) VD VE hk ⟨hm.1.1,hm.2.2.1⟩ hr.q.1 pH);rw[hcb,hcs]at HT HF;simp only[Int.toNat_natCast]at HT HF;simp only[hcb,hcs,Int.toNat_natCast]at B5 FS;clear hR h0 R hr;obtain⟨W3,hW3⟩:∃ W3,(w2.alloc (.cells (bU fun _=>0) 213)).setRow w2.heap.size (bU f)=W3:=⟨_,rfl⟩;have M9:aN (w2.alloc (.cells (bU fun _=>0) 213)) 213 w2.heap.size (fun _=>0):=aN.new w2 213 _;have GG:=hDq M9;have VF:aN W3 213 w2.heap.size f:=by rw[<- hW3];exact M9.stored f
  have hB3:Below w2.heap.size w2 W3:=by rw[<- hW3];exact below_setRow ((bRq _ _).alloc (lRq _) _) (lRq _) _
  have tV:W3.heap[w.heap.size]?=some (.cells (jk b) 197 (0,0)):=by rw[hB3.block _ (lBq HX.out)];exact HX.out
  have GH:W3.heap[w.heap.size+1]?=some (.cells (jk s) 197 (0,0)):=by rw[hB3.block _ (lBq dJ.out)];exact dJ.out
  have lL:w.heap.size+1<w2.heap.size:=lBq dJ.out;have fT:=hDq (hp.out.gi HB.out);have VG:=hDq VF;have HW3:=hDq hW3;have au:Hid (Below w.heap.size w W3):=HB.out.trans (hB3.mono HB.out.size);have x0:W3.cell? ⟨w.heap.size,0,none⟩=some (.int .i64 b.id):=dc tV rfl;have x1:W3.cell? ⟨w.heap.size,1,none⟩=some (.int .i64 b.ak):=dc tV rfl;have x2:W3.cell? ⟨w.heap.size,2,none⟩=some (.int .i64 b.sd):=dc tV rfl;have x3:W3.cell? ⟨w.heap.size,3,none⟩=some (.int .i64 b.pr):=dc tV rfl;have x4:W3.cell? ⟨w.heap.size,4,none⟩=some (.int .i64 b.q):=dc tV rfl;have y4:W3.cell? ⟨w.heap.size+1,4,none⟩=some (.int .i64 s.q):=dc GH rfl;have xf:W3.frozen? ⟨w.heap.size,4,none⟩=false:=yM tV;have agY:W3.frozen? ⟨w.heap.size+1,4,none⟩=false:=yM GH;have z55:=M6;have lX:=hDq tV;have VH:=hDq GH;clear VF hB3 tV GH M9 hW3;unfold cw;simp only[]
  go_wp2_with (first | refine M7 (B:=p) (f:=f) fT.out rfl (.tmp 27) rfl rfl ?_ | refine agX (B:=w2.heap.size) f W3 (f:=fun _=>0) GG.out HW3.out rfl (.tmp 14) (.tmp 28) rfl rfl rfl ?_)
  obtain⟨W4,yS⟩:∃ W4,(W3.setCell ⟨w.heap.size,4,none⟩ (.int .i64 qty)).setCell ⟨w.heap.size+1,4,none⟩ (.int .i64 qty)=W4:=⟨_,rfl⟩;have M_:W4.heap[w.heap.size]?=some (.cells (jk (Pu.only b qty)) 197 (0,0)):=by
   rw[<- yS,Below.heap_setCell _ _ _ _ (by show w.heap.size≠w.heap.size+1;omega)];exact yL _ lX.out rfl
  have VI:W4.heap[w.heap.size+1]?=some (.cells (jk (Pu.only s qty)) 197 (0,0)):=by
   rw[<- yS];refine yL (a:=jk s) _ ?_ rfl;rw[Below.heap_setCell _ _ _ _ (by show w.heap.size+1≠w.heap.size;omega)];exact VH.out
  have yT:aN W4 213 w2.heap.size f:=by
   rw[<- yS];exact(VG.out.other (by show w2.heap.size≠w.heap.size;omega) _).other (by show w2.heap.size≠w.heap.size+1;omega) _
  have hB4:Below w.heap.size w W4:=by rw[<- yS];exact(au.out.setCell (lRq _) _).setCell (by show w.heap.size<=w.heap.size+1;omega) _
  rw[yS];have kq:=hDq M_;have Na:=hDq VI;have VJ:=hDq yT;have bg:=hDq hB4;clear M_ VI yT hB4 yS HW3 VG au lX VH x0 x1 x2 x3 x4 y4 xf agY GG;have fe:=hDq (LW w2.heap.size k (Pu.only b qty) f v W4 (he.out.later bg.out).per VJ.out hg.out);rw[show bJ (Pu.only b qty)=.agg #[.int .i64 b.id,.int .i64 cb,.int .i64 b.sd,.int .i64 b.pr,.int .i64 qty] by simp[bJ,Pu.only,hcb]]at fe;refine fe.out.mono ?_;clear fe;rintro e aQ ⟨rfl,tx,hs5⟩;have bE:Hid (Below w.heap.size w aQ):=bg.out.trans (hs5.below bg.out.size (by omega));have nO:Hid (aQ.heap[w.heap.size]?=some (.cells (jk (Pu.only b qty)) 197 (0,0))):=by show _=_;rw[hs5.block _ (lBq kq.out) (by omega)];exact kq.out
  have tW:Hid (aQ.heap[w.heap.size+1]?=some (.cells (jk (Pu.only s qty)) 197 (0,0))):=by show _=_;rw[hs5.block _ (lBq Na.out) (by omega)];exact Na.out
  clear hs5 kq Na VJ bg;by_cases pH:f (cb*8+1)<b.pr*qty
  ·have HA:Hid (Pu.gR f k b s price qty=9∧Pu.iQ f k b s price qty=f):=by
    have e:Pu.gR f k b s price qty=9:=by rw[HT.out,if_pos (by simp[Pu.mQ,pH])]
    exact⟨e,by rw[HF.out,e];rfl⟩
   rw[B5.out.1,if_pos pH];have c9:=(he.out.later bE.out).per.c9;clear tx;unfold cw;simp only[];go_wp2;go_ret;exact⟨by rw[HA.out.1];rfl,by rw[HA.out.2];exact hp.out.gi bE.out,aH.of_below bE.out p⟩
  ·have Nb:b.pr*qty<=f (cb*8+1):=by omega
   rw[B5.out.2.1 Nb]at tx;rw[B5.out.1,if_neg pH];have mJ:=hDq tx;have Nc:Pu.Good (Pu.g1 f cb (b.pr*qty)):=by rw[<- B5.out.2.1 Nb];exact Pu.R4 hg.out _ _
   have aor:=hDq Nc;have bT:=hDq (LW w2.heap.size k (Pu.only s qty) _ v aQ (he.out.later bE.out).per tx Nc);rw[show bJ (Pu.only s qty)=.agg #[.int .i64 s.id,.int .i64 cs,.int .i64 s.sd,.int .i64 s.pr,.int .i64 qty] by simp[bJ,Pu.only,hcs]]at bT;have x0:aQ.cell? ⟨w.heap.size+1,0,none⟩=some (.int .i64 s.id):=dc tW.out rfl;have x1:aQ.cell? ⟨w.heap.size+1,1,none⟩=some (.int .i64 s.ak):=dc tW.out rfl;have x2:aQ.cell? ⟨w.heap.size+1,2,none⟩=some (.int .i64 s.sd):=dc tW.out rfl;have x3:aQ.cell? ⟨w.heap.size+1,3,none⟩=some (.int .i64 s.pr):=dc tW.out rfl;have x4:aQ.cell? ⟨w.heap.size+1,4,none⟩=some (.int .i64 qty):=dc tW.out rfl;clear tx Nc;unfold cw;simp only[]
   go_wp2_with fail
   refine bT.out.mono ?_;clear bT x0 x1 x2 x3 x4;rintro e aj ⟨rfl,GI,gp⟩;have aS:Hid (Below w.heap.size w aj):=bE.out.trans (gp.below bE.out.size (by omega));have qi:Hid (aj.heap[w.heap.size]?=some (.cells (jk (Pu.only b qty)) 197 (0,0))):=by show _=_;rw[gp.block _ (lBq nO.out) (by omega)];exact nO.out
   have VK:Hid (aj.heap[w.heap.size+1]?=some (.cells (jk (Pu.only s qty)) 197 (0,0))):=by show _=_;rw[gp.block _ (lBq tW.out) (by omega)];exact tW.out
   clear gp nO tW;have HK:=hDq (Pu.agS (f:=f) (b:=cb) (s:=cs) (k:=k) (H:=b.pr*qty) hk);by_cases hpk:f (cs*8+5+k)<qty
   ·have HA:Hid (Pu.gR f k b s price qty=9∧Pu.iQ f k b s price qty=f):=by
     have e:Pu.gR f k b s price qty=9:=by rw[HT.out,if_pos (by simp[Pu.mQ,hpk])]
     exact⟨e,by rw[HF.out,e];rfl⟩
    rw[(FS.out _).1,HK.out,if_pos hpk];have c9:=(he.out.later aS.out).per.c9;clear GI;unfold cw;simp only[];go_wp2;go_ret;exact⟨by rw[HA.out.1];rfl,by rw[HA.out.2];exact hp.out.gi aS.out,aH.of_below aS.out p⟩
   ·have VL:qty<=Pu.g1 f cb (b.pr*qty) (cs*8+5+k):=by rw[HK.out];omega
    rw[(FS.out _).2.1 VL]at GI;rw[(FS.out _).1,HK.out,if_neg hpk];have GJ:Hid (Pu.mQ f cb cs k b.pr qty=false):=by show _=_;simp only[Pu.mQ,Bool.or_eq_false_iff,decide_eq_false_iff_not];exact⟨by omega,by omega⟩
    have qj:Hid (aN aj 213 w2.heap.size (Pu.g2 f cb cs k (b.pr*qty) qty)):=GI;have agZ:=hgr.out GJ.out;have hcc:=hg.out.cash cb VD;have mX:=hg.out.stock cs k VE hk;have b0:aj.cell? ⟨w2.heap.size,cb*8,none⟩=some (.int .i64 (f (cb*8))):=by rw[qj.out.cell (by omega),Pu.GD hk]
    have Nf:=qj.out.frozen (cb*8);have o1:aj.cell? ⟨w.heap.size,1,none⟩=some (.int .i64 b.ak):=dc qi.out rfl;have o2:aj.cell? ⟨w.heap.size+1,1,none⟩=some (.int .i64 s.ak):=dc VK.out rfl;have hbi:(cb:Int)<6:=by omega
    have hsi:(cs:Int)<6:=by omega
    have aK:(k:Int)<3:=by omega
    rw[hcb]at o1;rw[hcs]at o2;clear GI VL Nb;unfold cw;simp only[];go_wp2
    go_quiet (fail)
    have k0:Hid (Below w.heap.size w (aj.drewN nq)):=aS.out.trans ((dn nq).mono aS.out.size);have GK:=hDq (qj.out.drew nq);clear qj aS qi VK b0 Nf o1 o2;generalize aj.drewN nq=bh at *;have b0:bh.cell? ⟨w2.heap.size,cb*8,none⟩=some (.int .i64 (f (cb*8))):=by rw[GK.out.cell (by omega),Pu.GD hk]
    have Nf:=GK.out.frozen (cb*8);obtain⟨⟨m1,m2⟩,⟨m3,m4⟩,m5,m6⟩:=hm;obtain⟨q1,q2,q3⟩:=Jx;obtain⟨u1,u2,u3⟩:=hcc;obtain⟨u4,u5,u6⟩:=mX;have hwr:0<=f (cb*8)-price*qty:=by omega
    obtain⟨wz,GL⟩:∃ wz,bh.setCell ⟨w2.heap.size,cb*8,none⟩ (.int .i64 (f (cb*8)-price*qty))=wz:=⟨_,rfl⟩;have Ng:Hid (aN wz 213 w2.heap.size (Pu.g3 f cb cs k (b.pr*qty) qty (price*qty))):=by
     show aN _ _ _ _;rw[<- GL];exact GK.out.add _ _ _ (by rw[Pu.GD hk];omega)
    have jB:Hid (Below w.heap.size w wz):=by show Below _ _ _;rw[<- GL];exact k0.out.setCell (by show _<=w2.heap.size;omega) _
    have VN:=hDq GL;clear GL;go_wp2;rw[VN.out];clear VN GK k0 b0 Nf;have d0:wz.cell? ⟨w2.heap.size,cs*8+2+k,none⟩=some (.int .i64 (f (cs*8+2+k))):=by rw[Ng.out.cell (by omega),Pu.GF hk]
    have aos:0<=f (cs*8+2+k)-qty:=by omega
    refine jW 11 (by kernel_rfl) (by kernel_rfl) ?_;simp only[List.take_succ_cons,List.take_zero,List.drop_succ_cons,List.drop_zero]
    repeat (first | go_big_quiet_step (fail) | quiet_step (fail))
    refine wpQuiet_nil ?_;intro _ hw';obtain⟨nq,hw''⟩:=hw';subst hw'';have yU:Hid (Below w.heap.size w (wz.drewN nq)):=jB.out.trans ((dn nq).mono jB.out.size);have GM:=hDq (Ng.out.drew nq);clear Ng jB d0;generalize wz.drewN nq=g_ at *;have d0:g_.cell? ⟨w2.heap.size,cs*8+2+k,none⟩=some (.int .i64 (f (cs*8+2+k))):=by rw[GM.out.cell (by omega),Pu.GF hk]
    have ag0:=GM.out.frozen (cs*8+2+k);obtain⟨yV,GN⟩:∃ yV,g_.setCell ⟨w2.heap.size,cs*8+2+k,none⟩ (.int .i64 (f (cs*8+2+k)-qty))=yV:=⟨_,rfl⟩;have GQ:Hid (aN yV 213 w2.heap.size (Pu.g4 f cb cs k (b.pr*qty) qty (price*qty))):=by
     show aN _ _ _ _;rw[<- GN];exact GM.out.add _ _ _ (by rw[Pu.GF hk];omega)
    have vn:Hid (Below w.heap.size w yV):=by show Below _ _ _;rw[<- GN];exact yU.out.setCell (by show _<=w2.heap.size;omega) _
    have VO:=hDq GN;clear GN
    go_wp2_with fail
    rw[VO.out];clear VO GM yU d0 ag0;have Nh:=GQ.out.cell (i:=cb*8+2+k) (by omega);have VP:=GQ.out.frozen (cb*8+2+k);obtain⟨⟨k1,k2⟩,⟨k3,k4⟩,tv⟩:=agZ;have rB:=hDq tv;clear tv;have VQ:Hid (∀ W,aN W 213 w2.heap.size (Pu.g4 f cb cs k (b.pr*qty) qty (price*qty))->aN (W.setCell ⟨w2.heap.size,cb*8+2+k,none⟩ (.int .i64 (Pu.g4 f cb cs k (b.pr*qty) qty (price*qty) (cb*8+2+k)+qty))) 213 w2.heap.size (Pu.g5 f cb cs k (b.pr*qty) qty (price*qty))):=fun W h=>h.add _ _ _ rfl;have VR:Hid (∀ W,aN W 213 w2.heap.size (Pu.g5 f cb cs k (b.pr*qty) qty (price*qty))->aN (W.setCell ⟨w2.heap.size,cs*8,none⟩ (.int .i64 (Pu.g5 f cb cs k (b.pr*qty) qty (price*qty) (cs*8)+price*qty))) 213 w2.heap.size (Pu.six f cb cs k b.pr price qty)):=fun W h=>h.add _ _ _ rfl;generalize Pu.g4 f cb cs k (b.pr*qty) qty (price*qty) (cb*8+2+k)=t5 at *;by_cases o1:1073741824-t5<qty
    ·have HA:Hid (Pu.gR f k b s price qty=7∧Pu.iQ f k b s price qty=f):=by
      have e:Pu.gR f k b s price qty=7:=by rw[HT.out,if_neg (by rw[GJ.out];simp),if_pos (by rw[rB.out];simp[o1])]
      exact⟨e,by rw[HF.out,e];rfl⟩
     refine(yN w2.heap.size (cb*8+2+k) t5 qty 1073741824 yV Nh k1 k2 (by omega) o1).mono ?_;rintro e ar ⟨rfl,rfl⟩;have c7:=(he.out.later vn.out).per.bP.c7;simp only[];go_wp2;go_ret;exact⟨by rw[HA.out.1];rfl,by rw[HA.out.2];exact hp.out.gi vn.out,aH.of_below vn.out p⟩
    refine(yO w2.heap.size (cb*8+2+k) t5 qty 1073741824 yV Nh VP k1 k2 (by omega) (by omega) o1).mono ?_;rintro e GR ⟨rfl,Ni⟩;have GU:Hid (aN GR 213 w2.heap.size (Pu.g5 f cb cs k (b.pr*qty) qty (price*qty))):=by
     show aN _ _ _ _;rw[Ni];exact VQ.out _ GQ.out
    have tX:Hid (Below w.heap.size w GR):=by show Below _ _ _;rw[Ni];exact vn.out.setCell (by show _<=w2.heap.size;omega) _
    clear Ni GQ vn VQ Nh VP;have Nj:=GU.out.cell (i:=cs*8) (by omega);have VT:=GU.out.frozen (cs*8);generalize Pu.g5 f cb cs k (b.pr*qty) qty (price*qty) (cs*8)=Nk at *;simp only[]
    go_wp2_with fail
    by_cases o2:1099511627776-Nk<price*qty
    ·have HA:Hid (Pu.gR f k b s price qty=7∧Pu.iQ f k b s price qty=f):=by
      have e:Pu.gR f k b s price qty=7:=by rw[HT.out,if_neg (by rw[GJ.out];simp),if_pos (by rw[rB.out];simp[o2])]
      exact⟨e,by rw[HF.out,e];rfl⟩
     refine(yN w2.heap.size (cs*8) Nk (price*qty) 1099511627776 GR Nj k3 k4 (by omega) o2).mono ?_;rintro e ar ⟨rfl,rfl⟩;have c7:=(he.out.later tX.out).per.bP.c7;simp only[];go_wp2;go_ret;exact⟨by rw[HA.out.1];rfl,by rw[HA.out.2];exact hp.out.gi tX.out,aH.of_below tX.out p⟩
    have HA:Hid (Pu.gR f k b s price qty=0∧Pu.iQ f k b s price qty=Pu.six f cb cs k b.pr price qty):=by
     have e:Pu.gR f k b s price qty=0:=by rw[HT.out,if_neg (by rw[GJ.out];simp),if_neg (by rw[rB.out,Bool.or_eq_true,decide_eq_true_eq,decide_eq_true_eq];omega)]
     exact⟨e,by rw[HF.out,e];rfl⟩
    refine(yO w2.heap.size (cs*8) Nk (price*qty) 1099511627776 GR Nj VT k3 k4 (by omega) (by omega) o2).mono ?_;rintro e Nl ⟨rfl,Nn⟩;have ag1:Hid (aN Nl 213 w2.heap.size (Pu.six f cb cs k b.pr price qty)):=by
     show aN _ _ _ _;rw[Nn];exact VR.out _ GU.out
    have mP:Hid (Below w.heap.size w Nl):=by show Below _ _ _;rw[Nn];exact tX.out.setCell (by show _<=w2.heap.size;omega) _
    have tu:Hid (aN Nl 213 p f):=hp.out.gi mP.out;clear Nn GU tX VR Nj VT;simp only[]
    go_wp2_with (first | refine M7 (B:=w2.heap.size) (f:=Pu.six f cb cs k b.pr price qty) ag1.out rfl (.tmp 14) rfl rfl ?_ | refine F6 (B:=p) (Pu.six f cb cs k b.pr price qty) (f:=f) tu.out rfl (.tmp 94) (.tmp 93) rfl rfl rfl ?_)
    go_ret;exact⟨by rw[HA.out.1];rfl,by rw[HA.out.2];exact tu.out.stored _,(aH.of_below mP.out p).trans (aH.setRow _ _ _)⟩
 ·have HA:Hid (Pu.gR f item b s price qty=R∧Pu.iQ f item b s price qty=f):=by
   have e:Pu.gR f item b s price qty=R:=by unfold Pu.gR;rw[if_neg (by rw[hR];exact h0),hR]
   exact⟨e,by unfold Pu.iQ;rw[e,if_neg h0]⟩
  rw[hR];obtain⟨y,hy⟩:∃ y,cw v R=.iface 412 y:=by
   match R,h0 with
   | 0,h=>exact absurd rfl h
   | c+1,_=>exact⟨_,rfl⟩
  have Ap:=hDq hy;rw[hy];clear hy hR;simp only[];go_wp2;go_ret;exact⟨by rw[HA.out.1,Ap.out];rfl,by rw[HA.out.2];exact hp.out.gi HB.out,aH.of_below HB.out p⟩
def row (f:Nat->Int):Array Value:=Array.ofFn (n:=1001) fun i=>Value.int .i64 (f i.val)
theorem sU (f:Nat->Int):(row f).size=1001:=by simp[row]
theorem D4 (f:Nat->Int) {i:Nat} (h:i<1001):(row f)[i]?=some (.int .i64 (f i)):=by
 unfold row;rw[Array.getElem?_ofFn];simp[h]
theorem row_one (f:Nat->Int):(row f).all (·.oneCell')=true:=by
 rw[Array.all_eq_true];intro i hi;simp only[row,Array.getElem_ofFn];rfl
theorem aca {f g:Nat->Int} (h:∀ i,i<1001->f i=g i):row f=row g:=by
 unfold row;congr 1;funext i;rw[h i.val i.isLt]
theorem acb (f:Nat->Int) {i:Nat} (v:Int):(row f).setIfInBounds i (.int .i64 v)=row (fun j=>if j=i then v else f j):=by
 apply Array.ext_getElem?;intro j;by_cases hj:j<1001
 ·rw[D4 _ hj]
  by_cases e:i=j
  ·subst e
   rw[Array.getElem?_setIfInBounds_self_of_lt (by rw[sU];exact hj)];simp
  ·rw[Array.getElem?_setIfInBounds_ne e,D4 _ hj]
   have:¬ j=i:=fun h=>e h.symm;simp[this]
 ·rw[Array.getElem?_eq_none (by rw[Array.size_setIfInBounds,sU];omega),Array.getElem?_eq_none (by rw[sU];omega)]
theorem row_zero:row (fun _=>0)=Array.replicate 1001 (.int .i64 0):=by
 apply Array.ext_getElem?;intro j;by_cases hj:j<1001
 ·rw[D4 _ hj,Array.getElem?_replicate];simp[hj]
 ·rw[Array.getElem?_eq_none (by rw[sU];omega),Array.getElem?_eq_none (by simp;omega)]
def bm (w:World) (B:Nat) (f:Nat->Int):Prop:=w.heap[B]?=some (.cells (row f) 365 (0,0))
theorem bm.cell {w:World} {B:Nat} {f:Nat->Int} (h:bm w B f) {i:Nat} (hi:i<1001):w.cell? ⟨B,i,none⟩=some (.int .i64 (f i)):=by
 rw[cR w B i _ _ _ h,D4 f hi]
theorem bm.frozen {w:World} {B:Nat} {f:Nat->Int} (h:bm w B f) (i:Nat):w.frozen? ⟨B,i,none⟩=false:=by
 simp[World.frozen?,show w.heap[B]?=_ from h]
theorem bm.lt {w:World} {B:Nat} {f:Nat->Int} (h:bm w B f):B<w.heap.size:=(Array.getElem?_eq_some_iff.1 h).1
theorem bm.later {w w':World} {B n:Nat} {f:Nat->Int} (h:bm w B f) (hb:Below n w w') (hn:B<n):bm w' B f:=(hb.block B hn).trans h
theorem bm.set {w:World} {B:Nat} {f:Nat->Int} (h:bm w B f) (i:Nat) (v:Int):bm (w.setCell ⟨B,i,none⟩ (.int .i64 v)) B (fun j=>if j=i then v else f j):=by
 unfold bm at h ⊢;rw[setCell_eq_setRow w B i _ _ _ _ h,acb];exact setRow_heap w B _ _ _ _ h
theorem bm.congr {w:World} {B:Nat} {f g:Nat->Int} (h:bm w B f) (e:∀ i,i<1001->f i=g i):bm w B g:=by
 unfold bm at h ⊢;rw[<- aca e];exact h
theorem bm.other {w:World} {B:Nat} {f:Nat->Int} (h:bm w B f) {a:Addr} (ha:B≠a.block) (v:Value):bm (w.setCell a v) B f :=
 (Below.heap_setCell w a v B ha).trans h
theorem bm.alloc {w:World} {B:Nat} {f:Nat->Int} (h:bm w B f) (o:Obj):bm (w.alloc o) B f:=(Below.heap_alloc w o B h.lt).trans h
theorem bm.new (w:World) (f:Nat->Int):bm (w.alloc (.cells (row f) 365)) w.heap.size f:=heap_alloc_last w _
theorem bm.drew {w:World} {B:Nat} {f:Nat->Int} (h:bm w B f) (n:Nat):bm (w.drewN n) B f:=h
theorem Rn:(Tryz.prog.info? 365).map (fun i=>(i.zero,i.size))=some (some (.agg (Array.replicate 1001 (.int .i64 0))),1001):=by kernel_rfl
theorem Ah (w:World):(zeroValue 365).run Tryz.prog w=.ok (.agg (row fun _=>0)) w:=by rw[row_zero];exact(zero_of_info Rn).1 w
theorem Ro:(Tryz.prog.info? 365).map (·.size)=some 1001:=(zero_of_info Rn).2
theorem acd:Tryz.prog.underlying 365=some (.array 1001 3):=by kernel_rfl
theorem Al {w:World} {B:Nat} {f:Nat->Int} (h:bm w B f):(loadVar 365 ⟨B,0,none⟩).run Tryz.prog w=.ok (.agg (row f)) w :=
 run_loadVar_row w B 365 365 (row f) (0,0) _ h acd rfl (by rw[sU];exact Ro)
theorem ace {w:World} {B:Nat} {f:Nat->Int} (g:Nat->Int) (h:bm w B f):(storeVar 365 ⟨B,0,none⟩ (.agg (row g))).run Tryz.prog w=.ok () (w.setRow B (row g)) :=
 run_storeVar_row w B 365 365 (row f) (row g) h (by rw[sU];exact Ro) (by rw[sU,sU]) (row_one g)
theorem bm.stored {w:World} {B:Nat} {f:Nat->Int} (g:Nat->Int) (h:bm w B f):bm (w.setRow B (row g)) B g:=setRow_heap w B _ _ _ _ h
theorem bm.beside {w:World} {B C:Nat} {f:Nat->Int} (c:Array Value) (h:bm w B f) (hne:B≠C):bm (w.setRow C c) B f:=(setRow_other w C B c hne).trans h
theorem D5 {ops:Array Oper} {rest:List Oper} {op:Oper} {a:Act} {w:World} {Q:Exit->Act->World->Prop} {B:Nat} {f:Nat->Int} (h:bm w B f) (hgd:op.guard=none) (x:Operand) (ho:op.op=.load 365 x)
  (hx:a.eval x=.pointer (some ⟨B,0,none⟩)) (k:wpList Tryz.prog ops Q rest (a.put op.dst (.agg (row f))) w):wpList Tryz.prog ops Q (op::rest) a w :=
 wpList_plain hgd fun _ hK=>by
  unfold Oper.wp execOp;simp only[ho,hx,Instr.loadAt,Instr.sureAddr,Sem.run_bind,Sem.run_pure,Result.andThen_ok,Al h];exact hK _ _ k
theorem sR {ops:Array Oper} {rest:List Oper} {op:Oper} {a:Act} {w:World} {Q:Exit->Act->World->Prop} {B:Nat} {f:Nat->Int} (g:Nat->Int) (h:bm w B f) (hgd:op.guard=none) (x y:Operand) (ho:op.op=.store 365 x y)
  (hx:a.eval x=.pointer (some ⟨B,0,none⟩)) (hy:a.eval y=.agg (row g)) (k:wpList Tryz.prog ops Q rest (a.put op.dst undef) (w.setRow B (row g))):wpList Tryz.prog ops Q (op::rest) a w :=
 wpList_plain hgd fun _ hK=>by
  unfold Oper.wp execOp;simp only[ho,hx,hy,Instr.storeAt,Instr.sureAddr,Sem.run_bind,Sem.run_pure,Result.andThen_ok,ace g h];exact hK _ _ k
theorem Am {fn:Func} {p:Tmp} {ty:TypeId} (h:fn.results=#[.cell p ty]) (tmps:Array Value) (P:Program) (w:World) :
  (results fn tmps).run P w=((asAddr (tmps.getD p undef)).run P w).andThen fun a w₁=>(loadVar ty a).run P w₁:=by
 simp only[results,h];simp[Sem.run_bind,Result.andThen]
def jy (f:Nat->Int):Value:=.agg (row f)
theorem acf (b off cap n:Nat) (side:Int) (l:List Cv.ag) (w:World) (hn:Hid (l.length=n)) (hl:Hid (ew w b off l)) (hok:Hid (Cv.eJ l)) :
  Calls Tryz.prog 283 #[.slice (some ⟨b,off,none⟩) n cap,.int .i64 side] w fun e w'=>e=.returned (jy fun i=>Cv.at_ l side i)∧Below w.heap.size w w':=by
 have sV:=hok.out.1;rw[hn.out]at sV;have z60:=Ah;go_enter Tryz.func283,Tryz.ntmps283
 go_wp2_with fail
 go_loopw [10] (fun i wr=>∃ k:Nat,k<=n∧i=.int .i64 k∧bm wr w.heap.size (fun _=>0)∧bm wr (w.heap.size+1) (fun j=>Cv.at_ (l.take k) side j)∧Below w.heap.size w wr) (fun i _=>n-(intOf i).toNat)
 case atStart =>
  refine⟨0,Nat.zero_le _,rfl,(bm.new w _).alloc _,?_,((bRq _ _).alloc (lRq _) _).alloc (by simp) _⟩
  have:=bm.new (w.alloc (.cells (row fun _=>0) 365)) (fun _=>0)
  rw[show (w.alloc (.cells (row fun _=>0) 365)).heap.size=w.heap.size+1 by simp]at this;exact this
 case round =>
  obtain⟨k,hk,rfl,ht0,ht1,hb⟩:=hrel;have HT0:=hDq ht0;have HT1:=hDq ht1;have HB:=hDq hb;clear ht0 ht1 hb;by_cases hlt:k<n
  ·have aK:(k:Int)<n:=by omega
   obtain⟨c0,c1,c2,c3,c4⟩:=(hl.out.later HB.out) k (by rw[hn.out];exact hlt);have HS:=hDq (fun j=>Cv.JV (Cv.i_ side j) (l:=l) (k:=k) (by rw[hn.out];exact hlt));have HX:=hDq (Cv.fP (hok.out.oks _ (Cv.nA (l:=l) (i:=k) (by rw[hn.out];exact hlt))));generalize Cv.nth l k=x at *;have hbx:Below w.heap.size w (wr.alloc (.cells #[.int .i64 x.id,.int .i64 x.ak,.int .i64 x.sd,.int .i64 x.pr,.int .i64 x.q] 197)):=HB.out.alloc HB.out.size _;have eO:=hDq hbx;have HX0:Hid (bm (wr.alloc (.cells #[.int .i64 x.id,.int .i64 x.ak,.int .i64 x.sd,.int .i64 x.pr,.int .i64 x.q] 197)) w.heap.size (fun _=>0)):=HT0.out.alloc _;have qK:Hid (bm (wr.alloc (.cells #[.int .i64 x.id,.int .i64 x.ak,.int .i64 x.sd,.int .i64 x.pr,.int .i64 x.q] 197)) (w.heap.size+1) (fun j=>Cv.at_ (l.take k) side j)):=HT1.out.alloc _;clear hbx;by_cases hsd:x.sd=side
   ·have kY:(x.sd==side)=true:=by simpa using hsd
    clear hsd;obtain⟨kA,vh⟩:∃ kA:Nat,x.pr=(kA:Int):=⟨x.pr.toNat,by have:=HX.out.2.2.2.1;omega⟩;have hp1:kA<1001:=by have:=HX.out.2.2.2.1;omega
    have JW:=hDq vh;rw[vh]at c3;clear vh;have hsum:0<=Cv.at_ (l.take k) side kA∧Cv.at_ (l.take k) side kA<=120000:=by
     have:=Cv.mA (Cv.i_ side kA) (l.take k) (hok.out.oks.take k)
     have h2:(l.take k).length<=120:=by rw[lKq,hn.out];omega
     unfold Cv.at_;omega
    obtain⟨r1,r2⟩:=hsum;have hq:=HX.out.2.2.2.2;obtain⟨q1,q2⟩:=hq;rw[JW.out]at eO HX0 qK
    go_wp2_with fail
    have d3:(wr.alloc (.cells #[.int .i64 x.id,.int .i64 x.ak,.int .i64 x.sd,.int .i64 kA,.int .i64 x.q] 197)).cell? ⟨wr.heap.size,3,none⟩=some (.int .i64 kA):=by simp
    have d4:(wr.alloc (.cells #[.int .i64 x.id,.int .i64 x.ak,.int .i64 x.sd,.int .i64 kA,.int .i64 x.q] 197)).cell? ⟨wr.heap.size,4,none⟩=some (.int .i64 x.q):=by simp
    clear c0 c1 c2 c3 c4;generalize wr.alloc (.cells #[.int .i64 x.id,.int .i64 x.ak,.int .i64 x.sd,.int .i64 kA,.int .i64 x.q] 197)=w1 at *;have d5:=qK.out.cell hp1;generalize hat:Cv.at_ (l.take k) side kA=acg at *;have Rp:=hDq hat;clear hat;have Rq:(kA:Int)<1001:=by omega
    refine jW 8 (by kernel_rfl) (by kernel_rfl) ?_;simp only[List.take_succ_cons,List.take_zero,List.drop_succ_cons,List.drop_zero]
    repeat (first | go_big_quiet_step (fail) | quiet_step (fail))
    refine wpQuiet_nil ?_;intro _ hw';obtain⟨nq,hw''⟩:=hw';subst hw'';have au:Hid (Below w.heap.size w (w1.drewN nq)):=eO.out.trans ((dn nq).mono eO.out.size);have e0:=HX0.out.drew nq;have e1:=qK.out.drew nq;have Ao:=hDq e0;have oP:=hDq e1;clear e0 e1 d3 d4 d5 HX0 qK eO;generalize w1.drewN nq=w3 at *;have d5:=oP.out.cell hp1;have jA:=oP.out.frozen kA;rw[Rp.out]at d5
    go_wp2_with fail
    refine⟨⟨k+1,by omega,by go_num,Ao.out.other (by simp) _,(oP.out.set kA (acg+x.q)).congr fun j _=>?_,au.out.setCell (by simp) _⟩,by simp[intOf];omega⟩
    have:=HS.out j
    unfold Cv.at_;rw[this];by_cases hj:j=kA
    ·subst hj
     rw[show Cv.i_ side j x=true by simp[Cv.i_,kY,JW.out]];rw[<- Rp.out];simp[Cv.at_]
    ·have hne:¬ (kA:Int)=(j:Int):=fun h=>hj (by omega)
     rw[show Cv.i_ side j x=false by simp[Cv.i_,JW.out,hne]];simp[hj]
   ·have kY:(x.sd==side)=false:=by simpa using hsd
    have anO:=hDq hsd;clear hsd
    go_wp2_with fail
    refine⟨⟨k+1,by omega,by go_num,HX0.out,qK.out.congr fun j _=>?_,eO.out⟩,by simp[intOf];omega⟩
    have:=HS.out j
    rw[show Cv.i_ side j x=false by simp[Cv.i_,kY]]at this;unfold Cv.at_;rw[this];simp
  ·have aK:¬ (k:Int)<n:=by omega
   have eU:l.take k=l:=by
    have:k=l.length:=by rw[hn.out];omega
    rw[this,List.take_length]
   have ht1:=HT1.out;rw[eU]at ht1;have H1:=hDq ht1;clear eU ht1 HT1;have HS2:=hDq (HT0.out.stored (fun i=>Cv.at_ l side i));have HB2:=hDq (below_setRow HB.out (lRq w.heap.size) (row fun i=>Cv.at_ l side i))
   go_wp2_with (first | (refine D5 H1.out rfl _ rfl rfl ?_) | (refine sR (fun i=>Cv.at_ l side i) HT0.out rfl _ _ rfl rfl rfl ?_))
   refine bodyPost_ret (v:=jy fun i=>Cv.at_ l side i) ?_ rfl ⟨rfl,HB2.out⟩;rw[Am rfl];simp[asAddr,Result.andThen,Al HS2.out,jy]
theorem ach (cap:Nat) (a:Option Addr) (side:Int) (w:World) :
  Calls Tryz.prog 283 #[.slice a 0 cap,.int .i64 side] w fun e w'=>e=.returned (jy fun _=>0)∧Below w.heap.size w w':=by
 have z60:=Ah;go_enter Tryz.func283,Tryz.ntmps283;go_wp2;refine wp_loop_rounds 1 ?_;rw[rounds_succ];have hh:Hid (bm ((w.alloc (.cells (row fun _=>0) 365)).alloc (.cells (row fun _=>0) 365)) w.heap.size (fun _=>0)):=(bm.new w _).alloc _;have h2:Hid (bm ((w.alloc (.cells (row fun _=>0) 365)).alloc (.cells (row fun _=>0) 365)) (w.heap.size+1) (fun _=>0)):=by
  have:=bm.new (w.alloc (.cells (row fun _=>0) 365)) (fun _=>0)
  rw[show (w.alloc (.cells (row fun _=>0) 365)).heap.size=w.heap.size+1 by simp]at this;exact this
 have hb:Hid (Below w.heap.size w ((w.alloc (.cells (row fun _=>0) 365)).alloc (.cells (row fun _=>0) 365))):=((bRq _ _).alloc (lRq _) _).alloc (by simp) _;generalize (w.alloc (.cells (row fun _=>0) 365)).alloc (.cells (row fun _=>0) 365)=wr at *;have HS2:=hDq (hh.out.stored (fun _=>0));have HB2:=hDq (below_setRow hb.out (lRq w.heap.size) (row fun _=>0))
 go_wp2_with (first | (refine D5 h2.out rfl _ rfl rfl ?_) | (refine sR (fun _=>0) hh.out rfl _ _ rfl rfl rfl ?_))
 refine bodyPost_ret (v:=jy fun _=>0) ?_ rfl ⟨rfl,HB2.out⟩;rw[Am rfl];simp[Act.put,asAddr,Result.andThen,Al HS2.out,jy]
theorem Rs (v:Value) (l:List Cv.ag) (side:Int) (w:World) (hv:gC w v l) (hok:Cv.eJ l) :
  Calls Tryz.prog 283 #[v,.int .i64 side] w fun e w'=>e=.returned (jy fun i=>Cv.at_ l side i)∧Below w.heap.size w w':=by
 rcases hv with ⟨rfl,a,cap,rfl⟩ | ⟨b,off,cap,rfl,hcap,hl⟩
 ·exact ach cap a side w
 ·exact acf b off cap _ side l w rfl hl hok
def ez (l:List Cv.ag) (p i:Nat):Int:=if p<i then Cv.iB l i else Cv.at_ l 0 i
theorem aci {l:List Cv.ag} (h:Cv.dM l) (i:Nat) (hi:i<1001):Cv.at_ l 0 i=ez l 999 i:=by
 unfold ez;by_cases e:999<i
 ·obtain rfl:i=1000:=by omega
  rw[if_pos e]
  have:=Cv.JI ((1000:Nat):Int) l
  rw[Cv.ab1 l h (by omega)]at this;omega
 ·rw[if_neg e]
theorem acj {l:List Cv.ag} {p:Nat} (h1:1<=p) (i:Nat):(if i=p then ez l p p+ez l p (p+1) else ez l p i)=ez l (p-1) i:=by
 unfold ez;by_cases e:i=p
 ·subst e
  rw[if_pos rfl,if_neg (by omega),if_pos (by omega),if_pos (by omega)]
  have:=Cv.JI (i:Int) l
  rw[show ((i+1:Nat):Int)=(i:Int)+1 by omega];omega
 ·rw[if_neg e]
  by_cases e2:p<i
  ·rw[if_pos e2,if_pos (by omega)]
  ·rw[if_neg e2,if_neg (by omega)]
theorem Rt {l:List Cv.ag} (h:Cv.eJ l) (p i:Nat):0<=ez l p i∧ez l p i<=120000:=by
 have h1:=Cv.mA (Cv.gM i) l h.oks;have h2:=Cv.mA (Cv.i_ 0 i) l h.oks
 have:=h.1
 unfold ez Cv.iB Cv.at_;split <;> omega
theorem ab4 (v:Value) (l:List Cv.ag) (w:World) (hv:Hid (gC w v l)) (hok:Hid (Cv.eJ l)) :
  Calls Tryz.prog 251 #[v] w fun e w'=>e=.returned (jy (ez l 0))∧Below w.heap.size w w':=by
 have z60:=Ah;have HQ:=hDq (Rs v l 0 (w.alloc (.cells (row fun _=>0) 365)) (hv.out.later ((bRq _ _).alloc (lRq _) _)) hok.out);go_enter Tryz.func251,Tryz.ntmps251
 go_wp2_with fail
 refine HQ.out.mono ?_;rintro e w1 ⟨rfl,hb1⟩;have HB1:Hid (Below w.heap.size w w1):=((bRq _ _).alloc (lRq _) _).trans (hb1.mono (by simp));have HR:Hid (bm w1 w.heap.size (fun _=>0)):=(bm.new w _).later hb1 (by simp);have ay:Hid (w.heap.size<w1.heap.size):=by have:=hb1.size;simp at this;exact this
 clear hb1 HQ;simp only[jy];have HA:Hid (bm (w1.alloc (.cells (row fun _=>0) 365)) w1.heap.size (fun _=>0)):=bm.new w1 _
 go_wp2_with (refine sR (fun i=>Cv.at_ l 0 i) HA.out rfl _ _ rfl rfl rfl ?_)
 have HS:Hid (bm ((w1.alloc (.cells (row fun _=>0) 365)).setRow w1.heap.size (row fun i=>Cv.at_ l 0 i)) w1.heap.size (ez l 999)):=(HA.out.stored _).congr (aci hok.out.oks);have aT:Hid (bm ((w1.alloc (.cells (row fun _=>0) 365)).setRow w1.heap.size (row fun i=>Cv.at_ l 0 i)) w.heap.size (fun _=>0)):=(HR.out.alloc _).beside _ (by have:=ay.out;omega);have HB2:Hid (Below w.heap.size w ((w1.alloc (.cells (row fun _=>0) 365)).setRow w1.heap.size (row fun i=>Cv.at_ l 0 i))):=below_setRow (HB1.out.alloc HB1.out.size _) HB1.out.size _;clear HR HA HB1;generalize (w1.alloc (.cells (row fun _=>0) 365)).setRow w1.heap.size (row fun i=>Cv.at_ l 0 i)=w2 at *
 go_loopw [4] (fun i wr=>∃ p:Nat,p<=999∧i=.int .i64 p∧bm wr w.heap.size (fun _=>0)∧bm wr w1.heap.size (ez l p)∧Below w.heap.size w wr) (fun i _=>(intOf i).toNat)
 case atStart=>exact⟨999,by omega,rfl,aT.out,HS.out,HB2.out⟩
 case round =>
  obtain⟨p,hp,rfl,ht0,ht1,hb⟩:=hrel;have HT0:=hDq ht0;have HT1:=hDq ht1;have HB:=hDq hb;clear ht0 ht1 hb HS aT HB2;by_cases hlt:1<=p
  ·have aK:(1:Int)<=(p:Int):=by omega
   have hp1:p<1001:=by omega
   have Rq:(p:Int)<1001:=by omega
   have acm:(p:Int)+1<1001:=by omega
   have d5:=HT1.out.cell hp1;have jA:=HT1.out.cell (i:=p+1) (by omega);have hb1:=Rt hok.out p p;have hb2:=Rt hok.out p (p+1);have HX:=hDq (fun i=>acj (l:=l) (p:=p) (by omega) i);generalize ha:ez l p p=x at *;generalize hb:ez l p (p+1)=y at *;have Hx:=hDq ha;have Ap:=hDq hb;clear ha hb;obtain⟨r1,r2⟩:=hb1;obtain⟨r3,r4⟩:=hb2
   go_wp2_with fail
   refine jW 9 (by kernel_rfl) (by kernel_rfl) ?_;simp only[List.take_succ_cons,List.take_zero,List.drop_succ_cons,List.drop_zero]
   repeat (first | go_big_quiet_step (fail) | quiet_step (fail))
   refine wpQuiet_nil ?_;intro _ hw';obtain⟨nq,hw''⟩:=hw';subst hw'';have au:Hid (Below w.heap.size w (wr.drewN nq)):=HB.out.trans ((dn nq).mono HB.out.size);have e0:=HT0.out.drew nq;have e1:=HT1.out.drew nq;have Ao:=hDq e0;have oP:=hDq e1;clear e0 e1 d5 jA HT0 HT1 HB;generalize wr.drewN nq=w3 at *;have d5:=oP.out.cell hp1;have jA:=oP.out.frozen p
   go_wp2_with fail
   have E2:=hDq ((oP.out.set p (x+y)).congr fun i _=>HX.out i);exact⟨⟨p-1,by omega,by go_num,Ao.out.other (by have:=ay.out;simp;omega) _,E2.out,au.out.setCell (by have:=ay.out;simp;omega) _⟩,by simp[intOf];omega⟩
  ·have aK:¬ (1:Int)<=(p:Int):=by omega
   obtain rfl:p=0:=by omega
   have HS2:=hDq (HT0.out.stored (ez l 0));have HB2:=hDq (below_setRow HB.out (lRq w.heap.size) (row (ez l 0)))
   go_wp2_with (first | (refine D5 HT1.out rfl _ rfl rfl ?_) | (refine sR (ez l 0) HT0.out rfl _ _ rfl rfl rfl ?_))
   refine bodyPost_ret (v:=jy (ez l 0)) ?_ rfl ⟨rfl,HB2.out⟩;rw[Am rfl];simp[asAddr,Result.andThen,Al HS2.out,jy]
def sup (l:List Cv.ag) (p i:Nat):Int:=if i<p then Cv.jw l i else Cv.at_ l 1 i
theorem acn {l:List Cv.ag} (h:Cv.dM l) (i:Nat) (hi:i<1001):Cv.at_ l 1 i=sup l 2 i:=by
 unfold sup;by_cases e:i<2
 ·rw[if_pos e]
  have:=Cv.JJ ((i:Int)-1) l
  rw[Cv.ab2 l h (p:=(i:Int)-1) (by omega),show (i:Int)-1+1=i by omega]at this;omega
 ·rw[if_neg e]
theorem aco {l:List Cv.ag} {p:Nat} (h1:1<=p) (i:Nat):(if i=p then sup l p p+sup l p (p-1) else sup l p i)=sup l (p+1) i:=by
 unfold sup;by_cases e:i=p
 ·subst e
  rw[if_pos rfl,if_neg (by omega),if_pos (by omega),if_pos (by omega)]
  have:=Cv.JJ ((i:Int)-1) l
  rw[show (i:Int)-1+1=i by omega]at this;rw[show ((i-1:Nat):Int)=(i:Int)-1 by omega];omega
 ·rw[if_neg e]
  by_cases e2:i<p
  ·rw[if_pos e2,if_pos (by omega)]
  ·rw[if_neg e2,if_neg (by omega)]
theorem Ru {l:List Cv.ag} (h:Cv.eJ l) (p i:Nat):0<=sup l p i∧sup l p i<=120000:=by
 have h1:=Cv.mA (Cv.sB i) l h.oks;have h2:=Cv.mA (Cv.i_ 1 i) l h.oks
 have:=h.1
 unfold sup Cv.jw Cv.at_;split <;> omega
theorem ab5 (v:Value) (l:List Cv.ag) (w:World) (hv:Hid (gC w v l)) (hok:Hid (Cv.eJ l)) :
  Calls Tryz.prog 252 #[v] w fun e w'=>e=.returned (jy (sup l 1001))∧Below w.heap.size w w':=by
 have z60:=Ah;have HQ:=hDq (Rs v l 1 (w.alloc (.cells (row fun _=>0) 365)) (hv.out.later ((bRq _ _).alloc (lRq _) _)) hok.out);go_enter Tryz.func252,Tryz.ntmps252
 go_wp2_with fail
 refine HQ.out.mono ?_;rintro e w1 ⟨rfl,hb1⟩;have HB1:Hid (Below w.heap.size w w1):=((bRq _ _).alloc (lRq _) _).trans (hb1.mono (by simp));have HR:Hid (bm w1 w.heap.size (fun _=>0)):=(bm.new w _).later hb1 (by simp);have ay:Hid (w.heap.size<w1.heap.size):=by have:=hb1.size;simp at this;exact this
 clear hb1 HQ;simp only[jy];have HA:Hid (bm (w1.alloc (.cells (row fun _=>0) 365)) w1.heap.size (fun _=>0)):=bm.new w1 _
 go_wp2_with (refine sR (fun i=>Cv.at_ l 1 i) HA.out rfl _ _ rfl rfl rfl ?_)
 have HS:Hid (bm ((w1.alloc (.cells (row fun _=>0) 365)).setRow w1.heap.size (row fun i=>Cv.at_ l 1 i)) w1.heap.size (sup l 2)):=(HA.out.stored _).congr (acn hok.out.oks);have aT:Hid (bm ((w1.alloc (.cells (row fun _=>0) 365)).setRow w1.heap.size (row fun i=>Cv.at_ l 1 i)) w.heap.size (fun _=>0)):=(HR.out.alloc _).beside _ (by have:=ay.out;omega);have HB2:Hid (Below w.heap.size w ((w1.alloc (.cells (row fun _=>0) 365)).setRow w1.heap.size (row fun i=>Cv.at_ l 1 i))):=below_setRow (HB1.out.alloc HB1.out.size _) HB1.out.size _;clear HR HA HB1;generalize (w1.alloc (.cells (row fun _=>0) 365)).setRow w1.heap.size (row fun i=>Cv.at_ l 1 i)=w2 at *
 go_loopw [4] (fun i wr=>∃ p:Nat,(2<=p∧p<=1001)∧i=.int .i64 p∧bm wr w.heap.size (fun _=>0)∧bm wr w1.heap.size (sup l p)∧Below w.heap.size w wr) (fun i _=>1001-(intOf i).toNat)
 case atStart=>exact⟨2,by omega,rfl,aT.out,HS.out,HB2.out⟩
 case round =>
  obtain⟨p,hp,rfl,ht0,ht1,hb⟩:=hrel;have HT0:=hDq ht0;have HT1:=hDq ht1;have HB:=hDq hb;clear ht0 ht1 hb HS aT HB2;by_cases hlt:p<=1000
  ·have aK:(p:Int)<=1000:=by omega
   have hp1:p<1001:=by omega
   have Rq:(p:Int)<1001:=by omega
   have acm:(0:Int)<=(p:Int)-1:=by omega
   have d5:=HT1.out.cell hp1;have jA:=HT1.out.cell (i:=p-1) (by omega);have hb1:=Ru hok.out p p;have hb2:=Ru hok.out p (p-1);have HX:=hDq (fun i=>aco (l:=l) (p:=p) (by omega) i);generalize ha:sup l p p=x at *;generalize hb:sup l p (p-1)=y at *;have Hx:=hDq ha;have Ap:=hDq hb;clear ha hb;obtain⟨r1,r2⟩:=hb1;obtain⟨r3,r4⟩:=hb2
   go_wp2_with fail
   refine jW 9 (by kernel_rfl) (by kernel_rfl) ?_;simp only[List.take_succ_cons,List.take_zero,List.drop_succ_cons,List.drop_zero]
   repeat (first | go_big_quiet_step (fail) | quiet_step (fail))
   refine wpQuiet_nil ?_;intro _ hw';obtain⟨nq,hw''⟩:=hw';subst hw'';have au:Hid (Below w.heap.size w (wr.drewN nq)):=HB.out.trans ((dn nq).mono HB.out.size);have e0:=HT0.out.drew nq;have e1:=HT1.out.drew nq;have Ao:=hDq e0;have oP:=hDq e1;clear e0 e1 d5 jA HT0 HT1 HB;generalize wr.drewN nq=w3 at *;have d5:=oP.out.cell hp1;have jA:=oP.out.frozen p
   go_wp2_with fail
   have E2:=hDq ((oP.out.set p (x+y)).congr fun i _=>HX.out i);exact⟨⟨p+1,by omega,by go_num,Ao.out.other (by have:=ay.out;simp;omega) _,E2.out,au.out.setCell (by have:=ay.out;simp;omega) _⟩,by simp[intOf];omega⟩
  ·have aK:¬ (p:Int)<=1000:=by omega
   obtain rfl:p=1001:=by omega
   have HS2:=hDq (HT0.out.stored (sup l 1001));have HB2:=hDq (below_setRow HB.out (lRq w.heap.size) (row (sup l 1001)))
   go_wp2_with (first | (refine D5 HT1.out rfl _ rfl rfl ?_) | (refine sR (sup l 1001) HT0.out rfl _ _ rfl rfl rfl ?_))
   refine bodyPost_ret (v:=jy (sup l 1001)) ?_ rfl ⟨rfl,HB2.out⟩;rw[Am rfl];simp[asAddr,Result.andThen,Al HS2.out,jy]
theorem Rc (a b:Int) (w:World) (h1:-1000000<=a) (h2:a<=1000000) (h3:-1000000<=b) (h4:b<=1000000):Calls Tryz.prog 253 #[.int .i64 a,.int .i64 b] w fun e w'=>e=.returned (.int .i64 (Cv.size (a-b)))∧w'=w:=by
 go_enter Tryz.func253,Tryz.ntmps253;go_wp2
 all_goals go_ret
 all_goals exact⟨kR (by unfold Cv.size;omega),rfl⟩
def Re (v s a:Int):Value:=.agg #[.int .i64 v,.int .i64 s,.int .i64 a]
theorem ab3 (v s a v' s' a':Int) (w:World):Calls Tryz.prog 254 #[Re v s a,Re v' s' a'] w fun e w'=>e=.returned (.bool (Cv.sQ v s a v' s' a'))∧Below w.heap.size w w':=by
 show Calls Tryz.prog 254 #[.agg #[.int .i64 v,.int .i64 s,.int .i64 a],.agg #[.int .i64 v',.int .i64 s',.int .i64 a']] w _;go_enter Tryz.func254,Tryz.ntmps254;go_wp2
 all_goals go_ret
 all_goals
  refine⟨gB ?_,((bRq _ _).alloc (lRq _) _).alloc (by simp) _⟩;simp_all[Cv.sQ]
def iJ (w:World) (B:Nat) (v s a:Int):Prop:=w.heap[B]?=some (.cells #[.int .i64 v,.int .i64 s,.int .i64 a] 368 (0,0))
theorem iJ.later {w w':World} {B n:Nat} {v s a:Int} (h:iJ w B v s a) (hb:Below n w w') (hn:B<n):iJ w' B v s a:=(hb.block B hn).trans h
theorem iJ.lt {w:World} {B:Nat} {v s a:Int} (h:iJ w B v s a):B<w.heap.size:=(Array.getElem?_eq_some_iff.1 h).1
theorem iJ.cells {w:World} {B:Nat} {v s a:Int} (h:iJ w B v s a):w.cell? ⟨B,0,none⟩=some (.int .i64 v)∧w.cell? ⟨B,1,none⟩=some (.int .i64 s)∧w.cell? ⟨B,2,none⟩=some (.int .i64 a):=by
 refine⟨?_,?_,?_⟩ <;> (rw[cR w B _ _ _ _ h];rfl)
theorem iJ.frozen {w:World} {B:Nat} {v s a:Int} (h:iJ w B v s a) (i:Nat):w.frozen? ⟨B,i,none⟩=false:=by
 simp[World.frozen?,show w.heap[B]?=_ from h]
theorem iJ.set {w:World} {B:Nat} {v s a:Int} (h:iJ w B v s a) (v' s' a':Int):iJ (((w.setCell ⟨B,0,none⟩ (.int .i64 v')).setCell ⟨B,1,none⟩ (.int .i64 s')).setCell ⟨B,2,none⟩ (.int .i64 a')) B v' s' a':=by
 unfold iJ at h ⊢;have h1:(w.setCell ⟨B,0,none⟩ (.int .i64 v')).heap[B]?=some (.cells #[.int .i64 v',.int .i64 s,.int .i64 a] 368 (0,0)):=by
  rw[setCell_eq_setRow w B 0 _ _ _ _ h];exact setRow_heap w B _ _ _ _ h
 have h2:((w.setCell ⟨B,0,none⟩ (.int .i64 v')).setCell ⟨B,1,none⟩ (.int .i64 s')).heap[B]?=some (.cells #[.int .i64 v',.int .i64 s',.int .i64 a] 368 (0,0)):=by
  rw[setCell_eq_setRow _ B 1 _ _ _ _ h1];exact setRow_heap _ B _ _ _ _ h1
 rw[setCell_eq_setRow _ B 2 _ _ _ _ h2];exact setRow_heap _ B _ _ _ _ h2
theorem ab0 (v:Value) (l:List Cv.ag) (ref:Int) (w:World) (hv:Hid (gC w v l)) (hok:Hid (Cv.eJ l)) (hr:ah.aC ref 1 1000=true)
  (HC:Hid (Calls Tryz.prog 250 #[v] w fun e w'=>e=.returned .nilIface∧Below w.heap.size w w')) :
  Calls Tryz.prog 220 #[v,.int .i64 ref] w fun e w'=>(∃ p vol,e=.returned (.tuple #[.int .i64 p,.int .i64 vol,.nilIface])∧Cv.eN l ref 1000 p vol)∧Below w.heap.size w w':=by
 have z60:=Ah;have HD:Hid (∀ W,Below w.heap.size w W->Calls Tryz.prog 251 #[v] W fun e w'=>e=.returned (jy (ez l 0))∧Below W.heap.size W w'):=fun W hb=>ab4 v l W (hv.out.later hb) hok;have Rf:Hid (∀ W,Below w.heap.size w W->Calls Tryz.prog 252 #[v] W fun e w'=>e=.returned (jy (sup l 1001))∧Below W.heap.size W w'):=fun W hb=>ab5 v l W (hv.out.later hb) hok;have p7:1<=ref∧ref<=1000:=by simpa [ah.aC] using hr
 obtain⟨anK,anL⟩:=p7;go_enter Tryz.func220,Tryz.ntmps220
 go_wp2_with fail
 refine HC.out.mono ?_;rintro e w1 ⟨rfl,hb1⟩;have HB1:=hDq hb1;clear hb1 HC;simp only[]
 go_wp2_with fail
 refine(fY _ _ _ _).mono ?_;rintro e w1 ⟨rfl,rfl⟩;rw[hr];simp only[];clear hr
 go_wp2_with fail
 refine(HD.out w1 HB1.out).mono ?_;rintro e w2 ⟨rfl,hb2⟩;have HB2:=hDq (HB1.out.trans (hb2.mono HB1.out.size));clear hb2 HD HB1;simp only[]
 go_wp2_with fail
 refine(Rf.out w2 HB2.out).mono ?_;rintro e w3 ⟨rfl,hb3⟩;have au:=hDq (HB2.out.trans (hb3.mono HB2.out.size));clear hb3 Rf HB2;simp only[jy];have HA:Hid (bm ((w3.alloc (.cells (row fun _=>0) 365)).alloc (.cells (row fun _=>0) 365)) w3.heap.size (fun _=>0)):=(bm.new w3 _).alloc _;have bX:Hid (bm (((w3.alloc (.cells (row fun _=>0) 365)).alloc (.cells (row fun _=>0) 365)).setRow w3.heap.size (row (ez l 0))) (w3.heap.size+1) (fun _=>0)):=by
  have:=bm.new (w3.alloc (.cells (row fun _=>0) 365)) (fun _=>0)
  rw[show (w3.alloc (.cells (row fun _=>0) 365)).heap.size=w3.heap.size+1 by simp]at this;exact this.beside _ (by omega)
 go_wp2_with (first | (refine sR (ez l 0) HA.out rfl _ _ rfl rfl rfl ?_) | (refine sR (sup l 1001) bX.out rfl _ _ rfl rfl rfl ?_))
 have Rh:Hid (bm ((((w3.alloc (.cells (row fun _=>0) 365)).alloc (.cells (row fun _=>0) 365)).setRow w3.heap.size (row (ez l 0))).setRow (w3.heap.size+1) (row (sup l 1001))) w3.heap.size (ez l 0)):=(HA.out.stored _).beside _ (by omega);have JK:Hid (bm ((((w3.alloc (.cells (row fun _=>0) 365)).alloc (.cells (row fun _=>0) 365)).setRow w3.heap.size (row (ez l 0))).setRow (w3.heap.size+1) (row (sup l 1001))) (w3.heap.size+1) (sup l 1001)):=bX.out.stored _;have bg:Hid (Below w.heap.size w ((((w3.alloc (.cells (row fun _=>0) 365)).alloc (.cells (row fun _=>0) 365)).setRow w3.heap.size (row (ez l 0))).setRow (w3.heap.size+1) (row (sup l 1001)))) :=
  below_setRow (below_setRow ((au.out.alloc au.out.size _).alloc (by have:=au.out.size;simp;omega) _) au.out.size _) (by have:=au.out.size;omega) _
 have DY:Hid (((((w3.alloc (.cells (row fun _=>0) 365)).alloc (.cells (row fun _=>0) 365)).setRow w3.heap.size (row (ez l 0))).setRow (w3.heap.size+1) (row (sup l 1001))).heap.size=w3.heap.size+1+1):=by show _=_;simp
 clear HA bX;generalize (((w3.alloc (.cells (row fun _=>0) 365)).alloc (.cells (row fun _=>0) 365)).setRow w3.heap.size (row (ez l 0))).setRow (w3.heap.size+1) (row (sup l 1001))=w4 at *;have Ri:=hDq (Rh.out.alloc (.cells #[.int .i64 0,.int .i64 0,.int .i64 0] 368));have Rj:=hDq (JK.out.alloc (.cells #[.int .i64 0,.int .i64 0,.int .i64 0] 368));have bE:=hDq (bg.out.alloc bg.out.size (.cells #[.int .i64 0,.int .i64 0,.int .i64 0] 368));have Rk:Hid (iJ (w4.alloc (.cells #[.int .i64 0,.int .i64 0,.int .i64 0] 368)) (w3.heap.size+1+1) 0 0 0):=by
  have:=heap_alloc_last w4 (.cells #[.int .i64 0,.int .i64 0,.int .i64 0] 368)
  rw[DY.out]at this;exact this
 have anM:Hid ((w4.alloc (.cells #[.int .i64 0,.int .i64 0,.int .i64 0] 368)).heap.size=w3.heap.size+3):=by show _=_;simp[DY.out]
 have ay:Hid (w.heap.size<=w3.heap.size):=au.out.size;clear Rh JK bg DY au;generalize w4.alloc (.cells #[.int .i64 0,.int .i64 0,.int .i64 0] 368)=aQ at *;generalize w3.heap.size=N at *
 go_loopw [4,11] (fun pr i wr=>∃ (q:Nat) (p vol:Int),(1<=q∧q<=1001)∧i=.int .i64 q∧pr=.int .i64 p∧Cv.eN l ref ((q:Int)-1) p vol∧bm wr N (ez l 0)∧bm wr (N+1) (sup l 1001)∧iJ wr (N+1+1) vol (Cv.wl l p) (Cv.cq ref p)∧Below w.heap.size w wr) (fun _ i _=>1001-(intOf i).toNat)
 case atStart=>exact⟨1,0,0,by omega,rfl,rfl,Cv.eN.start l ref,Ri.out,Rj.out,Rk.out,bE.out⟩
 case round =>
  obtain⟨q,p,vol,hq,rfl,rfl,jz,hd,hs,hw,hb⟩:=hrel;obtain⟨hq1,anN⟩:=hq;have HW:=hDq jz;have JL:=hDq hd;have gZ:=hDq hs;have JM:=hDq hw;have HB:=hDq hb;clear jz hd hs hw hb Ri Rj Rk bE;by_cases hlt:q<=1000
  ·have aK:(q:Int)<=1000:=by omega
   have ab6:(q:Int)<1001:=by omega
   have d1:=JL.out.cell (i:=q) (by omega);have d2:=gZ.out.cell (i:=q) (by omega);rw[show ez l 0 q=Cv.iB l q by unfold ez;rw[if_pos (by omega)]]at d1;rw[show sup l 1001 q=Cv.jw l q by unfold sup;rw[if_pos (by omega)]]at d2;have b1:0<=Cv.iB l q∧Cv.iB l q<=120000:=by
    have:=Cv.mA (Cv.gM q) l hok.out.oks;have h2:=hok.out.1;unfold Cv.iB;omega
   have b2:0<=Cv.jw l q∧Cv.jw l q<=120000:=by
    have:=Cv.mA (Cv.sB q) l hok.out.oks;have h2:=hok.out.1;unfold Cv.jw;omega
   have cu:Hid (Cv.dN l q=min (Cv.iB l q) (Cv.jw l q)):=rfl;have HL:Hid (Cv.left l q=Cv.size (Cv.iB l q-Cv.jw l q)):=rfl;have Rl:Hid (Cv.away ref q=Cv.size ((q:Int)-ref)):=rfl;generalize Cv.iB l q=xI at *;generalize Cv.jw l q=sp at *;obtain⟨sS,sT⟩:=b1;obtain⟨Ai,Aj⟩:=b2
   go_wp2_with fail
   obtain⟨val,iy,mj⟩:∃ val:Bool->Nat->World,(∀ n,val false n=wr.drewN n)∧(∀ n,val true n=(wr.drewN n).alloc (.cells #[.int .i64 0,.int .i64 0,.int .i64 0] 368)):=⟨fun b n=>bif b then (wr.drewN n).alloc (.cells #[.int .i64 0,.int .i64 0,.int .i64 0] 368) else wr.drewN n,fun _=>rfl,fun _=>rfl⟩;have f1:∀ n,(val false n).cell? ⟨N,q,none⟩=some (.int .i64 xI):=fun n=>by rw[iy];exact d1
   have f2:∀ n,(val false n).cell? ⟨N+1,q,none⟩=some (.int .i64 sp):=fun n=>by rw[iy];exact d2
   have t1:∀ n,(val true n).cell? ⟨N,q,none⟩=some (.int .i64 xI):=fun n=>by
    rw[mj,((bRq (wr.drewN n).heap.size _).alloc (lRq _) _).cell (p:=⟨N,q,none⟩) (bCq _ _ (show (wr.drewN n).cell? ⟨N,q,none⟩=_ from d1))];exact d1
   have t2:∀ n,(val true n).cell? ⟨N+1,q,none⟩=some (.int .i64 sp):=fun n=>by
    rw[mj,((bRq (wr.drewN n).heap.size _).alloc (lRq _) _).cell (p:=⟨N+1,q,none⟩) (bCq _ _ (show (wr.drewN n).cell? ⟨N+1,q,none⟩=_ from d2))];exact d2
   have sL:=hDq iy;have sM:=hDq mj;have hal:∀ (a:Act) n,(execOp a.eval { dst:=some 12,op:=Op.alloc 368,type:=0,pos:= "clear.go:22",after:=#[],guard:=none }).run Tryz.prog (val false n)=.ok (.value (.pointer (some ⟨wr.heap.size,0,none⟩))) (val true n):=by
    intro a n;rw[iy,mj]
    kernel_rfl
   clear iy mj;refine Jd (val:=val) (p:=.pointer (some ⟨wr.heap.size,0,none⟩)) 18 rfl (by kernel_rfl) (by kernel_rfl) (by kernel_rfl) rfl (by rw[sL.out];rfl) hal ?_;clear hal d1 d2;have ab7:IntKind.i64.wrap (xI-sp)=xI-sp:=IntWalk.i64_in _ (by omega);have wr2:IntKind.i64.wrap ((q:Int)-ref)=(q:Int)-ref:=IntWalk.i64_in _ (by omega);simp only[List.take_succ_cons,List.take_zero]
   repeat (refine Je (fun K hK=>?_);refine⟨by rfl,?_⟩;unfold zK;go_simp;first | (refine hK _ ?_;clear hK K) | (refine⟨_,⟨fun n=>(Rc _ _ _ (by omega) (by omega) (by omega) (by omega)).mono (fun e w' ⟨he,hw⟩=>⟨he,n,hw⟩),fun n=>(Rc _ _ _ (by omega) (by omega) (by omega) (by omega)).mono (fun e w' ⟨he,hw⟩=>⟨he,n,hw⟩)⟩,hK _ ?_⟩;clear hK K))
   rw[show (if sp<xI then sp else xI)=Cv.dN l q by rw[cu.out];split <;> omega,<- HL.out,<- Rl.out];refine Jf ?_;intro n;rw[sM.out];have JN:=hDq (JL.out.drew n);have JO:=hDq (gZ.out.drew n);have DZ:Hid (iJ (wr.drewN n) (N+1+1) vol (Cv.wl l p) (Cv.cq ref p)):=JM.out;have HB2:Hid (Below w.heap.size w (wr.drewN n)):=HB.out.trans ((dn n).mono HB.out.size);rw[show wr.heap.size=(wr.drewN n).heap.size from rfl];clear sL sM f1 f2 t1 t2 JL gZ JM HB ab7 wr2 cu HL Rl;generalize wr.drewN n=W at *;have D3:Hid (N+1+1<W.heap.size):=DZ.out.lt;have fZ:Hid (Below W.heap.size W (W.alloc (.cells #[.int .i64 (Cv.dN l q),.int .i64 (Cv.left l q),.int .i64 (Cv.away ref q)] 368))):=(bRq _ _).alloc (lRq _) _;obtain⟨o0,o1,o2⟩:=(DZ.out.later fZ.out D3.out).cells;have Ak:=hDq (ab3 (Cv.dN l q) (Cv.left l q) (Cv.away ref q) vol (Cv.wl l p) (Cv.cq ref p) (W.alloc (.cells #[.int .i64 (Cv.dN l q),.int .i64 (Cv.left l q),.int .i64 (Cv.away ref q)] 368)))
   go_wp2_with fail
   refine Ak.out.mono ?_;rintro e aj ⟨rfl,hb6⟩;have Rm:Hid (iJ aj W.heap.size (Cv.dN l q) (Cv.left l q) (Cv.away ref q)):=(heap_alloc_last W _ |> fun h=>(show iJ _ _ _ _ _ from h)).later hb6 (by simp);have aS:Hid (Below W.heap.size W aj):=fZ.out.trans (hb6.mono fZ.out.size);have JQ:Hid (bm aj N (ez l 0)):=JN.out.later aS.out JN.out.lt;have JR:Hid (bm aj (N+1) (sup l 1001)):=JO.out.later aS.out JO.out.lt;have vd:Hid (iJ aj (N+1+1) vol (Cv.wl l p) (Cv.cq ref p)):=DZ.out.later aS.out D3.out;have cV:Hid (Below w.heap.size w aj):=HB2.out.trans (aS.out.mono HB2.out.size);clear hb6 fZ o0 o1 o2 Ak JN JO DZ HB2 aS;have kX:Hid (N+1+1≠W.heap.size):=by show _≠_;have:=D3.out;omega
   clear D3;cases p8:Cv.sQ (Cv.dN l q) (Cv.left l q) (Cv.away ref q) vol (Cv.wl l p) (Cv.cq ref p) with
   | false =>
    have xJ:=hDq p8;clear p8;simp only[]
    go_wp2_with fail
    have hk:=HW.out.keep hok.out.oks (by rw[show (q:Int)-1+1=q by omega];exact xJ.out);rw[show (q:Int)-1+1=((q+1:Nat):Int)-1 by omega]at hk;exact⟨⟨q+1,p,vol,by omega,by go_num,rfl,hk,JQ.out,JR.out,vd.out,cV.out⟩,by simp[intOf];omega⟩
   | true =>
    have xJ:=hDq p8;clear p8;simp only[];obtain⟨g0,g1,g2⟩:=Rm.out.cells;have h0:=vd.out.frozen 0;have h1:=vd.out.frozen 1;have h2:=vd.out.frozen 2;obtain⟨o0,o1,o2⟩:=vd.out.cells
    go_wp2_with fail
    refine jW 3 (by kernel_rfl) (by kernel_rfl) ?_;simp only[List.take_succ_cons,List.take_zero,List.drop_succ_cons,List.drop_zero]
    repeat (first | go_big_quiet_step (fail) | quiet_step (fail))
    refine wpQuiet_nil ?_;intro _ hw';obtain⟨nq,hw''⟩:=hw';subst hw'';have JU:Hid (Below w.heap.size w (aj.drewN nq)):=cV.out.trans ((dn nq).mono cV.out.size);have ab8:=hDq (JQ.out.drew nq);have ab9:=hDq (JR.out.drew nq);have iI:Hid (iJ (aj.drewN nq) (N+1+1) vol (Cv.wl l p) (Cv.cq ref p)):=vd.out;clear g0 g1 g2 h0 h1 h2 o0 o1 o2 Rm JQ JR vd cV;generalize aj.drewN nq=bh at *;have h0:=iI.out.frozen 0;have h1:=iI.out.frozen 1;have h2:=iI.out.frozen 2;obtain⟨o0,o1,o2⟩:=iI.out.cells
    go_wp2_with fail
    have hk:=HW.out.take hok.out.oks (by omega) (by rw[show (q:Int)-1+1=q by omega];exact xJ.out);rw[show (q:Int)-1+1=q by omega,show (q:Int)=((q+1:Nat):Int)-1 by omega]at hk;have vg:((q+1:Nat):Int)-1=q:=by omega
    rw[vg]at hk;have oO:=iI.out.set (Cv.dN l q) (Cv.left l q) (Cv.away ref q);refine⟨⟨q+1,q,Cv.dN l q,by omega,by go_num,rfl,by rw[vg];exact hk,?_,?_,?_,?_⟩,by simp[intOf];omega⟩
    ·exact((ab8.out.other (by simp;omega) _).other (by simp;omega) _).other (by simp;omega) _
    ·exact((ab9.out.other (by simp) _).other (by simp) _).other (by simp) _
    ·rw[show Cv.wl l q=Cv.left l q by unfold Cv.wl;rw[if_neg (by omega)],show Cv.cq ref q=Cv.away ref q by unfold Cv.cq;rw[if_neg (by omega)]]
     exact oO
    ·have:=ay.out
     exact((JU.out.setCell (by simp;omega) _).setCell (by simp;omega) _).setCell (by simp;omega) _
  ·have aK:¬ (q:Int)<=1000:=by omega
   obtain rfl:q=1001:=by omega
   obtain⟨o0,o1,o2⟩:=JM.out.cells
   go_wp2_with fail
   go_quiet (fail)
   have JU:Hid (Below w.heap.size w (wr.drewN nq)):=HB.out.trans ((dn nq).mono HB.out.size);generalize wr.drewN nq=bh at *
   go_wp2_with fail
   go_ret3
   exact⟨⟨p,vol,rfl,HW.out⟩,JU.out⟩
theorem Q6 (v:Value) (l:List Cv.ag) (ref:Int) (T:TypeId) (v1 v6 v7:Value) (w:World) (hv:gC w v l) (he:Hid (gK w T v1 v6 v7)) (hok:Cv.eJ l) (hr:ah.aC ref 1 1000=true) :
  Calls Tryz.prog 220 #[v,.int .i64 ref] w fun e w'=>(∃ p vol,e=.returned (.tuple #[.int .i64 p,.int .i64 vol,.nilIface])∧Cv.eN l ref 1000 p vol)∧Below w.heap.size w w' :=
 ab0 v l ref w hv hok hr (Jy v l T v1 v6 v7 w hv he hok)
def Gp:Cv.ag:=⟨1,1,0,10,3⟩
theorem agB (d:Nat) (a b c a' b' c':Int) (w:World):(Op.equalIn (d+2) 138 (.agg #[.int .i64 a,.int .i64 b,.int .i64 c]) (.agg #[.int .i64 a',.int .i64 b',.int .i64 c'])).run Tryz.prog w=.ok (a==a'&&(b==b'&&c==c')) w:=by
 rw[show d+2=(d+1)+1 from rfl,Op.equalIn];simp[run_underlying Tryz.underlying138,go_sem,List.range'];by_cases h1:a=a' <;> by_cases h2:b=b' <;> by_cases h3:c=c' <;> simp[h1,h2,h3]
def BU (a b c d e f g h a' b' c' d' e' f' g' h':Int):Bool:=a==a'&&(b==b'&&((c==c'&&(d==d'&&e==e'))&&(f==f'&&(g==g'&&h==h'))))
theorem agC (a b c d e f g q a' b' c' d' e' f' g' q':Int) (w:World):(Op.equalIn 10000 140 (.agg #[.int .i64 a,.int .i64 b,.int .i64 c,.int .i64 d,.int .i64 e,.int .i64 f,.int .i64 g,.int .i64 q]) (.agg #[.int .i64 a',.int .i64 b',.int .i64 c',.int .i64 d',.int .i64 e',.int .i64 f',.int .i64 g',.int .i64 q'])).run Tryz.prog w=.ok (BU a b c d e f g q a' b' c' d' e' f' g' q') w:=by
 have h:=agB 9997;unfold BU;simp only[Nat.reduceAdd]at h;simp[go_sem,h];by_cases h1:a=a'
 ·by_cases h2:b=b'
  ·by_cases h3:c=c'->d=d'->¬ e=e'
   ·have k:(c==c'&&(d==d'&&e==e'))=false:=by
     rw[Bool.eq_false_iff];intro h;simp only[Bool.and_eq_true,beq_iff_eq]at h;exact h3 h.1 h.2.1 h.2.2
    rw[if_pos h1,if_pos h2,if_pos h3,k];simp
   ·have k:(c==c'&&(d==d'&&e==e'))=true:=by
     simp only[Bool.and_eq_true,beq_iff_eq];exact⟨Decidable.byContradiction fun x=>h3 fun y=>absurd y x,Decidable.byContradiction fun x=>h3 fun _ y=>absurd y x,Decidable.byContradiction fun x=>h3 fun _ _=>x⟩
    rw[if_pos h1,if_pos h2,if_neg h3,k];by_cases h4:f=f'->g=g'->¬ q=q'
    ·have k:(f==f'&&(g==g'&&q==q'))=false:=by
      rw[Bool.eq_false_iff];intro h;simp only[Bool.and_eq_true,beq_iff_eq]at h;exact h4 h.1 h.2.1 h.2.2
     rw[if_pos h4,k];simp
    ·have k:(f==f'&&(g==g'&&q==q'))=true:=by
      simp only[Bool.and_eq_true,beq_iff_eq];exact⟨Decidable.byContradiction fun x=>h4 fun y=>absurd y x,Decidable.byContradiction fun x=>h4 fun _ y=>absurd y x,Decidable.byContradiction fun x=>h4 fun _ _=>x⟩
     rw[if_neg h4,k];simp[h1,h2]
  ·simp[h1,h2]
 ·simp[h1]
theorem agD (a b c d e f g h a' b' c' d' e' f' g' h':Int) (w:World):(binOp .neq 140 (.agg #[.int .i64 a,.int .i64 b,.int .i64 c,.int .i64 d,.int .i64 e,.int .i64 f,.int .i64 g,.int .i64 h]) (.agg #[.int .i64 a',.int .i64 b',.int .i64 c',.int .i64 d',.int .i64 e',.int .i64 f',.int .i64 g',.int .i64 h'])).run Tryz.prog w=.ok (.bool (!BU a b c d e f g h a' b' c' d' e' f' g' h')) w:=by
 rw[run_neq_struct,agC];rfl
theorem agE (a b c d e f g h:Int):BU a b c d e f g h a b c d e f g h=true:=by simp[BU]
end Go.Proofs.YtjolccidheflpaaGreatDoor
