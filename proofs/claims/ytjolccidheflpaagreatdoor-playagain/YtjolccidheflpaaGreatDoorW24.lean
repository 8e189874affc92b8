/- The small functions of package purse by their contracts: grow, isClient, isBelowZero, isWell, asked. -/
import Derived.Test.YtjolccidheflpaaGreatDoorW23
import Derived.Test.YtjolccidheflpaaGreatDoorW09
import Derived.BigRegion
import Derived.Test.YtjolccidheflpaaGreatDoorW00
import Derived.Deep.WholeRow
import Derived.Laws.CopyOwn
import Derived.Deep.MidRow
import Derived.Laws.ResultCell
import Derived.Deep.RegionLaw
import Derived.Test.YtjolccidheflpaaGreatDoorW08
import Derived.OwnWalk
namespace Go.Proofs.YtjolccidheflpaaGreatDoor
set_option maxHeartbeats 8000000
set_option maxRecDepth 100000
open Go.RowKit
theorem zf (B o:Nat) (t more most:Int) (w:World) (hc:w.cell? (Qb B o)=some (Qa t)) (h0:0<=t) (h1:t<=most) (h2:most<=1099511627776) (h:most-t<more) :
  Calls Tryz.prog 207 #[.pointer (some (Qb B o)),Qa more,Qa most] w fun e w'=>e=.returned (.bool false)/\w'=w:=by
 go_enter Tryz.func207,Tryz.ntmps207;go_wp2;go_ret;exact⟨rfl,rfl⟩
theorem zg (B o:Nat) (t more most:Int) (w:World) (hc:w.cell? (Qb B o)=some (Qa t)) (hf:w.frozen? (Qb B o)=false) (h0:0<=t) (h1:t<=most) (h2:most<=1099511627776) (h3:0<=more) (h:¬ most-t<more) :
  Calls Tryz.prog 207 #[.pointer (some (Qb B o)),Qa more,Qa most] w fun e w'=>e=.returned (.bool true)/\w'=w.setCell (Qb B o) (Qa (t+more)):=by
 go_enter Tryz.func207,Tryz.ntmps207;go_wp2;go_ret;exact⟨rfl,rfl⟩
theorem VW (n:Int) (w:World):Calls Tryz.prog 97 #[Qa n] w fun e w'=>e=.returned (.bool (ah.aG n 0 5))/\w'=w:=by
 go_enter Tryz.func97,Tryz.ntmps97
 go_wp2_with fail
 refine(gH n 0 5 w).mono ?_;rintro e w2 ⟨rfl,rfl⟩;simp only[];go_wp2;go_ret;exact⟨rfl,rfl⟩
theorem VX (a b c:Int) (w:World):(Instr.index 138 (.agg #[Qa a,Qa b,Qa c]) (Qa 0)).run Tryz.prog w=.ok (Qa a) w:=by kernel_rfl
theorem VY (a b c:Int) (w:World):(Instr.index 138 (.agg #[Qa a,Qa b,Qa c]) (Qa 1)).run Tryz.prog w=.ok (Qa b) w:=by kernel_rfl
theorem VZ (a b c:Int) (w:World):(Instr.index 138 (.agg #[Qa a,Qa b,Qa c]) (Qa 2)).run Tryz.prog w=.ok (Qa c) w:=by kernel_rfl
theorem ahJ (cash s0 s1 s2:Int) (w:World):Calls Tryz.prog 206 #[Qa cash,.agg #[Qa s0,Qa s1,Qa s2]] w fun e w'=>e=.returned (.bool (decide (s0<0) || decide (s1<0) || decide (s2<0) || decide (cash<0)))/\Qd w w':=by
 have hb:Hid (Qd w (w.alloc (.cells #[Qa s0,Qa s1,Qa s2] 138))):=(bRq _ _).alloc (lRq _) _;have i0:=@VX;have i1:=@VY;have i2:=@VZ;by_cases h0:s0<0
 .go_enter Tryz.func206,Tryz.ntmps206
  go_wp2;refine wp_loop_rounds 1 ?_;rw[rounds_succ];go_wp2;go_ret;exact⟨iy (by simp[h0]),hb.out⟩
 by_cases h1:s1<0
 .go_enter Tryz.func206,Tryz.ntmps206
  go_wp2;refine wp_loop_rounds 2 ?_;rw[rounds_succ];go_wp2;rw[rounds_succ];go_wp2;go_ret;exact⟨iy (by simp[h1]),hb.out⟩
 by_cases h2:s2<0
 .go_enter Tryz.func206,Tryz.ntmps206
  go_wp2;refine wp_loop_rounds 3 ?_;rw[rounds_succ];go_wp2;rw[rounds_succ];go_wp2;rw[rounds_succ];go_wp2;go_ret;exact⟨iy (by simp[h2]),hb.out⟩
 .have H:Hid (¬ s0<0/\¬ s1<0/\¬ s2<0):=⟨h0,h1,h2⟩
  go_enter Tryz.func206,Tryz.ntmps206;go_wp2;refine wp_loop_rounds 4 ?_;rw[rounds_succ];go_wp2;rw[rounds_succ];go_wp2;rw[rounds_succ];go_wp2;rw[rounds_succ];go_wp2;go_ret;exact⟨iy (by obtain⟨a,b,c⟩:=H.out;simp[show ¬ s0<0 by omega,show ¬ s1<0 by omega,show ¬ s2<0 by omega]),hb.out⟩
theorem V5 (x:Cv.ag):Cv.mZ [x] 0=Cv.ok x:=by simp[Cv.mZ,Cv.nth,Cv.has]
theorem GR (item:Int) (x:Cv.ag) (T:TypeId) (v1 v6 v7:Value) (w:World) (he:Hid (h9 w T v1 v6 v7)) :
  Calls Tryz.prog 279 #[Qa item,bU x] w fun e w'=>e=.returned (.bool (Pu.well item x))/\Qd w w':=by
 show Calls Tryz.prog 279 #[Qa item,.agg #[Qa x.id,Qa x.ak,Qa x.sd,Qa x.pr,Qa x.q]] w _;have hb1:Qd w (w.alloc (.cells #[Qa x.id,Qa x.ak,Qa x.sd,Qa x.pr,Qa x.q] 197)):=(bRq _ _).alloc (lRq _) _;have hb2:Qd w ((w.alloc (.cells #[Qa x.id,Qa x.ak,Qa x.sd,Qa x.pr,Qa x.q] 197)).alloc (.cells #[Qa x.id,Qa x.ak,Qa x.sd,Qa x.pr,Qa x.q] 197)):=hb1.alloc hb1.size _;have HB1:=hDq hb1;have HB2:=hDq hb2;have HC:=hDq (Jx (w.heap.size+1) 0 1 1 [x] T v1 v6 v7 ((w.alloc (.cells #[Qa x.id,Qa x.ak,Qa x.sd,Qa x.pr,Qa x.q] 197)).alloc (.cells #[Qa x.id,Qa x.ak,Qa x.sd,Qa x.pr,Qa x.q] 197)) rfl (by decide) (by decide) (by
  intro i hi;have:i=0:=by simp at hi;omega
  subst this;refine⟨?_,?_,?_,?_,?_⟩ <;> simp[Cv.nth]) (he.out.later hb2))
 clear hb1 hb2;cases hw:ah.aG item 0 2 with
 | false =>
  have HW:Hid (Pu.well item x=false):=by show _=_;unfold Pu.well;rw[hw];rfl
  have HI:=hDq (gH item 0 2 (w.alloc (.cells #[Qa x.id,Qa x.ak,Qa x.sd,Qa x.pr,Qa x.q] 197)));rw[hw]at HI;clear hw;go_enter Tryz.func279,Tryz.ntmps279
  go_wp2_with fail
  refine HI.out.mono ?_;rintro e w2 ⟨rfl,rfl⟩;simp only[];go_wp2;go_ret;exact⟨iy HW.out.symm,HB1.out⟩
 | true =>
  have HW:Hid (Pu.well item x=Cv.ok x):=by show _=_;unfold Pu.well;rw[hw];rfl
  have HI:=hDq (gH item 0 2 (w.alloc (.cells #[Qa x.id,Qa x.ak,Qa x.sd,Qa x.pr,Qa x.q] 197)));rw[hw]at HI;clear hw;go_enter Tryz.func279,Tryz.ntmps279
  go_wp2_with fail
  refine HI.out.mono ?_;rintro e w2 ⟨rfl,rfl⟩;simp only[]
  go_wp2_with fail
  refine HC.out.mono ?_;rintro e w3 ⟨h3,hb3⟩;have au:Hid (Qd w w3):=HB2.out.trans (hb3.mono HB2.out.size);rcases h3 with ⟨mf,rfl⟩ | ⟨i,B,hi,_,hno,rfl,_⟩
  .have HO:Hid (Cv.ok x=true):=by show _=_;rw[<- V5];exact mf 0 (by decide)
   clear mf hb3;simp only[];go_wp2;go_ret;exact⟨iy (by rw[HW.out,HO.out]),au.out⟩
  .have HO:Hid (Cv.ok x=false):=by
    show _=_;have:i=0:=by omega
    subst this;rw[<- V5];exact hno
   clear hno hi hb3;simp only[];go_wp2;go_ret;exact⟨iy (by rw[HW.out,HO.out]),au.out⟩
def cV (v:Nat->Value):Nat->Value
 | 0=>.nilIface
 | c+1=>.iface 412 (v (c+1))
structure uh (w:World) (v:Nat->Value):Prop where
 bY:h9 w 412 (v 1) (v 6) (v 7)
 c9:w.cell? (Qb 9 0)=some (.iface 412 (v 9))
theorem uh.later {w w':World} {v:Nat->Value} (h:uh w v) (hb:Qd w w'):uh w' v:=⟨h.bY.later hb,cell_later hb h.c9⟩
theorem a_.gK {w w':World} {T:TypeId} {B:Nat} {f:Nat->Int} (h:a_ w T B f) (hb:Qd w w'):a_ w' T B f:=h.later hb h.lt
structure aM (w w':World) (p:Nat):Prop where
 os:w'.os=w.os
 tape:w'.tape=w.tape
 output:w'.output=w.output
 size:w.heap.size<=w'.heap.size
 block:∀ k,k<w.heap.size->k≠p->w'.heap[k]?=w.heap[k]?
theorem aM.of_below {w w':World} (h:Qd w w') (p:Nat):aM w w' p:=⟨h.os,h.tape,h.output,h.size,fun k hk _=>h.block k hk⟩
theorem aM.trans {w w1 w2:World} {p:Nat} (h:aM w w1 p) (h1:aM w1 w2 p):aM w w2 p :=
 ⟨h1.os.trans h.os,h1.tape.trans h.tape,h1.output.trans h.output,lTq h.size h1.size,fun k hk ha=>by rw[h1.block k (Nat.lt_of_lt_of_le hk h.size) ha];exact h.block k hk ha⟩
theorem aM.below {w w':World} {p n:Nat} (h:aM w w' p) (hn:n<=w.heap.size) (hp:n<=p):Below n w w':=⟨h.os,h.tape,h.output,h.size,fun k hk=>h.block k (by omega) (by omega)⟩
theorem aM.setCell (w:World) (g o:Nat) (v:Value):aM w (w.setCell (Qb g o) v) g:=⟨rfl,rfl,rfl,by simp,fun k _ ha=>Below.heap_setCell _ _ _ _ ha⟩
theorem a_.save {w w':World} {T:TypeId} {B p:Nat} {f:Nat->Int} (h:a_ w T B f) (hs:aM w w' p) (hne:B≠p):a_ w' T B f:=(hs.block B h.lt hne).trans h
theorem Bd {w w':World} {p:Nat} {a:Addr} {v:Value} (hs:aM w w' p) (h:w.cell? a=some v) (hne:a.block≠p):w'.cell? a=some v :=
 (World.cell?_of_block (hs.block a.block (bCq w a h) hne)).trans h
theorem V1 (p:Nat) (item:Int) (x:Cv.ag) (f:Nat->Int) (w:World) (hp:Hid (a_ w 213 p f)) (hw:Hid (Pu.well item x=true)) :
  Calls Tryz.prog 280 #[Qc p,Qa item,bU x] w fun e w'=>e=.returned (.tuple #[Qa (f (Pu.kL item x)),.pointer (some ⟨p,Pu.hx item x,none⟩),Qa (Pu.mu x)])/\Qd w w':=by
 show Calls Tryz.prog 280 #[Qc p,Qa item,.agg #[Qa x.id,Qa x.ak,Qa x.sd,Qa x.pr,Qa x.q]] w _;obtain⟨k,rfl,hk⟩:=Pu.Co hw.out;obtain⟨c,hc,gO⟩:=Pu.uR hw.out;have hpl:=hp.out.lt;have hne:¬ (w.heap.size=p):=by omega
 have wu:¬ (p=w.heap.size):=by omega
 have hbd:=Cv.gw (Pu.kG hw.out);have oW:=Pu.uF (Pu.kG hw.out);have hbW:Qd w (w.alloc (.cells #[Qa x.id,Qa c,Qa x.sd,Qa x.pr,Qa x.q] 197)):=(bRq _ _).alloc (lRq _) _;have cw:=hDq hbW;clear hbW;have hci:(c:Int)<6:=by omega
 have aX:(k:Int)<3:=by omega
 by_cases hs:x.sd=0
 .have HX:Hid (Pu.kL k x=c*8/\Pu.hx k x=c*8+1/\Pu.mu x=x.pr*x.q):=by
   refine⟨?_,?_,?_⟩
   .unfold Pu.kL;rw[if_pos hs];omega
   .unfold Pu.hx;rw[if_pos hs];omega
   .unfold Pu.mu;rw[if_pos hs]
  have hm:1<=x.pr*x.q/\x.pr*x.q<=1000000:=by rw[<- HX.out.2.2];exact oW
  obtain⟨m1,m2⟩:=hm;have c0:=hp.out.cell (i:=c*8) (by omega);have lF:(x.sd==0)=true:=by simp[hs]
  clear oW hbd hs;rw[hc];go_enter Tryz.func280,Tryz.ntmps280;go_wp2
  go_quiet (fail)
  go_wp2
  go_quiet (fail)
  go_wp2;refine bodyPost_ret (v:=.tuple #[Qa (f (c*8)),.pointer (some ⟨p,c*8+1,none⟩),Qa (x.pr*x.q)]) (by simp[results,Tryz.results280,go_sem]) rfl ⟨?_,?_⟩
  .rw[HX.out.1,HX.out.2.1,HX.out.2.2]
  .exact(cw.out.trans ((dL _).mono cw.out.size)).trans ((dL _).mono (by simp))
 .have hs1:x.sd=1:=by omega
  have HX:Hid (Pu.kL k x=c*8+2+k/\Pu.hx k x=c*8+5+k/\Pu.mu x=x.q):=by
   refine⟨?_,?_,?_⟩
   .unfold Pu.kL;rw[if_neg hs];omega
   .unfold Pu.hx;rw[if_neg hs];omega
   .unfold Pu.mu;rw[if_neg hs]
  have c0:=hp.out.cell (i:=c*8+2+k) (by omega);have lF:(x.sd==0)=false:=by simp[hs]
  clear oW hbd hs hs1;rw[hc];go_enter Tryz.func280,Tryz.ntmps280;go_wp2
  go_quiet (fail)
  go_wp2
  go_quiet (fail)
  go_wp2;refine bodyPost_ret (v:=.tuple #[Qa (f (c*8+2+k)),.pointer (some ⟨p,c*8+5+k,none⟩),Qa x.q]) (by simp[results,Tryz.results280,go_sem]) rfl ⟨?_,?_⟩
  .rw[HX.out.1,HX.out.2.1,HX.out.2.2]
  .exact(cw.out.trans ((dL _).mono cw.out.size)).trans ((dL _).mono (by simp))
theorem aew (p:Nat) (item:Int) (x:Cv.ag) (f:Nat->Int) (v:Nat->Value) (w:World) (he:Hid (uh w v)) (hp:Hid (a_ w 213 p f)) (hg:Hid (Pu.Good f)) :
  Calls Tryz.prog 248 #[Qc p,Qa item,bU x] w fun e w'=>e=.returned (cV v (Pu.jU f item x))/\a_ w' 213 p (Pu.ky f item x)/\aM w w' p:=by
 show Calls Tryz.prog 248 #[Qc p,Qa item,.agg #[Qa x.id,Qa x.ak,Qa x.sd,Qa x.pr,Qa x.q]] w _;have hbW:Qd w (w.alloc (.cells #[Qa x.id,Qa x.ak,Qa x.sd,Qa x.pr,Qa x.q] 197)):=(bRq _ _).alloc (lRq _) _;have cw:=hDq hbW;have HC:=hDq (GR item x 412 _ _ _ _ (he.out.later hbW).bY);have HX0:Hid ((w.alloc (.cells #[Qa x.id,Qa x.ak,Qa x.sd,Qa x.pr,Qa x.q] 197)).heap[w.heap.size]?=some (.cells #[Qa x.id,Qa x.ak,Qa x.sd,Qa x.pr,Qa x.q] 197 (0,0))):=hNq _ _;unfold bU at HC;clear hbW;go_enter Tryz.func248,Tryz.ntmps248
 go_wp2_with fail
 refine HC.out.mono ?_;rintro e w2 ⟨rfl,hb2⟩;have HB:Hid (Qd w w2):=cw.out.trans (hb2.mono cw.out.size);have hX:w2.heap[w.heap.size]?=some (.cells #[Qa x.id,Qa x.ak,Qa x.sd,Qa x.pr,Qa x.q] 197 (0,0)):=by
  rw[hb2.block _ (lBq HX0.out)];exact HX0.out
 have er:=hDq hX;have eT:=hDq (hp.out.gK HB.out);clear hb2 HC cw HX0;cases hok:Pu.well item x with
 | false =>
  have HA:Hid (Pu.jU f item x=1/\Pu.ky f item x=f):=by
   have e:Pu.jU f item x=1:=by unfold Pu.jU;rw[hok];rfl
   exact⟨e,by unfold Pu.ky;rw[e];rfl⟩
  have e1:=(he.out.later HB.out).bY.c1;clear hok hX;simp only[];go_wp2;go_ret;exact⟨by rw[HA.out.1];rfl,by rw[HA.out.2];exact eT.out,aM.of_below HB.out p⟩
 | true =>
  have gI:=hDq hok;clear hok;have HQ:=hDq (V1 p item x f w2 eT.out gI.out);unfold bU at HQ;have b0:w2.cell? (Qb w.heap.size 0)=some (Qa x.id):=by simp[World.cell?,hX]
  have b1:w2.cell? (Qb w.heap.size 1)=some (Qa x.ak):=by simp[World.cell?,hX]
  have b2:w2.cell? (Qb w.heap.size 2)=some (Qa x.sd):=by simp[World.cell?,hX]
  have b3:w2.cell? (Qb w.heap.size 3)=some (Qa x.pr):=by simp[World.cell?,hX]
  have b4:w2.cell? (Qb w.heap.size 4)=some (Qa x.q):=by simp[World.cell?,hX]
  clear hX;simp only[]
  go_wp2_with fail
  refine HQ.out.mono ?_;rintro e w3 ⟨rfl,hb3⟩;have au:Hid (Qd w w3):=HB.out.trans (hb3.mono HB.out.size);have gM:=hDq (eT.out.gK hb3);clear hb3 HQ b0 b1 b2 b3 b4;have Np:=Pu.GV hg.out gI.out;have oW:=Pu.uF (Pu.kG gI.out);have hlt:=Pu.VL gI.out;have ch:=gM.out.cell hlt.1;have ahM:=gM.out.frozen (Pu.hx item x);have Cq:Hid (Pu.jU f item x=if f (Pu.kL item x)-f (Pu.hx item x)<Pu.mu x then 9 else 0):=by show _=_;unfold Pu.jU;rw[if_pos gI.out]
  have mo:Hid (Pu.ky f item x=if Pu.jU f item x=0 then Pu.add f (Pu.hx item x) (Pu.mu x) else f):=rfl;generalize Pu.hx item x=ih at *;generalize hft:f (Pu.kL item x)=zi at *;generalize Cr:f ih=fi at *;generalize Pu.mu x=m at *;have Nq:=hDq Cr;clear hft Cr;obtain⟨g0,g1,g2⟩:=Np;obtain⟨m0,m1⟩:=oW;by_cases qg:zi-fi<m
  .have HA:Hid (Pu.jU f item x=9/\Pu.ky f item x=f):=by
    have e:Pu.jU f item x=9:=by rw[Cq.out,if_pos qg]
    exact⟨e,by rw[mo.out,e];rfl⟩
   have e9:=(he.out.later au.out).c9;simp only[];go_wp2;go_ret;exact⟨by rw[HA.out.1];rfl,by rw[HA.out.2];exact gM.out,aM.of_below au.out p⟩
  .have HA:Hid (Pu.jU f item x=0/\Pu.ky f item x=Pu.add f ih m):=by
    have e:Pu.jU f item x=0:=by rw[Cq.out,if_neg qg]
    exact⟨e,by rw[mo.out,e];rfl⟩
   simp only[];go_wp2;go_ret;exact⟨by rw[HA.out.1];rfl,by rw[HA.out.2];exact gM.out.add _ _ _ (by rw[Nq.out]),(aM.of_below au.out p).trans (aM.setCell _ _ _ _)⟩
theorem Lu (p:Nat) (item:Int) (x:Cv.ag) (f:Nat->Int) (v:Nat->Value) (w:World) (he:Hid (uh w v)) (hp:Hid (a_ w 213 p f)) (hg:Hid (Pu.Good f)) :
  Calls Tryz.prog 245 #[Qc p,Qa item,bU x] w fun e w'=>e=.returned (cV v (Pu.gU f item x))/\a_ w' 213 p (Pu.fE f item x)/\aM w w' p:=by
 show Calls Tryz.prog 245 #[Qc p,Qa item,.agg #[Qa x.id,Qa x.ak,Qa x.sd,Qa x.pr,Qa x.q]] w _;have hbW:Qd w (w.alloc (.cells #[Qa x.id,Qa x.ak,Qa x.sd,Qa x.pr,Qa x.q] 197)):=(bRq _ _).alloc (lRq _) _;have cw:=hDq hbW;have HC:=hDq (GR item x 412 _ _ _ _ (he.out.later hbW).bY);have HX0:Hid ((w.alloc (.cells #[Qa x.id,Qa x.ak,Qa x.sd,Qa x.pr,Qa x.q] 197)).heap[w.heap.size]?=some (.cells #[Qa x.id,Qa x.ak,Qa x.sd,Qa x.pr,Qa x.q] 197 (0,0))):=hNq _ _;unfold bU at HC;clear hbW;go_enter Tryz.func245,Tryz.ntmps245
 go_wp2_with fail
 refine HC.out.mono ?_;rintro e w2 ⟨rfl,hb2⟩;have HB:Hid (Qd w w2):=cw.out.trans (hb2.mono cw.out.size);have hX:w2.heap[w.heap.size]?=some (.cells #[Qa x.id,Qa x.ak,Qa x.sd,Qa x.pr,Qa x.q] 197 (0,0)):=by
  rw[hb2.block _ (lBq HX0.out)];exact HX0.out
 have er:=hDq hX;have eT:=hDq (hp.out.gK HB.out);clear hb2 HC cw HX0;cases hok:Pu.well item x with
 | false =>
  have HA:Hid (Pu.gU f item x=1/\Pu.fE f item x=f):=by
   have e:Pu.gU f item x=1:=by unfold Pu.gU;rw[hok];rfl
   exact⟨e,by unfold Pu.fE;rw[e];rfl⟩
  have e1:=(he.out.later HB.out).bY.c1;clear hok hX;simp only[];go_wp2;go_ret;exact⟨by rw[HA.out.1];rfl,by rw[HA.out.2];exact eT.out,aM.of_below HB.out p⟩
 | true =>
  have gI:=hDq hok;clear hok;have HQ:=hDq (V1 p item x f w2 eT.out gI.out);unfold bU at HQ;have b0:w2.cell? (Qb w.heap.size 0)=some (Qa x.id):=by simp[World.cell?,hX]
  have b1:w2.cell? (Qb w.heap.size 1)=some (Qa x.ak):=by simp[World.cell?,hX]
  have b2:w2.cell? (Qb w.heap.size 2)=some (Qa x.sd):=by simp[World.cell?,hX]
  have b3:w2.cell? (Qb w.heap.size 3)=some (Qa x.pr):=by simp[World.cell?,hX]
  have b4:w2.cell? (Qb w.heap.size 4)=some (Qa x.q):=by simp[World.cell?,hX]
  clear hX;simp only[]
  go_wp2_with fail
  refine HQ.out.mono ?_;rintro e w3 ⟨rfl,hb3⟩;have au:Hid (Qd w w3):=HB.out.trans (hb3.mono HB.out.size);have gM:=hDq (eT.out.gK hb3);clear hb3 HQ b0 b1 b2 b3 b4;have Np:=Pu.GV hg.out gI.out;have oW:=Pu.uF (Pu.kG gI.out);have hlt:=Pu.VL gI.out;have ch:=gM.out.cell hlt.1;have ahM:=gM.out.frozen (Pu.hx item x);have Cq:Hid (Pu.gU f item x=if f (Pu.hx item x)<Pu.mu x then 9 else 0):=by show _=_;unfold Pu.gU;rw[if_pos gI.out]
  have mo:Hid (Pu.fE f item x=if Pu.gU f item x=0 then Pu.add f (Pu.hx item x) (-(Pu.mu x)) else f):=rfl;generalize Pu.hx item x=ih at *;generalize hft:f (Pu.kL item x)=zi at *;generalize Cr:f ih=fi at *;generalize Pu.mu x=m at *;have Nq:=hDq Cr;clear hft Cr;obtain⟨g0,g1,g2⟩:=Np;obtain⟨m0,m1⟩:=oW;by_cases qg:fi<m
  .have HA:Hid (Pu.gU f item x=9/\Pu.fE f item x=f):=by
    have e:Pu.gU f item x=9:=by rw[Cq.out,if_pos qg]
    exact⟨e,by rw[mo.out,e];rfl⟩
   have e9:=(he.out.later au.out).c9;simp only[];go_wp2;go_ret;exact⟨by rw[HA.out.1];rfl,by rw[HA.out.2];exact gM.out,aM.of_below au.out p⟩
  .have HA:Hid (Pu.gU f item x=0/\Pu.fE f item x=Pu.add f ih (-m)):=by
    have e:Pu.gU f item x=0:=by rw[Cq.out,if_neg qg]
    exact⟨e,by rw[mo.out,e];rfl⟩
   simp only[];go_wp2;go_ret;exact⟨by rw[HA.out.1];rfl,by rw[HA.out.2];exact gM.out.add _ _ _ (by rw[Nq.out];omega),(aM.of_below au.out p).trans (aM.setCell _ _ _ _)⟩
theorem aM.setRow (w:World) (g:Nat) (c:Array Value):aM w (w.setRow g c) g:=⟨rfl,rfl,rfl,by simp[World.setRow],fun k _ ha=>setRow_other w g k c ha⟩
theorem ad1 (w:World):Calls Tryz.prog 161 #[] w fun e w'=>e=.returned (Qc w.heap.size)/\w'=w.alloc (.cells (cu fun _=>0) 213):=by
 have z55:=Nr;go_enter Tryz.func161,Tryz.ntmps161;go_wp2;go_ret;exact⟨rfl,rfl⟩
def qf (f:Nat->Int) (c:Nat):Value:=.agg #[Qa (f (c*8)),Qa (f (c*8+1)),Qa (f (c*8+2)),Qa (f (c*8+3)),Qa (f (c*8+4)),Qa (f (c*8+5)),Qa (f (c*8+6)),Qa (f (c*8+7))]
def zj (f:Nat->Int) (n:Int):Value:=if ah.aG n 0 5=true then qf f n.toNat else qf (fun _=>0) 0
theorem Nb (f:Nat->Int) {c:Nat} (h:c<6):zj f c=qf f c:=by
 unfold zj;rw[if_pos (by simp[ah.aG];omega),Int.toNat_natCast]
theorem Na (p:Nat) (n:Int) (f:Nat->Int) (w:World) (hp:Hid (a_ w 213 p f)) :
  Calls Tryz.prog 70 #[Qc p,Qa n] w fun e w'=>e=.returned (zj f n)/\Qd w w':=by
 have hbW:Qd w (w.alloc (.cells #[Qa 0,Qa 0,Qa 0,Qa 0,Qa 0,Qa 0,Qa 0,Qa 0] 140)):=(bRq _ _).alloc (lRq _) _;have cw:=hDq hbW;have HI:=hDq (VW n (w.alloc (.cells #[Qa 0,Qa 0,Qa 0,Qa 0,Qa 0,Qa 0,Qa 0,Qa 0] 140)));clear hbW;have hpl:=hp.out.lt;cases hin:ah.aG n 0 5 with
 | false =>
  have HO:Hid (zj f n=qf (fun _=>0) 0):=by show _=_;unfold zj;rw[if_neg (by rw[hin];simp)]
  rw[hin]at HI;clear hin;go_enter Tryz.func70,Tryz.ntmps70
  go_wp2_with fail
  refine HI.out.mono ?_;rintro e w2 ⟨rfl,rfl⟩;simp only[];go_wp2;refine bodyPost_ret (v:=qf (fun _=>0) 0) (by simp[results,Tryz.results70,go_sem,qf]) rfl ⟨by rw[HO.out],?_⟩;exact cw.out
 | true =>
  obtain⟨c,rfl,gO⟩:∃ c:Nat,n=c/\c<6:=by
   simp only[ah.aG,Bool.and_eq_true,decide_eq_true_eq]at hin;exact⟨n.toNat,by omega,by omega⟩
  have HO:Hid (zj f c=qf f c):=Nb f gO;rw[hin]at HI;clear hin;have hci:(c:Int)<6:=by omega
  have c0:=hp.out.cell (i:=c*8) (by omega);have c1:=hp.out.cell (i:=c*8+1) (by omega);have c2:=hp.out.cell (i:=c*8+2) (by omega);have c3:=hp.out.cell (i:=c*8+3) (by omega);have c4:=hp.out.cell (i:=c*8+4) (by omega);have c5:=hp.out.cell (i:=c*8+5) (by omega);have c6:=hp.out.cell (i:=c*8+6) (by omega);have c7:=hp.out.cell (i:=c*8+7) (by omega);have hne:¬ (w.heap.size=p):=by omega
  have wu:¬ (p=w.heap.size):=by omega
  go_enter Tryz.func70,Tryz.ntmps70
  go_wp2_with fail
  refine HI.out.mono ?_;rintro e w2 ⟨rfl,rfl⟩;simp only[];go_wp2;refine bodyPost_ret (v:=qf f c) (by simp[results,Tryz.results70,go_sem,qf]) rfl ⟨by rw[HO.out],?_⟩;exact(bRq _ _).alloc (lRq _) _
theorem aeL (p:Nat) (f:Nat->Int) (w:World) (hp:Hid (a_ w 213 p f)) :
  Calls Tryz.prog 261 #[Qc p] w fun e w'=>e=.returned (Qc w.heap.size)/\a_ w' 213 w.heap.size f/\Qd w w':=by
 have z55:=Nr;have HN:Hid (a_ (w.alloc (.cells (cu fun _=>0) 213)) 213 w.heap.size (fun _=>0)):=a_.new w 213 _;go_enter Tryz.func261,Tryz.ntmps261
 go_wp2_with (first | refine Ns (B:=p) (f:=f) hp.out rfl (.tmp 5) rfl rfl ?_ | refine F0 (B:=w.heap.size) f (f:=fun _=>0) HN.out rfl (.tmp 3) (.tmp 6) rfl rfl rfl ?_)
 go_ret;exact⟨rfl,HN.out.stored f,aM.below ((aM.of_below ((bRq _ _).alloc (lRq _) _) _).trans (aM.setRow _ _ _)) (lRq _) (lRq _)⟩
def SB (g:Pu.fI):Value:=.agg #[Qa g.s0,Qa g.s1,Qa g.s2]
def iz (w:World) (B:Nat) (T:TypeId) (v0 v1 v2 v3 v4 v5 v6 v7:Int):Prop:=w.heap[B]?=some (.cells #[Qa v0,Qa v1,Qa v2,Qa v3,Qa v4,Qa v5,Qa v6,Qa v7] T (0,0))
theorem zb {w:World} {B j:Nat} {T:TypeId} {a a':Array Value} (v:Value) (h:w.heap[B]?=some (.cells a T (0,0))) (e:a.setIfInBounds j v=a'):(w.setCell (Qb B j) v).heap[B]?=some (.cells a' T (0,0)):=by
 rw[setCell_eq_setRow w B j _ _ _ _ h,e];exact setRow_heap w B _ _ _ _ h
theorem dI {w:World} {B j:Nat} {T:TypeId} {a:Array Value} {v:Value} (h:w.heap[B]?=some (.cells a T (0,0))) (e:a[j]?=some v):w.cell? (Qb B j)=some v:=by
 rw[cR w B j _ _ _ h,e]
theorem ze {w:World} {B j:Nat} {T:TypeId} {a:Array Value} (h:w.heap[B]?=some (.cells a T (0,0))):w.frozen? (Qb B j)=false:=by
 simp[World.frozen?,h]
theorem ahI {f:Nat->Int} {c:Nat} (cash s0 s1 s2:Int) (j:Nat) :
  (if j=c*8+7 then f (c*8+7) else if j=c*8+6 then f (c*8+6) else if j=c*8+5 then f (c*8+5) else if j=c*8+4 then f (c*8+4)+s2 else if j=c*8+3 then f (c*8+3)+s1 else if j=c*8+2 then f (c*8+2)+s0 else if j=c*8+1 then f (c*8+1) else if j=c*8 then f (c*8)+cash else f j)
   = Pu.add (Pu.add (Pu.add (Pu.add f (c*8) cash) (c*8+2) s0) (c*8+3) s1) (c*8+4) s2 j:=by
 simp only[Pu.add];by_cases h7:j=c*8+7
 .subst h7;simp
 by_cases h6:j=c*8+6
 .subst h6;simp
 by_cases h5:j=c*8+5
 .subst h5;simp
 by_cases h4:j=c*8+4
 .subst h4;simp
 by_cases h3:j=c*8+3
 .subst h3;simp
 by_cases h2:j=c*8+2
 .subst h2;simp
 by_cases h1:j=c*8+1
 .subst h1;simp
 by_cases h0:j=c*8
 .subst h0;simp
 simp[h0,h1,h2,h3,h4,h5,h6,h7]
theorem ad6 (p:Nat) (g:Pu.fI) (f:Nat->Int) (v:Nat->Value) (w:World) (he:Hid (uh w v)) (hp:Hid (a_ w 213 p f)) (hg:Hid (Pu.Good f)) :
  Calls Tryz.prog 163 #[Qc p,Qa g.n,Qa g.cash,SB g] w fun e w'=>e=.returned (cV v (Pu.jA f g))/\a_ w' 213 p (Pu.iO f g)/\aM w w' p:=by
 show Calls Tryz.prog 163 #[Qc p,Qa g.n,Qa g.cash,.agg #[Qa g.s0,Qa g.s1,Qa g.s2]] w _;have hbW:Qd w (w.alloc (.cells #[Qa g.s0,Qa g.s1,Qa g.s2] 138)):=(bRq _ _).alloc (lRq _) _;have cw:=hDq hbW;have HI:=hDq (VW g.n (w.alloc (.cells #[Qa g.s0,Qa g.s1,Qa g.s2] 138)));have HN:=hDq (ahJ g.cash g.s0 g.s1 g.s2 (w.alloc (.cells #[Qa g.s0,Qa g.s1,Qa g.s2] 138)));have HX0:Hid ((w.alloc (.cells #[Qa g.s0,Qa g.s1,Qa g.s2] 138)).heap[w.heap.size]?=some (.cells #[Qa g.s0,Qa g.s1,Qa g.s2] 138 (0,0))):=hNq _ _;clear hbW;cases hin:ah.aG g.n 0 5 with
 | false =>
  have HA:Hid (Pu.jA f g=1/\Pu.iO f g=f):=by
   have e:Pu.jA f g=1:=by unfold Pu.jA Pu.fI.fine;rw[hin];rfl
   exact⟨e,by unfold Pu.iO;rw[e];rfl⟩
  have e1:=(he.out.later cw.out).bY.c1;rw[hin]at HI;clear hin;go_enter Tryz.func163,Tryz.ntmps163
  go_wp2_with fail
  refine HI.out.mono ?_;rintro e w2 ⟨rfl,rfl⟩;simp only[];go_wp2;go_ret;exact⟨by rw[HA.out.1];rfl,by rw[HA.out.2];exact hp.out.gK cw.out,aM.of_below cw.out p⟩
 | true =>
  rw[hin]at HI;have Nj:=hDq hin;clear hin;cases xo:g.neg with
  | true =>
   have HA:Hid (Pu.jA f g=1/\Pu.iO f g=f):=by
    have e:Pu.jA f g=1:=by unfold Pu.jA Pu.fI.fine;rw[xo,Nj.out];rfl
    exact⟨e,by unfold Pu.iO;rw[e];rfl⟩
   rw[show (decide (g.s0<0) || decide (g.s1<0) || decide (g.s2<0) || decide (g.cash<0))=true from xo]at HN;clear xo;go_enter Tryz.func163,Tryz.ntmps163
   go_wp2_with fail
   refine HI.out.mono ?_;rintro e w2 ⟨rfl,rfl⟩;simp only[]
   go_wp2_with fail
   refine HN.out.mono ?_;rintro e w3 ⟨rfl,hb3⟩;have au:Hid (Qd w w3):=cw.out.trans (hb3.mono cw.out.size);have e1:=(he.out.later au.out).bY.c1;clear hb3;simp only[];go_wp2;go_ret;exact⟨by rw[HA.out.1];rfl,by rw[HA.out.2];exact hp.out.gK au.out,aM.of_below au.out p⟩
  | false =>
   rw[show (decide (g.s0<0) || decide (g.s1<0) || decide (g.s2<0) || decide (g.cash<0))=false from xo]at HN;have HF:Hid (g.fine=true):=by show _=_;unfold Pu.fI.fine;rw[Nj.out,xo];rfl
   obtain⟨c,hc,gO⟩:∃ c:Nat,g.n=c/\c<6:=by
    have:=Nj.out
    simp only[ah.aG,Bool.and_eq_true,decide_eq_true_eq]at this;exact⟨g.n.toNat,by omega,by omega⟩
   have hpos:0<=g.s0/\0<=g.s1/\0<=g.s2/\0<=g.cash:=by
    simp only[Pu.fI.neg,Bool.or_eq_false_iff,decide_eq_false_iff_not]at xo;omega
   clear xo;obtain⟨p0,p1,p2,p3⟩:=hpos;have hci:(c:Int)<6:=by omega
   have g1:=hg.out.cash c gO;have g2:=hg.out.stock c 0 gO (by decide);have g3:=hg.out.stock c 1 gO (by decide);have g4:=hg.out.stock c 2 gO (by decide);simp only[Nat.add_zero,Nat.add_assoc,Nat.reduceAdd]at g1 g2 g3 g4;have eT:=hp.out.gK cw.out;rw[hc]at HI ⊢;have i0:=@VX;have i1:=@VY;have i2:=@VZ;go_enter Tryz.func163,Tryz.ntmps163
   go_wp2_with fail
   refine HI.out.mono ?_;rintro e w2 ⟨rfl,rfl⟩;simp only[]
   go_wp2_with fail
   refine HN.out.mono ?_;rintro e w3 ⟨rfl,hb3⟩;have au:Hid (Qd w w3):=cw.out.trans (hb3.mono cw.out.size);have hX:w3.heap[w.heap.size]?=some (.cells #[Qa g.s0,Qa g.s1,Qa g.s2] 138 (0,0)):=by
    rw[hb3.block _ (lBq HX0.out)];exact HX0.out
   have Cp:=hp.out.gK au.out;have gM:=hDq Cp;have x0:w3.cell? (Qb w.heap.size 0)=some (Qa g.s0):=by simp[World.cell?,hX]
   have x1:w3.cell? (Qb w.heap.size 1)=some (Qa g.s1):=by simp[World.cell?,hX]
   have x2:w3.cell? (Qb w.heap.size 2)=some (Qa g.s2):=by simp[World.cell?,hX]
   have HX:=hDq (And.intro x0 (And.intro x1 x2));clear x0 x1 x2;have mf:w.heap.size<w3.heap.size:=lBq hX;have hpl:p<w3.heap.size:=Cp.lt;have M_:Hid (∀ w' a0 a2 a3 a4,a_ w' 213 p f->a0=f (c*8)+g.cash->a2=f (c*8+2)+g.s0->a3=f (c*8+3)+g.s1->a4=f (c*8+4)+g.s2 ->
     a_ ((((((((w'.setCell ⟨p,c*8,none⟩ (Qa a0)).setCell ⟨p,c*8+1,none⟩ (Qa (f (c*8+1)))).setCell ⟨p,c*8+2,none⟩ (Qa a2)).setCell ⟨p,c*8+3,none⟩ (Qa a3)).setCell ⟨p,c*8+4,none⟩ (Qa a4)).setCell ⟨p,c*8+5,none⟩ (Qa (f (c*8+5)))).setCell ⟨p,c*8+6,none⟩ (Qa (f (c*8+6)))).setCell ⟨p,c*8+7,none⟩ (Qa (f (c*8+7)))) 213 p
      (Pu.add (Pu.add (Pu.add (Pu.add f (c*8) g.cash) (c*8+2) g.s0) (c*8+3) g.s1) (c*8+4) g.s2)):=by
    intro w' a0 a2 a3 a4 h e0 e2 e3 e4;subst e0 e2 e3 e4;exact(h.ahK c _ _ _ _ _ _ _ _).congr fun j _=>ahI _ _ _ _ j
   have sQ:Hid (g.over f=(decide (1099511627776-f (c*8)<g.cash) || decide (1073741824-f (c*8+2)<g.s0) || decide (1073741824-f (c*8+3)<g.s1) || decide (1073741824-f (c*8+4)<g.s2))):=by
    show _=_;unfold Pu.fI.over;rw[hc,Int.toNat_natCast]
   have uS:Hid (g.over f=true->Pu.jA f g=7/\Pu.iO f g=f):=fun h=>by
    have e:Pu.jA f g=7:=by unfold Pu.jA;rw[if_pos HF.out,if_pos h]
    exact⟨e,by unfold Pu.iO;rw[e];rfl⟩
   have V0:Hid (g.over f=false->Pu.jA f g=0/\Pu.iO f g=Pu.add (Pu.add (Pu.add (Pu.add f (c*8) g.cash) (c*8+2) g.s0) (c*8+3) g.s1) (c*8+4) g.s2):=fun h=>by
    have e:Pu.jA f g=0:=by unfold Pu.jA;rw[if_pos HF.out,if_neg (by rw[h];simp)]
    exact⟨e,by unfold Pu.iO;rw[if_pos e,hc,Int.toNat_natCast]⟩
   have Nk:Hid (∀ w',Qd w3 w'->(∀ i,i<48->w'.cell? (Qb p i)=some (Qa (f i)))/\∀ i,w'.frozen? (Qb p i)=false):=fun w' hb=>⟨fun i hi=>(Cp.gK hb).cell hi,fun i=>(Cp.gK hb).frozen i⟩;have hcl:=(Nk.out w3 (bRq _ _)).1;have c0:=hcl (c*8) (by omega);have c1:=hcl (c*8+1) (by omega);have c2:=hcl (c*8+2) (by omega);have c3:=hcl (c*8+3) (by omega);have c4:=hcl (c*8+4) (by omega);have c5:=hcl (c*8+5) (by omega);have c6:=hcl (c*8+6) (by omega);have c7:=hcl (c*8+7) (by omega);clear hb3 hX Cp HI HN HX0 eT hcl;generalize f (c*8)=u0 at *;generalize f (c*8+1)=u1 at *;generalize f (c*8+2)=u2 at *;generalize f (c*8+3)=u3 at *;generalize f (c*8+4)=u4 at *;generalize f (c*8+5)=u5 at *;generalize f (c*8+6)=u6 at *;generalize f (c*8+7)=u7 at *;generalize ahL:g.cash=ca at *;generalize hs0:g.s0=s0 at *;generalize hs1:g.s1=s1 at *;generalize hs2:g.s2=s2 at *;clear ahL hs0 hs1 hs2;have HH:Hid ((w3.alloc (.cells #[Qa u0,Qa u1,Qa u2,Qa u3,Qa u4,Qa u5,Qa u6,Qa u7] 140)).heap[w3.heap.size]?=some (.cells #[Qa u0,Qa u1,Qa u2,Qa u3,Qa u4,Qa u5,Qa u6,Qa u7] 140 (0,0))):=hNq _ _;have dx:Hid (Qd w3 (w3.alloc (.cells #[Qa u0,Qa u1,Qa u2,Qa u3,Qa u4,Qa u5,Qa u6,Qa u7] 140))):=(bRq _ _).alloc (lRq _) _;simp only[]
   go_wp2_with fail
   clear c0 c1 c2 c3 c4 c5 c6 c7;generalize w3.alloc (.cells #[Qa u0,Qa u1,Qa u2,Qa u3,Qa u4,Qa u5,Qa u6,Qa u7] 140)=w4 at *;by_cases o0:1099511627776-u0<ca
   .have HO:Hid (g.over f=true):=by show _=_;rw[sQ.out];simp[o0]
    refine(zf w3.heap.size 0 u0 ca 1099511627776 w4 (dI HH.out rfl) (by omega) (by omega) (by omega) o0).mono ?_;rintro e aj ⟨rfl,rfl⟩;have bZ:Hid (Qd w aj):=au.out.trans (dx.out.mono au.out.size);have e7:=(he.out.later bZ.out).bY.c7;simp only[];go_wp2;go_ret;exact⟨by rw[(uS.out HO.out).1];rfl,by rw[(uS.out HO.out).2];exact gM.out.gK dx.out,aM.of_below bZ.out p⟩
   refine(zg w3.heap.size 0 u0 ca 1099511627776 w4 (dI HH.out rfl) (ze HH.out) (by omega) (by omega) (by omega) (by omega) o0).mono ?_;rintro e aC ⟨rfl,uj⟩;have HH0:Hid (aC.heap[w3.heap.size]?=some (.cells #[Qa (u0+ca),Qa u1,Qa u2,Qa u3,Qa u4,Qa u5,Qa u6,Qa u7] 140 (0,0))):=by rw[uj];exact zb _ HH.out rfl
   have aoQ:Hid (Qd w3 aC):=by rw[uj];exact dx.out.setCell (lRq _) _
   clear HH dx uj
   rename Hid (aC.heap[w3.heap.size]?=_)=>HH
   rename Hid (Qd w3 aC)=>dx
   simp only[];have x0:=cell_later dx.out HX.out.1;have x1:=cell_later dx.out HX.out.2.1;have x2:=cell_later dx.out HX.out.2.2
   go_wp2_with fail
   clear x0 x1 x2;refine wp_loop_rounds 4 ?_;rw[rounds_succ]
   go_wp2_with fail
   by_cases o1:1073741824-u2<s0
   .have HO:Hid (g.over f=true):=by show _=_;rw[sQ.out];simp[o1]
    refine(zf w3.heap.size 2 u2 s0 1073741824 aC (dI HH.out rfl) (by omega) (by omega) (by omega) o1).mono ?_;rintro e aj ⟨rfl,rfl⟩;have bZ:Hid (Qd w aj):=au.out.trans (dx.out.mono au.out.size);have e7:=(he.out.later bZ.out).bY.c7;simp only[];go_wp2;go_ret;exact⟨by rw[(uS.out HO.out).1];rfl,by rw[(uS.out HO.out).2];exact gM.out.gK dx.out,aM.of_below bZ.out p⟩
   refine(zg w3.heap.size 2 u2 s0 1073741824 aC (dI HH.out rfl) (ze HH.out) (by omega) (by omega) (by omega) (by omega) o1).mono ?_;rintro e ai ⟨rfl,Nl⟩;have zh:Hid (ai.heap[w3.heap.size]?=some (.cells #[Qa (u0+ca),Qa u1,Qa (u2+s0),Qa u3,Qa u4,Qa u5,Qa u6,Qa u7] 140 (0,0))):=by rw[Nl];exact zb _ HH.out rfl
   have aoR:Hid (Qd w3 ai):=by rw[Nl];exact dx.out.setCell (lRq _) _
   clear HH dx Nl
   rename Hid (ai.heap[w3.heap.size]?=_)=>HH
   rename Hid (Qd w3 ai)=>dx
   simp only[]
   go_wp2_with fail
   rw[rounds_succ]
   go_wp2_with fail
   by_cases o2:1073741824-u3<s1
   .have HO:Hid (g.over f=true):=by show _=_;rw[sQ.out];simp[o2]
    refine(zf w3.heap.size 3 u3 s1 1073741824 ai (dI HH.out rfl) (by omega) (by omega) (by omega) o2).mono ?_;rintro e aj ⟨rfl,rfl⟩;have bZ:Hid (Qd w aj):=au.out.trans (dx.out.mono au.out.size);have e7:=(he.out.later bZ.out).bY.c7;simp only[];go_wp2;go_ret;exact⟨by rw[(uS.out HO.out).1];rfl,by rw[(uS.out HO.out).2];exact gM.out.gK dx.out,aM.of_below bZ.out p⟩
   refine(zg w3.heap.size 3 u3 s1 1073741824 ai (dI HH.out rfl) (ze HH.out) (by omega) (by omega) (by omega) (by omega) o2).mono ?_;rintro e br ⟨rfl,pB⟩;have aoS:Hid (br.heap[w3.heap.size]?=some (.cells #[Qa (u0+ca),Qa u1,Qa (u2+s0),Qa (u3+s1),Qa u4,Qa u5,Qa u6,Qa u7] 140 (0,0))):=by rw[pB];exact zb _ HH.out rfl
   have aoT:Hid (Qd w3 br):=by rw[pB];exact dx.out.setCell (lRq _) _
   clear HH dx pB
   rename Hid (br.heap[w3.heap.size]?=_)=>HH
   rename Hid (Qd w3 br)=>dx
   simp only[]
   go_wp2_with fail
   rw[rounds_succ]
   go_wp2_with fail
   by_cases o3:1073741824-u4<s2
   .have HO:Hid (g.over f=true):=by show _=_;rw[sQ.out];simp[o3]
    refine(zf w3.heap.size 4 u4 s2 1073741824 br (dI HH.out rfl) (by omega) (by omega) (by omega) o3).mono ?_;rintro e aj ⟨rfl,rfl⟩;have bZ:Hid (Qd w aj):=au.out.trans (dx.out.mono au.out.size);have e7:=(he.out.later bZ.out).bY.c7;simp only[];go_wp2;go_ret;exact⟨by rw[(uS.out HO.out).1];rfl,by rw[(uS.out HO.out).2];exact gM.out.gK dx.out,aM.of_below bZ.out p⟩
   refine(zg w3.heap.size 4 u4 s2 1073741824 br (dI HH.out rfl) (ze HH.out) (by omega) (by omega) (by omega) (by omega) o3).mono ?_;rintro e cn ⟨rfl,Nn⟩;have aoU:Hid (cn.heap[w3.heap.size]?=some (.cells #[Qa (u0+ca),Qa u1,Qa (u2+s0),Qa (u3+s1),Qa (u4+s2),Qa u5,Qa u6,Qa u7] 140 (0,0))):=by rw[Nn];exact zb _ HH.out rfl
   have aoV:Hid (Qd w3 cn):=by rw[Nn];exact dx.out.setCell (lRq _) _
   clear HH dx Nn
   rename Hid (cn.heap[w3.heap.size]?=_)=>HH
   rename Hid (Qd w3 cn)=>dx
   simp only[]
   go_wp2_with fail
   rw[rounds_succ]
   go_wp2_with fail
   have HO:Hid (g.over f=false):=by show _=_;rw[sQ.out];simp[o0,o1,o2,o3]
   have d0:cn.cell? (Qb w3.heap.size 0)=some (Qa (u0+ca)):=dI HH.out rfl;have d1:cn.cell? (Qb w3.heap.size 1)=some (Qa (u1)):=dI HH.out rfl;have d2:cn.cell? (Qb w3.heap.size 2)=some (Qa (u2+s0)):=dI HH.out rfl;have d3:cn.cell? (Qb w3.heap.size 3)=some (Qa (u3+s1)):=dI HH.out rfl;have d4:cn.cell? (Qb w3.heap.size 4)=some (Qa (u4+s2)):=dI HH.out rfl;have d5:cn.cell? (Qb w3.heap.size 5)=some (Qa (u5)):=dI HH.out rfl;have kT:cn.cell? (Qb w3.heap.size 6)=some (Qa (u6)):=dI HH.out rfl;have sR:cn.cell? (Qb w3.heap.size 7)=some (Qa (u7)):=dI HH.out rfl;have hfz:=fun i=>(Nk.out _ dx.out).2 i;have hcl:=(Nk.out _ dx.out).1;have c0:=hcl (c*8) (by omega);have c1:=hcl (c*8+1) (by omega);have c2:=hcl (c*8+2) (by omega);have c3:=hcl (c*8+3) (by omega);have c4:=hcl (c*8+4) (by omega);have c5:=hcl (c*8+5) (by omega);have c6:=hcl (c*8+6) (by omega);have c7:=hcl (c*8+7) (by omega);have z0:=hfz (c*8);have dw:=hfz (c*8+1);have z2:=hfz (c*8+2);have z3:=hfz (c*8+3);have z4:=hfz (c*8+4);have z5:=hfz (c*8+5);have yj:=hfz (c*8+6);have yl:=hfz (c*8+7);clear hfz hcl;refine jT 6 (by kernel_rfl) (by kernel_rfl) ?_;simp only[List.take_succ_cons,List.take_zero,List.drop_succ_cons,List.drop_zero]
   repeat (first | go_big_quiet_step (fail) | quiet_step (fail))
   refine wpQuiet_nil ?_;intro _ hw';obtain⟨nq,hw''⟩:=hw';subst hw'';go_wp2;go_ret;have jB:Qd w (cn.drewN nq):=(au.out.trans (dx.out.mono au.out.size)).trans ((dL nq).mono (au.out.trans (dx.out.mono au.out.size)).size);refine⟨by rw[(V0.out HO.out).1];rfl,by rw[(V0.out HO.out).2];exact M_.out _ _ _ _ _ ((gM.out.gK dx.out).drew nq) rfl rfl rfl rfl,?_⟩;exact((((((((aM.of_below jB p).trans (aM.setCell _ _ _ _)).trans (aM.setCell _ _ _ _)).trans (aM.setCell _ _ _ _)).trans (aM.setCell _ _ _ _)).trans (aM.setCell _ _ _ _)).trans (aM.setCell _ _ _ _)).trans (aM.setCell _ _ _ _)).trans (aM.setCell _ _ _ _)
structure yy (w:World) (v:Nat->Value):Prop where
 per:uh w v
 c2:w.cell? (Qb 3 0)=some (.iface 412 (v 2))
 c11:w.cell? (Qb 11 0)=some (.iface 412 (v 11))
theorem yy.later {w w':World} {v:Nat->Value} (h:yy w v) (hb:Qd w w'):yy w' v:=⟨h.per.later hb,cell_later hb h.c2,cell_later hb h.c11⟩
def jL (x:Cv.ag):Array Value:=#[Qa x.id,Qa x.ak,Qa x.sd,Qa x.pr,Qa x.q]
theorem ahG (item:Int) (b s:Cv.ag) (price qty:Int) (v:Nat->Value) (w:World) (he:Hid (yy w v)) :
  Calls Tryz.prog 307 #[Qa item,bU b,bU s,Qa price,Qa qty] w fun e w'=>e=.returned (cV v (Pu.lQ item b s price qty))/\Qd w w':=by
 show Calls Tryz.prog 307 #[Qa item,.agg #[Qa b.id,Qa b.ak,Qa b.sd,Qa b.pr,Qa b.q],.agg #[Qa s.id,Qa s.ak,Qa s.sd,Qa s.pr,Qa s.q],Qa price,Qa qty] w _;obtain⟨W,fT⟩:∃ W,(w.alloc (.cells #[Qa b.id,Qa b.ak,Qa b.sd,Qa b.pr,Qa b.q] 197)).alloc (.cells #[Qa s.id,Qa s.ak,Qa s.sd,Qa s.pr,Qa s.q] 197)=W:=⟨_,rfl⟩;have hb1:Qd w (w.alloc (.cells #[Qa b.id,Qa b.ak,Qa b.sd,Qa b.pr,Qa b.q] 197)):=(bRq _ _).alloc (lRq _) _;have hb2:Qd w W:=by rw[<- fT];exact hb1.alloc hb1.size _
 have pn:W.heap[w.heap.size]?=some (.cells (jL b) 197 (0,0)):=by
  rw[<- fT];exact(Below.heap_alloc _ _ _ (by simp)).trans (hNq _ _)
 have l9:W.heap[w.heap.size+1]?=some (.cells (jL s) 197 (0,0)):=by
  rw[<- fT]
  have:=hNq (w.alloc (.cells #[Qa b.id,Qa b.ak,Qa b.sd,Qa b.pr,Qa b.q] 197)) (.cells #[Qa s.id,Qa s.ak,Qa s.sd,Qa s.pr,Qa s.q] 197)
  rw[show (w.alloc (.cells #[Qa b.id,Qa b.ak,Qa b.sd,Qa b.pr,Qa b.q] 197)).heap.size=w.heap.size+1 by simp]at this;exact this
 have HX0:=hDq pn;have hZ:=hDq l9;have cw:=hDq hb2;have HC:=hDq (GR item b 412 _ _ _ W (he.out.later hb2).per.bY);unfold bU at HC;have iX:=hDq fT;clear hb1 hb2 pn l9 fT;go_enter Tryz.func307,Tryz.ntmps307
 go_wp2_with fail
 rw[iX.out];clear iX;refine HC.out.mono ?_;rintro e w2 ⟨rfl,hb2⟩;have HB:Hid (Qd w w2):=cw.out.trans (hb2.mono cw.out.size);have HX:Hid (w2.heap[w.heap.size]?=some (.cells (jL b) 197 (0,0))):=by show _=_;rw[hb2.block _ (lBq HX0.out)];exact HX0.out
 have eo:Hid (w2.heap[w.heap.size+1]?=some (.cells (jL s) 197 (0,0))):=by show _=_;rw[hb2.block _ (lBq hZ.out)];exact hZ.out
 clear hb2 HC cw HX0 hZ;cases oh:Pu.well item b with
 | false =>
  have HA:Hid (Pu.lQ item b s price qty=1):=by show _=_;unfold Pu.lQ;rw[if_neg (by rw[oh];simp)]
  have e1:=(he.out.later HB.out).per.bY.c1;clear oh;simp only[];go_wp2;go_ret;exact⟨by rw[HA.out];rfl,HB.out⟩
 | true =>
  have yb:=hDq oh;clear oh;have HC:=hDq (GR item s 412 _ _ _ w2 (he.out.later HB.out).per.bY);unfold bU at HC;have s0:w2.cell? ⟨w.heap.size+1,0,none⟩=some (Qa s.id):=dI eo.out rfl;have s1:w2.cell? ⟨w.heap.size+1,1,none⟩=some (Qa s.ak):=dI eo.out rfl;have s2:w2.cell? ⟨w.heap.size+1,2,none⟩=some (Qa s.sd):=dI eo.out rfl;have s3:w2.cell? ⟨w.heap.size+1,3,none⟩=some (Qa s.pr):=dI eo.out rfl;have qU:w2.cell? ⟨w.heap.size+1,4,none⟩=some (Qa s.q):=dI eo.out rfl;simp only[]
  go_wp2_with fail
  refine HC.out.mono ?_;rintro e w3 ⟨rfl,hb3⟩;have au:Hid (Qd w w3):=HB.out.trans (hb3.mono HB.out.size);have er:Hid (w3.heap[w.heap.size]?=some (.cells (jL b) 197 (0,0))):=by show _=_;rw[hb3.block _ (lBq HX.out)];exact HX.out
  have Nh:Hid (w3.heap[w.heap.size+1]?=some (.cells (jL s) 197 (0,0))):=by show _=_;rw[hb3.block _ (lBq eo.out)];exact eo.out
  clear hb3 HC HX eo s0 s1 s2 s3 qU HB;have HE:=hDq (he.out.later au.out);cases GU:Pu.well item s with
  | false =>
   have HA:Hid (Pu.lQ item b s price qty=1):=by show _=_;unfold Pu.lQ;rw[if_neg (by rw[GU];simp)]
   have e1:=HE.out.per.bY.c1;clear GU;simp only[];go_wp2;go_ret;exact⟨by rw[HA.out];rfl,au.out⟩
  | true =>
   have VH:=hDq GU;clear GU;have HT:Hid (Pu.lQ item b s price qty=if b.sd=0/\s.sd=1 then (if (1<=price/\price<=1000)/\1<=qty/\qty<=b.q/\qty<=s.q then (if s.pr<=price/\price<=b.pr then 0 else 11) else 1) else 2):=by show _=_;unfold Pu.lQ;rw[if_pos ⟨yb.out,VH.out⟩]
   have FN:=(Cv.gw (Pu.kG yb.out)).2.2.2.2;have Ge:=(Cv.gw (Pu.kG VH.out)).2.2.2.2;have b2:w3.cell? (Qb w.heap.size 2)=some (Qa b.sd):=dI er.out rfl;have b3:w3.cell? (Qb w.heap.size 3)=some (Qa b.pr):=dI er.out rfl;have b4:w3.cell? (Qb w.heap.size 4)=some (Qa b.q):=dI er.out rfl;have s2:w3.cell? ⟨w.heap.size+1,2,none⟩=some (Qa s.sd):=dI Nh.out rfl;have s3:w3.cell? ⟨w.heap.size+1,3,none⟩=some (Qa s.pr):=dI Nh.out rfl;have qU:w3.cell? ⟨w.heap.size+1,4,none⟩=some (Qa s.q):=dI Nh.out rfl;obtain⟨R,hR⟩:∃ R,Pu.lQ item b s price qty=R:=⟨_,rfl⟩;have HR:=hDq hR;rw[hR]at HT;clear hR;generalize b.sd=VI at *;generalize b.pr=sO at *;generalize b.q=xk at *;generalize s.sd=VJ at *;generalize s.pr=sP at *;generalize s.q=sq at *;have c1:=HE.out.per.bY.c1;have c2:=HE.out.c2;have c11:=HE.out.c11;by_cases lw:VI=0
   .by_cases kJ:VJ=1
    .have HT2:Hid (R=if (1<=price/\price<=1000)/\1<=qty/\qty<=xk/\qty<=sq then (if sP<=price/\price<=sO then 0 else 11) else 1):=by show _=_;rw[HT.out,if_pos ⟨lw,kJ⟩]
     subst lw kJ;clear HT;have HP:=hDq (gH price 1 1000 w3);cases xm:ah.aG price 1 1000 with
     | false =>
      rw[xm]at HP;have HA:Hid (R=1):=by
       show _=_;rw[HT2.out,if_neg];rintro⟨h,_⟩;rw[show ah.aG price 1 1000=true by simp[ah.aG,h.1,h.2]]at xm;cases xm
      clear xm;simp only[]
      go_wp2_with fail
      refine HP.out.mono ?_;rintro e w4 ⟨rfl,rfl⟩;simp only[];go_wp2;go_ret;exact⟨by rw[HR.out,HA.out];rfl,au.out⟩
     | true =>
      rw[xm]at HP;have VK:Hid (1<=price/\price<=1000):=by
       have:=xm
       simp only[ah.aG,Bool.and_eq_true,decide_eq_true_eq]at this;exact this
      clear xm;simp only[]
      go_wp2_with fail
      refine HP.out.mono ?_;rintro e w4 ⟨rfl,rfl⟩;simp only[];by_cases hmn:sq<xk
      .cases j6:ah.aG qty 1 sq with
       | false =>
        have HA:Hid (R=1):=by
         show _=_;rw[HT2.out,if_neg];rintro⟨_,h1,h2,h3⟩;rw[show ah.aG qty 1 sq=true by simp only[ah.aG,Bool.and_eq_true,decide_eq_true_eq];omega]at j6;cases j6
        have HQ:=hDq (gH qty 1 sq w4);rw[j6]at HQ;clear j6
        go_wp2_with fail
        refine HQ.out.mono ?_;rintro e aC ⟨rfl,rfl⟩;simp only[];go_wp2;go_ret;exact⟨by rw[HR.out,HA.out];rfl,au.out⟩
       | true =>
        have HT3:Hid (R=if sP<=price/\price<=sO then 0 else 11):=by
         have:=j6
         simp only[ah.aG,Bool.and_eq_true,decide_eq_true_eq]at this;show _=_;rw[HT2.out,if_pos ⟨VK.out,by omega,by omega,by omega⟩]
        have HQ:=hDq (gH qty 1 sq w4);rw[j6]at HQ;clear j6
        go_wp2_with fail
        refine HQ.out.mono ?_;rintro e aC ⟨rfl,rfl⟩;simp only[];have HO:=hDq (gH price sP sO aC);cases j7:ah.aG price sP sO with
        | false =>
         have HA:Hid (R=11):=by
          show _=_;rw[HT3.out,if_neg];rintro⟨h1,h2⟩;rw[show ah.aG price sP sO=true by simp[ah.aG,h1,h2]]at j7;cases j7
         rw[j7]at HO;clear j7
         go_wp2_with fail
         refine HO.out.mono ?_;rintro e ai ⟨rfl,rfl⟩;simp only[];go_wp2;go_ret;exact⟨by rw[HR.out,HA.out];rfl,au.out⟩
        | true =>
         have HA:Hid (R=0):=by
          have:=j7
          simp only[ah.aG,Bool.and_eq_true,decide_eq_true_eq]at this;show _=_;rw[HT3.out,if_pos this]
         rw[j7]at HO;clear j7
         go_wp2_with fail
         refine HO.out.mono ?_;rintro e ai ⟨rfl,rfl⟩;simp only[];go_wp2;go_ret;exact⟨by rw[HR.out,HA.out];rfl,au.out⟩
      .have aoO:xk<=sq:=by omega
       cases j6:ah.aG qty 1 xk with
       | false =>
        have HA:Hid (R=1):=by
         show _=_;rw[HT2.out,if_neg];rintro⟨_,h1,h2,h3⟩;rw[show ah.aG qty 1 xk=true by simp only[ah.aG,Bool.and_eq_true,decide_eq_true_eq];omega]at j6;cases j6
        have HQ:=hDq (gH qty 1 xk w4);rw[j6]at HQ;clear j6
        go_wp2_with fail
        refine HQ.out.mono ?_;rintro e aC ⟨rfl,rfl⟩;simp only[];go_wp2;go_ret;exact⟨by rw[HR.out,HA.out];rfl,au.out⟩
       | true =>
        have HT3:Hid (R=if sP<=price/\price<=sO then 0 else 11):=by
         have:=j6
         simp only[ah.aG,Bool.and_eq_true,decide_eq_true_eq]at this;show _=_;rw[HT2.out,if_pos ⟨VK.out,by omega,by omega,by omega⟩]
        have HQ:=hDq (gH qty 1 xk w4);rw[j6]at HQ;clear j6
        go_wp2_with fail
        refine HQ.out.mono ?_;rintro e aC ⟨rfl,rfl⟩;simp only[];have HO:=hDq (gH price sP sO aC);cases j7:ah.aG price sP sO with
        | false =>
         have HA:Hid (R=11):=by
          show _=_;rw[HT3.out,if_neg];rintro⟨h1,h2⟩;rw[show ah.aG price sP sO=true by simp[ah.aG,h1,h2]]at j7;cases j7
         rw[j7]at HO;clear j7
         go_wp2_with fail
         refine HO.out.mono ?_;rintro e ai ⟨rfl,rfl⟩;simp only[];go_wp2;go_ret;exact⟨by rw[HR.out,HA.out];rfl,au.out⟩
        | true =>
         have HA:Hid (R=0):=by
          have:=j7
          simp only[ah.aG,Bool.and_eq_true,decide_eq_true_eq]at this;show _=_;rw[HT3.out,if_pos this]
         rw[j7]at HO;clear j7
         go_wp2_with fail
         refine HO.out.mono ?_;rintro e ai ⟨rfl,rfl⟩;simp only[];go_wp2;go_ret;exact⟨by rw[HR.out,HA.out];rfl,au.out⟩
    .have HA:Hid (R=2):=by show _=_;rw[HT.out,if_neg (by rintro⟨h1,h2⟩;first | exact lw h1 | exact kJ h2)]
     have aoP:(VJ==1)=false:=by simp[kJ]
     subst lw;simp only[];go_wp2;go_ret;exact⟨by rw[HR.out,HA.out];rfl,au.out⟩
   .have HA:Hid (R=2):=by show _=_;rw[HT.out,if_neg (by rintro⟨h1,h2⟩;first | exact lw h1 | exact kJ h2)]
    have jk:(VI==0)=false:=by simp[lw]
    simp only[];go_wp2;go_ret;exact⟨by rw[HR.out,HA.out];rfl,au.out⟩
theorem ahX {ops:Array Oper} {rest:List Oper} {op:Oper} {a:Act} {w:World} {Q:Exit->Act->World->Prop} {B:Nat} {f:Nat->Int} (g:Nat->Int) (W':World) (h:a_ w 213 B f) (hW:w.setRow B (cu g)=W') (hgd:op.guard=none) (x y:Operand) (ho:op.op=.store 213 x y)
  (hx:a.eval x=.pointer (some ⟨B,0,none⟩)) (hy:a.eval y=.agg (cu g)) (k:wpList Tryz.prog ops Q rest (a.put op.dst undef) W'):wpList Tryz.prog ops Q (op::rest) a w:=by
 subst hW;exact F0 g h hgd x y ho hx hy k
theorem TQ (p:Nat) (item:Int) (b s:Cv.ag) (price qty:Int) (f:Nat->Int) (v:Nat->Value) (w:World) (he:Hid (yy w v)) (hp:Hid (a_ w 213 p f)) (hg:Hid (Pu.Good f)) :
  Calls Tryz.prog 290 #[.pointer (some ⟨p,0,none⟩),.int .i64 item,bU b,bU s,.int .i64 price,.int .i64 qty] w fun e w'=>e=.returned (cV v (Pu.ik f item b s price qty))/\a_ w' 213 p (Pu.jg f item b s price qty)/\aM w w' p:=by
 show Calls Tryz.prog 290 #[.pointer (some ⟨p,0,none⟩),.int .i64 item,.agg #[.int .i64 b.id,.int .i64 b.ak,.int .i64 b.sd,.int .i64 b.pr,.int .i64 b.q],.agg #[.int .i64 s.id,.int .i64 s.ak,.int .i64 s.sd,.int .i64 s.pr,.int .i64 s.q],.int .i64 price,.int .i64 qty] w _;obtain⟨W,fT⟩:∃ W,(w.alloc (.cells #[.int .i64 b.id,.int .i64 b.ak,.int .i64 b.sd,.int .i64 b.pr,.int .i64 b.q] 197)).alloc (.cells #[.int .i64 s.id,.int .i64 s.ak,.int .i64 s.sd,.int .i64 s.pr,.int .i64 s.q] 197)=W:=⟨_,rfl⟩;have hb1:Below w.heap.size w (w.alloc (.cells #[.int .i64 b.id,.int .i64 b.ak,.int .i64 b.sd,.int .i64 b.pr,.int .i64 b.q] 197)):=(bRq _ _).alloc (lRq _) _;have hb2:Below w.heap.size w W:=by rw[<- fT];exact hb1.alloc hb1.size _
 have pn:W.heap[w.heap.size]?=some (.cells (jL b) 197 (0,0)):=by
  rw[<- fT];exact(Below.heap_alloc _ _ _ (by simp)).trans (hNq _ _)
 have l9:W.heap[w.heap.size+1]?=some (.cells (jL s) 197 (0,0)):=by
  rw[<- fT]
  have:=hNq (w.alloc (.cells #[.int .i64 b.id,.int .i64 b.ak,.int .i64 b.sd,.int .i64 b.pr,.int .i64 b.q] 197)) (.cells #[.int .i64 s.id,.int .i64 s.ak,.int .i64 s.sd,.int .i64 s.pr,.int .i64 s.q] 197)
  rw[show (w.alloc (.cells #[.int .i64 b.id,.int .i64 b.ak,.int .i64 b.sd,.int .i64 b.pr,.int .i64 b.q] 197)).heap.size=w.heap.size+1 by simp]at this;exact this
 have HX0:=hDq pn;have hZ:=hDq l9;have cw:=hDq hb2;have HC:=hDq (ahG item b s price qty v W (he.out.later hb2));unfold bU at HC;have iX:=hDq fT;have hpl:=hp.out.lt;clear hb1 hb2 pn l9 fT;go_enter Tryz.func290,Tryz.ntmps290
 go_wp2_with fail
 rw[iX.out];clear iX;refine HC.out.mono ?_;rintro e w2 ⟨rfl,hb2⟩;have HB:Hid (Below w.heap.size w w2):=cw.out.trans (hb2.mono cw.out.size);have HX:Hid (w2.heap[w.heap.size]?=some (.cells (jL b) 197 (0,0))):=by show _=_;rw[hb2.block _ (lBq HX0.out)];exact HX0.out
 have eo:Hid (w2.heap[w.heap.size+1]?=some (.cells (jL s) 197 (0,0))):=by show _=_;rw[hb2.block _ (lBq hZ.out)];exact hZ.out
 clear hb2 HC cw HX0 hZ;obtain⟨R,hR⟩:∃ R,Pu.lQ item b s price qty=R:=⟨_,rfl⟩;by_cases h0:R=0
 .have HT:Hid (Pu.ik f item b s price qty=if Pu.nG f b.ak.toNat s.ak.toNat item.toNat b.pr qty=true then 9 else if Pu.over f b.ak.toNat s.ak.toNat item.toNat price qty=true then 7 else 0):=by
   show _=_;unfold Pu.ik;rw[if_pos (hR.trans h0)]
  have HF:Hid (Pu.jg f item b s price qty=if Pu.ik f item b s price qty=0 then Pu.six f b.ak.toNat s.ak.toNat item.toNat b.pr price qty else f):=rfl;have hr:=Pu.VR (hR.trans h0);rw[hR,h0];obtain⟨k,rfl,hk⟩:=Pu.Co hr.bN;obtain⟨cb,hcb,V7⟩:=Pu.uR hr.bN;obtain⟨cs,hcs,V8⟩:=Pu.uR hr.ws;have hm:=hr.VT;have mD:=hDq hr;have Cu:=hDq (Pu.ahV (f:=f) hr.bN hr.q.1 hr.q.2.1 hr.sb);have FS:=hDq (fun g=>Pu.ahW (f:=g) hr.ws hr.q.1 hr.q.2.2 hr.ss);have I8:=hr.q;have hgr:=hDq (fun qg=>Pu.grows hg.out (b:=cb) (s:=cs) (k:=k) (bp:=b.pr) (price:=price) (qty:=qty) V7 V8 hk ⟨hm.1.1,hm.2.2.1⟩ hr.q.1 qg);rw[hcb,hcs]at HT HF;simp only[Int.toNat_natCast]at HT HF;simp only[hcb,hcs,Int.toNat_natCast]at Cu FS;clear hR h0 R hr;obtain⟨W3,hW3⟩:∃ W3,(w2.alloc (.cells (cu fun _=>0) 213)).setRow w2.heap.size (cu f)=W3:=⟨_,rfl⟩;have Nu:a_ (w2.alloc (.cells (cu fun _=>0) 213)) 213 w2.heap.size (fun _=>0):=a_.new w2 213 _;have G0:=hDq Nu;have V9:a_ W3 213 w2.heap.size f:=by rw[<- hW3];exact Nu.stored f
  have hB3:Below w2.heap.size w2 W3:=by rw[<- hW3];exact below_setRow ((bRq _ _).alloc (lRq _) _) (lRq _) _
  have uU:W3.heap[w.heap.size]?=some (.cells (jL b) 197 (0,0)):=by rw[hB3.block _ (lBq HX.out)];exact HX.out
  have G1:W3.heap[w.heap.size+1]?=some (.cells (jL s) 197 (0,0)):=by rw[hB3.block _ (lBq eo.out)];exact eo.out
  have mf:w.heap.size+1<w2.heap.size:=lBq eo.out;have eT:=hDq (hp.out.gK HB.out);have V_:=hDq V9;have HW3:=hDq hW3;have au:Hid (Below w.heap.size w W3):=HB.out.trans (hB3.mono HB.out.size);have x0:W3.cell? ⟨w.heap.size,0,none⟩=some (.int .i64 b.id):=dI uU rfl;have x1:W3.cell? ⟨w.heap.size,1,none⟩=some (.int .i64 b.ak):=dI uU rfl;have x2:W3.cell? ⟨w.heap.size,2,none⟩=some (.int .i64 b.sd):=dI uU rfl;have x3:W3.cell? ⟨w.heap.size,3,none⟩=some (.int .i64 b.pr):=dI uU rfl;have x4:W3.cell? ⟨w.heap.size,4,none⟩=some (.int .i64 b.q):=dI uU rfl;have y4:W3.cell? ⟨w.heap.size+1,4,none⟩=some (.int .i64 s.q):=dI G1 rfl;have xf:W3.frozen? ⟨w.heap.size,4,none⟩=false:=ze uU;have nP:W3.frozen? ⟨w.heap.size+1,4,none⟩=false:=ze G1;have z55:=Nr;have mK:=hDq uU;have V':=hDq G1;clear V9 hB3 uU G1 Nu hW3;unfold cV;simp only[]
  go_wp2_with (first | refine Ns (B:=p) (f:=f) eT.out rfl (.tmp 27) rfl rfl ?_ | refine ahX (B:=w2.heap.size) f W3 (f:=fun _=>0) G0.out HW3.out rfl (.tmp 14) (.tmp 28) rfl rfl rfl ?_)
  obtain⟨W4,zk⟩:∃ W4,(W3.setCell ⟨w.heap.size,4,none⟩ (.int .i64 qty)).setCell ⟨w.heap.size+1,4,none⟩ (.int .i64 qty)=W4:=⟨_,rfl⟩;have Nv:W4.heap[w.heap.size]?=some (.cells (jL (Pu.only b qty)) 197 (0,0)):=by
   rw[<- zk,Below.heap_setCell _ _ _ _ (by show w.heap.size≠w.heap.size+1;omega)];exact zb _ mK.out rfl
  have Wb:W4.heap[w.heap.size+1]?=some (.cells (jL (Pu.only s qty)) 197 (0,0)):=by
   rw[<- zk];refine zb (a:=jL s) _ ?_ rfl;rw[Below.heap_setCell _ _ _ _ (by show w.heap.size+1≠w.heap.size;omega)];exact V'.out
  have zl:a_ W4 213 w2.heap.size f:=by
   rw[<- zk];exact(V_.out.other (by show w2.heap.size≠w.heap.size;omega) _).other (by show w2.heap.size≠w.heap.size+1;omega) _
  have hB4:Below w.heap.size w W4:=by rw[<- zk];exact(au.out.setCell (lRq _) _).setCell (by show w.heap.size<=w.heap.size+1;omega) _
  rw[zk];have kM:=hDq Nv;have Nw:=hDq Wb;have Wc:=hDq zl;have bJ:=hDq hB4;clear Nv Wb zl hB4 zk HW3 V_ au mK V' x0 x1 x2 x3 x4 y4 xf nP G0;have fO:=hDq (Lu w2.heap.size k (Pu.only b qty) f v W4 (he.out.later bJ.out).per Wc.out hg.out);rw[show bU (Pu.only b qty)=.agg #[.int .i64 b.id,.int .i64 cb,.int .i64 b.sd,.int .i64 b.pr,.int .i64 qty] by simp[bU,Pu.only,hcb]]at fO;refine fO.out.mono ?_;clear fO;rintro e aC ⟨rfl,uv,hs5⟩;have ck:Hid (Below w.heap.size w aC):=bJ.out.trans (hs5.below bJ.out.size (by omega));have lN:Hid (aC.heap[w.heap.size]?=some (.cells (jL (Pu.only b qty)) 197 (0,0))):=by show _=_;rw[hs5.block _ (lBq kM.out) (by omega)];exact kM.out
  have uV:Hid (aC.heap[w.heap.size+1]?=some (.cells (jL (Pu.only s qty)) 197 (0,0))):=by show _=_;rw[hs5.block _ (lBq Nw.out) (by omega)];exact Nw.out
  clear hs5 kM Nw Wc bJ;by_cases qg:f (cb*8+1)<b.pr*qty
  .have HA:Hid (Pu.ik f k b s price qty=9/\Pu.jg f k b s price qty=f):=by
    have e:Pu.ik f k b s price qty=9:=by rw[HT.out,if_pos (by simp[Pu.nG,qg])]
    exact⟨e,by rw[HF.out,e];rfl⟩
   rw[Cu.out.1,if_pos qg];have c9:=(he.out.later ck.out).per.c9;clear uv;unfold cV;simp only[];go_wp2;go_ret;exact⟨by rw[HA.out.1];rfl,by rw[HA.out.2];exact hp.out.gK ck.out,aM.of_below ck.out p⟩
  .have Nx:b.pr*qty<=f (cb*8+1):=by omega
   rw[Cu.out.2.1 Nx]at uv;rw[Cu.out.1,if_neg qg];have jZ:=hDq uv;have Ny:Pu.Good (Pu.g1 f cb (b.pr*qty)):=by rw[<- Cu.out.2.1 Nx];exact Pu.Rs hg.out _ _
   have aoX:=hDq Ny;have cm:=hDq (Lu w2.heap.size k (Pu.only s qty) _ v aC (he.out.later ck.out).per uv Ny);rw[show bU (Pu.only s qty)=.agg #[.int .i64 s.id,.int .i64 cs,.int .i64 s.sd,.int .i64 s.pr,.int .i64 qty] by simp[bU,Pu.only,hcs]]at cm;have x0:aC.cell? ⟨w.heap.size+1,0,none⟩=some (.int .i64 s.id):=dI uV.out rfl;have x1:aC.cell? ⟨w.heap.size+1,1,none⟩=some (.int .i64 s.ak):=dI uV.out rfl;have x2:aC.cell? ⟨w.heap.size+1,2,none⟩=some (.int .i64 s.sd):=dI uV.out rfl;have x3:aC.cell? ⟨w.heap.size+1,3,none⟩=some (.int .i64 s.pr):=dI uV.out rfl;have x4:aC.cell? ⟨w.heap.size+1,4,none⟩=some (.int .i64 qty):=dI uV.out rfl;clear uv Ny;unfold cV;simp only[]
   go_wp2_with fail
   refine cm.out.mono ?_;clear cm x0 x1 x2 x3 x4;rintro e ai ⟨rfl,G2,gL⟩;have aY:Hid (Below w.heap.size w ai):=ck.out.trans (gL.below ck.out.size (by omega));have qQ:Hid (ai.heap[w.heap.size]?=some (.cells (jL (Pu.only b qty)) 197 (0,0))):=by show _=_;rw[gL.block _ (lBq lN.out) (by omega)];exact lN.out
   have Wd:Hid (ai.heap[w.heap.size+1]?=some (.cells (jL (Pu.only s qty)) 197 (0,0))):=by show _=_;rw[gL.block _ (lBq uV.out) (by omega)];exact uV.out
   clear gL lN uV;have HK:=hDq (Pu.ahS (f:=f) (b:=cb) (s:=cs) (k:=k) (H:=b.pr*qty) hk);by_cases hpk:f (cs*8+5+k)<qty
   .have HA:Hid (Pu.ik f k b s price qty=9/\Pu.jg f k b s price qty=f):=by
     have e:Pu.ik f k b s price qty=9:=by rw[HT.out,if_pos (by simp[Pu.nG,hpk])]
     exact⟨e,by rw[HF.out,e];rfl⟩
    rw[(FS.out _).1,HK.out,if_pos hpk];have c9:=(he.out.later aY.out).per.c9;clear G2;unfold cV;simp only[];go_wp2;go_ret;exact⟨by rw[HA.out.1];rfl,by rw[HA.out.2];exact hp.out.gK aY.out,aM.of_below aY.out p⟩
   .have Wh:qty<=Pu.g1 f cb (b.pr*qty) (cs*8+5+k):=by rw[HK.out];omega
    rw[(FS.out _).2.1 Wh]at G2;rw[(FS.out _).1,HK.out,if_neg hpk];have G3:Hid (Pu.nG f cb cs k b.pr qty=false):=by show _=_;simp only[Pu.nG,Bool.or_eq_false_iff,decide_eq_false_iff_not];exact⟨by omega,by omega⟩
    have qR:Hid (a_ ai 213 w2.heap.size (Pu.g2 f cb cs k (b.pr*qty) qty)):=G2;have ahY:=hgr.out G3.out;have hcc:=hg.out.cash cb V7;have kJ:=hg.out.stock cs k V8 hk;have b0:ai.cell? ⟨w2.heap.size,cb*8,none⟩=some (.int .i64 (f (cb*8))):=by rw[qR.out.cell (by omega),Pu.GY hk]
    have Nz:=qR.out.frozen (cb*8);have o1:ai.cell? ⟨w.heap.size,1,none⟩=some (.int .i64 b.ak):=dI qQ.out rfl;have o2:ai.cell? ⟨w.heap.size+1,1,none⟩=some (.int .i64 s.ak):=dI Wd.out rfl;have hbi:(cb:Int)<6:=by omega
    have hsi:(cs:Int)<6:=by omega
    have aX:(k:Int)<3:=by omega
    rw[hcb]at o1;rw[hcs]at o2;clear G2 Wh Nx;unfold cV;simp only[];go_wp2
    go_quiet (fail)
    have i6:Hid (Below w.heap.size w (ai.drewN nq)):=aY.out.trans ((dL nq).mono aY.out.size);have G4:=hDq (qR.out.drew nq);clear qR aY qQ Wd b0 Nz o1 o2;generalize ai.drewN nq=br at *;have b0:br.cell? ⟨w2.heap.size,cb*8,none⟩=some (.int .i64 (f (cb*8))):=by rw[G4.out.cell (by omega),Pu.GY hk]
    have Nz:=G4.out.frozen (cb*8);obtain⟨⟨m1,m2⟩,⟨m3,m4⟩,m5,m6⟩:=hm;obtain⟨q1,q2,q3⟩:=I8;obtain⟨u1,u2,u3⟩:=hcc;obtain⟨u4,u5,u6⟩:=kJ;have hwr:0<=f (cb*8)-price*qty:=by omega
    obtain⟨xt,G5⟩:∃ xt,br.setCell ⟨w2.heap.size,cb*8,none⟩ (.int .i64 (f (cb*8)-price*qty))=xt:=⟨_,rfl⟩;have NA:Hid (a_ xt 213 w2.heap.size (Pu.g3 f cb cs k (b.pr*qty) qty (price*qty))):=by
     show a_ _ _ _ _;rw[<- G5];exact G4.out.add _ _ _ (by rw[Pu.GY hk];omega)
    have mj:Hid (Below w.heap.size w xt):=by show Below _ _ _;rw[<- G5];exact i6.out.setCell (by show _<=w2.heap.size;omega) _
    have Wi:=hDq G5;clear G5;go_wp2;rw[Wi.out];clear Wi G4 i6 b0 Nz;have d0:xt.cell? ⟨w2.heap.size,cs*8+2+k,none⟩=some (.int .i64 (f (cs*8+2+k))):=by rw[NA.out.cell (by omega),Pu.GZ hk]
    have aoY:0<=f (cs*8+2+k)-qty:=by omega
    refine jT 11 (by kernel_rfl) (by kernel_rfl) ?_;simp only[List.take_succ_cons,List.take_zero,List.drop_succ_cons,List.drop_zero]
    repeat (first | go_big_quiet_step (fail) | quiet_step (fail))
    refine wpQuiet_nil ?_;intro _ hw';obtain⟨nq,hw''⟩:=hw';subst hw'';have qX:Hid (Below w.heap.size w (xt.drewN nq)):=mj.out.trans ((dL nq).mono mj.out.size);have G6:=hDq (NA.out.drew nq);clear NA mj d0;generalize xt.drewN nq=i7 at *;have d0:i7.cell? ⟨w2.heap.size,cs*8+2+k,none⟩=some (.int .i64 (f (cs*8+2+k))):=by rw[G6.out.cell (by omega),Pu.GZ hk]
    have ahZ:=G6.out.frozen (cs*8+2+k);obtain⟨zm,G7⟩:∃ zm,i7.setCell ⟨w2.heap.size,cs*8+2+k,none⟩ (.int .i64 (f (cs*8+2+k)-qty))=zm:=⟨_,rfl⟩;have G8:Hid (a_ zm 213 w2.heap.size (Pu.g4 f cb cs k (b.pr*qty) qty (price*qty))):=by
     show a_ _ _ _ _;rw[<- G7];exact G6.out.add _ _ _ (by rw[Pu.GZ hk];omega)
    have vY:Hid (Below w.heap.size w zm):=by show Below _ _ _;rw[<- G7];exact qX.out.setCell (by show _<=w2.heap.size;omega) _
    have Wj:=hDq G7;clear G7
    go_wp2_with fail
    rw[Wj.out];clear Wj G6 qX d0 ahZ;have NC:=G8.out.cell (i:=cb*8+2+k) (by omega);have Wk:=G8.out.frozen (cb*8+2+k);obtain⟨⟨k1,k2⟩,⟨k3,k4⟩,uu⟩:=ahY;have sQ:=hDq uu;clear uu;have Cw:Hid (∀ W,a_ W 213 w2.heap.size (Pu.g4 f cb cs k (b.pr*qty) qty (price*qty))->a_ (W.setCell ⟨w2.heap.size,cb*8+2+k,none⟩ (.int .i64 (Pu.g4 f cb cs k (b.pr*qty) qty (price*qty) (cb*8+2+k)+qty))) 213 w2.heap.size (Pu.g5 f cb cs k (b.pr*qty) qty (price*qty))):=fun W h=>h.add _ _ _ rfl;have Wl:Hid (∀ W,a_ W 213 w2.heap.size (Pu.g5 f cb cs k (b.pr*qty) qty (price*qty))->a_ (W.setCell ⟨w2.heap.size,cs*8,none⟩ (.int .i64 (Pu.g5 f cb cs k (b.pr*qty) qty (price*qty) (cs*8)+price*qty))) 213 w2.heap.size (Pu.six f cb cs k b.pr price qty)):=fun W h=>h.add _ _ _ rfl;generalize Pu.g4 f cb cs k (b.pr*qty) qty (price*qty) (cb*8+2+k)=t5 at *;by_cases o1:1073741824-t5<qty
    .have HA:Hid (Pu.ik f k b s price qty=7/\Pu.jg f k b s price qty=f):=by
      have e:Pu.ik f k b s price qty=7:=by rw[HT.out,if_neg (by rw[G3.out];simp),if_pos (by rw[sQ.out];simp[o1])]
      exact⟨e,by rw[HF.out,e];rfl⟩
     refine(zf w2.heap.size (cb*8+2+k) t5 qty 1073741824 zm NC k1 k2 (by omega) o1).mono ?_;rintro e aj ⟨rfl,rfl⟩;have c7:=(he.out.later vY.out).per.bY.c7;simp only[];go_wp2;go_ret;exact⟨by rw[HA.out.1];rfl,by rw[HA.out.2];exact hp.out.gK vY.out,aM.of_below vY.out p⟩
    refine(zg w2.heap.size (cb*8+2+k) t5 qty 1073741824 zm NC Wk k1 k2 (by omega) (by omega) o1).mono ?_;rintro e G9 ⟨rfl,ND⟩;have G_:Hid (a_ G9 213 w2.heap.size (Pu.g5 f cb cs k (b.pr*qty) qty (price*qty))):=by
     show a_ _ _ _ _;rw[ND];exact Cw.out _ G8.out
    have uW:Hid (Below w.heap.size w G9):=by show Below _ _ _;rw[ND];exact vY.out.setCell (by show _<=w2.heap.size;omega) _
    clear ND G8 vY Cw NC Wk;have NE:=G_.out.cell (i:=cs*8) (by omega);have Wm:=G_.out.frozen (cs*8);generalize Pu.g5 f cb cs k (b.pr*qty) qty (price*qty) (cs*8)=NF at *;simp only[]
    go_wp2_with fail
    by_cases o2:1099511627776-NF<price*qty
    .have HA:Hid (Pu.ik f k b s price qty=7/\Pu.jg f k b s price qty=f):=by
      have e:Pu.ik f k b s price qty=7:=by rw[HT.out,if_neg (by rw[G3.out];simp),if_pos (by rw[sQ.out];simp[o2])]
      exact⟨e,by rw[HF.out,e];rfl⟩
     refine(zf w2.heap.size (cs*8) NF (price*qty) 1099511627776 G9 NE k3 k4 (by omega) o2).mono ?_;rintro e aj ⟨rfl,rfl⟩;have c7:=(he.out.later uW.out).per.bY.c7;simp only[];go_wp2;go_ret;exact⟨by rw[HA.out.1];rfl,by rw[HA.out.2];exact hp.out.gK uW.out,aM.of_below uW.out p⟩
    have HA:Hid (Pu.ik f k b s price qty=0/\Pu.jg f k b s price qty=Pu.six f cb cs k b.pr price qty):=by
     have e:Pu.ik f k b s price qty=0:=by rw[HT.out,if_neg (by rw[G3.out];simp),if_neg (by rw[sQ.out,Bool.or_eq_true,decide_eq_true_eq,decide_eq_true_eq];omega)]
     exact⟨e,by rw[HF.out,e];rfl⟩
    refine(zg w2.heap.size (cs*8) NF (price*qty) 1099511627776 G9 NE Wm k3 k4 (by omega) (by omega) o2).mono ?_;rintro e NG ⟨rfl,NH⟩;have ah0:Hid (a_ NG 213 w2.heap.size (Pu.six f cb cs k b.pr price qty)):=by
     show a_ _ _ _ _;rw[NH];exact Wl.out _ G_.out
    have sA:Hid (Below w.heap.size w NG):=by show Below _ _ _;rw[NH];exact uW.out.setCell (by show _<=w2.heap.size;omega) _
    have A4:Hid (a_ NG 213 p f):=hp.out.gK sA.out;clear NH G_ uW Wl NE Wm;simp only[]
    go_wp2_with (first | refine Ns (B:=w2.heap.size) (f:=Pu.six f cb cs k b.pr price qty) ah0.out rfl (.tmp 14) rfl rfl ?_ | refine F0 (B:=p) (Pu.six f cb cs k b.pr price qty) (f:=f) A4.out rfl (.tmp 94) (.tmp 93) rfl rfl rfl ?_)
    go_ret;exact⟨by rw[HA.out.1];rfl,by rw[HA.out.2];exact A4.out.stored _,(aM.of_below sA.out p).trans (aM.setRow _ _ _)⟩
 .have HA:Hid (Pu.ik f item b s price qty=R/\Pu.jg f item b s price qty=f):=by
   have e:Pu.ik f item b s price qty=R:=by unfold Pu.ik;rw[if_neg (by rw[hR];exact h0),hR]
   exact⟨e,by unfold Pu.jg;rw[e,if_neg h0]⟩
  rw[hR];obtain⟨y,hy⟩:∃ y,cV v R=.iface 412 y:=by
   match R,h0 with
   | 0,h=>exact absurd rfl h
   | c+1,_=>exact⟨_,rfl⟩
  have Aj:=hDq hy;rw[hy];clear hy hR;simp only[];go_wp2;go_ret;exact⟨by rw[HA.out.1,Aj.out];rfl,by rw[HA.out.2];exact hp.out.gK HB.out,aM.of_below HB.out p⟩
def row (f:Nat->Int):Array Value:=Array.ofFn (n:=1001) fun i=>Value.int .i64 (f i.val)
theorem tO (f:Nat->Int):(row f).size=1001:=by simp[row]
theorem DZ (f:Nat->Int) {i:Nat} (h:i<1001):(row f)[i]?=some (.int .i64 (f i)):=by
 unfold row;rw[Array.getElem?_ofFn];simp[h]
theorem row_one (f:Nat->Int):(row f).all (·.oneCell')=true:=by
 rw[Array.all_eq_true];intro i hi;simp only[row,Array.getElem_ofFn];rfl
theorem abU {f g:Nat->Int} (h:∀ i,i<1001->f i=g i):row f=row g:=by
 unfold row;congr 1;funext i;rw[h i.val i.isLt]
theorem abV (f:Nat->Int) {i:Nat} (v:Int):(row f).setIfInBounds i (.int .i64 v)=row (fun j=>if j=i then v else f j):=by
 apply Array.ext_getElem?;intro j;by_cases hj:j<1001
 .rw[DZ _ hj]
  by_cases e:i=j
  .subst e
   rw[Array.getElem?_setIfInBounds_self_of_lt (by rw[tO];exact hj)];simp
  .rw[Array.getElem?_setIfInBounds_ne e,DZ _ hj]
   have:¬ j=i:=fun h=>e h.symm;simp[this]
 .rw[Array.getElem?_eq_none (by rw[Array.size_setIfInBounds,tO];omega),Array.getElem?_eq_none (by rw[tO];omega)]
theorem row_zero:row (fun _=>0)=Array.replicate 1001 (.int .i64 0):=by
 apply Array.ext_getElem?;intro j;by_cases hj:j<1001
 .rw[DZ _ hj,Array.getElem?_replicate];simp[hj]
 .rw[Array.getElem?_eq_none (by rw[tO];omega),Array.getElem?_eq_none (by simp;omega)]
def bw (w:World) (B:Nat) (f:Nat->Int):Prop:=w.heap[B]?=some (.cells (row f) 365 (0,0))
theorem bw.cell {w:World} {B:Nat} {f:Nat->Int} (h:bw w B f) {i:Nat} (hi:i<1001):w.cell? ⟨B,i,none⟩=some (.int .i64 (f i)):=by
 rw[cR w B i _ _ _ h,DZ f hi]
theorem bw.frozen {w:World} {B:Nat} {f:Nat->Int} (h:bw w B f) (i:Nat):w.frozen? ⟨B,i,none⟩=false:=by
 simp[World.frozen?,show w.heap[B]?=_ from h]
theorem bw.lt {w:World} {B:Nat} {f:Nat->Int} (h:bw w B f):B<w.heap.size:=(Array.getElem?_eq_some_iff.1 h).1
theorem bw.later {w w':World} {B n:Nat} {f:Nat->Int} (h:bw w B f) (hb:Below n w w') (hn:B<n):bw w' B f:=(hb.block B hn).trans h
theorem bw.set {w:World} {B:Nat} {f:Nat->Int} (h:bw w B f) (i:Nat) (v:Int):bw (w.setCell ⟨B,i,none⟩ (.int .i64 v)) B (fun j=>if j=i then v else f j):=by
 unfold bw at h ⊢;rw[setCell_eq_setRow w B i _ _ _ _ h,abV];exact setRow_heap w B _ _ _ _ h
theorem bw.congr {w:World} {B:Nat} {f g:Nat->Int} (h:bw w B f) (e:∀ i,i<1001->f i=g i):bw w B g:=by
 unfold bw at h ⊢;rw[<- abU e];exact h
theorem bw.other {w:World} {B:Nat} {f:Nat->Int} (h:bw w B f) {a:Addr} (ha:B≠a.block) (v:Value):bw (w.setCell a v) B f :=
 (Below.heap_setCell w a v B ha).trans h
theorem bw.alloc {w:World} {B:Nat} {f:Nat->Int} (h:bw w B f) (o:Obj):bw (w.alloc o) B f:=(Below.heap_alloc w o B h.lt).trans h
theorem bw.new (w:World) (f:Nat->Int):bw (w.alloc (.cells (row f) 365)) w.heap.size f:=heap_alloc_last w _
theorem bw.drew {w:World} {B:Nat} {f:Nat->Int} (h:bw w B f) (n:Nat):bw (w.drewN n) B f:=h
theorem QJ:(Tryz.prog.info? 365).map (fun i=>(i.zero,i.size))=some (some (.agg (Array.replicate 1001 (.int .i64 0))),1001):=by kernel_rfl
theorem Ad (w:World):(zeroValue 365).run Tryz.prog w=.ok (.agg (row fun _=>0)) w:=by rw[row_zero];exact(zero_of_info QJ).1 w
theorem QK:(Tryz.prog.info? 365).map (·.size)=some 1001:=(zero_of_info QJ).2
theorem abW:Tryz.prog.underlying 365=some (.array 1001 3):=by kernel_rfl
theorem Ag {w:World} {B:Nat} {f:Nat->Int} (h:bw w B f):(loadVar 365 ⟨B,0,none⟩).run Tryz.prog w=.ok (.agg (row f)) w :=
 run_loadVar_row w B 365 365 (row f) (0,0) _ h abW rfl (by rw[tO];exact QK)
theorem abX {w:World} {B:Nat} {f:Nat->Int} (g:Nat->Int) (h:bw w B f):(storeVar 365 ⟨B,0,none⟩ (.agg (row g))).run Tryz.prog w=.ok () (w.setRow B (row g)) :=
 run_storeVar_row w B 365 365 (row f) (row g) h (by rw[tO];exact QK) (by rw[tO,tO]) (row_one g)
theorem bw.stored {w:World} {B:Nat} {f:Nat->Int} (g:Nat->Int) (h:bw w B f):bw (w.setRow B (row g)) B g:=setRow_heap w B _ _ _ _ h
theorem bw.beside {w:World} {B C:Nat} {f:Nat->Int} (c:Array Value) (h:bw w B f) (hne:B≠C):bw (w.setRow C c) B f:=(setRow_other w C B c hne).trans h
theorem D3 {ops:Array Oper} {rest:List Oper} {op:Oper} {a:Act} {w:World} {Q:Exit->Act->World->Prop} {B:Nat} {f:Nat->Int} (h:bw w B f) (hgd:op.guard=none) (x:Operand) (ho:op.op=.load 365 x)
  (hx:a.eval x=.pointer (some ⟨B,0,none⟩)) (k:wpList Tryz.prog ops Q rest (a.put op.dst (.agg (row f))) w):wpList Tryz.prog ops Q (op::rest) a w :=
 wpList_plain hgd fun _ hK=>by
  unfold Oper.wp execOp;simp only[ho,hx,Instr.loadAt,Instr.sureAddr,Sem.run_bind,Sem.run_pure,Result.andThen_ok,Ag h];exact hK _ _ k
theorem tN {ops:Array Oper} {rest:List Oper} {op:Oper} {a:Act} {w:World} {Q:Exit->Act->World->Prop} {B:Nat} {f:Nat->Int} (g:Nat->Int) (h:bw w B f) (hgd:op.guard=none) (x y:Operand) (ho:op.op=.store 365 x y)
  (hx:a.eval x=.pointer (some ⟨B,0,none⟩)) (hy:a.eval y=.agg (row g)) (k:wpList Tryz.prog ops Q rest (a.put op.dst undef) (w.setRow B (row g))):wpList Tryz.prog ops Q (op::rest) a w :=
 wpList_plain hgd fun _ hK=>by
  unfold Oper.wp execOp;simp only[ho,hx,hy,Instr.storeAt,Instr.sureAddr,Sem.run_bind,Sem.run_pure,Result.andThen_ok,abX g h];exact hK _ _ k
theorem Ah {fn:Func} {p:Tmp} {ty:TypeId} (h:fn.results=#[.cell p ty]) (tmps:Array Value) (P:Program) (w:World) :
  (results fn tmps).run P w=((asAddr (tmps.getD p undef)).run P w).andThen fun a w₁=>(loadVar ty a).run P w₁:=by
 simp only[results,h];simp[Sem.run_bind,Result.andThen]
def jR (f:Nat->Int):Value:=.agg (row f)
theorem abY (b off cap n:Nat) (side:Int) (l:List Cv.ag) (w:World) (hn:Hid (l.length=n)) (hl:Hid (dR w b off l)) (hok:Hid (Cv.d8 l)) :
  Calls Tryz.prog 283 #[.slice (some (Qb b off)) n cap,Qa side] w fun e w'=>e=.returned (jR fun i=>Cv.at_ l side i)/\Qd w w':=by
 have tP:=hok.out.1;rw[hn.out]at tP;have z60:=Ad;go_enter Tryz.func283,Tryz.ntmps283
 go_wp2_with fail
 go_loopw [10] (fun i wr=>∃ k:Nat,k<=n/\i=Qa k/\bw wr w.heap.size (fun _=>0)/\bw wr (w.heap.size+1) (fun j=>Cv.at_ (l.take k) side j)/\Qd w wr) (fun i _=>n-(intOf i).toNat)
 case atStart =>
  refine⟨0,Nat.zero_le _,rfl,(bw.new w _).alloc _,?_,((bRq _ _).alloc (lRq _) _).alloc (by simp) _⟩
  have:=bw.new (w.alloc (.cells (row fun _=>0) 365)) (fun _=>0)
  rw[show (w.alloc (.cells (row fun _=>0) 365)).heap.size=w.heap.size+1 by simp]at this;exact this
 case round =>
  obtain⟨k,hk,rfl,ht0,ht1,hb⟩:=hrel;have HT0:=hDq ht0;have HT1:=hDq ht1;have HB:=hDq hb;clear ht0 ht1 hb;by_cases hlt:k<n
  .have aX:(k:Int)<n:=by omega
   obtain⟨c0,c1,c2,c3,c4⟩:=(hl.out.later HB.out) k (by rw[hn.out];exact hlt);have HS:=hDq (fun j=>Cv.Jt (Cv.jz side j) (l:=l) (k:=k) (by rw[hn.out];exact hlt));have HX:=hDq (Cv.gw (hok.out.oks _ (Cv.mY (l:=l) (i:=k) (by rw[hn.out];exact hlt))));generalize Cv.nth l k=x at *;have hbx:Qd w (wr.alloc (.cells #[Qa x.id,Qa x.ak,Qa x.sd,Qa x.pr,Qa x.q] 197)):=HB.out.alloc HB.out.size _;have om:=hDq hbx;have HX0:Hid (bw (wr.alloc (.cells #[Qa x.id,Qa x.ak,Qa x.sd,Qa x.pr,Qa x.q] 197)) w.heap.size (fun _=>0)):=HT0.out.alloc _;have rR:Hid (bw (wr.alloc (.cells #[Qa x.id,Qa x.ak,Qa x.sd,Qa x.pr,Qa x.q] 197)) (w.heap.size+1) (fun j=>Cv.at_ (l.take k) side j)):=HT1.out.alloc _;clear hbx;by_cases hsd:x.sd=side
   .have lF:(x.sd==side)=true:=by simpa using hsd
    clear hsd;obtain⟨kS,Ju⟩:∃ kS:Nat,x.pr=(kS:Int):=⟨x.pr.toNat,by have:=HX.out.2.2.2.1;omega⟩;have hp1:kS<1001:=by have:=HX.out.2.2.2.1;omega
    have Jv:=hDq Ju;rw[Ju]at c3;clear Ju;have hsum:0<=Cv.at_ (l.take k) side kS/\Cv.at_ (l.take k) side kS<=120000:=by
     have:=Cv.nc (Cv.jz side kS) (l.take k) (hok.out.oks.take k)
     have h2:(l.take k).length<=120:=by rw[lKq,hn.out];omega
     unfold Cv.at_;omega
    obtain⟨r1,r2⟩:=hsum;have hq:=HX.out.2.2.2.2;obtain⟨q1,q2⟩:=hq;rw[Jv.out]at om HX0 rR
    go_wp2_with fail
    have d3:(wr.alloc (.cells #[Qa x.id,Qa x.ak,Qa x.sd,Qa kS,Qa x.q] 197)).cell? (Qb wr.heap.size 3)=some (Qa kS):=by simp
    have d4:(wr.alloc (.cells #[Qa x.id,Qa x.ak,Qa x.sd,Qa kS,Qa x.q] 197)).cell? (Qb wr.heap.size 4)=some (Qa x.q):=by simp
    clear c0 c1 c2 c3 c4;generalize wr.alloc (.cells #[Qa x.id,Qa x.ak,Qa x.sd,Qa kS,Qa x.q] 197)=w1 at *;have d5:=rR.out.cell hp1;generalize hat:Cv.at_ (l.take k) side kS=abZ at *;have QL:=hDq hat;clear hat;have QM:(kS:Int)<1001:=by omega
    refine jT 8 (by kernel_rfl) (by kernel_rfl) ?_;simp only[List.take_succ_cons,List.take_zero,List.drop_succ_cons,List.drop_zero]
    repeat (first | go_big_quiet_step (fail) | quiet_step (fail))
    refine wpQuiet_nil ?_;intro _ hw';obtain⟨nq,hw''⟩:=hw';subst hw'';have au:Hid (Qd w (w1.drewN nq)):=om.out.trans ((dL nq).mono om.out.size);have e0:=HX0.out.drew nq;have e1:=rR.out.drew nq;have Ai:=hDq e0;have pC:=hDq e1;clear e0 e1 d3 d4 d5 HX0 rR om;generalize w1.drewN nq=w3 at *;have d5:=pC.out.cell hp1;have kT:=pC.out.frozen kS;rw[QL.out]at d5
    go_wp2_with fail
    refine⟨⟨k+1,by omega,by go_num,Ai.out.other (by simp) _,(pC.out.set kS (abZ+x.q)).congr fun j _=>?_,au.out.setCell (by simp) _⟩,by simp[intOf];omega⟩
    have:=HS.out j
    unfold Cv.at_;rw[this];by_cases hj:j=kS
    .subst hj
     rw[show Cv.jz side j x=true by simp[Cv.jz,lF,Jv.out]];rw[<- QL.out];simp[Cv.at_]
    .have hne:¬ (kS:Int)=(j:Int):=fun h=>hj (by omega)
     rw[show Cv.jz side j x=false by simp[Cv.jz,Jv.out,hne]];simp[hj]
   .have lF:(x.sd==side)=false:=by simpa using hsd
    have an4:=hDq hsd;clear hsd
    go_wp2_with fail
    refine⟨⟨k+1,by omega,by go_num,HX0.out,rR.out.congr fun j _=>?_,om.out⟩,by simp[intOf];omega⟩
    have:=HS.out j
    rw[show Cv.jz side j x=false by simp[Cv.jz,lF]]at this;unfold Cv.at_;rw[this];simp
  .have aX:¬ (k:Int)<n:=by omega
   have dW:l.take k=l:=by
    have:k=l.length:=by rw[hn.out];omega
    rw[this,List.take_length]
   have ht1:=HT1.out;rw[dW]at ht1;have H1:=hDq ht1;clear dW ht1 HT1;have HS2:=hDq (HT0.out.stored (fun i=>Cv.at_ l side i));have HB2:=hDq (below_setRow HB.out (lRq w.heap.size) (row fun i=>Cv.at_ l side i))
   go_wp2_with (first | (refine D3 H1.out rfl _ rfl rfl ?_) | (refine tN (fun i=>Cv.at_ l side i) HT0.out rfl _ _ rfl rfl rfl ?_))
   refine bodyPost_ret (v:=jR fun i=>Cv.at_ l side i) ?_ rfl ⟨rfl,HB2.out⟩;rw[Ah rfl];simp[asAddr,Result.andThen,Ag HS2.out,jR]
theorem ab0 (cap:Nat) (a:Option Addr) (side:Int) (w:World) :
  Calls Tryz.prog 283 #[.slice a 0 cap,Qa side] w fun e w'=>e=.returned (jR fun _=>0)/\Qd w w':=by
 have z60:=Ad;go_enter Tryz.func283,Tryz.ntmps283;go_wp2;refine wp_loop_rounds 1 ?_;rw[rounds_succ];have hh:Hid (bw ((w.alloc (.cells (row fun _=>0) 365)).alloc (.cells (row fun _=>0) 365)) w.heap.size (fun _=>0)):=(bw.new w _).alloc _;have h2:Hid (bw ((w.alloc (.cells (row fun _=>0) 365)).alloc (.cells (row fun _=>0) 365)) (w.heap.size+1) (fun _=>0)):=by
  have:=bw.new (w.alloc (.cells (row fun _=>0) 365)) (fun _=>0)
  rw[show (w.alloc (.cells (row fun _=>0) 365)).heap.size=w.heap.size+1 by simp]at this;exact this
 have hb:Hid (Qd w ((w.alloc (.cells (row fun _=>0) 365)).alloc (.cells (row fun _=>0) 365))):=((bRq _ _).alloc (lRq _) _).alloc (by simp) _;generalize (w.alloc (.cells (row fun _=>0) 365)).alloc (.cells (row fun _=>0) 365)=wr at *;have HS2:=hDq (hh.out.stored (fun _=>0));have HB2:=hDq (below_setRow hb.out (lRq w.heap.size) (row fun _=>0))
 go_wp2_with (first | (refine D3 h2.out rfl _ rfl rfl ?_) | (refine tN (fun _=>0) hh.out rfl _ _ rfl rfl rfl ?_))
 refine bodyPost_ret (v:=jR fun _=>0) ?_ rfl ⟨rfl,HB2.out⟩;rw[Ah rfl];simp[Act.put,asAddr,Result.andThen,Ag HS2.out,jR]
theorem QN (v:Value) (l:List Cv.ag) (side:Int) (w:World) (hv:fU w v l) (hok:Cv.d8 l) :
  Calls Tryz.prog 283 #[v,Qa side] w fun e w'=>e=.returned (jR fun i=>Cv.at_ l side i)/\Qd w w':=by
 rcases hv with ⟨rfl,a,cap,rfl⟩ | ⟨b,off,cap,rfl,hcap,hl⟩
 .exact ab0 cap a side w
 .exact abY b off cap _ side l w rfl hl hok
def eW (l:List Cv.ag) (p i:Nat):Int:=if p<i then Cv.iN l i else Cv.at_ l 0 i
theorem ab1 {l:List Cv.ag} (h:Cv.d9 l) (i:Nat) (hi:i<1001):Cv.at_ l 0 i=eW l 999 i:=by
 unfold eW;by_cases e:999<i
 .obtain rfl:i=1000:=by omega
  rw[if_pos e]
  have:=Cv.Jj ((1000:Nat):Int) l
  rw[Cv.abI l h (by omega)]at this;omega
 .rw[if_neg e]
theorem ab2 {l:List Cv.ag} {p:Nat} (h1:1<=p) (i:Nat):(if i=p then eW l p p+eW l p (p+1) else eW l p i)=eW l (p-1) i:=by
 unfold eW;by_cases e:i=p
 .subst e
  rw[if_pos rfl,if_neg (by omega),if_pos (by omega),if_pos (by omega)]
  have:=Cv.Jj (i:Int) l
  rw[show ((i+1:Nat):Int)=(i:Int)+1 by omega];omega
 .rw[if_neg e]
  by_cases e2:p<i
  .rw[if_pos e2,if_pos (by omega)]
  .rw[if_neg e2,if_neg (by omega)]
theorem QO {l:List Cv.ag} (h:Cv.d8 l) (p i:Nat):0<=eW l p i/\eW l p i<=120000:=by
 have h1:=Cv.nc (Cv.h_ i) l h.oks;have h2:=Cv.nc (Cv.jz 0 i) l h.oks
 have:=h.1
 unfold eW Cv.iN Cv.at_;split <;> omega
theorem abL (v:Value) (l:List Cv.ag) (w:World) (hv:Hid (fU w v l)) (hok:Hid (Cv.d8 l)) :
  Calls Tryz.prog 251 #[v] w fun e w'=>e=.returned (jR (eW l 0))/\Qd w w':=by
 have z60:=Ad;have HQ:=hDq (QN v l 0 (w.alloc (.cells (row fun _=>0) 365)) (hv.out.later ((bRq _ _).alloc (lRq _) _)) hok.out);go_enter Tryz.func251,Tryz.ntmps251
 go_wp2_with fail
 refine HQ.out.mono ?_;rintro e w1 ⟨rfl,hb1⟩;have HB1:Hid (Qd w w1):=((bRq _ _).alloc (lRq _) _).trans (hb1.mono (by simp));have HR:Hid (bw w1 w.heap.size (fun _=>0)):=(bw.new w _).later hb1 (by simp);have av:Hid (w.heap.size<w1.heap.size):=by have:=hb1.size;simp at this;exact this
 clear hb1 HQ;simp only[jR];have HA:Hid (bw (w1.alloc (.cells (row fun _=>0) 365)) w1.heap.size (fun _=>0)):=bw.new w1 _
 go_wp2_with (refine tN (fun i=>Cv.at_ l 0 i) HA.out rfl _ _ rfl rfl rfl ?_)
 have HS:Hid (bw ((w1.alloc (.cells (row fun _=>0) 365)).setRow w1.heap.size (row fun i=>Cv.at_ l 0 i)) w1.heap.size (eW l 999)):=(HA.out.stored _).congr (ab1 hok.out.oks);have bq:Hid (bw ((w1.alloc (.cells (row fun _=>0) 365)).setRow w1.heap.size (row fun i=>Cv.at_ l 0 i)) w.heap.size (fun _=>0)):=(HR.out.alloc _).beside _ (by have:=av.out;omega);have HB2:Hid (Qd w ((w1.alloc (.cells (row fun _=>0) 365)).setRow w1.heap.size (row fun i=>Cv.at_ l 0 i))):=below_setRow (HB1.out.alloc HB1.out.size _) HB1.out.size _;clear HR HA HB1;generalize (w1.alloc (.cells (row fun _=>0) 365)).setRow w1.heap.size (row fun i=>Cv.at_ l 0 i)=w2 at *
 go_loopw [4] (fun i wr=>∃ p:Nat,p<=999/\i=Qa p/\bw wr w.heap.size (fun _=>0)/\bw wr w1.heap.size (eW l p)/\Qd w wr) (fun i _=>(intOf i).toNat)
 case atStart=>exact⟨999,by omega,rfl,bq.out,HS.out,HB2.out⟩
 case round =>
  obtain⟨p,hp,rfl,ht0,ht1,hb⟩:=hrel;have HT0:=hDq ht0;have HT1:=hDq ht1;have HB:=hDq hb;clear ht0 ht1 hb HS bq HB2;by_cases hlt:1<=p
  .have aX:(1:Int)<=(p:Int):=by omega
   have hp1:p<1001:=by omega
   have QM:(p:Int)<1001:=by omega
   have ab3:(p:Int)+1<1001:=by omega
   have d5:=HT1.out.cell hp1;have kT:=HT1.out.cell (i:=p+1) (by omega);have hb1:=QO hok.out p p;have hb2:=QO hok.out p (p+1);have HX:=hDq (fun i=>ab2 (l:=l) (p:=p) (by omega) i);generalize ha:eW l p p=x at *;generalize hb:eW l p (p+1)=y at *;have Hx:=hDq ha;have Aj:=hDq hb;clear ha hb;obtain⟨r1,r2⟩:=hb1;obtain⟨r3,r4⟩:=hb2
   go_wp2_with fail
   refine jT 9 (by kernel_rfl) (by kernel_rfl) ?_;simp only[List.take_succ_cons,List.take_zero,List.drop_succ_cons,List.drop_zero]
   repeat (first | go_big_quiet_step (fail) | quiet_step (fail))
   refine wpQuiet_nil ?_;intro _ hw';obtain⟨nq,hw''⟩:=hw';subst hw'';have au:Hid (Qd w (wr.drewN nq)):=HB.out.trans ((dL nq).mono HB.out.size);have e0:=HT0.out.drew nq;have e1:=HT1.out.drew nq;have Ai:=hDq e0;have pC:=hDq e1;clear e0 e1 d5 kT HT0 HT1 HB;generalize wr.drewN nq=w3 at *;have d5:=pC.out.cell hp1;have kT:=pC.out.frozen p
   go_wp2_with fail
   have E2:=hDq ((pC.out.set p (x+y)).congr fun i _=>HX.out i);exact⟨⟨p-1,by omega,by go_num,Ai.out.other (by have:=av.out;simp;omega) _,E2.out,au.out.setCell (by have:=av.out;simp;omega) _⟩,by simp[intOf];omega⟩
  .have aX:¬ (1:Int)<=(p:Int):=by omega
   obtain rfl:p=0:=by omega
   have HS2:=hDq (HT0.out.stored (eW l 0));have HB2:=hDq (below_setRow HB.out (lRq w.heap.size) (row (eW l 0)))
   go_wp2_with (first | (refine D3 HT1.out rfl _ rfl rfl ?_) | (refine tN (eW l 0) HT0.out rfl _ _ rfl rfl rfl ?_))
   refine bodyPost_ret (v:=jR (eW l 0)) ?_ rfl ⟨rfl,HB2.out⟩;rw[Ah rfl];simp[asAddr,Result.andThen,Ag HS2.out,jR]
def sup (l:List Cv.ag) (p i:Nat):Int:=if i<p then Cv.jQ l i else Cv.at_ l 1 i
theorem ab4 {l:List Cv.ag} (h:Cv.d9 l) (i:Nat) (hi:i<1001):Cv.at_ l 1 i=sup l 2 i:=by
 unfold sup;by_cases e:i<2
 .rw[if_pos e]
  have:=Cv.Jk ((i:Int)-1) l
  rw[Cv.abJ l h (p:=(i:Int)-1) (by omega),show (i:Int)-1+1=i by omega]at this;omega
 .rw[if_neg e]
theorem ab5 {l:List Cv.ag} {p:Nat} (h1:1<=p) (i:Nat):(if i=p then sup l p p+sup l p (p-1) else sup l p i)=sup l (p+1) i:=by
 unfold sup;by_cases e:i=p
 .subst e
  rw[if_pos rfl,if_neg (by omega),if_pos (by omega),if_pos (by omega)]
  have:=Cv.Jk ((i:Int)-1) l
  rw[show (i:Int)-1+1=i by omega]at this;rw[show ((i-1:Nat):Int)=(i:Int)-1 by omega];omega
 .rw[if_neg e]
  by_cases e2:i<p
  .rw[if_pos e2,if_pos (by omega)]
  .rw[if_neg e2,if_neg (by omega)]
theorem QP {l:List Cv.ag} (h:Cv.d8 l) (p i:Nat):0<=sup l p i/\sup l p i<=120000:=by
 have h1:=Cv.nc (Cv.sB i) l h.oks;have h2:=Cv.nc (Cv.jz 1 i) l h.oks
 have:=h.1
 unfold sup Cv.jQ Cv.at_;split <;> omega
theorem abM (v:Value) (l:List Cv.ag) (w:World) (hv:Hid (fU w v l)) (hok:Hid (Cv.d8 l)) :
  Calls Tryz.prog 252 #[v] w fun e w'=>e=.returned (jR (sup l 1001))/\Qd w w':=by
 have z60:=Ad;have HQ:=hDq (QN v l 1 (w.alloc (.cells (row fun _=>0) 365)) (hv.out.later ((bRq _ _).alloc (lRq _) _)) hok.out);go_enter Tryz.func252,Tryz.ntmps252
 go_wp2_with fail
 refine HQ.out.mono ?_;rintro e w1 ⟨rfl,hb1⟩;have HB1:Hid (Qd w w1):=((bRq _ _).alloc (lRq _) _).trans (hb1.mono (by simp));have HR:Hid (bw w1 w.heap.size (fun _=>0)):=(bw.new w _).later hb1 (by simp);have av:Hid (w.heap.size<w1.heap.size):=by have:=hb1.size;simp at this;exact this
 clear hb1 HQ;simp only[jR];have HA:Hid (bw (w1.alloc (.cells (row fun _=>0) 365)) w1.heap.size (fun _=>0)):=bw.new w1 _
 go_wp2_with (refine tN (fun i=>Cv.at_ l 1 i) HA.out rfl _ _ rfl rfl rfl ?_)
 have HS:Hid (bw ((w1.alloc (.cells (row fun _=>0) 365)).setRow w1.heap.size (row fun i=>Cv.at_ l 1 i)) w1.heap.size (sup l 2)):=(HA.out.stored _).congr (ab4 hok.out.oks);have bq:Hid (bw ((w1.alloc (.cells (row fun _=>0) 365)).setRow w1.heap.size (row fun i=>Cv.at_ l 1 i)) w.heap.size (fun _=>0)):=(HR.out.alloc _).beside _ (by have:=av.out;omega);have HB2:Hid (Qd w ((w1.alloc (.cells (row fun _=>0) 365)).setRow w1.heap.size (row fun i=>Cv.at_ l 1 i))):=below_setRow (HB1.out.alloc HB1.out.size _) HB1.out.size _;clear HR HA HB1;generalize (w1.alloc (.cells (row fun _=>0) 365)).setRow w1.heap.size (row fun i=>Cv.at_ l 1 i)=w2 at *
 go_loopw [4] (fun i wr=>∃ p:Nat,(2<=p/\p<=1001)/\i=Qa p/\bw wr w.heap.size (fun _=>0)/\bw wr w1.heap.size (sup l p)/\Qd w wr) (fun i _=>1001-(intOf i).toNat)
 case atStart=>exact⟨2,by omega,rfl,bq.out,HS.out,HB2.out⟩
 case round =>
  obtain⟨p,hp,rfl,ht0,ht1,hb⟩:=hrel;have HT0:=hDq ht0;have HT1:=hDq ht1;have HB:=hDq hb;clear ht0 ht1 hb HS bq HB2;by_cases hlt:p<=1000
  .have aX:(p:Int)<=1000:=by omega
   have hp1:p<1001:=by omega
   have QM:(p:Int)<1001:=by omega
   have ab3:(0:Int)<=(p:Int)-1:=by omega
   have d5:=HT1.out.cell hp1;have kT:=HT1.out.cell (i:=p-1) (by omega);have hb1:=QP hok.out p p;have hb2:=QP hok.out p (p-1);have HX:=hDq (fun i=>ab5 (l:=l) (p:=p) (by omega) i);generalize ha:sup l p p=x at *;generalize hb:sup l p (p-1)=y at *;have Hx:=hDq ha;have Aj:=hDq hb;clear ha hb;obtain⟨r1,r2⟩:=hb1;obtain⟨r3,r4⟩:=hb2
   go_wp2_with fail
   refine jT 9 (by kernel_rfl) (by kernel_rfl) ?_;simp only[List.take_succ_cons,List.take_zero,List.drop_succ_cons,List.drop_zero]
   repeat (first | go_big_quiet_step (fail) | quiet_step (fail))
   refine wpQuiet_nil ?_;intro _ hw';obtain⟨nq,hw''⟩:=hw';subst hw'';have au:Hid (Qd w (wr.drewN nq)):=HB.out.trans ((dL nq).mono HB.out.size);have e0:=HT0.out.drew nq;have e1:=HT1.out.drew nq;have Ai:=hDq e0;have pC:=hDq e1;clear e0 e1 d5 kT HT0 HT1 HB;generalize wr.drewN nq=w3 at *;have d5:=pC.out.cell hp1;have kT:=pC.out.frozen p
   go_wp2_with fail
   have E2:=hDq ((pC.out.set p (x+y)).congr fun i _=>HX.out i);exact⟨⟨p+1,by omega,by go_num,Ai.out.other (by have:=av.out;simp;omega) _,E2.out,au.out.setCell (by have:=av.out;simp;omega) _⟩,by simp[intOf];omega⟩
  .have aX:¬ (p:Int)<=1000:=by omega
   obtain rfl:p=1001:=by omega
   have HS2:=hDq (HT0.out.stored (sup l 1001));have HB2:=hDq (below_setRow HB.out (lRq w.heap.size) (row (sup l 1001)))
   go_wp2_with (first | (refine D3 HT1.out rfl _ rfl rfl ?_) | (refine tN (sup l 1001) HT0.out rfl _ _ rfl rfl rfl ?_))
   refine bodyPost_ret (v:=jR (sup l 1001)) ?_ rfl ⟨rfl,HB2.out⟩;rw[Ah rfl];simp[asAddr,Result.andThen,Ag HS2.out,jR]
theorem Qy (a b:Int) (w:World) (h1:-1000000<=a) (h2:a<=1000000) (h3:-1000000<=b) (h4:b<=1000000):Calls Tryz.prog 253 #[Qa a,Qa b] w fun e w'=>e=.returned (Qa (Cv.size (a-b)))/\w'=w:=by
 go_enter Tryz.func253,Tryz.ntmps253;go_wp2
 all_goals go_ret
 all_goals exact⟨vL (by unfold Cv.size;omega),rfl⟩
def Qz (v s a:Int):Value:=.agg #[Qa v,Qa s,Qa a]
theorem abK (v s a v' s' a':Int) (w:World):Calls Tryz.prog 254 #[Qz v s a,Qz v' s' a'] w fun e w'=>e=.returned (.bool (Cv.tM v s a v' s' a'))/\Qd w w':=by
 show Calls Tryz.prog 254 #[.agg #[Qa v,Qa s,Qa a],.agg #[Qa v',Qa s',Qa a']] w _;go_enter Tryz.func254,Tryz.ntmps254;go_wp2
 all_goals go_ret
 all_goals
  refine⟨iy ?_,((bRq _ _).alloc (lRq _) _).alloc (by simp) _⟩;simp_all[Cv.tM]
def iZ (w:World) (B:Nat) (v s a:Int):Prop:=w.heap[B]?=some (.cells #[Qa v,Qa s,Qa a] 368 (0,0))
theorem iZ.later {w w':World} {B n:Nat} {v s a:Int} (h:iZ w B v s a) (hb:Below n w w') (hn:B<n):iZ w' B v s a:=(hb.block B hn).trans h
theorem iZ.lt {w:World} {B:Nat} {v s a:Int} (h:iZ w B v s a):B<w.heap.size:=(Array.getElem?_eq_some_iff.1 h).1
theorem iZ.cells {w:World} {B:Nat} {v s a:Int} (h:iZ w B v s a):w.cell? (Qb B 0)=some (Qa v)/\w.cell? (Qb B 1)=some (Qa s)/\w.cell? (Qb B 2)=some (Qa a):=by
 refine⟨?_,?_,?_⟩ <;> (rw[cR w B _ _ _ _ h];rfl)
theorem iZ.frozen {w:World} {B:Nat} {v s a:Int} (h:iZ w B v s a) (i:Nat):w.frozen? (Qb B i)=false:=by
 simp[World.frozen?,show w.heap[B]?=_ from h]
theorem iZ.set {w:World} {B:Nat} {v s a:Int} (h:iZ w B v s a) (v' s' a':Int):iZ (((w.setCell (Qb B 0) (Qa v')).setCell (Qb B 1) (Qa s')).setCell (Qb B 2) (Qa a')) B v' s' a':=by
 unfold iZ at h ⊢;have h1:(w.setCell (Qb B 0) (Qa v')).heap[B]?=some (.cells #[Qa v',Qa s,Qa a] 368 (0,0)):=by
  rw[setCell_eq_setRow w B 0 _ _ _ _ h];exact setRow_heap w B _ _ _ _ h
 have h2:((w.setCell (Qb B 0) (Qa v')).setCell (Qb B 1) (Qa s')).heap[B]?=some (.cells #[Qa v',Qa s',Qa a] 368 (0,0)):=by
  rw[setCell_eq_setRow _ B 1 _ _ _ _ h1];exact setRow_heap _ B _ _ _ _ h1
 rw[setCell_eq_setRow _ B 2 _ _ _ _ h2];exact setRow_heap _ B _ _ _ _ h2
theorem abH (v:Value) (l:List Cv.ag) (ref:Int) (w:World) (hv:Hid (fU w v l)) (hok:Hid (Cv.d8 l)) (hr:ah.aG ref 1 1000=true)
  (HC:Hid (Calls Tryz.prog 250 #[v] w fun e w'=>e=.returned .nilIface/\Qd w w')) :
  Calls Tryz.prog 220 #[v,Qa ref] w fun e w'=>(∃ p vol,e=.returned (.tuple #[Qa p,Qa vol,.nilIface])/\Cv.fD l ref 1000 p vol)/\Qd w w':=by
 have z60:=Ad;have HD:Hid (∀ W,Qd w W->Calls Tryz.prog 251 #[v] W fun e w'=>e=.returned (jR (eW l 0))/\Qd W w'):=fun W hb=>abL v l W (hv.out.later hb) hok;have QA:Hid (∀ W,Qd w W->Calls Tryz.prog 252 #[v] W fun e w'=>e=.returned (jR (sup l 1001))/\Qd W w'):=fun W hb=>abM v l W (hv.out.later hb) hok;have qF:1<=ref/\ref<=1000:=by simpa [ah.aG] using hr
 obtain⟨anW,anX⟩:=qF;go_enter Tryz.func220,Tryz.ntmps220
 go_wp2_with fail
 refine HC.out.mono ?_;rintro e w1 ⟨rfl,hb1⟩;have HB1:=hDq hb1;clear hb1 HC;simp only[]
 go_wp2_with fail
 refine(gH _ _ _ _).mono ?_;rintro e w1 ⟨rfl,rfl⟩;rw[hr];simp only[];clear hr
 go_wp2_with fail
 refine(HD.out w1 HB1.out).mono ?_;rintro e w2 ⟨rfl,hb2⟩;have HB2:=hDq (HB1.out.trans (hb2.mono HB1.out.size));clear hb2 HD HB1;simp only[]
 go_wp2_with fail
 refine(QA.out w2 HB2.out).mono ?_;rintro e w3 ⟨rfl,hb3⟩;have au:=hDq (HB2.out.trans (hb3.mono HB2.out.size));clear hb3 QA HB2;simp only[jR];have HA:Hid (bw ((w3.alloc (.cells (row fun _=>0) 365)).alloc (.cells (row fun _=>0) 365)) w3.heap.size (fun _=>0)):=(bw.new w3 _).alloc _;have cz:Hid (bw (((w3.alloc (.cells (row fun _=>0) 365)).alloc (.cells (row fun _=>0) 365)).setRow w3.heap.size (row (eW l 0))) (w3.heap.size+1) (fun _=>0)):=by
  have:=bw.new (w3.alloc (.cells (row fun _=>0) 365)) (fun _=>0)
  rw[show (w3.alloc (.cells (row fun _=>0) 365)).heap.size=w3.heap.size+1 by simp]at this;exact this.beside _ (by omega)
 go_wp2_with (first | (refine tN (eW l 0) HA.out rfl _ _ rfl rfl rfl ?_) | (refine tN (sup l 1001) cz.out rfl _ _ rfl rfl rfl ?_))
 have QB:Hid (bw ((((w3.alloc (.cells (row fun _=>0) 365)).alloc (.cells (row fun _=>0) 365)).setRow w3.heap.size (row (eW l 0))).setRow (w3.heap.size+1) (row (sup l 1001))) w3.heap.size (eW l 0)):=(HA.out.stored _).beside _ (by omega);have DW:Hid (bw ((((w3.alloc (.cells (row fun _=>0) 365)).alloc (.cells (row fun _=>0) 365)).setRow w3.heap.size (row (eW l 0))).setRow (w3.heap.size+1) (row (sup l 1001))) (w3.heap.size+1) (sup l 1001)):=cz.out.stored _;have bJ:Hid (Qd w ((((w3.alloc (.cells (row fun _=>0) 365)).alloc (.cells (row fun _=>0) 365)).setRow w3.heap.size (row (eW l 0))).setRow (w3.heap.size+1) (row (sup l 1001)))) :=
  below_setRow (below_setRow ((au.out.alloc au.out.size _).alloc (by have:=au.out.size;simp;omega) _) au.out.size _) (by have:=au.out.size;omega) _
 have Jl:Hid (((((w3.alloc (.cells (row fun _=>0) 365)).alloc (.cells (row fun _=>0) 365)).setRow w3.heap.size (row (eW l 0))).setRow (w3.heap.size+1) (row (sup l 1001))).heap.size=w3.heap.size+1+1):=by show _=_;simp
 clear HA cz;generalize (((w3.alloc (.cells (row fun _=>0) 365)).alloc (.cells (row fun _=>0) 365)).setRow w3.heap.size (row (eW l 0))).setRow (w3.heap.size+1) (row (sup l 1001))=w4 at *;have QC:=hDq (QB.out.alloc (.cells #[Qa 0,Qa 0,Qa 0] 368));have QD:=hDq (DW.out.alloc (.cells #[Qa 0,Qa 0,Qa 0] 368));have ck:=hDq (bJ.out.alloc bJ.out.size (.cells #[Qa 0,Qa 0,Qa 0] 368));have QE:Hid (iZ (w4.alloc (.cells #[Qa 0,Qa 0,Qa 0] 368)) (w3.heap.size+1+1) 0 0 0):=by
  have:=heap_alloc_last w4 (.cells #[Qa 0,Qa 0,Qa 0] 368)
  rw[Jl.out]at this;exact this
 have anY:Hid ((w4.alloc (.cells #[Qa 0,Qa 0,Qa 0] 368)).heap.size=w3.heap.size+3):=by show _=_;simp[Jl.out]
 have av:Hid (w.heap.size<=w3.heap.size):=au.out.size;clear QB DW bJ Jl au;generalize w4.alloc (.cells #[Qa 0,Qa 0,Qa 0] 368)=aC at *;generalize w3.heap.size=N at *
 go_loopw [4,11] (fun pr i wr=>∃ (q:Nat) (p vol:Int),(1<=q/\q<=1001)/\i=Qa q/\pr=Qa p/\Cv.fD l ref ((q:Int)-1) p vol/\bw wr N (eW l 0)/\bw wr (N+1) (sup l 1001)/\iZ wr (N+1+1) vol (Cv.wl l p) (Cv.gb ref p)/\Qd w wr) (fun _ i _=>1001-(intOf i).toNat)
 case atStart=>exact⟨1,0,0,by omega,rfl,rfl,Cv.fD.start l ref,QC.out,QD.out,QE.out,ck.out⟩
 case round =>
  obtain⟨q,p,vol,hq,rfl,rfl,jS,hd,hs,hw,hb⟩:=hrel;obtain⟨hq1,anZ⟩:=hq;have HW:=hDq jS;have Jm:=hDq hd;have mh:=hDq hs;have Jn:=hDq hw;have HB:=hDq hb;clear jS hd hs hw hb QC QD QE ck;by_cases hlt:q<=1000
  .have aX:(q:Int)<=1000:=by omega
   have abN:(q:Int)<1001:=by omega
   have d1:=Jm.out.cell (i:=q) (by omega);have d2:=mh.out.cell (i:=q) (by omega);rw[show eW l 0 q=Cv.iN l q by unfold eW;rw[if_pos (by omega)]]at d1;rw[show sup l 1001 q=Cv.jQ l q by unfold sup;rw[if_pos (by omega)]]at d2;have b1:0<=Cv.iN l q/\Cv.iN l q<=120000:=by
    have:=Cv.nc (Cv.h_ q) l hok.out.oks;have h2:=hok.out.1;unfold Cv.iN;omega
   have b2:0<=Cv.jQ l q/\Cv.jQ l q<=120000:=by
    have:=Cv.nc (Cv.sB q) l hok.out.oks;have h2:=hok.out.1;unfold Cv.jQ;omega
   have cF:Hid (Cv.dy l q=min (Cv.iN l q) (Cv.jQ l q)):=rfl;have HL:Hid (Cv.left l q=Cv.size (Cv.iN l q-Cv.jQ l q)):=rfl;have QF:Hid (Cv.away ref q=Cv.size ((q:Int)-ref)):=rfl;generalize Cv.iN l q=ya at *;generalize Cv.jQ l q=sp at *;obtain⟨an0,an1⟩:=b1;obtain⟨an2,an3⟩:=b2
   go_wp2_with fail
   obtain⟨val,ng,Ae⟩:∃ val:Bool->Nat->World,(∀ n,val false n=wr.drewN n)/\(∀ n,val true n=(wr.drewN n).alloc (.cells #[Qa 0,Qa 0,Qa 0] 368)):=⟨fun b n=>bif b then (wr.drewN n).alloc (.cells #[Qa 0,Qa 0,Qa 0] 368) else wr.drewN n,fun _=>rfl,fun _=>rfl⟩;have f1:∀ n,(val false n).cell? (Qb N q)=some (Qa ya):=fun n=>by rw[ng];exact d1
   have f2:∀ n,(val false n).cell? ⟨N+1,q,none⟩=some (Qa sp):=fun n=>by rw[ng];exact d2
   have t1:∀ n,(val true n).cell? (Qb N q)=some (Qa ya):=fun n=>by
    rw[Ae,((bRq (wr.drewN n).heap.size _).alloc (lRq _) _).cell (p:=(Qb N q)) (bCq _ _ (show (wr.drewN n).cell? (Qb N q)=_ from d1))];exact d1
   have t2:∀ n,(val true n).cell? ⟨N+1,q,none⟩=some (Qa sp):=fun n=>by
    rw[Ae,((bRq (wr.drewN n).heap.size _).alloc (lRq _) _).cell (p:=⟨N+1,q,none⟩) (bCq _ _ (show (wr.drewN n).cell? ⟨N+1,q,none⟩=_ from d2))];exact d2
   have QG:=hDq ng;have QH:=hDq Ae;have hal:∀ (a:Act) n,(execOp a.eval { dst:=some 12,op:=Op.alloc 368,type:=0,pos:= "clear.go:22",after:=#[],guard:=none }).run Tryz.prog (val false n)=.ok (.value (Qc wr.heap.size)) (val true n):=by
    intro a n;rw[ng,Ae]
    kernel_rfl
   clear ng Ae;refine abO (val:=val) (p:=Qc wr.heap.size) 18 rfl (by kernel_rfl) (by kernel_rfl) (by kernel_rfl) rfl (by rw[QG.out];rfl) hal ?_;clear hal d1 d2;have abP:IntKind.i64.wrap (ya-sp)=ya-sp:=IntWalk.i64_in _ (by omega);have wr2:IntKind.i64.wrap ((q:Int)-ref)=(q:Int)-ref:=IntWalk.i64_in _ (by omega);simp only[List.take_succ_cons,List.take_zero]
   repeat (refine abQ (fun K hK=>?_);refine⟨by rfl,?_⟩;unfold Jo;go_simp;first | (refine hK _ ?_;clear hK K) | (refine⟨_,⟨fun n=>(Qy _ _ _ (by omega) (by omega) (by omega) (by omega)).mono (fun e w' ⟨he,hw⟩=>⟨he,n,hw⟩),fun n=>(Qy _ _ _ (by omega) (by omega) (by omega) (by omega)).mono (fun e w' ⟨he,hw⟩=>⟨he,n,hw⟩)⟩,hK _ ?_⟩;clear hK K))
   rw[show (if sp<ya then sp else ya)=Cv.dy l q by rw[cF.out];split <;> omega,<- HL.out,<- QF.out];refine abR ?_;intro n;rw[QH.out];have Jp:=hDq (Jm.out.drew n);have Jq:=hDq (mh.out.drew n);have DX:Hid (iZ (wr.drewN n) (N+1+1) vol (Cv.wl l p) (Cv.gb ref p)):=Jn.out;have HB2:Hid (Qd w (wr.drewN n)):=HB.out.trans ((dL n).mono HB.out.size);rw[show wr.heap.size=(wr.drewN n).heap.size from rfl];clear QG QH f1 f2 t1 t2 Jm mh Jn HB abP wr2 cF HL QF;generalize wr.drewN n=W at *;have DY:Hid (N+1+1<W.heap.size):=DX.out.lt;have eX:Hid (Qd W (W.alloc (.cells #[Qa (Cv.dy l q),Qa (Cv.left l q),Qa (Cv.away ref q)] 368))):=(bRq _ _).alloc (lRq _) _;obtain⟨o0,o1,o2⟩:=(DX.out.later eX.out DY.out).cells;have Af:=hDq (abK (Cv.dy l q) (Cv.left l q) (Cv.away ref q) vol (Cv.wl l p) (Cv.gb ref p) (W.alloc (.cells #[Qa (Cv.dy l q),Qa (Cv.left l q),Qa (Cv.away ref q)] 368)))
   go_wp2_with fail
   refine Af.out.mono ?_;rintro e ai ⟨rfl,hb6⟩;have QI:Hid (iZ ai W.heap.size (Cv.dy l q) (Cv.left l q) (Cv.away ref q)):=(heap_alloc_last W _ |> fun h=>(show iZ _ _ _ _ _ from h)).later hb6 (by simp);have aY:Hid (Qd W ai):=eX.out.trans (hb6.mono eX.out.size);have Jr:Hid (bw ai N (eW l 0)):=Jp.out.later aY.out Jp.out.lt;have Js:Hid (bw ai (N+1) (sup l 1001)):=Jq.out.later aY.out Jq.out.lt;have vV:Hid (iZ ai (N+1+1) vol (Cv.wl l p) (Cv.gb ref p)):=DX.out.later aY.out DY.out;have dx:Hid (Qd w ai):=HB2.out.trans (aY.out.mono HB2.out.size);clear hb6 eX o0 o1 o2 Af Jp Jq DX HB2 aY;have kR:Hid (N+1+1≠W.heap.size):=by show _≠_;have:=DY.out;omega
   clear DY;cases oh:Cv.tM (Cv.dy l q) (Cv.left l q) (Cv.away ref q) vol (Cv.wl l p) (Cv.gb ref p) with
   | false =>
    have yb:=hDq oh;clear oh;simp only[]
    go_wp2_with fail
    have hk:=HW.out.keep hok.out.oks (by rw[show (q:Int)-1+1=q by omega];exact yb.out);rw[show (q:Int)-1+1=((q+1:Nat):Int)-1 by omega]at hk;exact⟨⟨q+1,p,vol,by omega,by go_num,rfl,hk,Jr.out,Js.out,vV.out,dx.out⟩,by simp[intOf];omega⟩
   | true =>
    have yb:=hDq oh;clear oh;simp only[];obtain⟨g0,g1,g2⟩:=QI.out.cells;have h0:=vV.out.frozen 0;have h1:=vV.out.frozen 1;have h2:=vV.out.frozen 2;obtain⟨o0,o1,o2⟩:=vV.out.cells
    go_wp2_with fail
    refine jT 3 (by kernel_rfl) (by kernel_rfl) ?_;simp only[List.take_succ_cons,List.take_zero,List.drop_succ_cons,List.drop_zero]
    repeat (first | go_big_quiet_step (fail) | quiet_step (fail))
    refine wpQuiet_nil ?_;intro _ hw';obtain⟨nq,hw''⟩:=hw';subst hw'';have pA:Hid (Qd w (ai.drewN nq)):=dx.out.trans ((dL nq).mono dx.out.size);have abS:=hDq (Jr.out.drew nq);have abT:=hDq (Js.out.drew nq);have iX:Hid (iZ (ai.drewN nq) (N+1+1) vol (Cv.wl l p) (Cv.gb ref p)):=vV.out;clear g0 g1 g2 h0 h1 h2 o0 o1 o2 QI Jr Js vV dx;generalize ai.drewN nq=br at *;have h0:=iX.out.frozen 0;have h1:=iX.out.frozen 1;have h2:=iX.out.frozen 2;obtain⟨o0,o1,o2⟩:=iX.out.cells
    go_wp2_with fail
    have hk:=HW.out.take hok.out.oks (by omega) (by rw[show (q:Int)-1+1=q by omega];exact yb.out);rw[show (q:Int)-1+1=q by omega,show (q:Int)=((q+1:Nat):Int)-1 by omega]at hk;have vW:((q+1:Nat):Int)-1=q:=by omega
    rw[vW]at hk;have pB:=iX.out.set (Cv.dy l q) (Cv.left l q) (Cv.away ref q);refine⟨⟨q+1,q,Cv.dy l q,by omega,by go_num,rfl,by rw[vW];exact hk,?_,?_,?_,?_⟩,by simp[intOf];omega⟩
    .exact((abS.out.other (by simp;omega) _).other (by simp;omega) _).other (by simp;omega) _
    .exact((abT.out.other (by simp) _).other (by simp) _).other (by simp) _
    .rw[show Cv.wl l q=Cv.left l q by unfold Cv.wl;rw[if_neg (by omega)],show Cv.gb ref q=Cv.away ref q by unfold Cv.gb;rw[if_neg (by omega)]]
     exact pB
    .have:=av.out
     exact((pA.out.setCell (by simp;omega) _).setCell (by simp;omega) _).setCell (by simp;omega) _
  .have aX:¬ (q:Int)<=1000:=by omega
   obtain rfl:q=1001:=by omega
   obtain⟨o0,o1,o2⟩:=Jn.out.cells
   go_wp2_with fail
   go_quiet (fail)
   have pA:Hid (Qd w (wr.drewN nq)):=HB.out.trans ((dL nq).mono HB.out.size);generalize wr.drewN nq=br at *
   go_wp2_with fail
   go_ret3
   exact⟨⟨p,vol,rfl,HW.out⟩,pA.out⟩
theorem Qv (v:Value) (l:List Cv.ag) (ref:Int) (T:TypeId) (v1 v6 v7:Value) (w:World) (hv:fU w v l) (he:Hid (h9 w T v1 v6 v7)) (hok:Cv.d8 l) (hr:ah.aG ref 1 1000=true) :
  Calls Tryz.prog 220 #[v,Qa ref] w fun e w'=>(∃ p vol,e=.returned (.tuple #[Qa p,Qa vol,.nilIface])/\Cv.fD l ref 1000 p vol)/\Qd w w' :=
 abH v l ref w hv hok hr (I9 v l T v1 v6 v7 w hv he hok)
def Gk:Cv.ag:=⟨1,1,0,10,3⟩
theorem ahC (d:Nat) (a b c a' b' c':Int) (w:World):(Op.equalIn (d+2) 138 (.agg #[Qa a,Qa b,Qa c]) (.agg #[Qa a',Qa b',Qa c'])).run Tryz.prog w=.ok (a==a'&&(b==b'&&c==c')) w:=by
 rw[show d+2=(d+1)+1 from rfl,Op.equalIn];simp[run_underlying Tryz.underlying138,go_sem,List.range'];by_cases h1:a=a' <;> by_cases h2:b=b' <;> by_cases h3:c=c' <;> simp[h1,h2,h3]
def Cn (a b c d e f g h a' b' c' d' e' f' g' h':Int):Bool:=a==a'&&(b==b'&&((c==c'&&(d==d'&&e==e'))&&(f==f'&&(g==g'&&h==h'))))
theorem ahD (a b c d e f g q a' b' c' d' e' f' g' q':Int) (w:World):(Op.equalIn 10000 140 (.agg #[Qa a,Qa b,Qa c,Qa d,Qa e,Qa f,Qa g,Qa q]) (.agg #[Qa a',Qa b',Qa c',Qa d',Qa e',Qa f',Qa g',Qa q'])).run Tryz.prog w=.ok (Cn a b c d e f g q a' b' c' d' e' f' g' q') w:=by
 have h:=ahC 9997;unfold Cn;simp only[Nat.reduceAdd]at h;simp[go_sem,h];by_cases h1:a=a'
 .by_cases h2:b=b'
  .by_cases h3:c=c'->d=d'->¬ e=e'
   .have k:(c==c'&&(d==d'&&e==e'))=false:=by
     rw[Bool.eq_false_iff];intro h;simp only[Bool.and_eq_true,beq_iff_eq]at h;exact h3 h.1 h.2.1 h.2.2
    rw[if_pos h1,if_pos h2,if_pos h3,k];simp
   .have k:(c==c'&&(d==d'&&e==e'))=true:=by
     simp only[Bool.and_eq_true,beq_iff_eq];exact⟨Decidable.byContradiction fun x=>h3 fun y=>absurd y x,Decidable.byContradiction fun x=>h3 fun _ y=>absurd y x,Decidable.byContradiction fun x=>h3 fun _ _=>x⟩
    rw[if_pos h1,if_pos h2,if_neg h3,k];by_cases h4:f=f'->g=g'->¬ q=q'
    .have k:(f==f'&&(g==g'&&q==q'))=false:=by
      rw[Bool.eq_false_iff];intro h;simp only[Bool.and_eq_true,beq_iff_eq]at h;exact h4 h.1 h.2.1 h.2.2
     rw[if_pos h4,k];simp
    .have k:(f==f'&&(g==g'&&q==q'))=true:=by
      simp only[Bool.and_eq_true,beq_iff_eq];exact⟨Decidable.byContradiction fun x=>h4 fun y=>absurd y x,Decidable.byContradiction fun x=>h4 fun _ y=>absurd y x,Decidable.byContradiction fun x=>h4 fun _ _=>x⟩
     rw[if_neg h4,k];simp[h1,h2]
  .simp[h1,h2]
 .simp[h1]
theorem ahE (a b c d e f g h a' b' c' d' e' f' g' h':Int) (w:World):(binOp .neq 140 (.agg #[Qa a,Qa b,Qa c,Qa d,Qa e,Qa f,Qa g,Qa h]) (.agg #[Qa a',Qa b',Qa c',Qa d',Qa e',Qa f',Qa g',Qa h'])).run Tryz.prog w=.ok (.bool (!Cn a b c d e f g h a' b' c' d' e' f' g' h')) w:=by
 rw[run_neq_struct,ahD];rfl
theorem ahF (a b c d e f g h:Int):Cn a b c d e f g h a b c d e f g h=true:=by simp[Cn]
end Go.Proofs.YtjolccidheflpaaGreatDoor
