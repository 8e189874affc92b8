/- The small functions of package purse by their contracts: grow, isClient, isBelowZero, isWell, asked. -/
import Derived.Test.YtjolccidheflpaaGreatDoorX22
import Derived.Test.YtjolccidheflpaaGreatDoorX09
namespace Go.Proofs.YtjolccidheflpaaGreatDoor
open Go.Proofs.Tryz
set_option maxHeartbeats 8000000
set_option maxRecDepth 100000
open Go.RowKit
theorem Ar(B o:Nat)(t more most:Int)(w:World)(hc:w.cell? (O B o)=some (Z t))(h0:0<=t)(h1:t<=most)(h2:most<=1099511627776)(h:most-t<more):
  Calls prog 207 #[.pointer (some (O B o)),Z more,Z most] w fun e w'=>e=.returned (.bool false)/\w'=w:=by
 go_enter func207,ntmps207;go_wp2;go_ret;exact⟨rfl,rfl⟩
theorem Au(B o:Nat)(t more most:Int)(w:World)(hc:w.cell? (O B o)=some (Z t))(hf:w.frozen? (O B o)=false)(h0:0<=t)(h1:t<=most)(h2:most<=1099511627776)(h3:0<=more)(h:¬ most-t<more):
  Calls prog 207 #[.pointer (some (O B o)),Z more,Z most] w fun e w'=>e=.returned (.bool true)/\w'=w.setCell (O B o) (Z (t+more)):=by
 go_enter func207,ntmps207;go_wp2;go_ret;exact⟨rfl,rfl⟩
theorem Xo(n:Int)(w:World):Calls prog 97 #[Z n] w fun e w'=>e=.returned (.bool (ah.aK n 0 5))/\w'=w:=by
 go_enter func97,ntmps97
 go_wp2_with fail
 refine(ib n 0 5 w).mono ?_;rintro e w2 ⟨rfl,rfl⟩;simp only[];go_wp2;go_ret;exact⟨rfl,rfl⟩
theorem Xp(a b c:Int)(w:World):(Instr.index 138 (.agg #[Z a,Z b,Z c]) (Z 0)).run prog w=.ok (Z a) w:=by kernel_rfl
theorem Xq(a b c:Int)(w:World):(Instr.index 138 (.agg #[Z a,Z b,Z c]) (Z 1)).run prog w=.ok (Z b) w:=by kernel_rfl
theorem Xr(a b c:Int)(w:World):(Instr.index 138 (.agg #[Z a,Z b,Z c]) (Z 2)).run prog w=.ok (Z c) w:=by kernel_rfl
theorem ajz(cash s0 s1 s2:Int)(w:World):Calls prog 206 #[Z cash,.agg #[Z s0,Z s1,Z s2]] w fun e w'=>e=.returned (.bool (decide (s0<0) || decide (s1<0) || decide (s2<0) || decide (cash<0)))/\U w w':=by
 have hb:Hid (U w (w.alloc (.cells #[Z s0,Z s1,Z s2] 138))):=aj;have i0:=@Xp;have i1:=@Xq;have i2:=@Xr;by_cases h0:s0<0
 .go_enter func206,ntmps206
  go_wp2;refine wp_loop_rounds 1 ?_;rw[rounds_succ];go_wp2;go_ret;exact⟨jg (by simp[h0]),hb⟩
 by_cases h1:s1<0
 .go_enter func206,ntmps206
  go_wp2;refine wp_loop_rounds 2 ?_;rw[rounds_succ];go_wp2;rw[rounds_succ];go_wp2;go_ret;exact⟨jg (by simp[h1]),hb⟩
 by_cases h2:s2<0
 .go_enter func206,ntmps206
  go_wp2;refine wp_loop_rounds 3 ?_;rw[rounds_succ];go_wp2;rw[rounds_succ];go_wp2;rw[rounds_succ];go_wp2;go_ret;exact⟨jg (by simp[h2]),hb⟩
 .have H:Hid (¬ s0<0/\¬ s1<0/\¬ s2<0):=⟨h0,h1,h2⟩
  go_enter func206,ntmps206;go_wp2;refine wp_loop_rounds 4 ?_;rw[rounds_succ];go_wp2;rw[rounds_succ];go_wp2;rw[rounds_succ];go_wp2;rw[rounds_succ];go_wp2;go_ret;exact⟨jg (by obtain⟨a,b,c⟩:=H.out;simp[show ¬ s0<0 by omega,show ¬ s1<0 by omega,show ¬ s2<0 by omega]),hb⟩
theorem Xy(x:Cv.af):Cv.qj [x] 0=Cv.ok x:=by simp[Cv.qj,Cv.nth,Cv.has]
theorem G6(item:Int)(x:Cv.af)(T:TypeId)(v1 v6 v7:Value)(w:World)(he:Hid (iV w T v1 v6 v7)):
  Calls prog 279 #[Z item,cm x] w fun e w'=>e=.returned (.bool (Pu.well item x))/\U w w':=by
 show Calls prog 279 #[Z item,.agg #[Z x.id,Z x.ai,Z x.sd,Z x.pr,Z x.q]] w _;have hb1:U w (w.alloc (.cells #[Z x.id,Z x.ai,Z x.sd,Z x.pr,Z x.q] 197)):=aj;have hb2:U w ((w.alloc (.cells #[Z x.id,Z x.ai,Z x.sd,Z x.pr,Z x.q] 197)).alloc (.cells #[Z x.id,Z x.ai,Z x.sd,Z x.pr,Z x.q] 197)):=hb1.alloc hb1.size _;have HB1:=Y hb1;have HB2:=Y hb2;have HC:=Y (J8 (w.heap.size+1) 0 1 1 [x] T v1 v6 v7 ((w.alloc (.cells #[Z x.id,Z x.ai,Z x.sd,Z x.pr,Z x.q] 197)).alloc (.cells #[Z x.id,Z x.ai,Z x.sd,Z x.pr,Z x.q] 197)) rfl (by decide) (by decide) (by
  intro i hi;have:i=0:=by simp at hi;omega
  subst this;refine⟨?_,?_,?_,?_,?_⟩ <;> simp[Cv.nth]) (he.later hb2))
 clear hb1 hb2;cases hw:ah.aK item 0 2 with
 | false =>
  have HW:Hid (Pu.well item x=false):=by show _=_;unfold Pu.well;rw[hw];rfl
  have HI:=Y (ib item 0 2 (w.alloc (.cells #[Z x.id,Z x.ai,Z x.sd,Z x.pr,Z x.q] 197)));rw[hw]at HI;clear hw;go_enter func279,ntmps279
  go_wp2_with fail
  refine HI.mono ?_;rintro e w2 ⟨rfl,rfl⟩;simp only[];go_wp2;go_ret;exact⟨jg HW.symm,HB1⟩
 | true =>
  have HW:Hid (Pu.well item x=Cv.ok x):=by show _=_;unfold Pu.well;rw[hw];rfl
  have HI:=Y (ib item 0 2 (w.alloc (.cells #[Z x.id,Z x.ai,Z x.sd,Z x.pr,Z x.q] 197)));rw[hw]at HI;clear hw;go_enter func279,ntmps279
  go_wp2_with fail
  refine HI.mono ?_;rintro e w2 ⟨rfl,rfl⟩;simp only[]
  go_wp2_with fail
  refine HC.mono ?_;rintro e w3 ⟨h3,hb3⟩;have av:Hid (U w w3):=ar HB2 hb3;rcases h3 with ⟨nx,rfl⟩ | ⟨i,B,hi,_,hno,rfl,_⟩
  .have HO:Hid (Cv.ok x=true):=by show _=_;rw[<- Xy];exact nx 0 (by decide)
   clear nx hb3;simp only[];go_wp2;go_ret;exact⟨jg (by rw[HW.out,HO.out]),av⟩
  .have HO:Hid (Cv.ok x=false):=by
    show _=_;have:i=0:=by omega
    subst this;rw[<- Xy];exact hno
   clear hno hi hb3;simp only[];go_wp2;go_ret;exact⟨jg (by rw[HW.out,HO.out]),av⟩
def dz(v:Nat->Value):Nat->Value
 | 0=>.nilIface
 | c+1=>.iface 412 (v (c+1))
structure vF (w:World) (v:Nat->Value):Prop where
 cp:iV w 412 (v 1) (v 6) (v 7)
 c9:w.cell? (O 9 0)=some (.iface 412 (v 9))
theorem vF.later{w w':World}{v:Nat->Value}(h:vF w v)(hb:U w w'):vF w' v:=⟨h.cp.later hb,cell_later hb h.c9⟩
theorem bq.iA{w w':World}{T:TypeId}{B:Nat}{f:Nat->Int}(h:bq w T B f)(hb:U w w'):bq w' T B f:=h.later hb h.lt
structure aU (w w':World) (p:Nat):Prop where
 os:w'.os=w.os
 tape:w'.tape=w.tape
 output:w'.output=w.output
 size:w.heap.size<=w'.heap.size
 block:∀k,k<w.heap.size->k≠p->w'.heap[k]?=w.heap[k]?
theorem aU.of_below{w w':World}(h:U w w')(p:Nat):aU w w' p:=⟨h.os,h.tape,h.output,h.size,fun k hk _=>h.block k hk⟩
theorem aU.trans{w w1 w2:World}{p:Nat}(h:aU w w1 p)(h1:aU w1 w2 p):aU w w2 p :=
 ⟨h1.os.trans h.os,h1.tape.trans h.tape,h1.output.trans h.output,lTq h.size h1.size,fun k hk ha=>by rw[h1.block k (Nat.lt_of_lt_of_le hk h.size) ha];exact h.block k hk ha⟩
theorem aU.below{w w':World}{p n:Nat}(h:aU w w' p)(hn:n<=w.heap.size)(hp:n<=p):Below n w w':=⟨h.os,h.tape,h.output,h.size,fun k hk=>h.block k (by omega) (by omega)⟩
theorem aU.setCell(w:World)(g o:Nat)(v:Value):aU w (w.setCell (O g o) v) g:=⟨rfl,rfl,rfl,by simp,fun k _ ha=>Below.heap_setCell _ _ _ _ ha⟩
theorem bq.save{w w':World}{T:TypeId}{B p:Nat}{f:Nat->Int}(h:bq w T B f)(hs:aU w w' p)(hne:B≠p):bq w' T B f:=(hs.block B h.lt hne).trans h
theorem CR{w w':World}{p:Nat}{a:Addr}{v:Value}(hs:aU w w' p)(h:w.cell? a=some v)(hne:a.block≠p):w'.cell? a=some v :=
 (World.cell?_of_block (hs.block a.block (bCq w a h) hne)).trans h
theorem Xu(p:Nat)(item:Int)(x:Cv.af)(f:Nat->Int)(w:World)(hp:Hid (bq w 213 p f))(hw:Hid (Pu.well item x=true)):
  Calls prog 280 #[Rw p,Z item,cm x] w fun e w'=>e=.returned (.tuple #[Z (f (Pu.bD item x)),.pointer (some ⟨p,Pu.hx item x,none⟩),Z (Pu.mu x)])/\U w w':=by
 show Calls prog 280 #[Rw p,Z item,.agg #[Z x.id,Z x.ai,Z x.sd,Z x.pr,Z x.q]] w _;obtain⟨k,rfl,hk⟩:=Pu.Du hw;obtain⟨c,hc,ju⟩:=Pu.wu hw;have hpl:=hp.lt;have hne:¬ (w.heap.size=p):=by omega
 have xE:¬ (p=w.heap.size):=by omega
 have hbd:=Cv.gB (Pu.lD hw);have pZ:=Pu.vU (Pu.lD hw);have hbW:U w (w.alloc (.cells #[Z x.id,Z c,Z x.sd,Z x.pr,Z x.q] 197)):=aj;have fR:=Y hbW;clear hbW;have hci:(c:Int)<6:=by omega
 have aT:(k:Int)<3:=by omega
 by_cases hs:x.sd=0
 .have HX:Hid (Pu.bD k x=c*8/\Pu.hx k x=c*8+1/\Pu.mu x=x.pr*x.q):=by
   refine⟨?_,?_,?_⟩
   .unfold Pu.bD;rw[if_pos hs];omega
   .unfold Pu.hx;rw[if_pos hs];omega
   .unfold Pu.mu;rw[if_pos hs]
  have hm:1<=x.pr*x.q/\x.pr*x.q<=1000000:=by rw[<- HX.out.2.2];exact pZ
  obtain⟨m1,m2⟩:=hm;have c0:=hp.cell (i:=c*8) (by omega);have mD:(x.sd==0)=true:=by simp[hs]
  clear pZ hbd hs;rw[hc];go_enter func280,ntmps280;go_wp2
  go_quiet (fail)
  go_wp2
  go_quiet (fail)
  go_wp2;refine bodyPost_ret (v:=.tuple #[Z (f (c*8)),.pointer (some ⟨p,c*8+1,none⟩),Z (x.pr*x.q)]) (by simp[results,results280,go_sem]) rfl ⟨?_,?_⟩
  .rw[HX.out.1,HX.out.2.1,HX.out.2.2]
  .exact(fR.trans ((dN _).mono fR.size)).trans ((dN _).mono (by simp))
 .have hs1:x.sd=1:=by omega
  have HX:Hid (Pu.bD k x=c*8+2+k/\Pu.hx k x=c*8+5+k/\Pu.mu x=x.q):=by
   refine⟨?_,?_,?_⟩
   .unfold Pu.bD;rw[if_neg hs];omega
   .unfold Pu.hx;rw[if_neg hs];omega
   .unfold Pu.mu;rw[if_neg hs]
  have c0:=hp.cell (i:=c*8+2+k) (by omega);have mD:(x.sd==0)=false:=by simp[hs]
  clear pZ hbd hs hs1;rw[hc];go_enter func280,ntmps280;go_wp2
  go_quiet (fail)
  go_wp2
  go_quiet (fail)
  go_wp2;refine bodyPost_ret (v:=.tuple #[Z (f (c*8+2+k)),.pointer (some ⟨p,c*8+5+k,none⟩),Z x.q]) (by simp[results,results280,go_sem]) rfl ⟨?_,?_⟩
  .rw[HX.out.1,HX.out.2.1,HX.out.2.2]
  .exact(fR.trans ((dN _).mono fR.size)).trans ((dN _).mono (by simp))
theorem ag7(p:Nat)(item:Int)(x:Cv.af)(f:Nat->Int)(v:Nat->Value)(w:World)(he:Hid (vF w v))(hp:Hid (bq w 213 p f))(hg:Hid (Pu.Good f)):
  Calls prog 248 #[Rw p,Z item,cm x] w fun e w'=>e=.returned (dz v (Pu.kJ f item x))/\bq w' 213 p (Pu.lw f item x)/\aU w w' p:=by
 show Calls prog 248 #[Rw p,Z item,.agg #[Z x.id,Z x.ai,Z x.sd,Z x.pr,Z x.q]] w _;have hbW:U w (w.alloc (.cells #[Z x.id,Z x.ai,Z x.sd,Z x.pr,Z x.q] 197)):=aj;have fR:=Y hbW;have HC:=Y (G6 item x 412 _ _ _ _ (he.later hbW).cp);have HX0:Hid ((w.alloc (.cells #[Z x.id,Z x.ai,Z x.sd,Z x.pr,Z x.q] 197)).heap[w.heap.size]?=some (.cells #[Z x.id,Z x.ai,Z x.sd,Z x.pr,Z x.q] 197 (0,0))):=hNq _ _;unfold cm at HC;clear hbW;go_enter func248,ntmps248
 go_wp2_with fail
 refine HC.mono ?_;rintro e w2 ⟨rfl,hb2⟩;have HB:Hid (U w w2):=ar fR hb2;have hX:w2.heap[w.heap.size]?=some (.cells #[Z x.id,Z x.ai,Z x.sd,Z x.pr,Z x.q] 197 (0,0)):=by rw[hb2.block _ (lBq HX0.out)];exact HX0
 have gC:=Y hX;have kQ:=Y (hp.iA HB.out);clear hb2;cases hok:Pu.well item x with
 | false =>
  have HA:Hid (Pu.kJ f item x=1/\Pu.lw f item x=f):=by
   have e:Pu.kJ f item x=1:=by unfold Pu.kJ;rw[hok];rfl
   exact⟨e,by unfold Pu.lw;rw[e];rfl⟩
  have e1:=(he.later HB).cp.c1;clear hok hX;simp only[];go_wp2;go_ret;exact⟨by rw[HA.out.1];rfl,by rw[HA.out.2];exact kQ,aU.of_below HB p⟩
 | true =>
  have kE:=Y hok;clear hok;have HQ:=Y (Xu p item x f w2 kQ kE);unfold cm at HQ;have b0:w2.cell? (O w.heap.size 0)=some (Z x.id):=by simp[World.cell?,hX]
  have b1:w2.cell? (O w.heap.size 1)=some (Z x.ai):=by simp[World.cell?,hX]
  have b2:w2.cell? (O w.heap.size 2)=some (Z x.sd):=by simp[World.cell?,hX]
  have b3:w2.cell? (O w.heap.size 3)=some (Z x.pr):=by simp[World.cell?,hX]
  have b4:w2.cell? (O w.heap.size 4)=some (Z x.q):=by simp[World.cell?,hX]
  clear hX;simp only[]
  go_wp2_with fail
  refine HQ.mono ?_;rintro e w3 ⟨rfl,hb3⟩;have av:Hid (U w w3):=ar HB hb3;have iC:=Y (kQ.iA hb3);clear hb3 b0 b1 b2 b3 b4;have ua:=Pu.G8 hg.out kE;have pZ:=Pu.vU (Pu.lD kE);have hlt:=Pu.Xg kE;have ch:=iC.cell hlt.1;have ajC:=iC.frozen (Pu.hx item x);have yw:Hid (Pu.kJ f item x=if f (Pu.bD item x)-f (Pu.hx item x)<Pu.mu x then 9 else 0):=by show _=_;unfold Pu.kJ;rw[if_pos kE.out]
  have oG:Hid (Pu.lw f item x=if Pu.kJ f item x=0 then Pu.add f (Pu.hx item x) (Pu.mu x) else f):=rfl;generalize Pu.hx item x=ih at *;generalize hft:f (Pu.bD item x)=Av at *;generalize Dw:f ih=fi at *;generalize Pu.mu x=m at *;have NU:=Y Dw;clear hft Dw;obtain⟨g0,g1,g2⟩:=ua;obtain⟨m0,m1⟩:=pZ;by_cases qU:Av-fi<m
  .have HA:Hid (Pu.kJ f item x=9/\Pu.lw f item x=f):=by
    have e:Pu.kJ f item x=9:=by rw[yw.out,if_pos qU]
    exact⟨e,by rw[oG.out,e];rfl⟩
   have e9:=(he.later av).c9;simp only[];go_wp2;go_ret;exact⟨by rw[HA.out.1];rfl,by rw[HA.out.2];exact iC,aU.of_below av p⟩
  .have HA:Hid (Pu.kJ f item x=0/\Pu.lw f item x=Pu.add f ih m):=by
    have e:Pu.kJ f item x=0:=by rw[yw.out,if_neg qU]
    exact⟨e,by rw[oG.out,e];rfl⟩
   simp only[];go_wp2;go_ret;exact⟨by rw[HA.out.1];rfl,by rw[HA.out.2];exact iC.add _ _ _ (by rw[NU.out]),(aU.of_below av p).trans (aU.setCell _ _ _ _)⟩
theorem MF(p:Nat)(item:Int)(x:Cv.af)(f:Nat->Int)(v:Nat->Value)(w:World)(he:Hid (vF w v))(hp:Hid (bq w 213 p f))(hg:Hid (Pu.Good f)):
  Calls prog 245 #[Rw p,Z item,cm x] w fun e w'=>e=.returned (dz v (Pu.iM f item x))/\bq w' 213 p (Pu.gp f item x)/\aU w w' p:=by
 show Calls prog 245 #[Rw p,Z item,.agg #[Z x.id,Z x.ai,Z x.sd,Z x.pr,Z x.q]] w _;have hbW:U w (w.alloc (.cells #[Z x.id,Z x.ai,Z x.sd,Z x.pr,Z x.q] 197)):=aj;have fR:=Y hbW;have HC:=Y (G6 item x 412 _ _ _ _ (he.later hbW).cp);have HX0:Hid ((w.alloc (.cells #[Z x.id,Z x.ai,Z x.sd,Z x.pr,Z x.q] 197)).heap[w.heap.size]?=some (.cells #[Z x.id,Z x.ai,Z x.sd,Z x.pr,Z x.q] 197 (0,0))):=hNq _ _;unfold cm at HC;clear hbW;go_enter func245,ntmps245
 go_wp2_with fail
 refine HC.mono ?_;rintro e w2 ⟨rfl,hb2⟩;have HB:Hid (U w w2):=ar fR hb2;have hX:w2.heap[w.heap.size]?=some (.cells #[Z x.id,Z x.ai,Z x.sd,Z x.pr,Z x.q] 197 (0,0)):=by rw[hb2.block _ (lBq HX0.out)];exact HX0
 have gC:=Y hX;have kQ:=Y (hp.iA HB.out);clear hb2;cases hok:Pu.well item x with
 | false =>
  have HA:Hid (Pu.iM f item x=1/\Pu.gp f item x=f):=by
   have e:Pu.iM f item x=1:=by unfold Pu.iM;rw[hok];rfl
   exact⟨e,by unfold Pu.gp;rw[e];rfl⟩
  have e1:=(he.later HB).cp.c1;clear hok hX;simp only[];go_wp2;go_ret;exact⟨by rw[HA.out.1];rfl,by rw[HA.out.2];exact kQ,aU.of_below HB p⟩
 | true =>
  have kE:=Y hok;clear hok;have HQ:=Y (Xu p item x f w2 kQ kE);unfold cm at HQ;have b0:w2.cell? (O w.heap.size 0)=some (Z x.id):=by simp[World.cell?,hX]
  have b1:w2.cell? (O w.heap.size 1)=some (Z x.ai):=by simp[World.cell?,hX]
  have b2:w2.cell? (O w.heap.size 2)=some (Z x.sd):=by simp[World.cell?,hX]
  have b3:w2.cell? (O w.heap.size 3)=some (Z x.pr):=by simp[World.cell?,hX]
  have b4:w2.cell? (O w.heap.size 4)=some (Z x.q):=by simp[World.cell?,hX]
  clear hX;simp only[]
  go_wp2_with fail
  refine HQ.mono ?_;rintro e w3 ⟨rfl,hb3⟩;have av:Hid (U w w3):=ar HB hb3;have iC:=Y (kQ.iA hb3);clear hb3 b0 b1 b2 b3 b4;have ua:=Pu.G8 hg.out kE;have pZ:=Pu.vU (Pu.lD kE);have hlt:=Pu.Xg kE;have ch:=iC.cell hlt.1;have ajC:=iC.frozen (Pu.hx item x);have yw:Hid (Pu.iM f item x=if f (Pu.hx item x)<Pu.mu x then 9 else 0):=by show _=_;unfold Pu.iM;rw[if_pos kE.out]
  have oG:Hid (Pu.gp f item x=if Pu.iM f item x=0 then Pu.add f (Pu.hx item x) (-(Pu.mu x)) else f):=rfl;generalize Pu.hx item x=ih at *;generalize hft:f (Pu.bD item x)=Av at *;generalize Dw:f ih=fi at *;generalize Pu.mu x=m at *;have NU:=Y Dw;clear hft Dw;obtain⟨g0,g1,g2⟩:=ua;obtain⟨m0,m1⟩:=pZ;by_cases qU:fi<m
  .have HA:Hid (Pu.iM f item x=9/\Pu.gp f item x=f):=by
    have e:Pu.iM f item x=9:=by rw[yw.out,if_pos qU]
    exact⟨e,by rw[oG.out,e];rfl⟩
   have e9:=(he.later av).c9;simp only[];go_wp2;go_ret;exact⟨by rw[HA.out.1];rfl,by rw[HA.out.2];exact iC,aU.of_below av p⟩
  .have HA:Hid (Pu.iM f item x=0/\Pu.gp f item x=Pu.add f ih (-m)):=by
    have e:Pu.iM f item x=0:=by rw[yw.out,if_neg qU]
    exact⟨e,by rw[oG.out,e];rfl⟩
   simp only[];go_wp2;go_ret;exact⟨by rw[HA.out.1];rfl,by rw[HA.out.2];exact iC.add _ _ _ (by rw[NU.out];omega),(aU.of_below av p).trans (aU.setCell _ _ _ _)⟩
theorem aU.setRow(w:World)(g:Nat)(c:Array Value):aU w (w.setRow g c) g:=⟨rfl,rfl,rfl,by simp[World.setRow],fun k _ ha=>setRow_other w g k c ha⟩
theorem af7(w:World):Calls prog 161 #[] w fun e w'=>e=.returned (Rw w.heap.size)/\w'=w.alloc (.cells (eT fun _=>0) 213):=by have z55:=NV;go_enter func161,ntmps161;go_wp2;go_ret;exact⟨rfl,rfl⟩
def si(f:Nat->Int)(c:Nat):Value:=.agg #[Z (f (c*8)),Z (f (c*8+1)),Z (f (c*8+2)),Z (f (c*8+3)),Z (f (c*8+4)),Z (f (c*8+5)),Z (f (c*8+6)),Z (f (c*8+7))]
def Aw(f:Nat->Int)(n:Int):Value:=if ah.aK n 0 5=true then si f n.toNat else si (fun _=>0) 0
theorem Xx(f:Nat->Int){c:Nat}(h:c<6):Aw f c=si f c:=by unfold Aw;rw[if_pos (by simp[ah.aK];omega),Int.toNat_natCast]
theorem ajN(p:Nat)(n:Int)(f:Nat->Int)(w:World)(hp:Hid (bq w 213 p f)):
  Calls prog 70 #[Rw p,Z n] w fun e w'=>e=.returned (Aw f n)/\U w w':=by
 have hbW:U w (w.alloc (.cells #[Z 0,Z 0,Z 0,Z 0,Z 0,Z 0,Z 0,Z 0] 140)):=aj;have fR:=Y hbW;have HI:=Y (Xo n (w.alloc (.cells #[Z 0,Z 0,Z 0,Z 0,Z 0,Z 0,Z 0,Z 0] 140)));clear hbW;have hpl:=hp.lt;cases hin:ah.aK n 0 5 with
 | false =>
  have HO:Hid (Aw f n=si (fun _=>0) 0):=by show _=_;unfold Aw;rw[if_neg (by rw[hin];simp)]
  rw[hin]at HI;clear hin;go_enter func70,ntmps70
  go_wp2_with fail
  refine HI.mono ?_;rintro e w2 ⟨rfl,rfl⟩;simp only[];go_wp2;refine bodyPost_ret (v:=si (fun _=>0) 0) (by simp[results,results70,go_sem,si]) rfl ⟨by rw[HO.out],?_⟩;exact fR
 | true =>
  obtain⟨c,rfl,ju⟩:∃c:Nat,n=c/\c<6:=by simp only[ah.aK,Bool.and_eq_true,decide_eq_true_eq]at hin;exact⟨n.toNat,by omega,by omega⟩
  have HO:Hid (Aw f c=si f c):=Xx f ju;rw[hin]at HI;clear hin;have hci:(c:Int)<6:=by omega
  have c0:=hp.cell (i:=c*8) (by omega);have c1:=hp.cell (i:=c*8+1) (by omega);have c2:=hp.cell (i:=c*8+2) (by omega);have c3:=hp.cell (i:=c*8+3) (by omega);have c4:=hp.cell (i:=c*8+4) (by omega);have c5:=hp.cell (i:=c*8+5) (by omega);have c6:=hp.cell (i:=c*8+6) (by omega);have c7:=hp.cell (i:=c*8+7) (by omega);have hne:¬ (w.heap.size=p):=by omega
  have xE:¬ (p=w.heap.size):=by omega
  go_enter func70,ntmps70
  go_wp2_with fail
  refine HI.mono ?_;rintro e w2 ⟨rfl,rfl⟩;simp only[];go_wp2;refine bodyPost_ret (v:=si f c) (by simp[results,results70,go_sem,si]) rfl ⟨by rw[HO.out],?_⟩;exact aj
theorem ahm(p:Nat)(f:Nat->Int)(w:World)(hp:Hid (bq w 213 p f)):
  Calls prog 261 #[Rw p] w fun e w'=>e=.returned (Rw w.heap.size)/\bq w' 213 w.heap.size f/\U w w':=by
 have z55:=NV;have HN:Hid (bq (w.alloc (.cells (eT fun _=>0) 213)) 213 w.heap.size (fun _=>0)):=bq.new w 213 _;go_enter func261,ntmps261
 go_wp2_with (first | refine NW (B:=p) (f:=f) hp rfl (.tmp 5) rfl rfl ?_ | refine Gl (B:=w.heap.size) f (f:=fun _=>0) HN rfl (.tmp 3) (.tmp 6) rfl rfl rfl ?_)
 go_ret;exact⟨rfl,HN.stored f,aU.below ((aU.of_below aj _).trans (aU.setRow _ _ _)) (E _) (E _)⟩
def UW(g:Pu.gD):Value:=.agg #[Z g.s0,Z g.s1,Z g.s2]
def jk(w:World)(B:Nat)(T:TypeId)(v0 v1 v2 v3 v4 v5 v6 v7:Int):Prop:=w.heap[B]?=some (.cells #[Z v0,Z v1,Z v2,Z v3,Z v4,Z v5,Z v6,Z v7] T (0,0))
theorem Ap{w:World}{B j:Nat}{T:TypeId}{a a':Array Value}(v:Value)(h:w.heap[B]?=some (.cells a T (0,0)))(e:a.setIfInBounds j v=a'):(w.setCell (O B j) v).heap[B]?=some (.cells a' T (0,0)):=by rw[setCell_eq_setRow w B j _ _ _ _ h,e];exact setRow_heap w B _ _ _ _ h
theorem dW{w:World}{B j:Nat}{T:TypeId}{a:Array Value}{v:Value}(h:w.heap[B]?=some (.cells a T (0,0)))(e:a[j]?=some v):w.cell? (O B j)=some v:=by rw[cR w B j _ _ _ h,e]
theorem Aq{w:World}{B j:Nat}{T:TypeId}{a:Array Value}(h:w.heap[B]?=some (.cells a T (0,0))):w.frozen? (O B j)=false:=by simp[World.frozen?,h]
theorem ajy{f:Nat->Int}{c:Nat}(cash s0 s1 s2:Int)(j:Nat):
  (if j=c*8+7 then f (c*8+7) else if j=c*8+6 then f (c*8+6) else if j=c*8+5 then f (c*8+5) else if j=c*8+4 then f (c*8+4)+s2 else if j=c*8+3 then f (c*8+3)+s1 else if j=c*8+2 then f (c*8+2)+s0 else if j=c*8+1 then f (c*8+1) else if j=c*8 then f (c*8)+cash else f j)
   = Pu.add (Pu.add (Pu.add (Pu.add f (c*8) cash) (c*8+2) s0) (c*8+3) s1) (c*8+4) s2 j:=by
 simp only[Pu.add];by_cases h7:j=c*8+7
 .subst h7;simp
 by_cases h6:j=c*8+6
 .subst h6;simp
 by_cases h5:j=c*8+5
 .subst h5;simp
 by_cases h4:j=c*8+4
 .subst h4;simp
 by_cases h3:j=c*8+3
 .subst h3;simp
 by_cases h2:j=c*8+2
 .subst h2;simp
 by_cases h1:j=c*8+1
 .subst h1;simp
 by_cases h0:j=c*8
 .subst h0;simp
 simp[h0,h1,h2,h3,h4,h5,h6,h7]
theorem agz(p:Nat)(g:Pu.gD)(f:Nat->Int)(v:Nat->Value)(w:World)(he:Hid (vF w v))(hp:Hid (bq w 213 p f))(hg:Hid (Pu.Good f)):
  Calls prog 163 #[Rw p,Z g.n,Z g.cash,UW g] w fun e w'=>e=.returned (dz v (Pu.kj f g))/\bq w' 213 p (Pu.jB f g)/\aU w w' p:=by
 show Calls prog 163 #[Rw p,Z g.n,Z g.cash,.agg #[Z g.s0,Z g.s1,Z g.s2]] w _;have hbW:U w (w.alloc (.cells #[Z g.s0,Z g.s1,Z g.s2] 138)):=aj;have fR:=Y hbW;have HI:=Y (Xo g.n (w.alloc (.cells #[Z g.s0,Z g.s1,Z g.s2] 138)));have HN:=Y (ajz g.cash g.s0 g.s1 g.s2 (w.alloc (.cells #[Z g.s0,Z g.s1,Z g.s2] 138)));have HX0:Hid ((w.alloc (.cells #[Z g.s0,Z g.s1,Z g.s2] 138)).heap[w.heap.size]?=some (.cells #[Z g.s0,Z g.s1,Z g.s2] 138 (0,0))):=hNq _ _;clear hbW;cases hin:ah.aK g.n 0 5 with
 | false =>
  have HA:Hid (Pu.kj f g=1/\Pu.jB f g=f):=by
   have e:Pu.kj f g=1:=by unfold Pu.kj Pu.gD.fine;rw[hin];rfl
   exact⟨e,by unfold Pu.jB;rw[e];rfl⟩
  have e1:=(he.later fR).cp.c1;rw[hin]at HI;clear hin;go_enter func163,ntmps163
  go_wp2_with fail
  refine HI.mono ?_;rintro e w2 ⟨rfl,rfl⟩;simp only[];go_wp2;go_ret;exact⟨by rw[HA.out.1];rfl,by rw[HA.out.2];exact hp.iA fR.out,aU.of_below fR p⟩
 | true =>
  rw[hin]at HI;have NQ:=Y hin;clear hin;cases yt:g.neg with
  | true =>
   have HA:Hid (Pu.kj f g=1/\Pu.jB f g=f):=by
    have e:Pu.kj f g=1:=by unfold Pu.kj Pu.gD.fine;rw[yt,NQ.out];rfl
    exact⟨e,by unfold Pu.jB;rw[e];rfl⟩
   rw[show (decide (g.s0<0) || decide (g.s1<0) || decide (g.s2<0) || decide (g.cash<0))=true from yt]at HN;clear yt;go_enter func163,ntmps163
   go_wp2_with fail
   refine HI.mono ?_;rintro e w2 ⟨rfl,rfl⟩;simp only[]
   go_wp2_with fail
   refine HN.mono ?_;rintro e w3 ⟨rfl,hb3⟩;have av:Hid (U w w3):=ar fR hb3;have e1:=(he.later av).cp.c1;clear hb3;simp only[];go_wp2;go_ret;exact⟨by rw[HA.out.1];rfl,by rw[HA.out.2];exact hp.iA av.out,aU.of_below av p⟩
  | false =>
   rw[show (decide (g.s0<0) || decide (g.s1<0) || decide (g.s2<0) || decide (g.cash<0))=false from yt]at HN;have HF:Hid (g.fine=true):=by show _=_;unfold Pu.gD.fine;rw[NQ.out,yt];rfl
   obtain⟨c,hc,ju⟩:∃c:Nat,g.n=c/\c<6:=by
    have:=NQ.out
    simp only[ah.aK,Bool.and_eq_true,decide_eq_true_eq]at this;exact⟨g.n.toNat,by omega,by omega⟩
   have hpos:0<=g.s0/\0<=g.s1/\0<=g.s2/\0<=g.cash:=by simp only[Pu.gD.neg,Bool.or_eq_false_iff,decide_eq_false_iff_not]at yt;omega
   clear yt;obtain⟨p0,p1,p2,p3⟩:=hpos;have hci:(c:Int)<6:=by omega
   have g1:=hg.cash c ju;have g2:=hg.stock c 0 ju (by decide);have g3:=hg.stock c 1 ju (by decide);have g4:=hg.stock c 2 ju (by decide);simp only[Nat.add_zero,Nat.add_assoc,Nat.reduceAdd]at g1 g2 g3 g4;have kQ:=hp.iA fR.out;rw[hc]at HI ⊢;have i0:=@Xp;have i1:=@Xq;have i2:=@Xr;go_enter func163,ntmps163
   go_wp2_with fail
   refine HI.mono ?_;rintro e w2 ⟨rfl,rfl⟩;simp only[]
   go_wp2_with fail
   refine HN.mono ?_;rintro e w3 ⟨rfl,hb3⟩;have av:Hid (U w w3):=ar fR hb3;have hX:w3.heap[w.heap.size]?=some (.cells #[Z g.s0,Z g.s1,Z g.s2] 138 (0,0)):=by rw[hb3.block _ (lBq HX0.out)];exact HX0
   have yu:=hp.iA av.out;have iC:=Y yu;have x0:w3.cell? (O w.heap.size 0)=some (Z g.s0):=by simp[World.cell?,hX]
   have x1:w3.cell? (O w.heap.size 1)=some (Z g.s1):=by simp[World.cell?,hX]
   have x2:w3.cell? (O w.heap.size 2)=some (Z g.s2):=by simp[World.cell?,hX]
   have HX:=Y (And.intro x0 (And.intro x1 x2));clear x0 x1 x2;have nx:w.heap.size<w3.heap.size:=lBq hX;have hpl:p<w3.heap.size:=yu.lt;have NR:Hid (∀w' a0 a2 a3 a4,bq w' 213 p f->a0=f (c*8)+g.cash->a2=f (c*8+2)+g.s0->a3=f (c*8+3)+g.s1->a4=f (c*8+4)+g.s2 ->
     bq ((((((((w'.setCell ⟨p,c*8,none⟩ (Z a0)).setCell ⟨p,c*8+1,none⟩ (Z (f (c*8+1)))).setCell ⟨p,c*8+2,none⟩ (Z a2)).setCell ⟨p,c*8+3,none⟩ (Z a3)).setCell ⟨p,c*8+4,none⟩ (Z a4)).setCell ⟨p,c*8+5,none⟩ (Z (f (c*8+5)))).setCell ⟨p,c*8+6,none⟩ (Z (f (c*8+6)))).setCell ⟨p,c*8+7,none⟩ (Z (f (c*8+7)))) 213 p
      (Pu.add (Pu.add (Pu.add (Pu.add f (c*8) g.cash) (c*8+2) g.s0) (c*8+3) g.s1) (c*8+4) g.s2)):=by
    intro w' a0 a2 a3 a4 h e0 e2 e3 e4;subst e0 e2 e3 e4;exact(h.ajA c _ _ _ _ _ _ _ _).congr fun j _=>ajy _ _ _ _ j
   have t7:Hid (g.over f=(decide (1099511627776-f (c*8)<g.cash) || decide (1073741824-f (c*8+2)<g.s0) || decide (1073741824-f (c*8+3)<g.s1) || decide (1073741824-f (c*8+4)<g.s2))):=by show _=_;unfold Pu.gD.over;rw[hc,Int.toNat_natCast]
   have wy:Hid (g.over f=true->Pu.kj f g=7/\Pu.jB f g=f):=fun h=>by
    have e:Pu.kj f g=7:=by unfold Pu.kj;rw[if_pos HF.out,if_pos h]
    exact⟨e,by unfold Pu.jB;rw[e];rfl⟩
   have Xt:Hid (g.over f=false->Pu.kj f g=0/\Pu.jB f g=Pu.add (Pu.add (Pu.add (Pu.add f (c*8) g.cash) (c*8+2) g.s0) (c*8+3) g.s1) (c*8+4) g.s2):=fun h=>by
    have e:Pu.kj f g=0:=by unfold Pu.kj;rw[if_pos HF.out,if_neg (by rw[h];simp)]
    exact⟨e,by unfold Pu.jB;rw[if_pos e,hc,Int.toNat_natCast]⟩
   have NS:Hid (∀w',U w3 w'->(∀i,i<48->w'.cell? (O p i)=some (Z (f i)))/\∀i,w'.frozen? (O p i)=false):=fun w' hb=>⟨fun i hi=>(yu.iA hb).cell hi,fun i=>(yu.iA hb).frozen i⟩;have hcl:=(NS w3 (bRq _ _)).1;have c0:=hcl (c*8) (by omega);have c1:=hcl (c*8+1) (by omega);have c2:=hcl (c*8+2) (by omega);have c3:=hcl (c*8+3) (by omega);have c4:=hcl (c*8+4) (by omega);have c5:=hcl (c*8+5) (by omega);have c6:=hcl (c*8+6) (by omega);have c7:=hcl (c*8+7) (by omega);clear hb3 hX yu hcl;generalize f (c*8)=u0 at *;generalize f (c*8+1)=u1 at *;generalize f (c*8+2)=u2 at *;generalize f (c*8+3)=u3 at *;generalize f (c*8+4)=u4 at *;generalize f (c*8+5)=u5 at *;generalize f (c*8+6)=u6 at *;generalize f (c*8+7)=u7 at *;generalize ajB:g.cash=ca at *;generalize hs0:g.s0=s0 at *;generalize hs1:g.s1=s1 at *;generalize hs2:g.s2=s2 at *;clear ajB hs0 hs1 hs2;have HH:Hid ((w3.alloc (.cells #[Z u0,Z u1,Z u2,Z u3,Z u4,Z u5,Z u6,Z u7] 140)).heap[w3.heap.size]?=some (.cells #[Z u0,Z u1,Z u2,Z u3,Z u4,Z u5,Z u6,Z u7] 140 (0,0))):=hNq _ _;have dY:Hid (U w3 (w3.alloc (.cells #[Z u0,Z u1,Z u2,Z u3,Z u4,Z u5,Z u6,Z u7] 140))):=aj;simp only[]
   go_wp2_with fail
   clear c0 c1 c2 c3 c4 c5 c6 c7;generalize w3.alloc (.cells #[Z u0,Z u1,Z u2,Z u3,Z u4,Z u5,Z u6,Z u7] 140)=w4 at *;by_cases o0:1099511627776-u0<ca
   .have HO:Hid (g.over f=true):=by show _=_;rw[t7.out];simp[o0]
    refine(Ar w3.heap.size 0 u0 ca 1099511627776 w4 (dW HH rfl) (by omega) (by omega) (by omega) o0).mono ?_;rintro e aD ⟨rfl,rfl⟩;have cA:Hid (U w aD):=ar av dY;have e7:=(he.later cA).cp.c7;simp only[];go_wp2;go_ret;exact⟨by rw[(wy.out HO.out).1];rfl,by rw[(wy.out HO.out).2];exact iC.iA dY.out,aU.of_below cA p⟩
   refine(Au w3.heap.size 0 u0 ca 1099511627776 w4 (dW HH rfl) (Aq HH) (by omega) (by omega) (by omega) (by omega) o0).mono ?_;rintro e aI ⟨rfl,lA⟩;have HH0:Hid (aI.heap[w3.heap.size]?=some (.cells #[Z (u0+ca),Z u1,Z u2,Z u3,Z u4,Z u5,Z u6,Z u7] 140 (0,0))):=by rw[lA];exact Ap _ HH rfl
   have atw:Hid (U w3 aI):=by rw[lA];exact dY.setCell (E _) _
   clear lA
   rename Hid (aI.heap[w3.heap.size]?=_)=>HH
   rename Hid (U w3 aI)=>dY
   simp only[];have x0:=cell_later dY HX.1;have x1:=cell_later dY HX.2.1;have x2:=cell_later dY HX.2.2
   go_wp2_with fail
   clear x0 x1 x2;refine wp_loop_rounds 4 ?_;rw[rounds_succ]
   go_wp2_with fail
   by_cases o1:1073741824-u2<s0
   .have HO:Hid (g.over f=true):=by show _=_;rw[t7.out];simp[o1]
    refine(Ar w3.heap.size 2 u2 s0 1073741824 aI (dW HH rfl) (by omega) (by omega) (by omega) o1).mono ?_;rintro e aD ⟨rfl,rfl⟩;have cA:Hid (U w aD):=ar av dY;have e7:=(he.later cA).cp.c7;simp only[];go_wp2;go_ret;exact⟨by rw[(wy.out HO.out).1];rfl,by rw[(wy.out HO.out).2];exact iC.iA dY.out,aU.of_below cA p⟩
   refine(Au w3.heap.size 2 u2 s0 1073741824 aI (dW HH rfl) (Aq HH) (by omega) (by omega) (by omega) (by omega) o1).mono ?_;rintro e aA ⟨rfl,G9⟩;have Dv:Hid (aA.heap[w3.heap.size]?=some (.cells #[Z (u0+ca),Z u1,Z (u2+s0),Z u3,Z u4,Z u5,Z u6,Z u7] 140 (0,0))):=by rw[G9];exact Ap _ HH rfl
   have atx:Hid (U w3 aA):=by rw[G9];exact dY.setCell (E _) _
   clear G9
   rename Hid (aA.heap[w3.heap.size]?=_)=>HH
   rename Hid (U w3 aA)=>dY
   simp only[]
   go_wp2_with fail
   rw[rounds_succ]
   go_wp2_with fail
   by_cases o2:1073741824-u3<s1
   .have HO:Hid (g.over f=true):=by show _=_;rw[t7.out];simp[o2]
    refine(Ar w3.heap.size 3 u3 s1 1073741824 aA (dW HH rfl) (by omega) (by omega) (by omega) o2).mono ?_;rintro e aD ⟨rfl,rfl⟩;have cA:Hid (U w aD):=ar av dY;have e7:=(he.later cA).cp.c7;simp only[];go_wp2;go_ret;exact⟨by rw[(wy.out HO.out).1];rfl,by rw[(wy.out HO.out).2];exact iC.iA dY.out,aU.of_below cA p⟩
   refine(Au w3.heap.size 3 u3 s1 1073741824 aA (dW HH rfl) (Aq HH) (by omega) (by omega) (by omega) (by omega) o2).mono ?_;rintro e dH ⟨rfl,rM⟩;have aty:Hid (dH.heap[w3.heap.size]?=some (.cells #[Z (u0+ca),Z u1,Z (u2+s0),Z (u3+s1),Z u4,Z u5,Z u6,Z u7] 140 (0,0))):=by rw[rM];exact Ap _ HH rfl
   have atz:Hid (U w3 dH):=by rw[rM];exact dY.setCell (E _) _
   clear rM
   rename Hid (dH.heap[w3.heap.size]?=_)=>HH
   rename Hid (U w3 dH)=>dY
   simp only[]
   go_wp2_with fail
   rw[rounds_succ]
   go_wp2_with fail
   by_cases o3:1073741824-u4<s2
   .have HO:Hid (g.over f=true):=by show _=_;rw[t7.out];simp[o3]
    refine(Ar w3.heap.size 4 u4 s2 1073741824 dH (dW HH rfl) (by omega) (by omega) (by omega) o3).mono ?_;rintro e aD ⟨rfl,rfl⟩;have cA:Hid (U w aD):=ar av dY;have e7:=(he.later cA).cp.c7;simp only[];go_wp2;go_ret;exact⟨by rw[(wy.out HO.out).1];rfl,by rw[(wy.out HO.out).2];exact iC.iA dY.out,aU.of_below cA p⟩
   refine(Au w3.heap.size 4 u4 s2 1073741824 dH (dW HH rfl) (Aq HH) (by omega) (by omega) (by omega) (by omega) o3).mono ?_;rintro e fJ ⟨rfl,NT⟩;have atA:Hid (fJ.heap[w3.heap.size]?=some (.cells #[Z (u0+ca),Z u1,Z (u2+s0),Z (u3+s1),Z (u4+s2),Z u5,Z u6,Z u7] 140 (0,0))):=by rw[NT];exact Ap _ HH rfl
   have atB:Hid (U w3 fJ):=by rw[NT];exact dY.setCell (E _) _
   clear NT
   rename Hid (fJ.heap[w3.heap.size]?=_)=>HH
   rename Hid (U w3 fJ)=>dY
   simp only[]
   go_wp2_with fail
   rw[rounds_succ]
   go_wp2_with fail
   have HO:Hid (g.over f=false):=by show _=_;rw[t7.out];simp[o0,o1,o2,o3]
   have d0:fJ.cell? (O w3.heap.size 0)=some (Z (u0+ca)):=dW HH rfl;have d1:fJ.cell? (O w3.heap.size 1)=some (Z (u1)):=dW HH rfl;have d2:fJ.cell? (O w3.heap.size 2)=some (Z (u2+s0)):=dW HH rfl;have d3:fJ.cell? (O w3.heap.size 3)=some (Z (u3+s1)):=dW HH rfl;have d4:fJ.cell? (O w3.heap.size 4)=some (Z (u4+s2)):=dW HH rfl;have d5:fJ.cell? (O w3.heap.size 5)=some (Z (u5)):=dW HH rfl;have lO:fJ.cell? (O w3.heap.size 6)=some (Z (u6)):=dW HH rfl;have t_:fJ.cell? (O w3.heap.size 7)=some (Z (u7)):=dW HH rfl;have hfz:=fun i=>(NS _ dY).2 i;have hcl:=(NS _ dY).1;have c0:=hcl (c*8) (by omega);have c1:=hcl (c*8+1) (by omega);have c2:=hcl (c*8+2) (by omega);have c3:=hcl (c*8+3) (by omega);have c4:=hcl (c*8+4) (by omega);have c5:=hcl (c*8+5) (by omega);have c6:=hcl (c*8+6) (by omega);have c7:=hcl (c*8+7) (by omega);have z0:=hfz (c*8);have dw:=hfz (c*8+1);have z2:=hfz (c*8+2);have z3:=hfz (c*8+3);have z4:=hfz (c*8+4);have z5:=hfz (c*8+5);have zD:=hfz (c*8+6);have zE:=hfz (c*8+7);clear hfz hcl;refine jO 6 (by kernel_rfl) (by kernel_rfl) ?_;simp only[List.take_succ_cons,List.take_zero,List.drop_succ_cons,List.drop_zero]
   repeat (first | go_big_quiet_step (fail) | quiet_step (fail))
   refine wpQuiet_nil ?_;intro _ hw';obtain⟨nq,hw''⟩:=hw';subst hw'';go_wp2;go_ret;have lU:U w (fJ.drewN nq):=(ar av dY).trans ((dN nq).mono (ar av dY).size);refine⟨by rw[(Xt.out HO.out).1];rfl,by rw[(Xt.out HO.out).2];exact NR _ _ _ _ _ ((iC.iA dY.out).drew nq) rfl rfl rfl rfl,?_⟩;exact((((((((aU.of_below lU p).trans (aU.setCell _ _ _ _)).trans (aU.setCell _ _ _ _)).trans (aU.setCell _ _ _ _)).trans (aU.setCell _ _ _ _)).trans (aU.setCell _ _ _ _)).trans (aU.setCell _ _ _ _)).trans (aU.setCell _ _ _ _)).trans (aU.setCell _ _ _ _)
structure zQ (w:World) (v:Nat->Value):Prop where
 per:vF w v
 c2:w.cell? (O 3 0)=some (.iface 412 (v 2))
 c11:w.cell? (O 11 0)=some (.iface 412 (v 11))
theorem zQ.later{w w':World}{v:Nat->Value}(h:zQ w v)(hb:U w w'):zQ w' v:=⟨h.per.later hb,cell_later hb h.c2,cell_later hb h.c11⟩
def tY(x:Cv.af):Array Value:=#[Z x.id,Z x.ai,Z x.sd,Z x.pr,Z x.q]
theorem ajw(item:Int)(b s:Cv.af)(price qty:Int)(v:Nat->Value)(w:World)(he:Hid (zQ w v)):
  Calls prog 307 #[Z item,cm b,cm s,Z price,Z qty] w fun e w'=>e=.returned (dz v (Pu.mN item b s price qty))/\U w w':=by
 show Calls prog 307 #[Z item,.agg #[Z b.id,Z b.ai,Z b.sd,Z b.pr,Z b.q],.agg #[Z s.id,Z s.ai,Z s.sd,Z s.pr,Z s.q],Z price,Z qty] w _;obtain⟨W,gN⟩:=aG ((w.alloc (.cells #[Z b.id,Z b.ai,Z b.sd,Z b.pr,Z b.q] 197)).alloc (.cells #[Z s.id,Z s.ai,Z s.sd,Z s.pr,Z s.q] 197));have hb1:U w (w.alloc (.cells #[Z b.id,Z b.ai,Z b.sd,Z b.pr,Z b.q] 197)):=aj;have hb2:U w W:=by rw[<- gN];exact hb1.alloc hb1.size _
 have qg:W.heap[w.heap.size]?=some (.cells (tY b) 197 (0,0)):=by rw[<- gN];exact(Below.heap_alloc _ _ _ (by simp)).trans (hNq _ _)
 have nt:W.heap[w.heap.size+1]?=some (.cells (tY s) 197 (0,0)):=by
  rw[<- gN]
  have:=hNq (w.alloc (.cells #[Z b.id,Z b.ai,Z b.sd,Z b.pr,Z b.q] 197)) (.cells #[Z s.id,Z s.ai,Z s.sd,Z s.pr,Z s.q] 197)
  rw[show (w.alloc (.cells #[Z b.id,Z b.ai,Z b.sd,Z b.pr,Z b.q] 197)).heap.size=w.heap.size+1 by simp]at this;exact this
 have HX0:=Y qg;have kD:=Y nt;have fR:=Y hb2;have HC:=Y (G6 item b 412 _ _ _ W (he.later hb2).per.cp);unfold cm at HC;have mC:=Y gN;clear hb1 hb2 qg nt gN;go_enter func307,ntmps307
 go_wp2_with fail
 rw[mC.out];refine HC.mono ?_;rintro e w2 ⟨rfl,hb2⟩;have HB:Hid (U w w2):=ar fR hb2;have HX:=Y ((hb2.block _ (lBq HX0)).trans HX0);have fT:=Y ((hb2.block _ (lBq kD)).trans kD);clear hb2;cases sY:Pu.well item b with
 | false =>
  have HA:Hid (Pu.mN item b s price qty=1):=by show _=_;unfold Pu.mN;rw[if_neg (by rw[sY];simp)]
  have e1:=(he.later HB).per.cp.c1;clear sY;simp only[];go_wp2;go_ret;exact⟨by rw[HA.out];rfl,HB⟩
 | true =>
  have zy:=Y sY;clear sY;have HC:=Y (G6 item s 412 _ _ _ w2 (he.later HB).per.cp);unfold cm at HC;have s0:w2.cell? ⟨w.heap.size+1,0,none⟩=some (Z s.id):=dW fT rfl;have s1:w2.cell? ⟨w.heap.size+1,1,none⟩=some (Z s.ai):=dW fT rfl;have s2:w2.cell? ⟨w.heap.size+1,2,none⟩=some (Z s.sd):=dW fT rfl;have s3:w2.cell? ⟨w.heap.size+1,3,none⟩=some (Z s.pr):=dW fT rfl;have r7:w2.cell? ⟨w.heap.size+1,4,none⟩=some (Z s.q):=dW fT rfl;simp only[]
  go_wp2_with fail
  refine HC.mono ?_;rintro e w3 ⟨rfl,hb3⟩;have av:Hid (U w w3):=ar HB hb3;have gC:=Y ((hb3.block _ (lBq HX)).trans HX);have NM:=Y ((hb3.block _ (lBq fT)).trans fT);clear hb3 s0 s1 s2 s3 r7;have HE:=Y (he.later av);cases G7:Pu.well item s with
  | false =>
   have HA:Hid (Pu.mN item b s price qty=1):=by show _=_;unfold Pu.mN;rw[if_neg (by rw[G7];simp)]
   have e1:=HE.per.cp.c1;clear G7;simp only[];go_wp2;go_ret;exact⟨by rw[HA.out];rfl,av⟩
  | true =>
   have Xc:=Y G7;clear G7;have HT:Hid (Pu.mN item b s price qty=if b.sd=0/\s.sd=1 then (if (1<=price/\price<=1000)/\1<=qty/\qty<=b.q/\qty<=s.q then (if s.pr<=price/\price<=b.pr then 0 else 11) else 1) else 2):=by show _=_;unfold Pu.mN;rw[if_pos ⟨zy.out,Xc.out⟩]
   have Gb:=(Cv.gB (Pu.lD zy)).2.2.2.2;have Gy:=(Cv.gB (Pu.lD Xc)).2.2.2.2;have b2:w3.cell? (O w.heap.size 2)=some (Z b.sd):=dW gC rfl;have b3:w3.cell? (O w.heap.size 3)=some (Z b.pr):=dW gC rfl;have b4:w3.cell? (O w.heap.size 4)=some (Z b.q):=dW gC rfl;have s2:w3.cell? ⟨w.heap.size+1,2,none⟩=some (Z s.sd):=dW NM rfl;have s3:w3.cell? ⟨w.heap.size+1,3,none⟩=some (Z s.pr):=dW NM rfl;have r7:w3.cell? ⟨w.heap.size+1,4,none⟩=some (Z s.q):=dW NM rfl;obtain⟨R,hR⟩:=aG (Pu.mN item b s price qty);have HR:=Y hR;rw[hR]at HT;clear hR;generalize b.sd=Xd at *;generalize b.pr=tZ at *;generalize b.q=yq at *;generalize s.sd=Xe at *;generalize s.pr=t6 at *;generalize s.q=sq at *;have c1:=HE.per.cp.c1;have c2:=HE.c2;have c11:=HE.c11;by_cases kT:Xd=0
   .by_cases oU:Xe=1
    .have HT2:Hid (R=if (1<=price/\price<=1000)/\1<=qty/\qty<=yq/\qty<=sq then (if t6<=price/\price<=tZ then 0 else 11) else 1):=by show _=_;rw[HT.out,if_pos ⟨kT,oU⟩]
     subst kT oU;have HP:=Y (ib price 1 1000 w3);cases yr:ah.aK price 1 1000 with
     | false =>
      rw[yr]at HP;have HA:Hid (R=1):=by show _=_;rw[HT2.out,if_neg];rintro⟨h,_⟩;rw[show ah.aK price 1 1000=true by simp[ah.aK,h.1,h.2]]at yr;cases yr
      clear yr;simp only[]
      go_wp2_with fail
      refine HP.mono ?_;rintro e w4 ⟨rfl,rfl⟩;simp only[];go_wp2;go_ret;exact⟨by rw[HR.out,HA.out];rfl,av⟩
     | true =>
      rw[yr]at HP;have Xf:Hid (1<=price/\price<=1000):=by
       have:=yr
       simp only[ah.aK,Bool.and_eq_true,decide_eq_true_eq]at this;exact this
      clear yr;simp only[]
      go_wp2_with fail
      refine HP.mono ?_;rintro e w4 ⟨rfl,rfl⟩;simp only[];by_cases hmn:sq<yq
      .cases kU:ah.aK qty 1 sq with
       | false =>
        have HA:Hid (R=1):=by show _=_;rw[HT2.out,if_neg];rintro⟨_,h1,h2,h3⟩;rw[show ah.aK qty 1 sq=true by simp only[ah.aK,Bool.and_eq_true,decide_eq_true_eq];omega]at kU;cases kU
        have HQ:=Y (ib qty 1 sq w4);rw[kU]at HQ;clear kU
        go_wp2_with fail
        refine HQ.mono ?_;rintro e aI ⟨rfl,rfl⟩;simp only[];go_wp2;go_ret;exact⟨by rw[HR.out,HA.out];rfl,av⟩
       | true =>
        have HT3:Hid (R=if t6<=price/\price<=tZ then 0 else 11):=by
         have:=kU
         simp only[ah.aK,Bool.and_eq_true,decide_eq_true_eq]at this;show _=_;rw[HT2.out,if_pos ⟨Xf.out,by omega,by omega,by omega⟩]
        have HQ:=Y (ib qty 1 sq w4);rw[kU]at HQ;clear kU
        go_wp2_with fail
        refine HQ.mono ?_;rintro e aI ⟨rfl,rfl⟩;simp only[];have HO:=Y (ib price t6 tZ aI);cases kV:ah.aK price t6 tZ with
        | false =>
         have HA:Hid (R=11):=by show _=_;rw[HT3.out,if_neg];rintro⟨h1,h2⟩;rw[show ah.aK price t6 tZ=true by simp[ah.aK,h1,h2]]at kV;cases kV
         rw[kV]at HO;clear kV
         go_wp2_with fail
         refine HO.mono ?_;rintro e aA ⟨rfl,rfl⟩;simp only[];go_wp2;go_ret;exact⟨by rw[HR.out,HA.out];rfl,av⟩
        | true =>
         have HA:Hid (R=0):=by
          have:=kV
          simp only[ah.aK,Bool.and_eq_true,decide_eq_true_eq]at this;show _=_;rw[HT3.out,if_pos this]
         rw[kV]at HO;clear kV
         go_wp2_with fail
         refine HO.mono ?_;rintro e aA ⟨rfl,rfl⟩;simp only[];go_wp2;go_ret;exact⟨by rw[HR.out,HA.out];rfl,av⟩
      .have atu:yq<=sq:=by omega
       cases kU:ah.aK qty 1 yq with
       | false =>
        have HA:Hid (R=1):=by show _=_;rw[HT2.out,if_neg];rintro⟨_,h1,h2,h3⟩;rw[show ah.aK qty 1 yq=true by simp only[ah.aK,Bool.and_eq_true,decide_eq_true_eq];omega]at kU;cases kU
        have HQ:=Y (ib qty 1 yq w4);rw[kU]at HQ;clear kU
        go_wp2_with fail
        refine HQ.mono ?_;rintro e aI ⟨rfl,rfl⟩;simp only[];go_wp2;go_ret;exact⟨by rw[HR.out,HA.out];rfl,av⟩
       | true =>
        have HT3:Hid (R=if t6<=price/\price<=tZ then 0 else 11):=by
         have:=kU
         simp only[ah.aK,Bool.and_eq_true,decide_eq_true_eq]at this;show _=_;rw[HT2.out,if_pos ⟨Xf.out,by omega,by omega,by omega⟩]
        have HQ:=Y (ib qty 1 yq w4);rw[kU]at HQ;clear kU
        go_wp2_with fail
        refine HQ.mono ?_;rintro e aI ⟨rfl,rfl⟩;simp only[];have HO:=Y (ib price t6 tZ aI);cases kV:ah.aK price t6 tZ with
        | false =>
         have HA:Hid (R=11):=by show _=_;rw[HT3.out,if_neg];rintro⟨h1,h2⟩;rw[show ah.aK price t6 tZ=true by simp[ah.aK,h1,h2]]at kV;cases kV
         rw[kV]at HO;clear kV
         go_wp2_with fail
         refine HO.mono ?_;rintro e aA ⟨rfl,rfl⟩;simp only[];go_wp2;go_ret;exact⟨by rw[HR.out,HA.out];rfl,av⟩
        | true =>
         have HA:Hid (R=0):=by
          have:=kV
          simp only[ah.aK,Bool.and_eq_true,decide_eq_true_eq]at this;show _=_;rw[HT3.out,if_pos this]
         rw[kV]at HO;clear kV
         go_wp2_with fail
         refine HO.mono ?_;rintro e aA ⟨rfl,rfl⟩;simp only[];go_wp2;go_ret;exact⟨by rw[HR.out,HA.out];rfl,av⟩
    .have HA:Hid (R=2):=by show _=_;rw[HT.out,if_neg (by rintro⟨h1,h2⟩;first | exact kT h1 | exact oU h2)]
     have atv:(Xe==1)=false:=by simp[oU]
     subst kT;simp only[];go_wp2;go_ret;exact⟨by rw[HR.out,HA.out];rfl,av⟩
   .have HA:Hid (R=2):=by show _=_;rw[HT.out,if_neg (by rintro⟨h1,h2⟩;first | exact kT h1 | exact oU h2)]
    have qT:(Xd==0)=false:=by simp[kT]
    simp only[];go_wp2;go_ret;exact⟨by rw[HR.out,HA.out];rfl,av⟩
theorem ajO{ops:Array Oper}{rest:List Oper}{op:Oper}{a:Act}{w:World}{Q:Exit->Act->World->Prop}{B:Nat}{f:Nat->Int}(g:Nat->Int)(W':World)(h:bq w 213 B f)(hW:w.setRow B (eT g)=W')(hgd:op.guard=none)(x y:Operand)(ho:op.op=.store 213 x y)(hx:a.eval x=.pointer (some ⟨B,0,none⟩))(hy:a.eval y=.agg (eT g))(k:wpList prog ops Q rest (a.put op.dst undef) W'):wpList prog ops Q (op::rest) a w:=by subst hW;exact Gl g h hgd x y ho hx hy k
theorem VF(p:Nat)(item:Int)(b s:Cv.af)(price qty:Int)(f:Nat->Int)(v:Nat->Value)(w:World)(he:Hid (zQ w v))(hp:Hid (bq w 213 p f))(hg:Hid (Pu.Good f)):
  Calls prog 290 #[.pointer (some ⟨p,0,none⟩),.int .i64 item,cm b,cm s,.int .i64 price,.int .i64 qty] w fun e w'=>e=.returned (dz v (Pu.i7 f item b s price qty))/\bq w' 213 p (Pu.jU f item b s price qty)/\aU w w' p:=by
 show Calls prog 290 #[.pointer (some ⟨p,0,none⟩),.int .i64 item,.agg #[.int .i64 b.id,.int .i64 b.ai,.int .i64 b.sd,.int .i64 b.pr,.int .i64 b.q],.agg #[.int .i64 s.id,.int .i64 s.ai,.int .i64 s.sd,.int .i64 s.pr,.int .i64 s.q],.int .i64 price,.int .i64 qty] w _;obtain⟨W,gN⟩:=aG ((w.alloc (.cells #[.int .i64 b.id,.int .i64 b.ai,.int .i64 b.sd,.int .i64 b.pr,.int .i64 b.q] 197)).alloc (.cells #[.int .i64 s.id,.int .i64 s.ai,.int .i64 s.sd,.int .i64 s.pr,.int .i64 s.q] 197));have hb1:Below w.heap.size w (w.alloc (.cells #[.int .i64 b.id,.int .i64 b.ai,.int .i64 b.sd,.int .i64 b.pr,.int .i64 b.q] 197)):=aj;have hb2:Below w.heap.size w W:=by rw[<- gN];exact hb1.alloc hb1.size _
 have qg:W.heap[w.heap.size]?=some (.cells (tY b) 197 (0,0)):=by rw[<- gN];exact(Below.heap_alloc _ _ _ (by simp)).trans (hNq _ _)
 have nt:W.heap[w.heap.size+1]?=some (.cells (tY s) 197 (0,0)):=by
  rw[<- gN]
  have:=hNq (w.alloc (.cells #[.int .i64 b.id,.int .i64 b.ai,.int .i64 b.sd,.int .i64 b.pr,.int .i64 b.q] 197)) (.cells #[.int .i64 s.id,.int .i64 s.ai,.int .i64 s.sd,.int .i64 s.pr,.int .i64 s.q] 197)
  rw[show (w.alloc (.cells #[.int .i64 b.id,.int .i64 b.ai,.int .i64 b.sd,.int .i64 b.pr,.int .i64 b.q] 197)).heap.size=w.heap.size+1 by simp]at this;exact this
 have HX0:=Y qg;have kD:=Y nt;have fR:=Y hb2;have HC:=Y (ajw item b s price qty v W (he.later hb2));unfold cm at HC;have mC:=Y gN;have hpl:=hp.lt;clear hb1 hb2 qg nt gN;go_enter func290,ntmps290
 go_wp2_with fail
 rw[mC.out];refine HC.mono ?_;rintro e w2 ⟨rfl,hb2⟩;have HB:Hid (Below w.heap.size w w2):=ar fR hb2;have HX:=Y ((hb2.block _ (lBq HX0)).trans HX0);have fT:=Y ((hb2.block _ (lBq kD)).trans kD);clear hb2;obtain⟨R,hR⟩:=aG (Pu.mN item b s price qty);by_cases h0:R=0
 .have HT:Hid (Pu.i7 f item b s price qty=if Pu.oP f b.ai.toNat s.ai.toNat item.toNat b.pr qty=true then 9 else if Pu.over f b.ai.toNat s.ai.toNat item.toNat price qty=true then 7 else 0):=by
   show _=_;unfold Pu.i7;rw[if_pos (hR.trans h0)]
  have HF:Hid (Pu.jU f item b s price qty=if Pu.i7 f item b s price qty=0 then Pu.six f b.ai.toNat s.ai.toNat item.toNat b.pr price qty else f):=rfl;have hr:=Pu.Xl (hR.trans h0);rw[hR,h0];obtain⟨k,rfl,hk⟩:=Pu.Du hr.dm;obtain⟨cb,hcb,XA⟩:=Pu.wu hr.dm;obtain⟨cs,hcs,XB⟩:=Pu.wu hr.ws;have hm:=hr.Xm;have oL:=Y hr;have Dy:=Y (Pu.ajL (f:=f) hr.dm hr.q.1 hr.q.2.1 hr.sb);have FS:=Y (fun g=>Pu.ajM (f:=g) hr.ws hr.q.1 hr.q.2.2 hr.ss);have JG:=hr.q;have hgr:=Y (fun qU=>Pu.grows hg (b:=cb) (s:=cs) (k:=k) (bp:=b.pr) (price:=price) (qty:=qty) XA XB hk ⟨hm.1.1,hm.2.2.1⟩ hr.q.1 qU);rw[hcb,hcs]at HT HF;simp only[Int.toNat_natCast]at HT HF;simp only[hcb,hcs,Int.toNat_natCast]at Dy FS;clear hR h0 R hr;obtain⟨W3,hW3⟩:=aG ((w2.alloc (.cells (eT fun _=>0) 213)).setRow w2.heap.size (eT f));have NZ:bq (w2.alloc (.cells (eT fun _=>0) 213)) 213 w2.heap.size (fun _=>0):=bq.new w2 213 _;have N0:=Y NZ;have XC:bq W3 213 w2.heap.size f:=by rw[<- hW3];exact NZ.stored f
  have hB3:Below w2.heap.size w2 W3:=by rw[<- hW3];exact below_setRow aj (E _) _
  have wA:W3.heap[w.heap.size]?=some (.cells (tY b) 197 (0,0)):=by rw[hB3.block _ (lBq HX.out)];exact HX
  have He:W3.heap[w.heap.size+1]?=some (.cells (tY s) 197 (0,0)):=by rw[hB3.block _ (lBq fT.out)];exact fT
  have nx:w.heap.size+1<w2.heap.size:=lBq fT;have kQ:=Y (hp.iA HB.out);have ajP:=Y XC;have HW3:=Y hW3;have av:Hid (Below w.heap.size w W3):=ar HB hB3;have x0:W3.cell? ⟨w.heap.size,0,none⟩=some (.int .i64 b.id):=dW wA rfl;have x1:W3.cell? ⟨w.heap.size,1,none⟩=some (.int .i64 b.ai):=dW wA rfl;have x2:W3.cell? ⟨w.heap.size,2,none⟩=some (.int .i64 b.sd):=dW wA rfl;have x3:W3.cell? ⟨w.heap.size,3,none⟩=some (.int .i64 b.pr):=dW wA rfl;have x4:W3.cell? ⟨w.heap.size,4,none⟩=some (.int .i64 b.q):=dW wA rfl;have y4:W3.cell? ⟨w.heap.size+1,4,none⟩=some (.int .i64 s.q):=dW He rfl;have xf:W3.frozen? ⟨w.heap.size,4,none⟩=false:=Aq wA;have NF:W3.frozen? ⟨w.heap.size+1,4,none⟩=false:=Aq He;have z55:=NV;have oV:=Y wA;have ajQ:=Y He;clear XC hB3 wA He NZ hW3;unfold dz;simp only[]
  go_wp2_with (first | refine NW (B:=p) (f:=f) kQ rfl (.tmp 27) rfl rfl ?_ | refine ajO (B:=w2.heap.size) f W3 (f:=fun _=>0) N0 HW3 rfl (.tmp 14) (.tmp 28) rfl rfl rfl ?_)
  obtain⟨W4,Ax⟩:=aG ((W3.setCell ⟨w.heap.size,4,none⟩ (.int .i64 qty)).setCell ⟨w.heap.size+1,4,none⟩ (.int .i64 qty));have N1:W4.heap[w.heap.size]?=some (.cells (tY (Pu.only b qty)) 197 (0,0)):=by rw[<- Ax,Below.heap_setCell _ _ _ _ (by show w.heap.size≠w.heap.size+1;omega)];exact Ap _ oV rfl
  have XD:W4.heap[w.heap.size+1]?=some (.cells (tY (Pu.only s qty)) 197 (0,0)):=by rw[<- Ax];refine Ap (a:=tY s) _ ?_ rfl;rw[Below.heap_setCell _ _ _ _ (by show w.heap.size+1≠w.heap.size;omega)];exact ajQ
  have Ay:bq W4 213 w2.heap.size f:=by rw[<- Ax];exact(ajP.other (by show w2.heap.size≠w.heap.size;omega) _).other (by show w2.heap.size≠w.heap.size+1;omega) _
  have hB4:Below w.heap.size w W4:=by rw[<- Ax];exact(av.setCell (E _) _).setCell (by show w.heap.size<=w.heap.size+1;omega) _
  rw[Ax];have mj:=Y N1;have XE:=Y XD;have ajR:=Y Ay;have bS:=Y hB4;clear N1 XD Ay hB4 Ax x0 x1 x2 x3 x4 y4 xf NF;have i6:=Y (MF w2.heap.size k (Pu.only b qty) f v W4 (he.later bS).per ajR hg);rw[show cm (Pu.only b qty)=.agg #[.int .i64 b.id,.int .i64 cb,.int .i64 b.sd,.int .i64 b.pr,.int .i64 qty] by simp[cm,Pu.only,hcb]]at i6;refine i6.mono ?_;rintro e aI ⟨rfl,vN,hs5⟩;have cr:Hid (Below w.heap.size w aI):=bS.trans (hs5.below bS.size (by omega));have oO:=Y ((hs5.block _ (lBq mj) (by omega)).trans mj);have yy:=Y ((hs5.block _ (lBq XE) (by omega)).trans XE);clear hs5;by_cases qU:f (cb*8+1)<b.pr*qty
  .have HA:Hid (Pu.i7 f k b s price qty=9/\Pu.jU f k b s price qty=f):=by
    have e:Pu.i7 f k b s price qty=9:=by rw[HT.out,if_pos (by simp[Pu.oP,qU])]
    exact⟨e,by rw[HF.out,e];rfl⟩
   rw[Dy.out.1,if_pos qU];have c9:=(he.later cr).per.c9;clear vN;unfold dz;simp only[];go_wp2;go_ret;exact⟨by rw[HA.out.1];rfl,by rw[HA.out.2];exact hp.iA cr.out,aU.of_below cr p⟩
  .have N2:b.pr*qty<=f (cb*8+1):=by omega
   rw[Dy.out.2.1 N2]at vN;rw[Dy.out.1,if_neg qU];have pI:=Y vN;have N3:Pu.Good (Pu.g1 f cb (b.pr*qty)):=by rw[<- Dy.out.2.1 N2];exact Pu.Tk hg _ _
   have atD:=Y N3;have dB:=Y (MF w2.heap.size k (Pu.only s qty) _ v aI (he.later cr).per vN N3);rw[show cm (Pu.only s qty)=.agg #[.int .i64 s.id,.int .i64 cs,.int .i64 s.sd,.int .i64 s.pr,.int .i64 qty] by simp[cm,Pu.only,hcs]]at dB;have x0:aI.cell? ⟨w.heap.size+1,0,none⟩=some (.int .i64 s.id):=dW yy rfl;have x1:aI.cell? ⟨w.heap.size+1,1,none⟩=some (.int .i64 s.ai):=dW yy rfl;have x2:aI.cell? ⟨w.heap.size+1,2,none⟩=some (.int .i64 s.sd):=dW yy rfl;have x3:aI.cell? ⟨w.heap.size+1,3,none⟩=some (.int .i64 s.pr):=dW yy rfl;have x4:aI.cell? ⟨w.heap.size+1,4,none⟩=some (.int .i64 qty):=dW yy rfl;clear vN N3;unfold dz;simp only[]
   go_wp2_with fail
   refine dB.mono ?_;clear x0 x1 x2 x3 x4;rintro e aA ⟨rfl,Hf,gR⟩;have bk:Hid (Below w.heap.size w aA):=cr.trans (gR.below cr.size (by omega));have vM:=Y ((gR.block _ (lBq oO) (by omega)).trans oO);have ajS:=Y ((gR.block _ (lBq yy) (by omega)).trans yy);clear gR;have HK:=Y (Pu.ajI (f:=f) (b:=cb) (s:=cs) (k:=k) (H:=b.pr*qty) hk);by_cases hpk:f (cs*8+5+k)<qty
   .have HA:Hid (Pu.i7 f k b s price qty=9/\Pu.jU f k b s price qty=f):=by
     have e:Pu.i7 f k b s price qty=9:=by rw[HT.out,if_pos (by simp[Pu.oP,hpk])]
     exact⟨e,by rw[HF.out,e];rfl⟩
    rw[(FS.out _).1,HK.out,if_pos hpk];have c9:=(he.later bk).per.c9;clear Hf;unfold dz;simp only[];go_wp2;go_ret;exact⟨by rw[HA.out.1];rfl,by rw[HA.out.2];exact hp.iA bk.out,aU.of_below bk p⟩
   .have XF:qty<=Pu.g1 f cb (b.pr*qty) (cs*8+5+k):=by rw[HK.out];omega
    rw[(FS.out _).2.1 XF]at Hf;rw[(FS.out _).1,HK.out,if_neg hpk];have Hg:Hid (Pu.oP f cb cs k b.pr qty=false):=by show _=_;simp only[Pu.oP,Bool.or_eq_false_iff,decide_eq_false_iff_not];exact⟨by omega,by omega⟩
    have tK:Hid (bq aA 213 w2.heap.size (Pu.g2 f cb cs k (b.pr*qty) qty)):=Hf;have ajT:=hgr.out Hg;have hcc:=hg.cash cb XA;have oU:=hg.stock cs k XB hk;have b0:aA.cell? ⟨w2.heap.size,cb*8,none⟩=some (.int .i64 (f (cb*8))):=by rw[tK.out.cell (by omega),Pu.Ha hk]
    have N4:=tK.frozen (cb*8);have o1:aA.cell? ⟨w.heap.size,1,none⟩=some (.int .i64 b.ai):=dW vM rfl;have o2:aA.cell? ⟨w.heap.size+1,1,none⟩=some (.int .i64 s.ai):=dW ajS rfl;have hbi:(cb:Int)<6:=by omega
    have hsi:(cs:Int)<6:=by omega
    have aT:(k:Int)<3:=by omega
    rw[hcb]at o1;rw[hcs]at o2;clear Hf XF N2;unfold dz;simp only[];go_wp2
    go_quiet (fail)
    have ic:Hid (Below w.heap.size w (aA.drewN nq)):=bk.trans ((dN nq).mono bk.size);have N5:=Y (tK.drew nq);clear b0 N4 o1 o2;generalize aA.drewN nq=dH at *;have b0:dH.cell? ⟨w2.heap.size,cb*8,none⟩=some (.int .i64 (f (cb*8))):=by rw[N5.out.cell (by omega),Pu.Ha hk]
    have N4:=N5.frozen (cb*8);obtain⟨⟨m1,m2⟩,⟨m3,m4⟩,m5,m6⟩:=hm;obtain⟨q1,q2,q3⟩:=JG;obtain⟨u1,u2,u3⟩:=hcc;obtain⟨u4,u5,u6⟩:=oU;have hwr:0<=f (cb*8)-price*qty:=by omega
    obtain⟨Dz,Hl⟩:=aG (dH.setCell ⟨w2.heap.size,cb*8,none⟩ (.int .i64 (f (cb*8)-price*qty)));have XG:Hid (bq Dz 213 w2.heap.size (Pu.g3 f cb cs k (b.pr*qty) qty (price*qty))):=by show bq _ _ _ _;rw[<- Hl];exact N5.add _ _ _ (by rw[Pu.Ha hk];omega)
    have kh:Hid (Below w.heap.size w Dz):=by show Below _ _ _;rw[<- Hl];exact ic.setCell (by show _<=w2.heap.size;omega) _
    have ajU:=Y Hl;clear Hl;go_wp2;rw[ajU.out];clear b0 N4;have d0:Dz.cell? ⟨w2.heap.size,cs*8+2+k,none⟩=some (.int .i64 (f (cs*8+2+k))):=by rw[XG.out.cell (by omega),Pu.Hd hk]
    have atE:0<=f (cs*8+2+k)-qty:=by omega
    refine jO 11 (by kernel_rfl) (by kernel_rfl) ?_;simp only[List.take_succ_cons,List.take_zero,List.drop_succ_cons,List.drop_zero]
    repeat (first | go_big_quiet_step (fail) | quiet_step (fail))
    refine wpQuiet_nil ?_;intro _ hw';obtain⟨nq,hw''⟩:=hw';subst hw'';have N6:Hid (Below w.heap.size w (Dz.drewN nq)):=kh.trans ((dN nq).mono kh.size);have N7:=Y (XG.drew nq);clear d0;generalize Dz.drewN nq=jP at *;have d0:jP.cell? ⟨w2.heap.size,cs*8+2+k,none⟩=some (.int .i64 (f (cs*8+2+k))):=by rw[N7.out.cell (by omega),Pu.Hd hk]
    have ajV:=N7.frozen (cs*8+2+k);obtain⟨Hm,Ho⟩:=aG (jP.setCell ⟨w2.heap.size,cs*8+2+k,none⟩ (.int .i64 (f (cs*8+2+k)-qty)));have N8:Hid (bq Hm 213 w2.heap.size (Pu.g4 f cb cs k (b.pr*qty) qty (price*qty))):=by show bq _ _ _ _;rw[<- Ho];exact N7.add _ _ _ (by rw[Pu.Hd hk];omega)
    have zF:Hid (Below w.heap.size w Hm):=by show Below _ _ _;rw[<- Ho];exact N6.setCell (by show _<=w2.heap.size;omega) _
    have ajW:=Y Ho;clear Ho
    go_wp2_with fail
    rw[ajW.out];clear d0 ajV;have N9:=N8.cell (i:=cb*8+2+k) (by omega);have XH:=N8.frozen (cb*8+2+k);obtain⟨⟨k1,k2⟩,⟨k3,k4⟩,vL⟩:=ajT;have t7:=Y vL;clear vL;have Hq:Hid (∀W,bq W 213 w2.heap.size (Pu.g4 f cb cs k (b.pr*qty) qty (price*qty))->bq (W.setCell ⟨w2.heap.size,cb*8+2+k,none⟩ (.int .i64 (Pu.g4 f cb cs k (b.pr*qty) qty (price*qty) (cb*8+2+k)+qty))) 213 w2.heap.size (Pu.g5 f cb cs k (b.pr*qty) qty (price*qty))):=fun W h=>h.add _ _ _ rfl;have ajX:Hid (∀W,bq W 213 w2.heap.size (Pu.g5 f cb cs k (b.pr*qty) qty (price*qty))->bq (W.setCell ⟨w2.heap.size,cs*8,none⟩ (.int .i64 (Pu.g5 f cb cs k (b.pr*qty) qty (price*qty) (cs*8)+price*qty))) 213 w2.heap.size (Pu.six f cb cs k b.pr price qty)):=fun W h=>h.add _ _ _ rfl;generalize Pu.g4 f cb cs k (b.pr*qty) qty (price*qty) (cb*8+2+k)=t5 at *;by_cases o1:1073741824-t5<qty
    .have HA:Hid (Pu.i7 f k b s price qty=7/\Pu.jU f k b s price qty=f):=by
      have e:Pu.i7 f k b s price qty=7:=by rw[HT.out,if_neg (by rw[Hg.out];simp),if_pos (by rw[t7.out];simp[o1])]
      exact⟨e,by rw[HF.out,e];rfl⟩
     refine(Ar w2.heap.size (cb*8+2+k) t5 qty 1073741824 Hm N9 k1 k2 (by omega) o1).mono ?_;rintro e aD ⟨rfl,rfl⟩;have c7:=(he.later zF).per.cp.c7;simp only[];go_wp2;go_ret;exact⟨by rw[HA.out.1];rfl,by rw[HA.out.2];exact hp.iA zF.out,aU.of_below zF p⟩
    refine(Au w2.heap.size (cb*8+2+k) t5 qty 1073741824 Hm N9 XH k1 k2 (by omega) (by omega) o1).mono ?_;rintro e Hr ⟨rfl,N_⟩;have Oa:Hid (bq Hr 213 w2.heap.size (Pu.g5 f cb cs k (b.pr*qty) qty (price*qty))):=by show bq _ _ _ _;rw[N_];exact Hq _ N8
    have Az:Hid (Below w.heap.size w Hr):=by show Below _ _ _;rw[N_];exact zF.setCell (by show _<=w2.heap.size;omega) _
    clear N_ N9 XH;have Ob:=Oa.cell (i:=cs*8) (by omega);have XI:=Oa.frozen (cs*8);generalize Pu.g5 f cb cs k (b.pr*qty) qty (price*qty) (cs*8)=Oc at *;simp only[]
    go_wp2_with fail
    by_cases o2:1099511627776-Oc<price*qty
    .have HA:Hid (Pu.i7 f k b s price qty=7/\Pu.jU f k b s price qty=f):=by
      have e:Pu.i7 f k b s price qty=7:=by rw[HT.out,if_neg (by rw[Hg.out];simp),if_pos (by rw[t7.out];simp[o2])]
      exact⟨e,by rw[HF.out,e];rfl⟩
     refine(Ar w2.heap.size (cs*8) Oc (price*qty) 1099511627776 Hr Ob k3 k4 (by omega) o2).mono ?_;rintro e aD ⟨rfl,rfl⟩;have c7:=(he.later Az).per.cp.c7;simp only[];go_wp2;go_ret;exact⟨by rw[HA.out.1];rfl,by rw[HA.out.2];exact hp.iA Az.out,aU.of_below Az p⟩
    have HA:Hid (Pu.i7 f k b s price qty=0/\Pu.jU f k b s price qty=Pu.six f cb cs k b.pr price qty):=by
     have e:Pu.i7 f k b s price qty=0:=by rw[HT.out,if_neg (by rw[Hg.out];simp),if_neg (by rw[t7.out,Bool.or_eq_true,decide_eq_true_eq,decide_eq_true_eq];omega)]
     exact⟨e,by rw[HF.out,e];rfl⟩
    refine(Au w2.heap.size (cs*8) Oc (price*qty) 1099511627776 Hr Ob XI k3 k4 (by omega) (by omega) o2).mono ?_;rintro e Od ⟨rfl,Oe⟩;have ajY:Hid (bq Od 213 w2.heap.size (Pu.six f cb cs k b.pr price qty)):=by show bq _ _ _ _;rw[Oe];exact ajX _ Oa
    have xS:Hid (Below w.heap.size w Od):=by show Below _ _ _;rw[Oe];exact Az.setCell (by show _<=w2.heap.size;omega) _
    have CB:Hid (bq Od 213 p f):=hp.iA xS.out;clear Oe Ob XI;simp only[]
    go_wp2_with (first | refine NW (B:=w2.heap.size) (f:=Pu.six f cb cs k b.pr price qty) ajY rfl (.tmp 14) rfl rfl ?_ | refine Gl (B:=p) (Pu.six f cb cs k b.pr price qty) (f:=f) CB rfl (.tmp 94) (.tmp 93) rfl rfl rfl ?_)
    go_ret;exact⟨by rw[HA.out.1];rfl,by rw[HA.out.2];exact CB.stored _,(aU.of_below xS p).trans (aU.setRow _ _ _)⟩
 .have HA:Hid (Pu.i7 f item b s price qty=R/\Pu.jU f item b s price qty=f):=by
   have e:Pu.i7 f item b s price qty=R:=by unfold Pu.i7;rw[if_neg (by rw[hR];exact h0),hR]
   exact⟨e,by unfold Pu.jU;rw[e,if_neg h0]⟩
  rw[hR];obtain⟨y,hy⟩:∃y,dz v R=.iface 412 y:=by
   match R,h0 with
   | 0,h=>exact absurd rfl h
   | c+1,_=>exact⟨_,rfl⟩
  have BP:=Y hy;rw[hy];clear hy hR;simp only[];go_wp2;go_ret;exact⟨by rw[HA.out.1,BP.out];rfl,by rw[HA.out.2];exact hp.iA HB.out,aU.of_below HB p⟩
def row(f:Nat->Int):Array Value:=Array.ofFn (n:=1001) fun i=>Value.int .i64 (f i.val)
theorem vo(f:Nat->Int):(row f).size=1001:=by simp[row]
theorem Fx(f:Nat->Int){i:Nat}(h:i<1001):(row f)[i]?=some (.int .i64 (f i)):=by unfold row;rw[Array.getElem?_ofFn];simp[h]
theorem row_one(f:Nat->Int):(row f).all (·.oneCell')=true:=by rw[Array.all_eq_true];intro i hi;simp only[row,Array.getElem_ofFn];rfl
theorem aeb{f g:Nat->Int}(h:∀i,i<1001->f i=g i):row f=row g:=by unfold row;congr 1;funext i;rw[h i.val i.isLt]
theorem aec(f:Nat->Int){i:Nat}(v:Int):(row f).setIfInBounds i (.int .i64 v)=row (fun j=>if j=i then v else f j):=by
 apply Array.ext_getElem?;intro j;by_cases hj:j<1001
 .rw[Fx _ hj]
  by_cases e:i=j
  .subst e
   rw[Array.getElem?_setIfInBounds_self_of_lt (by rw[vo];exact hj)];simp
  .rw[Array.getElem?_setIfInBounds_ne e,Fx _ hj]
   have:¬ j=i:=fun h=>e h.symm;simp[this]
 .rw[Array.getElem?_eq_none (by rw[Array.size_setIfInBounds,vo];omega),Array.getElem?_eq_none (by rw[vo];omega)]
theorem row_zero:row (fun _=>0)=Array.replicate 1001 (.int .i64 0):=by
 apply Array.ext_getElem?;intro j;by_cases hj:j<1001
 .rw[Fx _ hj,Array.getElem?_replicate];simp[hj]
 .rw[Array.getElem?_eq_none (by rw[vo];omega),Array.getElem?_eq_none (by simp;omega)]
def bK(w:World)(B:Nat)(f:Nat->Int):Prop:=w.heap[B]?=some (.cells (row f) 365 (0,0))
theorem bK.cell{w:World}{B:Nat}{f:Nat->Int}(h:bK w B f){i:Nat}(hi:i<1001):w.cell? ⟨B,i,none⟩=some (.int .i64 (f i)):=by rw[cR w B i _ _ _ h,Fx f hi]
theorem bK.frozen{w:World}{B:Nat}{f:Nat->Int}(h:bK w B f)(i:Nat):w.frozen? ⟨B,i,none⟩=false:=by simp[World.frozen?,show w.heap[B]?=_ from h]
theorem bK.lt{w:World}{B:Nat}{f:Nat->Int}(h:bK w B f):B<w.heap.size:=(Array.getElem?_eq_some_iff.1 h).1
theorem bK.later{w w':World}{B n:Nat}{f:Nat->Int}(h:bK w B f)(hb:Below n w w')(hn:B<n):bK w' B f:=(hb.block B hn).trans h
theorem bK.set{w:World}{B:Nat}{f:Nat->Int}(h:bK w B f)(i:Nat)(v:Int):bK (w.setCell ⟨B,i,none⟩ (.int .i64 v)) B (fun j=>if j=i then v else f j):=by unfold bK at h ⊢;rw[setCell_eq_setRow w B i _ _ _ _ h,aec];exact setRow_heap w B _ _ _ _ h
theorem bK.congr{w:World}{B:Nat}{f g:Nat->Int}(h:bK w B f)(e:∀i,i<1001->f i=g i):bK w B g:=by unfold bK at h ⊢;rw[<- aeb e];exact h
theorem bK.other{w:World}{B:Nat}{f:Nat->Int}(h:bK w B f){a:Addr}(ha:B≠a.block)(v:Value):bK (w.setCell a v) B f :=
 (Below.heap_setCell w a v B ha).trans h
theorem bK.alloc{w:World}{B:Nat}{f:Nat->Int}(h:bK w B f)(o:Obj):bK (w.alloc o) B f:=(Below.heap_alloc w o B h.lt).trans h
theorem bK.new(w:World)(f:Nat->Int):bK (w.alloc (.cells (row f) 365)) w.heap.size f:=heap_alloc_last w _
theorem bK.drew{w:World}{B:Nat}{f:Nat->Int}(h:bK w B f)(n:Nat):bK (w.drewN n) B f:=h
theorem Sr:(prog.info? 365).map (fun i=>(i.zero,i.size))=some (some (.agg (Array.replicate 1001 (.int .i64 0))),1001):=by kernel_rfl
theorem BK(w:World):(zeroValue 365).run prog w=.ok (.agg (row fun _=>0)) w:=by rw[row_zero];exact(zero_of_info Sr).1 w
theorem Sv:(prog.info? 365).map (·.size)=some 1001:=(zero_of_info Sr).2
theorem aed:prog.underlying 365=some (.array 1001 3):=by kernel_rfl
theorem BM{w:World}{B:Nat}{f:Nat->Int}(h:bK w B f):(loadVar 365 ⟨B,0,none⟩).run prog w=.ok (.agg (row f)) w :=
 run_loadVar_row w B 365 365 (row f) (0,0) _ h aed rfl (by rw[vo];exact Sv)
theorem aee{w:World}{B:Nat}{f:Nat->Int}(g:Nat->Int)(h:bK w B f):(storeVar 365 ⟨B,0,none⟩ (.agg (row g))).run prog w=.ok () (w.setRow B (row g)) :=
 run_storeVar_row w B 365 365 (row f) (row g) h (by rw[vo];exact Sv) (by rw[vo,vo]) (row_one g)
theorem bK.stored{w:World}{B:Nat}{f:Nat->Int}(g:Nat->Int)(h:bK w B f):bK (w.setRow B (row g)) B g:=setRow_heap w B _ _ _ _ h
theorem bK.beside{w:World}{B C:Nat}{f:Nat->Int}(c:Array Value)(h:bK w B f)(hne:B≠C):bK (w.setRow C c) B f:=(setRow_other w C B c hne).trans h
theorem Fy{ops:Array Oper}{rest:List Oper}{op:Oper}{a:Act}{w:World}{Q:Exit->Act->World->Prop}{B:Nat}{f:Nat->Int}(h:bK w B f)(hgd:op.guard=none)(x:Operand)(ho:op.op=.load 365 x)(hx:a.eval x=.pointer (some ⟨B,0,none⟩))(k:wpList prog ops Q rest (a.put op.dst (.agg (row f))) w):wpList prog ops Q (op::rest) a w :=
 wpList_plain hgd fun _ hK=>by
  unfold Oper.wp execOp;simp only[ho,hx,Instr.loadAt,Instr.sureAddr,Sem.run_bind,Sem.run_pure,Result.andThen_ok,BM h];exact hK _ _ k
theorem vk{ops:Array Oper}{rest:List Oper}{op:Oper}{a:Act}{w:World}{Q:Exit->Act->World->Prop}{B:Nat}{f:Nat->Int}(g:Nat->Int)(h:bK w B f)(hgd:op.guard=none)(x y:Operand)(ho:op.op=.store 365 x y)(hx:a.eval x=.pointer (some ⟨B,0,none⟩))(hy:a.eval y=.agg (row g))(k:wpList prog ops Q rest (a.put op.dst undef) (w.setRow B (row g))):wpList prog ops Q (op::rest) a w :=
 wpList_plain hgd fun _ hK=>by
  unfold Oper.wp execOp;simp only[ho,hx,hy,Instr.storeAt,Instr.sureAddr,Sem.run_bind,Sem.run_pure,Result.andThen_ok,aee g h];exact hK _ _ k
theorem BN{fn:Func}{p:Tmp}{ty:TypeId}(h:fn.results=#[.cell p ty])(tmps:Array Value)(P:Program)(w:World):
  (results fn tmps).run P w=((asAddr (tmps.getD p undef)).run P w).andThen fun a w₁=>(loadVar ty a).run P w₁:=by
 simp only[results,h];simp[Sem.run_bind,Result.andThen]
def kH(f:Nat->Int):Value:=.agg (row f)
theorem aef(b off cap n:Nat)(side:Int)(l:List Cv.af)(w:World)(hn:Hid (l.length=n))(hl:Hid (fU w b off l))(hok:Hid (Cv.gh l)):
  Calls prog 283 #[.slice (some (O b off)) n cap,Z side] w fun e w'=>e=.returned (kH fun i=>Cv.at_ l side i)/\U w w':=by
 have vq:=hok.1;rw[hn.out]at vq;have z60:=BK;go_enter func283,ntmps283
 go_wp2_with fail
 go_loopw [10] (fun i wr=>∃k:Nat,k<=n/\i=Z k/\bK wr w.heap.size (fun _=>0)/\bK wr (w.heap.size+1) (fun j=>Cv.at_ (l.take k) side j)/\U w wr) (fun i _=>n-(intOf i).toNat)
 case atStart =>
  refine⟨0,Nat.zero_le _,rfl,(bK.new w _).alloc _,?_,aj.alloc (by simp) _⟩
  have:=bK.new (w.alloc (.cells (row fun _=>0) 365)) (fun _=>0)
  rw[show (w.alloc (.cells (row fun _=>0) 365)).heap.size=w.heap.size+1 by simp]at this;exact this
 case round =>
  obtain⟨k,hk,rfl,ht0,ht1,hb⟩:=hrel;have HT0:=Y ht0;have HT1:=Y ht1;have HB:=Y hb;clear ht0 ht1 hb;by_cases hlt:k<n
  .have aT:(k:Int)<n:=by omega
   obtain⟨c0,c1,c2,c3,c4⟩:=(hl.later HB) k (by rw[hn.out];exact hlt);have HS:=Y (fun j=>Cv.J3 (Cv.kg side j) (l:=l) (k:=k) (by rw[hn.out];exact hlt));have HX:=Y (Cv.gB (hok.oks _ (Cv.oo (l:=l) (i:=k) (by rw[hn.out];exact hlt))));generalize Cv.nth l k=x at *;have hbx:U w (wr.alloc (.cells #[Z x.id,Z x.ai,Z x.sd,Z x.pr,Z x.q] 197)):=HB.alloc HB.size _;have ow:=Y hbx;have HX0:Hid (bK (wr.alloc (.cells #[Z x.id,Z x.ai,Z x.sd,Z x.pr,Z x.q] 197)) w.heap.size (fun _=>0)):=HT0.alloc _;have bW:Hid (bK (wr.alloc (.cells #[Z x.id,Z x.ai,Z x.sd,Z x.pr,Z x.q] 197)) (w.heap.size+1) (fun j=>Cv.at_ (l.take k) side j)):=HT1.alloc _;clear hbx;by_cases hsd:x.sd=side
   .have mD:(x.sd==side)=true:=by simpa using hsd
    clear hsd;obtain⟨lN,J4⟩:∃lN:Nat,x.pr=(lN:Int):=⟨x.pr.toNat,by have:=HX.2.2.2.1;omega⟩;have hp1:lN<1001:=by have:=HX.2.2.2.1;omega
    have J5:=Y J4;rw[J4]at c3;clear J4;have hsum:0<=Cv.at_ (l.take k) side lN/\Cv.at_ (l.take k) side lN<=120000:=by
     have:=Cv.nz (Cv.kg side lN) (l.take k) (hok.oks.take k)
     have h2:(l.take k).length<=120:=by rw[lKq,hn.out];omega
     unfold Cv.at_;omega
    obtain⟨r1,r2⟩:=hsum;have hq:=HX.2.2.2.2;obtain⟨q1,q2⟩:=hq;rw[J5.out]at ow HX0 bW
    go_wp2_with fail
    have d3:(wr.alloc (.cells #[Z x.id,Z x.ai,Z x.sd,Z lN,Z x.q] 197)).cell? (O wr.heap.size 3)=some (Z lN):=by simp
    have d4:(wr.alloc (.cells #[Z x.id,Z x.ai,Z x.sd,Z lN,Z x.q] 197)).cell? (O wr.heap.size 4)=some (Z x.q):=by simp
    clear c0 c1 c2 c3 c4;generalize wr.alloc (.cells #[Z x.id,Z x.ai,Z x.sd,Z lN,Z x.q] 197)=w1 at *;have d5:=bW.cell hp1;generalize hat:Cv.at_ (l.take k) side lN=aeg at *;have Sw:=Y hat;clear hat;have J6:(lN:Int)<1001:=by omega
    refine jO 8 (by kernel_rfl) (by kernel_rfl) ?_;simp only[List.take_succ_cons,List.take_zero,List.drop_succ_cons,List.drop_zero]
    repeat (first | go_big_quiet_step (fail) | quiet_step (fail))
    refine wpQuiet_nil ?_;intro _ hw';obtain⟨nq,hw''⟩:=hw';subst hw'';have av:Hid (U w (w1.drewN nq)):=ow.trans ((dN nq).mono ow.size);have e0:=HX0.drew nq;have e1:=bW.drew nq;have BO:=Y e0;have qo:=Y e1;clear e0 e1 d3 d4 d5;generalize w1.drewN nq=w3 at *;have d5:=qo.cell hp1;have lO:=qo.frozen lN;rw[Sw.out]at d5
    go_wp2_with fail
    refine⟨⟨k+1,by omega,by go_num,BO.other (by simp) _,(qo.set lN (aeg+x.q)).congr fun j _=>?_,av.setCell (by simp) _⟩,by simp[intOf];omega⟩
    have:=HS.out j
    unfold Cv.at_;rw[this];by_cases hj:j=lN
    .subst hj
     rw[show Cv.kg side j x=true by simp[Cv.kg,mD,J5.out]];rw[<- Sw.out];simp[Cv.at_]
    .have hne:¬ (lN:Int)=(j:Int):=fun h=>hj (by omega)
     rw[show Cv.kg side j x=false by simp[Cv.kg,J5.out,hne]];simp[hj]
   .have mD:(x.sd==side)=false:=by simpa using hsd
    have asS:=Y hsd;clear hsd
    go_wp2_with fail
    refine⟨⟨k+1,by omega,by go_num,HX0,bW.congr fun j _=>?_,ow⟩,by simp[intOf];omega⟩
    have:=HS.out j
    rw[show Cv.kg side j x=false by simp[Cv.kg,mD]]at this;unfold Cv.at_;rw[this];simp
  .have aT:¬ (k:Int)<n:=by omega
   have ep:l.take k=l:=by
    have:k=l.length:=by rw[hn.out];omega
    rw[this,List.take_length]
   have ht1:=HT1.out;rw[ep]at ht1;have H1:=Y ht1;clear ep ht1;have HS2:=Y (HT0.stored (fun i=>Cv.at_ l side i));have HB2:=Y (below_setRow HB (E w.heap.size) (row fun i=>Cv.at_ l side i))
   go_wp2_with (first | (refine Fy H1 rfl _ rfl rfl ?_) | (refine vk (fun i=>Cv.at_ l side i) HT0 rfl _ _ rfl rfl rfl ?_))
   refine bodyPost_ret (v:=kH fun i=>Cv.at_ l side i) ?_ rfl ⟨rfl,HB2⟩;rw[BN rfl];simp[asAddr,Result.andThen,BM HS2.out,kH]
theorem aeh(cap:Nat)(a:Option Addr)(side:Int)(w:World):
  Calls prog 283 #[.slice a 0 cap,Z side] w fun e w'=>e=.returned (kH fun _=>0)/\U w w':=by
 have z60:=BK;go_enter func283,ntmps283;go_wp2;refine wp_loop_rounds 1 ?_;rw[rounds_succ];have hh:Hid (bK ((w.alloc (.cells (row fun _=>0) 365)).alloc (.cells (row fun _=>0) 365)) w.heap.size (fun _=>0)):=(bK.new w _).alloc _;have h2:Hid (bK ((w.alloc (.cells (row fun _=>0) 365)).alloc (.cells (row fun _=>0) 365)) (w.heap.size+1) (fun _=>0)):=by
  have:=bK.new (w.alloc (.cells (row fun _=>0) 365)) (fun _=>0)
  rw[show (w.alloc (.cells (row fun _=>0) 365)).heap.size=w.heap.size+1 by simp]at this;exact this
 have hb:Hid (U w ((w.alloc (.cells (row fun _=>0) 365)).alloc (.cells (row fun _=>0) 365))):=aj.alloc (by simp) _;generalize (w.alloc (.cells (row fun _=>0) 365)).alloc (.cells (row fun _=>0) 365)=wr at *;have HS2:=Y (hh.stored (fun _=>0));have HB2:=Y (below_setRow hb (E w.heap.size) (row fun _=>0))
 go_wp2_with (first | (refine Fy h2 rfl _ rfl rfl ?_) | (refine vk (fun _=>0) hh rfl _ _ rfl rfl rfl ?_))
 refine bodyPost_ret (v:=kH fun _=>0) ?_ rfl ⟨rfl,HB2⟩;rw[BN rfl];simp[Act.put,asAddr,Result.andThen,BM HS2.out,kH]
theorem Sy(v:Value)(l:List Cv.af)(side:Int)(w:World)(hv:iJ w v l)(hok:Cv.gh l):
  Calls prog 283 #[v,Z side] w fun e w'=>e=.returned (kH fun i=>Cv.at_ l side i)/\U w w':=by
 rcases hv with ⟨rfl,a,cap,rfl⟩ | ⟨b,off,cap,rfl,hcap,hl⟩
 .exact aeh cap a side w
 .exact aef b off cap _ side l w rfl hl hok
def fH(l:List Cv.af)(p i:Nat):Int:=if p<i then Cv.ji l i else Cv.at_ l 0 i
theorem aei{l:List Cv.af}(h:Cv.eu l)(i:Nat)(hi:i<1001):Cv.at_ l 0 i=fH l 999 i:=by
 unfold fH;by_cases e:999<i
 .obtain rfl:i=1000:=by omega
  rw[if_pos e]
  have:=Cv.JV ((1000:Nat):Int) l
  rw[Cv.adW l h (by omega)]at this;omega
 .rw[if_neg e]
theorem aej{l:List Cv.af}{p:Nat}(h1:1<=p)(i:Nat):(if i=p then fH l p p+fH l p (p+1) else fH l p i)=fH l (p-1) i:=by
 unfold fH;by_cases e:i=p
 .subst e
  rw[if_pos rfl,if_neg (by omega),if_pos (by omega),if_pos (by omega)]
  have:=Cv.JV (i:Int) l
  rw[show ((i+1:Nat):Int)=(i:Int)+1 by omega];omega
 .rw[if_neg e]
  by_cases e2:p<i
  .rw[if_pos e2,if_pos (by omega)]
  .rw[if_neg e2,if_neg (by omega)]
theorem Sz{l:List Cv.af}(h:Cv.gh l)(p i:Nat):0<=fH l p i/\fH l p i<=120000:=by
 have h1:=Cv.nz (Cv.iK i) l h.oks;have h2:=Cv.nz (Cv.kg 0 i) l h.oks
 have:=h.1
 unfold fH Cv.ji Cv.at_;split <;> omega
theorem adZ(v:Value)(l:List Cv.af)(w:World)(hv:Hid (iJ w v l))(hok:Hid (Cv.gh l)):
  Calls prog 251 #[v] w fun e w'=>e=.returned (kH (fH l 0))/\U w w':=by
 have z60:=BK;have HQ:=Y (Sy v l 0 (w.alloc (.cells (row fun _=>0) 365)) (hv.later aj) hok);go_enter func251,ntmps251
 go_wp2_with fail
 refine HQ.mono ?_;rintro e w1 ⟨rfl,hb1⟩;have HB1:Hid (U w w1):=aj.trans (hb1.mono (by simp));have HR:Hid (bK w1 w.heap.size (fun _=>0)):=(bK.new w _).later hb1 (by simp);have au:Hid (w.heap.size<w1.heap.size):=by have:=hb1.size;simp at this;exact this
 clear hb1;simp only[kH];have HA:Hid (bK (w1.alloc (.cells (row fun _=>0) 365)) w1.heap.size (fun _=>0)):=bK.new w1 _
 go_wp2_with (refine vk (fun i=>Cv.at_ l 0 i) HA rfl _ _ rfl rfl rfl ?_)
 have HS:Hid (bK ((w1.alloc (.cells (row fun _=>0) 365)).setRow w1.heap.size (row fun i=>Cv.at_ l 0 i)) w1.heap.size (fH l 999)):=(HA.stored _).congr (aei hok.oks);have b_:Hid (bK ((w1.alloc (.cells (row fun _=>0) 365)).setRow w1.heap.size (row fun i=>Cv.at_ l 0 i)) w.heap.size (fun _=>0)):=(HR.alloc _).beside _ (by have:=au.out;omega);have HB2:Hid (U w ((w1.alloc (.cells (row fun _=>0) 365)).setRow w1.heap.size (row fun i=>Cv.at_ l 0 i))):=below_setRow (HB1.alloc HB1.size _) HB1.size _;generalize (w1.alloc (.cells (row fun _=>0) 365)).setRow w1.heap.size (row fun i=>Cv.at_ l 0 i)=w2 at *
 go_loopw [4] (fun i wr=>∃p:Nat,p<=999/\i=Z p/\bK wr w.heap.size (fun _=>0)/\bK wr w1.heap.size (fH l p)/\U w wr) (fun i _=>(intOf i).toNat)
 case atStart=>exact⟨999,by omega,rfl,b_,HS,HB2⟩
 case round =>
  obtain⟨p,hp,rfl,ht0,ht1,hb⟩:=hrel;have HT0:=Y ht0;have HT1:=Y ht1;have HB:=Y hb;clear ht0 ht1 hb;by_cases hlt:1<=p
  .have aT:(1:Int)<=(p:Int):=by omega
   have hp1:p<1001:=by omega
   have J6:(p:Int)<1001:=by omega
   have aek:(p:Int)+1<1001:=by omega
   have d5:=HT1.cell hp1;have lO:=HT1.cell (i:=p+1) (by omega);have hb1:=Sz hok p p;have hb2:=Sz hok p (p+1);have HX:=Y (fun i=>aej (l:=l) (p:=p) (by omega) i);generalize ha:fH l p p=x at *;generalize hb:fH l p (p+1)=y at *;have Hx:=Y ha;have BP:=Y hb;clear ha hb;obtain⟨r1,r2⟩:=hb1;obtain⟨r3,r4⟩:=hb2
   go_wp2_with fail
   refine jO 9 (by kernel_rfl) (by kernel_rfl) ?_;simp only[List.take_succ_cons,List.take_zero,List.drop_succ_cons,List.drop_zero]
   repeat (first | go_big_quiet_step (fail) | quiet_step (fail))
   refine wpQuiet_nil ?_;intro _ hw';obtain⟨nq,hw''⟩:=hw';subst hw'';have av:Hid (U w (wr.drewN nq)):=HB.trans ((dN nq).mono HB.size);have e0:=HT0.drew nq;have e1:=HT1.drew nq;have BO:=Y e0;have qo:=Y e1;clear e0 e1 d5 lO;generalize wr.drewN nq=w3 at *;have d5:=qo.cell hp1;have lO:=qo.frozen p
   go_wp2_with fail
   have E2:=Y ((qo.set p (x+y)).congr fun i _=>HX i);exact⟨⟨p-1,by omega,by go_num,BO.other (by have:=au.out;simp;omega) _,E2,av.setCell (by have:=au.out;simp;omega) _⟩,by simp[intOf];omega⟩
  .have aT:¬ (1:Int)<=(p:Int):=by omega
   obtain rfl:p=0:=by omega
   have HS2:=Y (HT0.stored (fH l 0));have HB2:=Y (below_setRow HB (E w.heap.size) (row (fH l 0)))
   go_wp2_with (first | (refine Fy HT1 rfl _ rfl rfl ?_) | (refine vk (fH l 0) HT0 rfl _ _ rfl rfl rfl ?_))
   refine bodyPost_ret (v:=kH (fH l 0)) ?_ rfl ⟨rfl,HB2⟩;rw[BN rfl];simp[asAddr,Result.andThen,BM HS2.out,kH]
def sup(l:List Cv.af)(p i:Nat):Int:=if i<p then Cv.jM l i else Cv.at_ l 1 i
theorem ael{l:List Cv.af}(h:Cv.eu l)(i:Nat)(hi:i<1001):Cv.at_ l 1 i=sup l 2 i:=by
 unfold sup;by_cases e:i<2
 .rw[if_pos e]
  have:=Cv.JW ((i:Int)-1) l
  rw[Cv.adX l h (p:=(i:Int)-1) (by omega),show (i:Int)-1+1=i by omega]at this;omega
 .rw[if_neg e]
theorem aem{l:List Cv.af}{p:Nat}(h1:1<=p)(i:Nat):(if i=p then sup l p p+sup l p (p-1) else sup l p i)=sup l (p+1) i:=by
 unfold sup;by_cases e:i=p
 .subst e
  rw[if_pos rfl,if_neg (by omega),if_pos (by omega),if_pos (by omega)]
  have:=Cv.JW ((i:Int)-1) l
  rw[show (i:Int)-1+1=i by omega]at this;rw[show ((i-1:Nat):Int)=(i:Int)-1 by omega];omega
 .rw[if_neg e]
  by_cases e2:i<p
  .rw[if_pos e2,if_pos (by omega)]
  .rw[if_neg e2,if_neg (by omega)]
theorem SA{l:List Cv.af}(h:Cv.gh l)(p i:Nat):0<=sup l p i/\sup l p i<=120000:=by
 have h1:=Cv.nz (Cv.sB i) l h.oks;have h2:=Cv.nz (Cv.kg 1 i) l h.oks
 have:=h.1
 unfold sup Cv.jM Cv.at_;split <;> omega
theorem ad2(v:Value)(l:List Cv.af)(w:World)(hv:Hid (iJ w v l))(hok:Hid (Cv.gh l)):
  Calls prog 252 #[v] w fun e w'=>e=.returned (kH (sup l 1001))/\U w w':=by
 have z60:=BK;have HQ:=Y (Sy v l 1 (w.alloc (.cells (row fun _=>0) 365)) (hv.later aj) hok);go_enter func252,ntmps252
 go_wp2_with fail
 refine HQ.mono ?_;rintro e w1 ⟨rfl,hb1⟩;have HB1:Hid (U w w1):=aj.trans (hb1.mono (by simp));have HR:Hid (bK w1 w.heap.size (fun _=>0)):=(bK.new w _).later hb1 (by simp);have au:Hid (w.heap.size<w1.heap.size):=by have:=hb1.size;simp at this;exact this
 clear hb1;simp only[kH];have HA:Hid (bK (w1.alloc (.cells (row fun _=>0) 365)) w1.heap.size (fun _=>0)):=bK.new w1 _
 go_wp2_with (refine vk (fun i=>Cv.at_ l 1 i) HA rfl _ _ rfl rfl rfl ?_)
 have HS:Hid (bK ((w1.alloc (.cells (row fun _=>0) 365)).setRow w1.heap.size (row fun i=>Cv.at_ l 1 i)) w1.heap.size (sup l 2)):=(HA.stored _).congr (ael hok.oks);have b_:Hid (bK ((w1.alloc (.cells (row fun _=>0) 365)).setRow w1.heap.size (row fun i=>Cv.at_ l 1 i)) w.heap.size (fun _=>0)):=(HR.alloc _).beside _ (by have:=au.out;omega);have HB2:Hid (U w ((w1.alloc (.cells (row fun _=>0) 365)).setRow w1.heap.size (row fun i=>Cv.at_ l 1 i))):=below_setRow (HB1.alloc HB1.size _) HB1.size _;generalize (w1.alloc (.cells (row fun _=>0) 365)).setRow w1.heap.size (row fun i=>Cv.at_ l 1 i)=w2 at *
 go_loopw [4] (fun i wr=>∃p:Nat,(2<=p/\p<=1001)/\i=Z p/\bK wr w.heap.size (fun _=>0)/\bK wr w1.heap.size (sup l p)/\U w wr) (fun i _=>1001-(intOf i).toNat)
 case atStart=>exact⟨2,by omega,rfl,b_,HS,HB2⟩
 case round =>
  obtain⟨p,hp,rfl,ht0,ht1,hb⟩:=hrel;have HT0:=Y ht0;have HT1:=Y ht1;have HB:=Y hb;clear ht0 ht1 hb;by_cases hlt:p<=1000
  .have aT:(p:Int)<=1000:=by omega
   have hp1:p<1001:=by omega
   have J6:(p:Int)<1001:=by omega
   have aek:(0:Int)<=(p:Int)-1:=by omega
   have d5:=HT1.cell hp1;have lO:=HT1.cell (i:=p-1) (by omega);have hb1:=SA hok p p;have hb2:=SA hok p (p-1);have HX:=Y (fun i=>aem (l:=l) (p:=p) (by omega) i);generalize ha:sup l p p=x at *;generalize hb:sup l p (p-1)=y at *;have Hx:=Y ha;have BP:=Y hb;clear ha hb;obtain⟨r1,r2⟩:=hb1;obtain⟨r3,r4⟩:=hb2
   go_wp2_with fail
   refine jO 9 (by kernel_rfl) (by kernel_rfl) ?_;simp only[List.take_succ_cons,List.take_zero,List.drop_succ_cons,List.drop_zero]
   repeat (first | go_big_quiet_step (fail) | quiet_step (fail))
   refine wpQuiet_nil ?_;intro _ hw';obtain⟨nq,hw''⟩:=hw';subst hw'';have av:Hid (U w (wr.drewN nq)):=HB.trans ((dN nq).mono HB.size);have e0:=HT0.drew nq;have e1:=HT1.drew nq;have BO:=Y e0;have qo:=Y e1;clear e0 e1 d5 lO;generalize wr.drewN nq=w3 at *;have d5:=qo.cell hp1;have lO:=qo.frozen p
   go_wp2_with fail
   have E2:=Y ((qo.set p (x+y)).congr fun i _=>HX i);exact⟨⟨p+1,by omega,by go_num,BO.other (by have:=au.out;simp;omega) _,E2,av.setCell (by have:=au.out;simp;omega) _⟩,by simp[intOf];omega⟩
  .have aT:¬ (p:Int)<=1000:=by omega
   obtain rfl:p=1001:=by omega
   have HS2:=Y (HT0.stored (sup l 1001));have HB2:=Y (below_setRow HB (E w.heap.size) (row (sup l 1001)))
   go_wp2_with (first | (refine Fy HT1 rfl _ rfl rfl ?_) | (refine vk (sup l 1001) HT0 rfl _ _ rfl rfl rfl ?_))
   refine bodyPost_ret (v:=kH (sup l 1001)) ?_ rfl ⟨rfl,HB2⟩;rw[BN rfl];simp[asAddr,Result.andThen,BM HS2.out,kH]
theorem R_(a b:Int)(w:World)(h1:-1000000<=a)(h2:a<=1000000)(h3:-1000000<=b)(h4:b<=1000000):Calls prog 253 #[Z a,Z b] w fun e w'=>e=.returned (Z (Cv.size (a-b)))/\w'=w:=by
 go_enter func253,ntmps253;go_wp2
 all_goals go_ret
 all_goals exact⟨xj (by unfold Cv.size;omega),rfl⟩
def Sb(v s a:Int):Value:=.agg #[Z v,Z s,Z a]
theorem adY(v s a v' s' a':Int)(w:World):Calls prog 254 #[Sb v s a,Sb v' s' a'] w fun e w'=>e=.returned (.bool (Cv.vh v s a v' s' a'))/\U w w':=by
 show Calls prog 254 #[.agg #[Z v,Z s,Z a],.agg #[Z v',Z s',Z a']] w _;go_enter func254,ntmps254;go_wp2
 all_goals go_ret
 all_goals
  refine⟨jg ?_,aj.alloc (by simp) _⟩;simp_all[Cv.vh]
def jN(w:World)(B:Nat)(v s a:Int):Prop:=w.heap[B]?=some (.cells #[Z v,Z s,Z a] 368 (0,0))
theorem jN.later{w w':World}{B n:Nat}{v s a:Int}(h:jN w B v s a)(hb:Below n w w')(hn:B<n):jN w' B v s a:=(hb.block B hn).trans h
theorem jN.lt{w:World}{B:Nat}{v s a:Int}(h:jN w B v s a):B<w.heap.size:=(Array.getElem?_eq_some_iff.1 h).1
theorem jN.cells{w:World}{B:Nat}{v s a:Int}(h:jN w B v s a):w.cell? (O B 0)=some (Z v)/\w.cell? (O B 1)=some (Z s)/\w.cell? (O B 2)=some (Z a):=by refine⟨?_,?_,?_⟩ <;> (rw[cR w B _ _ _ _ h];rfl)
theorem jN.frozen{w:World}{B:Nat}{v s a:Int}(h:jN w B v s a)(i:Nat):w.frozen? (O B i)=false:=by simp[World.frozen?,show w.heap[B]?=_ from h]
theorem jN.set{w:World}{B:Nat}{v s a:Int}(h:jN w B v s a)(v' s' a':Int):jN (((w.setCell (O B 0) (Z v')).setCell (O B 1) (Z s')).setCell (O B 2) (Z a')) B v' s' a':=by
 unfold jN at h ⊢;have h1:(w.setCell (O B 0) (Z v')).heap[B]?=some (.cells #[Z v',Z s,Z a] 368 (0,0)):=by rw[setCell_eq_setRow w B 0 _ _ _ _ h];exact setRow_heap w B _ _ _ _ h
 have h2:((w.setCell (O B 0) (Z v')).setCell (O B 1) (Z s')).heap[B]?=some (.cells #[Z v',Z s',Z a] 368 (0,0)):=by rw[setCell_eq_setRow _ B 1 _ _ _ _ h1];exact setRow_heap _ B _ _ _ _ h1
 rw[setCell_eq_setRow _ B 2 _ _ _ _ h2];exact setRow_heap _ B _ _ _ _ h2
theorem adV(v:Value)(l:List Cv.af)(ref:Int)(w:World)(hv:Hid (iJ w v l))(hok:Hid (Cv.gh l))(hr:ah.aK ref 1 1000=true)(HC:Hid (Calls prog 250 #[v] w fun e w'=>e=.returned .nilIface/\U w w')):
  Calls prog 220 #[v,Z ref] w fun e w'=>(∃p vol,e=.returned (.tuple #[Z p,Z vol,.nilIface])/\Cv.fj l ref 1000 p vol)/\U w w':=by
 have z60:=BK;have HD:Hid (∀W,U w W->Calls prog 251 #[v] W fun e w'=>e=.returned (kH (fH l 0))/\U W w'):=fun W hb=>adZ v l W (hv.later hb) hok;have ad1:Hid (∀W,U w W->Calls prog 252 #[v] W fun e w'=>e=.returned (kH (sup l 1001))/\U W w'):=fun W hb=>ad2 v l W (hv.later hb) hok;have rK:1<=ref/\ref<=1000:=by simpa [ah.aK] using hr
 obtain⟨asL,asM⟩:=rK;go_enter func220,ntmps220
 go_wp2_with fail
 refine HC.mono ?_;rintro e w1 ⟨rfl,hb1⟩;have HB1:=Y hb1;clear hb1;simp only[]
 go_wp2_with fail
 refine(ib _ _ _ _).mono ?_;rintro e w1 ⟨rfl,rfl⟩;rw[hr];simp only[];clear hr
 go_wp2_with fail
 refine(HD w1 HB1).mono ?_;rintro e w2 ⟨rfl,hb2⟩;have HB2:=Y (ar HB1 hb2);clear hb2;simp only[]
 go_wp2_with fail
 refine(ad1 w2 HB2).mono ?_;rintro e w3 ⟨rfl,hb3⟩;have av:=Y (ar HB2 hb3);clear hb3;simp only[kH];have HA:Hid (bK ((w3.alloc (.cells (row fun _=>0) 365)).alloc (.cells (row fun _=>0) 365)) w3.heap.size (fun _=>0)):=(bK.new w3 _).alloc _;have cJ:Hid (bK (((w3.alloc (.cells (row fun _=>0) 365)).alloc (.cells (row fun _=>0) 365)).setRow w3.heap.size (row (fH l 0))) (w3.heap.size+1) (fun _=>0)):=by
  have:=bK.new (w3.alloc (.cells (row fun _=>0) 365)) (fun _=>0)
  rw[show (w3.alloc (.cells (row fun _=>0) 365)).heap.size=w3.heap.size+1 by simp]at this;exact this.beside _ (by omega)
 go_wp2_with (first | (refine vk (fH l 0) HA rfl _ _ rfl rfl rfl ?_) | (refine vk (sup l 1001) cJ rfl _ _ rfl rfl rfl ?_))
 have Sc:Hid (bK ((((w3.alloc (.cells (row fun _=>0) 365)).alloc (.cells (row fun _=>0) 365)).setRow w3.heap.size (row (fH l 0))).setRow (w3.heap.size+1) (row (sup l 1001))) w3.heap.size (fH l 0)):=(HA.stored _).beside _ (by omega);have Fv:Hid (bK ((((w3.alloc (.cells (row fun _=>0) 365)).alloc (.cells (row fun _=>0) 365)).setRow w3.heap.size (row (fH l 0))).setRow (w3.heap.size+1) (row (sup l 1001))) (w3.heap.size+1) (sup l 1001)):=cJ.stored _;have bS:Hid (U w ((((w3.alloc (.cells (row fun _=>0) 365)).alloc (.cells (row fun _=>0) 365)).setRow w3.heap.size (row (fH l 0))).setRow (w3.heap.size+1) (row (sup l 1001)))) :=
  below_setRow (below_setRow ((av.alloc av.size _).alloc (by have:=av.size;simp;omega) _) av.size _) (by have:=av.size;omega) _
 have JX:Hid (((((w3.alloc (.cells (row fun _=>0) 365)).alloc (.cells (row fun _=>0) 365)).setRow w3.heap.size (row (fH l 0))).setRow (w3.heap.size+1) (row (sup l 1001))).heap.size=w3.heap.size+1+1):=by show _=_;simp
 generalize (((w3.alloc (.cells (row fun _=>0) 365)).alloc (.cells (row fun _=>0) 365)).setRow w3.heap.size (row (fH l 0))).setRow (w3.heap.size+1) (row (sup l 1001))=w4 at *;have Sd:=Y (Sc.alloc (.cells #[Z 0,Z 0,Z 0] 368));have Se:=Y (Fv.alloc (.cells #[Z 0,Z 0,Z 0] 368));have cr:=Y (bS.alloc bS.size (.cells #[Z 0,Z 0,Z 0] 368));have Sf:Hid (jN (w4.alloc (.cells #[Z 0,Z 0,Z 0] 368)) (w3.heap.size+1+1) 0 0 0):=by
  have:=heap_alloc_last w4 (.cells #[Z 0,Z 0,Z 0] 368)
  rw[JX.out]at this;exact this
 have asN:Hid ((w4.alloc (.cells #[Z 0,Z 0,Z 0] 368)).heap.size=w3.heap.size+3):=by show _=_;simp[JX.out]
 have au:Hid (w.heap.size<=w3.heap.size):=av.size;clear Sc Fv JX;generalize w4.alloc (.cells #[Z 0,Z 0,Z 0] 368)=aI at *;generalize w3.heap.size=N at *
 go_loopw [4,11] (fun pr i wr=>∃(q:Nat) (p vol:Int),(1<=q/\q<=1001)/\i=Z q/\pr=Z p/\Cv.fj l ref ((q:Int)-1) p vol/\bK wr N (fH l 0)/\bK wr (N+1) (sup l 1001)/\jN wr (N+1+1) vol (Cv.wl l p) (Cv.kG ref p)/\U w wr) (fun _ i _=>1001-(intOf i).toNat)
 case atStart=>exact⟨1,0,0,by omega,rfl,rfl,Cv.fj.start l ref,Sd,Se,Sf,cr⟩
 case round =>
  obtain⟨q,p,vol,hq,rfl,rfl,kI,hd,hs,hw,hb⟩:=hrel;obtain⟨hq1,Sg⟩:=hq;have HW:=Y kI;have Si:=Y hd;have ou:=Y hs;have Sj:=Y hw;have HB:=Y hb;clear kI hd hs hw hb Sd Se Sf;by_cases hlt:q<=1000
  .have aT:(q:Int)<=1000:=by omega
   have Fw:(q:Int)<1001:=by omega
   have d1:=Si.cell (i:=q) (by omega);have d2:=ou.cell (i:=q) (by omega);rw[show fH l 0 q=Cv.ji l q by unfold fH;rw[if_pos (by omega)]]at d1;rw[show sup l 1001 q=Cv.jM l q by unfold sup;rw[if_pos (by omega)]]at d2;have b1:0<=Cv.ji l q/\Cv.ji l q<=120000:=by have:=Cv.nz (Cv.iK q) l hok.oks;have h2:=hok.1;unfold Cv.ji;omega
   have b2:0<=Cv.jM l q/\Cv.jM l q<=120000:=by have:=Cv.nz (Cv.sB q) l hok.oks;have h2:=hok.1;unfold Cv.jM;omega
   have dM:Hid (Cv.fG l q=min (Cv.ji l q) (Cv.jM l q)):=rfl;have HL:Hid (Cv.left l q=Cv.size (Cv.ji l q-Cv.jM l q)):=rfl;have ad3:Hid (Cv.away ref q=Cv.size ((q:Int)-ref)):=rfl;generalize Cv.ji l q=zw at *;generalize Cv.jM l q=sp at *;obtain⟨asO,asP⟩:=b1;obtain⟨asQ,asR⟩:=b2
   go_wp2_with fail
   obtain⟨val,ov,BL⟩:∃val:Bool->Nat->World,(∀n,val false n=wr.drewN n)/\(∀n,val true n=(wr.drewN n).alloc (.cells #[Z 0,Z 0,Z 0] 368)):=⟨fun b n=>bif b then (wr.drewN n).alloc (.cells #[Z 0,Z 0,Z 0] 368) else wr.drewN n,fun _=>rfl,fun _=>rfl⟩;have f1:∀n,(val false n).cell? (O N q)=some (Z zw):=fun n=>by rw[ov];exact d1
   have f2:∀n,(val false n).cell? ⟨N+1,q,none⟩=some (Z sp):=fun n=>by rw[ov];exact d2
   have t1:∀n,(val true n).cell? (O N q)=some (Z zw):=fun n=>by
    rw[BL,((bRq (wr.drewN n).heap.size _).alloc (E _) _).cell (p:=(O N q)) (bCq _ _ (show (wr.drewN n).cell? (O N q)=_ from d1))];exact d1
   have t2:∀n,(val true n).cell? ⟨N+1,q,none⟩=some (Z sp):=fun n=>by
    rw[BL,((bRq (wr.drewN n).heap.size _).alloc (E _) _).cell (p:=⟨N+1,q,none⟩) (bCq _ _ (show (wr.drewN n).cell? ⟨N+1,q,none⟩=_ from d2))];exact d2
   have Sk:=Y ov;have Sl:=Y BL;have hal:∀(a:Act) n,(execOp a.eval { dst:=some 12,op:=Op.alloc 368,type:=0,pos:= "clear.go:22",after:=#[],guard:=none }).run prog (val false n)=.ok (.value (Rw wr.heap.size)) (val true n):=by
    intro a n;rw[ov,BL]
    kernel_rfl
   clear ov BL;refine ad4 (val:=val) (p:=Rw wr.heap.size) 18 rfl (by kernel_rfl) (by kernel_rfl) (by kernel_rfl) rfl (by rw[Sk.out];rfl) hal ?_;clear hal d1 d2;have ad5:IntKind.i64.wrap (zw-sp)=zw-sp:=IntWalk.i64_in _ (by omega);have wr2:IntKind.i64.wrap ((q:Int)-ref)=(q:Int)-ref:=IntWalk.i64_in _ (by omega);simp only[List.take_succ_cons,List.take_zero]
   repeat (refine ad6 (fun K hK=>?_);refine⟨by rfl,?_⟩;unfold JY;go_simp;first | (refine hK _ ?_;clear hK K) | (refine⟨_,⟨fun n=>(R_ _ _ _ (by omega) (by omega) (by omega) (by omega)).mono (fun e w' ⟨he,hw⟩=>⟨he,n,hw⟩),fun n=>(R_ _ _ _ (by omega) (by omega) (by omega) (by omega)).mono (fun e w' ⟨he,hw⟩=>⟨he,n,hw⟩)⟩,hK _ ?_⟩;clear hK K))
   rw[show (if sp<zw then sp else zw)=Cv.fG l q by rw[dM.out];split <;> omega,<- HL.out,<- ad3.out];refine ad7 ?_;intro n;rw[Sl.out];have Sm:=Y (Si.drew n);have Sn:=Y (ou.drew n);have JZ:Hid (jN (wr.drewN n) (N+1+1) vol (Cv.wl l p) (Cv.kG ref p)):=Sj.out;have HB2:Hid (U w (wr.drewN n)):=HB.trans ((dN n).mono HB.size);rw[show wr.heap.size=(wr.drewN n).heap.size from rfl];clear Sk Sl f1 f2 t1 t2 ad5 wr2;generalize wr.drewN n=W at *;have J0:Hid (N+1+1<W.heap.size):=JZ.lt;have vn:Hid (U W (W.alloc (.cells #[Z (Cv.fG l q),Z (Cv.left l q),Z (Cv.away ref q)] 368))):=aj;obtain⟨o0,o1,o2⟩:=(JZ.later vn J0).cells;have J2:=Y (adY (Cv.fG l q) (Cv.left l q) (Cv.away ref q) vol (Cv.wl l p) (Cv.kG ref p) (W.alloc (.cells #[Z (Cv.fG l q),Z (Cv.left l q),Z (Cv.away ref q)] 368)))
   go_wp2_with fail
   refine J2.mono ?_;rintro e aA ⟨rfl,hb6⟩;have ad8:Hid (jN aA W.heap.size (Cv.fG l q) (Cv.left l q) (Cv.away ref q)):=(heap_alloc_last W _ |> fun h=>(show jN _ _ _ _ _ from h)).later hb6 (by simp);have bk:Hid (U W aA):=ar vn hb6;have Sp:Hid (bK aA N (fH l 0)):=Sm.later bk Sm.lt;have Sq:Hid (bK aA (N+1) (sup l 1001)):=Sn.later bk Sn.lt;have zx:Hid (jN aA (N+1+1) vol (Cv.wl l p) (Cv.kG ref p)):=JZ.later bk J0;have dY:Hid (U w aA):=ar HB2 bk;clear hb6 o0 o1 o2;have nA:Hid (N+1+1≠W.heap.size):=by show _≠_;have:=J0.out;omega
   cases sY:Cv.vh (Cv.fG l q) (Cv.left l q) (Cv.away ref q) vol (Cv.wl l p) (Cv.kG ref p) with
   | false =>
    have zy:=Y sY;clear sY;simp only[]
    go_wp2_with fail
    have hk:=HW.keep hok.oks (by rw[show (q:Int)-1+1=q by omega];exact zy);rw[show (q:Int)-1+1=((q+1:Nat):Int)-1 by omega]at hk;exact⟨⟨q+1,p,vol,by omega,by go_num,rfl,hk,Sp,Sq,zx,dY⟩,by simp[intOf];omega⟩
   | true =>
    have zy:=Y sY;clear sY;simp only[];obtain⟨g0,g1,g2⟩:=ad8.cells;have h0:=zx.frozen 0;have h1:=zx.frozen 1;have h2:=zx.frozen 2;obtain⟨o0,o1,o2⟩:=zx.cells
    go_wp2_with fail
    refine jO 3 (by kernel_rfl) (by kernel_rfl) ?_;simp only[List.take_succ_cons,List.take_zero,List.drop_succ_cons,List.drop_zero]
    repeat (first | go_big_quiet_step (fail) | quiet_step (fail))
    refine wpQuiet_nil ?_;intro _ hw';obtain⟨nq,hw''⟩:=hw';subst hw'';have xw:Hid (U w (aA.drewN nq)):=dY.trans ((dN nq).mono dY.size);have ad9:=Y (Sp.drew nq);have aea:=Y (Sq.drew nq);have mC:Hid (jN (aA.drewN nq) (N+1+1) vol (Cv.wl l p) (Cv.kG ref p)):=zx.out;clear g0 g1 g2 h0 h1 h2 o0 o1 o2;generalize aA.drewN nq=dH at *;have h0:=mC.frozen 0;have h1:=mC.frozen 1;have h2:=mC.frozen 2;obtain⟨o0,o1,o2⟩:=mC.cells
    go_wp2_with fail
    have hk:=HW.take hok.oks (by omega) (by rw[show (q:Int)-1+1=q by omega];exact zy);rw[show (q:Int)-1+1=q by omega,show (q:Int)=((q+1:Nat):Int)-1 by omega]at hk;have xx:((q+1:Nat):Int)-1=q:=by omega
    rw[xx]at hk;have rM:=mC.set (Cv.fG l q) (Cv.left l q) (Cv.away ref q);refine⟨⟨q+1,q,Cv.fG l q,by omega,by go_num,rfl,by rw[xx];exact hk,?_,?_,?_,?_⟩,by simp[intOf];omega⟩
    .exact((ad9.other (by simp;omega) _).other (by simp;omega) _).other (by simp;omega) _
    .exact((aea.other (by simp) _).other (by simp) _).other (by simp) _
    .rw[show Cv.wl l q=Cv.left l q by unfold Cv.wl;rw[if_neg (by omega)],show Cv.kG ref q=Cv.away ref q by unfold Cv.kG;rw[if_neg (by omega)]]
     exact rM
    .have:=au.out
     exact((xw.setCell (by simp;omega) _).setCell (by simp;omega) _).setCell (by simp;omega) _
  .have aT:¬ (q:Int)<=1000:=by omega
   obtain rfl:q=1001:=by omega
   obtain⟨o0,o1,o2⟩:=Sj.cells
   go_wp2_with fail
   go_quiet (fail)
   have xw:Hid (U w (wr.drewN nq)):=HB.trans ((dN nq).mono HB.size);generalize wr.drewN nq=dH at *
   go_wp2_with fail
   go_ret3
   exact⟨⟨p,vol,rfl,HW⟩,xw⟩
theorem R6(v:Value)(l:List Cv.af)(ref:Int)(T:TypeId)(v1 v6 v7:Value)(w:World)(hv:iJ w v l)(he:Hid (iV w T v1 v6 v7))(hok:Cv.gh l)(hr:ah.aK ref 1 1000=true):
  Calls prog 220 #[v,Z ref] w fun e w'=>(∃p vol,e=.returned (.tuple #[Z p,Z vol,.nilIface])/\Cv.fj l ref 1000 p vol)/\U w w' :=
 adV v l ref w hv hok hr (JH v l T v1 v6 v7 w hv he hok)
def GH:Cv.af:=⟨1,1,0,10,3⟩
end Go.Proofs.YtjolccidheflpaaGreatDoor
