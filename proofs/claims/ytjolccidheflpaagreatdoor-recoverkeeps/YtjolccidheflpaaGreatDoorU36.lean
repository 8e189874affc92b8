/- The walks of check, Take and of the document's TakeOf. -/
import Derived.Test.YtjolccidheflpaaGreatDoorU31
import Derived.Deep.RegionWith
import Derived.Laws.Rows
import Derived.OneCell
namespace Go.Proofs.YtjolccidheflpaaGreatDoor
set_option maxHeartbeats 8000000
open Go.RowKit
set_option maxRecDepth 100000
section
variable {T:Nat->Value}
theorem dS {w w1:World} {B:Nat} {o:Obj} (hb:Below w.heap.size w w1) (h:w.heap[B]?=some o):w1.heap[B]?=some o:=by rw[hb.block _ (lBq h)];exact h
theorem aiq (on:Bool) (aD la:Int) (a:Ask) (w:World) (he:Hid (sM w T)):Calls Tryz.prog 237 #[kS on aD la,bM a] w fun e w'=>e=.returned (uJ T (bz.tc on aD a))∧Below w.heap.size w w':=by
 have HA:=hDq (fun W (hb:Below w.heap.size w W)=>ain a W (he.out.later hb));have HT:Hid (bz.tc on aD a=if bz.ac a=0 then (if (a.k==108)=on then 11 else if a.sq=bz.aw on aD then 0 else 12) else bz.ac a):=rfl;generalize bz.tc on aD a=tc at *;generalize bz.ac a=ac at *;have HW:=hDq (fun W=>aio on aD la W);generalize bz.aw on aD=aw at *;unfold bM aT kS at *;have bF:Hid (Below w.heap.size w ((w.alloc (.cells #[.bool on,.int .i64 aD,.int .i64 la] 107)).alloc (.cells #[.int .u8 a.k,.int .i64 a.c,.int .i64 a.sq,.int .i64 a.it,.int .i64 a.sd,.int .i64 a.pr,.int .i64 a.q,.int .i64 a.id] 95))):=((bRq _ _).alloc (lRq _) _).alloc (by simp) _;have ni:Hid (((w.alloc (.cells #[.bool on,.int .i64 aD,.int .i64 la] 107)).alloc (.cells #[.int .u8 a.k,.int .i64 a.c,.int .i64 a.sq,.int .i64 a.it,.int .i64 a.sd,.int .i64 a.pr,.int .i64 a.q,.int .i64 a.id] 95)).heap[w.heap.size]?=some (.cells #[.bool on,.int .i64 aD,.int .i64 la] 107 (0,0))):=(Below.heap_alloc _ _ _ (by simp)).trans (hNq _ _);have HD0:Hid (((w.alloc (.cells #[.bool on,.int .i64 aD,.int .i64 la] 107)).alloc (.cells #[.int .u8 a.k,.int .i64 a.c,.int .i64 a.sq,.int .i64 a.it,.int .i64 a.sd,.int .i64 a.pr,.int .i64 a.q,.int .i64 a.id] 95)).heap[w.heap.size+1]?=some (.cells #[.int .u8 a.k,.int .i64 a.c,.int .i64 a.sq,.int .i64 a.it,.int .i64 a.sd,.int .i64 a.pr,.int .i64 a.q,.int .i64 a.id] 95 (0,0))):=by
  have h:=hNq (w.alloc (.cells #[.bool on,.int .i64 aD,.int .i64 la] 107)) (.cells #[.int .u8 a.k,.int .i64 a.c,.int .i64 a.sq,.int .i64 a.it,.int .i64 a.sd,.int .i64 a.pr,.int .i64 a.q,.int .i64 a.id] 95);have e:(w.alloc (.cells #[.bool on,.int .i64 aD,.int .i64 la] 107)).heap.size=w.heap.size+1:=by simp
  show _=_;rw[e]at h;exact h
 go_enter Tryz.func237,Tryz.ntmps237
 go_wp2_with fail
 refine(HA.out _ bF.out).mono ?_;rintro e w2 ⟨rfl,hb2⟩;have HB2:=hDq (bF.out.trans (hb2.mono bF.out.size));have HS:=hDq (dS hb2 ni.out);have HD:=hDq (dS hb2 HD0.out);have c0:w2.cell? ⟨w.heap.size,0,none⟩=some (.bool on):=by rw[cR _ _ 0 _ _ _ HS.out];rfl
 have c1:w2.cell? ⟨w.heap.size,1,none⟩=some (.int .i64 aD):=by rw[cR _ _ 1 _ _ _ HS.out];rfl
 have c2:w2.cell? ⟨w.heap.size,2,none⟩=some (.int .i64 la):=by rw[cR _ _ 2 _ _ _ HS.out];rfl
 have d0:w2.cell? ⟨w.heap.size+1,0,none⟩=some (.int .u8 a.k):=by rw[cR _ _ 0 _ _ _ HD.out];rfl
 have d1:w2.cell? ⟨w.heap.size+1,1,none⟩=some (.int .i64 a.c):=by rw[cR _ _ 1 _ _ _ HD.out];rfl
 have d2:w2.cell? ⟨w.heap.size+1,2,none⟩=some (.int .i64 a.sq):=by rw[cR _ _ 2 _ _ _ HD.out];rfl
 have d3:w2.cell? ⟨w.heap.size+1,3,none⟩=some (.int .i64 a.it):=by rw[cR _ _ 3 _ _ _ HD.out];rfl
 have d4:w2.cell? ⟨w.heap.size+1,4,none⟩=some (.int .i64 a.sd):=by rw[cR _ _ 4 _ _ _ HD.out];rfl
 have d5:w2.cell? ⟨w.heap.size+1,5,none⟩=some (.int .i64 a.pr):=by rw[cR _ _ 5 _ _ _ HD.out];rfl
 have iG:w2.cell? ⟨w.heap.size+1,6,none⟩=some (.int .i64 a.q):=by rw[cR _ _ 6 _ _ _ HD.out];rfl
 have l5:w2.cell? ⟨w.heap.size+1,7,none⟩=some (.int .i64 a.id):=by rw[cR _ _ 7 _ _ _ HD.out];rfl
 have hsz:w.heap.size+2<=w2.heap.size:=by have:=hb2.size;simp at this;omega
 have hst:=(he.out.later HB2.out).st;have aoP:=(he.out.later HB2.out).G5;have aoQ:=(he.out.later HB2.out).size;clear hb2 HA bF ni HD0;simp only[];by_cases hc:ac=0
 ·subst hc
  rw[show uJ T 0=.nilIface from rfl];by_cases hk:(a.k==108)=on
  ·have hT:tc=11:=by rw[HT.out];simp[hk]
   subst hT;subst hk;clear HT HW;cases dK:(a.k==108)
   all_goals
    rw[dK]at c0;have hk1:=dK;simp only[beq_eq_false_iff_ne,beq_iff_eq]at hk1;go_wp2;go_ret;exact⟨rfl,HB2.out⟩
  ·have hk2:(a.k==108)=!on:=by
    cases on <;> cases h:(a.k==108) <;> simp_all
   by_cases hq:a.sq=aw
   ·have hT:tc=0:=by rw[HT.out];simp[hk,hq]
    subst hT;have y9:(a.sq != aw)=false:=by simp[hq]
    clear HT hq;cases on
    all_goals
     have hk1:=hk2;simp only[Bool.not_true,Bool.not_false,beq_eq_false_iff_ne,beq_iff_eq]at hk1;go_wp2;have Ny:w2.drew.cell? ⟨w.heap.size+1,2,none⟩=some (.int .i64 a.sq):=d2;have vE:Hid (Below w2.heap.size w2 w2.drew):=⟨rfl,rfl,rfl,lRq _,fun _ _=>rfl⟩
     go_region_with (go_at_call 270;refine(HW.out _).mono ?_;rintro e w3 ⟨rfl,hb3⟩;have air:=cell_later hb3 Ny;have ar:=hDq (HB2.out.trans ((vE.out.trans hb3).mono HB2.out.size));have ais:=(he.out.later ar.out).G5;have ait:=(he.out.later ar.out).size;clear hb3)
     all_goals
      go_wp2;go_ret;exact⟨rfl,ar.out⟩
   ·have hT:tc=12:=by rw[HT.out];simp[hk,hq]
    subst hT;have y9:(a.sq != aw)=true:=by simp[hq]
    clear HT;cases on
    all_goals
     have hk1:=hk2;simp only[Bool.not_true,Bool.not_false,beq_eq_false_iff_ne,beq_iff_eq]at hk1;go_wp2;have Ny:w2.drew.cell? ⟨w.heap.size+1,2,none⟩=some (.int .i64 a.sq):=d2;have vE:Hid (Below w2.heap.size w2 w2.drew):=⟨rfl,rfl,rfl,lRq _,fun _ _=>rfl⟩
     go_region_with (go_at_call 270;refine(HW.out _).mono ?_;rintro e w3 ⟨rfl,hb3⟩;have air:=cell_later hb3 Ny;have ar:=hDq (HB2.out.trans ((vE.out.trans hb3).mono HB2.out.size));have ais:=(he.out.later ar.out).G5;have ait:=(he.out.later ar.out).size;clear hb3)
     all_goals
      go_wp2;go_ret;exact⟨rfl,ar.out⟩
 ·obtain⟨d,rfl⟩:∃ d,ac=d+1:=⟨ac-1,by omega⟩
  have hT:tc=d+1:=by rw[HT.out];simp
  subst hT;rw[show uJ T (d+1)=.iface 412 (T d) from rfl];clear HT hc HW;go_wp2;go_ret;exact⟨rfl,HB2.out⟩
end
section
variable {T:Nat->Value}
theorem w5 {W:World} {R:Nat} {t:TypeId} {x0 x1 x2:Value} (hz:W.heap[R]?=some (.cells #[x0,x1,x2] t (0,0))) (v0 v1 v2:Value) :
  (((W.setCell ⟨R,0,none⟩ v0).setCell ⟨R,1,none⟩ v1).setCell ⟨R,2,none⟩ v2).heap[R]?=some (.cells #[v0,v1,v2] t (0,0)):=by
 have h0:(W.setCell ⟨R,0,none⟩ v0).heap[R]?=some (.cells #[v0,x1,x2] t (0,0)):=by
  rw[setCell_eq_setRow W R 0 _ _ _ _ hz];exact setRow_heap W R _ _ _ _ hz
 have h1:((W.setCell ⟨R,0,none⟩ v0).setCell ⟨R,1,none⟩ v1).heap[R]?=some (.cells #[v0,v1,x2] t (0,0)):=by
  rw[setCell_eq_setRow _ R 1 _ _ _ _ h0];exact setRow_heap _ R _ _ _ _ h0
 rw[setCell_eq_setRow _ R 2 _ _ _ _ h1];exact setRow_heap _ R _ _ _ _ h1
theorem w6 {n R:Nat} {w W:World} (h:Below n w W) (hR:n<=R) (v0 v1 v2:Value):Below n w (((W.setCell ⟨R,0,none⟩ v0).setCell ⟨R,1,none⟩ v1).setCell ⟨R,2,none⟩ v2):=by
 have h0:Below n w (W.setCell ⟨R,0,none⟩ v0):=h.setCell hR v0;have h1:Below n w ((W.setCell ⟨R,0,none⟩ v0).setCell ⟨R,1,none⟩ v1):=h0.setCell hR v1;exact h1.setCell hR v2
theorem bz.aiu {on:Bool} {aD:Int} {a:Ask} (h:bz.tc on aD a=0):bz.ac a=0:=by
 unfold bz.tc at h;by_cases e:bz.ac a=0
 ·exact e
 ·rw[if_neg e]at h;exact absurd h e
theorem Wv (on:Bool) (aD la now:Int) (a:Ask) (w:World) (he:Hid (sM w T)):Calls Tryz.prog 208 #[kS on aD la,bM a,.int .i64 now] w fun e w'=>e=.returned (.tuple #[kS (bz.ja on aD a) (bz.jP on aD a) (bz.gN on aD la a now),uJ T (bz.tc on aD a)])∧Below w.heap.size w w':=by
 have HA:=hDq (fun W (hb:Below w.heap.size w W)=>aiq on aD la a W (hDq (he.out.later hb)));have G6:Hid (bz.tc on aD a=0->0<=a.sq∧a.sq<=1073741824):=fun h=>bz.aim (bz.aiu h);have HN:Hid (bz.ja on aD a=(if bz.tc on aD a=0 then !(a.k==113) else on)∧bz.jP on aD a=(if bz.tc on aD a=0 then (if a.k=113 then 0 else a.sq+1) else aD)∧bz.gN on aD la a now=if bz.tc on aD a=0 then (if a.k=113 then 0 else now) else la):=⟨rfl,rfl,rfl⟩;generalize bz.ja on aD a=ja at *;generalize bz.jP on aD a=jP at *;generalize bz.gN on aD la a now=gN at *;generalize bz.tc on aD a=tc at *;unfold bM aT kS at *;have bF:Hid (Below w.heap.size w (((w.alloc (.cells #[.bool on,.int .i64 aD,.int .i64 la] 107)).alloc (.cells #[.int .u8 a.k,.int .i64 a.c,.int .i64 a.sq,.int .i64 a.it,.int .i64 a.sd,.int .i64 a.pr,.int .i64 a.q,.int .i64 a.id] 95)).alloc (.cells #[.bool false,.int .i64 0,.int .i64 0] 107))):=(((bRq _ _).alloc (lRq _) _).alloc (by simp) _).alloc (by simp;omega) _;have Ww:(w.alloc (.cells #[.bool on,.int .i64 aD,.int .i64 la] 107)).heap.size=w.heap.size+1:=by simp
 have Wx:((w.alloc (.cells #[.bool on,.int .i64 aD,.int .i64 la] 107)).alloc (.cells #[.int .u8 a.k,.int .i64 a.c,.int .i64 a.sq,.int .i64 a.it,.int .i64 a.sd,.int .i64 a.pr,.int .i64 a.q,.int .i64 a.id] 95)).heap.size=w.heap.size+2:=by simp
 have ni:Hid ((((w.alloc (.cells #[.bool on,.int .i64 aD,.int .i64 la] 107)).alloc (.cells #[.int .u8 a.k,.int .i64 a.c,.int .i64 a.sq,.int .i64 a.it,.int .i64 a.sd,.int .i64 a.pr,.int .i64 a.q,.int .i64 a.id] 95)).alloc (.cells #[.bool false,.int .i64 0,.int .i64 0] 107)).heap[w.heap.size]?=some (.cells #[.bool on,.int .i64 aD,.int .i64 la] 107 (0,0))):=(Below.heap_alloc _ _ _ (by omega)).trans ((Below.heap_alloc _ _ _ (by omega)).trans (hNq _ _));have HD0:Hid ((((w.alloc (.cells #[.bool on,.int .i64 aD,.int .i64 la] 107)).alloc (.cells #[.int .u8 a.k,.int .i64 a.c,.int .i64 a.sq,.int .i64 a.it,.int .i64 a.sd,.int .i64 a.pr,.int .i64 a.q,.int .i64 a.id] 95)).alloc (.cells #[.bool false,.int .i64 0,.int .i64 0] 107)).heap[w.heap.size+1]?=some (.cells #[.int .u8 a.k,.int .i64 a.c,.int .i64 a.sq,.int .i64 a.it,.int .i64 a.sd,.int .i64 a.pr,.int .i64 a.q,.int .i64 a.id] 95 (0,0))):=by
  have h:=hNq (w.alloc (.cells #[.bool on,.int .i64 aD,.int .i64 la] 107)) (.cells #[.int .u8 a.k,.int .i64 a.c,.int .i64 a.sq,.int .i64 a.it,.int .i64 a.sd,.int .i64 a.pr,.int .i64 a.q,.int .i64 a.id] 95);show _=_;rw[Ww]at h;exact(Below.heap_alloc _ _ _ (by omega)).trans h
 have jH:Hid ((((w.alloc (.cells #[.bool on,.int .i64 aD,.int .i64 la] 107)).alloc (.cells #[.int .u8 a.k,.int .i64 a.c,.int .i64 a.sq,.int .i64 a.it,.int .i64 a.sd,.int .i64 a.pr,.int .i64 a.q,.int .i64 a.id] 95)).alloc (.cells #[.bool false,.int .i64 0,.int .i64 0] 107)).heap[w.heap.size+2]?=some (.cells #[.bool false,.int .i64 0,.int .i64 0] 107 (0,0))):=by
  have h:=hNq ((w.alloc (.cells #[.bool on,.int .i64 aD,.int .i64 la] 107)).alloc (.cells #[.int .u8 a.k,.int .i64 a.c,.int .i64 a.sq,.int .i64 a.it,.int .i64 a.sd,.int .i64 a.pr,.int .i64 a.q,.int .i64 a.id] 95)) (.cells #[.bool false,.int .i64 0,.int .i64 0] 107);show _=_;rw[Wx]at h;exact h
 clear Ww Wx;go_enter Tryz.func208,Tryz.ntmps208
 go_wp2_with fail
 refine(HA.out _ bF.out).mono ?_;rintro e w2 ⟨rfl,hb2⟩;have HB2:=hDq (bF.out.trans (hb2.mono bF.out.size));have HS:=hDq (dS hb2 ni.out);have HD:=hDq (dS hb2 HD0.out);have au:=hDq (dS hb2 jH.out);have c0:w2.cell? ⟨w.heap.size,0,none⟩=some (.bool on):=by rw[cR _ _ 0 _ _ _ HS.out];rfl
 have c1:w2.cell? ⟨w.heap.size,1,none⟩=some (.int .i64 aD):=by rw[cR _ _ 1 _ _ _ HS.out];rfl
 have c2:w2.cell? ⟨w.heap.size,2,none⟩=some (.int .i64 la):=by rw[cR _ _ 2 _ _ _ HS.out];rfl
 have d0:w2.cell? ⟨w.heap.size+1,0,none⟩=some (.int .u8 a.k):=by rw[cR _ _ 0 _ _ _ HD.out];rfl
 have d1:w2.cell? ⟨w.heap.size+1,1,none⟩=some (.int .i64 a.c):=by rw[cR _ _ 1 _ _ _ HD.out];rfl
 have d2:w2.cell? ⟨w.heap.size+1,2,none⟩=some (.int .i64 a.sq):=by rw[cR _ _ 2 _ _ _ HD.out];rfl
 have d3:w2.cell? ⟨w.heap.size+1,3,none⟩=some (.int .i64 a.it):=by rw[cR _ _ 3 _ _ _ HD.out];rfl
 have d4:w2.cell? ⟨w.heap.size+1,4,none⟩=some (.int .i64 a.sd):=by rw[cR _ _ 4 _ _ _ HD.out];rfl
 have d5:w2.cell? ⟨w.heap.size+1,5,none⟩=some (.int .i64 a.pr):=by rw[cR _ _ 5 _ _ _ HD.out];rfl
 have iG:w2.cell? ⟨w.heap.size+1,6,none⟩=some (.int .i64 a.q):=by rw[cR _ _ 6 _ _ _ HD.out];rfl
 have l5:w2.cell? ⟨w.heap.size+1,7,none⟩=some (.int .i64 a.id):=by rw[cR _ _ 7 _ _ _ HD.out];rfl
 have r0:w2.cell? ⟨w.heap.size+2,0,none⟩=some (.bool false):=by rw[cR _ _ 0 _ _ _ au.out];rfl
 have q0:w2.frozen? ⟨w.heap.size+2,0,none⟩=false:=by simp[World.frozen?,au.out]
 have r1:w2.cell? ⟨w.heap.size+2,1,none⟩=some (.int .i64 0):=by rw[cR _ _ 1 _ _ _ au.out];rfl
 have q1:w2.frozen? ⟨w.heap.size+2,1,none⟩=false:=by simp[World.frozen?,au.out]
 have r2:w2.cell? ⟨w.heap.size+2,2,none⟩=some (.int .i64 0):=by rw[cR _ _ 2 _ _ _ au.out];rfl
 have q2:w2.frozen? ⟨w.heap.size+2,2,none⟩=false:=by simp[World.frozen?,au.out]
 have Aq:Hid (w.heap.size<=w.heap.size+2):=Nat.le_add_right _ _;have hsz:w.heap.size+3<=w2.heap.size:=by have:=hb2.size;simp at this;omega
 clear hb2 HA bF ni HD0 jH;simp only[];by_cases hc:tc=0
 ·subst hc
  obtain⟨s1,s2⟩:=G6.out rfl;rw[show uJ T 0=.nilIface from rfl];have hw:IntKind.i64.wrap (a.sq+1)=a.sq+1:=IntWalk.i64_in _ (by omega);by_cases hk:a.k=113
  ·have h1:ja=false:=by rw[HN.out.1];simp[hk]
   have h2:jP=0:=by rw[HN.out.2.1];simp[hk]
   have h3:gN=0:=by rw[HN.out.2.2];simp[hk]
   subst h1 h2 h3;have hk1:(a.k==113)=true:=by simp[hk]
   clear HN G6;go_wp2;have cW:=w5 au.out (.bool false) (.int .i64 0) (.int .i64 0);have je:=w6 HB2.out Aq.out (.bool false) (.int .i64 0) (.int .i64 0);generalize ((w2.setCell ⟨w.heap.size+2,0,none⟩ (.bool false)).setCell ⟨w.heap.size+2,1,none⟩ (.int .i64 0)).setCell ⟨w.heap.size+2,2,none⟩ (.int .i64 0)=Wf at *;have z0:Wf.cell? ⟨w.heap.size+2,0,none⟩=some (.bool false):=by rw[cR Wf _ 0 _ _ _ cW];rfl
   have dn:Wf.cell? ⟨w.heap.size+2,1,none⟩=some (.int .i64 0):=by rw[cR Wf _ 1 _ _ _ cW];rfl
   have z2:Wf.cell? ⟨w.heap.size+2,2,none⟩=some (.int .i64 0):=by rw[cR Wf _ 2 _ _ _ cW];rfl
   exact bodyPost_ret (v:=.tuple #[.agg #[.bool false,.int .i64 0,.int .i64 0],.nilIface]) (by simp[results,Tryz.results208,go_sem,z0,dn,z2]) rfl ⟨rfl,je⟩
  ·have h1:ja=true:=by rw[HN.out.1];simp[hk]
   have h2:jP=a.sq+1:=by rw[HN.out.2.1];simp[hk]
   have h3:gN=now:=by rw[HN.out.2.2];simp[hk]
   subst h1 h2 h3;have hk1:(a.k==113)=false:=by simp[hk]
   clear HN G6;go_wp2;have cW:=w5 au.out (.bool true) (.int .i64 (a.sq+1)) (.int .i64 gN);have je:=w6 HB2.out Aq.out (.bool true) (.int .i64 (a.sq+1)) (.int .i64 gN);generalize ((w2.setCell ⟨w.heap.size+2,0,none⟩ (.bool true)).setCell ⟨w.heap.size+2,1,none⟩ (.int .i64 (a.sq+1))).setCell ⟨w.heap.size+2,2,none⟩ (.int .i64 gN)=Wf at *;have z0:Wf.cell? ⟨w.heap.size+2,0,none⟩=some (.bool true):=by rw[cR Wf _ 0 _ _ _ cW];rfl
   have dn:Wf.cell? ⟨w.heap.size+2,1,none⟩=some (.int .i64 (a.sq+1)):=by rw[cR Wf _ 1 _ _ _ cW];rfl
   have z2:Wf.cell? ⟨w.heap.size+2,2,none⟩=some (.int .i64 gN):=by rw[cR Wf _ 2 _ _ _ cW];rfl
   exact bodyPost_ret (v:=.tuple #[.agg #[.bool true,.int .i64 (a.sq+1),.int .i64 gN],.nilIface]) (by simp[results,Tryz.results208,go_sem,z0,dn,z2]) rfl ⟨rfl,je⟩
 ·obtain⟨d,rfl⟩:∃ d,tc=d+1:=⟨tc-1,by omega⟩
  have h1:ja=on:=by rw[HN.out.1];simp
  have h2:jP=aD:=by rw[HN.out.2.1];simp
  have h3:gN=la:=by rw[HN.out.2.2];simp
  subst h1 h2 h3;rw[show uJ T (d+1)=.iface 412 (T d) from rfl];clear HN G6 hc;go_wp2;have cW:=w5 au.out (.bool ja) (.int .i64 jP) (.int .i64 gN);have je:=w6 HB2.out Aq.out (.bool ja) (.int .i64 jP) (.int .i64 gN);generalize ((w2.setCell ⟨w.heap.size+2,0,none⟩ (.bool ja)).setCell ⟨w.heap.size+2,1,none⟩ (.int .i64 jP)).setCell ⟨w.heap.size+2,2,none⟩ (.int .i64 gN)=Wf at *;have z0:Wf.cell? ⟨w.heap.size+2,0,none⟩=some (.bool ja):=by rw[cR Wf _ 0 _ _ _ cW];rfl
  have dn:Wf.cell? ⟨w.heap.size+2,1,none⟩=some (.int .i64 jP):=by rw[cR Wf _ 1 _ _ _ cW];rfl
  have z2:Wf.cell? ⟨w.heap.size+2,2,none⟩=some (.int .i64 gN):=by rw[cR Wf _ 2 _ _ _ cW];rfl
  exact bodyPost_ret (v:=.tuple #[.agg #[.bool ja,.int .i64 jP,.int .i64 gN],.iface 412 (T d)]) (by simp[results,Tryz.results208,go_sem,z0,dn,z2]) rfl ⟨rfl,je⟩
end
end Go.Proofs.YtjolccidheflpaaGreatDoor
