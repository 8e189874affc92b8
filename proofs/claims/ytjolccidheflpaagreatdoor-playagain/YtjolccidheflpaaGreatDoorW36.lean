/- The walks of check, Take and of the document's TakeOf. -/
import Derived.Test.YtjolccidheflpaaGreatDoorW31
import Derived.Deep.RegionWith
import Derived.Laws.Rows
import Derived.OneCell
namespace Go.Proofs.YtjolccidheflpaaGreatDoor
set_option maxHeartbeats 8000000
set_option maxRecDepth 100000
open Go.RowKit
section
variable {T:Nat->Value}
theorem dG {w w1:World} {B:Nat} {o:Obj} (hb:Qd w w1) (h:w.heap[B]?=some o):w1.heap[B]?=some o:=by rw[hb.block _ (lBq h)];exact h
theorem ajd (on:Bool) (ar la:Int) (a:Ask) (w:World) (he:Hid (s5 w T)):Calls Tryz.prog 237 #[lx on ar la,bu a] w fun e w'=>e=.returned (vd T (bg.tc on ar a))/\Qd w w':=by
 have HA:=hDq (fun W (hb:Qd w W)=>aja a W (he.out.later hb));have HT:Hid (bg.tc on ar a=if bg.ac a=0 then (if (a.k==108)=on then 11 else if a.sq=bg.aw on ar then 0 else 12) else bg.ac a):=rfl;generalize bg.tc on ar a=tc at *;generalize bg.ac a=ac at *;have HW:=hDq (fun W=>ajb on ar la W);generalize bg.aw on ar=aw at *;unfold bu aT lx at *;have bD:Hid (Qd w ((w.alloc (.cells #[.bool on,Qa ar,Qa la] 107)).alloc (.cells #[.int .u8 a.k,Qa a.c,Qa a.sq,Qa a.it,Qa a.sd,Qa a.pr,Qa a.q,Qa a.id] 95))):=((bRq _ _).alloc (lRq _) _).alloc (by simp) _;have ft:Hid (((w.alloc (.cells #[.bool on,Qa ar,Qa la] 107)).alloc (.cells #[.int .u8 a.k,Qa a.c,Qa a.sq,Qa a.it,Qa a.sd,Qa a.pr,Qa a.q,Qa a.id] 95)).heap[w.heap.size]?=some (.cells #[.bool on,Qa ar,Qa la] 107 (0,0))):=(Below.heap_alloc _ _ _ (by simp)).trans (hNq _ _);have HD0:Hid (((w.alloc (.cells #[.bool on,Qa ar,Qa la] 107)).alloc (.cells #[.int .u8 a.k,Qa a.c,Qa a.sq,Qa a.it,Qa a.sd,Qa a.pr,Qa a.q,Qa a.id] 95)).heap[w.heap.size+1]?=some (.cells #[.int .u8 a.k,Qa a.c,Qa a.sq,Qa a.it,Qa a.sd,Qa a.pr,Qa a.q,Qa a.id] 95 (0,0))):=by
  have h:=hNq (w.alloc (.cells #[.bool on,Qa ar,Qa la] 107)) (.cells #[.int .u8 a.k,Qa a.c,Qa a.sq,Qa a.it,Qa a.sd,Qa a.pr,Qa a.q,Qa a.id] 95);have e:(w.alloc (.cells #[.bool on,Qa ar,Qa la] 107)).heap.size=w.heap.size+1:=by simp
  show _=_;rw[e]at h;exact h
 go_enter Tryz.func237,Tryz.ntmps237
 go_wp2_with fail
 refine(HA.out _ bD.out).mono ?_;rintro e w2 ⟨rfl,hb2⟩;have HB2:=hDq (bD.out.trans (hb2.mono bD.out.size));have HS:=hDq (dG hb2 ft.out);have HD:=hDq (dG hb2 HD0.out);have c0:w2.cell? (Qb w.heap.size 0)=some (.bool on):=by rw[cR _ _ 0 _ _ _ HS.out];rfl
 have c1:w2.cell? (Qb w.heap.size 1)=some (Qa ar):=by rw[cR _ _ 1 _ _ _ HS.out];rfl
 have c2:w2.cell? (Qb w.heap.size 2)=some (Qa la):=by rw[cR _ _ 2 _ _ _ HS.out];rfl
 have d0:w2.cell? ⟨w.heap.size+1,0,none⟩=some (.int .u8 a.k):=by rw[cR _ _ 0 _ _ _ HD.out];rfl
 have d1:w2.cell? ⟨w.heap.size+1,1,none⟩=some (Qa a.c):=by rw[cR _ _ 1 _ _ _ HD.out];rfl
 have d2:w2.cell? ⟨w.heap.size+1,2,none⟩=some (Qa a.sq):=by rw[cR _ _ 2 _ _ _ HD.out];rfl
 have d3:w2.cell? ⟨w.heap.size+1,3,none⟩=some (Qa a.it):=by rw[cR _ _ 3 _ _ _ HD.out];rfl
 have d4:w2.cell? ⟨w.heap.size+1,4,none⟩=some (Qa a.sd):=by rw[cR _ _ 4 _ _ _ HD.out];rfl
 have d5:w2.cell? ⟨w.heap.size+1,5,none⟩=some (Qa a.pr):=by rw[cR _ _ 5 _ _ _ HD.out];rfl
 have kT:w2.cell? ⟨w.heap.size+1,6,none⟩=some (Qa a.q):=by rw[cR _ _ 6 _ _ _ HD.out];rfl
 have sR:w2.cell? ⟨w.heap.size+1,7,none⟩=some (Qa a.id):=by rw[cR _ _ 7 _ _ _ HD.out];rfl
 have hsz:w.heap.size+2<=w2.heap.size:=by have:=hb2.size;simp at this;omega
 have hst:=(he.out.later HB2.out).st;have apb:=(he.out.later HB2.out).Hz;have apc:=(he.out.later HB2.out).size;clear hb2 HA bD ft HD0;simp only[];by_cases hc:ac=0
 .subst hc
  rw[show vd T 0=.nilIface from rfl];by_cases hk:(a.k==108)=on
  .have hT:tc=11:=by rw[HT.out];simp[hk]
   subst hT;subst hk;clear HT HW;cases dW:(a.k==108)
   all_goals
    rw[dW]at c0;have hk1:=dW;simp only[beq_eq_false_iff_ne,beq_iff_eq]at hk1;go_wp2;go_ret;exact⟨rfl,HB2.out⟩
  .have hk2:(a.k==108)=!on:=by
    cases on <;> cases h:(a.k==108) <;> simp_all
   by_cases hq:a.sq=aw
   .have hT:tc=0:=by rw[HT.out];simp[hk,hq]
    subst hT;have zw:(a.sq != aw)=false:=by simp[hq]
    clear HT hq;cases on
    all_goals
     have hk1:=hk2;simp only[Bool.not_true,Bool.not_false,beq_eq_false_iff_ne,beq_iff_eq]at hk1;go_wp2;have Ob:w2.drew.cell? ⟨w.heap.size+1,2,none⟩=some (Qa a.sq):=d2;have pA:Hid (Qd w2 w2.drew):=⟨rfl,rfl,rfl,lRq _,fun _ _=>rfl⟩
     go_region_with (go_at_call 270;refine(HW.out _).mono ?_;rintro e w3 ⟨rfl,hb3⟩;have aje:=cell_later hb3 Ob;have au:=hDq (HB2.out.trans ((pA.out.trans hb3).mono HB2.out.size));have ajf:=(he.out.later au.out).Hz;have ajg:=(he.out.later au.out).size;clear hb3)
     all_goals
      go_wp2;go_ret;exact⟨rfl,au.out⟩
   .have hT:tc=12:=by rw[HT.out];simp[hk,hq]
    subst hT;have zw:(a.sq != aw)=true:=by simp[hq]
    clear HT;cases on
    all_goals
     have hk1:=hk2;simp only[Bool.not_true,Bool.not_false,beq_eq_false_iff_ne,beq_iff_eq]at hk1;go_wp2;have Ob:w2.drew.cell? ⟨w.heap.size+1,2,none⟩=some (Qa a.sq):=d2;have pA:Hid (Qd w2 w2.drew):=⟨rfl,rfl,rfl,lRq _,fun _ _=>rfl⟩
     go_region_with (go_at_call 270;refine(HW.out _).mono ?_;rintro e w3 ⟨rfl,hb3⟩;have aje:=cell_later hb3 Ob;have au:=hDq (HB2.out.trans ((pA.out.trans hb3).mono HB2.out.size));have ajf:=(he.out.later au.out).Hz;have ajg:=(he.out.later au.out).size;clear hb3)
     all_goals
      go_wp2;go_ret;exact⟨rfl,au.out⟩
 .obtain⟨d,rfl⟩:∃ d,ac=d+1:=⟨ac-1,by omega⟩
  have hT:tc=d+1:=by rw[HT.out];simp
  subst hT;rw[show vd T (d+1)=.iface 412 (T d) from rfl];clear HT hc HW;go_wp2;go_ret;exact⟨rfl,HB2.out⟩
end
section
variable {T:Nat->Value}
theorem xC {W:World} {R:Nat} {t:TypeId} {x0 x1 x2:Value} (hz:W.heap[R]?=some (.cells #[x0,x1,x2] t (0,0))) (v0 v1 v2:Value) :
  (((W.setCell (Qb R 0) v0).setCell (Qb R 1) v1).setCell (Qb R 2) v2).heap[R]?=some (.cells #[v0,v1,v2] t (0,0)):=by
 have h0:(W.setCell (Qb R 0) v0).heap[R]?=some (.cells #[v0,x1,x2] t (0,0)):=by
  rw[setCell_eq_setRow W R 0 _ _ _ _ hz];exact setRow_heap W R _ _ _ _ hz
 have h1:((W.setCell (Qb R 0) v0).setCell (Qb R 1) v1).heap[R]?=some (.cells #[v0,v1,x2] t (0,0)):=by
  rw[setCell_eq_setRow _ R 1 _ _ _ _ h0];exact setRow_heap _ R _ _ _ _ h0
 rw[setCell_eq_setRow _ R 2 _ _ _ _ h1];exact setRow_heap _ R _ _ _ _ h1
theorem xD {n R:Nat} {w W:World} (h:Below n w W) (hR:n<=R) (v0 v1 v2:Value):Below n w (((W.setCell (Qb R 0) v0).setCell (Qb R 1) v1).setCell (Qb R 2) v2):=by
 have h0:Below n w (W.setCell (Qb R 0) v0):=h.setCell hR v0;have h1:Below n w ((W.setCell (Qb R 0) v0).setCell (Qb R 1) v1):=h0.setCell hR v1;exact h1.setCell hR v2
theorem bg.ajh {on:Bool} {ar:Int} {a:Ask} (h:bg.tc on ar a=0):bg.ac a=0:=by
 unfold bg.tc at h;by_cases e:bg.ac a=0
 .exact e
 .rw[if_neg e]at h;exact absurd h e
theorem Xx (on:Bool) (ar la now:Int) (a:Ask) (w:World) (he:Hid (s5 w T)):Calls Tryz.prog 208 #[lx on ar la,bu a,Qa now] w fun e w'=>e=.returned (.tuple #[lx (bg.iL on ar a) (bg.jl on ar a) (bg.gC on ar la a now),vd T (bg.tc on ar a)])/\Qd w w':=by
 have HA:=hDq (fun W (hb:Qd w W)=>ajd on ar la a W (hDq (he.out.later hb)));have HV:Hid (bg.tc on ar a=0->0<=a.sq/\a.sq<=1073741824):=fun h=>bg.ai9 (bg.ajh h);have HN:Hid (bg.iL on ar a=(if bg.tc on ar a=0 then !(a.k==113) else on)/\bg.jl on ar a=(if bg.tc on ar a=0 then (if a.k=113 then 0 else a.sq+1) else ar)/\bg.gC on ar la a now=if bg.tc on ar a=0 then (if a.k=113 then 0 else now) else la):=⟨rfl,rfl,rfl⟩;generalize bg.iL on ar a=iL at *;generalize bg.jl on ar a=jl at *;generalize bg.gC on ar la a now=gC at *;generalize bg.tc on ar a=tc at *;unfold bu aT lx at *;have bD:Hid (Qd w (((w.alloc (.cells #[.bool on,Qa ar,Qa la] 107)).alloc (.cells #[.int .u8 a.k,Qa a.c,Qa a.sq,Qa a.it,Qa a.sd,Qa a.pr,Qa a.q,Qa a.id] 95)).alloc (.cells #[.bool false,Qa 0,Qa 0] 107))):=(((bRq _ _).alloc (lRq _) _).alloc (by simp) _).alloc (by simp;omega) _;have Xy:(w.alloc (.cells #[.bool on,Qa ar,Qa la] 107)).heap.size=w.heap.size+1:=by simp
 have Xz:((w.alloc (.cells #[.bool on,Qa ar,Qa la] 107)).alloc (.cells #[.int .u8 a.k,Qa a.c,Qa a.sq,Qa a.it,Qa a.sd,Qa a.pr,Qa a.q,Qa a.id] 95)).heap.size=w.heap.size+2:=by simp
 have ft:Hid ((((w.alloc (.cells #[.bool on,Qa ar,Qa la] 107)).alloc (.cells #[.int .u8 a.k,Qa a.c,Qa a.sq,Qa a.it,Qa a.sd,Qa a.pr,Qa a.q,Qa a.id] 95)).alloc (.cells #[.bool false,Qa 0,Qa 0] 107)).heap[w.heap.size]?=some (.cells #[.bool on,Qa ar,Qa la] 107 (0,0))):=(Below.heap_alloc _ _ _ (by omega)).trans ((Below.heap_alloc _ _ _ (by omega)).trans (hNq _ _));have HD0:Hid ((((w.alloc (.cells #[.bool on,Qa ar,Qa la] 107)).alloc (.cells #[.int .u8 a.k,Qa a.c,Qa a.sq,Qa a.it,Qa a.sd,Qa a.pr,Qa a.q,Qa a.id] 95)).alloc (.cells #[.bool false,Qa 0,Qa 0] 107)).heap[w.heap.size+1]?=some (.cells #[.int .u8 a.k,Qa a.c,Qa a.sq,Qa a.it,Qa a.sd,Qa a.pr,Qa a.q,Qa a.id] 95 (0,0))):=by
  have h:=hNq (w.alloc (.cells #[.bool on,Qa ar,Qa la] 107)) (.cells #[.int .u8 a.k,Qa a.c,Qa a.sq,Qa a.it,Qa a.sd,Qa a.pr,Qa a.q,Qa a.id] 95);show _=_;rw[Xy]at h;exact(Below.heap_alloc _ _ _ (by omega)).trans h
 have jY:Hid ((((w.alloc (.cells #[.bool on,Qa ar,Qa la] 107)).alloc (.cells #[.int .u8 a.k,Qa a.c,Qa a.sq,Qa a.it,Qa a.sd,Qa a.pr,Qa a.q,Qa a.id] 95)).alloc (.cells #[.bool false,Qa 0,Qa 0] 107)).heap[w.heap.size+2]?=some (.cells #[.bool false,Qa 0,Qa 0] 107 (0,0))):=by
  have h:=hNq ((w.alloc (.cells #[.bool on,Qa ar,Qa la] 107)).alloc (.cells #[.int .u8 a.k,Qa a.c,Qa a.sq,Qa a.it,Qa a.sd,Qa a.pr,Qa a.q,Qa a.id] 95)) (.cells #[.bool false,Qa 0,Qa 0] 107);show _=_;rw[Xz]at h;exact h
 clear Xy Xz;go_enter Tryz.func208,Tryz.ntmps208
 go_wp2_with fail
 refine(HA.out _ bD.out).mono ?_;rintro e w2 ⟨rfl,hb2⟩;have HB2:=hDq (bD.out.trans (hb2.mono bD.out.size));have HS:=hDq (dG hb2 ft.out);have HD:=hDq (dG hb2 HD0.out);have av:=hDq (dG hb2 jY.out);have c0:w2.cell? (Qb w.heap.size 0)=some (.bool on):=by rw[cR _ _ 0 _ _ _ HS.out];rfl
 have c1:w2.cell? (Qb w.heap.size 1)=some (Qa ar):=by rw[cR _ _ 1 _ _ _ HS.out];rfl
 have c2:w2.cell? (Qb w.heap.size 2)=some (Qa la):=by rw[cR _ _ 2 _ _ _ HS.out];rfl
 have d0:w2.cell? ⟨w.heap.size+1,0,none⟩=some (.int .u8 a.k):=by rw[cR _ _ 0 _ _ _ HD.out];rfl
 have d1:w2.cell? ⟨w.heap.size+1,1,none⟩=some (Qa a.c):=by rw[cR _ _ 1 _ _ _ HD.out];rfl
 have d2:w2.cell? ⟨w.heap.size+1,2,none⟩=some (Qa a.sq):=by rw[cR _ _ 2 _ _ _ HD.out];rfl
 have d3:w2.cell? ⟨w.heap.size+1,3,none⟩=some (Qa a.it):=by rw[cR _ _ 3 _ _ _ HD.out];rfl
 have d4:w2.cell? ⟨w.heap.size+1,4,none⟩=some (Qa a.sd):=by rw[cR _ _ 4 _ _ _ HD.out];rfl
 have d5:w2.cell? ⟨w.heap.size+1,5,none⟩=some (Qa a.pr):=by rw[cR _ _ 5 _ _ _ HD.out];rfl
 have kT:w2.cell? ⟨w.heap.size+1,6,none⟩=some (Qa a.q):=by rw[cR _ _ 6 _ _ _ HD.out];rfl
 have sR:w2.cell? ⟨w.heap.size+1,7,none⟩=some (Qa a.id):=by rw[cR _ _ 7 _ _ _ HD.out];rfl
 have r0:w2.cell? ⟨w.heap.size+2,0,none⟩=some (.bool false):=by rw[cR _ _ 0 _ _ _ av.out];rfl
 have q0:w2.frozen? ⟨w.heap.size+2,0,none⟩=false:=by simp[World.frozen?,av.out]
 have r1:w2.cell? ⟨w.heap.size+2,1,none⟩=some (Qa 0):=by rw[cR _ _ 1 _ _ _ av.out];rfl
 have q1:w2.frozen? ⟨w.heap.size+2,1,none⟩=false:=by simp[World.frozen?,av.out]
 have r2:w2.cell? ⟨w.heap.size+2,2,none⟩=some (Qa 0):=by rw[cR _ _ 2 _ _ _ av.out];rfl
 have q2:w2.frozen? ⟨w.heap.size+2,2,none⟩=false:=by simp[World.frozen?,av.out]
 have Az:Hid (w.heap.size<=w.heap.size+2):=Nat.le_add_right _ _;have hsz:w.heap.size+3<=w2.heap.size:=by have:=hb2.size;simp at this;omega
 clear hb2 HA bD ft HD0 jY;simp only[];by_cases hc:tc=0
 .subst hc
  obtain⟨s1,s2⟩:=HV.out rfl;rw[show vd T 0=.nilIface from rfl];have hw:IntKind.i64.wrap (a.sq+1)=a.sq+1:=IntWalk.i64_in _ (by omega);by_cases hk:a.k=113
  .have h1:iL=false:=by rw[HN.out.1];simp[hk]
   have h2:jl=0:=by rw[HN.out.2.1];simp[hk]
   have h3:gC=0:=by rw[HN.out.2.2];simp[hk]
   subst h1 h2 h3;have hk1:(a.k==113)=true:=by simp[hk]
   clear HN HV;go_wp2;have cW:=xC av.out (.bool false) (Qa 0) (Qa 0);have jB:=xD HB2.out Az.out (.bool false) (Qa 0) (Qa 0);generalize ((w2.setCell ⟨w.heap.size+2,0,none⟩ (.bool false)).setCell ⟨w.heap.size+2,1,none⟩ (Qa 0)).setCell ⟨w.heap.size+2,2,none⟩ (Qa 0)=Wf at *;have z0:Wf.cell? ⟨w.heap.size+2,0,none⟩=some (.bool false):=by rw[cR Wf _ 0 _ _ _ cW];rfl
   have dw:Wf.cell? ⟨w.heap.size+2,1,none⟩=some (Qa 0):=by rw[cR Wf _ 1 _ _ _ cW];rfl
   have z2:Wf.cell? ⟨w.heap.size+2,2,none⟩=some (Qa 0):=by rw[cR Wf _ 2 _ _ _ cW];rfl
   exact bodyPost_ret (v:=.tuple #[.agg #[.bool false,Qa 0,Qa 0],.nilIface]) (by simp[results,Tryz.results208,go_sem,z0,dw,z2]) rfl ⟨rfl,jB⟩
  .have h1:iL=true:=by rw[HN.out.1];simp[hk]
   have h2:jl=a.sq+1:=by rw[HN.out.2.1];simp[hk]
   have h3:gC=now:=by rw[HN.out.2.2];simp[hk]
   subst h1 h2 h3;have hk1:(a.k==113)=false:=by simp[hk]
   clear HN HV;go_wp2;have cW:=xC av.out (.bool true) (Qa (a.sq+1)) (Qa gC);have jB:=xD HB2.out Az.out (.bool true) (Qa (a.sq+1)) (Qa gC);generalize ((w2.setCell ⟨w.heap.size+2,0,none⟩ (.bool true)).setCell ⟨w.heap.size+2,1,none⟩ (Qa (a.sq+1))).setCell ⟨w.heap.size+2,2,none⟩ (Qa gC)=Wf at *;have z0:Wf.cell? ⟨w.heap.size+2,0,none⟩=some (.bool true):=by rw[cR Wf _ 0 _ _ _ cW];rfl
   have dw:Wf.cell? ⟨w.heap.size+2,1,none⟩=some (Qa (a.sq+1)):=by rw[cR Wf _ 1 _ _ _ cW];rfl
   have z2:Wf.cell? ⟨w.heap.size+2,2,none⟩=some (Qa gC):=by rw[cR Wf _ 2 _ _ _ cW];rfl
   exact bodyPost_ret (v:=.tuple #[.agg #[.bool true,Qa (a.sq+1),Qa gC],.nilIface]) (by simp[results,Tryz.results208,go_sem,z0,dw,z2]) rfl ⟨rfl,jB⟩
 .obtain⟨d,rfl⟩:∃ d,tc=d+1:=⟨tc-1,by omega⟩
  have h1:iL=on:=by rw[HN.out.1];simp
  have h2:jl=ar:=by rw[HN.out.2.1];simp
  have h3:gC=la:=by rw[HN.out.2.2];simp
  subst h1 h2 h3;rw[show vd T (d+1)=.iface 412 (T d) from rfl];clear HN HV hc;go_wp2;have cW:=xC av.out (.bool iL) (Qa jl) (Qa gC);have jB:=xD HB2.out Az.out (.bool iL) (Qa jl) (Qa gC);generalize ((w2.setCell ⟨w.heap.size+2,0,none⟩ (.bool iL)).setCell ⟨w.heap.size+2,1,none⟩ (Qa jl)).setCell ⟨w.heap.size+2,2,none⟩ (Qa gC)=Wf at *;have z0:Wf.cell? ⟨w.heap.size+2,0,none⟩=some (.bool iL):=by rw[cR Wf _ 0 _ _ _ cW];rfl
  have dw:Wf.cell? ⟨w.heap.size+2,1,none⟩=some (Qa jl):=by rw[cR Wf _ 1 _ _ _ cW];rfl
  have z2:Wf.cell? ⟨w.heap.size+2,2,none⟩=some (Qa gC):=by rw[cR Wf _ 2 _ _ _ cW];rfl
  exact bodyPost_ret (v:=.tuple #[.agg #[.bool iL,Qa jl,Qa gC],.iface 412 (T d)]) (by simp[results,Tryz.results208,go_sem,z0,dw,z2]) rfl ⟨rfl,jB⟩
end
end Go.Proofs.YtjolccidheflpaaGreatDoor
