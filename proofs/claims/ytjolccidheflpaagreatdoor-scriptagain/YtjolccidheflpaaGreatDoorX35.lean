/- The walks of check, Take and of the document's TakeOf. -/
import Derived.Test.YtjolccidheflpaaGreatDoorX07
import Derived.Deep.RegionWith
namespace Go.Proofs.YtjolccidheflpaaGreatDoor
open Go.Proofs.Tryz
set_option maxHeartbeats 8000000
set_option maxRecDepth 100000
open Go.RowKit
section
variable {T:Nat->Value}
theorem bF{w w1:World}{B:Nat}{o:Obj}(hb:U w w1)(h:w.heap[B]?=some o):w1.heap[B]?=some o:=by rw[hb.block _ (lBq h)];exact h
theorem anX(on:Bool)(ak la:Int)(a:Ask)(w:World)(he:Hid (uK w T)):Calls prog 237 #[my on ak la,bM a] w fun e w'=>e=.returned (wV T (a_.tc on ak a))/\U w w':=by
 have HA:=Y (fun W (hb:U w W)=>anU a W (he.later hb));have HT:Hid (a_.tc on ak a=if a_.ac a=0 then (if (a.k==108)=on then 11 else if a.sq=a_.aw on ak then 0 else 12) else a_.ac a):=rfl;generalize a_.tc on ak a=tc at *;generalize a_.ac a=ac at *;have HW:=Y (fun W=>anV on ak la W);generalize a_.aw on ak=aw at *;unfold bM aX my at *;have cG:Hid (U w ((w.alloc (.cells #[.bool on,Z ak,Z la] 107)).alloc (.cells #[.int .u8 a.k,Z a.c,Z a.sq,Z a.it,Z a.sd,Z a.pr,Z a.q,Z a.id] 95))):=aj.alloc (by simp) _;have p5:Hid (((w.alloc (.cells #[.bool on,Z ak,Z la] 107)).alloc (.cells #[.int .u8 a.k,Z a.c,Z a.sq,Z a.it,Z a.sd,Z a.pr,Z a.q,Z a.id] 95)).heap[w.heap.size]?=some (.cells #[.bool on,Z ak,Z la] 107 (0,0))):=(Below.heap_alloc _ _ _ (by simp)).trans (hNq _ _);have HD0:Hid (((w.alloc (.cells #[.bool on,Z ak,Z la] 107)).alloc (.cells #[.int .u8 a.k,Z a.c,Z a.sq,Z a.it,Z a.sd,Z a.pr,Z a.q,Z a.id] 95)).heap[w.heap.size+1]?=some (.cells #[.int .u8 a.k,Z a.c,Z a.sq,Z a.it,Z a.sd,Z a.pr,Z a.q,Z a.id] 95 (0,0))):=by
  have h:=hNq (w.alloc (.cells #[.bool on,Z ak,Z la] 107)) (.cells #[.int .u8 a.k,Z a.c,Z a.sq,Z a.it,Z a.sd,Z a.pr,Z a.q,Z a.id] 95);have e:(w.alloc (.cells #[.bool on,Z ak,Z la] 107)).heap.size=w.heap.size+1:=by simp
  show _=_;rw[e]at h;exact h
 go_enter func237,ntmps237
 go_wp2_with fail
 refine(HA _ cG).mono ?_;rintro e w2 ⟨rfl,hb2⟩;have HB2:=Y (ar cG hb2);have HS:=Y (bF hb2 p5);have HD:=Y (bF hb2 HD0);have c0:=ag HS 0 rfl;have c1:=ag HS 1 rfl;have c2:=ag HS 2 rfl;have d0:=ag HD 0 rfl;have d1:=ag HD 1 rfl;have d2:=ag HD 2 rfl;have d3:=ag HD 3 rfl;have d4:=ag HD 4 rfl;have d5:=ag HD 5 rfl;have lO:=ag HD 6 rfl;have t_:=ag HD 7 rfl;have hsz:w.heap.size+2<=w2.heap.size:=by have:=hb2.size;simp at this;omega
 have hst:=(he.later HB2).st;have auh:=(he.later HB2).IY;have aui:=(he.later HB2).size;clear hb2;simp only[];by_cases hc:ac=0
 .subst hc
  rw[show wV T 0=.nilIface from rfl];by_cases hk:(a.k==108)=on
  .have hT:tc=11:=by rw[HT.out];simp[hk]
   subst hT;subst hk;cases ep:(a.k==108)
   all_goals
    rw[ep]at c0;have hk1:=ep;simp only[beq_eq_false_iff_ne,beq_iff_eq]at hk1;go_wp2;go_ret;exact⟨rfl,HB2⟩
  .have hk2:(a.k==108)=!on:=by
    cases on <;> cases h:(a.k==108) <;> simp_all
   by_cases hq:a.sq=aw
   .have hT:tc=0:=by rw[HT.out];simp[hk,hq]
    subst hT;have AO:(a.sq != aw)=false:=by simp[hq]
    clear hq;cases on
    all_goals
     have hk1:=hk2;simp only[Bool.not_true,Bool.not_false,beq_eq_false_iff_ne,beq_iff_eq]at hk1;go_wp2;have PX:w2.drew.cell? ⟨w.heap.size+1,2,none⟩=some (Z a.sq):=d2;have xw:Hid (U w2 w2.drew):=⟨rfl,rfl,rfl,E _,fun _ _=>rfl⟩
     go_region_with (go_at_call 270;refine(HW _).mono ?_;rintro e w3 ⟨rfl,hb3⟩;have anY:=cell_later hb3 PX;have av:=Y (HB2.trans ((xw.trans hb3).mono HB2.size));have anZ:=(he.later av).IY;have an0:=(he.later av).size;clear hb3)
     all_goals
      go_wp2;go_ret;exact⟨rfl,av⟩
   .have hT:tc=12:=by rw[HT.out];simp[hk,hq]
    subst hT;have AO:(a.sq != aw)=true:=by simp[hq]
    cases on
    all_goals
     have hk1:=hk2;simp only[Bool.not_true,Bool.not_false,beq_eq_false_iff_ne,beq_iff_eq]at hk1;go_wp2;have PX:w2.drew.cell? ⟨w.heap.size+1,2,none⟩=some (Z a.sq):=d2;have xw:Hid (U w2 w2.drew):=⟨rfl,rfl,rfl,E _,fun _ _=>rfl⟩
     go_region_with (go_at_call 270;refine(HW _).mono ?_;rintro e w3 ⟨rfl,hb3⟩;have anY:=cell_later hb3 PX;have av:=Y (HB2.trans ((xw.trans hb3).mono HB2.size));have anZ:=(he.later av).IY;have an0:=(he.later av).size;clear hb3)
     all_goals
      go_wp2;go_ret;exact⟨rfl,av⟩
 .obtain⟨d,rfl⟩:∃d,ac=d+1:=⟨ac-1,by omega⟩
  have hT:tc=d+1:=by rw[HT.out];simp
  subst hT;rw[show wV T (d+1)=.iface 412 (T d) from rfl];clear hc;go_wp2;go_ret;exact⟨rfl,HB2⟩
end
section
variable {T:Nat->Value}
theorem yZ{W:World}{R:Nat}{t:TypeId}{x0 x1 x2:Value}(hz:W.heap[R]?=some (.cells #[x0,x1,x2] t (0,0)))(v0 v1 v2:Value):
  (((W.setCell (O R 0) v0).setCell (O R 1) v1).setCell (O R 2) v2).heap[R]?=some (.cells #[v0,v1,v2] t (0,0)):=by
 have h0:(W.setCell (O R 0) v0).heap[R]?=some (.cells #[v0,x1,x2] t (0,0)):=by rw[setCell_eq_setRow W R 0 _ _ _ _ hz];exact setRow_heap W R _ _ _ _ hz
 have h1:((W.setCell (O R 0) v0).setCell (O R 1) v1).heap[R]?=some (.cells #[v0,v1,x2] t (0,0)):=by rw[setCell_eq_setRow _ R 1 _ _ _ _ h0];exact setRow_heap _ R _ _ _ _ h0
 rw[setCell_eq_setRow _ R 2 _ _ _ _ h1];exact setRow_heap _ R _ _ _ _ h1
theorem y5{n R:Nat}{w W:World}(h:Below n w W)(hR:n<=R)(v0 v1 v2:Value):Below n w (((W.setCell (O R 0) v0).setCell (O R 1) v1).setCell (O R 2) v2):=by have h0:Below n w (W.setCell (O R 0) v0):=h.setCell hR v0;have h1:Below n w ((W.setCell (O R 0) v0).setCell (O R 1) v1):=h0.setCell hR v1;exact h1.setCell hR v2
theorem a_.an1{on:Bool}{ak:Int}{a:Ask}(h:a_.tc on ak a=0):a_.ac a=0:=by
 unfold a_.tc at h;by_cases e:a_.ac a=0
 .exact e
 .rw[if_neg e]at h;exact absurd h e
theorem Z8(on:Bool)(ak la now:Int)(a:Ask)(w:World)(he:Hid (uK w T)):Calls prog 208 #[my on ak la,bM a,Z now] w fun e w'=>e=.returned (.tuple #[my (a_.jJ on ak a) (a_.kA on ak a) (a_.iR on ak la a now),wV T (a_.tc on ak a)])/\U w w':=by
 have HA:=Y (fun W (hb:U w W)=>anX on ak la a W (Y (he.later hb)));have an2:Hid (a_.tc on ak a=0->0<=a.sq/\a.sq<=1073741824):=fun h=>a_.anT (a_.an1 h);have HN:Hid (a_.jJ on ak a=(if a_.tc on ak a=0 then !(a.k==113) else on)/\a_.kA on ak a=(if a_.tc on ak a=0 then (if a.k=113 then 0 else a.sq+1) else ak)/\a_.iR on ak la a now=if a_.tc on ak a=0 then (if a.k=113 then 0 else now) else la):=⟨rfl,rfl,rfl⟩;generalize a_.jJ on ak a=jJ at *;generalize a_.kA on ak a=kA at *;generalize a_.iR on ak la a now=iR at *;generalize a_.tc on ak a=tc at *;unfold bM aX my at *;have cG:Hid (U w (((w.alloc (.cells #[.bool on,Z ak,Z la] 107)).alloc (.cells #[.int .u8 a.k,Z a.c,Z a.sq,Z a.it,Z a.sd,Z a.pr,Z a.q,Z a.id] 95)).alloc (.cells #[.bool false,Z 0,Z 0] 107))):=(aj.alloc (by simp) _).alloc (by simp;omega) _;have Z9:(w.alloc (.cells #[.bool on,Z ak,Z la] 107)).heap.size=w.heap.size+1:=by simp
 have Z_:((w.alloc (.cells #[.bool on,Z ak,Z la] 107)).alloc (.cells #[.int .u8 a.k,Z a.c,Z a.sq,Z a.it,Z a.sd,Z a.pr,Z a.q,Z a.id] 95)).heap.size=w.heap.size+2:=by simp
 have p5:Hid ((((w.alloc (.cells #[.bool on,Z ak,Z la] 107)).alloc (.cells #[.int .u8 a.k,Z a.c,Z a.sq,Z a.it,Z a.sd,Z a.pr,Z a.q,Z a.id] 95)).alloc (.cells #[.bool false,Z 0,Z 0] 107)).heap[w.heap.size]?=some (.cells #[.bool on,Z ak,Z la] 107 (0,0))):=(Below.heap_alloc _ _ _ (by omega)).trans ((Below.heap_alloc _ _ _ (by omega)).trans (hNq _ _));have HD0:Hid ((((w.alloc (.cells #[.bool on,Z ak,Z la] 107)).alloc (.cells #[.int .u8 a.k,Z a.c,Z a.sq,Z a.it,Z a.sd,Z a.pr,Z a.q,Z a.id] 95)).alloc (.cells #[.bool false,Z 0,Z 0] 107)).heap[w.heap.size+1]?=some (.cells #[.int .u8 a.k,Z a.c,Z a.sq,Z a.it,Z a.sd,Z a.pr,Z a.q,Z a.id] 95 (0,0))):=by have h:=hNq (w.alloc (.cells #[.bool on,Z ak,Z la] 107)) (.cells #[.int .u8 a.k,Z a.c,Z a.sq,Z a.it,Z a.sd,Z a.pr,Z a.q,Z a.id] 95);show _=_;rw[Z9]at h;exact(Below.heap_alloc _ _ _ (by omega)).trans h
 have pF:Hid ((((w.alloc (.cells #[.bool on,Z ak,Z la] 107)).alloc (.cells #[.int .u8 a.k,Z a.c,Z a.sq,Z a.it,Z a.sd,Z a.pr,Z a.q,Z a.id] 95)).alloc (.cells #[.bool false,Z 0,Z 0] 107)).heap[w.heap.size+2]?=some (.cells #[.bool false,Z 0,Z 0] 107 (0,0))):=by have h:=hNq ((w.alloc (.cells #[.bool on,Z ak,Z la] 107)).alloc (.cells #[.int .u8 a.k,Z a.c,Z a.sq,Z a.it,Z a.sd,Z a.pr,Z a.q,Z a.id] 95)) (.cells #[.bool false,Z 0,Z 0] 107);show _=_;rw[Z_]at h;exact h
 clear Z9 Z_;go_enter func208,ntmps208
 go_wp2_with fail
 refine(HA _ cG).mono ?_;rintro e w2 ⟨rfl,hb2⟩;have HB2:=Y (ar cG hb2);have HS:=Y (bF hb2 p5);have HD:=Y (bF hb2 HD0);have au:=Y (bF hb2 pF);have c0:=ag HS 0 rfl;have c1:=ag HS 1 rfl;have c2:=ag HS 2 rfl;have d0:=ag HD 0 rfl;have d1:=ag HD 1 rfl;have d2:=ag HD 2 rfl;have d3:=ag HD 3 rfl;have d4:=ag HD 4 rfl;have d5:=ag HD 5 rfl;have lO:=ag HD 6 rfl;have t_:=ag HD 7 rfl;have r0:=ag au 0 rfl;have q0:=aC au 0;have r1:=ag au 1 rfl;have q1:=aC au 1;have r2:=ag au 2 rfl;have q2:=aC au 2;have Ce:Hid (w.heap.size<=w.heap.size+2):=Nat.le_add_right _ _;have hsz:w.heap.size+3<=w2.heap.size:=by have:=hb2.size;simp at this;omega
 clear hb2;simp only[];by_cases hc:tc=0
 .subst hc
  obtain⟨s1,s2⟩:=an2.out rfl;rw[show wV T 0=.nilIface from rfl];have hw:IntKind.i64.wrap (a.sq+1)=a.sq+1:=IntWalk.i64_in _ (by omega);by_cases hk:a.k=113
  .have h1:jJ=false:=by rw[HN.out.1];simp[hk]
   have h2:kA=0:=by rw[HN.out.2.1];simp[hk]
   have h3:iR=0:=by rw[HN.out.2.2];simp[hk]
   subst h1 h2 h3;have hk1:(a.k==113)=true:=by simp[hk]
   go_wp2;have dA:=yZ au (.bool false) (Z 0) (Z 0);have lU:=y5 HB2 Ce (.bool false) (Z 0) (Z 0);generalize ((w2.setCell ⟨w.heap.size+2,0,none⟩ (.bool false)).setCell ⟨w.heap.size+2,1,none⟩ (Z 0)).setCell ⟨w.heap.size+2,2,none⟩ (Z 0)=Wf at *;have z0:=ag dA 0 rfl;have dw:=ag dA 1 rfl;have z2:=ag dA 2 rfl;exact bodyPost_ret (v:=.tuple #[.agg #[.bool false,Z 0,Z 0],.nilIface]) (by simp[results,results208,go_sem,z0,dw,z2]) rfl ⟨rfl,lU⟩
  .have h1:jJ=true:=by rw[HN.out.1];simp[hk]
   have h2:kA=a.sq+1:=by rw[HN.out.2.1];simp[hk]
   have h3:iR=now:=by rw[HN.out.2.2];simp[hk]
   subst h1 h2 h3;have hk1:(a.k==113)=false:=by simp[hk]
   go_wp2;have dA:=yZ au (.bool true) (Z (a.sq+1)) (Z iR);have lU:=y5 HB2 Ce (.bool true) (Z (a.sq+1)) (Z iR);generalize ((w2.setCell ⟨w.heap.size+2,0,none⟩ (.bool true)).setCell ⟨w.heap.size+2,1,none⟩ (Z (a.sq+1))).setCell ⟨w.heap.size+2,2,none⟩ (Z iR)=Wf at *;have z0:=ag dA 0 rfl;have dw:=ag dA 1 rfl;have z2:=ag dA 2 rfl;exact bodyPost_ret (v:=.tuple #[.agg #[.bool true,Z (a.sq+1),Z iR],.nilIface]) (by simp[results,results208,go_sem,z0,dw,z2]) rfl ⟨rfl,lU⟩
 .obtain⟨d,rfl⟩:∃d,tc=d+1:=⟨tc-1,by omega⟩
  have h1:jJ=on:=by rw[HN.out.1];simp
  have h2:kA=ak:=by rw[HN.out.2.1];simp
  have h3:iR=la:=by rw[HN.out.2.2];simp
  subst h1 h2 h3;rw[show wV T (d+1)=.iface 412 (T d) from rfl];clear hc;go_wp2;have dA:=yZ au (.bool jJ) (Z kA) (Z iR);have lU:=y5 HB2 Ce (.bool jJ) (Z kA) (Z iR);generalize ((w2.setCell ⟨w.heap.size+2,0,none⟩ (.bool jJ)).setCell ⟨w.heap.size+2,1,none⟩ (Z kA)).setCell ⟨w.heap.size+2,2,none⟩ (Z iR)=Wf at *;have z0:=ag dA 0 rfl;have dw:=ag dA 1 rfl;have z2:=ag dA 2 rfl;exact bodyPost_ret (v:=.tuple #[.agg #[.bool jJ,Z kA,Z iR],.iface 412 (T d)]) (by simp[results,results208,go_sem,z0,dw,z2]) rfl ⟨rfl,lU⟩
end
end Go.Proofs.YtjolccidheflpaaGreatDoor
