/- Add of a book by its contract. -/
import Derived.Test.YtjolccidheflpaaGreatDoorV13
import Derived.Test.YtjolccidheflpaaGreatDoorV09
import Derived.Test.YtjolccidheflpaaGreatDoorV21
namespace Go.Proofs.YtjolccidheflpaaGreatDoor
set_option maxHeartbeats 8000000
open Go.RowKit Go.Maps
set_option maxRecDepth 100000
theorem QL {x:Cv.ag}:Cv.eJ [x]↔Cv.ok x=true:=by
 constructor
 ·intro h
  exact h.oks x (by simp)
 ·intro h
  refine⟨by simp,fun i hi=>?_⟩;have:i=0:=by simp at hi;omega
  subst this;simp[Cv.oK,Cv.nth,h,Cv.has]
theorem aby (w:World) (x:Cv.ag):gC (w.alloc (.cells #[.int .i64 x.id,.int .i64 x.ak,.int .i64 x.sd,.int .i64 x.pr,.int .i64 x.q] 197)) (.slice (some ⟨w.heap.size,0,none⟩) 1 1) [x]:=by
 refine .inr ⟨_,0,1,rfl,lRq _,?_⟩;refine z6 fun j u hj=>?_;have i7:(dK x)[j]?=some u:=by simpa [flat] using hj
 have:=xD w x 197 _ rfl j u i7
 have hp:(⟨w.heap.size,0,none⟩:Addr).add j=⟨w.heap.size,j,none⟩:=by unfold Addr.add;split <;> simp_all
 rwa [hp]at this
theorem abz (p base:Nat) (v:Value) (x:Cv.ag) (l:List Cv.ag) (T:TypeId) (v1 v5 v6 v7:Value) (w:World) (he:Hid (uX w T v1 v5 v6 v7)) (hb:Hid (cA w base p v l)) (hn:Hid (l.length<=60)) :
  Calls Tryz.prog 247 #[.pointer (some ⟨p,0,none⟩),bJ x] w fun e w'=>e=.returned (sN T v1 v5 v6 v7 (Bk.er l x))∧∃ v',cA w' base p v' (Bk.jU l x)∧Step w w' p v v':=by
 show Calls Tryz.prog 247 #[.pointer (some ⟨p,0,none⟩),.agg #[.int .i64 x.id,.int .i64 x.ak,.int .i64 x.sd,.int .i64 x.pr,.int .i64 x.q]] w _;have hbW:Below w.heap.size w ((w.alloc (.cells #[.int .i64 x.id,.int .i64 x.ak,.int .i64 x.sd,.int .i64 x.pr,.int .i64 x.q] 197)).alloc (.cells #[.int .i64 x.id,.int .i64 x.ak,.int .i64 x.sd,.int .i64 x.pr,.int .i64 x.q] 197)):=((bRq _ _).alloc (lRq _) _).alloc (by simp) _;have z7:=aby (w.alloc (.cells #[.int .i64 x.id,.int .i64 x.ak,.int .i64 x.sd,.int .i64 x.pr,.int .i64 x.q] 197)) x;rw[show (w.alloc (.cells #[.int .i64 x.id,.int .i64 x.ak,.int .i64 x.sd,.int .i64 x.pr,.int .i64 x.q] 197)).heap.size=w.heap.size+1 by simp]at z7;cases hok:Cv.ok x with
 | false =>
  have HC:=hDq (abA _ [x] T v1 v6 v7 _ z7 (he.out.bP.later hbW) (fun h=>by rw[QL.1 h]at hok;cases hok));have HA:Hid (Bk.er l x=1∧Bk.jU l x=l):=by
   have e:Bk.er l x=1:=by unfold Bk.er;rw[hok];rfl
   exact⟨e,by unfold Bk.jU;rw[e];rfl⟩
  have bz:=hDq hbW;clear hok z7 hbW;go_enter Tryz.func247,Tryz.ntmps247
  go_wp2_with fail
  refine HC.out.mono ?_;rintro e w2 ⟨⟨U,y,rfl⟩,hb2⟩;have HB:Hid (Below w.heap.size w w2):=bz.out.trans (hb2.mono bz.out.size);have c1:=(he.out.bP.later HB.out).c1;clear hb2 HC bz;simp only[];go_wp2;go_ret;exact⟨by rw[HA.out.1];rfl,v,by rw[HA.out.2];exact hb.out.later HB.out,Step.of_below HB.out p v⟩
 | true =>
  have HC:=hDq (Jy _ [x] T v1 v6 v7 _ z7 (he.out.bP.later hbW) (QL.2 hok));have gY:=hDq hok;have bz:=hDq hbW;clear hok z7 hbW;go_enter Tryz.func247,Tryz.ntmps247
  go_wp2_with fail
  refine HC.out.mono ?_;rintro e w2 ⟨rfl,hb2⟩;have HB:Hid (Below w.heap.size w w2):=bz.out.trans (hb2.mono bz.out.size);have hX:w2.heap[w.heap.size]?=some (.cells #[.int .i64 x.id,.int .i64 x.ak,.int .i64 x.sd,.int .i64 x.pr,.int .i64 x.q] 197 (0,0)):=by
   rw[hb2.block _ (by simp;omega),heap_alloc_old _ _ (by simp),hNq]
  have HX:=hDq hX;have a0:w2.cell? ⟨w.heap.size,0,none⟩=some (.int .i64 x.id):=by simp[World.cell?,hX]
  clear hb2 HC bz hX;simp only[]
  go_wp2_with fail
  refine(DJ p base v x.id l w2 (hb.out.later HB.out) hn).mono ?_;rintro e w3 ⟨rfl,hb3⟩;have au:Hid (Below w.heap.size w w3):=HB.out.trans (hb3.mono HB.out.size);have hX:w3.heap[w.heap.size]?=some (.cells #[.int .i64 x.id,.int .i64 x.ak,.int .i64 x.sd,.int .i64 x.pr,.int .i64 x.q] 197 (0,0)):=by
   rw[hb3.block _ (lBq HX.out)];exact HX.out
  have dL:=hDq hX;have qF:=hDq (hb.out.later au.out);have QM:=hDq (he.out.later au.out);clear hb3 HX a0 HB hX;cases hh:Cv.has l x.id with
  | true =>
   rw[Bk.zX hh];have HA:Hid (Bk.er l x=2∧Bk.jU l x=l):=by
    have e:Bk.er l x=2:=by unfold Bk.er;rw[if_pos gY.out,if_pos hh]
    exact⟨e,by unfold Bk.jU;rw[e];rfl⟩
   have h0:¬ ((Bk.pos l x.id:Nat):Int)<0:=by omega
   have anH:(0:Int)<=((Bk.pos l x.id:Nat):Int):=by omega
   have c6:=QM.out.bP.c6;clear hh;generalize Bk.pos l x.id=k at *;simp only[];go_wp2;go_ret;exact⟨by rw[HA.out.1];rfl,v,by rw[HA.out.2];exact qF.out,Step.of_below au.out p v⟩
  | false =>
   rw[Bk.zW hh];have Hh:=hDq hh;clear hh;have hcell:=cell_of_one qF.out.cell;obtain⟨a,m,c,rfl⟩:∃ a m c,v=.slice a m c:=by
    rcases qF.out.form with ⟨e,_⟩ | ⟨g,cap,e,_⟩
    ·exact⟨_,_,_,e⟩
    ·exact⟨_,_,_,e⟩
   have hm:m=l.length:=by
    rcases qF.out.form with ⟨e,e2⟩ | ⟨g,cap,e,_⟩
    ·simp at e;rw[e2];exact e.2.1
    ·simp at e;exact e.2.1
   have HM:=hDq hm;have abB:m<=60:=by rw[hm];exact hn.out
   clear hm;by_cases hf:60<=m
   ·have hf':(60:Int)<=m:=by omega
    have HA:Hid (Bk.er l x=3∧Bk.jU l x=l):=by
     have e:Bk.er l x=3:=by unfold Bk.er;rw[if_pos gY.out,if_neg (by rw[Hh.out];simp),if_pos (by rw[<- HM.out];exact hf)]
     exact⟨e,by unfold Bk.jU;rw[e];rfl⟩
    have c7:=QM.out.bP.c7;simp only[];go_wp2;go_ret;exact⟨by rw[HA.out.1];rfl,_,by rw[HA.out.2];exact qF.out,Step.of_below au.out p _⟩
   ·have hf':¬ (60:Int)<=m:=by omega
    have HA:Hid (Bk.er l x=0∧Bk.jU l x=l++[x]):=by
     have e:Bk.er l x=0:=by unfold Bk.er;rw[if_pos gY.out,if_neg (by rw[Hh.out];simp),if_neg (by rw[<- HM.out];exact hf)]
     exact⟨e,by unfold Bk.jU;rw[if_pos e]⟩
    have hX:=dL.out;have b0:w3.cell? ⟨w.heap.size,0,none⟩=some (.int .i64 x.id):=by simp[World.cell?,hX]
    have b1:w3.cell? ⟨w.heap.size,1,none⟩=some (.int .i64 x.ak):=by simp[World.cell?,hX]
    have b2:w3.cell? ⟨w.heap.size,2,none⟩=some (.int .i64 x.sd):=by simp[World.cell?,hX]
    have b3:w3.cell? ⟨w.heap.size,3,none⟩=some (.int .i64 x.pr):=by simp[World.cell?,hX]
    have b4:w3.cell? ⟨w.heap.size,4,none⟩=some (.int .i64 x.q):=by simp[World.cell?,hX]
    clear hX;have Jz:Below w3.heap.size w3 (w3.drew.alloc (.cells #[.int .i64 x.id,.int .i64 x.ak,.int .i64 x.sd,.int .i64 x.pr,.int .i64 x.q] 197)):=(QN (bRq _ _)).alloc (lRq _) _;have xE:=qF.out.later Jz;obtain⟨i0,z0,hi,hz0,hz1,hz2,hz3⟩:=JA;obtain⟨v4,w4,hap,hrow,hg,_,hloc⟩:=run_append_own_at (P:=Tryz.prog) (w3.drew.alloc (.cells #[.int .i64 x.id,.int .i64 x.ak,.int .i64 x.sd,.int .i64 x.pr,.int .i64 x.q] 197)) base 195 195 197 i0 z0 5 40 Tryz.underlying195 hi hz0 hz1 hz2 hz3 (by decide) _ _ _ xE.row ⟨w3.heap.size,0,none⟩ 1 1 (dK x) rfl
     (fun j u hj=>xD _ x 197 _ rfl j u hj)
     (fun u hu=>by
      simp only[dK,List.mem_cons,List.not_mem_nil,or_false]at hu;rcases hu with rfl | rfl | rfl | rfl | rfl <;> rfl) (by unfold maxLen;have:=hn.out;omega) (by have:=hn.out;omega) (by have h1:=xE.lo;have h2:=xE.lt;omega)
    obtain⟨k1,k2⟩:=xE.xF hg;obtain⟨a4,m4,c4,rfl⟩:∃ a m c,v4=.slice a m c:=by
     rcases hrow.2 with ⟨e,_⟩ | ⟨g,cap,cur,e,_⟩
     ·exact⟨_,_,_,e⟩
     ·exact⟨_,_,_,e⟩
    have hset:=xE.set (l':=l++[x]) hg (by rw[lAq,zY];simpa [flat] using hrow) (fun k hk=>by
     rcases hloc with h | h
     ·rw[h]at hk;exact .inl hk
     ·rw[h]at hk;exact .inr (Nat.le_of_eq (Option.some.inj hk)))
    have z8:=hDq hset;have cO:=hDq hap;have z_:=hDq Jz;clear hset hap hrow hg hloc hi hz0 hz1 hz2 hz3 xE Jz;have hpl:p<w3.heap.size:=qF.out.lt;have lL:w.heap.size<w3.heap.size:=lBq dL.out;simp only[];go_wp2
    go_region_law (refine QO rfl _ _ 195 rfl _ _ _ rfl rfl cO.out ?_)
    all_goals go_wp2
    all_goals go_ret
    all_goals exact⟨by rw[HA.out.1];rfl,_,by rw[HA.out.2];exact z8.out.1,(Step.of_below (au.out.trans (z_.out.mono au.out.size)) p _).trans z8.out.2⟩
end Go.Proofs.YtjolccidheflpaaGreatDoor
