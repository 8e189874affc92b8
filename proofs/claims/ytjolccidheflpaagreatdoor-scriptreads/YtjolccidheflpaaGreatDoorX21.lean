/- Add of a book by its contract. -/
import Derived.Test.YtjolccidheflpaaGreatDoorX12
import Derived.Test.YtjolccidheflpaaGreatDoorX20
namespace Go.Proofs.YtjolccidheflpaaGreatDoor
open Go.Proofs.Tryz
set_option maxHeartbeats 8000000
set_option maxRecDepth 100000
open Go.RowKit Go.Maps
theorem RO{x:Cv.af}:Cv.gh [x]↔Cv.ok x=true:=by
 constructor
 .intro h
  exact h.oks x (by simp)
 .intro h
  refine⟨by simp,fun i hi=>?_⟩;have:i=0:=by simp at hi;omega
  subst this;simp[Cv.qj,Cv.nth,h,Cv.has]
theorem adB(w:World)(x:Cv.af):iJ (w.alloc (.cells #[Z x.id,Z x.ai,Z x.sd,Z x.pr,Z x.q] 197)) (.slice (some (O w.heap.size 0)) 1 1) [x]:=by
 refine .inr ⟨_,0,1,rfl,E _,?_⟩;refine Bv fun j u hj=>?_;have j8:(eK x)[j]?=some u:=by simpa [flat] using hj
 have:=zu w x 197 _ rfl j u j8
 have hp:(⟨w.heap.size,0,none⟩:Addr).add j=(O w.heap.size j):=by unfold Addr.add;split <;> simp_all
 rwa [hp]at this
theorem adC(p base:Nat)(v:Value)(x:Cv.af)(l:List Cv.af)(T:TypeId)(v1 v5 v6 v7:Value)(w:World)(he:Hid (xk w T v1 v5 v6 v7))(hb:Hid (dG w base p v l))(hn:Hid (l.length<=60)):
  Calls prog 247 #[Rw p,cm x] w fun e w'=>e=.returned (uW T v1 v5 v6 v7 (Bk.fF l x))/\∃v',dG w' base p v' (Bk.lq l x)/\Step w w' p v v':=by
 show Calls prog 247 #[Rw p,.agg #[Z x.id,Z x.ai,Z x.sd,Z x.pr,Z x.q]] w _;have hbW:U w ((w.alloc (.cells #[Z x.id,Z x.ai,Z x.sd,Z x.pr,Z x.q] 197)).alloc (.cells #[Z x.id,Z x.ai,Z x.sd,Z x.pr,Z x.q] 197)):=aj.alloc (by simp) _;have Bw:=adB (w.alloc (.cells #[Z x.id,Z x.ai,Z x.sd,Z x.pr,Z x.q] 197)) x;rw[show (w.alloc (.cells #[Z x.id,Z x.ai,Z x.sd,Z x.pr,Z x.q] 197)).heap.size=w.heap.size+1 by simp]at Bw;cases hok:Cv.ok x with
 | false =>
  have HC:=Y (adD _ [x] T v1 v6 v7 _ Bw (he.cp.later hbW) (fun h=>by rw[RO.1 h]at hok;cases hok));have HA:Hid (Bk.fF l x=1/\Bk.lq l x=l):=by
   have e:Bk.fF l x=1:=by unfold Bk.fF;rw[hok];rfl
   exact⟨e,by unfold Bk.lq;rw[e];rfl⟩
  have fR:=Y hbW;clear hok Bw hbW;go_enter func247,ntmps247
  go_wp2_with fail
  refine HC.mono ?_;rintro e w2 ⟨⟨Uqq,y,rfl⟩,hb2⟩;have HB:Hid (U w w2):=ar fR hb2;have c1:=(he.cp.later HB).c1;clear hb2;simp only[];go_wp2;go_ret;exact⟨by rw[HA.out.1];rfl,v,by rw[HA.out.2];exact hb.later HB,Step.of_below HB p v⟩
 | true =>
  have HC:=Y (JH _ [x] T v1 v6 v7 _ Bw (he.cp.later hbW) (RO.2 hok));have kE:=Y hok;have fR:=Y hbW;clear hok Bw hbW;go_enter func247,ntmps247
  go_wp2_with fail
  refine HC.mono ?_;rintro e w2 ⟨rfl,hb2⟩;have HB:Hid (U w w2):=ar fR hb2;have hX:w2.heap[w.heap.size]?=some (.cells #[Z x.id,Z x.ai,Z x.sd,Z x.pr,Z x.q] 197 (0,0)):=by rw[hb2.block _ (by simp;omega),heap_alloc_old _ _ (by simp),hNq]
  have HX:=Y hX;have a0:w2.cell? (O w.heap.size 0)=some (Z x.id):=by simp[World.cell?,hX]
  clear hb2 hX;simp only[]
  go_wp2_with fail
  refine(E_ p base v x.id l w2 (hb.later HB) hn).mono ?_;rintro e w3 ⟨rfl,hb3⟩;have av:Hid (U w w3):=ar HB hb3;have hX:w3.heap[w.heap.size]?=some (.cells #[Z x.id,Z x.ai,Z x.sd,Z x.pr,Z x.q] 197 (0,0)):=by rw[hb3.block _ (lBq HX.out)];exact HX
  have gC:=Y hX;have sT:=Y (hb.later av);have RP:=Y (he.later av);clear hb3 a0 hX;cases hh:Cv.has l x.id with
  | true =>
   rw[Bk.Bq hh];have HA:Hid (Bk.fF l x=2/\Bk.lq l x=l):=by
    have e:Bk.fF l x=2:=by unfold Bk.fF;rw[if_pos kE.out,if_pos hh]
    exact⟨e,by unfold Bk.lq;rw[e];rfl⟩
   have h0:¬ ((Bk.pos l x.id:Nat):Int)<0:=by omega
   have asI:(0:Int)<=((Bk.pos l x.id:Nat):Int):=by omega
   have c6:=RP.cp.c6;clear hh;generalize Bk.pos l x.id=k at *;simp only[];go_wp2;go_ret;exact⟨by rw[HA.out.1];rfl,v,by rw[HA.out.2];exact sT,Step.of_below av p v⟩
  | false =>
   rw[Bk.Bp hh];have Hh:=Y hh;clear hh;have hcell:=cell_of_one sT.cell;obtain⟨a,m,c,rfl⟩:∃a m c,v=.slice a m c:=by
    rcases sT.form with ⟨e,_⟩ | ⟨g,cap,e,_⟩
    .exact⟨_,_,_,e⟩
    .exact⟨_,_,_,e⟩
   have hm:m=l.length:=by
    rcases sT.form with ⟨e,e2⟩ | ⟨g,cap,e,_⟩
    .simp at e;rw[e2];exact e.2.1
    .simp at e;exact e.2.1
   have HM:=Y hm;have RQ:m<=60:=by rw[hm];exact hn
   clear hm;by_cases hf:60<=m
   .have hf':(60:Int)<=m:=by omega
    have HA:Hid (Bk.fF l x=3/\Bk.lq l x=l):=by
     have e:Bk.fF l x=3:=by unfold Bk.fF;rw[if_pos kE.out,if_neg (by rw[Hh.out];simp),if_pos (by rw[<- HM.out];exact hf)]
     exact⟨e,by unfold Bk.lq;rw[e];rfl⟩
    have c7:=RP.cp.c7;simp only[];go_wp2;go_ret;exact⟨by rw[HA.out.1];rfl,_,by rw[HA.out.2];exact sT,Step.of_below av p _⟩
   .have hf':¬ (60:Int)<=m:=by omega
    have HA:Hid (Bk.fF l x=0/\Bk.lq l x=l++[x]):=by
     have e:Bk.fF l x=0:=by unfold Bk.fF;rw[if_pos kE.out,if_neg (by rw[Hh.out];simp),if_neg (by rw[<- HM.out];exact hf)]
     exact⟨e,by unfold Bk.lq;rw[if_pos e]⟩
    have hX:=gC.out;have b0:w3.cell? (O w.heap.size 0)=some (Z x.id):=by simp[World.cell?,hX]
    have b1:w3.cell? (O w.heap.size 1)=some (Z x.ai):=by simp[World.cell?,hX]
    have b2:w3.cell? (O w.heap.size 2)=some (Z x.sd):=by simp[World.cell?,hX]
    have b3:w3.cell? (O w.heap.size 3)=some (Z x.pr):=by simp[World.cell?,hX]
    have b4:w3.cell? (O w.heap.size 4)=some (Z x.q):=by simp[World.cell?,hX]
    clear hX;have oq:U w3 (w3.drew.alloc (.cells #[Z x.id,Z x.ai,Z x.sd,Z x.pr,Z x.q] 197)):=(RS (bRq _ _)).alloc (E _) _;have zv:=sT.later oq;obtain⟨i0,z0,hi,hz0,hz1,hz2,hz3⟩:=JI;obtain⟨v4,w4,hap,hrow,hg,_,hloc⟩:=run_append_own_at (P:=prog) (w3.drew.alloc (.cells #[Z x.id,Z x.ai,Z x.sd,Z x.pr,Z x.q] 197)) base 195 195 197 i0 z0 5 40 underlying195 hi hz0 hz1 hz2 hz3 (by decide) _ _ _ zv.row (O w3.heap.size 0) 1 1 (eK x) rfl
     (fun j u hj=>zu _ x 197 _ rfl j u hj)
     (fun u hu=>by
      simp only[eK,List.mem_cons,List.not_mem_nil,or_false]at hu;rcases hu with rfl | rfl | rfl | rfl | rfl <;> rfl) (by unfold maxLen;have:=hn.out;omega) (by have:=hn.out;omega) (by have h1:=zv.lo;have h2:=zv.lt;omega)
    obtain⟨k1,k2⟩:=zv.xo hg;obtain⟨a4,m4,c4,rfl⟩:∃a m c,v4=.slice a m c:=by
     rcases hrow.2 with ⟨e,_⟩ | ⟨g,cap,cur,e,_⟩
     .exact⟨_,_,_,e⟩
     .exact⟨_,_,_,e⟩
    have hset:=zv.set (l':=l++[x]) hg (by rw[lAq,Br];simpa [flat] using hrow) (fun k hk=>by
     rcases hloc with h | h
     .rw[h]at hk;exact .inl hk
     .rw[h]at hk;exact .inr (Nat.le_of_eq (Option.some.inj hk)))
    have rJ:=Y hset;have cW:=Y hap;have vd:=Y oq;clear hset hap hrow hg hloc hi hz0 hz1 hz2 hz3 zv oq;have hpl:p<w3.heap.size:=sT.lt;have nx:w.heap.size<w3.heap.size:=lBq gC;simp only[];go_wp2
    go_region_law (refine RU rfl _ _ 195 rfl _ _ _ rfl rfl cW ?_)
    all_goals go_wp2
    all_goals go_ret
    all_goals exact⟨by rw[HA.out.1];rfl,_,by rw[HA.out.2];exact rJ.1,(Step.of_below (ar av vd) p _).trans rJ.2⟩
end Go.Proofs.YtjolccidheflpaaGreatDoor
