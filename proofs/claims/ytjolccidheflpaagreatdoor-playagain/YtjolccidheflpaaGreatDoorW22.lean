/- Add of a book by its contract. -/
import Derived.Test.YtjolccidheflpaaGreatDoorW13
import Derived.Test.YtjolccidheflpaaGreatDoorW09
import Derived.Test.YtjolccidheflpaaGreatDoorW21
namespace Go.Proofs.YtjolccidheflpaaGreatDoor
set_option maxHeartbeats 8000000
set_option maxRecDepth 100000
open Go.RowKit Go.Maps
theorem Ql {x:Cv.ag}:Cv.d8 [x]↔Cv.ok x=true:=by
 constructor
 .intro h
  exact h.oks x (by simp)
 .intro h
  refine⟨by simp,fun i hi=>?_⟩;have:i=0:=by simp at hi;omega
  subst this;simp[Cv.mZ,Cv.nth,h,Cv.has]
theorem abk (w:World) (x:Cv.ag):fU (w.alloc (.cells #[Qa x.id,Qa x.ak,Qa x.sd,Qa x.pr,Qa x.q] 197)) (.slice (some (Qb w.heap.size 0)) 1 1) [x]:=by
 refine .inr ⟨_,0,1,rfl,lRq _,?_⟩;refine zY fun j u hj=>?_;have jy:(ep x)[j]?=some u:=by simpa [flat] using hj
 have:=xY w x 197 _ rfl j u jy
 have hp:(⟨w.heap.size,0,none⟩:Addr).add j=(Qb w.heap.size j):=by unfold Addr.add;split <;> simp_all
 rwa [hp]at this
theorem abl (p base:Nat) (v:Value) (x:Cv.ag) (l:List Cv.ag) (T:TypeId) (v1 v5 v6 v7:Value) (w:World) (he:Hid (vM w T v1 v5 v6 v7)) (hb:Hid (df w base p v l)) (hn:Hid (l.length<=60)) :
  Calls Tryz.prog 247 #[Qc p,bU x] w fun e w'=>e=.returned (tH T v1 v5 v6 v7 (Bk.eV l x))/\∃ v',df w' base p v' (Bk.kt l x)/\Step w w' p v v':=by
 show Calls Tryz.prog 247 #[Qc p,.agg #[Qa x.id,Qa x.ak,Qa x.sd,Qa x.pr,Qa x.q]] w _;have hbW:Qd w ((w.alloc (.cells #[Qa x.id,Qa x.ak,Qa x.sd,Qa x.pr,Qa x.q] 197)).alloc (.cells #[Qa x.id,Qa x.ak,Qa x.sd,Qa x.pr,Qa x.q] 197)):=((bRq _ _).alloc (lRq _) _).alloc (by simp) _;have zZ:=abk (w.alloc (.cells #[Qa x.id,Qa x.ak,Qa x.sd,Qa x.pr,Qa x.q] 197)) x;rw[show (w.alloc (.cells #[Qa x.id,Qa x.ak,Qa x.sd,Qa x.pr,Qa x.q] 197)).heap.size=w.heap.size+1 by simp]at zZ;cases hok:Cv.ok x with
 | false =>
  have HC:=hDq (abm _ [x] T v1 v6 v7 _ zZ (he.out.bY.later hbW) (fun h=>by rw[Ql.1 h]at hok;cases hok));have HA:Hid (Bk.eV l x=1/\Bk.kt l x=l):=by
   have e:Bk.eV l x=1:=by unfold Bk.eV;rw[hok];rfl
   exact⟨e,by unfold Bk.kt;rw[e];rfl⟩
  have cw:=hDq hbW;clear hok zZ hbW;go_enter Tryz.func247,Tryz.ntmps247
  go_wp2_with fail
  refine HC.out.mono ?_;rintro e w2 ⟨⟨U,y,rfl⟩,hb2⟩;have HB:Hid (Qd w w2):=cw.out.trans (hb2.mono cw.out.size);have c1:=(he.out.bY.later HB.out).c1;clear hb2 HC cw;simp only[];go_wp2;go_ret;exact⟨by rw[HA.out.1];rfl,v,by rw[HA.out.2];exact hb.out.later HB.out,Step.of_below HB.out p v⟩
 | true =>
  have HC:=hDq (I9 _ [x] T v1 v6 v7 _ zZ (he.out.bY.later hbW) (Ql.2 hok));have gI:=hDq hok;have cw:=hDq hbW;clear hok zZ hbW;go_enter Tryz.func247,Tryz.ntmps247
  go_wp2_with fail
  refine HC.out.mono ?_;rintro e w2 ⟨rfl,hb2⟩;have HB:Hid (Qd w w2):=cw.out.trans (hb2.mono cw.out.size);have hX:w2.heap[w.heap.size]?=some (.cells #[Qa x.id,Qa x.ak,Qa x.sd,Qa x.pr,Qa x.q] 197 (0,0)):=by
   rw[hb2.block _ (by simp;omega),heap_alloc_old _ _ (by simp),hNq]
  have HX:=hDq hX;have a0:w2.cell? (Qb w.heap.size 0)=some (Qa x.id):=by simp[World.cell?,hX]
  clear hb2 HC cw hX;simp only[]
  go_wp2_with fail
  refine(DF p base v x.id l w2 (hb.out.later HB.out) hn).mono ?_;rintro e w3 ⟨rfl,hb3⟩;have au:Hid (Qd w w3):=HB.out.trans (hb3.mono HB.out.size);have hX:w3.heap[w.heap.size]?=some (.cells #[Qa x.id,Qa x.ak,Qa x.sd,Qa x.pr,Qa x.q] 197 (0,0)):=by
   rw[hb3.block _ (lBq HX.out)];exact HX.out
  have er:=hDq hX;have rM:=hDq (hb.out.later au.out);have Qm:=hDq (he.out.later au.out);clear hb3 HX a0 HB hX;cases hh:Cv.has l x.id with
  | true =>
   rw[Bk.zU hh];have HA:Hid (Bk.eV l x=2/\Bk.kt l x=l):=by
    have e:Bk.eV l x=2:=by unfold Bk.eV;rw[if_pos gI.out,if_pos hh]
    exact⟨e,by unfold Bk.kt;rw[e];rfl⟩
   have h0:¬ ((Bk.pos l x.id:Nat):Int)<0:=by omega
   have anT:(0:Int)<=((Bk.pos l x.id:Nat):Int):=by omega
   have c6:=Qm.out.bY.c6;clear hh;generalize Bk.pos l x.id=k at *;simp only[];go_wp2;go_ret;exact⟨by rw[HA.out.1];rfl,v,by rw[HA.out.2];exact rM.out,Step.of_below au.out p v⟩
  | false =>
   rw[Bk.zT hh];have Hh:=hDq hh;clear hh;have hcell:=cell_of_one rM.out.cell;obtain⟨a,m,c,rfl⟩:∃ a m c,v=.slice a m c:=by
    rcases rM.out.form with ⟨e,_⟩ | ⟨g,cap,e,_⟩
    .exact⟨_,_,_,e⟩
    .exact⟨_,_,_,e⟩
   have hm:m=l.length:=by
    rcases rM.out.form with ⟨e,e2⟩ | ⟨g,cap,e,_⟩
    .simp at e;rw[e2];exact e.2.1
    .simp at e;exact e.2.1
   have HM:=hDq hm;have abn:m<=60:=by rw[hm];exact hn.out
   clear hm;by_cases hf:60<=m
   .have hf':(60:Int)<=m:=by omega
    have HA:Hid (Bk.eV l x=3/\Bk.kt l x=l):=by
     have e:Bk.eV l x=3:=by unfold Bk.eV;rw[if_pos gI.out,if_neg (by rw[Hh.out];simp),if_pos (by rw[<- HM.out];exact hf)]
     exact⟨e,by unfold Bk.kt;rw[e];rfl⟩
    have c7:=Qm.out.bY.c7;simp only[];go_wp2;go_ret;exact⟨by rw[HA.out.1];rfl,_,by rw[HA.out.2];exact rM.out,Step.of_below au.out p _⟩
   .have hf':¬ (60:Int)<=m:=by omega
    have HA:Hid (Bk.eV l x=0/\Bk.kt l x=l++[x]):=by
     have e:Bk.eV l x=0:=by unfold Bk.eV;rw[if_pos gI.out,if_neg (by rw[Hh.out];simp),if_neg (by rw[<- HM.out];exact hf)]
     exact⟨e,by unfold Bk.kt;rw[if_pos e]⟩
    have hX:=er.out;have b0:w3.cell? (Qb w.heap.size 0)=some (Qa x.id):=by simp[World.cell?,hX]
    have b1:w3.cell? (Qb w.heap.size 1)=some (Qa x.ak):=by simp[World.cell?,hX]
    have b2:w3.cell? (Qb w.heap.size 2)=some (Qa x.sd):=by simp[World.cell?,hX]
    have b3:w3.cell? (Qb w.heap.size 3)=some (Qa x.pr):=by simp[World.cell?,hX]
    have b4:w3.cell? (Qb w.heap.size 4)=some (Qa x.q):=by simp[World.cell?,hX]
    clear hX;have vN:Qd w3 (w3.drew.alloc (.cells #[Qa x.id,Qa x.ak,Qa x.sd,Qa x.pr,Qa x.q] 197)):=(Qn (bRq _ _)).alloc (lRq _) _;have xZ:=rM.out.later vN;obtain⟨i0,z0,hi,hz0,hz1,hz2,hz3⟩:=I_;obtain⟨v4,w4,hap,hrow,hg,_,hloc⟩:=run_append_own_at (P:=Tryz.prog) (w3.drew.alloc (.cells #[Qa x.id,Qa x.ak,Qa x.sd,Qa x.pr,Qa x.q] 197)) base 195 195 197 i0 z0 5 40 Tryz.underlying195 hi hz0 hz1 hz2 hz3 (by decide) _ _ _ xZ.row (Qb w3.heap.size 0) 1 1 (ep x) rfl
     (fun j u hj=>xY _ x 197 _ rfl j u hj)
     (fun u hu=>by
      simp only[ep,List.mem_cons,List.not_mem_nil,or_false]at hu;rcases hu with rfl | rfl | rfl | rfl | rfl <;> rfl) (by unfold maxLen;have:=hn.out;omega) (by have:=hn.out;omega) (by have h1:=xZ.lo;have h2:=xZ.lt;omega)
    obtain⟨k1,k2⟩:=xZ.vO hg;obtain⟨a4,m4,c4,rfl⟩:∃ a m c,v4=.slice a m c:=by
     rcases hrow.2 with ⟨e,_⟩ | ⟨g,cap,cur,e,_⟩
     .exact⟨_,_,_,e⟩
     .exact⟨_,_,_,e⟩
    have hset:=xZ.set (l':=l++[x]) hg (by rw[lAq,zV];simpa [flat] using hrow) (fun k hk=>by
     rcases hloc with h | h
     .rw[h]at hk;exact .inl hk
     .rw[h]at hk;exact .inr (Nat.le_of_eq (Option.some.inj hk)))
    have qE:=hDq hset;have dJ:=hDq hap;have tL:=hDq vN;clear hset hap hrow hg hloc hi hz0 hz1 hz2 hz3 xZ vN;have hpl:p<w3.heap.size:=rM.out.lt;have mf:w.heap.size<w3.heap.size:=lBq er.out;simp only[];go_wp2
    go_region_law (refine Qo rfl _ _ 195 rfl _ _ _ rfl rfl dJ.out ?_)
    all_goals go_wp2
    all_goals go_ret
    all_goals exact⟨by rw[HA.out.1];rfl,_,by rw[HA.out.2];exact qE.out.1,(Step.of_below (au.out.trans (tL.out.mono au.out.size)) p _).trans qE.out.2⟩
end Go.Proofs.YtjolccidheflpaaGreatDoor
