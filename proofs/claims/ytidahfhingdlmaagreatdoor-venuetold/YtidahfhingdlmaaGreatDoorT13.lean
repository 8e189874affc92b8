/- levelsOf by its contract: the levels of a side, without those that are worse than a price, in a map. -/
import Derived.Test.YtidahfhingdlmaaGreatDoorT12
import Derived.Deep.RegionHeld3
namespace Go.Proofs.YtidahfhingdlmaaGreatDoor
open Go.RowKit Go.Maps
set_option maxRecDepth 100000
theorem wpList_lookup_run {P:Program} {w:World} {ops:Array Oper} {rest:List Oper} {o:Oper} {a:Act} {Q:Exit→Act→World→Prop}
  (hg:o.guard = none) (m x:Operand) (t:TypeId) (hop:o.op = Op.lookup t m x false) (mv key v:Value) (hm:a.eval m = mv) (hx:a.eval x = key)
  (hrun:(Instr.lookup t mv key false).run P w = .ok v w) (hK:wpList P ops Q rest (a.put o.dst v) w):wpList P ops Q (o :: rest) a w:=by
 refine wpList_plain hg fun K' hK'=>?_
 unfold Oper.wp
 simp [execOp,hop,hm,hx,hrun,Result.andThen]
 exact hK' _ _ hK
theorem step_append_run {P:Program} {ops:Array Oper} {o:Oper} {a:Act} {w w':World} {K:Act→World→Prop} {Q:Exit→Act→World→Prop} {E:Prop}
  (hg:o.guard = none) (s x:Operand) (t:TypeId) (hop:o.op = Op.call { callee:=Callee.builtin Builtin.append,args:=#[s,x],argTypes:=#[t,t] }) (vs vx v':Value) (hs:a.eval s = vs) (hx:a.eval x = vx)
  (hrun:(Builtin.append_ #[t,t] o.type #[vs,vx]).run P w = .ok v' w') (hK:K (a.put o.dst v') w') :
  if Region.wanted o (yielded ops a.tmps) = true then Oper.wp P o a w K Q else E:=by
 have hw:Region.wanted o (yielded ops a.tmps) = true:=by simp [Region.wanted,hg]
 rw [if_pos hw]
 unfold Oper.wp
 simp [execOp,hop,resolve,invoke,builtin,hs,hx,hrun,Result.andThen]
 exact hK
def lf (sd price:Int) (t:List Cv.Lot):Int→List Cv.Lot:=fun p=>t.filter fun x=>Ra.el sd price x&&x.pr == p
theorem lf_in {sd price:Int} {t:List Cv.Lot} {x:Cv.Lot} (h:Ra.el sd price x = true):lf sd price (t++[x]) = grow (lf sd price t) x.pr x:=by
 funext p
 unfold lf grow
 rw [List.filter_append]
 by_cases hp:p = x.pr
 ·subst hp
  simp [h]
 ·rw [if_neg hp]
  simp [h,Ne.symm hp]
theorem lf_out {sd price:Int} {t:List Cv.Lot} {x:Cv.Lot} (h:Ra.el sd price x = false):lf sd price (t++[x]) = lf sd price t:=by
 funext p
 unfold lf
 rw [List.filter_append]
 simp [h]
theorem lvls_made (w:World):Lvls (w.alloc (.map #[] 0)) w.heap.size w.heap.size 0 (fun _=>[]) (.map []) (fun _=>.slice none 0 0) :=
 ⟨World.ownsMap_made w _ _ _,fun _=>rfl,fun _=>rfl,fun _=>World.ownsRow_nil _ _ _ _,fun _ _ _ _ h=>by cases h⟩
def Levels (w:World) (base b n:Nat) (f:Int→List Cv.Lot):Prop:=∃ D g,Lvls w base b n f D g
theorem Levels.alloc {w:World} {base b n:Nat} {f:Int→List Cv.Lot} (h:Levels w base b n f) (o:Obj):Levels (w.alloc o) base b n f:=by
 obtain ⟨D,g,h⟩:=h;exact ⟨D,g,h.alloc o⟩
theorem Levels.later {w w':World} {base b n:Nat} {f:Int→List Cv.Lot} (h:Levels w base b n f) (hb:Below w.heap.size w w'):Levels w' base b n f:=by
 obtain ⟨D,g,h⟩:=h;exact ⟨D,g,h.later hb⟩
theorem info43:∃ i z,Tryz.prog.info? 137 = some i∧i.zero = some z∧i.size = 5∧i.bytes = 40∧z.cells.size = 5:=⟨_,_,rfl,rfl,rfl,rfl,rfl⟩
theorem tot_bounds:∀ l:List Cv.Lot,Cv.Oks l→0≤Ra.tot l∧Ra.tot l≤1000 * l.length
 | [],_=>by simp [Ra.tot]
 | x :: l,h=>by
  have ih:=tot_bounds l (fun y hy=>h y (List.mem_cons_of_mem _ hy))
  have hx:=(Cv.ok_bounds (h x List.mem_cons_self)).2.2.2.2
  simp only [Ra.tot,List.length_cons]
  omega
theorem Cv.Oks.filter {l:List Cv.Lot} (h:Cv.Oks l) (f:Cv.Lot→Bool):Cv.Oks (l.filter f):=fun x hx=>h x (List.mem_filter.1 hx).1
theorem cell_new5 (w:World) (x:Cv.Lot) (T:TypeId) (e:Nat) (he:e = w.heap.size) (j:Nat) (u:Value) (hj:(lotCells x)[j]? = some u):(w.alloc (.cells #[.int .i64 x.id,.int .i64 x.ow,.int .i64 x.sd,.int .i64 x.pr,.int .i64 x.q] T)).cell? ((⟨e,0,none⟩:Addr).add j) = some u:=by
 subst he
 have hp:(⟨w.heap.size,0,none⟩:Addr).add j = ⟨w.heap.size,j,none⟩:=by unfold Addr.add;split <;> simp_all
 rw [hp,World.cell?_alloc_new,← hj]
 simp [lotCells]
def XV (w:World) (B C:Nat) (x:Cv.Lot) (v:Value) (q:Int):Prop :=
 w.cell? ⟨B,0,none⟩ = some (.int .i64 x.id)∧w.cell? ⟨B,1,none⟩ = some (.int .i64 x.ow)∧w.cell? ⟨B,2,none⟩ = some (.int .i64 x.sd)∧w.cell? ⟨B,3,none⟩ = some (.int .i64 x.pr)∧w.cell? ⟨B,4,none⟩ = some (.int .i64 x.q)∧w.cell? ⟨C,0,none⟩ = some v∧w.cell? ⟨C,1,none⟩ = some (.int .i64 q)
theorem XV.grown {w w':World} {B C:Nat} {x:Cv.Lot} {v:Value} {q:Int} {row:Option Nat} (h:XV w B C x v q) (hg:w.grownBy w' row) (hB:some B≠row) (hC:some C≠row):XV w' B C x v q :=
 ⟨hg.cell h.1 hB,hg.cell h.2.1 hB,hg.cell h.2.2.1 hB,hg.cell h.2.2.2.1 hB,hg.cell h.2.2.2.2.1 hB,hg.cell h.2.2.2.2.2.1 hC,hg.cell h.2.2.2.2.2.2 hC⟩
theorem below_drew {B:Nat} {w w':World} (h:Below B w w'):Below B w w'.drew:=⟨h.os,h.tape,h.output,h.size,h.block⟩
theorem XV.drew {w:World} {B C:Nat} {x:Cv.Lot} {v:Value} {q:Int} (h:XV w B C x v q):XV w.drew B C x v q:=h
theorem xv_new (w:World) (x:Cv.Lot) (v:Value) (q:Int) (T U:TypeId):XV ((w.alloc (.cells #[.int .i64 x.id,.int .i64 x.ow,.int .i64 x.sd,.int .i64 x.pr,.int .i64 x.q] T)).alloc (.cells #[v,.int .i64 q] U)) w.heap.size (w.heap.size + 1) x v q:=by
 have e1:∀ j,((w.alloc (.cells #[.int .i64 x.id,.int .i64 x.ow,.int .i64 x.sd,.int .i64 x.pr,.int .i64 x.q] T)).alloc (.cells #[v,.int .i64 q] U)).cell? ⟨w.heap.size,j,none⟩ = (#[.int .i64 x.id,.int .i64 x.ow,.int .i64 x.sd,.int .i64 x.pr,.int .i64 x.q]:Array Value)[j]?:=fun j=>by
  rw [World.cell?_alloc_lt _ _ _ (by simp),World.cell?_alloc_new]
 have e2:∀ j,((w.alloc (.cells #[.int .i64 x.id,.int .i64 x.ow,.int .i64 x.sd,.int .i64 x.pr,.int .i64 x.q] T)).alloc (.cells #[v,.int .i64 q] U)).cell? ⟨w.heap.size + 1,j,none⟩ = (#[v,.int .i64 q]:Array Value)[j]?:=fun j=>by
  rw [show w.heap.size + 1 = (w.alloc (.cells #[.int .i64 x.id,.int .i64 x.ow,.int .i64 x.sd,.int .i64 x.pr,.int .i64 x.q] T)).heap.size by simp,World.cell?_alloc_new]
 exact ⟨e1 0,e1 1,e1 2,e1 3,e1 4,e2 0,e2 1⟩
theorem lvls_step {w:World} {base b n:Nat} (e:Nat) {f:Int→List Cv.Lot} {D:DataW Value} {g:Int→Value} (h:Lvls w base b n f D g) (x:Cv.Lot) (ty:TypeId) (h1:1≤x.pr) (h2:x.pr≤1000) (hn:n < 1000) (hl:(f x.pr).length < 1000) (hb:base≤w.heap.size)
  (hx:∀ j u,(lotCells x)[j]? = some u→w.cell? ((⟨e,0,none⟩:Addr).add j) = some u) :
  ∃ r cap k w3 w4,(Builtin.append_ #[60,60] ty #[g x.pr,.slice (some ⟨e,0,none⟩) 1 1]).run Tryz.prog w = .ok (.slice (some ⟨r,0,none⟩) k cap) w3∧w.grownBy w3 (g x.pr).ownBlock ∧
   (Instr.mapUpdate 309 (.map (some b)) (.int .i64 x.pr) (.agg #[.slice (some ⟨r,0,none⟩) k cap,.int .i64 (Ra.tot (f x.pr) + x.q)])).run Tryz.prog w3 = .ok () w4∧w3.grownBy w4 (some b)∧Levels w4 base b (n + 1) (grow f x.pr x):=by
 obtain ⟨i0,z0,hi,hz0,hz1,hz2,hz3⟩:=info43
 obtain ⟨v3,w3,hr,hrow,hg,_,hloc⟩:=run_append_own_at (P:=Tryz.prog) w base 60 ty 137 i0 z0 5 40 Tryz.underlying60 hi hz0 hz1 hz2 hz3 (by decide) (g x.pr) _ _ (h.row x.pr) ⟨e,0,none⟩ 1 1 (lotCells x) rfl hx
  (fun u hu=>by
   simp only [lotCells,List.mem_cons,List.not_mem_nil,or_false] at hu
   rcases hu with rfl | rfl | rfl | rfl | rfl <;> rfl) (by unfold maxLen;omega) (by omega) hb
 obtain ⟨w4,D',g',hrun,h4,hg4⟩:=h.store x (by omega) (by omega) (by unfold maxLen;omega) hrow hg hloc
 rcases hrow.2 with ⟨_,e⟩ | ⟨r,cap,cur,rfl,_⟩
 ·omega
 ·exact ⟨r,cap,_,w3,w4,hr,hg,hrun,hg4,D',g',h4⟩
set_option maxHeartbeats 1000000 in
theorem levelsOf_some (b off cap n:Nat) (sd price:Int) (l:List Cv.Lot) (w:World) (hn:Hid (l.length = n)) (hn':n≤200) (hok:Hid (Cv.Oks l)) (hl:Hid (LotsAt w b off l)) :
  Calls Tryz.prog 198 #[.slice (some ⟨b,off,none⟩) n cap,.int .i64 sd,.int .i64 price] w fun e w'=>e = .returned (.map (some w.heap.size))∧Levels w' w.heap.size w.heap.size n (lf sd price l)∧Below w.heap.size w w':=by
 have hmm:=@run_makeMap Tryz.prog
 go_enter Tryz.func198,Tryz.ntmps198
 go_wp2
 go_loopw [14] (fun i wr=>∃ k:Nat,k≤n∧i = .int .i64 k∧Levels wr w.heap.size w.heap.size k (lf sd price (l.take k))∧Below w.heap.size w wr∧w.heap.size < wr.heap.size) (fun i _=>n - (intOf i).toNat)
 case atStart=>exact ⟨0,Nat.zero_le _,rfl,⟨_,_,lvls_made w⟩,(Below.refl _ _).alloc (Nat.le_refl _) _,by simp⟩
 case round =>
  obtain ⟨k,hk,rfl,hL,hb,hlt0⟩:=hrel
  have HL:=hide hL;have HB:=hide hb;have HS:=hide hlt0
  clear hL hb hlt0
  by_cases hlt:k < n
  ·have hki:(k:Int) < n:=by omega
   obtain ⟨c0,c1,c2,c3,c4⟩:=(hl.out.later HB.out) k (by rw [hn.out];exact hlt)
   have HT:=hide (Cv.take_succ (l:=l) (i:=k) (by rw [hn.out];exact hlt))
   have HK:=hide (Cv.ok_bounds (hok.out _ (Cv.nth_mem (l:=l) (i:=k) (by rw [hn.out];exact hlt))))
   generalize Cv.nth l k = x at *
   have skip:Ra.el sd price x = false→Hid (Levels wr w.heap.size w.heap.size (k + 1) (lf sd price (l.take (k + 1)))):=fun he=>by
    obtain ⟨D,g,h⟩:=HL.out
    refine ⟨D,g,?_⟩
    rw [HT.out,lf_out he]
    exact { h with own:=h.own.mono (Nat.le_succ _) }
   by_cases hs:x.sd = sd
   ·have hsb:(x.sd != sd) = false:=by simp [hs]
    cases hbt:Cv.better sd price x.pr with
    | true =>
     have HL':=skip (by simp [Ra.el,hbt])
     have Hbt:=hide hbt
     clear hs skip HL hbt
     go_wp2_with fail
     refine (better_any sd price x.pr _).mono ?_
     rintro e w2 ⟨rfl,rfl⟩
     rw [Hbt.out]
     simp only []
     go_wp2
     exact ⟨⟨k + 1,by omega,by go_num,HL'.out.alloc _,HB.out.alloc HB.out.size _,by have:=HS.out;simp;omega⟩,by simp [intOf];omega⟩
    | false =>
     have Hel:Hid (Ra.el sd price x = true):=by show _ = _;simp [Ra.el,hbt,hs]
     have Hbt:=hide hbt
     clear hs skip hbt
     go_wp2_with fail
     refine (better_any sd price x.pr _).mono ?_
     rintro e w2 ⟨rfl,rfl⟩
     rw [Hbt.out]
     simp only []
     obtain ⟨D,g,hLv⟩:=HL.out
     obtain ⟨a0,m0,c0',hg0⟩:∃ a m c,g x.pr = .slice a m c:=by
      rcases (hLv.row x.pr).2 with ⟨e,_⟩ | ⟨r,cap,cur,e,_⟩
      ·exact ⟨_,_,_,e⟩
      ·exact ⟨_,_,_,e⟩
     have hrun:=(hLv.alloc (.cells #[.int .i64 x.id,.int .i64 x.ow,.int .i64 x.sd,.int .i64 x.pr,.int .i64 x.q] 137)).look (p:=x.pr) (by have:=HK.out;omega) (by have:=HK.out;omega)
     rw [hg0] at hrun
     obtain ⟨q,hq⟩:∃ q,Ra.tot (lf sd price (l.take k) x.pr) = q:=⟨_,rfl⟩
     have hlen:(lf sd price (l.take k) x.pr).length < 1000:=by
      have h1:=List.length_filter_le (fun y=>Ra.el sd price y&&y.pr == x.pr) (l.take k)
      have h2:=List.length_take_le k l
      show (List.filter _ _).length < _
      omega
     have hqb:0≤q∧q≤1000000:=by
      have h3:=tot_bounds (lf sd price (l.take k) x.pr) ((hok.out.take k).filter _)
      rw [hq] at h3
      omega
     rw [hq] at hrun
     unfold lvV at hrun
     obtain ⟨r,cap3,k3,w3,w4,hap,hg3,hmu,hg4,hL4⟩:=lvls_step (wr.heap.size + 1 + 1) ((((hLv.alloc (.cells #[.int .i64 x.id,.int .i64 x.ow,.int .i64 x.sd,.int .i64 x.pr,.int .i64 x.q] 137)).alloc (.cells #[.slice a0 m0 c0',.int .i64 q] 335)).drew).alloc (.cells #[.int .i64 x.id,.int .i64 x.ow,.int .i64 x.sd,.int .i64 x.pr,.int .i64 x.q] 137)) x 22
      (by have:=HK.out;omega) (by have:=HK.out;omega) (by omega) hlen (by have:=HB.out.size;simp;omega) (fun j u hj=>cell_new5 _ x 137 _ (by simp) j u hj)
     have hrow:=(hLv.row x.pr).lt
     rw [hg0] at hap hg3 hrow
     rw [hq] at hmu
     have hqw:q + x.q≤10000000∧0≤q + x.q:=by have:=HK.out;omega
     have hS0:=xv_new wr x (.slice a0 m0 c0') q 137 335
     have hS1:=hS0.drew.grown (World.grownBy_alloc (((wr.alloc (.cells #[.int .i64 x.id,.int .i64 x.ow,.int .i64 x.sd,.int .i64 x.pr,.int .i64 x.q] 137)).alloc (.cells #[.slice a0 m0 c0',.int .i64 q] 335)).drew) (.cells #[.int .i64 x.id,.int .i64 x.ow,.int .i64 x.sd,.int .i64 x.pr,.int .i64 x.q] 137) none) (by simp) (by simp)
     have hS3:=hS1.grown hg3 (fun e=>by have:=(hrow _ e.symm).2;omega) (fun e=>by have:=(hrow _ e.symm).2;omega)
     have hS4:=hS3.grown hg4 (fun e=>by have:=HS.out;simp at e;omega) (fun e=>by have:=HS.out;simp at e;omega)
     have HB4:Hid (Below w.heap.size w w4):=by
      have b0:=(HB.out.alloc HB.out.size (.cells #[.int .i64 x.id,.int .i64 x.ow,.int .i64 x.sd,.int .i64 x.pr,.int .i64 x.q] 137)).alloc (by have:=HB.out.size;simp;omega) (.cells #[.slice a0 m0 c0',.int .i64 q] 335)
      have b1:=(below_drew b0).alloc (by have:=HB.out.size;simp;omega) (.cells #[.int .i64 x.id,.int .i64 x.ow,.int .i64 x.sd,.int .i64 x.pr,.int .i64 x.q] 137)
      have b3:=b1.grown hg3 (by have:=HB.out.size;simp;omega) (fun j hj=>(hrow j hj).1)
      exact b3.grown hg4 b3.size (fun j hj=>by cases hj;exact Nat.le_refl _)
     have HS4:Hid (w.heap.size < w4.heap.size):=by
      have h1:=hg3.size;have h2:=hg4.size;have h3:=HS.out
      simp at h1
      show _ < _
      omega
     have HL4:Hid (Levels w4 w.heap.size w.heap.size (k + 1) (lf sd price (l.take (k + 1)))):=by
      show Levels _ _ _ _ _
      rw [HT.out,lf_in Hel.out]
      exact hL4
     have HAP:=hide hap;have HMU:=hide hmu;have H0:=hide hS0;have H1:=hide hS1;have H3:=hide hS3;have H4:=hide hS4
     clear hap hg3 hmu hg4 hL4 hLv hS0 hS1 hS3 hS4 hrow
     go_wp2_with (at_lookup;refine wpList_lookup_run rfl _ _ 309 rfl _ _ _ rfl rfl hrun ?_)
     have hmu:=HMU.out
     have hwr:IntKind.i64.wrap (q + x.q) = q + x.q:=IntWalk.i64_in _ (by omega)
     go_region_held3 (fun w'=>w'.cell? ⟨wr.heap.size,0,none⟩ = some (.int .i64 x.id)∧w'.cell? ⟨wr.heap.size,1,none⟩ = some (.int .i64 x.ow)∧w'.cell? ⟨wr.heap.size,2,none⟩ = some (.int .i64 x.sd)∧w'.cell? ⟨wr.heap.size,3,none⟩ = some (.int .i64 x.pr)∧w'.cell? ⟨wr.heap.size,4,none⟩ = some (.int .i64 x.q)∧w'.cell? ⟨wr.heap.size + 1,0,none⟩ = some (.slice a0 m0 c0')∧w'.cell? ⟨wr.heap.size + 1,1,none⟩ = some (.int .i64 q)) (first | exact H0.out | exact H1.out | exact H3.out | exact H4.out) (refine step_append_run rfl _ _ 60 rfl _ _ _ rfl rfl HAP.out ?_)
     go_wp2
     exact ⟨⟨k + 1,by omega,by go_num,HL4.out,HB4.out,HS4.out⟩,by simp [intOf];omega⟩
   ·have hsb:(x.sd != sd) = true:=by simp [hs]
    have HL':=skip (by simp [Ra.el,hs])
    clear hs skip HL
    go_wp2
    exact ⟨⟨k + 1,by omega,by go_num,HL'.out.alloc _,HB.out.alloc HB.out.size _,by have:=HS.out;simp;omega⟩,by simp [intOf];omega⟩
  ·have hki:¬ (k:Int) < n:=by omega
   obtain rfl:k = n:=by omega
   have HL':Hid (Levels wr w.heap.size w.heap.size k (lf sd price l)):=by
    have:=HL.out
    rwa [show l.take k = l from List.take_of_length_le (by rw [hn.out];omega)] at this
   clear HL
   go_wp2
   go_ret
   exact ⟨rfl,HL'.out,HB.out⟩
theorem levelsOf_none (a:Option Addr) (cap:Nat) (sd price:Int) (w:World) :
  Calls Tryz.prog 198 #[.slice a 0 cap,.int .i64 sd,.int .i64 price] w fun e w'=>e = .returned (.map (some w.heap.size))∧Levels w' w.heap.size w.heap.size 0 (lf sd price [])∧Below w.heap.size w w':=by
 have hmm:=@run_makeMap Tryz.prog
 go_enter Tryz.func198,Tryz.ntmps198
 go_wp2
 refine wp_loop_rounds 1 ?_
 rw [rounds_succ]
 go_wp2
 go_ret
 exact ⟨rfl,⟨_,_,lvls_made w⟩,(Below.refl _ _).alloc (Nat.le_refl _) _⟩
theorem levelsOf_any (v:Value) (sd price:Int) (l:List Cv.Lot) (w:World) (hv:Lots w v l) (hok:Cv.Well l) :
  Calls Tryz.prog 198 #[v,.int .i64 sd,.int .i64 price] w fun e w'=>e = .returned (.map (some w.heap.size))∧Levels w' w.heap.size w.heap.size l.length (lf sd price l)∧Below w.heap.size w w':=by
 rcases hv with ⟨rfl,a,cap,rfl⟩ | ⟨b,off,cap,rfl,_,hl⟩
 ·exact levelsOf_none a cap sd price w
 ·exact levelsOf_some b off cap _ sd price l w rfl (by have:=hok.1;omega) hok.oks hl
end Go.Proofs.YtidahfhingdlmaaGreatDoor
