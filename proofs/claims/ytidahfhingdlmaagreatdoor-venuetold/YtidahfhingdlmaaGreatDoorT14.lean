/- Add of a book by its contract. -/
import Derived.Test.YtidahfhingdlmaaGreatDoorT11
import Derived.Test.YtidahfhingdlmaaGreatDoorT09
import Derived.Test.YtidahfhingdlmaaGreatDoorT13
namespace Go.Proofs.YtidahfhingdlmaaGreatDoor
open Go.RowKit Go.Maps
set_option maxRecDepth 100000
theorem well_one {x:Cv.Lot}:Cv.Well [x]↔Cv.ok x = true:=by
 constructor
 ·intro h
  exact h.oks x (by simp)
 ·intro h
  refine ⟨by simp,fun i hi=>?_⟩
  have:i = 0:=by simp at hi;omega
  subst this
  simp [Cv.okAt,Cv.nth,h,Cv.has]
theorem lotsAt_new (w:World) (x:Cv.Lot):Lots (w.alloc (.cells #[.int .i64 x.id,.int .i64 x.ow,.int .i64 x.sd,.int .i64 x.pr,.int .i64 x.q] 137)) (.slice (some ⟨w.heap.size,0,none⟩) 1 1) [x]:=by
 refine .inr ⟨_,0,1,rfl,Nat.le_refl _,?_⟩
 refine lotsAt_of_flat fun j u hj=>?_
 have hj':(lotCells x)[j]? = some u:=by simpa [flat] using hj
 have:=cell_new5 w x 137 _ rfl j u hj'
 have hp:(⟨w.heap.size,0,none⟩:Addr).add j = ⟨w.heap.size,j,none⟩:=by unfold Addr.add;split <;> simp_all
 rwa [hp] at this
set_option maxHeartbeats 1000000 in
theorem add_any (p base:Nat) (v:Value) (x:Cv.Lot) (l:List Cv.Lot) (T:TypeId) (v1 v5 v6 v7:Value) (w:World) (he:Hid (Er4 w T v1 v5 v6 v7)) (hb:Hid (Book w base p v l)) (hn:Hid (l.length≤60)) :
  Calls Tryz.prog 186 #[.pointer (some ⟨p,0,none⟩),lotV x] w fun e w'=>e = .returned (errOf T v1 v5 v6 v7 (Bk.addC l x))∧∃ v',Book w' base p v' (Bk.addL l x)∧Step w w' p v v':=by
 show Calls Tryz.prog 186 #[.pointer (some ⟨p,0,none⟩),.agg #[.int .i64 x.id,.int .i64 x.ow,.int .i64 x.sd,.int .i64 x.pr,.int .i64 x.q]] w _
 have hbW:Below w.heap.size w ((w.alloc (.cells #[.int .i64 x.id,.int .i64 x.ow,.int .i64 x.sd,.int .i64 x.pr,.int .i64 x.q] 137)).alloc (.cells #[.int .i64 x.id,.int .i64 x.ow,.int .i64 x.sd,.int .i64 x.pr,.int .i64 x.q] 137)):=((Below.refl _ _).alloc (Nat.le_refl _) _).alloc (by simp) _
 have hLot:=lotsAt_new (w.alloc (.cells #[.int .i64 x.id,.int .i64 x.ow,.int .i64 x.sd,.int .i64 x.pr,.int .i64 x.q] 137)) x
 rw [show (w.alloc (.cells #[.int .i64 x.id,.int .i64 x.ow,.int .i64 x.sd,.int .i64 x.pr,.int .i64 x.q] 137)).heap.size = w.heap.size + 1 by simp] at hLot
 cases hok:Cv.ok x with
 | false =>
  have HC:=hide (check_ill _ [x] T v1 v6 v7 _ hLot (he.out.er.later hbW) (fun h=>by rw [well_one.1 h] at hok;cases hok))
  have HA:Hid (Bk.addC l x = 1∧Bk.addL l x = l):=by
   have e:Bk.addC l x = 1:=by unfold Bk.addC;rw [hok];rfl
   exact ⟨e,by unfold Bk.addL;rw [e];rfl⟩
  have HBW:=hide hbW
  clear hok hLot hbW
  go_enter Tryz.func186,Tryz.ntmps186
  go_wp2_with fail
  refine HC.out.mono ?_
  rintro e w2 ⟨⟨U,y,rfl⟩,hb2⟩
  have HB:Hid (Below w.heap.size w w2):=HBW.out.trans (hb2.mono HBW.out.size)
  have c1:=(he.out.er.later HB.out).c1
  clear hb2 HC HBW
  simp only []
  go_wp2
  go_ret
  exact ⟨by rw [HA.out.1];rfl,v,by rw [HA.out.2];exact hb.out.later HB.out,Step.of_below HB.out p v⟩
 | true =>
  have HC:=hide (check_well _ [x] T v1 v6 v7 _ hLot (he.out.er.later hbW) (well_one.2 hok))
  have HOK:=hide hok
  have HBW:=hide hbW
  clear hok hLot hbW
  go_enter Tryz.func186,Tryz.ntmps186
  go_wp2_with fail
  refine HC.out.mono ?_
  rintro e w2 ⟨rfl,hb2⟩
  have HB:Hid (Below w.heap.size w w2):=HBW.out.trans (hb2.mono HBW.out.size)
  have hX:w2.heap[w.heap.size]? = some (.cells #[.int .i64 x.id,.int .i64 x.ow,.int .i64 x.sd,.int .i64 x.pr,.int .i64 x.q] 137 (0,0)):=by
   rw [hb2.block _ (by simp;omega),heap_alloc_old _ _ (by simp),heap_alloc_new]
  have HX:=hide hX
  have a0:w2.cell? ⟨w.heap.size,0,none⟩ = some (.int .i64 x.id):=by simp [World.cell?,hX]
  clear hb2 HC HBW hX
  simp only []
  go_wp2_with fail
  refine (find_any p base v x.id l w2 (hb.out.later HB.out) hn).mono ?_
  rintro e w3 ⟨rfl,hb3⟩
  have HB3:Hid (Below w.heap.size w w3):=HB.out.trans (hb3.mono HB.out.size)
  have hX:w3.heap[w.heap.size]? = some (.cells #[.int .i64 x.id,.int .i64 x.ow,.int .i64 x.sd,.int .i64 x.pr,.int .i64 x.q] 137 (0,0)):=by
   rw [hb3.block _ (lt_of_block HX.out)];exact HX.out
  have HX3:=hide hX
  have HK3:=hide (hb.out.later HB3.out)
  have HE3:=hide (he.out.later HB3.out)
  clear hb3 HX a0 HB hX
  cases hh:Cv.has l x.id with
  | true =>
   rw [Bk.posI_some hh]
   have HA:Hid (Bk.addC l x = 2∧Bk.addL l x = l):=by
    have e:Bk.addC l x = 2:=by unfold Bk.addC;rw [if_pos HOK.out,if_pos hh]
    exact ⟨e,by unfold Bk.addL;rw [e];rfl⟩
   have h0:¬ ((Bk.pos l x.id:Nat):Int) < 0:=by omega
   have h0':(0:Int)≤((Bk.pos l x.id:Nat):Int):=by omega
   have c6:=HE3.out.er.c6
   clear hh
   generalize Bk.pos l x.id = k at *
   simp only []
   go_wp2
   go_ret
   exact ⟨by rw [HA.out.1];rfl,v,by rw [HA.out.2];exact HK3.out,Step.of_below HB3.out p v⟩
  | false =>
   rw [Bk.posI_none hh]
   have Hh:=hide hh
   clear hh
   have hcell:=cell_of_one HK3.out.cell
   obtain ⟨a,m,c,rfl⟩:∃ a m c,v = .slice a m c:=by
    rcases HK3.out.form with ⟨e,_⟩ | ⟨g,cap,e,_⟩
    ·exact ⟨_,_,_,e⟩
    ·exact ⟨_,_,_,e⟩
   have hm:m = l.length:=by
    rcases HK3.out.form with ⟨e,e2⟩ | ⟨g,cap,e,_⟩
    ·simp at e;rw [e2];exact e.2.1
    ·simp at e;exact e.2.1
   have HM:=hide hm
   have hm60:m≤60:=by rw [hm];exact hn.out
   clear hm
   by_cases hf:60≤m
   ·have hf':(60:Int)≤m:=by omega
    have HA:Hid (Bk.addC l x = 3∧Bk.addL l x = l):=by
     have e:Bk.addC l x = 3:=by unfold Bk.addC;rw [if_pos HOK.out,if_neg (by rw [Hh.out];simp),if_pos (by rw [← HM.out];exact hf)]
     exact ⟨e,by unfold Bk.addL;rw [e];rfl⟩
    have c7:=HE3.out.er.c7
    simp only []
    go_wp2
    go_ret
    exact ⟨by rw [HA.out.1];rfl,_,by rw [HA.out.2];exact HK3.out,Step.of_below HB3.out p _⟩
   ·have hf':¬ (60:Int)≤m:=by omega
    have HA:Hid (Bk.addC l x = 0∧Bk.addL l x = l++[x]):=by
     have e:Bk.addC l x = 0:=by unfold Bk.addC;rw [if_pos HOK.out,if_neg (by rw [Hh.out];simp),if_neg (by rw [← HM.out];exact hf)]
     exact ⟨e,by unfold Bk.addL;rw [if_pos e]⟩
    have hX:=HX3.out
    have b0:w3.cell? ⟨w.heap.size,0,none⟩ = some (.int .i64 x.id):=by simp [World.cell?,hX]
    have b1:w3.cell? ⟨w.heap.size,1,none⟩ = some (.int .i64 x.ow):=by simp [World.cell?,hX]
    have b2:w3.cell? ⟨w.heap.size,2,none⟩ = some (.int .i64 x.sd):=by simp [World.cell?,hX]
    have b3:w3.cell? ⟨w.heap.size,3,none⟩ = some (.int .i64 x.pr):=by simp [World.cell?,hX]
    have b4:w3.cell? ⟨w.heap.size,4,none⟩ = some (.int .i64 x.q):=by simp [World.cell?,hX]
    clear hX
    have hbA:Below w3.heap.size w3 (w3.drew.alloc (.cells #[.int .i64 x.id,.int .i64 x.ow,.int .i64 x.sd,.int .i64 x.pr,.int .i64 x.q] 137)):=(below_drew (Below.refl _ _)).alloc (Nat.le_refl _) _
    have hKA:=HK3.out.later hbA
    obtain ⟨i0,z0,hi,hz0,hz1,hz2,hz3⟩:=info43
    obtain ⟨v4,w4,hap,hrow,hg,_,hloc⟩:=run_append_own_at (P:=Tryz.prog) (w3.drew.alloc (.cells #[.int .i64 x.id,.int .i64 x.ow,.int .i64 x.sd,.int .i64 x.pr,.int .i64 x.q] 137)) base 60 60 137 i0 z0 5 40 Tryz.underlying60 hi hz0 hz1 hz2 hz3 (by decide) _ _ _ hKA.row ⟨w3.heap.size,0,none⟩ 1 1 (lotCells x) rfl
     (fun j u hj=>cell_new5 _ x 137 _ rfl j u hj)
     (fun u hu=>by
      simp only [lotCells,List.mem_cons,List.not_mem_nil,or_false] at hu
      rcases hu with rfl | rfl | rfl | rfl | rfl <;> rfl) (by unfold maxLen;have:=hn.out;omega) (by have:=hn.out;omega) (by have h1:=hKA.lo;have h2:=hKA.lt;omega)
    obtain ⟨k1,k2⟩:=hKA.openAt hg
    obtain ⟨a4,m4,c4,rfl⟩:∃ a m c,v4 = .slice a m c:=by
     rcases hrow.2 with ⟨e,_⟩ | ⟨g,cap,cur,e,_⟩
     ·exact ⟨_,_,_,e⟩
     ·exact ⟨_,_,_,e⟩
    have hset:=hKA.set (l':=l++[x]) hg (by rw [List.length_append,flat_append];simpa [flat] using hrow) (fun k hk=>by
     rcases hloc with h | h
     ·rw [h] at hk;exact .inl hk
     ·rw [h] at hk;exact .inr (Nat.le_of_eq (Option.some.inj hk)))
    have HSET:=hide hset
    have HAP:=hide hap
    have HBA:=hide hbA
    clear hset hap hrow hg hloc hi hz0 hz1 hz2 hz3 hKA hbA
    have hpl:p < w3.heap.size:=HK3.out.lt
    have hwl:w.heap.size < w3.heap.size:=lt_of_block HX3.out
    simp only []
    go_wp2
    go_region_law (refine step_append_run rfl _ _ 60 rfl _ _ _ rfl rfl HAP.out ?_)
    all_goals go_wp2
    all_goals go_ret
    all_goals exact ⟨by rw [HA.out.1];rfl,_,by rw [HA.out.2];exact HSET.out.1,(Step.of_below (HB3.out.trans (HBA.out.mono HB3.out.size)) p _).trans HSET.out.2⟩
end Go.Proofs.YtidahfhingdlmaaGreatDoor
