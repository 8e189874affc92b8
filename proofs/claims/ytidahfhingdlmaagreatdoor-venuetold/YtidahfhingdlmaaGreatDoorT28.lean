/- Put of an intake by its contract. -/
import Derived.Test.YtidahfhingdlmaaGreatDoorT27
import Derived.Test.YtidahfhingdlmaaGreatDoorT08
namespace Go.Proofs.YtidahfhingdlmaaGreatDoor
open Go.RowKit
set_option maxRecDepth 100000
section
variable {w w':World} {base p t:Nat} {V:Nat→Value} {L:Nat→List Ask} {T:Nat→Value}
theorem class_all (R:World→Prop):∃ (X:Type) (val:X→World),(∀ x,R (val x))∧∀ W,R W→∃ x,val x = W :=
 ⟨{ W:World // R W },fun x=>x.1,fun x=>x.2,fun W h=>⟨⟨W,h⟩,rfl⟩⟩
theorem upM_append {P:Program} {o:Oper} {a:Act} {w w':World} {K:Value→World→Prop} (s x:Operand) (t:TypeId) (hop:o.op = Op.call { callee:=Callee.builtin Builtin.append,args:=#[s,x],argTypes:=#[t,t] }) (vs vx v':Value) (hs:a.eval s = vs) (hx:a.eval x = vx)
  (hrun:(Builtin.append_ #[t,t] o.type #[vs,vx]).run P w = .ok v' w') (hK:K v' w'):upM P K ((execOp a.eval o).run P w):=by
 simp [execOp,hop,resolve,invoke,builtin,hs,hx,hrun,Result.andThen,upM]
 exact hK
theorem box8 {w:World} {b:Nat} {k c sq it sd pr q id:Int} {ty:TypeId} (h:w.heap[b]? = some (.cells #[.int .u8 k,.int .i64 c,.int .i64 sq,.int .i64 it,.int .i64 sd,.int .i64 pr,.int .i64 q,.int .i64 id] ty (0,0))) :
  w.cell? ⟨b,0,none⟩ = some (.int .u8 k)∧w.cell? ⟨b,1,none⟩ = some (.int .i64 c)∧w.cell? ⟨b,2,none⟩ = some (.int .i64 sq)∧w.cell? ⟨b,3,none⟩ = some (.int .i64 it)∧w.cell? ⟨b,4,none⟩ = some (.int .i64 sd)∧w.cell? ⟨b,5,none⟩ = some (.int .i64 pr)∧w.cell? ⟨b,6,none⟩ = some (.int .i64 q)∧w.cell? ⟨b,7,none⟩ = some (.int .i64 id):=by
 refine ⟨?_,?_,?_,?_,?_,?_,?_,?_⟩ <;> (rw [cell_of_row _ _ _ _ _ _ h];rfl)
theorem drew_below (w:World):Below w.heap.size w w.drew:=⟨rfl,rfl,rfl,Nat.le_refl _,fun _ _=>rfl⟩
set_option maxHeartbeats 1000000 in
theorem put_any (a:Ask) (w:World) (he:Hid (IEr w T)) (hi:Hid (Itk w base p V t L)) :
  Calls Tryz.prog 121 #[.pointer (some ⟨p,0,none⟩),askV a] w fun e w'=>e = .returned (i_errC T (Ik.putC L a))∧∃ V',Itk w' base p V' t (Ik.putL L a)∧QStep w w' p V V':=by
 obtain ⟨ak,ac,asq,ait,asd,apr,aq,aid⟩:=a
 have HB:Hid (Below w.heap.size w (w.alloc (.cells #[.int .u8 ak,.int .i64 ac,.int .i64 asq,.int .i64 ait,.int .i64 asd,.int .i64 apr,.int .i64 aq,.int .i64 aid] 45))):=(Below.refl _ _).alloc (Nat.le_refl _) _
 have h2:=he.out.size
 have k0:=he.out.kd
 have k1:=he.out.bd
 have k2:=he.out.fu
 have e0:=(he.out.later HB.out).kd
 have e1:=(he.out.later HB.out).bd
 have e2:=(he.out.later HB.out).fu
 have HI1:=hide (hi.out.later HB.out)
 have HSK:=hide (QStep.of_below (V:=V) HB.out p)
 show Calls Tryz.prog 121 #[.pointer (some ⟨p,0,none⟩),.agg #[.int .u8 ak,.int .i64 ac,.int .i64 asq,.int .i64 ait,.int .i64 asd,.int .i64 apr,.int .i64 aq,.int .i64 aid]] w _
 cases hk:Ik.isK ⟨ak,ac,asq,ait,asd,apr,aq,aid⟩ with
 | false =>
  have HA:Hid (Ik.putC L ⟨ak,ac,asq,ait,asd,apr,aq,aid⟩ = 4∧Ik.putL L ⟨ak,ac,asq,ait,asd,apr,aq,aid⟩ = L):=by
   have e:Ik.putC L ⟨ak,ac,asq,ait,asd,apr,aq,aid⟩ = 4:=by unfold Ik.putC;rw [hk];rfl
   exact ⟨e,by unfold Ik.putL;rw [e];rfl⟩
  have hk1:(ak != 111) = true:=by simp [Ik.isK] at hk;simp [hk.1]
  have hk2:(ak != 99) = true:=by simp [Ik.isK] at hk;simp [hk.2]
  clear hk
  go_enter Tryz.func121,Tryz.ntmps121
  go_wp2
  go_ret
  exact ⟨by rw [HA.out.1];rfl,V,by rw [HA.out.2];exact HI1.out,HSK.out⟩
 | true =>
  have HK:=hide hk
  have hk':ak = 111∨ak = 99:=by simpa [Ik.isK] using hk
  clear hk
  have HCL:=hide (i_isClient_any ac (w.alloc (.cells #[.int .u8 ak,.int .i64 ac,.int .i64 asq,.int .i64 ait,.int .i64 asd,.int .i64 apr,.int .i64 aq,.int .i64 aid] 45)))
  have HWT:=hide (wait_any ac _ HI1)
  cases hc:Ik.isC ac with
  | false =>
   have HA:Hid (Ik.putC L ⟨ak,ac,asq,ait,asd,apr,aq,aid⟩ = 2∧Ik.putL L ⟨ak,ac,asq,ait,asd,apr,aq,aid⟩ = L):=by
    have e:Ik.putC L ⟨ak,ac,asq,ait,asd,apr,aq,aid⟩ = 2:=by unfold Ik.putC;rw [HK.out,if_pos rfl];simp [hc]
    exact ⟨e,by unfold Ik.putL;rw [e];rfl⟩
   rw [hc] at HCL
   clear hc
   rcases hk' with rfl | rfl
   all_goals
    go_enter Tryz.func121,Tryz.ntmps121
    go_wp2_with fail
    refine HCL.out.mono ?_
    rintro e w2 ⟨rfl,rfl⟩
    simp only []
    go_wp2
    go_ret
    exact ⟨by rw [HA.out.1];rfl,V,by rw [HA.out.2];exact HI1.out,HSK.out⟩
  | true =>
   rw [hc] at HCL
   obtain ⟨c,hc6,rfl⟩:=Ik.isC_lt hc
   have HWN:Hid (Ik.waitN L (c:Int) = (L c).length):=by show _ = _;unfold Ik.waitN;rw [hc];rfl
   rw [HWN.out] at HWT
   by_cases hf:6≤(L c).length
   ·have HA:Hid (Ik.putC L ⟨ak,c,asq,ait,asd,apr,aq,aid⟩ = 8∧Ik.putL L ⟨ak,c,asq,ait,asd,apr,aq,aid⟩ = L):=by
     have e:Ik.putC L ⟨ak,c,asq,ait,asd,apr,aq,aid⟩ = 8:=by unfold Ik.putC;rw [HK.out,if_pos rfl];simp [hc,hf]
     exact ⟨e,by unfold Ik.putL;rw [e];rfl⟩
    clear hc
    generalize (L c).length = m at *
    have hf':(6:Int)≤m:=by omega
    rcases hk' with rfl | rfl
    all_goals
     go_enter Tryz.func121,Tryz.ntmps121
     go_wp2_with fail
     refine HCL.out.mono ?_
     rintro e w2 ⟨rfl,rfl⟩
     simp only []
     go_wp2_with fail
     refine HWT.out.mono ?_
     rintro e w2 ⟨rfl,rfl⟩
     simp only []
     go_wp2
     go_ret
     exact ⟨by rw [HA.out.1];rfl,V,by rw [HA.out.2];exact HI1.out,HSK.out⟩
   ·have HA:Hid (Ik.putC L ⟨ak,c,asq,ait,asd,apr,aq,aid⟩ = 0∧Ik.putL L ⟨ak,c,asq,ait,asd,apr,aq,aid⟩ = Ik.upd L c (L c++[⟨ak,c,asq,ait,asd,apr,aq,aid⟩])):=by
     have e:Ik.putC L ⟨ak,c,asq,ait,asd,apr,aq,aid⟩ = 0:=by unfold Ik.putC;rw [HK.out,if_pos rfl];simp [hc,hf]
     exact ⟨e,by unfold Ik.putL;rw [if_pos e];rfl⟩
    clear hc
    -- the world behind the making of the box,the draw and the new row of one
    obtain ⟨w1,hw1⟩:∃ w1,w1 = w.alloc (.cells #[.int .u8 ak,.int .i64 c,.int .i64 asq,.int .i64 ait,.int .i64 asd,.int .i64 apr,.int .i64 aq,.int .i64 aid] 45):=⟨_,rfl⟩
    have hbA:Below w.heap.size w ((w.alloc (.cells #[.int .u8 ak,.int .i64 c,.int .i64 asq,.int .i64 ait,.int .i64 asd,.int .i64 apr,.int .i64 aq,.int .i64 aid] 45)).drew.alloc (.cells #[.int .u8 ak,.int .i64 c,.int .i64 asq,.int .i64 ait,.int .i64 asd,.int .i64 apr,.int .i64 aq,.int .i64 aid] 45)) :=
     (((Below.refl _ _).alloc (Nat.le_refl _) _).trans ((drew_below _).mono (by simp))).alloc (by simp [World.drew]) _
    have hIA:=hi.out.later hbA
    obtain ⟨i0,z0,hi0,hz0,hz1,hz2,hz3⟩:=info30
    obtain ⟨v4,w4,hap,hrow,hg,_,hloc⟩:=run_append_own_at (P:=Tryz.prog) ((w.alloc (.cells #[.int .u8 ak,.int .i64 c,.int .i64 asq,.int .i64 ait,.int .i64 asd,.int .i64 apr,.int .i64 aq,.int .i64 aid] 45)).drew.alloc (.cells #[.int .u8 ak,.int .i64 c,.int .i64 asq,.int .i64 ait,.int .i64 asd,.int .i64 apr,.int .i64 aq,.int .i64 aid] 45)) base 39 39 45 i0 z0 8 64 Tryz.underlying39 hi0 hz0 hz1 hz2 hz3 (by decide) _ _ _ (hIA.row c hc6) ⟨(w.alloc (.cells #[.int .u8 ak,.int .i64 c,.int .i64 asq,.int .i64 ait,.int .i64 asd,.int .i64 apr,.int .i64 aq,.int .i64 aid] 45)).heap.size,0,none⟩ 1 1 (askC ⟨ak,c,asq,ait,asd,apr,aq,aid⟩) rfl
     (fun j u hj=>cell_new8 (World.drew _) ⟨ak,c,asq,ait,asd,apr,aq,aid⟩ 45 _ rfl j u hj)
     (fun u hu=>aflat_one [⟨ak,c,asq,ait,asd,apr,aq,aid⟩] u (by simpa [aflat] using hu)) (by unfold maxLen;omega) (by omega) (by have h1:=hIA.lo;have h2:=hIA.lt;omega)
    obtain ⟨q1,q2⟩:=hIA.openAt hc6 hg
    have x0:(World.drew (w.alloc (.cells #[.int .u8 ak,.int .i64 c,.int .i64 asq,.int .i64 ait,.int .i64 asd,.int .i64 apr,.int .i64 aq,.int .i64 aid] 45))).heap[w.heap.size]? = some (.cells #[.int .u8 ak,.int .i64 c,.int .i64 asq,.int .i64 ait,.int .i64 asd,.int .i64 apr,.int .i64 aq,.int .i64 aid] 45 (0,0)):=heap_alloc_new w _
    have x1:=(heap_alloc_old (World.drew (w.alloc (.cells #[.int .u8 ak,.int .i64 c,.int .i64 asq,.int .i64 ait,.int .i64 asd,.int .i64 apr,.int .i64 aq,.int .i64 aid] 45))) (.cells #[.int .u8 ak,.int .i64 c,.int .i64 asq,.int .i64 ait,.int .i64 asd,.int .i64 apr,.int .i64 aq,.int .i64 aid] 45) (lt_of_block x0)).trans x0
    have x3:=(hg.block w.heap.size (lt_of_block x1) (fun e=>by have:=((hi.out.row c hc6).lt w.heap.size e.symm).2;omega)).trans x1
    have X0:=hide x0;have X1:=hide x1;have X3:=hide x3
    have HQA:=hide (hIA.at hc6)
    clear x0 x1 x3
    obtain ⟨a0,c0,hV⟩:=hIA.form hc6
    obtain ⟨a4,c4,hv4⟩:=row_form hrow
    have hset:=hIA.set hc6 (l':=L c++[⟨ak,c,asq,ait,asd,apr,aq,aid⟩]) hg (v':=v4) (by rw [List.length_append,aflat_append];simpa [aflat] using hrow) (by rw [List.length_append];simp;omega) (fun k hk=>by
     rcases hloc with h | h
     ·rw [h] at hk;exact .inl hk
     ·rw [h] at hk;exact .inr (Nat.le_of_eq (Option.some.inj hk)))
    have hat:=HI1.out.at hc6
    rw [hV] at hap hat q1 HQA
    rw [hv4] at hap hset
    rw [show (w.alloc (.cells #[.int .u8 ak,.int .i64 c,.int .i64 asq,.int .i64 ait,.int .i64 asd,.int .i64 apr,.int .i64 aq,.int .i64 aid] 45)).heap.size = w.heap.size + 1 by simp] at hap
    have HSET:=hide hset
    have HAP:=hide hap
    have HBA:=hide hbA
    have hpl:p < w.heap.size:=hi.out.lt
    clear hset hap hrow hg hloc hi0 hz0 hz1 hz2 hz3 hIA hbA hV hv4 hw1 w1
    generalize (L c).length = m at *
    have hf':¬ (6:Int)≤m:=by omega
    have hci:(c:Int) < 6:=by omega
    rcases hk' with rfl | rfl
    ·go_enter Tryz.func121,Tryz.ntmps121
     go_wp2_with fail
     refine HCL.out.mono ?_
     rintro e w2 ⟨rfl,rfl⟩
     simp only []
     go_wp2_with fail
     refine HWT.out.mono ?_
     rintro e w2 ⟨rfl,rfl⟩
     simp only []
     go_wp2
     obtain ⟨XT,val,hcl,hmk⟩:=class_all (fun W'=>W'.heap[w.heap.size]? = some (.cells #[.int .u8 111,.int .i64 c,.int .i64 asq,.int .i64 ait,.int .i64 asd,.int .i64 apr,.int .i64 aq,.int .i64 aid] 45 (0,0))∧W'.cell? ⟨p,c,none⟩ = some (.slice a0 m c0))
     obtain ⟨x0,hx0⟩:=hmk (World.drew (w.alloc (.cells #[.int .u8 111,.int .i64 c,.int .i64 asq,.int .i64 ait,.int .i64 asd,.int .i64 apr,.int .i64 aq,.int .i64 aid] 45))) ⟨X0.out,hat⟩
     have hnx:Nonempty XT:=⟨x0⟩
     have s0:∀ x,(val x).cell? ⟨w.heap.size,0,none⟩ = some (.int .u8 111):=fun x=>(box8 (hcl x).1).1
     have s1:∀ x,(val x).cell? ⟨w.heap.size,1,none⟩ = some (.int .i64 c):=fun x=>(box8 (hcl x).1).2.1
     have s2:∀ x,(val x).cell? ⟨w.heap.size,2,none⟩ = some (.int .i64 asq):=fun x=>(box8 (hcl x).1).2.2.1
     have s3:∀ x,(val x).cell? ⟨w.heap.size,3,none⟩ = some (.int .i64 ait):=fun x=>(box8 (hcl x).1).2.2.2.1
     have s4:∀ x,(val x).cell? ⟨w.heap.size,4,none⟩ = some (.int .i64 asd):=fun x=>(box8 (hcl x).1).2.2.2.2.1
     have s5:∀ x,(val x).cell? ⟨w.heap.size,5,none⟩ = some (.int .i64 apr):=fun x=>(box8 (hcl x).1).2.2.2.2.2.1
     have s6:∀ x,(val x).cell? ⟨w.heap.size,6,none⟩ = some (.int .i64 aq):=fun x=>(box8 (hcl x).1).2.2.2.2.2.2.1
     have s7:∀ x,(val x).cell? ⟨w.heap.size,7,none⟩ = some (.int .i64 aid):=fun x=>(box8 (hcl x).1).2.2.2.2.2.2.2
     have s8:∀ x,(val x).cell? ⟨p,c,none⟩ = some (.slice a0 m c0):=fun x=>(hcl x).2
     have M1:=hide (hmk _ ⟨X1.out,HQA.out⟩)
     have M3:=hide (hmk _ ⟨X3.out,q1⟩)
     clear hmk hcl
     refine region_many_last (val:=val) [11,12] 16 20 [0,1,2,3,4,5,6,7,8,9,10,13,14,11,12,15,16] (by kernel_rfl) (by kernel_rfl) x0 hx0 ?_
     rw [hx0]
     clear hx0
     refine walkL_read rfl rfl (fun K hK=>?_)
     refine ⟨by rfl,?_⟩
     unfold isRd
     go_simp
     refine hK _ ?_
     clear hK K
     refine walkL_read rfl rfl (fun K hK=>?_)
     refine ⟨by rfl,?_⟩
     unfold isRd
     go_simp
     refine hK _ ?_
     clear hK K
     refine walkL_read rfl rfl (fun K hK=>?_)
     refine ⟨by rfl,?_⟩
     unfold isRd
     go_simp
     refine hK _ ?_
     clear hK K
     refine walkL_read rfl rfl (fun K hK=>?_)
     refine ⟨by rfl,?_⟩
     unfold isRd
     go_simp
     refine hK _ ?_
     clear hK K
     refine walkL_read rfl rfl (fun K hK=>?_)
     refine ⟨by rfl,?_⟩
     unfold isRd
     go_simp
     refine hK _ ?_
     clear hK K
     refine walkL_read rfl rfl (fun K hK=>?_)
     refine ⟨by rfl,?_⟩
     unfold isRd
     go_simp
     refine hK _ ?_
     clear hK K
     refine walkL_read rfl rfl (fun K hK=>?_)
     refine ⟨by rfl,?_⟩
     unfold isRd
     go_simp
     refine hK _ ?_
     clear hK K
     refine walkL_read rfl rfl (fun K hK=>?_)
     refine ⟨by rfl,?_⟩
     unfold isRd
     go_simp
     refine hK _ ?_
     clear hK K
     refine walkL_read rfl rfl (fun K hK=>?_)
     refine ⟨by rfl,?_⟩
     unfold isRd
     go_simp
     refine hK _ ?_
     clear hK K
     refine walkL_read rfl rfl (fun K hK=>?_)
     refine ⟨by rfl,?_⟩
     unfold isRd
     go_simp
     refine hK _ ?_
     clear hK K
     refine walkL_read rfl rfl (fun K hK=>?_)
     refine ⟨by rfl,?_⟩
     unfold isRd
     go_simp
     refine hK _ ?_
     clear hK K
     refine walkL_read rfl rfl (fun K hK=>?_)
     refine ⟨by rfl,?_⟩
     unfold isRd
     go_simp
     refine hK _ ?_
     clear hK K
     refine walkL_read rfl rfl (fun K hK=>?_)
     refine ⟨by rfl,?_⟩
     unfold isRd
     go_simp
     refine hK _ ?_
     clear hK K
     refine walkL_call rfl rfl (fun K hK=>?_)
     refine ⟨by rfl,?_⟩
     unfold upM
     go_simp
     refine ⟨M1.out,hK _ _ ?_⟩
     clear hK K
     refine walkL_call rfl rfl (fun K hK=>?_)
     refine ⟨by rfl,?_⟩
     refine upM_append _ _ 39 rfl _ _ _ rfl rfl HAP.out ?_
     refine ⟨M3.out,hK _ _ ?_⟩
     clear hK K
     refine walkL_read rfl rfl (fun K hK=>?_)
     refine ⟨by rfl,?_⟩
     unfold isRd
     go_simp
     refine hK _ ?_
     clear hK K
     refine walkL_last rfl (fun K hK=>?_)
     refine ⟨by rfl,?_⟩
     unfold upM
     go_simp
     refine hK _ _ ?_
     clear hK K
     all_goals go_wp2
     all_goals go_ret
     all_goals exact ⟨by rw [HA.out.1];rfl,_,by rw [HA.out.2];exact HSET.out.1,(QStep.of_below HBA.out p _).trans HSET.out.2⟩
    ·go_enter Tryz.func121,Tryz.ntmps121
     go_wp2_with fail
     refine HCL.out.mono ?_
     rintro e w2 ⟨rfl,rfl⟩
     simp only []
     go_wp2_with fail
     refine HWT.out.mono ?_
     rintro e w2 ⟨rfl,rfl⟩
     simp only []
     go_wp2
     obtain ⟨XT,val,hcl,hmk⟩:=class_all (fun W'=>W'.heap[w.heap.size]? = some (.cells #[.int .u8 99,.int .i64 c,.int .i64 asq,.int .i64 ait,.int .i64 asd,.int .i64 apr,.int .i64 aq,.int .i64 aid] 45 (0,0))∧W'.cell? ⟨p,c,none⟩ = some (.slice a0 m c0))
     obtain ⟨x0,hx0⟩:=hmk (World.drew (w.alloc (.cells #[.int .u8 99,.int .i64 c,.int .i64 asq,.int .i64 ait,.int .i64 asd,.int .i64 apr,.int .i64 aq,.int .i64 aid] 45))) ⟨X0.out,hat⟩
     have hnx:Nonempty XT:=⟨x0⟩
     have s0:∀ x,(val x).cell? ⟨w.heap.size,0,none⟩ = some (.int .u8 99):=fun x=>(box8 (hcl x).1).1
     have s1:∀ x,(val x).cell? ⟨w.heap.size,1,none⟩ = some (.int .i64 c):=fun x=>(box8 (hcl x).1).2.1
     have s2:∀ x,(val x).cell? ⟨w.heap.size,2,none⟩ = some (.int .i64 asq):=fun x=>(box8 (hcl x).1).2.2.1
     have s3:∀ x,(val x).cell? ⟨w.heap.size,3,none⟩ = some (.int .i64 ait):=fun x=>(box8 (hcl x).1).2.2.2.1
     have s4:∀ x,(val x).cell? ⟨w.heap.size,4,none⟩ = some (.int .i64 asd):=fun x=>(box8 (hcl x).1).2.2.2.2.1
     have s5:∀ x,(val x).cell? ⟨w.heap.size,5,none⟩ = some (.int .i64 apr):=fun x=>(box8 (hcl x).1).2.2.2.2.2.1
     have s6:∀ x,(val x).cell? ⟨w.heap.size,6,none⟩ = some (.int .i64 aq):=fun x=>(box8 (hcl x).1).2.2.2.2.2.2.1
     have s7:∀ x,(val x).cell? ⟨w.heap.size,7,none⟩ = some (.int .i64 aid):=fun x=>(box8 (hcl x).1).2.2.2.2.2.2.2
     have s8:∀ x,(val x).cell? ⟨p,c,none⟩ = some (.slice a0 m c0):=fun x=>(hcl x).2
     have M1:=hide (hmk _ ⟨X1.out,HQA.out⟩)
     have M3:=hide (hmk _ ⟨X3.out,q1⟩)
     clear hmk hcl
     refine region_many_last (val:=val) [11,12] 16 20 [0,1,2,3,4,5,6,7,8,9,10,13,14,11,12,15,16] (by kernel_rfl) (by kernel_rfl) x0 hx0 ?_
     rw [hx0]
     clear hx0
     refine walkL_read rfl rfl (fun K hK=>?_)
     refine ⟨by rfl,?_⟩
     unfold isRd
     go_simp
     refine hK _ ?_
     clear hK K
     refine walkL_read rfl rfl (fun K hK=>?_)
     refine ⟨by rfl,?_⟩
     unfold isRd
     go_simp
     refine hK _ ?_
     clear hK K
     refine walkL_read rfl rfl (fun K hK=>?_)
     refine ⟨by rfl,?_⟩
     unfold isRd
     go_simp
     refine hK _ ?_
     clear hK K
     refine walkL_read rfl rfl (fun K hK=>?_)
     refine ⟨by rfl,?_⟩
     unfold isRd
     go_simp
     refine hK _ ?_
     clear hK K
     refine walkL_read rfl rfl (fun K hK=>?_)
     refine ⟨by rfl,?_⟩
     unfold isRd
     go_simp
     refine hK _ ?_
     clear hK K
     refine walkL_read rfl rfl (fun K hK=>?_)
     refine ⟨by rfl,?_⟩
     unfold isRd
     go_simp
     refine hK _ ?_
     clear hK K
     refine walkL_read rfl rfl (fun K hK=>?_)
     refine ⟨by rfl,?_⟩
     unfold isRd
     go_simp
     refine hK _ ?_
     clear hK K
     refine walkL_read rfl rfl (fun K hK=>?_)
     refine ⟨by rfl,?_⟩
     unfold isRd
     go_simp
     refine hK _ ?_
     clear hK K
     refine walkL_read rfl rfl (fun K hK=>?_)
     refine ⟨by rfl,?_⟩
     unfold isRd
     go_simp
     refine hK _ ?_
     clear hK K
     refine walkL_read rfl rfl (fun K hK=>?_)
     refine ⟨by rfl,?_⟩
     unfold isRd
     go_simp
     refine hK _ ?_
     clear hK K
     refine walkL_read rfl rfl (fun K hK=>?_)
     refine ⟨by rfl,?_⟩
     unfold isRd
     go_simp
     refine hK _ ?_
     clear hK K
     refine walkL_read rfl rfl (fun K hK=>?_)
     refine ⟨by rfl,?_⟩
     unfold isRd
     go_simp
     refine hK _ ?_
     clear hK K
     refine walkL_read rfl rfl (fun K hK=>?_)
     refine ⟨by rfl,?_⟩
     unfold isRd
     go_simp
     refine hK _ ?_
     clear hK K
     refine walkL_call rfl rfl (fun K hK=>?_)
     refine ⟨by rfl,?_⟩
     unfold upM
     go_simp
     refine ⟨M1.out,hK _ _ ?_⟩
     clear hK K
     refine walkL_call rfl rfl (fun K hK=>?_)
     refine ⟨by rfl,?_⟩
     refine upM_append _ _ 39 rfl _ _ _ rfl rfl HAP.out ?_
     refine ⟨M3.out,hK _ _ ?_⟩
     clear hK K
     refine walkL_read rfl rfl (fun K hK=>?_)
     refine ⟨by rfl,?_⟩
     unfold isRd
     go_simp
     refine hK _ ?_
     clear hK K
     refine walkL_last rfl (fun K hK=>?_)
     refine ⟨by rfl,?_⟩
     unfold upM
     go_simp
     refine hK _ _ ?_
     clear hK K
     all_goals go_wp2
     all_goals go_ret
     all_goals exact ⟨by rw [HA.out.1];rfl,_,by rw [HA.out.2];exact HSET.out.1,(QStep.of_below HBA.out p _).trans HSET.out.2⟩
end
theorem drop_min (q:List Ask):q.drop (min q.length 2) = q.drop 2:=by
 by_cases h:q.length≤2
 ·rw [Nat.min_eq_left h,List.drop_of_length_le (Nat.le_refl _),List.drop_of_length_le h]
 ·rw [Nat.min_eq_right (by omega)]
theorem delete_two (v:Value) (base J:Nat) (q:List Ask) (w:World) (hr:Hid (w.ownsRow base 45 8 v q.length (aflat q))) (hJ:J = min q.length 2):Calls Tryz.prog 90 #[v,.int .i64 0,.int .i64 J] w fun e w'=>∃ v',e = .returned v'∧w'.ownsRow base 45 8 v' (q.drop 2).length (aflat (q.drop 2))∧w.grownBy w' v.ownBlock∧v'.ownBlock = v.ownBlock:=by
 by_cases h0:q.length = 0
 ·have:J = 0:=by omega
  subst this
  refine (delete_none v q.length base _ w hr).mono ?_
  rintro e w' ⟨rfl,rfl⟩
  have hq:q = []:=List.eq_nil_of_length_eq_zero h0
  subst hq
  exact ⟨v,rfl,hr.out,⟨rfl,rfl,rfl,Nat.le_refl _,fun _ _ _=>rfl⟩,rfl⟩
 ·obtain ⟨g,cap,rfl,hle⟩:∃ g cap,v = .slice (some ⟨g,0,none⟩) q.length cap∧q.length≤cap:=by
   rcases hr.out.2 with ⟨_,e⟩ | ⟨g,cap,cur,e,_,_,h,_⟩
   ·exact absurd e h0
   ·exact ⟨g,cap,e,h⟩
  refine (delete_some g cap q.length J base q w rfl hr.out (by show _∨_;omega) (by omega) (by omega) hle).mono ?_
  rintro e w' ⟨rfl,h1,h2⟩
  refine ⟨_,rfl,?_,h2,rfl⟩
  rw [hJ,drop_min] at h1
  rw [List.length_drop,show q.length - 2 = q.length - min q.length 2 by omega]
  rw [hJ]
  exact h1
theorem run_append_two (w:World) (base b2 J:Nat) (d:Value) (xs:List Ask) (hd:w.ownsRow base 45 8 d xs.length (aflat xs)) (a:Option Addr) (m c:Nat) (q:List Ask) (hq:w.ownsRow b2 45 8 (.slice a m c) m (aflat q)) (hm:q.length = m) (hJ:J = min m 2) (hx:xs.length≤1000) (hb:base≤w.heap.size) :
  ∃ v' w',(Builtin.append_ #[39,39] 33 #[d,.slice a J c]).run Tryz.prog w = .ok v' w'∧w'.ownsRow base 45 8 v' (xs++q.take 2).length (aflat (xs++q.take 2))∧w.grownBy w' d.ownBlock:=by
 obtain ⟨i0,z0,hi0,hz0,hz1,hz2,hz3⟩:=info30
 have hl:(q.take 2).length = J:=by rw [List.length_take,hm,hJ];omega
 rcases hq.2 with ⟨e,e2⟩ | ⟨g,cap,cur,e,_,_,h,_⟩
 ·obtain ⟨rfl,rfl,rfl⟩:a = none∧m = 0∧c = 0:=by simpa using e
  have hq0:q = []:=List.eq_nil_of_length_eq_zero hm
  subst hq0
  have hJ0:J = 0:=by omega
  subst hJ0
  simp only [List.take_nil,List.append_nil]
  refine ⟨d,w,?_,hd,⟨rfl,rfl,rfl,Nat.le_refl _,fun _ _ _=>rfl⟩⟩
  rcases hd.2 with ⟨rfl,_⟩ | ⟨g,cap,cur,rfl,_,hgg,hle,_,_,_⟩
  ·simp [Builtin.append_,run_underlying Tryz.underlying39,sizeOf,typeInfo,hi0,Builtin.lenOf,Builtin.firstCells]
  ·simp [Builtin.append_,run_underlying Tryz.underlying39,sizeOf,typeInfo,hi0,Builtin.lenOf,Builtin.firstCells,hle,storeCells]
 ·obtain ⟨rfl,rfl⟩:a = some ⟨g,0,none⟩∧c = cap:=by simpa using e
  obtain ⟨v',w',h1,h2,h3,_⟩:=run_append_own_at (P:=Tryz.prog) w base 39 39 45 i0 z0 8 64 Tryz.underlying39 hi0 hz0 hz1 hz2 hz3 (by decide) d xs.length (aflat xs) hd ⟨g,0,none⟩ J c (aflat (q.take 2)) (by rw [aflat_length,hl])
   (fun j u hj=>World.ownsRow.cells hq (g:=g) rfl j u (by
    have e:aflat q = aflat (q.take 2)++aflat (q.drop 2):=by rw [← aflat_append,List.take_append_drop]
    rw [e,List.getElem?_append_left (List.getElem?_eq_some_iff.1 hj).1];exact hj))
   (aflat_one _) (by unfold maxLen;omega) (by omega) hb
  exact ⟨v',w',h1,by rw [List.length_append,hl,aflat_append];exact h2,h3⟩
theorem row_form3 {w:World} {base:Nat} {e:TypeId} {s:Nat} {v:Value} {n:Nat} {xs:List Value} (hr:w.ownsRow base e s v n xs):∃ a m c,v = .slice a m c:=by
 obtain ⟨a,c,h⟩:=row_form hr
 exact ⟨a,n,c,h⟩
theorem wpList_append_run {P:Program} {ops:Array Oper} {rest:List Oper} {o:Oper} {a:Act} {w w':World} {Q:Exit→Act→World→Prop} (hgd:o.guard = none) (s x:Operand) (t:TypeId)
  (hop:o.op = Op.call { callee:=Callee.builtin Builtin.append,args:=#[s,x],argTypes:=#[t,t] }) (vs vx v':Value) (hs:a.eval s = vs) (hx:a.eval x = vx)
  (hrun:(Builtin.append_ #[t,t] o.type #[vs,vx]).run P w = .ok v' w') (h:wpList P ops Q rest (a.put o.dst v') w'):wpList P ops Q (o :: rest) a w:=by
 refine wpList_plain hgd fun K hK=>?_
 unfold Oper.wp
 simp [execOp,hop,resolve,invoke,builtin,hs,hx,hrun,Result.andThen]
 exact hK _ _ h
section
variable {base p t:Nat} {V:Nat→Value} {L:Nat→List Ask}
theorem qstep_aside {w w2 w3:World} {V V':Nat→Value} {r:Option Nat} (h:QStep w w2 p V V') (hg:w2.grownBy w3 r) (hr:∀ j,r = some j→w.heap.size≤j):QStep w w3 p V V' :=
 ⟨h.turned.trans (Turned.of_grown hg) (fun k hk=>.inr (hr k hk.symm)),h.new⟩
set_option maxHeartbeats 2000000 in
theorem drain_any (w:World) (hi:Hid (Itk w base p V t L)):Calls Tryz.prog 59 #[.pointer (some ⟨p,0,none⟩)] w fun e w'=>∃ d V',e = .returned d∧w'.ownsRow w.heap.size 45 8 d (Ik.out L t).length (aflat (Ik.out L t))∧Itk w' base p V' (Ik.who t 1) (Ik.drL L t)∧QStep w w' p V V'∧∀ j,qown p V' j→qown p V j:=by
 go_enter Tryz.func59,Tryz.ntmps59
 go_wp2_with fail
 go_loopw [3,7] (fun d c wr=>∃ (k:Nat) (V':Nat→Value),k≤6∧c = .int .i64 k∧wr.ownsRow w.heap.size 45 8 d (Ik.ouN L t k).length (aflat (Ik.ouN L t k))∧Itk wr base p V' t (Ik.drN L t k)∧QStep w wr p V V'∧∀ j,qown p V' j→qown p V j) (fun _ c _=>6 - (intOf c).toNat)
 case atStart=>exact ⟨0,V,by decide,rfl,World.ownsRow_nil _ _ _ _,hi.out,QStep.refl _ _ _,fun _ h=>h⟩
 case round =>
  obtain ⟨k,V',hk,rfl,hd,hI,hs,ho⟩:=hrel
  have HD:=hide hd;have HI:=hide hI;have HS:=hide hs;have HO:=hide ho
  clear hd hI hs ho
  have ht:=HI.out.turn
  have hat:=HI.out.atTurn
  by_cases hlt:k < 6
  ·have hki:(k:Int) < 6:=by omega
   have HAF:=hide (after_any t k wr ht (by omega))
   go_wp2_with fail
   refine HAF.out.mono ?_
   rintro e w2 ⟨rfl,rfl⟩
   simp only []
   have hn:=Ik.who_lt t k
   have HN:Hid (Ik.drN L t (k + 1) = Ik.upd (Ik.drN L t k) (Ik.who t k) ((Ik.drN L t k (Ik.who t k)).drop 2)∧Ik.ouN L t (k + 1) = Ik.ouN L t k++(Ik.drN L t k (Ik.who t k)).take 2):=⟨rfl,rfl⟩
   generalize Ik.who t k = n at *
   have hni:(n:Int) < 6:=by omega
   have haq:=HI.out.at hn
   have hfq:=HI.out.few n hn
   obtain ⟨a,c,hV⟩:=HI.out.form hn
   have HROW:=hide (HI.out.row n hn)
   rw [hV] at haq HROW
   obtain ⟨m,hm⟩:∃ m,(Ik.drN L t k n).length = m:=⟨_,rfl⟩
   rw [hm] at haq hV hfq HROW
   have hac:(a = none∧m = 0∧c = 0)∨∃ g,a = some ⟨g,0,none⟩∧m≤c:=by
    rcases HROW.out.2 with ⟨e,_⟩ | ⟨g,cap,cur,e,_,_,h,_⟩
    ·simp at e;exact .inl e
    ·simp at e;exact .inr ⟨g,e.1,by omega⟩
   obtain ⟨J,hJ⟩:∃ J,J = min m 2:=⟨_,rfl⟩
   obtain ⟨v3,w3,hap,hr3,hg3⟩:=run_append_two w2 w.heap.size base J u3 (Ik.ouN L t k) HD.out a m c (Ik.drN L t k n) HROW.out hm hJ (by have:=Ik.ouN_len L t k;omega) HS.out.turned.size
   have hapart:∀ j,qown p V' j→¬ some j = u3.ownBlock:=fun j hj e=>by
    have h1:=(hi.out.own_lt (HO.out j hj)).2
    have h2:=(HD.out.lt j e.symm).1
    omega
   have HI3:=hide (HI.out.turned (Turned.of_grown hg3) hapart)
   have HS3:=hide (qstep_aside HS.out hg3 (fun j e=>(HD.out.lt j e).1))
   have haq3:=HI3.out.at hn
   rw [hV] at haq3
   have HDEL:=hide (delete_two (.slice a m c) base J (Ik.drN L t k n) (World.drew w3) (by have:=HI3.out.row n hn;rw [hV,hm] at this;show World.ownsRow _ _ _ _ _ _ _;rw [hm];exact this) (by rw [hm];exact hJ))
   obtain ⟨a3,n3,c3,hf3⟩:=row_form3 hr3
   rw [hf3] at hap
   have HAP:=hide hap;have HR3:=hide hr3
   have HJ:=hide hJ;have HM:=hide hm;have HV:=hide hV;have HF3:=hide hf3
   clear hap hr3 hg3 hat HAF hJ hm hV hf3
   rcases hac with ⟨rfl,rfl,rfl⟩ | ⟨g,rfl,hmc⟩
   ·obtain rfl:J = 0:=by have:=HJ.out;omega
    rw [show ((0:Nat):Int) = 0 from rfl] at HDEL
    go_wp2_with (at_builtin;refine wpList_append_run rfl _ _ 39 rfl _ _ _ rfl rfl HAP.out ?_)
    obtain ⟨XT,val,hcl,hmk⟩:=class_all (fun W'=>W'.cell? ⟨p,n,none⟩ = some (.slice none 0 0))
    obtain ⟨x0,hx0⟩:=hmk (World.drew w3) haq3
    have hnx:Nonempty XT:=⟨x0⟩
    have s8:∀ x,(val x).cell? ⟨p,n,none⟩ = some (.slice none 0 0):=hcl
    have HMK:=hide hmk
    clear hmk hcl
    refine region_many_last (val:=val) [9] 13 20 [0,1,2,3,4,5,6,7,8,10,11,9,12,13] (by kernel_rfl) (by kernel_rfl) x0 hx0 ?_
    rw [hx0]
    clear hx0
    refine walkL_read rfl rfl (fun K hK=>?_)
    refine ⟨by rfl,?_⟩
    unfold isRd
    go_simp
    refine hK _ ?_
    clear hK K
    refine walkL_read rfl rfl (fun K hK=>?_)
    refine ⟨by rfl,?_⟩
    unfold isRd
    go_simp
    refine hK _ ?_
    clear hK K
    refine walkL_read rfl rfl (fun K hK=>?_)
    refine ⟨by rfl,?_⟩
    unfold isRd
    go_simp
    refine hK _ ?_
    clear hK K
    refine walkL_read rfl rfl (fun K hK=>?_)
    refine ⟨by rfl,?_⟩
    unfold isRd
    go_simp
    refine hK _ ?_
    clear hK K
    refine walkL_read rfl rfl (fun K hK=>?_)
    refine ⟨by rfl,?_⟩
    unfold isRd
    go_simp
    refine hK _ ?_
    clear hK K
    refine walkL_read rfl rfl (fun K hK=>?_)
    refine ⟨by rfl,?_⟩
    unfold isRd
    go_simp
    refine hK _ ?_
    clear hK K
    refine walkL_read rfl rfl (fun K hK=>?_)
    refine ⟨by rfl,?_⟩
    unfold isRd
    go_simp
    refine hK _ ?_
    clear hK K
    refine walkL_read rfl rfl (fun K hK=>?_)
    refine ⟨by rfl,?_⟩
    unfold isRd
    go_simp
    refine hK _ ?_
    clear hK K
    refine walkL_read rfl rfl (fun K hK=>?_)
    refine ⟨by rfl,?_⟩
    unfold isRd
    go_simp
    refine hK _ ?_
    clear hK K
    refine walkL_read rfl rfl (fun K hK=>?_)
    refine ⟨by rfl,?_⟩
    unfold isRd
    go_simp
    refine hK _ ?_
    clear hK K
    refine walkL_read rfl rfl (fun K hK=>?_)
    refine ⟨by rfl,?_⟩
    unfold isRd
    go_simp
    refine hK _ ?_
    clear hK K
    refine walkL_call rfl rfl (fun K hK=>?_)
    refine ⟨by rfl,?_⟩
    unfold upM
    go_simp
    refine HDEL.out.mono ?_
    rintro e w4 ⟨v4,rfl,hr4,hg4,hv4⟩
    have hg4':w3.grownBy w4 (V' n).ownBlock:=by rw [HV.out];exact ⟨hg4.os,hg4.tape,hg4.output,hg4.size,hg4.block⟩
    obtain ⟨q1,q2⟩:=HI3.out.openAt hn (w2:=w4) hg4'
    rw [HV.out] at q1
    have HG4:=hide hg4'
    obtain ⟨a4,n4,c4,hf4⟩:=row_form3 hr4
    have HST:=hide (HI3.out.set hn (w2:=w4) hg4' (v':=v4) hr4 (by rw [List.length_drop,HM.out];omega) (fun j hj=>.inl (by rw [HV.out,← hv4];exact hj)))
    have HV4:Hid (v4.ownBlock = (V' n).ownBlock):=by show _ = _;rw [HV.out];exact hv4
    refine ⟨_,rfl,HMK.out _ q1,hK _ _ ?_⟩
    clear hK K hr4 hg4 hg4' hv4
    rw [hf4] at HST HV4
    subst hf4
    refine walkL_read rfl rfl (fun K hK=>?_)
    refine ⟨by rfl,?_⟩
    unfold isRd
    go_simp
    refine hK _ ?_
    clear hK K
    refine walkL_last rfl (fun K hK=>?_)
    refine ⟨by rfl,?_⟩
    unfold upM
    go_simp
    refine hK _ _ ?_
    clear hK K
    go_wp2
    refine ⟨⟨k + 1,_,by omega,by go_num,?_,by rw [HN.out.1];exact HST.out.1,HS3.out.trans HST.out.2,?_⟩,by simp [intOf];omega⟩
    ·rw [HN.out.2,← HF3.out]
     refine row_turned (row_turned HR3.out (Turned.of_grown HG4.out) ?_) (Turned.setCell w4 p n _) ?_
     ·intro j hj e
      have h1:=(HR3.out.lt j hj).1
      have h2:=(hi.out.own_lt (HO.out j (.inr ⟨n,hn,e.symm⟩))).2
      omega
     ·intro j hj e
      have h1:=(HR3.out.lt j hj).1
      have h2:=(hi.out.own_lt (.inl e)).2
      omega
    ·rintro j (rfl | ⟨cc,hcc,hj⟩)
     ·exact .inl rfl
     ·by_cases hcn:cc = n
      ·subst hcn
       rw [Ik.upd_same,HV4.out] at hj
       exact HO.out j (.inr ⟨cc,hcc,hj⟩)
      ·rw [Ik.upd_other _ _ hcn] at hj
       exact HO.out j (.inr ⟨cc,hcc,hj⟩)
   ·by_cases h2:2 < m
    ·have h2i:(2:Int) < m:=by omega
     have h3i:(2:Int)≤c:=by omega
     obtain rfl:J = 2:=by have:=HJ.out;omega
     rw [show ((2:Nat):Int) = 2 from rfl] at HDEL
     go_wp2_with (at_builtin;refine wpList_append_run rfl _ _ 39 rfl _ _ _ rfl rfl HAP.out ?_)
     obtain ⟨XT,val,hcl,hmk⟩:=class_all (fun W'=>W'.cell? ⟨p,n,none⟩ = some (.slice (some ⟨g,0,none⟩) m c))
     obtain ⟨x0,hx0⟩:=hmk (World.drew w3) haq3
     have hnx:Nonempty XT:=⟨x0⟩
     have s8:∀ x,(val x).cell? ⟨p,n,none⟩ = some (.slice (some ⟨g,0,none⟩) m c):=hcl
     have HMK:=hide hmk
     clear hmk hcl
     refine region_many_last (val:=val) [9] 13 20 [0,1,2,3,4,5,6,7,8,10,11,9,12,13] (by kernel_rfl) (by kernel_rfl) x0 hx0 ?_
     rw [hx0]
     clear hx0
     refine walkL_read rfl rfl (fun K hK=>?_)
     refine ⟨by rfl,?_⟩
     unfold isRd
     go_simp
     refine hK _ ?_
     clear hK K
     refine walkL_read rfl rfl (fun K hK=>?_)
     refine ⟨by rfl,?_⟩
     unfold isRd
     go_simp
     refine hK _ ?_
     clear hK K
     refine walkL_read rfl rfl (fun K hK=>?_)
     refine ⟨by rfl,?_⟩
     unfold isRd
     go_simp
     refine hK _ ?_
     clear hK K
     refine walkL_read rfl rfl (fun K hK=>?_)
     refine ⟨by rfl,?_⟩
     unfold isRd
     go_simp
     refine hK _ ?_
     clear hK K
     refine walkL_read rfl rfl (fun K hK=>?_)
     refine ⟨by rfl,?_⟩
     unfold isRd
     go_simp
     refine hK _ ?_
     clear hK K
     refine walkL_read rfl rfl (fun K hK=>?_)
     refine ⟨by rfl,?_⟩
     unfold isRd
     go_simp
     refine hK _ ?_
     clear hK K
     refine walkL_read rfl rfl (fun K hK=>?_)
     refine ⟨by rfl,?_⟩
     unfold isRd
     go_simp
     refine hK _ ?_
     clear hK K
     refine walkL_read rfl rfl (fun K hK=>?_)
     refine ⟨by rfl,?_⟩
     unfold isRd
     go_simp
     refine hK _ ?_
     clear hK K
     refine walkL_read rfl rfl (fun K hK=>?_)
     refine ⟨by rfl,?_⟩
     unfold isRd
     go_simp
     refine hK _ ?_
     clear hK K
     refine walkL_read rfl rfl (fun K hK=>?_)
     refine ⟨by rfl,?_⟩
     unfold isRd
     go_simp
     refine hK _ ?_
     clear hK K
     refine walkL_read rfl rfl (fun K hK=>?_)
     refine ⟨by rfl,?_⟩
     unfold isRd
     go_simp
     refine hK _ ?_
     clear hK K
     refine walkL_call rfl rfl (fun K hK=>?_)
     refine ⟨by rfl,?_⟩
     unfold upM
     go_simp
     refine HDEL.out.mono ?_
     rintro e w4 ⟨v4,rfl,hr4,hg4,hv4⟩
     have hg4':w3.grownBy w4 (V' n).ownBlock:=by rw [HV.out];exact ⟨hg4.os,hg4.tape,hg4.output,hg4.size,hg4.block⟩
     obtain ⟨q1,q2⟩:=HI3.out.openAt hn (w2:=w4) hg4'
     rw [HV.out] at q1
     have HG4:=hide hg4'
     obtain ⟨a4,n4,c4,hf4⟩:=row_form3 hr4
     have HST:=hide (HI3.out.set hn (w2:=w4) hg4' (v':=v4) hr4 (by rw [List.length_drop,HM.out];omega) (fun j hj=>.inl (by rw [HV.out,← hv4];exact hj)))
     have HV4:Hid (v4.ownBlock = (V' n).ownBlock):=by show _ = _;rw [HV.out];exact hv4
     refine ⟨_,rfl,HMK.out _ q1,hK _ _ ?_⟩
     clear hK K hr4 hg4 hg4' hv4
     rw [hf4] at HST HV4
     subst hf4
     refine walkL_read rfl rfl (fun K hK=>?_)
     refine ⟨by rfl,?_⟩
     unfold isRd
     go_simp
     refine hK _ ?_
     clear hK K
     refine walkL_last rfl (fun K hK=>?_)
     refine ⟨by rfl,?_⟩
     unfold upM
     go_simp
     refine hK _ _ ?_
     clear hK K
     go_wp2
     refine ⟨⟨k + 1,_,by omega,by go_num,?_,by rw [HN.out.1];exact HST.out.1,HS3.out.trans HST.out.2,?_⟩,by simp [intOf];omega⟩
     ·rw [HN.out.2,← HF3.out]
      refine row_turned (row_turned HR3.out (Turned.of_grown HG4.out) ?_) (Turned.setCell w4 p n _) ?_
      ·intro j hj e
       have h1:=(HR3.out.lt j hj).1
       have h2:=(hi.out.own_lt (HO.out j (.inr ⟨n,hn,e.symm⟩))).2
       omega
      ·intro j hj e
       have h1:=(HR3.out.lt j hj).1
       have h2:=(hi.out.own_lt (.inl e)).2
       omega
     ·rintro j (rfl | ⟨cc,hcc,hj⟩)
      ·exact .inl rfl
      ·by_cases hcn:cc = n
       ·subst hcn
        rw [Ik.upd_same,HV4.out] at hj
        exact HO.out j (.inr ⟨cc,hcc,hj⟩)
       ·rw [Ik.upd_other _ _ hcn] at hj
        exact HO.out j (.inr ⟨cc,hcc,hj⟩)
    ·have h2i:¬ (2:Int) < m:=by omega
     have h3i:(m:Int)≤c:=by omega
     obtain rfl:J = m:=by have:=HJ.out;omega
     go_wp2_with (at_builtin;refine wpList_append_run rfl _ _ 39 rfl _ _ _ rfl rfl HAP.out ?_)
     obtain ⟨XT,val,hcl,hmk⟩:=class_all (fun W'=>W'.cell? ⟨p,n,none⟩ = some (.slice (some ⟨g,0,none⟩) J c))
     obtain ⟨x0,hx0⟩:=hmk (World.drew w3) haq3
     have hnx:Nonempty XT:=⟨x0⟩
     have s8:∀ x,(val x).cell? ⟨p,n,none⟩ = some (.slice (some ⟨g,0,none⟩) J c):=hcl
     have HMK:=hide hmk
     clear hmk hcl
     refine region_many_last (val:=val) [9] 13 20 [0,1,2,3,4,5,6,7,8,10,11,9,12,13] (by kernel_rfl) (by kernel_rfl) x0 hx0 ?_
     rw [hx0]
     clear hx0
     refine walkL_read rfl rfl (fun K hK=>?_)
     refine ⟨by rfl,?_⟩
     unfold isRd
     go_simp
     refine hK _ ?_
     clear hK K
     refine walkL_read rfl rfl (fun K hK=>?_)
     refine ⟨by rfl,?_⟩
     unfold isRd
     go_simp
     refine hK _ ?_
     clear hK K
     refine walkL_read rfl rfl (fun K hK=>?_)
     refine ⟨by rfl,?_⟩
     unfold isRd
     go_simp
     refine hK _ ?_
     clear hK K
     refine walkL_read rfl rfl (fun K hK=>?_)
     refine ⟨by rfl,?_⟩
     unfold isRd
     go_simp
     refine hK _ ?_
     clear hK K
     refine walkL_read rfl rfl (fun K hK=>?_)
     refine ⟨by rfl,?_⟩
     unfold isRd
     go_simp
     refine hK _ ?_
     clear hK K
     refine walkL_read rfl rfl (fun K hK=>?_)
     refine ⟨by rfl,?_⟩
     unfold isRd
     go_simp
     refine hK _ ?_
     clear hK K
     refine walkL_read rfl rfl (fun K hK=>?_)
     refine ⟨by rfl,?_⟩
     unfold isRd
     go_simp
     refine hK _ ?_
     clear hK K
     refine walkL_read rfl rfl (fun K hK=>?_)
     refine ⟨by rfl,?_⟩
     unfold isRd
     go_simp
     refine hK _ ?_
     clear hK K
     refine walkL_read rfl rfl (fun K hK=>?_)
     refine ⟨by rfl,?_⟩
     unfold isRd
     go_simp
     refine hK _ ?_
     clear hK K
     refine walkL_read rfl rfl (fun K hK=>?_)
     refine ⟨by rfl,?_⟩
     unfold isRd
     go_simp
     refine hK _ ?_
     clear hK K
     refine walkL_read rfl rfl (fun K hK=>?_)
     refine ⟨by rfl,?_⟩
     unfold isRd
     go_simp
     refine hK _ ?_
     clear hK K
     refine walkL_call rfl rfl (fun K hK=>?_)
     refine ⟨by rfl,?_⟩
     unfold upM
     go_simp
     refine HDEL.out.mono ?_
     rintro e w4 ⟨v4,rfl,hr4,hg4,hv4⟩
     have hg4':w3.grownBy w4 (V' n).ownBlock:=by rw [HV.out];exact ⟨hg4.os,hg4.tape,hg4.output,hg4.size,hg4.block⟩
     obtain ⟨q1,q2⟩:=HI3.out.openAt hn (w2:=w4) hg4'
     rw [HV.out] at q1
     have HG4:=hide hg4'
     obtain ⟨a4,n4,c4,hf4⟩:=row_form3 hr4
     have HST:=hide (HI3.out.set hn (w2:=w4) hg4' (v':=v4) hr4 (by rw [List.length_drop,HM.out];omega) (fun j hj=>.inl (by rw [HV.out,← hv4];exact hj)))
     have HV4:Hid (v4.ownBlock = (V' n).ownBlock):=by show _ = _;rw [HV.out];exact hv4
     refine ⟨_,rfl,HMK.out _ q1,hK _ _ ?_⟩
     clear hK K hr4 hg4 hg4' hv4
     rw [hf4] at HST HV4
     subst hf4
     refine walkL_read rfl rfl (fun K hK=>?_)
     refine ⟨by rfl,?_⟩
     unfold isRd
     go_simp
     refine hK _ ?_
     clear hK K
     refine walkL_last rfl (fun K hK=>?_)
     refine ⟨by rfl,?_⟩
     unfold upM
     go_simp
     refine hK _ _ ?_
     clear hK K
     go_wp2
     refine ⟨⟨k + 1,_,by omega,by go_num,?_,by rw [HN.out.1];exact HST.out.1,HS3.out.trans HST.out.2,?_⟩,by simp [intOf];omega⟩
     ·rw [HN.out.2,← HF3.out]
      refine row_turned (row_turned HR3.out (Turned.of_grown HG4.out) ?_) (Turned.setCell w4 p n _) ?_
      ·intro j hj e
       have h1:=(HR3.out.lt j hj).1
       have h2:=(hi.out.own_lt (HO.out j (.inr ⟨n,hn,e.symm⟩))).2
       omega
      ·intro j hj e
       have h1:=(HR3.out.lt j hj).1
       have h2:=(hi.out.own_lt (.inl e)).2
       omega
     ·rintro j (rfl | ⟨cc,hcc,hj⟩)
      ·exact .inl rfl
      ·by_cases hcn:cc = n
       ·subst hcn
        rw [Ik.upd_same,HV4.out] at hj
        exact HO.out j (.inr ⟨cc,hcc,hj⟩)
       ·rw [Ik.upd_other _ _ hcn] at hj
        exact HO.out j (.inr ⟨cc,hcc,hj⟩)
  ·have hki:¬ (k:Int) < 6:=by omega
   obtain rfl:k = 6:=by omega
   have HAF:=hide (after_any t 1 wr ht (by omega))
   have hfr:=HI.out.free 6
   have HNX:=hide (HI.out.next (Ik.who_lt t 1))
   obtain ⟨a0,n0,c0,hf0⟩:=row_form3 HD.out
   have HD2:=HD
   rw [hf0] at HD2
   go_wp2_with fail
   refine HAF.out.mono ?_
   rintro e w2 ⟨rfl,rfl⟩
   simp only []
   go_wp2
   go_ret
   refine ⟨_,V',rfl,?_,HNX.out.1,HS.out.trans HNX.out.2,HO.out⟩
   refine row_turned HD2.out (Turned.setCell _ p 6 _) ?_
   intro j hj e
   have h1:=(HD2.out.lt j hj).1
   have h2:=(hi.out.own_lt (.inl e)).2
   omega
end
end Go.Proofs.YtidahfhingdlmaaGreatDoor
