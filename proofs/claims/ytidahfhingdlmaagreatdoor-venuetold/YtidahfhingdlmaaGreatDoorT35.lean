/- Cancel of package batch, by its contract. -/
import Derived.Test.YtidahfhingdlmaaGreatDoorT17
import Derived.Test.YtidahfhingdlmaaGreatDoorT22
namespace Go.Proofs.YtidahfhingdlmaaGreatDoor
open Go.RowKit
set_option maxRecDepth 100000
theorem set5_row {W:World} {D:Nat} (hz:W.heap[D]? = some (.cells #[.int .i64 0,.int .i64 0,.int .i64 0,.int .i64 0,.int .i64 0] 137 (0,0))) (x0 x1 x2 x3 x4:Int) :
  (((((W.setCell ⟨D,0,none⟩ (.int .i64 x0)).setCell ⟨D,1,none⟩ (.int .i64 x1)).setCell ⟨D,2,none⟩ (.int .i64 x2)).setCell ⟨D,3,none⟩ (.int .i64 x3)).setCell ⟨D,4,none⟩ (.int .i64 x4)).heap[D]? = some (.cells #[.int .i64 x0,.int .i64 x1,.int .i64 x2,.int .i64 x3,.int .i64 x4] 137 (0,0)):=by
 have h0:(W.setCell ⟨D,0,none⟩ (.int .i64 x0)).heap[D]? = some (.cells #[.int .i64 x0,.int .i64 0,.int .i64 0,.int .i64 0,.int .i64 0] 137 (0,0)):=by
  rw [setCell_eq_setRow _ D 0 _ _ _ _ hz];exact setRow_heap _ D _ _ _ _ hz
 have h1:((W.setCell ⟨D,0,none⟩ (.int .i64 x0)).setCell ⟨D,1,none⟩ (.int .i64 x1)).heap[D]? = some (.cells #[.int .i64 x0,.int .i64 x1,.int .i64 0,.int .i64 0,.int .i64 0] 137 (0,0)):=by
  rw [setCell_eq_setRow _ D 1 _ _ _ _ h0];exact setRow_heap _ D _ _ _ _ h0
 have h2:(((W.setCell ⟨D,0,none⟩ (.int .i64 x0)).setCell ⟨D,1,none⟩ (.int .i64 x1)).setCell ⟨D,2,none⟩ (.int .i64 x2)).heap[D]? = some (.cells #[.int .i64 x0,.int .i64 x1,.int .i64 x2,.int .i64 0,.int .i64 0] 137 (0,0)):=by
  rw [setCell_eq_setRow _ D 2 _ _ _ _ h1];exact setRow_heap _ D _ _ _ _ h1
 have h3:((((W.setCell ⟨D,0,none⟩ (.int .i64 x0)).setCell ⟨D,1,none⟩ (.int .i64 x1)).setCell ⟨D,2,none⟩ (.int .i64 x2)).setCell ⟨D,3,none⟩ (.int .i64 x3)).heap[D]? = some (.cells #[.int .i64 x0,.int .i64 x1,.int .i64 x2,.int .i64 x3,.int .i64 0] 137 (0,0)):=by
  rw [setCell_eq_setRow _ D 3 _ _ _ _ h2];exact setRow_heap _ D _ _ _ _ h2
 rw [setCell_eq_setRow _ D 4 _ _ _ _ h3];exact setRow_heap _ D _ _ _ _ h3
theorem below5 {n:Nat} {w W:World} {D:Nat} (h:Below n w W) (hD:n≤D) (x0 x1 x2 x3 x4:Value):Below n w (((((W.setCell ⟨D,0,none⟩ x0).setCell ⟨D,1,none⟩ x1).setCell ⟨D,2,none⟩ x2).setCell ⟨D,3,none⟩ x3).setCell ⟨D,4,none⟩ x4) :=
 ((((h.setCell (p:=⟨D,0,none⟩) hD _).setCell (p:=⟨D,1,none⟩) hD _).setCell (p:=⟨D,2,none⟩) hD _).setCell (p:=⟨D,3,none⟩) hD _).setCell (p:=⟨D,4,none⟩) hD _
theorem save5 (W:World) (D:Nat) (x0 x1 x2 x3 x4:Value):Save W (((((W.setCell ⟨D,0,none⟩ x0).setCell ⟨D,1,none⟩ x1).setCell ⟨D,2,none⟩ x2).setCell ⟨D,3,none⟩ x3).setCell ⟨D,4,none⟩ x4) D:=((((Save.setCell _ _ _ _).put _ _).put _ _).put _ _).put _ _
section
variable {w W:World} {F P:Nat} {I b:Nat→Nat} {v:Nat→Value} {L:Nat→List Cv.Lot} {pf n:Nat→Int} {wd h:Int} {ev:Nat→Value}
set_option maxHeartbeats 1000000 in
theorem cancel_kind (a:Ask) (hF:Hid (PFl w W F P I b v L pf n wd h)) (he:Hid (AEr w ev)) (hk:Hid (Fl.kindN a 99≠0)) :
  Calls Tryz.prog 159 #[.pointer (some ⟨F,0,none⟩),askV a] W fun e W'=>e = .returned (.tuple #[lotV (Fl.canX L a),errE ev (Fl.canC L pf a)])∧∃ v',PFl w W' F P I b v' (Fl.canL L a) (Fl.canF L pf a) n wd h∧FStep W W' P I b v v':=by
 have hpos:=Fl.kindN_pos hk.out
 have hC:Fl.canC L pf a = Fl.kindE a 99:=by unfold Fl.canC Fl.kindE;rw [if_neg hk.out]
 have hne:Fl.canC L pf a≠0:=by rw [hC];unfold Fl.kindE;omega
 have hX:Fl.canX L a = Cv.z:=by unfold Fl.canX;rw [if_neg (fun h=>hk.out h.1)]
 have hL:Fl.canL L a = L:=by unfold Fl.canL;rw [if_neg (fun h=>hk.out h.1)]
 have hP:Fl.canF L pf a = pf:=by unfold Fl.canF;rw [if_neg (fun h=>hk.out h.1)]
 rw [hX,hL,hP,hC]
 rw [hC] at hne
 have HK:=hide (fun W' (hb:Below W.heap.size W W')=>fcheck_any a 99 W' ((hF.out.er he.out).below hb) (by decide))
 generalize Fl.kindE a 99 = kn at *
 obtain ⟨d,rfl⟩:∃ d,kn = d + 1:=⟨kn - 1,by omega⟩
 rw [show errE ev (d + 1) = .iface 362 (ev (d + 1)) from rfl] at HK ⊢
 clear hC hne hX hL hP
 obtain ⟨ak,ac,asq,ait,asd,apr,aq,aid⟩:=a
 unfold askV askA at HK ⊢
 simp only [] at HK ⊢
 have hb0:Below W.heap.size W ((W.alloc (.cells #[.int .u8 ak,.int .i64 ac,.int .i64 asq,.int .i64 ait,.int .i64 asd,.int .i64 apr,.int .i64 aq,.int .i64 aid] 45)).alloc (.cells #[.int .i64 0,.int .i64 0,.int .i64 0,.int .i64 0,.int .i64 0] 137)):=((Below.refl _ _).alloc (Nat.le_refl _) _).alloc (by simp) _
 have hz0:((W.alloc (.cells #[.int .u8 ak,.int .i64 ac,.int .i64 asq,.int .i64 ait,.int .i64 asd,.int .i64 apr,.int .i64 aq,.int .i64 aid] 45)).alloc (.cells #[.int .i64 0,.int .i64 0,.int .i64 0,.int .i64 0,.int .i64 0] 137)).heap[W.heap.size + 1]? = some (.cells #[.int .i64 0,.int .i64 0,.int .i64 0,.int .i64 0,.int .i64 0] 137 (0,0)):=by have:=heap_alloc_new (W.alloc (.cells #[.int .u8 ak,.int .i64 ac,.int .i64 asq,.int .i64 ait,.int .i64 asd,.int .i64 apr,.int .i64 aq,.int .i64 aid] 45)) (.cells #[.int .i64 0,.int .i64 0,.int .i64 0,.int .i64 0,.int .i64 0] 137);simpa using this
 have HB0:=hide hb0;have HZ0:=hide hz0
 clear hb0 hz0
 go_enter Tryz.func159,Tryz.ntmps159
 go_wp2_with fail
 refine (HK.out _ HB0.out).mono ?_
 rintro e w2 ⟨rfl,hb2⟩
 have HB2:=hide (HB0.out.trans (hb2.mono HB0.out.size))
 have HZ2:Hid (w2.heap[W.heap.size + 1]? = some (.cells #[.int .i64 0,.int .i64 0,.int .i64 0,.int .i64 0,.int .i64 0] 137 (0,0))):=by show _ = _;rw [hb2.block _ (lt_of_block HZ0.out)];exact HZ0.out
 clear hb2 HK HB0 HZ0
 generalize hR:W.heap.size + 1 = R at *
 have r0:w2.cell? ⟨R,0,none⟩ = some (.int .i64 0):=by rw [cell_of_row w2 _ 0 _ _ _ HZ2.out];rfl
 have r1:w2.cell? ⟨R,1,none⟩ = some (.int .i64 0):=by rw [cell_of_row w2 _ 1 _ _ _ HZ2.out];rfl
 have r2:w2.cell? ⟨R,2,none⟩ = some (.int .i64 0):=by rw [cell_of_row w2 _ 2 _ _ _ HZ2.out];rfl
 have r3:w2.cell? ⟨R,3,none⟩ = some (.int .i64 0):=by rw [cell_of_row w2 _ 3 _ _ _ HZ2.out];rfl
 have r4:w2.cell? ⟨R,4,none⟩ = some (.int .i64 0):=by rw [cell_of_row w2 _ 4 _ _ _ HZ2.out];rfl
 have q:∀ j,w2.frozen? ⟨R,j,none⟩ = false:=fun j=>by simp [World.frozen?,HZ2.out]
 have q0:=q 0;have q1:=q 1;have q2:=q 2;have q3:=q 3;have q4:=q 4
 clear q
 have HRl:Hid (W.heap.size≤R):=by show _≤_;omega
 clear hR
 simp only []
 go_wp2
 have hz9:=set5_row HZ2.out 0 0 0 0 0
 have hb9:=below5 HB2.out HRl.out (.int .i64 0) (.int .i64 0) (.int .i64 0) (.int .i64 0) (.int .i64 0)
 generalize (((((w2.setCell ⟨R,0,none⟩ (.int .i64 0)).setCell ⟨R,1,none⟩ (.int .i64 0)).setCell ⟨R,2,none⟩ (.int .i64 0)).setCell ⟨R,3,none⟩ (.int .i64 0)).setCell ⟨R,4,none⟩ (.int .i64 0)) = Wf at *
 have z0:Wf.cell? ⟨R,0,none⟩ = some (.int .i64 0):=by rw [cell_of_row Wf _ 0 _ _ _ hz9];rfl
 have z1:Wf.cell? ⟨R,1,none⟩ = some (.int .i64 0):=by rw [cell_of_row Wf _ 1 _ _ _ hz9];rfl
 have z2:Wf.cell? ⟨R,2,none⟩ = some (.int .i64 0):=by rw [cell_of_row Wf _ 2 _ _ _ hz9];rfl
 have z3:Wf.cell? ⟨R,3,none⟩ = some (.int .i64 0):=by rw [cell_of_row Wf _ 3 _ _ _ hz9];rfl
 have z4:Wf.cell? ⟨R,4,none⟩ = some (.int .i64 0):=by rw [cell_of_row Wf _ 4 _ _ _ hz9];rfl
 exact bodyPost_ret (v:=.tuple #[.agg #[.int .i64 0,.int .i64 0,.int .i64 0,.int .i64 0,.int .i64 0],.iface 362 (ev (d + 1))]) (by simp [results,Tryz.results159,go_sem,z0,z1,z2,z3,z4]) rfl ⟨rfl,v,hF.out.later hb9,FStep.of_below hb9 P I b v⟩
set_option maxHeartbeats 1000000 in
theorem cancel_none (a:Ask) (hF:Hid (PFl w W F P I b v L pf n wd h)) (he:Hid (AEr w ev)) (hok:Hid (Fs.FOk L pf)) (hk:Hid (Fl.kindN a 99 = 0)) (hm:Hid (Fl.mine L a = false)) :
  Calls Tryz.prog 159 #[.pointer (some ⟨F,0,none⟩),askV a] W fun e W'=>e = .returned (.tuple #[lotV (Fl.canX L a),errE ev (Fl.canC L pf a)])∧∃ v',PFl w W' F P I b v' (Fl.canL L a) (Fl.canF L pf a) n wd h∧FStep W W' P I b v v':=by
 have hit:=Fl.cancel_item hk.out
 obtain ⟨i,hi⟩:∃ i:Nat,a.it = i:=⟨a.it.toNat,by omega⟩
 have hi3:i < 3:=by omega
 have hti:a.it.toNat = i:=by omega
 have HK:=hide (fun W' (hb:Below W.heap.size W W')=>fcheck_any a 99 W' ((hF.out.er he.out).below hb) (by decide))
 rw [Fl.kindE_zero hk.out,show errE ev 0 = .nilIface from rfl] at HK
 have hCx:Fl.canC L pf a = 5:=by unfold Fl.canC;rw [if_pos hk.out,if_neg (by rw [hm.out];simp)]
 have hX:Fl.canX L a = Cv.z:=by unfold Fl.canX;rw [if_neg (fun h=>by rw [hm.out] at h;simp at h)]
 have hL:Fl.canL L a = L:=by unfold Fl.canL;rw [if_neg (fun h=>by rw [hm.out] at h;simp at h)]
 have hP:Fl.canF L pf a = pf:=by unfold Fl.canF;rw [if_neg (fun h=>by rw [hm.out] at h;simp at h)]
 rw [hX,hL,hP,hCx,show errE ev 5 = .iface 362 (ev 5) from rfl]
 clear hX hL hP hCx
 have hmm:=hm.out
 unfold Fl.mine at hmm
 rw [hti] at hmm
 obtain ⟨ak,ac,asq,ait,asd,apr,aq,aid⟩:=a
 simp only [] at hi hti
 subst hi
 unfold askV askA at HK ⊢
 simp only [] at HK ⊢
 simp only [] at hmm
 obtain ⟨is,his⟩:∃ is,Cv.has (L i) aid = is:=⟨_,rfl⟩
 obtain ⟨⟨x0,x1,x2,x3,x4⟩,hX⟩:∃ X,Bk.getX (L i) aid = X:=⟨_,rfl⟩
 have HIS:Hid (Cv.has (L i) aid = is∧Bk.getX (L i) aid = ⟨x0,x1,x2,x3,x4⟩):=⟨his,hX⟩
 have hno:is = false∨is = true∧x1≠ac:=by
  cases is with
  | false=>exact .inl rfl
  | true =>
   refine .inr ⟨rfl,fun e=>?_⟩
   rw [his,Bool.true_and] at hmm
   have hn:Cv.nth (L i) (Bk.pos (L i) aid) = ⟨x0,x1,x2,x3,x4⟩:=by rw [← hX];unfold Bk.getX;rw [if_pos his]
   rw [hn] at hmm
   simp [e] at hmm
 clear hmm his hX
 clear hit hk hti
 obtain ⟨R,hR⟩:∃ R,W.heap.size + 1 = R:=⟨_,rfl⟩
 obtain ⟨A,hA⟩:∃ A,W.heap.size = A:=⟨_,rfl⟩
 obtain ⟨w1,hw1⟩:∃ w1,(W.alloc (.cells #[.int .u8 ak,.int .i64 ac,.int .i64 asq,.int .i64 i,.int .i64 asd,.int .i64 apr,.int .i64 aq,.int .i64 aid] 45)).alloc (.cells #[.int .i64 0,.int .i64 0,.int .i64 0,.int .i64 0,.int .i64 0] 137) = w1:=⟨_,rfl⟩
 have hb1:Below W.heap.size W w1:=by rw [← hw1];exact ((Below.refl _ _).alloc (Nat.le_refl _) _).alloc (by simp) _
 have HR1:Hid (w1.heap[R]? = some (.cells #[.int .i64 0,.int .i64 0,.int .i64 0,.int .i64 0,.int .i64 0] 137 (0,0))):=by
  show _ = _
  rw [← hw1,← hR]
  have:=heap_alloc_new (W.alloc (.cells #[.int .u8 ak,.int .i64 ac,.int .i64 asq,.int .i64 i,.int .i64 asd,.int .i64 apr,.int .i64 aq,.int .i64 aid] 45)) (.cells #[.int .i64 0,.int .i64 0,.int .i64 0,.int .i64 0,.int .i64 0] 137)
  simpa using this
 have HA1:Hid (w1.heap[A]? = some (.cells #[.int .u8 ak,.int .i64 ac,.int .i64 asq,.int .i64 i,.int .i64 asd,.int .i64 apr,.int .i64 aq,.int .i64 aid] 45 (0,0))):=by
  show _ = _
  rw [← hw1,← hA]
  exact (Below.heap_alloc _ _ _ (by simp)).trans (heap_alloc_new W _)
 have HB1:=hide hb1
 have HRW:Hid (W.heap.size≤R):=by show _≤_;omega
 have HW1:=hide hw1;have HRe:=hide hR;have HAe:=hide hA
 clear hb1 hw1 hR hA
 go_enter Tryz.func159,Tryz.ntmps159
 go_wp2_with fail
 rw [HW1.out,HRe.out,HAe.out]
 refine (HK.out _ HB1.out).mono ?_
 rintro e w2 ⟨rfl,hb2⟩
 have hbW2:=HB1.out.trans (hb2.mono HB1.out.size)
 have HR2:Hid (w2.heap[R]? = some (.cells #[.int .i64 0,.int .i64 0,.int .i64 0,.int .i64 0,.int .i64 0] 137 (0,0))):=by show _ = _;rw [hb2.block _ (lt_of_block HR1.out)];exact HR1.out
 have HA2:Hid (w2.heap[A]? = some (.cells #[.int .u8 ak,.int .i64 ac,.int .i64 asq,.int .i64 i,.int .i64 asd,.int .i64 apr,.int .i64 aq,.int .i64 aid] 45 (0,0))):=by show _ = _;rw [hb2.block _ (lt_of_block HA1.out)];exact HA1.out
 have HF2:=hide (hF.out.later hbW2)
 have HS2:=hide (FStep.of_below hbW2 P I b v)
 clear hb2 hbW2 HB1 HR1 HA1 HW1 HRe HAe HK
 have hii:(0:Int)≤(i:Int):=by omega
 have hi3':(i:Int) < 3:=by omega
 simp only []
 go_wp2_with fail
 obtain ⟨XT,val,hcl,hmk⟩:=rows3_all F (I i) A (.cells (pfloorA I P wd h) 128 (0,0)) (.cells (itemA (b i) (n (i * 2)) (n (i * 2 + 1))) 134 (0,0)) (.cells #[.int .u8 ak,.int .i64 ac,.int .i64 asq,.int .i64 i,.int .i64 asd,.int .i64 apr,.int .i64 aq,.int .i64 aid] 45 (0,0))
 obtain ⟨y0,hy0⟩:=hmk w2.drew ⟨HF2.out.blk,HF2.out.it i hi3,HA2.out⟩
 have hnx:Nonempty XT:=⟨y0⟩
 have ei:∀ x,(val x).cell? ⟨F,2 + i,none⟩ = some (.pointer (some ⟨I i,0,none⟩)):=fun x=>by
  rw [cell_of_row _ _ _ _ _ _ (hcl x).1]
  have:i = 0∨i = 1∨i = 2:=by omega
  rcases this with rfl | rfl | rfl <;> rfl
 have eb:∀ x,(val x).cell? ⟨I i,0,none⟩ = some (.pointer (some ⟨b i,0,none⟩)):=fun x=>by rw [cell_of_row _ _ _ _ _ _ (hcl x).2.1];rfl
 have e3:∀ x,(val x).cell? ⟨A,3,none⟩ = some (.int .i64 i):=fun x=>by rw [cell_of_row _ _ _ _ _ _ (hcl x).2.2];rfl
 have e7:∀ x,(val x).cell? ⟨A,7,none⟩ = some (.int .i64 aid):=fun x=>by rw [cell_of_row _ _ _ _ _ _ (hcl x).2.2];rfl
 have hbd:Below w2.heap.size w2 w2.drew:=⟨rfl,rfl,rfl,Nat.le_refl _,fun _ _=>rfl⟩
 have HF4:=hide (HF2.out.later hbd)
 have HS4:=hide (HS2.out.below hbd)
 have HR4:Hid (w2.drew.heap[R]? = some (.cells #[.int .i64 0,.int .i64 0,.int .i64 0,.int .i64 0,.int .i64 0] 137 (0,0))):=HR2.out
 have HA4:Hid (w2.drew.heap[A]? = some (.cells #[.int .u8 ak,.int .i64 ac,.int .i64 asq,.int .i64 i,.int .i64 asd,.int .i64 apr,.int .i64 aq,.int .i64 aid] 45 (0,0))):=HA2.out
 obtain ⟨w4,hw4⟩:∃ w4,w2.drew = w4:=⟨_,rfl⟩
 rw [hw4] at HF4 HS4 HR4 HA4
 have HMK:Hid (∀ W',Below w4.heap.size w4 W'→∃ x,val x = W'):=fun W' hb=>hmk W' ⟨(HF4.out.later hb).blk,(HF4.out.later hb).it i hi3,by rw [hb.block _ (lt_of_block HA4.out)];exact HA4.out⟩
 have HGET:Hid (∀ W',Below w4.heap.size w4 W'→Calls Tryz.prog 134 #[.pointer (some ⟨b i,0,none⟩),.int .i64 aid] W' fun e w'=>e = .returned (.tuple #[.agg #[.int .i64 x0,.int .i64 x1,.int .i64 x2,.int .i64 x3,.int .i64 x4],.bool is])∧Below W'.heap.size W' w'):=fun W' hb=>by
  have:=get_any (b i) w.heap.size (v i) aid (L i) W' ((HF4.out.later hb).bk i hi3) (hok.out.bk i hi3).len
  rw [HIS.out.1,HIS.out.2] at this
  exact this
 clear hmk hcl HF2 HS2 HR2 HA2 hbd
 refine region_join1 (val:=val) (fun D w6=>w6.heap[D]? = some (.cells #[.int .i64 x0,.int .i64 x1,.int .i64 x2,.int .i64 x3,.int .i64 x4] 137 (0,0))∧w4.heap.size≤D∧Below w4.heap.size w4 w6) (.read 0 (.read 1 (.read 2 (.read 3 (.read 4 (.read 5 (.read 6 (.read 7 (.read 8 (.read 9 (.read 10 (.read 11 (.two 12 (.read 13 (.read 14 (.read 15 (.one 16 (.one 17 (.read 18 .done)))))) 16 (.one 12 (.read 13 (.read 14 (.read 15 (.one 17 (.read 18 .done))))))))))))))))))) (by kernel_rfl) (by kernel_rfl) y0 hy0 ?_
 apply Exists.intro
 refine ⟨?_,?_⟩
 case' refine_1 =>
  rw [hy0,hw4]
  iterate 12 (refine walkP_read rfl (fun K hK=>?_);refine ⟨by rfl,?_⟩;unfold isRd;go_simp;refine hK _ ?_;clear hK K)
  have HBs:Hid (Below w4.heap.size w4 w4):=Below.refl _ _
  refine ⟨?_,?_⟩
  case refine_1 =>
   refine spec_step rfl (fun K hK=>?_)
   refine ⟨by rfl,?_⟩
   unfold upM
   go_simp
   refine (HGET.out _ HBs.out).mono ?_
   rintro e wc ⟨rfl,hbc⟩
   have HBc:=hide (HBs.out.trans (hbc.mono HBs.out.size))
   refine ⟨_,rfl,HMK.out _ HBc.out,hK _ _ ?_⟩
   clear hK K hbc
   iterate 3 (refine walkP_read rfl (fun K hK=>?_);refine ⟨by rfl,?_⟩;unfold isRd;go_simp;refine hK _ ?_;clear hK K)
   refine spec_step rfl (fun K hK=>?_)
   refine ⟨by rfl,?_⟩
   unfold upM
   go_simp
   obtain ⟨D,hD⟩:∃ D,wc.heap.size = D:=⟨_,rfl⟩
   obtain ⟨wz,hwz⟩:∃ wz,wc.alloc (.cells #[.int .i64 0,.int .i64 0,.int .i64 0,.int .i64 0,.int .i64 0] 137) = wz:=⟨_,rfl⟩
   rw [hD,hwz]
   have HBz:Hid (Below w4.heap.size w4 wz):=by show Below _ _ _;rw [← hwz];exact HBc.out.alloc HBc.out.size _
   have HZ:Hid (wz.heap[D]? = some (.cells #[.int .i64 0,.int .i64 0,.int .i64 0,.int .i64 0,.int .i64 0] 137 (0,0))):=by show _ = _;rw [← hwz,← hD];exact heap_alloc_new _ _
   have HLD:Hid (w4.heap.size≤D):=by have:=HBc.out.size;show _≤_;omega
   refine ⟨HMK.out _ HBz.out,hK _ _ ?_⟩
   clear hK K hwz hD
   have c0:wz.cell? ⟨D,0,none⟩ = some (.int .i64 0):=by rw [cell_of_row wz _ 0 _ _ _ HZ.out];rfl
   have f0:wz.frozen? ⟨D,0,none⟩ = false:=by simp [World.frozen?,HZ.out]
   have c1:wz.cell? ⟨D,1,none⟩ = some (.int .i64 0):=by rw [cell_of_row wz _ 1 _ _ _ HZ.out];rfl
   have f1:wz.frozen? ⟨D,1,none⟩ = false:=by simp [World.frozen?,HZ.out]
   have c2:wz.cell? ⟨D,2,none⟩ = some (.int .i64 0):=by rw [cell_of_row wz _ 2 _ _ _ HZ.out];rfl
   have f2:wz.frozen? ⟨D,2,none⟩ = false:=by simp [World.frozen?,HZ.out]
   have c3:wz.cell? ⟨D,3,none⟩ = some (.int .i64 0):=by rw [cell_of_row wz _ 3 _ _ _ HZ.out];rfl
   have f3:wz.frozen? ⟨D,3,none⟩ = false:=by simp [World.frozen?,HZ.out]
   have c4:wz.cell? ⟨D,4,none⟩ = some (.int .i64 0):=by rw [cell_of_row wz _ 4 _ _ _ HZ.out];rfl
   have f4:wz.frozen? ⟨D,4,none⟩ = false:=by simp [World.frozen?,HZ.out]
   have HX:=hide (set5_row HZ.out x0 x1 x2 x3 x4)
   have HB6:=hide (below5 HBz.out HLD.out (.int .i64 x0) (.int .i64 x1) (.int .i64 x2) (.int .i64 x3) (.int .i64 x4))
   refine spec_step rfl (fun K hK=>?_)
   refine ⟨by rfl,?_⟩
   unfold upM
   go_simp
   refine ⟨HMK.out _ HB6.out,hK _ _ ?_⟩
   clear hK K HZ c0 c1 c2 c3 c4 f0 f1 f2 f3 f4
   generalize (((((wz.setCell ⟨D,0,none⟩ (.int .i64 x0)).setCell ⟨D,1,none⟩ (.int .i64 x1)).setCell ⟨D,2,none⟩ (.int .i64 x2)).setCell ⟨D,3,none⟩ (.int .i64 x3)).setCell ⟨D,4,none⟩ (.int .i64 x4)) = w6 at *
   refine walkP_read rfl (fun K hK=>?_);refine ⟨by rfl,?_⟩;unfold isRd;go_simp;refine hK _ ?_;clear hK K
   refine walkP_done ?_
   exact ⟨D,rfl,HX.out,HLD.out,HB6.out⟩
  case refine_2 =>
   refine spec_step rfl (fun K hK=>?_)
   refine ⟨by rfl,?_⟩
   unfold upM
   go_simp
   obtain ⟨D,hD⟩:∃ D,w4.heap.size = D:=⟨_,rfl⟩
   obtain ⟨wy,hwz⟩:∃ wz,w4.alloc (.cells #[.int .i64 0,.int .i64 0,.int .i64 0,.int .i64 0,.int .i64 0] 137) = wz:=⟨_,rfl⟩
   rw [hD,hwz]
   have HBy:Hid (Below w4.heap.size w4 wy):=by show Below _ _ _;rw [← hwz];exact HBs.out.alloc HBs.out.size _
   have HZy:Hid (wy.heap[D]? = some (.cells #[.int .i64 0,.int .i64 0,.int .i64 0,.int .i64 0,.int .i64 0] 137 (0,0))):=by show _ = _;rw [← hwz,← hD];exact heap_alloc_new _ _
   have HLD:Hid (w4.heap.size≤D):=by have:=HBs.out.size;show _≤_;omega
   refine ⟨HMK.out _ HBy.out,hK _ _ ?_⟩
   clear hK K hwz hD
   refine spec_step rfl (fun K hK=>?_)
   refine ⟨by rfl,?_⟩
   unfold upM
   go_simp
   refine (HGET.out _ HBy.out).mono ?_
   rintro e wz ⟨rfl,hbc⟩
   have HBz:=hide (HBy.out.trans (hbc.mono HBy.out.size))
   have HZ:Hid (wz.heap[D]? = some (.cells #[.int .i64 0,.int .i64 0,.int .i64 0,.int .i64 0,.int .i64 0] 137 (0,0))):=by show _ = _;rw [hbc.block _ (lt_of_block HZy.out)];exact HZy.out
   refine ⟨_,rfl,HMK.out _ HBz.out,hK _ _ ?_⟩
   clear hK K hbc
   iterate 3 (refine walkP_read rfl (fun K hK=>?_);refine ⟨by rfl,?_⟩;unfold isRd;go_simp;refine hK _ ?_;clear hK K)
   have c0:wz.cell? ⟨D,0,none⟩ = some (.int .i64 0):=by rw [cell_of_row wz _ 0 _ _ _ HZ.out];rfl
   have f0:wz.frozen? ⟨D,0,none⟩ = false:=by simp [World.frozen?,HZ.out]
   have c1:wz.cell? ⟨D,1,none⟩ = some (.int .i64 0):=by rw [cell_of_row wz _ 1 _ _ _ HZ.out];rfl
   have f1:wz.frozen? ⟨D,1,none⟩ = false:=by simp [World.frozen?,HZ.out]
   have c2:wz.cell? ⟨D,2,none⟩ = some (.int .i64 0):=by rw [cell_of_row wz _ 2 _ _ _ HZ.out];rfl
   have f2:wz.frozen? ⟨D,2,none⟩ = false:=by simp [World.frozen?,HZ.out]
   have c3:wz.cell? ⟨D,3,none⟩ = some (.int .i64 0):=by rw [cell_of_row wz _ 3 _ _ _ HZ.out];rfl
   have f3:wz.frozen? ⟨D,3,none⟩ = false:=by simp [World.frozen?,HZ.out]
   have c4:wz.cell? ⟨D,4,none⟩ = some (.int .i64 0):=by rw [cell_of_row wz _ 4 _ _ _ HZ.out];rfl
   have f4:wz.frozen? ⟨D,4,none⟩ = false:=by simp [World.frozen?,HZ.out]
   have HX:=hide (set5_row HZ.out x0 x1 x2 x3 x4)
   have HB6:=hide (below5 HBz.out HLD.out (.int .i64 x0) (.int .i64 x1) (.int .i64 x2) (.int .i64 x3) (.int .i64 x4))
   refine spec_step rfl (fun K hK=>?_)
   refine ⟨by rfl,?_⟩
   unfold upM
   go_simp
   refine ⟨HMK.out _ HB6.out,hK _ _ ?_⟩
   clear hK K HZ c0 c1 c2 c3 c4 f0 f1 f2 f3 f4
   generalize (((((wz.setCell ⟨D,0,none⟩ (.int .i64 x0)).setCell ⟨D,1,none⟩ (.int .i64 x1)).setCell ⟨D,2,none⟩ (.int .i64 x2)).setCell ⟨D,3,none⟩ (.int .i64 x3)).setCell ⟨D,4,none⟩ (.int .i64 x4)) = w6 at *
   refine walkP_read rfl (fun K hK=>?_);refine ⟨by rfl,?_⟩;unfold isRd;go_simp;refine hK _ ?_;clear hK K
   refine walkP_done ?_
   exact ⟨D,rfl,HX.out,HLD.out,HB6.out⟩
 intro D w6 ⟨hX6,hD6,hb6⟩
 have HX:=hide hX6
 have HF6:=hide (HF4.out.later hb6)
 have HS6:=hide (HS4.out.below hb6)
 have HR6:Hid (w6.heap[R]? = some (.cells #[.int .i64 0,.int .i64 0,.int .i64 0,.int .i64 0,.int .i64 0] 137 (0,0))):=by show _ = _;rw [hb6.block _ (lt_of_block HR4.out)];exact HR4.out
 have HA6:Hid (w6.heap[A]? = some (.cells #[.int .u8 ak,.int .i64 ac,.int .i64 asq,.int .i64 i,.int .i64 asd,.int .i64 apr,.int .i64 aq,.int .i64 aid] 45 (0,0))):=by show _ = _;rw [hb6.block _ (lt_of_block HA4.out)];exact HA4.out
 have HDR:Hid (D≠R):=fun e=>by have:=lt_of_block HR4.out;omega
 have HFD:=hide (HF4.out.fresh hD6)
 have HFRR:=hide (hF.out.fresh HRW.out)
 clear hX6 hD6 hb6 HF4 HS4 HR4 HA4 HGET hw4
 clear hy0 ei eb e3 e7 HMK
 clear y0 hnx
 clear val
 clear XT
 have d0:w6.cell? ⟨D,0,none⟩ = some (.int .i64 x0):=by rw [cell_of_row w6 _ 0 _ _ _ HX.out];rfl
 have d1:w6.cell? ⟨D,1,none⟩ = some (.int .i64 x1):=by rw [cell_of_row w6 _ 1 _ _ _ HX.out];rfl
 have d2:w6.cell? ⟨D,2,none⟩ = some (.int .i64 x2):=by rw [cell_of_row w6 _ 2 _ _ _ HX.out];rfl
 have d3:w6.cell? ⟨D,3,none⟩ = some (.int .i64 x3):=by rw [cell_of_row w6 _ 3 _ _ _ HX.out];rfl
 have d4:w6.cell? ⟨D,4,none⟩ = some (.int .i64 x4):=by rw [cell_of_row w6 _ 4 _ _ _ HX.out];rfl
 have a1:w6.cell? ⟨A,1,none⟩ = some (.int .i64 ac):=by rw [cell_of_row w6 _ 1 _ _ _ HA6.out];rfl
 have a3:w6.cell? ⟨A,3,none⟩ = some (.int .i64 i):=by rw [cell_of_row w6 _ 3 _ _ _ HA6.out];rfl
 rcases hno with e | ⟨e,hne⟩
 ·subst e
  have g5:=(HF6.out.er he.out).c5
  have h1R:¬ (7 = R):=fun e=>by have:=World.block_lt_of_cell? _ _ (hF.out.er he.out).c5;have:=HRW.out;simp at *;omega
  have hR1:¬ (R = 7):=fun e=>h1R e.symm
  have r0:w6.cell? ⟨R,0,none⟩ = some (.int .i64 0):=by rw [cell_of_row w6 _ 0 _ _ _ HR6.out];rfl
  have q0:w6.frozen? ⟨R,0,none⟩ = false:=by simp [World.frozen?,HR6.out]
  have r1:w6.cell? ⟨R,1,none⟩ = some (.int .i64 0):=by rw [cell_of_row w6 _ 1 _ _ _ HR6.out];rfl
  have q1:w6.frozen? ⟨R,1,none⟩ = false:=by simp [World.frozen?,HR6.out]
  have r2:w6.cell? ⟨R,2,none⟩ = some (.int .i64 0):=by rw [cell_of_row w6 _ 2 _ _ _ HR6.out];rfl
  have q2:w6.frozen? ⟨R,2,none⟩ = false:=by simp [World.frozen?,HR6.out]
  have r3:w6.cell? ⟨R,3,none⟩ = some (.int .i64 0):=by rw [cell_of_row w6 _ 3 _ _ _ HR6.out];rfl
  have q3:w6.frozen? ⟨R,3,none⟩ = false:=by simp [World.frozen?,HR6.out]
  have r4:w6.cell? ⟨R,4,none⟩ = some (.int .i64 0):=by rw [cell_of_row w6 _ 4 _ _ _ HR6.out];rfl
  have q4:w6.frozen? ⟨R,4,none⟩ = false:=by simp [World.frozen?,HR6.out]
  go_wp2
  go_region
  go_wp2
  have hz9:=set5_row HR6.out 0 0 0 0 0
  have hsv:=save5 w6 R (.int .i64 0) (.int .i64 0) (.int .i64 0) (.int .i64 0) (.int .i64 0)
  have hf9:=(HF6.out.aside HFRR.out.1 HFRR.out.2.1 HFRR.out.2.2 (Nat.le_trans hF.out.bl.size HRW.out) hsv).later (blw_drew 1)
  have hs9:=(HS6.out.newer hsv HRW.out).below (blw_drew 1)
  have hz10:((((((w6.setCell ⟨R,0,none⟩ (.int .i64 0)).setCell ⟨R,1,none⟩ (.int .i64 0)).setCell ⟨R,2,none⟩ (.int .i64 0)).setCell ⟨R,3,none⟩ (.int .i64 0)).setCell ⟨R,4,none⟩ (.int .i64 0)).drewN 1).heap[R]? = some (.cells #[.int .i64 0,.int .i64 0,.int .i64 0,.int .i64 0,.int .i64 0] 137 (0,0)):=hz9
  clear hsv hz9
  have hz9:=hz10
  clear hz10
  rw [show (((((w6.setCell ⟨R,0,none⟩ (.int .i64 0)).setCell ⟨R,1,none⟩ (.int .i64 0)).setCell ⟨R,2,none⟩ (.int .i64 0)).setCell ⟨R,3,none⟩ (.int .i64 0)).setCell ⟨R,4,none⟩ (.int .i64 0)).drewN 1 = (((((w6.setCell ⟨R,0,none⟩ (.int .i64 0)).setCell ⟨R,1,none⟩ (.int .i64 0)).setCell ⟨R,2,none⟩ (.int .i64 0)).setCell ⟨R,3,none⟩ (.int .i64 0)).setCell ⟨R,4,none⟩ (.int .i64 0)).drew from rfl] at hf9 hs9 hz9
  generalize (((((w6.setCell ⟨R,0,none⟩ (.int .i64 0)).setCell ⟨R,1,none⟩ (.int .i64 0)).setCell ⟨R,2,none⟩ (.int .i64 0)).setCell ⟨R,3,none⟩ (.int .i64 0)).setCell ⟨R,4,none⟩ (.int .i64 0)).drew = Wf at *
  have z0:Wf.cell? ⟨R,0,none⟩ = some (.int .i64 0):=by rw [cell_of_row Wf _ 0 _ _ _ hz9];rfl
  have z1:Wf.cell? ⟨R,1,none⟩ = some (.int .i64 0):=by rw [cell_of_row Wf _ 1 _ _ _ hz9];rfl
  have z2:Wf.cell? ⟨R,2,none⟩ = some (.int .i64 0):=by rw [cell_of_row Wf _ 2 _ _ _ hz9];rfl
  have z3:Wf.cell? ⟨R,3,none⟩ = some (.int .i64 0):=by rw [cell_of_row Wf _ 3 _ _ _ hz9];rfl
  have z4:Wf.cell? ⟨R,4,none⟩ = some (.int .i64 0):=by rw [cell_of_row Wf _ 4 _ _ _ hz9];rfl
  exact bodyPost_ret (v:=.tuple #[.agg #[.int .i64 0,.int .i64 0,.int .i64 0,.int .i64 0,.int .i64 0],.iface 362 (ev 5)]) (by simp [results,Tryz.results159,go_sem,z0,z1,z2,z3,z4]) rfl ⟨rfl,v,hf9,hs9⟩
 ·subst e
  have hne':(x1 != ac) = true:=by simpa using hne
  have g5:=(HF6.out.er he.out).c5
  have h1R:¬ (7 = R):=fun e=>by have:=World.block_lt_of_cell? _ _ (hF.out.er he.out).c5;have:=HRW.out;simp at *;omega
  have hR1:¬ (R = 7):=fun e=>h1R e.symm
  have r0:w6.cell? ⟨R,0,none⟩ = some (.int .i64 0):=by rw [cell_of_row w6 _ 0 _ _ _ HR6.out];rfl
  have q0:w6.frozen? ⟨R,0,none⟩ = false:=by simp [World.frozen?,HR6.out]
  have r1:w6.cell? ⟨R,1,none⟩ = some (.int .i64 0):=by rw [cell_of_row w6 _ 1 _ _ _ HR6.out];rfl
  have q1:w6.frozen? ⟨R,1,none⟩ = false:=by simp [World.frozen?,HR6.out]
  have r2:w6.cell? ⟨R,2,none⟩ = some (.int .i64 0):=by rw [cell_of_row w6 _ 2 _ _ _ HR6.out];rfl
  have q2:w6.frozen? ⟨R,2,none⟩ = false:=by simp [World.frozen?,HR6.out]
  have r3:w6.cell? ⟨R,3,none⟩ = some (.int .i64 0):=by rw [cell_of_row w6 _ 3 _ _ _ HR6.out];rfl
  have q3:w6.frozen? ⟨R,3,none⟩ = false:=by simp [World.frozen?,HR6.out]
  have r4:w6.cell? ⟨R,4,none⟩ = some (.int .i64 0):=by rw [cell_of_row w6 _ 4 _ _ _ HR6.out];rfl
  have q4:w6.frozen? ⟨R,4,none⟩ = false:=by simp [World.frozen?,HR6.out]
  go_wp2
  go_region
  go_wp2
  have hz9:=set5_row HR6.out 0 0 0 0 0
  have hsv:=save5 w6 R (.int .i64 0) (.int .i64 0) (.int .i64 0) (.int .i64 0) (.int .i64 0)
  have hf9:=(HF6.out.aside HFRR.out.1 HFRR.out.2.1 HFRR.out.2.2 (Nat.le_trans hF.out.bl.size HRW.out) hsv).later (blw_drew 1)
  have hs9:=(HS6.out.newer hsv HRW.out).below (blw_drew 1)
  have hz10:((((((w6.setCell ⟨R,0,none⟩ (.int .i64 0)).setCell ⟨R,1,none⟩ (.int .i64 0)).setCell ⟨R,2,none⟩ (.int .i64 0)).setCell ⟨R,3,none⟩ (.int .i64 0)).setCell ⟨R,4,none⟩ (.int .i64 0)).drewN 1).heap[R]? = some (.cells #[.int .i64 0,.int .i64 0,.int .i64 0,.int .i64 0,.int .i64 0] 137 (0,0)):=hz9
  clear hsv hz9
  have hz9:=hz10
  clear hz10
  rw [show (((((w6.setCell ⟨R,0,none⟩ (.int .i64 0)).setCell ⟨R,1,none⟩ (.int .i64 0)).setCell ⟨R,2,none⟩ (.int .i64 0)).setCell ⟨R,3,none⟩ (.int .i64 0)).setCell ⟨R,4,none⟩ (.int .i64 0)).drewN 1 = (((((w6.setCell ⟨R,0,none⟩ (.int .i64 0)).setCell ⟨R,1,none⟩ (.int .i64 0)).setCell ⟨R,2,none⟩ (.int .i64 0)).setCell ⟨R,3,none⟩ (.int .i64 0)).setCell ⟨R,4,none⟩ (.int .i64 0)).drew from rfl] at hf9 hs9 hz9
  generalize (((((w6.setCell ⟨R,0,none⟩ (.int .i64 0)).setCell ⟨R,1,none⟩ (.int .i64 0)).setCell ⟨R,2,none⟩ (.int .i64 0)).setCell ⟨R,3,none⟩ (.int .i64 0)).setCell ⟨R,4,none⟩ (.int .i64 0)).drew = Wf at *
  have z0:Wf.cell? ⟨R,0,none⟩ = some (.int .i64 0):=by rw [cell_of_row Wf _ 0 _ _ _ hz9];rfl
  have z1:Wf.cell? ⟨R,1,none⟩ = some (.int .i64 0):=by rw [cell_of_row Wf _ 1 _ _ _ hz9];rfl
  have z2:Wf.cell? ⟨R,2,none⟩ = some (.int .i64 0):=by rw [cell_of_row Wf _ 2 _ _ _ hz9];rfl
  have z3:Wf.cell? ⟨R,3,none⟩ = some (.int .i64 0):=by rw [cell_of_row Wf _ 3 _ _ _ hz9];rfl
  have z4:Wf.cell? ⟨R,4,none⟩ = some (.int .i64 0):=by rw [cell_of_row Wf _ 4 _ _ _ hz9];rfl
  exact bodyPost_ret (v:=.tuple #[.agg #[.int .i64 0,.int .i64 0,.int .i64 0,.int .i64 0,.int .i64 0],.iface 362 (ev 5)]) (by simp [results,Tryz.results159,go_sem,z0,z1,z2,z3,z4]) rfl ⟨rfl,v,hf9,hs9⟩
set_option maxHeartbeats 1000000 in
theorem cancel_mine (a:Ask) (hF:Hid (PFl w W F P I b v L pf n wd h)) (he:Hid (AEr w ev)) (hok:Hid (Fs.FOk L pf)) (hk:Hid (Fl.kindN a 99 = 0)) (hm:Hid (Fl.mine L a = true)) :
  Calls Tryz.prog 159 #[.pointer (some ⟨F,0,none⟩),askV a] W fun e W'=>e = .returned (.tuple #[lotV (Fl.canX L a),errE ev (Fl.canC L pf a)])∧∃ v',PFl w W' F P I b v' (Fl.canL L a) (Fl.canF L pf a) n wd h∧FStep W W' P I b v v':=by
 have hit:=Fl.cancel_item hk.out
 obtain ⟨i,hi⟩:∃ i:Nat,a.it = i:=⟨a.it.toNat,by omega⟩
 have hi3:i < 3:=by omega
 have hti:a.it.toNat = i:=by omega
 have HK:=hide (fun W' (hb:Below W.heap.size W W')=>fcheck_any a 99 W' ((hF.out.er he.out).below hb) (by decide))
 rw [Fl.kindE_zero hk.out,show errE ev 0 = .nilIface from rfl] at HK
 have hcz:=Fl.can_zero hok.out hk.out hm.out
 have hX:Fl.canX L a = Cv.nth (L i) (Bk.pos (L i) a.id):=by unfold Fl.canX;rw [if_pos ⟨hk.out,hm.out⟩,hti]
 have hL:Fl.canL L a = upd L i (Bk.canL (L i) a.id):=by
  unfold Fl.canL
  rw [if_pos ⟨hk.out,hm.out⟩,hti]
  have hh:Cv.has (L i) a.id = true:=by have:=hm.out;unfold Fl.mine at this;rw [hti] at this;simp only [Bool.and_eq_true] at this;exact this.1
  have hc0:Bk.canC (L i) a.id = 0:=by unfold Bk.canC;rw [if_pos hh]
  unfold Bk.canL
  rw [if_pos hc0]
 have hP:Fl.canF L pf a = Pu.freeF pf a.it (Cv.nth (L i) (Bk.pos (L i) a.id)):=by unfold Fl.canF;rw [if_pos ⟨hk.out,hm.out⟩,hX]
 rw [hX,hL,hP,hcz.1,show errE ev 0 = .nilIface from rfl]
 clear hX hL hP hcz
 have hmm:=hm.out
 unfold Fl.mine at hmm
 rw [hti] at hmm
 obtain ⟨ak,ac,asq,ait,asd,apr,aq,aid⟩:=a
 simp only [] at hi hti
 subst hi
 unfold askV askA at HK ⊢
 simp only [] at HK ⊢
 simp only [Bool.and_eq_true,beq_iff_eq] at hmm
 obtain ⟨hh,how⟩:=hmm
 have hgx:Bk.getX (L i) aid = Cv.nth (L i) (Bk.pos (L i) aid):=by unfold Bk.getX;rw [if_pos hh]
 have hid0:(Cv.nth (L i) (Bk.pos (L i) aid)).id = aid:=Bk.pos_id (Bk.pos_has.1 hh)
 obtain ⟨⟨x0,x1,x2,x3,x4⟩,hX⟩:∃ X,Cv.nth (L i) (Bk.pos (L i) aid) = X:=⟨_,rfl⟩
 rw [hX] at hgx how hid0
 rw [hX]
 simp only [] at how hid0
 subst how
 subst hid0
 have HIS:Hid (Cv.has (L i) x0 = true∧Bk.getX (L i) x0 = ⟨x0,x1,x2,x3,x4⟩):=⟨hh,hgx⟩
 clear hgx hX hh
 unfold lotV
 simp only []
 have HRM:Hid (∀ W',PFl w W' F P I b v L pf n wd h→Calls Tryz.prog 156 #[.pointer (some ⟨F,0,none⟩),.int .i64 i,.agg #[.int .i64 x0,.int .i64 x1,.int .i64 x2,.int .i64 x3,.int .i64 x4]] W' fun e W''=>e = .returned (.tuple #[])∧∃ v',PFl w W'' F P I b v' (upd L i (Bk.canL (L i) x0)) (Pu.freeF pf i ⟨x0,x1,x2,x3,x4⟩) n wd h∧FStep W' W'' P I b v v'):=fun W' hf=>remove_act i hi3 ⟨x0,x1,x2,x3,x4⟩ hf he.out hok.out.good (hok.out.bk i hi3).len
 clear hit hk hti
 obtain ⟨R,hR⟩:∃ R,W.heap.size + 1 = R:=⟨_,rfl⟩
 obtain ⟨A,hA⟩:∃ A,W.heap.size = A:=⟨_,rfl⟩
 obtain ⟨w1,hw1⟩:∃ w1,(W.alloc (.cells #[.int .u8 ak,.int .i64 x1,.int .i64 asq,.int .i64 i,.int .i64 asd,.int .i64 apr,.int .i64 aq,.int .i64 x0] 45)).alloc (.cells #[.int .i64 0,.int .i64 0,.int .i64 0,.int .i64 0,.int .i64 0] 137) = w1:=⟨_,rfl⟩
 have hb1:Below W.heap.size W w1:=by rw [← hw1];exact ((Below.refl _ _).alloc (Nat.le_refl _) _).alloc (by simp) _
 have HR1:Hid (w1.heap[R]? = some (.cells #[.int .i64 0,.int .i64 0,.int .i64 0,.int .i64 0,.int .i64 0] 137 (0,0))):=by
  show _ = _
  rw [← hw1,← hR]
  have:=heap_alloc_new (W.alloc (.cells #[.int .u8 ak,.int .i64 x1,.int .i64 asq,.int .i64 i,.int .i64 asd,.int .i64 apr,.int .i64 aq,.int .i64 x0] 45)) (.cells #[.int .i64 0,.int .i64 0,.int .i64 0,.int .i64 0,.int .i64 0] 137)
  simpa using this
 have HA1:Hid (w1.heap[A]? = some (.cells #[.int .u8 ak,.int .i64 x1,.int .i64 asq,.int .i64 i,.int .i64 asd,.int .i64 apr,.int .i64 aq,.int .i64 x0] 45 (0,0))):=by
  show _ = _
  rw [← hw1,← hA]
  exact (Below.heap_alloc _ _ _ (by simp)).trans (heap_alloc_new W _)
 have HB1:=hide hb1
 have HRW:Hid (W.heap.size≤R):=by show _≤_;omega
 have HW1:=hide hw1;have HRe:=hide hR;have HAe:=hide hA
 clear hb1 hw1 hR hA
 go_enter Tryz.func159,Tryz.ntmps159
 go_wp2_with fail
 rw [HW1.out,HRe.out,HAe.out]
 refine (HK.out _ HB1.out).mono ?_
 rintro e w2 ⟨rfl,hb2⟩
 have hbW2:=HB1.out.trans (hb2.mono HB1.out.size)
 have HR2:Hid (w2.heap[R]? = some (.cells #[.int .i64 0,.int .i64 0,.int .i64 0,.int .i64 0,.int .i64 0] 137 (0,0))):=by show _ = _;rw [hb2.block _ (lt_of_block HR1.out)];exact HR1.out
 have HA2:Hid (w2.heap[A]? = some (.cells #[.int .u8 ak,.int .i64 x1,.int .i64 asq,.int .i64 i,.int .i64 asd,.int .i64 apr,.int .i64 aq,.int .i64 x0] 45 (0,0))):=by show _ = _;rw [hb2.block _ (lt_of_block HA1.out)];exact HA1.out
 have HF2:=hide (hF.out.later hbW2)
 have HS2:=hide (FStep.of_below hbW2 P I b v)
 clear hb2 hbW2 HB1 HR1 HA1 HW1 HRe HAe HK
 have hii:(0:Int)≤(i:Int):=by omega
 have hi3':(i:Int) < 3:=by omega
 simp only []
 go_wp2_with fail
 obtain ⟨XT,val,hcl,hmk⟩:=rows3_all F (I i) A (.cells (pfloorA I P wd h) 128 (0,0)) (.cells (itemA (b i) (n (i * 2)) (n (i * 2 + 1))) 134 (0,0)) (.cells #[.int .u8 ak,.int .i64 x1,.int .i64 asq,.int .i64 i,.int .i64 asd,.int .i64 apr,.int .i64 aq,.int .i64 x0] 45 (0,0))
 obtain ⟨y0,hy0⟩:=hmk w2.drew ⟨HF2.out.blk,HF2.out.it i hi3,HA2.out⟩
 have hnx:Nonempty XT:=⟨y0⟩
 have ei:∀ x,(val x).cell? ⟨F,2 + i,none⟩ = some (.pointer (some ⟨I i,0,none⟩)):=fun x=>by
  rw [cell_of_row _ _ _ _ _ _ (hcl x).1]
  have:i = 0∨i = 1∨i = 2:=by omega
  rcases this with rfl | rfl | rfl <;> rfl
 have eb:∀ x,(val x).cell? ⟨I i,0,none⟩ = some (.pointer (some ⟨b i,0,none⟩)):=fun x=>by rw [cell_of_row _ _ _ _ _ _ (hcl x).2.1];rfl
 have e3:∀ x,(val x).cell? ⟨A,3,none⟩ = some (.int .i64 i):=fun x=>by rw [cell_of_row _ _ _ _ _ _ (hcl x).2.2];rfl
 have e7:∀ x,(val x).cell? ⟨A,7,none⟩ = some (.int .i64 x0):=fun x=>by rw [cell_of_row _ _ _ _ _ _ (hcl x).2.2];rfl
 have hbd:Below w2.heap.size w2 w2.drew:=⟨rfl,rfl,rfl,Nat.le_refl _,fun _ _=>rfl⟩
 have HF4:=hide (HF2.out.later hbd)
 have HS4:=hide (HS2.out.below hbd)
 have HR4:Hid (w2.drew.heap[R]? = some (.cells #[.int .i64 0,.int .i64 0,.int .i64 0,.int .i64 0,.int .i64 0] 137 (0,0))):=HR2.out
 have HA4:Hid (w2.drew.heap[A]? = some (.cells #[.int .u8 ak,.int .i64 x1,.int .i64 asq,.int .i64 i,.int .i64 asd,.int .i64 apr,.int .i64 aq,.int .i64 x0] 45 (0,0))):=HA2.out
 obtain ⟨w4,hw4⟩:∃ w4,w2.drew = w4:=⟨_,rfl⟩
 rw [hw4] at HF4 HS4 HR4 HA4
 have HMK:Hid (∀ W',Below w4.heap.size w4 W'→∃ x,val x = W'):=fun W' hb=>hmk W' ⟨(HF4.out.later hb).blk,(HF4.out.later hb).it i hi3,by rw [hb.block _ (lt_of_block HA4.out)];exact HA4.out⟩
 have HGET:Hid (∀ W',Below w4.heap.size w4 W'→Calls Tryz.prog 134 #[.pointer (some ⟨b i,0,none⟩),.int .i64 x0] W' fun e w'=>e = .returned (.tuple #[.agg #[.int .i64 x0,.int .i64 x1,.int .i64 x2,.int .i64 x3,.int .i64 x4],.bool true])∧Below W'.heap.size W' w'):=fun W' hb=>by
  have:=get_any (b i) w.heap.size (v i) x0 (L i) W' ((HF4.out.later hb).bk i hi3) (hok.out.bk i hi3).len
  rw [HIS.out.1,HIS.out.2] at this
  exact this
 clear hmk hcl HF2 HS2 HR2 HA2 hbd
 refine region_join1 (val:=val) (fun D w6=>w6.heap[D]? = some (.cells #[.int .i64 x0,.int .i64 x1,.int .i64 x2,.int .i64 x3,.int .i64 x4] 137 (0,0))∧w4.heap.size≤D∧Below w4.heap.size w4 w6) (.read 0 (.read 1 (.read 2 (.read 3 (.read 4 (.read 5 (.read 6 (.read 7 (.read 8 (.read 9 (.read 10 (.read 11 (.two 12 (.read 13 (.read 14 (.read 15 (.one 16 (.one 17 (.read 18 .done)))))) 16 (.one 12 (.read 13 (.read 14 (.read 15 (.one 17 (.read 18 .done))))))))))))))))))) (by kernel_rfl) (by kernel_rfl) y0 hy0 ?_
 apply Exists.intro
 refine ⟨?_,?_⟩
 case' refine_1 =>
  rw [hy0,hw4]
  iterate 12 (refine walkP_read rfl (fun K hK=>?_);refine ⟨by rfl,?_⟩;unfold isRd;go_simp;refine hK _ ?_;clear hK K)
  have HBs:Hid (Below w4.heap.size w4 w4):=Below.refl _ _
  refine ⟨?_,?_⟩
  case refine_1 =>
   refine spec_step rfl (fun K hK=>?_)
   refine ⟨by rfl,?_⟩
   unfold upM
   go_simp
   refine (HGET.out _ HBs.out).mono ?_
   rintro e wc ⟨rfl,hbc⟩
   have HBc:=hide (HBs.out.trans (hbc.mono HBs.out.size))
   refine ⟨_,rfl,HMK.out _ HBc.out,hK _ _ ?_⟩
   clear hK K hbc
   iterate 3 (refine walkP_read rfl (fun K hK=>?_);refine ⟨by rfl,?_⟩;unfold isRd;go_simp;refine hK _ ?_;clear hK K)
   refine spec_step rfl (fun K hK=>?_)
   refine ⟨by rfl,?_⟩
   unfold upM
   go_simp
   obtain ⟨D,hD⟩:∃ D,wc.heap.size = D:=⟨_,rfl⟩
   obtain ⟨wz,hwz⟩:∃ wz,wc.alloc (.cells #[.int .i64 0,.int .i64 0,.int .i64 0,.int .i64 0,.int .i64 0] 137) = wz:=⟨_,rfl⟩
   rw [hD,hwz]
   have HBz:Hid (Below w4.heap.size w4 wz):=by show Below _ _ _;rw [← hwz];exact HBc.out.alloc HBc.out.size _
   have HZ:Hid (wz.heap[D]? = some (.cells #[.int .i64 0,.int .i64 0,.int .i64 0,.int .i64 0,.int .i64 0] 137 (0,0))):=by show _ = _;rw [← hwz,← hD];exact heap_alloc_new _ _
   have HLD:Hid (w4.heap.size≤D):=by have:=HBc.out.size;show _≤_;omega
   refine ⟨HMK.out _ HBz.out,hK _ _ ?_⟩
   clear hK K hwz hD
   have c0:wz.cell? ⟨D,0,none⟩ = some (.int .i64 0):=by rw [cell_of_row wz _ 0 _ _ _ HZ.out];rfl
   have f0:wz.frozen? ⟨D,0,none⟩ = false:=by simp [World.frozen?,HZ.out]
   have c1:wz.cell? ⟨D,1,none⟩ = some (.int .i64 0):=by rw [cell_of_row wz _ 1 _ _ _ HZ.out];rfl
   have f1:wz.frozen? ⟨D,1,none⟩ = false:=by simp [World.frozen?,HZ.out]
   have c2:wz.cell? ⟨D,2,none⟩ = some (.int .i64 0):=by rw [cell_of_row wz _ 2 _ _ _ HZ.out];rfl
   have f2:wz.frozen? ⟨D,2,none⟩ = false:=by simp [World.frozen?,HZ.out]
   have c3:wz.cell? ⟨D,3,none⟩ = some (.int .i64 0):=by rw [cell_of_row wz _ 3 _ _ _ HZ.out];rfl
   have f3:wz.frozen? ⟨D,3,none⟩ = false:=by simp [World.frozen?,HZ.out]
   have c4:wz.cell? ⟨D,4,none⟩ = some (.int .i64 0):=by rw [cell_of_row wz _ 4 _ _ _ HZ.out];rfl
   have f4:wz.frozen? ⟨D,4,none⟩ = false:=by simp [World.frozen?,HZ.out]
   have HX:=hide (set5_row HZ.out x0 x1 x2 x3 x4)
   have HB6:=hide (below5 HBz.out HLD.out (.int .i64 x0) (.int .i64 x1) (.int .i64 x2) (.int .i64 x3) (.int .i64 x4))
   refine spec_step rfl (fun K hK=>?_)
   refine ⟨by rfl,?_⟩
   unfold upM
   go_simp
   refine ⟨HMK.out _ HB6.out,hK _ _ ?_⟩
   clear hK K HZ c0 c1 c2 c3 c4 f0 f1 f2 f3 f4
   generalize (((((wz.setCell ⟨D,0,none⟩ (.int .i64 x0)).setCell ⟨D,1,none⟩ (.int .i64 x1)).setCell ⟨D,2,none⟩ (.int .i64 x2)).setCell ⟨D,3,none⟩ (.int .i64 x3)).setCell ⟨D,4,none⟩ (.int .i64 x4)) = w6 at *
   refine walkP_read rfl (fun K hK=>?_);refine ⟨by rfl,?_⟩;unfold isRd;go_simp;refine hK _ ?_;clear hK K
   refine walkP_done ?_
   exact ⟨D,rfl,HX.out,HLD.out,HB6.out⟩
  case refine_2 =>
   refine spec_step rfl (fun K hK=>?_)
   refine ⟨by rfl,?_⟩
   unfold upM
   go_simp
   obtain ⟨D,hD⟩:∃ D,w4.heap.size = D:=⟨_,rfl⟩
   obtain ⟨wy,hwz⟩:∃ wz,w4.alloc (.cells #[.int .i64 0,.int .i64 0,.int .i64 0,.int .i64 0,.int .i64 0] 137) = wz:=⟨_,rfl⟩
   rw [hD,hwz]
   have HBy:Hid (Below w4.heap.size w4 wy):=by show Below _ _ _;rw [← hwz];exact HBs.out.alloc HBs.out.size _
   have HZy:Hid (wy.heap[D]? = some (.cells #[.int .i64 0,.int .i64 0,.int .i64 0,.int .i64 0,.int .i64 0] 137 (0,0))):=by show _ = _;rw [← hwz,← hD];exact heap_alloc_new _ _
   have HLD:Hid (w4.heap.size≤D):=by have:=HBs.out.size;show _≤_;omega
   refine ⟨HMK.out _ HBy.out,hK _ _ ?_⟩
   clear hK K hwz hD
   refine spec_step rfl (fun K hK=>?_)
   refine ⟨by rfl,?_⟩
   unfold upM
   go_simp
   refine (HGET.out _ HBy.out).mono ?_
   rintro e wz ⟨rfl,hbc⟩
   have HBz:=hide (HBy.out.trans (hbc.mono HBy.out.size))
   have HZ:Hid (wz.heap[D]? = some (.cells #[.int .i64 0,.int .i64 0,.int .i64 0,.int .i64 0,.int .i64 0] 137 (0,0))):=by show _ = _;rw [hbc.block _ (lt_of_block HZy.out)];exact HZy.out
   refine ⟨_,rfl,HMK.out _ HBz.out,hK _ _ ?_⟩
   clear hK K hbc
   iterate 3 (refine walkP_read rfl (fun K hK=>?_);refine ⟨by rfl,?_⟩;unfold isRd;go_simp;refine hK _ ?_;clear hK K)
   have c0:wz.cell? ⟨D,0,none⟩ = some (.int .i64 0):=by rw [cell_of_row wz _ 0 _ _ _ HZ.out];rfl
   have f0:wz.frozen? ⟨D,0,none⟩ = false:=by simp [World.frozen?,HZ.out]
   have c1:wz.cell? ⟨D,1,none⟩ = some (.int .i64 0):=by rw [cell_of_row wz _ 1 _ _ _ HZ.out];rfl
   have f1:wz.frozen? ⟨D,1,none⟩ = false:=by simp [World.frozen?,HZ.out]
   have c2:wz.cell? ⟨D,2,none⟩ = some (.int .i64 0):=by rw [cell_of_row wz _ 2 _ _ _ HZ.out];rfl
   have f2:wz.frozen? ⟨D,2,none⟩ = false:=by simp [World.frozen?,HZ.out]
   have c3:wz.cell? ⟨D,3,none⟩ = some (.int .i64 0):=by rw [cell_of_row wz _ 3 _ _ _ HZ.out];rfl
   have f3:wz.frozen? ⟨D,3,none⟩ = false:=by simp [World.frozen?,HZ.out]
   have c4:wz.cell? ⟨D,4,none⟩ = some (.int .i64 0):=by rw [cell_of_row wz _ 4 _ _ _ HZ.out];rfl
   have f4:wz.frozen? ⟨D,4,none⟩ = false:=by simp [World.frozen?,HZ.out]
   have HX:=hide (set5_row HZ.out x0 x1 x2 x3 x4)
   have HB6:=hide (below5 HBz.out HLD.out (.int .i64 x0) (.int .i64 x1) (.int .i64 x2) (.int .i64 x3) (.int .i64 x4))
   refine spec_step rfl (fun K hK=>?_)
   refine ⟨by rfl,?_⟩
   unfold upM
   go_simp
   refine ⟨HMK.out _ HB6.out,hK _ _ ?_⟩
   clear hK K HZ c0 c1 c2 c3 c4 f0 f1 f2 f3 f4
   generalize (((((wz.setCell ⟨D,0,none⟩ (.int .i64 x0)).setCell ⟨D,1,none⟩ (.int .i64 x1)).setCell ⟨D,2,none⟩ (.int .i64 x2)).setCell ⟨D,3,none⟩ (.int .i64 x3)).setCell ⟨D,4,none⟩ (.int .i64 x4)) = w6 at *
   refine walkP_read rfl (fun K hK=>?_);refine ⟨by rfl,?_⟩;unfold isRd;go_simp;refine hK _ ?_;clear hK K
   refine walkP_done ?_
   exact ⟨D,rfl,HX.out,HLD.out,HB6.out⟩
 intro D w6 ⟨hX6,hD6,hb6⟩
 have HX:=hide hX6
 have HF6:=hide (HF4.out.later hb6)
 have HS6:=hide (HS4.out.below hb6)
 have HR6:Hid (w6.heap[R]? = some (.cells #[.int .i64 0,.int .i64 0,.int .i64 0,.int .i64 0,.int .i64 0] 137 (0,0))):=by show _ = _;rw [hb6.block _ (lt_of_block HR4.out)];exact HR4.out
 have HA6:Hid (w6.heap[A]? = some (.cells #[.int .u8 ak,.int .i64 x1,.int .i64 asq,.int .i64 i,.int .i64 asd,.int .i64 apr,.int .i64 aq,.int .i64 x0] 45 (0,0))):=by show _ = _;rw [hb6.block _ (lt_of_block HA4.out)];exact HA4.out
 have HDR:Hid (D≠R):=fun e=>by have:=lt_of_block HR4.out;omega
 have HFD:=hide (HF4.out.fresh hD6)
 have HFRR:=hide (hF.out.fresh HRW.out)
 clear hX6 hD6 hb6 HF4 HS4 HR4 HA4 HGET hw4
 clear hy0 ei eb e3 e7 HMK
 clear y0 hnx
 clear val
 clear XT
 have d0:w6.cell? ⟨D,0,none⟩ = some (.int .i64 x0):=by rw [cell_of_row w6 _ 0 _ _ _ HX.out];rfl
 have d1:w6.cell? ⟨D,1,none⟩ = some (.int .i64 x1):=by rw [cell_of_row w6 _ 1 _ _ _ HX.out];rfl
 have d2:w6.cell? ⟨D,2,none⟩ = some (.int .i64 x2):=by rw [cell_of_row w6 _ 2 _ _ _ HX.out];rfl
 have d3:w6.cell? ⟨D,3,none⟩ = some (.int .i64 x3):=by rw [cell_of_row w6 _ 3 _ _ _ HX.out];rfl
 have d4:w6.cell? ⟨D,4,none⟩ = some (.int .i64 x4):=by rw [cell_of_row w6 _ 4 _ _ _ HX.out];rfl
 have a1:w6.cell? ⟨A,1,none⟩ = some (.int .i64 x1):=by rw [cell_of_row w6 _ 1 _ _ _ HA6.out];rfl
 have a3:w6.cell? ⟨A,3,none⟩ = some (.int .i64 i):=by rw [cell_of_row w6 _ 3 _ _ _ HA6.out];rfl
 have hne':(x1 != x1) = false:=by simp
 go_wp2_with fail
 refine (HRM.out w6 HF6.out).mono ?_
 rintro e w7 ⟨rfl,v7,hf7,hs7⟩
 have HR7:Hid (w7.heap[R]? = some (.cells #[.int .i64 0,.int .i64 0,.int .i64 0,.int .i64 0,.int .i64 0] 137 (0,0))):=by show _ = _;rw [hs7.keep R (lt_of_block HR6.out) HFRR.out.2.1 HFRR.out.2.2];exact HR6.out
 have HX7:Hid (w7.heap[D]? = some (.cells #[.int .i64 x0,.int .i64 x1,.int .i64 x2,.int .i64 x3,.int .i64 x4] 137 (0,0))):=by show _ = _;rw [hs7.keep D (lt_of_block HX.out) HFD.out.2.1 HFD.out.2.2];exact HX.out
 have HF7:=hide hf7;have HS7:=hide (HS6.out.trans hs7)
 have HFR7:Hid (∀ j,j < 3→R≠I j∧R≠b j∧(v7 j).ownBlock≠some R):=fun j hj=>⟨(HFRR.out.2.2 j hj).1,(HFRR.out.2.2 j hj).2.1,fun e=>by
  rcases hs7.new j hj R e with h1 | h1
  ·exact (HFRR.out.2.2 j hj).2.2 h1
  ·have:=lt_of_block HR6.out;omega⟩
 clear d0 d1 d2 d3 d4 a1 a3 hf7 hs7 HX HF6 HS6 HR6 HA6 HRM hne'
 have d0:w7.cell? ⟨D,0,none⟩ = some (.int .i64 x0):=by rw [cell_of_row w7 _ 0 _ _ _ HX7.out];rfl
 have d1:w7.cell? ⟨D,1,none⟩ = some (.int .i64 x1):=by rw [cell_of_row w7 _ 1 _ _ _ HX7.out];rfl
 have d2:w7.cell? ⟨D,2,none⟩ = some (.int .i64 x2):=by rw [cell_of_row w7 _ 2 _ _ _ HX7.out];rfl
 have d3:w7.cell? ⟨D,3,none⟩ = some (.int .i64 x3):=by rw [cell_of_row w7 _ 3 _ _ _ HX7.out];rfl
 have d4:w7.cell? ⟨D,4,none⟩ = some (.int .i64 x4):=by rw [cell_of_row w7 _ 4 _ _ _ HX7.out];rfl
 have r0:w7.cell? ⟨R,0,none⟩ = some (.int .i64 0):=by rw [cell_of_row w7 _ 0 _ _ _ HR7.out];rfl
 have q0:w7.frozen? ⟨R,0,none⟩ = false:=by simp [World.frozen?,HR7.out]
 have r1:w7.cell? ⟨R,1,none⟩ = some (.int .i64 0):=by rw [cell_of_row w7 _ 1 _ _ _ HR7.out];rfl
 have q1:w7.frozen? ⟨R,1,none⟩ = false:=by simp [World.frozen?,HR7.out]
 have r2:w7.cell? ⟨R,2,none⟩ = some (.int .i64 0):=by rw [cell_of_row w7 _ 2 _ _ _ HR7.out];rfl
 have q2:w7.frozen? ⟨R,2,none⟩ = false:=by simp [World.frozen?,HR7.out]
 have r3:w7.cell? ⟨R,3,none⟩ = some (.int .i64 0):=by rw [cell_of_row w7 _ 3 _ _ _ HR7.out];rfl
 have q3:w7.frozen? ⟨R,3,none⟩ = false:=by simp [World.frozen?,HR7.out]
 have r4:w7.cell? ⟨R,4,none⟩ = some (.int .i64 0):=by rw [cell_of_row w7 _ 4 _ _ _ HR7.out];rfl
 have q4:w7.frozen? ⟨R,4,none⟩ = false:=by simp [World.frozen?,HR7.out]
 simp only []
 go_wp2
 have hz9:=set5_row HR7.out x0 x1 x2 x3 x4
 have hsv:=save5 w7 R (.int .i64 x0) (.int .i64 x1) (.int .i64 x2) (.int .i64 x3) (.int .i64 x4)
 have hf9:=HF7.out.aside HFRR.out.1 HFRR.out.2.1 HFR7.out (Nat.le_trans hF.out.bl.size HRW.out) hsv
 have hs9:=HS7.out.newer hsv HRW.out
 clear hsv
 generalize (((((w7.setCell ⟨R,0,none⟩ (.int .i64 x0)).setCell ⟨R,1,none⟩ (.int .i64 x1)).setCell ⟨R,2,none⟩ (.int .i64 x2)).setCell ⟨R,3,none⟩ (.int .i64 x3)).setCell ⟨R,4,none⟩ (.int .i64 x4)) = Wf at *
 have z0:Wf.cell? ⟨R,0,none⟩ = some (.int .i64 x0):=by rw [cell_of_row Wf _ 0 _ _ _ hz9];rfl
 have z1:Wf.cell? ⟨R,1,none⟩ = some (.int .i64 x1):=by rw [cell_of_row Wf _ 1 _ _ _ hz9];rfl
 have z2:Wf.cell? ⟨R,2,none⟩ = some (.int .i64 x2):=by rw [cell_of_row Wf _ 2 _ _ _ hz9];rfl
 have z3:Wf.cell? ⟨R,3,none⟩ = some (.int .i64 x3):=by rw [cell_of_row Wf _ 3 _ _ _ hz9];rfl
 have z4:Wf.cell? ⟨R,4,none⟩ = some (.int .i64 x4):=by rw [cell_of_row Wf _ 4 _ _ _ hz9];rfl
 exact bodyPost_ret (v:=.tuple #[.agg #[.int .i64 x0,.int .i64 x1,.int .i64 x2,.int .i64 x3,.int .i64 x4],.nilIface]) (by simp [results,Tryz.results159,go_sem,z0,z1,z2,z3,z4]) rfl ⟨rfl,v7,hf9,hs9⟩
theorem fcancel_any (a:Ask) (hF:PFl w W F P I b v L pf n wd h) (he:AEr w ev) (hok:Fs.FOk L pf) :
  Calls Tryz.prog 159 #[.pointer (some ⟨F,0,none⟩),askV a] W fun e W'=>e = .returned (.tuple #[lotV (Fl.canX L a),errE ev (Fl.canC L pf a)])∧∃ v',PFl w W' F P I b v' (Fl.canL L a) (Fl.canF L pf a) n wd h∧FStep W W' P I b v v':=by
 by_cases hk:Fl.kindN a 99 = 0
 ·cases hm:Fl.mine L a with
  | true=>exact cancel_mine a hF he hok hk hm
  | false=>exact cancel_none a hF he hok hk hm
 ·exact cancel_kind a hF he hk
end
section
variable {ev:Nat→Value}
def NewAns (w w':World) (e:Ending) (wd h ref cash stock:Int):Prop:=∃ F P I b,e = .returned (.tuple #[.pointer (some ⟨F,0,none⟩),.nilIface])∧PFl w w' F P I b (fun _=>.slice none 0 0) (fun _=>[]) (Fl.gift cash stock 6) (Fl.bands ref) wd h
set_option maxHeartbeats 1000000 in
theorem new_ok (wd h ref cash stock:Int) (w:World) (he:Hid (AEr w ev)) (hr:Hid (Bd.rOk wd h = true)) (hf:Hid (Wi.withinB ref 1 1000 = true)) (H:Hid (Fl.Fits cash stock)) :
  Calls Tryz.prog 79 #[bandV wd h,.int .i64 ref,.int .i64 cash,.int .i64 stock] w fun e w'=>NewAns w w' e wd h ref cash stock:=by
 have hb0:Below w.heap.size w (w.alloc (.cells #[.int .i64 wd,.int .i64 h] 32)):=(Below.refl _ _).alloc (Nat.le_refl _) _
 have hck:=rcheck_any wd h 362 (ev 1) (w.alloc (.cells #[.int .i64 wd,.int .i64 h] 32)) (he.out.below hb0).ber
 rw [hr.out,show okE 362 (ev 1) true = .nilIface from rfl] at hck
 have HCK:=hide hck
 have HB0:=hide hb0
 have hru:(w.alloc (.cells #[.int .i64 wd,.int .i64 h] 32)).heap[w.heap.size]? = some (.cells #[.int .i64 wd,.int .i64 h] 32 (0,0)):=heap_alloc_new _ _
 have HRU:=hide hru
 clear hb0 hck hru
 unfold bandV at HCK ⊢
 have HW1:=hide (fun W=>within_any ref 1 1000 W)
 have HW2:=hide (fun W=>within_any cash 0 1073741824 W)
 have HW3:=hide (fun W=>within_any stock 0 100000 W)
 have e1:Wi.withinB cash 0 1073741824 = true:=by have:=H.out.c0;have:=H.out.c1;simp [Wi.withinB];omega
 have e2:Wi.withinB stock 0 100000 = true:=by have:=H.out.s0;have:=H.out.s1;simp [Wi.withinB];omega
 rw [hf.out] at HW1;rw [e1] at HW2;rw [e2] at HW3
 clear e1 e2
 go_enter Tryz.func79,Tryz.ntmps79
 go_wp2_with fail
 refine HCK.out.mono ?_
 rintro e w2 ⟨rfl,hb2⟩
 have HL2:=hide (HB0.out.trans (hb2.mono HB0.out.size))
 have HRU2:Hid (w2.heap[w.heap.size]? = some (.cells #[.int .i64 wd,.int .i64 h] 32 (0,0))):=by show _ = _;rw [hb2.block _ (lt_of_block HRU.out)];exact HRU.out
 clear hb2 HB0 HRU HCK
 obtain ⟨Ru,hRu⟩:∃ Ru,w.heap.size = Ru:=⟨_,rfl⟩
 rw [hRu] at HRU2
 rw [hRu]
 have HRe:=hide hRu
 clear hRu
 simp only []
 go_wp2_with fail
 refine (HW1.out _).mono ?_
 rintro e w2 ⟨rfl,rfl⟩
 simp only []
 go_wp2_with fail
 refine (HW2.out _).mono ?_
 rintro e w2 ⟨rfl,rfl⟩
 simp only []
 go_wp2_with fail
 refine (HW3.out _).mono ?_
 rintro e w2 ⟨rfl,rfl⟩
 clear HW1 HW2 HW3
 simp only []
 go_wp2_with fail
 obtain ⟨XT,val,hcl,hmk⟩:=rows3_all Ru Ru Ru (.cells #[.int .i64 wd,.int .i64 h] 32 (0,0)) (.cells #[.int .i64 wd,.int .i64 h] 32 (0,0)) (.cells #[.int .i64 wd,.int .i64 h] 32 (0,0))
 have HMK:=hide hmk
 obtain ⟨y0,hy0⟩:=hmk w2.drew ⟨HRU2.out,HRU2.out,HRU2.out⟩
 have hnx:Nonempty XT:=⟨y0⟩
 have u0:∀ x,(val x).cell? ⟨Ru,0,none⟩ = some (.int .i64 wd):=fun x=>by rw [cell_of_row _ _ _ _ _ _ (hcl x).1];rfl
 have u1:∀ x,(val x).cell? ⟨Ru,1,none⟩ = some (.int .i64 h):=fun x=>by rw [cell_of_row _ _ _ _ _ _ (hcl x).1];rfl
 clear hmk hcl
 have hbd:Below w2.heap.size w2 w2.drew:=⟨rfl,rfl,rfl,Nat.le_refl _,fun _ _=>rfl⟩
 have HL3:=hide (HL2.out.trans (hbd.mono HL2.out.size))
 have HRU3:Hid (w2.drew.heap[Ru]? = some (.cells #[.int .i64 wd,.int .i64 h] 32 (0,0))):=HRU2.out
 clear hbd HL2 HRU2
 refine region_plan (val:=val) (.read 0 (.one 1 (.read 2 (.one 3 (.read 4 .done))))) (by kernel_rfl) (by kernel_rfl) y0 hy0 ?_
 rw [hy0]
 clear hy0
 generalize w2.drew = w3 at *
 refine walkP_read rfl (fun K hK=>?_);refine ⟨by rfl,?_⟩;unfold isRd;go_simp;refine hK _ ?_;clear hK K
 refine spec_step rfl (fun K hK=>?_)
 refine ⟨by rfl,?_⟩
 unfold upM
 go_simp
 refine (new_any _).mono ?_
 rintro e w4 ⟨rfl,hw4⟩
 have hbc:Below w3.heap.size w3 w4:=by rw [hw4];exact (Below.refl _ _).alloc (Nat.le_refl _) _
 obtain ⟨P,hP⟩:∃ P,w3.heap.size = P:=⟨_,rfl⟩
 have HP4:Hid (w4.heap[P]? = some (.cells (p_row fun _=>0) 131 (0,0))):=by show _ = _;rw [hw4,← hP];exact heap_alloc_new _ _
 have HRU4:Hid (w4.heap[Ru]? = some (.cells #[.int .i64 wd,.int .i64 h] 32 (0,0))):=by show _ = _;rw [hbc.block _ (lt_of_block HRU3.out)];exact HRU3.out
 have HL4:=hide (HL3.out.trans (hbc.mono HL3.out.size))
 have HLP:Hid (w.heap.size≤P):=by have:=HL3.out.size;show _≤_;omega
 refine ⟨_,rfl,HMK.out _ ⟨HRU4.out,HRU4.out,HRU4.out⟩,hK _ _ ?_⟩
 rw [hP]
 clear hK K hbc hw4 hP HL3 HRU3
 refine walkP_read rfl (fun K hK=>?_);refine ⟨by rfl,?_⟩;unfold isRd;go_simp;refine hK _ ?_;clear hK K
 refine spec_step rfl (fun K hK=>?_)
 refine ⟨by rfl,?_⟩
 unfold upM
 go_simp
 obtain ⟨F,hF⟩:∃ F,w4.heap.size = F:=⟨_,rfl⟩
 obtain ⟨w5,hw5⟩:∃ x,w4.alloc (.cells #[.int .i64 wd,.int .i64 h,.pointer none,.pointer none,.pointer none,.pointer (some ⟨P,0,none⟩)] 128) = x:=⟨_,rfl⟩
 have hbc:Below w4.heap.size w4 w5:=by rw [← hw5];exact (Below.refl _ _).alloc (Nat.le_refl _) _
 have HF5:Hid (w5.heap[F]? = some (.cells #[.int .i64 wd,.int .i64 h,.pointer none,.pointer none,.pointer none,.pointer (some ⟨P,0,none⟩)] 128 (0,0))):=by show _ = _;rw [← hw5,← hF];exact heap_alloc_new _ _
 have HP5:Hid (w5.heap[P]? = some (.cells (p_row fun _=>0) 131 (0,0))):=by show _ = _;rw [hbc.block _ (lt_of_block HP4.out)];exact HP4.out
 have HRU5:Hid (w5.heap[Ru]? = some (.cells #[.int .i64 wd,.int .i64 h] 32 (0,0))):=by show _ = _;rw [hbc.block _ (lt_of_block HRU4.out)];exact HRU4.out
 have HL5:=hide (HL4.out.trans (hbc.mono HL4.out.size))
 have HLF:Hid (w.heap.size≤F):=by have:=HL4.out.size;show _≤_;omega
 rw [hF,hw5]
 refine ⟨HMK.out _ ⟨HRU5.out,HRU5.out,HRU5.out⟩,hK _ _ ?_⟩
 clear hK K hbc hw5 hF HL4 HP4 HRU4
 refine walkP_read rfl (fun K hK=>?_);refine ⟨by rfl,?_⟩;unfold isRd;go_simp;refine hK _ ?_;clear hK K
 refine walkP_done ?_
 clear u0 u1 HMK
 clear y0 hnx
 clear val
 clear XT
 obtain ⟨S,hS⟩:∃ S,w5.heap.size = S:=⟨_,rfl⟩
 obtain ⟨wa0,hwa⟩:∃ x,w5.alloc (.cells #[.int .i64 0,.int .i64 0,.int .i64 0] 53) = x:=⟨_,rfl⟩
 have hbc:Below w5.heap.size w5 wa0:=by rw [← hwa];exact (Below.refl _ _).alloc (Nat.le_refl _) _
 have HSa0:Hid (wa0.heap[S]? = some (.cells #[.int .i64 0,.int .i64 0,.int .i64 0] 53 (0,0))):=by show _ = _;rw [← hwa,← hS];exact heap_alloc_new _ _
 have HFa0:Hid (wa0.heap[F]? = some (.cells #[.int .i64 wd,.int .i64 h,.pointer none,.pointer none,.pointer none,.pointer (some ⟨P,0,none⟩)] 128 (0,0))):=by show _ = _;rw [hbc.block _ (lt_of_block HF5.out)];exact HF5.out
 have HPa0:Hid (wa0.heap[P]? = some (.cells (p_row fun _=>0) 131 (0,0))):=by show _ = _;rw [hbc.block _ (lt_of_block HP5.out)];exact HP5.out
 have HLa0:=hide (HL5.out.trans (hbc.mono HL5.out.size))
 have HLS:Hid (w.heap.size≤S):=by have:=HL5.out.size;show _≤_;omega
 have HWA:=hide hwa;have HSe:=hide hS
 clear hbc hwa hS HL5 HF5 HP5 HRU5
 go_wp2
 rw [HWA.out,HSe.out]
 clear HWA HSe
 refine wp_loop_rounds 4 ?_
 rw [rounds_succ]
 go_wp2_with fail
 have hnx:Nonempty World:=⟨wa0⟩
 refine region_plan (X:=World) (val:=fun x=>x) (.read 0 (.read 1 (.read 3 (.read 4 (.read 7 (.read 8 (.one 2 (.read 5 (.one 6 (.read 9 (.one 10 .done))))))))))) (by kernel_rfl) (by kernel_rfl) wa0.drew rfl ?_
 have hbd:Below wa0.heap.size wa0 wa0.drew:=⟨rfl,rfl,rfl,Nat.le_refl _,fun _ _=>rfl⟩
 have HFb0:Hid (wa0.drew.heap[F]? = some (.cells #[.int .i64 wd,.int .i64 h,.pointer none,.pointer none,.pointer none,.pointer (some ⟨P,0,none⟩)] 128 (0,0))):=by show _ = _;rw [hbd.block _ (lt_of_block HFa0.out)];exact HFa0.out
 have HSb0:Hid (wa0.drew.heap[S]? = some (.cells #[.int .i64 0,.int .i64 0,.int .i64 0] 53 (0,0))):=by show _ = _;rw [hbd.block _ (lt_of_block HSa0.out)];exact HSa0.out
 have HPb0:Hid (wa0.drew.heap[P]? = some (.cells (p_row fun _=>0) 131 (0,0))):=by show _ = _;rw [hbd.block _ (lt_of_block HPa0.out)];exact HPa0.out
 have HLb0:=hide (HLa0.out.trans (hbd.mono HLa0.out.size))
 clear hbd HFa0 HSa0 HPa0 HLa0
 show walkP _ _ _ _ _ _ wa0.drew
 generalize wa0.drew = wb0 at *
 iterate 6 (refine walkP_read rfl (fun K hK=>?_);refine ⟨by rfl,?_⟩;unfold isRd;go_simp;refine hK _ ?_;clear hK K)
 refine spec_step rfl (fun K hK=>?_)
 refine ⟨by rfl,?_⟩
 unfold upM
 go_simp
 refine (newBook_any _).mono ?_
 rintro e wc0 ⟨rfl,hwc⟩
 have hbc:Below wb0.heap.size wb0 wc0:=by rw [hwc];exact (Below.refl _ _).alloc (Nat.le_refl _) _
 obtain ⟨B0,hB0⟩:∃ B,wb0.heap.size = B:=⟨_,rfl⟩
 have HB0c0:Hid (wc0.heap[B0]? = some (.cells #[.slice none 0 0] 139 (0,0))):=by show _ = _;rw [hwc,← hB0];exact heap_alloc_new _ _
 have HFc0:Hid (wc0.heap[F]? = some (.cells #[.int .i64 wd,.int .i64 h,.pointer none,.pointer none,.pointer none,.pointer (some ⟨P,0,none⟩)] 128 (0,0))):=by show _ = _;rw [hbc.block _ (lt_of_block HFb0.out)];exact HFb0.out
 have HSc0:Hid (wc0.heap[S]? = some (.cells #[.int .i64 0,.int .i64 0,.int .i64 0] 53 (0,0))):=by show _ = _;rw [hbc.block _ (lt_of_block HSb0.out)];exact HSb0.out
 have HPc0:Hid (wc0.heap[P]? = some (.cells (p_row fun _=>0) 131 (0,0))):=by show _ = _;rw [hbc.block _ (lt_of_block HPb0.out)];exact HPb0.out
 have HLc0:=hide (HLb0.out.trans (hbc.mono HLb0.out.size))
 have HLB0:Hid (w.heap.size≤B0):=by have:=HLb0.out.size;show _≤_;omega
 refine ⟨_,rfl,hK _ _ ?_⟩
 rw [hB0]
 have HNE0:Hid (B0≠F∧B0≠S∧B0≠P):=by
  have l1:=lt_of_block HFb0.out;have l2:=lt_of_block HSb0.out;have l3:=lt_of_block HPb0.out
  refine ⟨by omega,by omega,by omega⟩
 clear hK K hbc hwc hB0 HFb0 HSb0 HPb0 HLb0
 refine walkP_read rfl (fun K hK=>?_);refine ⟨by rfl,?_⟩;unfold isRd;go_simp;refine hK _ ?_;clear hK K
 refine spec_step rfl (fun K hK=>?_)
 refine ⟨by rfl,?_⟩
 unfold upM
 go_simp
 obtain ⟨I0,hI0⟩:∃ I,wc0.heap.size = I:=⟨_,rfl⟩
 obtain ⟨wd0,hwd⟩:∃ x,wc0.alloc (.cells #[.pointer (some ⟨B0,0,none⟩),.int .i64 ref,.int .i64 0] 134) = x:=⟨_,rfl⟩
 have hbd:Below wc0.heap.size wc0 wd0:=by rw [← hwd];exact (Below.refl _ _).alloc (Nat.le_refl _) _
 have HI0d0:Hid (wd0.heap[I0]? = some (.cells #[.pointer (some ⟨B0,0,none⟩),.int .i64 ref,.int .i64 0] 134 (0,0))):=by show _ = _;rw [← hwd,← hI0];exact heap_alloc_new _ _
 rw [hI0,hwd]
 have HFd0:Hid (wd0.heap[F]? = some (.cells #[.int .i64 wd,.int .i64 h,.pointer none,.pointer none,.pointer none,.pointer (some ⟨P,0,none⟩)] 128 (0,0))):=by show _ = _;rw [hbd.block _ (lt_of_block HFc0.out)];exact HFc0.out
 have HSd0:Hid (wd0.heap[S]? = some (.cells #[.int .i64 0,.int .i64 0,.int .i64 0] 53 (0,0))):=by show _ = _;rw [hbd.block _ (lt_of_block HSc0.out)];exact HSc0.out
 have HPd0:Hid (wd0.heap[P]? = some (.cells (p_row fun _=>0) 131 (0,0))):=by show _ = _;rw [hbd.block _ (lt_of_block HPc0.out)];exact HPc0.out
 have HB0d0:Hid (wd0.heap[B0]? = some (.cells #[.slice none 0 0] 139 (0,0))):=by show _ = _;rw [hbd.block _ (lt_of_block HB0c0.out)];exact HB0c0.out
 have HLd0:=hide (HLc0.out.trans (hbd.mono HLc0.out.size))
 have HLI0:Hid (w.heap.size≤I0):=by have:=HLc0.out.size;show _≤_;omega
 have HNI0:Hid (I0≠F∧I0≠S):=by
  have l1:=lt_of_block HFc0.out;have l2:=lt_of_block HSc0.out
  refine ⟨by omega,by omega⟩
 refine hK _ _ ?_
 clear hK K hbd hwd hI0 HFc0 HSc0 HPc0 HB0c0 HLc0
 refine walkP_read rfl (fun K hK=>?_);refine ⟨by rfl,?_⟩;unfold isRd;go_simp;refine hK _ ?_;clear hK K
 have c0:wd0.cell? ⟨F,2,none⟩ = some (.pointer none):=by rw [cell_of_row wd0 _ 2 _ _ _ HFd0.out];rfl
 have f0:wd0.frozen? ⟨F,2,none⟩ = false:=by simp [World.frozen?,HFd0.out]
 obtain ⟨we0,hwe⟩:∃ x,wd0.setCell ⟨F,2,none⟩ (.pointer (some ⟨I0,0,none⟩)) = x:=⟨_,rfl⟩
 have hsv:Save wd0 we0 F:=by rw [← hwe];exact Save.setCell _ _ _ _
 have HFe0:Hid (we0.heap[F]? = some (.cells #[.int .i64 wd,.int .i64 h,.pointer (some ⟨I0,0,none⟩),.pointer none,.pointer none,.pointer (some ⟨P,0,none⟩)] 128 (0,0))):=by show _ = _;rw [← hwe,setCell_eq_setRow _ F 2 _ _ _ _ HFd0.out];exact setRow_heap _ F _ _ _ _ HFd0.out
 have HSe0:Hid (we0.heap[S]? = some (.cells #[.int .i64 0,.int .i64 0,.int .i64 0] 53 (0,0))):=by show _ = _;rw [hsv.block _ (lt_of_block HSd0.out) (blkT HSd0.out HFd0.out (by decide))];exact HSd0.out
 have HPe0:Hid (we0.heap[P]? = some (.cells (p_row fun _=>0) 131 (0,0))):=by show _ = _;rw [hsv.block _ (lt_of_block HPd0.out) (blkT HPd0.out HFd0.out (by decide))];exact HPd0.out
 have HB0e0:Hid (we0.heap[B0]? = some (.cells #[.slice none 0 0] 139 (0,0))):=by show _ = _;rw [hsv.block _ (lt_of_block HB0d0.out) (blkT HB0d0.out HFd0.out (by decide))];exact HB0d0.out
 have HI0e0:Hid (we0.heap[I0]? = some (.cells #[.pointer (some ⟨B0,0,none⟩),.int .i64 ref,.int .i64 0] 134 (0,0))):=by show _ = _;rw [hsv.block _ (lt_of_block HI0d0.out) (blkT HI0d0.out HFd0.out (by decide))];exact HI0d0.out
 have HLe0:=hide (HLd0.out.trans (hsv.below HLd0.out.size HLF.out))
 have HWe:=hide hwe
 clear hwe
 refine spec_step rfl (fun K hK=>?_)
 refine ⟨by rfl,?_⟩
 unfold upM
 go_simp
 rw [HWe.out]
 refine hK _ _ ?_
 clear hK K c0 f0 hsv HWe hnx HFd0 HSd0 HPd0 HB0d0 HI0d0 HLd0
 refine walkP_done ?_
 have c0:we0.cell? ⟨S,0,none⟩ = some (.int .i64 0):=by rw [cell_of_row we0 _ 0 _ _ _ HSe0.out];rfl
 have f0:we0.frozen? ⟨S,0,none⟩ = false:=by simp [World.frozen?,HSe0.out]
 obtain ⟨wa1,hwf⟩:∃ x,we0.setCell ⟨S,0,none⟩ (.int .i64 stock) = x:=⟨_,rfl⟩
 have hsv:Save we0 wa1 S:=by rw [← hwf];exact Save.setCell _ _ _ _
 have HSa1:Hid (wa1.heap[S]? = some (.cells #[.int .i64 stock,.int .i64 0,.int .i64 0] 53 (0,0))):=by show _ = _;rw [← hwf,setCell_eq_setRow _ S 0 _ _ _ _ HSe0.out];exact setRow_heap _ S _ _ _ _ HSe0.out
 have HFa1:Hid (wa1.heap[F]? = some (.cells #[.int .i64 wd,.int .i64 h,.pointer (some ⟨I0,0,none⟩),.pointer none,.pointer none,.pointer (some ⟨P,0,none⟩)] 128 (0,0))):=by show _ = _;rw [hsv.block _ (lt_of_block HFe0.out) (blkT HFe0.out HSe0.out (by decide))];exact HFe0.out
 have HPa1:Hid (wa1.heap[P]? = some (.cells (p_row fun _=>0) 131 (0,0))):=by show _ = _;rw [hsv.block _ (lt_of_block HPe0.out) (blkT HPe0.out HSe0.out (by decide))];exact HPe0.out
 have HI0a1:Hid (wa1.heap[I0]? = some (.cells #[.pointer (some ⟨B0,0,none⟩),.int .i64 ref,.int .i64 0] 134 (0,0))):=by show _ = _;rw [hsv.block _ (lt_of_block HI0e0.out) (blkT HI0e0.out HSe0.out (by decide))];exact HI0e0.out
 have HB0a1:Hid (wa1.heap[B0]? = some (.cells #[.slice none 0 0] 139 (0,0))):=by show _ = _;rw [hsv.block _ (lt_of_block HB0e0.out) (blkT HB0e0.out HSe0.out (by decide))];exact HB0e0.out
 have HLa1:=hide (HLe0.out.trans (hsv.below HLe0.out.size HLS.out))
 have HWf:=hide hwf
 clear hwf hsv HFe0 HPe0 HI0e0 HB0e0 HLe0
 go_wp2
 rw [HWf.out]
 clear c0 f0 HWf HSe0
 rw [rounds_succ]
 go_wp2_with fail
 have hnx:Nonempty World:=⟨wa1⟩
 refine region_plan (X:=World) (val:=fun x=>x) (.read 0 (.read 1 (.read 3 (.read 4 (.read 7 (.read 8 (.one 2 (.read 5 (.one 6 (.read 9 (.one 10 .done))))))))))) (by kernel_rfl) (by kernel_rfl) wa1.drew rfl ?_
 have hbd:Below wa1.heap.size wa1 wa1.drew:=⟨rfl,rfl,rfl,Nat.le_refl _,fun _ _=>rfl⟩
 have HFb1:Hid (wa1.drew.heap[F]? = some (.cells #[.int .i64 wd,.int .i64 h,.pointer (some ⟨I0,0,none⟩),.pointer none,.pointer none,.pointer (some ⟨P,0,none⟩)] 128 (0,0))):=by show _ = _;rw [hbd.block _ (lt_of_block HFa1.out)];exact HFa1.out
 have HSb1:Hid (wa1.drew.heap[S]? = some (.cells #[.int .i64 stock,.int .i64 0,.int .i64 0] 53 (0,0))):=by show _ = _;rw [hbd.block _ (lt_of_block HSa1.out)];exact HSa1.out
 have HPb1:Hid (wa1.drew.heap[P]? = some (.cells (p_row fun _=>0) 131 (0,0))):=by show _ = _;rw [hbd.block _ (lt_of_block HPa1.out)];exact HPa1.out
 have HI0b1:Hid (wa1.drew.heap[I0]? = some (.cells #[.pointer (some ⟨B0,0,none⟩),.int .i64 ref,.int .i64 0] 134 (0,0))):=by show _ = _;rw [hbd.block _ (lt_of_block HI0a1.out)];exact HI0a1.out
 have HB0b1:Hid (wa1.drew.heap[B0]? = some (.cells #[.slice none 0 0] 139 (0,0))):=by show _ = _;rw [hbd.block _ (lt_of_block HB0a1.out)];exact HB0a1.out
 have HLb1:=hide (HLa1.out.trans (hbd.mono HLa1.out.size))
 clear hbd HFa1 HSa1 HPa1 HI0a1 HB0a1 HLa1
 show walkP _ _ _ _ _ _ wa1.drew
 generalize wa1.drew = wb1 at *
 iterate 6 (refine walkP_read rfl (fun K hK=>?_);refine ⟨by rfl,?_⟩;unfold isRd;go_simp;refine hK _ ?_;clear hK K)
 refine spec_step rfl (fun K hK=>?_)
 refine ⟨by rfl,?_⟩
 unfold upM
 go_simp
 refine (newBook_any _).mono ?_
 rintro e wc1 ⟨rfl,hwc⟩
 have hbc:Below wb1.heap.size wb1 wc1:=by rw [hwc];exact (Below.refl _ _).alloc (Nat.le_refl _) _
 obtain ⟨B1,hB1⟩:∃ B,wb1.heap.size = B:=⟨_,rfl⟩
 have HB1c1:Hid (wc1.heap[B1]? = some (.cells #[.slice none 0 0] 139 (0,0))):=by show _ = _;rw [hwc,← hB1];exact heap_alloc_new _ _
 have HFc1:Hid (wc1.heap[F]? = some (.cells #[.int .i64 wd,.int .i64 h,.pointer (some ⟨I0,0,none⟩),.pointer none,.pointer none,.pointer (some ⟨P,0,none⟩)] 128 (0,0))):=by show _ = _;rw [hbc.block _ (lt_of_block HFb1.out)];exact HFb1.out
 have HSc1:Hid (wc1.heap[S]? = some (.cells #[.int .i64 stock,.int .i64 0,.int .i64 0] 53 (0,0))):=by show _ = _;rw [hbc.block _ (lt_of_block HSb1.out)];exact HSb1.out
 have HPc1:Hid (wc1.heap[P]? = some (.cells (p_row fun _=>0) 131 (0,0))):=by show _ = _;rw [hbc.block _ (lt_of_block HPb1.out)];exact HPb1.out
 have HI0c1:Hid (wc1.heap[I0]? = some (.cells #[.pointer (some ⟨B0,0,none⟩),.int .i64 ref,.int .i64 0] 134 (0,0))):=by show _ = _;rw [hbc.block _ (lt_of_block HI0b1.out)];exact HI0b1.out
 have HB0c1:Hid (wc1.heap[B0]? = some (.cells #[.slice none 0 0] 139 (0,0))):=by show _ = _;rw [hbc.block _ (lt_of_block HB0b1.out)];exact HB0b1.out
 have HLc1:=hide (HLb1.out.trans (hbc.mono HLb1.out.size))
 have HLB1:Hid (w.heap.size≤B1):=by have:=HLb1.out.size;show _≤_;omega
 refine ⟨_,rfl,hK _ _ ?_⟩
 rw [hB1]
 have HNE1:Hid (B1≠F∧B1≠S∧B1≠P∧B1≠B0):=by
  have l1:=lt_of_block HFb1.out;have l2:=lt_of_block HSb1.out;have l3:=lt_of_block HPb1.out
  have l40:=lt_of_block HB0b1.out
  refine ⟨by omega,by omega,by omega,by omega⟩
 clear hK K hbc hwc hB1 HFb1 HSb1 HPb1 HI0b1 HB0b1 HLb1
 refine walkP_read rfl (fun K hK=>?_);refine ⟨by rfl,?_⟩;unfold isRd;go_simp;refine hK _ ?_;clear hK K
 refine spec_step rfl (fun K hK=>?_)
 refine ⟨by rfl,?_⟩
 unfold upM
 go_simp
 obtain ⟨I1,hI1⟩:∃ I,wc1.heap.size = I:=⟨_,rfl⟩
 obtain ⟨wd1,hwd⟩:∃ x,wc1.alloc (.cells #[.pointer (some ⟨B1,0,none⟩),.int .i64 ref,.int .i64 0] 134) = x:=⟨_,rfl⟩
 have hbd:Below wc1.heap.size wc1 wd1:=by rw [← hwd];exact (Below.refl _ _).alloc (Nat.le_refl _) _
 have HI1d1:Hid (wd1.heap[I1]? = some (.cells #[.pointer (some ⟨B1,0,none⟩),.int .i64 ref,.int .i64 0] 134 (0,0))):=by show _ = _;rw [← hwd,← hI1];exact heap_alloc_new _ _
 rw [hI1,hwd]
 have HFd1:Hid (wd1.heap[F]? = some (.cells #[.int .i64 wd,.int .i64 h,.pointer (some ⟨I0,0,none⟩),.pointer none,.pointer none,.pointer (some ⟨P,0,none⟩)] 128 (0,0))):=by show _ = _;rw [hbd.block _ (lt_of_block HFc1.out)];exact HFc1.out
 have HSd1:Hid (wd1.heap[S]? = some (.cells #[.int .i64 stock,.int .i64 0,.int .i64 0] 53 (0,0))):=by show _ = _;rw [hbd.block _ (lt_of_block HSc1.out)];exact HSc1.out
 have HPd1:Hid (wd1.heap[P]? = some (.cells (p_row fun _=>0) 131 (0,0))):=by show _ = _;rw [hbd.block _ (lt_of_block HPc1.out)];exact HPc1.out
 have HI0d1:Hid (wd1.heap[I0]? = some (.cells #[.pointer (some ⟨B0,0,none⟩),.int .i64 ref,.int .i64 0] 134 (0,0))):=by show _ = _;rw [hbd.block _ (lt_of_block HI0c1.out)];exact HI0c1.out
 have HB0d1:Hid (wd1.heap[B0]? = some (.cells #[.slice none 0 0] 139 (0,0))):=by show _ = _;rw [hbd.block _ (lt_of_block HB0c1.out)];exact HB0c1.out
 have HB1d1:Hid (wd1.heap[B1]? = some (.cells #[.slice none 0 0] 139 (0,0))):=by show _ = _;rw [hbd.block _ (lt_of_block HB1c1.out)];exact HB1c1.out
 have HLd1:=hide (HLc1.out.trans (hbd.mono HLc1.out.size))
 have HLI1:Hid (w.heap.size≤I1):=by have:=HLc1.out.size;show _≤_;omega
 have HNI1:Hid (I1≠F∧I1≠S∧I1≠I0):=by
  have l1:=lt_of_block HFc1.out;have l2:=lt_of_block HSc1.out
  have l40:=lt_of_block HI0c1.out
  refine ⟨by omega,by omega,by omega⟩
 refine hK _ _ ?_
 clear hK K hbd hwd hI1 HFc1 HSc1 HPc1 HI0c1 HB0c1 HB1c1 HLc1
 refine walkP_read rfl (fun K hK=>?_);refine ⟨by rfl,?_⟩;unfold isRd;go_simp;refine hK _ ?_;clear hK K
 have c0:wd1.cell? ⟨F,3,none⟩ = some (.pointer none):=by rw [cell_of_row wd1 _ 3 _ _ _ HFd1.out];rfl
 have f0:wd1.frozen? ⟨F,3,none⟩ = false:=by simp [World.frozen?,HFd1.out]
 obtain ⟨we1,hwe⟩:∃ x,wd1.setCell ⟨F,3,none⟩ (.pointer (some ⟨I1,0,none⟩)) = x:=⟨_,rfl⟩
 have hsv:Save wd1 we1 F:=by rw [← hwe];exact Save.setCell _ _ _ _
 have HFe1:Hid (we1.heap[F]? = some (.cells #[.int .i64 wd,.int .i64 h,.pointer (some ⟨I0,0,none⟩),.pointer (some ⟨I1,0,none⟩),.pointer none,.pointer (some ⟨P,0,none⟩)] 128 (0,0))):=by show _ = _;rw [← hwe,setCell_eq_setRow _ F 3 _ _ _ _ HFd1.out];exact setRow_heap _ F _ _ _ _ HFd1.out
 have HSe1:Hid (we1.heap[S]? = some (.cells #[.int .i64 stock,.int .i64 0,.int .i64 0] 53 (0,0))):=by show _ = _;rw [hsv.block _ (lt_of_block HSd1.out) (blkT HSd1.out HFd1.out (by decide))];exact HSd1.out
 have HPe1:Hid (we1.heap[P]? = some (.cells (p_row fun _=>0) 131 (0,0))):=by show _ = _;rw [hsv.block _ (lt_of_block HPd1.out) (blkT HPd1.out HFd1.out (by decide))];exact HPd1.out
 have HI0e1:Hid (we1.heap[I0]? = some (.cells #[.pointer (some ⟨B0,0,none⟩),.int .i64 ref,.int .i64 0] 134 (0,0))):=by show _ = _;rw [hsv.block _ (lt_of_block HI0d1.out) (blkT HI0d1.out HFd1.out (by decide))];exact HI0d1.out
 have HB0e1:Hid (we1.heap[B0]? = some (.cells #[.slice none 0 0] 139 (0,0))):=by show _ = _;rw [hsv.block _ (lt_of_block HB0d1.out) (blkT HB0d1.out HFd1.out (by decide))];exact HB0d1.out
 have HB1e1:Hid (we1.heap[B1]? = some (.cells #[.slice none 0 0] 139 (0,0))):=by show _ = _;rw [hsv.block _ (lt_of_block HB1d1.out) (blkT HB1d1.out HFd1.out (by decide))];exact HB1d1.out
 have HI1e1:Hid (we1.heap[I1]? = some (.cells #[.pointer (some ⟨B1,0,none⟩),.int .i64 ref,.int .i64 0] 134 (0,0))):=by show _ = _;rw [hsv.block _ (lt_of_block HI1d1.out) (blkT HI1d1.out HFd1.out (by decide))];exact HI1d1.out
 have HLe1:=hide (HLd1.out.trans (hsv.below HLd1.out.size HLF.out))
 have HWe:=hide hwe
 clear hwe
 refine spec_step rfl (fun K hK=>?_)
 refine ⟨by rfl,?_⟩
 unfold upM
 go_simp
 rw [HWe.out]
 refine hK _ _ ?_
 clear hK K c0 f0 hsv HWe hnx HFd1 HSd1 HPd1 HI0d1 HB0d1 HB1d1 HI1d1 HLd1
 refine walkP_done ?_
 have c0:we1.cell? ⟨S,1,none⟩ = some (.int .i64 0):=by rw [cell_of_row we1 _ 1 _ _ _ HSe1.out];rfl
 have f0:we1.frozen? ⟨S,1,none⟩ = false:=by simp [World.frozen?,HSe1.out]
 obtain ⟨wa2,hwf⟩:∃ x,we1.setCell ⟨S,1,none⟩ (.int .i64 stock) = x:=⟨_,rfl⟩
 have hsv:Save we1 wa2 S:=by rw [← hwf];exact Save.setCell _ _ _ _
 have HSa2:Hid (wa2.heap[S]? = some (.cells #[.int .i64 stock,.int .i64 stock,.int .i64 0] 53 (0,0))):=by show _ = _;rw [← hwf,setCell_eq_setRow _ S 1 _ _ _ _ HSe1.out];exact setRow_heap _ S _ _ _ _ HSe1.out
 have HFa2:Hid (wa2.heap[F]? = some (.cells #[.int .i64 wd,.int .i64 h,.pointer (some ⟨I0,0,none⟩),.pointer (some ⟨I1,0,none⟩),.pointer none,.pointer (some ⟨P,0,none⟩)] 128 (0,0))):=by show _ = _;rw [hsv.block _ (lt_of_block HFe1.out) (blkT HFe1.out HSe1.out (by decide))];exact HFe1.out
 have HPa2:Hid (wa2.heap[P]? = some (.cells (p_row fun _=>0) 131 (0,0))):=by show _ = _;rw [hsv.block _ (lt_of_block HPe1.out) (blkT HPe1.out HSe1.out (by decide))];exact HPe1.out
 have HI0a2:Hid (wa2.heap[I0]? = some (.cells #[.pointer (some ⟨B0,0,none⟩),.int .i64 ref,.int .i64 0] 134 (0,0))):=by show _ = _;rw [hsv.block _ (lt_of_block HI0e1.out) (blkT HI0e1.out HSe1.out (by decide))];exact HI0e1.out
 have HB0a2:Hid (wa2.heap[B0]? = some (.cells #[.slice none 0 0] 139 (0,0))):=by show _ = _;rw [hsv.block _ (lt_of_block HB0e1.out) (blkT HB0e1.out HSe1.out (by decide))];exact HB0e1.out
 have HI1a2:Hid (wa2.heap[I1]? = some (.cells #[.pointer (some ⟨B1,0,none⟩),.int .i64 ref,.int .i64 0] 134 (0,0))):=by show _ = _;rw [hsv.block _ (lt_of_block HI1e1.out) (blkT HI1e1.out HSe1.out (by decide))];exact HI1e1.out
 have HB1a2:Hid (wa2.heap[B1]? = some (.cells #[.slice none 0 0] 139 (0,0))):=by show _ = _;rw [hsv.block _ (lt_of_block HB1e1.out) (blkT HB1e1.out HSe1.out (by decide))];exact HB1e1.out
 have HLa2:=hide (HLe1.out.trans (hsv.below HLe1.out.size HLS.out))
 have HWf:=hide hwf
 clear hwf hsv HFe1 HPe1 HI0e1 HB0e1 HI1e1 HB1e1 HLe1
 go_wp2
 rw [HWf.out]
 clear c0 f0 HWf HSe1
 rw [rounds_succ]
 go_wp2_with fail
 have hnx:Nonempty World:=⟨wa2⟩
 refine region_plan (X:=World) (val:=fun x=>x) (.read 0 (.read 1 (.read 3 (.read 4 (.read 7 (.read 8 (.one 2 (.read 5 (.one 6 (.read 9 (.one 10 .done))))))))))) (by kernel_rfl) (by kernel_rfl) wa2.drew rfl ?_
 have hbd:Below wa2.heap.size wa2 wa2.drew:=⟨rfl,rfl,rfl,Nat.le_refl _,fun _ _=>rfl⟩
 have HFb2:Hid (wa2.drew.heap[F]? = some (.cells #[.int .i64 wd,.int .i64 h,.pointer (some ⟨I0,0,none⟩),.pointer (some ⟨I1,0,none⟩),.pointer none,.pointer (some ⟨P,0,none⟩)] 128 (0,0))):=by show _ = _;rw [hbd.block _ (lt_of_block HFa2.out)];exact HFa2.out
 have HSb2:Hid (wa2.drew.heap[S]? = some (.cells #[.int .i64 stock,.int .i64 stock,.int .i64 0] 53 (0,0))):=by show _ = _;rw [hbd.block _ (lt_of_block HSa2.out)];exact HSa2.out
 have HPb2:Hid (wa2.drew.heap[P]? = some (.cells (p_row fun _=>0) 131 (0,0))):=by show _ = _;rw [hbd.block _ (lt_of_block HPa2.out)];exact HPa2.out
 have HI0b2:Hid (wa2.drew.heap[I0]? = some (.cells #[.pointer (some ⟨B0,0,none⟩),.int .i64 ref,.int .i64 0] 134 (0,0))):=by show _ = _;rw [hbd.block _ (lt_of_block HI0a2.out)];exact HI0a2.out
 have HB0b2:Hid (wa2.drew.heap[B0]? = some (.cells #[.slice none 0 0] 139 (0,0))):=by show _ = _;rw [hbd.block _ (lt_of_block HB0a2.out)];exact HB0a2.out
 have HI1b2:Hid (wa2.drew.heap[I1]? = some (.cells #[.pointer (some ⟨B1,0,none⟩),.int .i64 ref,.int .i64 0] 134 (0,0))):=by show _ = _;rw [hbd.block _ (lt_of_block HI1a2.out)];exact HI1a2.out
 have HB1b2:Hid (wa2.drew.heap[B1]? = some (.cells #[.slice none 0 0] 139 (0,0))):=by show _ = _;rw [hbd.block _ (lt_of_block HB1a2.out)];exact HB1a2.out
 have HLb2:=hide (HLa2.out.trans (hbd.mono HLa2.out.size))
 clear hbd HFa2 HSa2 HPa2 HI0a2 HB0a2 HI1a2 HB1a2 HLa2
 show walkP _ _ _ _ _ _ wa2.drew
 generalize wa2.drew = wb2 at *
 iterate 6 (refine walkP_read rfl (fun K hK=>?_);refine ⟨by rfl,?_⟩;unfold isRd;go_simp;refine hK _ ?_;clear hK K)
 refine spec_step rfl (fun K hK=>?_)
 refine ⟨by rfl,?_⟩
 unfold upM
 go_simp
 refine (newBook_any _).mono ?_
 rintro e wc2 ⟨rfl,hwc⟩
 have hbc:Below wb2.heap.size wb2 wc2:=by rw [hwc];exact (Below.refl _ _).alloc (Nat.le_refl _) _
 obtain ⟨B2,hB2⟩:∃ B,wb2.heap.size = B:=⟨_,rfl⟩
 have HB2c2:Hid (wc2.heap[B2]? = some (.cells #[.slice none 0 0] 139 (0,0))):=by show _ = _;rw [hwc,← hB2];exact heap_alloc_new _ _
 have HFc2:Hid (wc2.heap[F]? = some (.cells #[.int .i64 wd,.int .i64 h,.pointer (some ⟨I0,0,none⟩),.pointer (some ⟨I1,0,none⟩),.pointer none,.pointer (some ⟨P,0,none⟩)] 128 (0,0))):=by show _ = _;rw [hbc.block _ (lt_of_block HFb2.out)];exact HFb2.out
 have HSc2:Hid (wc2.heap[S]? = some (.cells #[.int .i64 stock,.int .i64 stock,.int .i64 0] 53 (0,0))):=by show _ = _;rw [hbc.block _ (lt_of_block HSb2.out)];exact HSb2.out
 have HPc2:Hid (wc2.heap[P]? = some (.cells (p_row fun _=>0) 131 (0,0))):=by show _ = _;rw [hbc.block _ (lt_of_block HPb2.out)];exact HPb2.out
 have HI0c2:Hid (wc2.heap[I0]? = some (.cells #[.pointer (some ⟨B0,0,none⟩),.int .i64 ref,.int .i64 0] 134 (0,0))):=by show _ = _;rw [hbc.block _ (lt_of_block HI0b2.out)];exact HI0b2.out
 have HB0c2:Hid (wc2.heap[B0]? = some (.cells #[.slice none 0 0] 139 (0,0))):=by show _ = _;rw [hbc.block _ (lt_of_block HB0b2.out)];exact HB0b2.out
 have HI1c2:Hid (wc2.heap[I1]? = some (.cells #[.pointer (some ⟨B1,0,none⟩),.int .i64 ref,.int .i64 0] 134 (0,0))):=by show _ = _;rw [hbc.block _ (lt_of_block HI1b2.out)];exact HI1b2.out
 have HB1c2:Hid (wc2.heap[B1]? = some (.cells #[.slice none 0 0] 139 (0,0))):=by show _ = _;rw [hbc.block _ (lt_of_block HB1b2.out)];exact HB1b2.out
 have HLc2:=hide (HLb2.out.trans (hbc.mono HLb2.out.size))
 have HLB2:Hid (w.heap.size≤B2):=by have:=HLb2.out.size;show _≤_;omega
 refine ⟨_,rfl,hK _ _ ?_⟩
 rw [hB2]
 have HNE2:Hid (B2≠F∧B2≠S∧B2≠P∧B2≠B0∧B2≠B1):=by
  have l1:=lt_of_block HFb2.out;have l2:=lt_of_block HSb2.out;have l3:=lt_of_block HPb2.out
  have l40:=lt_of_block HB0b2.out
  have l41:=lt_of_block HB1b2.out
  refine ⟨by omega,by omega,by omega,by omega,by omega⟩
 clear hK K hbc hwc hB2 HFb2 HSb2 HPb2 HI0b2 HB0b2 HI1b2 HB1b2 HLb2
 refine walkP_read rfl (fun K hK=>?_);refine ⟨by rfl,?_⟩;unfold isRd;go_simp;refine hK _ ?_;clear hK K
 refine spec_step rfl (fun K hK=>?_)
 refine ⟨by rfl,?_⟩
 unfold upM
 go_simp
 obtain ⟨I2,hI2⟩:∃ I,wc2.heap.size = I:=⟨_,rfl⟩
 obtain ⟨wd2,hwd⟩:∃ x,wc2.alloc (.cells #[.pointer (some ⟨B2,0,none⟩),.int .i64 ref,.int .i64 0] 134) = x:=⟨_,rfl⟩
 have hbd:Below wc2.heap.size wc2 wd2:=by rw [← hwd];exact (Below.refl _ _).alloc (Nat.le_refl _) _
 have HI2d2:Hid (wd2.heap[I2]? = some (.cells #[.pointer (some ⟨B2,0,none⟩),.int .i64 ref,.int .i64 0] 134 (0,0))):=by show _ = _;rw [← hwd,← hI2];exact heap_alloc_new _ _
 rw [hI2,hwd]
 have HFd2:Hid (wd2.heap[F]? = some (.cells #[.int .i64 wd,.int .i64 h,.pointer (some ⟨I0,0,none⟩),.pointer (some ⟨I1,0,none⟩),.pointer none,.pointer (some ⟨P,0,none⟩)] 128 (0,0))):=by show _ = _;rw [hbd.block _ (lt_of_block HFc2.out)];exact HFc2.out
 have HSd2:Hid (wd2.heap[S]? = some (.cells #[.int .i64 stock,.int .i64 stock,.int .i64 0] 53 (0,0))):=by show _ = _;rw [hbd.block _ (lt_of_block HSc2.out)];exact HSc2.out
 have HPd2:Hid (wd2.heap[P]? = some (.cells (p_row fun _=>0) 131 (0,0))):=by show _ = _;rw [hbd.block _ (lt_of_block HPc2.out)];exact HPc2.out
 have HI0d2:Hid (wd2.heap[I0]? = some (.cells #[.pointer (some ⟨B0,0,none⟩),.int .i64 ref,.int .i64 0] 134 (0,0))):=by show _ = _;rw [hbd.block _ (lt_of_block HI0c2.out)];exact HI0c2.out
 have HB0d2:Hid (wd2.heap[B0]? = some (.cells #[.slice none 0 0] 139 (0,0))):=by show _ = _;rw [hbd.block _ (lt_of_block HB0c2.out)];exact HB0c2.out
 have HI1d2:Hid (wd2.heap[I1]? = some (.cells #[.pointer (some ⟨B1,0,none⟩),.int .i64 ref,.int .i64 0] 134 (0,0))):=by show _ = _;rw [hbd.block _ (lt_of_block HI1c2.out)];exact HI1c2.out
 have HB1d2:Hid (wd2.heap[B1]? = some (.cells #[.slice none 0 0] 139 (0,0))):=by show _ = _;rw [hbd.block _ (lt_of_block HB1c2.out)];exact HB1c2.out
 have HB2d2:Hid (wd2.heap[B2]? = some (.cells #[.slice none 0 0] 139 (0,0))):=by show _ = _;rw [hbd.block _ (lt_of_block HB2c2.out)];exact HB2c2.out
 have HLd2:=hide (HLc2.out.trans (hbd.mono HLc2.out.size))
 have HLI2:Hid (w.heap.size≤I2):=by have:=HLc2.out.size;show _≤_;omega
 have HNI2:Hid (I2≠F∧I2≠S∧I2≠I0∧I2≠I1):=by
  have l1:=lt_of_block HFc2.out;have l2:=lt_of_block HSc2.out
  have l40:=lt_of_block HI0c2.out
  have l41:=lt_of_block HI1c2.out
  refine ⟨by omega,by omega,by omega,by omega⟩
 refine hK _ _ ?_
 clear hK K hbd hwd hI2 HFc2 HSc2 HPc2 HI0c2 HB0c2 HI1c2 HB1c2 HB2c2 HLc2
 refine walkP_read rfl (fun K hK=>?_);refine ⟨by rfl,?_⟩;unfold isRd;go_simp;refine hK _ ?_;clear hK K
 have c0:wd2.cell? ⟨F,4,none⟩ = some (.pointer none):=by rw [cell_of_row wd2 _ 4 _ _ _ HFd2.out];rfl
 have f0:wd2.frozen? ⟨F,4,none⟩ = false:=by simp [World.frozen?,HFd2.out]
 obtain ⟨we2,hwe⟩:∃ x,wd2.setCell ⟨F,4,none⟩ (.pointer (some ⟨I2,0,none⟩)) = x:=⟨_,rfl⟩
 have hsv:Save wd2 we2 F:=by rw [← hwe];exact Save.setCell _ _ _ _
 have HFe2:Hid (we2.heap[F]? = some (.cells #[.int .i64 wd,.int .i64 h,.pointer (some ⟨I0,0,none⟩),.pointer (some ⟨I1,0,none⟩),.pointer (some ⟨I2,0,none⟩),.pointer (some ⟨P,0,none⟩)] 128 (0,0))):=by show _ = _;rw [← hwe,setCell_eq_setRow _ F 4 _ _ _ _ HFd2.out];exact setRow_heap _ F _ _ _ _ HFd2.out
 have HSe2:Hid (we2.heap[S]? = some (.cells #[.int .i64 stock,.int .i64 stock,.int .i64 0] 53 (0,0))):=by show _ = _;rw [hsv.block _ (lt_of_block HSd2.out) (blkT HSd2.out HFd2.out (by decide))];exact HSd2.out
 have HPe2:Hid (we2.heap[P]? = some (.cells (p_row fun _=>0) 131 (0,0))):=by show _ = _;rw [hsv.block _ (lt_of_block HPd2.out) (blkT HPd2.out HFd2.out (by decide))];exact HPd2.out
 have HI0e2:Hid (we2.heap[I0]? = some (.cells #[.pointer (some ⟨B0,0,none⟩),.int .i64 ref,.int .i64 0] 134 (0,0))):=by show _ = _;rw [hsv.block _ (lt_of_block HI0d2.out) (blkT HI0d2.out HFd2.out (by decide))];exact HI0d2.out
 have HB0e2:Hid (we2.heap[B0]? = some (.cells #[.slice none 0 0] 139 (0,0))):=by show _ = _;rw [hsv.block _ (lt_of_block HB0d2.out) (blkT HB0d2.out HFd2.out (by decide))];exact HB0d2.out
 have HI1e2:Hid (we2.heap[I1]? = some (.cells #[.pointer (some ⟨B1,0,none⟩),.int .i64 ref,.int .i64 0] 134 (0,0))):=by show _ = _;rw [hsv.block _ (lt_of_block HI1d2.out) (blkT HI1d2.out HFd2.out (by decide))];exact HI1d2.out
 have HB1e2:Hid (we2.heap[B1]? = some (.cells #[.slice none 0 0] 139 (0,0))):=by show _ = _;rw [hsv.block _ (lt_of_block HB1d2.out) (blkT HB1d2.out HFd2.out (by decide))];exact HB1d2.out
 have HB2e2:Hid (we2.heap[B2]? = some (.cells #[.slice none 0 0] 139 (0,0))):=by show _ = _;rw [hsv.block _ (lt_of_block HB2d2.out) (blkT HB2d2.out HFd2.out (by decide))];exact HB2d2.out
 have HI2e2:Hid (we2.heap[I2]? = some (.cells #[.pointer (some ⟨B2,0,none⟩),.int .i64 ref,.int .i64 0] 134 (0,0))):=by show _ = _;rw [hsv.block _ (lt_of_block HI2d2.out) (blkT HI2d2.out HFd2.out (by decide))];exact HI2d2.out
 have HLe2:=hide (HLd2.out.trans (hsv.below HLd2.out.size HLF.out))
 have HWe:=hide hwe
 clear hwe
 refine spec_step rfl (fun K hK=>?_)
 refine ⟨by rfl,?_⟩
 unfold upM
 go_simp
 rw [HWe.out]
 refine hK _ _ ?_
 clear hK K c0 f0 hsv HWe hnx HFd2 HSd2 HPd2 HI0d2 HB0d2 HI1d2 HB1d2 HB2d2 HI2d2 HLd2
 refine walkP_done ?_
 have c0:we2.cell? ⟨S,2,none⟩ = some (.int .i64 0):=by rw [cell_of_row we2 _ 2 _ _ _ HSe2.out];rfl
 have f0:we2.frozen? ⟨S,2,none⟩ = false:=by simp [World.frozen?,HSe2.out]
 obtain ⟨wa3,hwf⟩:∃ x,we2.setCell ⟨S,2,none⟩ (.int .i64 stock) = x:=⟨_,rfl⟩
 have hsv:Save we2 wa3 S:=by rw [← hwf];exact Save.setCell _ _ _ _
 have HSa3:Hid (wa3.heap[S]? = some (.cells #[.int .i64 stock,.int .i64 stock,.int .i64 stock] 53 (0,0))):=by show _ = _;rw [← hwf,setCell_eq_setRow _ S 2 _ _ _ _ HSe2.out];exact setRow_heap _ S _ _ _ _ HSe2.out
 have HFa3:Hid (wa3.heap[F]? = some (.cells #[.int .i64 wd,.int .i64 h,.pointer (some ⟨I0,0,none⟩),.pointer (some ⟨I1,0,none⟩),.pointer (some ⟨I2,0,none⟩),.pointer (some ⟨P,0,none⟩)] 128 (0,0))):=by show _ = _;rw [hsv.block _ (lt_of_block HFe2.out) (blkT HFe2.out HSe2.out (by decide))];exact HFe2.out
 have HPa3:Hid (wa3.heap[P]? = some (.cells (p_row fun _=>0) 131 (0,0))):=by show _ = _;rw [hsv.block _ (lt_of_block HPe2.out) (blkT HPe2.out HSe2.out (by decide))];exact HPe2.out
 have HI0a3:Hid (wa3.heap[I0]? = some (.cells #[.pointer (some ⟨B0,0,none⟩),.int .i64 ref,.int .i64 0] 134 (0,0))):=by show _ = _;rw [hsv.block _ (lt_of_block HI0e2.out) (blkT HI0e2.out HSe2.out (by decide))];exact HI0e2.out
 have HB0a3:Hid (wa3.heap[B0]? = some (.cells #[.slice none 0 0] 139 (0,0))):=by show _ = _;rw [hsv.block _ (lt_of_block HB0e2.out) (blkT HB0e2.out HSe2.out (by decide))];exact HB0e2.out
 have HI1a3:Hid (wa3.heap[I1]? = some (.cells #[.pointer (some ⟨B1,0,none⟩),.int .i64 ref,.int .i64 0] 134 (0,0))):=by show _ = _;rw [hsv.block _ (lt_of_block HI1e2.out) (blkT HI1e2.out HSe2.out (by decide))];exact HI1e2.out
 have HB1a3:Hid (wa3.heap[B1]? = some (.cells #[.slice none 0 0] 139 (0,0))):=by show _ = _;rw [hsv.block _ (lt_of_block HB1e2.out) (blkT HB1e2.out HSe2.out (by decide))];exact HB1e2.out
 have HI2a3:Hid (wa3.heap[I2]? = some (.cells #[.pointer (some ⟨B2,0,none⟩),.int .i64 ref,.int .i64 0] 134 (0,0))):=by show _ = _;rw [hsv.block _ (lt_of_block HI2e2.out) (blkT HI2e2.out HSe2.out (by decide))];exact HI2e2.out
 have HB2a3:Hid (wa3.heap[B2]? = some (.cells #[.slice none 0 0] 139 (0,0))):=by show _ = _;rw [hsv.block _ (lt_of_block HB2e2.out) (blkT HB2e2.out HSe2.out (by decide))];exact HB2e2.out
 have HLa3:=hide (HLe2.out.trans (hsv.below HLe2.out.size HLS.out))
 have HWf:=hide hwf
 clear hwf hsv HFe2 HPe2 HI0e2 HB0e2 HI1e2 HB1e2 HI2e2 HB2e2 HLe2
 go_wp2
 rw [HWf.out]
 clear c0 f0 HWf HSe2
 rw [rounds_succ]
 go_wp2
 obtain ⟨I,hI⟩:∃ I:Nat→Nat,I = fun j=>if j = 0 then I0 else if j = 1 then I1 else I2:=⟨_,rfl⟩
 obtain ⟨b,hb⟩:∃ b:Nat→Nat,b = fun j=>if j = 0 then B0 else if j = 1 then B1 else B2:=⟨_,rfl⟩
 have hI0:I 0 = I0:=by rw [hI];rfl
 have hI1:I 1 = I1:=by rw [hI];rfl
 have hI2:I 2 = I2:=by rw [hI];rfl
 have hb0:b 0 = B0:=by rw [hb];rfl
 have hb1:b 1 = B1:=by rw [hb];rfl
 have hb2:b 2 = B2:=by rw [hb];rfl
 have c3:∀ j,j < 3→j = 0∨j = 1∨j = 2:=fun j hj=>by omega
 have hfl:PFl w wa3 F P I b (fun _=>.slice none 0 0) (fun _=>[]) (Fl.gift cash stock 0) (Fl.bands ref) wd h:=by
  refine ⟨by unfold pfloorA;rw [hI0,hI1,hI2];exact HFa3.out,fun j hj=>?_,fun j hj=>?_,fun j k hj hk hjk=>?_,fun j k hj hk hjk=>?_,fun j k hj hk hjk m hm=>(by cases hm),HPa3.out,HLF.out,HLP.out,fun j hj=>?_,HLa3.out⟩
  ·rcases c3 j hj with rfl | rfl | rfl
   ·rw [hI0,hb0];exact HI0a3.out
   ·rw [hI1,hb1];exact HI1a3.out
   ·rw [hI2,hb2];exact HI2a3.out
  ·rcases c3 j hj with rfl | rfl | rfl
   ·rw [hb0];exact ⟨HB0a3.out,HLB0.out,World.ownsRow_nil _ _ _ _⟩
   ·rw [hb1];exact ⟨HB1a3.out,HLB1.out,World.ownsRow_nil _ _ _ _⟩
   ·rw [hb2];exact ⟨HB2a3.out,HLB2.out,World.ownsRow_nil _ _ _ _⟩
  ·have n1:=HNI1.out;have n2:=HNI2.out
   rcases c3 j hj with rfl | rfl | rfl <;> rcases c3 k hk with rfl | rfl | rfl <;> (try exact absurd rfl hjk) <;> simp only [hI0,hI1,hI2] <;> omega
  ·have n1:=HNE1.out;have n2:=HNE2.out
   rcases c3 j hj with rfl | rfl | rfl <;> rcases c3 k hk with rfl | rfl | rfl <;> (try exact absurd rfl hjk) <;> simp only [hb0,hb1,hb2] <;> omega
  ·rcases c3 j hj with rfl | rfl | rfl
   ·rw [hI0];exact HLI0.out
   ·rw [hI1];exact HLI1.out
   ·rw [hI2];exact HLI2.out
 have HFL:=hide hfl
 have HGO:=hide (fun k (hk:k < 6)=>Fl.gift_zero H.out k hk)
 clear hfl hI hb hI0 hI1 hI2 hb0 hb1 hb2 c3 HFa3 HPa3 HI0a3 HI1a3 HI2a3 HB0a3 HB1a3 HB2a3 HLa3 HNI0 HNI1 HNI2 HNE0 HNE1 HNE2 HLB0 HLB1 HLB2 HLI0 HLI1 HLI2
 go_loopw [56] (fun c wr=>∃ (k:Nat),k≤6∧c = .int .i64 k∧PFl w wr F P I b (fun _=>.slice none 0 0) (fun _=>[]) (Fl.gift cash stock k) (Fl.bands ref) wd h∧wr.heap[S]? = some (.cells #[.int .i64 stock,.int .i64 stock,.int .i64 stock] 53 (0,0))) (fun c _=>6 - (intOf c).toNat)
 case atStart=>exact ⟨0,by omega,rfl,HFL.out,HSa3.out⟩
 case round =>
  obtain ⟨k,hk,rfl,hf,ha⟩:=hrel
  have HF:=hide hf;have HA:=hide ha
  clear hf ha HFL HSa3
  by_cases hlt:k < 6
  ·have hki:(k:Int) < 6:=by omega
   have fp:=HF.out.cellP
   have a0:wr.cell? ⟨S,0,none⟩ = some (.int .i64 stock):=by rw [cell_of_row wr _ 0 _ _ _ HA.out];rfl
   have a1:wr.cell? ⟨S,1,none⟩ = some (.int .i64 stock):=by rw [cell_of_row wr _ 1 _ _ _ HA.out];rfl
   have a2:wr.cell? ⟨S,2,none⟩ = some (.int .i64 stock):=by rw [cell_of_row wr _ 2 _ _ _ HA.out];rfl
   go_wp2_with fail
   refine region_quiet_tail 7 (by kernel_rfl) (by kernel_rfl) ?_
   simp only [List.take_succ_cons,List.take_zero,List.drop_succ_cons,List.drop_zero]
   repeat (first | go_big_quiet_step (fail) | quiet_step (fail))
   refine wpQuiet_nil ?_
   intro _ hw'
   obtain ⟨nq,hw''⟩:=hw'
   subst hw''
   have HA2:Hid ((wr.drewN nq).heap[S]? = some (.cells #[.int .i64 stock,.int .i64 stock,.int .i64 stock] 53 (0,0))):=HA.out
   have HF2:=hide (HF.out.later (blw_drew nq))
   clear fp a0 a1 a2 HA HF
   generalize wr.drewN nq = wg at *
   have hg:=give_any P ⟨k,cash,stock,stock,stock⟩ (Fl.gift cash stock k) ev wg (HF2.out.er he.out).per HF2.out.pu (Fl.good_gift cash stock k)
   rw [HGO.out k hlt,show errE ev 0 = .nilIface from rfl] at hg
   have HG:=hide hg
   clear hg
   unfold giftV at HG
   simp only [] at HG
   go_wp2_with fail
   refine HG.out.mono ?_
   rintro e wh ⟨rfl,hp,hs⟩
   have HF3:Hid (PFl w wh F P I b (fun _=>.slice none 0 0) (fun _=>[]) (Fl.gift cash stock (k + 1)) (Fl.bands ref) wd h):=HF2.out.purse hp hs
   have HA3:Hid (wh.heap[S]? = some (.cells #[.int .i64 stock,.int .i64 stock,.int .i64 stock] 53 (0,0))):=by
    show _ = _
    rw [hs.block _ (lt_of_block HA2.out) (blkT HA2.out HF2.out.pu (by decide))];exact HA2.out
   clear hp hs HG HA2 HF2
   simp only []
   go_wp2
   refine ⟨⟨k + 1,by omega,by go_num,HF3.out,HA3.out⟩,by simp [intOf];omega⟩
  ·have hki:¬ (k:Int) < 6:=by omega
   obtain rfl:k = 6:=by omega
   go_wp2
   go_ret2
   exact ⟨F,P,I,b,rfl,HF.out⟩
end
end Go.Proofs.YtidahfhingdlmaaGreatDoor
