/- VenueParts, by its contract. -/
import Derived.Test.YtidahfhingdlmaaGreatDoorZVpMem
namespace Go.Proofs.YtidahfhingdlmaaGreatDoor
open Go.RowKit
set_option maxRecDepth 100000
section
variable {w W:World} {ad:Nat→Addr} {B:Vb} {X:Vx} {wd h seed:Int} {S:Ve.St}
def IntsAt (w:World) (a:Option Addr) (n:Nat) (f:Nat→Int):Prop:=∀ i,i < n→∃ g,a = some g∧w.cell? (g.add i) = some (.int .i64 (f i))
set_option maxHeartbeats 8000000 in
theorem venueParts_any (a:Option Addr) (m cap:Nat) (l:List Stp) (cl:Int) (s:ByteArray) (ca:Option Addr) (cm cc:Nat) (cf:Nat→Int) (W:World) (hs:Hid (Sent W ad)) (ht:Hid (Lib.TabBelow Tryz.prog W.heap.size W "internal/strconv.uint64pow10" .u64 Lib.pow10Tab)) (hst:Hid (StpsAt W a m l)) (hcu:Hid (IntsAt W ca cm cf)) :
  Calls Tryz.prog 5 #[.slice a m cap,.int .i64 cl,.string s,.slice ca cm cc] W fun e w'=>e = .returned (.bool true)∧Below W.heap.size W w':=by
 have HOP:=hide (opened_any W hs)
 go_enter Tryz.func5,Tryz.ntmps5
 go_wp2_with fail
 refine HOP.out.mono ?_
 rintro e w1 ⟨rfl,hb1⟩
 have HB1:=hide hb1
 have HLG:=hide (longSteps_any a m cap 30 l w1 HB1 hst (by decide))
 clear hb1 HOP
 simp only []
 go_wp2_with fail
 refine HLG.out.mono ?_
 rintro e w2 ⟨hw2,he⟩
 subst w2
 clear HLG
 rcases he with rfl | ⟨rfl,hfew⟩
 ·simp only []
  go_wp2
  go_ret
  exact ⟨rfl,HB1.out⟩
 by_cases h4:400 < s.size
 ·have h4':(400:Int) < s.size:=by omega
  simp only []
  go_wp2
  go_ret
  exact ⟨rfl,HB1.out⟩
 by_cases h5:20 < cm
 ·have h4':¬ (400:Int) < s.size:=by omega
  have h5':(20:Int) < cm:=by omega
  simp only []
  go_wp2
  go_ret
  exact ⟨rfl,HB1.out⟩
 by_cases h6:cl < 0
 ·have h4':¬ (400:Int) < s.size:=by omega
  have h5':¬ (20:Int) < cm:=by omega
  simp only []
  go_wp2
  go_ret
  exact ⟨rfl,HB1.out⟩
 by_cases h7:6≤cl
 ·have h4':¬ (400:Int) < s.size:=by omega
  have h5':¬ (20:Int) < cm:=by omega
  simp only []
  go_wp2
  go_ret
  exact ⟨rfl,HB1.out⟩
 obtain ⟨n,rfl⟩:∃ n:Nat,cl = n:=⟨cl.toNat,by omega⟩
 have hn6:n < 6:=by omega
 have h4':¬ (400:Int) < s.size:=by omega
 have h5':¬ (20:Int) < cm:=by omega
 have HFW:=hide hfew
 have HSM:=hide (fun W'=>small_any W')
 have HAC:=hide (fun W'=>asConfig_any 5 10 2 100 20000 100 W')
 have HNW:=hide (fun W' (h':Below W.heap.size W W')=>vnew_any 5 10 2 100 20000 100 W' (hs.out.later h') (show Bd.rOk 10 2 = true by decide) (show Wi.withinB 100 1 1000 = true by decide) fits_small)
 clear hfew
 simp only []
 go_wp2_with fail
 refine (HSM.out _).mono ?_
 rintro e w2 ⟨rfl,hb2⟩
 have HB2:=hide (HB1.out.trans (hb2.mono HB1.out.size))
 clear hb2
 simp only []
 go_wp2_with fail
 refine (HAC.out _).mono ?_
 rintro e w3 ⟨rfl,hb3⟩
 have HB3:=hide (HB2.out.trans (hb3.mono HB2.out.size))
 clear hb3 HB2
 simp only []
 go_wp2_with fail
 refine (HNW.out _ HB3.out).mono ?_
 rintro e w4 ⟨B,X,rfl,hv⟩
 have H4:Hid (Ven W w4 B X 10 2 5 Ve.S0):=Ven.rebase HB3.out hv
 clear hv HB3
 simp only []
 go_wp2_with fail
 refine (HSM.out _).mono ?_
 rintro e w5 ⟨rfl,hb5⟩
 have HB5:=hide hb5
 clear hb5
 simp only []
 go_wp2_with fail
 refine (HAC.out _).mono ?_
 rintro e w6 ⟨rfl,hb6⟩
 have HB6:=hide (HB5.out.trans (hb6.mono HB5.out.size))
 have HB06:=hide (H4.out.bl.trans (HB6.out.mono H4.out.bl.size))
 clear hb6 HB5
 simp only []
 go_wp2_with fail
 refine (HNW.out _ HB06.out).mono ?_
 rintro e w7 ⟨B',X',rfl,hv⟩
 have HP7:Hid (Pair W w7 B B' X X' 10 2 5 Ve.S0 Ve.S0):=Pair.new H4.out HB6.out hv
 have HWK:=hide (walk_any a m cap l w7 HP7.out.a hs ht hst S0_ok (by decide) (Nat.le_trans HFW.out.1 (by decide)) HFW.out.2)
 clear hv HNW HSM HAC H4 HB6 HB06
 simp only []
 go_wp2_with fail
 refine HWK.out.mono ?_
 rintro e w8 ⟨v8,X8,rfl,h8,hs8,_,ho8,_,_⟩
 have HP8:=hide (HP7.out.left h8 hs8)
 have HO8:=hide ho8
 have HWK2:=hide (walk_any a m cap l w8 HP8.out.b hs ht hst S0_ok (by decide) (Nat.le_trans HFW.out.1 (by decide)) HFW.out.2)
 clear h8 hs8 ho8 HWK HP7
 simp only []
 go_wp2_with fail
 refine HWK2.out.mono ?_
 rintro e w9 ⟨v9,X9,rfl,h9,hs9,_,_,_,_⟩
 have HP9:=hide (HP8.out.right h9 hs9)
 clear h9 hs9 HWK2 HP8
 generalize Ve.walkS 10 2 5 Ve.S0 l m = S5 at *
 have hm30:=HFW.out.1
 have HB9:Hid (Below w9.heap.size w9 (w9.alloc (.cells (nxRow S5.nx 0) 73))):=(Below.refl _ _).alloc (Nat.le_refl _) _
 have HK9:Hid ((w9.alloc (.cells (nxRow S5.nx 0) 73)).heap[w9.heap.size]? = some (.cells (nxRow S5.nx 0) 73 (0,0))):=heap_alloc_new _ _
 have HPA:=hide (HP9.out.later HB9.out)
 have hlo9:=HP9.out.a.bl.size
 rw [nxRow_zero] at HPA HK9 HB9
 obtain ⟨p,hp⟩:∃ p,w9.heap.size = p:=⟨_,rfl⟩
 rw [hp] at HK9 hlo9
 clear HP9 HB9
 simp only []
 go_wp2_with fail
 generalize w9.alloc (.cells #[.int .i64 0,.int .i64 0,.int .i64 0,.int .i64 0,.int .i64 0,.int .i64 0] 73) = wA at *
 clear hp
 go_loopw [15] (fun kv wr=>∃ k:Nat,k≤6∧kv = .int .i64 k∧Pair W wr B B' X8 X9 10 2 5 S5 S5∧wr.heap[p]? = some (.cells (nxRow S5.nx k) 73 (0,0))) (fun kv _=>6 - (intOf kv).toNat)
 case atStart=>exact ⟨0,by omega,rfl,HPA.out,HK9.out⟩
 case round =>
  obtain ⟨k,hk6,rfl,hpr,hkr⟩:=hrel
  have HPR:=hide hpr;have HKR:=hide hkr
  clear hpr hkr HPA HK9
  by_cases hk:k < 6
  ·have hki:(k:Int) < 6:=by omega
   have HSE:=hide (session_any k hk wr HPR.out.a)
   have f1:=field68_1
   unfold sV at HSE
   go_wp2_with fail
   refine HSE.out.mono ?_
   rintro e wb ⟨rfl,hbb⟩
   have HPb:=hide (HPR.out.later hbb)
   have HKb:=hide (s_row_later hbb HKR.out)
   have HPc:=hide (HPb.out.row HKb.out hlo9 k (.int .i64 (S5.nx k)))
   have HKc:Hid ((wb.setCell ⟨p,k,none⟩ (.int .i64 (S5.nx k))).heap[p]? = some (.cells (nxRow S5.nx (k + 1)) 73 (0,0))):=by
    show _ = _
    rw [block_setCell HKb.out,nxRow_set S5.nx hk]
   have ck:wb.cell? ⟨p,k,none⟩ = some (nxV S5.nx k k):=by rw [cell_of_row _ _ _ _ _ _ HKb.out];exact nxRow_at _ _ hk
   have fz:wb.frozen? ⟨p,k,none⟩ = false:=by simp [World.frozen?,HKb.out]
   clear hbb HSE
   simp only []
   go_wp2
   exact ⟨⟨k + 1,hk,by go_num,HPc.out,HKc.out⟩,by simp [intOf];omega⟩
  ·have hki:¬ (k:Int) < 6:=by omega
   have hk6e:k = 6:=by omega
   rw [hk6e] at HKR
   clear hk hk6 hk6e
   have hlfS:=HO8.out.lf
   have HFD:=hide (vfeed_any (n:Int) s wr HPR.out.a hs.out (fun c hc=>by have:=hlfS c hc;rw [ByteArray.size_append];omega))
   go_wp2_with fail
   refine HFD.out.mono ?_
   rintro e wb ⟨vb,Xb,rfl,hrb,hvb,hsb⟩
   have hlwb:wr.heap.size≤wb.heap.size:=hsb.turned.size
   have hlW:W.heap.size≤wr.heap.size:=HPR.out.a.bl.size
   have HKb:=hide (hsb.block HPR.out.a HKR.out (by decide))
   have HPb:=hide (HPR.out.left hvb hsb)
   obtain ⟨aa,ac,hvv⟩:=row_form hrb
   subst hvv
   have HRb:=hide hrb
   have HLb:=hide (row_lt hrb)
   have hlr:(Ve.feedR S5 n s).length≤20:=feed_few hn6 hlfS (by omega)
   obtain ⟨nb,hnb⟩:∃ nb,wr.heap.size = nb:=⟨_,rfl⟩
   obtain ⟨mb,hmb⟩:∃ mb,wb.heap.size = mb:=⟨_,rfl⟩
   rw [hnb] at HRb hlwb hlW
   rw [hmb] at HLb hlwb
   have HMB:=hide hmb
   clear hrb hvb hsb HFD HPR HKR hnb hmb
   simp only []
   go_wp2_with fail
   go_loopw [17,18,19] (fun pv av iv wt=>∃ (i at_:Nat) (Y:Vx),i≤cm∧iv = .int .i64 i∧at_≤s.size∧av = .int .i64 at_∧Pair W wt B B' Xb Y 10 2 5 (Ve.feedS S5 n s) (Ve.feedS S5 n (s.extract 0 at_))∧Reps wt nb (.slice aa (Ve.feedR S5 n s).length ac) (Ve.feedR S5 n s)∧Reps wt mb pv (Ve.feedR S5 n (s.extract 0 at_))∧(Ve.feedR S5 n (s.extract 0 at_)).length≤20 * i∧wt.heap[p]? = some (.cells (nxRow S5.nx 6) 73 (0,0))∧mb≤wt.heap.size) (fun _ _ iv _=>cm - (intOf iv).toNat)
   case atStart =>
    obtain ⟨e1,e2⟩:=Ve.feed_nil (S:=S5) (n:=(n:Int)) hlfS
    have ez:s.extract 0 0 = ByteArray.empty:=by apply ByteArray.ext;simp
    exact ⟨0,0,X9,by omega,rfl,by omega,rfl,by rw [ez,e1];exact HPb.out,HRb.out,by rw [ez,e2];exact World.ownsRow_nil _ _ _ _,by rw [ez,e2];exact Nat.zero_le _,HKb.out,Nat.le_of_eq HMB.out.symm⟩
   case round =>
    obtain ⟨i,at_,Y,hicm,rfl,hat,rfl,hpt,hra,hrp,hlp,hkt,hlt⟩:=hrel
    have HPT:=hide hpt;have HRA:=hide hra;have HRP:=hide hrp;have HKT:=hide hkt
    clear hpt hra hrp hkt HPb HRb HKb HMB
    have HOT:=hide (feed_ok HO8.out (n:Int) (s.extract 0 at_))
    have hlfT:=HOT.out.lf
    by_cases hi:i < cm
    ·have hii:(i:Int) < cm:=by omega
     obtain ⟨g,hg,cx0⟩:=hcu.out i hi
     subst hg
     have cx:=cell_later HPT.out.a.bl cx0
     clear cx0
     generalize cf i = x at *
     by_cases hx0:x < 0
     ·go_wp2
      exact ⟨⟨i + 1,at_,Y,hi,by go_num,hat,rfl,HPT.out,HRA.out,HRP.out,by omega,HKT.out,hlt⟩,by simp [intOf];omega⟩
     by_cases hx3:(s.size:Int) - at_ < x
     ·go_wp2
      exact ⟨⟨i + 1,at_,Y,hi,by go_num,hat,rfl,HPT.out,HRA.out,HRP.out,by omega,HKT.out,hlt⟩,by simp [intOf];omega⟩
     obtain ⟨y,rfl⟩:∃ y:Nat,x = y:=⟨x.toNat,by omega⟩
     have hay:at_ + y≤s.size:=by omega
     have hsl:(s.extract at_ (at_ + y)).size≤400:=by rw [ByteArray.size_extract];omega
     have HFD:=hide (vfeed_any (n:Int) (s.extract at_ (at_ + y)) wr HPT.out.b hs.out (fun c hc=>by have:=hlfT c hc;rw [ByteArray.size_append];omega))
     obtain ⟨e1,e2⟩:=Ve.feed_append S5 (n:Int) (s.extract 0 at_) (s.extract at_ (at_ + y))
     rw [extract_more s (Nat.le_add_right at_ y)] at e1 e2
     rw [← e1] at HFD
     have hl4:=feed_few hn6 hlfT hsl
     have HE2:=hide e2
     clear e1 e2
     generalize Ve.feedR (Ve.feedS S5 (n:Int) (s.extract 0 at_)) (n:Int) (s.extract at_ (at_ + y)) = R4 at *
     generalize Ve.feedR S5 (n:Int) (s.extract 0 at_) = R3 at *
     go_wp2_with fail
     refine HFD.out.mono ?_
     rintro e w4 ⟨v4,X4,rfl,hr4,hv4,hs4⟩
     have hRA4:Reps w4 nb (.slice aa (Ve.feedR S5 n s).length ac) (Ve.feedR S5 n s):=hs4.row HPT.out.b HRA.out (by decide)
     have hRP4:Reps w4 mb u17 R3:=hs4.row HPT.out.b HRP.out (by decide)
     have hK4:=hs4.block HPT.out.b HKT.out (by decide)
     have hP4:=HPT.out.right hv4 hs4
     have hb4:mb≤w4.heap.size:=Nat.le_trans hlt hs4.turned.size
     obtain ⟨v5,w5,hap,hr5,hg5⟩:=run_append_reps w4 u17 v4 R3 R4 hRP4 hr4 (by omega) (by omega) hb4
     have HP5:=hide (hP4.grown hRP4 (Nat.le_trans hlW hlwb) hg5)
     have HK5:Hid (w5.heap[p]? = some (.cells (nxRow S5.nx 6) 73 (0,0))):=by
      show _ = _
      rw [hg5.block p (lt_of_block hK4) (fun e=>?_)]
      ·exact hK4
      ·obtain ⟨_,cur,h2⟩:=row_block hRP4 e.symm
       exact blkT h2 hK4 (by decide) rfl
     have HRA5:Hid (Reps w5 nb (.slice aa (Ve.feedR S5 n s).length ac) (Ve.feedR S5 n s)):=row_turned hRA4 (Turned.of_grown hg5) (fun k hk e1=>by
      have h1:=HLb.out k hk
      have h2:=(row_block hRP4 e1.symm).1
      omega)
     have HR5:=hide hr5;have HAP:=hide hap
     have hlt5:mb≤w5.heap.size:=Nat.le_trans hb4 hg5.size
     clear hap hr5 hg5 hRA4 hRP4 hK4 hP4 hr4 hv4 hs4 HFD
     simp only []
     go_wp2_with (at_builtin;refine wpList_append_run rfl _ _ 42 rfl _ _ _ rfl rfl HAP.out ?_)
     refine ⟨⟨i + 1,at_ + y,X4,hi,by go_num,hay,by go_num,HP5.out,HRA5.out,?_,?_,HK5.out,hlt5⟩,by simp [intOf];omega⟩
     ·rw [HE2.out];exact HR5.out
     ·rw [HE2.out,List.length_append];omega
    ·have hii:¬ (i:Int) < cm:=by omega
     have hsl:(s.extract at_ s.size).size≤400:=by rw [ByteArray.size_extract];omega
     have HFD:=hide (vfeed_any (n:Int) (s.extract at_ s.size) wr HPT.out.b hs.out (fun c hc=>by have:=hlfT c hc;rw [ByteArray.size_append];omega))
     obtain ⟨e1,e2⟩:=Ve.feed_append S5 (n:Int) (s.extract 0 at_) (s.extract at_ s.size)
     rw [extract_more s hat,show s.extract 0 s.size = s by simp] at e1 e2
     rw [← e1] at HFD
     have hl4:=feed_few hn6 hlfT hsl
     have HE2:=hide e2
     clear e1 e2
     generalize Ve.feedR (Ve.feedS S5 (n:Int) (s.extract 0 at_)) (n:Int) (s.extract at_ s.size) = R4 at *
     generalize Ve.feedR S5 (n:Int) (s.extract 0 at_) = R3 at *
     go_wp2_with fail
     refine HFD.out.mono ?_
     rintro e w4 ⟨v4,X4,rfl,hr4,hv4,hs4⟩
     have hRA4:Reps w4 nb (.slice aa (Ve.feedR S5 n s).length ac) (Ve.feedR S5 n s):=hs4.row HPT.out.b HRA.out (by decide)
     have hRP4:Reps w4 mb u17 R3:=hs4.row HPT.out.b HRP.out (by decide)
     have hK4:=hs4.block HPT.out.b HKT.out (by decide)
     have hP4:=HPT.out.right hv4 hs4
     have hb4:mb≤w4.heap.size:=Nat.le_trans hlt hs4.turned.size
     obtain ⟨v5,w5,hap,hr5,hg5⟩:=run_append_reps w4 u17 v4 R3 R4 hRP4 hr4 (by omega) (by omega) hb4
     have HP5:=hide (hP4.grown hRP4 (Nat.le_trans hlW hlwb) hg5)
     have HK5:Hid (w5.heap[p]? = some (.cells (nxRow S5.nx 6) 73 (0,0))):=by
      show _ = _
      rw [hg5.block p (lt_of_block hK4) (fun e=>?_)]
      ·exact hK4
      ·obtain ⟨_,cur,h2⟩:=row_block hRP4 e.symm
       exact blkT h2 hK4 (by decide) rfl
     have HRA5:Hid (Reps w5 nb (.slice aa (Ve.feedR S5 n s).length ac) (Ve.feedR S5 n s)):=row_turned hRA4 (Turned.of_grown hg5) (fun k hk e1=>by
      have h1:=HLb.out k hk
      have h2:=(row_block hRP4 e1.symm).1
      omega)
     rw [← HE2.out] at hr5
     have HR5:=hide hr5;have HAP:=hide hap
     obtain ⟨hmn1,hmn2⟩:=Ve.feed_mine S5 hn6 s
     have HM1:=hide hmn1;have HM2:=hide hmn2
     have HO9:=hide (feed_ok HO8.out (n:Int) s)
     clear hap hr5 hg5 hRA4 hRP4 hK4 hP4 hr4 hv4 hs4 HFD HPT HRA HRP HKT HOT hlfT HE2 hmn1 hmn2
     have HNX:Hid (∀ c,c < 6→nxV S5.nx 6 c = .int .i64 (S5.nx c)):=fun c hc=>by unfold nxV;rw [if_pos hc]
     generalize Ve.feedS S5 (n:Int) s = S9 at *
     generalize Ve.feedR S5 (n:Int) s = R9 at *
     simp only []
     go_wp2_with (at_builtin;refine wpList_append_run rfl _ _ 42 rfl _ _ _ rfl rfl HAP.out ?_)
     have HAL:=hide (alike_same (.slice aa R9.length ac) v5 R9 w5 (by omega) HRA5.out HR5.out)
     refine HAL.out.mono ?_
     rintro e w6 ⟨rfl,hb6⟩
     have HP6:=hide (HP5.out.later hb6);have HK6:=hide (s_row_later hb6 HK5.out);have HRA6:=hide (row_later HRA5.out hb6)
     clear hb6 HAL HP5 HK5 HRA5 HR5 HAP
     have HQ1:=hide (batches_any w6 HP6.out.a);have HQ2:=hide (batches_any w6 HP6.out.b);have HQ3:=hide (now_any w6 HP6.out.a);have HQ4:=hide (now_any w6 HP6.out.b)
     simp only []
     go_wp2_with fail
     refine HQ1.out.mono ?_
     rintro e w7 ⟨rfl,hw7⟩
     subst w7
     simp only []
     go_wp2_with fail
     refine HQ2.out.mono ?_
     rintro e w7 ⟨rfl,hw7⟩
     subst w7
     simp only []
     go_wp2_with fail
     refine HQ3.out.mono ?_
     rintro e w7 ⟨rfl,hw7⟩
     subst w7
     simp only []
     go_wp2_with fail
     refine HQ4.out.mono ?_
     rintro e w7 ⟨rfl,hw7⟩
     subst w7
     clear HQ1 HQ2 HQ3 HQ4
     simp only []
     go_wp2_with fail
     go_loopw [23] (fun kv wt=>∃ j:Nat,j≤3∧kv = .int .i64 j∧Pair W wt B B' Xb X4 10 2 5 S9 S9∧wt.heap[p]? = some (.cells (nxRow S5.nx 6) 73 (0,0))∧Reps wt nb (.slice aa R9.length ac) R9) (fun kv _=>3 - (intOf kv).toNat)
     case atStart=>exact ⟨0,by omega,rfl,HP6.out,HK6.out,HRA6.out⟩
     case round =>
      obtain ⟨j,hj3,rfl,hpj,hkj,hrj⟩:=hrel
      have HPJ:=hide hpj;have HKJ:=hide hkj;have HRJ:=hide hrj
      clear hpj hkj hrj HP6 HK6 HRA6
      by_cases hj:j < 3
      ·have hji:(j:Int) < 3:=by omega
       have hlen:=(HO9.out.all.ok.bk j hj).len
       have HF1:=hide (floor_any wr HPJ.out.a);have HF2:=hide (floor_any wr HPJ.out.b)
       have HB1:=hide (book_in j hj HPJ.out.a.fl);have HB2:=hide (book_in j hj HPJ.out.b.fl)
       have HL1:=hide (lots_any (B.b j) W.heap.size (Xb.v j) (S9.L j) wr (HPJ.out.a.fl.bk j hj) hlen)
       have HL2:=hide (fun W' (h':Below wr.heap.size wr W')=>lots_any (B'.b j) W.heap.size (X4.v j) (S9.L j) W' ((HPJ.out.later h').b.fl.bk j hj) hlen)
       have HF3:=hide (fun W' (h':Below wr.heap.size wr W')=>floor_any W' (HPJ.out.later h').a);have HF4:=hide (fun W' (h':Below wr.heap.size wr W')=>floor_any W' (HPJ.out.later h').b)
       have HN1:=hide (fun W' (h':Below wr.heap.size wr W')=>band_in j hj (HPJ.out.later h').a.fl);have HN2:=hide (fun W' (h':Below wr.heap.size wr W')=>band_in j hj (HPJ.out.later h').b.fl)
       unfold bandV at HN1 HN2
       go_wp2_with fail
       refine HF1.out.mono ?_
       rintro e wa ⟨rfl,hwa⟩
       subst wa
       simp only []
       go_wp2_with fail
       refine HB1.out.mono ?_
       rintro e wa ⟨rfl,hwa⟩
       subst wa
       simp only []
       go_wp2_with fail
       refine HF2.out.mono ?_
       rintro e wa ⟨rfl,hwa⟩
       subst wa
       simp only []
       go_wp2_with fail
       refine HB2.out.mono ?_
       rintro e wa ⟨rfl,hwa⟩
       subst wa
       clear HF1 HF2 HB1 HB2
       simp only []
       go_wp2_with fail
       refine HL1.out.mono ?_
       rintro e wa ⟨x1,rfl,hr1,hba⟩
       have HBa:=hide hba
       clear hba HL1
       simp only []
       go_wp2_with fail
       refine (HL2.out _ HBa.out).mono ?_
       rintro e wb ⟨x2,rfl,hr2,hbb⟩
       have HLS:=hide (lots_same x1 x2 (S9.L j) wb (by omega) (row_later hr1 hbb) hr2)
       have HBb:=hide (HBa.out.trans (hbb.mono HBa.out.size))
       clear hr1 hr2 hbb HL2 HBa
       simp only []
       go_wp2_with fail
       refine HLS.out.mono ?_
       rintro e wc ⟨rfl,hbc⟩
       have HBc:=hide (HBb.out.trans (hbc.mono HBb.out.size))
       clear hbc HLS HBb
       simp only []
       go_wp2_with fail
       refine (HF3.out _ HBc.out).mono ?_
       rintro e wd' ⟨rfl,hwd⟩
       subst wd'
       simp only []
       go_wp2_with fail
       refine (HN1.out _ HBc.out).mono ?_
       rintro e wd' ⟨rfl,hbd⟩
       have HBd:=hide (HBc.out.trans (hbd.mono HBc.out.size))
       clear hbd HN1 HF3 HBc
       simp only []
       go_wp2_with fail
       refine (HF4.out _ HBd.out).mono ?_
       rintro e we ⟨rfl,hwe⟩
       subst we
       simp only []
       go_wp2_with fail
       refine (HN2.out _ HBd.out).mono ?_
       rintro e we ⟨rfl,hbe⟩
       have HBe:=hide (HBd.out.trans (hbe.mono HBd.out.size))
       have HPe:=hide (HPJ.out.later HBe.out);have HKe:=hide (s_row_later HBe.out HKJ.out);have HRe:=hide (row_later HRJ.out HBe.out)
       clear hbe HN2 HF4 HBd
       simp only []
       go_wp2
       exact ⟨⟨j + 1,hj,by go_num,HPe.out,HKe.out,HRe.out⟩,by simp [intOf];omega⟩
      ·have hji:¬ (j:Int) < 3:=by omega
       go_wp2_with fail
       go_loopw [26] (fun kv wt=>∃ c:Nat,c≤6∧kv = .int .i64 c∧Pair W wt B B' Xb X4 10 2 5 S9 S9∧wt.heap[p]? = some (.cells (nxRow S5.nx 6) 73 (0,0))∧Reps wt nb (.slice aa R9.length ac) R9) (fun kv _=>6 - (intOf kv).toNat)
       case atStart=>exact ⟨0,by omega,rfl,HPJ.out,HKJ.out,HRJ.out⟩
       case round =>
        obtain ⟨c,hc6,rfl,hpc,hkc,hrc⟩:=hrel
        have HPC:=hide hpc;have HKC:=hide hkc;have HRC:=hide hrc
        clear hpc hkc hrc HPJ HKJ HRJ
        by_cases hcc:c < 6
        ·have hci:(c:Int) < 6:=by omega
         have HSA:=hide (fun W' (h':Below wr.heap.size wr W')=>session_any c hcc W' (HPC.out.later h').a)
         have HSB:=hide (fun W' (h':Below wr.heap.size wr W')=>session_any c hcc W' (HPC.out.later h').b)
         have HWA:=hide (fun W' (h':Below wr.heap.size wr W')=>vwait_any (c:Int) W' (HPC.out.later h').a)
         have HWB:=hide (fun W' (h':Below wr.heap.size wr W')=>vwait_any (c:Int) W' (HPC.out.later h').b)
         unfold sV at HSA HSB
         obtain ⟨XT,val,hcl,hmk⟩:=class_all (fun W'=>W'.heap[p]? = some (.cells (nxRow S5.nx 6) 73 (0,0)))
         obtain ⟨x0,hx0⟩:=hmk wr.drew HKC.out
         have hnx0:Nonempty XT:=⟨x0⟩
         have s0:∀ x,(val x).cell? ⟨p,c,none⟩ = some (.int .i64 (S5.nx c)):=fun x=>by
          rw [cell_of_row _ _ _ _ _ _ (hcl x),nxRow_at _ _ hcc,HNX.out c hcc]
         have HMK:=hide hmk
         have f1:=field68_1
         clear hmk hcl
         by_cases hcn:c = n
         ·have hcz:((c:Int) != (n:Int)) = false:=by rw [hcn];simp
          clear hcn
          go_wp2
          refine region_many_skip (val:=val) [2,5,10,13,23] [0,1,3,4,2,5,6,7,8,9,11,12,10,13,14,15,16,17,18,19,20,21,22,25,26,27,23,24,28,29,30] (by kernel_rfl) (by kernel_rfl) x0 hx0 ?_
          rw [hx0]
          clear hx0
          iterate 4 (refine walkN_read rfl rfl (fun K hK=>?_);refine ⟨by rfl,?_⟩;unfold isRd;go_simp;refine hK _ ?_;clear hK K)
          refine walkN_call rfl rfl (fun K hK=>?_)
          refine ⟨by rfl,?_⟩
          unfold upM
          go_simp
          refine (HSA.out _ drew_below').mono ?_
          rintro e wa ⟨rfl,hba⟩
          have HBa:Hid (Below wr.heap.size wr wa):=drew_below'.trans hba
          refine ⟨_,rfl,HMK.out _ (s_row_later HBa.out HKC.out),hK _ _ ?_⟩
          clear hK K hba
          refine walkN_call rfl rfl (fun K hK=>?_)
          refine ⟨by rfl,?_⟩
          unfold upM
          go_simp
          refine (HSB.out _ HBa.out).mono ?_
          rintro e wb ⟨rfl,hbb⟩
          have HBb:Hid (Below wr.heap.size wr wb):=HBa.out.trans (hbb.mono HBa.out.size)
          refine ⟨_,rfl,HMK.out _ (s_row_later HBb.out HKC.out),hK _ _ ?_⟩
          clear hK K hbb HBa
          iterate 6 (refine walkN_read rfl rfl (fun K hK=>?_);refine ⟨by rfl,?_⟩;unfold isRd;go_simp;refine hK _ ?_;clear hK K)
          refine walkN_call rfl rfl (fun K hK=>?_)
          refine ⟨by rfl,?_⟩
          unfold upM
          go_simp
          refine (HWA.out _ HBb.out).mono ?_
          rintro e wc ⟨rfl,hwc⟩
          subst wc
          refine ⟨_,rfl,HMK.out _ (s_row_later HBb.out HKC.out),hK _ _ ?_⟩
          clear hK K
          refine walkN_call rfl rfl (fun K hK=>?_)
          refine ⟨by rfl,?_⟩
          unfold upM
          go_simp
          refine (HWB.out _ HBb.out).mono ?_
          rintro e wc ⟨rfl,hwc⟩
          subst wc
          refine ⟨_,rfl,HMK.out _ (s_row_later HBb.out HKC.out),hK _ _ ?_⟩
          clear hK K
          iterate 7 (refine walkN_read rfl rfl (fun K hK=>?_);refine ⟨by rfl,?_⟩;unfold isRd;go_simp;refine hK _ ?_;clear hK K)
          iterate 8 (refine walkN_skip rfl (fun K hK=>?_);refine ⟨by rfl,?_⟩;go_simp;refine hK _ ?_;clear hK K)
          iterate 2 (refine walkN_read rfl rfl (fun K hK=>?_);refine ⟨by rfl,?_⟩;unfold isRd;go_simp;refine hK _ ?_;clear hK K)
          refine walkN_nil ?_
          have HPb:=hide (HPC.out.later HBb.out);have HKb:=hide (s_row_later HBb.out HKC.out);have HRb:=hide (row_later HRC.out HBb.out)
          clear x0 hnx0 HMK s0 HSA HSB HWA HWB
          clear val
          clear XT
          go_wp2
          exact ⟨⟨c + 1,hcc,by go_num,HPb.out,HKb.out,HRb.out⟩,by simp [intOf];omega⟩
         ·have hcz:((c:Int) != (n:Int)) = true:=by
           have:¬ (c:Int) = n:=by omega
           simpa using this
          have hnx:=HM2.out c hcn
          rw [hnx] at HSA HSB
          clear hcn hnx
          go_wp2
          refine region_many_skip (val:=val) [2,5,10,13,23] [0,1,3,4,2,5,6,7,8,9,11,12,10,13,14,15,16,17,18,19,20,21,22,25,26,27,23,24,28,29,30] (by kernel_rfl) (by kernel_rfl) x0 hx0 ?_
          rw [hx0]
          clear hx0
          iterate 4 (refine walkN_read rfl rfl (fun K hK=>?_);refine ⟨by rfl,?_⟩;unfold isRd;go_simp;refine hK _ ?_;clear hK K)
          refine walkN_call rfl rfl (fun K hK=>?_)
          refine ⟨by rfl,?_⟩
          unfold upM
          go_simp
          refine (HSA.out _ drew_below').mono ?_
          rintro e wa ⟨rfl,hba⟩
          have HBa:Hid (Below wr.heap.size wr wa):=drew_below'.trans hba
          refine ⟨_,rfl,HMK.out _ (s_row_later HBa.out HKC.out),hK _ _ ?_⟩
          clear hK K hba
          refine walkN_call rfl rfl (fun K hK=>?_)
          refine ⟨by rfl,?_⟩
          unfold upM
          go_simp
          refine (HSB.out _ HBa.out).mono ?_
          rintro e wb ⟨rfl,hbb⟩
          have HBb:Hid (Below wr.heap.size wr wb):=HBa.out.trans (hbb.mono HBa.out.size)
          refine ⟨_,rfl,HMK.out _ (s_row_later HBb.out HKC.out),hK _ _ ?_⟩
          clear hK K hbb HBa
          iterate 6 (refine walkN_read rfl rfl (fun K hK=>?_);refine ⟨by rfl,?_⟩;unfold isRd;go_simp;refine hK _ ?_;clear hK K)
          refine walkN_call rfl rfl (fun K hK=>?_)
          refine ⟨by rfl,?_⟩
          unfold upM
          go_simp
          refine (HWA.out _ HBb.out).mono ?_
          rintro e wc ⟨rfl,hwc⟩
          subst wc
          refine ⟨_,rfl,HMK.out _ (s_row_later HBb.out HKC.out),hK _ _ ?_⟩
          clear hK K
          refine walkN_call rfl rfl (fun K hK=>?_)
          refine ⟨by rfl,?_⟩
          unfold upM
          go_simp
          refine (HWB.out _ HBb.out).mono ?_
          rintro e wc ⟨rfl,hwc⟩
          subst wc
          refine ⟨_,rfl,HMK.out _ (s_row_later HBb.out HKC.out),hK _ _ ?_⟩
          clear hK K
          iterate 12 (refine walkN_read rfl rfl (fun K hK=>?_);refine ⟨by rfl,?_⟩;unfold isRd;go_simp;refine hK _ ?_;clear hK K)
          refine walkN_call rfl rfl (fun K hK=>?_)
          refine ⟨by rfl,?_⟩
          unfold upM
          go_simp
          refine (HSA.out _ HBb.out).mono ?_
          rintro e wc ⟨rfl,hbc⟩
          have HBc:Hid (Below wr.heap.size wr wc):=HBb.out.trans (hbc.mono HBb.out.size)
          refine ⟨_,rfl,HMK.out _ (s_row_later HBc.out HKC.out),hK _ _ ?_⟩
          clear hK K hbc HBb
          iterate 4 (refine walkN_read rfl rfl (fun K hK=>?_);refine ⟨by rfl,?_⟩;unfold isRd;go_simp;refine hK _ ?_;clear hK K)
          refine walkN_nil ?_
          have HPb:=hide (HPC.out.later HBc.out);have HKb:=hide (s_row_later HBc.out HKC.out);have HRb:=hide (row_later HRC.out HBc.out)
          clear x0 hnx0 HMK s0 HSA HSB HWA HWB
          clear val
          clear XT
          go_wp2
          exact ⟨⟨c + 1,hcc,by go_num,HPb.out,HKb.out,HRb.out⟩,by simp [intOf];omega⟩
        ·have hci:¬ (c:Int) < 6:=by omega
         clear HKC
         go_wp2_with fail
         go_loopw [27] (fun kv wt=>∃ q:Nat,q≤R9.length∧kv = .int .i64 q∧Pair W wt B B' Xb X4 10 2 5 S9 S9∧Reps wt nb (.slice aa R9.length ac) R9) (fun kv _=>R9.length - (intOf kv).toNat)
         case atStart=>exact ⟨0,by omega,rfl,HPC.out,HRC.out⟩
         case round =>
          obtain ⟨q,hq9,rfl,hpq,hrq⟩:=hrel
          have HPQ:=hide hpq;have HRQ:=hide hrq
          clear hpq hrq HPC HRC
          by_cases hq:q < R9.length
          ·have hqi:(q:Int) < (R9.length:Int):=by omega
           rcases row_reps HRQ.out with ⟨e1,e2⟩ | ⟨g,cap2,e1,hat2⟩
           ·rw [e2] at hq;cases hq
           ·obtain ⟨e3,_⟩:aa = some ⟨g,0,none⟩∧True:=by
             simp only [Value.slice.injEq] at e1;exact ⟨e1.1,trivial⟩
            have c0:=(hat2 q hq).1
            have hmem:rnth R9 q∈R9:=by unfold rnth;rw [List.getD_eq_getElem?_getD,List.getElem?_eq_getElem hq];exact List.getElem_mem hq
            rw [HM1.out _ hmem,Nat.zero_add] at c0
            clear e1 hat2 hmem
            subst e3
            go_wp2
            exact ⟨⟨q + 1,hq,by go_num,HPQ.out,HRQ.out⟩,by simp [intOf];omega⟩
          ·have hqi:¬ (q:Int) < (R9.length:Int):=by omega
           have HT1:=hide (tape_any wr HPQ.out.a)
           have HY1:=hide (bytes_any W.heap.size B.d S9.tp S9.cut S9.left wr ⟨HPQ.out.a.dk.lo,Xb.dv,HPQ.out.a.dk.cell,HPQ.out.a.dk.row⟩)
           have HT2:=hide (fun W' (h':Below wr.heap.size wr W')=>tape_any W' (HPQ.out.later h').b)
           have HY2:=hide (fun W' (h':Below wr.heap.size wr W')=>bytes_any W.heap.size B'.d S9.tp S9.cut S9.left W' ⟨(HPQ.out.later h').b.dk.lo,X4.dv,(HPQ.out.later h').b.dk.cell,(HPQ.out.later h').b.dk.row⟩)
           generalize ba S9.tp = tb at *
           have HBa:Hid (Below wr.heap.size wr (wr.alloc (.cells #[.string tb] 9))):=(Below.refl _ _).alloc (Nat.le_refl _) _
           have HBb:Hid (Below wr.heap.size wr ((wr.alloc (.cells #[.string tb] 9)).alloc (.cells #[.string tb] 9))):=HBa.out.alloc HBa.out.size _
           have HC1:Hid (((wr.alloc (.cells #[.string tb] 9)).alloc (.cells #[.string tb] 9)).cell? ⟨wr.heap.size,0,none⟩ = some (.string tb)):=by
            have h1:=heap_alloc_new wr (.cells #[.string tb] 9)
            show _ = _
            rw [cell_of_row _ _ _ _ _ _ (s_row_later ((Below.refl _ _).alloc (Nat.le_refl _) _) h1)];rfl
           have HC2:Hid (((wr.alloc (.cells #[.string tb] 9)).alloc (.cells #[.string tb] 9)).cell? ⟨wr.heap.size + 1,0,none⟩ = some (.string tb)):=by
            have h1:=heap_alloc_new (wr.alloc (.cells #[.string tb] 9)) (.cells #[.string tb] 9)
            rw [show (wr.alloc (.cells #[.string tb] 9)).heap.size = wr.heap.size + 1 from Array.size_push ..] at h1
            show _ = _
            rw [cell_of_row _ _ _ _ _ _ h1];rfl
           have HTS:=hide (text_same wr.heap.size (wr.heap.size + 1) tb _ HC1.out HC2.out)
           clear HC1 HC2
           go_wp2_with fail
           refine HT1.out.mono ?_
           rintro e wa ⟨rfl,hwa⟩
           subst wa
           simp only []
           go_wp2_with fail
           refine HY1.out.mono ?_
           rintro e wa ⟨rfl,hwa⟩
           subst wa
           simp only []
           go_wp2_with fail
           refine (HT2.out _ HBa.out).mono ?_
           rintro e wa ⟨rfl,hwa⟩
           subst wa
           simp only []
           go_wp2_with fail
           refine (HY2.out _ HBa.out).mono ?_
           rintro e wa ⟨rfl,hwa⟩
           subst wa
           simp only []
           go_wp2_with fail
           refine HTS.out.mono ?_
           rintro e wb ⟨rfl,hbb⟩
           have HF:=hide (HPQ.out.a.bl.trans ((HBb.out.trans (hbb.mono HBb.out.size)).mono HPQ.out.a.bl.size))
           simp only []
           go_wp2
           go_ret
           exact ⟨rfl,HF.out⟩
end
end Go.Proofs.YtidahfhingdlmaaGreatDoor
