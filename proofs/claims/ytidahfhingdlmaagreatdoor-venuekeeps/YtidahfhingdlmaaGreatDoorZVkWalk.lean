/- VenueKeeps: its walk. -/
import Derived.Test.YtidahfhingdlmaaGreatDoorZVeKeep
import Derived.Test.YtidahfhingdlmaaGreatDoorZVeLong
import Derived.Test.YtidahfhingdlmaaGreatDoorU44
namespace Go.Proofs.YtidahfhingdlmaaGreatDoor
open Go.RowKit
set_option maxRecDepth 100000
section
variable {w W:World} {ad:Nat→Addr}
theorem field37_4 (s wd h r c t:Int) (w:World):(Instr.field 37 (.agg #[.int .u32 s,.int .i64 wd,.int .i64 h,.int .i64 r,.int .i64 c,.int .i64 t]) 4).run Tryz.prog w = .ok (.int .i64 c) w:=rfl
theorem field37_5 (s wd h r c t:Int) (w:World):(Instr.field 37 (.agg #[.int .u32 s,.int .i64 wd,.int .i64 h,.int .i64 r,.int .i64 c,.int .i64 t]) 5).run Tryz.prog w = .ok (.int .i64 t) w:=rfl
theorem equal53 (w:World):(Op.equalIn 10000 53 (.agg #[.int .i64 0,.int .i64 0,.int .i64 0]) (.agg #[.int .i64 0,.int .i64 0,.int .i64 0])).run Tryz.prog w = .ok true w:=by
 first
 | kernel_rfl
 | (go_simp;done)
 | (simp [Op.equalIn,go_sem];done)
theorem sums0 {f:Nat→Int} (h:Ve.Same Ve.S0.pf f):Pu.cashes f 6 = 120000∧∀ j,j < 3→Pu.stocks f j 6 = 600:=by
 obtain ⟨g1,g2⟩:=Fl.gift_sums fits_small 6 (Nat.le_refl _)
 exact ⟨h.1.trans g1,fun j hj=>(h.2 j hj).trans (g2 j hj)⟩
set_option maxHeartbeats 4000000 in
theorem venueKeeps_any (a:Option Addr) (m cap:Nat) (l:List Stp) (W:World) (hs:Hid (Sent W ad)) (ht:Hid (Lib.TabBelow Tryz.prog W.heap.size W "internal/strconv.uint64pow10" .u64 Lib.pow10Tab)) (hst:Hid (StpsAt W a m l)) :
  Calls Tryz.prog 4 #[.slice a m cap] W fun e w'=>e = .returned (.bool true)∧Below W.heap.size W w':=by
 have HOP:=hide (opened_any W hs)
 go_enter Tryz.func4,Tryz.ntmps4
 go_wp2_with fail
 refine HOP.out.mono ?_
 rintro e w1 ⟨rfl,hb1⟩
 have HB1:=hide hb1
 have HLG:=hide (longSteps_any a m cap 40 l w1 HB1 hst (by decide))
 clear hb1 HOP
 simp only []
 go_wp2_with fail
 refine HLG.out.mono ?_
 rintro e w2 ⟨hw2,he⟩
 subst w2
 clear HLG
 rcases he with rfl | ⟨rfl,hfew⟩
 ·simp only []
  go_wp2
  go_ret
  exact ⟨rfl,HB1.out⟩
 ·have HFW:=hide hfew
  have HSM:=hide (small_any w1)
  clear hfew
  simp only []
  go_wp2_with fail
  refine HSM.out.mono ?_
  rintro e w2 ⟨rfl,hb2⟩
  have HB2:=hide (HB1.out.trans (hb2.mono HB1.out.size))
  have HAC:=hide (asConfig_any 5 10 2 100 20000 100 w2)
  clear hb2 HSM
  simp only []
  go_wp2_with fail
  refine HAC.out.mono ?_
  rintro e w3 ⟨rfl,hb3⟩
  have HB3:=hide (HB2.out.trans (hb3.mono HB2.out.size))
  have HNW:=hide (vnew_any 5 10 2 100 20000 100 w3 (hs.out.later HB3.out) (show Bd.rOk 10 2 = true by decide) (show Wi.withinB 100 1 1000 = true by decide) fits_small)
  clear hb3 HAC
  simp only []
  go_wp2_with fail
  refine HNW.out.mono ?_
  rintro e w4 ⟨B,X,rfl,hv⟩
  have H4:Hid (Ven W w4 B X 10 2 5 Ve.S0):=Ven.rebase HB3.out hv
  have HWK:=hide (walk_any a m cap l w4 H4 hs ht hst S0_ok (by decide) HFW.out.1 HFW.out.2)
  clear hv HNW HB2
  simp only []
  go_wp2_with fail
  refine HWK.out.mono ?_
  rintro e w5 ⟨v5,X5,rfl,h5,_,_,ho5,_,hm5⟩
  have HW5:=hide (Ve.W.walk (Ve.W.init 100 20000 100) 10 2 5 l m)
  have HW5':Hid (Ve.W (Ve.walkS 10 2 5 Ve.S0 l m)):=HW5.out
  clear HW5
  generalize Ve.walkS 10 2 5 Ve.S0 l m = S5 at *
  have H5:=hide h5;have HO5:=hide ho5;have HM5:=hide hm5
  have HDN:=hide (down_any w5 h5)
  have hm40:=HFW.out.1
  clear h5 ho5 hm5 HWK
  simp only []
  go_wp2_with fail
  refine HDN.out.mono ?_
  rintro e w6 ⟨rfl,hw6⟩
  subst w6
  clear HDN
  cases hdn:S5.down with
  | true =>
   simp only []
   go_wp2
   go_ret
   exact ⟨rfl,H5.out.bl⟩
  | false =>
   simp only []
   go_wp2_with fail
   go_loopw [6] (fun kv wr=>∃ (k:Nat) (X':Vx),k≤16∧kv = .int .i64 k∧Ven W wr B X' 10 2 5 (Ve.ticksS 10 2 5 S5 k)∧Ve.Ok (0 + 8 * m + k) 10 2 (Ve.ticksS 10 2 5 S5 k)∧Ve.Same Ve.S0.pf (Ve.ticksS 10 2 5 S5 k).pf) (fun kv _=>16 - (intOf kv).toNat)
   case atStart=>exact ⟨0,X5,by omega,rfl,H5.out,HO5.out,HM5.out⟩
   case round =>
    obtain ⟨k,X6,hk,rfl,h6,ho6,hm6⟩:=hrel
    have H6:=hide h6;have HO6:=hide ho6;have HM6:=hide hm6
    clear h6 ho6 hm6
    by_cases hlt:k < 16
    ·have hki:(k:Int) < 16:=by omega
     have HN1:Hid (Ve.ticksS 10 2 5 S5 (k + 1) = Ve.tickS 10 2 5 (Ve.ticksS 10 2 5 S5 k)):=rfl
     generalize Ve.ticksS 10 2 5 S5 k = S6 at *
     have HTK:=hide (tick_any wr H6.out hs.out ht.out HO6.out (by omega))
     go_wp2_with fail
     refine HTK.out.mono ?_
     rintro e w7 ⟨v7,X7,rfl,h7,_,_,ho7,_,hm7⟩
     have H7:=hide h7;have HO7:=hide ho7;have HM7:=hide (HM6.out.trans hm7)
     clear h7 ho7 hm7 HTK
     simp only []
     go_wp2
     refine ⟨⟨k + 1,X7,hlt,by go_num,?_,?_,?_⟩,by simp [intOf];omega⟩
     ·rw [HN1.out];exact H7.out
     ·rw [HN1.out];exact HO7.out
     ·rw [HN1.out];exact HM7.out
    ·have hki:¬ (k:Int) < 16:=by omega
     obtain rfl:k = 16:=by omega
     have HSI:=hide (fun hd=>Ve.W.silent HW5'.out 10 2 5 hd HO6.out.all)
     generalize Ve.ticksS 10 2 5 S5 16 = S6 at *
     have HDN:=hide (down_any wr H6.out)
     go_wp2_with fail
     refine HDN.out.mono ?_
     rintro e w7 ⟨rfl,hw7⟩
     subst w7
     clear HDN
     cases hdn6:S6.down with
     | true =>
      simp only []
      go_wp2
      go_ret
      exact ⟨rfl,H6.out.bl⟩
     | false =>
      obtain ⟨hq,hL,hh⟩:=HSI.out hdn6
      have HQ:=hide hq;have HL:=hide hL;have HH:=hide hh
      obtain ⟨hc,hst6⟩:=sums0 HM6.out
      have HFL:=hide (floor_any wr H6.out)
      have HPU:=hide (purse_of H6.out.fl)
      have HTO:=hide (total_any B.P S6.pf wr H6.out.fl.pu HO6.out.all.ok.good)
      rw [hc,hst6 0 (by decide),hst6 1 (by decide),hst6 2 (by decide)] at HTO
      clear hq hL hh HSI hc hst6 hdn6
      simp only []
      go_wp2_with fail
      refine HFL.out.mono ?_
      rintro e w8 ⟨rfl,hw8⟩
      subst w8
      simp only []
      go_wp2_with fail
      refine HPU.out.mono ?_
      rintro e w8 ⟨rfl,hw8⟩
      subst w8
      simp only []
      go_wp2_with fail
      refine HTO.out.mono ?_
      rintro e w8 ⟨rfl,hb8⟩
      have H8:=hide (H6.out.later hb8)
      have HSM:=hide (fun W'=>small_any W')
      have f4:=field37_4
      have f5:=field37_5
      clear hb8 HFL HPU HTO
      unfold triV
      unfold cfgA at HSM
      simp only []
      go_wp2_with fail
      refine (HSM.out _).mono ?_
      rintro e w9 ⟨rfl,hb9⟩
      obtain ⟨p,hp⟩:∃ p,w8.heap.size = p:=⟨_,rfl⟩
      have HK9:Hid (w9.heap[p]? = some (.cells #[.int .i64 600,.int .i64 600,.int .i64 600] 53 (0,0))):=by
       have h1:=heap_alloc_new w8 (.cells #[.int .i64 600,.int .i64 600,.int .i64 600] 53)
       rw [hp] at h1
       exact s_row_later hb9 h1
      have H9:=hide ((H8.out.later ((Below.refl _ _).alloc (Nat.le_refl _) _)).later hb9)
      clear hb9 H8 H6
      simp only [hp]
      go_wp2_with fail
      go_loopw [9] (fun kv wt=>∃ i:Nat,i≤3∧kv = .int .i64 i∧Ven W wt B X6 10 2 5 S6∧wt.heap[p]? = some (.cells #[.int .i64 600,.int .i64 600,.int .i64 600] 53 (0,0))) (fun kv _=>3 - (intOf kv).toNat)
      case atStart=>exact ⟨0,by omega,rfl,H9.out,HK9.out⟩
      case round =>
       obtain ⟨i,hi3,rfl,hvi,hki⟩:=hrel
       have HI:=hide hvi;have HKI:=hide hki
       clear hvi hki H9 HK9
       by_cases hii:i < 3
       ·have hiz:(i:Int) < 3:=by omega
        have hli:(S6.L i) = []:=HL.out i hii
        have HFL:=hide (fun W' (h':Below wr.heap.size wr W')=>floor_any W' (HI.out.later h'))
        have HBK:=hide (fun W' (h':Below wr.heap.size wr W')=>book_in i hii (HI.out.later h').fl)
        have HLT:=hide (fun W' (h':Below wr.heap.size wr W')=>lots_any (B.b i) W.heap.size (X6.v i) (S6.L i) W' ((HI.out.later h').fl.bk i hii) (HO6.out.all.ok.bk i hii).len)
        rw [hli] at HLT
        obtain ⟨XT,val,hcl,hmk⟩:=class_all (fun W'=>W'.heap[p]? = some (.cells #[.int .i64 600,.int .i64 600,.int .i64 600] 53 (0,0)))
        obtain ⟨x0,hx0⟩:=hmk wr.drew HKI.out
        have hnx0:Nonempty XT:=⟨x0⟩
        have s0:∀ x,(val x).cell? ⟨p,i,none⟩ = some (.int .i64 600):=fun x=>by
         rw [cell_of_row _ _ _ _ _ _ (hcl x)]
         have:i = 0∨i = 1∨i = 2:=by omega
         rcases this with rfl | rfl | rfl <;> rfl
        have HMK:=hide hmk
        clear hmk hcl hli
        go_wp2
        refine region_many_calls (val:=val) [3,9,11,12] [0,1,2,3,4,5,6,7,8,10,9,11,12,13,14,15] (by kernel_rfl) (by kernel_rfl) x0 hx0 ?_
        rw [hx0]
        clear hx0
        iterate 3 (refine walkM_read rfl rfl (fun K hK=>?_);refine ⟨by rfl,?_⟩;unfold isRd;go_simp;refine hK _ ?_;clear hK K)
        refine walkM_call rfl rfl (fun K hK=>?_)
        refine ⟨by rfl,?_⟩
        unfold upM
        go_simp
        refine (HSM.out _).mono ?_
        rintro e wa ⟨rfl,hba⟩
        have HBa:Hid (Below wr.heap.size wr wa):=drew_below'.trans hba
        refine ⟨_,rfl,HMK.out _ (s_row_later HBa.out HKI.out),hK _ _ ?_⟩
        clear hK K hba
        iterate 6 (refine walkM_read rfl rfl (fun K hK=>?_);refine ⟨by rfl,?_⟩;unfold isRd;go_simp;refine hK _ ?_;clear hK K)
        refine walkM_call rfl rfl (fun K hK=>?_)
        refine ⟨by rfl,?_⟩
        unfold upM
        go_simp
        refine (HFL.out _ HBa.out).mono ?_
        rintro e wb ⟨rfl,hwb⟩
        subst wb
        refine ⟨_,rfl,HMK.out _ (s_row_later HBa.out HKI.out),hK _ _ ?_⟩
        clear hK K
        refine walkM_call rfl rfl (fun K hK=>?_)
        refine ⟨by rfl,?_⟩
        unfold upM
        go_simp
        refine (HBK.out _ HBa.out).mono ?_
        rintro e wb ⟨rfl,hwb⟩
        subst wb
        refine ⟨_,rfl,HMK.out _ (s_row_later HBa.out HKI.out),hK _ _ ?_⟩
        clear hK K
        refine walkM_call rfl rfl (fun K hK=>?_)
        refine ⟨by rfl,?_⟩
        unfold upM
        go_simp
        refine (HLT.out _ HBa.out).mono ?_
        rintro e wb ⟨v2,rfl,hrow,hbb⟩
        have HBb:Hid (Below wr.heap.size wr wb):=HBa.out.trans (hbb.mono HBa.out.size)
        obtain ⟨a2,c2,hv2⟩:=row_form hrow
        subst hv2
        refine ⟨_,rfl,HMK.out _ (s_row_later HBb.out HKI.out),hK _ _ ?_⟩
        clear hK K hrow hbb HFL HBK HLT
        iterate 3 (refine walkM_read rfl rfl (fun K hK=>?_);refine ⟨by rfl,?_⟩;unfold isRd;go_simp;refine hK _ ?_;clear hK K)
        refine walkM_nil ?_
        have HKb:=hide (s_row_later HBb.out HKI.out)
        have HVb:=hide (HI.out.later HBb.out)
        clear x0 hnx0 HMK s0
        clear val
        clear XT
        go_wp2
        exact ⟨⟨i + 1,hii,by go_num,HVb.out,HKb.out⟩,by simp [intOf];omega⟩
       ·have hiz:¬ (i:Int) < 3:=by omega
        obtain rfl:i = 3:=by omega
        go_wp2_with fail
        go_loopw [10] (fun kv wt=>∃ c:Nat,c≤6∧kv = .int .i64 c∧Ven W wt B X6 10 2 5 S6) (fun kv _=>6 - (intOf kv).toNat)
        case atStart=>exact ⟨0,by omega,rfl,HI.out⟩
        case round =>
         obtain ⟨c,hc6,rfl,hvc⟩:=hrel
         have HC:=hide hvc
         clear hvc HI HKI
         by_cases hcc:c < 6
         ·have hcz:(c:Int) < 6:=by omega
          have q1:=(HQ.out c hcc).1
          have q2:=(HQ.out c hcc).2
          have g1:S6.pf (c * 8 + 1) = 0:=HH.out _ ⟨c,hcc,.inl rfl⟩
          have g5:S6.pf (c * 8 + 5) = 0:=HH.out _ ⟨c,hcc,.inr ⟨0,by decide,rfl⟩⟩
          have g6:S6.pf (c * 8 + 6) = 0:=HH.out _ ⟨c,hcc,.inr ⟨1,by decide,rfl⟩⟩
          have g7:S6.pf (c * 8 + 7) = 0:=HH.out _ ⟨c,hcc,.inr ⟨2,by decide,rfl⟩⟩
          have HFL:=hide (floor_any wr HC.out)
          have HPU:=hide (purse_of HC.out.fl)
          have HOF:=hide (of_any B.P (c:Int) S6.pf wr HC.out.fl.pu)
          rw [ofV_in S6.pf hcc] at HOF
          unfold hasV at HOF
          rw [g1,g5,g6,g7] at HOF
          have HSE:=hide (fun W' (h':Below wr.heap.size wr W')=>session_any c hcc W' (HC.out.later h'))
          rw [q1] at HSE
          unfold sV at HSE
          have hwt:Ik.waitN S6.Q (c:Int) = 0:=by
           unfold Ik.waitN
           have:Ik.isC (c:Int) = true:=by unfold Ik.isC;simp;omega
           rw [if_pos this,show ((c:Int)).toNat = c by omega,q2];rfl
          have HWA:=hide (fun W' (h':Below wr.heap.size wr W')=>vwait_any (c:Int) W' (HC.out.later h'))
          rw [hwt] at HWA
          have f68:=field68_0
          have f53:=equal53
          clear q1 q2 g1 g5 g6 g7 hwt
          go_wp2_with fail
          refine HFL.out.mono ?_
          rintro e wa ⟨rfl,hwa⟩
          subst wa
          simp only []
          go_wp2_with fail
          refine HPU.out.mono ?_
          rintro e wa ⟨rfl,hwa⟩
          subst wa
          simp only []
          go_wp2_with fail
          refine HOF.out.mono ?_
          rintro e wa ⟨rfl,hba⟩
          have HBa:=hide hba
          have HBb:Hid (Below wr.heap.size wr (wa.alloc (.cells #[.int .i64 (S6.pf (c * 8)),.int .i64 0,.int .i64 (S6.pf (c * 8 + 2)),.int .i64 (S6.pf (c * 8 + 3)),.int .i64 (S6.pf (c * 8 + 4)),.int .i64 0,.int .i64 0,.int .i64 0] 65))):=HBa.out.alloc HBa.out.size _
          clear hba HFL HPU HOF
          simp only []
          go_wp2_with fail
          refine (HSE.out _ HBb.out).mono ?_
          rintro e wb ⟨rfl,hbb⟩
          have HBc:=hide (HBb.out.trans (hbb.mono HBb.out.size))
          clear hbb HSE
          simp only []
          go_wp2_with fail
          refine (HWA.out _ HBc.out).mono ?_
          rintro e wc ⟨rfl,hwc⟩
          subst wc
          have HVc:=hide (HC.out.later HBc.out)
          clear HWA
          simp only []
          go_wp2
          exact ⟨⟨c + 1,hcc,by go_num,HVc.out⟩,by simp [intOf];omega⟩
         ·have hcz:¬ (c:Int) < 6:=by omega
          obtain rfl:c = 6:=by omega
          go_wp2
          go_ret
          exact ⟨rfl,HC.out.bl⟩
end
end Go.Proofs.YtidahfhingdlmaaGreatDoor
