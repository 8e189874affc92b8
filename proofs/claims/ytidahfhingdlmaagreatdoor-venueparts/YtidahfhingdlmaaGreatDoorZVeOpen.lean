/- opened: a closed fact of the laws of venue. -/
import Derived.Test.YtidahfhingdlmaaGreatDoorZVeTwo
import Derived.Test.YtidahfhingdlmaaGreatDoorU37
namespace Go.Proofs.YtidahfhingdlmaaGreatDoor
open Go.RowKit
set_option maxRecDepth 100000
section
variable {w W:World} {ad:Nat→Addr}
theorem field68_0 (a:Bool) (b c:Int) (w:World):(Instr.field 68 (.agg #[.bool a,.int .i64 b,.int .i64 c]) 0).run Tryz.prog w = .ok (.bool a) w:=rfl
theorem field68_1 (a:Bool) (b c:Int) (w:World):(Instr.field 68 (.agg #[.bool a,.int .i64 b,.int .i64 c]) 1).run Tryz.prog w = .ok (.int .i64 b) w:=rfl
theorem fits_small:Fl.Fits 20000 100:=by constructor <;> decide
def Ve.S0:Ve.St:=Ve.init 100 20000 100
theorem S0_ok:Ve.Ok 0 10 2 Ve.S0:=init_ok 100 20000 100 (by decide) (by decide) fits_small
set_option maxHeartbeats 4000000 in
theorem opened_any (W:World) (hs:Hid (Sent W ad)):Calls Tryz.prog 8 #[] W fun e w'=>e = .returned (.bool true)∧Below W.heap.size W w':=by
 have HSM:=hide (small_any W)
 go_enter Tryz.func8,Tryz.ntmps8
 go_wp2_with fail
 refine HSM.out.mono ?_
 rintro e w1 ⟨rfl,hb1⟩
 have HB1:=hide hb1
 have HAC:=hide (asConfig_any 5 10 2 100 20000 100 w1)
 clear hb1 HSM
 simp only []
 go_wp2_with fail
 refine HAC.out.mono ?_
 rintro e w2 ⟨rfl,hb2⟩
 have HB2:=hide (HB1.out.trans (hb2.mono HB1.out.size))
 have HS2:=hide (hs.out.later HB2.out)
 have HNW:=hide (vnew_any 5 10 2 100 20000 100 w2 HS2 (show Bd.rOk 10 2 = true by decide) (show Wi.withinB 100 1 1000 = true by decide) fits_small)
 clear hb2 HAC HB1
 simp only []
 go_wp2_with fail
 refine HNW.out.mono ?_
 rintro e w3 ⟨B,X,rfl,hv⟩
 have H3:=hide hv
 have hb3:=hv.bl
 have HB3:=hide hb3
 have HF1:=hide (fun W'=>frame_of 108 1 1 0 0 0 0 0 W' (by decide))
 have HF2:=hide (fun W'=>frame_of 111 1 2 0 0 100 3 9 W' (by decide))
 have e1:strOfNums (Wi.frame 108 1 1 0 0 0 0 0) = Ve.frameOf (Ve.login 1):=by
  unfold Ve.frameOf encText Ve.login;exact (if_pos (show Wi.code 108 1 1 0 0 0 0 0 = 0 by decide)).symm
 have e2:strOfNums (Wi.frame 111 1 2 0 0 100 3 9) = Ve.frameOf ⟨111,1,2,0,0,100,3,9⟩:=by
  unfold Ve.frameOf encText;exact (if_pos (show Wi.code 111 1 2 0 0 100 3 9 = 0 by decide)).symm
 rw [e1] at HF1
 rw [e2] at HF2
 have hz1:=frameOf_size (Ve.login 1)
 have hz2:=frameOf_size ⟨111,1,2,0,0,100,3,9⟩
 obtain ⟨r1,r2⟩:=Ve.two_feed (S:=Ve.S0) (c:=1) (by decide) ⟨111,1,2,0,0,100,3,9⟩ (by decide) rfl rfl rfl rfl rfl rfl (by decide)
 have HFD:=hide (fun W' (h':Below w3.heap.size w3 W')=>vfeed_any (1:Nat) (Ve.frameOf (Ve.login 1)++Ve.frameOf ⟨111,1,2,0,0,100,3,9⟩) W' (H3.out.later h') HS2.out (fun c hc=>by
  show ((⟨#[]⟩:ByteArray)++_).size≤_
  rw [ByteArray.size_append,ByteArray.size_append];show 0 + _≤_;omega))
 have r1':Ve.feedR (Ve.init 100 20000 100) (1:Nat) (Ve.frameOf (Ve.login 1)++Ve.frameOf ⟨111,1,2,0,0,100,3,9⟩) = _:=r1
 have r2':Ve.feedS (Ve.init 100 20000 100) (1:Nat) (Ve.frameOf (Ve.login 1)++Ve.frameOf ⟨111,1,2,0,0,100,3,9⟩) = _:=r2
 rw [r1',r2'] at HFD
 generalize Ve.frameOf (Ve.login 1) = fa at *
 generalize Ve.frameOf ⟨111,1,2,0,0,100,3,9⟩ = fb at *
 have hcat:¬ 9223372036854775807 < fa.size + fb.size:=by omega
 clear r1 r2 r1' r2' e1 e2 hv hb3 HNW
 simp only []
 go_wp2_with fail
 refine (HF1.out _).mono ?_
 rintro e w4 ⟨rfl,hb4⟩
 have HB4:=hide hb4
 clear hb4 HF1
 simp only []
 go_wp2_with fail
 refine (HF2.out _).mono ?_
 rintro e w5 ⟨rfl,hb5⟩
 have HB5:=hide (HB4.out.trans (hb5.mono HB4.out.size))
 clear hb5 HF2
 simp only []
 go_wp2_with fail
 refine (HFD.out _ HB5.out).mono ?_
 rintro e w6 ⟨v6,X6,rfl,hr6,h6,hs6⟩
 have hR6:=hr6
 obtain ⟨ar,cr,hv6⟩:=row_form hr6
 obtain ⟨g,hg⟩:∃ g,ar = some ⟨g,0,none⟩:=by
  rcases hr6.2 with ⟨e1,e2⟩ | ⟨g,cap,cur,e1,_⟩
  ·cases e2
  ·rw [hv6] at e1;simp only [Value.slice.injEq] at e1;exact ⟨g,e1.1⟩
 subst hg
 subst hv6
 have cel:∀ j u,(repC ⟨(1:Nat),Ve.kAcc,9,0,0,0⟩)[j]? = some u→w6.cell? ⟨g,j,none⟩ = some u:=fun j u hj=>by
  have:=World.ownsRow.cells hR6 (g:=g) rfl j u (by simpa [rflat] using hj)
  have hp:(⟨g,0,none⟩:Addr).add j = ⟨g,j,none⟩:=by unfold Addr.add;split <;> simp_all
  rwa [hp] at this
 have c0:w6.cell? ⟨g,0,none⟩ = some (.int .i64 1):=cel 0 _ rfl
 have c1:w6.cell? ⟨g,1,none⟩ = some (.string ⟨#[97,99,99,101,112,116,101,100]⟩):=cel 1 _ rfl
 have c2:w6.cell? ⟨g,2,none⟩ = some (.int .i64 9):=cel 2 _ rfl
 have c3:w6.cell? ⟨g,3,none⟩ = some (.int .i64 0):=cel 3 _ rfl
 have c4:w6.cell? ⟨g,4,none⟩ = some (.int .i64 0):=cel 4 _ rfl
 have c5:w6.cell? ⟨g,5,none⟩ = some (.int .i64 0):=cel 5 _ rfl
 have hgl:g < w6.heap.size:=World.block_lt_of_cell? _ _ c0
 have HSE:=hide (session_any 1 (by decide) w6 h6)
 have HWA:=hide (fun W' (h':Below w6.heap.size w6 W')=>vwait_any 1 W' (h6.later h'))
 have HB6:Hid (Below W.heap.size W w6):=by
  have h1:=hs6.low (H3.out.later HB5.out)
  exact HB2.out.trans ((HB3.out.trans ((HB5.out.mono HB3.out.size).trans h1)).mono HB2.out.size)
 clear hr6 h6 hs6 cel HFD
 unfold sV at HSE
 have hnx3:(Ve.twoS Ve.S0 1 ⟨111,1,2,0,0,100,3,9⟩).nx 1 = 3:=rfl
 have hwt1:Ik.waitN (Ve.twoS Ve.S0 1 ⟨111,1,2,0,0,100,3,9⟩).Q 1 = 1:=rfl
 rw [hnx3] at HSE
 rw [hwt1] at HWA
 simp only []
 go_wp2_with fail
 refine HSE.out.mono ?_
 rintro e w7 ⟨rfl,hb7⟩
 have HB7:=hide hb7
 clear hb7 HSE c0 c1 c2 c3 c4 c5
 have hfd:=field68_1
 simp only []
 go_wp2_with fail
 refine (HWA.out _ HB7.out).mono ?_
 rintro e w8 ⟨rfl,hw8⟩
 subst w8
 clear HWA
 simp only []
 go_wp2
 go_ret
 exact ⟨rfl,HB6.out.trans (HB7.out.mono HB6.out.size)⟩
end
end Go.Proofs.YtidahfhingdlmaaGreatDoor
