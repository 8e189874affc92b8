/- The law PurseKeeps, for all acts. -/
import Derived.Test.YtgmncdpjbphfhaaDoorPuPay
import Derived.Test.YtgmncdpjbphfhaaDoorPuTotal
import Derived.Test.YtgmncdpjbphfhaaDoorPuTrade
namespace Go.Proofs.YtgmncdpjbphfhaaDoor
open Go.RowKit
set_option maxRecDepth 100000

theorem keeps_big (a : Option Addr) (n cap : Nat) (v : Nat → Value) (w : World) (he : Hid (TEr w v)) (hn : 60 < n) :
    Calls Tryd.prog 4 #[.slice a n cap] w fun e w' => e = .returned (.bool true) ∧ Below w.heap.size w w' := by
  have hn' : (60 : Int) < n := by omega
  go_enter Tryd.func4, Tryd.ntmps4
  go_wp2_with fail
  refine (pursed_any v w he.out.per).mono ?_
  rintro e w1 ⟨rfl, hb1⟩
  have HB1 := hide hb1
  clear hb1
  simp only []
  go_wp2
  go_ret
  exact ⟨rfl, HB1.out⟩

/-- what is so behind some acts -/
def KInv (w wr : World) (p S : Nat) (f : Nat → Int) : Prop := Pu.Good f ∧ Purse wr 55 p f ∧ Tri wr S (Pu.stocks f 0 6) (Pu.stocks f 1 6) (Pu.stocks f 2 6) ∧ Below w.heap.size w wr

set_option maxHeartbeats 8000000 in
theorem keeps_some (a : Option Addr) (n cap : Nat) (l : List PAct) (v : Nat → Value) (w : World) (he : Hid (TEr w v)) (hn : Hid (l.length = n)) (hn' : n ≤ 60) (hl : Hid (n = 0 ∨ ∃ g, a = some g ∧ PaysAt w g l)) :
    Calls Tryd.prog 4 #[.slice a n cap] w fun e w' => e = .returned (.bool true) ∧ Below w.heap.size w w' := by
  have hni : ¬ (60 : Int) < n := by omega
  go_enter Tryd.func4, Tryd.ntmps4
  go_wp2_with fail
  refine (pursed_any v w he.out.per).mono ?_
  rintro e w1 ⟨rfl, hb1⟩
  have HB1 := hide hb1
  clear hb1
  simp only []
  go_wp2_with fail
  refine (new_any w1).mono ?_
  rintro e w2 ⟨rfl, rfl⟩
  have HPN : Hid (Purse ((w1.alloc (.cells (row fun _ => 0) 55)).alloc (.cells #[.int .i64 0, .int .i64 0, .int .i64 0] 27)) 55 w1.heap.size (fun _ => 0)) := (Purse.new w1 55 (fun _ => 0)).alloc _
  have hB2 : Below w.heap.size w (w1.alloc (.cells (row fun _ => 0) 55)) := HB1.out.alloc HB1.out.size _
  have HB2 : Hid (Below w.heap.size w ((w1.alloc (.cells (row fun _ => 0) 55)).alloc (.cells #[.int .i64 0, .int .i64 0, .int .i64 0] 27))) := hB2.alloc hB2.size _
  have hTN : Tri ((w1.alloc (.cells (row fun _ => 0) 55)).alloc (.cells #[.int .i64 0, .int .i64 0, .int .i64 0] 27)) (w1.heap.size + 1) 0 0 0 := by
    have := heap_alloc_new (w1.alloc (.cells (row fun _ => 0) 55)) (.cells #[.int .i64 0, .int .i64 0, .int .i64 0] 27)
    rw [show (w1.alloc (.cells (row fun _ => 0) 55)).heap.size = w1.heap.size + 1 by simp] at this
    exact this
  have HTN := hide hTN
  have hwp : w.heap.size ≤ w1.heap.size := HB1.out.size
  clear hB2 hTN
  simp only []
  go_wp2
  generalize (w1.alloc (.cells (row fun _ => 0) 55)).alloc (.cells #[.int .i64 0, .int .i64 0, .int .i64 0] 27) = w2 at *
  obtain ⟨p, hp⟩ : ∃ p, w1.heap.size = p := ⟨_, rfl⟩
  obtain ⟨S, hS⟩ : ∃ S, p + 1 = S := ⟨_, rfl⟩
  rw [hp] at HPN HTN hwp ⊢
  rw [hS] at HTN ⊢
  have hpS : p < S := by omega
  clear hp hS
  go_loopw [5, 7] (fun cs i wr => ∃ (k : Nat) (f : Nat → Int), k ≤ n ∧ i = .int .i64 k ∧ cs = .int .i64 (Pu.cashes f 6) ∧ KInv w wr p S f) (fun _ i _ => n - (intOf i).toNat)
  case atStart => exact ⟨0, _, Nat.zero_le _, rfl, rfl, Pu.good_zero, HPN.out, HTN.out, HB2.out⟩
  case round =>
    obtain ⟨k, f, hk, rfl, rfl, hG, hPu, hTr, hbl⟩ := hrel
    have HG := hide hG; have HK := hide hPu; have HB := hide hbl; have HT := hide hTr
    clear hG hPu hbl hTr HPN HB2 HTN HB1
    by_cases hlt : k < n
    · have hki : (k : Int) < n := by omega
      obtain ⟨g, rfl, hlg⟩ : ∃ g, a = some g ∧ PaysAt w g l := by
        rcases hl.out with h | h
        · omega
        · exact h
      have HPA : Hid (PayAt wr (g.add (k * 19)) (pnth l k)) := (hlg.later HB.out) k (by rw [hn.out]; exact hlt)
      generalize pnth l k = A at *
      clear hlg
      obtain ⟨WA, hWA⟩ : ∃ WA, wr.alloc (.cells (payA A) 36) = WA := ⟨_, rfl⟩
      have hnA : Below wr.heap.size wr WA := by rw [← hWA]; exact (Below.refl _ _).alloc (Nat.le_refl _) _
      have hRA : WA.heap[wr.heap.size]? = some (.cells (payA A) 36 (0, 0)) := by rw [← hWA]; exact heap_alloc_new _ _
      have HRA := hide hRA
      have HBA : Hid (Below w.heap.size w WA) := HB.out.trans (hnA.mono HB.out.size)
      have HKA := hide (HK.out.lat hnA)
      have HTA := hide (HT.out.lat hnA)
      have HEA := hide (he.out.later HBA.out)
      have hSl : S < wr.heap.size := HT.out.lt
      have HWA := hide hWA
      have z36 := zero36
      obtain ⟨kd, an, ac, s0, s1, s2, it, ⟨xi, xo, xs, xp, xq⟩, ⟨yi, yo, ys, yp, yq⟩, pr, qt⟩ := A
      have d0 : WA.cell? ⟨wr.heap.size, 0, none⟩ = some (.string kd) := hs_cell hRA rfl
      have d1 : WA.cell? ⟨wr.heap.size, 1, none⟩ = some (.int .i64 an) := hs_cell hRA rfl
      have d2 : WA.cell? ⟨wr.heap.size, 2, none⟩ = some (.int .i64 ac) := hs_cell hRA rfl
      have d3 : WA.cell? ⟨wr.heap.size, 3, none⟩ = some (.int .i64 s0) := hs_cell hRA rfl
      have d4 : WA.cell? ⟨wr.heap.size, 4, none⟩ = some (.int .i64 s1) := hs_cell hRA rfl
      have d5 : WA.cell? ⟨wr.heap.size, 5, none⟩ = some (.int .i64 s2) := hs_cell hRA rfl
      have d6 : WA.cell? ⟨wr.heap.size, 6, none⟩ = some (.int .i64 it) := hs_cell hRA rfl
      have d7 : WA.cell? ⟨wr.heap.size, 7, none⟩ = some (.int .i64 xi) := hs_cell hRA rfl
      have d8 : WA.cell? ⟨wr.heap.size, 8, none⟩ = some (.int .i64 xo) := hs_cell hRA rfl
      have d9 : WA.cell? ⟨wr.heap.size, 9, none⟩ = some (.int .i64 xs) := hs_cell hRA rfl
      have d10 : WA.cell? ⟨wr.heap.size, 10, none⟩ = some (.int .i64 xp) := hs_cell hRA rfl
      have d11 : WA.cell? ⟨wr.heap.size, 11, none⟩ = some (.int .i64 xq) := hs_cell hRA rfl
      have d12 : WA.cell? ⟨wr.heap.size, 12, none⟩ = some (.int .i64 yi) := hs_cell hRA rfl
      have d13 : WA.cell? ⟨wr.heap.size, 13, none⟩ = some (.int .i64 yo) := hs_cell hRA rfl
      have d14 : WA.cell? ⟨wr.heap.size, 14, none⟩ = some (.int .i64 ys) := hs_cell hRA rfl
      have d15 : WA.cell? ⟨wr.heap.size, 15, none⟩ = some (.int .i64 yp) := hs_cell hRA rfl
      have d16 : WA.cell? ⟨wr.heap.size, 16, none⟩ = some (.int .i64 yq) := hs_cell hRA rfl
      have d17 : WA.cell? ⟨wr.heap.size, 17, none⟩ = some (.int .i64 pr) := hs_cell hRA rfl
      have d18 : WA.cell? ⟨wr.heap.size, 18, none⟩ = some (.int .i64 qt) := hs_cell hRA rfl
      clear hnA hWA hRA HB HT HK
      cases hka : (kd.toList == [103, 105, 118, 101]) with
      | true =>
        have HA := hide (give_any p ⟨an, ac, s0, s1, s2⟩ f v WA HEA.out.per HKA.out HG.out)
        unfold giftV at HA
        simp only [] at HA
        go_wp2_with (first | (guard_target =~ wpList _ _ _ ({ dst := _, op := Op.load 36 _, type := _, pos := _, after := _, guard := _ } :: _) _ _; refine wpList_load36 (G := g.add (k * 19)) HPA.out rfl (.tmp 36) rfl rfl ?_) | (guard_target =~ wpList _ _ _ ({ dst := _, op := Op.store 36 _ _, type := _, pos := _, after := _, guard := _ } :: _) _ _; refine wpList_store36 WA HWA.out rfl (.tmp 8) (.tmp 37) rfl rfl rfl ?_))
        refine HA.out.mono ?_
        rintro e w3 ⟨rfl, hp3, hs3⟩
        have HBF : Hid (Below w.heap.size w w3) := HBA.out.trans (hs3.below HBA.out.size (by omega))
        have HTF0 := hide (HTA.out.save hs3 (by omega))
        have HPF := hide hp3
        have HGF := hide (Pu.good_give HG.out ⟨an, ac, s0, s1, s2⟩)
        have HR3 : Hid (w3.heap[wr.heap.size]? = some (.cells (payA ⟨kd, an, ac, s0, s1, s2, it, ⟨xi, xo, xs, xp, xq⟩, ⟨yi, yo, ys, yp, yq⟩, pr, qt⟩) 36 (0, 0))) := by show _ = _; rw [hs3.block _ (lt_of_block HRA.out) (by omega)]; exact HRA.out
        clear hp3 hs3 HA d0 d1 d2 d3 d4 d5 d6 d7 d8 d9 d10 d11 d12 d13 d14 d15 d16 d17 d18 HWA HPA HTA HKA HBA HEA HRA
        by_cases hz : Pu.giveC f ⟨an, ac, s0, s1, s2⟩ = 0
        · have hsu := Pu.give_sums hz
          have hbc := Pu.cashes_bound HGF.out 6 (by decide)
          have hb0 := Pu.stocks_bound HGF.out (j := 0) (by decide) 6 (by decide)
          have hb1 := Pu.stocks_bound HGF.out (j := 1) (by decide) 6 (by decide)
          have hb2 := Pu.stocks_bound HGF.out (j := 2) (by decide) 6 (by decide)
          have hoc := Pu.cashes_bound HG.out 6 (by decide)
          have ho0 := Pu.stocks_bound HG.out (j := 0) (by decide) 6 (by decide)
          have ho1 := Pu.stocks_bound HG.out (j := 1) (by decide) 6 (by decide)
          have ho2 := Pu.stocks_bound HG.out (j := 2) (by decide) 6 (by decide)
          have e0 := hsu.2 0 (by decide)
          have e1 := hsu.2 1 (by decide)
          have e2 := hsu.2 2 (by decide)
          simp only [Pu.Gift.part] at e0 e1 e2
          have ec := hsu.1
          simp only [] at ec
          have HES := hide (And.intro ec (And.intro e0 (And.intro e1 e2)))
          rw [ec] at hbc
          rw [e0] at hb0
          rw [e1] at hb1
          rw [e2] at hb2
          rw [errE_zero v hz]
          clear hsu e0 e1 e2 ec hz
          generalize Pu.giveF f ⟨an, ac, s0, s1, s2⟩ = F at *
          obtain ⟨yc, hyc⟩ : ∃ yc, Pu.cashes f 6 = yc := ⟨_, rfl⟩
          obtain ⟨y0, hy0⟩ : ∃ y0, Pu.stocks f 0 6 = y0 := ⟨_, rfl⟩
          obtain ⟨y1, hy1⟩ : ∃ y1, Pu.stocks f 1 6 = y1 := ⟨_, rfl⟩
          obtain ⟨y2, hy2⟩ : ∃ y2, Pu.stocks f 2 6 = y2 := ⟨_, rfl⟩
          rw [hyc] at hbc hoc HES ⊢
          rw [hy0] at hb0 ho0 HES HTF0
          rw [hy1] at hb1 ho1 HES HTF0
          rw [hy2] at hb2 ho2 HES HTF0
          have k0 : 0 ≤ y0 ∧ y0 ≤ 6442450944 ∧ 0 ≤ y0 + s0 ∧ y0 + s0 ≤ 6442450944 := by omega
          have k1 : 0 ≤ y1 ∧ y1 ≤ 6442450944 ∧ 0 ≤ y1 + s1 ∧ y1 + s1 ≤ 6442450944 := by omega
          have k2 : 0 ≤ y2 ∧ y2 ≤ 6442450944 ∧ 0 ≤ y2 + s2 ∧ y2 + s2 ≤ 6442450944 := by omega
          have kc : 0 ≤ yc ∧ yc ≤ 6597069766656 ∧ 0 ≤ yc + ac ∧ yc + ac ≤ 6597069766656 := by omega
          clear hbc hb0 hb1 hb2 hoc ho0 ho1 ho2 hyc hy0 hy1 hy2
          have q2 : w3.cell? ⟨wr.heap.size, 2, none⟩ = some (.int .i64 ac) := hs_cell HR3.out rfl
          obtain ⟨B, hB⟩ : ∃ B, wr.heap.size = B := ⟨_, rfl⟩
          rw [hB] at HR3 q2 hSl ⊢
          clear hB
          have HTc := HTF0; have HPc := HPF; have HBc := HBF; have HRc := HR3
          clear HTF0 HPF HBF HR3
          simp only []
          go_wp2
          clear q2
          refine wp_loop_rounds 4 ?_
          rw [rounds_succ]
          have t := HTc.out.c0
          have q : w3.cell? ⟨B, 3, none⟩ = some (.int .i64 s0) := hs_cell HRc.out rfl
          go_wp2
          refine region_quiet_tail 10 (by kernel_rfl) (by kernel_rfl) ?_
          simp only [List.take_succ_cons, List.take_zero, List.drop_succ_cons, List.drop_zero]
          repeat (first | go_big_quiet_step (fail) | quiet_step (fail))
          refine wpQuiet_nil ?_
          intro _ hw'
          obtain ⟨nq, hw''⟩ := hw'
          subst hw''
          have HTd := hide (HTc.out.lat (blw_drew nq))
          have HPd := hide (HPc.out.drew nq)
          have HBd := hide (HBc.out.trans ((blw_drew nq).mono HBc.out.size))
          have HRd : Hid ((w3.drewN nq).heap[B]? = some (.cells (payA ⟨kd, an, ac, s0, s1, s2, it, ⟨xi, xo, xs, xp, xq⟩, ⟨yi, yo, ys, yp, yq⟩, pr, qt⟩) 36 (0, 0))) := HRc.out
          clear t q HRc HTc HPc HBc
          generalize w3.drewN nq = wd0 at *
          have t := HTd.out.c0
          have tf := HTd.out.fr 0
          obtain ⟨we0, hwe⟩ : ∃ we, wd0.setCell ⟨S, 0, none⟩ (.int .i64 (y0 + s0)) = we := ⟨_, rfl⟩
          have HTc : Hid (Tri we0 S (y0 + s0) y1 y2) := by show Tri _ _ _ _ _; rw [← hwe]; exact HTd.out.s0 _
          have HPc : Hid (Purse we0 55 p F) := by show Purse _ _ _ _; rw [← hwe]; exact HPd.out.other (by show p ≠ S; omega) _
          have HBc : Hid (Below w.heap.size w we0) := by show Below _ _ _; rw [← hwe]; exact HBd.out.setCell (by show w.heap.size ≤ S; omega) _
          have HRc : Hid (we0.heap[B]? = some (.cells (payA ⟨kd, an, ac, s0, s1, s2, it, ⟨xi, xo, xs, xp, xq⟩, ⟨yi, yo, ys, yp, yq⟩, pr, qt⟩) 36 (0, 0))) := by show _ = _; rw [← hwe, Below.heap_setCell _ _ _ _ (by show B ≠ S; omega)]; exact HRd.out
          have HWe := hide hwe
          clear hwe
          go_wp2
          rw [HWe.out]
          clear HWe HTd HPd HBd HRd t tf
          rw [rounds_succ]
          have t := HTc.out.c1
          have q : we0.cell? ⟨B, 4, none⟩ = some (.int .i64 s1) := hs_cell HRc.out rfl
          go_wp2
          refine region_quiet_tail 10 (by kernel_rfl) (by kernel_rfl) ?_
          simp only [List.take_succ_cons, List.take_zero, List.drop_succ_cons, List.drop_zero]
          repeat (first | go_big_quiet_step (fail) | quiet_step (fail))
          refine wpQuiet_nil ?_
          intro _ hw'
          obtain ⟨nq, hw''⟩ := hw'
          subst hw''
          have HTd := hide (HTc.out.lat (blw_drew nq))
          have HPd := hide (HPc.out.drew nq)
          have HBd := hide (HBc.out.trans ((blw_drew nq).mono HBc.out.size))
          have HRd : Hid ((we0.drewN nq).heap[B]? = some (.cells (payA ⟨kd, an, ac, s0, s1, s2, it, ⟨xi, xo, xs, xp, xq⟩, ⟨yi, yo, ys, yp, yq⟩, pr, qt⟩) 36 (0, 0))) := HRc.out
          clear t q HRc HTc HPc HBc
          generalize we0.drewN nq = wd1 at *
          have t := HTd.out.c1
          have tf := HTd.out.fr 1
          obtain ⟨we1, hwe⟩ : ∃ we, wd1.setCell ⟨S, 1, none⟩ (.int .i64 (y1 + s1)) = we := ⟨_, rfl⟩
          have HTc : Hid (Tri we1 S (y0 + s0) (y1 + s1) y2) := by show Tri _ _ _ _ _; rw [← hwe]; exact HTd.out.s1 _
          have HPc : Hid (Purse we1 55 p F) := by show Purse _ _ _ _; rw [← hwe]; exact HPd.out.other (by show p ≠ S; omega) _
          have HBc : Hid (Below w.heap.size w we1) := by show Below _ _ _; rw [← hwe]; exact HBd.out.setCell (by show w.heap.size ≤ S; omega) _
          have HRc : Hid (we1.heap[B]? = some (.cells (payA ⟨kd, an, ac, s0, s1, s2, it, ⟨xi, xo, xs, xp, xq⟩, ⟨yi, yo, ys, yp, yq⟩, pr, qt⟩) 36 (0, 0))) := by show _ = _; rw [← hwe, Below.heap_setCell _ _ _ _ (by show B ≠ S; omega)]; exact HRd.out
          have HWe := hide hwe
          clear hwe
          go_wp2
          rw [HWe.out]
          clear HWe HTd HPd HBd HRd t tf
          rw [rounds_succ]
          have t := HTc.out.c2
          have q : we1.cell? ⟨B, 5, none⟩ = some (.int .i64 s2) := hs_cell HRc.out rfl
          go_wp2
          refine region_quiet_tail 10 (by kernel_rfl) (by kernel_rfl) ?_
          simp only [List.take_succ_cons, List.take_zero, List.drop_succ_cons, List.drop_zero]
          repeat (first | go_big_quiet_step (fail) | quiet_step (fail))
          refine wpQuiet_nil ?_
          intro _ hw'
          obtain ⟨nq, hw''⟩ := hw'
          subst hw''
          have HTd := hide (HTc.out.lat (blw_drew nq))
          have HPd := hide (HPc.out.drew nq)
          have HBd := hide (HBc.out.trans ((blw_drew nq).mono HBc.out.size))
          have HRd : Hid ((we1.drewN nq).heap[B]? = some (.cells (payA ⟨kd, an, ac, s0, s1, s2, it, ⟨xi, xo, xs, xp, xq⟩, ⟨yi, yo, ys, yp, yq⟩, pr, qt⟩) 36 (0, 0))) := HRc.out
          clear t q HRc HTc HPc HBc
          generalize we1.drewN nq = wd2 at *
          have t := HTd.out.c2
          have tf := HTd.out.fr 2
          obtain ⟨we2, hwe⟩ : ∃ we, wd2.setCell ⟨S, 2, none⟩ (.int .i64 (y2 + s2)) = we := ⟨_, rfl⟩
          have HTc : Hid (Tri we2 S (y0 + s0) (y1 + s1) (y2 + s2)) := by show Tri _ _ _ _ _; rw [← hwe]; exact HTd.out.s2 _
          have HPc : Hid (Purse we2 55 p F) := by show Purse _ _ _ _; rw [← hwe]; exact HPd.out.other (by show p ≠ S; omega) _
          have HBc : Hid (Below w.heap.size w we2) := by show Below _ _ _; rw [← hwe]; exact HBd.out.setCell (by show w.heap.size ≤ S; omega) _
          have HRc : Hid (we2.heap[B]? = some (.cells (payA ⟨kd, an, ac, s0, s1, s2, it, ⟨xi, xo, xs, xp, xq⟩, ⟨yi, yo, ys, yp, yq⟩, pr, qt⟩) 36 (0, 0))) := by show _ = _; rw [← hwe, Below.heap_setCell _ _ _ _ (by show B ≠ S; omega)]; exact HRd.out
          have HWe := hide hwe
          clear hwe
          go_wp2
          rw [HWe.out]
          clear HWe HTd HPd HBd HRd t tf
          have HTF : Hid (Tri we2 S (Pu.stocks F 0 6) (Pu.stocks F 1 6) (Pu.stocks F 2 6)) := by show Tri _ _ _ _ _; rw [HES.out.2.1, HES.out.2.2.1, HES.out.2.2.2]; exact HTc.out
          have HPF := HPc
          have HBF := HBc
          rw [rounds_succ]
          go_wp2
          go_loopw [10] (fun i wz => ∃ (m : Nat), m ≤ 6 ∧ i = .int .i64 m ∧ Purse wz 55 p F ∧ Tri wz S (Pu.stocks F 0 6) (Pu.stocks F 1 6) (Pu.stocks F 2 6) ∧ Below w.heap.size w wz) (fun i _ => 6 - (intOf i).toNat)
          case atStart => exact ⟨0, by decide, rfl, HPF.out, HTF.out, HBF.out⟩
          case round =>
            obtain ⟨m, hm, rfl, hp1, ht1, hbl⟩ := hrel
            have HP1 := hide hp1; have HT1 := hide ht1; have HB1 := hide hbl
            clear hp1 ht1 hbl HPF HTF HBF
            by_cases hm6 : m < 6
            · have hmi : (m : Int) < 6 := by omega
              have HOP := hide (of_any p m F wr HP1.out)
              rw [ofV_in F hm6] at HOP
              unfold hasV at HOP
              have g1 := HGF.out.cash m hm6
              have g2 := HGF.out.stock m 0 hm6 (by decide)
              have g3 := HGF.out.stock m 1 hm6 (by decide)
              have g4 := HGF.out.stock m 2 hm6 (by decide)
              simp only [Nat.add_zero, Nat.add_assoc, Nat.reduceAdd] at g1 g2 g3 g4
              go_wp2_with fail
              refine HOP.out.mono ?_
              rintro e wy ⟨rfl, hby⟩
              have HBy : Hid (Below w.heap.size w wy) := HB1.out.trans (hby.mono HB1.out.size)
              have HPy := hide (HP1.out.lat hby)
              have HTy := hide (HT1.out.lat hby)
              clear hby HOP
              generalize F (m * 8) = u0 at *
              generalize F (m * 8 + 1) = u1 at *
              generalize F (m * 8 + 2) = u2 at *
              generalize F (m * 8 + 3) = u3 at *
              generalize F (m * 8 + 4) = u4 at *
              generalize F (m * 8 + 5) = u5 at *
              generalize F (m * 8 + 6) = u6 at *
              generalize F (m * 8 + 7) = u7 at *
              have r1 : decide (u1 < 0) = false := by simp; omega
              have r2 : decide (u0 < u1) = false := by simp; omega
              have r3 : decide (1099511627776 < u0) = false := by simp; omega
              have r4 : decide (u5 < 0) = false := by simp; omega
              have r5 : decide (u2 < u5) = false := by simp; omega
              have r6 : decide (1073741824 < u2) = false := by simp; omega
              have r7 : decide (u6 < 0) = false := by simp; omega
              have r8 : decide (u3 < u6) = false := by simp; omega
              have r9 : decide (1073741824 < u3) = false := by simp; omega
              have r10 : decide (u7 < 0) = false := by simp; omega
              have r11 : decide (u4 < u7) = false := by simp; omega
              have r12 : decide (1073741824 < u4) = false := by simp; omega
              clear g1 g2 g3 g4
              have HBz : Hid (Below wy.heap.size wy (wy.alloc (.cells #[.int .i64 u0, .int .i64 u1, .int .i64 u2, .int .i64 u3, .int .i64 u4, .int .i64 u5, .int .i64 u6, .int .i64 u7] 47))) := (Below.refl _ _).alloc (Nat.le_refl _) _
              simp only []
              go_wp2
              refine wp_loop_rounds 4 ?_
              rw [rounds_succ]
              go_wp2
              go_quiet (fail)
              go_wp2
              rw [rounds_succ]
              go_wp2
              go_quiet (fail)
              go_wp2
              rw [rounds_succ]
              go_wp2
              go_quiet (fail)
              go_wp2
              rw [rounds_succ]
              go_wp2
              exact ⟨⟨m + 1, by omega, by go_num, (HPy.out.lat HBz.out).drew _, (HTy.out.lat HBz.out).lat (blw_drew _), (HBy.out.trans (HBz.out.mono HBy.out.size)).trans ((blw_drew _).mono (HBy.out.trans (HBz.out.mono HBy.out.size)).size)⟩, by simp [intOf]; omega⟩
            · have hmi : ¬ (m : Int) < 6 := by omega
              go_wp2
              exact ⟨⟨k + 1, F, by omega, by go_num, by rw [HES.out.1], HGF.out, HP1.out, HT1.out, HB1.out⟩, by simp [intOf]; omega⟩
        · obtain ⟨y, hy⟩ := errE_ne v hz
          have HFE : Hid (Pu.giveF f ⟨an, ac, s0, s1, s2⟩ = f) := by show _ = _; unfold Pu.giveF; rw [if_neg hz]
          rw [HFE.out] at HPF HGF
          have HTF := HTF0
          rw [hy]
          obtain ⟨F, hF⟩ : ∃ F, F = f := ⟨_, rfl⟩
          rw [← hF] at HPF HTF HGF
          have HCE : Hid (Pu.cashes f 6 = Pu.cashes F 6) := by show _ = _; rw [hF]
          clear hy hz HFE HTF0 hF HR3
          simp only []
          go_wp2
          go_loopw [10] (fun i wz => ∃ (m : Nat), m ≤ 6 ∧ i = .int .i64 m ∧ Purse wz 55 p F ∧ Tri wz S (Pu.stocks F 0 6) (Pu.stocks F 1 6) (Pu.stocks F 2 6) ∧ Below w.heap.size w wz) (fun i _ => 6 - (intOf i).toNat)
          case atStart => exact ⟨0, by decide, rfl, HPF.out, HTF.out, HBF.out⟩
          case round =>
            obtain ⟨m, hm, rfl, hp1, ht1, hbl⟩ := hrel
            have HP1 := hide hp1; have HT1 := hide ht1; have HB1 := hide hbl
            clear hp1 ht1 hbl HPF HTF HBF
            by_cases hm6 : m < 6
            · have hmi : (m : Int) < 6 := by omega
              have HOP := hide (of_any p m F wr HP1.out)
              rw [ofV_in F hm6] at HOP
              unfold hasV at HOP
              have g1 := HGF.out.cash m hm6
              have g2 := HGF.out.stock m 0 hm6 (by decide)
              have g3 := HGF.out.stock m 1 hm6 (by decide)
              have g4 := HGF.out.stock m 2 hm6 (by decide)
              simp only [Nat.add_zero, Nat.add_assoc, Nat.reduceAdd] at g1 g2 g3 g4
              go_wp2_with fail
              refine HOP.out.mono ?_
              rintro e wy ⟨rfl, hby⟩
              have HBy : Hid (Below w.heap.size w wy) := HB1.out.trans (hby.mono HB1.out.size)
              have HPy := hide (HP1.out.lat hby)
              have HTy := hide (HT1.out.lat hby)
              clear hby HOP
              generalize F (m * 8) = u0 at *
              generalize F (m * 8 + 1) = u1 at *
              generalize F (m * 8 + 2) = u2 at *
              generalize F (m * 8 + 3) = u3 at *
              generalize F (m * 8 + 4) = u4 at *
              generalize F (m * 8 + 5) = u5 at *
              generalize F (m * 8 + 6) = u6 at *
              generalize F (m * 8 + 7) = u7 at *
              have r1 : decide (u1 < 0) = false := by simp; omega
              have r2 : decide (u0 < u1) = false := by simp; omega
              have r3 : decide (1099511627776 < u0) = false := by simp; omega
              have r4 : decide (u5 < 0) = false := by simp; omega
              have r5 : decide (u2 < u5) = false := by simp; omega
              have r6 : decide (1073741824 < u2) = false := by simp; omega
              have r7 : decide (u6 < 0) = false := by simp; omega
              have r8 : decide (u3 < u6) = false := by simp; omega
              have r9 : decide (1073741824 < u3) = false := by simp; omega
              have r10 : decide (u7 < 0) = false := by simp; omega
              have r11 : decide (u4 < u7) = false := by simp; omega
              have r12 : decide (1073741824 < u4) = false := by simp; omega
              clear g1 g2 g3 g4
              have HBz : Hid (Below wy.heap.size wy (wy.alloc (.cells #[.int .i64 u0, .int .i64 u1, .int .i64 u2, .int .i64 u3, .int .i64 u4, .int .i64 u5, .int .i64 u6, .int .i64 u7] 47))) := (Below.refl _ _).alloc (Nat.le_refl _) _
              simp only []
              go_wp2
              refine wp_loop_rounds 4 ?_
              rw [rounds_succ]
              go_wp2
              go_quiet (fail)
              go_wp2
              rw [rounds_succ]
              go_wp2
              go_quiet (fail)
              go_wp2
              rw [rounds_succ]
              go_wp2
              go_quiet (fail)
              go_wp2
              rw [rounds_succ]
              go_wp2
              exact ⟨⟨m + 1, by omega, by go_num, (HPy.out.lat HBz.out).drew _, (HTy.out.lat HBz.out).lat (blw_drew _), (HBy.out.trans (HBz.out.mono HBy.out.size)).trans ((blw_drew _).mono (HBy.out.trans (HBz.out.mono HBy.out.size)).size)⟩, by simp [intOf]; omega⟩
            · have hmi : ¬ (m : Int) < 6 := by omega
              go_wp2
              exact ⟨⟨k + 1, F, by omega, by go_num, by rw [HCE.out], HGF.out, HP1.out, HT1.out, HB1.out⟩, by simp [intOf]; omega⟩
      | false =>
        cases hkh : (kd.toList == [104, 111, 108, 100]) with
        | true =>
          have HA := hide (hold_any p it ⟨xi, xo, xs, xp, xq⟩ f v WA HEA.out.per HKA.out HG.out)
          unfold lotV at HA
          simp only [] at HA
          go_wp2_with (first | (guard_target =~ wpList _ _ _ ({ dst := _, op := Op.load 36 _, type := _, pos := _, after := _, guard := _ } :: _) _ _; refine wpList_load36 (G := g.add (k * 19)) HPA.out rfl (.tmp 36) rfl rfl ?_) | (guard_target =~ wpList _ _ _ ({ dst := _, op := Op.store 36 _ _, type := _, pos := _, after := _, guard := _ } :: _) _ _; refine wpList_store36 WA HWA.out rfl (.tmp 8) (.tmp 37) rfl rfl rfl ?_))
          refine HA.out.mono ?_
          rintro e w3 ⟨rfl, hp3, hs3⟩
          have HBF : Hid (Below w.heap.size w w3) := HBA.out.trans (hs3.below HBA.out.size (by omega))
          have HTF0 := hide (HTA.out.save hs3 (by omega))
          have HPF := hide hp3
          have HGF := hide (Pu.good_hold HG.out it ⟨xi, xo, xs, xp, xq⟩)
          have HSU := hide (Pu.hold_sums f it ⟨xi, xo, xs, xp, xq⟩ 6)
          clear hp3 hs3 HA d0 d1 d2 d3 d4 d5 d6 d7 d8 d9 d10 d11 d12 d13 d14 d15 d16 d17 d18 HWA HPA HTA HKA HBA HEA HRA
          have HTF : Hid (Tri w3 S (Pu.stocks (Pu.holdF f it ⟨xi, xo, xs, xp, xq⟩) 0 6) (Pu.stocks (Pu.holdF f it ⟨xi, xo, xs, xp, xq⟩) 1 6) (Pu.stocks (Pu.holdF f it ⟨xi, xo, xs, xp, xq⟩) 2 6)) := by
            show Tri _ _ _ _ _
            rw [HSU.out.2 0 (by decide), HSU.out.2 1 (by decide), HSU.out.2 2 (by decide)]
            exact HTF0.out
          have HCE : Hid (Pu.cashes f 6 = Pu.cashes (Pu.holdF f it ⟨xi, xo, xs, xp, xq⟩) 6) := HSU.out.1.symm
          generalize Pu.holdF f it ⟨xi, xo, xs, xp, xq⟩ = F at *
          clear HTF0 HSU
          simp only []
          go_wp2
          go_loopw [10] (fun i wz => ∃ (m : Nat), m ≤ 6 ∧ i = .int .i64 m ∧ Purse wz 55 p F ∧ Tri wz S (Pu.stocks F 0 6) (Pu.stocks F 1 6) (Pu.stocks F 2 6) ∧ Below w.heap.size w wz) (fun i _ => 6 - (intOf i).toNat)
          case atStart => exact ⟨0, by decide, rfl, HPF.out, HTF.out, HBF.out⟩
          case round =>
            obtain ⟨m, hm, rfl, hp1, ht1, hbl⟩ := hrel
            have HP1 := hide hp1; have HT1 := hide ht1; have HB1 := hide hbl
            clear hp1 ht1 hbl HPF HTF HBF
            by_cases hm6 : m < 6
            · have hmi : (m : Int) < 6 := by omega
              have HOP := hide (of_any p m F wr HP1.out)
              rw [ofV_in F hm6] at HOP
              unfold hasV at HOP
              have g1 := HGF.out.cash m hm6
              have g2 := HGF.out.stock m 0 hm6 (by decide)
              have g3 := HGF.out.stock m 1 hm6 (by decide)
              have g4 := HGF.out.stock m 2 hm6 (by decide)
              simp only [Nat.add_zero, Nat.add_assoc, Nat.reduceAdd] at g1 g2 g3 g4
              go_wp2_with fail
              refine HOP.out.mono ?_
              rintro e wy ⟨rfl, hby⟩
              have HBy : Hid (Below w.heap.size w wy) := HB1.out.trans (hby.mono HB1.out.size)
              have HPy := hide (HP1.out.lat hby)
              have HTy := hide (HT1.out.lat hby)
              clear hby HOP
              generalize F (m * 8) = u0 at *
              generalize F (m * 8 + 1) = u1 at *
              generalize F (m * 8 + 2) = u2 at *
              generalize F (m * 8 + 3) = u3 at *
              generalize F (m * 8 + 4) = u4 at *
              generalize F (m * 8 + 5) = u5 at *
              generalize F (m * 8 + 6) = u6 at *
              generalize F (m * 8 + 7) = u7 at *
              have r1 : decide (u1 < 0) = false := by simp; omega
              have r2 : decide (u0 < u1) = false := by simp; omega
              have r3 : decide (1099511627776 < u0) = false := by simp; omega
              have r4 : decide (u5 < 0) = false := by simp; omega
              have r5 : decide (u2 < u5) = false := by simp; omega
              have r6 : decide (1073741824 < u2) = false := by simp; omega
              have r7 : decide (u6 < 0) = false := by simp; omega
              have r8 : decide (u3 < u6) = false := by simp; omega
              have r9 : decide (1073741824 < u3) = false := by simp; omega
              have r10 : decide (u7 < 0) = false := by simp; omega
              have r11 : decide (u4 < u7) = false := by simp; omega
              have r12 : decide (1073741824 < u4) = false := by simp; omega
              clear g1 g2 g3 g4
              have HBz : Hid (Below wy.heap.size wy (wy.alloc (.cells #[.int .i64 u0, .int .i64 u1, .int .i64 u2, .int .i64 u3, .int .i64 u4, .int .i64 u5, .int .i64 u6, .int .i64 u7] 47))) := (Below.refl _ _).alloc (Nat.le_refl _) _
              simp only []
              go_wp2
              refine wp_loop_rounds 4 ?_
              rw [rounds_succ]
              go_wp2
              go_quiet (fail)
              go_wp2
              rw [rounds_succ]
              go_wp2
              go_quiet (fail)
              go_wp2
              rw [rounds_succ]
              go_wp2
              go_quiet (fail)
              go_wp2
              rw [rounds_succ]
              go_wp2
              exact ⟨⟨m + 1, by omega, by go_num, (HPy.out.lat HBz.out).drew _, (HTy.out.lat HBz.out).lat (blw_drew _), (HBy.out.trans (HBz.out.mono HBy.out.size)).trans ((blw_drew _).mono (HBy.out.trans (HBz.out.mono HBy.out.size)).size)⟩, by simp [intOf]; omega⟩
            · have hmi : ¬ (m : Int) < 6 := by omega
              go_wp2
              exact ⟨⟨k + 1, F, by omega, by go_num, by rw [HCE.out], HGF.out, HP1.out, HT1.out, HB1.out⟩, by simp [intOf]; omega⟩
        | false =>
          cases hkf : (kd.toList == [102, 114, 101, 101]) with
          | true =>
            have HA := hide (free_any p it ⟨xi, xo, xs, xp, xq⟩ f v WA HEA.out.per HKA.out HG.out)
            unfold lotV at HA
            simp only [] at HA
            go_wp2_with (first | (guard_target =~ wpList _ _ _ ({ dst := _, op := Op.load 36 _, type := _, pos := _, after := _, guard := _ } :: _) _ _; refine wpList_load36 (G := g.add (k * 19)) HPA.out rfl (.tmp 36) rfl rfl ?_) | (guard_target =~ wpList _ _ _ ({ dst := _, op := Op.store 36 _ _, type := _, pos := _, after := _, guard := _ } :: _) _ _; refine wpList_store36 WA HWA.out rfl (.tmp 8) (.tmp 37) rfl rfl rfl ?_))
            refine HA.out.mono ?_
            rintro e w3 ⟨rfl, hp3, hs3⟩
            have HBF : Hid (Below w.heap.size w w3) := HBA.out.trans (hs3.below HBA.out.size (by omega))
            have HTF0 := hide (HTA.out.save hs3 (by omega))
            have HPF := hide hp3
            have HGF := hide (Pu.good_free HG.out it ⟨xi, xo, xs, xp, xq⟩)
            have HSU := hide (Pu.free_sums f it ⟨xi, xo, xs, xp, xq⟩ 6)
            clear hp3 hs3 HA d0 d1 d2 d3 d4 d5 d6 d7 d8 d9 d10 d11 d12 d13 d14 d15 d16 d17 d18 HWA HPA HTA HKA HBA HEA HRA
            have HTF : Hid (Tri w3 S (Pu.stocks (Pu.freeF f it ⟨xi, xo, xs, xp, xq⟩) 0 6) (Pu.stocks (Pu.freeF f it ⟨xi, xo, xs, xp, xq⟩) 1 6) (Pu.stocks (Pu.freeF f it ⟨xi, xo, xs, xp, xq⟩) 2 6)) := by
              show Tri _ _ _ _ _
              rw [HSU.out.2 0 (by decide), HSU.out.2 1 (by decide), HSU.out.2 2 (by decide)]
              exact HTF0.out
            have HCE : Hid (Pu.cashes f 6 = Pu.cashes (Pu.freeF f it ⟨xi, xo, xs, xp, xq⟩) 6) := HSU.out.1.symm
            generalize Pu.freeF f it ⟨xi, xo, xs, xp, xq⟩ = F at *
            clear HTF0 HSU
            simp only []
            go_wp2
            go_loopw [10] (fun i wz => ∃ (m : Nat), m ≤ 6 ∧ i = .int .i64 m ∧ Purse wz 55 p F ∧ Tri wz S (Pu.stocks F 0 6) (Pu.stocks F 1 6) (Pu.stocks F 2 6) ∧ Below w.heap.size w wz) (fun i _ => 6 - (intOf i).toNat)
            case atStart => exact ⟨0, by decide, rfl, HPF.out, HTF.out, HBF.out⟩
            case round =>
              obtain ⟨m, hm, rfl, hp1, ht1, hbl⟩ := hrel
              have HP1 := hide hp1; have HT1 := hide ht1; have HB1 := hide hbl
              clear hp1 ht1 hbl HPF HTF HBF
              by_cases hm6 : m < 6
              · have hmi : (m : Int) < 6 := by omega
                have HOP := hide (of_any p m F wr HP1.out)
                rw [ofV_in F hm6] at HOP
                unfold hasV at HOP
                have g1 := HGF.out.cash m hm6
                have g2 := HGF.out.stock m 0 hm6 (by decide)
                have g3 := HGF.out.stock m 1 hm6 (by decide)
                have g4 := HGF.out.stock m 2 hm6 (by decide)
                simp only [Nat.add_zero, Nat.add_assoc, Nat.reduceAdd] at g1 g2 g3 g4
                go_wp2_with fail
                refine HOP.out.mono ?_
                rintro e wy ⟨rfl, hby⟩
                have HBy : Hid (Below w.heap.size w wy) := HB1.out.trans (hby.mono HB1.out.size)
                have HPy := hide (HP1.out.lat hby)
                have HTy := hide (HT1.out.lat hby)
                clear hby HOP
                generalize F (m * 8) = u0 at *
                generalize F (m * 8 + 1) = u1 at *
                generalize F (m * 8 + 2) = u2 at *
                generalize F (m * 8 + 3) = u3 at *
                generalize F (m * 8 + 4) = u4 at *
                generalize F (m * 8 + 5) = u5 at *
                generalize F (m * 8 + 6) = u6 at *
                generalize F (m * 8 + 7) = u7 at *
                have r1 : decide (u1 < 0) = false := by simp; omega
                have r2 : decide (u0 < u1) = false := by simp; omega
                have r3 : decide (1099511627776 < u0) = false := by simp; omega
                have r4 : decide (u5 < 0) = false := by simp; omega
                have r5 : decide (u2 < u5) = false := by simp; omega
                have r6 : decide (1073741824 < u2) = false := by simp; omega
                have r7 : decide (u6 < 0) = false := by simp; omega
                have r8 : decide (u3 < u6) = false := by simp; omega
                have r9 : decide (1073741824 < u3) = false := by simp; omega
                have r10 : decide (u7 < 0) = false := by simp; omega
                have r11 : decide (u4 < u7) = false := by simp; omega
                have r12 : decide (1073741824 < u4) = false := by simp; omega
                clear g1 g2 g3 g4
                have HBz : Hid (Below wy.heap.size wy (wy.alloc (.cells #[.int .i64 u0, .int .i64 u1, .int .i64 u2, .int .i64 u3, .int .i64 u4, .int .i64 u5, .int .i64 u6, .int .i64 u7] 47))) := (Below.refl _ _).alloc (Nat.le_refl _) _
                simp only []
                go_wp2
                refine wp_loop_rounds 4 ?_
                rw [rounds_succ]
                go_wp2
                go_quiet (fail)
                go_wp2
                rw [rounds_succ]
                go_wp2
                go_quiet (fail)
                go_wp2
                rw [rounds_succ]
                go_wp2
                go_quiet (fail)
                go_wp2
                rw [rounds_succ]
                go_wp2
                exact ⟨⟨m + 1, by omega, by go_num, (HPy.out.lat HBz.out).drew _, (HTy.out.lat HBz.out).lat (blw_drew _), (HBy.out.trans (HBz.out.mono HBy.out.size)).trans ((blw_drew _).mono (HBy.out.trans (HBz.out.mono HBy.out.size)).size)⟩, by simp [intOf]; omega⟩
              · have hmi : ¬ (m : Int) < 6 := by omega
                go_wp2
                exact ⟨⟨k + 1, F, by omega, by go_num, by rw [HCE.out], HGF.out, HP1.out, HT1.out, HB1.out⟩, by simp [intOf]; omega⟩
          | false =>
            have HA := hide (trade_any p it ⟨xi, xo, xs, xp, xq⟩ ⟨yi, yo, ys, yp, yq⟩ pr qt f v WA HEA.out HKA.out HG.out)
            unfold lotV at HA
            simp only [] at HA
            go_wp2_with (first | (guard_target =~ wpList _ _ _ ({ dst := _, op := Op.load 36 _, type := _, pos := _, after := _, guard := _ } :: _) _ _; refine wpList_load36 (G := g.add (k * 19)) HPA.out rfl (.tmp 36) rfl rfl ?_) | (guard_target =~ wpList _ _ _ ({ dst := _, op := Op.store 36 _ _, type := _, pos := _, after := _, guard := _ } :: _) _ _; refine wpList_store36 WA HWA.out rfl (.tmp 8) (.tmp 37) rfl rfl rfl ?_))
            refine HA.out.mono ?_
            rintro e w3 ⟨rfl, hp3, hs3⟩
            have HBF : Hid (Below w.heap.size w w3) := HBA.out.trans (hs3.below HBA.out.size (by omega))
            have HTF0 := hide (HTA.out.save hs3 (by omega))
            have HPF := hide hp3
            have HGF := hide (Pu.good_trade HG.out it ⟨xi, xo, xs, xp, xq⟩ ⟨yi, yo, ys, yp, yq⟩ pr qt)
            have HSU := hide (Pu.trade_sums f it ⟨xi, xo, xs, xp, xq⟩ ⟨yi, yo, ys, yp, yq⟩ pr qt)
            clear hp3 hs3 HA d0 d1 d2 d3 d4 d5 d6 d7 d8 d9 d10 d11 d12 d13 d14 d15 d16 d17 d18 HWA HPA HTA HKA HBA HEA HRA
            have HTF : Hid (Tri w3 S (Pu.stocks (Pu.tradeF f it ⟨xi, xo, xs, xp, xq⟩ ⟨yi, yo, ys, yp, yq⟩ pr qt) 0 6) (Pu.stocks (Pu.tradeF f it ⟨xi, xo, xs, xp, xq⟩ ⟨yi, yo, ys, yp, yq⟩ pr qt) 1 6) (Pu.stocks (Pu.tradeF f it ⟨xi, xo, xs, xp, xq⟩ ⟨yi, yo, ys, yp, yq⟩ pr qt) 2 6)) := by
              show Tri _ _ _ _ _
              rw [HSU.out.2 0 (by decide), HSU.out.2 1 (by decide), HSU.out.2 2 (by decide)]
              exact HTF0.out
            have HCE : Hid (Pu.cashes f 6 = Pu.cashes (Pu.tradeF f it ⟨xi, xo, xs, xp, xq⟩ ⟨yi, yo, ys, yp, yq⟩ pr qt) 6) := HSU.out.1.symm
            generalize Pu.tradeF f it ⟨xi, xo, xs, xp, xq⟩ ⟨yi, yo, ys, yp, yq⟩ pr qt = F at *
            clear HTF0 HSU
            simp only []
            go_wp2
            go_loopw [10] (fun i wz => ∃ (m : Nat), m ≤ 6 ∧ i = .int .i64 m ∧ Purse wz 55 p F ∧ Tri wz S (Pu.stocks F 0 6) (Pu.stocks F 1 6) (Pu.stocks F 2 6) ∧ Below w.heap.size w wz) (fun i _ => 6 - (intOf i).toNat)
            case atStart => exact ⟨0, by decide, rfl, HPF.out, HTF.out, HBF.out⟩
            case round =>
              obtain ⟨m, hm, rfl, hp1, ht1, hbl⟩ := hrel
              have HP1 := hide hp1; have HT1 := hide ht1; have HB1 := hide hbl
              clear hp1 ht1 hbl HPF HTF HBF
              by_cases hm6 : m < 6
              · have hmi : (m : Int) < 6 := by omega
                have HOP := hide (of_any p m F wr HP1.out)
                rw [ofV_in F hm6] at HOP
                unfold hasV at HOP
                have g1 := HGF.out.cash m hm6
                have g2 := HGF.out.stock m 0 hm6 (by decide)
                have g3 := HGF.out.stock m 1 hm6 (by decide)
                have g4 := HGF.out.stock m 2 hm6 (by decide)
                simp only [Nat.add_zero, Nat.add_assoc, Nat.reduceAdd] at g1 g2 g3 g4
                go_wp2_with fail
                refine HOP.out.mono ?_
                rintro e wy ⟨rfl, hby⟩
                have HBy : Hid (Below w.heap.size w wy) := HB1.out.trans (hby.mono HB1.out.size)
                have HPy := hide (HP1.out.lat hby)
                have HTy := hide (HT1.out.lat hby)
                clear hby HOP
                generalize F (m * 8) = u0 at *
                generalize F (m * 8 + 1) = u1 at *
                generalize F (m * 8 + 2) = u2 at *
                generalize F (m * 8 + 3) = u3 at *
                generalize F (m * 8 + 4) = u4 at *
                generalize F (m * 8 + 5) = u5 at *
                generalize F (m * 8 + 6) = u6 at *
                generalize F (m * 8 + 7) = u7 at *
                have r1 : decide (u1 < 0) = false := by simp; omega
                have r2 : decide (u0 < u1) = false := by simp; omega
                have r3 : decide (1099511627776 < u0) = false := by simp; omega
                have r4 : decide (u5 < 0) = false := by simp; omega
                have r5 : decide (u2 < u5) = false := by simp; omega
                have r6 : decide (1073741824 < u2) = false := by simp; omega
                have r7 : decide (u6 < 0) = false := by simp; omega
                have r8 : decide (u3 < u6) = false := by simp; omega
                have r9 : decide (1073741824 < u3) = false := by simp; omega
                have r10 : decide (u7 < 0) = false := by simp; omega
                have r11 : decide (u4 < u7) = false := by simp; omega
                have r12 : decide (1073741824 < u4) = false := by simp; omega
                clear g1 g2 g3 g4
                have HBz : Hid (Below wy.heap.size wy (wy.alloc (.cells #[.int .i64 u0, .int .i64 u1, .int .i64 u2, .int .i64 u3, .int .i64 u4, .int .i64 u5, .int .i64 u6, .int .i64 u7] 47))) := (Below.refl _ _).alloc (Nat.le_refl _) _
                simp only []
                go_wp2
                refine wp_loop_rounds 4 ?_
                rw [rounds_succ]
                go_wp2
                go_quiet (fail)
                go_wp2
                rw [rounds_succ]
                go_wp2
                go_quiet (fail)
                go_wp2
                rw [rounds_succ]
                go_wp2
                go_quiet (fail)
                go_wp2
                rw [rounds_succ]
                go_wp2
                exact ⟨⟨m + 1, by omega, by go_num, (HPy.out.lat HBz.out).drew _, (HTy.out.lat HBz.out).lat (blw_drew _), (HBy.out.trans (HBz.out.mono HBy.out.size)).trans ((blw_drew _).mono (HBy.out.trans (HBz.out.mono HBy.out.size)).size)⟩, by simp [intOf]; omega⟩
              · have hmi : ¬ (m : Int) < 6 := by omega
                go_wp2
                exact ⟨⟨k + 1, F, by omega, by go_num, by rw [HCE.out], HGF.out, HP1.out, HT1.out, HB1.out⟩, by simp [intOf]; omega⟩
    · have hki : ¬ (k : Int) < n := by omega
      have HTT := hide (total_any p f wr HK.out HG.out)
      unfold triV at HTT
      have t0 := HT.out.c0
      have t1 := HT.out.c1
      have t2 := HT.out.c2
      have hSl : S < wr.heap.size := HT.out.lt
      generalize Pu.cashes f 6 = C at *
      generalize Pu.stocks f 0 6 = y0 at *
      generalize Pu.stocks f 1 6 = y1 at *
      generalize Pu.stocks f 2 6 = y2 at *
      have hcmp : ∀ W, (binOp .eql 27 (.agg #[.int .i64 y0, .int .i64 y1, .int .i64 y2]) (.agg #[.int .i64 y0, .int .i64 y1, .int .i64 y2])).run Tryd.prog W = .ok (.bool true) W := fun W => by rw [eql27]; simp
      go_wp2_with fail
      refine HTT.out.mono ?_
      rintro e w3 ⟨rfl, hb3⟩
      have HB3 : Hid (Below w.heap.size w w3) := HB.out.trans (hb3.mono HB.out.size)
      have HB4 : Hid (Below w.heap.size w (w3.alloc (.cells #[.int .i64 y0, .int .i64 y1, .int .i64 y2] 27))) := HB3.out.alloc HB3.out.size _
      have r0 := cell_later hb3 t0
      have r1 := cell_later hb3 t1
      have r2 := cell_later hb3 t2
      have hSl3 : S < w3.heap.size := by have := hb3.size; omega
      clear hb3 t0 t1 t2 HTT HT HK HB
      simp only []
      go_wp2
      go_ret
      exact ⟨rfl, HB4.out⟩
theorem keeps_any (a : Option Addr) (n cap : Nat) (l : List PAct) (v : Nat → Value) (w : World) (he : TEr w v) (hl : ArgPays w a n l) :
    Calls Tryd.prog 4 #[.slice a n cap] w fun e w' => e = .returned (.bool true) ∧ Below w.heap.size w w' := by
  by_cases h : 60 < n
  · exact keeps_big a n cap v w he h
  · exact keeps_some a n cap l v w he hl.1 (by omega) hl.2
end Go.Proofs.YtgmncdpjbphfhaaDoor
