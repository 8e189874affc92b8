/- The law BookActs, for all acts and owners. -/
import Derived.Test.YtbcinejhipmomaaDoorBmTwo
import Derived.Test.YtbcinejhipmomaaDoorCode
import Derived.Deep.RegionWith
import Derived.Test.YtbcinejhipmomaaDoorMany
namespace Go.Proofs.YtbcinejhipmomaaDoor
open Go.RowKit
set_option maxRecDepth 100000

theorem acts_big (a : Option Addr) (n cap : Nat) (ow : Int) (ad : Nat → Addr) (w : World) (he : Hid (Sent w ad)) (hn : 100 < n) :
    Calls Tryd.prog 8 #[.slice a n cap, .int .i64 ow] w fun e w' => e = .returned (.bool true) ∧ Below w.heap.size w w' := by
  have hn' : (100 : Int) < n := by omega
  go_enter Tryd.func8, Tryd.ntmps8
  go_wp2_with fail
  refine (booked_any 177 (.pointer (some (ad 1))) (.pointer (some (ad 5))) (.pointer (some (ad 6))) (.pointer (some (ad 7))) w (er4_sent he.out)).mono ?_
  rintro e w1 ⟨rfl, hb1⟩
  have HB1 := hide hb1
  clear hb1
  simp only []
  go_wp2
  go_ret
  exact ⟨rfl, HB1.out⟩

set_option maxHeartbeats 4000000 in
theorem acts_some (a : Option Addr) (n cap : Nat) (ow : Int) (l : List BAct) (ad : Nat → Addr) (w : World) (he : Hid (Sent w ad)) (hn : Hid (l.length = n)) (hn' : n ≤ 100) (hl : Hid (n = 0 ∨ ∃ g, a = some g ∧ ActsAt w g l)) :
    Calls Tryd.prog 8 #[.slice a n cap, .int .i64 ow] w fun e w' => e = .returned (.bool true) ∧ Below w.heap.size w w' := by
  have hni : ¬ (100 : Int) < n := by omega
  go_enter Tryd.func8, Tryd.ntmps8
  go_wp2_with fail
  refine (booked_any 177 (.pointer (some (ad 1))) (.pointer (some (ad 5))) (.pointer (some (ad 6))) (.pointer (some (ad 7))) w (er4_sent he.out)).mono ?_
  rintro e w1 ⟨rfl, hb1⟩
  have HB1 := hide hb1
  clear hb1
  simp only []
  go_wp2_with fail
  refine (newBook_any w1).mono ?_
  rintro e w2 ⟨rfl, rfl⟩
  have hB2 : Below w.heap.size w (w1.alloc (.cells #[.slice none 0 0] 92)) := HB1.out.alloc HB1.out.size _
  have hMN : MBook ((w1.alloc (.cells #[.slice none 0 0] 92)).alloc (.cells #[.slice none 0 0] 64)) w.heap.size (w1.heap.size + 1) (.slice none 0 0) [] := by
    refine ⟨?_, by have := HB1.out.size; omega, World.ownsRow_nil _ _ _ _⟩
    have := heap_alloc_new (w1.alloc (.cells #[.slice none 0 0] 92)) (.cells #[.slice none 0 0] 64)
    rw [show (w1.alloc (.cells #[.slice none 0 0] 92)).heap.size = w1.heap.size + 1 by simp] at this
    exact this
  have HTN : Hid (Two w ((w1.alloc (.cells #[.slice none 0 0] 92)).alloc (.cells #[.slice none 0 0] 64)) w1.heap.size (w1.heap.size + 1) (.slice none 0 0) (.slice none 0 0) [] []) :=
    ⟨(book_new w1 w.heap.size HB1.out.size).later ((Below.refl _ _).alloc (Nat.le_refl _) _), hMN, fun k hk => (by simp [Value.ownBlock] at hk), by omega, hB2.alloc hB2.size _⟩
  clear hB2 hMN
  simp only []
  go_wp2
  generalize (w1.alloc (.cells #[.slice none 0 0] 92)).alloc (.cells #[.slice none 0 0] 64) = w2 at *
  obtain ⟨p, hp⟩ : ∃ p, w1.heap.size = p := ⟨_, rfl⟩
  obtain ⟨pm, hpm⟩ : ∃ pm, p + 1 = pm := ⟨_, rfl⟩
  rw [hp] at HTN ⊢
  rw [hpm] at HTN ⊢
  clear hp hpm
  go_loopw [8] (fun i wr => ∃ (k : Nat) (L : List Cv.Lot), k ≤ n ∧ i = .int .i64 k ∧ BInv w wr p pm L) (fun i _ => n - (intOf i).toNat)
  case atStart => exact ⟨0, [], Nat.zero_le _, rfl, Bk.good_nil, _, _, HTN.out⟩
  case round =>
    obtain ⟨k, L, hk, rfl, hG, v, vm, hT⟩ := hrel
    have HG := hide hG; have HT := hide hT
    have HL60 : Hid (L.length ≤ 60) := hG.len
    clear hG hT HTN HB1
    by_cases hlt : k < n
    · have hki : (k : Int) < n := by omega
      obtain ⟨g, rfl, hlg⟩ : ∃ g, a = some g ∧ ActsAt w g l := by
        rcases hl.out with h | h
        · omega
        · exact h
      obtain ⟨c0, c1, c2, c3, c4, c5, c6, c7⟩ := (hlg.later HT.out.bl) k (by rw [hn.out]; exact hlt)
      clear hlg
      generalize anth l k = A at *
      obtain ⟨kd, ⟨xi, xo, xs, xp, xq⟩, id, q⟩ := A
      simp only [] at c0 c1 c2 c3 c4 c5 c6 c7
      obtain ⟨WA, hWA⟩ : ∃ WA, wr.alloc (.cells (actA ⟨kd, ⟨xi, xo, xs, xp, xq⟩, id, q⟩) 51) = WA := ⟨_, rfl⟩
      have hnA : Below wr.heap.size wr WA := by rw [← hWA]; exact (Below.refl _ _).alloc (Nat.le_refl _) _
      have HRA : Hid (WA.heap[wr.heap.size]? = some (.cells (actA ⟨kd, ⟨xi, xo, xs, xp, xq⟩, id, q⟩) 51 (0, 0))) := by show _ = _; rw [← hWA]; exact heap_alloc_new _ _
      have HTA := hide (HT.out.later hnA)
      unfold actA at hWA
      simp only [] at hWA
      have HWA := hide hWA
      have hBl : p < wr.heap.size := HT.out.b.lt
      obtain ⟨B, hB⟩ : ∃ B, wr.heap.size = B := ⟨_, rfl⟩
      have HBe := hide hB
      clear hnA hWA hB HT
      cases hka : (kd.toList == [97, 100, 100]) with
      | true =>
        go_wp2
        rw [HWA.out]
        rw [HBe.out] at HRA hBl ⊢
        obtain ⟨X, val, fl, hcl, hmk⟩ := bcls_all w p pm B vm ⟨kd, ⟨xi, xo, xs, xp, xq⟩, id, q⟩ L (Bk.addL L ⟨xi, xo, xs, xp, xq⟩)
        have HCL := hide hcl; have HMK := hide hmk
        have e1 : ∀ x, (val x).cell? ⟨B, 1, none⟩ = some (.int .i64 xi) := fun x => hs_cell (HCL.out x).2 rfl
        have e2 : ∀ x, (val x).cell? ⟨B, 2, none⟩ = some (.int .i64 xo) := fun x => hs_cell (HCL.out x).2 rfl
        have e3 : ∀ x, (val x).cell? ⟨B, 3, none⟩ = some (.int .i64 xs) := fun x => hs_cell (HCL.out x).2 rfl
        have e4 : ∀ x, (val x).cell? ⟨B, 4, none⟩ = some (.int .i64 xp) := fun x => hs_cell (HCL.out x).2 rfl
        have e5 : ∀ x, (val x).cell? ⟨B, 5, none⟩ = some (.int .i64 xq) := fun x => hs_cell (HCL.out x).2 rfl
        obtain ⟨x0, hx0, hf0⟩ := HMK.out false WA.drew ⟨⟨v, HTA.out.later (bd1 (Below.refl _ _))⟩, HRA.out⟩
        have HPC : Hid (∀ x, fl x = false → Calls Tryd.prog 23 #[.pointer (some ⟨p, 0, none⟩), lotV ⟨xi, xo, xs, xp, xq⟩] (val x) fun e w' => e = .returned (errOf 177 (.pointer (some (ad 1))) (.pointer (some (ad 5))) (.pointer (some (ad 6))) (.pointer (some (ad 7))) (Bk.addC L ⟨xi, xo, xs, xp, xq⟩)) ∧ ∃ x', val x' = w' ∧ fl x' = true) := fun x hx => by
          obtain ⟨⟨v1, hc⟩, ha⟩ := HCL.out x
          rw [hx] at hc
          exact (add_any p w.heap.size v1 ⟨xi, xo, xs, xp, xq⟩ L 177 (.pointer (some (ad 1))) (.pointer (some (ad 5))) (.pointer (some (ad 6))) (.pointer (some (ad 7))) (val x) (er4_sent (he.out.later hc.bl)) hc.b HL60.out).mono fun e w' ⟨h1, v', h2, h3⟩ => ⟨h1, HMK.out true w' (BCls.done hc ha h2 h3)⟩
        have HMC : Hid (∀ x, fl x = true → Calls Tryd.prog 29 #[.pointer (some ⟨pm, 0, none⟩), lotV ⟨xi, xo, xs, xp, xq⟩] (val x) fun e w' => e = .returned (.int .i64 (errNo (Bk.addC L ⟨xi, xo, xs, xp, xq⟩))) ∧ BInv w w' p pm (Bk.addL L ⟨xi, xo, xs, xp, xq⟩) ∧ w'.heap[B]? = some (.cells (actA ⟨kd, ⟨xi, xo, xs, xp, xq⟩, id, q⟩) 51 (0, 0))) := fun x hx => by
          obtain ⟨⟨v1, hc⟩, ha⟩ := HCL.out x
          rw [hx] at hc
          refine (madd_any pm w.heap.size vm ⟨xi, xo, xs, xp, xq⟩ L (val x) hc.m HL60.out).mono fun e w' ⟨h1, v', h2, h3⟩ => ⟨h1, ⟨Bk.good_addL HG.out ⟨xi, xo, xs, xp, xq⟩, v1, v', hc.mbook h2 h3⟩, ?_⟩
          rw [h3.only.block B (lt_of_block ha) (fun e => ?_) (fun e => row_type hc.m.row ha (by decide) e.symm)]
          · exact ha
          · have : B = pm := by simpa using e
            subst this
            have hmc := hc.m.cell
            rw [ha] at hmc
            simp at hmc
        have hcd : Bk.addC L ⟨xi, xo, xs, xp, xq⟩ ≤ 4 := addC_le _ _
        unfold lotV at HPC HMC
        simp only [] at HPC HMC
        clear c0 c1 c2 c3 c4 c5 c6 c7 hcl hmk HWA HRA HTA
        generalize Bk.addC L ⟨xi, xo, xs, xp, xq⟩ = cd at *
        generalize Bk.addL L ⟨xi, xo, xs, xp, xq⟩ = F at *
        refine region_one_call (val := val) (fl := fl) 3 7 (by kernel_rfl) (by kernel_rfl) (by decide) x0 hx0 hf0 ?_
        simp only [List.take_succ_cons, List.take_zero, List.drop_succ_cons, List.drop_zero]
        refine walkS_step (fun K hK => ?_)
        refine ⟨by rfl, ?_⟩
        apply Exists.intro
        refine ⟨fun x hxz => ?_, hK _ ?_⟩
        · go_simp
          exact ⟨rfl, rfl, by decide⟩
        clear hK K
        refine walkS_step (fun K hK => ?_)
        refine ⟨by rfl, ?_⟩
        apply Exists.intro
        refine ⟨fun x hxz => ?_, hK _ ?_⟩
        · go_simp
          exact ⟨rfl, rfl, by decide⟩
        clear hK K
        refine walkS_step (fun K hK => ?_)
        refine ⟨by rfl, ?_⟩
        apply Exists.intro
        refine ⟨fun x hxz => ?_, hK _ ?_⟩
        · go_simp
          exact ⟨rfl, rfl, by decide⟩
        clear hK K
        refine walkS_step (fun K hK => ?_)
        refine ⟨by rfl, ?_⟩
        apply Exists.intro
        refine ⟨fun x hxz => ?_, hK _ ?_⟩
        · go_simp
          exact ⟨rfl, (HPC.out x (hxz rfl)).mono fun e w' ⟨h1, x', hx', hf'⟩ => ⟨h1, x', hx', by simp [hf']⟩⟩
        clear hK K
        refine walkS_step (fun K hK => ?_)
        refine ⟨by rfl, ?_⟩
        apply Exists.intro
        refine ⟨fun x hxz => ?_, hK _ ?_⟩
        · go_simp
          exact ⟨rfl, rfl, by decide⟩
        clear hK K
        refine walkS_step (fun K hK => ?_)
        refine ⟨by rfl, ?_⟩
        apply Exists.intro
        refine ⟨fun x hxz => ?_, hK _ ?_⟩
        · go_simp
          exact ⟨rfl, rfl, by decide⟩
        clear hK K
        refine walkS_step (fun K hK => ?_)
        refine ⟨by rfl, ?_⟩
        apply Exists.intro
        refine ⟨fun x hxz => ?_, hK _ ?_⟩
        · go_simp
          exact ⟨rfl, rfl, by decide⟩
        clear hK K
        refine walkS_nil ?_
        intro x hx
        have HM2 := hide (HMC.out x hx)
        clear HPC HMC e1 e2 e3 e4 e5
        go_wp2_with fail
        refine HM2.out.mono ?_
        rintro e w4 ⟨rfl, hinv, ha4⟩
        have HIN := hide hinv; have HA4 := hide ha4
        have HCO : Hid (Calls Tryd.prog 28 #[errOf 177 (.pointer (some (ad 1))) (.pointer (some (ad 5))) (.pointer (some (ad 6))) (.pointer (some (ad 7))) cd, .int .i64 (errNo cd)] w4 fun e w' => e = .returned (.bool true) ∧ Below w4.heap.size w4 w') := by
          obtain ⟨_, _, _, ht⟩ := HIN.out
          exact coded_any ad cd w4 (he.out.later ht.bl) hcd
        clear hinv ha4 HM2
        simp only []
        go_wp2_with fail
        refine HCO.out.mono ?_
        rintro e w5 ⟨rfl, hb5⟩
        have hi5 : BInv w w5 p pm F := by
          obtain ⟨h1, v1, v2, ht⟩ := HIN.out
          exact ⟨h1, v1, v2, ht.later hb5⟩
        have HA5 : Hid (w5.heap[B]? = some (.cells (actA ⟨kd, ⟨xi, xo, xs, xp, xq⟩, id, q⟩) 51 (0, 0))) := by show _ = _; rw [hb5.block _ (lt_of_block HA4.out)]; exact HA4.out
        clear hb5 HIN HCO HA4
        obtain ⟨hg5, v5, vm5, ht5⟩ := hi5
        have HG5 := hide hg5; have HT5 := hide ht5
        have i6 : w5.cell? ⟨B, 6, none⟩ = some (.int .i64 id) := hs_cell HA5.out rfl
        have HGE := hide (get_any p w.heap.size v5 id F w5 ht5.b hg5.len)
        clear hg5 ht5
        cases hh : Cv.has F id with
        | false =>
          rw [show Bk.getX F id = Cv.z by unfold Bk.getX; rw [if_neg (by rw [hh]; simp)], hh] at HGE
          have HPI := hide (Bk.posI_none hh)
          clear hh
          unfold lotV Cv.z at HGE
          simp only []
          go_wp2_with fail
          refine HGE.out.mono ?_
          rintro e w6 ⟨rfl, hb6⟩
          have hb7 : Below w5.heap.size w5 (w6.alloc (.cells #[.int .i64 0, .int .i64 0, .int .i64 0, .int .i64 0, .int .i64 0] 43)) := hb6.alloc hb6.size _
          have HT7 := hide (HT5.out.later hb7)
          have i7 := cell_later hb7 i6
          have HFI := hide (mfind_any pm w.heap.size vm5 id F _ HT7.out.m HG5.out.len)
          rw [HPI.out] at HFI
          clear hb6 hb7 i6 HGE HPI
          simp only []
          go_wp2_with fail
          refine HFI.out.mono ?_
          rintro e w8 ⟨rfl, rfl⟩
          simp only []
          go_wp2
          go_quiet (fail)
          go_wp2
          exact ⟨⟨k + 1, F, by omega, by go_num, HG5.out, v5, vm5, HT7.out.later (blw_drew _)⟩, by simp [intOf]; omega⟩
        | true =>
          have hpo := Bk.posI_lt hh
          rw [show Bk.getX F id = Cv.nth F (Bk.pos F id) by unfold Bk.getX; rw [if_pos hh], hh] at HGE
          have HPI := hide (Bk.posI_some hh)
          clear hh
          unfold lotV at HGE
          simp only []
          go_wp2_with fail
          refine HGE.out.mono ?_
          rintro e w6 ⟨rfl, hb6⟩
          obtain ⟨Y, hY⟩ : ∃ Y, Cv.nth F (Bk.pos F id) = Y := ⟨_, rfl⟩
          rw [hY]
          have hb7 : Below w5.heap.size w5 (w6.alloc (.cells #[.int .i64 Y.id, .int .i64 Y.ow, .int .i64 Y.sd, .int .i64 Y.pr, .int .i64 Y.q] 43)) := hb6.alloc hb6.size _
          have HT7 := hide (HT5.out.later hb7)
          have i7 := cell_later hb7 i6
          have HFI := hide (mfind_any pm w.heap.size vm5 id F _ HT7.out.m HG5.out.len)
          rw [HPI.out] at HFI
          have hmc := cell_of_one HT7.out.m.cell
          obtain ⟨gm, cm, hvm, hlm⟩ : ∃ gm cm, vm5 = .slice (some ⟨gm, 0, none⟩) F.length cm ∧ LotsAt (w6.alloc (.cells #[.int .i64 Y.id, .int .i64 Y.ow, .int .i64 Y.sd, .int .i64 Y.pr, .int .i64 Y.q] 43)) gm 0 F := by
            rcases HT7.out.m.form with ⟨_, hl0⟩ | ⟨gm, cm, h1, _, _, h2⟩
            · rw [hl0] at hpo; exact absurd hpo (Nat.not_lt_zero _)
            · exact ⟨gm, cm, h1, h2⟩
          obtain ⟨m0, m1, m2, m3, m4⟩ := hlm _ hpo
          rw [hY] at m0 m1 m2 m3 m4
          simp only [Nat.zero_add] at m0 m1 m2 m3 m4
          rw [hvm] at hmc
          have hl60 : F.length ≤ 60 := HG5.out.len
          generalize Bk.pos F id = kk at *
          obtain ⟨nn, hnn⟩ : ∃ nn, F.length = nn := ⟨_, rfl⟩
          rw [hnn] at hpo hmc hl60
          have hkk : (kk : Int) < nn := by omega
          have hk0 : (0 : Int) ≤ (kk : Int) := by omega
          have hgl : gm < w6.heap.size + 1 := by have := World.block_lt_of_cell? _ _ m0; simpa using this
          clear hb6 hb7 i6 HGE HPI hlm hnn hY
          simp only []
          go_wp2_with fail
          refine HFI.out.mono ?_
          rintro e w8 ⟨rfl, rfl⟩
          simp only []
          go_wp2
          go_quiet (fail)
          go_wp2
          exact ⟨⟨k + 1, F, by omega, by go_num, HG5.out, v5, vm5, HT7.out.later (blw_drew _)⟩, by simp [intOf]; omega⟩
      | false =>
        cases hkc : (kd.toList == [99, 97, 110, 99, 101, 108]) with
        | true =>
          go_wp2_with fail
          rw [HWA.out]
          rw [HBe.out] at HRA hBl ⊢
          have HA := hide (cancel_any p w.heap.size v id L 177 (.pointer (some (ad 1))) (.pointer (some (ad 5))) (.pointer (some (ad 6))) (.pointer (some (ad 7))) WA (er4_sent (he.out.later HTA.out.bl)) HTA.out.b HL60.out)
          have HGF := hide (Bk.good_canL HG.out id)
          have hcd := canC_le L id
          have HMA : Hid (∀ W, MBook W w.heap.size pm vm L → Calls Tryd.prog 30 #[.pointer (some ⟨pm, 0, none⟩), .int .i64 id] W fun e w' => e = .returned (.tuple #[lotV (Bk.canX L id), .int .i64 (errNo (Bk.canC L id))]) ∧ ∃ v', MBook w' w.heap.size pm v' (Bk.canL L id) ∧ Step W w' pm vm v') := fun W h => mcancel_any pm w.heap.size vm id L W h HL60.out
          clear c0 c1 c2 c3 c4 c5 c6 c7 HWA
          generalize Bk.canC L id = cd at *
          generalize Bk.canL L id = F at *
          generalize Bk.canX L id = Y at *
          obtain ⟨y0, y1, y2, y3, y4⟩ := Y
          unfold lotV at HA HMA
          simp only [] at HA HMA
          refine HA.out.mono ?_
          rintro e w3 ⟨rfl, v3, hb3, hs3⟩
          have hT3 := HTA.out.book hb3 hs3
          have hA3 : w3.heap[B]? = some (.cells (actA ⟨kd, ⟨xi, xo, xs, xp, xq⟩, id, q⟩) 51 (0, 0)) := (BCls.done HTA.out HRA.out hb3 hs3).2
          have hbx : Below w3.heap.size w3 (w3.alloc (.cells #[.int .i64 y0, .int .i64 y1, .int .i64 y2, .int .i64 y3, .int .i64 y4] 43)) := (Below.refl _ _).alloc (Nat.le_refl _) _
          have HT4 := hide (hT3.later hbx)
          have HA4 : Hid ((w3.alloc (.cells #[.int .i64 y0, .int .i64 y1, .int .i64 y2, .int .i64 y3, .int .i64 y4] 43)).heap[B]? = some (.cells (actA ⟨kd, ⟨xi, xo, xs, xp, xq⟩, id, q⟩) 51 (0, 0))) := by show _ = _; rw [hbx.block _ (lt_of_block hA3)]; exact hA3
          have HX4 : Hid ((w3.alloc (.cells #[.int .i64 y0, .int .i64 y1, .int .i64 y2, .int .i64 y3, .int .i64 y4] 43)).heap[w3.heap.size]? = some (.cells #[.int .i64 y0, .int .i64 y1, .int .i64 y2, .int .i64 y3, .int .i64 y4] 43 (0, 0))) := heap_alloc_new _ _
          have hvm : ∀ j, vm.ownBlock = some j → j < w3.heap.size := fun j hj => (hT3.m.rowLt j hj).2
          have hpmx : pm < w3.heap.size := hT3.m.lt
          have HVM := hide hvm
          have hBx : B < w3.heap.size := lt_of_block hA3
          have i6 : (w3.alloc (.cells #[.int .i64 y0, .int .i64 y1, .int .i64 y2, .int .i64 y3, .int .i64 y4] 43)).cell? ⟨B, 6, none⟩ = some (.int .i64 id) := hs_cell HA4.out rfl
          have HM4 := hide (HMA.out _ HT4.out.m)
          clear hb3 hs3 hT3 hA3 hbx hvm HA HMA HTA HRA
          simp only []
          go_wp2_with fail
          refine HM4.out.mono ?_
          rintro e w9 ⟨rfl, vm9, hb9, hs9⟩
          generalize w3.alloc (.cells #[.int .i64 y0, .int .i64 y1, .int .i64 y2, .int .i64 y3, .int .i64 y4] 43) = w4 at *
          have hT9 := HT4.out.mbook hb9 hs9
          have hA9 : w9.heap[B]? = some (.cells (actA ⟨kd, ⟨xi, xo, xs, xp, xq⟩, id, q⟩) 51 (0, 0)) := by
            rw [hs9.only.block B (lt_of_block HA4.out) (fun e => ?_) (fun e => by have := HVM.out B e.symm; exact row_type HT4.out.m.row HA4.out (by decide) e.symm)]
            · exact HA4.out
            · have : B = pm := by simpa using e
              subst this
              have hmc := HT4.out.m.cell
              rw [HA4.out] at hmc
              simp at hmc
          have hX9 : w9.heap[w3.heap.size]? = some (.cells #[.int .i64 y0, .int .i64 y1, .int .i64 y2, .int .i64 y3, .int .i64 y4] 43 (0, 0)) := by
            rw [hs9.only.block _ (lt_of_block HX4.out) (fun e => by have : w3.heap.size = pm := by simpa using e
                                                                    omega) (fun e => by have := HVM.out _ e.symm; omega)]
            exact HX4.out
          have hbz : Below w9.heap.size w9 (w9.alloc (.cells #[.int .i64 y0, .int .i64 y1, .int .i64 y2, .int .i64 y3, .int .i64 y4] 43)) := (Below.refl _ _).alloc (Nat.le_refl _) _
          have HT10 := hide (hT9.later hbz)
          have hwx : w3.heap.size < w9.heap.size := lt_of_block hX9
          have HA10 : Hid ((w9.alloc (.cells #[.int .i64 y0, .int .i64 y1, .int .i64 y2, .int .i64 y3, .int .i64 y4] 43)).heap[B]? = some (.cells (actA ⟨kd, ⟨xi, xo, xs, xp, xq⟩, id, q⟩) 51 (0, 0))) := by show _ = _; rw [hbz.block _ (lt_of_block hA9)]; exact hA9
          have HX10 : Hid ((w9.alloc (.cells #[.int .i64 y0, .int .i64 y1, .int .i64 y2, .int .i64 y3, .int .i64 y4] 43)).heap[w3.heap.size]? = some (.cells #[.int .i64 y0, .int .i64 y1, .int .i64 y2, .int .i64 y3, .int .i64 y4] 43 (0, 0))) := by show _ = _; rw [hbz.block _ (lt_of_block hX9)]; exact hX9
          have HY10 : Hid ((w9.alloc (.cells #[.int .i64 y0, .int .i64 y1, .int .i64 y2, .int .i64 y3, .int .i64 y4] 43)).heap[w9.heap.size]? = some (.cells #[.int .i64 y0, .int .i64 y1, .int .i64 y2, .int .i64 y3, .int .i64 y4] 43 (0, 0))) := heap_alloc_new _ _
          have HCO := hide (coded_any ad cd (w9.alloc (.cells #[.int .i64 y0, .int .i64 y1, .int .i64 y2, .int .i64 y3, .int .i64 y4] 43)) (he.out.later HT10.out.bl) hcd)
          clear hb9 hs9 hT9 hA9 hX9 hbz HT4 HA4 HX4 HM4 i6
          simp only []
          go_wp2_with fail
          refine HCO.out.mono ?_
          rintro e w5 ⟨rfl, hb5⟩
          generalize w9.alloc (.cells #[.int .i64 y0, .int .i64 y1, .int .i64 y2, .int .i64 y3, .int .i64 y4] 43) = w10 at *
          have hi5 : BInv w w5 p pm F := ⟨HGF.out, v3, vm9, HT10.out.later hb5⟩
          have HA5 : Hid (w5.heap[B]? = some (.cells (actA ⟨kd, ⟨xi, xo, xs, xp, xq⟩, id, q⟩) 51 (0, 0))) := by show _ = _; rw [hb5.block _ (lt_of_block HA10.out)]; exact HA10.out
          have hX5 : w5.heap[w3.heap.size]? = some (.cells #[.int .i64 y0, .int .i64 y1, .int .i64 y2, .int .i64 y3, .int .i64 y4] 43 (0, 0)) := by rw [hb5.block _ (lt_of_block HX10.out)]; exact HX10.out
          have hY5 : w5.heap[w9.heap.size]? = some (.cells #[.int .i64 y0, .int .i64 y1, .int .i64 y2, .int .i64 y3, .int .i64 y4] 43 (0, 0)) := by rw [hb5.block _ (lt_of_block HY10.out)]; exact HY10.out
          have p0 : w5.cell? ⟨w3.heap.size, 0, none⟩ = some (.int .i64 y0) := hs_cell hX5 rfl
          have q0 : w5.cell? ⟨w9.heap.size, 0, none⟩ = some (.int .i64 y0) := hs_cell hY5 rfl
          have p1 : w5.cell? ⟨w3.heap.size, 1, none⟩ = some (.int .i64 y1) := hs_cell hX5 rfl
          have q1 : w5.cell? ⟨w9.heap.size, 1, none⟩ = some (.int .i64 y1) := hs_cell hY5 rfl
          have p2 : w5.cell? ⟨w3.heap.size, 2, none⟩ = some (.int .i64 y2) := hs_cell hX5 rfl
          have q2 : w5.cell? ⟨w9.heap.size, 2, none⟩ = some (.int .i64 y2) := hs_cell hY5 rfl
          have p3 : w5.cell? ⟨w3.heap.size, 3, none⟩ = some (.int .i64 y3) := hs_cell hX5 rfl
          have q3 : w5.cell? ⟨w9.heap.size, 3, none⟩ = some (.int .i64 y3) := hs_cell hY5 rfl
          have p4 : w5.cell? ⟨w3.heap.size, 4, none⟩ = some (.int .i64 y4) := hs_cell hX5 rfl
          have q4 : w5.cell? ⟨w9.heap.size, 4, none⟩ = some (.int .i64 y4) := hs_cell hY5 rfl
          clear hb5 HCO HT10 HA10 HX10 HY10 hX5 hY5
          obtain ⟨hg5, v5, vm5, ht5⟩ := hi5
          have HG5 := hide hg5; have HT5 := hide ht5
          have i6 : w5.cell? ⟨B, 6, none⟩ = some (.int .i64 id) := hs_cell HA5.out rfl
          have HGE := hide (get_any p w.heap.size v5 id F w5 ht5.b hg5.len)
          clear hg5 ht5
          cases hh : Cv.has F id with
          | false =>
            rw [show Bk.getX F id = Cv.z by unfold Bk.getX; rw [if_neg (by rw [hh]; simp)], hh] at HGE
            have HPI := hide (Bk.posI_none hh)
            clear hh
            unfold lotV Cv.z at HGE
            simp only []
            go_wp2_with fail
            refine HGE.out.mono ?_
            rintro e w6 ⟨rfl, hb6⟩
            have hb7 : Below w5.heap.size w5 (w6.alloc (.cells #[.int .i64 0, .int .i64 0, .int .i64 0, .int .i64 0, .int .i64 0] 43)) := hb6.alloc hb6.size _
            have HT7 := hide (HT5.out.later hb7)
            have i7 := cell_later hb7 i6
            have HFI := hide (mfind_any pm w.heap.size vm5 id F _ HT7.out.m HG5.out.len)
            rw [HPI.out] at HFI
            clear hb6 hb7 i6 HGE HPI
            simp only []
            go_wp2_with fail
            refine HFI.out.mono ?_
            rintro e w8 ⟨rfl, rfl⟩
            simp only []
            go_wp2
            go_quiet (fail)
            go_wp2
            exact ⟨⟨k + 1, F, by omega, by go_num, HG5.out, v5, vm5, HT7.out.later (blw_drew _)⟩, by simp [intOf]; omega⟩
          | true =>
            have hpo := Bk.posI_lt hh
            rw [show Bk.getX F id = Cv.nth F (Bk.pos F id) by unfold Bk.getX; rw [if_pos hh], hh] at HGE
            have HPI := hide (Bk.posI_some hh)
            clear hh
            unfold lotV at HGE
            simp only []
            go_wp2_with fail
            refine HGE.out.mono ?_
            rintro e w6 ⟨rfl, hb6⟩
            obtain ⟨Y, hY⟩ : ∃ Y, Cv.nth F (Bk.pos F id) = Y := ⟨_, rfl⟩
            rw [hY]
            have hb7 : Below w5.heap.size w5 (w6.alloc (.cells #[.int .i64 Y.id, .int .i64 Y.ow, .int .i64 Y.sd, .int .i64 Y.pr, .int .i64 Y.q] 43)) := hb6.alloc hb6.size _
            have HT7 := hide (HT5.out.later hb7)
            have i7 := cell_later hb7 i6
            have HFI := hide (mfind_any pm w.heap.size vm5 id F _ HT7.out.m HG5.out.len)
            rw [HPI.out] at HFI
            have hmc := cell_of_one HT7.out.m.cell
            obtain ⟨gm, cm, hvm, hlm⟩ : ∃ gm cm, vm5 = .slice (some ⟨gm, 0, none⟩) F.length cm ∧ LotsAt (w6.alloc (.cells #[.int .i64 Y.id, .int .i64 Y.ow, .int .i64 Y.sd, .int .i64 Y.pr, .int .i64 Y.q] 43)) gm 0 F := by
              rcases HT7.out.m.form with ⟨_, hl0⟩ | ⟨gm, cm, h1, _, _, h2⟩
              · rw [hl0] at hpo; exact absurd hpo (Nat.not_lt_zero _)
              · exact ⟨gm, cm, h1, h2⟩
            obtain ⟨m0, m1, m2, m3, m4⟩ := hlm _ hpo
            rw [hY] at m0 m1 m2 m3 m4
            simp only [Nat.zero_add] at m0 m1 m2 m3 m4
            rw [hvm] at hmc
            have hl60 : F.length ≤ 60 := HG5.out.len
            generalize Bk.pos F id = kk at *
            obtain ⟨nn, hnn⟩ : ∃ nn, F.length = nn := ⟨_, rfl⟩
            rw [hnn] at hpo hmc hl60
            have hkk : (kk : Int) < nn := by omega
            have hk0 : (0 : Int) ≤ (kk : Int) := by omega
            have hgl : gm < w6.heap.size + 1 := by have := World.block_lt_of_cell? _ _ m0; simpa using this
            clear hb6 hb7 i6 HGE HPI hlm hnn hY
            simp only []
            go_wp2_with fail
            refine HFI.out.mono ?_
            rintro e w8 ⟨rfl, rfl⟩
            simp only []
            go_wp2
            go_quiet (fail)
            go_wp2
            exact ⟨⟨k + 1, F, by omega, by go_num, HG5.out, v5, vm5, HT7.out.later (blw_drew _)⟩, by simp [intOf]; omega⟩
        | false =>
          go_wp2
          rw [HWA.out]
          rw [HBe.out] at HRA hBl ⊢
          obtain ⟨X, val, fl, hcl, hmk⟩ := bcls_all w p pm B vm ⟨kd, ⟨xi, xo, xs, xp, xq⟩, id, q⟩ L (Bk.takL L id q)
          have HCL := hide hcl; have HMK := hide hmk
          have e6 : ∀ x, (val x).cell? ⟨B, 6, none⟩ = some (.int .i64 id) := fun x => hs_cell (HCL.out x).2 rfl
          have e7 : ∀ x, (val x).cell? ⟨B, 7, none⟩ = some (.int .i64 q) := fun x => hs_cell (HCL.out x).2 rfl
          obtain ⟨x0, hx0, hf0⟩ := HMK.out false WA.drew ⟨⟨v, HTA.out.later (bd1 (Below.refl _ _))⟩, HRA.out⟩
          have HPC : Hid (∀ x, fl x = false → Calls Tryd.prog 25 #[.pointer (some ⟨p, 0, none⟩), .int .i64 id, .int .i64 q] (val x) fun e w' => e = .returned (errOf 177 (.pointer (some (ad 1))) (.pointer (some (ad 5))) (.pointer (some (ad 6))) (.pointer (some (ad 7))) (Bk.takC L id q)) ∧ ∃ x', val x' = w' ∧ fl x' = true) := fun x hx => by
            obtain ⟨⟨v1, hc⟩, ha⟩ := HCL.out x
            rw [hx] at hc
            exact (take_any p w.heap.size v1 id q L 177 (.pointer (some (ad 1))) (.pointer (some (ad 5))) (.pointer (some (ad 6))) (.pointer (some (ad 7))) (val x) (er4_sent (he.out.later hc.bl)) hc.b HG.out).mono fun e w' ⟨h1, v', h2, h3⟩ => ⟨h1, HMK.out true w' (BCls.done hc ha h2 h3)⟩
          have HMC : Hid (∀ x, fl x = true → Calls Tryd.prog 31 #[.pointer (some ⟨pm, 0, none⟩), .int .i64 id, .int .i64 q] (val x) fun e w' => e = .returned (.int .i64 (errNo (Bk.takC L id q))) ∧ BInv w w' p pm (Bk.takL L id q) ∧ w'.heap[B]? = some (.cells (actA ⟨kd, ⟨xi, xo, xs, xp, xq⟩, id, q⟩) 51 (0, 0))) := fun x hx => by
            obtain ⟨⟨v1, hc⟩, ha⟩ := HCL.out x
            rw [hx] at hc
            refine (mtake_any pm w.heap.size vm id q L (val x) hc.m HG.out).mono fun e w' ⟨h1, v', h2, h3⟩ => ⟨h1, ⟨Bk.good_takL HG.out id q, v1, v', hc.mbook h2 h3⟩, ?_⟩
            rw [h3.only.block B (lt_of_block ha) (fun e => ?_) (fun e => row_type hc.m.row ha (by decide) e.symm)]
            · exact ha
            · have : B = pm := by simpa using e
              subst this
              have hmc := hc.m.cell
              rw [ha] at hmc
              simp at hmc
          have hcd : Bk.takC L id q ≤ 4 := takC_le _ _ _
          skip
          clear c0 c1 c2 c3 c4 c5 c6 c7 hcl hmk HWA HRA HTA
          generalize Bk.takC L id q = cd at *
          generalize Bk.takL L id q = F at *
          refine region_one_call (val := val) (fl := fl) 5 11 (by kernel_rfl) (by kernel_rfl) (by decide) x0 hx0 hf0 ?_
          simp only [List.take_succ_cons, List.take_zero, List.drop_succ_cons, List.drop_zero]
          refine walkS_step (fun K hK => ?_)
          refine ⟨by rfl, ?_⟩
          apply Exists.intro
          refine ⟨fun x hxz => ?_, hK _ ?_⟩
          · go_simp
            exact ⟨rfl, rfl, by decide⟩
          clear hK K
          refine walkS_step (fun K hK => ?_)
          refine ⟨by rfl, ?_⟩
          apply Exists.intro
          refine ⟨fun x hxz => ?_, hK _ ?_⟩
          · go_simp
            exact ⟨rfl, rfl, by decide⟩
          clear hK K
          refine walkS_step (fun K hK => ?_)
          refine ⟨by rfl, ?_⟩
          apply Exists.intro
          refine ⟨fun x hxz => ?_, hK _ ?_⟩
          · go_simp
            exact ⟨rfl, rfl, by decide⟩
          clear hK K
          refine walkS_step (fun K hK => ?_)
          refine ⟨by rfl, ?_⟩
          apply Exists.intro
          refine ⟨fun x hxz => ?_, hK _ ?_⟩
          · go_simp
            exact ⟨rfl, rfl, by decide⟩
          clear hK K
          refine walkS_step (fun K hK => ?_)
          refine ⟨by rfl, ?_⟩
          apply Exists.intro
          refine ⟨fun x hxz => ?_, hK _ ?_⟩
          · go_simp
            exact ⟨rfl, rfl, by decide⟩
          clear hK K
          refine walkS_step (fun K hK => ?_)
          refine ⟨by rfl, ?_⟩
          apply Exists.intro
          refine ⟨fun x hxz => ?_, hK _ ?_⟩
          · go_simp
            exact ⟨rfl, (HPC.out x (hxz rfl)).mono fun e w' ⟨h1, x', hx', hf'⟩ => ⟨h1, x', hx', by simp [hf']⟩⟩
          clear hK K
          refine walkS_step (fun K hK => ?_)
          refine ⟨by rfl, ?_⟩
          apply Exists.intro
          refine ⟨fun x hxz => ?_, hK _ ?_⟩
          · go_simp
            exact ⟨rfl, rfl, by decide⟩
          clear hK K
          refine walkS_step (fun K hK => ?_)
          refine ⟨by rfl, ?_⟩
          apply Exists.intro
          refine ⟨fun x hxz => ?_, hK _ ?_⟩
          · go_simp
            exact ⟨rfl, rfl, by decide⟩
          clear hK K
          refine walkS_step (fun K hK => ?_)
          refine ⟨by rfl, ?_⟩
          apply Exists.intro
          refine ⟨fun x hxz => ?_, hK _ ?_⟩
          · go_simp
            exact ⟨rfl, rfl, by decide⟩
          clear hK K
          refine walkS_step (fun K hK => ?_)
          refine ⟨by rfl, ?_⟩
          apply Exists.intro
          refine ⟨fun x hxz => ?_, hK _ ?_⟩
          · go_simp
            exact ⟨rfl, rfl, by decide⟩
          clear hK K
          refine walkS_step (fun K hK => ?_)
          refine ⟨by rfl, ?_⟩
          apply Exists.intro
          refine ⟨fun x hxz => ?_, hK _ ?_⟩
          · go_simp
            exact ⟨rfl, rfl, by decide⟩
          clear hK K
          refine walkS_nil ?_
          intro x hx
          have HM2 := hide (HMC.out x hx)
          clear HPC HMC e6 e7
          go_wp2_with fail
          refine HM2.out.mono ?_
          rintro e w4 ⟨rfl, hinv, ha4⟩
          have HIN := hide hinv; have HA4 := hide ha4
          have HCO : Hid (Calls Tryd.prog 28 #[errOf 177 (.pointer (some (ad 1))) (.pointer (some (ad 5))) (.pointer (some (ad 6))) (.pointer (some (ad 7))) cd, .int .i64 (errNo cd)] w4 fun e w' => e = .returned (.bool true) ∧ Below w4.heap.size w4 w') := by
            obtain ⟨_, _, _, ht⟩ := HIN.out
            exact coded_any ad cd w4 (he.out.later ht.bl) hcd
          clear hinv ha4 HM2
          simp only []
          go_wp2_with fail
          refine HCO.out.mono ?_
          rintro e w5 ⟨rfl, hb5⟩
          have hi5 : BInv w w5 p pm F := by
            obtain ⟨h1, v1, v2, ht⟩ := HIN.out
            exact ⟨h1, v1, v2, ht.later hb5⟩
          have HA5 : Hid (w5.heap[B]? = some (.cells (actA ⟨kd, ⟨xi, xo, xs, xp, xq⟩, id, q⟩) 51 (0, 0))) := by show _ = _; rw [hb5.block _ (lt_of_block HA4.out)]; exact HA4.out
          clear hb5 HIN HCO HA4
          obtain ⟨hg5, v5, vm5, ht5⟩ := hi5
          have HG5 := hide hg5; have HT5 := hide ht5
          have i6 : w5.cell? ⟨B, 6, none⟩ = some (.int .i64 id) := hs_cell HA5.out rfl
          have HGE := hide (get_any p w.heap.size v5 id F w5 ht5.b hg5.len)
          clear hg5 ht5
          cases hh : Cv.has F id with
          | false =>
            rw [show Bk.getX F id = Cv.z by unfold Bk.getX; rw [if_neg (by rw [hh]; simp)], hh] at HGE
            have HPI := hide (Bk.posI_none hh)
            clear hh
            unfold lotV Cv.z at HGE
            simp only []
            go_wp2_with fail
            refine HGE.out.mono ?_
            rintro e w6 ⟨rfl, hb6⟩
            have hb7 : Below w5.heap.size w5 (w6.alloc (.cells #[.int .i64 0, .int .i64 0, .int .i64 0, .int .i64 0, .int .i64 0] 43)) := hb6.alloc hb6.size _
            have HT7 := hide (HT5.out.later hb7)
            have i7 := cell_later hb7 i6
            have HFI := hide (mfind_any pm w.heap.size vm5 id F _ HT7.out.m HG5.out.len)
            rw [HPI.out] at HFI
            clear hb6 hb7 i6 HGE HPI
            simp only []
            go_wp2_with fail
            refine HFI.out.mono ?_
            rintro e w8 ⟨rfl, rfl⟩
            simp only []
            go_wp2
            go_quiet (fail)
            go_wp2
            exact ⟨⟨k + 1, F, by omega, by go_num, HG5.out, v5, vm5, HT7.out.later (blw_drew _)⟩, by simp [intOf]; omega⟩
          | true =>
            have hpo := Bk.posI_lt hh
            rw [show Bk.getX F id = Cv.nth F (Bk.pos F id) by unfold Bk.getX; rw [if_pos hh], hh] at HGE
            have HPI := hide (Bk.posI_some hh)
            clear hh
            unfold lotV at HGE
            simp only []
            go_wp2_with fail
            refine HGE.out.mono ?_
            rintro e w6 ⟨rfl, hb6⟩
            obtain ⟨Y, hY⟩ : ∃ Y, Cv.nth F (Bk.pos F id) = Y := ⟨_, rfl⟩
            rw [hY]
            have hb7 : Below w5.heap.size w5 (w6.alloc (.cells #[.int .i64 Y.id, .int .i64 Y.ow, .int .i64 Y.sd, .int .i64 Y.pr, .int .i64 Y.q] 43)) := hb6.alloc hb6.size _
            have HT7 := hide (HT5.out.later hb7)
            have i7 := cell_later hb7 i6
            have HFI := hide (mfind_any pm w.heap.size vm5 id F _ HT7.out.m HG5.out.len)
            rw [HPI.out] at HFI
            have hmc := cell_of_one HT7.out.m.cell
            obtain ⟨gm, cm, hvm, hlm⟩ : ∃ gm cm, vm5 = .slice (some ⟨gm, 0, none⟩) F.length cm ∧ LotsAt (w6.alloc (.cells #[.int .i64 Y.id, .int .i64 Y.ow, .int .i64 Y.sd, .int .i64 Y.pr, .int .i64 Y.q] 43)) gm 0 F := by
              rcases HT7.out.m.form with ⟨_, hl0⟩ | ⟨gm, cm, h1, _, _, h2⟩
              · rw [hl0] at hpo; exact absurd hpo (Nat.not_lt_zero _)
              · exact ⟨gm, cm, h1, h2⟩
            obtain ⟨m0, m1, m2, m3, m4⟩ := hlm _ hpo
            rw [hY] at m0 m1 m2 m3 m4
            simp only [Nat.zero_add] at m0 m1 m2 m3 m4
            rw [hvm] at hmc
            have hl60 : F.length ≤ 60 := HG5.out.len
            generalize Bk.pos F id = kk at *
            obtain ⟨nn, hnn⟩ : ∃ nn, F.length = nn := ⟨_, rfl⟩
            rw [hnn] at hpo hmc hl60
            have hkk : (kk : Int) < nn := by omega
            have hk0 : (0 : Int) ≤ (kk : Int) := by omega
            have hgl : gm < w6.heap.size + 1 := by have := World.block_lt_of_cell? _ _ m0; simpa using this
            clear hb6 hb7 i6 HGE HPI hlm hnn hY
            simp only []
            go_wp2_with fail
            refine HFI.out.mono ?_
            rintro e w8 ⟨rfl, rfl⟩
            simp only []
            go_wp2
            go_quiet (fail)
            go_wp2
            exact ⟨⟨k + 1, F, by omega, by go_num, HG5.out, v5, vm5, HT7.out.later (blw_drew _)⟩, by simp [intOf]; omega⟩
    · have hki : ¬ (k : Int) < n := by omega
      go_wp2_with fail
      refine (copy_any p w.heap.size v L wr HT.out.b HL60.out).mono ?_
      rintro e w3 ⟨q, v2, rfl, hq3, hb3⟩
      have HQ3 := hide hq3
      have HT3 := hide (HT.out.later hb3)
      clear hq3 hb3 HT
      have HVM := hide HT3.out.m.row
      have hmc := cell_of_one HT3.out.m.cell
      obtain ⟨am, nm, cm, hvm⟩ : ∃ a m c, vm = .slice a m c := by
        rcases HT3.out.m.form with ⟨e, _⟩ | ⟨g, cap, e, _⟩
        · exact ⟨_, _, _, e⟩
        · exact ⟨_, _, _, e⟩
      rw [hvm] at hmc HVM
      have HVe := hide hvm
      clear hvm
      have HLQ : Hid (∀ W, Below w3.heap.size w3 W → Calls Tryd.prog 27 #[.pointer (some ⟨q, 0, none⟩)] W fun e w' => ∃ v2, e = .returned v2 ∧ w'.ownsRow W.heap.size 43 5 v2 L.length (flat L) ∧ Below W.heap.size W w') := fun W hb => lots_any q _ v2 L W (HQ3.out.later hb) HL60.out
      have HLP : Hid (∀ W, Below w3.heap.size w3 W → Calls Tryd.prog 27 #[.pointer (some ⟨p, 0, none⟩)] W fun e w' => ∃ v2, e = .returned v2 ∧ w'.ownsRow W.heap.size 43 5 v2 L.length (flat L) ∧ Below W.heap.size W w') := fun W hb => lots_any p _ v L W (HT3.out.b.later hb) HL60.out
      have HSL : Hid (∀ vq base W, Below w3.heap.size w3 W → W.ownsRow base 43 5 vq L.length (flat L) → Calls Tryd.prog 35 #[vq, .slice am nm cm] W fun e w' => e = .returned (.bool true) ∧ Below W.heap.size W w') := fun vq base W hb hr =>
        lots_same vq _ L W (by have := HL60.out; omega) hr (row_only HVM.out (Only.of_below hb none none) (fun _ _ => by simp) (fun _ _ => by simp))
      have HOW : Hid (∀ W, Below w3.heap.size w3 W → Calls Tryd.prog 37 #[.pointer (some ⟨p, 0, none⟩), .int .i64 ow] W fun e w' => ∃ v, e = .returned v ∧ Ints w' v (Bk.ids L ow) ∧ Below W.heap.size W w') := fun W hb => owner_any p _ v ow L W (HT3.out.b.later hb) HL60.out
      have HMO : Hid (∀ W, Below w3.heap.size w3 W → Calls Tryd.prog 38 #[.pointer (some ⟨pm, 0, none⟩), .int .i64 ow] W fun e w' => ∃ v, e = .returned v ∧ Ints w' v (Bk.ids L ow) ∧ Below W.heap.size W w') := fun W hb => mowner_any pm _ vm ow L W (HT3.out.m.later hb) HL60.out
      have HIL : Hid ((Bk.ids L ow).length ≤ 1000) := by
        have := Bk.ids_length L ow
        have := HL60.out
        show _ ≤ _
        omega
      have HBc : Hid (Below w3.heap.size w3 w3.drew) := ⟨rfl, rfl, rfl, Nat.le_refl _, fun _ _ => rfl⟩
      simp only []
      go_wp2_with fail
      obtain ⟨X, val, hval, hmk⟩ : ∃ (X : Type) (val : X → World), (∀ x, Below w3.heap.size w3 (val x)) ∧ ∀ W, Below w3.heap.size w3 W → ∃ x, val x = W :=
        ⟨{ W : World // Below w3.heap.size w3 W }, fun x => x.1, fun x => x.2, fun W h => ⟨⟨W, h⟩, rfl⟩⟩
      have hne : Nonempty X := ⟨(hmk _ HBc.out).choose⟩
      have hmcx : ∀ x, (val x).cell? ⟨pm, 0, none⟩ = some (.slice am nm cm) := fun x => cell_later (hval x) hmc
      obtain ⟨x0, hx0⟩ := hmk w3.drew HBc.out
      have HVL := hide hval; have HMK := hide hmk
      clear hval hmk hmc
      refine region_many_calls (val := val) [4, 9, 14, 19, 25, 28, 29] [0, 1, 2, 3, 5, 6, 7, 8, 4, 9, 10, 11, 12, 13, 15, 16, 17, 18, 14, 19, 20, 21, 22, 23, 24, 26, 27, 25, 28, 29, 30, 31] (by kernel_rfl) (by kernel_rfl) x0 hx0 ?_
      rw [hx0]
      generalize w3.drew = wd at *
      refine walkM_read rfl rfl (fun K hK => ?_)
      refine ⟨by rfl, ?_⟩
      unfold isRd
      go_simp
      refine hK _ ?_
      clear hK K
      refine walkM_read rfl rfl (fun K hK => ?_)
      refine ⟨by rfl, ?_⟩
      unfold isRd
      go_simp
      refine hK _ ?_
      clear hK K
      refine walkM_read rfl rfl (fun K hK => ?_)
      refine ⟨by rfl, ?_⟩
      unfold isRd
      go_simp
      refine hK _ ?_
      clear hK K
      refine walkM_read rfl rfl (fun K hK => ?_)
      refine ⟨by rfl, ?_⟩
      unfold isRd
      go_simp
      refine hK _ ?_
      clear hK K
      refine walkM_read rfl rfl (fun K hK => ?_)
      refine ⟨by rfl, ?_⟩
      unfold isRd
      go_simp
      refine hK _ ?_
      clear hK K
      refine walkM_read rfl rfl (fun K hK => ?_)
      refine ⟨by rfl, ?_⟩
      unfold isRd
      go_simp
      refine hK _ ?_
      clear hK K
      refine walkM_read rfl rfl (fun K hK => ?_)
      refine ⟨by rfl, ?_⟩
      unfold isRd
      go_simp
      refine hK _ ?_
      clear hK K
      refine walkM_read rfl rfl (fun K hK => ?_)
      refine ⟨by rfl, ?_⟩
      unfold isRd
      go_simp
      refine hK _ ?_
      clear hK K
      refine walkM_call rfl rfl (fun K hK => ?_)
      refine ⟨by rfl, ?_⟩
      unfold upM
      go_simp
      refine (HLQ.out _ HBc.out).mono ?_
      rintro e w5 ⟨vq, rfl, hr5, hbx⟩
      refine ⟨_, rfl, HMK.out _ (HBc.out.trans (hbx.mono HBc.out.size)), hK _ _ ?_⟩
      clear hK K
      replace HBc := hide (HBc.out.trans (hbx.mono HBc.out.size))
      have HR5 := hide hr5
      clear hr5 hbx
      refine walkM_call rfl rfl (fun K hK => ?_)
      refine ⟨by rfl, ?_⟩
      unfold upM
      go_simp
      refine (HSL.out _ _ _ HBc.out HR5.out).mono ?_
      rintro e w6 ⟨rfl, hbx⟩
      refine ⟨_, rfl, HMK.out _ (HBc.out.trans (hbx.mono HBc.out.size)), hK _ _ ?_⟩
      clear hK K
      replace HBc := hide (HBc.out.trans (hbx.mono HBc.out.size))
      clear hbx HR5
      refine walkM_read rfl rfl (fun K hK => ?_)
      refine ⟨by rfl, ?_⟩
      unfold isRd
      go_simp
      refine hK _ ?_
      clear hK K
      refine walkM_read rfl rfl (fun K hK => ?_)
      refine ⟨by rfl, ?_⟩
      unfold isRd
      go_simp
      refine hK _ ?_
      clear hK K
      refine walkM_read rfl rfl (fun K hK => ?_)
      refine ⟨by rfl, ?_⟩
      unfold isRd
      go_simp
      refine hK _ ?_
      clear hK K
      refine walkM_read rfl rfl (fun K hK => ?_)
      refine ⟨by rfl, ?_⟩
      unfold isRd
      go_simp
      refine hK _ ?_
      clear hK K
      refine walkM_read rfl rfl (fun K hK => ?_)
      refine ⟨by rfl, ?_⟩
      unfold isRd
      go_simp
      refine hK _ ?_
      clear hK K
      refine walkM_read rfl rfl (fun K hK => ?_)
      refine ⟨by rfl, ?_⟩
      unfold isRd
      go_simp
      refine hK _ ?_
      clear hK K
      refine walkM_read rfl rfl (fun K hK => ?_)
      refine ⟨by rfl, ?_⟩
      unfold isRd
      go_simp
      refine hK _ ?_
      clear hK K
      refine walkM_read rfl rfl (fun K hK => ?_)
      refine ⟨by rfl, ?_⟩
      unfold isRd
      go_simp
      refine hK _ ?_
      clear hK K
      refine walkM_call rfl rfl (fun K hK => ?_)
      refine ⟨by rfl, ?_⟩
      unfold upM
      go_simp
      refine (HLP.out _ HBc.out).mono ?_
      rintro e w7 ⟨vp, rfl, hr5, hbx⟩
      refine ⟨_, rfl, HMK.out _ (HBc.out.trans (hbx.mono HBc.out.size)), hK _ _ ?_⟩
      clear hK K
      replace HBc := hide (HBc.out.trans (hbx.mono HBc.out.size))
      have HR5 := hide hr5
      clear hr5 hbx
      refine walkM_call rfl rfl (fun K hK => ?_)
      refine ⟨by rfl, ?_⟩
      unfold upM
      go_simp
      refine (HSL.out _ _ _ HBc.out HR5.out).mono ?_
      rintro e w8 ⟨rfl, hbx⟩
      refine ⟨_, rfl, HMK.out _ (HBc.out.trans (hbx.mono HBc.out.size)), hK _ _ ?_⟩
      clear hK K
      replace HBc := hide (HBc.out.trans (hbx.mono HBc.out.size))
      clear hbx HR5
      refine walkM_read rfl rfl (fun K hK => ?_)
      refine ⟨by rfl, ?_⟩
      unfold isRd
      go_simp
      refine hK _ ?_
      clear hK K
      refine walkM_read rfl rfl (fun K hK => ?_)
      refine ⟨by rfl, ?_⟩
      unfold isRd
      go_simp
      refine hK _ ?_
      clear hK K
      refine walkM_read rfl rfl (fun K hK => ?_)
      refine ⟨by rfl, ?_⟩
      unfold isRd
      go_simp
      refine hK _ ?_
      clear hK K
      refine walkM_read rfl rfl (fun K hK => ?_)
      refine ⟨by rfl, ?_⟩
      unfold isRd
      go_simp
      refine hK _ ?_
      clear hK K
      refine walkM_read rfl rfl (fun K hK => ?_)
      refine ⟨by rfl, ?_⟩
      unfold isRd
      go_simp
      refine hK _ ?_
      clear hK K
      refine walkM_read rfl rfl (fun K hK => ?_)
      refine ⟨by rfl, ?_⟩
      unfold isRd
      go_simp
      refine hK _ ?_
      clear hK K
      refine walkM_read rfl rfl (fun K hK => ?_)
      refine ⟨by rfl, ?_⟩
      unfold isRd
      go_simp
      refine hK _ ?_
      clear hK K
      refine walkM_call rfl rfl (fun K hK => ?_)
      refine ⟨by rfl, ?_⟩
      unfold upM
      go_simp
      refine (HOW.out _ HBc.out).mono ?_
      rintro e wo ⟨vo, rfl, hi7, hbx⟩
      refine ⟨_, rfl, HMK.out _ (HBc.out.trans (hbx.mono HBc.out.size)), hK _ _ ?_⟩
      clear hK K
      replace HBc := hide (HBc.out.trans (hbx.mono HBc.out.size))
      have HI7 := hide hi7
      clear hi7 hbx
      refine walkM_call rfl rfl (fun K hK => ?_)
      refine ⟨by rfl, ?_⟩
      unfold upM
      go_simp
      refine (HMO.out _ HBc.out).mono ?_
      rintro e wq ⟨vmo, rfl, hi8, hbx⟩
      refine ⟨_, rfl, HMK.out _ (HBc.out.trans (hbx.mono HBc.out.size)), hK _ _ ?_⟩
      clear hK K
      replace HBc := hide (HBc.out.trans (hbx.mono HBc.out.size))
      have HI8 := hide hi8
      replace HI7 := hide (HI7.out.later hbx)
      clear hi8 hbx
      refine walkM_call rfl rfl (fun K hK => ?_)
      refine ⟨by rfl, ?_⟩
      unfold upM
      go_simp
      refine (ints_any _ _ _ _ HIL.out HI7.out HI8.out).mono ?_
      rintro e w9 ⟨rfl, hbx⟩
      refine ⟨_, rfl, HMK.out _ (HBc.out.trans (hbx.mono HBc.out.size)), hK _ _ ?_⟩
      clear hK K
      replace HBc := hide (HBc.out.trans (hbx.mono HBc.out.size))
      clear hbx
      refine walkM_read rfl rfl (fun K hK => ?_)
      refine ⟨by rfl, ?_⟩
      unfold isRd
      go_simp
      refine hK _ ?_
      clear hK K
      refine walkM_read rfl rfl (fun K hK => ?_)
      refine ⟨by rfl, ?_⟩
      unfold isRd
      go_simp
      refine hK _ ?_
      clear hK K
      refine walkM_nil ?_
      all_goals
        clear HLQ HLP HSL HOW HMO HIL HQ3 HI7 HI8 HVM
        have HT9 := hide (HT3.out.later HBc.out)
        clear HT3 HBc hmcx HVL HMK hne
        go_wp2_with fail
        refine (levels_any p w.heap.size v 0 L w9 HT9.out.b HG.out).mono ?_
        rintro e wa ⟨ra, rfl, hra, hba⟩
        have HRa := hide hra
        have HTa := hide (HT9.out.later hba)
        clear hra hba
        simp only []
        go_wp2_with fail
        refine (mlevels_any pm w.heap.size vm 0 L wa HTa.out.m HG.out).mono ?_
        rintro e wb ⟨rb, rfl, hrb, hbb⟩
        have HTb := hide (HTa.out.later hbb)
        have HS0 := hide (slev_any ra rb (Bk.levs L 0) wb (by rw [← Bk.levsTo_all]; exact Bk.levsTo_len L 0 1000) (row_only HRa.out (Only.of_below hbb none none) (fun _ _ => by simp) (fun _ _ => by simp)) hrb)
        clear hrb hbb HRa
        simp only []
        go_wp2_with fail
        refine HS0.out.mono ?_
        rintro e wc ⟨rfl, hbc⟩
        have HTc := hide (HTb.out.later hbc)
        clear hbc HS0
        simp only []
        go_wp2_with fail
        refine (levels_any p w.heap.size v 1 L wc HTc.out.b HG.out).mono ?_
        rintro e wd ⟨rd, rfl, hrd, hbd⟩
        have HRd := hide hrd
        have HTd := hide (HTc.out.later hbd)
        clear hrd hbd
        simp only []
        go_wp2_with fail
        refine (mlevels_any pm w.heap.size vm 1 L wd HTd.out.m HG.out).mono ?_
        rintro e wf ⟨rf, rfl, hrf, hbf⟩
        have HTf := hide (HTd.out.later hbf)
        have HS1 := hide (slev_any rd rf (Bk.levs L 1) wf (by rw [← Bk.levsTo_all]; exact Bk.levsTo_len L 1 1000) (row_only HRd.out (Only.of_below hbf none none) (fun _ _ => by simp) (fun _ _ => by simp)) hrf)
        clear hrf hbf HRd
        simp only []
        go_wp2_with fail
        refine HS1.out.mono ?_
        rintro e wg ⟨rfl, hbg⟩
        have HTg := hide (HTf.out.later hbg)
        clear hbg HS1
        simp only []
        go_wp2
        go_ret
        exact ⟨rfl, HTg.out.bl⟩
theorem bookActs_any (a : Option Addr) (n cap : Nat) (ow : Int) (l : List BAct) (ad : Nat → Addr) (w : World) (he : Sent w ad) (hl : ArgActs w a n l) :
    Calls Tryd.prog 8 #[.slice a n cap, .int .i64 ow] w fun e w' => e = .returned (.bool true) ∧ Below w.heap.size w w' := by
  by_cases h : 100 < n
  · exact acts_big a n cap ow ad w he h
  · exact acts_some a n cap ow l ad w he hl.1 (by omega) hl.2
end Go.Proofs.YtbcinejhipmomaaDoor
