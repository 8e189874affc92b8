/- The law BatchStill, for all acts. -/
import Derived.Test.YtdggddjgipgllaaGreatDoorU25
import Derived.Test.YtdggddjgipgllaaGreatDoorU13
import Derived.Test.YtdggddjgipgllaaGreatDoorU05
import Derived.Test.YtdggddjgipgllaaGreatDoorU07
namespace Go.Proofs.YtdggddjgipgllaaGreatDoor
open Go.RowKit
set_option maxRecDepth 100000
theorem field69 (r l : Int) (w : World) : (Instr.field 69 (.agg #[.int .i64 r, .int .i64 l]) 1).run Tryz.prog w = .ok (.int .i64 l) w := by kernel_rfl
theorem fits20 : Fl.Fits 20000 100 := ⟨by decide, by decide, by decide, by decide⟩
/-- a slice that was made behind a floor stays beside acts on it -/
theorem row_step {w W W1 W2 : World} {F P : Nat} {I b : Nat → Nat} {v v' : Nat → Value} {L : Nat → List Cv.Lot} {pf n : Nat → Int} {wd h : Int} {u : Value} {m : Nat} {xs : List Value} (hF : PFl w W F P I b v L pf n wd h) (hr : W1.ownsRow W.heap.size 56 5 u m xs) (hs : FStep W1 W2 P I b v v') : W2.ownsRow W.heap.size 56 5 u m xs := by
  refine ⟨hr.1, ?_⟩
  rcases hr.2 with hn | ⟨g, cap, cur, rfl, hg, hgg, rest⟩
  · exact .inl hn
  · obtain ⟨_, h2, h3⟩ := hF.fresh hg
    exact .inr ⟨g, cap, cur, rfl, hg, by rw [hs.keep g (lt_of_block hgg) h2 h3]; exact hgg, rest⟩
theorem cells2_all (p q : Addr) (u v : Value) : ∃ (X : Type) (val : X → World), (∀ x, (val x).cell? p = some u ∧ (val x).cell? q = some v) ∧ ∀ W : World, W.cell? p = some u ∧ W.cell? q = some v → ∃ x, val x = W :=
  ⟨{ W : World // W.cell? p = some u ∧ W.cell? q = some v }, fun x => x.1, fun x => x.2, fun W h => ⟨⟨W, h⟩, rfl⟩⟩
section
variable {ev : Nat → Value}
set_option maxHeartbeats 1000000 in
theorem batchStill_any (a : Option Addr) (n cap : Nat) (item s : Int) (l : List DAct) (w : World) (he : Hid (AEr w ev)) (hl : Hid (ArgDos w a n l)) (hs : Hid (Ra.IsU s)) :
    Calls Tryz.prog 5 #[.slice a n cap, .int .i64 item, .int .u32 s] w fun e w' => e = .returned (.bool true) ∧ Below w.heap.size w w' := by
  have HFL := hide (floored_any w he)
  by_cases hn : n ≤ 60
  case neg =>
    have c1 : (n : Int) > 60 := by omega
    go_enter Tryz.func5, Tryz.ntmps5
    go_wp2_with fail
    refine HFL.out.mono ?_
    rintro e w1 ⟨rfl, hb1⟩
    simp only []
    go_wp2
    go_ret
    exact ⟨rfl, hb1⟩
  by_cases hi0 : 0 ≤ item
  case neg =>
    have c1 : ¬ (n : Int) > 60 := by omega
    have c2 : item < 0 := by omega
    go_enter Tryz.func5, Tryz.ntmps5
    go_wp2_with fail
    refine HFL.out.mono ?_
    rintro e w1 ⟨rfl, hb1⟩
    simp only []
    go_wp2
    go_ret
    exact ⟨rfl, hb1⟩
  by_cases hi2 : item < 3
  case neg =>
    have c1 : ¬ (n : Int) > 60 := by omega
    have c2 : ¬ item < 0 := by omega
    have c3 : item ≥ 3 := by omega
    go_enter Tryz.func5, Tryz.ntmps5
    go_wp2_with fail
    refine HFL.out.mono ?_
    rintro e w1 ⟨rfl, hb1⟩
    simp only []
    go_wp2
    go_ret
    exact ⟨rfl, hb1⟩
  obtain ⟨hargn, hargs, hargu⟩ := hl.out
  have HARGN := hide hargn; have HARGS := hide hargs; have HARGU := hide hargu
  clear hargn hargs hargu hl
  obtain ⟨i, hii⟩ : ∃ i : Nat, item = i := ⟨item.toNat, by omega⟩
  subst hii
  have hi3 : i < 3 := by omega
  have c1 : ¬ (n : Int) > 60 := by omega
  have c2 : ¬ (i : Int) < 0 := by omega
  have c3 : ¬ (i : Int) ≥ 3 := by omega
  clear hi0 hi2
  go_enter Tryz.func5, Tryz.ntmps5
  go_wp2_with fail
  refine HFL.out.mono ?_
  rintro e w1 ⟨rfl, hb1⟩
  have HB1 := hide hb1; have HE1 := hide (he.out.below hb1)
  have HN := hide (new_ok 5 3 100 20000 100 w1 HE1.out (by show _ = _; kernel_rfl) (by show _ = _; kernel_rfl) fits20)
  unfold bandV at HN
  clear hb1 HFL
  simp only []
  go_wp2_with fail
  refine HN.out.mono ?_
  rintro e w2 ⟨F, P, I, b, rfl, hf2⟩
  have HS2 : Hid (FSome w1 w2 F P I b 5 3) := ⟨_, _, _, _, hf2, Fl.new_all (by kernel_rfl) (by kernel_rfl) fits20⟩
  clear hf2 HN
  simp only []
  go_wp2_with fail
  go_loopw [10, 11] (fun rn c wr => ∃ (k q : Nat), k ≤ n ∧ c = .int .i64 k ∧ rn = .int .i64 q ∧ q ≤ k ∧ FSome w1 wr F P I b 5 3) (fun _ c _ => n - (intOf c).toNat)
  case atStart => exact ⟨0, 0, Nat.zero_le _, rfl, rfl, Nat.le_refl _, HS2.out⟩
  case round =>
    obtain ⟨k, q, hk, rfl, rfl, hq, hf⟩ := hrel
    have HF := hide hf
    clear hf HS2
    by_cases hlt : k < n
    · have hki : (k : Int) < n := by omega
      obtain ⟨g, rfl, hlg⟩ : ∃ g, a = some g ∧ DosAt w g l := by
        rcases HARGS.out with h | h
        · omega
        · exact h
      have hu := HARGU.out k hlt
      obtain ⟨k0, k1, k2, k3, k4, k5, k6, k7, k8, k9, k10, k11⟩ := (hlg.later (HB1.out.trans (HF.out.bl.mono HB1.out.size))) k (by rw [HARGN.out]; exact hlt)
      have HO := hide (hlg k (by rw [HARGN.out]; exact hlt))
      clear hlg
      generalize dnth l k = A at *
      obtain ⟨kd, ⟨ak, ac, asq, ait, asd, apr, aq, aid⟩, dc, dit, dsd⟩ := A
      simp only [] at k0 k1 k2 k3 k4 k5 k6 k7 k8 k9 k10 k11 hu
      have HU := hide hu
      clear hu
      cases hkp : (kd.toList == [112, 108, 97, 99, 101]) with
      | true =>
        have HP := hide (place_some ⟨ak, ac, asq, ait, asd, apr, aq, aid⟩ HF.out HE1.out)
        unfold askV askA at HP
        simp only [] at HP
        go_wp2_with fail
        refine HP.out.mono ?_
        rintro e w3 ⟨⟨er, rfl⟩, hf3⟩
        have HF3 := hide hf3
        clear hf3 HP
        simp only []
        go_wp2
        exact ⟨⟨k + 1, q, by omega, by go_num, rfl, by omega, HF3.out⟩, by simp [intOf]; omega⟩
      | false =>
        cases hkr : (kd.toList == [114, 117, 110]) with
        | true =>
          by_cases hq10 : q + 1 < 10
          · have hq10' : (q : Int) + 1 < 10 := by omega
            go_wp2_with fail
            obtain ⟨XT, val, hcl, hmk⟩ := cells2_all ⟨(g.add (k * 12)).block, (g.add (k * 12)).off + 10, none⟩ ⟨(g.add (k * 12)).block, (g.add (k * 12)).off + 11, none⟩ (.int .i64 dit) (.int .u32 dsd)
            obtain ⟨y0, hy0⟩ := hmk wr.drew ⟨k10, k11⟩
            have hnx : Nonempty XT := ⟨y0⟩
            have e10 : ∀ x, (val x).cell? ⟨(g.add (k * 12)).block, (g.add (k * 12)).off + 10, none⟩ = some (.int .i64 dit) := fun x => (hcl x).1
            have e11 : ∀ x, (val x).cell? ⟨(g.add (k * 12)).block, (g.add (k * 12)).off + 11, none⟩ = some (.int .u32 dsd) := fun x => (hcl x).2
            have HMK : Hid (∀ W', Below w.heap.size w W' → ∃ x, val x = W') := fun W' hb => hmk W' ⟨cell_later hb HO.out.2.2.2.2.2.2.2.2.2.2.1, cell_later hb HO.out.2.2.2.2.2.2.2.2.2.2.2⟩
            have hbd : Below wr.heap.size wr wr.drew := ⟨rfl, rfl, rfl, Nat.le_refl _, fun _ _ => rfl⟩
            have HFq := hide (HF.out.later hbd)
            clear hmk hcl hbd k0 k1 k2 k3 k4 k5 k6 k7 k8 k9 k10 k11 HF
            refine region_plan (val := val) (.read 0 (.read 1 (.read 2 (.read 3 (.read 4 (.read 5 (.read 6 (.read 7 (.read 8 (.read 9 (.read 10 (.one 11 (.read 12 (.read 13 (.read 14 .done))))))))))))))) (by kernel_rfl) (by kernel_rfl) y0 hy0 ?_
            rw [hy0]
            clear hy0
            generalize wr.drew = wq at *
            refine walkP_read rfl (fun K hK => ?_)
            refine ⟨by rfl, ?_⟩
            unfold isRd
            go_simp
            refine hK _ ?_
            clear hK K
            refine walkP_read rfl (fun K hK => ?_)
            refine ⟨by rfl, ?_⟩
            unfold isRd
            go_simp
            refine hK _ ?_
            clear hK K
            refine walkP_read rfl (fun K hK => ?_)
            refine ⟨by rfl, ?_⟩
            unfold isRd
            go_simp
            refine hK _ ?_
            clear hK K
            refine walkP_read rfl (fun K hK => ?_)
            refine ⟨by rfl, ?_⟩
            unfold isRd
            go_simp
            refine hK _ ?_
            clear hK K
            refine walkP_read rfl (fun K hK => ?_)
            refine ⟨by rfl, ?_⟩
            unfold isRd
            go_simp
            refine hK _ ?_
            clear hK K
            refine walkP_read rfl (fun K hK => ?_)
            refine ⟨by rfl, ?_⟩
            unfold isRd
            go_simp
            refine hK _ ?_
            clear hK K
            refine walkP_read rfl (fun K hK => ?_)
            refine ⟨by rfl, ?_⟩
            unfold isRd
            go_simp
            refine hK _ ?_
            clear hK K
            refine walkP_read rfl (fun K hK => ?_)
            refine ⟨by rfl, ?_⟩
            unfold isRd
            go_simp
            refine hK _ ?_
            clear hK K
            refine walkP_read rfl (fun K hK => ?_)
            refine ⟨by rfl, ?_⟩
            unfold isRd
            go_simp
            refine hK _ ?_
            clear hK K
            refine walkP_read rfl (fun K hK => ?_)
            refine ⟨by rfl, ?_⟩
            unfold isRd
            go_simp
            refine hK _ ?_
            clear hK K
            refine walkP_read rfl (fun K hK => ?_)
            refine ⟨by rfl, ?_⟩
            unfold isRd
            go_simp
            refine hK _ ?_
            clear hK K
            refine spec_step rfl (fun K hK => ?_)
            refine ⟨by rfl, ?_⟩
            unfold upM
            go_simp
            refine (run_some dit dsd HU.out HFq.out HE1.out).mono ?_
            rintro e w3 ⟨⟨r, er, rfl⟩, hf3⟩
            have HF3 := hide hf3
            refine ⟨_, rfl, HMK.out _ (HB1.out.trans (HF3.out.bl.mono HB1.out.size)), hK _ _ ?_⟩
            clear hK K hf3 HFq
            refine walkP_read rfl (fun K hK => ?_)
            refine ⟨by rfl, ?_⟩
            unfold isRd
            go_simp
            refine hK _ ?_
            clear hK K
            refine walkP_read rfl (fun K hK => ?_)
            refine ⟨by rfl, ?_⟩
            unfold isRd
            go_simp
            refine hK _ ?_
            clear hK K
            refine walkP_read rfl (fun K hK => ?_)
            refine ⟨by rfl, ?_⟩
            unfold isRd
            go_simp
            refine hK _ ?_
            clear hK K
            refine walkP_done ?_
            clear e10 e11 HMK
            clear y0 hnx
            clear val
            clear XT
            go_wp2
            exact ⟨⟨k + 1, q + 1, by omega, by go_num, by go_num, by omega, HF3.out⟩, by simp [intOf]; omega⟩
          · have hq10' : ¬ (q : Int) + 1 < 10 := by omega
            go_wp2
            exact ⟨⟨k + 1, q + 1, by omega, by go_num, by go_num, by omega, HF.out⟩, by simp [intOf]; omega⟩
        | false =>
          go_wp2
          exact ⟨⟨k + 1, q, by omega, by go_num, rfl, by omega, HF.out⟩, by simp [intOf]; omega⟩
    · have hki : ¬ (k : Int) < n := by omega
      obtain ⟨v, L, pf, nb, hf, hall⟩ := HF.out
      have HF4 := hide hf; have HALL := hide hall
      clear hf hall HF
      obtain ⟨p, vol, hwon⟩ := won_exists (HALL.out.ok.bk i hi3).oks (nb (i * 2)) 1000
      have HWON := hide hwon
      clear hwon
      have HBI := hide (book_in i hi3 HF4.out)
      have HLT := hide (lots_any (b i) w1.heap.size (v i) (L i) wr (HF4.out.bk i hi3) (HALL.out.ok.bk i hi3).len)
      go_wp2_with fail
      refine HBI.out.mono ?_
      rintro e wr ⟨rfl, rfl⟩
      simp only []
      go_wp2_with fail
      refine HLT.out.mono ?_
      rintro e w5 ⟨vl, rfl, hrow5, hb5⟩
      have HROW5 := hide hrow5
      have HZ5 : Hid (wr.heap.size ≤ w5.heap.size) := hb5.size
      have HF5 := hide (HF4.out.later hb5)
      clear hrow5 hb5 HBI HLT
      have HBA := hide (band_in i hi3 HF5.out)
      unfold bandV at HBA
      have f69 := @field69
      simp only []
      go_wp2_with fail
      refine HBA.out.mono ?_
      rintro e w6 ⟨rfl, hb6⟩
      have HROW6 := hide (row_later HROW5.out hb6)
      have HZ : Hid (wr.heap.size ≤ w6.heap.size) := Nat.le_trans HZ5.out hb6.size
      have HF6 := hide (HF5.out.later hb6)
      clear hb6 HBA HROW5 HF5
      obtain ⟨lf, hlf⟩ : ∃ lf, nb (i * 2 + 1) = lf := ⟨_, rfl⟩
      rw [hlf]
      have HLF := hide hlf
      clear hlf
      have HPU := hide (purse_of HF6.out)
      have HCP := hide (p_copy_any P pf w6 HF6.out.pu)
      obtain ⟨hd, hhd⟩ : ∃ hd, decide (0 < lf) = hd := ⟨_, rfl⟩
      have hgt : (decide (lf > 0)) = hd := hhd
      simp only []
      go_wp2_with fail
      refine HPU.out.mono ?_
      rintro e w6 ⟨rfl, rfl⟩
      simp only []
      go_wp2_with fail
      refine HCP.out.mono ?_
      rintro e w7 ⟨rfl, hp7, hb7⟩
      have HP7 := hide hp7
      have HROW7 := hide (row_later HROW6.out hb7)
      have HF7 := hide (HF6.out.later hb7)
      obtain ⟨C, hC⟩ : ∃ C, w6.heap.size = C := ⟨_, rfl⟩
      rw [hC] at HP7
      rw [hC]
      have HCe := hide hC
      have HCL : Hid (wr.heap.size ≤ C) := by show _ ≤ _; rw [← hC]; exact HZ.out
      clear hp7 hb7 hC HPU HCP HROW6 HF6
      have hrun := run_any i hi3 s p vol hs.out HF7.out HE1.out HALL.out HWON.out
      have hcross := HWON.out.cross (HALL.out.ok.bk i hi3).oks
      have hwell := good_well (HALL.out.ok.bk i hi3)
      have hrl : ∀ FF, FF = [] → Fl.runL L i FF = L := fun FF e => by rw [e]; unfold Fl.runL; rw [Fs.rest_nil (HALL.out.ok.bk i hi3).oks, upd_self]
      have HRL := hide hrl
      have hv0 := (HWON.out.range (by decide)).2.2
      obtain ⟨no, hno⟩ : ∃ no, Fl.runO nb i 5 p vol = no := ⟨_, rfl⟩
      obtain ⟨FF, hFF⟩ : ∃ FF, Fl.runF s (L i) no p vol = FF := ⟨_, rfl⟩
      rw [hno, hFF] at hrun
      have HRUN := hide hrun
      unfold resV at HRUN
      have HNO := hide hno; have HFF := hide hFF; have HCR := hide hcross; have HWE := hide hwell; have HV0 := hide hv0
      have HSAFE : Hid (Cv.cross (L i) = true ∧ hd = false ∨ (FF = [] ∧ no = !hd ∧ (Cv.cross (L i) = false ∨ hd = true))) := by
        show _ ∨ _
        have e1 : no = Bd.nO (nb (i * 2)) lf 5 p vol := by rw [← hno, ← HLF.out]; rfl
        unfold Bd.nO at e1
        rw [hhd] at e1
        rw [hcross]
        cases hd with
        | true => exact .inr ⟨by rw [← hFF, e1]; simp [Fl.runF], by rw [e1]; simp, .inr rfl⟩
        | false =>
          by_cases hv : 0 < vol
          · exact .inl ⟨by simpa using hv, rfl⟩
          · exact .inr ⟨by rw [← hFF]; unfold Fl.runF; rw [if_neg (fun h => hv h.2)], by rw [e1]; simp [hv], .inl (by simpa using hv)⟩
      clear hrun hcross hwell hrl hv0 hno hFF hhd
      simp only []
      go_wp2_with fail
      refine HRUN.out.mono ?_
      rintro e w8 ⟨vF, v8, rfl, hf8, hs8, hr8, _⟩
      obtain ⟨aF, cF, hvF⟩ := hr8.val
      obtain ⟨mF, hmF⟩ : ∃ mF, FF.length = mF := ⟨_, rfl⟩
      rw [hmF] at hvF
      subst hvF
      have HMF := hide hmF
      obtain ⟨w9, hw9⟩ : ∃ w9, w8.alloc (.cells #[.int .i64 p, .int .i64 vol, .bool no, .slice aF mF cF] 50) = w9 := ⟨_, rfl⟩
      obtain ⟨R, hR⟩ : ∃ R, w8.heap.size = R := ⟨_, rfl⟩
      have hb9 : Below w8.heap.size w8 w9 := by rw [← hw9]; exact (Below.refl _ _).alloc (Nat.le_refl _) _
      have HR9 : Hid (w9.heap[R]? = some (.cells #[.int .i64 p, .int .i64 vol, .bool no, .slice aF mF cF] 50 (0, 0))) := by show _ = _; rw [← hw9, ← hR]; exact heap_alloc_new _ _
      have HF9 := hide (hf8.later hb9)
      have HROW9 := hide (row_later (row_step HF4.out HROW7.out hs8) hb9)
      have hfr := HF4.out.fresh (q := C) HCL.out
      have HP9 : Hid (Purse w9 105 C pf) := by
        refine Purse.lat ?_ hb9
        show _ = _
        rw [hs8.keep C (lt_of_block HP7.out) hfr.2.1 hfr.2.2]
        exact HP7.out
      have HW9 := hide hw9; have HRe := hide hR
      clear hf8 hs8 hr8 hb9 hw9 hR hfr hmF HRUN HROW7 HF7 HP7
      have HXR := hide (cross_any vl (L i) 252 (ev 1) (ev 6) (ev 7) w9 (lots_row HROW9.out) (HF9.out.er HE1.out).er HWE.out)
      obtain ⟨la, ln, lc, hvl⟩ := (lots_row HROW9.out).form
      subst hvl
      simp only []
      go_wp2_with fail
      rw [HW9.out, HRe.out]
      refine HXR.out.mono ?_
      rintro e wx ⟨rfl, hbx⟩
      have HRx : Hid (wx.heap[R]? = some (.cells #[.int .i64 p, .int .i64 vol, .bool no, .slice aF mF cF] 50 (0, 0))) := by show _ = _; rw [hbx.block _ (lt_of_block HR9.out)]; exact HR9.out
      have HFx := hide (HF9.out.later hbx)
      have HROWx := hide (row_later HROW9.out hbx)
      have HPx := hide (HP9.out.lat hbx)
      clear hbx HXR HR9 HF9 HROW9 HP9 HW9
      simp only []
      have HBW : Hid (∀ W', Below w1.heap.size w1 W' → Below w.heap.size w W') := fun W' hb => HB1.out.trans (hb.mono HB1.out.size)
      rcases HSAFE.out with ⟨hx, hh⟩ | ⟨hFn, hnn, hor⟩
      · rw [hx]
        subst hh
        go_wp2
        go_ret
        exact ⟨rfl, HBW.out _ HFx.out.bl⟩
      · have hmz : mF = 0 := by rw [← HMF.out, hFn]; rfl
        subst hmz
        have hL := HRL.out FF hFn
        have hP : Fs.sett pf i p (L i) FF = pf := by rw [hFn]; exact Fs.sett_nil _ _ _ _
        rw [hL, hP] at HFx
        subst hnn
        have r2 : wx.cell? ⟨R, 2, none⟩ = some (.bool (!hd)) := by rw [cell_of_row wx _ 2 _ _ _ HRx.out]; rfl
        have r3 : wx.cell? ⟨R, 3, none⟩ = some (.slice aF 0 cF) := by rw [cell_of_row wx _ 3 _ _ _ HRx.out]; rfl
        have HBI := hide (book_in i hi3 HFx.out)
        have HLT := hide (lots_any (b i) w1.heap.size (v8 i) (L i) wx (HFx.out.bk i hi3) (HALL.out.ok.bk i hi3).len)
        clear hL hP hFn HFF HNO HRL HCR HWE HMF
        have hcc : (Cv.cross (L i) = false ∧ hd = false) ∨ (Cv.cross (L i) = false ∧ hd = true) ∨ (Cv.cross (L i) = true ∧ hd = true) := by
          rcases hor with h | h
          · cases hd
            · exact .inl ⟨h, rfl⟩
            · exact .inr (.inl ⟨h, rfl⟩)
          · cases hx : Cv.cross (L i)
            · exact .inr (.inl ⟨rfl, h⟩)
            · exact .inr (.inr ⟨rfl, h⟩)
        rcases hcc with ⟨hx, hh⟩ | ⟨hx, hh⟩ | ⟨hx, hh⟩
        · rw [hx]
          subst hh
          go_wp2_with fail
          refine HBI.out.mono ?_
          rintro e wx ⟨rfl, rfl⟩
          simp only []
          go_wp2_with fail
          refine HLT.out.mono ?_
          rintro e wy ⟨vy, rfl, hrowy, hby⟩
          have HFy := hide (HFx.out.later hby)
          have HPy := hide (HPx.out.lat hby)
          have HSM := hide (lots_same _ vy (L i) wy (by have := (HALL.out.ok.bk i hi3).len; omega) (row_later HROWx.out hby) hrowy)
          clear hrowy hby HBI HLT HFx HPx HROWx
          simp only []
          go_wp2_with fail
          refine HSM.out.mono ?_
          rintro e wz ⟨rfl, hbz⟩
          have HFz := hide (HFy.out.later hbz)
          have HPz := hide (HPy.out.lat hbz)
          clear hbz HSM HFy HPy r2 r3 HRx
          simp only []
          go_wp2_with fail
          go_loopw [17] (fun c wl => ∃ (k : Nat) (vv : Nat → Value) (nn : Nat → Int), k ≤ 6 ∧ c = .int .i64 k ∧ PFl w1 wl F P I b vv L pf nn 5 3 ∧ Purse wl 105 C pf) (fun c _ => 6 - (intOf c).toNat)
          case atStart => exact ⟨0, _, _, Nat.zero_le _, rfl, HFz.out, HPz.out⟩
          case round =>
            obtain ⟨k', vv, nn, hk', rfl, hf', hp'⟩ := hrel
            have HFk := hide hf'; have HPk := hide hp'
            clear hf' hp' HFz HPz
            by_cases hlt' : k' < 6
            · have hki' : (k' : Int) < 6 := by omega
              have HPU := hide (purse_of HFk.out)
              have ho1 := of_any P k' pf wr HFk.out.pu
              rw [ofV_in pf hlt'] at ho1
              unfold hasV at ho1
              have HO1 := hide ho1
              have HO2 : Hid (∀ W', Purse W' 105 C pf → Calls Tryz.prog 19 #[.pointer (some ⟨C, 0, none⟩), .int .i64 k'] W' fun e w' => e = .returned (hasV pf k') ∧ Below W'.heap.size W' w') := fun W' hp => by
                have := of_any C k' pf W' hp
                rwa [ofV_in pf hlt'] at this
              unfold hasV at HO2
              clear ho1
              have n47 := @neq47
              have s8 := @same8_refl
              go_wp2_with fail
              refine HPU.out.mono ?_
              rintro e wl ⟨rfl, rfl⟩
              simp only []
              go_wp2_with fail
              refine HO1.out.mono ?_
              rintro e wm ⟨rfl, hbm⟩
              have HFm := hide (HFk.out.later hbm)
              have HPm := hide (HPk.out.lat hbm)
              clear hbm HO1 HPU HFk HPk
              simp only []
              go_wp2_with fail
              refine (HO2.out _ HPm.out).mono ?_
              rintro e wn ⟨rfl, hbn⟩
              have HFn := hide (HFm.out.later hbn)
              have HPn := hide (HPm.out.lat hbn)
              clear hbn HO2 HFm HPm
              simp only []
              go_wp2
              exact ⟨⟨k' + 1, vv, nn, by omega, by go_num, HFn.out, HPn.out⟩, by simp [intOf]; omega⟩
            · have hki' : ¬ (k' : Int) < 6 := by omega
              go_wp2
              go_ret
              exact ⟨rfl, HBW.out _ HFk.out.bl⟩
        · rw [hx]
          subst hh
          go_wp2_with fail
          refine HBI.out.mono ?_
          rintro e wx ⟨rfl, rfl⟩
          simp only []
          go_wp2_with fail
          refine HLT.out.mono ?_
          rintro e wy ⟨vy, rfl, hrowy, hby⟩
          have HFy := hide (HFx.out.later hby)
          have HPy := hide (HPx.out.lat hby)
          have HSM := hide (lots_same _ vy (L i) wy (by have := (HALL.out.ok.bk i hi3).len; omega) (row_later HROWx.out hby) hrowy)
          clear hrowy hby HBI HLT HFx HPx HROWx
          simp only []
          go_wp2_with fail
          refine HSM.out.mono ?_
          rintro e wz ⟨rfl, hbz⟩
          have HFz := hide (HFy.out.later hbz)
          have HPz := hide (HPy.out.lat hbz)
          clear hbz HSM HFy HPy r2 r3 HRx
          simp only []
          go_wp2_with fail
          go_loopw [17] (fun c wl => ∃ (k : Nat) (vv : Nat → Value) (nn : Nat → Int), k ≤ 6 ∧ c = .int .i64 k ∧ PFl w1 wl F P I b vv L pf nn 5 3 ∧ Purse wl 105 C pf) (fun c _ => 6 - (intOf c).toNat)
          case atStart => exact ⟨0, _, _, Nat.zero_le _, rfl, HFz.out, HPz.out⟩
          case round =>
            obtain ⟨k', vv, nn, hk', rfl, hf', hp'⟩ := hrel
            have HFk := hide hf'; have HPk := hide hp'
            clear hf' hp' HFz HPz
            by_cases hlt' : k' < 6
            · have hki' : (k' : Int) < 6 := by omega
              have HPU := hide (purse_of HFk.out)
              have ho1 := of_any P k' pf wr HFk.out.pu
              rw [ofV_in pf hlt'] at ho1
              unfold hasV at ho1
              have HO1 := hide ho1
              have HO2 : Hid (∀ W', Purse W' 105 C pf → Calls Tryz.prog 19 #[.pointer (some ⟨C, 0, none⟩), .int .i64 k'] W' fun e w' => e = .returned (hasV pf k') ∧ Below W'.heap.size W' w') := fun W' hp => by
                have := of_any C k' pf W' hp
                rwa [ofV_in pf hlt'] at this
              unfold hasV at HO2
              clear ho1
              have n47 := @neq47
              have s8 := @same8_refl
              go_wp2_with fail
              refine HPU.out.mono ?_
              rintro e wl ⟨rfl, rfl⟩
              simp only []
              go_wp2_with fail
              refine HO1.out.mono ?_
              rintro e wm ⟨rfl, hbm⟩
              have HFm := hide (HFk.out.later hbm)
              have HPm := hide (HPk.out.lat hbm)
              clear hbm HO1 HPU HFk HPk
              simp only []
              go_wp2_with fail
              refine (HO2.out _ HPm.out).mono ?_
              rintro e wn ⟨rfl, hbn⟩
              have HFn := hide (HFm.out.later hbn)
              have HPn := hide (HPm.out.lat hbn)
              clear hbn HO2 HFm HPm
              simp only []
              go_wp2
              exact ⟨⟨k' + 1, vv, nn, by omega, by go_num, HFn.out, HPn.out⟩, by simp [intOf]; omega⟩
            · have hki' : ¬ (k' : Int) < 6 := by omega
              go_wp2
              go_ret
              exact ⟨rfl, HBW.out _ HFk.out.bl⟩
        · rw [hx]
          subst hh
          go_wp2_with fail
          refine HBI.out.mono ?_
          rintro e wx ⟨rfl, rfl⟩
          simp only []
          go_wp2_with fail
          refine HLT.out.mono ?_
          rintro e wy ⟨vy, rfl, hrowy, hby⟩
          have HFy := hide (HFx.out.later hby)
          have HPy := hide (HPx.out.lat hby)
          have HSM := hide (lots_same _ vy (L i) wy (by have := (HALL.out.ok.bk i hi3).len; omega) (row_later HROWx.out hby) hrowy)
          clear hrowy hby HBI HLT HFx HPx HROWx
          simp only []
          go_wp2_with fail
          refine HSM.out.mono ?_
          rintro e wz ⟨rfl, hbz⟩
          have HFz := hide (HFy.out.later hbz)
          have HPz := hide (HPy.out.lat hbz)
          clear hbz HSM HFy HPy r2 r3 HRx
          simp only []
          go_wp2_with fail
          go_loopw [17] (fun c wl => ∃ (k : Nat) (vv : Nat → Value) (nn : Nat → Int), k ≤ 6 ∧ c = .int .i64 k ∧ PFl w1 wl F P I b vv L pf nn 5 3 ∧ Purse wl 105 C pf) (fun c _ => 6 - (intOf c).toNat)
          case atStart => exact ⟨0, _, _, Nat.zero_le _, rfl, HFz.out, HPz.out⟩
          case round =>
            obtain ⟨k', vv, nn, hk', rfl, hf', hp'⟩ := hrel
            have HFk := hide hf'; have HPk := hide hp'
            clear hf' hp' HFz HPz
            by_cases hlt' : k' < 6
            · have hki' : (k' : Int) < 6 := by omega
              have HPU := hide (purse_of HFk.out)
              have ho1 := of_any P k' pf wr HFk.out.pu
              rw [ofV_in pf hlt'] at ho1
              unfold hasV at ho1
              have HO1 := hide ho1
              have HO2 : Hid (∀ W', Purse W' 105 C pf → Calls Tryz.prog 19 #[.pointer (some ⟨C, 0, none⟩), .int .i64 k'] W' fun e w' => e = .returned (hasV pf k') ∧ Below W'.heap.size W' w') := fun W' hp => by
                have := of_any C k' pf W' hp
                rwa [ofV_in pf hlt'] at this
              unfold hasV at HO2
              clear ho1
              have n47 := @neq47
              have s8 := @same8_refl
              go_wp2_with fail
              refine HPU.out.mono ?_
              rintro e wl ⟨rfl, rfl⟩
              simp only []
              go_wp2_with fail
              refine HO1.out.mono ?_
              rintro e wm ⟨rfl, hbm⟩
              have HFm := hide (HFk.out.later hbm)
              have HPm := hide (HPk.out.lat hbm)
              clear hbm HO1 HPU HFk HPk
              simp only []
              go_wp2_with fail
              refine (HO2.out _ HPm.out).mono ?_
              rintro e wn ⟨rfl, hbn⟩
              have HFn := hide (HFm.out.later hbn)
              have HPn := hide (HPm.out.lat hbn)
              clear hbn HO2 HFm HPm
              simp only []
              go_wp2
              exact ⟨⟨k' + 1, vv, nn, by omega, by go_num, HFn.out, HPn.out⟩, by simp [intOf]; omega⟩
            · have hki' : ¬ (k' : Int) < 6 := by omega
              go_wp2
              go_ret
              exact ⟨rfl, HBW.out _ HFk.out.bl⟩
end
end Go.Proofs.YtdggddjgipgllaaGreatDoor
