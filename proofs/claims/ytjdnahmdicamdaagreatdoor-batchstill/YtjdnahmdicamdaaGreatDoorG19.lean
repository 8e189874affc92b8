/- Run of package batch, by its contract: where nothing is traded. -/
import Derived.Test.YtjdnahmdicamdaaGreatDoorG18
namespace Go.Proofs.YtjdnahmdicamdaaGreatDoor
open Go.RowKit
set_option maxRecDepth 100000
section
variable {w W : World} {F P : Nat} {I b : Nat → Nat} {v : Nat → Value} {L : Nat → List Cv.Lot} {pf n : Nat → Int} {wd h : Int} {ev : Nat → Value}
set_option maxHeartbeats 1000000 in
theorem run_still (i : Nat) (hi : i < 3) (s p vol : Int) (hF : Hid (PFl w W F P I b v L pf n wd h)) (he : Hid (AEr w ev)) (hok : Hid (Fs.FOk L pf)) (hband : Hid (Bd.bOk (n (i * 2)) (n (i * 2 + 1)) = true)) (hrule : Hid (Bd.rOk wd h = true)) (hwon : Hid (Cv.Won (L i) (n (i * 2)) 1000 p vol)) (hst : Bd.nO (n (i * 2)) (n (i * 2 + 1)) wd p vol = false ∨ vol = 0) :
    Calls Tryz.prog 17 #[.pointer (some ⟨F, 0, none⟩), .int .i64 i, .int .u32 s] W fun e W' => e = .returned (.tuple #[resV p vol (Bd.nO (n (i * 2)) (n (i * 2 + 1)) wd p vol) (.slice none 0 0), .nilIface]) ∧ PFl w W' F P I b v L pf (upd (upd n (i * 2) (Bd.nR (n (i * 2)) (n (i * 2 + 1)) wd p vol)) (i * 2 + 1) (Bd.nL (n (i * 2)) (n (i * 2 + 1)) wd h p vol)) wd h ∧ FStep W W' P I b v v := by
  have hgw := good_well (hok.out.bk i hi)
  have hr : Wi.withinB (n (i * 2)) 1 1000 = true := by
    have := hband.out
    simp only [Bd.bOk, Bool.and_eq_true] at this
    exact this.1
  have hvok : Bd.vOk p vol = true := by
    rcases hwon.out with ⟨e1, e2, _⟩ | ⟨e1, e2, e3, _⟩
    · rw [e2]; simp [Bd.vOk]
    · simp [Bd.vOk, Wi.withinB, e2, e3]; omega
  have HPR : Hid (∀ W' u, Lots W' u (L i) → Er W' 252 (ev 1) (ev 6) (ev 7) → Calls Tryz.prog 16 #[u, .int .i64 (n (i * 2))] W' fun e w' => e = .returned (.tuple #[.int .i64 p, .int .i64 vol, .nilIface]) ∧ Below W'.heap.size W' w') := fun W' u hu he' => by
    refine (price_any u (L i) (n (i * 2)) 252 (ev 1) (ev 6) (ev 7) W' hu he' hgw hr).mono ?_
    rintro e w' ⟨⟨p', vol', rfl, hw'⟩, hbl⟩
    obtain ⟨e1, e2⟩ := hw'.unique hwon.out
    rw [e1, e2]
    exact ⟨rfl, hbl⟩
  have HNB := hide (fun W' (he' : BEr W' 252 (ev 1)) => next_ok (n (i * 2)) (n (i * 2 + 1)) wd h p vol 252 (ev 1) W' he' (by rw [hband.out, hrule.out, hvok]; rfl))
  unfold nextV bandV at HNB
  clear hgw hr hvok
  generalize hnr : Bd.nR (n (i * 2)) (n (i * 2 + 1)) wd p vol = nr at *
  generalize hnl : Bd.nL (n (i * 2)) (n (i * 2 + 1)) wd h p vol = nl at *
  generalize hno : Bd.nO (n (i * 2)) (n (i * 2 + 1)) wd p vol = no at *
  clear hnr hnl hno
  obtain ⟨R, hR⟩ : ∃ R, W.heap.size = R := ⟨_, rfl⟩
  obtain ⟨w1, hw1⟩ : ∃ w1, W.alloc (.cells #[.int .i64 0, .int .i64 0, .bool false, .slice none 0 0] 50) = w1 := ⟨_, rfl⟩
  have hb1 : Below W.heap.size W w1 := by rw [← hw1]; exact (Below.refl _ _).alloc (Nat.le_refl _) _
  have HR1 : Hid (w1.heap[R]? = some (.cells #[.int .i64 0, .int .i64 0, .bool false, .slice none 0 0] 50 (0, 0))) := by show _ = _; rw [← hw1, ← hR]; exact heap_alloc_new _ _
  have HF1 := hide (hF.out.later hb1)
  have HS1 := hide (FStep.of_below hb1 P I b v)
  have HFI := hide (find_in i hi HF1.out)
  have HLT := hide (lots_any (b i) w.heap.size (v i) (L i) w1 (HF1.out.bk i hi) (hok.out.bk i hi).len)
  have cb := HF1.out.cellB hi
  have HW1 := hide hw1; have HRe := hide hR
  clear hb1 hw1 hR
  go_enter Tryz.func17, Tryz.ntmps17
  go_wp2_with fail
  rw [HW1.out, HRe.out]
  refine HFI.out.mono ?_
  rintro e w1 ⟨rfl, rfl⟩
  simp only []
  go_wp2_with fail
  refine HLT.out.mono ?_
  rintro e w2 ⟨v2, rfl, hrow2, hb2⟩
  have HLo2 : Hid (Lots w2 v2 (L i)) := lots_row hrow2
  have HF2 := hide (HF1.out.later hb2)
  have HS2 := hide (HS1.out.below hb2)
  have HR2 : Hid (w2.heap[R]? = some (.cells #[.int .i64 0, .int .i64 0, .bool false, .slice none 0 0] 50 (0, 0))) := by show _ = _; rw [hb2.block _ (lt_of_block HR1.out)]; exact HR1.out
  clear hrow2 hb2 HFI HLT cb HF1 HS1 HR1 HW1
  have cr := HF2.out.cellR hi
  have HP2 := hide (HPR.out w2 v2 HLo2.out (HF2.out.er he.out).er)
  obtain ⟨sa, sm, sc, hv2⟩ := HLo2.out.form
  subst hv2
  simp only []
  go_wp2_with fail
  refine HP2.out.mono ?_
  rintro e w3 ⟨rfl, hb3⟩
  have HF3 := hide (HF2.out.later hb3)
  have HS3 := hide (HS2.out.below hb3)
  have HLo3 := hide (HLo2.out.later hb3)
  have HR3 : Hid (w3.heap[R]? = some (.cells #[.int .i64 0, .int .i64 0, .bool false, .slice none 0 0] 50 (0, 0))) := by show _ = _; rw [hb3.block _ (lt_of_block HR2.out)]; exact HR2.out
  clear hb3 HF2 HS2 HLo2 HR2 cr HPR HP2
  simp only []
  go_wp2_with fail
  obtain ⟨XT, val, hcl, hmk⟩ := rows3_all F (I i) F (.cells (pfloorA I P wd h) 91 (0, 0)) (.cells (itemA (b i) (n (i * 2)) (n (i * 2 + 1))) 94 (0, 0)) (.cells (pfloorA I P wd h) 91 (0, 0))
  obtain ⟨x0, hx0⟩ := hmk w3.drew ⟨HF3.out.blk, HF3.out.it i hi, HF3.out.blk⟩
  have hnx : Nonempty XT := ⟨x0⟩
  have en : ∀ x, (val x).cell? ⟨I i, 1, none⟩ = some (.int .i64 (n (i * 2))) := fun x => by rw [cell_of_row _ _ _ _ _ _ (hcl x).2.1]; rfl
  have em : ∀ x, (val x).cell? ⟨I i, 2, none⟩ = some (.int .i64 (n (i * 2 + 1))) := fun x => by rw [cell_of_row _ _ _ _ _ _ (hcl x).2.1]; rfl
  have ew : ∀ x, (val x).cell? ⟨F, 0, none⟩ = some (.int .i64 wd) := fun x => by rw [cell_of_row _ _ _ _ _ _ (hcl x).1]; rfl
  have eh : ∀ x, (val x).cell? ⟨F, 1, none⟩ = some (.int .i64 h) := fun x => by rw [cell_of_row _ _ _ _ _ _ (hcl x).1]; rfl
  have hbd : Below w3.heap.size w3 w3.drew := ⟨rfl, rfl, rfl, Nat.le_refl _, fun _ _ => rfl⟩
  have HF4 := hide (HF3.out.later hbd)
  have HS4 := hide (HS3.out.below hbd)
  have HLo4 := hide (HLo3.out.later hbd)
  have HR4 : Hid (w3.drew.heap[R]? = some (.cells #[.int .i64 0, .int .i64 0, .bool false, .slice none 0 0] 50 (0, 0))) := HR3.out
  obtain ⟨w4, hw4⟩ : ∃ w4, w3.drew = w4 := ⟨_, rfl⟩
  rw [hw4] at HF4 HS4 HLo4 HR4
  have HMK : Hid (∀ W', Below w4.heap.size w4 W' → ∃ x, val x = W') := fun W' hb => hmk W' ⟨(HF4.out.later hb).blk, (HF4.out.later hb).it i hi, (HF4.out.later hb).blk⟩
  have HNB4 : Hid (∀ W', Below w4.heap.size w4 W' → BEr W' 252 (ev 1)) := fun W' hb => ((HF4.out.later hb).er he.out).ber
  clear hmk hcl HF3 HS3 HLo3 HR3 hbd
  refine region_join1 (val := val) (fun D w6 => w6.heap[D]? = some (.cells #[.int .i64 nr, .int .i64 nl] 69 (0, 0)) ∧ w4.heap.size ≤ D ∧ Below w4.heap.size w4 w6) (.read 0 (.read 1 (.read 2 (.read 3 (.read 4 (.read 5 (.read 6 (.read 7 (.read 8 (.read 9 (.two 10 (.read 11 (.read 12 (.read 13 (.read 14 (.one 15 (.one 16 (.read 17 (.read 18 .done)))))))) 15 (.one 10 (.read 11 (.read 12 (.read 13 (.read 14 (.one 16 (.read 17 (.read 18 .done))))))))))))))))))) (by kernel_rfl) (by kernel_rfl) x0 hx0 ?_
  apply Exists.intro
  refine ⟨?_, ?_⟩
  case' refine_1 =>
    rw [hx0, hw4]
    refine walkP_read rfl (fun K hK => ?_)
    refine ⟨by rfl, ?_⟩
    unfold isRd
    go_simp
    refine hK _ ?_
    clear hK K
    refine walkP_read rfl (fun K hK => ?_)
    refine ⟨by rfl, ?_⟩
    unfold isRd
    go_simp
    refine hK _ ?_
    clear hK K
    refine walkP_read rfl (fun K hK => ?_)
    refine ⟨by rfl, ?_⟩
    unfold isRd
    go_simp
    refine hK _ ?_
    clear hK K
    refine walkP_read rfl (fun K hK => ?_)
    refine ⟨by rfl, ?_⟩
    unfold isRd
    go_simp
    refine hK _ ?_
    clear hK K
    refine walkP_read rfl (fun K hK => ?_)
    refine ⟨by rfl, ?_⟩
    unfold isRd
    go_simp
    refine hK _ ?_
    clear hK K
    refine walkP_read rfl (fun K hK => ?_)
    refine ⟨by rfl, ?_⟩
    unfold isRd
    go_simp
    refine hK _ ?_
    clear hK K
    refine walkP_read rfl (fun K hK => ?_)
    refine ⟨by rfl, ?_⟩
    unfold isRd
    go_simp
    refine hK _ ?_
    clear hK K
    refine walkP_read rfl (fun K hK => ?_)
    refine ⟨by rfl, ?_⟩
    unfold isRd
    go_simp
    refine hK _ ?_
    clear hK K
    refine walkP_read rfl (fun K hK => ?_)
    refine ⟨by rfl, ?_⟩
    unfold isRd
    go_simp
    refine hK _ ?_
    clear hK K
    refine walkP_read rfl (fun K hK => ?_)
    refine ⟨by rfl, ?_⟩
    unfold isRd
    go_simp
    refine hK _ ?_
    clear hK K
    have HBs : Hid (Below w4.heap.size w4 w4) := Below.refl _ _
    refine ⟨?_, ?_⟩
    case refine_1 =>
      refine spec_step rfl (fun K hK => ?_)
      refine ⟨by rfl, ?_⟩
      unfold upM
      go_simp
      refine (HNB.out _ (HNB4.out _ HBs.out)).mono ?_
      rintro e wc ⟨rfl, hbc⟩
      have HBc := hide (HBs.out.trans (hbc.mono HBs.out.size))
      refine ⟨_, rfl, HMK.out _ HBc.out, hK _ _ ?_⟩
      clear hK K hbc
      refine walkP_read rfl (fun K hK => ?_)
      refine ⟨by rfl, ?_⟩
      unfold isRd
      go_simp
      refine hK _ ?_
      clear hK K
      refine walkP_read rfl (fun K hK => ?_)
      refine ⟨by rfl, ?_⟩
      unfold isRd
      go_simp
      refine hK _ ?_
      clear hK K
      refine walkP_read rfl (fun K hK => ?_)
      refine ⟨by rfl, ?_⟩
      unfold isRd
      go_simp
      refine hK _ ?_
      clear hK K
      refine walkP_read rfl (fun K hK => ?_)
      refine ⟨by rfl, ?_⟩
      unfold isRd
      go_simp
      refine hK _ ?_
      clear hK K
      refine spec_step rfl (fun K hK => ?_)
      refine ⟨by rfl, ?_⟩
      unfold upM
      go_simp
      obtain ⟨D, hD⟩ : ∃ D, wc.heap.size = D := ⟨_, rfl⟩
      obtain ⟨wz, hwz⟩ : ∃ wz, wc.alloc (.cells #[.int .i64 0, .int .i64 0] 69) = wz := ⟨_, rfl⟩
      rw [hD, hwz]
      have HBz : Hid (Below w4.heap.size w4 wz) := by show Below _ _ _; rw [← hwz]; exact HBc.out.alloc HBc.out.size _
      have HZ : Hid (wz.heap[D]? = some (.cells #[.int .i64 0, .int .i64 0] 69 (0, 0))) := by show _ = _; rw [← hwz, ← hD]; exact heap_alloc_new _ _
      have HLD : Hid (w4.heap.size ≤ D) := by have := HBc.out.size; show _ ≤ _; omega
      refine ⟨HMK.out _ HBz.out, hK _ _ ?_⟩
      clear hK K hwz hD
      have c0 : wz.cell? ⟨D, 0, none⟩ = some (.int .i64 0) := by rw [cell_of_row wz _ 0 _ _ _ HZ.out]; rfl
      have c1 : wz.cell? ⟨D, 1, none⟩ = some (.int .i64 0) := by rw [cell_of_row wz _ 1 _ _ _ HZ.out]; rfl
      have f0 : wz.frozen? ⟨D, 0, none⟩ = false := by simp [World.frozen?, HZ.out]
      have f1 : wz.frozen? ⟨D, 1, none⟩ = false := by simp [World.frozen?, HZ.out]
      have HX : Hid (((wz.setCell ⟨D, 0, none⟩ (.int .i64 nr)).setCell ⟨D, 1, none⟩ (.int .i64 nl)).heap[D]? = some (.cells #[.int .i64 nr, .int .i64 nl] 69 (0, 0))) := by
        have h0 : (wz.setCell ⟨D, 0, none⟩ (.int .i64 nr)).heap[D]? = some (.cells #[.int .i64 nr, .int .i64 0] 69 (0, 0)) := by
          rw [setCell_eq_setRow wz D 0 _ _ _ _ HZ.out]; exact setRow_heap wz D _ _ _ _ HZ.out
        show _ = _
        rw [setCell_eq_setRow _ D 1 _ _ _ _ h0]; exact setRow_heap _ D _ _ _ _ h0
      have HB6 : Hid (Below w4.heap.size w4 ((wz.setCell ⟨D, 0, none⟩ (.int .i64 nr)).setCell ⟨D, 1, none⟩ (.int .i64 nl))) := (HBz.out.setCell (p := ⟨D, 0, none⟩) HLD.out _).setCell (p := ⟨D, 1, none⟩) HLD.out _
      refine spec_step rfl (fun K hK => ?_)
      refine ⟨by rfl, ?_⟩
      unfold upM
      go_simp
      refine ⟨HMK.out _ HB6.out, hK _ _ ?_⟩
      clear hK K HZ c0 c1 f0 f1
      generalize (wz.setCell ⟨D, 0, none⟩ (.int .i64 nr)).setCell ⟨D, 1, none⟩ (.int .i64 nl) = w6 at *
      refine walkP_read rfl (fun K hK => ?_)
      refine ⟨by rfl, ?_⟩
      unfold isRd
      go_simp
      refine hK _ ?_
      clear hK K
      refine walkP_read rfl (fun K hK => ?_)
      refine ⟨by rfl, ?_⟩
      unfold isRd
      go_simp
      refine hK _ ?_
      clear hK K
      refine walkP_done ?_
      exact ⟨D, rfl, HX.out, HLD.out, HB6.out⟩
    case refine_2 =>
      refine spec_step rfl (fun K hK => ?_)
      refine ⟨by rfl, ?_⟩
      unfold upM
      go_simp
      obtain ⟨D, hD⟩ : ∃ D, w4.heap.size = D := ⟨_, rfl⟩
      obtain ⟨wy, hwz⟩ : ∃ wz, w4.alloc (.cells #[.int .i64 0, .int .i64 0] 69) = wz := ⟨_, rfl⟩
      rw [hD, hwz]
      have HBy : Hid (Below w4.heap.size w4 wy) := by show Below _ _ _; rw [← hwz]; exact HBs.out.alloc HBs.out.size _
      have HZy : Hid (wy.heap[D]? = some (.cells #[.int .i64 0, .int .i64 0] 69 (0, 0))) := by show _ = _; rw [← hwz, ← hD]; exact heap_alloc_new _ _
      have HLD : Hid (w4.heap.size ≤ D) := by have := HBs.out.size; show _ ≤ _; omega
      refine ⟨HMK.out _ HBy.out, hK _ _ ?_⟩
      clear hK K hwz hD
      refine spec_step rfl (fun K hK => ?_)
      refine ⟨by rfl, ?_⟩
      unfold upM
      go_simp
      refine (HNB.out _ (HNB4.out _ HBy.out)).mono ?_
      rintro e wz ⟨rfl, hbc⟩
      have HBz := hide (HBy.out.trans (hbc.mono HBy.out.size))
      have HZ : Hid (wz.heap[D]? = some (.cells #[.int .i64 0, .int .i64 0] 69 (0, 0))) := by show _ = _; rw [hbc.block _ (lt_of_block HZy.out)]; exact HZy.out
      refine ⟨_, rfl, HMK.out _ HBz.out, hK _ _ ?_⟩
      clear hK K hbc
      refine walkP_read rfl (fun K hK => ?_)
      refine ⟨by rfl, ?_⟩
      unfold isRd
      go_simp
      refine hK _ ?_
      clear hK K
      refine walkP_read rfl (fun K hK => ?_)
      refine ⟨by rfl, ?_⟩
      unfold isRd
      go_simp
      refine hK _ ?_
      clear hK K
      refine walkP_read rfl (fun K hK => ?_)
      refine ⟨by rfl, ?_⟩
      unfold isRd
      go_simp
      refine hK _ ?_
      clear hK K
      refine walkP_read rfl (fun K hK => ?_)
      refine ⟨by rfl, ?_⟩
      unfold isRd
      go_simp
      refine hK _ ?_
      clear hK K
      have c0 : wz.cell? ⟨D, 0, none⟩ = some (.int .i64 0) := by rw [cell_of_row wz _ 0 _ _ _ HZ.out]; rfl
      have c1 : wz.cell? ⟨D, 1, none⟩ = some (.int .i64 0) := by rw [cell_of_row wz _ 1 _ _ _ HZ.out]; rfl
      have f0 : wz.frozen? ⟨D, 0, none⟩ = false := by simp [World.frozen?, HZ.out]
      have f1 : wz.frozen? ⟨D, 1, none⟩ = false := by simp [World.frozen?, HZ.out]
      have HX : Hid (((wz.setCell ⟨D, 0, none⟩ (.int .i64 nr)).setCell ⟨D, 1, none⟩ (.int .i64 nl)).heap[D]? = some (.cells #[.int .i64 nr, .int .i64 nl] 69 (0, 0))) := by
        have h0 : (wz.setCell ⟨D, 0, none⟩ (.int .i64 nr)).heap[D]? = some (.cells #[.int .i64 nr, .int .i64 0] 69 (0, 0)) := by
          rw [setCell_eq_setRow wz D 0 _ _ _ _ HZ.out]; exact setRow_heap wz D _ _ _ _ HZ.out
        show _ = _
        rw [setCell_eq_setRow _ D 1 _ _ _ _ h0]; exact setRow_heap _ D _ _ _ _ h0
      have HB6 : Hid (Below w4.heap.size w4 ((wz.setCell ⟨D, 0, none⟩ (.int .i64 nr)).setCell ⟨D, 1, none⟩ (.int .i64 nl))) := (HBz.out.setCell (p := ⟨D, 0, none⟩) HLD.out _).setCell (p := ⟨D, 1, none⟩) HLD.out _
      refine spec_step rfl (fun K hK => ?_)
      refine ⟨by rfl, ?_⟩
      unfold upM
      go_simp
      refine ⟨HMK.out _ HB6.out, hK _ _ ?_⟩
      clear hK K HZ c0 c1 f0 f1
      generalize (wz.setCell ⟨D, 0, none⟩ (.int .i64 nr)).setCell ⟨D, 1, none⟩ (.int .i64 nl) = w6 at *
      refine walkP_read rfl (fun K hK => ?_)
      refine ⟨by rfl, ?_⟩
      unfold isRd
      go_simp
      refine hK _ ?_
      clear hK K
      refine walkP_read rfl (fun K hK => ?_)
      refine ⟨by rfl, ?_⟩
      unfold isRd
      go_simp
      refine hK _ ?_
      clear hK K
      refine walkP_done ?_
      exact ⟨D, rfl, HX.out, HLD.out, HB6.out⟩
  intro D w6 ⟨hX6, hD6, hb6⟩
  have HX := hide hX6; have HDn := hide hD6
  have HF6 := hide (HF4.out.later hb6)
  have HS6 := hide (HS4.out.below hb6)
  have HLo6 := hide (HLo4.out.later hb6)
  have HR6 : Hid (w6.heap[R]? = some (.cells #[.int .i64 0, .int .i64 0, .bool false, .slice none 0 0] 50 (0, 0))) := by show _ = _; rw [hb6.block _ (lt_of_block HR4.out)]; exact HR4.out
  clear hX6 hD6 hb6 HF4 HS4 HLo4 HR4 HNB hw4
  clear hx0 en em ew eh HMK HNB4
  clear x0 hnx
  clear val
  clear XT
  have HFi := hide (HF6.out.it i hi)
  have d0 : w6.cell? ⟨D, 0, none⟩ = some (.int .i64 nr) := by rw [cell_of_row w6 _ 0 _ _ _ HX.out]; rfl
  have d1 : w6.cell? ⟨D, 1, none⟩ = some (.int .i64 nl) := by rw [cell_of_row w6 _ 1 _ _ _ HX.out]; rfl
  have i1 : w6.cell? ⟨I i, 1, none⟩ = some (.int .i64 (n (i * 2))) := by rw [cell_of_row w6 _ 1 _ _ _ HFi.out]; rfl
  have i2 : w6.cell? ⟨I i, 2, none⟩ = some (.int .i64 (n (i * 2 + 1))) := by rw [cell_of_row w6 _ 2 _ _ _ HFi.out]; rfl
  have j1 : w6.frozen? ⟨I i, 1, none⟩ = false := by simp [World.frozen?, HFi.out]
  have j2 : w6.frozen? ⟨I i, 2, none⟩ = false := by simp [World.frozen?, HFi.out]
  have r0 : w6.cell? ⟨R, 0, none⟩ = some (.int .i64 0) := by rw [cell_of_row w6 _ 0 _ _ _ HR6.out]; rfl
  have r1 : w6.cell? ⟨R, 1, none⟩ = some (.int .i64 0) := by rw [cell_of_row w6 _ 1 _ _ _ HR6.out]; rfl
  have r2 : w6.cell? ⟨R, 2, none⟩ = some (.bool false) := by rw [cell_of_row w6 _ 2 _ _ _ HR6.out]; rfl
  have r3 : w6.cell? ⟨R, 3, none⟩ = some (.slice none 0 0) := by rw [cell_of_row w6 _ 3 _ _ _ HR6.out]; rfl
  have q0 : w6.frozen? ⟨R, 0, none⟩ = false := by simp [World.frozen?, HR6.out]
  have q1 : w6.frozen? ⟨R, 1, none⟩ = false := by simp [World.frozen?, HR6.out]
  have q2 : w6.frozen? ⟨R, 2, none⟩ = false := by simp [World.frozen?, HR6.out]
  have q3 : w6.frozen? ⟨R, 3, none⟩ = false := by simp [World.frozen?, HR6.out]
  have hRl : R < w6.heap.size := lt_of_block HR6.out
  have hIl : I i < w6.heap.size := lt_of_block HFi.out
  have hDl : D < w6.heap.size := lt_of_block HX.out
  have hRn : ¬ R = w6.heap.size := by omega
  have hIn : ¬ I i = w6.heap.size := by omega
  have hDn : ¬ D = w6.heap.size := by omega
  have hRI : R ≠ I i := blkT HR6.out HFi.out (by decide)
  have hIR : I i ≠ R := Ne.symm hRI
  have hDI : D ≠ I i := blkT HX.out HFi.out (by decide)
  have hDR : D ≠ R := blkT HX.out HR6.out (by decide)
  have HIT : Hid (((w6.setCell ⟨I i, 1, none⟩ (.int .i64 nr)).setCell ⟨I i, 2, none⟩ (.int .i64 nl)).heap[I i]? = some (.cells (itemA (b i) nr nl) 94 (0, 0))) := by
    have h0 : (w6.setCell ⟨I i, 1, none⟩ (.int .i64 nr)).heap[I i]? = some (.cells #[.pointer (some ⟨b i, 0, none⟩), .int .i64 nr, .int .i64 (n (i * 2 + 1))] 94 (0, 0)) := by
      rw [setCell_eq_setRow w6 (I i) 1 _ _ _ _ HFi.out]; exact setRow_heap w6 (I i) _ _ _ _ HFi.out
    show _ = _
    rw [setCell_eq_setRow _ (I i) 2 _ _ _ _ h0]; exact setRow_heap _ (I i) _ _ _ _ h0
  have HFb := hide (HF6.out.band hi HIT.out ((Save.setCell _ _ _ _).put _ _))
  have HSb := hide (HS6.out.trans (FStep.of_item hi ((Save.setCell w6 (I i) 1 (.int .i64 nr)).put 2 (.int .i64 nl)) P b v))
  have HRb : Hid (((w6.setCell ⟨I i, 1, none⟩ (.int .i64 nr)).setCell ⟨I i, 2, none⟩ (.int .i64 nl)).heap[R]? = some (.cells #[.int .i64 0, .int .i64 0, .bool false, .slice none 0 0] 50 (0, 0))) := by
    show _ = _
    rw [((Save.setCell w6 (I i) 1 (.int .i64 nr)).put 2 (.int .i64 nl)).block R hRl hRI]; exact HR6.out
  have HLR : Hid (w.heap.size ≤ R) := by have := hF.out.bl.size; have := HRe.out; show _ ≤ _; omega
  rcases hst with e | e
  · subst e
    generalize hWb : (w6.setCell ⟨I i, 1, none⟩ (.int .i64 nr)).setCell ⟨I i, 2, none⟩ (.int .i64 nl) = wb at *
    have HSR : Hid (Save wb ((((wb.setCell ⟨R, 0, none⟩ (.int .i64 p)).setCell ⟨R, 1, none⟩ (.int .i64 vol)).setCell ⟨R, 2, none⟩ (.bool false)).setCell ⟨R, 3, none⟩ (.slice none 0 0)) R) := (((Save.setCell _ R 0 (.int .i64 p)).put 1 (.int .i64 vol)).put 2 (.bool false)).put 3 (.slice none 0 0)
    have HFz := hide ((HFb.out.aside (blkT HRb.out HFb.out.blk (by decide)) (blkT HRb.out HFb.out.pu (by decide)) (fun j hj => ⟨blkT HRb.out (HFb.out.it j hj) (by decide), blkT HRb.out (HFb.out.bk j hj).cell (by decide), rowT (HFb.out.bk j hj).row HRb.out (by decide)⟩) HLR.out HSR.out).later ((Below.refl _ _).alloc (Nat.le_refl _) (.cells #[.int .i64 p, .int .i64 vol, .bool false, .slice none 0 0] 50)))
    have HSz : Hid (FStep W (((((wb.setCell ⟨R, 0, none⟩ (.int .i64 p)).setCell ⟨R, 1, none⟩ (.int .i64 vol)).setCell ⟨R, 2, none⟩ (.bool false)).setCell ⟨R, 3, none⟩ (.slice none 0 0)).alloc (.cells #[.int .i64 p, .int .i64 vol, .bool false, .slice none 0 0] 50)) P I b v v) := (HSb.out.newer HSR.out (by rw [HRe.out]; exact Nat.le_refl _)).below ((Below.refl _ _).alloc (Nat.le_refl _) _)
    have HRz : Hid ((((((wb.setCell ⟨R, 0, none⟩ (.int .i64 p)).setCell ⟨R, 1, none⟩ (.int .i64 vol)).setCell ⟨R, 2, none⟩ (.bool false)).setCell ⟨R, 3, none⟩ (.slice none 0 0)).alloc (.cells #[.int .i64 p, .int .i64 vol, .bool false, .slice none 0 0] 50)).heap[R]? = some (.cells #[.int .i64 p, .int .i64 vol, .bool false, .slice none 0 0] 50 (0, 0))) := (Below.heap_alloc _ _ _ (lt_of_block (set4_row HRb.out p vol false _))).trans (set4_row HRb.out p vol false _)
    have HWb := hide hWb
    clear hWb
    go_wp2
    rw [HWb.out]
    generalize (((((wb.setCell ⟨R, 0, none⟩ (.int .i64 p)).setCell ⟨R, 1, none⟩ (.int .i64 vol)).setCell ⟨R, 2, none⟩ (.bool false)).setCell ⟨R, 3, none⟩ (.slice none 0 0)).alloc (.cells #[.int .i64 p, .int .i64 vol, .bool false, .slice none 0 0] 50)) = Wf at *
    have z0 : Wf.cell? ⟨R, 0, none⟩ = some (.int .i64 p) := by rw [cell_of_row Wf _ 0 _ _ _ HRz.out]; rfl
    have z1 : Wf.cell? ⟨R, 1, none⟩ = some (.int .i64 vol) := by rw [cell_of_row Wf _ 1 _ _ _ HRz.out]; rfl
    have z2 : Wf.cell? ⟨R, 2, none⟩ = some (.bool false) := by rw [cell_of_row Wf _ 2 _ _ _ HRz.out]; rfl
    have z3 : Wf.cell? ⟨R, 3, none⟩ = some (.slice none 0 0) := by rw [cell_of_row Wf _ 3 _ _ _ HRz.out]; rfl
    exact bodyPost_ret (v := .tuple #[.agg #[.int .i64 p, .int .i64 vol, .bool false, .slice none 0 0], .nilIface]) (by simp [results, Tryz.results17, go_sem, z0, z1, z2, z3]) rfl ⟨rfl, HFz.out, HSz.out⟩
  · subst e
    cases no
    · skip
      generalize hWb : (w6.setCell ⟨I i, 1, none⟩ (.int .i64 nr)).setCell ⟨I i, 2, none⟩ (.int .i64 nl) = wb at *
      have HSR : Hid (Save wb ((((wb.setCell ⟨R, 0, none⟩ (.int .i64 p)).setCell ⟨R, 1, none⟩ (.int .i64 0)).setCell ⟨R, 2, none⟩ (.bool false)).setCell ⟨R, 3, none⟩ (.slice none 0 0)) R) := (((Save.setCell _ R 0 (.int .i64 p)).put 1 (.int .i64 0)).put 2 (.bool false)).put 3 (.slice none 0 0)
      have HFz := hide ((HFb.out.aside (blkT HRb.out HFb.out.blk (by decide)) (blkT HRb.out HFb.out.pu (by decide)) (fun j hj => ⟨blkT HRb.out (HFb.out.it j hj) (by decide), blkT HRb.out (HFb.out.bk j hj).cell (by decide), rowT (HFb.out.bk j hj).row HRb.out (by decide)⟩) HLR.out HSR.out).later ((Below.refl _ _).alloc (Nat.le_refl _) (.cells #[.int .i64 p, .int .i64 0, .bool false, .slice none 0 0] 50)))
      have HSz : Hid (FStep W (((((wb.setCell ⟨R, 0, none⟩ (.int .i64 p)).setCell ⟨R, 1, none⟩ (.int .i64 0)).setCell ⟨R, 2, none⟩ (.bool false)).setCell ⟨R, 3, none⟩ (.slice none 0 0)).alloc (.cells #[.int .i64 p, .int .i64 0, .bool false, .slice none 0 0] 50)) P I b v v) := (HSb.out.newer HSR.out (by rw [HRe.out]; exact Nat.le_refl _)).below ((Below.refl _ _).alloc (Nat.le_refl _) _)
      have HRz : Hid ((((((wb.setCell ⟨R, 0, none⟩ (.int .i64 p)).setCell ⟨R, 1, none⟩ (.int .i64 0)).setCell ⟨R, 2, none⟩ (.bool false)).setCell ⟨R, 3, none⟩ (.slice none 0 0)).alloc (.cells #[.int .i64 p, .int .i64 0, .bool false, .slice none 0 0] 50)).heap[R]? = some (.cells #[.int .i64 p, .int .i64 0, .bool false, .slice none 0 0] 50 (0, 0))) := (Below.heap_alloc _ _ _ (lt_of_block (set4_row HRb.out p 0 false _))).trans (set4_row HRb.out p 0 false _)
      have HWb := hide hWb
      clear hWb
      go_wp2
      rw [HWb.out]
      generalize (((((wb.setCell ⟨R, 0, none⟩ (.int .i64 p)).setCell ⟨R, 1, none⟩ (.int .i64 0)).setCell ⟨R, 2, none⟩ (.bool false)).setCell ⟨R, 3, none⟩ (.slice none 0 0)).alloc (.cells #[.int .i64 p, .int .i64 0, .bool false, .slice none 0 0] 50)) = Wf at *
      have z0 : Wf.cell? ⟨R, 0, none⟩ = some (.int .i64 p) := by rw [cell_of_row Wf _ 0 _ _ _ HRz.out]; rfl
      have z1 : Wf.cell? ⟨R, 1, none⟩ = some (.int .i64 0) := by rw [cell_of_row Wf _ 1 _ _ _ HRz.out]; rfl
      have z2 : Wf.cell? ⟨R, 2, none⟩ = some (.bool false) := by rw [cell_of_row Wf _ 2 _ _ _ HRz.out]; rfl
      have z3 : Wf.cell? ⟨R, 3, none⟩ = some (.slice none 0 0) := by rw [cell_of_row Wf _ 3 _ _ _ HRz.out]; rfl
      exact bodyPost_ret (v := .tuple #[.agg #[.int .i64 p, .int .i64 0, .bool false, .slice none 0 0], .nilIface]) (by simp [results, Tryz.results17, go_sem, z0, z1, z2, z3]) rfl ⟨rfl, HFz.out, HSz.out⟩
    · skip
      generalize hWb : (w6.setCell ⟨I i, 1, none⟩ (.int .i64 nr)).setCell ⟨I i, 2, none⟩ (.int .i64 nl) = wb at *
      have HSR : Hid (Save wb ((((wb.setCell ⟨R, 0, none⟩ (.int .i64 p)).setCell ⟨R, 1, none⟩ (.int .i64 0)).setCell ⟨R, 2, none⟩ (.bool true)).setCell ⟨R, 3, none⟩ (.slice none 0 0)) R) := (((Save.setCell _ R 0 (.int .i64 p)).put 1 (.int .i64 0)).put 2 (.bool true)).put 3 (.slice none 0 0)
      have HFz := hide ((HFb.out.aside (blkT HRb.out HFb.out.blk (by decide)) (blkT HRb.out HFb.out.pu (by decide)) (fun j hj => ⟨blkT HRb.out (HFb.out.it j hj) (by decide), blkT HRb.out (HFb.out.bk j hj).cell (by decide), rowT (HFb.out.bk j hj).row HRb.out (by decide)⟩) HLR.out HSR.out).later ((Below.refl _ _).alloc (Nat.le_refl _) (.cells #[.int .i64 p, .int .i64 0, .bool true, .slice none 0 0] 50)))
      have HSz : Hid (FStep W (((((wb.setCell ⟨R, 0, none⟩ (.int .i64 p)).setCell ⟨R, 1, none⟩ (.int .i64 0)).setCell ⟨R, 2, none⟩ (.bool true)).setCell ⟨R, 3, none⟩ (.slice none 0 0)).alloc (.cells #[.int .i64 p, .int .i64 0, .bool true, .slice none 0 0] 50)) P I b v v) := (HSb.out.newer HSR.out (by rw [HRe.out]; exact Nat.le_refl _)).below ((Below.refl _ _).alloc (Nat.le_refl _) _)
      have HRz : Hid ((((((wb.setCell ⟨R, 0, none⟩ (.int .i64 p)).setCell ⟨R, 1, none⟩ (.int .i64 0)).setCell ⟨R, 2, none⟩ (.bool true)).setCell ⟨R, 3, none⟩ (.slice none 0 0)).alloc (.cells #[.int .i64 p, .int .i64 0, .bool true, .slice none 0 0] 50)).heap[R]? = some (.cells #[.int .i64 p, .int .i64 0, .bool true, .slice none 0 0] 50 (0, 0))) := (Below.heap_alloc _ _ _ (lt_of_block (set4_row HRb.out p 0 true _))).trans (set4_row HRb.out p 0 true _)
      have HWb := hide hWb
      clear hWb
      go_wp2
      rw [HWb.out]
      generalize (((((wb.setCell ⟨R, 0, none⟩ (.int .i64 p)).setCell ⟨R, 1, none⟩ (.int .i64 0)).setCell ⟨R, 2, none⟩ (.bool true)).setCell ⟨R, 3, none⟩ (.slice none 0 0)).alloc (.cells #[.int .i64 p, .int .i64 0, .bool true, .slice none 0 0] 50)) = Wf at *
      have z0 : Wf.cell? ⟨R, 0, none⟩ = some (.int .i64 p) := by rw [cell_of_row Wf _ 0 _ _ _ HRz.out]; rfl
      have z1 : Wf.cell? ⟨R, 1, none⟩ = some (.int .i64 0) := by rw [cell_of_row Wf _ 1 _ _ _ HRz.out]; rfl
      have z2 : Wf.cell? ⟨R, 2, none⟩ = some (.bool true) := by rw [cell_of_row Wf _ 2 _ _ _ HRz.out]; rfl
      have z3 : Wf.cell? ⟨R, 3, none⟩ = some (.slice none 0 0) := by rw [cell_of_row Wf _ 3 _ _ _ HRz.out]; rfl
      exact bodyPost_ret (v := .tuple #[.agg #[.int .i64 p, .int .i64 0, .bool true, .slice none 0 0], .nilIface]) (by simp [results, Tryz.results17, go_sem, z0, z1, z2, z3]) rfl ⟨rfl, HFz.out, HSz.out⟩
end
end Go.Proofs.YtjdnahmdicamdaaGreatDoor
