/- Run of package batch, by its contract: where it trades. -/
import Derived.Test.YtdggddjgipgllaaGreatDoorG03
import Derived.Test.YtdggddjgipgllaaGreatDoorG23
import Derived.Test.YtdggddjgipgllaaGreatDoorG13
import Derived.Test.YtdggddjgipgllaaGreatDoorG14
namespace Go.Proofs.YtdggddjgipgllaaGreatDoor
open Go.RowKit
set_option maxRecDepth 100000
section
variable {w W : World} {F P : Nat} {I b : Nat → Nat} {v : Nat → Value} {L : Nat → List Cv.Lot} {pf n : Nat → Int} {wd h : Int} {ev : Nat → Value}
set_option maxHeartbeats 1000000 in
theorem run_open (i : Nat) (hi : i < 3) (s p vol : Int) (hs : Hid (Ra.IsU s)) (hF : Hid (PFl w W F P I b v L pf n wd h)) (he : Hid (AEr w ev)) (hok : Hid (Fs.FOk L pf)) (hband : Hid (Bd.bOk (n (i * 2)) (n (i * 2 + 1)) = true)) (hrule : Hid (Bd.rOk wd h = true)) (hwon : Hid (Cv.Won (L i) (n (i * 2)) 1000 p vol)) (hno : Bd.nO (n (i * 2)) (n (i * 2 + 1)) wd p vol = true) (hvol : 0 < vol) :
  Calls Tryz.prog 17 #[.pointer (some ⟨F, 0, none⟩), .int .i64 i, .int .u32 s] W fun e W' => ∃ vF v', e = .returned (.tuple #[resV p vol true vF, .nilIface]) ∧ PFl w W' F P I b v' (upd L i (Fs.restL (Ra.fills s (L i) p vol) (L i))) (Fs.sett pf i p (L i) (Ra.fills s (L i) p vol)) (upd (upd n (i * 2) (Bd.nR (n (i * 2)) (n (i * 2 + 1)) wd p vol)) (i * 2 + 1) (Bd.nL (n (i * 2)) (n (i * 2 + 1)) wd h p vol)) wd h ∧ FStep W W' P I b v v' ∧ FRow W' vF (Ra.fills s (L i) p vol) ∧ Fs.FOk (upd L i (Fs.restL (Ra.fills s (L i) p vol) (L i))) (Fs.sett pf i p (L i) (Ra.fills s (L i) p vol)) := by
 have hfine := Fs.won_fine (good_well (hok.out.bk i hi)) hwon.out hvol
 have HFine := hide hfine
 obtain ⟨FF, hFF⟩ : ∃ FF, Ra.fills s (L i) p vol = FF := ⟨_, rfl⟩
 have hfil := Fs.fil_of hfine s
 rw [hFF] at hfil
 have hlen : FF.length ≤ 200 := by
  rw [← hFF]
  unfold Ra.fills
  have h60 := (hok.out.bk i hi).len
  have h1 := Ra.side_length s (hok.out.bk i hi).oks 0 p vol hfine.2.1.1 hfine.2.1.2 hfine.2.2.1
  have h2 := Ra.side_length (Ra.nextSeed s) (hok.out.bk i hi).oks 1 p vol hfine.2.1.1 hfine.2.1.2 hfine.2.2.1
  rw [List.length_append]
  omega
 have hnil : FF ≠ [] := fun e => by
  have hsum := Ra.sum_side hfine s 0 (.inl rfl)
  rw [hFF, e, Fs.sumG_by, Fs.sumBy_zero (fun x _ => by show (if x.sd = 0 then (0 : Int) else 0) = 0; split <;> rfl)] at hsum
  omega
 have HFil := hide hfil; have HLen := hide hlen; have HNil := hide hnil; have HFF := hide hFF; have HPp := hide hfine.2.1
 rw [hFF]
 clear hfil hlen hnil hFF hfine
 have hgw := good_well (hok.out.bk i hi)
 have hr : Wi.withinB (n (i * 2)) 1 1000 = true := by
  have := hband.out
  simp only [Bd.bOk, Bool.and_eq_true] at this
  exact this.1
 have hvok : Bd.vOk p vol = true := by
  rcases hwon.out with ⟨e1, e2, _⟩ | ⟨e1, e2, e3, _⟩
  ·rw [e2]; simp [Bd.vOk]
  ·simp [Bd.vOk, Wi.withinB, e2, e3]; omega
 have HPR : Hid (∀ W' u, Lots W' u (L i) → Er W' 252 (ev 1) (ev 6) (ev 7) → Calls Tryz.prog 16 #[u, .int .i64 (n (i * 2))] W' fun e w' => e = .returned (.tuple #[.int .i64 p, .int .i64 vol, .nilIface]) ∧ Below W'.heap.size W' w') := fun W' u hu he' => by
  refine (price_any u (L i) (n (i * 2)) 252 (ev 1) (ev 6) (ev 7) W' hu he' hgw hr).mono ?_
  rintro e w' ⟨⟨p', vol', rfl, hw'⟩, hbl⟩
  obtain ⟨e1, e2⟩ := hw'.unique hwon.out
  rw [e1, e2]
  exact ⟨rfl, hbl⟩
 have HNB := hide (fun W' (he' : BEr W' 252 (ev 1)) => next_ok (n (i * 2)) (n (i * 2 + 1)) wd h p vol 252 (ev 1) W' he' (by rw [hband.out, hrule.out, hvok]; rfl))
 unfold nextV bandV at HNB
 clear hgw hr hvok
 generalize hnr : Bd.nR (n (i * 2)) (n (i * 2 + 1)) wd p vol = nr at *
 generalize hnl : Bd.nL (n (i * 2)) (n (i * 2 + 1)) wd h p vol = nl at *
 rw [hno] at HNB
 clear hnr hnl hno
 obtain ⟨R, hR⟩ : ∃ R, W.heap.size = R := ⟨_, rfl⟩
 obtain ⟨w1, hw1⟩ : ∃ w1, W.alloc (.cells #[.int .i64 0, .int .i64 0, .bool false, .slice none 0 0] 50) = w1 := ⟨_, rfl⟩
 have hb1 : Below W.heap.size W w1 := by rw [← hw1]; exact bal
 have HR1 : Hid (w1.heap[R]? = some (.cells #[.int .i64 0, .int .i64 0, .bool false, .slice none 0 0] 50 (0, 0))) := by show _ = _; rw [← hw1, ← hR]; exact heap_alloc_new _ _
 have HF1 := hide (hF.out.later hb1)
 have HS1 := hide (FStep.of_below hb1 P I b v)
 have HFI := hide (find_in i hi HF1.out)
 have HLT := hide (lots_any (b i) w.heap.size (v i) (L i) w1 (HF1.out.bk i hi) (hok.out.bk i hi).len)
 have cb := HF1.out.cellB hi
 have HW1 := hide hw1; have HRe := hide hR
 clear hb1 hw1 hR
 go_enter Tryz.func17, Tryz.ntmps17
 go_wp2_with fail
 rw [HW1.out, HRe.out]
 refine HFI.out.mono ?_
 rintro e w1 ⟨rfl, rfl⟩
 simp only []
 go_wp2_with fail
 refine HLT.out.mono ?_
 rintro e w2 ⟨v2, rfl, hrow2, hb2⟩
 have HLo2 : Hid (Lots w2 v2 (L i)) := lots_row hrow2
 have HF2 := hide (HF1.out.later hb2)
 have HS2 := hide (HS1.out.below hb2)
 have HR2 : Hid (w2.heap[R]? = some (.cells #[.int .i64 0, .int .i64 0, .bool false, .slice none 0 0] 50 (0, 0))) := rof hb2 HR1.out
 clear hrow2 hb2 HFI HLT cb HF1 HS1 HR1 HW1
 have cr := HF2.out.cellR hi
 have HP2 := hide (HPR.out w2 v2 HLo2.out (HF2.out.er he.out).er)
 obtain ⟨sa, sm, sc, hv2⟩ := HLo2.out.form
 subst hv2
 simp only []
 go_wp2_with fail
 refine HP2.out.mono ?_
 rintro e w3 ⟨rfl, hb3⟩
 have HF3 := hide (HF2.out.later hb3)
 have HS3 := hide (HS2.out.below hb3)
 have HLo3 := hide (HLo2.out.later hb3)
 have HR3 : Hid (w3.heap[R]? = some (.cells #[.int .i64 0, .int .i64 0, .bool false, .slice none 0 0] 50 (0, 0))) := rof hb3 HR2.out
 clear hb3 HF2 HS2 HLo2 HR2 cr HPR HP2
 simp only []
 go_wp2_with fail
 obtain ⟨XT, val, hcl, hmk⟩ := rows3_all F (I i) F (.cells (pfloorA I P wd h) 91 (0, 0)) (.cells (itemA (b i) (n (i * 2)) (n (i * 2 + 1))) 94 (0, 0)) (.cells (pfloorA I P wd h) 91 (0, 0))
 obtain ⟨x0, hx0⟩ := hmk w3.drew ⟨HF3.out.blk, HF3.out.it i hi, HF3.out.blk⟩
 have hnx : Nonempty XT := ⟨x0⟩
 have en : ∀ x, (val x).cell? ⟨I i, 1, none⟩ = some (.int .i64 (n (i * 2))) := fun x => cof (hcl x).2.1 rfl
 have em : ∀ x, (val x).cell? ⟨I i, 2, none⟩ = some (.int .i64 (n (i * 2 + 1))) := fun x => cof (hcl x).2.1 rfl
 have ew : ∀ x, (val x).cell? ⟨F, 0, none⟩ = some (.int .i64 wd) := fun x => cof (hcl x).1 rfl
 have eh : ∀ x, (val x).cell? ⟨F, 1, none⟩ = some (.int .i64 h) := fun x => cof (hcl x).1 rfl
 have hbd : Below w3.heap.size w3 w3.drew := ⟨rfl, rfl, rfl, Nat.le_refl _, fun _ _ => rfl⟩
 have HF4 := hide (HF3.out.later hbd)
 have HS4 := hide (HS3.out.below hbd)
 have HLo4 := hide (HLo3.out.later hbd)
 have HR4 : Hid (w3.drew.heap[R]? = some (.cells #[.int .i64 0, .int .i64 0, .bool false, .slice none 0 0] 50 (0, 0))) := HR3.out
 obtain ⟨w4, hw4⟩ : ∃ w4, w3.drew = w4 := ⟨_, rfl⟩
 rw [hw4] at HF4 HS4 HLo4 HR4
 have HMK : Hid (∀ W', Below w4.heap.size w4 W' → ∃ x, val x = W') := fun W' hb => hmk W' ⟨(HF4.out.later hb).blk, (HF4.out.later hb).it i hi, (HF4.out.later hb).blk⟩
 have HNB4 : Hid (∀ W', Below w4.heap.size w4 W' → BEr W' 252 (ev 1)) := fun W' hb => ((HF4.out.later hb).er he.out).ber
 clear hmk hcl HF3 HS3 HLo3 HR3 hbd
 refine region_join1 (val := val) (fun D w6 => w6.heap[D]? = some (.cells #[.int .i64 nr, .int .i64 nl] 69 (0, 0)) ∧ w4.heap.size ≤ D ∧ Below w4.heap.size w4 w6) (.read 0 (.read 1 (.read 2 (.read 3 (.read 4 (.read 5 (.read 6 (.read 7 (.read 8 (.read 9 (.two 10 (.read 11 (.read 12 (.read 13 (.read 14 (.one 15 (.one 16 (.read 17 (.read 18 .done)))))))) 15 (.one 10 (.read 11 (.read 12 (.read 13 (.read 14 (.one 16 (.read 17 (.read 18 .done))))))))))))))))))) (by kernel_rfl) (by kernel_rfl) x0 hx0 ?_
 apply Exists.intro
 refine ⟨?_, ?_⟩
 case' refine_1 =>
  rw [hx0, hw4]
  iterate 10 (refine walkP_read rfl (fun K hK => ?_); refine ⟨by rfl, ?_⟩; unfold isRd; go_simp; refine hK _ ?_; clear hK K)
  have HBs : Hid (Below w4.heap.size w4 w4) := Below.refl _ _
  refine ⟨?_, ?_⟩
  case refine_1 =>
   refine spec_step rfl (fun K hK => ?_)
   refine ⟨by rfl, ?_⟩
   unfold upM
   go_simp
   refine (HNB.out _ (HNB4.out _ HBs.out)).mono ?_
   rintro e wc ⟨rfl, hbc⟩
   have HBc := hide (HBs.out.trans (hbc.mono HBs.out.size))
   refine ⟨_, rfl, HMK.out _ HBc.out, hK _ _ ?_⟩
   clear hK K hbc
   iterate 4 (refine walkP_read rfl (fun K hK => ?_); refine ⟨by rfl, ?_⟩; unfold isRd; go_simp; refine hK _ ?_; clear hK K)
   refine spec_step rfl (fun K hK => ?_)
   refine ⟨by rfl, ?_⟩
   unfold upM
   go_simp
   obtain ⟨D, hD⟩ : ∃ D, wc.heap.size = D := ⟨_, rfl⟩
   obtain ⟨wz, hwz⟩ : ∃ wz, wc.alloc (.cells #[.int .i64 0, .int .i64 0] 69) = wz := ⟨_, rfl⟩
   rw [hD, hwz]
   have HBz : Hid (Below w4.heap.size w4 wz) := by show Below _ _ _; rw [← hwz]; exact HBc.out.alloc HBc.out.size _
   have HZ : Hid (wz.heap[D]? = some (.cells #[.int .i64 0, .int .i64 0] 69 (0, 0))) := by show _ = _; rw [← hwz, ← hD]; exact heap_alloc_new _ _
   have HLD : Hid (w4.heap.size ≤ D) := by have := HBc.out.size; show _ ≤ _; omega
   refine ⟨HMK.out _ HBz.out, hK _ _ ?_⟩
   clear hK K hwz hD
   have c0 : wz.cell? ⟨D, 0, none⟩ = some (.int .i64 0) := cof HZ.out rfl
   have c1 : wz.cell? ⟨D, 1, none⟩ = some (.int .i64 0) := cof HZ.out rfl
   have f0 : wz.frozen? ⟨D, 0, none⟩ = false := fof HZ.out
   have f1 : wz.frozen? ⟨D, 1, none⟩ = false := fof HZ.out
   have HX : Hid (((wz.setCell ⟨D, 0, none⟩ (.int .i64 nr)).setCell ⟨D, 1, none⟩ (.int .i64 nl)).heap[D]? = some (.cells #[.int .i64 nr, .int .i64 nl] 69 (0, 0))) := by
    have h0 : (wz.setCell ⟨D, 0, none⟩ (.int .i64 nr)).heap[D]? = some (.cells #[.int .i64 nr, .int .i64 0] 69 (0, 0)) := by
     rw [setCell_eq_setRow wz D 0 _ _ _ _ HZ.out]; exact setRow_heap wz D _ _ _ _ HZ.out
    show _ = _
    rw [setCell_eq_setRow _ D 1 _ _ _ _ h0]; exact setRow_heap _ D _ _ _ _ h0
   have HB6 : Hid (Below w4.heap.size w4 ((wz.setCell ⟨D, 0, none⟩ (.int .i64 nr)).setCell ⟨D, 1, none⟩ (.int .i64 nl))) := (HBz.out.setCell (p := ⟨D, 0, none⟩) HLD.out _).setCell (p := ⟨D, 1, none⟩) HLD.out _
   refine spec_step rfl (fun K hK => ?_)
   refine ⟨by rfl, ?_⟩
   unfold upM
   go_simp
   refine ⟨HMK.out _ HB6.out, hK _ _ ?_⟩
   clear hK K HZ c0 c1 f0 f1
   generalize (wz.setCell ⟨D, 0, none⟩ (.int .i64 nr)).setCell ⟨D, 1, none⟩ (.int .i64 nl) = w6 at *
   iterate 2 (refine walkP_read rfl (fun K hK => ?_); refine ⟨by rfl, ?_⟩; unfold isRd; go_simp; refine hK _ ?_; clear hK K)
   refine walkP_done ?_
   exact ⟨D, rfl, HX.out, HLD.out, HB6.out⟩
  case refine_2 =>
   refine spec_step rfl (fun K hK => ?_)
   refine ⟨by rfl, ?_⟩
   unfold upM
   go_simp
   obtain ⟨D, hD⟩ : ∃ D, w4.heap.size = D := ⟨_, rfl⟩
   obtain ⟨wy, hwz⟩ : ∃ wz, w4.alloc (.cells #[.int .i64 0, .int .i64 0] 69) = wz := ⟨_, rfl⟩
   rw [hD, hwz]
   have HBy : Hid (Below w4.heap.size w4 wy) := by show Below _ _ _; rw [← hwz]; exact HBs.out.alloc HBs.out.size _
   have HZy : Hid (wy.heap[D]? = some (.cells #[.int .i64 0, .int .i64 0] 69 (0, 0))) := by show _ = _; rw [← hwz, ← hD]; exact heap_alloc_new _ _
   have HLD : Hid (w4.heap.size ≤ D) := by have := HBs.out.size; show _ ≤ _; omega
   refine ⟨HMK.out _ HBy.out, hK _ _ ?_⟩
   clear hK K hwz hD
   refine spec_step rfl (fun K hK => ?_)
   refine ⟨by rfl, ?_⟩
   unfold upM
   go_simp
   refine (HNB.out _ (HNB4.out _ HBy.out)).mono ?_
   rintro e wz ⟨rfl, hbc⟩
   have HBz := hide (HBy.out.trans (hbc.mono HBy.out.size))
   have HZ : Hid (wz.heap[D]? = some (.cells #[.int .i64 0, .int .i64 0] 69 (0, 0))) := rof hbc HZy.out
   refine ⟨_, rfl, HMK.out _ HBz.out, hK _ _ ?_⟩
   clear hK K hbc
   iterate 4 (refine walkP_read rfl (fun K hK => ?_); refine ⟨by rfl, ?_⟩; unfold isRd; go_simp; refine hK _ ?_; clear hK K)
   have c0 : wz.cell? ⟨D, 0, none⟩ = some (.int .i64 0) := cof HZ.out rfl
   have c1 : wz.cell? ⟨D, 1, none⟩ = some (.int .i64 0) := cof HZ.out rfl
   have f0 : wz.frozen? ⟨D, 0, none⟩ = false := fof HZ.out
   have f1 : wz.frozen? ⟨D, 1, none⟩ = false := fof HZ.out
   have HX : Hid (((wz.setCell ⟨D, 0, none⟩ (.int .i64 nr)).setCell ⟨D, 1, none⟩ (.int .i64 nl)).heap[D]? = some (.cells #[.int .i64 nr, .int .i64 nl] 69 (0, 0))) := by
    have h0 : (wz.setCell ⟨D, 0, none⟩ (.int .i64 nr)).heap[D]? = some (.cells #[.int .i64 nr, .int .i64 0] 69 (0, 0)) := by
     rw [setCell_eq_setRow wz D 0 _ _ _ _ HZ.out]; exact setRow_heap wz D _ _ _ _ HZ.out
    show _ = _
    rw [setCell_eq_setRow _ D 1 _ _ _ _ h0]; exact setRow_heap _ D _ _ _ _ h0
   have HB6 : Hid (Below w4.heap.size w4 ((wz.setCell ⟨D, 0, none⟩ (.int .i64 nr)).setCell ⟨D, 1, none⟩ (.int .i64 nl))) := (HBz.out.setCell (p := ⟨D, 0, none⟩) HLD.out _).setCell (p := ⟨D, 1, none⟩) HLD.out _
   refine spec_step rfl (fun K hK => ?_)
   refine ⟨by rfl, ?_⟩
   unfold upM
   go_simp
   refine ⟨HMK.out _ HB6.out, hK _ _ ?_⟩
   clear hK K HZ c0 c1 f0 f1
   generalize (wz.setCell ⟨D, 0, none⟩ (.int .i64 nr)).setCell ⟨D, 1, none⟩ (.int .i64 nl) = w6 at *
   iterate 2 (refine walkP_read rfl (fun K hK => ?_); refine ⟨by rfl, ?_⟩; unfold isRd; go_simp; refine hK _ ?_; clear hK K)
   refine walkP_done ?_
   exact ⟨D, rfl, HX.out, HLD.out, HB6.out⟩
 intro D w6 ⟨hX6, hD6, hb6⟩
 have HX := hide hX6; have HDn := hide hD6
 have HF6 := hide (HF4.out.later hb6)
 have HS6 := hide (HS4.out.below hb6)
 have HLo6 := hide (HLo4.out.later hb6)
 have HR6 : Hid (w6.heap[R]? = some (.cells #[.int .i64 0, .int .i64 0, .bool false, .slice none 0 0] 50 (0, 0))) := rof hb6 HR4.out
 clear hX6 hD6 hb6 HF4 HS4 HLo4 HR4 HNB hw4
 clear hx0 en em ew eh HMK HNB4
 clear x0 hnx
 clear val
 clear XT
 obtain ⟨E, hE⟩ : ∃ E, w6.heap.size = E := ⟨_, rfl⟩
 obtain ⟨w7, hw7⟩ : ∃ w7, w6.alloc (.cells #[.int .i64 p, .int .i64 vol, .bool true, .slice none 0 0] 50) = w7 := ⟨_, rfl⟩
 have hb7 : Below w6.heap.size w6 w7 := by rw [← hw7]; exact bal
 have HE7 : Hid (w7.heap[E]? = some (.cells #[.int .i64 p, .int .i64 vol, .bool true, .slice none 0 0] 50 (0, 0))) := by show _ = _; rw [← hw7, ← hE]; exact heap_alloc_new _ _
 have HF7 := hide (HF6.out.later hb7)
 have HS7 := hide (HS6.out.below hb7)
 have HLo7 := hide (HLo6.out.later hb7)
 have HR7 : Hid (w7.heap[R]? = some (.cells #[.int .i64 0, .int .i64 0, .bool false, .slice none 0 0] 50 (0, 0))) := rof hb7 HR6.out
 have HX7 : Hid (w7.heap[D]? = some (.cells #[.int .i64 nr, .int .i64 nl] 69 (0, 0))) := rof hb7 HX.out
 have HRE : Hid (R ≠ E) := fun e => by have := lt_of_block HR6.out; omega
 have HWE : Hid (W.heap.size ≤ E) := by have := HS6.out.size; show _ ≤ _; omega
 have HFL := hide (fills_row (.slice sa sm sc) (L i) p vol s 252 (ev 1) (ev 2) (ev 6) (ev 7) w7 HLo7.out (HF7.out.er he.out).er (HF7.out.er he.out).c2 HFine.out hs.out)
 rw [HFF.out] at HFL
 have HW7 := hide hw7; have HEe := hide hE
 clear hb7 hw7 hE HF6 HS6 HLo6 HR6 HX HLo7
 go_wp2_with fail
 rw [HW7.out, HEe.out]
 refine HFL.out.mono ?_
 rintro e w8 ⟨vF, rfl, hr8, hb8⟩
 have HF8 := hide (HF7.out.later hb8)
 have HS8 := hide (HS7.out.below hb8)
 have HR8 : Hid (w8.heap[R]? = some (.cells #[.int .i64 0, .int .i64 0, .bool false, .slice none 0 0] 50 (0, 0))) := rof hb8 HR7.out
 have HX8 : Hid (w8.heap[D]? = some (.cells #[.int .i64 nr, .int .i64 nl] 69 (0, 0))) := rof hb8 HX7.out
 have HE8 : Hid (w8.heap[E]? = some (.cells #[.int .i64 p, .int .i64 vol, .bool true, .slice none 0 0] 50 (0, 0))) := rof hb8 HE7.out
 have HRow8 := hide hr8
 clear hr8 hb8 HF7 HS7 HR7 HX7 HE7 HFL HW7
 obtain ⟨aF, cF, hvF⟩ := HRow8.out.val
 obtain ⟨mF, hmF⟩ : ∃ mF, FF.length = mF := ⟨_, rfl⟩
 rw [hmF] at hvF
 subst hvF
 clear hmF
 have e3 : w8.cell? ⟨E, 3, none⟩ = some (.slice none 0 0) := cof HE8.out rfl
 have g3 : w8.frozen? ⟨E, 3, none⟩ = false := fof HE8.out
 obtain ⟨w9, hw9⟩ : ∃ w9, w8.setCell ⟨E, 3, none⟩ (.slice aF mF cF) = w9 := ⟨_, rfl⟩
 have hs9 : Save w8 w9 E := by rw [← hw9]; exact Save.setCell _ _ _ _
 have HE9 : Hid (w9.heap[E]? = some (.cells #[.int .i64 p, .int .i64 vol, .bool true, .slice aF mF cF] 50 (0, 0))) := by show _ = _; rw [← hw9, setCell_eq_setRow _ E 3 _ _ _ _ HE8.out]; exact setRow_heap _ E _ _ _ _ HE8.out
 have HF9 := hide (HF8.out.aside (blkT HE8.out HF8.out.blk (by decide)) (blkT HE8.out HF8.out.pu (by decide)) (fun j hj => ⟨blkT HE8.out (HF8.out.it j hj) (by decide), blkT HE8.out (HF8.out.bk j hj).cell (by decide), rowT (HF8.out.bk j hj).row HE8.out (by decide)⟩) (Nat.le_trans hF.out.bl.size HWE.out) hs9)
 have HS9 := hide (HS8.out.newer hs9 HWE.out)
 have HR9 : Hid (w9.heap[R]? = some (.cells #[.int .i64 0, .int .i64 0, .bool false, .slice none 0 0] 50 (0, 0))) := by show _ = _; rw [hs9.block _ (lt_of_block HR8.out) HRE.out]; exact HR8.out
 have HX9 : Hid (w9.heap[D]? = some (.cells #[.int .i64 nr, .int .i64 nl] 69 (0, 0))) := by show _ = _; rw [hs9.block _ (lt_of_block HX8.out) (blkT HX8.out HE8.out (by decide))]; exact HX8.out
 have HRow9 := hide (HRow8.out.save hs9 HE8.out (by decide))
 have e33 : w9.cell? ⟨E, 3, none⟩ = some (.slice aF mF cF) := cof HE9.out rfl
 have HW9 := hide hw9
 have HST := hide (settle_any i hi p (.slice aF mF cF) FF HF9.out he hok HFil.out HPp.out.1 HPp.out.2 HRow9.out HLen.out HNil.out)
 have HE33 := hide e33
 clear hs9 hw9 HF8 HS8 HR8 HX8 HE8 HRow8 e33
 simp only []
 go_wp2_with fail
 rw [HW9.out]
 have e33 := HE33.out
 go_wp2_with fail
 refine HST.out.mono ?_
 rintro e wt ⟨rfl, v10, hf10, hs10, hr10, hok10⟩
 have keepB : ∀ {q : Nat} {a : Array Value} {T : TypeId}, w9.heap[q]? = some (.cells a T (0, 0)) → T ≠ 56 → T ≠ 105 → T ≠ 94 → T ≠ 103 → wt.heap[q]? = some (.cells a T (0, 0)) := fun {q a T} hq h1 h2 h3 h4 => by
  rw [hs10.keep q (lt_of_block hq) (blkT hq HF9.out.pu h2) (fun j hj => ⟨blkT hq (HF9.out.it j hj) h3, blkT hq (HF9.out.bk j hj).cell h4, rowT (HF9.out.bk j hj).row hq h1⟩)]
  exact hq
 have HEt : Hid (wt.heap[E]? = some (.cells #[.int .i64 p, .int .i64 vol, .bool true, .slice aF mF cF] 50 (0, 0))) := keepB HE9.out (by decide) (by decide) (by decide) (by decide)
 have HRt : Hid (wt.heap[R]? = some (.cells #[.int .i64 0, .int .i64 0, .bool false, .slice none 0 0] 50 (0, 0))) := keepB HR9.out (by decide) (by decide) (by decide) (by decide)
 have HXt : Hid (wt.heap[D]? = some (.cells #[.int .i64 nr, .int .i64 nl] 69 (0, 0))) := keepB HX9.out (by decide) (by decide) (by decide) (by decide)
 have HFt := hide hf10; have HSt := hide (HS9.out.trans hs10); have HRowt := hide hr10; have HOKt := hide hok10
 clear keepB hf10 hs10 hr10 hok10 HE9 HR9 HX9 HF9 HS9 HRow9 HST HW9 HE33
 try clear e3 g3
 try clear e33
 have HFi := hide (HFt.out.it i hi)
 have d0 : wt.cell? ⟨D, 0, none⟩ = some (.int .i64 nr) := cof HXt.out rfl
 have d1 : wt.cell? ⟨D, 1, none⟩ = some (.int .i64 nl) := cof HXt.out rfl
 have i1 : wt.cell? ⟨I i, 1, none⟩ = some (.int .i64 (n (i * 2))) := cof HFi.out rfl
 have i2 : wt.cell? ⟨I i, 2, none⟩ = some (.int .i64 (n (i * 2 + 1))) := cof HFi.out rfl
 have j1 : wt.frozen? ⟨I i, 1, none⟩ = false := fof HFi.out
 have j2 : wt.frozen? ⟨I i, 2, none⟩ = false := fof HFi.out
 have r0 : wt.cell? ⟨R, 0, none⟩ = some (.int .i64 0) := cof HRt.out rfl
 have r1 : wt.cell? ⟨R, 1, none⟩ = some (.int .i64 0) := cof HRt.out rfl
 have r2 : wt.cell? ⟨R, 2, none⟩ = some (.bool false) := cof HRt.out rfl
 have r3 : wt.cell? ⟨R, 3, none⟩ = some (.slice none 0 0) := cof HRt.out rfl
 have q0 : wt.frozen? ⟨R, 0, none⟩ = false := fof HRt.out
 have q1 : wt.frozen? ⟨R, 1, none⟩ = false := fof HRt.out
 have q2 : wt.frozen? ⟨R, 2, none⟩ = false := fof HRt.out
 have q3 : wt.frozen? ⟨R, 3, none⟩ = false := fof HRt.out
 have hRl : R < wt.heap.size := lt_of_block HRt.out
 have hIl : I i < wt.heap.size := lt_of_block HFi.out
 have hDl : D < wt.heap.size := lt_of_block HXt.out
 have hRn : ¬ R = wt.heap.size := by omega
 have hIn : ¬ I i = wt.heap.size := by omega
 have hDn : ¬ D = wt.heap.size := by omega
 have hRI : R ≠ I i := blkT HRt.out HFi.out (by decide)
 have hIR : I i ≠ R := Ne.symm hRI
 have hDI : D ≠ I i := blkT HXt.out HFi.out (by decide)
 have hDR : D ≠ R := blkT HXt.out HRt.out (by decide)
 have e0 : wt.cell? ⟨E, 0, none⟩ = some (.int .i64 p) := cof HEt.out rfl
 have e1 : wt.cell? ⟨E, 1, none⟩ = some (.int .i64 vol) := cof HEt.out rfl
 have e2 : wt.cell? ⟨E, 2, none⟩ = some (.bool true) := cof HEt.out rfl
 have e3 : wt.cell? ⟨E, 3, none⟩ = some (.slice aF mF cF) := cof HEt.out rfl
 have hEI : E ≠ I i := blkT HEt.out HFi.out (by decide)
 have hER : E ≠ R := Ne.symm HRE.out
 have HIT : Hid (((wt.setCell ⟨I i, 1, none⟩ (.int .i64 nr)).setCell ⟨I i, 2, none⟩ (.int .i64 nl)).heap[I i]? = some (.cells (itemA (b i) nr nl) 94 (0, 0))) := by
  have h0 : (wt.setCell ⟨I i, 1, none⟩ (.int .i64 nr)).heap[I i]? = some (.cells #[.pointer (some ⟨b i, 0, none⟩), .int .i64 nr, .int .i64 (n (i * 2 + 1))] 94 (0, 0)) := by
   rw [setCell_eq_setRow wt (I i) 1 _ _ _ _ HFi.out]; exact setRow_heap wt (I i) _ _ _ _ HFi.out
  show _ = _
  rw [setCell_eq_setRow _ (I i) 2 _ _ _ _ h0]; exact setRow_heap _ (I i) _ _ _ _ h0
 have HFb := hide (HFt.out.band hi HIT.out ((Save.setCell _ _ _ _).put _ _))
 have HSb := hide (HSt.out.trans (FStep.of_item hi ((Save.setCell wt (I i) 1 (.int .i64 nr)).put 2 (.int .i64 nl)) P b v10))
 have HRb : Hid (((wt.setCell ⟨I i, 1, none⟩ (.int .i64 nr)).setCell ⟨I i, 2, none⟩ (.int .i64 nl)).heap[R]? = some (.cells #[.int .i64 0, .int .i64 0, .bool false, .slice none 0 0] 50 (0, 0))) := by
  show _ = _
  rw [((Save.setCell wt (I i) 1 (.int .i64 nr)).put 2 (.int .i64 nl)).block R hRl hRI]; exact HRt.out
 have HRowb := hide (HRowt.out.save ((Save.setCell wt (I i) 1 (.int .i64 nr)).put 2 (.int .i64 nl)) HFi.out (by decide))
 have HLR : Hid (w.heap.size ≤ R) := by have := hF.out.bl.size; have := HRe.out; show _ ≤ _; omega
 generalize hWb : (wt.setCell ⟨I i, 1, none⟩ (.int .i64 nr)).setCell ⟨I i, 2, none⟩ (.int .i64 nl) = wb at *
 have HWb := hide hWb
 clear hWb HFt HSt HRowt HEt HXt HRt HIT HFi
 have HSR : Hid (Save wb ((((wb.setCell ⟨R, 0, none⟩ (.int .i64 p)).setCell ⟨R, 1, none⟩ (.int .i64 vol)).setCell ⟨R, 2, none⟩ (.bool true)).setCell ⟨R, 3, none⟩ (.slice aF mF cF)) R) := (((Save.setCell _ R 0 (.int .i64 p)).put 1 (.int .i64 vol)).put 2 (.bool true)).put 3 (.slice aF mF cF)
 have HFz := hide (HFb.out.aside (blkT HRb.out HFb.out.blk (by decide)) (blkT HRb.out HFb.out.pu (by decide)) (fun j hj => ⟨blkT HRb.out (HFb.out.it j hj) (by decide), blkT HRb.out (HFb.out.bk j hj).cell (by decide), rowT (HFb.out.bk j hj).row HRb.out (by decide)⟩) HLR.out HSR.out)
 have HSz := hide (HSb.out.newer HSR.out (by rw [HRe.out]; exact Nat.le_refl _))
 have HRowz := hide (HRowb.out.save HSR.out HRb.out (by decide))
 have HRz : Hid (((((wb.setCell ⟨R, 0, none⟩ (.int .i64 p)).setCell ⟨R, 1, none⟩ (.int .i64 vol)).setCell ⟨R, 2, none⟩ (.bool true)).setCell ⟨R, 3, none⟩ (.slice aF mF cF)).heap[R]? = some (.cells #[.int .i64 p, .int .i64 vol, .bool true, .slice aF mF cF] 50 (0, 0))) := set4_row HRb.out p vol true _
 simp only []
 go_wp2
 rw [HWb.out]
 generalize ((((wb.setCell ⟨R, 0, none⟩ (.int .i64 p)).setCell ⟨R, 1, none⟩ (.int .i64 vol)).setCell ⟨R, 2, none⟩ (.bool true)).setCell ⟨R, 3, none⟩ (.slice aF mF cF)) = Wf at *
 have z0 : Wf.cell? ⟨R, 0, none⟩ = some (.int .i64 p) := cof HRz.out rfl
 have z1 : Wf.cell? ⟨R, 1, none⟩ = some (.int .i64 vol) := cof HRz.out rfl
 have z2 : Wf.cell? ⟨R, 2, none⟩ = some (.bool true) := cof HRz.out rfl
 have z3 : Wf.cell? ⟨R, 3, none⟩ = some (.slice aF mF cF) := cof HRz.out rfl
 exact bodyPost_ret (v := .tuple #[.agg #[.int .i64 p, .int .i64 vol, .bool true, .slice aF mF cF], .nilIface]) (by simp [results, Tryz.results17, go_sem, z0, z1, z2, z3]) rfl ⟨_, _, rfl, HFz.out, HSz.out, HRowz.out, HOKt.out⟩
end
structure FAll (L : Nat → List Cv.Lot) (pf n : Nat → Int) (wd h : Int) : Prop where
 ok : Fs.FOk L pf
 band : ∀ i, i < 3 → Bd.bOk (n (i * 2)) (n (i * 2 + 1)) = true
 rule : Bd.rOk wd h = true
namespace Fl
def runL (L : Nat → List Cv.Lot) (i : Nat) (FF : List (Int × Int)) : Nat → List Cv.Lot := upd L i (Fs.restL FF (L i))
def runN (n : Nat → Int) (i : Nat) (wd h p vol : Int) : Nat → Int := upd (upd n (i * 2) (Bd.nR (n (i * 2)) (n (i * 2 + 1)) wd p vol)) (i * 2 + 1) (Bd.nL (n (i * 2)) (n (i * 2 + 1)) wd h p vol)
def runO (n : Nat → Int) (i : Nat) (wd p vol : Int) : Bool := Bd.nO (n (i * 2)) (n (i * 2 + 1)) wd p vol
end Fl
theorem next_band {r l wd h p v : Int} (hb : Bd.bOk r l = true) (hr : Bd.rOk wd h = true) (hp : 0 < v → 1 ≤ p ∧ p ≤ 1000) : Bd.bOk (Bd.nR r l wd p v) (Bd.nL r l wd h p v) = true := by
 simp only [Bd.bOk, Bd.rOk, Wi.withinB, Bool.and_eq_true, decide_eq_true_eq] at *
 unfold Bd.nR Bd.nL
 by_cases h1 : 0 < l
 ·rw [if_pos h1, if_pos h1]
  split
  ·have := hp (by omega); omega
  ·omega
 ·rw [if_neg h1, if_neg h1]
  by_cases h2 : 0 < v
  ·have := hp h2
   cases Bd.inB wd r p <;> simp [h2] <;> omega
  ·simp [h2]; omega
theorem FAll.run {L : Nat → List Cv.Lot} {pf n : Nat → Int} {wd h : Int} (H : FAll L pf n wd h) {i : Nat} (hi : i < 3) {p vol : Int} (hw : Cv.Won (L i) (n (i * 2)) 1000 p vol) {L' : Nat → List Cv.Lot} {pf' : Nat → Int} (ho : Fs.FOk L' pf') : FAll L' pf' (Fl.runN n i wd h p vol) wd h := by
 refine ⟨ho, fun j hj => ?_, H.rule⟩
 unfold Fl.runN
 by_cases e : j = i
 ·subst e
  rw [upd_same, upd_ne _ _ (by omega), upd_same]

  refine next_band (H.band j hj) H.rule (fun hv => ?_)
  rcases hw with ⟨_, e2, _⟩ | ⟨_, e2, e3, _⟩
  ·omega
  ·exact ⟨e2, e3⟩
 ·rw [upd_ne _ _ (by omega), upd_ne _ _ (by omega), upd_ne _ _ (by omega), upd_ne _ _ (by omega)]
  exact H.band j hj
section
variable {w W : World} {F P : Nat} {I b : Nat → Nat} {v : Nat → Value} {L : Nat → List Cv.Lot} {pf n : Nat → Int} {wd h : Int} {ev : Nat → Value}
theorem run_any (i : Nat) (hi : i < 3) (s p vol : Int) (hs : Ra.IsU s) (hF : PFl w W F P I b v L pf n wd h) (he : AEr w ev) (H : FAll L pf n wd h) (hwon : Cv.Won (L i) (n (i * 2)) 1000 p vol) :
  Calls Tryz.prog 17 #[.pointer (some ⟨F, 0, none⟩), .int .i64 i, .int .u32 s] W fun e W' => ∃ vF v', e = .returned (.tuple #[resV p vol (Fl.runO n i wd p vol) vF, .nilIface]) ∧
   PFl w W' F P I b v' (Fl.runL L i (Fl.runF s (L i) (Fl.runO n i wd p vol) p vol)) (Fs.sett pf i p (L i) (Fl.runF s (L i) (Fl.runO n i wd p vol) p vol)) (Fl.runN n i wd h p vol) wd h ∧ FStep W W' P I b v v' ∧
   FRow W' vF (Fl.runF s (L i) (Fl.runO n i wd p vol) p vol) ∧ FAll (Fl.runL L i (Fl.runF s (L i) (Fl.runO n i wd p vol) p vol)) (Fs.sett pf i p (L i) (Fl.runF s (L i) (Fl.runO n i wd p vol) p vol)) (Fl.runN n i wd h p vol) wd h := by
 have hv0 := (hwon.range (by decide)).2.2
 by_cases hc : Fl.runO n i wd p vol = true ∧ 0 < vol
 ·have e : Fl.runF s (L i) (Fl.runO n i wd p vol) p vol = Ra.fills s (L i) p vol := by unfold Fl.runF; rw [if_pos hc]
  rw [e, hc.1]
  refine (run_open i hi s p vol hs hF he H.ok (H.band i hi) H.rule hwon hc.1 hc.2).mono ?_
  rintro e W' ⟨vF, v', rfl, h1, h2, h3, h4⟩
  exact ⟨vF, v', rfl, h1, h2, h3, H.run hi hwon h4⟩
 ·have e : Fl.runF s (L i) (Fl.runO n i wd p vol) p vol = [] := by unfold Fl.runF; rw [if_neg hc]
  have hst : Bd.nO (n (i * 2)) (n (i * 2 + 1)) wd p vol = false ∨ vol = 0 := by
   cases ho : Bd.nO (n (i * 2)) (n (i * 2 + 1)) wd p vol with
   | false => exact .inl rfl
   | true => exact .inr (by have : ¬ 0 < vol := fun hv => hc ⟨ho, hv⟩; omega)
  have e2 : Fl.runL L i [] = L := by unfold Fl.runL; rw [Fs.rest_nil (H.ok.bk i hi).oks, upd_self]
  rw [e, e2, Fs.sett_nil]
  refine (run_still i hi s p vol hF he H.ok (H.band i hi) H.rule hwon hst).mono ?_
  rintro e W' ⟨rfl, h1, h2⟩
  exact ⟨_, v, rfl, h1, h2, .inl ⟨rfl, none, 0, rfl⟩, H.run hi hwon H.ok⟩
end
section
variable {w W : World} {F P : Nat} {I b : Nat → Nat} {v : Nat → Value} {L : Nat → List Cv.Lot} {pf n : Nat → Int} {wd h : Int} {ev : Nat → Value}
set_option maxHeartbeats 1000000 in
theorem run_out (k s : Int) (hF : Hid (PFl w W F P I b v L pf n wd h)) (he : Hid (AEr w ev)) (hk : Wi.withinB k 0 2 = false) :
  Calls Tryz.prog 17 #[.pointer (some ⟨F, 0, none⟩), .int .i64 k, .int .u32 s] W fun e W' => e = .returned (.tuple #[resV 0 0 false (.slice none 0 0), .iface 252 (ev 1)]) ∧ Below W.heap.size W W' := by
 obtain ⟨R, hR⟩ : ∃ R, W.heap.size = R := ⟨_, rfl⟩
 obtain ⟨w1, hw1⟩ : ∃ w1, W.alloc (.cells #[.int .i64 0, .int .i64 0, .bool false, .slice none 0 0] 50) = w1 := ⟨_, rfl⟩
 have hb1 : Below W.heap.size W w1 := by rw [← hw1]; exact bal
 have HR1 : Hid (w1.heap[R]? = some (.cells #[.int .i64 0, .int .i64 0, .bool false, .slice none 0 0] 50 (0, 0))) := by show _ = _; rw [← hw1, ← hR]; exact heap_alloc_new _ _
 have HF1 := hide (hF.out.later hb1)
 have HFI := hide (find_out k HF1.out hk)
 have HB1 := hide hb1
 have HW1 := hide hw1; have HRe := hide hR
 clear hb1 hw1 hR
 go_enter Tryz.func17, Tryz.ntmps17
 go_wp2_with fail
 rw [HW1.out, HRe.out]
 refine HFI.out.mono ?_
 rintro e w1 ⟨rfl, rfl⟩
 have g1 := (HF1.out.er he.out).c1
 have h1R : ¬ (0 = R) := fun e => by have := World.block_lt_of_cell? _ _ (hF.out.er he.out).c1; have := HRe.out; simp at *; omega
 have hR1 : ¬ (R = 0) := fun e => h1R e.symm
 have r0 : w1.cell? ⟨R, 0, none⟩ = some (.int .i64 0) := cof HR1.out rfl
 have r1 : w1.cell? ⟨R, 1, none⟩ = some (.int .i64 0) := cof HR1.out rfl
 have r2 : w1.cell? ⟨R, 2, none⟩ = some (.bool false) := cof HR1.out rfl
 have r3 : w1.cell? ⟨R, 3, none⟩ = some (.slice none 0 0) := cof HR1.out rfl
 have q0 : w1.frozen? ⟨R, 0, none⟩ = false := fof HR1.out
 have q1 : w1.frozen? ⟨R, 1, none⟩ = false := fof HR1.out
 have q2 : w1.frozen? ⟨R, 2, none⟩ = false := fof HR1.out
 have q3 : w1.frozen? ⟨R, 3, none⟩ = false := fof HR1.out
 simp only []
 go_wp2
 go_region
 go_wp2
 have hz := set4_row HR1.out 0 0 false (.slice none 0 0)
 have hsv : Save w1 ((((w1.setCell ⟨R, 0, none⟩ (.int .i64 0)).setCell ⟨R, 1, none⟩ (.int .i64 0)).setCell ⟨R, 2, none⟩ (.bool false)).setCell ⟨R, 3, none⟩ (.slice none 0 0)) R := (((Save.setCell _ R 0 (.int .i64 0)).put 1 (.int .i64 0)).put 2 (.bool false)).put 3 (.slice none 0 0)
 have hb9 : Below W.heap.size W ((((w1.setCell ⟨R, 0, none⟩ (.int .i64 0)).setCell ⟨R, 1, none⟩ (.int .i64 0)).setCell ⟨R, 2, none⟩ (.bool false)).setCell ⟨R, 3, none⟩ (.slice none 0 0)) := HB1.out.trans (hsv.below HB1.out.size (by rw [HRe.out]; exact Nat.le_refl _))
 have hb10 : Below W.heap.size W ((((w1.setCell ⟨R, 0, none⟩ (.int .i64 0)).setCell ⟨R, 1, none⟩ (.int .i64 0)).setCell ⟨R, 2, none⟩ (.bool false)).setCell ⟨R, 3, none⟩ (.slice none 0 0)).drew := hb9.trans ⟨rfl, rfl, rfl, Nat.le_refl _, fun _ _ => rfl⟩
 have hz10 : ((((w1.setCell ⟨R, 0, none⟩ (.int .i64 0)).setCell ⟨R, 1, none⟩ (.int .i64 0)).setCell ⟨R, 2, none⟩ (.bool false)).setCell ⟨R, 3, none⟩ (.slice none 0 0)).drew.heap[R]? = some (.cells #[.int .i64 0, .int .i64 0, .bool false, .slice none 0 0] 50 (0, 0)) := hz
 clear hz hsv hb9
 generalize ((((w1.setCell ⟨R, 0, none⟩ (.int .i64 0)).setCell ⟨R, 1, none⟩ (.int .i64 0)).setCell ⟨R, 2, none⟩ (.bool false)).setCell ⟨R, 3, none⟩ (.slice none 0 0)).drew = Wf at *
 have z0 : Wf.cell? ⟨R, 0, none⟩ = some (.int .i64 0) := cof hz10 rfl
 have z1 : Wf.cell? ⟨R, 1, none⟩ = some (.int .i64 0) := cof hz10 rfl
 have z2 : Wf.cell? ⟨R, 2, none⟩ = some (.bool false) := cof hz10 rfl
 have z3 : Wf.cell? ⟨R, 3, none⟩ = some (.slice none 0 0) := cof hz10 rfl
 exact bodyPost_ret (v := .tuple #[.agg #[.int .i64 0, .int .i64 0, .bool false, .slice none 0 0], .iface 252 (ev 1)]) (by simp [results, Tryz.results17, go_sem, z0, z1, z2, z3]) rfl ⟨rfl, hb10⟩
end
end Go.Proofs.YtdggddjgipgllaaGreatDoor
namespace Go.Proofs.YtdggddjgipgllaaGreatDoor
namespace Fl
open Cv Bk Ra Pu Fu Fs

structure Fits (cash stock : Int) : Prop where
 c0 : 0 ≤ cash
 c1 : cash ≤ 1073741824
 s0 : 0 ≤ stock
 s1 : stock ≤ 100000
theorem gift_high {cash stock : Int} : ∀ k j, k * 8 ≤ j → gift cash stock k j = 0
 | 0, _, _ => rfl
 | k + 1, j, h => by
  have ih := gift_high (cash := cash) (stock := stock) k j (by omega)
  show giveF _ _ j = 0
  unfold giveF
  split
  ·rw [add_ne _ _ (by show j ≠ (k : Int).toNat * 8 + 4; omega), add_ne _ _ (by show j ≠ (k : Int).toNat * 8 + 3; omega), add_ne _ _ (by show j ≠ (k : Int).toNat * 8 + 2; omega), add_ne _ _ (by show j ≠ (k : Int).toNat * 8; omega), ih]
  ·exact ih
theorem gift_zero {cash stock : Int} (h : Fits cash stock) (k : Nat) (hk : k < 6) : giveC (gift cash stock k) ⟨k, cash, stock, stock, stock⟩ = 0 := by
 have e0 := gift_high (cash := cash) (stock := stock) k (k * 8) (Nat.le_refl _)
 have e2 := gift_high (cash := cash) (stock := stock) k (k * 8 + 2) (by omega)
 have e3 := gift_high (cash := cash) (stock := stock) k (k * 8 + 3) (by omega)
 have e4 := gift_high (cash := cash) (stock := stock) k (k * 8 + 4) (by omega)
 have hc0 := h.c0; have hc1 := h.c1; have hs0 := h.s0; have hs1 := h.s1
 unfold giveC
 rw [if_pos, if_neg]
 ·simp only [Gift.over, Int.toNat_natCast, e0, e2, e3, e4]
  simp
  omega
 ·simp only [Gift.fine, Gift.neg, Wi.withinB]
  simp
  omega
theorem gift_held {cash stock : Int} : ∀ k j, IsHeld j → gift cash stock k j = 0
 | 0, _, _ => rfl
 | k + 1, j, h => by
  have ih := gift_held (cash := cash) (stock := stock) k j h
  obtain ⟨c, hc, hcj⟩ := h
  show giveF _ _ j = 0
  unfold giveF
  split
  ·rw [add_ne _ _ (by show j ≠ (k : Int).toNat * 8 + 4; rcases hcj with e | ⟨m, hm, e⟩ <;> omega), add_ne _ _ (by show j ≠ (k : Int).toNat * 8 + 3; rcases hcj with e | ⟨m, hm, e⟩ <;> omega), add_ne _ _ (by show j ≠ (k : Int).toNat * 8 + 2; rcases hcj with e | ⟨m, hm, e⟩ <;> omega), add_ne _ _ (by show j ≠ (k : Int).toNat * 8; rcases hcj with e | ⟨m, hm, e⟩ <;> omega), ih]
  ·exact ih
theorem gift_sums {cash stock : Int} (h : Fits cash stock) : ∀ k, k ≤ 6 → cashes (gift cash stock k) 6 = k * cash ∧ ∀ j, j < 3 → stocks (gift cash stock k) j 6 = k * stock
 | 0, _ => ⟨by simp [gift, cashes], fun j _ => by simp [gift, stocks]⟩
 | k + 1, hk => by
  obtain ⟨h1, h2⟩ := gift_sums h k (by omega)
  obtain ⟨g1, g2⟩ := give_sums (gift_zero h k (by omega))
  have ec : ((k + 1 : Nat) : Int) * cash = k * cash + cash := by rw [show ((k + 1 : Nat) : Int) = (k : Int) + 1 by omega, Int.add_mul, Int.one_mul]
  have es : ((k + 1 : Nat) : Int) * stock = k * stock + stock := by rw [show ((k + 1 : Nat) : Int) = (k : Int) + 1 by omega, Int.add_mul, Int.one_mul]
  refine ⟨by show cashes (giveF _ _) 6 = _; rw [g1, h1, ec], fun j hj => ?_⟩
  show stocks (giveF _ _) j 6 = _
  rw [g2 j hj, h2 j hj, es]
  have : j = 0 ∨ j = 1 ∨ j = 2 := by omega
  rcases this with rfl | rfl | rfl <;> rfl
theorem new_all {wd h ref cash stock : Int} (hr : Bd.rOk wd h = true) (hf : Wi.withinB ref 1 1000 = true) (H : Fits cash stock) : FAll (fun _ => []) (gift cash stock 6) (bands ref) wd h := by
 obtain ⟨g1, g2⟩ := gift_sums H 6 (Nat.le_refl _)
 have hc1 := H.c1; have hs1 := H.s1
 refine ⟨⟨fun _ _ => Bk.good_nil, good_gift cash stock 6, held_start _ fun j hj => gift_held 6 j hj, by rw [g1]; omega, fun k hk => by rw [g2 k hk]; omega⟩, fun i hi => ?_, hr⟩
 unfold Bd.bOk bands
 rw [if_pos (by omega), if_neg (by omega), hf]
 rfl
end Fl
end Go.Proofs.YtdggddjgipgllaaGreatDoor
namespace Go.Proofs.YtdggddjgipgllaaGreatDoor
open Go.RowKit
set_option maxRecDepth 100000
section
variable {ev : Nat → Value}
set_option maxHeartbeats 1000000 in
theorem new_bad (wd h ref cash stock : Int) (w : World) (he : Hid (AEr w ev)) (hbad : (Bd.rOk wd h && (Wi.withinB ref 1 1000 && (Wi.withinB cash 0 1073741824 && Wi.withinB stock 0 100000))) = false) :
  Calls Tryz.prog 9 #[bandV wd h, .int .i64 ref, .int .i64 cash, .int .i64 stock] w fun e w' => e = .returned (.tuple #[.pointer none, .iface 252 (ev 1)]) ∧ Below w.heap.size w w' := by
 have hb0 : Below w.heap.size w (w.alloc (.cells #[.int .i64 wd, .int .i64 h] 31)) := bal
 have HCK := hide (rcheck_any wd h 252 (ev 1) (w.alloc (.cells #[.int .i64 wd, .int .i64 h] 31)) (he.out.below hb0).ber)
 have HB0 := hide hb0
 clear hb0
 unfold bandV at HCK ⊢
 cases hr : Bd.rOk wd h with
 | false =>
  rw [hr, show okE 252 (ev 1) false = .iface 252 (ev 1) from rfl] at HCK
  go_enter Tryz.func9, Tryz.ntmps9
  go_wp2_with fail
  refine HCK.out.mono ?_
  rintro e w2 ⟨rfl, hb2⟩
  have HB2 := hide (HB0.out.trans (hb2.mono HB0.out.size))
  clear hb2
  simp only []
  go_wp2
  go_ret2
  exact ⟨rfl, HB2.out⟩
 | true =>
  rw [hr, show okE 252 (ev 1) true = .nilIface from rfl] at HCK
  rw [hr, Bool.true_and] at hbad
  have HW1 := hide (fun W => within_any ref 1 1000 W)
  have HW2 := hide (fun W => within_any cash 0 1073741824 W)
  have HW3 := hide (fun W => within_any stock 0 100000 W)
  have hthree : Wi.withinB ref 1 1000 = false ∨ (Wi.withinB ref 1 1000 = true ∧ Wi.withinB cash 0 1073741824 = false) ∨ (Wi.withinB ref 1 1000 = true ∧ Wi.withinB cash 0 1073741824 = true ∧ Wi.withinB stock 0 100000 = false) := by
   cases h1 : Wi.withinB ref 1 1000 <;> cases h2 : Wi.withinB cash 0 1073741824 <;> cases h3 : Wi.withinB stock 0 100000 <;> simp_all
  rcases hthree with h1 | ⟨h1, h2⟩ | ⟨h1, h2, h3⟩
  ·rw [h1] at HW1
   go_enter Tryz.func9, Tryz.ntmps9
   go_wp2_with fail
   refine HCK.out.mono ?_
   rintro e w2 ⟨rfl, hb2⟩
   have HB2 := hide (HB0.out.trans (hb2.mono HB0.out.size))
   have c1 := (he.out.below HB2.out).c1
   clear hb2
   simp only []
   go_wp2_with fail
   refine (HW1.out _).mono ?_
   rintro e w2 ⟨rfl, rfl⟩
   simp only []
   go_wp2_with fail
   go_quiet (fail)
   have HB3 := hide (HB2.out.trans ((blw_drew nq : Below w2.heap.size w2 (w2.drewN nq)).mono HB2.out.size))
   go_wp2
   go_ret2
   exact ⟨rfl, HB3.out⟩
  ·rw [h1] at HW1; rw [h2] at HW2
   go_enter Tryz.func9, Tryz.ntmps9
   go_wp2_with fail
   refine HCK.out.mono ?_
   rintro e w2 ⟨rfl, hb2⟩
   have HB2 := hide (HB0.out.trans (hb2.mono HB0.out.size))
   have c1 := (he.out.below HB2.out).c1
   clear hb2
   simp only []
   go_wp2_with fail
   refine (HW1.out _).mono ?_
   rintro e w2 ⟨rfl, rfl⟩
   simp only []
   go_wp2_with fail
   refine (HW2.out _).mono ?_
   rintro e w2 ⟨rfl, rfl⟩
   simp only []
   go_wp2_with fail
   go_quiet (fail)
   have HB3 := hide (HB2.out.trans ((blw_drew nq : Below w2.heap.size w2 (w2.drewN nq)).mono HB2.out.size))
   go_wp2
   go_ret2
   exact ⟨rfl, HB3.out⟩
  ·rw [h1] at HW1; rw [h2] at HW2; rw [h3] at HW3
   go_enter Tryz.func9, Tryz.ntmps9
   go_wp2_with fail
   refine HCK.out.mono ?_
   rintro e w2 ⟨rfl, hb2⟩
   have HB2 := hide (HB0.out.trans (hb2.mono HB0.out.size))
   have c1 := (he.out.below HB2.out).c1
   clear hb2
   simp only []
   go_wp2_with fail
   refine (HW1.out _).mono ?_
   rintro e w2 ⟨rfl, rfl⟩
   simp only []
   go_wp2_with fail
   refine (HW2.out _).mono ?_
   rintro e w2 ⟨rfl, rfl⟩
   simp only []
   go_wp2_with fail
   refine (HW3.out _).mono ?_
   rintro e w2 ⟨rfl, rfl⟩
   simp only []
   go_wp2_with fail
   go_quiet (fail)
   have HB3 := hide (HB2.out.trans ((blw_drew nq : Below w2.heap.size w2 (w2.drewN nq)).mono HB2.out.size))
   go_wp2
   go_ret2
   exact ⟨rfl, HB3.out⟩
end
section
variable {ev : Nat → Value}
def NewAns (w w' : World) (e : Ending) (wd h ref cash stock : Int) : Prop := ∃ F P I b, e = .returned (.tuple #[.pointer (some ⟨F, 0, none⟩), .nilIface]) ∧ PFl w w' F P I b (fun _ => .slice none 0 0) (fun _ => []) (Fl.gift cash stock 6) (Fl.bands ref) wd h
set_option maxHeartbeats 1000000 in
theorem new_ok (wd h ref cash stock : Int) (w : World) (he : Hid (AEr w ev)) (hr : Hid (Bd.rOk wd h = true)) (hf : Hid (Wi.withinB ref 1 1000 = true)) (H : Hid (Fl.Fits cash stock)) :
  Calls Tryz.prog 9 #[bandV wd h, .int .i64 ref, .int .i64 cash, .int .i64 stock] w fun e w' => NewAns w w' e wd h ref cash stock := by
 have hb0 : Below w.heap.size w (w.alloc (.cells #[.int .i64 wd, .int .i64 h] 31)) := bal
 have hck := rcheck_any wd h 252 (ev 1) (w.alloc (.cells #[.int .i64 wd, .int .i64 h] 31)) (he.out.below hb0).ber
 rw [hr.out, show okE 252 (ev 1) true = .nilIface from rfl] at hck
 have HCK := hide hck
 have HB0 := hide hb0
 have hru : (w.alloc (.cells #[.int .i64 wd, .int .i64 h] 31)).heap[w.heap.size]? = some (.cells #[.int .i64 wd, .int .i64 h] 31 (0, 0)) := heap_alloc_new _ _
 have HRU := hide hru
 clear hb0 hck hru
 unfold bandV at HCK ⊢
 have HW1 := hide (fun W => within_any ref 1 1000 W)
 have HW2 := hide (fun W => within_any cash 0 1073741824 W)
 have HW3 := hide (fun W => within_any stock 0 100000 W)
 have e1 : Wi.withinB cash 0 1073741824 = true := by have := H.out.c0; have := H.out.c1; simp [Wi.withinB]; omega
 have e2 : Wi.withinB stock 0 100000 = true := by have := H.out.s0; have := H.out.s1; simp [Wi.withinB]; omega
 rw [hf.out] at HW1; rw [e1] at HW2; rw [e2] at HW3
 clear e1 e2
 go_enter Tryz.func9, Tryz.ntmps9
 go_wp2_with fail
 refine HCK.out.mono ?_
 rintro e w2 ⟨rfl, hb2⟩
 have HL2 := hide (HB0.out.trans (hb2.mono HB0.out.size))
 have HRU2 : Hid (w2.heap[w.heap.size]? = some (.cells #[.int .i64 wd, .int .i64 h] 31 (0, 0))) := rof hb2 HRU.out
 clear hb2 HB0 HRU HCK
 obtain ⟨Ru, hRu⟩ : ∃ Ru, w.heap.size = Ru := ⟨_, rfl⟩
 rw [hRu] at HRU2
 rw [hRu]
 have HRe := hide hRu
 clear hRu
 simp only []
 go_wp2_with fail
 refine (HW1.out _).mono ?_
 rintro e w2 ⟨rfl, rfl⟩
 simp only []
 go_wp2_with fail
 refine (HW2.out _).mono ?_
 rintro e w2 ⟨rfl, rfl⟩
 simp only []
 go_wp2_with fail
 refine (HW3.out _).mono ?_
 rintro e w2 ⟨rfl, rfl⟩
 clear HW1 HW2 HW3
 simp only []
 go_wp2_with fail
 obtain ⟨XT, val, hcl, hmk⟩ := rows3_all Ru Ru Ru (.cells #[.int .i64 wd, .int .i64 h] 31 (0, 0)) (.cells #[.int .i64 wd, .int .i64 h] 31 (0, 0)) (.cells #[.int .i64 wd, .int .i64 h] 31 (0, 0))
 have HMK := hide hmk
 obtain ⟨y0, hy0⟩ := hmk w2.drew ⟨HRU2.out, HRU2.out, HRU2.out⟩
 have hnx : Nonempty XT := ⟨y0⟩
 have u0 : ∀ x, (val x).cell? ⟨Ru, 0, none⟩ = some (.int .i64 wd) := fun x => cof (hcl x).1 rfl
 have u1 : ∀ x, (val x).cell? ⟨Ru, 1, none⟩ = some (.int .i64 h) := fun x => cof (hcl x).1 rfl
 clear hmk hcl
 have hbd : Below w2.heap.size w2 w2.drew := ⟨rfl, rfl, rfl, Nat.le_refl _, fun _ _ => rfl⟩
 have HL3 := hide (HL2.out.trans (hbd.mono HL2.out.size))
 have HRU3 : Hid (w2.drew.heap[Ru]? = some (.cells #[.int .i64 wd, .int .i64 h] 31 (0, 0))) := HRU2.out
 clear hbd HL2 HRU2
 refine region_plan (val := val) (.read 0 (.one 1 (.read 2 (.one 3 (.read 4 .done))))) (by kernel_rfl) (by kernel_rfl) y0 hy0 ?_
 rw [hy0]
 clear hy0
 generalize w2.drew = w3 at *
 refine walkP_read rfl (fun K hK => ?_); refine ⟨by rfl, ?_⟩; unfold isRd; go_simp; refine hK _ ?_; clear hK K
 refine spec_step rfl (fun K hK => ?_)
 refine ⟨by rfl, ?_⟩
 unfold upM
 go_simp
 refine (new_any _).mono ?_
 rintro e w4 ⟨rfl, hw4⟩
 have hbc : Below w3.heap.size w3 w4 := by rw [hw4]; exact bal
 obtain ⟨P, hP⟩ : ∃ P, w3.heap.size = P := ⟨_, rfl⟩
 have HP4 : Hid (w4.heap[P]? = some (.cells (p_row fun _ => 0) 105 (0, 0))) := by show _ = _; rw [hw4, ← hP]; exact heap_alloc_new _ _
 have HRU4 : Hid (w4.heap[Ru]? = some (.cells #[.int .i64 wd, .int .i64 h] 31 (0, 0))) := rof hbc HRU3.out
 have HL4 := hide (HL3.out.trans (hbc.mono HL3.out.size))
 have HLP : Hid (w.heap.size ≤ P) := by have := HL3.out.size; show _ ≤ _; omega
 refine ⟨_, rfl, HMK.out _ ⟨HRU4.out, HRU4.out, HRU4.out⟩, hK _ _ ?_⟩
 rw [hP]
 clear hK K hbc hw4 hP HL3 HRU3
 refine walkP_read rfl (fun K hK => ?_); refine ⟨by rfl, ?_⟩; unfold isRd; go_simp; refine hK _ ?_; clear hK K
 refine spec_step rfl (fun K hK => ?_)
 refine ⟨by rfl, ?_⟩
 unfold upM
 go_simp
 obtain ⟨F, hF⟩ : ∃ F, w4.heap.size = F := ⟨_, rfl⟩
 obtain ⟨w5, hw5⟩ : ∃ x, w4.alloc (.cells #[.int .i64 wd, .int .i64 h, .pointer none, .pointer none, .pointer none, .pointer (some ⟨P, 0, none⟩)] 91) = x := ⟨_, rfl⟩
 have hbc : Below w4.heap.size w4 w5 := by rw [← hw5]; exact bal
 have HF5 : Hid (w5.heap[F]? = some (.cells #[.int .i64 wd, .int .i64 h, .pointer none, .pointer none, .pointer none, .pointer (some ⟨P, 0, none⟩)] 91 (0, 0))) := by show _ = _; rw [← hw5, ← hF]; exact heap_alloc_new _ _
 have HP5 : Hid (w5.heap[P]? = some (.cells (p_row fun _ => 0) 105 (0, 0))) := rof hbc HP4.out
 have HRU5 : Hid (w5.heap[Ru]? = some (.cells #[.int .i64 wd, .int .i64 h] 31 (0, 0))) := rof hbc HRU4.out
 have HL5 := hide (HL4.out.trans (hbc.mono HL4.out.size))
 have HLF : Hid (w.heap.size ≤ F) := by have := HL4.out.size; show _ ≤ _; omega
 rw [hF, hw5]
 refine ⟨HMK.out _ ⟨HRU5.out, HRU5.out, HRU5.out⟩, hK _ _ ?_⟩
 clear hK K hbc hw5 hF HL4 HP4 HRU4
 refine walkP_read rfl (fun K hK => ?_); refine ⟨by rfl, ?_⟩; unfold isRd; go_simp; refine hK _ ?_; clear hK K
 refine walkP_done ?_
 clear u0 u1 HMK
 clear y0 hnx
 clear val
 clear XT
 obtain ⟨S, hS⟩ : ∃ S, w5.heap.size = S := ⟨_, rfl⟩
 obtain ⟨wa0, hwa⟩ : ∃ x, w5.alloc (.cells #[.int .i64 0, .int .i64 0, .int .i64 0] 41) = x := ⟨_, rfl⟩
 have hbc : Below w5.heap.size w5 wa0 := by rw [← hwa]; exact bal
 have HSa0 : Hid (wa0.heap[S]? = some (.cells #[.int .i64 0, .int .i64 0, .int .i64 0] 41 (0, 0))) := by show _ = _; rw [← hwa, ← hS]; exact heap_alloc_new _ _
 have HFa0 : Hid (wa0.heap[F]? = some (.cells #[.int .i64 wd, .int .i64 h, .pointer none, .pointer none, .pointer none, .pointer (some ⟨P, 0, none⟩)] 91 (0, 0))) := rof hbc HF5.out
 have HPa0 : Hid (wa0.heap[P]? = some (.cells (p_row fun _ => 0) 105 (0, 0))) := rof hbc HP5.out
 have HLa0 := hide (HL5.out.trans (hbc.mono HL5.out.size))
 have HLS : Hid (w.heap.size ≤ S) := by have := HL5.out.size; show _ ≤ _; omega
 have HWA := hide hwa; have HSe := hide hS
 clear hbc hwa hS HL5 HF5 HP5 HRU5
 go_wp2
 rw [HWA.out, HSe.out]
 clear HWA HSe
 refine wp_loop_rounds 4 ?_
 rw [rounds_succ]
 go_wp2_with fail
 have hnx : Nonempty World := ⟨wa0⟩
 refine region_plan (X := World) (val := fun x => x) (.read 0 (.read 1 (.read 3 (.read 4 (.read 7 (.read 8 (.one 2 (.read 5 (.one 6 (.read 9 (.one 10 .done))))))))))) (by kernel_rfl) (by kernel_rfl) wa0.drew rfl ?_
 have hbd : Below wa0.heap.size wa0 wa0.drew := ⟨rfl, rfl, rfl, Nat.le_refl _, fun _ _ => rfl⟩
 have HFb0 : Hid (wa0.drew.heap[F]? = some (.cells #[.int .i64 wd, .int .i64 h, .pointer none, .pointer none, .pointer none, .pointer (some ⟨P, 0, none⟩)] 91 (0, 0))) := rof hbd HFa0.out
 have HSb0 : Hid (wa0.drew.heap[S]? = some (.cells #[.int .i64 0, .int .i64 0, .int .i64 0] 41 (0, 0))) := rof hbd HSa0.out
 have HPb0 : Hid (wa0.drew.heap[P]? = some (.cells (p_row fun _ => 0) 105 (0, 0))) := rof hbd HPa0.out
 have HLb0 := hide (HLa0.out.trans (hbd.mono HLa0.out.size))
 clear hbd HFa0 HSa0 HPa0 HLa0
 show walkP _ _ _ _ _ _ wa0.drew
 generalize wa0.drew = wb0 at *
 iterate 6 (refine walkP_read rfl (fun K hK => ?_); refine ⟨by rfl, ?_⟩; unfold isRd; go_simp; refine hK _ ?_; clear hK K)
 refine spec_step rfl (fun K hK => ?_)
 refine ⟨by rfl, ?_⟩
 unfold upM
 go_simp
 refine (newBook_any _).mono ?_
 rintro e wc0 ⟨rfl, hwc⟩
 have hbc : Below wb0.heap.size wb0 wc0 := by rw [hwc]; exact bal
 obtain ⟨B0, hB0⟩ : ∃ B, wb0.heap.size = B := ⟨_, rfl⟩
 have HB0c0 : Hid (wc0.heap[B0]? = some (.cells #[.slice none 0 0] 103 (0, 0))) := by show _ = _; rw [hwc, ← hB0]; exact heap_alloc_new _ _
 have HFc0 : Hid (wc0.heap[F]? = some (.cells #[.int .i64 wd, .int .i64 h, .pointer none, .pointer none, .pointer none, .pointer (some ⟨P, 0, none⟩)] 91 (0, 0))) := rof hbc HFb0.out
 have HSc0 : Hid (wc0.heap[S]? = some (.cells #[.int .i64 0, .int .i64 0, .int .i64 0] 41 (0, 0))) := rof hbc HSb0.out
 have HPc0 : Hid (wc0.heap[P]? = some (.cells (p_row fun _ => 0) 105 (0, 0))) := rof hbc HPb0.out
 have HLc0 := hide (HLb0.out.trans (hbc.mono HLb0.out.size))
 have HLB0 : Hid (w.heap.size ≤ B0) := by have := HLb0.out.size; show _ ≤ _; omega
 refine ⟨_, rfl, hK _ _ ?_⟩
 rw [hB0]
 have HNE0 : Hid (B0 ≠ F ∧ B0 ≠ S ∧ B0 ≠ P) := by
  have l1 := lt_of_block HFb0.out; have l2 := lt_of_block HSb0.out; have l3 := lt_of_block HPb0.out
  refine ⟨by omega, by omega, by omega⟩
 clear hK K hbc hwc hB0 HFb0 HSb0 HPb0 HLb0
 refine walkP_read rfl (fun K hK => ?_); refine ⟨by rfl, ?_⟩; unfold isRd; go_simp; refine hK _ ?_; clear hK K
 refine spec_step rfl (fun K hK => ?_)
 refine ⟨by rfl, ?_⟩
 unfold upM
 go_simp
 obtain ⟨I0, hI0⟩ : ∃ I, wc0.heap.size = I := ⟨_, rfl⟩
 obtain ⟨wd0, hwd⟩ : ∃ x, wc0.alloc (.cells #[.pointer (some ⟨B0, 0, none⟩), .int .i64 ref, .int .i64 0] 94) = x := ⟨_, rfl⟩
 have hbd : Below wc0.heap.size wc0 wd0 := by rw [← hwd]; exact bal
 have HI0d0 : Hid (wd0.heap[I0]? = some (.cells #[.pointer (some ⟨B0, 0, none⟩), .int .i64 ref, .int .i64 0] 94 (0, 0))) := by show _ = _; rw [← hwd, ← hI0]; exact heap_alloc_new _ _
 rw [hI0, hwd]
 have HFd0 : Hid (wd0.heap[F]? = some (.cells #[.int .i64 wd, .int .i64 h, .pointer none, .pointer none, .pointer none, .pointer (some ⟨P, 0, none⟩)] 91 (0, 0))) := rof hbd HFc0.out
 have HSd0 : Hid (wd0.heap[S]? = some (.cells #[.int .i64 0, .int .i64 0, .int .i64 0] 41 (0, 0))) := rof hbd HSc0.out
 have HPd0 : Hid (wd0.heap[P]? = some (.cells (p_row fun _ => 0) 105 (0, 0))) := rof hbd HPc0.out
 have HB0d0 : Hid (wd0.heap[B0]? = some (.cells #[.slice none 0 0] 103 (0, 0))) := rof hbd HB0c0.out
 have HLd0 := hide (HLc0.out.trans (hbd.mono HLc0.out.size))
 have HLI0 : Hid (w.heap.size ≤ I0) := by have := HLc0.out.size; show _ ≤ _; omega
 have HNI0 : Hid (I0 ≠ F ∧ I0 ≠ S) := by
  have l1 := lt_of_block HFc0.out; have l2 := lt_of_block HSc0.out
  refine ⟨by omega, by omega⟩
 refine hK _ _ ?_
 clear hK K hbd hwd hI0 HFc0 HSc0 HPc0 HB0c0 HLc0
 refine walkP_read rfl (fun K hK => ?_); refine ⟨by rfl, ?_⟩; unfold isRd; go_simp; refine hK _ ?_; clear hK K
 have c0 : wd0.cell? ⟨F, 2, none⟩ = some (.pointer none) := cof HFd0.out rfl
 have f0 : wd0.frozen? ⟨F, 2, none⟩ = false := fof HFd0.out
 obtain ⟨we0, hwe⟩ : ∃ x, wd0.setCell ⟨F, 2, none⟩ (.pointer (some ⟨I0, 0, none⟩)) = x := ⟨_, rfl⟩
 have hsv : Save wd0 we0 F := by rw [← hwe]; exact Save.setCell _ _ _ _
 have HFe0 : Hid (we0.heap[F]? = some (.cells #[.int .i64 wd, .int .i64 h, .pointer (some ⟨I0, 0, none⟩), .pointer none, .pointer none, .pointer (some ⟨P, 0, none⟩)] 91 (0, 0))) := by show _ = _; rw [← hwe, setCell_eq_setRow _ F 2 _ _ _ _ HFd0.out]; exact setRow_heap _ F _ _ _ _ HFd0.out
 have HSe0 : Hid (we0.heap[S]? = some (.cells #[.int .i64 0, .int .i64 0, .int .i64 0] 41 (0, 0))) := by show _ = _; rw [hsv.block _ (lt_of_block HSd0.out) (blkT HSd0.out HFd0.out (by decide))]; exact HSd0.out
 have HPe0 : Hid (we0.heap[P]? = some (.cells (p_row fun _ => 0) 105 (0, 0))) := by show _ = _; rw [hsv.block _ (lt_of_block HPd0.out) (blkT HPd0.out HFd0.out (by decide))]; exact HPd0.out
 have HB0e0 : Hid (we0.heap[B0]? = some (.cells #[.slice none 0 0] 103 (0, 0))) := by show _ = _; rw [hsv.block _ (lt_of_block HB0d0.out) (blkT HB0d0.out HFd0.out (by decide))]; exact HB0d0.out
 have HI0e0 : Hid (we0.heap[I0]? = some (.cells #[.pointer (some ⟨B0, 0, none⟩), .int .i64 ref, .int .i64 0] 94 (0, 0))) := by show _ = _; rw [hsv.block _ (lt_of_block HI0d0.out) (blkT HI0d0.out HFd0.out (by decide))]; exact HI0d0.out
 have HLe0 := hide (HLd0.out.trans (hsv.below HLd0.out.size HLF.out))
 have HWe := hide hwe
 clear hwe
 refine spec_step rfl (fun K hK => ?_)
 refine ⟨by rfl, ?_⟩
 unfold upM
 go_simp
 rw [HWe.out]
 refine hK _ _ ?_
 clear hK K c0 f0 hsv HWe hnx HFd0 HSd0 HPd0 HB0d0 HI0d0 HLd0
 refine walkP_done ?_
 have c0 : we0.cell? ⟨S, 0, none⟩ = some (.int .i64 0) := cof HSe0.out rfl
 have f0 : we0.frozen? ⟨S, 0, none⟩ = false := fof HSe0.out
 obtain ⟨wa1, hwf⟩ : ∃ x, we0.setCell ⟨S, 0, none⟩ (.int .i64 stock) = x := ⟨_, rfl⟩
 have hsv : Save we0 wa1 S := by rw [← hwf]; exact Save.setCell _ _ _ _
 have HSa1 : Hid (wa1.heap[S]? = some (.cells #[.int .i64 stock, .int .i64 0, .int .i64 0] 41 (0, 0))) := by show _ = _; rw [← hwf, setCell_eq_setRow _ S 0 _ _ _ _ HSe0.out]; exact setRow_heap _ S _ _ _ _ HSe0.out
 have HFa1 : Hid (wa1.heap[F]? = some (.cells #[.int .i64 wd, .int .i64 h, .pointer (some ⟨I0, 0, none⟩), .pointer none, .pointer none, .pointer (some ⟨P, 0, none⟩)] 91 (0, 0))) := by show _ = _; rw [hsv.block _ (lt_of_block HFe0.out) (blkT HFe0.out HSe0.out (by decide))]; exact HFe0.out
 have HPa1 : Hid (wa1.heap[P]? = some (.cells (p_row fun _ => 0) 105 (0, 0))) := by show _ = _; rw [hsv.block _ (lt_of_block HPe0.out) (blkT HPe0.out HSe0.out (by decide))]; exact HPe0.out
 have HI0a1 : Hid (wa1.heap[I0]? = some (.cells #[.pointer (some ⟨B0, 0, none⟩), .int .i64 ref, .int .i64 0] 94 (0, 0))) := by show _ = _; rw [hsv.block _ (lt_of_block HI0e0.out) (blkT HI0e0.out HSe0.out (by decide))]; exact HI0e0.out
 have HB0a1 : Hid (wa1.heap[B0]? = some (.cells #[.slice none 0 0] 103 (0, 0))) := by show _ = _; rw [hsv.block _ (lt_of_block HB0e0.out) (blkT HB0e0.out HSe0.out (by decide))]; exact HB0e0.out
 have HLa1 := hide (HLe0.out.trans (hsv.below HLe0.out.size HLS.out))
 have HWf := hide hwf
 clear hwf hsv HFe0 HPe0 HI0e0 HB0e0 HLe0
 go_wp2
 rw [HWf.out]
 clear c0 f0 HWf HSe0
 rw [rounds_succ]
 go_wp2_with fail
 have hnx : Nonempty World := ⟨wa1⟩
 refine region_plan (X := World) (val := fun x => x) (.read 0 (.read 1 (.read 3 (.read 4 (.read 7 (.read 8 (.one 2 (.read 5 (.one 6 (.read 9 (.one 10 .done))))))))))) (by kernel_rfl) (by kernel_rfl) wa1.drew rfl ?_
 have hbd : Below wa1.heap.size wa1 wa1.drew := ⟨rfl, rfl, rfl, Nat.le_refl _, fun _ _ => rfl⟩
 have HFb1 : Hid (wa1.drew.heap[F]? = some (.cells #[.int .i64 wd, .int .i64 h, .pointer (some ⟨I0, 0, none⟩), .pointer none, .pointer none, .pointer (some ⟨P, 0, none⟩)] 91 (0, 0))) := rof hbd HFa1.out
 have HSb1 : Hid (wa1.drew.heap[S]? = some (.cells #[.int .i64 stock, .int .i64 0, .int .i64 0] 41 (0, 0))) := rof hbd HSa1.out
 have HPb1 : Hid (wa1.drew.heap[P]? = some (.cells (p_row fun _ => 0) 105 (0, 0))) := rof hbd HPa1.out
 have HI0b1 : Hid (wa1.drew.heap[I0]? = some (.cells #[.pointer (some ⟨B0, 0, none⟩), .int .i64 ref, .int .i64 0] 94 (0, 0))) := rof hbd HI0a1.out
 have HB0b1 : Hid (wa1.drew.heap[B0]? = some (.cells #[.slice none 0 0] 103 (0, 0))) := rof hbd HB0a1.out
 have HLb1 := hide (HLa1.out.trans (hbd.mono HLa1.out.size))
 clear hbd HFa1 HSa1 HPa1 HI0a1 HB0a1 HLa1
 show walkP _ _ _ _ _ _ wa1.drew
 generalize wa1.drew = wb1 at *
 iterate 6 (refine walkP_read rfl (fun K hK => ?_); refine ⟨by rfl, ?_⟩; unfold isRd; go_simp; refine hK _ ?_; clear hK K)
 refine spec_step rfl (fun K hK => ?_)
 refine ⟨by rfl, ?_⟩
 unfold upM
 go_simp
 refine (newBook_any _).mono ?_
 rintro e wc1 ⟨rfl, hwc⟩
 have hbc : Below wb1.heap.size wb1 wc1 := by rw [hwc]; exact bal
 obtain ⟨B1, hB1⟩ : ∃ B, wb1.heap.size = B := ⟨_, rfl⟩
 have HB1c1 : Hid (wc1.heap[B1]? = some (.cells #[.slice none 0 0] 103 (0, 0))) := by show _ = _; rw [hwc, ← hB1]; exact heap_alloc_new _ _
 have HFc1 : Hid (wc1.heap[F]? = some (.cells #[.int .i64 wd, .int .i64 h, .pointer (some ⟨I0, 0, none⟩), .pointer none, .pointer none, .pointer (some ⟨P, 0, none⟩)] 91 (0, 0))) := rof hbc HFb1.out
 have HSc1 : Hid (wc1.heap[S]? = some (.cells #[.int .i64 stock, .int .i64 0, .int .i64 0] 41 (0, 0))) := rof hbc HSb1.out
 have HPc1 : Hid (wc1.heap[P]? = some (.cells (p_row fun _ => 0) 105 (0, 0))) := rof hbc HPb1.out
 have HI0c1 : Hid (wc1.heap[I0]? = some (.cells #[.pointer (some ⟨B0, 0, none⟩), .int .i64 ref, .int .i64 0] 94 (0, 0))) := rof hbc HI0b1.out
 have HB0c1 : Hid (wc1.heap[B0]? = some (.cells #[.slice none 0 0] 103 (0, 0))) := rof hbc HB0b1.out
 have HLc1 := hide (HLb1.out.trans (hbc.mono HLb1.out.size))
 have HLB1 : Hid (w.heap.size ≤ B1) := by have := HLb1.out.size; show _ ≤ _; omega
 refine ⟨_, rfl, hK _ _ ?_⟩
 rw [hB1]
 have HNE1 : Hid (B1 ≠ F ∧ B1 ≠ S ∧ B1 ≠ P ∧ B1 ≠ B0) := by
  have l1 := lt_of_block HFb1.out; have l2 := lt_of_block HSb1.out; have l3 := lt_of_block HPb1.out
  have l40 := lt_of_block HB0b1.out
  refine ⟨by omega, by omega, by omega, by omega⟩
 clear hK K hbc hwc hB1 HFb1 HSb1 HPb1 HI0b1 HB0b1 HLb1
 refine walkP_read rfl (fun K hK => ?_); refine ⟨by rfl, ?_⟩; unfold isRd; go_simp; refine hK _ ?_; clear hK K
 refine spec_step rfl (fun K hK => ?_)
 refine ⟨by rfl, ?_⟩
 unfold upM
 go_simp
 obtain ⟨I1, hI1⟩ : ∃ I, wc1.heap.size = I := ⟨_, rfl⟩
 obtain ⟨wd1, hwd⟩ : ∃ x, wc1.alloc (.cells #[.pointer (some ⟨B1, 0, none⟩), .int .i64 ref, .int .i64 0] 94) = x := ⟨_, rfl⟩
 have hbd : Below wc1.heap.size wc1 wd1 := by rw [← hwd]; exact bal
 have HI1d1 : Hid (wd1.heap[I1]? = some (.cells #[.pointer (some ⟨B1, 0, none⟩), .int .i64 ref, .int .i64 0] 94 (0, 0))) := by show _ = _; rw [← hwd, ← hI1]; exact heap_alloc_new _ _
 rw [hI1, hwd]
 have HFd1 : Hid (wd1.heap[F]? = some (.cells #[.int .i64 wd, .int .i64 h, .pointer (some ⟨I0, 0, none⟩), .pointer none, .pointer none, .pointer (some ⟨P, 0, none⟩)] 91 (0, 0))) := rof hbd HFc1.out
 have HSd1 : Hid (wd1.heap[S]? = some (.cells #[.int .i64 stock, .int .i64 0, .int .i64 0] 41 (0, 0))) := rof hbd HSc1.out
 have HPd1 : Hid (wd1.heap[P]? = some (.cells (p_row fun _ => 0) 105 (0, 0))) := rof hbd HPc1.out
 have HI0d1 : Hid (wd1.heap[I0]? = some (.cells #[.pointer (some ⟨B0, 0, none⟩), .int .i64 ref, .int .i64 0] 94 (0, 0))) := rof hbd HI0c1.out
 have HB0d1 : Hid (wd1.heap[B0]? = some (.cells #[.slice none 0 0] 103 (0, 0))) := rof hbd HB0c1.out
 have HB1d1 : Hid (wd1.heap[B1]? = some (.cells #[.slice none 0 0] 103 (0, 0))) := rof hbd HB1c1.out
 have HLd1 := hide (HLc1.out.trans (hbd.mono HLc1.out.size))
 have HLI1 : Hid (w.heap.size ≤ I1) := by have := HLc1.out.size; show _ ≤ _; omega
 have HNI1 : Hid (I1 ≠ F ∧ I1 ≠ S ∧ I1 ≠ I0) := by
  have l1 := lt_of_block HFc1.out; have l2 := lt_of_block HSc1.out
  have l40 := lt_of_block HI0c1.out
  refine ⟨by omega, by omega, by omega⟩
 refine hK _ _ ?_
 clear hK K hbd hwd hI1 HFc1 HSc1 HPc1 HI0c1 HB0c1 HB1c1 HLc1
 refine walkP_read rfl (fun K hK => ?_); refine ⟨by rfl, ?_⟩; unfold isRd; go_simp; refine hK _ ?_; clear hK K
 have c0 : wd1.cell? ⟨F, 3, none⟩ = some (.pointer none) := cof HFd1.out rfl
 have f0 : wd1.frozen? ⟨F, 3, none⟩ = false := fof HFd1.out
 obtain ⟨we1, hwe⟩ : ∃ x, wd1.setCell ⟨F, 3, none⟩ (.pointer (some ⟨I1, 0, none⟩)) = x := ⟨_, rfl⟩
 have hsv : Save wd1 we1 F := by rw [← hwe]; exact Save.setCell _ _ _ _
 have HFe1 : Hid (we1.heap[F]? = some (.cells #[.int .i64 wd, .int .i64 h, .pointer (some ⟨I0, 0, none⟩), .pointer (some ⟨I1, 0, none⟩), .pointer none, .pointer (some ⟨P, 0, none⟩)] 91 (0, 0))) := by show _ = _; rw [← hwe, setCell_eq_setRow _ F 3 _ _ _ _ HFd1.out]; exact setRow_heap _ F _ _ _ _ HFd1.out
 have HSe1 : Hid (we1.heap[S]? = some (.cells #[.int .i64 stock, .int .i64 0, .int .i64 0] 41 (0, 0))) := by show _ = _; rw [hsv.block _ (lt_of_block HSd1.out) (blkT HSd1.out HFd1.out (by decide))]; exact HSd1.out
 have HPe1 : Hid (we1.heap[P]? = some (.cells (p_row fun _ => 0) 105 (0, 0))) := by show _ = _; rw [hsv.block _ (lt_of_block HPd1.out) (blkT HPd1.out HFd1.out (by decide))]; exact HPd1.out
 have HI0e1 : Hid (we1.heap[I0]? = some (.cells #[.pointer (some ⟨B0, 0, none⟩), .int .i64 ref, .int .i64 0] 94 (0, 0))) := by show _ = _; rw [hsv.block _ (lt_of_block HI0d1.out) (blkT HI0d1.out HFd1.out (by decide))]; exact HI0d1.out
 have HB0e1 : Hid (we1.heap[B0]? = some (.cells #[.slice none 0 0] 103 (0, 0))) := by show _ = _; rw [hsv.block _ (lt_of_block HB0d1.out) (blkT HB0d1.out HFd1.out (by decide))]; exact HB0d1.out
 have HB1e1 : Hid (we1.heap[B1]? = some (.cells #[.slice none 0 0] 103 (0, 0))) := by show _ = _; rw [hsv.block _ (lt_of_block HB1d1.out) (blkT HB1d1.out HFd1.out (by decide))]; exact HB1d1.out
 have HI1e1 : Hid (we1.heap[I1]? = some (.cells #[.pointer (some ⟨B1, 0, none⟩), .int .i64 ref, .int .i64 0] 94 (0, 0))) := by show _ = _; rw [hsv.block _ (lt_of_block HI1d1.out) (blkT HI1d1.out HFd1.out (by decide))]; exact HI1d1.out
 have HLe1 := hide (HLd1.out.trans (hsv.below HLd1.out.size HLF.out))
 have HWe := hide hwe
 clear hwe
 refine spec_step rfl (fun K hK => ?_)
 refine ⟨by rfl, ?_⟩
 unfold upM
 go_simp
 rw [HWe.out]
 refine hK _ _ ?_
 clear hK K c0 f0 hsv HWe hnx HFd1 HSd1 HPd1 HI0d1 HB0d1 HB1d1 HI1d1 HLd1
 refine walkP_done ?_
 have c0 : we1.cell? ⟨S, 1, none⟩ = some (.int .i64 0) := cof HSe1.out rfl
 have f0 : we1.frozen? ⟨S, 1, none⟩ = false := fof HSe1.out
 obtain ⟨wa2, hwf⟩ : ∃ x, we1.setCell ⟨S, 1, none⟩ (.int .i64 stock) = x := ⟨_, rfl⟩
 have hsv : Save we1 wa2 S := by rw [← hwf]; exact Save.setCell _ _ _ _
 have HSa2 : Hid (wa2.heap[S]? = some (.cells #[.int .i64 stock, .int .i64 stock, .int .i64 0] 41 (0, 0))) := by show _ = _; rw [← hwf, setCell_eq_setRow _ S 1 _ _ _ _ HSe1.out]; exact setRow_heap _ S _ _ _ _ HSe1.out
 have HFa2 : Hid (wa2.heap[F]? = some (.cells #[.int .i64 wd, .int .i64 h, .pointer (some ⟨I0, 0, none⟩), .pointer (some ⟨I1, 0, none⟩), .pointer none, .pointer (some ⟨P, 0, none⟩)] 91 (0, 0))) := by show _ = _; rw [hsv.block _ (lt_of_block HFe1.out) (blkT HFe1.out HSe1.out (by decide))]; exact HFe1.out
 have HPa2 : Hid (wa2.heap[P]? = some (.cells (p_row fun _ => 0) 105 (0, 0))) := by show _ = _; rw [hsv.block _ (lt_of_block HPe1.out) (blkT HPe1.out HSe1.out (by decide))]; exact HPe1.out
 have HI0a2 : Hid (wa2.heap[I0]? = some (.cells #[.pointer (some ⟨B0, 0, none⟩), .int .i64 ref, .int .i64 0] 94 (0, 0))) := by show _ = _; rw [hsv.block _ (lt_of_block HI0e1.out) (blkT HI0e1.out HSe1.out (by decide))]; exact HI0e1.out
 have HB0a2 : Hid (wa2.heap[B0]? = some (.cells #[.slice none 0 0] 103 (0, 0))) := by show _ = _; rw [hsv.block _ (lt_of_block HB0e1.out) (blkT HB0e1.out HSe1.out (by decide))]; exact HB0e1.out
 have HI1a2 : Hid (wa2.heap[I1]? = some (.cells #[.pointer (some ⟨B1, 0, none⟩), .int .i64 ref, .int .i64 0] 94 (0, 0))) := by show _ = _; rw [hsv.block _ (lt_of_block HI1e1.out) (blkT HI1e1.out HSe1.out (by decide))]; exact HI1e1.out
 have HB1a2 : Hid (wa2.heap[B1]? = some (.cells #[.slice none 0 0] 103 (0, 0))) := by show _ = _; rw [hsv.block _ (lt_of_block HB1e1.out) (blkT HB1e1.out HSe1.out (by decide))]; exact HB1e1.out
 have HLa2 := hide (HLe1.out.trans (hsv.below HLe1.out.size HLS.out))
 have HWf := hide hwf
 clear hwf hsv HFe1 HPe1 HI0e1 HB0e1 HI1e1 HB1e1 HLe1
 go_wp2
 rw [HWf.out]
 clear c0 f0 HWf HSe1
 rw [rounds_succ]
 go_wp2_with fail
 have hnx : Nonempty World := ⟨wa2⟩
 refine region_plan (X := World) (val := fun x => x) (.read 0 (.read 1 (.read 3 (.read 4 (.read 7 (.read 8 (.one 2 (.read 5 (.one 6 (.read 9 (.one 10 .done))))))))))) (by kernel_rfl) (by kernel_rfl) wa2.drew rfl ?_
 have hbd : Below wa2.heap.size wa2 wa2.drew := ⟨rfl, rfl, rfl, Nat.le_refl _, fun _ _ => rfl⟩
 have HFb2 : Hid (wa2.drew.heap[F]? = some (.cells #[.int .i64 wd, .int .i64 h, .pointer (some ⟨I0, 0, none⟩), .pointer (some ⟨I1, 0, none⟩), .pointer none, .pointer (some ⟨P, 0, none⟩)] 91 (0, 0))) := rof hbd HFa2.out
 have HSb2 : Hid (wa2.drew.heap[S]? = some (.cells #[.int .i64 stock, .int .i64 stock, .int .i64 0] 41 (0, 0))) := rof hbd HSa2.out
 have HPb2 : Hid (wa2.drew.heap[P]? = some (.cells (p_row fun _ => 0) 105 (0, 0))) := rof hbd HPa2.out
 have HI0b2 : Hid (wa2.drew.heap[I0]? = some (.cells #[.pointer (some ⟨B0, 0, none⟩), .int .i64 ref, .int .i64 0] 94 (0, 0))) := rof hbd HI0a2.out
 have HB0b2 : Hid (wa2.drew.heap[B0]? = some (.cells #[.slice none 0 0] 103 (0, 0))) := rof hbd HB0a2.out
 have HI1b2 : Hid (wa2.drew.heap[I1]? = some (.cells #[.pointer (some ⟨B1, 0, none⟩), .int .i64 ref, .int .i64 0] 94 (0, 0))) := rof hbd HI1a2.out
 have HB1b2 : Hid (wa2.drew.heap[B1]? = some (.cells #[.slice none 0 0] 103 (0, 0))) := rof hbd HB1a2.out
 have HLb2 := hide (HLa2.out.trans (hbd.mono HLa2.out.size))
 clear hbd HFa2 HSa2 HPa2 HI0a2 HB0a2 HI1a2 HB1a2 HLa2
 show walkP _ _ _ _ _ _ wa2.drew
 generalize wa2.drew = wb2 at *
 iterate 6 (refine walkP_read rfl (fun K hK => ?_); refine ⟨by rfl, ?_⟩; unfold isRd; go_simp; refine hK _ ?_; clear hK K)
 refine spec_step rfl (fun K hK => ?_)
 refine ⟨by rfl, ?_⟩
 unfold upM
 go_simp
 refine (newBook_any _).mono ?_
 rintro e wc2 ⟨rfl, hwc⟩
 have hbc : Below wb2.heap.size wb2 wc2 := by rw [hwc]; exact bal
 obtain ⟨B2, hB2⟩ : ∃ B, wb2.heap.size = B := ⟨_, rfl⟩
 have HB2c2 : Hid (wc2.heap[B2]? = some (.cells #[.slice none 0 0] 103 (0, 0))) := by show _ = _; rw [hwc, ← hB2]; exact heap_alloc_new _ _
 have HFc2 : Hid (wc2.heap[F]? = some (.cells #[.int .i64 wd, .int .i64 h, .pointer (some ⟨I0, 0, none⟩), .pointer (some ⟨I1, 0, none⟩), .pointer none, .pointer (some ⟨P, 0, none⟩)] 91 (0, 0))) := rof hbc HFb2.out
 have HSc2 : Hid (wc2.heap[S]? = some (.cells #[.int .i64 stock, .int .i64 stock, .int .i64 0] 41 (0, 0))) := rof hbc HSb2.out
 have HPc2 : Hid (wc2.heap[P]? = some (.cells (p_row fun _ => 0) 105 (0, 0))) := rof hbc HPb2.out
 have HI0c2 : Hid (wc2.heap[I0]? = some (.cells #[.pointer (some ⟨B0, 0, none⟩), .int .i64 ref, .int .i64 0] 94 (0, 0))) := rof hbc HI0b2.out
 have HB0c2 : Hid (wc2.heap[B0]? = some (.cells #[.slice none 0 0] 103 (0, 0))) := rof hbc HB0b2.out
 have HI1c2 : Hid (wc2.heap[I1]? = some (.cells #[.pointer (some ⟨B1, 0, none⟩), .int .i64 ref, .int .i64 0] 94 (0, 0))) := rof hbc HI1b2.out
 have HB1c2 : Hid (wc2.heap[B1]? = some (.cells #[.slice none 0 0] 103 (0, 0))) := rof hbc HB1b2.out
 have HLc2 := hide (HLb2.out.trans (hbc.mono HLb2.out.size))
 have HLB2 : Hid (w.heap.size ≤ B2) := by have := HLb2.out.size; show _ ≤ _; omega
 refine ⟨_, rfl, hK _ _ ?_⟩
 rw [hB2]
 have HNE2 : Hid (B2 ≠ F ∧ B2 ≠ S ∧ B2 ≠ P ∧ B2 ≠ B0 ∧ B2 ≠ B1) := by
  have l1 := lt_of_block HFb2.out; have l2 := lt_of_block HSb2.out; have l3 := lt_of_block HPb2.out
  have l40 := lt_of_block HB0b2.out
  have l41 := lt_of_block HB1b2.out
  refine ⟨by omega, by omega, by omega, by omega, by omega⟩
 clear hK K hbc hwc hB2 HFb2 HSb2 HPb2 HI0b2 HB0b2 HI1b2 HB1b2 HLb2
 refine walkP_read rfl (fun K hK => ?_); refine ⟨by rfl, ?_⟩; unfold isRd; go_simp; refine hK _ ?_; clear hK K
 refine spec_step rfl (fun K hK => ?_)
 refine ⟨by rfl, ?_⟩
 unfold upM
 go_simp
 obtain ⟨I2, hI2⟩ : ∃ I, wc2.heap.size = I := ⟨_, rfl⟩
 obtain ⟨wd2, hwd⟩ : ∃ x, wc2.alloc (.cells #[.pointer (some ⟨B2, 0, none⟩), .int .i64 ref, .int .i64 0] 94) = x := ⟨_, rfl⟩
 have hbd : Below wc2.heap.size wc2 wd2 := by rw [← hwd]; exact bal
 have HI2d2 : Hid (wd2.heap[I2]? = some (.cells #[.pointer (some ⟨B2, 0, none⟩), .int .i64 ref, .int .i64 0] 94 (0, 0))) := by show _ = _; rw [← hwd, ← hI2]; exact heap_alloc_new _ _
 rw [hI2, hwd]
 have HFd2 : Hid (wd2.heap[F]? = some (.cells #[.int .i64 wd, .int .i64 h, .pointer (some ⟨I0, 0, none⟩), .pointer (some ⟨I1, 0, none⟩), .pointer none, .pointer (some ⟨P, 0, none⟩)] 91 (0, 0))) := rof hbd HFc2.out
 have HSd2 : Hid (wd2.heap[S]? = some (.cells #[.int .i64 stock, .int .i64 stock, .int .i64 0] 41 (0, 0))) := rof hbd HSc2.out
 have HPd2 : Hid (wd2.heap[P]? = some (.cells (p_row fun _ => 0) 105 (0, 0))) := rof hbd HPc2.out
 have HI0d2 : Hid (wd2.heap[I0]? = some (.cells #[.pointer (some ⟨B0, 0, none⟩), .int .i64 ref, .int .i64 0] 94 (0, 0))) := rof hbd HI0c2.out
 have HB0d2 : Hid (wd2.heap[B0]? = some (.cells #[.slice none 0 0] 103 (0, 0))) := rof hbd HB0c2.out
 have HI1d2 : Hid (wd2.heap[I1]? = some (.cells #[.pointer (some ⟨B1, 0, none⟩), .int .i64 ref, .int .i64 0] 94 (0, 0))) := rof hbd HI1c2.out
 have HB1d2 : Hid (wd2.heap[B1]? = some (.cells #[.slice none 0 0] 103 (0, 0))) := rof hbd HB1c2.out
 have HB2d2 : Hid (wd2.heap[B2]? = some (.cells #[.slice none 0 0] 103 (0, 0))) := rof hbd HB2c2.out
 have HLd2 := hide (HLc2.out.trans (hbd.mono HLc2.out.size))
 have HLI2 : Hid (w.heap.size ≤ I2) := by have := HLc2.out.size; show _ ≤ _; omega
 have HNI2 : Hid (I2 ≠ F ∧ I2 ≠ S ∧ I2 ≠ I0 ∧ I2 ≠ I1) := by
  have l1 := lt_of_block HFc2.out; have l2 := lt_of_block HSc2.out
  have l40 := lt_of_block HI0c2.out
  have l41 := lt_of_block HI1c2.out
  refine ⟨by omega, by omega, by omega, by omega⟩
 refine hK _ _ ?_
 clear hK K hbd hwd hI2 HFc2 HSc2 HPc2 HI0c2 HB0c2 HI1c2 HB1c2 HB2c2 HLc2
 refine walkP_read rfl (fun K hK => ?_); refine ⟨by rfl, ?_⟩; unfold isRd; go_simp; refine hK _ ?_; clear hK K
 have c0 : wd2.cell? ⟨F, 4, none⟩ = some (.pointer none) := cof HFd2.out rfl
 have f0 : wd2.frozen? ⟨F, 4, none⟩ = false := fof HFd2.out
 obtain ⟨we2, hwe⟩ : ∃ x, wd2.setCell ⟨F, 4, none⟩ (.pointer (some ⟨I2, 0, none⟩)) = x := ⟨_, rfl⟩
 have hsv : Save wd2 we2 F := by rw [← hwe]; exact Save.setCell _ _ _ _
 have HFe2 : Hid (we2.heap[F]? = some (.cells #[.int .i64 wd, .int .i64 h, .pointer (some ⟨I0, 0, none⟩), .pointer (some ⟨I1, 0, none⟩), .pointer (some ⟨I2, 0, none⟩), .pointer (some ⟨P, 0, none⟩)] 91 (0, 0))) := by show _ = _; rw [← hwe, setCell_eq_setRow _ F 4 _ _ _ _ HFd2.out]; exact setRow_heap _ F _ _ _ _ HFd2.out
 have HSe2 : Hid (we2.heap[S]? = some (.cells #[.int .i64 stock, .int .i64 stock, .int .i64 0] 41 (0, 0))) := by show _ = _; rw [hsv.block _ (lt_of_block HSd2.out) (blkT HSd2.out HFd2.out (by decide))]; exact HSd2.out
 have HPe2 : Hid (we2.heap[P]? = some (.cells (p_row fun _ => 0) 105 (0, 0))) := by show _ = _; rw [hsv.block _ (lt_of_block HPd2.out) (blkT HPd2.out HFd2.out (by decide))]; exact HPd2.out
 have HI0e2 : Hid (we2.heap[I0]? = some (.cells #[.pointer (some ⟨B0, 0, none⟩), .int .i64 ref, .int .i64 0] 94 (0, 0))) := by show _ = _; rw [hsv.block _ (lt_of_block HI0d2.out) (blkT HI0d2.out HFd2.out (by decide))]; exact HI0d2.out
 have HB0e2 : Hid (we2.heap[B0]? = some (.cells #[.slice none 0 0] 103 (0, 0))) := by show _ = _; rw [hsv.block _ (lt_of_block HB0d2.out) (blkT HB0d2.out HFd2.out (by decide))]; exact HB0d2.out
 have HI1e2 : Hid (we2.heap[I1]? = some (.cells #[.pointer (some ⟨B1, 0, none⟩), .int .i64 ref, .int .i64 0] 94 (0, 0))) := by show _ = _; rw [hsv.block _ (lt_of_block HI1d2.out) (blkT HI1d2.out HFd2.out (by decide))]; exact HI1d2.out
 have HB1e2 : Hid (we2.heap[B1]? = some (.cells #[.slice none 0 0] 103 (0, 0))) := by show _ = _; rw [hsv.block _ (lt_of_block HB1d2.out) (blkT HB1d2.out HFd2.out (by decide))]; exact HB1d2.out
 have HB2e2 : Hid (we2.heap[B2]? = some (.cells #[.slice none 0 0] 103 (0, 0))) := by show _ = _; rw [hsv.block _ (lt_of_block HB2d2.out) (blkT HB2d2.out HFd2.out (by decide))]; exact HB2d2.out
 have HI2e2 : Hid (we2.heap[I2]? = some (.cells #[.pointer (some ⟨B2, 0, none⟩), .int .i64 ref, .int .i64 0] 94 (0, 0))) := by show _ = _; rw [hsv.block _ (lt_of_block HI2d2.out) (blkT HI2d2.out HFd2.out (by decide))]; exact HI2d2.out
 have HLe2 := hide (HLd2.out.trans (hsv.below HLd2.out.size HLF.out))
 have HWe := hide hwe
 clear hwe
 refine spec_step rfl (fun K hK => ?_)
 refine ⟨by rfl, ?_⟩
 unfold upM
 go_simp
 rw [HWe.out]
 refine hK _ _ ?_
 clear hK K c0 f0 hsv HWe hnx HFd2 HSd2 HPd2 HI0d2 HB0d2 HI1d2 HB1d2 HB2d2 HI2d2 HLd2
 refine walkP_done ?_
 have c0 : we2.cell? ⟨S, 2, none⟩ = some (.int .i64 0) := cof HSe2.out rfl
 have f0 : we2.frozen? ⟨S, 2, none⟩ = false := fof HSe2.out
 obtain ⟨wa3, hwf⟩ : ∃ x, we2.setCell ⟨S, 2, none⟩ (.int .i64 stock) = x := ⟨_, rfl⟩
 have hsv : Save we2 wa3 S := by rw [← hwf]; exact Save.setCell _ _ _ _
 have HSa3 : Hid (wa3.heap[S]? = some (.cells #[.int .i64 stock, .int .i64 stock, .int .i64 stock] 41 (0, 0))) := by show _ = _; rw [← hwf, setCell_eq_setRow _ S 2 _ _ _ _ HSe2.out]; exact setRow_heap _ S _ _ _ _ HSe2.out
 have HFa3 : Hid (wa3.heap[F]? = some (.cells #[.int .i64 wd, .int .i64 h, .pointer (some ⟨I0, 0, none⟩), .pointer (some ⟨I1, 0, none⟩), .pointer (some ⟨I2, 0, none⟩), .pointer (some ⟨P, 0, none⟩)] 91 (0, 0))) := by show _ = _; rw [hsv.block _ (lt_of_block HFe2.out) (blkT HFe2.out HSe2.out (by decide))]; exact HFe2.out
 have HPa3 : Hid (wa3.heap[P]? = some (.cells (p_row fun _ => 0) 105 (0, 0))) := by show _ = _; rw [hsv.block _ (lt_of_block HPe2.out) (blkT HPe2.out HSe2.out (by decide))]; exact HPe2.out
 have HI0a3 : Hid (wa3.heap[I0]? = some (.cells #[.pointer (some ⟨B0, 0, none⟩), .int .i64 ref, .int .i64 0] 94 (0, 0))) := by show _ = _; rw [hsv.block _ (lt_of_block HI0e2.out) (blkT HI0e2.out HSe2.out (by decide))]; exact HI0e2.out
 have HB0a3 : Hid (wa3.heap[B0]? = some (.cells #[.slice none 0 0] 103 (0, 0))) := by show _ = _; rw [hsv.block _ (lt_of_block HB0e2.out) (blkT HB0e2.out HSe2.out (by decide))]; exact HB0e2.out
 have HI1a3 : Hid (wa3.heap[I1]? = some (.cells #[.pointer (some ⟨B1, 0, none⟩), .int .i64 ref, .int .i64 0] 94 (0, 0))) := by show _ = _; rw [hsv.block _ (lt_of_block HI1e2.out) (blkT HI1e2.out HSe2.out (by decide))]; exact HI1e2.out
 have HB1a3 : Hid (wa3.heap[B1]? = some (.cells #[.slice none 0 0] 103 (0, 0))) := by show _ = _; rw [hsv.block _ (lt_of_block HB1e2.out) (blkT HB1e2.out HSe2.out (by decide))]; exact HB1e2.out
 have HI2a3 : Hid (wa3.heap[I2]? = some (.cells #[.pointer (some ⟨B2, 0, none⟩), .int .i64 ref, .int .i64 0] 94 (0, 0))) := by show _ = _; rw [hsv.block _ (lt_of_block HI2e2.out) (blkT HI2e2.out HSe2.out (by decide))]; exact HI2e2.out
 have HB2a3 : Hid (wa3.heap[B2]? = some (.cells #[.slice none 0 0] 103 (0, 0))) := by show _ = _; rw [hsv.block _ (lt_of_block HB2e2.out) (blkT HB2e2.out HSe2.out (by decide))]; exact HB2e2.out
 have HLa3 := hide (HLe2.out.trans (hsv.below HLe2.out.size HLS.out))
 have HWf := hide hwf
 clear hwf hsv HFe2 HPe2 HI0e2 HB0e2 HI1e2 HB1e2 HI2e2 HB2e2 HLe2
 go_wp2
 rw [HWf.out]
 clear c0 f0 HWf HSe2
 rw [rounds_succ]
 go_wp2
 obtain ⟨I, hI⟩ : ∃ I : Nat → Nat, I = fun j => if j = 0 then I0 else if j = 1 then I1 else I2 := ⟨_, rfl⟩
 obtain ⟨b, hb⟩ : ∃ b : Nat → Nat, b = fun j => if j = 0 then B0 else if j = 1 then B1 else B2 := ⟨_, rfl⟩
 have hI0 : I 0 = I0 := by rw [hI]; rfl
 have hI1 : I 1 = I1 := by rw [hI]; rfl
 have hI2 : I 2 = I2 := by rw [hI]; rfl
 have hb0 : b 0 = B0 := by rw [hb]; rfl
 have hb1 : b 1 = B1 := by rw [hb]; rfl
 have hb2 : b 2 = B2 := by rw [hb]; rfl
 have c3 : ∀ j, j < 3 → j = 0 ∨ j = 1 ∨ j = 2 := fun j hj => by omega
 have hfl : PFl w wa3 F P I b (fun _ => .slice none 0 0) (fun _ => []) (Fl.gift cash stock 0) (Fl.bands ref) wd h := by
  refine ⟨by unfold pfloorA; rw [hI0, hI1, hI2]; exact HFa3.out, fun j hj => ?_, fun j hj => ?_, fun j k hj hk hjk => ?_, fun j k hj hk hjk => ?_, fun j k hj hk hjk m hm => (by cases hm), HPa3.out, HLF.out, HLP.out, fun j hj => ?_, HLa3.out⟩
  ·rcases c3 j hj with rfl | rfl | rfl
   ·rw [hI0, hb0]; exact HI0a3.out
   ·rw [hI1, hb1]; exact HI1a3.out
   ·rw [hI2, hb2]; exact HI2a3.out
  ·rcases c3 j hj with rfl | rfl | rfl
   ·rw [hb0]; exact ⟨HB0a3.out, HLB0.out, World.ownsRow_nil _ _ _ _⟩
   ·rw [hb1]; exact ⟨HB1a3.out, HLB1.out, World.ownsRow_nil _ _ _ _⟩
   ·rw [hb2]; exact ⟨HB2a3.out, HLB2.out, World.ownsRow_nil _ _ _ _⟩
  ·have n1 := HNI1.out; have n2 := HNI2.out
   rcases c3 j hj with rfl | rfl | rfl <;> rcases c3 k hk with rfl | rfl | rfl <;> (try exact absurd rfl hjk) <;> simp only [hI0, hI1, hI2] <;> omega
  ·have n1 := HNE1.out; have n2 := HNE2.out
   rcases c3 j hj with rfl | rfl | rfl <;> rcases c3 k hk with rfl | rfl | rfl <;> (try exact absurd rfl hjk) <;> simp only [hb0, hb1, hb2] <;> omega
  ·rcases c3 j hj with rfl | rfl | rfl
   ·rw [hI0]; exact HLI0.out
   ·rw [hI1]; exact HLI1.out
   ·rw [hI2]; exact HLI2.out
 have HFL := hide hfl
 have HGO := hide (fun k (hk : k < 6) => Fl.gift_zero H.out k hk)
 clear hfl hI hb hI0 hI1 hI2 hb0 hb1 hb2 c3 HFa3 HPa3 HI0a3 HI1a3 HI2a3 HB0a3 HB1a3 HB2a3 HLa3 HNI0 HNI1 HNI2 HNE0 HNE1 HNE2 HLB0 HLB1 HLB2 HLI0 HLI1 HLI2
 go_loopw [56] (fun c wr => ∃ (k : Nat), k ≤ 6 ∧ c = .int .i64 k ∧ PFl w wr F P I b (fun _ => .slice none 0 0) (fun _ => []) (Fl.gift cash stock k) (Fl.bands ref) wd h ∧ wr.heap[S]? = some (.cells #[.int .i64 stock, .int .i64 stock, .int .i64 stock] 41 (0, 0))) (fun c _ => 6 - (intOf c).toNat)
 case atStart => exact ⟨0, by omega, rfl, HFL.out, HSa3.out⟩
 case round =>
  obtain ⟨k, hk, rfl, hf, ha⟩ := hrel
  have HF := hide hf; have HA := hide ha
  clear hf ha HFL HSa3
  by_cases hlt : k < 6
  ·have hki : (k : Int) < 6 := by omega
   have fp := HF.out.cellP
   have a0 : wr.cell? ⟨S, 0, none⟩ = some (.int .i64 stock) := cof HA.out rfl
   have a1 : wr.cell? ⟨S, 1, none⟩ = some (.int .i64 stock) := cof HA.out rfl
   have a2 : wr.cell? ⟨S, 2, none⟩ = some (.int .i64 stock) := cof HA.out rfl
   go_wp2_with fail
   refine region_quiet_tail 7 (by kernel_rfl) (by kernel_rfl) ?_
   simp only [List.take_succ_cons, List.take_zero, List.drop_succ_cons, List.drop_zero]
   repeat (first | go_big_quiet_step (fail) | quiet_step (fail))
   refine wpQuiet_nil ?_
   intro _ hw'
   obtain ⟨nq, hw''⟩ := hw'
   subst hw''
   have HA2 : Hid ((wr.drewN nq).heap[S]? = some (.cells #[.int .i64 stock, .int .i64 stock, .int .i64 stock] 41 (0, 0))) := HA.out
   have HF2 := hide (HF.out.later (blw_drew nq))
   clear fp a0 a1 a2 HA HF
   generalize wr.drewN nq = wg at *
   have hg := give_any P ⟨k, cash, stock, stock, stock⟩ (Fl.gift cash stock k) ev wg (HF2.out.er he.out).per HF2.out.pu (Fl.good_gift cash stock k)
   rw [HGO.out k hlt, show errE ev 0 = .nilIface from rfl] at hg
   have HG := hide hg
   clear hg
   unfold giftV at HG
   simp only [] at HG
   go_wp2_with fail
   refine HG.out.mono ?_
   rintro e wh ⟨rfl, hp, hs⟩
   have HF3 : Hid (PFl w wh F P I b (fun _ => .slice none 0 0) (fun _ => []) (Fl.gift cash stock (k + 1)) (Fl.bands ref) wd h) := HF2.out.purse hp hs
   have HA3 : Hid (wh.heap[S]? = some (.cells #[.int .i64 stock, .int .i64 stock, .int .i64 stock] 41 (0, 0))) := by
    show _ = _
    rw [hs.block _ (lt_of_block HA2.out) (blkT HA2.out HF2.out.pu (by decide))]; exact HA2.out
   clear hp hs HG HA2 HF2
   simp only []
   go_wp2
   refine ⟨⟨k + 1, by omega, by go_num, HF3.out, HA3.out⟩, by simp [intOf]; omega⟩
  ·have hki : ¬ (k : Int) < 6 := by omega
   obtain rfl : k = 6 := by omega
   go_wp2
   go_ret2
   exact ⟨F, P, I, b, rfl, HF.out⟩
end
namespace Fl
def a1 : Ask := ⟨111, 0, 0, 0, 0, 101, 4, 1⟩
def a2 : Ask := ⟨111, 1, 0, 0, 1, 99, 4, 2⟩
def l2 : List Cv.Lot := [⟨1, 0, 0, 101, 4⟩, ⟨2, 1, 1, 99, 4⟩]
def L0 : Nat → List Cv.Lot := fun _ => []
def f0 : Nat → Int := gift 1000 10 6
def L1 : Nat → List Cv.Lot := placeL L0 f0 a1
def f1 : Nat → Int := placeF L0 f0 a1
def L2 : Nat → List Cv.Lot := placeL L1 f1 a2
def f2 : Nat → Int := placeF L1 f1 a2
theorem c1 : placeC L0 f0 a1 = 0 := by kernel_rfl
theorem c2 : placeC L1 f1 a2 = 0 := by kernel_rfl
theorem two : L2 0 = l2 := by kernel_rfl
theorem fits : Fits 1000 10 := ⟨by decide, by decide, by decide, by decide⟩
theorem won2 : Cv.Won (L2 0) (bands 100 (0 * 2)) 1000 100 4 := by
 rw [two]
 refine .inr ⟨by decide, by decide, by decide, by decide, fun q h1 h2 => ?_⟩
 have hd : Cv.demand l2 q = if q ≤ 101 then 4 else 0 := by
  simp only [Cv.demand, l2, Cv.sumIf, Cv.dB]
  by_cases h : q ≤ 101 <;> simp [h]
 have hs : Cv.supply l2 q = if 99 ≤ q then 4 else 0 := by
  simp only [Cv.supply, l2, Cv.sumIf, Cv.sB]
  by_cases h : 99 ≤ q <;> simp [h]
 have hl : Cv.left l2 100 = 0 := by kernel_rfl
 have ha : Cv.away (bands 100 (0 * 2)) 100 = 0 := by kernel_rfl
 have hq : Cv.away (bands 100 (0 * 2)) q = max (q - 100) (-(q - 100)) := rfl
 have hlq : Cv.left l2 q = max (Cv.demand l2 q - Cv.supply l2 q) (-(Cv.demand l2 q - Cv.supply l2 q)) := rfl
 rw [hl, ha, hq, hlq]
 unfold Cv.volume
 rw [hd, hs]
 have : q ≤ 98 ∨ q = 99 ∨ q = 100 ∨ q = 101 ∨ 102 ≤ q := by omega
 rcases this with h | rfl | rfl | rfl | h
 ·rw [if_pos (by omega), if_neg (by omega)]; omega
 ·simp; omega
 ·simp
 ·simp; omega
 ·rw [if_neg (by omega), if_pos (by omega)]; omega
theorem open2 : runO (bands 100) 0 10 100 4 = true := by kernel_rfl
theorem fills2 : runF 5 (L2 0) true 100 4 = [(1, 4), (2, 4)] := by rw [two]; kernel_rfl
theorem rest2 : runL L2 0 [(1, 4), (2, 4)] 0 = [] := by kernel_rfl
theorem cash2 : Fs.sett f2 0 100 (L2 0) [(1, 4), (2, 4)] 0 = 600 := by kernel_rfl
end Fl
theorem field60 (x0 x1 x2 x3 x4 x5 x6 x7 : Int) (w : World) : (Instr.field 60 (.agg #[.int .i64 x0, .int .i64 x1, .int .i64 x2, .int .i64 x3, .int .i64 x4, .int .i64 x5, .int .i64 x6, .int .i64 x7]) 0).run Tryz.prog w = .ok (.int .i64 x0) w := by kernel_rfl
section
variable {ev : Nat → Value}
set_option maxHeartbeats 1000000 in
theorem floored_any (w : World) (he : Hid (AEr w ev)) : Calls Tryz.prog 8 #[] w fun e w' => e = .returned (.bool true) ∧ Below w.heap.size w w' := by
 have HN := hide (new_ok 10 2 100 1000 10 w he (by show _ = _; kernel_rfl) (by show _ = _; kernel_rfl) Fl.fits)
 unfold bandV at HN
 have HALL := hide (Fl.new_all (wd := 10) (h := 2) (ref := 100) (by kernel_rfl) (by kernel_rfl) Fl.fits)
 have HS : Hid (Ra.IsU 5) := by unfold Ra.IsU; show _ ∧ _; omega
 go_enter Tryz.func8, Tryz.ntmps8
 go_wp2_with fail
 refine HN.out.mono ?_
 rintro e w1 ⟨F, P, I, b, rfl, hf1⟩
 have HF1 := hide hf1
 have HP1 := hide (place_any Fl.a1 hf1 he.out HALL.out.ok)
 unfold askV askA at HP1
 simp only [Fl.a1] at HP1
 have hc1 := Fl.c1
 unfold Fl.L0 Fl.f0 Fl.a1 at hc1
 rw [hc1, show errE ev 0 = .nilIface from rfl] at HP1
 clear hf1 hc1 HN
 simp only []
 go_wp2_with fail
 refine HP1.out.mono ?_
 rintro e w2 ⟨rfl, v2, hf2, _⟩
 have hok2 : Fs.FOk Fl.L1 Fl.f1 := HALL.out.ok.place Fl.a1
 have hf2' : PFl w w2 F P I b v2 Fl.L1 Fl.f1 (Fl.bands 100) 10 2 := hf2
 have HP2 := hide (place_any Fl.a2 hf2' he.out hok2)
 rw [Fl.c2, show errE ev 0 = .nilIface from rfl] at HP2
 unfold askV askA at HP2
 simp only [Fl.a2] at HP2
 clear hf2 hf2' HP1 HF1
 simp only []
 go_wp2_with fail
 refine HP2.out.mono ?_
 rintro e w3 ⟨rfl, v3, hf3, _⟩
 have hok3 : Fs.FOk Fl.L2 Fl.f2 := hok2.place Fl.a2
 have hf3' : PFl w w3 F P I b v3 Fl.L2 Fl.f2 (Fl.bands 100) 10 2 := hf3
 have hall3 : FAll Fl.L2 Fl.f2 (Fl.bands 100) 10 2 := ⟨hok3, HALL.out.band, HALL.out.rule⟩
 have hrun := run_any 0 (by decide) 5 100 4 HS.out hf3' he.out hall3 Fl.won2
 rw [Fl.open2, Fl.fills2] at hrun
 have HRUN := hide hrun
 unfold resV at HRUN
 clear hf3 hf3' hall3 hok3 hok2 HP2 HALL HS hrun
 simp only []
 go_wp2_with fail
 refine HRUN.out.mono ?_
 rintro e w4 ⟨vF, v4, rfl, hf4, _, hrow, _⟩
 have hL : Fl.runL Fl.L2 0 [(1, 4), (2, 4)] 0 = [] := Fl.rest2
 have hC : Fs.sett Fl.f2 0 100 (Fl.L2 0) [(1, 4), (2, 4)] 0 = 600 := Fl.cash2
 obtain ⟨aF, cF, hvF⟩ := hrow.val
 rw [show [((1 : Int), (4 : Int)), (2, 4)].length = 2 from rfl] at hvF
 subst hvF
 obtain ⟨w5, hw5⟩ : ∃ w5, w4.alloc (.cells #[.int .i64 100, .int .i64 4, .bool true, .slice aF 2 cF] 50) = w5 := ⟨_, rfl⟩
 have hb5 : Below w4.heap.size w4 w5 := by rw [← hw5]; exact bal
 have HF5 := hide (hf4.later hb5)
 have hR5 : w5.heap[w4.heap.size]? = some (.cells #[.int .i64 100, .int .i64 4, .bool true, .slice aF 2 cF] 50 (0, 0)) := by rw [← hw5]; exact heap_alloc_new _ _
 have HR5 := hide hR5; have HW5 := hide hw5; have HL := hide hL; have HC := hide hC
 clear hb5 hw5 hR5 hf4 hrow hL hC HRUN
 have r0 : w5.cell? ⟨w4.heap.size, 0, none⟩ = some (.int .i64 100) := cof HR5.out rfl
 have r1 : w5.cell? ⟨w4.heap.size, 1, none⟩ = some (.int .i64 4) := cof HR5.out rfl
 have r2 : w5.cell? ⟨w4.heap.size, 2, none⟩ = some (.bool true) := cof HR5.out rfl
 have HBI := hide (book_in 0 (by decide) HF5.out)
 rw [show ((0 : Nat) : Int) = 0 from rfl] at HBI
 simp only []
 go_wp2_with fail
 rw [HW5.out]
 refine HBI.out.mono ?_
 rintro e w5 ⟨rfl, rfl⟩
 simp only []
 have HPU := hide (purse_of HF5.out)
 have HOF := hide (of_any P 0 _ w5 HF5.out.pu)
 rw [show ofV (Fs.sett Fl.f2 0 100 (Fl.L2 0) [(1, 4), (2, 4)]) 0 = hasV (Fs.sett Fl.f2 0 100 (Fl.L2 0) [(1, 4), (2, 4)]) 0 from rfl] at HOF
 unfold hasV at HOF
 rw [show Fs.sett Fl.f2 0 100 (Fl.L2 0) [(1, 4), (2, 4)] (0 * 8) = 600 from HC.out] at HOF
 go_wp2_with fail
 refine HPU.out.mono ?_
 rintro e w5 ⟨rfl, rfl⟩
 simp only []
 go_wp2_with fail
 refine HOF.out.mono ?_
 rintro e w6 ⟨rfl, hb6⟩
 have HF6 := hide (HF5.out.later hb6)
 clear hb6 HOF HPU
 simp only []
 have HB6 := hide (book_in 0 (by decide) HF6.out)
 rw [show ((0 : Nat) : Int) = 0 from rfl] at HB6
 have hbk := HF6.out.bk 0 (by decide)
 rw [HL.out] at hbk
 have f60 := @field60
 have HLO := hide (lots_any (b 0) w.heap.size (v4 0) [] w6 hbk (by show _ ≤ _; decide))
 go_wp2_with fail
 refine HB6.out.mono ?_
 rintro e w6 ⟨rfl, rfl⟩
 simp only []
 go_wp2_with fail
 refine HLO.out.mono ?_
 rintro e w7 ⟨v7, rfl, hr7, hb7⟩
 have HF7 := hide (HF6.out.later hb7)
 obtain ⟨g7, c7, hv7⟩ : ∃ g c, v7 = .slice g 0 c := by
  rcases lots_row hr7 with ⟨_, a, c, e⟩ | ⟨g, o, c, e, _⟩
  ·exact ⟨a, c, e⟩
  ·exact ⟨_, _, e⟩
 subst hv7
 clear hr7 hb7
 simp only []
 go_wp2
 go_ret
 exact ⟨rfl, HF7.out.bl⟩
end
def FSome (w W : World) (F P : Nat) (I b : Nat → Nat) (wd h : Int) : Prop := ∃ v L pf n, PFl w W F P I b v L pf n wd h ∧ FAll L pf n wd h
section
variable {w W : World} {F P : Nat} {I b : Nat → Nat} {v : Nat → Value} {L : Nat → List Cv.Lot} {pf n : Nat → Int} {wd h : Int} {ev : Nat → Value}
theorem FSome.bl (H : FSome w W F P I b wd h) : Below w.heap.size w W := by obtain ⟨_, _, _, _, h1, _⟩ := H; exact h1.bl
end
def Foot (F P : Nat) (I b : Nat → Nat) (v : Nat → Value) (k : Nat) : Prop := k = F ∨ k = P ∨ ∃ i, i < 3 ∧ (k = I i ∨ k = b i ∨ (v i).ownBlock = some k)
section
variable {w W W' : World} {F P G Q : Nat} {I b J c : Nat → Nat} {v v' u u' : Nat → Value} {L L' M M' : Nat → List Cv.Lot} {pf pf' qf qf' n n' m m' : Nat → Int} {wd h : Int} {ev : Nat → Value}
theorem PFl.lows (hF : PFl w W F P I b v L pf n wd h) {k : Nat} (hk : Foot F P I b v k) : k < W.heap.size ∧ w.heap.size ≤ k := by
 rcases hk with rfl | rfl | ⟨i, hi, rfl | rfl | e⟩
 ·exact ⟨hF.lt, hF.lo⟩
 ·exact ⟨hF.pu.lt, hF.lop⟩
 ·exact ⟨lt_of_block (hF.it i hi), hF.loI i hi⟩
 ·exact ⟨(hF.bk i hi).lt, (hF.bk i hi).lo⟩
 ·have := (hF.bk i hi).rowLt k e; exact ⟨this.2, this.1⟩
theorem PFl.keep (hF : PFl w W F P I b v L pf n wd h) (hk : ∀ k, Foot F P I b v k → W'.heap[k]? = W.heap[k]?) (hb : Below w.heap.size w W') : PFl w W' F P I b v L pf n wd h := by
 refine ⟨by rw [hk F (.inl rfl)]; exact hF.blk, fun i hi => by rw [hk _ (.inr (.inr ⟨i, hi, .inl rfl⟩))]; exact hF.it i hi, fun i hi => ?_, hF.neI, hF.ne, hF.ap, (hk P (.inr (.inl rfl))).trans hF.pu, hF.lo, hF.lop, hF.loI, hb⟩
 have hbk := hF.bk i hi
 refine ⟨by rw [hk _ (.inr (.inr ⟨i, hi, .inr (.inl rfl)⟩))]; exact hbk.cell, hbk.lo, hbk.row.1, ?_⟩
 rcases hbk.row.2 with hn | ⟨g, cap, cur, e, hg, hgg, rest⟩
 ·exact .inl hn
 ·exact .inr ⟨g, cap, cur, e, hg, by rw [hk g (.inr (.inr ⟨i, hi, .inr (.inr (by rw [e]; rfl))⟩))]; exact hgg, rest⟩
structure Two (w W : World) (F P : Nat) (I b : Nat → Nat) (v : Nat → Value) (L : Nat → List Cv.Lot) (pf n : Nat → Int) (G Q : Nat) (J c : Nat → Nat) (u : Nat → Value) (M : Nat → List Cv.Lot) (qf m : Nat → Int) (wd h : Int) : Prop where
 f : PFl w W F P I b v L pf n wd h
 g : PFl w W G Q J c u M qf m wd h
 dj : ∀ k, Foot F P I b v k → Foot G Q J c u k → False
theorem Two.symm (T : Two w W F P I b v L pf n G Q J c u M qf m wd h) : Two w W G Q J c u M qf m F P I b v L pf n wd h := ⟨T.g, T.f, fun k h1 h2 => T.dj k h2 h1⟩
theorem Two.act (T : Two w W F P I b v L pf n G Q J c u M qf m wd h) (hf : PFl w W' F P I b v' L' pf' n' wd h) (hs : FStep W W' P I b v v') : Two w W' F P I b v' L' pf' n' G Q J c u M qf m wd h := by
 refine ⟨hf, T.g.keep (fun k hk => ?_) hf.bl, fun k h1 h2 => ?_⟩
 ·have hl := T.g.lows hk
  refine hs.keep k hl.1 (fun e => T.dj k (.inr (.inl e)) hk) (fun i hi => ⟨fun e => T.dj k (.inr (.inr ⟨i, hi, .inl e⟩)) hk, fun e => T.dj k (.inr (.inr ⟨i, hi, .inr (.inl e)⟩)) hk, fun e => T.dj k (.inr (.inr ⟨i, hi, .inr (.inr e)⟩)) hk⟩)
 ·have hl := T.g.lows h2
  rcases h1 with e | e | ⟨i, hi, e | e | e⟩
  ·exact T.dj k (.inl e) h2
  ·exact T.dj k (.inr (.inl e)) h2
  ·exact T.dj k (.inr (.inr ⟨i, hi, .inl e⟩)) h2
  ·exact T.dj k (.inr (.inr ⟨i, hi, .inr (.inl e)⟩)) h2
  ·rcases hs.new i hi k e with h3 | h3
   ·exact T.dj k (.inr (.inr ⟨i, hi, .inr (.inr h3)⟩)) h2
   ·omega
theorem FStep.other (hs : FStep W W' P I b v v') (hF : PFl w W F P I b v L pf n wd h) {q : Nat} {a : Array Value} {T : TypeId} {fz : Nat × Nat} (hq : W.heap[q]? = some (.cells a T fz)) (h1 : T ≠ 56) (h2 : T ≠ 105) (h3 : T ≠ 94) (h4 : T ≠ 103) : W'.heap[q]? = some (.cells a T fz) := by
 rw [hs.keep q (lt_of_block hq) (blkT hq hF.pu h2) (fun j hj => ⟨blkT hq (hF.it j hj) h3, blkT hq (hF.bk j hj).cell h4, rowT (hF.bk j hj).row hq h1⟩)]
 exact hq
end
end Go.Proofs.YtdggddjgipgllaaGreatDoor
