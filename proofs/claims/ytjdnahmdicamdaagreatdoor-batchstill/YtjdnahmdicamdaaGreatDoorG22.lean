/- New of package batch, by its contract: a new floor. -/
import Derived.Test.YtjdnahmdicamdaaGreatDoorG21
namespace Go.Proofs.YtjdnahmdicamdaaGreatDoor
open Go.RowKit
set_option maxRecDepth 100000
section
variable {ev : Nat → Value}
/-- what New answers and leaves -/
def NewAns (w w' : World) (e : Ending) (wd h ref cash stock : Int) : Prop := ∃ F P I b, e = .returned (.tuple #[.pointer (some ⟨F, 0, none⟩), .nilIface]) ∧ PFl w w' F P I b (fun _ => .slice none 0 0) (fun _ => []) (Fl.gift cash stock 6) (Fl.bands ref) wd h
set_option maxHeartbeats 1000000 in
theorem new_ok (wd h ref cash stock : Int) (w : World) (he : Hid (AEr w ev)) (hr : Hid (Bd.rOk wd h = true)) (hf : Hid (Wi.withinB ref 1 1000 = true)) (H : Hid (Fl.Fits cash stock)) :
    Calls Tryz.prog 9 #[bandV wd h, .int .i64 ref, .int .i64 cash, .int .i64 stock] w fun e w' => NewAns w w' e wd h ref cash stock := by
  have hb0 : Below w.heap.size w (w.alloc (.cells #[.int .i64 wd, .int .i64 h] 31)) := (Below.refl _ _).alloc (Nat.le_refl _) _
  have hck := rcheck_any wd h 252 (ev 1) (w.alloc (.cells #[.int .i64 wd, .int .i64 h] 31)) (he.out.below hb0).ber
  rw [hr.out, show okE 252 (ev 1) true = .nilIface from rfl] at hck
  have HCK := hide hck
  have HB0 := hide hb0
  have hru : (w.alloc (.cells #[.int .i64 wd, .int .i64 h] 31)).heap[w.heap.size]? = some (.cells #[.int .i64 wd, .int .i64 h] 31 (0, 0)) := heap_alloc_new _ _
  have HRU := hide hru
  clear hb0 hck hru
  unfold bandV at HCK ⊢
  have HW1 := hide (fun W => within_any ref 1 1000 W)
  have HW2 := hide (fun W => within_any cash 0 1073741824 W)
  have HW3 := hide (fun W => within_any stock 0 100000 W)
  have e1 : Wi.withinB cash 0 1073741824 = true := by have := H.out.c0; have := H.out.c1; simp [Wi.withinB]; omega
  have e2 : Wi.withinB stock 0 100000 = true := by have := H.out.s0; have := H.out.s1; simp [Wi.withinB]; omega
  rw [hf.out] at HW1; rw [e1] at HW2; rw [e2] at HW3
  clear e1 e2
  go_enter Tryz.func9, Tryz.ntmps9
  go_wp2_with fail
  refine HCK.out.mono ?_
  rintro e w2 ⟨rfl, hb2⟩
  have HL2 := hide (HB0.out.trans (hb2.mono HB0.out.size))
  have HRU2 : Hid (w2.heap[w.heap.size]? = some (.cells #[.int .i64 wd, .int .i64 h] 31 (0, 0))) := by show _ = _; rw [hb2.block _ (lt_of_block HRU.out)]; exact HRU.out
  clear hb2 HB0 HRU HCK
  obtain ⟨Ru, hRu⟩ : ∃ Ru, w.heap.size = Ru := ⟨_, rfl⟩
  rw [hRu] at HRU2
  rw [hRu]
  have HRe := hide hRu
  clear hRu
  simp only []
  go_wp2_with fail
  refine (HW1.out _).mono ?_
  rintro e w2 ⟨rfl, rfl⟩
  simp only []
  go_wp2_with fail
  refine (HW2.out _).mono ?_
  rintro e w2 ⟨rfl, rfl⟩
  simp only []
  go_wp2_with fail
  refine (HW3.out _).mono ?_
  rintro e w2 ⟨rfl, rfl⟩
  clear HW1 HW2 HW3
  simp only []
  go_wp2_with fail
  obtain ⟨XT, val, hcl, hmk⟩ := rows3_all Ru Ru Ru (.cells #[.int .i64 wd, .int .i64 h] 31 (0, 0)) (.cells #[.int .i64 wd, .int .i64 h] 31 (0, 0)) (.cells #[.int .i64 wd, .int .i64 h] 31 (0, 0))
  have HMK := hide hmk
  obtain ⟨y0, hy0⟩ := hmk w2.drew ⟨HRU2.out, HRU2.out, HRU2.out⟩
  have hnx : Nonempty XT := ⟨y0⟩
  have u0 : ∀ x, (val x).cell? ⟨Ru, 0, none⟩ = some (.int .i64 wd) := fun x => by rw [cell_of_row _ _ _ _ _ _ (hcl x).1]; rfl
  have u1 : ∀ x, (val x).cell? ⟨Ru, 1, none⟩ = some (.int .i64 h) := fun x => by rw [cell_of_row _ _ _ _ _ _ (hcl x).1]; rfl
  clear hmk hcl
  have hbd : Below w2.heap.size w2 w2.drew := ⟨rfl, rfl, rfl, Nat.le_refl _, fun _ _ => rfl⟩
  have HL3 := hide (HL2.out.trans (hbd.mono HL2.out.size))
  have HRU3 : Hid (w2.drew.heap[Ru]? = some (.cells #[.int .i64 wd, .int .i64 h] 31 (0, 0))) := HRU2.out
  clear hbd HL2 HRU2
  refine region_plan (val := val) (.read 0 (.one 1 (.read 2 (.one 3 (.read 4 .done))))) (by kernel_rfl) (by kernel_rfl) y0 hy0 ?_
  rw [hy0]
  clear hy0
  generalize w2.drew = w3 at *
  refine walkP_read rfl (fun K hK => ?_)
  refine ⟨by rfl, ?_⟩
  unfold isRd
  go_simp
  refine hK _ ?_
  clear hK K
  refine spec_step rfl (fun K hK => ?_)
  refine ⟨by rfl, ?_⟩
  unfold upM
  go_simp
  refine (new_any _).mono ?_
  rintro e w4 ⟨rfl, hw4⟩
  have hbc : Below w3.heap.size w3 w4 := by rw [hw4]; exact (Below.refl _ _).alloc (Nat.le_refl _) _
  obtain ⟨P, hP⟩ : ∃ P, w3.heap.size = P := ⟨_, rfl⟩
  have HP4 : Hid (w4.heap[P]? = some (.cells (p_row fun _ => 0) 105 (0, 0))) := by show _ = _; rw [hw4, ← hP]; exact heap_alloc_new _ _
  have HRU4 : Hid (w4.heap[Ru]? = some (.cells #[.int .i64 wd, .int .i64 h] 31 (0, 0))) := by show _ = _; rw [hbc.block _ (lt_of_block HRU3.out)]; exact HRU3.out
  have HL4 := hide (HL3.out.trans (hbc.mono HL3.out.size))
  have HLP : Hid (w.heap.size ≤ P) := by have := HL3.out.size; show _ ≤ _; omega
  refine ⟨_, rfl, HMK.out _ ⟨HRU4.out, HRU4.out, HRU4.out⟩, hK _ _ ?_⟩
  rw [hP]
  clear hK K hbc hw4 hP HL3 HRU3
  refine walkP_read rfl (fun K hK => ?_)
  refine ⟨by rfl, ?_⟩
  unfold isRd
  go_simp
  refine hK _ ?_
  clear hK K
  refine spec_step rfl (fun K hK => ?_)
  refine ⟨by rfl, ?_⟩
  unfold upM
  go_simp
  obtain ⟨F, hF⟩ : ∃ F, w4.heap.size = F := ⟨_, rfl⟩
  obtain ⟨w5, hw5⟩ : ∃ x, w4.alloc (.cells #[.int .i64 wd, .int .i64 h, .pointer none, .pointer none, .pointer none, .pointer (some ⟨P, 0, none⟩)] 91) = x := ⟨_, rfl⟩
  have hbc : Below w4.heap.size w4 w5 := by rw [← hw5]; exact (Below.refl _ _).alloc (Nat.le_refl _) _
  have HF5 : Hid (w5.heap[F]? = some (.cells #[.int .i64 wd, .int .i64 h, .pointer none, .pointer none, .pointer none, .pointer (some ⟨P, 0, none⟩)] 91 (0, 0))) := by show _ = _; rw [← hw5, ← hF]; exact heap_alloc_new _ _
  have HP5 : Hid (w5.heap[P]? = some (.cells (p_row fun _ => 0) 105 (0, 0))) := by show _ = _; rw [hbc.block _ (lt_of_block HP4.out)]; exact HP4.out
  have HRU5 : Hid (w5.heap[Ru]? = some (.cells #[.int .i64 wd, .int .i64 h] 31 (0, 0))) := by show _ = _; rw [hbc.block _ (lt_of_block HRU4.out)]; exact HRU4.out
  have HL5 := hide (HL4.out.trans (hbc.mono HL4.out.size))
  have HLF : Hid (w.heap.size ≤ F) := by have := HL4.out.size; show _ ≤ _; omega
  rw [hF, hw5]
  refine ⟨HMK.out _ ⟨HRU5.out, HRU5.out, HRU5.out⟩, hK _ _ ?_⟩
  clear hK K hbc hw5 hF HL4 HP4 HRU4
  refine walkP_read rfl (fun K hK => ?_)
  refine ⟨by rfl, ?_⟩
  unfold isRd
  go_simp
  refine hK _ ?_
  clear hK K
  refine walkP_done ?_
  clear u0 u1 HMK
  clear y0 hnx
  clear val
  clear XT
  obtain ⟨S, hS⟩ : ∃ S, w5.heap.size = S := ⟨_, rfl⟩
  obtain ⟨wa0, hwa⟩ : ∃ x, w5.alloc (.cells #[.int .i64 0, .int .i64 0, .int .i64 0] 41) = x := ⟨_, rfl⟩
  have hbc : Below w5.heap.size w5 wa0 := by rw [← hwa]; exact (Below.refl _ _).alloc (Nat.le_refl _) _
  have HSa0 : Hid (wa0.heap[S]? = some (.cells #[.int .i64 0, .int .i64 0, .int .i64 0] 41 (0, 0))) := by show _ = _; rw [← hwa, ← hS]; exact heap_alloc_new _ _
  have HFa0 : Hid (wa0.heap[F]? = some (.cells #[.int .i64 wd, .int .i64 h, .pointer none, .pointer none, .pointer none, .pointer (some ⟨P, 0, none⟩)] 91 (0, 0))) := by show _ = _; rw [hbc.block _ (lt_of_block HF5.out)]; exact HF5.out
  have HPa0 : Hid (wa0.heap[P]? = some (.cells (p_row fun _ => 0) 105 (0, 0))) := by show _ = _; rw [hbc.block _ (lt_of_block HP5.out)]; exact HP5.out
  have HLa0 := hide (HL5.out.trans (hbc.mono HL5.out.size))
  have HLS : Hid (w.heap.size ≤ S) := by have := HL5.out.size; show _ ≤ _; omega
  have HWA := hide hwa; have HSe := hide hS
  clear hbc hwa hS HL5 HF5 HP5 HRU5
  go_wp2
  rw [HWA.out, HSe.out]
  clear HWA HSe
  refine wp_loop_rounds 4 ?_
  rw [rounds_succ]
  go_wp2_with fail
  have hnx : Nonempty World := ⟨wa0⟩
  refine region_plan (X := World) (val := fun x => x) (.read 0 (.read 1 (.read 3 (.read 4 (.read 7 (.read 8 (.one 2 (.read 5 (.one 6 (.read 9 (.one 10 .done))))))))))) (by kernel_rfl) (by kernel_rfl) wa0.drew rfl ?_
  have hbd : Below wa0.heap.size wa0 wa0.drew := ⟨rfl, rfl, rfl, Nat.le_refl _, fun _ _ => rfl⟩
  have HFb0 : Hid (wa0.drew.heap[F]? = some (.cells #[.int .i64 wd, .int .i64 h, .pointer none, .pointer none, .pointer none, .pointer (some ⟨P, 0, none⟩)] 91 (0, 0))) := by show _ = _; rw [hbd.block _ (lt_of_block HFa0.out)]; exact HFa0.out
  have HSb0 : Hid (wa0.drew.heap[S]? = some (.cells #[.int .i64 0, .int .i64 0, .int .i64 0] 41 (0, 0))) := by show _ = _; rw [hbd.block _ (lt_of_block HSa0.out)]; exact HSa0.out
  have HPb0 : Hid (wa0.drew.heap[P]? = some (.cells (p_row fun _ => 0) 105 (0, 0))) := by show _ = _; rw [hbd.block _ (lt_of_block HPa0.out)]; exact HPa0.out
  have HLb0 := hide (HLa0.out.trans (hbd.mono HLa0.out.size))
  clear hbd HFa0 HSa0 HPa0 HLa0
  show walkP _ _ _ _ _ _ wa0.drew
  generalize wa0.drew = wb0 at *
  refine walkP_read rfl (fun K hK => ?_)
  refine ⟨by rfl, ?_⟩
  unfold isRd
  go_simp
  refine hK _ ?_
  clear hK K
  refine walkP_read rfl (fun K hK => ?_)
  refine ⟨by rfl, ?_⟩
  unfold isRd
  go_simp
  refine hK _ ?_
  clear hK K
  refine walkP_read rfl (fun K hK => ?_)
  refine ⟨by rfl, ?_⟩
  unfold isRd
  go_simp
  refine hK _ ?_
  clear hK K
  refine walkP_read rfl (fun K hK => ?_)
  refine ⟨by rfl, ?_⟩
  unfold isRd
  go_simp
  refine hK _ ?_
  clear hK K
  refine walkP_read rfl (fun K hK => ?_)
  refine ⟨by rfl, ?_⟩
  unfold isRd
  go_simp
  refine hK _ ?_
  clear hK K
  refine walkP_read rfl (fun K hK => ?_)
  refine ⟨by rfl, ?_⟩
  unfold isRd
  go_simp
  refine hK _ ?_
  clear hK K
  refine spec_step rfl (fun K hK => ?_)
  refine ⟨by rfl, ?_⟩
  unfold upM
  go_simp
  refine (newBook_any _).mono ?_
  rintro e wc0 ⟨rfl, hwc⟩
  have hbc : Below wb0.heap.size wb0 wc0 := by rw [hwc]; exact (Below.refl _ _).alloc (Nat.le_refl _) _
  obtain ⟨B0, hB0⟩ : ∃ B, wb0.heap.size = B := ⟨_, rfl⟩
  have HB0c0 : Hid (wc0.heap[B0]? = some (.cells #[.slice none 0 0] 103 (0, 0))) := by show _ = _; rw [hwc, ← hB0]; exact heap_alloc_new _ _
  have HFc0 : Hid (wc0.heap[F]? = some (.cells #[.int .i64 wd, .int .i64 h, .pointer none, .pointer none, .pointer none, .pointer (some ⟨P, 0, none⟩)] 91 (0, 0))) := by show _ = _; rw [hbc.block _ (lt_of_block HFb0.out)]; exact HFb0.out
  have HSc0 : Hid (wc0.heap[S]? = some (.cells #[.int .i64 0, .int .i64 0, .int .i64 0] 41 (0, 0))) := by show _ = _; rw [hbc.block _ (lt_of_block HSb0.out)]; exact HSb0.out
  have HPc0 : Hid (wc0.heap[P]? = some (.cells (p_row fun _ => 0) 105 (0, 0))) := by show _ = _; rw [hbc.block _ (lt_of_block HPb0.out)]; exact HPb0.out
  have HLc0 := hide (HLb0.out.trans (hbc.mono HLb0.out.size))
  have HLB0 : Hid (w.heap.size ≤ B0) := by have := HLb0.out.size; show _ ≤ _; omega
  refine ⟨_, rfl, hK _ _ ?_⟩
  rw [hB0]
  have HNE0 : Hid (B0 ≠ F ∧ B0 ≠ S ∧ B0 ≠ P) := by
    have l1 := lt_of_block HFb0.out; have l2 := lt_of_block HSb0.out; have l3 := lt_of_block HPb0.out
    refine ⟨by omega, by omega, by omega⟩
  clear hK K hbc hwc hB0 HFb0 HSb0 HPb0 HLb0
  refine walkP_read rfl (fun K hK => ?_)
  refine ⟨by rfl, ?_⟩
  unfold isRd
  go_simp
  refine hK _ ?_
  clear hK K
  refine spec_step rfl (fun K hK => ?_)
  refine ⟨by rfl, ?_⟩
  unfold upM
  go_simp
  obtain ⟨I0, hI0⟩ : ∃ I, wc0.heap.size = I := ⟨_, rfl⟩
  obtain ⟨wd0, hwd⟩ : ∃ x, wc0.alloc (.cells #[.pointer (some ⟨B0, 0, none⟩), .int .i64 ref, .int .i64 0] 94) = x := ⟨_, rfl⟩
  have hbd : Below wc0.heap.size wc0 wd0 := by rw [← hwd]; exact (Below.refl _ _).alloc (Nat.le_refl _) _
  have HI0d0 : Hid (wd0.heap[I0]? = some (.cells #[.pointer (some ⟨B0, 0, none⟩), .int .i64 ref, .int .i64 0] 94 (0, 0))) := by show _ = _; rw [← hwd, ← hI0]; exact heap_alloc_new _ _
  rw [hI0, hwd]
  have HFd0 : Hid (wd0.heap[F]? = some (.cells #[.int .i64 wd, .int .i64 h, .pointer none, .pointer none, .pointer none, .pointer (some ⟨P, 0, none⟩)] 91 (0, 0))) := by show _ = _; rw [hbd.block _ (lt_of_block HFc0.out)]; exact HFc0.out
  have HSd0 : Hid (wd0.heap[S]? = some (.cells #[.int .i64 0, .int .i64 0, .int .i64 0] 41 (0, 0))) := by show _ = _; rw [hbd.block _ (lt_of_block HSc0.out)]; exact HSc0.out
  have HPd0 : Hid (wd0.heap[P]? = some (.cells (p_row fun _ => 0) 105 (0, 0))) := by show _ = _; rw [hbd.block _ (lt_of_block HPc0.out)]; exact HPc0.out
  have HB0d0 : Hid (wd0.heap[B0]? = some (.cells #[.slice none 0 0] 103 (0, 0))) := by show _ = _; rw [hbd.block _ (lt_of_block HB0c0.out)]; exact HB0c0.out
  have HLd0 := hide (HLc0.out.trans (hbd.mono HLc0.out.size))
  have HLI0 : Hid (w.heap.size ≤ I0) := by have := HLc0.out.size; show _ ≤ _; omega
  have HNI0 : Hid (I0 ≠ F ∧ I0 ≠ S) := by
    have l1 := lt_of_block HFc0.out; have l2 := lt_of_block HSc0.out
    refine ⟨by omega, by omega⟩
  refine hK _ _ ?_
  clear hK K hbd hwd hI0 HFc0 HSc0 HPc0 HB0c0 HLc0
  refine walkP_read rfl (fun K hK => ?_)
  refine ⟨by rfl, ?_⟩
  unfold isRd
  go_simp
  refine hK _ ?_
  clear hK K
  have c0 : wd0.cell? ⟨F, 2, none⟩ = some (.pointer none) := by rw [cell_of_row wd0 _ 2 _ _ _ HFd0.out]; rfl
  have f0 : wd0.frozen? ⟨F, 2, none⟩ = false := by simp [World.frozen?, HFd0.out]
  obtain ⟨we0, hwe⟩ : ∃ x, wd0.setCell ⟨F, 2, none⟩ (.pointer (some ⟨I0, 0, none⟩)) = x := ⟨_, rfl⟩
  have hsv : Save wd0 we0 F := by rw [← hwe]; exact Save.setCell _ _ _ _
  have HFe0 : Hid (we0.heap[F]? = some (.cells #[.int .i64 wd, .int .i64 h, .pointer (some ⟨I0, 0, none⟩), .pointer none, .pointer none, .pointer (some ⟨P, 0, none⟩)] 91 (0, 0))) := by show _ = _; rw [← hwe, setCell_eq_setRow _ F 2 _ _ _ _ HFd0.out]; exact setRow_heap _ F _ _ _ _ HFd0.out
  have HSe0 : Hid (we0.heap[S]? = some (.cells #[.int .i64 0, .int .i64 0, .int .i64 0] 41 (0, 0))) := by show _ = _; rw [hsv.block _ (lt_of_block HSd0.out) (blkT HSd0.out HFd0.out (by decide))]; exact HSd0.out
  have HPe0 : Hid (we0.heap[P]? = some (.cells (p_row fun _ => 0) 105 (0, 0))) := by show _ = _; rw [hsv.block _ (lt_of_block HPd0.out) (blkT HPd0.out HFd0.out (by decide))]; exact HPd0.out
  have HB0e0 : Hid (we0.heap[B0]? = some (.cells #[.slice none 0 0] 103 (0, 0))) := by show _ = _; rw [hsv.block _ (lt_of_block HB0d0.out) (blkT HB0d0.out HFd0.out (by decide))]; exact HB0d0.out
  have HI0e0 : Hid (we0.heap[I0]? = some (.cells #[.pointer (some ⟨B0, 0, none⟩), .int .i64 ref, .int .i64 0] 94 (0, 0))) := by show _ = _; rw [hsv.block _ (lt_of_block HI0d0.out) (blkT HI0d0.out HFd0.out (by decide))]; exact HI0d0.out
  have HLe0 := hide (HLd0.out.trans (hsv.below HLd0.out.size HLF.out))
  have HWe := hide hwe
  clear hwe
  refine spec_step rfl (fun K hK => ?_)
  refine ⟨by rfl, ?_⟩
  unfold upM
  go_simp
  rw [HWe.out]
  refine hK _ _ ?_
  clear hK K c0 f0 hsv HWe hnx HFd0 HSd0 HPd0 HB0d0 HI0d0 HLd0
  refine walkP_done ?_
  have c0 : we0.cell? ⟨S, 0, none⟩ = some (.int .i64 0) := by rw [cell_of_row we0 _ 0 _ _ _ HSe0.out]; rfl
  have f0 : we0.frozen? ⟨S, 0, none⟩ = false := by simp [World.frozen?, HSe0.out]
  obtain ⟨wa1, hwf⟩ : ∃ x, we0.setCell ⟨S, 0, none⟩ (.int .i64 stock) = x := ⟨_, rfl⟩
  have hsv : Save we0 wa1 S := by rw [← hwf]; exact Save.setCell _ _ _ _
  have HSa1 : Hid (wa1.heap[S]? = some (.cells #[.int .i64 stock, .int .i64 0, .int .i64 0] 41 (0, 0))) := by show _ = _; rw [← hwf, setCell_eq_setRow _ S 0 _ _ _ _ HSe0.out]; exact setRow_heap _ S _ _ _ _ HSe0.out
  have HFa1 : Hid (wa1.heap[F]? = some (.cells #[.int .i64 wd, .int .i64 h, .pointer (some ⟨I0, 0, none⟩), .pointer none, .pointer none, .pointer (some ⟨P, 0, none⟩)] 91 (0, 0))) := by show _ = _; rw [hsv.block _ (lt_of_block HFe0.out) (blkT HFe0.out HSe0.out (by decide))]; exact HFe0.out
  have HPa1 : Hid (wa1.heap[P]? = some (.cells (p_row fun _ => 0) 105 (0, 0))) := by show _ = _; rw [hsv.block _ (lt_of_block HPe0.out) (blkT HPe0.out HSe0.out (by decide))]; exact HPe0.out
  have HI0a1 : Hid (wa1.heap[I0]? = some (.cells #[.pointer (some ⟨B0, 0, none⟩), .int .i64 ref, .int .i64 0] 94 (0, 0))) := by show _ = _; rw [hsv.block _ (lt_of_block HI0e0.out) (blkT HI0e0.out HSe0.out (by decide))]; exact HI0e0.out
  have HB0a1 : Hid (wa1.heap[B0]? = some (.cells #[.slice none 0 0] 103 (0, 0))) := by show _ = _; rw [hsv.block _ (lt_of_block HB0e0.out) (blkT HB0e0.out HSe0.out (by decide))]; exact HB0e0.out
  have HLa1 := hide (HLe0.out.trans (hsv.below HLe0.out.size HLS.out))
  have HWf := hide hwf
  clear hwf hsv HFe0 HPe0 HI0e0 HB0e0 HLe0
  go_wp2
  rw [HWf.out]
  clear c0 f0 HWf HSe0
  rw [rounds_succ]
  go_wp2_with fail
  have hnx : Nonempty World := ⟨wa1⟩
  refine region_plan (X := World) (val := fun x => x) (.read 0 (.read 1 (.read 3 (.read 4 (.read 7 (.read 8 (.one 2 (.read 5 (.one 6 (.read 9 (.one 10 .done))))))))))) (by kernel_rfl) (by kernel_rfl) wa1.drew rfl ?_
  have hbd : Below wa1.heap.size wa1 wa1.drew := ⟨rfl, rfl, rfl, Nat.le_refl _, fun _ _ => rfl⟩
  have HFb1 : Hid (wa1.drew.heap[F]? = some (.cells #[.int .i64 wd, .int .i64 h, .pointer (some ⟨I0, 0, none⟩), .pointer none, .pointer none, .pointer (some ⟨P, 0, none⟩)] 91 (0, 0))) := by show _ = _; rw [hbd.block _ (lt_of_block HFa1.out)]; exact HFa1.out
  have HSb1 : Hid (wa1.drew.heap[S]? = some (.cells #[.int .i64 stock, .int .i64 0, .int .i64 0] 41 (0, 0))) := by show _ = _; rw [hbd.block _ (lt_of_block HSa1.out)]; exact HSa1.out
  have HPb1 : Hid (wa1.drew.heap[P]? = some (.cells (p_row fun _ => 0) 105 (0, 0))) := by show _ = _; rw [hbd.block _ (lt_of_block HPa1.out)]; exact HPa1.out
  have HI0b1 : Hid (wa1.drew.heap[I0]? = some (.cells #[.pointer (some ⟨B0, 0, none⟩), .int .i64 ref, .int .i64 0] 94 (0, 0))) := by show _ = _; rw [hbd.block _ (lt_of_block HI0a1.out)]; exact HI0a1.out
  have HB0b1 : Hid (wa1.drew.heap[B0]? = some (.cells #[.slice none 0 0] 103 (0, 0))) := by show _ = _; rw [hbd.block _ (lt_of_block HB0a1.out)]; exact HB0a1.out
  have HLb1 := hide (HLa1.out.trans (hbd.mono HLa1.out.size))
  clear hbd HFa1 HSa1 HPa1 HI0a1 HB0a1 HLa1
  show walkP _ _ _ _ _ _ wa1.drew
  generalize wa1.drew = wb1 at *
  refine walkP_read rfl (fun K hK => ?_)
  refine ⟨by rfl, ?_⟩
  unfold isRd
  go_simp
  refine hK _ ?_
  clear hK K
  refine walkP_read rfl (fun K hK => ?_)
  refine ⟨by rfl, ?_⟩
  unfold isRd
  go_simp
  refine hK _ ?_
  clear hK K
  refine walkP_read rfl (fun K hK => ?_)
  refine ⟨by rfl, ?_⟩
  unfold isRd
  go_simp
  refine hK _ ?_
  clear hK K
  refine walkP_read rfl (fun K hK => ?_)
  refine ⟨by rfl, ?_⟩
  unfold isRd
  go_simp
  refine hK _ ?_
  clear hK K
  refine walkP_read rfl (fun K hK => ?_)
  refine ⟨by rfl, ?_⟩
  unfold isRd
  go_simp
  refine hK _ ?_
  clear hK K
  refine walkP_read rfl (fun K hK => ?_)
  refine ⟨by rfl, ?_⟩
  unfold isRd
  go_simp
  refine hK _ ?_
  clear hK K
  refine spec_step rfl (fun K hK => ?_)
  refine ⟨by rfl, ?_⟩
  unfold upM
  go_simp
  refine (newBook_any _).mono ?_
  rintro e wc1 ⟨rfl, hwc⟩
  have hbc : Below wb1.heap.size wb1 wc1 := by rw [hwc]; exact (Below.refl _ _).alloc (Nat.le_refl _) _
  obtain ⟨B1, hB1⟩ : ∃ B, wb1.heap.size = B := ⟨_, rfl⟩
  have HB1c1 : Hid (wc1.heap[B1]? = some (.cells #[.slice none 0 0] 103 (0, 0))) := by show _ = _; rw [hwc, ← hB1]; exact heap_alloc_new _ _
  have HFc1 : Hid (wc1.heap[F]? = some (.cells #[.int .i64 wd, .int .i64 h, .pointer (some ⟨I0, 0, none⟩), .pointer none, .pointer none, .pointer (some ⟨P, 0, none⟩)] 91 (0, 0))) := by show _ = _; rw [hbc.block _ (lt_of_block HFb1.out)]; exact HFb1.out
  have HSc1 : Hid (wc1.heap[S]? = some (.cells #[.int .i64 stock, .int .i64 0, .int .i64 0] 41 (0, 0))) := by show _ = _; rw [hbc.block _ (lt_of_block HSb1.out)]; exact HSb1.out
  have HPc1 : Hid (wc1.heap[P]? = some (.cells (p_row fun _ => 0) 105 (0, 0))) := by show _ = _; rw [hbc.block _ (lt_of_block HPb1.out)]; exact HPb1.out
  have HI0c1 : Hid (wc1.heap[I0]? = some (.cells #[.pointer (some ⟨B0, 0, none⟩), .int .i64 ref, .int .i64 0] 94 (0, 0))) := by show _ = _; rw [hbc.block _ (lt_of_block HI0b1.out)]; exact HI0b1.out
  have HB0c1 : Hid (wc1.heap[B0]? = some (.cells #[.slice none 0 0] 103 (0, 0))) := by show _ = _; rw [hbc.block _ (lt_of_block HB0b1.out)]; exact HB0b1.out
  have HLc1 := hide (HLb1.out.trans (hbc.mono HLb1.out.size))
  have HLB1 : Hid (w.heap.size ≤ B1) := by have := HLb1.out.size; show _ ≤ _; omega
  refine ⟨_, rfl, hK _ _ ?_⟩
  rw [hB1]
  have HNE1 : Hid (B1 ≠ F ∧ B1 ≠ S ∧ B1 ≠ P ∧ B1 ≠ B0) := by
    have l1 := lt_of_block HFb1.out; have l2 := lt_of_block HSb1.out; have l3 := lt_of_block HPb1.out
    have l40 := lt_of_block HB0b1.out
    refine ⟨by omega, by omega, by omega, by omega⟩
  clear hK K hbc hwc hB1 HFb1 HSb1 HPb1 HI0b1 HB0b1 HLb1
  refine walkP_read rfl (fun K hK => ?_)
  refine ⟨by rfl, ?_⟩
  unfold isRd
  go_simp
  refine hK _ ?_
  clear hK K
  refine spec_step rfl (fun K hK => ?_)
  refine ⟨by rfl, ?_⟩
  unfold upM
  go_simp
  obtain ⟨I1, hI1⟩ : ∃ I, wc1.heap.size = I := ⟨_, rfl⟩
  obtain ⟨wd1, hwd⟩ : ∃ x, wc1.alloc (.cells #[.pointer (some ⟨B1, 0, none⟩), .int .i64 ref, .int .i64 0] 94) = x := ⟨_, rfl⟩
  have hbd : Below wc1.heap.size wc1 wd1 := by rw [← hwd]; exact (Below.refl _ _).alloc (Nat.le_refl _) _
  have HI1d1 : Hid (wd1.heap[I1]? = some (.cells #[.pointer (some ⟨B1, 0, none⟩), .int .i64 ref, .int .i64 0] 94 (0, 0))) := by show _ = _; rw [← hwd, ← hI1]; exact heap_alloc_new _ _
  rw [hI1, hwd]
  have HFd1 : Hid (wd1.heap[F]? = some (.cells #[.int .i64 wd, .int .i64 h, .pointer (some ⟨I0, 0, none⟩), .pointer none, .pointer none, .pointer (some ⟨P, 0, none⟩)] 91 (0, 0))) := by show _ = _; rw [hbd.block _ (lt_of_block HFc1.out)]; exact HFc1.out
  have HSd1 : Hid (wd1.heap[S]? = some (.cells #[.int .i64 stock, .int .i64 0, .int .i64 0] 41 (0, 0))) := by show _ = _; rw [hbd.block _ (lt_of_block HSc1.out)]; exact HSc1.out
  have HPd1 : Hid (wd1.heap[P]? = some (.cells (p_row fun _ => 0) 105 (0, 0))) := by show _ = _; rw [hbd.block _ (lt_of_block HPc1.out)]; exact HPc1.out
  have HI0d1 : Hid (wd1.heap[I0]? = some (.cells #[.pointer (some ⟨B0, 0, none⟩), .int .i64 ref, .int .i64 0] 94 (0, 0))) := by show _ = _; rw [hbd.block _ (lt_of_block HI0c1.out)]; exact HI0c1.out
  have HB0d1 : Hid (wd1.heap[B0]? = some (.cells #[.slice none 0 0] 103 (0, 0))) := by show _ = _; rw [hbd.block _ (lt_of_block HB0c1.out)]; exact HB0c1.out
  have HB1d1 : Hid (wd1.heap[B1]? = some (.cells #[.slice none 0 0] 103 (0, 0))) := by show _ = _; rw [hbd.block _ (lt_of_block HB1c1.out)]; exact HB1c1.out
  have HLd1 := hide (HLc1.out.trans (hbd.mono HLc1.out.size))
  have HLI1 : Hid (w.heap.size ≤ I1) := by have := HLc1.out.size; show _ ≤ _; omega
  have HNI1 : Hid (I1 ≠ F ∧ I1 ≠ S ∧ I1 ≠ I0) := by
    have l1 := lt_of_block HFc1.out; have l2 := lt_of_block HSc1.out
    have l40 := lt_of_block HI0c1.out
    refine ⟨by omega, by omega, by omega⟩
  refine hK _ _ ?_
  clear hK K hbd hwd hI1 HFc1 HSc1 HPc1 HI0c1 HB0c1 HB1c1 HLc1
  refine walkP_read rfl (fun K hK => ?_)
  refine ⟨by rfl, ?_⟩
  unfold isRd
  go_simp
  refine hK _ ?_
  clear hK K
  have c0 : wd1.cell? ⟨F, 3, none⟩ = some (.pointer none) := by rw [cell_of_row wd1 _ 3 _ _ _ HFd1.out]; rfl
  have f0 : wd1.frozen? ⟨F, 3, none⟩ = false := by simp [World.frozen?, HFd1.out]
  obtain ⟨we1, hwe⟩ : ∃ x, wd1.setCell ⟨F, 3, none⟩ (.pointer (some ⟨I1, 0, none⟩)) = x := ⟨_, rfl⟩
  have hsv : Save wd1 we1 F := by rw [← hwe]; exact Save.setCell _ _ _ _
  have HFe1 : Hid (we1.heap[F]? = some (.cells #[.int .i64 wd, .int .i64 h, .pointer (some ⟨I0, 0, none⟩), .pointer (some ⟨I1, 0, none⟩), .pointer none, .pointer (some ⟨P, 0, none⟩)] 91 (0, 0))) := by show _ = _; rw [← hwe, setCell_eq_setRow _ F 3 _ _ _ _ HFd1.out]; exact setRow_heap _ F _ _ _ _ HFd1.out
  have HSe1 : Hid (we1.heap[S]? = some (.cells #[.int .i64 stock, .int .i64 0, .int .i64 0] 41 (0, 0))) := by show _ = _; rw [hsv.block _ (lt_of_block HSd1.out) (blkT HSd1.out HFd1.out (by decide))]; exact HSd1.out
  have HPe1 : Hid (we1.heap[P]? = some (.cells (p_row fun _ => 0) 105 (0, 0))) := by show _ = _; rw [hsv.block _ (lt_of_block HPd1.out) (blkT HPd1.out HFd1.out (by decide))]; exact HPd1.out
  have HI0e1 : Hid (we1.heap[I0]? = some (.cells #[.pointer (some ⟨B0, 0, none⟩), .int .i64 ref, .int .i64 0] 94 (0, 0))) := by show _ = _; rw [hsv.block _ (lt_of_block HI0d1.out) (blkT HI0d1.out HFd1.out (by decide))]; exact HI0d1.out
  have HB0e1 : Hid (we1.heap[B0]? = some (.cells #[.slice none 0 0] 103 (0, 0))) := by show _ = _; rw [hsv.block _ (lt_of_block HB0d1.out) (blkT HB0d1.out HFd1.out (by decide))]; exact HB0d1.out
  have HB1e1 : Hid (we1.heap[B1]? = some (.cells #[.slice none 0 0] 103 (0, 0))) := by show _ = _; rw [hsv.block _ (lt_of_block HB1d1.out) (blkT HB1d1.out HFd1.out (by decide))]; exact HB1d1.out
  have HI1e1 : Hid (we1.heap[I1]? = some (.cells #[.pointer (some ⟨B1, 0, none⟩), .int .i64 ref, .int .i64 0] 94 (0, 0))) := by show _ = _; rw [hsv.block _ (lt_of_block HI1d1.out) (blkT HI1d1.out HFd1.out (by decide))]; exact HI1d1.out
  have HLe1 := hide (HLd1.out.trans (hsv.below HLd1.out.size HLF.out))
  have HWe := hide hwe
  clear hwe
  refine spec_step rfl (fun K hK => ?_)
  refine ⟨by rfl, ?_⟩
  unfold upM
  go_simp
  rw [HWe.out]
  refine hK _ _ ?_
  clear hK K c0 f0 hsv HWe hnx HFd1 HSd1 HPd1 HI0d1 HB0d1 HB1d1 HI1d1 HLd1
  refine walkP_done ?_
  have c0 : we1.cell? ⟨S, 1, none⟩ = some (.int .i64 0) := by rw [cell_of_row we1 _ 1 _ _ _ HSe1.out]; rfl
  have f0 : we1.frozen? ⟨S, 1, none⟩ = false := by simp [World.frozen?, HSe1.out]
  obtain ⟨wa2, hwf⟩ : ∃ x, we1.setCell ⟨S, 1, none⟩ (.int .i64 stock) = x := ⟨_, rfl⟩
  have hsv : Save we1 wa2 S := by rw [← hwf]; exact Save.setCell _ _ _ _
  have HSa2 : Hid (wa2.heap[S]? = some (.cells #[.int .i64 stock, .int .i64 stock, .int .i64 0] 41 (0, 0))) := by show _ = _; rw [← hwf, setCell_eq_setRow _ S 1 _ _ _ _ HSe1.out]; exact setRow_heap _ S _ _ _ _ HSe1.out
  have HFa2 : Hid (wa2.heap[F]? = some (.cells #[.int .i64 wd, .int .i64 h, .pointer (some ⟨I0, 0, none⟩), .pointer (some ⟨I1, 0, none⟩), .pointer none, .pointer (some ⟨P, 0, none⟩)] 91 (0, 0))) := by show _ = _; rw [hsv.block _ (lt_of_block HFe1.out) (blkT HFe1.out HSe1.out (by decide))]; exact HFe1.out
  have HPa2 : Hid (wa2.heap[P]? = some (.cells (p_row fun _ => 0) 105 (0, 0))) := by show _ = _; rw [hsv.block _ (lt_of_block HPe1.out) (blkT HPe1.out HSe1.out (by decide))]; exact HPe1.out
  have HI0a2 : Hid (wa2.heap[I0]? = some (.cells #[.pointer (some ⟨B0, 0, none⟩), .int .i64 ref, .int .i64 0] 94 (0, 0))) := by show _ = _; rw [hsv.block _ (lt_of_block HI0e1.out) (blkT HI0e1.out HSe1.out (by decide))]; exact HI0e1.out
  have HB0a2 : Hid (wa2.heap[B0]? = some (.cells #[.slice none 0 0] 103 (0, 0))) := by show _ = _; rw [hsv.block _ (lt_of_block HB0e1.out) (blkT HB0e1.out HSe1.out (by decide))]; exact HB0e1.out
  have HI1a2 : Hid (wa2.heap[I1]? = some (.cells #[.pointer (some ⟨B1, 0, none⟩), .int .i64 ref, .int .i64 0] 94 (0, 0))) := by show _ = _; rw [hsv.block _ (lt_of_block HI1e1.out) (blkT HI1e1.out HSe1.out (by decide))]; exact HI1e1.out
  have HB1a2 : Hid (wa2.heap[B1]? = some (.cells #[.slice none 0 0] 103 (0, 0))) := by show _ = _; rw [hsv.block _ (lt_of_block HB1e1.out) (blkT HB1e1.out HSe1.out (by decide))]; exact HB1e1.out
  have HLa2 := hide (HLe1.out.trans (hsv.below HLe1.out.size HLS.out))
  have HWf := hide hwf
  clear hwf hsv HFe1 HPe1 HI0e1 HB0e1 HI1e1 HB1e1 HLe1
  go_wp2
  rw [HWf.out]
  clear c0 f0 HWf HSe1
  rw [rounds_succ]
  go_wp2_with fail
  have hnx : Nonempty World := ⟨wa2⟩
  refine region_plan (X := World) (val := fun x => x) (.read 0 (.read 1 (.read 3 (.read 4 (.read 7 (.read 8 (.one 2 (.read 5 (.one 6 (.read 9 (.one 10 .done))))))))))) (by kernel_rfl) (by kernel_rfl) wa2.drew rfl ?_
  have hbd : Below wa2.heap.size wa2 wa2.drew := ⟨rfl, rfl, rfl, Nat.le_refl _, fun _ _ => rfl⟩
  have HFb2 : Hid (wa2.drew.heap[F]? = some (.cells #[.int .i64 wd, .int .i64 h, .pointer (some ⟨I0, 0, none⟩), .pointer (some ⟨I1, 0, none⟩), .pointer none, .pointer (some ⟨P, 0, none⟩)] 91 (0, 0))) := by show _ = _; rw [hbd.block _ (lt_of_block HFa2.out)]; exact HFa2.out
  have HSb2 : Hid (wa2.drew.heap[S]? = some (.cells #[.int .i64 stock, .int .i64 stock, .int .i64 0] 41 (0, 0))) := by show _ = _; rw [hbd.block _ (lt_of_block HSa2.out)]; exact HSa2.out
  have HPb2 : Hid (wa2.drew.heap[P]? = some (.cells (p_row fun _ => 0) 105 (0, 0))) := by show _ = _; rw [hbd.block _ (lt_of_block HPa2.out)]; exact HPa2.out
  have HI0b2 : Hid (wa2.drew.heap[I0]? = some (.cells #[.pointer (some ⟨B0, 0, none⟩), .int .i64 ref, .int .i64 0] 94 (0, 0))) := by show _ = _; rw [hbd.block _ (lt_of_block HI0a2.out)]; exact HI0a2.out
  have HB0b2 : Hid (wa2.drew.heap[B0]? = some (.cells #[.slice none 0 0] 103 (0, 0))) := by show _ = _; rw [hbd.block _ (lt_of_block HB0a2.out)]; exact HB0a2.out
  have HI1b2 : Hid (wa2.drew.heap[I1]? = some (.cells #[.pointer (some ⟨B1, 0, none⟩), .int .i64 ref, .int .i64 0] 94 (0, 0))) := by show _ = _; rw [hbd.block _ (lt_of_block HI1a2.out)]; exact HI1a2.out
  have HB1b2 : Hid (wa2.drew.heap[B1]? = some (.cells #[.slice none 0 0] 103 (0, 0))) := by show _ = _; rw [hbd.block _ (lt_of_block HB1a2.out)]; exact HB1a2.out
  have HLb2 := hide (HLa2.out.trans (hbd.mono HLa2.out.size))
  clear hbd HFa2 HSa2 HPa2 HI0a2 HB0a2 HI1a2 HB1a2 HLa2
  show walkP _ _ _ _ _ _ wa2.drew
  generalize wa2.drew = wb2 at *
  refine walkP_read rfl (fun K hK => ?_)
  refine ⟨by rfl, ?_⟩
  unfold isRd
  go_simp
  refine hK _ ?_
  clear hK K
  refine walkP_read rfl (fun K hK => ?_)
  refine ⟨by rfl, ?_⟩
  unfold isRd
  go_simp
  refine hK _ ?_
  clear hK K
  refine walkP_read rfl (fun K hK => ?_)
  refine ⟨by rfl, ?_⟩
  unfold isRd
  go_simp
  refine hK _ ?_
  clear hK K
  refine walkP_read rfl (fun K hK => ?_)
  refine ⟨by rfl, ?_⟩
  unfold isRd
  go_simp
  refine hK _ ?_
  clear hK K
  refine walkP_read rfl (fun K hK => ?_)
  refine ⟨by rfl, ?_⟩
  unfold isRd
  go_simp
  refine hK _ ?_
  clear hK K
  refine walkP_read rfl (fun K hK => ?_)
  refine ⟨by rfl, ?_⟩
  unfold isRd
  go_simp
  refine hK _ ?_
  clear hK K
  refine spec_step rfl (fun K hK => ?_)
  refine ⟨by rfl, ?_⟩
  unfold upM
  go_simp
  refine (newBook_any _).mono ?_
  rintro e wc2 ⟨rfl, hwc⟩
  have hbc : Below wb2.heap.size wb2 wc2 := by rw [hwc]; exact (Below.refl _ _).alloc (Nat.le_refl _) _
  obtain ⟨B2, hB2⟩ : ∃ B, wb2.heap.size = B := ⟨_, rfl⟩
  have HB2c2 : Hid (wc2.heap[B2]? = some (.cells #[.slice none 0 0] 103 (0, 0))) := by show _ = _; rw [hwc, ← hB2]; exact heap_alloc_new _ _
  have HFc2 : Hid (wc2.heap[F]? = some (.cells #[.int .i64 wd, .int .i64 h, .pointer (some ⟨I0, 0, none⟩), .pointer (some ⟨I1, 0, none⟩), .pointer none, .pointer (some ⟨P, 0, none⟩)] 91 (0, 0))) := by show _ = _; rw [hbc.block _ (lt_of_block HFb2.out)]; exact HFb2.out
  have HSc2 : Hid (wc2.heap[S]? = some (.cells #[.int .i64 stock, .int .i64 stock, .int .i64 0] 41 (0, 0))) := by show _ = _; rw [hbc.block _ (lt_of_block HSb2.out)]; exact HSb2.out
  have HPc2 : Hid (wc2.heap[P]? = some (.cells (p_row fun _ => 0) 105 (0, 0))) := by show _ = _; rw [hbc.block _ (lt_of_block HPb2.out)]; exact HPb2.out
  have HI0c2 : Hid (wc2.heap[I0]? = some (.cells #[.pointer (some ⟨B0, 0, none⟩), .int .i64 ref, .int .i64 0] 94 (0, 0))) := by show _ = _; rw [hbc.block _ (lt_of_block HI0b2.out)]; exact HI0b2.out
  have HB0c2 : Hid (wc2.heap[B0]? = some (.cells #[.slice none 0 0] 103 (0, 0))) := by show _ = _; rw [hbc.block _ (lt_of_block HB0b2.out)]; exact HB0b2.out
  have HI1c2 : Hid (wc2.heap[I1]? = some (.cells #[.pointer (some ⟨B1, 0, none⟩), .int .i64 ref, .int .i64 0] 94 (0, 0))) := by show _ = _; rw [hbc.block _ (lt_of_block HI1b2.out)]; exact HI1b2.out
  have HB1c2 : Hid (wc2.heap[B1]? = some (.cells #[.slice none 0 0] 103 (0, 0))) := by show _ = _; rw [hbc.block _ (lt_of_block HB1b2.out)]; exact HB1b2.out
  have HLc2 := hide (HLb2.out.trans (hbc.mono HLb2.out.size))
  have HLB2 : Hid (w.heap.size ≤ B2) := by have := HLb2.out.size; show _ ≤ _; omega
  refine ⟨_, rfl, hK _ _ ?_⟩
  rw [hB2]
  have HNE2 : Hid (B2 ≠ F ∧ B2 ≠ S ∧ B2 ≠ P ∧ B2 ≠ B0 ∧ B2 ≠ B1) := by
    have l1 := lt_of_block HFb2.out; have l2 := lt_of_block HSb2.out; have l3 := lt_of_block HPb2.out
    have l40 := lt_of_block HB0b2.out
    have l41 := lt_of_block HB1b2.out
    refine ⟨by omega, by omega, by omega, by omega, by omega⟩
  clear hK K hbc hwc hB2 HFb2 HSb2 HPb2 HI0b2 HB0b2 HI1b2 HB1b2 HLb2
  refine walkP_read rfl (fun K hK => ?_)
  refine ⟨by rfl, ?_⟩
  unfold isRd
  go_simp
  refine hK _ ?_
  clear hK K
  refine spec_step rfl (fun K hK => ?_)
  refine ⟨by rfl, ?_⟩
  unfold upM
  go_simp
  obtain ⟨I2, hI2⟩ : ∃ I, wc2.heap.size = I := ⟨_, rfl⟩
  obtain ⟨wd2, hwd⟩ : ∃ x, wc2.alloc (.cells #[.pointer (some ⟨B2, 0, none⟩), .int .i64 ref, .int .i64 0] 94) = x := ⟨_, rfl⟩
  have hbd : Below wc2.heap.size wc2 wd2 := by rw [← hwd]; exact (Below.refl _ _).alloc (Nat.le_refl _) _
  have HI2d2 : Hid (wd2.heap[I2]? = some (.cells #[.pointer (some ⟨B2, 0, none⟩), .int .i64 ref, .int .i64 0] 94 (0, 0))) := by show _ = _; rw [← hwd, ← hI2]; exact heap_alloc_new _ _
  rw [hI2, hwd]
  have HFd2 : Hid (wd2.heap[F]? = some (.cells #[.int .i64 wd, .int .i64 h, .pointer (some ⟨I0, 0, none⟩), .pointer (some ⟨I1, 0, none⟩), .pointer none, .pointer (some ⟨P, 0, none⟩)] 91 (0, 0))) := by show _ = _; rw [hbd.block _ (lt_of_block HFc2.out)]; exact HFc2.out
  have HSd2 : Hid (wd2.heap[S]? = some (.cells #[.int .i64 stock, .int .i64 stock, .int .i64 0] 41 (0, 0))) := by show _ = _; rw [hbd.block _ (lt_of_block HSc2.out)]; exact HSc2.out
  have HPd2 : Hid (wd2.heap[P]? = some (.cells (p_row fun _ => 0) 105 (0, 0))) := by show _ = _; rw [hbd.block _ (lt_of_block HPc2.out)]; exact HPc2.out
  have HI0d2 : Hid (wd2.heap[I0]? = some (.cells #[.pointer (some ⟨B0, 0, none⟩), .int .i64 ref, .int .i64 0] 94 (0, 0))) := by show _ = _; rw [hbd.block _ (lt_of_block HI0c2.out)]; exact HI0c2.out
  have HB0d2 : Hid (wd2.heap[B0]? = some (.cells #[.slice none 0 0] 103 (0, 0))) := by show _ = _; rw [hbd.block _ (lt_of_block HB0c2.out)]; exact HB0c2.out
  have HI1d2 : Hid (wd2.heap[I1]? = some (.cells #[.pointer (some ⟨B1, 0, none⟩), .int .i64 ref, .int .i64 0] 94 (0, 0))) := by show _ = _; rw [hbd.block _ (lt_of_block HI1c2.out)]; exact HI1c2.out
  have HB1d2 : Hid (wd2.heap[B1]? = some (.cells #[.slice none 0 0] 103 (0, 0))) := by show _ = _; rw [hbd.block _ (lt_of_block HB1c2.out)]; exact HB1c2.out
  have HB2d2 : Hid (wd2.heap[B2]? = some (.cells #[.slice none 0 0] 103 (0, 0))) := by show _ = _; rw [hbd.block _ (lt_of_block HB2c2.out)]; exact HB2c2.out
  have HLd2 := hide (HLc2.out.trans (hbd.mono HLc2.out.size))
  have HLI2 : Hid (w.heap.size ≤ I2) := by have := HLc2.out.size; show _ ≤ _; omega
  have HNI2 : Hid (I2 ≠ F ∧ I2 ≠ S ∧ I2 ≠ I0 ∧ I2 ≠ I1) := by
    have l1 := lt_of_block HFc2.out; have l2 := lt_of_block HSc2.out
    have l40 := lt_of_block HI0c2.out
    have l41 := lt_of_block HI1c2.out
    refine ⟨by omega, by omega, by omega, by omega⟩
  refine hK _ _ ?_
  clear hK K hbd hwd hI2 HFc2 HSc2 HPc2 HI0c2 HB0c2 HI1c2 HB1c2 HB2c2 HLc2
  refine walkP_read rfl (fun K hK => ?_)
  refine ⟨by rfl, ?_⟩
  unfold isRd
  go_simp
  refine hK _ ?_
  clear hK K
  have c0 : wd2.cell? ⟨F, 4, none⟩ = some (.pointer none) := by rw [cell_of_row wd2 _ 4 _ _ _ HFd2.out]; rfl
  have f0 : wd2.frozen? ⟨F, 4, none⟩ = false := by simp [World.frozen?, HFd2.out]
  obtain ⟨we2, hwe⟩ : ∃ x, wd2.setCell ⟨F, 4, none⟩ (.pointer (some ⟨I2, 0, none⟩)) = x := ⟨_, rfl⟩
  have hsv : Save wd2 we2 F := by rw [← hwe]; exact Save.setCell _ _ _ _
  have HFe2 : Hid (we2.heap[F]? = some (.cells #[.int .i64 wd, .int .i64 h, .pointer (some ⟨I0, 0, none⟩), .pointer (some ⟨I1, 0, none⟩), .pointer (some ⟨I2, 0, none⟩), .pointer (some ⟨P, 0, none⟩)] 91 (0, 0))) := by show _ = _; rw [← hwe, setCell_eq_setRow _ F 4 _ _ _ _ HFd2.out]; exact setRow_heap _ F _ _ _ _ HFd2.out
  have HSe2 : Hid (we2.heap[S]? = some (.cells #[.int .i64 stock, .int .i64 stock, .int .i64 0] 41 (0, 0))) := by show _ = _; rw [hsv.block _ (lt_of_block HSd2.out) (blkT HSd2.out HFd2.out (by decide))]; exact HSd2.out
  have HPe2 : Hid (we2.heap[P]? = some (.cells (p_row fun _ => 0) 105 (0, 0))) := by show _ = _; rw [hsv.block _ (lt_of_block HPd2.out) (blkT HPd2.out HFd2.out (by decide))]; exact HPd2.out
  have HI0e2 : Hid (we2.heap[I0]? = some (.cells #[.pointer (some ⟨B0, 0, none⟩), .int .i64 ref, .int .i64 0] 94 (0, 0))) := by show _ = _; rw [hsv.block _ (lt_of_block HI0d2.out) (blkT HI0d2.out HFd2.out (by decide))]; exact HI0d2.out
  have HB0e2 : Hid (we2.heap[B0]? = some (.cells #[.slice none 0 0] 103 (0, 0))) := by show _ = _; rw [hsv.block _ (lt_of_block HB0d2.out) (blkT HB0d2.out HFd2.out (by decide))]; exact HB0d2.out
  have HI1e2 : Hid (we2.heap[I1]? = some (.cells #[.pointer (some ⟨B1, 0, none⟩), .int .i64 ref, .int .i64 0] 94 (0, 0))) := by show _ = _; rw [hsv.block _ (lt_of_block HI1d2.out) (blkT HI1d2.out HFd2.out (by decide))]; exact HI1d2.out
  have HB1e2 : Hid (we2.heap[B1]? = some (.cells #[.slice none 0 0] 103 (0, 0))) := by show _ = _; rw [hsv.block _ (lt_of_block HB1d2.out) (blkT HB1d2.out HFd2.out (by decide))]; exact HB1d2.out
  have HB2e2 : Hid (we2.heap[B2]? = some (.cells #[.slice none 0 0] 103 (0, 0))) := by show _ = _; rw [hsv.block _ (lt_of_block HB2d2.out) (blkT HB2d2.out HFd2.out (by decide))]; exact HB2d2.out
  have HI2e2 : Hid (we2.heap[I2]? = some (.cells #[.pointer (some ⟨B2, 0, none⟩), .int .i64 ref, .int .i64 0] 94 (0, 0))) := by show _ = _; rw [hsv.block _ (lt_of_block HI2d2.out) (blkT HI2d2.out HFd2.out (by decide))]; exact HI2d2.out
  have HLe2 := hide (HLd2.out.trans (hsv.below HLd2.out.size HLF.out))
  have HWe := hide hwe
  clear hwe
  refine spec_step rfl (fun K hK => ?_)
  refine ⟨by rfl, ?_⟩
  unfold upM
  go_simp
  rw [HWe.out]
  refine hK _ _ ?_
  clear hK K c0 f0 hsv HWe hnx HFd2 HSd2 HPd2 HI0d2 HB0d2 HI1d2 HB1d2 HB2d2 HI2d2 HLd2
  refine walkP_done ?_
  have c0 : we2.cell? ⟨S, 2, none⟩ = some (.int .i64 0) := by rw [cell_of_row we2 _ 2 _ _ _ HSe2.out]; rfl
  have f0 : we2.frozen? ⟨S, 2, none⟩ = false := by simp [World.frozen?, HSe2.out]
  obtain ⟨wa3, hwf⟩ : ∃ x, we2.setCell ⟨S, 2, none⟩ (.int .i64 stock) = x := ⟨_, rfl⟩
  have hsv : Save we2 wa3 S := by rw [← hwf]; exact Save.setCell _ _ _ _
  have HSa3 : Hid (wa3.heap[S]? = some (.cells #[.int .i64 stock, .int .i64 stock, .int .i64 stock] 41 (0, 0))) := by show _ = _; rw [← hwf, setCell_eq_setRow _ S 2 _ _ _ _ HSe2.out]; exact setRow_heap _ S _ _ _ _ HSe2.out
  have HFa3 : Hid (wa3.heap[F]? = some (.cells #[.int .i64 wd, .int .i64 h, .pointer (some ⟨I0, 0, none⟩), .pointer (some ⟨I1, 0, none⟩), .pointer (some ⟨I2, 0, none⟩), .pointer (some ⟨P, 0, none⟩)] 91 (0, 0))) := by show _ = _; rw [hsv.block _ (lt_of_block HFe2.out) (blkT HFe2.out HSe2.out (by decide))]; exact HFe2.out
  have HPa3 : Hid (wa3.heap[P]? = some (.cells (p_row fun _ => 0) 105 (0, 0))) := by show _ = _; rw [hsv.block _ (lt_of_block HPe2.out) (blkT HPe2.out HSe2.out (by decide))]; exact HPe2.out
  have HI0a3 : Hid (wa3.heap[I0]? = some (.cells #[.pointer (some ⟨B0, 0, none⟩), .int .i64 ref, .int .i64 0] 94 (0, 0))) := by show _ = _; rw [hsv.block _ (lt_of_block HI0e2.out) (blkT HI0e2.out HSe2.out (by decide))]; exact HI0e2.out
  have HB0a3 : Hid (wa3.heap[B0]? = some (.cells #[.slice none 0 0] 103 (0, 0))) := by show _ = _; rw [hsv.block _ (lt_of_block HB0e2.out) (blkT HB0e2.out HSe2.out (by decide))]; exact HB0e2.out
  have HI1a3 : Hid (wa3.heap[I1]? = some (.cells #[.pointer (some ⟨B1, 0, none⟩), .int .i64 ref, .int .i64 0] 94 (0, 0))) := by show _ = _; rw [hsv.block _ (lt_of_block HI1e2.out) (blkT HI1e2.out HSe2.out (by decide))]; exact HI1e2.out
  have HB1a3 : Hid (wa3.heap[B1]? = some (.cells #[.slice none 0 0] 103 (0, 0))) := by show _ = _; rw [hsv.block _ (lt_of_block HB1e2.out) (blkT HB1e2.out HSe2.out (by decide))]; exact HB1e2.out
  have HI2a3 : Hid (wa3.heap[I2]? = some (.cells #[.pointer (some ⟨B2, 0, none⟩), .int .i64 ref, .int .i64 0] 94 (0, 0))) := by show _ = _; rw [hsv.block _ (lt_of_block HI2e2.out) (blkT HI2e2.out HSe2.out (by decide))]; exact HI2e2.out
  have HB2a3 : Hid (wa3.heap[B2]? = some (.cells #[.slice none 0 0] 103 (0, 0))) := by show _ = _; rw [hsv.block _ (lt_of_block HB2e2.out) (blkT HB2e2.out HSe2.out (by decide))]; exact HB2e2.out
  have HLa3 := hide (HLe2.out.trans (hsv.below HLe2.out.size HLS.out))
  have HWf := hide hwf
  clear hwf hsv HFe2 HPe2 HI0e2 HB0e2 HI1e2 HB1e2 HI2e2 HB2e2 HLe2
  go_wp2
  rw [HWf.out]
  clear c0 f0 HWf HSe2
  rw [rounds_succ]
  go_wp2
  obtain ⟨I, hI⟩ : ∃ I : Nat → Nat, I = fun j => if j = 0 then I0 else if j = 1 then I1 else I2 := ⟨_, rfl⟩
  obtain ⟨b, hb⟩ : ∃ b : Nat → Nat, b = fun j => if j = 0 then B0 else if j = 1 then B1 else B2 := ⟨_, rfl⟩
  have hI0 : I 0 = I0 := by rw [hI]; rfl
  have hI1 : I 1 = I1 := by rw [hI]; rfl
  have hI2 : I 2 = I2 := by rw [hI]; rfl
  have hb0 : b 0 = B0 := by rw [hb]; rfl
  have hb1 : b 1 = B1 := by rw [hb]; rfl
  have hb2 : b 2 = B2 := by rw [hb]; rfl
  have c3 : ∀ j, j < 3 → j = 0 ∨ j = 1 ∨ j = 2 := fun j hj => by omega
  have hfl : PFl w wa3 F P I b (fun _ => .slice none 0 0) (fun _ => []) (Fl.gift cash stock 0) (Fl.bands ref) wd h := by
    refine ⟨by unfold pfloorA; rw [hI0, hI1, hI2]; exact HFa3.out, fun j hj => ?_, fun j hj => ?_, fun j k hj hk hjk => ?_, fun j k hj hk hjk => ?_, fun j k hj hk hjk m hm => (by cases hm), HPa3.out, HLF.out, HLP.out, fun j hj => ?_, HLa3.out⟩
    · rcases c3 j hj with rfl | rfl | rfl
      · rw [hI0, hb0]; exact HI0a3.out
      · rw [hI1, hb1]; exact HI1a3.out
      · rw [hI2, hb2]; exact HI2a3.out
    · rcases c3 j hj with rfl | rfl | rfl
      · rw [hb0]; exact ⟨HB0a3.out, HLB0.out, World.ownsRow_nil _ _ _ _⟩
      · rw [hb1]; exact ⟨HB1a3.out, HLB1.out, World.ownsRow_nil _ _ _ _⟩
      · rw [hb2]; exact ⟨HB2a3.out, HLB2.out, World.ownsRow_nil _ _ _ _⟩
    · have n1 := HNI1.out; have n2 := HNI2.out
      rcases c3 j hj with rfl | rfl | rfl <;> rcases c3 k hk with rfl | rfl | rfl <;> (try exact absurd rfl hjk) <;> simp only [hI0, hI1, hI2] <;> omega
    · have n1 := HNE1.out; have n2 := HNE2.out
      rcases c3 j hj with rfl | rfl | rfl <;> rcases c3 k hk with rfl | rfl | rfl <;> (try exact absurd rfl hjk) <;> simp only [hb0, hb1, hb2] <;> omega
    · rcases c3 j hj with rfl | rfl | rfl
      · rw [hI0]; exact HLI0.out
      · rw [hI1]; exact HLI1.out
      · rw [hI2]; exact HLI2.out
  have HFL := hide hfl
  have HGO := hide (fun k (hk : k < 6) => Fl.gift_zero H.out k hk)
  clear hfl hI hb hI0 hI1 hI2 hb0 hb1 hb2 c3 HFa3 HPa3 HI0a3 HI1a3 HI2a3 HB0a3 HB1a3 HB2a3 HLa3 HNI0 HNI1 HNI2 HNE0 HNE1 HNE2 HLB0 HLB1 HLB2 HLI0 HLI1 HLI2
  go_loopw [56] (fun c wr => ∃ (k : Nat), k ≤ 6 ∧ c = .int .i64 k ∧ PFl w wr F P I b (fun _ => .slice none 0 0) (fun _ => []) (Fl.gift cash stock k) (Fl.bands ref) wd h ∧ wr.heap[S]? = some (.cells #[.int .i64 stock, .int .i64 stock, .int .i64 stock] 41 (0, 0))) (fun c _ => 6 - (intOf c).toNat)
  case atStart => exact ⟨0, by omega, rfl, HFL.out, HSa3.out⟩
  case round =>
    obtain ⟨k, hk, rfl, hf, ha⟩ := hrel
    have HF := hide hf; have HA := hide ha
    clear hf ha HFL HSa3
    by_cases hlt : k < 6
    · have hki : (k : Int) < 6 := by omega
      have fp := HF.out.cellP
      have a0 : wr.cell? ⟨S, 0, none⟩ = some (.int .i64 stock) := by rw [cell_of_row wr _ 0 _ _ _ HA.out]; rfl
      have a1 : wr.cell? ⟨S, 1, none⟩ = some (.int .i64 stock) := by rw [cell_of_row wr _ 1 _ _ _ HA.out]; rfl
      have a2 : wr.cell? ⟨S, 2, none⟩ = some (.int .i64 stock) := by rw [cell_of_row wr _ 2 _ _ _ HA.out]; rfl
      go_wp2_with fail
      refine region_quiet_tail 7 (by kernel_rfl) (by kernel_rfl) ?_
      simp only [List.take_succ_cons, List.take_zero, List.drop_succ_cons, List.drop_zero]
      repeat (first | go_big_quiet_step (fail) | quiet_step (fail))
      refine wpQuiet_nil ?_
      intro _ hw'
      obtain ⟨nq, hw''⟩ := hw'
      subst hw''
      have HA2 : Hid ((wr.drewN nq).heap[S]? = some (.cells #[.int .i64 stock, .int .i64 stock, .int .i64 stock] 41 (0, 0))) := HA.out
      have HF2 := hide (HF.out.later (blw_drew nq))
      clear fp a0 a1 a2 HA HF
      generalize wr.drewN nq = wg at *
      have hg := give_any P ⟨k, cash, stock, stock, stock⟩ (Fl.gift cash stock k) ev wg (HF2.out.er he.out).per HF2.out.pu (Fl.good_gift cash stock k)
      rw [HGO.out k hlt, show errE ev 0 = .nilIface from rfl] at hg
      have HG := hide hg
      clear hg
      unfold giftV at HG
      simp only [] at HG
      go_wp2_with fail
      refine HG.out.mono ?_
      rintro e wh ⟨rfl, hp, hs⟩
      have HF3 : Hid (PFl w wh F P I b (fun _ => .slice none 0 0) (fun _ => []) (Fl.gift cash stock (k + 1)) (Fl.bands ref) wd h) := HF2.out.purse hp hs
      have HA3 : Hid (wh.heap[S]? = some (.cells #[.int .i64 stock, .int .i64 stock, .int .i64 stock] 41 (0, 0))) := by
        show _ = _
        rw [hs.block _ (lt_of_block HA2.out) (blkT HA2.out HF2.out.pu (by decide))]; exact HA2.out
      clear hp hs HG HA2 HF2
      simp only []
      go_wp2
      refine ⟨⟨k + 1, by omega, by go_num, HF3.out, HA3.out⟩, by simp [intOf]; omega⟩
    · have hki : ¬ (k : Int) < 6 := by omega
      obtain rfl : k = 6 := by omega
      go_wp2
      go_ret2
      exact ⟨F, P, I, b, rfl, HF.out⟩
end
end Go.Proofs.YtjdnahmdicamdaaGreatDoor
