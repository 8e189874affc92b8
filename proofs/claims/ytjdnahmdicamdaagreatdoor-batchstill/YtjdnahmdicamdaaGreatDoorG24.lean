/- Cancel of package batch, by its contract. -/
import Derived.Test.YtjdnahmdicamdaaGreatDoorG23
namespace Go.Proofs.YtjdnahmdicamdaaGreatDoor
open Go.RowKit
set_option maxRecDepth 100000
theorem set5_row {W : World} {D : Nat} (hz : W.heap[D]? = some (.cells #[.int .i64 0, .int .i64 0, .int .i64 0, .int .i64 0, .int .i64 0] 56 (0, 0))) (x0 x1 x2 x3 x4 : Int) :
    (((((W.setCell ⟨D, 0, none⟩ (.int .i64 x0)).setCell ⟨D, 1, none⟩ (.int .i64 x1)).setCell ⟨D, 2, none⟩ (.int .i64 x2)).setCell ⟨D, 3, none⟩ (.int .i64 x3)).setCell ⟨D, 4, none⟩ (.int .i64 x4)).heap[D]? = some (.cells #[.int .i64 x0, .int .i64 x1, .int .i64 x2, .int .i64 x3, .int .i64 x4] 56 (0, 0)) := by
  have h0 : (W.setCell ⟨D, 0, none⟩ (.int .i64 x0)).heap[D]? = some (.cells #[.int .i64 x0, .int .i64 0, .int .i64 0, .int .i64 0, .int .i64 0] 56 (0, 0)) := by
    rw [setCell_eq_setRow _ D 0 _ _ _ _ hz]; exact setRow_heap _ D _ _ _ _ hz
  have h1 : ((W.setCell ⟨D, 0, none⟩ (.int .i64 x0)).setCell ⟨D, 1, none⟩ (.int .i64 x1)).heap[D]? = some (.cells #[.int .i64 x0, .int .i64 x1, .int .i64 0, .int .i64 0, .int .i64 0] 56 (0, 0)) := by
    rw [setCell_eq_setRow _ D 1 _ _ _ _ h0]; exact setRow_heap _ D _ _ _ _ h0
  have h2 : (((W.setCell ⟨D, 0, none⟩ (.int .i64 x0)).setCell ⟨D, 1, none⟩ (.int .i64 x1)).setCell ⟨D, 2, none⟩ (.int .i64 x2)).heap[D]? = some (.cells #[.int .i64 x0, .int .i64 x1, .int .i64 x2, .int .i64 0, .int .i64 0] 56 (0, 0)) := by
    rw [setCell_eq_setRow _ D 2 _ _ _ _ h1]; exact setRow_heap _ D _ _ _ _ h1
  have h3 : ((((W.setCell ⟨D, 0, none⟩ (.int .i64 x0)).setCell ⟨D, 1, none⟩ (.int .i64 x1)).setCell ⟨D, 2, none⟩ (.int .i64 x2)).setCell ⟨D, 3, none⟩ (.int .i64 x3)).heap[D]? = some (.cells #[.int .i64 x0, .int .i64 x1, .int .i64 x2, .int .i64 x3, .int .i64 0] 56 (0, 0)) := by
    rw [setCell_eq_setRow _ D 3 _ _ _ _ h2]; exact setRow_heap _ D _ _ _ _ h2
  rw [setCell_eq_setRow _ D 4 _ _ _ _ h3]; exact setRow_heap _ D _ _ _ _ h3
theorem below5 {n : Nat} {w W : World} {D : Nat} (h : Below n w W) (hD : n ≤ D) (x0 x1 x2 x3 x4 : Value) : Below n w (((((W.setCell ⟨D, 0, none⟩ x0).setCell ⟨D, 1, none⟩ x1).setCell ⟨D, 2, none⟩ x2).setCell ⟨D, 3, none⟩ x3).setCell ⟨D, 4, none⟩ x4) :=
  ((((h.setCell (p := ⟨D, 0, none⟩) hD _).setCell (p := ⟨D, 1, none⟩) hD _).setCell (p := ⟨D, 2, none⟩) hD _).setCell (p := ⟨D, 3, none⟩) hD _).setCell (p := ⟨D, 4, none⟩) hD _
theorem save5 (W : World) (D : Nat) (x0 x1 x2 x3 x4 : Value) : Save W (((((W.setCell ⟨D, 0, none⟩ x0).setCell ⟨D, 1, none⟩ x1).setCell ⟨D, 2, none⟩ x2).setCell ⟨D, 3, none⟩ x3).setCell ⟨D, 4, none⟩ x4) D := ((((Save.setCell _ _ _ _).put _ _).put _ _).put _ _).put _ _
section
variable {w W : World} {F P : Nat} {I b : Nat → Nat} {v : Nat → Value} {L : Nat → List Cv.Lot} {pf n : Nat → Int} {wd h : Int} {ev : Nat → Value}
set_option maxHeartbeats 1000000 in
theorem cancel_kind (a : Ask) (hF : Hid (PFl w W F P I b v L pf n wd h)) (he : Hid (AEr w ev)) (hk : Hid (Fl.kindN a 99 ≠ 0)) :
    Calls Tryz.prog 20 #[.pointer (some ⟨F, 0, none⟩), askV a] W fun e W' => e = .returned (.tuple #[lotV (Fl.canX L a), errE ev (Fl.canC L pf a)]) ∧ ∃ v', PFl w W' F P I b v' (Fl.canL L a) (Fl.canF L pf a) n wd h ∧ FStep W W' P I b v v' := by
  have hpos := Fl.kindN_pos hk.out
  have hC : Fl.canC L pf a = Fl.kindE a 99 := by unfold Fl.canC Fl.kindE; rw [if_neg hk.out]
  have hne : Fl.canC L pf a ≠ 0 := by rw [hC]; unfold Fl.kindE; omega
  have hX : Fl.canX L a = Cv.z := by unfold Fl.canX; rw [if_neg (fun h => hk.out h.1)]
  have hL : Fl.canL L a = L := by unfold Fl.canL; rw [if_neg (fun h => hk.out h.1)]
  have hP : Fl.canF L pf a = pf := by unfold Fl.canF; rw [if_neg (fun h => hk.out h.1)]
  rw [hX, hL, hP, hC]
  rw [hC] at hne
  have HK := hide (fun W' (hb : Below W.heap.size W W') => fcheck_any a 99 W' ((hF.out.er he.out).below hb) (by decide))
  generalize Fl.kindE a 99 = kn at *
  obtain ⟨d, rfl⟩ : ∃ d, kn = d + 1 := ⟨kn - 1, by omega⟩
  rw [show errE ev (d + 1) = .iface 252 (ev (d + 1)) from rfl] at HK ⊢
  clear hC hne hX hL hP
  obtain ⟨ak, ac, asq, ait, asd, apr, aq, aid⟩ := a
  unfold askV askA at HK ⊢
  simp only [] at HK ⊢
  have hb0 : Below W.heap.size W ((W.alloc (.cells #[.int .u8 ak, .int .i64 ac, .int .i64 asq, .int .i64 ait, .int .i64 asd, .int .i64 apr, .int .i64 aq, .int .i64 aid] 34)).alloc (.cells #[.int .i64 0, .int .i64 0, .int .i64 0, .int .i64 0, .int .i64 0] 56)) := ((Below.refl _ _).alloc (Nat.le_refl _) _).alloc (by simp) _
  have hz0 : ((W.alloc (.cells #[.int .u8 ak, .int .i64 ac, .int .i64 asq, .int .i64 ait, .int .i64 asd, .int .i64 apr, .int .i64 aq, .int .i64 aid] 34)).alloc (.cells #[.int .i64 0, .int .i64 0, .int .i64 0, .int .i64 0, .int .i64 0] 56)).heap[W.heap.size + 1]? = some (.cells #[.int .i64 0, .int .i64 0, .int .i64 0, .int .i64 0, .int .i64 0] 56 (0, 0)) := by have := heap_alloc_new (W.alloc (.cells #[.int .u8 ak, .int .i64 ac, .int .i64 asq, .int .i64 ait, .int .i64 asd, .int .i64 apr, .int .i64 aq, .int .i64 aid] 34)) (.cells #[.int .i64 0, .int .i64 0, .int .i64 0, .int .i64 0, .int .i64 0] 56); simpa using this
  have HB0 := hide hb0; have HZ0 := hide hz0
  clear hb0 hz0
  go_enter Tryz.func20, Tryz.ntmps20
  go_wp2_with fail
  refine (HK.out _ HB0.out).mono ?_
  rintro e w2 ⟨rfl, hb2⟩
  have HB2 := hide (HB0.out.trans (hb2.mono HB0.out.size))
  have HZ2 : Hid (w2.heap[W.heap.size + 1]? = some (.cells #[.int .i64 0, .int .i64 0, .int .i64 0, .int .i64 0, .int .i64 0] 56 (0, 0))) := by show _ = _; rw [hb2.block _ (lt_of_block HZ0.out)]; exact HZ0.out
  clear hb2 HK HB0 HZ0
  generalize hR : W.heap.size + 1 = R at *
  have r0 : w2.cell? ⟨R, 0, none⟩ = some (.int .i64 0) := by rw [cell_of_row w2 _ 0 _ _ _ HZ2.out]; rfl
  have r1 : w2.cell? ⟨R, 1, none⟩ = some (.int .i64 0) := by rw [cell_of_row w2 _ 1 _ _ _ HZ2.out]; rfl
  have r2 : w2.cell? ⟨R, 2, none⟩ = some (.int .i64 0) := by rw [cell_of_row w2 _ 2 _ _ _ HZ2.out]; rfl
  have r3 : w2.cell? ⟨R, 3, none⟩ = some (.int .i64 0) := by rw [cell_of_row w2 _ 3 _ _ _ HZ2.out]; rfl
  have r4 : w2.cell? ⟨R, 4, none⟩ = some (.int .i64 0) := by rw [cell_of_row w2 _ 4 _ _ _ HZ2.out]; rfl
  have q : ∀ j, w2.frozen? ⟨R, j, none⟩ = false := fun j => by simp [World.frozen?, HZ2.out]
  have q0 := q 0; have q1 := q 1; have q2 := q 2; have q3 := q 3; have q4 := q 4
  clear q
  have HRl : Hid (W.heap.size ≤ R) := by show _ ≤ _; omega
  clear hR
  simp only []
  go_wp2
  have hz9 := set5_row HZ2.out 0 0 0 0 0
  have hb9 := below5 HB2.out HRl.out (.int .i64 0) (.int .i64 0) (.int .i64 0) (.int .i64 0) (.int .i64 0)
  generalize (((((w2.setCell ⟨R, 0, none⟩ (.int .i64 0)).setCell ⟨R, 1, none⟩ (.int .i64 0)).setCell ⟨R, 2, none⟩ (.int .i64 0)).setCell ⟨R, 3, none⟩ (.int .i64 0)).setCell ⟨R, 4, none⟩ (.int .i64 0)) = Wf at *
  have z0 : Wf.cell? ⟨R, 0, none⟩ = some (.int .i64 0) := by rw [cell_of_row Wf _ 0 _ _ _ hz9]; rfl
  have z1 : Wf.cell? ⟨R, 1, none⟩ = some (.int .i64 0) := by rw [cell_of_row Wf _ 1 _ _ _ hz9]; rfl
  have z2 : Wf.cell? ⟨R, 2, none⟩ = some (.int .i64 0) := by rw [cell_of_row Wf _ 2 _ _ _ hz9]; rfl
  have z3 : Wf.cell? ⟨R, 3, none⟩ = some (.int .i64 0) := by rw [cell_of_row Wf _ 3 _ _ _ hz9]; rfl
  have z4 : Wf.cell? ⟨R, 4, none⟩ = some (.int .i64 0) := by rw [cell_of_row Wf _ 4 _ _ _ hz9]; rfl
  exact bodyPost_ret (v := .tuple #[.agg #[.int .i64 0, .int .i64 0, .int .i64 0, .int .i64 0, .int .i64 0], .iface 252 (ev (d + 1))]) (by simp [results, Tryz.results20, go_sem, z0, z1, z2, z3, z4]) rfl ⟨rfl, v, hF.out.later hb9, FStep.of_below hb9 P I b v⟩

set_option maxHeartbeats 1000000 in
theorem cancel_none (a : Ask) (hF : Hid (PFl w W F P I b v L pf n wd h)) (he : Hid (AEr w ev)) (hok : Hid (Fs.FOk L pf)) (hk : Hid (Fl.kindN a 99 = 0)) (hm : Hid (Fl.mine L a = false)) :
    Calls Tryz.prog 20 #[.pointer (some ⟨F, 0, none⟩), askV a] W fun e W' => e = .returned (.tuple #[lotV (Fl.canX L a), errE ev (Fl.canC L pf a)]) ∧ ∃ v', PFl w W' F P I b v' (Fl.canL L a) (Fl.canF L pf a) n wd h ∧ FStep W W' P I b v v' := by
  have hit := Fl.cancel_item hk.out
  obtain ⟨i, hi⟩ : ∃ i : Nat, a.it = i := ⟨a.it.toNat, by omega⟩
  have hi3 : i < 3 := by omega
  have hti : a.it.toNat = i := by omega
  have HK := hide (fun W' (hb : Below W.heap.size W W') => fcheck_any a 99 W' ((hF.out.er he.out).below hb) (by decide))
  rw [Fl.kindE_zero hk.out, show errE ev 0 = .nilIface from rfl] at HK
  have hCx : Fl.canC L pf a = 5 := by unfold Fl.canC; rw [if_pos hk.out, if_neg (by rw [hm.out]; simp)]
  have hX : Fl.canX L a = Cv.z := by unfold Fl.canX; rw [if_neg (fun h => by rw [hm.out] at h; simp at h)]
  have hL : Fl.canL L a = L := by unfold Fl.canL; rw [if_neg (fun h => by rw [hm.out] at h; simp at h)]
  have hP : Fl.canF L pf a = pf := by unfold Fl.canF; rw [if_neg (fun h => by rw [hm.out] at h; simp at h)]
  rw [hX, hL, hP, hCx, show errE ev 5 = .iface 252 (ev 5) from rfl]
  clear hX hL hP hCx
  have hmm := hm.out
  unfold Fl.mine at hmm
  rw [hti] at hmm
  obtain ⟨ak, ac, asq, ait, asd, apr, aq, aid⟩ := a
  simp only [] at hi hti
  subst hi
  unfold askV askA at HK ⊢
  simp only [] at HK ⊢
  simp only [] at hmm
  obtain ⟨is, his⟩ : ∃ is, Cv.has (L i) aid = is := ⟨_, rfl⟩
  obtain ⟨⟨x0, x1, x2, x3, x4⟩, hX⟩ : ∃ X, Bk.getX (L i) aid = X := ⟨_, rfl⟩
  have HIS : Hid (Cv.has (L i) aid = is ∧ Bk.getX (L i) aid = ⟨x0, x1, x2, x3, x4⟩) := ⟨his, hX⟩
  have hno : is = false ∨ is = true ∧ x1 ≠ ac := by
    cases is with
    | false => exact .inl rfl
    | true =>
      refine .inr ⟨rfl, fun e => ?_⟩
      rw [his, Bool.true_and] at hmm
      have hn : Cv.nth (L i) (Bk.pos (L i) aid) = ⟨x0, x1, x2, x3, x4⟩ := by rw [← hX]; unfold Bk.getX; rw [if_pos his]
      rw [hn] at hmm
      simp [e] at hmm
  clear hmm his hX
  clear hit hk hti
  obtain ⟨R, hR⟩ : ∃ R, W.heap.size + 1 = R := ⟨_, rfl⟩
  obtain ⟨A, hA⟩ : ∃ A, W.heap.size = A := ⟨_, rfl⟩
  obtain ⟨w1, hw1⟩ : ∃ w1, (W.alloc (.cells #[.int .u8 ak, .int .i64 ac, .int .i64 asq, .int .i64 i, .int .i64 asd, .int .i64 apr, .int .i64 aq, .int .i64 aid] 34)).alloc (.cells #[.int .i64 0, .int .i64 0, .int .i64 0, .int .i64 0, .int .i64 0] 56) = w1 := ⟨_, rfl⟩
  have hb1 : Below W.heap.size W w1 := by rw [← hw1]; exact ((Below.refl _ _).alloc (Nat.le_refl _) _).alloc (by simp) _
  have HR1 : Hid (w1.heap[R]? = some (.cells #[.int .i64 0, .int .i64 0, .int .i64 0, .int .i64 0, .int .i64 0] 56 (0, 0))) := by
    show _ = _
    rw [← hw1, ← hR]
    have := heap_alloc_new (W.alloc (.cells #[.int .u8 ak, .int .i64 ac, .int .i64 asq, .int .i64 i, .int .i64 asd, .int .i64 apr, .int .i64 aq, .int .i64 aid] 34)) (.cells #[.int .i64 0, .int .i64 0, .int .i64 0, .int .i64 0, .int .i64 0] 56)
    simpa using this
  have HA1 : Hid (w1.heap[A]? = some (.cells #[.int .u8 ak, .int .i64 ac, .int .i64 asq, .int .i64 i, .int .i64 asd, .int .i64 apr, .int .i64 aq, .int .i64 aid] 34 (0, 0))) := by
    show _ = _
    rw [← hw1, ← hA]
    exact (Below.heap_alloc _ _ _ (by simp)).trans (heap_alloc_new W _)
  have HB1 := hide hb1
  have HRW : Hid (W.heap.size ≤ R) := by show _ ≤ _; omega
  have HW1 := hide hw1; have HRe := hide hR; have HAe := hide hA
  clear hb1 hw1 hR hA
  go_enter Tryz.func20, Tryz.ntmps20
  go_wp2_with fail
  rw [HW1.out, HRe.out, HAe.out]
  refine (HK.out _ HB1.out).mono ?_
  rintro e w2 ⟨rfl, hb2⟩
  have hbW2 := HB1.out.trans (hb2.mono HB1.out.size)
  have HR2 : Hid (w2.heap[R]? = some (.cells #[.int .i64 0, .int .i64 0, .int .i64 0, .int .i64 0, .int .i64 0] 56 (0, 0))) := by show _ = _; rw [hb2.block _ (lt_of_block HR1.out)]; exact HR1.out
  have HA2 : Hid (w2.heap[A]? = some (.cells #[.int .u8 ak, .int .i64 ac, .int .i64 asq, .int .i64 i, .int .i64 asd, .int .i64 apr, .int .i64 aq, .int .i64 aid] 34 (0, 0))) := by show _ = _; rw [hb2.block _ (lt_of_block HA1.out)]; exact HA1.out
  have HF2 := hide (hF.out.later hbW2)
  have HS2 := hide (FStep.of_below hbW2 P I b v)
  clear hb2 hbW2 HB1 HR1 HA1 HW1 HRe HAe HK
  have hii : (0 : Int) ≤ (i : Int) := by omega
  have hi3' : (i : Int) < 3 := by omega
  simp only []
  go_wp2_with fail
  obtain ⟨XT, val, hcl, hmk⟩ := rows3_all F (I i) A (.cells (pfloorA I P wd h) 91 (0, 0)) (.cells (itemA (b i) (n (i * 2)) (n (i * 2 + 1))) 94 (0, 0)) (.cells #[.int .u8 ak, .int .i64 ac, .int .i64 asq, .int .i64 i, .int .i64 asd, .int .i64 apr, .int .i64 aq, .int .i64 aid] 34 (0, 0))
  obtain ⟨y0, hy0⟩ := hmk w2.drew ⟨HF2.out.blk, HF2.out.it i hi3, HA2.out⟩
  have hnx : Nonempty XT := ⟨y0⟩
  have ei : ∀ x, (val x).cell? ⟨F, 2 + i, none⟩ = some (.pointer (some ⟨I i, 0, none⟩)) := fun x => by
    rw [cell_of_row _ _ _ _ _ _ (hcl x).1]
    have : i = 0 ∨ i = 1 ∨ i = 2 := by omega
    rcases this with rfl | rfl | rfl <;> rfl
  have eb : ∀ x, (val x).cell? ⟨I i, 0, none⟩ = some (.pointer (some ⟨b i, 0, none⟩)) := fun x => by rw [cell_of_row _ _ _ _ _ _ (hcl x).2.1]; rfl
  have e3 : ∀ x, (val x).cell? ⟨A, 3, none⟩ = some (.int .i64 i) := fun x => by rw [cell_of_row _ _ _ _ _ _ (hcl x).2.2]; rfl
  have e7 : ∀ x, (val x).cell? ⟨A, 7, none⟩ = some (.int .i64 aid) := fun x => by rw [cell_of_row _ _ _ _ _ _ (hcl x).2.2]; rfl
  have hbd : Below w2.heap.size w2 w2.drew := ⟨rfl, rfl, rfl, Nat.le_refl _, fun _ _ => rfl⟩
  have HF4 := hide (HF2.out.later hbd)
  have HS4 := hide (HS2.out.below hbd)
  have HR4 : Hid (w2.drew.heap[R]? = some (.cells #[.int .i64 0, .int .i64 0, .int .i64 0, .int .i64 0, .int .i64 0] 56 (0, 0))) := HR2.out
  have HA4 : Hid (w2.drew.heap[A]? = some (.cells #[.int .u8 ak, .int .i64 ac, .int .i64 asq, .int .i64 i, .int .i64 asd, .int .i64 apr, .int .i64 aq, .int .i64 aid] 34 (0, 0))) := HA2.out
  obtain ⟨w4, hw4⟩ : ∃ w4, w2.drew = w4 := ⟨_, rfl⟩
  rw [hw4] at HF4 HS4 HR4 HA4
  have HMK : Hid (∀ W', Below w4.heap.size w4 W' → ∃ x, val x = W') := fun W' hb => hmk W' ⟨(HF4.out.later hb).blk, (HF4.out.later hb).it i hi3, by rw [hb.block _ (lt_of_block HA4.out)]; exact HA4.out⟩
  have HGET : Hid (∀ W', Below w4.heap.size w4 W' → Calls Tryz.prog 18 #[.pointer (some ⟨b i, 0, none⟩), .int .i64 aid] W' fun e w' => e = .returned (.tuple #[.agg #[.int .i64 x0, .int .i64 x1, .int .i64 x2, .int .i64 x3, .int .i64 x4], .bool is]) ∧ Below W'.heap.size W' w') := fun W' hb => by
    have := get_any (b i) w.heap.size (v i) aid (L i) W' ((HF4.out.later hb).bk i hi3) (hok.out.bk i hi3).len
    rw [HIS.out.1, HIS.out.2] at this
    exact this
  clear hmk hcl HF2 HS2 HR2 HA2 hbd
  refine region_join1 (val := val) (fun D w6 => w6.heap[D]? = some (.cells #[.int .i64 x0, .int .i64 x1, .int .i64 x2, .int .i64 x3, .int .i64 x4] 56 (0, 0)) ∧ w4.heap.size ≤ D ∧ Below w4.heap.size w4 w6) (.read 0 (.read 1 (.read 2 (.read 3 (.read 4 (.read 5 (.read 6 (.read 7 (.read 8 (.read 9 (.read 10 (.read 11 (.two 12 (.read 13 (.read 14 (.read 15 (.one 16 (.one 17 (.read 18 .done)))))) 16 (.one 12 (.read 13 (.read 14 (.read 15 (.one 17 (.read 18 .done))))))))))))))))))) (by kernel_rfl) (by kernel_rfl) y0 hy0 ?_
  apply Exists.intro
  refine ⟨?_, ?_⟩
  case' refine_1 =>
    rw [hy0, hw4]
    refine walkP_read rfl (fun K hK => ?_)
    refine ⟨by rfl, ?_⟩
    unfold isRd
    go_simp
    refine hK _ ?_
    clear hK K
    refine walkP_read rfl (fun K hK => ?_)
    refine ⟨by rfl, ?_⟩
    unfold isRd
    go_simp
    refine hK _ ?_
    clear hK K
    refine walkP_read rfl (fun K hK => ?_)
    refine ⟨by rfl, ?_⟩
    unfold isRd
    go_simp
    refine hK _ ?_
    clear hK K
    refine walkP_read rfl (fun K hK => ?_)
    refine ⟨by rfl, ?_⟩
    unfold isRd
    go_simp
    refine hK _ ?_
    clear hK K
    refine walkP_read rfl (fun K hK => ?_)
    refine ⟨by rfl, ?_⟩
    unfold isRd
    go_simp
    refine hK _ ?_
    clear hK K
    refine walkP_read rfl (fun K hK => ?_)
    refine ⟨by rfl, ?_⟩
    unfold isRd
    go_simp
    refine hK _ ?_
    clear hK K
    refine walkP_read rfl (fun K hK => ?_)
    refine ⟨by rfl, ?_⟩
    unfold isRd
    go_simp
    refine hK _ ?_
    clear hK K
    refine walkP_read rfl (fun K hK => ?_)
    refine ⟨by rfl, ?_⟩
    unfold isRd
    go_simp
    refine hK _ ?_
    clear hK K
    refine walkP_read rfl (fun K hK => ?_)
    refine ⟨by rfl, ?_⟩
    unfold isRd
    go_simp
    refine hK _ ?_
    clear hK K
    refine walkP_read rfl (fun K hK => ?_)
    refine ⟨by rfl, ?_⟩
    unfold isRd
    go_simp
    refine hK _ ?_
    clear hK K
    refine walkP_read rfl (fun K hK => ?_)
    refine ⟨by rfl, ?_⟩
    unfold isRd
    go_simp
    refine hK _ ?_
    clear hK K
    refine walkP_read rfl (fun K hK => ?_)
    refine ⟨by rfl, ?_⟩
    unfold isRd
    go_simp
    refine hK _ ?_
    clear hK K
    have HBs : Hid (Below w4.heap.size w4 w4) := Below.refl _ _
    refine ⟨?_, ?_⟩
    case refine_1 =>
      refine spec_step rfl (fun K hK => ?_)
      refine ⟨by rfl, ?_⟩
      unfold upM
      go_simp
      refine (HGET.out _ HBs.out).mono ?_
      rintro e wc ⟨rfl, hbc⟩
      have HBc := hide (HBs.out.trans (hbc.mono HBs.out.size))
      refine ⟨_, rfl, HMK.out _ HBc.out, hK _ _ ?_⟩
      clear hK K hbc
      refine walkP_read rfl (fun K hK => ?_)
      refine ⟨by rfl, ?_⟩
      unfold isRd
      go_simp
      refine hK _ ?_
      clear hK K
      refine walkP_read rfl (fun K hK => ?_)
      refine ⟨by rfl, ?_⟩
      unfold isRd
      go_simp
      refine hK _ ?_
      clear hK K
      refine walkP_read rfl (fun K hK => ?_)
      refine ⟨by rfl, ?_⟩
      unfold isRd
      go_simp
      refine hK _ ?_
      clear hK K
      refine spec_step rfl (fun K hK => ?_)
      refine ⟨by rfl, ?_⟩
      unfold upM
      go_simp
      obtain ⟨D, hD⟩ : ∃ D, wc.heap.size = D := ⟨_, rfl⟩
      obtain ⟨wz, hwz⟩ : ∃ wz, wc.alloc (.cells #[.int .i64 0, .int .i64 0, .int .i64 0, .int .i64 0, .int .i64 0] 56) = wz := ⟨_, rfl⟩
      rw [hD, hwz]
      have HBz : Hid (Below w4.heap.size w4 wz) := by show Below _ _ _; rw [← hwz]; exact HBc.out.alloc HBc.out.size _
      have HZ : Hid (wz.heap[D]? = some (.cells #[.int .i64 0, .int .i64 0, .int .i64 0, .int .i64 0, .int .i64 0] 56 (0, 0))) := by show _ = _; rw [← hwz, ← hD]; exact heap_alloc_new _ _
      have HLD : Hid (w4.heap.size ≤ D) := by have := HBc.out.size; show _ ≤ _; omega
      refine ⟨HMK.out _ HBz.out, hK _ _ ?_⟩
      clear hK K hwz hD
      have c0 : wz.cell? ⟨D, 0, none⟩ = some (.int .i64 0) := by rw [cell_of_row wz _ 0 _ _ _ HZ.out]; rfl
      have f0 : wz.frozen? ⟨D, 0, none⟩ = false := by simp [World.frozen?, HZ.out]
      have c1 : wz.cell? ⟨D, 1, none⟩ = some (.int .i64 0) := by rw [cell_of_row wz _ 1 _ _ _ HZ.out]; rfl
      have f1 : wz.frozen? ⟨D, 1, none⟩ = false := by simp [World.frozen?, HZ.out]
      have c2 : wz.cell? ⟨D, 2, none⟩ = some (.int .i64 0) := by rw [cell_of_row wz _ 2 _ _ _ HZ.out]; rfl
      have f2 : wz.frozen? ⟨D, 2, none⟩ = false := by simp [World.frozen?, HZ.out]
      have c3 : wz.cell? ⟨D, 3, none⟩ = some (.int .i64 0) := by rw [cell_of_row wz _ 3 _ _ _ HZ.out]; rfl
      have f3 : wz.frozen? ⟨D, 3, none⟩ = false := by simp [World.frozen?, HZ.out]
      have c4 : wz.cell? ⟨D, 4, none⟩ = some (.int .i64 0) := by rw [cell_of_row wz _ 4 _ _ _ HZ.out]; rfl
      have f4 : wz.frozen? ⟨D, 4, none⟩ = false := by simp [World.frozen?, HZ.out]
      have HX := hide (set5_row HZ.out x0 x1 x2 x3 x4)
      have HB6 := hide (below5 HBz.out HLD.out (.int .i64 x0) (.int .i64 x1) (.int .i64 x2) (.int .i64 x3) (.int .i64 x4))
      refine spec_step rfl (fun K hK => ?_)
      refine ⟨by rfl, ?_⟩
      unfold upM
      go_simp
      refine ⟨HMK.out _ HB6.out, hK _ _ ?_⟩
      clear hK K HZ c0 c1 c2 c3 c4 f0 f1 f2 f3 f4
      generalize (((((wz.setCell ⟨D, 0, none⟩ (.int .i64 x0)).setCell ⟨D, 1, none⟩ (.int .i64 x1)).setCell ⟨D, 2, none⟩ (.int .i64 x2)).setCell ⟨D, 3, none⟩ (.int .i64 x3)).setCell ⟨D, 4, none⟩ (.int .i64 x4)) = w6 at *
      refine walkP_read rfl (fun K hK => ?_)
      refine ⟨by rfl, ?_⟩
      unfold isRd
      go_simp
      refine hK _ ?_
      clear hK K
      refine walkP_done ?_
      exact ⟨D, rfl, HX.out, HLD.out, HB6.out⟩
    case refine_2 =>
      refine spec_step rfl (fun K hK => ?_)
      refine ⟨by rfl, ?_⟩
      unfold upM
      go_simp
      obtain ⟨D, hD⟩ : ∃ D, w4.heap.size = D := ⟨_, rfl⟩
      obtain ⟨wy, hwz⟩ : ∃ wz, w4.alloc (.cells #[.int .i64 0, .int .i64 0, .int .i64 0, .int .i64 0, .int .i64 0] 56) = wz := ⟨_, rfl⟩
      rw [hD, hwz]
      have HBy : Hid (Below w4.heap.size w4 wy) := by show Below _ _ _; rw [← hwz]; exact HBs.out.alloc HBs.out.size _
      have HZy : Hid (wy.heap[D]? = some (.cells #[.int .i64 0, .int .i64 0, .int .i64 0, .int .i64 0, .int .i64 0] 56 (0, 0))) := by show _ = _; rw [← hwz, ← hD]; exact heap_alloc_new _ _
      have HLD : Hid (w4.heap.size ≤ D) := by have := HBs.out.size; show _ ≤ _; omega
      refine ⟨HMK.out _ HBy.out, hK _ _ ?_⟩
      clear hK K hwz hD
      refine spec_step rfl (fun K hK => ?_)
      refine ⟨by rfl, ?_⟩
      unfold upM
      go_simp
      refine (HGET.out _ HBy.out).mono ?_
      rintro e wz ⟨rfl, hbc⟩
      have HBz := hide (HBy.out.trans (hbc.mono HBy.out.size))
      have HZ : Hid (wz.heap[D]? = some (.cells #[.int .i64 0, .int .i64 0, .int .i64 0, .int .i64 0, .int .i64 0] 56 (0, 0))) := by show _ = _; rw [hbc.block _ (lt_of_block HZy.out)]; exact HZy.out
      refine ⟨_, rfl, HMK.out _ HBz.out, hK _ _ ?_⟩
      clear hK K hbc
      refine walkP_read rfl (fun K hK => ?_)
      refine ⟨by rfl, ?_⟩
      unfold isRd
      go_simp
      refine hK _ ?_
      clear hK K
      refine walkP_read rfl (fun K hK => ?_)
      refine ⟨by rfl, ?_⟩
      unfold isRd
      go_simp
      refine hK _ ?_
      clear hK K
      refine walkP_read rfl (fun K hK => ?_)
      refine ⟨by rfl, ?_⟩
      unfold isRd
      go_simp
      refine hK _ ?_
      clear hK K
      have c0 : wz.cell? ⟨D, 0, none⟩ = some (.int .i64 0) := by rw [cell_of_row wz _ 0 _ _ _ HZ.out]; rfl
      have f0 : wz.frozen? ⟨D, 0, none⟩ = false := by simp [World.frozen?, HZ.out]
      have c1 : wz.cell? ⟨D, 1, none⟩ = some (.int .i64 0) := by rw [cell_of_row wz _ 1 _ _ _ HZ.out]; rfl
      have f1 : wz.frozen? ⟨D, 1, none⟩ = false := by simp [World.frozen?, HZ.out]
      have c2 : wz.cell? ⟨D, 2, none⟩ = some (.int .i64 0) := by rw [cell_of_row wz _ 2 _ _ _ HZ.out]; rfl
      have f2 : wz.frozen? ⟨D, 2, none⟩ = false := by simp [World.frozen?, HZ.out]
      have c3 : wz.cell? ⟨D, 3, none⟩ = some (.int .i64 0) := by rw [cell_of_row wz _ 3 _ _ _ HZ.out]; rfl
      have f3 : wz.frozen? ⟨D, 3, none⟩ = false := by simp [World.frozen?, HZ.out]
      have c4 : wz.cell? ⟨D, 4, none⟩ = some (.int .i64 0) := by rw [cell_of_row wz _ 4 _ _ _ HZ.out]; rfl
      have f4 : wz.frozen? ⟨D, 4, none⟩ = false := by simp [World.frozen?, HZ.out]
      have HX := hide (set5_row HZ.out x0 x1 x2 x3 x4)
      have HB6 := hide (below5 HBz.out HLD.out (.int .i64 x0) (.int .i64 x1) (.int .i64 x2) (.int .i64 x3) (.int .i64 x4))
      refine spec_step rfl (fun K hK => ?_)
      refine ⟨by rfl, ?_⟩
      unfold upM
      go_simp
      refine ⟨HMK.out _ HB6.out, hK _ _ ?_⟩
      clear hK K HZ c0 c1 c2 c3 c4 f0 f1 f2 f3 f4
      generalize (((((wz.setCell ⟨D, 0, none⟩ (.int .i64 x0)).setCell ⟨D, 1, none⟩ (.int .i64 x1)).setCell ⟨D, 2, none⟩ (.int .i64 x2)).setCell ⟨D, 3, none⟩ (.int .i64 x3)).setCell ⟨D, 4, none⟩ (.int .i64 x4)) = w6 at *
      refine walkP_read rfl (fun K hK => ?_)
      refine ⟨by rfl, ?_⟩
      unfold isRd
      go_simp
      refine hK _ ?_
      clear hK K
      refine walkP_done ?_
      exact ⟨D, rfl, HX.out, HLD.out, HB6.out⟩
  intro D w6 ⟨hX6, hD6, hb6⟩
  have HX := hide hX6
  have HF6 := hide (HF4.out.later hb6)
  have HS6 := hide (HS4.out.below hb6)
  have HR6 : Hid (w6.heap[R]? = some (.cells #[.int .i64 0, .int .i64 0, .int .i64 0, .int .i64 0, .int .i64 0] 56 (0, 0))) := by show _ = _; rw [hb6.block _ (lt_of_block HR4.out)]; exact HR4.out
  have HA6 : Hid (w6.heap[A]? = some (.cells #[.int .u8 ak, .int .i64 ac, .int .i64 asq, .int .i64 i, .int .i64 asd, .int .i64 apr, .int .i64 aq, .int .i64 aid] 34 (0, 0))) := by show _ = _; rw [hb6.block _ (lt_of_block HA4.out)]; exact HA4.out
  have HDR : Hid (D ≠ R) := fun e => by have := lt_of_block HR4.out; omega
  have HFD := hide (HF4.out.fresh hD6)
  have HFRR := hide (hF.out.fresh HRW.out)
  clear hX6 hD6 hb6 HF4 HS4 HR4 HA4 HGET hw4
  clear hy0 ei eb e3 e7 HMK
  clear y0 hnx
  clear val
  clear XT
  have d0 : w6.cell? ⟨D, 0, none⟩ = some (.int .i64 x0) := by rw [cell_of_row w6 _ 0 _ _ _ HX.out]; rfl
  have d1 : w6.cell? ⟨D, 1, none⟩ = some (.int .i64 x1) := by rw [cell_of_row w6 _ 1 _ _ _ HX.out]; rfl
  have d2 : w6.cell? ⟨D, 2, none⟩ = some (.int .i64 x2) := by rw [cell_of_row w6 _ 2 _ _ _ HX.out]; rfl
  have d3 : w6.cell? ⟨D, 3, none⟩ = some (.int .i64 x3) := by rw [cell_of_row w6 _ 3 _ _ _ HX.out]; rfl
  have d4 : w6.cell? ⟨D, 4, none⟩ = some (.int .i64 x4) := by rw [cell_of_row w6 _ 4 _ _ _ HX.out]; rfl
  have a1 : w6.cell? ⟨A, 1, none⟩ = some (.int .i64 ac) := by rw [cell_of_row w6 _ 1 _ _ _ HA6.out]; rfl
  have a3 : w6.cell? ⟨A, 3, none⟩ = some (.int .i64 i) := by rw [cell_of_row w6 _ 3 _ _ _ HA6.out]; rfl
  rcases hno with e | ⟨e, hne⟩
  · subst e
    have g5 := (HF6.out.er he.out).c5
    have h1R : ¬ (1 = R) := fun e => by have := World.block_lt_of_cell? _ _ (hF.out.er he.out).c5; have := HRW.out; simp at *; omega
    have hR1 : ¬ (R = 1) := fun e => h1R e.symm
    have r0 : w6.cell? ⟨R, 0, none⟩ = some (.int .i64 0) := by rw [cell_of_row w6 _ 0 _ _ _ HR6.out]; rfl
    have q0 : w6.frozen? ⟨R, 0, none⟩ = false := by simp [World.frozen?, HR6.out]
    have r1 : w6.cell? ⟨R, 1, none⟩ = some (.int .i64 0) := by rw [cell_of_row w6 _ 1 _ _ _ HR6.out]; rfl
    have q1 : w6.frozen? ⟨R, 1, none⟩ = false := by simp [World.frozen?, HR6.out]
    have r2 : w6.cell? ⟨R, 2, none⟩ = some (.int .i64 0) := by rw [cell_of_row w6 _ 2 _ _ _ HR6.out]; rfl
    have q2 : w6.frozen? ⟨R, 2, none⟩ = false := by simp [World.frozen?, HR6.out]
    have r3 : w6.cell? ⟨R, 3, none⟩ = some (.int .i64 0) := by rw [cell_of_row w6 _ 3 _ _ _ HR6.out]; rfl
    have q3 : w6.frozen? ⟨R, 3, none⟩ = false := by simp [World.frozen?, HR6.out]
    have r4 : w6.cell? ⟨R, 4, none⟩ = some (.int .i64 0) := by rw [cell_of_row w6 _ 4 _ _ _ HR6.out]; rfl
    have q4 : w6.frozen? ⟨R, 4, none⟩ = false := by simp [World.frozen?, HR6.out]
    go_wp2
    go_region
    go_wp2
    have hz9 := set5_row HR6.out 0 0 0 0 0
    have hsv := save5 w6 R (.int .i64 0) (.int .i64 0) (.int .i64 0) (.int .i64 0) (.int .i64 0)
    have hf9 := (HF6.out.aside HFRR.out.1 HFRR.out.2.1 HFRR.out.2.2 (Nat.le_trans hF.out.bl.size HRW.out) hsv).later (blw_drew 1)
    have hs9 := (HS6.out.newer hsv HRW.out).below (blw_drew 1)
    have hz10 : ((((((w6.setCell ⟨R, 0, none⟩ (.int .i64 0)).setCell ⟨R, 1, none⟩ (.int .i64 0)).setCell ⟨R, 2, none⟩ (.int .i64 0)).setCell ⟨R, 3, none⟩ (.int .i64 0)).setCell ⟨R, 4, none⟩ (.int .i64 0)).drewN 1).heap[R]? = some (.cells #[.int .i64 0, .int .i64 0, .int .i64 0, .int .i64 0, .int .i64 0] 56 (0, 0)) := hz9
    clear hsv hz9
    have hz9 := hz10
    clear hz10
    rw [show (((((w6.setCell ⟨R, 0, none⟩ (.int .i64 0)).setCell ⟨R, 1, none⟩ (.int .i64 0)).setCell ⟨R, 2, none⟩ (.int .i64 0)).setCell ⟨R, 3, none⟩ (.int .i64 0)).setCell ⟨R, 4, none⟩ (.int .i64 0)).drewN 1 = (((((w6.setCell ⟨R, 0, none⟩ (.int .i64 0)).setCell ⟨R, 1, none⟩ (.int .i64 0)).setCell ⟨R, 2, none⟩ (.int .i64 0)).setCell ⟨R, 3, none⟩ (.int .i64 0)).setCell ⟨R, 4, none⟩ (.int .i64 0)).drew from rfl] at hf9 hs9 hz9
    generalize (((((w6.setCell ⟨R, 0, none⟩ (.int .i64 0)).setCell ⟨R, 1, none⟩ (.int .i64 0)).setCell ⟨R, 2, none⟩ (.int .i64 0)).setCell ⟨R, 3, none⟩ (.int .i64 0)).setCell ⟨R, 4, none⟩ (.int .i64 0)).drew = Wf at *
    have z0 : Wf.cell? ⟨R, 0, none⟩ = some (.int .i64 0) := by rw [cell_of_row Wf _ 0 _ _ _ hz9]; rfl
    have z1 : Wf.cell? ⟨R, 1, none⟩ = some (.int .i64 0) := by rw [cell_of_row Wf _ 1 _ _ _ hz9]; rfl
    have z2 : Wf.cell? ⟨R, 2, none⟩ = some (.int .i64 0) := by rw [cell_of_row Wf _ 2 _ _ _ hz9]; rfl
    have z3 : Wf.cell? ⟨R, 3, none⟩ = some (.int .i64 0) := by rw [cell_of_row Wf _ 3 _ _ _ hz9]; rfl
    have z4 : Wf.cell? ⟨R, 4, none⟩ = some (.int .i64 0) := by rw [cell_of_row Wf _ 4 _ _ _ hz9]; rfl
    exact bodyPost_ret (v := .tuple #[.agg #[.int .i64 0, .int .i64 0, .int .i64 0, .int .i64 0, .int .i64 0], .iface 252 (ev 5)]) (by simp [results, Tryz.results20, go_sem, z0, z1, z2, z3, z4]) rfl ⟨rfl, v, hf9, hs9⟩
  · subst e
    have hne' : (x1 != ac) = true := by simpa using hne
    have g5 := (HF6.out.er he.out).c5
    have h1R : ¬ (1 = R) := fun e => by have := World.block_lt_of_cell? _ _ (hF.out.er he.out).c5; have := HRW.out; simp at *; omega
    have hR1 : ¬ (R = 1) := fun e => h1R e.symm
    have r0 : w6.cell? ⟨R, 0, none⟩ = some (.int .i64 0) := by rw [cell_of_row w6 _ 0 _ _ _ HR6.out]; rfl
    have q0 : w6.frozen? ⟨R, 0, none⟩ = false := by simp [World.frozen?, HR6.out]
    have r1 : w6.cell? ⟨R, 1, none⟩ = some (.int .i64 0) := by rw [cell_of_row w6 _ 1 _ _ _ HR6.out]; rfl
    have q1 : w6.frozen? ⟨R, 1, none⟩ = false := by simp [World.frozen?, HR6.out]
    have r2 : w6.cell? ⟨R, 2, none⟩ = some (.int .i64 0) := by rw [cell_of_row w6 _ 2 _ _ _ HR6.out]; rfl
    have q2 : w6.frozen? ⟨R, 2, none⟩ = false := by simp [World.frozen?, HR6.out]
    have r3 : w6.cell? ⟨R, 3, none⟩ = some (.int .i64 0) := by rw [cell_of_row w6 _ 3 _ _ _ HR6.out]; rfl
    have q3 : w6.frozen? ⟨R, 3, none⟩ = false := by simp [World.frozen?, HR6.out]
    have r4 : w6.cell? ⟨R, 4, none⟩ = some (.int .i64 0) := by rw [cell_of_row w6 _ 4 _ _ _ HR6.out]; rfl
    have q4 : w6.frozen? ⟨R, 4, none⟩ = false := by simp [World.frozen?, HR6.out]
    go_wp2
    go_region
    go_wp2
    have hz9 := set5_row HR6.out 0 0 0 0 0
    have hsv := save5 w6 R (.int .i64 0) (.int .i64 0) (.int .i64 0) (.int .i64 0) (.int .i64 0)
    have hf9 := (HF6.out.aside HFRR.out.1 HFRR.out.2.1 HFRR.out.2.2 (Nat.le_trans hF.out.bl.size HRW.out) hsv).later (blw_drew 1)
    have hs9 := (HS6.out.newer hsv HRW.out).below (blw_drew 1)
    have hz10 : ((((((w6.setCell ⟨R, 0, none⟩ (.int .i64 0)).setCell ⟨R, 1, none⟩ (.int .i64 0)).setCell ⟨R, 2, none⟩ (.int .i64 0)).setCell ⟨R, 3, none⟩ (.int .i64 0)).setCell ⟨R, 4, none⟩ (.int .i64 0)).drewN 1).heap[R]? = some (.cells #[.int .i64 0, .int .i64 0, .int .i64 0, .int .i64 0, .int .i64 0] 56 (0, 0)) := hz9
    clear hsv hz9
    have hz9 := hz10
    clear hz10
    rw [show (((((w6.setCell ⟨R, 0, none⟩ (.int .i64 0)).setCell ⟨R, 1, none⟩ (.int .i64 0)).setCell ⟨R, 2, none⟩ (.int .i64 0)).setCell ⟨R, 3, none⟩ (.int .i64 0)).setCell ⟨R, 4, none⟩ (.int .i64 0)).drewN 1 = (((((w6.setCell ⟨R, 0, none⟩ (.int .i64 0)).setCell ⟨R, 1, none⟩ (.int .i64 0)).setCell ⟨R, 2, none⟩ (.int .i64 0)).setCell ⟨R, 3, none⟩ (.int .i64 0)).setCell ⟨R, 4, none⟩ (.int .i64 0)).drew from rfl] at hf9 hs9 hz9
    generalize (((((w6.setCell ⟨R, 0, none⟩ (.int .i64 0)).setCell ⟨R, 1, none⟩ (.int .i64 0)).setCell ⟨R, 2, none⟩ (.int .i64 0)).setCell ⟨R, 3, none⟩ (.int .i64 0)).setCell ⟨R, 4, none⟩ (.int .i64 0)).drew = Wf at *
    have z0 : Wf.cell? ⟨R, 0, none⟩ = some (.int .i64 0) := by rw [cell_of_row Wf _ 0 _ _ _ hz9]; rfl
    have z1 : Wf.cell? ⟨R, 1, none⟩ = some (.int .i64 0) := by rw [cell_of_row Wf _ 1 _ _ _ hz9]; rfl
    have z2 : Wf.cell? ⟨R, 2, none⟩ = some (.int .i64 0) := by rw [cell_of_row Wf _ 2 _ _ _ hz9]; rfl
    have z3 : Wf.cell? ⟨R, 3, none⟩ = some (.int .i64 0) := by rw [cell_of_row Wf _ 3 _ _ _ hz9]; rfl
    have z4 : Wf.cell? ⟨R, 4, none⟩ = some (.int .i64 0) := by rw [cell_of_row Wf _ 4 _ _ _ hz9]; rfl
    exact bodyPost_ret (v := .tuple #[.agg #[.int .i64 0, .int .i64 0, .int .i64 0, .int .i64 0, .int .i64 0], .iface 252 (ev 5)]) (by simp [results, Tryz.results20, go_sem, z0, z1, z2, z3, z4]) rfl ⟨rfl, v, hf9, hs9⟩
set_option maxHeartbeats 1000000 in
theorem cancel_mine (a : Ask) (hF : Hid (PFl w W F P I b v L pf n wd h)) (he : Hid (AEr w ev)) (hok : Hid (Fs.FOk L pf)) (hk : Hid (Fl.kindN a 99 = 0)) (hm : Hid (Fl.mine L a = true)) :
    Calls Tryz.prog 20 #[.pointer (some ⟨F, 0, none⟩), askV a] W fun e W' => e = .returned (.tuple #[lotV (Fl.canX L a), errE ev (Fl.canC L pf a)]) ∧ ∃ v', PFl w W' F P I b v' (Fl.canL L a) (Fl.canF L pf a) n wd h ∧ FStep W W' P I b v v' := by
  have hit := Fl.cancel_item hk.out
  obtain ⟨i, hi⟩ : ∃ i : Nat, a.it = i := ⟨a.it.toNat, by omega⟩
  have hi3 : i < 3 := by omega
  have hti : a.it.toNat = i := by omega
  have HK := hide (fun W' (hb : Below W.heap.size W W') => fcheck_any a 99 W' ((hF.out.er he.out).below hb) (by decide))
  rw [Fl.kindE_zero hk.out, show errE ev 0 = .nilIface from rfl] at HK
  have hcz := Fl.can_zero hok.out hk.out hm.out
  have hX : Fl.canX L a = Cv.nth (L i) (Bk.pos (L i) a.id) := by unfold Fl.canX; rw [if_pos ⟨hk.out, hm.out⟩, hti]
  have hL : Fl.canL L a = upd L i (Bk.canL (L i) a.id) := by
    unfold Fl.canL
    rw [if_pos ⟨hk.out, hm.out⟩, hti]
    have hh : Cv.has (L i) a.id = true := by have := hm.out; unfold Fl.mine at this; rw [hti] at this; simp only [Bool.and_eq_true] at this; exact this.1
    have hc0 : Bk.canC (L i) a.id = 0 := by unfold Bk.canC; rw [if_pos hh]
    unfold Bk.canL
    rw [if_pos hc0]
  have hP : Fl.canF L pf a = Pu.freeF pf a.it (Cv.nth (L i) (Bk.pos (L i) a.id)) := by unfold Fl.canF; rw [if_pos ⟨hk.out, hm.out⟩, hX]
  rw [hX, hL, hP, hcz.1, show errE ev 0 = .nilIface from rfl]
  clear hX hL hP hcz
  have hmm := hm.out
  unfold Fl.mine at hmm
  rw [hti] at hmm
  obtain ⟨ak, ac, asq, ait, asd, apr, aq, aid⟩ := a
  simp only [] at hi hti
  subst hi
  unfold askV askA at HK ⊢
  simp only [] at HK ⊢
  simp only [Bool.and_eq_true, beq_iff_eq] at hmm
  obtain ⟨hh, how⟩ := hmm
  have hgx : Bk.getX (L i) aid = Cv.nth (L i) (Bk.pos (L i) aid) := by unfold Bk.getX; rw [if_pos hh]
  have hid0 : (Cv.nth (L i) (Bk.pos (L i) aid)).id = aid := Bk.pos_id (Bk.pos_has.1 hh)
  obtain ⟨⟨x0, x1, x2, x3, x4⟩, hX⟩ : ∃ X, Cv.nth (L i) (Bk.pos (L i) aid) = X := ⟨_, rfl⟩
  rw [hX] at hgx how hid0
  rw [hX]
  simp only [] at how hid0
  subst how
  subst hid0
  have HIS : Hid (Cv.has (L i) x0 = true ∧ Bk.getX (L i) x0 = ⟨x0, x1, x2, x3, x4⟩) := ⟨hh, hgx⟩
  clear hgx hX hh
  unfold lotV
  simp only []
  have HRM : Hid (∀ W', PFl w W' F P I b v L pf n wd h → Calls Tryz.prog 55 #[.pointer (some ⟨F, 0, none⟩), .int .i64 i, .agg #[.int .i64 x0, .int .i64 x1, .int .i64 x2, .int .i64 x3, .int .i64 x4]] W' fun e W'' => e = .returned (.tuple #[]) ∧ ∃ v', PFl w W'' F P I b v' (upd L i (Bk.canL (L i) x0)) (Pu.freeF pf i ⟨x0, x1, x2, x3, x4⟩) n wd h ∧ FStep W' W'' P I b v v') := fun W' hf => remove_act i hi3 ⟨x0, x1, x2, x3, x4⟩ hf he.out hok.out.good (hok.out.bk i hi3).len
  clear hit hk hti
  obtain ⟨R, hR⟩ : ∃ R, W.heap.size + 1 = R := ⟨_, rfl⟩
  obtain ⟨A, hA⟩ : ∃ A, W.heap.size = A := ⟨_, rfl⟩
  obtain ⟨w1, hw1⟩ : ∃ w1, (W.alloc (.cells #[.int .u8 ak, .int .i64 x1, .int .i64 asq, .int .i64 i, .int .i64 asd, .int .i64 apr, .int .i64 aq, .int .i64 x0] 34)).alloc (.cells #[.int .i64 0, .int .i64 0, .int .i64 0, .int .i64 0, .int .i64 0] 56) = w1 := ⟨_, rfl⟩
  have hb1 : Below W.heap.size W w1 := by rw [← hw1]; exact ((Below.refl _ _).alloc (Nat.le_refl _) _).alloc (by simp) _
  have HR1 : Hid (w1.heap[R]? = some (.cells #[.int .i64 0, .int .i64 0, .int .i64 0, .int .i64 0, .int .i64 0] 56 (0, 0))) := by
    show _ = _
    rw [← hw1, ← hR]
    have := heap_alloc_new (W.alloc (.cells #[.int .u8 ak, .int .i64 x1, .int .i64 asq, .int .i64 i, .int .i64 asd, .int .i64 apr, .int .i64 aq, .int .i64 x0] 34)) (.cells #[.int .i64 0, .int .i64 0, .int .i64 0, .int .i64 0, .int .i64 0] 56)
    simpa using this
  have HA1 : Hid (w1.heap[A]? = some (.cells #[.int .u8 ak, .int .i64 x1, .int .i64 asq, .int .i64 i, .int .i64 asd, .int .i64 apr, .int .i64 aq, .int .i64 x0] 34 (0, 0))) := by
    show _ = _
    rw [← hw1, ← hA]
    exact (Below.heap_alloc _ _ _ (by simp)).trans (heap_alloc_new W _)
  have HB1 := hide hb1
  have HRW : Hid (W.heap.size ≤ R) := by show _ ≤ _; omega
  have HW1 := hide hw1; have HRe := hide hR; have HAe := hide hA
  clear hb1 hw1 hR hA
  go_enter Tryz.func20, Tryz.ntmps20
  go_wp2_with fail
  rw [HW1.out, HRe.out, HAe.out]
  refine (HK.out _ HB1.out).mono ?_
  rintro e w2 ⟨rfl, hb2⟩
  have hbW2 := HB1.out.trans (hb2.mono HB1.out.size)
  have HR2 : Hid (w2.heap[R]? = some (.cells #[.int .i64 0, .int .i64 0, .int .i64 0, .int .i64 0, .int .i64 0] 56 (0, 0))) := by show _ = _; rw [hb2.block _ (lt_of_block HR1.out)]; exact HR1.out
  have HA2 : Hid (w2.heap[A]? = some (.cells #[.int .u8 ak, .int .i64 x1, .int .i64 asq, .int .i64 i, .int .i64 asd, .int .i64 apr, .int .i64 aq, .int .i64 x0] 34 (0, 0))) := by show _ = _; rw [hb2.block _ (lt_of_block HA1.out)]; exact HA1.out
  have HF2 := hide (hF.out.later hbW2)
  have HS2 := hide (FStep.of_below hbW2 P I b v)
  clear hb2 hbW2 HB1 HR1 HA1 HW1 HRe HAe HK
  have hii : (0 : Int) ≤ (i : Int) := by omega
  have hi3' : (i : Int) < 3 := by omega
  simp only []
  go_wp2_with fail
  obtain ⟨XT, val, hcl, hmk⟩ := rows3_all F (I i) A (.cells (pfloorA I P wd h) 91 (0, 0)) (.cells (itemA (b i) (n (i * 2)) (n (i * 2 + 1))) 94 (0, 0)) (.cells #[.int .u8 ak, .int .i64 x1, .int .i64 asq, .int .i64 i, .int .i64 asd, .int .i64 apr, .int .i64 aq, .int .i64 x0] 34 (0, 0))
  obtain ⟨y0, hy0⟩ := hmk w2.drew ⟨HF2.out.blk, HF2.out.it i hi3, HA2.out⟩
  have hnx : Nonempty XT := ⟨y0⟩
  have ei : ∀ x, (val x).cell? ⟨F, 2 + i, none⟩ = some (.pointer (some ⟨I i, 0, none⟩)) := fun x => by
    rw [cell_of_row _ _ _ _ _ _ (hcl x).1]
    have : i = 0 ∨ i = 1 ∨ i = 2 := by omega
    rcases this with rfl | rfl | rfl <;> rfl
  have eb : ∀ x, (val x).cell? ⟨I i, 0, none⟩ = some (.pointer (some ⟨b i, 0, none⟩)) := fun x => by rw [cell_of_row _ _ _ _ _ _ (hcl x).2.1]; rfl
  have e3 : ∀ x, (val x).cell? ⟨A, 3, none⟩ = some (.int .i64 i) := fun x => by rw [cell_of_row _ _ _ _ _ _ (hcl x).2.2]; rfl
  have e7 : ∀ x, (val x).cell? ⟨A, 7, none⟩ = some (.int .i64 x0) := fun x => by rw [cell_of_row _ _ _ _ _ _ (hcl x).2.2]; rfl
  have hbd : Below w2.heap.size w2 w2.drew := ⟨rfl, rfl, rfl, Nat.le_refl _, fun _ _ => rfl⟩
  have HF4 := hide (HF2.out.later hbd)
  have HS4 := hide (HS2.out.below hbd)
  have HR4 : Hid (w2.drew.heap[R]? = some (.cells #[.int .i64 0, .int .i64 0, .int .i64 0, .int .i64 0, .int .i64 0] 56 (0, 0))) := HR2.out
  have HA4 : Hid (w2.drew.heap[A]? = some (.cells #[.int .u8 ak, .int .i64 x1, .int .i64 asq, .int .i64 i, .int .i64 asd, .int .i64 apr, .int .i64 aq, .int .i64 x0] 34 (0, 0))) := HA2.out
  obtain ⟨w4, hw4⟩ : ∃ w4, w2.drew = w4 := ⟨_, rfl⟩
  rw [hw4] at HF4 HS4 HR4 HA4
  have HMK : Hid (∀ W', Below w4.heap.size w4 W' → ∃ x, val x = W') := fun W' hb => hmk W' ⟨(HF4.out.later hb).blk, (HF4.out.later hb).it i hi3, by rw [hb.block _ (lt_of_block HA4.out)]; exact HA4.out⟩
  have HGET : Hid (∀ W', Below w4.heap.size w4 W' → Calls Tryz.prog 18 #[.pointer (some ⟨b i, 0, none⟩), .int .i64 x0] W' fun e w' => e = .returned (.tuple #[.agg #[.int .i64 x0, .int .i64 x1, .int .i64 x2, .int .i64 x3, .int .i64 x4], .bool true]) ∧ Below W'.heap.size W' w') := fun W' hb => by
    have := get_any (b i) w.heap.size (v i) x0 (L i) W' ((HF4.out.later hb).bk i hi3) (hok.out.bk i hi3).len
    rw [HIS.out.1, HIS.out.2] at this
    exact this
  clear hmk hcl HF2 HS2 HR2 HA2 hbd
  refine region_join1 (val := val) (fun D w6 => w6.heap[D]? = some (.cells #[.int .i64 x0, .int .i64 x1, .int .i64 x2, .int .i64 x3, .int .i64 x4] 56 (0, 0)) ∧ w4.heap.size ≤ D ∧ Below w4.heap.size w4 w6) (.read 0 (.read 1 (.read 2 (.read 3 (.read 4 (.read 5 (.read 6 (.read 7 (.read 8 (.read 9 (.read 10 (.read 11 (.two 12 (.read 13 (.read 14 (.read 15 (.one 16 (.one 17 (.read 18 .done)))))) 16 (.one 12 (.read 13 (.read 14 (.read 15 (.one 17 (.read 18 .done))))))))))))))))))) (by kernel_rfl) (by kernel_rfl) y0 hy0 ?_
  apply Exists.intro
  refine ⟨?_, ?_⟩
  case' refine_1 =>
    rw [hy0, hw4]
    refine walkP_read rfl (fun K hK => ?_)
    refine ⟨by rfl, ?_⟩
    unfold isRd
    go_simp
    refine hK _ ?_
    clear hK K
    refine walkP_read rfl (fun K hK => ?_)
    refine ⟨by rfl, ?_⟩
    unfold isRd
    go_simp
    refine hK _ ?_
    clear hK K
    refine walkP_read rfl (fun K hK => ?_)
    refine ⟨by rfl, ?_⟩
    unfold isRd
    go_simp
    refine hK _ ?_
    clear hK K
    refine walkP_read rfl (fun K hK => ?_)
    refine ⟨by rfl, ?_⟩
    unfold isRd
    go_simp
    refine hK _ ?_
    clear hK K
    refine walkP_read rfl (fun K hK => ?_)
    refine ⟨by rfl, ?_⟩
    unfold isRd
    go_simp
    refine hK _ ?_
    clear hK K
    refine walkP_read rfl (fun K hK => ?_)
    refine ⟨by rfl, ?_⟩
    unfold isRd
    go_simp
    refine hK _ ?_
    clear hK K
    refine walkP_read rfl (fun K hK => ?_)
    refine ⟨by rfl, ?_⟩
    unfold isRd
    go_simp
    refine hK _ ?_
    clear hK K
    refine walkP_read rfl (fun K hK => ?_)
    refine ⟨by rfl, ?_⟩
    unfold isRd
    go_simp
    refine hK _ ?_
    clear hK K
    refine walkP_read rfl (fun K hK => ?_)
    refine ⟨by rfl, ?_⟩
    unfold isRd
    go_simp
    refine hK _ ?_
    clear hK K
    refine walkP_read rfl (fun K hK => ?_)
    refine ⟨by rfl, ?_⟩
    unfold isRd
    go_simp
    refine hK _ ?_
    clear hK K
    refine walkP_read rfl (fun K hK => ?_)
    refine ⟨by rfl, ?_⟩
    unfold isRd
    go_simp
    refine hK _ ?_
    clear hK K
    refine walkP_read rfl (fun K hK => ?_)
    refine ⟨by rfl, ?_⟩
    unfold isRd
    go_simp
    refine hK _ ?_
    clear hK K
    have HBs : Hid (Below w4.heap.size w4 w4) := Below.refl _ _
    refine ⟨?_, ?_⟩
    case refine_1 =>
      refine spec_step rfl (fun K hK => ?_)
      refine ⟨by rfl, ?_⟩
      unfold upM
      go_simp
      refine (HGET.out _ HBs.out).mono ?_
      rintro e wc ⟨rfl, hbc⟩
      have HBc := hide (HBs.out.trans (hbc.mono HBs.out.size))
      refine ⟨_, rfl, HMK.out _ HBc.out, hK _ _ ?_⟩
      clear hK K hbc
      refine walkP_read rfl (fun K hK => ?_)
      refine ⟨by rfl, ?_⟩
      unfold isRd
      go_simp
      refine hK _ ?_
      clear hK K
      refine walkP_read rfl (fun K hK => ?_)
      refine ⟨by rfl, ?_⟩
      unfold isRd
      go_simp
      refine hK _ ?_
      clear hK K
      refine walkP_read rfl (fun K hK => ?_)
      refine ⟨by rfl, ?_⟩
      unfold isRd
      go_simp
      refine hK _ ?_
      clear hK K
      refine spec_step rfl (fun K hK => ?_)
      refine ⟨by rfl, ?_⟩
      unfold upM
      go_simp
      obtain ⟨D, hD⟩ : ∃ D, wc.heap.size = D := ⟨_, rfl⟩
      obtain ⟨wz, hwz⟩ : ∃ wz, wc.alloc (.cells #[.int .i64 0, .int .i64 0, .int .i64 0, .int .i64 0, .int .i64 0] 56) = wz := ⟨_, rfl⟩
      rw [hD, hwz]
      have HBz : Hid (Below w4.heap.size w4 wz) := by show Below _ _ _; rw [← hwz]; exact HBc.out.alloc HBc.out.size _
      have HZ : Hid (wz.heap[D]? = some (.cells #[.int .i64 0, .int .i64 0, .int .i64 0, .int .i64 0, .int .i64 0] 56 (0, 0))) := by show _ = _; rw [← hwz, ← hD]; exact heap_alloc_new _ _
      have HLD : Hid (w4.heap.size ≤ D) := by have := HBc.out.size; show _ ≤ _; omega
      refine ⟨HMK.out _ HBz.out, hK _ _ ?_⟩
      clear hK K hwz hD
      have c0 : wz.cell? ⟨D, 0, none⟩ = some (.int .i64 0) := by rw [cell_of_row wz _ 0 _ _ _ HZ.out]; rfl
      have f0 : wz.frozen? ⟨D, 0, none⟩ = false := by simp [World.frozen?, HZ.out]
      have c1 : wz.cell? ⟨D, 1, none⟩ = some (.int .i64 0) := by rw [cell_of_row wz _ 1 _ _ _ HZ.out]; rfl
      have f1 : wz.frozen? ⟨D, 1, none⟩ = false := by simp [World.frozen?, HZ.out]
      have c2 : wz.cell? ⟨D, 2, none⟩ = some (.int .i64 0) := by rw [cell_of_row wz _ 2 _ _ _ HZ.out]; rfl
      have f2 : wz.frozen? ⟨D, 2, none⟩ = false := by simp [World.frozen?, HZ.out]
      have c3 : wz.cell? ⟨D, 3, none⟩ = some (.int .i64 0) := by rw [cell_of_row wz _ 3 _ _ _ HZ.out]; rfl
      have f3 : wz.frozen? ⟨D, 3, none⟩ = false := by simp [World.frozen?, HZ.out]
      have c4 : wz.cell? ⟨D, 4, none⟩ = some (.int .i64 0) := by rw [cell_of_row wz _ 4 _ _ _ HZ.out]; rfl
      have f4 : wz.frozen? ⟨D, 4, none⟩ = false := by simp [World.frozen?, HZ.out]
      have HX := hide (set5_row HZ.out x0 x1 x2 x3 x4)
      have HB6 := hide (below5 HBz.out HLD.out (.int .i64 x0) (.int .i64 x1) (.int .i64 x2) (.int .i64 x3) (.int .i64 x4))
      refine spec_step rfl (fun K hK => ?_)
      refine ⟨by rfl, ?_⟩
      unfold upM
      go_simp
      refine ⟨HMK.out _ HB6.out, hK _ _ ?_⟩
      clear hK K HZ c0 c1 c2 c3 c4 f0 f1 f2 f3 f4
      generalize (((((wz.setCell ⟨D, 0, none⟩ (.int .i64 x0)).setCell ⟨D, 1, none⟩ (.int .i64 x1)).setCell ⟨D, 2, none⟩ (.int .i64 x2)).setCell ⟨D, 3, none⟩ (.int .i64 x3)).setCell ⟨D, 4, none⟩ (.int .i64 x4)) = w6 at *
      refine walkP_read rfl (fun K hK => ?_)
      refine ⟨by rfl, ?_⟩
      unfold isRd
      go_simp
      refine hK _ ?_
      clear hK K
      refine walkP_done ?_
      exact ⟨D, rfl, HX.out, HLD.out, HB6.out⟩
    case refine_2 =>
      refine spec_step rfl (fun K hK => ?_)
      refine ⟨by rfl, ?_⟩
      unfold upM
      go_simp
      obtain ⟨D, hD⟩ : ∃ D, w4.heap.size = D := ⟨_, rfl⟩
      obtain ⟨wy, hwz⟩ : ∃ wz, w4.alloc (.cells #[.int .i64 0, .int .i64 0, .int .i64 0, .int .i64 0, .int .i64 0] 56) = wz := ⟨_, rfl⟩
      rw [hD, hwz]
      have HBy : Hid (Below w4.heap.size w4 wy) := by show Below _ _ _; rw [← hwz]; exact HBs.out.alloc HBs.out.size _
      have HZy : Hid (wy.heap[D]? = some (.cells #[.int .i64 0, .int .i64 0, .int .i64 0, .int .i64 0, .int .i64 0] 56 (0, 0))) := by show _ = _; rw [← hwz, ← hD]; exact heap_alloc_new _ _
      have HLD : Hid (w4.heap.size ≤ D) := by have := HBs.out.size; show _ ≤ _; omega
      refine ⟨HMK.out _ HBy.out, hK _ _ ?_⟩
      clear hK K hwz hD
      refine spec_step rfl (fun K hK => ?_)
      refine ⟨by rfl, ?_⟩
      unfold upM
      go_simp
      refine (HGET.out _ HBy.out).mono ?_
      rintro e wz ⟨rfl, hbc⟩
      have HBz := hide (HBy.out.trans (hbc.mono HBy.out.size))
      have HZ : Hid (wz.heap[D]? = some (.cells #[.int .i64 0, .int .i64 0, .int .i64 0, .int .i64 0, .int .i64 0] 56 (0, 0))) := by show _ = _; rw [hbc.block _ (lt_of_block HZy.out)]; exact HZy.out
      refine ⟨_, rfl, HMK.out _ HBz.out, hK _ _ ?_⟩
      clear hK K hbc
      refine walkP_read rfl (fun K hK => ?_)
      refine ⟨by rfl, ?_⟩
      unfold isRd
      go_simp
      refine hK _ ?_
      clear hK K
      refine walkP_read rfl (fun K hK => ?_)
      refine ⟨by rfl, ?_⟩
      unfold isRd
      go_simp
      refine hK _ ?_
      clear hK K
      refine walkP_read rfl (fun K hK => ?_)
      refine ⟨by rfl, ?_⟩
      unfold isRd
      go_simp
      refine hK _ ?_
      clear hK K
      have c0 : wz.cell? ⟨D, 0, none⟩ = some (.int .i64 0) := by rw [cell_of_row wz _ 0 _ _ _ HZ.out]; rfl
      have f0 : wz.frozen? ⟨D, 0, none⟩ = false := by simp [World.frozen?, HZ.out]
      have c1 : wz.cell? ⟨D, 1, none⟩ = some (.int .i64 0) := by rw [cell_of_row wz _ 1 _ _ _ HZ.out]; rfl
      have f1 : wz.frozen? ⟨D, 1, none⟩ = false := by simp [World.frozen?, HZ.out]
      have c2 : wz.cell? ⟨D, 2, none⟩ = some (.int .i64 0) := by rw [cell_of_row wz _ 2 _ _ _ HZ.out]; rfl
      have f2 : wz.frozen? ⟨D, 2, none⟩ = false := by simp [World.frozen?, HZ.out]
      have c3 : wz.cell? ⟨D, 3, none⟩ = some (.int .i64 0) := by rw [cell_of_row wz _ 3 _ _ _ HZ.out]; rfl
      have f3 : wz.frozen? ⟨D, 3, none⟩ = false := by simp [World.frozen?, HZ.out]
      have c4 : wz.cell? ⟨D, 4, none⟩ = some (.int .i64 0) := by rw [cell_of_row wz _ 4 _ _ _ HZ.out]; rfl
      have f4 : wz.frozen? ⟨D, 4, none⟩ = false := by simp [World.frozen?, HZ.out]
      have HX := hide (set5_row HZ.out x0 x1 x2 x3 x4)
      have HB6 := hide (below5 HBz.out HLD.out (.int .i64 x0) (.int .i64 x1) (.int .i64 x2) (.int .i64 x3) (.int .i64 x4))
      refine spec_step rfl (fun K hK => ?_)
      refine ⟨by rfl, ?_⟩
      unfold upM
      go_simp
      refine ⟨HMK.out _ HB6.out, hK _ _ ?_⟩
      clear hK K HZ c0 c1 c2 c3 c4 f0 f1 f2 f3 f4
      generalize (((((wz.setCell ⟨D, 0, none⟩ (.int .i64 x0)).setCell ⟨D, 1, none⟩ (.int .i64 x1)).setCell ⟨D, 2, none⟩ (.int .i64 x2)).setCell ⟨D, 3, none⟩ (.int .i64 x3)).setCell ⟨D, 4, none⟩ (.int .i64 x4)) = w6 at *
      refine walkP_read rfl (fun K hK => ?_)
      refine ⟨by rfl, ?_⟩
      unfold isRd
      go_simp
      refine hK _ ?_
      clear hK K
      refine walkP_done ?_
      exact ⟨D, rfl, HX.out, HLD.out, HB6.out⟩
  intro D w6 ⟨hX6, hD6, hb6⟩
  have HX := hide hX6
  have HF6 := hide (HF4.out.later hb6)
  have HS6 := hide (HS4.out.below hb6)
  have HR6 : Hid (w6.heap[R]? = some (.cells #[.int .i64 0, .int .i64 0, .int .i64 0, .int .i64 0, .int .i64 0] 56 (0, 0))) := by show _ = _; rw [hb6.block _ (lt_of_block HR4.out)]; exact HR4.out
  have HA6 : Hid (w6.heap[A]? = some (.cells #[.int .u8 ak, .int .i64 x1, .int .i64 asq, .int .i64 i, .int .i64 asd, .int .i64 apr, .int .i64 aq, .int .i64 x0] 34 (0, 0))) := by show _ = _; rw [hb6.block _ (lt_of_block HA4.out)]; exact HA4.out
  have HDR : Hid (D ≠ R) := fun e => by have := lt_of_block HR4.out; omega
  have HFD := hide (HF4.out.fresh hD6)
  have HFRR := hide (hF.out.fresh HRW.out)
  clear hX6 hD6 hb6 HF4 HS4 HR4 HA4 HGET hw4
  clear hy0 ei eb e3 e7 HMK
  clear y0 hnx
  clear val
  clear XT
  have d0 : w6.cell? ⟨D, 0, none⟩ = some (.int .i64 x0) := by rw [cell_of_row w6 _ 0 _ _ _ HX.out]; rfl
  have d1 : w6.cell? ⟨D, 1, none⟩ = some (.int .i64 x1) := by rw [cell_of_row w6 _ 1 _ _ _ HX.out]; rfl
  have d2 : w6.cell? ⟨D, 2, none⟩ = some (.int .i64 x2) := by rw [cell_of_row w6 _ 2 _ _ _ HX.out]; rfl
  have d3 : w6.cell? ⟨D, 3, none⟩ = some (.int .i64 x3) := by rw [cell_of_row w6 _ 3 _ _ _ HX.out]; rfl
  have d4 : w6.cell? ⟨D, 4, none⟩ = some (.int .i64 x4) := by rw [cell_of_row w6 _ 4 _ _ _ HX.out]; rfl
  have a1 : w6.cell? ⟨A, 1, none⟩ = some (.int .i64 x1) := by rw [cell_of_row w6 _ 1 _ _ _ HA6.out]; rfl
  have a3 : w6.cell? ⟨A, 3, none⟩ = some (.int .i64 i) := by rw [cell_of_row w6 _ 3 _ _ _ HA6.out]; rfl
  have hne' : (x1 != x1) = false := by simp
  go_wp2_with fail
  refine (HRM.out w6 HF6.out).mono ?_
  rintro e w7 ⟨rfl, v7, hf7, hs7⟩
  have HR7 : Hid (w7.heap[R]? = some (.cells #[.int .i64 0, .int .i64 0, .int .i64 0, .int .i64 0, .int .i64 0] 56 (0, 0))) := by show _ = _; rw [hs7.keep R (lt_of_block HR6.out) HFRR.out.2.1 HFRR.out.2.2]; exact HR6.out
  have HX7 : Hid (w7.heap[D]? = some (.cells #[.int .i64 x0, .int .i64 x1, .int .i64 x2, .int .i64 x3, .int .i64 x4] 56 (0, 0))) := by show _ = _; rw [hs7.keep D (lt_of_block HX.out) HFD.out.2.1 HFD.out.2.2]; exact HX.out
  have HF7 := hide hf7; have HS7 := hide (HS6.out.trans hs7)
  have HFR7 : Hid (∀ j, j < 3 → R ≠ I j ∧ R ≠ b j ∧ (v7 j).ownBlock ≠ some R) := fun j hj => ⟨(HFRR.out.2.2 j hj).1, (HFRR.out.2.2 j hj).2.1, fun e => by
    rcases hs7.new j hj R e with h1 | h1
    · exact (HFRR.out.2.2 j hj).2.2 h1
    · have := lt_of_block HR6.out; omega⟩
  clear d0 d1 d2 d3 d4 a1 a3 hf7 hs7 HX HF6 HS6 HR6 HA6 HRM hne'
  have d0 : w7.cell? ⟨D, 0, none⟩ = some (.int .i64 x0) := by rw [cell_of_row w7 _ 0 _ _ _ HX7.out]; rfl
  have d1 : w7.cell? ⟨D, 1, none⟩ = some (.int .i64 x1) := by rw [cell_of_row w7 _ 1 _ _ _ HX7.out]; rfl
  have d2 : w7.cell? ⟨D, 2, none⟩ = some (.int .i64 x2) := by rw [cell_of_row w7 _ 2 _ _ _ HX7.out]; rfl
  have d3 : w7.cell? ⟨D, 3, none⟩ = some (.int .i64 x3) := by rw [cell_of_row w7 _ 3 _ _ _ HX7.out]; rfl
  have d4 : w7.cell? ⟨D, 4, none⟩ = some (.int .i64 x4) := by rw [cell_of_row w7 _ 4 _ _ _ HX7.out]; rfl
  have r0 : w7.cell? ⟨R, 0, none⟩ = some (.int .i64 0) := by rw [cell_of_row w7 _ 0 _ _ _ HR7.out]; rfl
  have q0 : w7.frozen? ⟨R, 0, none⟩ = false := by simp [World.frozen?, HR7.out]
  have r1 : w7.cell? ⟨R, 1, none⟩ = some (.int .i64 0) := by rw [cell_of_row w7 _ 1 _ _ _ HR7.out]; rfl
  have q1 : w7.frozen? ⟨R, 1, none⟩ = false := by simp [World.frozen?, HR7.out]
  have r2 : w7.cell? ⟨R, 2, none⟩ = some (.int .i64 0) := by rw [cell_of_row w7 _ 2 _ _ _ HR7.out]; rfl
  have q2 : w7.frozen? ⟨R, 2, none⟩ = false := by simp [World.frozen?, HR7.out]
  have r3 : w7.cell? ⟨R, 3, none⟩ = some (.int .i64 0) := by rw [cell_of_row w7 _ 3 _ _ _ HR7.out]; rfl
  have q3 : w7.frozen? ⟨R, 3, none⟩ = false := by simp [World.frozen?, HR7.out]
  have r4 : w7.cell? ⟨R, 4, none⟩ = some (.int .i64 0) := by rw [cell_of_row w7 _ 4 _ _ _ HR7.out]; rfl
  have q4 : w7.frozen? ⟨R, 4, none⟩ = false := by simp [World.frozen?, HR7.out]
  simp only []
  go_wp2
  have hz9 := set5_row HR7.out x0 x1 x2 x3 x4
  have hsv := save5 w7 R (.int .i64 x0) (.int .i64 x1) (.int .i64 x2) (.int .i64 x3) (.int .i64 x4)
  have hf9 := HF7.out.aside HFRR.out.1 HFRR.out.2.1 HFR7.out (Nat.le_trans hF.out.bl.size HRW.out) hsv
  have hs9 := HS7.out.newer hsv HRW.out
  clear hsv
  generalize (((((w7.setCell ⟨R, 0, none⟩ (.int .i64 x0)).setCell ⟨R, 1, none⟩ (.int .i64 x1)).setCell ⟨R, 2, none⟩ (.int .i64 x2)).setCell ⟨R, 3, none⟩ (.int .i64 x3)).setCell ⟨R, 4, none⟩ (.int .i64 x4)) = Wf at *
  have z0 : Wf.cell? ⟨R, 0, none⟩ = some (.int .i64 x0) := by rw [cell_of_row Wf _ 0 _ _ _ hz9]; rfl
  have z1 : Wf.cell? ⟨R, 1, none⟩ = some (.int .i64 x1) := by rw [cell_of_row Wf _ 1 _ _ _ hz9]; rfl
  have z2 : Wf.cell? ⟨R, 2, none⟩ = some (.int .i64 x2) := by rw [cell_of_row Wf _ 2 _ _ _ hz9]; rfl
  have z3 : Wf.cell? ⟨R, 3, none⟩ = some (.int .i64 x3) := by rw [cell_of_row Wf _ 3 _ _ _ hz9]; rfl
  have z4 : Wf.cell? ⟨R, 4, none⟩ = some (.int .i64 x4) := by rw [cell_of_row Wf _ 4 _ _ _ hz9]; rfl
  exact bodyPost_ret (v := .tuple #[.agg #[.int .i64 x0, .int .i64 x1, .int .i64 x2, .int .i64 x3, .int .i64 x4], .nilIface]) (by simp [results, Tryz.results20, go_sem, z0, z1, z2, z3, z4]) rfl ⟨rfl, v7, hf9, hs9⟩
theorem fcancel_any (a : Ask) (hF : PFl w W F P I b v L pf n wd h) (he : AEr w ev) (hok : Fs.FOk L pf) :
    Calls Tryz.prog 20 #[.pointer (some ⟨F, 0, none⟩), askV a] W fun e W' => e = .returned (.tuple #[lotV (Fl.canX L a), errE ev (Fl.canC L pf a)]) ∧ ∃ v', PFl w W' F P I b v' (Fl.canL L a) (Fl.canF L pf a) n wd h ∧ FStep W W' P I b v v' := by
  by_cases hk : Fl.kindN a 99 = 0
  · cases hm : Fl.mine L a with
    | true => exact cancel_mine a hF he hok hk hm
    | false => exact cancel_none a hF he hok hk hm
  · exact cancel_kind a hF he hk
end
end Go.Proofs.YtjdnahmdicamdaaGreatDoor
