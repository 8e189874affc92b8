/- The small functions of package batch: check, find, Book, Purse, Band. -/
import Derived.Test.YtdggddjgipgllaaGreatDoorU15
import Derived.Test.YtdggddjgipgllaaGreatDoorU02
import Derived.Test.YtdggddjgipgllaaGreatDoorU22
import Derived.Test.YtdggddjgipgllaaGreatDoorU04
import Derived.BigRegion
import Derived.BigQuiet
namespace Go.Proofs.YtdggddjgipgllaaGreatDoor
open Go.RowKit
set_option maxRecDepth 100000

namespace Fl
/-- the error, by our number, of a request that should be of one kind -/
def kindE (a : Ask) (k : Int) : Nat := (kindN a k - 1).toNat
theorem kindE_zero {a : Ask} {k : Int} (h : kindN a k = 0) : kindE a k = 0 := by unfold kindE; rw [h]; rfl
end Fl

section
variable {ev : Nat → Value}
set_option maxHeartbeats 1000000 in
theorem wcheck_any (a : Ask) (w : World) (he : AEr w ev) (hz : 11 < w.heap.size) : Calls Tryz.prog 76 #[askV a] w fun e w' => e = .returned (errE ev (Wi.code a.k a.c a.sq a.it a.sd a.pr a.q a.id - 1)) ∧ Below w.heap.size w w' := by
  obtain ⟨ak, ac, asq, ait, asd, apr, aq, aid⟩ := a
  show Calls Tryz.prog 76 #[.agg #[.int .u8 ak, .int .i64 ac, .int .i64 asq, .int .i64 ait, .int .i64 asd, .int .i64 apr, .int .i64 aq, .int .i64 aid]] w fun e w' => e = .returned (errE ev (Wi.code ak ac asq ait asd apr aq aid - 1)) ∧ _
  unfold Wi.code
  cases hk : Wi.kindB ak with
  | false => exact check_kind ak ac asq ait asd apr aq aid _ w (by omega) he.c3 hk
  | true =>
    cases hb : Wi.boundB ak ac asq ait asd apr aq aid with
    | false => exact check_bound ak ac asq ait asd apr aq aid _ w (by omega) he.c1 hk hb
    | true =>
      cases hs : Wi.shapeB ak ait asd apr aq aid with
      | false => exact check_shape ak ac asq ait asd apr aq aid _ w (by omega) he.c2 hk hb hs
      | true => exact check_fine ak ac asq ait asd apr aq aid w hk hb hs

theorem AEr.size {w : World} (h : AEr w ev) : 11 < w.heap.size := World.block_lt_of_cell? w _ h.c11

set_option maxHeartbeats 1000000 in
theorem fcheck_any (a : Ask) (k : Int) (w : World) (he : Hid (AEr w ev)) (hk : 0 ≤ k ∧ k < 256) : Calls Tryz.prog 39 #[askV a, .int .u8 k] w fun e w' => e = .returned (errE ev (Fl.kindE a k)) ∧ Below w.heap.size w w' := by
  have HA := hide (fun W (hb : Below w.heap.size w W) => wcheck_any a W (he.out.below hb) (he.out.below hb).size)
  have HK : Hid (Fl.kindE a k = ((if Wi.code a.k a.c a.sq a.it a.sd a.pr a.q a.id = 0 ∧ a.k ≠ k then (4 : Int) else ((Wi.code a.k a.c a.sq a.it a.sd a.pr a.q a.id : Nat) : Int)) - 1).toNat) := rfl
  generalize Fl.kindE a k = KE at *
  obtain ⟨ak, ac, asq, ait, asd, apr, aq, aid⟩ := a
  unfold askV askA at HA ⊢
  simp only [] at HA HK ⊢
  have h1 : Wi.code ak ac asq ait asd apr aq aid ≠ 1 := by
    unfold Wi.code; split <;> (try split) <;> (try split) <;> decide
  generalize Wi.code ak ac asq ait asd apr aq aid = cd at *
  have hb0 : Below w.heap.size w (w.alloc (.cells #[.int .u8 ak, .int .i64 ac, .int .i64 asq, .int .i64 ait, .int .i64 asd, .int .i64 apr, .int .i64 aq, .int .i64 aid] 34)) := (Below.refl _ _).alloc (Nat.le_refl _) _
  have hr0 : (w.alloc (.cells #[.int .u8 ak, .int .i64 ac, .int .i64 asq, .int .i64 ait, .int .i64 asd, .int .i64 apr, .int .i64 aq, .int .i64 aid] 34)).heap[w.heap.size]? = some (.cells #[.int .u8 ak, .int .i64 ac, .int .i64 asq, .int .i64 ait, .int .i64 asd, .int .i64 apr, .int .i64 aq, .int .i64 aid] 34 (0, 0)) := heap_alloc_new _ _
  have HB0 := hide hb0; have HR0 := hide hr0
  clear hb0 hr0
  go_enter Tryz.func39, Tryz.ntmps39
  go_wp2_with fail
  refine (HA.out _ HB0.out).mono ?_
  rintro e w2 ⟨rfl, hb2⟩
  have HB2 := hide (HB0.out.trans (hb2.mono HB0.out.size))
  have c0 : w2.cell? ⟨w.heap.size, 0, none⟩ = some (.int .u8 ak) := by rw [cell_of_row w2 _ 0 _ _ _ (by rw [hb2.block _ (lt_of_block HR0.out)]; exact HR0.out)]; rfl
  have c3 := (he.out.below HB2.out).c3
  clear hb2 HA HB0 HR0
  simp only []
  by_cases hc : cd = 0
  · subst hc
    rw [show errE ev (0 - 1) = .nilIface from rfl]
    by_cases hk2 : ak = k
    · subst hk2
      have : (ak != ak) = false := by simp
      go_wp2
      go_ret
      exact ⟨by rw [HK.out]; simp [errE], HB2.out⟩
    · have hk' : (ak != k) = true := by simpa using hk2
      have hz := (he.out.below HB2.out).size
      go_wp2
      try go_quiet (fail)
      go_ret
      exact ⟨by rw [HK.out]; simp [errE, hk2], HB2.out⟩
  · obtain ⟨d, rfl⟩ : ∃ d, cd = d + 1 + 1 := ⟨cd - 2, by omega⟩
    have hne : ¬ (d + 1 + 1 = 0 ∧ ak ≠ k) := fun h => by omega
    have hKE : KE = d + 1 := by rw [HK.out, if_neg hne]; omega
    subst hKE
    rw [show errE ev (d + 1 + 1 - 1) = .iface 252 (ev (d + 1)) from rfl]
    clear HK hne hc h1
    go_wp2
    go_ret
    exact ⟨rfl, HB2.out⟩

section
variable {w W : World} {F P : Nat} {I b : Nat → Nat} {v : Nat → Value} {L : Nat → List Cv.Lot} {pf n : Nat → Int} {wd h : Int}
def itemV (I : Nat → Nat) (k : Int) : Value := if Wi.withinB k 0 2 = true then .pointer (some ⟨I k.toNat, 0, none⟩) else .pointer none
def bookV (b : Nat → Nat) (k : Int) : Value := if Wi.withinB k 0 2 = true then .pointer (some ⟨b k.toNat, 0, none⟩) else .pointer none
def bandOf (n : Nat → Int) (k : Int) : Value := if Wi.withinB k 0 2 = true then bandV (n (k.toNat * 2)) (n (k.toNat * 2 + 1)) else bandV 0 0
theorem find_out (k : Int) (hF : Hid (PFl w W F P I b v L pf n wd h)) (hk : Wi.withinB k 0 2 = false) : Calls Tryz.prog 43 #[.pointer (some ⟨F, 0, none⟩), .int .i64 k] W fun e w' => e = .returned (.pointer none) ∧ w' = W := by
  have HW := hide (fun W => within_any k 0 2 W)
  rw [hk] at HW
  go_enter Tryz.func43, Tryz.ntmps43
  go_wp2_with fail
  refine (HW.out _).mono ?_
  rintro e w2 ⟨rfl, rfl⟩
  simp only []
  go_wp2
  go_ret
  exact ⟨rfl, rfl⟩
theorem find_in (i : Nat) (hi : i < 3) (hF : Hid (PFl w W F P I b v L pf n wd h)) : Calls Tryz.prog 43 #[.pointer (some ⟨F, 0, none⟩), .int .i64 i] W fun e w' => e = .returned (.pointer (some ⟨I i, 0, none⟩)) ∧ w' = W := by
  have HW := hide (fun W => within_any (i : Int) 0 2 W)
  rw [show Wi.withinB (i : Int) 0 2 = true by simp [Wi.withinB]; omega] at HW
  have ci := hF.out.cellI hi
  have h0 : (0 : Int) ≤ (i : Int) := by omega
  have h3 : (i : Int) < 3 := by omega
  go_enter Tryz.func43, Tryz.ntmps43
  go_wp2_with fail
  refine (HW.out _).mono ?_
  rintro e w2 ⟨rfl, rfl⟩
  simp only []
  go_wp2
  go_ret
  exact ⟨rfl, rfl⟩
theorem book_in (i : Nat) (hi : i < 3) (hF : Hid (PFl w W F P I b v L pf n wd h)) : Calls Tryz.prog 11 #[.pointer (some ⟨F, 0, none⟩), .int .i64 i] W fun e w' => e = .returned (.pointer (some ⟨b i, 0, none⟩)) ∧ w' = W := by
  have HW := hide (find_in i hi hF)
  have ci := hF.out.cellB hi
  go_enter Tryz.func11, Tryz.ntmps11
  go_wp2_with fail
  refine (HW.out).mono ?_
  rintro e w2 ⟨rfl, rfl⟩
  simp only []
  go_wp2
  go_ret
  exact ⟨rfl, rfl⟩
theorem book_out (k : Int) (hF : Hid (PFl w W F P I b v L pf n wd h)) (hk : Wi.withinB k 0 2 = false) : Calls Tryz.prog 11 #[.pointer (some ⟨F, 0, none⟩), .int .i64 k] W fun e w' => e = .returned (.pointer none) ∧ w' = W := by
  have HW := hide (find_out k hF hk)
  go_enter Tryz.func11, Tryz.ntmps11
  go_wp2_with fail
  refine (HW.out).mono ?_
  rintro e w2 ⟨rfl, rfl⟩
  simp only []
  go_wp2
  go_ret
  exact ⟨rfl, rfl⟩
theorem purse_of (hF : Hid (PFl w W F P I b v L pf n wd h)) : Calls Tryz.prog 13 #[.pointer (some ⟨F, 0, none⟩)] W fun e w' => e = .returned (.pointer (some ⟨P, 0, none⟩)) ∧ w' = W := by
  have ci := hF.out.cellP
  go_enter Tryz.func13, Tryz.ntmps13
  go_wp2
  go_ret
  exact ⟨rfl, rfl⟩
theorem size69 : (Tryz.prog.info? 69).map (·.size) = some 2 := by kernel_rfl
theorem load69 {w : World} {B : Nat} {r l : Int} (h : w.heap[B]? = some (.cells #[.int .i64 r, .int .i64 l] 69 (0, 0))) : (loadVar 69 ⟨B, 0, none⟩).run Tryz.prog w = .ok (.agg #[.int .i64 r, .int .i64 l]) w :=
  run_loadVar_row w B 69 69 _ (0, 0) _ h Tryz.underlying69 rfl size69
set_option maxHeartbeats 1000000 in
theorem band_in (i : Nat) (hi : i < 3) (hF : Hid (PFl w W F P I b v L pf n wd h)) : Calls Tryz.prog 22 #[.pointer (some ⟨F, 0, none⟩), .int .i64 i] W fun e w' => e = .returned (bandV (n (i * 2)) (n (i * 2 + 1))) ∧ Below W.heap.size W w' := by
  have hb0 : Below W.heap.size W (W.alloc (.cells #[.int .i64 0, .int .i64 0] 69)) := (Below.refl _ _).alloc (Nat.le_refl _) _
  have HW := hide (find_in (W := W.alloc (.cells #[.int .i64 0, .int .i64 0] 69)) i hi (hF.out.later hb0))
  have c1 := (hF.out.later hb0).cellR hi
  have c2 := (hF.out.later hb0).cellL hi
  have HB0 := hide hb0
  clear hb0
  unfold bandV
  go_enter Tryz.func22, Tryz.ntmps22
  go_wp2_with fail
  refine (HW.out).mono ?_
  rintro e w2 ⟨rfl, rfl⟩
  simp only []
  go_wp2
  refine bodyPost_ret (v := .agg #[.int .i64 (n (i * 2)), .int .i64 (n (i * 2 + 1))]) ?_ rfl ⟨rfl, (Below.refl _ _).alloc (Nat.le_refl _) _⟩
  rw [results_one_cell rfl]
  simp [asAddr, Result.andThen, load69 (heap_alloc_new W _)]
end
end
end Go.Proofs.YtdggddjgipgllaaGreatDoor
/- Place of package batch, by its contract. -/
namespace Go.Proofs.YtdggddjgipgllaaGreatDoor
open Go.RowKit
set_option maxRecDepth 100000

theorem add_back {l : List Cv.Lot} {x : Cv.Lot} (hn : Cv.has l x.id = false) : Bk.canC (l ++ [x]) x.id = 0 ∧ Bk.canL (l ++ [x]) x.id = l := by
  have hh : Cv.has (l ++ [x]) x.id = true := by unfold Cv.has; simp
  have hc : Bk.canC (l ++ [x]) x.id = 0 := by unfold Bk.canC; rw [if_pos hh]
  have hp : Bk.pos (l ++ [x]) x.id = l.length := by
    unfold Bk.pos
    have h0 : l.findIdx (fun y => y.id == x.id) = l.length := Bk.pos_hasnt.1 hn
    rw [List.findIdx_append, h0, if_neg (by omega)]
    simp
  refine ⟨hc, ?_⟩
  unfold Bk.canL
  rw [if_pos hc, hp]
  unfold Bk.del
  simp
section
variable {w W : World} {F P : Nat} {I b : Nat → Nat} {v : Nat → Value} {L : Nat → List Cv.Lot} {pf n : Nat → Int} {wd h : Int} {ev : Nat → Value}
set_option maxHeartbeats 1000000 in
theorem place_kind (a : Ask) (hF : Hid (PFl w W F P I b v L pf n wd h)) (he : Hid (AEr w ev)) (hk : Hid (Fl.kindN a 111 ≠ 0)) :
    Calls Tryz.prog 10 #[.pointer (some ⟨F, 0, none⟩), askV a] W fun e W' => e = .returned (errE ev (Fl.placeC L pf a)) ∧ ∃ v', PFl w W' F P I b v' (Fl.placeL L pf a) (Fl.placeF L pf a) n wd h ∧ FStep W W' P I b v v' := by
  have hpos := Fl.kindN_pos hk.out
  have hC : Fl.placeC L pf a = Fl.kindE a 111 := by unfold Fl.placeC Fl.kindE; rw [if_neg hk.out]
  have hne : Fl.placeC L pf a ≠ 0 := by rw [hC]; unfold Fl.kindE; omega
  rw [show Fl.placeL L pf a = L by unfold Fl.placeL; rw [if_neg hne], show Fl.placeF L pf a = pf by unfold Fl.placeF; rw [if_neg hne], hC]
  rw [hC] at hne
  have HK := hide (fun W' (hb : Below W.heap.size W W') => fcheck_any a 111 W' ((hF.out.er he.out).below hb) (by decide))
  generalize Fl.kindE a 111 = kn at *
  obtain ⟨d, rfl⟩ : ∃ d, kn = d + 1 := ⟨kn - 1, by omega⟩
  rw [show errE ev (d + 1) = .iface 252 (ev (d + 1)) from rfl] at HK ⊢
  clear hC hne
  obtain ⟨ak, ac, asq, ait, asd, apr, aq, aid⟩ := a
  unfold askV askA at HK ⊢
  simp only [] at HK ⊢
  have hb0 : Below W.heap.size W (W.alloc (.cells #[.int .u8 ak, .int .i64 ac, .int .i64 asq, .int .i64 ait, .int .i64 asd, .int .i64 apr, .int .i64 aq, .int .i64 aid] 34)) := (Below.refl _ _).alloc (Nat.le_refl _) _
  have HB0 := hide hb0
  clear hb0
  go_enter Tryz.func10, Tryz.ntmps10
  go_wp2_with fail
  refine (HK.out _ HB0.out).mono ?_
  rintro e w2 ⟨rfl, hb2⟩
  have HB2 := hide (HB0.out.trans (hb2.mono HB0.out.size))
  clear hb2 HK HB0
  simp only []
  go_wp2
  go_ret
  exact ⟨rfl, v, hF.out.later HB2.out, FStep.of_below HB2.out P I b v⟩

set_option maxHeartbeats 1000000 in
theorem place_fine (a : Ask) (hF : Hid (PFl w W F P I b v L pf n wd h)) (he : Hid (AEr w ev)) (hok : Hid (Fs.FOk L pf)) (hk : Hid (Fl.kindN a 111 = 0)) :
    Calls Tryz.prog 10 #[.pointer (some ⟨F, 0, none⟩), askV a] W fun e W' => e = .returned (errE ev (Fl.placeC L pf a)) ∧ ∃ v', PFl w W' F P I b v' (Fl.placeL L pf a) (Fl.placeF L pf a) n wd h ∧ FStep W W' P I b v v' := by
  have hit := Fl.place_item hk.out
  obtain ⟨i, hi⟩ : ∃ i : Nat, a.it = i := ⟨a.it.toNat, by omega⟩
  have hi3 : i < 3 := by omega
  have hC0 : Fl.placeC L pf a = if Cv.ok (Fl.lot a) = true then (if Cv.has (L i) a.id = true then 6 else if 60 ≤ (L i).length then 7 else Pu.holdC pf a.it (Fl.lot a)) else 1 := by
    unfold Fl.placeC; rw [if_pos hk.out, show a.it.toNat = i by omega]
  have hC1 : Bk.addC (L i) (Fl.lot a) = 1 → Fl.placeC L pf a = 1 := fun h => by
    rw [hC0]; unfold Bk.addC at h
    split at h
    · split at h
      · cases h
      · split at h <;> cases h
    · rename_i hn; rw [if_neg hn]
  have hC2 : Bk.addC (L i) (Fl.lot a) = 2 → Fl.placeC L pf a = 6 := fun h => by
    rw [hC0]; unfold Bk.addC at h
    split at h
    · rename_i h1; rw [if_pos h1]
      split at h
      · rename_i h2; rw [if_pos (by simpa [Fl.lot] using h2)]
      · split at h <;> cases h
    · cases h
  have hC3 : Bk.addC (L i) (Fl.lot a) = 3 → Fl.placeC L pf a = 7 := fun h => by
    rw [hC0]; unfold Bk.addC at h
    split at h
    · rename_i h1; rw [if_pos h1]
      split at h
      · cases h
      · rename_i h2; rw [if_neg (by simpa [Fl.lot] using h2)]
        split at h
        · rename_i h3; rw [if_pos h3]
        · cases h
    · cases h
  have hC4 : Bk.addC (L i) (Fl.lot a) = 0 → Fl.placeC L pf a = Pu.holdC pf a.it (Fl.lot a) := fun h => by
    obtain ⟨h1, h2, h3⟩ := Bk.add_ok h
    rw [hC0, if_pos h1, if_neg (by rw [show a.id = (Fl.lot a).id from rfl, h2]; simp), if_neg (by omega)]
  have hCx : Bk.addC (L i) (Fl.lot a) = 0 ∨ Bk.addC (L i) (Fl.lot a) = 1 ∨ Bk.addC (L i) (Fl.lot a) = 2 ∨ Bk.addC (L i) (Fl.lot a) = 3 := by
    unfold Bk.addC; split <;> (try split) <;> (try split) <;> simp
  clear hC0
  have hL0 : Fl.placeC L pf a = 0 → Fl.placeL L pf a = upd L i (L i ++ [Fl.lot a]) := fun h => by unfold Fl.placeL; rw [if_pos h, show a.it.toNat = i by omega]
  have hL1 : Fl.placeC L pf a ≠ 0 → Fl.placeL L pf a = L := fun h => by unfold Fl.placeL; rw [if_neg h]
  have hF0 : Fl.placeC L pf a = 0 → Fl.placeF L pf a = Pu.holdF pf a.it (Fl.lot a) := fun h => by unfold Fl.placeF; rw [if_pos h]
  have hF1 : Fl.placeC L pf a ≠ 0 → Fl.placeF L pf a = pf := fun h => by unfold Fl.placeF; rw [if_neg h]
  have HK := hide (fun W' (hb : Below W.heap.size W W') => fcheck_any a 111 W' ((hF.out.er he.out).below hb) (by decide))
  rw [Fl.kindE_zero hk.out, show errE ev 0 = .nilIface from rfl] at HK
  generalize Fl.placeC L pf a = pc at *
  generalize Fl.placeL L pf a = Lf at *
  generalize Fl.placeF L pf a = Ff at *
  obtain ⟨ak, ac, asq, ait, asd, apr, aq, aid⟩ := a
  simp only [] at hi
  subst hi
  unfold askV askA at HK ⊢
  simp only [Fl.lot] at HK hC1 hC2 hC3 hC4 hL0 hF0 hCx
  simp only []
  have HC1 := hide hC1; have HC2 := hide hC2; have HC3 := hide hC3; have HC4 := hide hC4; have HCX := hide hCx
  have HL0 := hide hL0; have HL1 := hide hL1; have HF0 := hide hF0; have HF1 := hide hF1
  clear hC1 hC2 hC3 hC4 hL0 hL1 hF0 hF1 hit hk hCx
  have hb0 : Below W.heap.size W (W.alloc (.cells #[.int .u8 ak, .int .i64 ac, .int .i64 asq, .int .i64 i, .int .i64 asd, .int .i64 apr, .int .i64 aq, .int .i64 aid] 34)) := (Below.refl _ _).alloc (Nat.le_refl _) _
  have hr0 : (W.alloc (.cells #[.int .u8 ak, .int .i64 ac, .int .i64 asq, .int .i64 i, .int .i64 asd, .int .i64 apr, .int .i64 aq, .int .i64 aid] 34)).heap[W.heap.size]? = some (.cells #[.int .u8 ak, .int .i64 ac, .int .i64 asq, .int .i64 i, .int .i64 asd, .int .i64 apr, .int .i64 aq, .int .i64 aid] 34 (0, 0)) := heap_alloc_new _ _
  have HB0 := hide hb0; have HR0 := hide hr0
  clear hb0 hr0
  obtain ⟨A, hA⟩ : ∃ A, W.heap.size = A := ⟨_, rfl⟩
  have HAe := hide hA
  clear hA
  go_enter Tryz.func10, Tryz.ntmps10
  go_wp2_with fail
  refine (HK.out _ HB0.out).mono ?_
  rintro e w2 ⟨rfl, hb2⟩
  have HB2 := hide (HB0.out.trans (hb2.mono HB0.out.size))
  have HR2 : Hid (w2.heap[A]? = some (.cells #[.int .u8 ak, .int .i64 ac, .int .i64 asq, .int .i64 i, .int .i64 asd, .int .i64 apr, .int .i64 aq, .int .i64 aid] 34 (0, 0))) := by show _ = _; rw [← HAe.out, hb2.block _ (lt_of_block HR0.out)]; exact HR0.out
  have HF2 := hide (hF.out.later HB2.out)
  have HS2 := hide (FStep.of_below HB2.out P I b v)
  rw [HAe.out]
  clear hb2 HK HB0 HR0 HB2 HAe
  have k1 : w2.cell? ⟨A, 1, none⟩ = some (.int .i64 ac) := by rw [cell_of_row w2 _ 1 _ _ _ HR2.out]; rfl
  have k4 : w2.cell? ⟨A, 4, none⟩ = some (.int .i64 asd) := by rw [cell_of_row w2 _ 4 _ _ _ HR2.out]; rfl
  have k5 : w2.cell? ⟨A, 5, none⟩ = some (.int .i64 apr) := by rw [cell_of_row w2 _ 5 _ _ _ HR2.out]; rfl
  have k6 : w2.cell? ⟨A, 6, none⟩ = some (.int .i64 aq) := by rw [cell_of_row w2 _ 6 _ _ _ HR2.out]; rfl
  have k7 : w2.cell? ⟨A, 7, none⟩ = some (.int .i64 aid) := by rw [cell_of_row w2 _ 7 _ _ _ HR2.out]; rfl
  obtain ⟨w3, hw3⟩ : ∃ w3, w2.alloc (.cells #[.int .i64 aid, .int .i64 ac, .int .i64 asd, .int .i64 apr, .int .i64 aq] 56) = w3 := ⟨_, rfl⟩
  obtain ⟨B, hB⟩ : ∃ B, w2.heap.size = B := ⟨_, rfl⟩
  have hb3 : Below w2.heap.size w2 w3 := by rw [← hw3]; exact (Below.refl _ _).alloc (Nat.le_refl _) _
  have HX3 : Hid (w3.heap[B]? = some (.cells #[.int .i64 aid, .int .i64 ac, .int .i64 asd, .int .i64 apr, .int .i64 aq] 56 (0, 0))) := by show _ = _; rw [← hw3, ← hB]; exact heap_alloc_new _ _
  have HR3 : Hid (w3.heap[A]? = some (.cells #[.int .u8 ak, .int .i64 ac, .int .i64 asq, .int .i64 i, .int .i64 asd, .int .i64 apr, .int .i64 aq, .int .i64 aid] 34 (0, 0))) := by show _ = _; rw [hb3.block _ (lt_of_block HR2.out)]; exact HR2.out
  have HF3 := hide (HF2.out.later hb3)
  have HS3 := hide (HS2.out.below hb3)
  have HBO : Hid (∀ j, j < 3 → B ≠ b j ∧ (v j).ownBlock ≠ some B) := fun j hj => ⟨fun e => by have := (HF2.out.bk j hj).lt; omega, fun e => by have := ((HF2.out.bk j hj).rowLt _ e).2; omega⟩
  have HW3 := hide hw3; have HBe := hide hB
  clear hb3 hw3 hB
  simp only []
  go_wp2_with fail
  rw [HW3.out, HBe.out]
  have a3 : w3.cell? ⟨A, 3, none⟩ = some (.int .i64 i) := by rw [cell_of_row w3 _ 3 _ _ _ HR3.out]; rfl
  have fi := HF3.out.cellI hi3
  have fb := HF3.out.cellB hi3
  have hii : (0 : Int) ≤ (i : Int) := by omega
  have hi3' : (i : Int) < 3 := by omega
  clear k1 k4 k5 k6 k7 HR2 HF2 HS2 HW3 HBe
  go_quiet (fail)
  have hbq : Below w3.heap.size w3 (w3.drewN nq) := blw_drew nq
  have HX5 : Hid ((w3.drewN nq).heap[B]? = some (.cells #[.int .i64 aid, .int .i64 ac, .int .i64 asd, .int .i64 apr, .int .i64 aq] 56 (0, 0))) := HX3.out
  have HR5 : Hid ((w3.drewN nq).heap[A]? = some (.cells #[.int .u8 ak, .int .i64 ac, .int .i64 asq, .int .i64 i, .int .i64 asd, .int .i64 apr, .int .i64 aq, .int .i64 aid] 34 (0, 0))) := HR3.out
  have HF5 := hide (HF3.out.later hbq)
  have HS5 := hide (HS3.out.below hbq)
  clear hbq HX3 HR3 HF3 HS3 a3 fi fb
  generalize w3.drewN nq = w5 at *
  have x0 : w5.cell? ⟨B, 0, none⟩ = some (.int .i64 aid) := by rw [cell_of_row w5 _ 0 _ _ _ HX5.out]; rfl
  have x1 : w5.cell? ⟨B, 1, none⟩ = some (.int .i64 ac) := by rw [cell_of_row w5 _ 1 _ _ _ HX5.out]; rfl
  have x2 : w5.cell? ⟨B, 2, none⟩ = some (.int .i64 asd) := by rw [cell_of_row w5 _ 2 _ _ _ HX5.out]; rfl
  have x3 : w5.cell? ⟨B, 3, none⟩ = some (.int .i64 apr) := by rw [cell_of_row w5 _ 3 _ _ _ HX5.out]; rfl
  have x4 : w5.cell? ⟨B, 4, none⟩ = some (.int .i64 aq) := by rw [cell_of_row w5 _ 4 _ _ _ HX5.out]; rfl
  have hadd := add_any (b i) w.heap.size (v i) ⟨aid, ac, asd, apr, aq⟩ (L i) 252 (ev 1) (ev 5) (ev 6) (ev 7) w5 (HF5.out.er he.out).er4 (HF5.out.bk i hi3) (hok.out.bk i hi3).len
  have HADD := hide hadd
  unfold lotV at HADD
  simp only [] at HADD
  clear hadd
  go_wp2_with fail
  refine HADD.out.mono ?_
  rintro e w6 ⟨rfl, v6, hb6, hs6⟩
  have HF6 := hide (HF5.out.book hi3 hb6 hs6)
  have HS6 := hide (HS5.out.trans (FStep.of_book hi3 hs6 P I))
  have HX6 : Hid (w6.heap[B]? = some (.cells #[.int .i64 aid, .int .i64 ac, .int .i64 asd, .int .i64 apr, .int .i64 aq] 56 (0, 0))) := by
    show _ = _
    rw [hs6.only.block B (lt_of_block HX5.out) (fun e => (HBO.out i hi3).1 (by simpa using e)) (fun e => (HBO.out i hi3).2 e.symm)]
    exact HX5.out
  have HR6 : Hid (w6.heap[A]? = some (.cells #[.int .u8 ak, .int .i64 ac, .int .i64 asq, .int .i64 i, .int .i64 asd, .int .i64 apr, .int .i64 aq, .int .i64 aid] 34 (0, 0))) := by
    show _ = _
    rw [hs6.only.block A (lt_of_block HR5.out) (fun e => blkT HR5.out (HF5.out.bk i hi3).cell (by decide) (by simpa using e)) (fun e => rowT (HF5.out.bk i hi3).row HR5.out (by decide) e.symm)]
    exact HR5.out
  clear hb6 hs6 x0 x1 x2 x3 x4 HF5 HS5 HX5 HR5 HADD
  simp only []
  rcases HCX.out with hc | hc | hc | hc
  · have hpc := HC4.out hc
    rw [show errOf 252 (ev 1) (ev 5) (ev 6) (ev 7) (Bk.addC (L i) ⟨aid, ac, asd, apr, aq⟩) = .nilIface by rw [hc]; rfl]
    have hLa : Bk.addL (L i) ⟨aid, ac, asd, apr, aq⟩ = L i ++ [⟨aid, ac, asd, apr, aq⟩] := by unfold Bk.addL; rw [if_pos hc]
    rw [hLa] at HF6
    obtain ⟨hok1, hn1, hl1⟩ := Bk.add_ok hc
    have HBACK := hide (add_back (l := L i) (x := ⟨aid, ac, asd, apr, aq⟩) hn1)
    have HPC := hide hpc
    have HLEN : Hid ((L i ++ [(⟨aid, ac, asd, apr, aq⟩ : Cv.Lot)]).length ≤ 60) := by show _ ≤ _; simp; omega
    clear hc hLa hpc hok1 hn1 hl1 HC1 HC2 HC3 HC4 HCX
    have x0 : w6.cell? ⟨B, 0, none⟩ = some (.int .i64 aid) := by rw [cell_of_row w6 _ 0 _ _ _ HX6.out]; rfl
    have x1 : w6.cell? ⟨B, 1, none⟩ = some (.int .i64 ac) := by rw [cell_of_row w6 _ 1 _ _ _ HX6.out]; rfl
    have x2 : w6.cell? ⟨B, 2, none⟩ = some (.int .i64 asd) := by rw [cell_of_row w6 _ 2 _ _ _ HX6.out]; rfl
    have x3 : w6.cell? ⟨B, 3, none⟩ = some (.int .i64 apr) := by rw [cell_of_row w6 _ 3 _ _ _ HX6.out]; rfl
    have x4 : w6.cell? ⟨B, 4, none⟩ = some (.int .i64 aq) := by rw [cell_of_row w6 _ 4 _ _ _ HX6.out]; rfl
    have a3 : w6.cell? ⟨A, 3, none⟩ = some (.int .i64 i) := by rw [cell_of_row w6 _ 3 _ _ _ HR6.out]; rfl
    have fp := HF6.out.cellP
    go_wp2_with fail
    refine region_quiet_tail 7 (by kernel_rfl) (by kernel_rfl) ?_
    simp only [List.take_succ_cons, List.take_zero, List.drop_succ_cons, List.drop_zero]
    repeat (first | go_big_quiet_step (fail) | quiet_step (fail))
    refine wpQuiet_nil ?_
    intro _ hw'
    obtain ⟨nq, hw''⟩ := hw'
    subst hw''
    have HX7 : Hid ((w6.drewN nq).heap[B]? = some (.cells #[.int .i64 aid, .int .i64 ac, .int .i64 asd, .int .i64 apr, .int .i64 aq] 56 (0, 0))) := HX6.out
    have HF7 := hide (HF6.out.later (blw_drew nq))
    have HS7 := hide (HS6.out.below (blw_drew nq))
    clear x0 x1 x2 x3 x4 a3 fp HX6 HR6 HF6 HS6
    generalize w6.drewN nq = w7 at *
    have HH := hide (hold_any P i ⟨aid, ac, asd, apr, aq⟩ pf ev w7 (HF7.out.er he.out).per HF7.out.pu hok.out.good)
    unfold lotV at HH
    simp only [] at HH
    go_wp2_with fail
    refine HH.out.mono ?_
    rintro e w8 ⟨rfl, hp8, hs8⟩
    have HF8 := hide (HF7.out.purse hp8 hs8)
    have HS8 := hide (HS7.out.trans (FStep.of_purse hs8 I b _))
    have HX8 : Hid (w8.heap[B]? = some (.cells #[.int .i64 aid, .int .i64 ac, .int .i64 asd, .int .i64 apr, .int .i64 aq] 56 (0, 0))) := by
      show _ = _
      rw [hs8.block _ (lt_of_block HX7.out) (blkT HX7.out HF7.out.pu (by decide))]
      exact HX7.out
    clear hp8 hs8 HH HX7 HF7 HS7
    rw [← HPC.out]
    simp only []
    by_cases h0 : pc = 0
    · subst h0
      rw [show errE ev 0 = .nilIface from rfl]
      go_wp2
      go_ret
      refine ⟨rfl, _, ?_, HS8.out⟩
      rw [HL0.out (by simp), HF0.out (by simp)]
      exact HF8.out
    · obtain ⟨d, rfl⟩ : ∃ d, pc = d + 1 := ⟨pc - 1, by omega⟩
      rw [show errE ev (d + 1) = .iface 252 (ev (d + 1)) from rfl]
      have hpf : Pu.holdF pf i ⟨aid, ac, asd, apr, aq⟩ = pf := by unfold Pu.holdF; rw [if_neg (by rw [← HPC.out]; omega)]
      rw [hpf] at HF8
      have x0 : w8.cell? ⟨B, 0, none⟩ = some (.int .i64 aid) := by rw [cell_of_row w8 _ 0 _ _ _ HX8.out]; rfl
      have hbk := HF8.out.bk i hi3
      rw [upd_same, upd_same] at hbk
      have hcan := cancel_any (b i) w.heap.size v6 aid (L i ++ [(⟨aid, ac, asd, apr, aq⟩ : Cv.Lot)]) 252 (ev 1) (ev 5) (ev 6) (ev 7) w8 (HF8.out.er he.out).er4 hbk HLEN.out
      have hcl : Bk.canL (L i ++ [(⟨aid, ac, asd, apr, aq⟩ : Cv.Lot)]) aid = L i := HBACK.out.2
      rw [hcl] at hcan
      have HCAN := hide hcan
      clear hpf hbk hcan hcl
      go_wp2_with fail
      refine HCAN.out.mono ?_
      rintro e w9 ⟨rfl, v9, hb9, hs9⟩
      have hs9' : Step w8 w9 (b i) (upd v i v6 i) v9 := by rw [upd_same]; exact hs9
      have HF9 := hide (HF8.out.book hi3 hb9 hs9')
      have HS9 := hide (HS8.out.trans (FStep.of_book hi3 hs9' P I))
      rw [upd_upd, upd_upd, upd_self L i] at HF9
      rw [upd_upd] at HS9
      clear hb9 hs9 hs9' HCAN HF8 HS8
      simp only []
      go_wp2
      go_ret
      refine ⟨rfl, _, ?_, HS9.out⟩
      rw [HL1.out (by omega), HF1.out (by omega)]
      exact HF9.out
  · have hpc : pc = 1 := HC1.out hc
    rw [show errOf 252 (ev 1) (ev 5) (ev 6) (ev 7) (Bk.addC (L i) ⟨aid, ac, asd, apr, aq⟩) = .iface 252 (ev 1) by rw [hc]; rfl]
    have hLa : Bk.addL (L i) ⟨aid, ac, asd, apr, aq⟩ = L i := by unfold Bk.addL; rw [if_neg (by rw [hc]; decide)]
    rw [hLa, upd_self] at HF6
    clear hc hLa
    go_wp2
    go_ret
    exact ⟨by rw [hpc]; rfl, _, by rw [HL1.out (by omega), HF1.out (by omega)]; exact HF6.out, HS6.out⟩
  · have hpc : pc = 6 := HC2.out hc
    rw [show errOf 252 (ev 1) (ev 5) (ev 6) (ev 7) (Bk.addC (L i) ⟨aid, ac, asd, apr, aq⟩) = .iface 252 (ev 6) by rw [hc]; rfl]
    have hLa : Bk.addL (L i) ⟨aid, ac, asd, apr, aq⟩ = L i := by unfold Bk.addL; rw [if_neg (by rw [hc]; decide)]
    rw [hLa, upd_self] at HF6
    clear hc hLa
    go_wp2
    go_ret
    exact ⟨by rw [hpc]; rfl, _, by rw [HL1.out (by omega), HF1.out (by omega)]; exact HF6.out, HS6.out⟩
  · have hpc : pc = 7 := HC3.out hc
    rw [show errOf 252 (ev 1) (ev 5) (ev 6) (ev 7) (Bk.addC (L i) ⟨aid, ac, asd, apr, aq⟩) = .iface 252 (ev 7) by rw [hc]; rfl]
    have hLa : Bk.addL (L i) ⟨aid, ac, asd, apr, aq⟩ = L i := by unfold Bk.addL; rw [if_neg (by rw [hc]; decide)]
    rw [hLa, upd_self] at HF6
    clear hc hLa
    go_wp2
    go_ret
    exact ⟨by rw [hpc]; rfl, _, by rw [HL1.out (by omega), HF1.out (by omega)]; exact HF6.out, HS6.out⟩
theorem place_any (a : Ask) (hF : PFl w W F P I b v L pf n wd h) (he : AEr w ev) (hok : Fs.FOk L pf) :
    Calls Tryz.prog 10 #[.pointer (some ⟨F, 0, none⟩), askV a] W fun e W' => e = .returned (errE ev (Fl.placeC L pf a)) ∧ ∃ v', PFl w W' F P I b v' (Fl.placeL L pf a) (Fl.placeF L pf a) n wd h ∧ FStep W W' P I b v v' := by
  by_cases hk : Fl.kindN a 111 = 0
  · exact place_fine a hF he hok hk
  · exact place_kind a hF he hk
end
end Go.Proofs.YtdggddjgipgllaaGreatDoor
/- remove of package batch, by its contract. -/
namespace Go.Proofs.YtdggddjgipgllaaGreatDoor
open Go.RowKit
set_option maxRecDepth 100000
section
variable {w W : World} {F P : Nat} {I b : Nat → Nat} {v : Nat → Value} {L : Nat → List Cv.Lot} {pf n : Nat → Int} {wd h : Int} {ev : Nat → Value}
theorem PFl.fresh (hF : PFl w W F P I b v L pf n wd h) {q : Nat} (hq : W.heap.size ≤ q) : q ≠ F ∧ q ≠ P ∧ ∀ i, i < 3 → q ≠ I i ∧ q ≠ b i ∧ (v i).ownBlock ≠ some q := by
  have h1 := hF.lt
  have h2 := hF.pu.lt
  refine ⟨by omega, by omega, fun i hi => ?_⟩
  have h3 := lt_of_block (hF.it i hi)
  have h4 := (hF.bk i hi).lt
  exact ⟨by omega, by omega, fun e => by have := ((hF.bk i hi).rowLt _ e).2; omega⟩
set_option maxHeartbeats 1000000 in
theorem remove_act (i : Nat) (hi : i < 3) (x : Cv.Lot) (hF : Hid (PFl w W F P I b v L pf n wd h)) (he : Hid (AEr w ev)) (hg : Hid (Pu.Good pf)) (hl : Hid ((L i).length ≤ 60)) :
    Calls Tryz.prog 55 #[.pointer (some ⟨F, 0, none⟩), .int .i64 i, lotV x] W fun e W' => e = .returned (.tuple #[]) ∧ ∃ v', PFl w W' F P I b v' (upd L i (Bk.canL (L i) x.id)) (Pu.freeF pf i x) n wd h ∧ FStep W W' P I b v v' := by
  obtain ⟨x0, x1, x2, x3, x4⟩ := x
  unfold lotV
  simp only []
  obtain ⟨B, hB⟩ : ∃ B, W.heap.size = B := ⟨_, rfl⟩
  obtain ⟨w1, hw1⟩ : ∃ w1, W.alloc (.cells #[.int .i64 x0, .int .i64 x1, .int .i64 x2, .int .i64 x3, .int .i64 x4] 56) = w1 := ⟨_, rfl⟩
  have hb1 : Below W.heap.size W w1 := by rw [← hw1]; exact (Below.refl _ _).alloc (Nat.le_refl _) _
  have HX1 : Hid (w1.heap[B]? = some (.cells #[.int .i64 x0, .int .i64 x1, .int .i64 x2, .int .i64 x3, .int .i64 x4] 56 (0, 0))) := by show _ = _; rw [← hw1, ← hB]; exact heap_alloc_new _ _
  have HF1 := hide (hF.out.later hb1)
  have HS1 := hide (FStep.of_below hb1 P I b v)
  have HFR := hide (hF.out.fresh (q := B) (by omega))
  have HW1 := hide hw1; have HBe := hide hB
  clear hb1 hw1 hB
  have k0 : w1.cell? ⟨B, 0, none⟩ = some (.int .i64 x0) := by rw [cell_of_row w1 _ 0 _ _ _ HX1.out]; rfl
  have fi := HF1.out.cellI hi
  have fb := HF1.out.cellB hi
  have h0 : (0 : Int) ≤ (i : Int) := by omega
  have h3 : (i : Int) < 3 := by omega
  go_enter Tryz.func55, Tryz.ntmps55
  go_wp2_with fail
  rw [HW1.out, HBe.out]
  refine region_quiet_tail 11 (by kernel_rfl) (by kernel_rfl) ?_
  simp only [List.take_succ_cons, List.take_zero, List.drop_succ_cons, List.drop_zero]
  repeat (first | go_big_quiet_step (fail) | quiet_step (fail))
  refine wpQuiet_nil ?_
  intro _ hw'
  obtain ⟨nq, hw''⟩ := hw'
  subst hw''
  have HX2 : Hid ((w1.drewN nq).heap[B]? = some (.cells #[.int .i64 x0, .int .i64 x1, .int .i64 x2, .int .i64 x3, .int .i64 x4] 56 (0, 0))) := HX1.out
  have HF2 := hide (HF1.out.later (blw_drew nq))
  have HS2 := hide (HS1.out.below (blw_drew nq))
  clear k0 fi fb HX1 HF1 HS1 HW1
  generalize w1.drewN nq = w2 at *
  have HCAN := hide (cancel_any (b i) w.heap.size (v i) x0 (L i) 252 (ev 1) (ev 5) (ev 6) (ev 7) w2 (HF2.out.er he.out).er4 (HF2.out.bk i hi) hl.out)
  go_wp2_with fail
  refine HCAN.out.mono ?_
  rintro e w3 ⟨rfl, v3, hb3, hs3⟩
  have HF3 := hide (HF2.out.book hi hb3 hs3)
  have HS3 := hide (HS2.out.trans (FStep.of_book hi hs3 P I))
  have HX3 : Hid (w3.heap[B]? = some (.cells #[.int .i64 x0, .int .i64 x1, .int .i64 x2, .int .i64 x3, .int .i64 x4] 56 (0, 0))) := by
    show _ = _
    rw [hs3.only.block B (lt_of_block HX2.out) (fun e => (HFR.out.2.2 i hi).2.1 (by simpa using e)) (fun e => (HFR.out.2.2 i hi).2.2 e.symm)]
    exact HX2.out
  clear hb3 hs3 HCAN HX2 HF2 HS2
  simp only []
  have k0 : w3.cell? ⟨B, 0, none⟩ = some (.int .i64 x0) := by rw [cell_of_row w3 _ 0 _ _ _ HX3.out]; rfl
  have k1 : w3.cell? ⟨B, 1, none⟩ = some (.int .i64 x1) := by rw [cell_of_row w3 _ 1 _ _ _ HX3.out]; rfl
  have k2 : w3.cell? ⟨B, 2, none⟩ = some (.int .i64 x2) := by rw [cell_of_row w3 _ 2 _ _ _ HX3.out]; rfl
  have k3 : w3.cell? ⟨B, 3, none⟩ = some (.int .i64 x3) := by rw [cell_of_row w3 _ 3 _ _ _ HX3.out]; rfl
  have k4 : w3.cell? ⟨B, 4, none⟩ = some (.int .i64 x4) := by rw [cell_of_row w3 _ 4 _ _ _ HX3.out]; rfl
  have fp := HF3.out.cellP
  go_wp2_with fail
  refine region_quiet_tail 6 (by kernel_rfl) (by kernel_rfl) ?_
  simp only [List.take_succ_cons, List.take_zero, List.drop_succ_cons, List.drop_zero]
  repeat (first | go_big_quiet_step (fail) | quiet_step (fail))
  refine wpQuiet_nil ?_
  intro _ hw'
  obtain ⟨nq, hw''⟩ := hw'
  subst hw''
  have HF4 := hide (HF3.out.later (blw_drew nq))
  have HS4 := hide (HS3.out.below (blw_drew nq))
  clear k0 k1 k2 k3 k4 fp HX3 HF3 HS3
  generalize w3.drewN nq = w4 at *
  have HFREE := hide (free_any P i ⟨x0, x1, x2, x3, x4⟩ pf ev w4 (HF4.out.er he.out).per HF4.out.pu hg.out)
  unfold lotV at HFREE
  simp only [] at HFREE
  go_wp2_with fail
  refine HFREE.out.mono ?_
  rintro e w5 ⟨rfl, hp5, hs5⟩
  have HF5 := hide (HF4.out.purse hp5 hs5)
  have HS5 := hide (HS4.out.trans (FStep.of_purse hs5 I b _))
  clear hp5 hs5 HFREE HF4 HS4
  simp only []
  go_wp2
  go_end0
  exact ⟨rfl, _, HF5.out, HS5.out⟩
end
end Go.Proofs.YtdggddjgipgllaaGreatDoor
