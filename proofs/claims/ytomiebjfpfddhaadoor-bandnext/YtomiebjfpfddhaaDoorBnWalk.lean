/- The law BandNext, for all numbers. -/
import Derived.Test.YtomiebjfpfddhaaDoorBdMore
import Derived.Test.YtomiebjfpfddhaaDoorCode
namespace Go.Proofs.YtomiebjfpfddhaaDoor
open Go.RowKit
set_option maxRecDepth 100000

theorem row_later {w w' : World} {b : Nat} {x : Obj} (hb : Below w.heap.size w w') (h : w.heap[b]? = some x) : w'.heap[b]? = some x := by
  rw [hb.block _ (Array.getElem?_eq_some_iff.1 h).1]; exact h
theorem row_cell {w : World} {B j : Nat} {T : TypeId} {a : Array Value} {v : Value} (h : w.heap[B]? = some (.cells a T (0, 0))) (e : a[j]? = some v) : w.cell? ⟨B, j, none⟩ = some v := by
  rw [cell_of_row w B j _ _ _ h, e]
theorem ber_sent {w : World} {ad : Nat → Addr} (h : Sent w ad) : BEr w 115 (.pointer (some (ad 1))) := ⟨h.cell 1 (by decide)⟩

theorem codedOk (ad : Nat → Addr) (b : Bool) (w : World) (hs : Hid (Sent w ad)) :
    Calls Tryd.prog 28 #[okE 115 (.pointer (some (ad 1))) b, .int .i64 (okN b)] w fun e w' => e = .returned (.bool true) ∧ Below w.heap.size w w' := by
  have HC : Hid (Calls Tryd.prog 41 #[okE 115 (.pointer (some (ad 1))) b] w fun e w' => e = .returned (.tuple #[.int .i64 (okN b), .int .i64 (-1)]) ∧ Below w.heap.size w w') := by
    show Calls _ _ _ _ _
    cases b
    · exact (code_sent 1 (by decide) ad w hs.out).mono (by rintro e w' ⟨rfl, hb⟩; exact ⟨rfl, hb⟩)
    · refine (code_nil w).mono ?_
      rintro e w' ⟨rfl, rfl⟩
      exact ⟨rfl, Below.refl _ _⟩
  generalize okE 115 (.pointer (some (ad 1))) b = ev at *
  generalize okN b = en at *
  go_enter Tryd.func28, Tryd.ntmps28
  go_wp2_with fail
  refine HC.out.mono ?_
  rintro e w2 ⟨rfl, hb2⟩
  have HB := hide hb2
  clear hb2 HC
  simp only []
  go_wp2
  go_ret
  exact ⟨rfl, HB.out⟩

set_option maxHeartbeats 2000000 in
theorem bn_bad (r l wd h p v : Int) (ad : Nat → Addr) (w : World) (hs : Hid (Sent w ad)) (hk : (Bd.bOk r l && (Bd.rOk wd h && Bd.vOk p v)) = false) :
    Calls Tryd.prog 6 #[.int .i64 r, .int .i64 l, .int .i64 wd, .int .i64 h, .int .i64 p, .int .i64 v] w fun e w' => e = .returned (.bool true) ∧ Below w.heap.size w w' := by
  go_enter Tryd.func6, Tryd.ntmps6
  go_wp2_with fail
  refine (banded_any 115 _ w (ber_sent hs.out)).mono ?_
  rintro e w1 ⟨rfl, hb1⟩
  obtain ⟨W, hWd⟩ : ∃ W, (w1.alloc (.cells #[.int .i64 r, .int .i64 l] 45)).alloc (.cells #[.int .i64 wd, .int .i64 h] 47) = W := ⟨_, rfl⟩
  obtain ⟨B, hBe⟩ : ∃ B, w1.heap.size = B := ⟨_, rfl⟩
  have hb2 : Below w.heap.size w W := by rw [← hWd]; exact (hb1.alloc hb1.size _).alloc (by have := hb1.size; simp; omega) _
  have HR0 : Hid (W.heap[B]? = some (.cells #[.int .i64 r, .int .i64 l] 45 (0, 0))) := by
    show _ = _
    rw [← hWd, ← hBe]
    exact (Below.heap_alloc _ _ _ (by simp)).trans (heap_alloc_new _ _)
  have HR1 : Hid (W.heap[B + 1]? = some (.cells #[.int .i64 wd, .int .i64 h] 47 (0, 0))) := by
    show _ = _
    rw [← hWd, ← hBe]
    have := heap_alloc_new (w1.alloc (.cells #[.int .i64 r, .int .i64 l] 45)) (.cells #[.int .i64 wd, .int .i64 h] 47)
    rw [show (w1.alloc (.cells #[.int .i64 r, .int .i64 l] 45)).heap.size = w1.heap.size + 1 by simp] at this
    exact this
  have HB := hide hb2; have HWd := hide hWd; have HBe := hide hBe
  clear hb1 hb2 hWd hBe
  simp only []
  go_wp2_with fail
  rw [HWd.out, HBe.out]
  clear HWd HBe
  have HN := hide (next_bad r l wd h p v 115 _ W (ber_sent (hs.out.later HB.out)) hk)
  unfold bandV at HN
  refine HN.out.mono ?_
  rintro e w2 ⟨rfl, hbx⟩
  clear HN
  obtain ⟨C, hCe⟩ : ∃ C, w2.heap.size = C := ⟨_, rfl⟩
  obtain ⟨w3, hw3⟩ : ∃ w3, w2.alloc (.cells #[.int .i64 0, .int .i64 0] 45) = w3 := ⟨_, rfl⟩
  have hby : Below W.heap.size W w3 := by rw [← hw3]; exact hbx.alloc hbx.size _
  replace HB := hide (HB.out.trans (hby.mono HB.out.size))
  replace HR0 := hide (row_later hby HR0.out)
  replace HR1 := hide (row_later hby HR1.out)
  have HR2 : Hid (w3.heap[C]? = some (.cells #[.int .i64 0, .int .i64 0] 45 (0, 0))) := by show _ = _; rw [← hw3, ← hCe]; exact heap_alloc_new _ _
  have HW3 := hide hw3; have HCe := hide hCe
  clear hbx hby hw3 hCe
  have HE1 := hide (bandError_any r l wd h w3)
  have HE2 := hide (fun W => bandError_any r l 0 1 W)
  have HE3 := hide (fun W => bandError_any 1 0 wd h W)
  rw [show Bd.rOk 0 1 = true by decide, Bool.and_true] at HE2
  rw [show Bd.bOk 1 0 = true by decide, Bool.true_and] at HE3
  have HC1 := hide (fun W hb => bcheck_any r l 115 (.pointer (some (ad 1))) W (ber_sent (hs.out.later hb)))
  have HC2 := hide (fun W hb => rcheck_any wd h 115 (.pointer (some (ad 1))) W (ber_sent (hs.out.later hb)))
  unfold bandV at HE1 HE2 HE3 HC1 HC2
  simp only []
  go_wp2_with fail
  rw [HW3.out, HCe.out]
  clear HW3 HCe
  refine (HE1.out).mono ?_
  rintro e w4 ⟨rfl, hbx⟩
  replace HB := hide (HB.out.trans (hbx.mono HB.out.size))
  replace HR0 := hide (row_later hbx HR0.out)
  replace HR1 := hide (row_later hbx HR1.out)
  replace HR2 := hide (row_later hbx HR2.out)
  clear hbx
  simp only []
  have x0 : w4.cell? ⟨B, 0, none⟩ = some (.int .i64 r) := row_cell HR0.out rfl
  have x1 : w4.cell? ⟨B, 1, none⟩ = some (.int .i64 l) := row_cell HR0.out rfl
  go_wp2_with fail
  refine (HC1.out _ HB.out).mono ?_
  rintro e w5 ⟨rfl, hbx⟩
  replace HB := hide (HB.out.trans (hbx.mono HB.out.size))
  replace HR0 := hide (row_later hbx HR0.out)
  replace HR1 := hide (row_later hbx HR1.out)
  replace HR2 := hide (row_later hbx HR2.out)
  clear hbx
  simp only []
  clear x0 x1
  go_wp2_with fail
  refine (HE2.out _).mono ?_
  rintro e w6 ⟨rfl, hbx⟩
  replace HB := hide (HB.out.trans (hbx.mono HB.out.size))
  replace HR0 := hide (row_later hbx HR0.out)
  replace HR1 := hide (row_later hbx HR1.out)
  replace HR2 := hide (row_later hbx HR2.out)
  clear hbx
  simp only []
  go_wp2_with fail
  refine (codedOk ad (Bd.bOk r l) w6 (hs.out.later HB.out)).mono ?_
  rintro e w7 ⟨rfl, hbx⟩
  replace HB := hide (HB.out.trans (hbx.mono HB.out.size))
  replace HR0 := hide (row_later hbx HR0.out)
  replace HR1 := hide (row_later hbx HR1.out)
  replace HR2 := hide (row_later hbx HR2.out)
  clear hbx
  simp only []
  have y0 : w7.cell? ⟨(B + 1), 0, none⟩ = some (.int .i64 wd) := row_cell HR1.out rfl
  have y1 : w7.cell? ⟨(B + 1), 1, none⟩ = some (.int .i64 h) := row_cell HR1.out rfl
  go_wp2_with fail
  refine (HC2.out _ HB.out).mono ?_
  rintro e w8 ⟨rfl, hbx⟩
  replace HB := hide (HB.out.trans (hbx.mono HB.out.size))
  replace HR0 := hide (row_later hbx HR0.out)
  replace HR1 := hide (row_later hbx HR1.out)
  replace HR2 := hide (row_later hbx HR2.out)
  clear hbx
  simp only []
  clear y0 y1
  go_wp2_with fail
  refine (HE3.out _).mono ?_
  rintro e w9 ⟨rfl, hbx⟩
  replace HB := hide (HB.out.trans (hbx.mono HB.out.size))
  replace HR0 := hide (row_later hbx HR0.out)
  replace HR1 := hide (row_later hbx HR1.out)
  replace HR2 := hide (row_later hbx HR2.out)
  clear hbx
  simp only []
  go_wp2_with fail
  refine (codedOk ad (Bd.rOk wd h) w9 (hs.out.later HB.out)).mono ?_
  rintro e w10 ⟨rfl, hbx⟩
  replace HB := hide (HB.out.trans (hbx.mono HB.out.size))
  replace HR0 := hide (row_later hbx HR0.out)
  replace HR1 := hide (row_later hbx HR1.out)
  replace HR2 := hide (row_later hbx HR2.out)
  clear hbx
  simp only []
  clear HE1 HE2 HE3 HC1 HC2
  have n0 : w10.cell? ⟨C, 0, none⟩ = some (.int .i64 0) := row_cell HR2.out rfl
  have n1 : w10.cell? ⟨C, 1, none⟩ = some (.int .i64 0) := row_cell HR2.out rfl
  have HCO := hide (codedOk ad false w10 (hs.out.later HB.out))
  rw [show okE 115 (.pointer (some (ad 1))) false = .iface 115 (.pointer (some (ad 1))) from rfl, show okN false = 2 from rfl] at HCO
  cases hbr : Bd.bOk r l && Bd.rOk wd h with
  | false =>
    rw [show okN false = 2 from rfl]
    go_wp2_with fail
    refine HCO.out.mono ?_
    rintro e w11 ⟨rfl, hbx⟩
    replace HB := hide (HB.out.trans (hbx.mono HB.out.size))
    replace HR2 := hide (row_later hbx HR2.out)
    clear hbx n0 n1
    have n0 : w11.cell? ⟨C, 0, none⟩ = some (.int .i64 0) := row_cell HR2.out rfl
    have n1 : w11.cell? ⟨C, 1, none⟩ = some (.int .i64 0) := row_cell HR2.out rfl
    simp only []
    go_wp2
    go_ret
    exact ⟨rfl, HB.out⟩
  | true =>
    rw [show okN true = 0 from rfl]
    have hv : Bd.vOk p v = false := by
      cases h1 : Bd.vOk p v
      · rfl
      · rw [h1, Bool.and_true, hbr] at hk; cases hk
    have hv3 : v < 0 ∨ (0 < v ∧ p < 1) ∨ (0 < v ∧ 1000 < p) := by
      simp [Bd.vOk, Wi.withinB] at hv
      omega
    clear hv hk hbr
    rcases hv3 with hv | ⟨hv, hp⟩ | ⟨hv, hp⟩
    all_goals
      first | (have hv' : ¬ v < 0 := by omega) | skip
      first | (have hp' : ¬ p < 1 := by omega) | skip
      go_wp2_with fail
      refine HCO.out.mono ?_
      rintro e w11 ⟨rfl, hbx⟩
      replace HB := hide (HB.out.trans (hbx.mono HB.out.size))
      replace HR2 := hide (row_later hbx HR2.out)
      clear hbx n0 n1
      have n0 : w11.cell? ⟨C, 0, none⟩ = some (.int .i64 0) := row_cell HR2.out rfl
      have n1 : w11.cell? ⟨C, 1, none⟩ = some (.int .i64 0) := row_cell HR2.out rfl
      simp only []
      go_wp2
      go_ret
      exact ⟨rfl, HB.out⟩

set_option maxHeartbeats 2000000 in
theorem bn_ok (r l wd h p v : Int) (ad : Nat → Addr) (w : World) (hs : Hid (Sent w ad)) (hk : (Bd.bOk r l && (Bd.rOk wd h && Bd.vOk p v)) = true) :
    Calls Tryd.prog 6 #[.int .i64 r, .int .i64 l, .int .i64 wd, .int .i64 h, .int .i64 p, .int .i64 v] w fun e w' => e = .returned (.bool true) ∧ Below w.heap.size w w' := by
  have hk' : ((1 ≤ r ∧ r ≤ 1000) ∧ 0 ≤ l ∧ l ≤ 1000) ∧ ((0 ≤ wd ∧ wd ≤ 100) ∧ 1 ≤ h ∧ h ≤ 1000) ∧ 0 ≤ v ∧ (v ≤ 0 ∨ 1 ≤ p ∧ p ≤ 1000) := by
    simpa [Bd.bOk, Bd.rOk, Bd.vOk, Wi.withinB] using hk
  have HK := hide hk'
  clear hk'
  go_enter Tryd.func6, Tryd.ntmps6
  go_wp2_with fail
  refine (banded_any 115 _ w (ber_sent hs.out)).mono ?_
  rintro e w1 ⟨rfl, hb1⟩
  obtain ⟨W, hWd⟩ : ∃ W, (w1.alloc (.cells #[.int .i64 r, .int .i64 l] 45)).alloc (.cells #[.int .i64 wd, .int .i64 h] 47) = W := ⟨_, rfl⟩
  obtain ⟨B, hBe⟩ : ∃ B, w1.heap.size = B := ⟨_, rfl⟩
  have hb2 : Below w.heap.size w W := by rw [← hWd]; exact (hb1.alloc hb1.size _).alloc (by have := hb1.size; simp; omega) _
  have HR0 : Hid (W.heap[B]? = some (.cells #[.int .i64 r, .int .i64 l] 45 (0, 0))) := by
    show _ = _
    rw [← hWd, ← hBe]
    exact (Below.heap_alloc _ _ _ (by simp)).trans (heap_alloc_new _ _)
  have HR1 : Hid (W.heap[B + 1]? = some (.cells #[.int .i64 wd, .int .i64 h] 47 (0, 0))) := by
    show _ = _
    rw [← hWd, ← hBe]
    have := heap_alloc_new (w1.alloc (.cells #[.int .i64 r, .int .i64 l] 45)) (.cells #[.int .i64 wd, .int .i64 h] 47)
    rw [show (w1.alloc (.cells #[.int .i64 r, .int .i64 l] 45)).heap.size = w1.heap.size + 1 by simp] at this
    exact this
  have HB := hide hb2; have HWd := hide hWd; have HBe := hide hBe
  clear hb1 hb2 hWd hBe
  simp only []
  go_wp2_with fail
  rw [HWd.out, HBe.out]
  clear HWd HBe
  have HN := hide (next_ok r l wd h p v 115 _ W (ber_sent (hs.out.later HB.out)) hk)
  unfold nextV at HN
  unfold bandV at HN
  refine HN.out.mono ?_
  rintro e w2 ⟨rfl, hbx⟩
  clear HN
  obtain ⟨C, hCe⟩ : ∃ C, w2.heap.size = C := ⟨_, rfl⟩
  obtain ⟨w3, hw3⟩ : ∃ w3, w2.alloc (.cells #[.int .i64 (Bd.nR r l wd p v), .int .i64 (Bd.nL r l wd h p v)] 45) = w3 := ⟨_, rfl⟩
  have hby : Below W.heap.size W w3 := by rw [← hw3]; exact hbx.alloc hbx.size _
  replace HB := hide (HB.out.trans (hby.mono HB.out.size))
  replace HR0 := hide (row_later hby HR0.out)
  replace HR1 := hide (row_later hby HR1.out)
  have HR2 : Hid (w3.heap[C]? = some (.cells #[.int .i64 (Bd.nR r l wd p v), .int .i64 (Bd.nL r l wd h p v)] 45 (0, 0))) := by show _ = _; rw [← hw3, ← hCe]; exact heap_alloc_new _ _
  have HW3 := hide hw3; have HCe := hide hCe
  clear hbx hby hw3 hCe
  have HE1 := hide (bandError_any r l wd h w3)
  have HE2 := hide (fun W => bandError_any r l 0 1 W)
  have HE3 := hide (fun W => bandError_any 1 0 wd h W)
  rw [show Bd.rOk 0 1 = true by decide, Bool.and_true] at HE2
  rw [show Bd.bOk 1 0 = true by decide, Bool.true_and] at HE3
  have HC1 := hide (fun W hb => bcheck_any r l 115 (.pointer (some (ad 1))) W (ber_sent (hs.out.later hb)))
  have HC2 := hide (fun W hb => rcheck_any wd h 115 (.pointer (some (ad 1))) W (ber_sent (hs.out.later hb)))
  unfold bandV at HE1 HE2 HE3 HC1 HC2
  simp only []
  go_wp2_with fail
  rw [HW3.out, HCe.out]
  clear HW3 HCe
  refine (HE1.out).mono ?_
  rintro e w4 ⟨rfl, hbx⟩
  replace HB := hide (HB.out.trans (hbx.mono HB.out.size))
  replace HR0 := hide (row_later hbx HR0.out)
  replace HR1 := hide (row_later hbx HR1.out)
  replace HR2 := hide (row_later hbx HR2.out)
  clear hbx
  simp only []
  have x0 : w4.cell? ⟨B, 0, none⟩ = some (.int .i64 r) := row_cell HR0.out rfl
  have x1 : w4.cell? ⟨B, 1, none⟩ = some (.int .i64 l) := row_cell HR0.out rfl
  go_wp2_with fail
  refine (HC1.out _ HB.out).mono ?_
  rintro e w5 ⟨rfl, hbx⟩
  replace HB := hide (HB.out.trans (hbx.mono HB.out.size))
  replace HR0 := hide (row_later hbx HR0.out)
  replace HR1 := hide (row_later hbx HR1.out)
  replace HR2 := hide (row_later hbx HR2.out)
  clear hbx
  simp only []
  clear x0 x1
  go_wp2_with fail
  refine (HE2.out _).mono ?_
  rintro e w6 ⟨rfl, hbx⟩
  replace HB := hide (HB.out.trans (hbx.mono HB.out.size))
  replace HR0 := hide (row_later hbx HR0.out)
  replace HR1 := hide (row_later hbx HR1.out)
  replace HR2 := hide (row_later hbx HR2.out)
  clear hbx
  simp only []
  go_wp2_with fail
  refine (codedOk ad (Bd.bOk r l) w6 (hs.out.later HB.out)).mono ?_
  rintro e w7 ⟨rfl, hbx⟩
  replace HB := hide (HB.out.trans (hbx.mono HB.out.size))
  replace HR0 := hide (row_later hbx HR0.out)
  replace HR1 := hide (row_later hbx HR1.out)
  replace HR2 := hide (row_later hbx HR2.out)
  clear hbx
  simp only []
  have y0 : w7.cell? ⟨(B + 1), 0, none⟩ = some (.int .i64 wd) := row_cell HR1.out rfl
  have y1 : w7.cell? ⟨(B + 1), 1, none⟩ = some (.int .i64 h) := row_cell HR1.out rfl
  go_wp2_with fail
  refine (HC2.out _ HB.out).mono ?_
  rintro e w8 ⟨rfl, hbx⟩
  replace HB := hide (HB.out.trans (hbx.mono HB.out.size))
  replace HR0 := hide (row_later hbx HR0.out)
  replace HR1 := hide (row_later hbx HR1.out)
  replace HR2 := hide (row_later hbx HR2.out)
  clear hbx
  simp only []
  clear y0 y1
  go_wp2_with fail
  refine (HE3.out _).mono ?_
  rintro e w9 ⟨rfl, hbx⟩
  replace HB := hide (HB.out.trans (hbx.mono HB.out.size))
  replace HR0 := hide (row_later hbx HR0.out)
  replace HR1 := hide (row_later hbx HR1.out)
  replace HR2 := hide (row_later hbx HR2.out)
  clear hbx
  simp only []
  go_wp2_with fail
  refine (codedOk ad (Bd.rOk wd h) w9 (hs.out.later HB.out)).mono ?_
  rintro e w10 ⟨rfl, hbx⟩
  replace HB := hide (HB.out.trans (hbx.mono HB.out.size))
  replace HR0 := hide (row_later hbx HR0.out)
  replace HR1 := hide (row_later hbx HR1.out)
  replace HR2 := hide (row_later hbx HR2.out)
  clear hbx
  simp only []
  clear HE1 HE2 HE3 HC1 HC2
  have hbr : (Bd.bOk r l && Bd.rOk wd h) = true := by
    cases h1 : Bd.bOk r l <;> cases h2 : Bd.rOk wd h <;> rw [h1, h2] at hk <;> simp at hk ⊢
  rw [hbr, show okN true = 0 from rfl]
  have HNB := hide (fun W => nextBand_any r l wd h p v W hk)
  unfold bandV at HNB
  generalize Bd.nR r l wd p v = nr at *
  generalize Bd.nL r l wd h p v = nl at *
  generalize Bd.nO r l wd p v = no at *
  obtain ⟨⟨⟨r1, r2⟩, l1, l2⟩, ⟨⟨wd1, wd2⟩, h1, h2⟩, vv1, vv2⟩ := HK.out
  clear hbr hk HK
  have hv0 : ¬ v < 0 := by omega
  by_cases hv : 0 < v
  · have hp : 1 ≤ p ∧ p ≤ 1000 := by omega
    obtain ⟨hp1, hp2⟩ := hp
    have hp3 : ¬ p < 1 := by omega
    have hp4 : ¬ 1000 < p := by omega
    have HI1 := hide (fun W => ruleIn_any wd h r p W r1 r2 wd1 wd2 hp1 hp2)
    have HI2 := hide (fun W => isWithin_any wd r p W r1 r2 wd1 wd2 hp1 hp2)
    unfold bandV at HI1
    generalize Bd.inB wd r p = ib at *
    clear vv2
    go_wp2_with fail
    refine (HNB.out _).mono ?_
    rintro e w11 ⟨rfl, hbx⟩
    obtain ⟨D, hDe⟩ : ∃ D, w11.heap.size = D := ⟨_, rfl⟩
    obtain ⟨w12, hw12⟩ : ∃ w12, w11.alloc (.cells #[.int .i64 nr, .int .i64 nl] 51) = w12 := ⟨_, rfl⟩
    have hby : Below w10.heap.size w10 w12 := by rw [← hw12]; exact hbx.alloc hbx.size _
    replace HB := hide (HB.out.trans (hby.mono HB.out.size))
    have HQ2 := HR2
    replace HR2 := hide (row_later hby HR2.out)
    have HR3 : Hid (w12.heap[D]? = some (.cells #[.int .i64 nr, .int .i64 nl] 51 (0, 0))) := by show _ = _; rw [← hw12, ← hDe]; exact heap_alloc_new _ _
    have HW12 := hide hw12; have HDe := hide hDe
    clear hw12 hDe
    replace HR1 := hide (row_later hbx HR1.out)
    clear hbx hby HNB
    have y0 : w11.cell? ⟨B + 1, 0, none⟩ = some (.int .i64 wd) := row_cell HR1.out rfl
    have y1 : w11.cell? ⟨B + 1, 1, none⟩ = some (.int .i64 h) := row_cell HR1.out rfl
    have hBl : B + 1 < w11.heap.size := (Array.getElem?_eq_some_iff.1 HR1.out).1
    simp only []
    go_wp2_with fail
    rw [HW12.out, HDe.out]
    refine (HI1.out _).mono ?_
    rintro e w13 ⟨rfl, hbx⟩
    replace HB := hide (HB.out.trans (hbx.mono HB.out.size))
    replace HR2 := hide (row_later hbx HR2.out)
    replace HR3 := hide (row_later hbx HR3.out)
    clear hbx y0 y1 HW12 HDe
    have n0 : w13.cell? ⟨C, 0, none⟩ = some (.int .i64 nr) := row_cell HR2.out rfl
    have n1 : w13.cell? ⟨C, 1, none⟩ = some (.int .i64 nl) := row_cell HR2.out rfl
    have m0 : w13.cell? ⟨D, 0, none⟩ = some (.int .i64 nr) := row_cell HR3.out rfl
    have m1 : w13.cell? ⟨D, 1, none⟩ = some (.int .i64 nl) := row_cell HR3.out rfl
    simp only []
    go_wp2_with fail
    refine (HI2.out _).mono ?_
    rintro e w13 ⟨rfl, rfl⟩
    simp only []
    cases ib <;> cases no
    all_goals
      go_wp2
      go_ret
      exact ⟨rfl, HB.out⟩
  · have hp : ¬ (0 < v) := hv
    go_wp2_with fail
    refine (HNB.out _).mono ?_
    rintro e w11 ⟨rfl, hbx⟩
    obtain ⟨D, hDe⟩ : ∃ D, w11.heap.size = D := ⟨_, rfl⟩
    obtain ⟨w12, hw12⟩ : ∃ w12, w11.alloc (.cells #[.int .i64 nr, .int .i64 nl] 51) = w12 := ⟨_, rfl⟩
    have hby : Below w10.heap.size w10 w12 := by rw [← hw12]; exact hbx.alloc hbx.size _
    replace HB := hide (HB.out.trans (hby.mono HB.out.size))
    have HQ2 := HR2
    replace HR2 := hide (row_later hby HR2.out)
    have HR3 : Hid (w12.heap[D]? = some (.cells #[.int .i64 nr, .int .i64 nl] 51 (0, 0))) := by show _ = _; rw [← hw12, ← hDe]; exact heap_alloc_new _ _
    have HW12 := hide hw12; have HDe := hide hDe
    clear hw12 hDe
    replace HR1 := hide (row_later hbx HR1.out)
    have HS2 := hide (row_later hbx HQ2.out)
    clear hbx hby HNB
    simp only []
    have n0 : w11.cell? ⟨C, 0, none⟩ = some (.int .i64 nr) := row_cell HS2.out rfl
    have n1 : w11.cell? ⟨C, 1, none⟩ = some (.int .i64 nl) := row_cell HS2.out rfl
    have hCl : C < w11.heap.size := (Array.getElem?_eq_some_iff.1 HS2.out).1
    cases no
    all_goals
      go_wp2
      go_ret
      exact ⟨rfl, by rw [HW12.out]; exact HB.out⟩
theorem bandNext_any (r l wd h p v : Int) (ad : Nat → Addr) (w : World) (hs : Sent w ad) :
    Calls Tryd.prog 6 #[.int .i64 r, .int .i64 l, .int .i64 wd, .int .i64 h, .int .i64 p, .int .i64 v] w fun e w' => e = .returned (.bool true) ∧ Below w.heap.size w w' := by
  cases hk : (Bd.bOk r l && (Bd.rOk wd h && Bd.vOk p v))
  · exact bn_bad r l wd h p v ad w hs hk
  · exact bn_ok r l wd h p v ad w hs hk
end Go.Proofs.YtomiebjfpfddhaaDoor
