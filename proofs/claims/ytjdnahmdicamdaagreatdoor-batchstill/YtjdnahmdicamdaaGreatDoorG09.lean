/- Next of package band, by its contract. -/
import Derived.Test.YtjdnahmdicamdaaGreatDoorG08
namespace Go.Proofs.YtjdnahmdicamdaaGreatDoor
open Go.RowKit
set_option maxRecDepth 100000

set_option maxHeartbeats 1000000 in
theorem checkNext_any (r l wd h p v : Int) (T : TypeId) (v1 : Value) (w : World) (he : Hid (BEr w T v1)) :
    Calls Tryz.prog 83 #[bandV r l, bandV wd h, .int .i64 p, .int .i64 v] w fun e w' => e = .returned (okE T v1 (Bd.bOk r l && (Bd.rOk wd h && Bd.vOk p v))) ∧ Below w.heap.size w w' := by
  show Calls Tryz.prog 83 #[.agg #[.int .i64 r, .int .i64 l], .agg #[.int .i64 wd, .int .i64 h], .int .i64 p, .int .i64 v] w _
  obtain ⟨W, hWd⟩ : ∃ W, (w.alloc (.cells #[.int .i64 r, .int .i64 l] 69)).alloc (.cells #[.int .i64 wd, .int .i64 h] 31) = W := ⟨_, rfl⟩
  have hb1 : Below w.heap.size w (w.alloc (.cells #[.int .i64 r, .int .i64 l] 69)) := (Below.refl _ _).alloc (Nat.le_refl _) _
  have hb2 : Below w.heap.size w W := by rw [← hWd]; exact hb1.alloc hb1.size _
  have hY0 : W.heap[w.heap.size + 1]? = some (.cells #[.int .i64 wd, .int .i64 h] 31 (0, 0)) := by
    rw [← hWd]
    have := heap_alloc_new (w.alloc (.cells #[.int .i64 r, .int .i64 l] 69)) (.cells #[.int .i64 wd, .int .i64 h] 31)
    rw [show (w.alloc (.cells #[.int .i64 r, .int .i64 l] 69)).heap.size = w.heap.size + 1 by simp] at this
    exact this
  have HY0 := hide hY0; have HBW := hide hb2
  have HC := hide (bcheck_any r l T v1 W (he.out.later hb2))
  unfold bandV at HC
  have HWd := hide hWd
  clear hb1 hb2 hY0 hWd
  go_enter Tryz.func83, Tryz.ntmps83
  go_wp2_with fail
  rw [HWd.out]
  clear HWd
  refine HC.out.mono ?_
  rintro e w2 ⟨rfl, hb2⟩
  have HB : Hid (Below w.heap.size w w2) := HBW.out.trans (hb2.mono HBW.out.size)
  have hY : w2.heap[w.heap.size + 1]? = some (.cells #[.int .i64 wd, .int .i64 h] 31 (0, 0)) := by rw [hb2.block _ (Array.getElem?_eq_some_iff.1 HY0.out).1]; exact HY0.out
  have y0 : w2.cell? ⟨w.heap.size + 1, 0, none⟩ = some (.int .i64 wd) := by rw [cell_of_row w2 _ 0 _ _ _ hY]; rfl
  have y1 : w2.cell? ⟨w.heap.size + 1, 1, none⟩ = some (.int .i64 h) := by rw [cell_of_row w2 _ 1 _ _ _ hY]; rfl
  clear hb2 HC HBW HY0 hY
  cases hb : Bd.bOk r l with
  | false =>
    have Hb := hide hb
    clear hb
    simp only [okE, if_neg Bool.false_ne_true]
    go_wp2
    go_ret
    exact ⟨by rw [Hb.out]; rfl, HB.out⟩
  | true =>
    have Hb := hide hb
    clear hb
    have HC := hide (rcheck_any wd h T v1 w2 (he.out.later HB.out))
    unfold bandV at HC
    simp only [okE, if_pos]
    go_wp2_with fail
    refine HC.out.mono ?_
    rintro e w3 ⟨rfl, hb3⟩
    have HB3 : Hid (Below w.heap.size w w3) := HB.out.trans (hb3.mono HB.out.size)
    clear hb3 HC HB y0 y1
    cases hr : Bd.rOk wd h with
    | false =>
      have Hr := hide hr
      clear hr
      simp only [okE, if_neg Bool.false_ne_true]
      go_wp2
      go_ret
      exact ⟨by rw [Hb.out, Hr.out]; rfl, HB3.out⟩
    | true =>
      have Hr := hide hr
      clear hr
      have e1 := (he.out.later HB3.out).c1
      simp only [okE, if_pos]
      by_cases hv : v < 0
      · have hvd : decide (v < 0) = true := by simpa using hv
        go_wp2_with fail
        all_goals go_ret
        all_goals exact ⟨by rw [Hb.out, Hr.out]; simp [okE, Bd.vOk, hvd], HB3.out⟩
      · have hvd : decide (v < 0) = false := by simpa using hv
        by_cases hp : 0 < v
        · have hpd : decide (0 < v) = true := by simpa using hp
          cases hw : Wi.withinB p 1 1000
          all_goals
            go_wp2_with (go_at_call 116; refine (isPrice_any _ _).mono ?_; rintro e w' ⟨rfl, rfl⟩; rw [hw])
            all_goals go_ret
            all_goals exact ⟨by rw [Hb.out, Hr.out]; simp [okE, Bd.vOk, hvd, hpd, hw], HB3.out⟩
        · have hpd : decide (0 < v) = false := by simpa using hp
          go_wp2_with fail
          all_goals go_ret
          all_goals exact ⟨by rw [Hb.out, Hr.out]; simp [okE, Bd.vOk, hvd, hpd], HB3.out⟩

set_option maxHeartbeats 1000000 in
theorem goOn_any (r l p : Int) (t : Bool) (w : World) (h1 : 0 < l) (h2 : l ≤ 1000) :
    Calls Tryz.prog 84 #[bandV r l, .int .i64 p, .bool t] w fun e w' => e = .returned (bandV (if l = 1 ∧ t = true then p else r) (l - 1)) ∧ Below w.heap.size w w' := by
  show Calls Tryz.prog 84 #[.agg #[.int .i64 r, .int .i64 l], .int .i64 p, .bool t] w _
  have wl : IntKind.i64.wrap (l - 1) = l - 1 := IntWalk.i64_in _ (by omega)
  have HA : Hid (∀ x y, Below w.heap.size w ((w.alloc x).alloc y)) := fun x y => ((Below.refl _ _).alloc (Nat.le_refl _) x).alloc (by simp) y
  by_cases hl : l = 1
  · subst hl
    cases t
    · go_enter Tryz.func84, Tryz.ntmps84
      go_wp2
      exact bodyPost_ret (v := bandV r 0) (by simp [results, Tryz.results84, go_sem, bandV]) rfl ⟨rfl, HA.out _ _⟩
    · go_enter Tryz.func84, Tryz.ntmps84
      go_wp2
      exact bodyPost_ret (v := bandV p 0) (by simp [results, Tryz.results84, go_sem, bandV]) rfl ⟨rfl, HA.out _ _⟩
  · have hl' : ¬ l - 1 = 0 := by omega
    go_enter Tryz.func84, Tryz.ntmps84
    go_wp2
    exact bodyPost_ret (v := bandV r (l - 1)) (by simp [results, Tryz.results84, go_sem, bandV]) rfl ⟨rfl, HA.out _ _⟩

/-- what Next answers of what is well -/
def nextV (r l wd h p v : Int) : Value := .tuple #[bandV (Bd.nR r l wd p v) (Bd.nL r l wd h p v), .bool (Bd.nO r l wd p v), .nilIface]

set_option maxHeartbeats 1000000 in
theorem next_bad (r l wd h p v : Int) (T : TypeId) (v1 : Value) (w : World) (he : Hid (BEr w T v1)) (hk : (Bd.bOk r l && (Bd.rOk wd h && Bd.vOk p v)) = false) :
    Calls Tryz.prog 50 #[bandV r l, bandV wd h, .int .i64 p, .int .i64 v] w fun e w' => e = .returned (.tuple #[bandV 0 0, .bool false, .iface T v1]) ∧ Below w.heap.size w w' := by
  obtain ⟨W, hWd⟩ : ∃ W, ((w.alloc (.cells #[.int .i64 r, .int .i64 l] 69)).alloc (.cells #[.int .i64 wd, .int .i64 h] 31)).alloc (.cells #[.int .i64 0, .int .i64 0] 69) = W := ⟨_, rfl⟩
  have hb2 : Below w.heap.size w W := by rw [← hWd]; exact (((Below.refl _ _).alloc (Nat.le_refl _) _).alloc (by simp) _).alloc (by simp; omega) _
  have hY0 : W.heap[w.heap.size + 1 + 1]? = some (.cells #[.int .i64 0, .int .i64 0] 69 (0, 0)) := by
    rw [← hWd]
    have := heap_alloc_new ((w.alloc (.cells #[.int .i64 r, .int .i64 l] 69)).alloc (.cells #[.int .i64 wd, .int .i64 h] 31)) (.cells #[.int .i64 0, .int .i64 0] 69)
    rw [show ((w.alloc (.cells #[.int .i64 r, .int .i64 l] 69)).alloc (.cells #[.int .i64 wd, .int .i64 h] 31)).heap.size = w.heap.size + 1 + 1 by simp] at this
    exact this
  have HC := hide (checkNext_any r l wd h p v T v1 W (he.out.later hb2))
  rw [hk] at HC
  unfold bandV at HC ⊢
  have HY0 := hide hY0; have HBW := hide hb2; have HWd := hide hWd
  clear hb2 hY0 hWd hk
  go_enter Tryz.func50, Tryz.ntmps50
  go_wp2_with fail
  rw [HWd.out]
  clear HWd
  refine HC.out.mono ?_
  rintro e w2 ⟨rfl, hb2⟩
  have HB : Hid (Below w.heap.size w w2) := HBW.out.trans (hb2.mono HBW.out.size)
  have hY : w2.heap[w.heap.size + 1 + 1]? = some (.cells #[.int .i64 0, .int .i64 0] 69 (0, 0)) := by rw [hb2.block _ (Array.getElem?_eq_some_iff.1 HY0.out).1]; exact HY0.out
  have y0 : w2.cell? ⟨w.heap.size + 1 + 1, 0, none⟩ = some (.int .i64 0) := by rw [cell_of_row w2 _ 0 _ _ _ hY]; rfl
  have y1 : w2.cell? ⟨w.heap.size + 1 + 1, 1, none⟩ = some (.int .i64 0) := by rw [cell_of_row w2 _ 1 _ _ _ hY]; rfl
  have z0 : w2.frozen? ⟨w.heap.size + 1 + 1, 0, none⟩ = false := by simp [World.frozen?, hY]
  have z1 : w2.frozen? ⟨w.heap.size + 1 + 1, 1, none⟩ = false := by simp [World.frozen?, hY]
  clear hb2 HC HBW HY0 hY
  simp only [okE, if_neg Bool.false_ne_true]
  go_wp2
  exact bodyPost_ret (v := .tuple #[.agg #[.int .i64 0, .int .i64 0], .bool false, .iface T v1]) (by simp [results, Tryz.results50, go_sem, y0, y1]) rfl ⟨rfl, (HB.out.setCell (by simp; omega) _).setCell (by simp; omega) _⟩

set_option maxHeartbeats 2000000 in
theorem next_ok (r l wd h p v : Int) (T : TypeId) (v1 : Value) (w : World) (he : Hid (BEr w T v1)) (hk : (Bd.bOk r l && (Bd.rOk wd h && Bd.vOk p v)) = true) :
    Calls Tryz.prog 50 #[bandV r l, bandV wd h, .int .i64 p, .int .i64 v] w fun e w' => e = .returned (nextV r l wd h p v) ∧ Below w.heap.size w w' := by
  obtain ⟨W, hWd⟩ : ∃ W, ((w.alloc (.cells #[.int .i64 r, .int .i64 l] 69)).alloc (.cells #[.int .i64 wd, .int .i64 h] 31)).alloc (.cells #[.int .i64 0, .int .i64 0] 69) = W := ⟨_, rfl⟩
  have hb2 : Below w.heap.size w W := by rw [← hWd]; exact (((Below.refl _ _).alloc (Nat.le_refl _) _).alloc (by simp) _).alloc (by simp; omega) _
  have hX0 : W.heap[w.heap.size]? = some (.cells #[.int .i64 r, .int .i64 l] 69 (0, 0)) := by
    rw [← hWd]
    exact (Below.heap_alloc _ _ _ (by simp; omega)).trans ((Below.heap_alloc _ _ _ (by simp)).trans (heap_alloc_new _ _))
  have hU0 : W.heap[w.heap.size + 1]? = some (.cells #[.int .i64 wd, .int .i64 h] 31 (0, 0)) := by
    rw [← hWd]
    refine (Below.heap_alloc _ _ _ (by simp)).trans ?_
    have := heap_alloc_new (w.alloc (.cells #[.int .i64 r, .int .i64 l] 69)) (.cells #[.int .i64 wd, .int .i64 h] 31)
    rw [show (w.alloc (.cells #[.int .i64 r, .int .i64 l] 69)).heap.size = w.heap.size + 1 by simp] at this
    exact this
  have hY0 : W.heap[w.heap.size + 1 + 1]? = some (.cells #[.int .i64 0, .int .i64 0] 69 (0, 0)) := by
    rw [← hWd]
    have := heap_alloc_new ((w.alloc (.cells #[.int .i64 r, .int .i64 l] 69)).alloc (.cells #[.int .i64 wd, .int .i64 h] 31)) (.cells #[.int .i64 0, .int .i64 0] 69)
    rw [show ((w.alloc (.cells #[.int .i64 r, .int .i64 l] 69)).alloc (.cells #[.int .i64 wd, .int .i64 h] 31)).heap.size = w.heap.size + 1 + 1 by simp] at this
    exact this
  have HC := hide (checkNext_any r l wd h p v T v1 W (he.out.later hb2))
  rw [hk] at HC
  have hk' : ((1 ≤ r ∧ r ≤ 1000) ∧ 0 ≤ l ∧ l ≤ 1000) ∧ ((0 ≤ wd ∧ wd ≤ 100) ∧ 1 ≤ h ∧ h ≤ 1000) ∧ 0 ≤ v ∧ (v ≤ 0 ∨ 1 ≤ p ∧ p ≤ 1000) := by
    simpa [Bd.bOk, Bd.rOk, Bd.vOk, Wi.withinB] using hk
  obtain ⟨⟨⟨r1, r2⟩, l1, l2⟩, ⟨⟨wd1, wd2⟩, h1, h2⟩, vv1, vv2⟩ := hk'
  unfold bandV at HC ⊢
  have HX0 := hide hX0; have HU0 := hide hU0; have HY0 := hide hY0; have HBW := hide hb2; have HWd := hide hWd
  clear hb2 hX0 hU0 hY0 hWd hk
  go_enter Tryz.func50, Tryz.ntmps50
  go_wp2_with fail
  rw [HWd.out]
  clear HWd
  refine HC.out.mono ?_
  rintro e w2 ⟨rfl, hb2⟩
  have HB : Hid (Below w.heap.size w w2) := HBW.out.trans (hb2.mono HBW.out.size)
  have hX : w2.heap[w.heap.size]? = some (.cells #[.int .i64 r, .int .i64 l] 69 (0, 0)) := by rw [hb2.block _ (Array.getElem?_eq_some_iff.1 HX0.out).1]; exact HX0.out
  have hU : w2.heap[w.heap.size + 1]? = some (.cells #[.int .i64 wd, .int .i64 h] 31 (0, 0)) := by rw [hb2.block _ (Array.getElem?_eq_some_iff.1 HU0.out).1]; exact HU0.out
  have hY : w2.heap[w.heap.size + 1 + 1]? = some (.cells #[.int .i64 0, .int .i64 0] 69 (0, 0)) := by rw [hb2.block _ (Array.getElem?_eq_some_iff.1 HY0.out).1]; exact HY0.out
  have HX := hide hX; have HU := hide hU; have HY := hide hY
  clear hb2 HC HBW HX0 HU0 HY0 hX hU hY
  obtain ⟨B, hB⟩ : ∃ B, w.heap.size = B := ⟨_, rfl⟩
  rw [hB] at HX HU HY ⊢
  have HBe := hide hB
  clear hB
  have x0 : w2.cell? ⟨B, 0, none⟩ = some (.int .i64 r) := by rw [cell_of_row w2 _ 0 _ _ _ HX.out]; rfl
  have x1 : w2.cell? ⟨B, 1, none⟩ = some (.int .i64 l) := by rw [cell_of_row w2 _ 1 _ _ _ HX.out]; rfl
  have u0 : w2.cell? ⟨B + 1, 0, none⟩ = some (.int .i64 wd) := by rw [cell_of_row w2 _ 0 _ _ _ HU.out]; rfl
  have u1 : w2.cell? ⟨B + 1, 1, none⟩ = some (.int .i64 h) := by rw [cell_of_row w2 _ 1 _ _ _ HU.out]; rfl
  simp only [okE, if_pos]
  have HBB : Hid (∀ W : World, Below w.heap.size w W → ∀ (q1 q2 : Addr) (x1 x2 : Value), B ≤ q1.block → B ≤ q2.block → Below w.heap.size w ((W.setCell q1 x1).setCell q2 x2)) := fun W hb q1 q2 x1 x2 g1 g2 =>
    (hb.setCell (by rw [HBe.out]; exact g1) _).setCell (by rw [HBe.out]; exact g2) _
  by_cases hl : 0 < l
  · have HG := hide (fun W => goOn_any r l p (decide (0 < v)) W hl l2)
    unfold bandV at HG
    have hans : nextV r l wd h p v = .tuple #[.agg #[.int .i64 (if l = 1 ∧ decide (0 < v) = true then p else r), .int .i64 (l - 1)], .bool false, .nilIface] := by
      simp [nextV, bandV, Bd.nR, Bd.nL, Bd.nO, hl]
    have HAN := hide hans
    clear hans
    generalize (if l = 1 ∧ decide (0 < v) = true then p else r) = nr at HG HAN
    have HN := HAN
    by_cases hv : 0 < v
    all_goals
      first | (have hvd : decide (0 < v) = true := by simpa using hv
               rw [hvd] at HG) | (have hvd : decide (0 < v) = false := by simpa using hv
                                  rw [hvd] at HG)
      go_wp2_with fail
      refine (HG.out _).mono ?_
      rintro e w3 ⟨rfl, hb3⟩
      have HB3 : Hid (Below w.heap.size w w3) := HB.out.trans (hb3.mono HB.out.size)
      have hY : w3.heap[B + 1 + 1]? = some (.cells #[.int .i64 0, .int .i64 0] 69 (0, 0)) := by rw [hb3.block _ (Array.getElem?_eq_some_iff.1 HY.out).1]; exact HY.out
      have y0 : w3.cell? ⟨B + 1 + 1, 0, none⟩ = some (.int .i64 0) := by rw [cell_of_row w3 _ 0 _ _ _ hY]; rfl
      have y1 : w3.cell? ⟨B + 1 + 1, 1, none⟩ = some (.int .i64 0) := by rw [cell_of_row w3 _ 1 _ _ _ hY]; rfl
      have z0 : w3.frozen? ⟨B + 1 + 1, 0, none⟩ = false := by simp [World.frozen?, hY]
      have z1 : w3.frozen? ⟨B + 1 + 1, 1, none⟩ = false := by simp [World.frozen?, hY]
      clear hb3 HG x0 x1 u0 u1 hY HX HU HY HB
      simp only []
      go_wp2
      exact bodyPost_ret (v := .tuple #[.agg #[.int .i64 nr, .int .i64 (l - 1)], .bool false, .nilIface]) (by simp [results, Tryz.results50, go_sem, y0, y1]) rfl ⟨by rw [HAN.out], HBB.out _ HB3.out _ _ _ _ (by simp; omega) (by simp; omega)⟩
  · obtain rfl : l = 0 := by omega
    have hy0 : w2.cell? ⟨B + 1 + 1, 0, none⟩ = some (.int .i64 0) := by rw [cell_of_row w2 _ 0 _ _ _ HY.out]; rfl
    by_cases hv : 0 < v
    · have hvd : decide (0 < v) = true := by simpa using hv
      have hp : 1 ≤ p ∧ p ≤ 1000 := by omega
      have HG := hide (fun W => ruleIn_any wd h r p W r1 r2 wd1 wd2 hp.1 hp.2)
      unfold bandV at HG
      cases hin : Bd.inB wd r p with
      | false =>
        have hans : nextV r 0 wd h p v = .tuple #[.agg #[.int .i64 r, .int .i64 h], .bool false, .nilIface] := by
          simp [nextV, bandV, Bd.nR, Bd.nL, Bd.nO, hin, hv]
        have HAN := hide hans
        rw [hin] at HG
        clear hans hin
        go_wp2_with fail
        refine (HG.out _).mono ?_
        rintro e w3 ⟨rfl, hb3⟩
        have HB3 : Hid (Below w.heap.size w w3) := HB.out.trans (hb3.mono HB.out.size)
        have hX : w3.heap[B]? = some (.cells #[.int .i64 r, .int .i64 0] 69 (0, 0)) := by rw [hb3.block _ (Array.getElem?_eq_some_iff.1 HX.out).1]; exact HX.out
        have hU : w3.heap[B + 1]? = some (.cells #[.int .i64 wd, .int .i64 h] 31 (0, 0)) := by rw [hb3.block _ (Array.getElem?_eq_some_iff.1 HU.out).1]; exact HU.out
        have hY : w3.heap[B + 1 + 1]? = some (.cells #[.int .i64 0, .int .i64 0] 69 (0, 0)) := by rw [hb3.block _ (Array.getElem?_eq_some_iff.1 HY.out).1]; exact HY.out
        clear x0 x1 u0 u1 hy0
        have x0 : w3.cell? ⟨B, 0, none⟩ = some (.int .i64 r) := by rw [cell_of_row w3 _ 0 _ _ _ hX]; rfl
        have x1 : w3.cell? ⟨B, 1, none⟩ = some (.int .i64 0) := by rw [cell_of_row w3 _ 1 _ _ _ hX]; rfl
        have u1 : w3.cell? ⟨B + 1, 1, none⟩ = some (.int .i64 h) := by rw [cell_of_row w3 _ 1 _ _ _ hU]; rfl
        have y0 : w3.cell? ⟨B + 1 + 1, 0, none⟩ = some (.int .i64 0) := by rw [cell_of_row w3 _ 0 _ _ _ hY]; rfl
        have y1 : w3.cell? ⟨B + 1 + 1, 1, none⟩ = some (.int .i64 0) := by rw [cell_of_row w3 _ 1 _ _ _ hY]; rfl
        have z0 : w3.frozen? ⟨B + 1 + 1, 0, none⟩ = false := by simp [World.frozen?, hY]
        have z1 : w3.frozen? ⟨B + 1 + 1, 1, none⟩ = false := by simp [World.frozen?, hY]
        have f0 : w3.frozen? ⟨B, 0, none⟩ = false := by simp [World.frozen?, hX]
        have f1 : w3.frozen? ⟨B, 1, none⟩ = false := by simp [World.frozen?, hX]
        clear hb3 HG hX hU hY HX HU HY HB
        simp only []
        go_wp2
        exact bodyPost_ret (v := .tuple #[.agg #[.int .i64 r, .int .i64 h], .bool false, .nilIface]) (by simp [results, Tryz.results50, go_sem, y0, y1]) rfl ⟨by rw [HAN.out], HBB.out _ (HB3.out.setCell (by rw [HBe.out]; exact Nat.le_refl _) _) _ _ _ _ (by simp; omega) (by simp; omega)⟩
      | true =>
        have hans : nextV r 0 wd h p v = .tuple #[.agg #[.int .i64 p, .int .i64 0], .bool true, .nilIface] := by
          simp [nextV, bandV, Bd.nR, Bd.nL, Bd.nO, hin, hv]
        have HAN := hide hans
        rw [hin] at HG
        clear hans hin
        go_wp2_with fail
        refine (HG.out _).mono ?_
        rintro e w3 ⟨rfl, hb3⟩
        have HB3 : Hid (Below w.heap.size w w3) := HB.out.trans (hb3.mono HB.out.size)
        have hX : w3.heap[B]? = some (.cells #[.int .i64 r, .int .i64 0] 69 (0, 0)) := by rw [hb3.block _ (Array.getElem?_eq_some_iff.1 HX.out).1]; exact HX.out
        have hU : w3.heap[B + 1]? = some (.cells #[.int .i64 wd, .int .i64 h] 31 (0, 0)) := by rw [hb3.block _ (Array.getElem?_eq_some_iff.1 HU.out).1]; exact HU.out
        have hY : w3.heap[B + 1 + 1]? = some (.cells #[.int .i64 0, .int .i64 0] 69 (0, 0)) := by rw [hb3.block _ (Array.getElem?_eq_some_iff.1 HY.out).1]; exact HY.out
        clear x0 x1 u0 u1 hy0
        have x0 : w3.cell? ⟨B, 0, none⟩ = some (.int .i64 r) := by rw [cell_of_row w3 _ 0 _ _ _ hX]; rfl
        have x1 : w3.cell? ⟨B, 1, none⟩ = some (.int .i64 0) := by rw [cell_of_row w3 _ 1 _ _ _ hX]; rfl
        have u1 : w3.cell? ⟨B + 1, 1, none⟩ = some (.int .i64 h) := by rw [cell_of_row w3 _ 1 _ _ _ hU]; rfl
        have y0 : w3.cell? ⟨B + 1 + 1, 0, none⟩ = some (.int .i64 0) := by rw [cell_of_row w3 _ 0 _ _ _ hY]; rfl
        have y1 : w3.cell? ⟨B + 1 + 1, 1, none⟩ = some (.int .i64 0) := by rw [cell_of_row w3 _ 1 _ _ _ hY]; rfl
        have z0 : w3.frozen? ⟨B + 1 + 1, 0, none⟩ = false := by simp [World.frozen?, hY]
        have z1 : w3.frozen? ⟨B + 1 + 1, 1, none⟩ = false := by simp [World.frozen?, hY]
        have f0 : w3.frozen? ⟨B, 0, none⟩ = false := by simp [World.frozen?, hX]
        have f1 : w3.frozen? ⟨B, 1, none⟩ = false := by simp [World.frozen?, hX]
        clear hb3 HG hX hU hY HX HU HY HB
        simp only []
        go_wp2
        exact bodyPost_ret (v := .tuple #[.agg #[.int .i64 p, .int .i64 0], .bool true, .nilIface]) (by simp [results, Tryz.results50, go_sem, y0, y1]) rfl ⟨by rw [HAN.out], HBB.out _ (HB3.out.setCell (by rw [HBe.out]; exact Nat.le_refl _) _) _ _ _ _ (by simp; omega) (by simp; omega)⟩
    · have hvd : decide (0 < v) = false := by simpa using hv
      have hans : nextV r 0 wd h p v = .tuple #[.agg #[.int .i64 r, .int .i64 0], .bool true, .nilIface] := by
        simp [nextV, bandV, Bd.nR, Bd.nL, Bd.nO, hv]
      have HAN := hide hans
      have y1 : w2.cell? ⟨B + 1 + 1, 1, none⟩ = some (.int .i64 0) := by rw [cell_of_row w2 _ 1 _ _ _ HY.out]; rfl
      have z0 : w2.frozen? ⟨B + 1 + 1, 0, none⟩ = false := by simp [World.frozen?, HY.out]
      have z1 : w2.frozen? ⟨B + 1 + 1, 1, none⟩ = false := by simp [World.frozen?, HY.out]
      clear hans
      go_wp2
      exact bodyPost_ret (v := .tuple #[.agg #[.int .i64 r, .int .i64 0], .bool true, .nilIface]) (by simp [results, Tryz.results50, go_sem, hy0, y1]) rfl ⟨by rw [HAN.out], HBB.out _ HB.out _ _ _ _ (by simp; omega) (by simp; omega)⟩
end Go.Proofs.YtjdnahmdicamdaaGreatDoor
/- What is left of lots behind takes; no program is spoken of. -/
namespace Go.Proofs.YtjdnahmdicamdaaGreatDoor
namespace Fu
open Cv Bk Ra

def remF (c : Int → Int) (x : Lot) : Option Lot := if c x.id < x.q then some (less x (c x.id)) else none
/-- what is left of lots where so much of each is taken -/
def rem (c : Int → Int) (l : List Lot) : List Lot := l.filterMap (remF c)
def takF (id q : Int) (x : Lot) : Option Lot := if x.id = id then (if q < x.q then some (less x q) else none) else some x
def more (c : Int → Int) (id q : Int) (j : Int) : Int := if j = id then c j + q else c j

theorem rem_zero {l : List Lot} (h : Oks l) : rem (fun _ => 0) l = l := by
  unfold rem
  induction l with
  | nil => rfl
  | cons x l ih =>
    have hx := ok_bounds (h x (List.mem_cons_self ..))
    rw [List.filterMap_cons]
    have : remF (fun _ => 0) x = some x := by unfold remF less; rw [if_pos (by show (0 : Int) < x.q; omega)]; simp
    rw [this]
    simp only []
    rw [ih (fun y hy => h y (List.mem_cons_of_mem _ hy))]
theorem tak_none {l : List Lot} {id q : Int} (h : ∀ x ∈ l, x.id ≠ id) : l.filterMap (takF id q) = l := by
  induction l with
  | nil => rfl
  | cons x l ih =>
    rw [List.filterMap_cons]
    have : takF id q x = some x := by unfold takF; rw [if_neg (h x (List.mem_cons_self ..))]
    rw [this]
    simp only []
    rw [ih (fun y hy => h y (List.mem_cons_of_mem _ hy))]
theorem once_split {l : List Lot} (ho : Once l) {k : Nat} (hk : k < l.length) : (∀ x ∈ l.take k, x.id ≠ (nth l k).id) ∧ ∀ x ∈ l.drop (k + 1), x.id ≠ (nth l k).id := by
  have e := split_at hk
  have ho' : (l.map (·.id)).Nodup := ho
  have h1 : ((l.take k ++ nth l k :: l.drop (k + 1)).map (·.id)).Nodup := by rw [← e]; exact ho'
  rw [List.map_append, List.map_cons, List.nodup_append] at h1
  obtain ⟨_, h2, h3⟩ := h1
  rw [List.nodup_cons] at h2
  refine ⟨fun x hx hxe => ?_, fun x hx hxe => ?_⟩
  · exact h3 x.id (List.mem_map_of_mem hx) (nth l k).id (List.mem_cons_self ..) hxe
  · exact h2.1 (by rw [← hxe]; exact List.mem_map_of_mem hx)
/-- a take, lot by lot -/
theorem takL_eq {l : List Lot} (ho : Once l) {id q : Int} (hh : has l id = true) (h1 : 1 ≤ q) (h2 : q ≤ (nth l (pos l id)).q) : takL l id q = l.filterMap (takF id q) := by
  have hk := pos_has.1 hh
  have hid := pos_id hk
  obtain ⟨ha, hb⟩ := once_split ho hk
  rw [hid] at ha hb
  have hC : takC l id q = 0 := by unfold takC; rw [if_pos hh, if_pos (by simp [Wi.withinB, h1, h2])]
  have e : l.filterMap (takF id q) = (l.take (pos l id) ++ nth l (pos l id) :: l.drop (pos l id + 1)).filterMap (takF id q) := congrArg _ (split_at hk)
  rw [e, List.filterMap_append, List.filterMap_cons, tak_none ha, tak_none hb]
  unfold takL
  rw [if_pos hC]
  by_cases hq : q = (nth l (pos l id)).q
  · rw [if_pos hq]
    have : takF id q (nth l (pos l id)) = none := by unfold takF; rw [if_pos hid, if_neg (by omega)]
    rw [this]
    rfl
  · rw [if_neg hq]
    have : takF id q (nth l (pos l id)) = some (less (nth l (pos l id)) q) := by unfold takF; rw [if_pos hid, if_pos (by omega)]
    rw [this]
    rfl
theorem rem_tak (c : Int → Int) (l : List Lot) (id q : Int) (hq : 1 ≤ q) : (rem c l).filterMap (takF id q) = rem (more c id q) l := by
  unfold rem
  rw [List.filterMap_filterMap]
  congr 1
  funext x
  unfold remF takF more
  by_cases h : c x.id < x.q
  · rw [if_pos h]
    simp only [Option.bind_some, less]
    by_cases hi : x.id = id
    · rw [if_pos hi, if_pos hi]
      by_cases h2 : q < x.q - c x.id
      · rw [if_pos h2, if_pos (by omega)]
        simp; omega
      · rw [if_neg h2, if_neg (by omega)]
    · rw [if_neg hi, if_neg hi, if_pos h]
  · rw [if_neg h]
    simp only [Option.bind_none]
    by_cases hi : x.id = id
    · rw [if_pos hi, if_neg (by omega)]
    · rw [if_neg hi, if_neg h]
theorem rem_mem {c : Int → Int} {l : List Lot} {y : Lot} : y ∈ rem c l ↔ ∃ x ∈ l, c x.id < x.q ∧ y = less x (c x.id) := by
  unfold rem
  rw [List.mem_filterMap]
  constructor
  · rintro ⟨x, hx, h⟩
    unfold remF at h
    split at h
    · rename_i hc
      exact ⟨x, hx, hc, (Option.some.inj h).symm⟩
    · cases h
  · rintro ⟨x, hx, hc, rfl⟩
    exact ⟨x, hx, by unfold remF; rw [if_pos hc]⟩
theorem rem_has {c : Int → Int} {l : List Lot} {id : Int} : has (rem c l) id = true ↔ ∃ x ∈ l, x.id = id ∧ c id < x.q := by
  unfold has
  rw [List.any_eq_true]
  constructor
  · rintro ⟨y, hy, he⟩
    obtain ⟨x, hx, hc, rfl⟩ := rem_mem.1 hy
    have : x.id = id := by simpa [less] using he
    exact ⟨x, hx, this, by rw [← this]; exact hc⟩
  · rintro ⟨x, hx, he, hc⟩
    exact ⟨less x (c x.id), rem_mem.2 ⟨x, hx, by rw [he]; exact hc, rfl⟩, by simp [less, he]⟩
theorem rem_once {c : Int → Int} {l : List Lot} (ho : Once l) : Once (rem c l) := by
  unfold Once at *
  refine List.Nodup.sublist ?_ ho
  unfold rem
  induction l with
  | nil => exact List.Sublist.refl _
  | cons x l ih =>
    have ih' := ih (by simp only [List.map_cons, List.nodup_cons] at ho; exact ho.2)
    rw [List.filterMap_cons]
    by_cases h : c x.id < x.q
    · have : remF c x = some (less x (c x.id)) := by unfold remF; rw [if_pos h]
      rw [this]
      exact List.Sublist.cons_cons _ ih'
    · have : remF c x = none := by unfold remF; rw [if_neg h]
      rw [this]
      exact List.Sublist.cons _ ih'
/-- the lot that is found -/
theorem rem_nth {c : Int → Int} {l : List Lot} (ho : Once l) {x : Lot} (hx : x ∈ l) (hc : c x.id < x.q) : nth (rem c l) (pos (rem c l) x.id) = less x (c x.id) := by
  have hh : has (rem c l) x.id = true := rem_has.2 ⟨x, hx, rfl, hc⟩
  have hk := pos_has.1 hh
  have hm : nth (rem c l) (pos (rem c l) x.id) ∈ rem c l := by rw [nth_get hk]; exact List.getElem_mem hk
  obtain ⟨y, hy, _, he⟩ := rem_mem.1 hm
  have hid := pos_id hk
  rw [he] at hid ⊢
  have : y.id = x.id := by simpa [less] using hid
  have hxy : y = x := by
    have ho' : (l.map (·.id)).Nodup := ho
    obtain ⟨i, hi, rfl⟩ := List.mem_iff_getElem.1 hy
    obtain ⟨j, hj, rfl⟩ := List.mem_iff_getElem.1 hx
    have hp := List.pairwise_iff_getElem.1 ho'
    rcases Nat.lt_trichotomy i j with h | h | h
    · exact absurd (by rw [List.getElem_map, List.getElem_map]; exact this) (hp i j (by simpa using hi) (by simpa using hj) h)
    · subst h; rfl
    · exact absurd (by rw [List.getElem_map, List.getElem_map]; exact this.symm) (hp j i (by simpa using hj) (by simpa using hi) h)
  rw [hxy]
/-- a take of what is left -/
theorem takL_rem {c : Int → Int} {l : List Lot} (ho : Once l) {x : Lot} (hx : x ∈ l) {q : Int} (h1 : 1 ≤ q) (h2 : c x.id + q ≤ x.q) : takL (rem c l) x.id q = rem (more c x.id q) l := by
  have hc : c x.id < x.q := by omega
  rw [takL_eq (rem_once ho) (rem_has.2 ⟨x, hx, rfl, hc⟩) h1 (by rw [rem_nth ho hx hc]; simp only [less]; omega), rem_tak c l _ q h1]
end Fu
end Go.Proofs.YtjdnahmdicamdaaGreatDoor
/- A trade of several units is as many trades of one; no walk. -/
namespace Go.Proofs.YtjdnahmdicamdaaGreatDoor
namespace Pu
theorem dl_add (i : Nat) (a b : Int) (j : Nat) : dl i (a + b) j = dl i a j + dl i b j := by
  unfold dl; split <;> omega
theorem six_add (f : Nat → Int) (b s k : Nat) (bp price q r : Int) : six (six f b s k bp price q) b s k bp price r = six f b s k bp price (q + r) := by
  funext j
  rw [six_dl, six_dl, six_dl]
  rw [show -(bp * (q + r)) = -(bp * q) + -(bp * r) by rw [Int.mul_add]; omega, show -(q + r) = -q + -r by omega, show -(price * (q + r)) = -(price * q) + -(price * r) by rw [Int.mul_add]; omega, show price * (q + r) = price * q + price * r from Int.mul_add ..]
  simp only [dl_add]
  omega
theorem six_zero (f : Nat → Int) (b s k : Nat) (bp price : Int) : six f b s k bp price 0 = f := by
  funext j
  rw [six_dl]
  simp [dl]
/-- two trades of different lots change places -/
theorem six_comm (f : Nat → Int) (b s k b' s' k' : Nat) (bp price q bp' price' q' : Int) : six (six f b s k bp price q) b' s' k' bp' price' q' = six (six f b' s' k' bp' price' q') b s k bp price q := by
  funext j
  simp only [six_dl]
  omega
end Pu
end Go.Proofs.YtjdnahmdicamdaaGreatDoor
/- What all clients have together; no program is spoken of. -/
namespace Go.Proofs.YtjdnahmdicamdaaGreatDoor
namespace Pu

def cashes (f : Nat → Int) : Nat → Int
  | 0 => 0
  | m + 1 => cashes f m + f (m * 8)
def stocks (f : Nat → Int) (j : Nat) : Nat → Int
  | 0 => 0
  | m + 1 => stocks f j m + f (m * 8 + 2 + j)
theorem cashes_other {f : Nat → Int} {i : Nat} {v : Int} (h : ∀ c, i ≠ c * 8) (m : Nat) : cashes (add f i v) m = cashes f m := by
  induction m with
  | zero => rfl
  | succ m ih => simp only [cashes, ih]; rw [add_ne _ _ (fun e => h m e.symm)]
theorem cashes_at {f : Nat → Int} {c : Nat} {v : Int} (m : Nat) : cashes (add f (c * 8) v) m = cashes f m + if c < m then v else 0 := by
  induction m with
  | zero => simp [cashes]
  | succ m ih =>
    simp only [cashes, ih]
    by_cases e : c = m
    · subst e; rw [add_at, if_neg (by omega), if_pos (by omega)]; omega
    · rw [add_ne _ _ (by omega)]
      by_cases h : c < m
      · rw [if_pos h, if_pos (by omega)]; omega
      · rw [if_neg h, if_neg (by omega)]; omega
theorem stocks_other {f : Nat → Int} {i j : Nat} {v : Int} (h : ∀ c, i ≠ c * 8 + 2 + j) (m : Nat) : stocks (add f i v) j m = stocks f j m := by
  induction m with
  | zero => rfl
  | succ m ih => simp only [stocks, ih]; rw [add_ne _ _ (fun e => h m e.symm)]
theorem stocks_at {f : Nat → Int} {c k j : Nat} {v : Int} (hk : k < 3) (hj : j < 3) (m : Nat) : stocks (add f (c * 8 + 2 + k) v) j m = stocks f j m + if c < m ∧ k = j then v else 0 := by
  induction m with
  | zero => simp [stocks]
  | succ m ih =>
    simp only [stocks, ih]
    by_cases e : c = m ∧ k = j
    · obtain ⟨rfl, rfl⟩ := e; rw [add_at, if_neg (by omega), if_pos (by omega)]; omega
    · rw [add_ne _ _ (by omega)]
      by_cases h : c < m ∧ k = j
      · rw [if_pos h, if_pos (by omega)]; omega
      · rw [if_neg h, if_neg (by omega)]; omega
theorem cashes_bound {f : Nat → Int} (hg : Good f) : ∀ m, m ≤ 6 → 0 ≤ cashes f m ∧ cashes f m ≤ m * 1099511627776
  | 0, _ => by simp [cashes]
  | m + 1, h => by
    have := cashes_bound hg m (by omega)
    have := hg.cash m (by omega)
    simp only [cashes]
    omega
theorem stocks_bound {f : Nat → Int} (hg : Good f) {j : Nat} (hj : j < 3) : ∀ m, m ≤ 6 → 0 ≤ stocks f j m ∧ stocks f j m ≤ m * 1073741824
  | 0, _ => by simp [stocks]
  | m + 1, h => by
    have := stocks_bound hg hj m (by omega)
    have := hg.stock m j (by omega) hj
    simp only [stocks]
    omega
theorem cashes_congr {f g : Nat → Int} (m : Nat) (h : ∀ c, c < m → f (c * 8) = g (c * 8)) : cashes f m = cashes g m := by
  induction m with
  | zero => rfl
  | succ m ih => simp only [cashes]; rw [ih (fun c hc => h c (by omega)), h m (by omega)]

theorem hx_not {item : Int} {x : Cv.Lot} (h : well item x = true) : (∀ c, hx item x ≠ c * 8) ∧ ∀ c j, j < 3 → hx item x ≠ c * 8 + 2 + j := by
  rcases places h with ⟨c, c1, e1, e2⟩ | ⟨c, k, c1, k1, e1, e2⟩
  · rw [e1]; exact ⟨fun d => by omega, fun d j hj => by omega⟩
  · rw [e1]; exact ⟨fun d => by omega, fun d j hj => by omega⟩
theorem hold_sums (f : Nat → Int) (item : Int) (x : Cv.Lot) (m : Nat) : cashes (holdF f item x) m = cashes f m ∧ ∀ j, j < 3 → stocks (holdF f item x) j m = stocks f j m := by
  unfold holdF
  split
  · rename_i h
    have hw := hx_not (hold_zero h).1
    exact ⟨cashes_other hw.1 m, fun j hj => stocks_other (fun c => hw.2 c j hj) m⟩
  · exact ⟨rfl, fun _ _ => rfl⟩
theorem free_sums (f : Nat → Int) (item : Int) (x : Cv.Lot) (m : Nat) : cashes (freeF f item x) m = cashes f m ∧ ∀ j, j < 3 → stocks (freeF f item x) j m = stocks f j m := by
  unfold freeF
  split
  · rename_i h
    have hw := hx_not (free_zero h).1
    exact ⟨cashes_other hw.1 m, fun j hj => stocks_other (fun c => hw.2 c j hj) m⟩
  · exact ⟨rfl, fun _ _ => rfl⟩
def Gift.part (g : Gift) : Nat → Int
  | 0 => g.s0
  | 1 => g.s1
  | _ => g.s2
theorem give_sums {f : Nat → Int} {g : Gift} (h : giveC f g = 0) : cashes (giveF f g) 6 = cashes f 6 + g.cash ∧ ∀ j, j < 3 → stocks (giveF f g) j 6 = stocks f j 6 + g.part j := by
  obtain ⟨⟨c, hc, c6, _⟩, _⟩ := give_zero h
  unfold giveF
  rw [if_pos h, hc, Int.toNat_natCast]
  refine ⟨?_, fun j hj => ?_⟩
  · rw [cashes_other (fun d => by omega), cashes_other (fun d => by omega), cashes_other (fun d => by omega), cashes_at, if_pos c6]
  · have e0 : c * 8 + 2 = c * 8 + 2 + 0 := rfl
    have e1 : c * 8 + 3 = c * 8 + 2 + 1 := rfl
    have e2 : c * 8 + 4 = c * 8 + 2 + 2 := rfl
    rw [e2, stocks_at (by decide) hj, e1, stocks_at (by decide) hj, e0, stocks_at (by decide) hj, stocks_other (fun d => by omega)]
    have : j = 0 ∨ j = 1 ∨ j = 2 := by omega
    rcases this with rfl | rfl | rfl
    · simp [c6, Gift.part]
    · simp [c6, Gift.part]
    · simp [c6, Gift.part]
theorem trade_sums (f : Nat → Int) (item : Int) (b s : Cv.Lot) (price qty : Int) : cashes (tradeF f item b s price qty) 6 = cashes f 6 ∧ ∀ j, j < 3 → stocks (tradeF f item b s price qty) j 6 = stocks f j 6 := by
  unfold tradeF
  split
  · rename_i h
    obtain ⟨hr, _, _⟩ := trade_zero h
    obtain ⟨k, hk, hk3⟩ := well_item hr.wb
    obtain ⟨c, hc, hc6⟩ := well_ow hr.wb
    obtain ⟨c', hc', hc6'⟩ := well_ow hr.ws
    rw [hk, hc, hc', Int.toNat_natCast, Int.toNat_natCast, Int.toNat_natCast]
    unfold six
    refine ⟨?_, fun j hj => ?_⟩
    · rw [cashes_at, if_pos hc6', cashes_other (fun d => by omega), cashes_other (fun d => by omega), cashes_at, if_pos hc6, cashes_other (fun d => by omega), cashes_other (fun d => by omega)]
      omega
    · rw [stocks_other (fun d => by omega), stocks_at hk3 hj, stocks_at hk3 hj, stocks_other (fun d => by omega), stocks_other (fun d => by omega), stocks_other (fun d => by omega)]
      by_cases e : k = j
      · rw [if_pos ⟨hc6', e⟩, if_pos ⟨hc6, e⟩]; omega
      · rw [if_neg (fun h => e h.2), if_neg (fun h => e h.2)]; omega
  · exact ⟨rfl, fun _ _ => rfl⟩
end Pu
end Go.Proofs.YtjdnahmdicamdaaGreatDoor
/- A request as numbers, and a function that is another one at one place; no program is spoken of. -/
namespace Go.Proofs.YtjdnahmdicamdaaGreatDoor

structure Ask where
  k : Int
  c : Int
  sq : Int
  it : Int
  sd : Int
  pr : Int
  q : Int
  id : Int
/-- a function at one place another one -/
def upd {α : Type} (f : Nat → α) (i : Nat) (x : α) (j : Nat) : α := if j = i then x else f j
theorem upd_same {α : Type} (f : Nat → α) (i : Nat) (x : α) : upd f i x i = x := by simp [upd]
theorem upd_ne {α : Type} (f : Nat → α) {i j : Nat} (x : α) (h : j ≠ i) : upd f i x j = f j := by simp [upd, h]
end Go.Proofs.YtjdnahmdicamdaaGreatDoor
/- What is held is what rests asks for: plain facts; no walk. -/
namespace Go.Proofs.YtjdnahmdicamdaaGreatDoor
namespace Fu
open Cv Bk Pu

def sumBy (g : Lot → Int) : List Lot → Int
  | [] => 0
  | x :: l => g x + sumBy g l
theorem sumBy_append (g : Lot → Int) : ∀ a b : List Lot, sumBy g (a ++ b) = sumBy g a + sumBy g b
  | [], b => by simp [sumBy]
  | x :: a, b => by rw [List.cons_append, sumBy, sumBy, sumBy_append g a b]; omega
theorem sumBy_del (g : Lot → Int) {l : List Lot} {k : Nat} (hk : k < l.length) : sumBy g (del l k) = sumBy g l - g (nth l k) := by
  have e : sumBy g l = sumBy g (l.take k ++ nth l k :: l.drop (k + 1)) := congrArg _ (split_at hk)
  rw [e]
  unfold del
  rw [sumBy_append, sumBy_append, sumBy]
  omega
theorem sumBy_put (g : Lot → Int) {l : List Lot} {k : Nat} (hk : k < l.length) (x : Lot) : sumBy g (put l k x) = sumBy g l - g (nth l k) + g x := by
  have e : sumBy g l = sumBy g (l.take k ++ nth l k :: l.drop (k + 1)) := congrArg _ (split_at hk)
  rw [e]
  unfold put
  rw [sumBy_append, sumBy_append, sumBy, sumBy]
  omega
theorem sumBy_ge {g : Lot → Int} : ∀ {l : List Lot}, (∀ x ∈ l, 0 ≤ g x) → 0 ≤ sumBy g l ∧ ∀ x ∈ l, g x ≤ sumBy g l
  | [], _ => ⟨by simp [sumBy], fun x hx => by cases hx⟩
  | y :: l, h => by
    obtain ⟨h1, h2⟩ := sumBy_ge (l := l) (fun x hx => h x (List.mem_cons_of_mem _ hx))
    have hy := h y (List.mem_cons_self ..)
    rw [sumBy]
    refine ⟨by omega, fun x hx => ?_⟩
    rcases List.mem_cons.1 hx with rfl | hx
    · omega
    · have := h2 x hx; omega

/-- what a lot of an item asks for, at one place of a purse -/
def ask1 (i j : Nat) (x : Lot) : Int := dl (hx i x) (mu x) j
def asked (L : Nat → List Lot) (j : Nat) : Int := sumBy (ask1 0 j) (L 0) + sumBy (ask1 1 j) (L 1) + sumBy (ask1 2 j) (L 2)
theorem asked_upd (L : Nat → List Lot) {i : Nat} (hi : i < 3) (l : List Lot) (j : Nat) : asked (upd L i l) j = asked L j - sumBy (ask1 i j) (L i) + sumBy (ask1 i j) l := by
  have : i = 0 ∨ i = 1 ∨ i = 2 := by omega
  unfold asked
  rcases this with rfl | rfl | rfl
  · rw [upd_same, upd_ne L l (show 1 ≠ 0 by decide), upd_ne L l (show 2 ≠ 0 by decide)]; omega
  · rw [upd_same, upd_ne L l (show 0 ≠ 1 by decide), upd_ne L l (show 2 ≠ 1 by decide)]; omega
  · rw [upd_same, upd_ne L l (show 0 ≠ 2 by decide), upd_ne L l (show 1 ≠ 2 by decide)]; omega
def IsHeld (j : Nat) : Prop := ∃ c, c < 6 ∧ (j = c * 8 + 1 ∨ ∃ k, k < 3 ∧ j = c * 8 + 5 + k)
/-- what is held is what rests asks for -/
def Held (L : Nat → List Lot) (f : Nat → Int) : Prop := ∀ j, IsHeld j → f j = asked L j
theorem held_start (f : Nat → Int) (h : ∀ j, IsHeld j → f j = 0) : Held (fun _ => []) f := fun j hj => by rw [h j hj]; rfl
theorem held_place {L : Nat → List Lot} {f : Nat → Int} (h : Held L f) {i : Nat} (hi : i < 3) (x : Lot) : Held (upd L i (L i ++ [x])) (Pu.add f (hx i x) (mu x)) := fun j hj => by
  rw [add_dl, h j hj, asked_upd L hi, sumBy_append, sumBy, sumBy]
  unfold ask1
  omega
theorem held_cancel {L : Nat → List Lot} {f : Nat → Int} (h : Held L f) {i : Nat} (hi : i < 3) {k : Nat} (hk : k < (L i).length) : Held (upd L i (del (L i) k)) (Pu.add f (hx i (nth (L i) k)) (-(mu (nth (L i) k)))) := fun j hj => by
  rw [add_dl, h j hj, asked_upd L hi, sumBy_del _ hk]
  unfold ask1
  have : dl (hx i (nth (L i) k)) (-(mu (nth (L i) k))) j = -(dl (hx i (nth (L i) k)) (mu (nth (L i) k)) j) := by unfold dl; split <;> omega
  rw [this]
  omega
theorem isHeld_hx {i : Nat} {x : Lot} (h : well i x = true) : IsHeld (hx i x) := by
  rcases places h with ⟨c, h1, h2, _⟩ | ⟨c, k, h1, h4, h2, _⟩
  · exact ⟨c, h1, .inl h2⟩
  · exact ⟨c, h1, .inr ⟨k, h4, h2⟩⟩
theorem well_of {i : Nat} (hi : i < 3) {x : Lot} (h : ok x = true) : well i x = true := by
  unfold well
  rw [h]
  simp [Wi.withinB]
  omega
theorem held_ge {L : Nat → List Lot} {f : Nat → Int} (h : Held L f) (hok : ∀ j, j < 3 → Oks (L j)) {i : Nat} (hi : i < 3) {x : Lot} (hx' : x ∈ L i) : mu x ≤ f (hx i x) := by
  have hw := well_of hi (hok i hi x hx')
  rw [h _ (isHeld_hx hw)]
  have nn : ∀ k, k < 3 → ∀ y ∈ L k, 0 ≤ ask1 k (hx i x) y := fun k hk y hy => by
    have := mu_bounds (hok k hk y hy)
    unfold ask1 dl
    split <;> omega
  have h0 := (sumBy_ge (nn 0 (by decide))).1
  have h1 := (sumBy_ge (nn 1 (by decide))).1
  have h2 := (sumBy_ge (nn 2 (by decide))).1
  have hm : ask1 i (hx i x) x = mu x := by unfold ask1; exact dl_at
  have hx2 := (sumBy_ge (nn i hi)).2 x hx'
  rw [hm] at hx2
  have : i = 0 ∨ i = 1 ∨ i = 2 := by omega
  unfold asked
  rcases this with rfl | rfl | rfl <;> omega
def per (x : Lot) : Int := if x.sd = 0 then x.pr else 1
theorem mu_per (x : Lot) : mu x = per x * x.q := by unfold mu per; split <;> omega
theorem ask_less (i j : Nat) (x : Lot) (q : Int) : ask1 i j (less x q) = ask1 i j x - dl (hx i x) (per x * q) j := by
  unfold ask1
  have e1 : hx i (less x q) = hx i x := rfl
  have e2 : mu (less x q) = mu x - per x * q := by rw [mu_per, mu_per]; show per x * (x.q - q) = _; rw [Int.mul_sub]
  rw [e1, e2]
  unfold dl
  split <;> omega
theorem ask_take {l : List Lot} {id q : Int} (i j : Nat) (hh : has l id = true) (h1 : 1 ≤ q) (h2 : q ≤ (nth l (pos l id)).q) : sumBy (ask1 i j) (takL l id q) = sumBy (ask1 i j) l - dl (hx i (nth l (pos l id))) (per (nth l (pos l id)) * q) j := by
  have hk := pos_has.1 hh
  have hC : takC l id q = 0 := by unfold takC; rw [if_pos hh, if_pos (by simp [Wi.withinB, h1, h2])]
  unfold takL
  rw [if_pos hC]
  by_cases hq : q = (nth l (pos l id)).q
  · rw [if_pos hq, sumBy_del _ hk]
    unfold ask1
    rw [mu_per, ← hq]
  · rw [if_neg hq, sumBy_put _ hk, ask_less]
    omega
/-- a trade of so much of two lots -/
theorem held_trade {L : Nat → List Lot} {f : Nat → Int} (h : Held L f) {i : Nat} (hi : i < 3) {bid sid q price : Int} {x y : Lot}
    (hb : has (L i) bid = true) (hx' : nth (L i) (pos (L i) bid) = x) (hs : has (takL (L i) bid q) sid = true) (hy' : nth (takL (L i) bid q) (pos (takL (L i) bid q) sid) = y)
    (h1 : 1 ≤ q) (h2 : q ≤ x.q) (h3 : q ≤ y.q) (hbs : x.sd = 0) (hss : y.sd ≠ 0) :
    Held (upd L i (takL (takL (L i) bid q) sid q)) (six f x.ow.toNat y.ow.toNat i x.pr price q) := fun j hj => by
  rw [asked_upd L hi, ask_take i j hs h1 (by rw [hy']; exact h3), hy', ask_take i j hb h1 (by rw [hx']; exact h2), hx', six_dl, h j hj]
  have e1 : hx i x = x.ow.toNat * 8 + 1 := by unfold hx; rw [if_pos hbs]
  have e2 : hx i y = y.ow.toNat * 8 + 5 + i := by unfold hx; rw [if_neg hss]; rfl
  have p1 : per x = x.pr := by unfold per; rw [if_pos hbs]
  have p2 : per y = 1 := by unfold per; rw [if_neg hss]
  rw [e1, e2, p1, p2]
  obtain ⟨c, hc, hcj⟩ := hj
  have z1 : dl (x.ow.toNat * 8) (-(price * q)) j = 0 := dl_ne (by rcases hcj with e | ⟨k, hk, e⟩ <;> omega)
  have z2 : dl (y.ow.toNat * 8 + 2 + i) (-q) j = 0 := dl_ne (by rcases hcj with e | ⟨k, hk, e⟩ <;> omega)
  have z3 : dl (x.ow.toNat * 8 + 2 + i) q j = 0 := dl_ne (by rcases hcj with e | ⟨k, hk, e⟩ <;> omega)
  have z4 : dl (y.ow.toNat * 8) (price * q) j = 0 := dl_ne (by rcases hcj with e | ⟨k, hk, e⟩ <;> omega)
  rw [z1, z2, z3, z4]
  have n1 : dl (x.ow.toNat * 8 + 1) (-(x.pr * q)) j = -(dl (x.ow.toNat * 8 + 1) (x.pr * q) j) := by unfold dl; split <;> omega
  have n2 : dl (y.ow.toNat * 8 + 5 + i) (-q) j = -(dl (y.ow.toNat * 8 + 5 + i) (1 * q) j) := by rw [Int.one_mul]; unfold dl; split <;> omega
  rw [n1, n2]
  omega
theorem not_poor {L : Nat → List Lot} {f : Nat → Int} (h : Held L f) (hok : ∀ j, j < 3 → Oks (L j)) {i : Nat} (hi : i < 3) {x y : Lot} (hx' : x ∈ L i) (hy' : y ∈ L i) (hbs : x.sd = 0) (hss : y.sd ≠ 0) {q : Int} (h2 : q ≤ x.q) (h3 : q ≤ y.q) :
    poor f x.ow.toNat y.ow.toNat i x.pr q = false := by
  have g1 := held_ge h hok hi hx'
  have g2 := held_ge h hok hi hy'
  have e1 : hx i x = x.ow.toNat * 8 + 1 := by unfold hx; rw [if_pos hbs]
  have e2 : hx i y = y.ow.toNat * 8 + 5 + i := by unfold hx; rw [if_neg hss]; rfl
  have m1 : mu x = x.pr * x.q := by unfold mu; rw [if_pos hbs]
  have m2 : mu y = y.q := by unfold mu; rw [if_neg hss]
  rw [e1, m1] at g1
  rw [e2, m2] at g2
  have hb := ok_bounds (hok i hi x hx')
  have h4 := Int.mul_le_mul_of_nonneg_left h2 (show 0 ≤ x.pr by omega)
  simp only [poor, Bool.or_eq_false_iff, decide_eq_false_iff_not]
  exact ⟨by omega, by omega⟩
end Fu
end Go.Proofs.YtjdnahmdicamdaaGreatDoor
