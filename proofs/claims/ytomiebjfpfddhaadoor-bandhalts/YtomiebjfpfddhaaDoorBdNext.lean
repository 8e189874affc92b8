/- Next of package band, by its contract. -/
import Derived.Test.YtomiebjfpfddhaaDoorBdSmall
namespace Go.Proofs.YtomiebjfpfddhaaDoor
open Go.RowKit
set_option maxRecDepth 100000

set_option maxHeartbeats 1000000 in
theorem checkNext_any (r l wd h p v : Int) (T : TypeId) (v1 : Value) (w : World) (he : Hid (BEr w T v1)) :
    Calls Tryd.prog 51 #[bandV r l, bandV wd h, .int .i64 p, .int .i64 v] w fun e w' => e = .returned (okE T v1 (Bd.bOk r l && (Bd.rOk wd h && Bd.vOk p v))) ∧ Below w.heap.size w w' := by
  show Calls Tryd.prog 51 #[.agg #[.int .i64 r, .int .i64 l], .agg #[.int .i64 wd, .int .i64 h], .int .i64 p, .int .i64 v] w _
  obtain ⟨W, hWd⟩ : ∃ W, (w.alloc (.cells #[.int .i64 r, .int .i64 l] 45)).alloc (.cells #[.int .i64 wd, .int .i64 h] 47) = W := ⟨_, rfl⟩
  have hb1 : Below w.heap.size w (w.alloc (.cells #[.int .i64 r, .int .i64 l] 45)) := (Below.refl _ _).alloc (Nat.le_refl _) _
  have hb2 : Below w.heap.size w W := by rw [← hWd]; exact hb1.alloc hb1.size _
  have hY0 : W.heap[w.heap.size + 1]? = some (.cells #[.int .i64 wd, .int .i64 h] 47 (0, 0)) := by
    rw [← hWd]
    have := heap_alloc_new (w.alloc (.cells #[.int .i64 r, .int .i64 l] 45)) (.cells #[.int .i64 wd, .int .i64 h] 47)
    rw [show (w.alloc (.cells #[.int .i64 r, .int .i64 l] 45)).heap.size = w.heap.size + 1 by simp] at this
    exact this
  have HY0 := hide hY0; have HBW := hide hb2
  have HC := hide (bcheck_any r l T v1 W (he.out.later hb2))
  unfold bandV at HC
  have HWd := hide hWd
  clear hb1 hb2 hY0 hWd
  go_enter Tryd.func51, Tryd.ntmps51
  go_wp2_with fail
  rw [HWd.out]
  clear HWd
  refine HC.out.mono ?_
  rintro e w2 ⟨rfl, hb2⟩
  have HB : Hid (Below w.heap.size w w2) := HBW.out.trans (hb2.mono HBW.out.size)
  have hY : w2.heap[w.heap.size + 1]? = some (.cells #[.int .i64 wd, .int .i64 h] 47 (0, 0)) := by rw [hb2.block _ (Array.getElem?_eq_some_iff.1 HY0.out).1]; exact HY0.out
  have y0 : w2.cell? ⟨w.heap.size + 1, 0, none⟩ = some (.int .i64 wd) := by rw [cell_of_row w2 _ 0 _ _ _ hY]; rfl
  have y1 : w2.cell? ⟨w.heap.size + 1, 1, none⟩ = some (.int .i64 h) := by rw [cell_of_row w2 _ 1 _ _ _ hY]; rfl
  clear hb2 HC HBW HY0 hY
  cases hb : Bd.bOk r l with
  | false =>
    have Hb := hide hb
    clear hb
    simp only [okE, if_neg Bool.false_ne_true]
    go_wp2
    go_ret
    exact ⟨by rw [Hb.out]; rfl, HB.out⟩
  | true =>
    have Hb := hide hb
    clear hb
    have HC := hide (rcheck_any wd h T v1 w2 (he.out.later HB.out))
    unfold bandV at HC
    simp only [okE, if_pos]
    go_wp2_with fail
    refine HC.out.mono ?_
    rintro e w3 ⟨rfl, hb3⟩
    have HB3 : Hid (Below w.heap.size w w3) := HB.out.trans (hb3.mono HB.out.size)
    clear hb3 HC HB y0 y1
    cases hr : Bd.rOk wd h with
    | false =>
      have Hr := hide hr
      clear hr
      simp only [okE, if_neg Bool.false_ne_true]
      go_wp2
      go_ret
      exact ⟨by rw [Hb.out, Hr.out]; rfl, HB3.out⟩
    | true =>
      have Hr := hide hr
      clear hr
      have e1 := (he.out.later HB3.out).c1
      simp only [okE, if_pos]
      by_cases hv : v < 0
      · have hvd : decide (v < 0) = true := by simpa using hv
        go_wp2_with fail
        all_goals go_ret
        all_goals exact ⟨by rw [Hb.out, Hr.out]; simp [okE, Bd.vOk, hvd], HB3.out⟩
      · have hvd : decide (v < 0) = false := by simpa using hv
        by_cases hp : 0 < v
        · have hpd : decide (0 < v) = true := by simpa using hp
          cases hw : Wi.withinB p 1 1000
          all_goals
            go_wp2_with (go_at_call 53; refine (isPrice_any _ _).mono ?_; rintro e w' ⟨rfl, rfl⟩; rw [hw])
            all_goals go_ret
            all_goals exact ⟨by rw [Hb.out, Hr.out]; simp [okE, Bd.vOk, hvd, hpd, hw], HB3.out⟩
        · have hpd : decide (0 < v) = false := by simpa using hp
          go_wp2_with fail
          all_goals go_ret
          all_goals exact ⟨by rw [Hb.out, Hr.out]; simp [okE, Bd.vOk, hvd, hpd], HB3.out⟩

set_option maxHeartbeats 1000000 in
theorem goOn_any (r l p : Int) (t : Bool) (w : World) (h1 : 0 < l) (h2 : l ≤ 1000) :
    Calls Tryd.prog 52 #[bandV r l, .int .i64 p, .bool t] w fun e w' => e = .returned (bandV (if l = 1 ∧ t = true then p else r) (l - 1)) ∧ Below w.heap.size w w' := by
  show Calls Tryd.prog 52 #[.agg #[.int .i64 r, .int .i64 l], .int .i64 p, .bool t] w _
  have wl : IntKind.i64.wrap (l - 1) = l - 1 := IntWalk.i64_in _ (by omega)
  have HA : Hid (∀ x y, Below w.heap.size w ((w.alloc x).alloc y)) := fun x y => ((Below.refl _ _).alloc (Nat.le_refl _) x).alloc (by simp) y
  by_cases hl : l = 1
  · subst hl
    cases t
    · go_enter Tryd.func52, Tryd.ntmps52
      go_wp2
      exact bodyPost_ret (v := bandV r 0) (by simp [results, Tryd.results52, go_sem, bandV]) rfl ⟨rfl, HA.out _ _⟩
    · go_enter Tryd.func52, Tryd.ntmps52
      go_wp2
      exact bodyPost_ret (v := bandV p 0) (by simp [results, Tryd.results52, go_sem, bandV]) rfl ⟨rfl, HA.out _ _⟩
  · have hl' : ¬ l - 1 = 0 := by omega
    go_enter Tryd.func52, Tryd.ntmps52
    go_wp2
    exact bodyPost_ret (v := bandV r (l - 1)) (by simp [results, Tryd.results52, go_sem, bandV]) rfl ⟨rfl, HA.out _ _⟩

/-- what Next answers of what is well -/
def nextV (r l wd h p v : Int) : Value := .tuple #[bandV (Bd.nR r l wd p v) (Bd.nL r l wd h p v), .bool (Bd.nO r l wd p v), .nilIface]

set_option maxHeartbeats 1000000 in
theorem next_bad (r l wd h p v : Int) (T : TypeId) (v1 : Value) (w : World) (he : Hid (BEr w T v1)) (hk : (Bd.bOk r l && (Bd.rOk wd h && Bd.vOk p v)) = false) :
    Calls Tryd.prog 26 #[bandV r l, bandV wd h, .int .i64 p, .int .i64 v] w fun e w' => e = .returned (.tuple #[bandV 0 0, .bool false, .iface T v1]) ∧ Below w.heap.size w w' := by
  obtain ⟨W, hWd⟩ : ∃ W, ((w.alloc (.cells #[.int .i64 r, .int .i64 l] 45)).alloc (.cells #[.int .i64 wd, .int .i64 h] 47)).alloc (.cells #[.int .i64 0, .int .i64 0] 45) = W := ⟨_, rfl⟩
  have hb2 : Below w.heap.size w W := by rw [← hWd]; exact (((Below.refl _ _).alloc (Nat.le_refl _) _).alloc (by simp) _).alloc (by simp; omega) _
  have hY0 : W.heap[w.heap.size + 1 + 1]? = some (.cells #[.int .i64 0, .int .i64 0] 45 (0, 0)) := by
    rw [← hWd]
    have := heap_alloc_new ((w.alloc (.cells #[.int .i64 r, .int .i64 l] 45)).alloc (.cells #[.int .i64 wd, .int .i64 h] 47)) (.cells #[.int .i64 0, .int .i64 0] 45)
    rw [show ((w.alloc (.cells #[.int .i64 r, .int .i64 l] 45)).alloc (.cells #[.int .i64 wd, .int .i64 h] 47)).heap.size = w.heap.size + 1 + 1 by simp] at this
    exact this
  have HC := hide (checkNext_any r l wd h p v T v1 W (he.out.later hb2))
  rw [hk] at HC
  unfold bandV at HC ⊢
  have HY0 := hide hY0; have HBW := hide hb2; have HWd := hide hWd
  clear hb2 hY0 hWd hk
  go_enter Tryd.func26, Tryd.ntmps26
  go_wp2_with fail
  rw [HWd.out]
  clear HWd
  refine HC.out.mono ?_
  rintro e w2 ⟨rfl, hb2⟩
  have HB : Hid (Below w.heap.size w w2) := HBW.out.trans (hb2.mono HBW.out.size)
  have hY : w2.heap[w.heap.size + 1 + 1]? = some (.cells #[.int .i64 0, .int .i64 0] 45 (0, 0)) := by rw [hb2.block _ (Array.getElem?_eq_some_iff.1 HY0.out).1]; exact HY0.out
  have y0 : w2.cell? ⟨w.heap.size + 1 + 1, 0, none⟩ = some (.int .i64 0) := by rw [cell_of_row w2 _ 0 _ _ _ hY]; rfl
  have y1 : w2.cell? ⟨w.heap.size + 1 + 1, 1, none⟩ = some (.int .i64 0) := by rw [cell_of_row w2 _ 1 _ _ _ hY]; rfl
  have z0 : w2.frozen? ⟨w.heap.size + 1 + 1, 0, none⟩ = false := by simp [World.frozen?, hY]
  have z1 : w2.frozen? ⟨w.heap.size + 1 + 1, 1, none⟩ = false := by simp [World.frozen?, hY]
  clear hb2 HC HBW HY0 hY
  simp only [okE, if_neg Bool.false_ne_true]
  go_wp2
  exact bodyPost_ret (v := .tuple #[.agg #[.int .i64 0, .int .i64 0], .bool false, .iface T v1]) (by simp [results, Tryd.results26, go_sem, y0, y1]) rfl ⟨rfl, (HB.out.setCell (by simp; omega) _).setCell (by simp; omega) _⟩

set_option maxHeartbeats 2000000 in
theorem next_ok (r l wd h p v : Int) (T : TypeId) (v1 : Value) (w : World) (he : Hid (BEr w T v1)) (hk : (Bd.bOk r l && (Bd.rOk wd h && Bd.vOk p v)) = true) :
    Calls Tryd.prog 26 #[bandV r l, bandV wd h, .int .i64 p, .int .i64 v] w fun e w' => e = .returned (nextV r l wd h p v) ∧ Below w.heap.size w w' := by
  obtain ⟨W, hWd⟩ : ∃ W, ((w.alloc (.cells #[.int .i64 r, .int .i64 l] 45)).alloc (.cells #[.int .i64 wd, .int .i64 h] 47)).alloc (.cells #[.int .i64 0, .int .i64 0] 45) = W := ⟨_, rfl⟩
  have hb2 : Below w.heap.size w W := by rw [← hWd]; exact (((Below.refl _ _).alloc (Nat.le_refl _) _).alloc (by simp) _).alloc (by simp; omega) _
  have hX0 : W.heap[w.heap.size]? = some (.cells #[.int .i64 r, .int .i64 l] 45 (0, 0)) := by
    rw [← hWd]
    exact (Below.heap_alloc _ _ _ (by simp; omega)).trans ((Below.heap_alloc _ _ _ (by simp)).trans (heap_alloc_new _ _))
  have hU0 : W.heap[w.heap.size + 1]? = some (.cells #[.int .i64 wd, .int .i64 h] 47 (0, 0)) := by
    rw [← hWd]
    refine (Below.heap_alloc _ _ _ (by simp)).trans ?_
    have := heap_alloc_new (w.alloc (.cells #[.int .i64 r, .int .i64 l] 45)) (.cells #[.int .i64 wd, .int .i64 h] 47)
    rw [show (w.alloc (.cells #[.int .i64 r, .int .i64 l] 45)).heap.size = w.heap.size + 1 by simp] at this
    exact this
  have hY0 : W.heap[w.heap.size + 1 + 1]? = some (.cells #[.int .i64 0, .int .i64 0] 45 (0, 0)) := by
    rw [← hWd]
    have := heap_alloc_new ((w.alloc (.cells #[.int .i64 r, .int .i64 l] 45)).alloc (.cells #[.int .i64 wd, .int .i64 h] 47)) (.cells #[.int .i64 0, .int .i64 0] 45)
    rw [show ((w.alloc (.cells #[.int .i64 r, .int .i64 l] 45)).alloc (.cells #[.int .i64 wd, .int .i64 h] 47)).heap.size = w.heap.size + 1 + 1 by simp] at this
    exact this
  have HC := hide (checkNext_any r l wd h p v T v1 W (he.out.later hb2))
  rw [hk] at HC
  have hk' : ((1 ≤ r ∧ r ≤ 1000) ∧ 0 ≤ l ∧ l ≤ 1000) ∧ ((0 ≤ wd ∧ wd ≤ 100) ∧ 1 ≤ h ∧ h ≤ 1000) ∧ 0 ≤ v ∧ (v ≤ 0 ∨ 1 ≤ p ∧ p ≤ 1000) := by
    simpa [Bd.bOk, Bd.rOk, Bd.vOk, Wi.withinB] using hk
  obtain ⟨⟨⟨r1, r2⟩, l1, l2⟩, ⟨⟨wd1, wd2⟩, h1, h2⟩, vv1, vv2⟩ := hk'
  unfold bandV at HC ⊢
  have HX0 := hide hX0; have HU0 := hide hU0; have HY0 := hide hY0; have HBW := hide hb2; have HWd := hide hWd
  clear hb2 hX0 hU0 hY0 hWd hk
  go_enter Tryd.func26, Tryd.ntmps26
  go_wp2_with fail
  rw [HWd.out]
  clear HWd
  refine HC.out.mono ?_
  rintro e w2 ⟨rfl, hb2⟩
  have HB : Hid (Below w.heap.size w w2) := HBW.out.trans (hb2.mono HBW.out.size)
  have hX : w2.heap[w.heap.size]? = some (.cells #[.int .i64 r, .int .i64 l] 45 (0, 0)) := by rw [hb2.block _ (Array.getElem?_eq_some_iff.1 HX0.out).1]; exact HX0.out
  have hU : w2.heap[w.heap.size + 1]? = some (.cells #[.int .i64 wd, .int .i64 h] 47 (0, 0)) := by rw [hb2.block _ (Array.getElem?_eq_some_iff.1 HU0.out).1]; exact HU0.out
  have hY : w2.heap[w.heap.size + 1 + 1]? = some (.cells #[.int .i64 0, .int .i64 0] 45 (0, 0)) := by rw [hb2.block _ (Array.getElem?_eq_some_iff.1 HY0.out).1]; exact HY0.out
  have HX := hide hX; have HU := hide hU; have HY := hide hY
  clear hb2 HC HBW HX0 HU0 HY0 hX hU hY
  obtain ⟨B, hB⟩ : ∃ B, w.heap.size = B := ⟨_, rfl⟩
  rw [hB] at HX HU HY ⊢
  have HBe := hide hB
  clear hB
  have x0 : w2.cell? ⟨B, 0, none⟩ = some (.int .i64 r) := by rw [cell_of_row w2 _ 0 _ _ _ HX.out]; rfl
  have x1 : w2.cell? ⟨B, 1, none⟩ = some (.int .i64 l) := by rw [cell_of_row w2 _ 1 _ _ _ HX.out]; rfl
  have u0 : w2.cell? ⟨B + 1, 0, none⟩ = some (.int .i64 wd) := by rw [cell_of_row w2 _ 0 _ _ _ HU.out]; rfl
  have u1 : w2.cell? ⟨B + 1, 1, none⟩ = some (.int .i64 h) := by rw [cell_of_row w2 _ 1 _ _ _ HU.out]; rfl
  simp only [okE, if_pos]
  have HBB : Hid (∀ W : World, Below w.heap.size w W → ∀ (q1 q2 : Addr) (x1 x2 : Value), B ≤ q1.block → B ≤ q2.block → Below w.heap.size w ((W.setCell q1 x1).setCell q2 x2)) := fun W hb q1 q2 x1 x2 g1 g2 =>
    (hb.setCell (by rw [HBe.out]; exact g1) _).setCell (by rw [HBe.out]; exact g2) _
  by_cases hl : 0 < l
  · have HG := hide (fun W => goOn_any r l p (decide (0 < v)) W hl l2)
    unfold bandV at HG
    have hans : nextV r l wd h p v = .tuple #[.agg #[.int .i64 (if l = 1 ∧ decide (0 < v) = true then p else r), .int .i64 (l - 1)], .bool false, .nilIface] := by
      simp [nextV, bandV, Bd.nR, Bd.nL, Bd.nO, hl]
    have HAN := hide hans
    clear hans
    generalize (if l = 1 ∧ decide (0 < v) = true then p else r) = nr at HG HAN
    have HN := HAN
    by_cases hv : 0 < v
    all_goals
      first | (have hvd : decide (0 < v) = true := by simpa using hv
               rw [hvd] at HG) | (have hvd : decide (0 < v) = false := by simpa using hv
                                  rw [hvd] at HG)
      go_wp2_with fail
      refine (HG.out _).mono ?_
      rintro e w3 ⟨rfl, hb3⟩
      have HB3 : Hid (Below w.heap.size w w3) := HB.out.trans (hb3.mono HB.out.size)
      have hY : w3.heap[B + 1 + 1]? = some (.cells #[.int .i64 0, .int .i64 0] 45 (0, 0)) := by rw [hb3.block _ (Array.getElem?_eq_some_iff.1 HY.out).1]; exact HY.out
      have y0 : w3.cell? ⟨B + 1 + 1, 0, none⟩ = some (.int .i64 0) := by rw [cell_of_row w3 _ 0 _ _ _ hY]; rfl
      have y1 : w3.cell? ⟨B + 1 + 1, 1, none⟩ = some (.int .i64 0) := by rw [cell_of_row w3 _ 1 _ _ _ hY]; rfl
      have z0 : w3.frozen? ⟨B + 1 + 1, 0, none⟩ = false := by simp [World.frozen?, hY]
      have z1 : w3.frozen? ⟨B + 1 + 1, 1, none⟩ = false := by simp [World.frozen?, hY]
      clear hb3 HG x0 x1 u0 u1 hY HX HU HY HB
      simp only []
      go_wp2
      exact bodyPost_ret (v := .tuple #[.agg #[.int .i64 nr, .int .i64 (l - 1)], .bool false, .nilIface]) (by simp [results, Tryd.results26, go_sem, y0, y1]) rfl ⟨by rw [HAN.out], HBB.out _ HB3.out _ _ _ _ (by simp; omega) (by simp; omega)⟩
  · obtain rfl : l = 0 := by omega
    have hy0 : w2.cell? ⟨B + 1 + 1, 0, none⟩ = some (.int .i64 0) := by rw [cell_of_row w2 _ 0 _ _ _ HY.out]; rfl
    by_cases hv : 0 < v
    · have hvd : decide (0 < v) = true := by simpa using hv
      have hp : 1 ≤ p ∧ p ≤ 1000 := by omega
      have HG := hide (fun W => ruleIn_any wd h r p W r1 r2 wd1 wd2 hp.1 hp.2)
      unfold bandV at HG
      cases hin : Bd.inB wd r p with
      | false =>
        have hans : nextV r 0 wd h p v = .tuple #[.agg #[.int .i64 r, .int .i64 h], .bool false, .nilIface] := by
          simp [nextV, bandV, Bd.nR, Bd.nL, Bd.nO, hin, hv]
        have HAN := hide hans
        rw [hin] at HG
        clear hans hin
        go_wp2_with fail
        refine (HG.out _).mono ?_
        rintro e w3 ⟨rfl, hb3⟩
        have HB3 : Hid (Below w.heap.size w w3) := HB.out.trans (hb3.mono HB.out.size)
        have hX : w3.heap[B]? = some (.cells #[.int .i64 r, .int .i64 0] 45 (0, 0)) := by rw [hb3.block _ (Array.getElem?_eq_some_iff.1 HX.out).1]; exact HX.out
        have hU : w3.heap[B + 1]? = some (.cells #[.int .i64 wd, .int .i64 h] 47 (0, 0)) := by rw [hb3.block _ (Array.getElem?_eq_some_iff.1 HU.out).1]; exact HU.out
        have hY : w3.heap[B + 1 + 1]? = some (.cells #[.int .i64 0, .int .i64 0] 45 (0, 0)) := by rw [hb3.block _ (Array.getElem?_eq_some_iff.1 HY.out).1]; exact HY.out
        clear x0 x1 u0 u1 hy0
        have x0 : w3.cell? ⟨B, 0, none⟩ = some (.int .i64 r) := by rw [cell_of_row w3 _ 0 _ _ _ hX]; rfl
        have x1 : w3.cell? ⟨B, 1, none⟩ = some (.int .i64 0) := by rw [cell_of_row w3 _ 1 _ _ _ hX]; rfl
        have u1 : w3.cell? ⟨B + 1, 1, none⟩ = some (.int .i64 h) := by rw [cell_of_row w3 _ 1 _ _ _ hU]; rfl
        have y0 : w3.cell? ⟨B + 1 + 1, 0, none⟩ = some (.int .i64 0) := by rw [cell_of_row w3 _ 0 _ _ _ hY]; rfl
        have y1 : w3.cell? ⟨B + 1 + 1, 1, none⟩ = some (.int .i64 0) := by rw [cell_of_row w3 _ 1 _ _ _ hY]; rfl
        have z0 : w3.frozen? ⟨B + 1 + 1, 0, none⟩ = false := by simp [World.frozen?, hY]
        have z1 : w3.frozen? ⟨B + 1 + 1, 1, none⟩ = false := by simp [World.frozen?, hY]
        have f0 : w3.frozen? ⟨B, 0, none⟩ = false := by simp [World.frozen?, hX]
        have f1 : w3.frozen? ⟨B, 1, none⟩ = false := by simp [World.frozen?, hX]
        clear hb3 HG hX hU hY HX HU HY HB
        simp only []
        go_wp2
        exact bodyPost_ret (v := .tuple #[.agg #[.int .i64 r, .int .i64 h], .bool false, .nilIface]) (by simp [results, Tryd.results26, go_sem, y0, y1]) rfl ⟨by rw [HAN.out], HBB.out _ (HB3.out.setCell (by rw [HBe.out]; exact Nat.le_refl _) _) _ _ _ _ (by simp; omega) (by simp; omega)⟩
      | true =>
        have hans : nextV r 0 wd h p v = .tuple #[.agg #[.int .i64 p, .int .i64 0], .bool true, .nilIface] := by
          simp [nextV, bandV, Bd.nR, Bd.nL, Bd.nO, hin, hv]
        have HAN := hide hans
        rw [hin] at HG
        clear hans hin
        go_wp2_with fail
        refine (HG.out _).mono ?_
        rintro e w3 ⟨rfl, hb3⟩
        have HB3 : Hid (Below w.heap.size w w3) := HB.out.trans (hb3.mono HB.out.size)
        have hX : w3.heap[B]? = some (.cells #[.int .i64 r, .int .i64 0] 45 (0, 0)) := by rw [hb3.block _ (Array.getElem?_eq_some_iff.1 HX.out).1]; exact HX.out
        have hU : w3.heap[B + 1]? = some (.cells #[.int .i64 wd, .int .i64 h] 47 (0, 0)) := by rw [hb3.block _ (Array.getElem?_eq_some_iff.1 HU.out).1]; exact HU.out
        have hY : w3.heap[B + 1 + 1]? = some (.cells #[.int .i64 0, .int .i64 0] 45 (0, 0)) := by rw [hb3.block _ (Array.getElem?_eq_some_iff.1 HY.out).1]; exact HY.out
        clear x0 x1 u0 u1 hy0
        have x0 : w3.cell? ⟨B, 0, none⟩ = some (.int .i64 r) := by rw [cell_of_row w3 _ 0 _ _ _ hX]; rfl
        have x1 : w3.cell? ⟨B, 1, none⟩ = some (.int .i64 0) := by rw [cell_of_row w3 _ 1 _ _ _ hX]; rfl
        have u1 : w3.cell? ⟨B + 1, 1, none⟩ = some (.int .i64 h) := by rw [cell_of_row w3 _ 1 _ _ _ hU]; rfl
        have y0 : w3.cell? ⟨B + 1 + 1, 0, none⟩ = some (.int .i64 0) := by rw [cell_of_row w3 _ 0 _ _ _ hY]; rfl
        have y1 : w3.cell? ⟨B + 1 + 1, 1, none⟩ = some (.int .i64 0) := by rw [cell_of_row w3 _ 1 _ _ _ hY]; rfl
        have z0 : w3.frozen? ⟨B + 1 + 1, 0, none⟩ = false := by simp [World.frozen?, hY]
        have z1 : w3.frozen? ⟨B + 1 + 1, 1, none⟩ = false := by simp [World.frozen?, hY]
        have f0 : w3.frozen? ⟨B, 0, none⟩ = false := by simp [World.frozen?, hX]
        have f1 : w3.frozen? ⟨B, 1, none⟩ = false := by simp [World.frozen?, hX]
        clear hb3 HG hX hU hY HX HU HY HB
        simp only []
        go_wp2
        exact bodyPost_ret (v := .tuple #[.agg #[.int .i64 p, .int .i64 0], .bool true, .nilIface]) (by simp [results, Tryd.results26, go_sem, y0, y1]) rfl ⟨by rw [HAN.out], HBB.out _ (HB3.out.setCell (by rw [HBe.out]; exact Nat.le_refl _) _) _ _ _ _ (by simp; omega) (by simp; omega)⟩
    · have hvd : decide (0 < v) = false := by simpa using hv
      have hans : nextV r 0 wd h p v = .tuple #[.agg #[.int .i64 r, .int .i64 0], .bool true, .nilIface] := by
        simp [nextV, bandV, Bd.nR, Bd.nL, Bd.nO, hv]
      have HAN := hide hans
      have y1 : w2.cell? ⟨B + 1 + 1, 1, none⟩ = some (.int .i64 0) := by rw [cell_of_row w2 _ 1 _ _ _ HY.out]; rfl
      have z0 : w2.frozen? ⟨B + 1 + 1, 0, none⟩ = false := by simp [World.frozen?, HY.out]
      have z1 : w2.frozen? ⟨B + 1 + 1, 1, none⟩ = false := by simp [World.frozen?, HY.out]
      clear hans
      go_wp2
      exact bodyPost_ret (v := .tuple #[.agg #[.int .i64 r, .int .i64 0], .bool true, .nilIface]) (by simp [results, Tryd.results26, go_sem, hy0, y1]) rfl ⟨by rw [HAN.out], HBB.out _ HB.out _ _ _ _ (by simp; omega) (by simp; omega)⟩
end Go.Proofs.YtomiebjfpfddhaaDoor
