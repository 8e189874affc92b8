/- The document's next band, by its contract. -/
import Derived.Test.YtomiebjfpfddhaaDoorBdRef
namespace Go.Proofs.YtomiebjfpfddhaaDoor
open Go.RowKit
set_option maxRecDepth 100000

set_option maxHeartbeats 2000000 in
theorem nextBand_any (r l wd h p v : Int) (w : World) (hk : (Bd.bOk r l && (Bd.rOk wd h && Bd.vOk p v)) = true) :
    Calls Tryd.prog 31 #[bandV r l, .int .i64 wd, .int .i64 h, .int .i64 p, .int .i64 v] w fun e w' => e = .returned (.tuple #[bandV (Bd.nR r l wd p v) (Bd.nL r l wd h p v), .bool (Bd.nO r l wd p v)]) ∧ Below w.heap.size w w' := by
  have hk' : ((1 ≤ r ∧ r ≤ 1000) ∧ 0 ≤ l ∧ l ≤ 1000) ∧ ((0 ≤ wd ∧ wd ≤ 100) ∧ 1 ≤ h ∧ h ≤ 1000) ∧ 0 ≤ v ∧ (v ≤ 0 ∨ 1 ≤ p ∧ p ≤ 1000) := by
    simpa [Bd.bOk, Bd.rOk, Bd.vOk, Wi.withinB] using hk
  obtain ⟨⟨⟨r1, r2⟩, l1, l2⟩, ⟨⟨wd1, wd2⟩, h1, h2⟩, vv1, vv2⟩ := hk'
  clear hk
  have HA : Hid (∀ x y, Below w.heap.size w ((w.alloc x).alloc y)) := fun x y => ((Below.refl _ _).alloc (Nat.le_refl _) x).alloc (by simp) y
  have wl : IntKind.i64.wrap (l - 1) = l - 1 := IntWalk.i64_in _ (by omega)
  by_cases hl : 0 < l
  · by_cases hl1 : l = 1
    · subst hl1
      by_cases hv : 0 < v
      · rw [show Bd.nR r 1 wd p v = p by simp [Bd.nR, hv], show Bd.nL r 1 wd h p v = 0 by simp [Bd.nL], show Bd.nO r 1 wd p v = false by simp [Bd.nO]]
        unfold bandV
        go_enter Tryd.func31, Tryd.ntmps31
        go_wp2
        exact bodyPost_ret (v := .tuple #[.agg #[.int .i64 p, .int .i64 0], .bool false]) (by simp [results, Tryd.results31, go_sem]) rfl ⟨rfl, HA.out _ _⟩
      · rw [show Bd.nR r 1 wd p v = r by simp [Bd.nR, hv], show Bd.nL r 1 wd h p v = 0 by simp [Bd.nL], show Bd.nO r 1 wd p v = false by simp [Bd.nO]]
        unfold bandV
        go_enter Tryd.func31, Tryd.ntmps31
        go_wp2
        exact bodyPost_ret (v := .tuple #[.agg #[.int .i64 r, .int .i64 0], .bool false]) (by simp [results, Tryd.results31, go_sem]) rfl ⟨rfl, HA.out _ _⟩
    · have hl2 : ¬ l - 1 = 0 := by omega
      rw [show Bd.nR r l wd p v = r by simp [Bd.nR, hl, hl1], show Bd.nL r l wd h p v = l - 1 by simp [Bd.nL, hl], show Bd.nO r l wd p v = false by simp [Bd.nO, hl]]
      unfold bandV
      go_enter Tryd.func31, Tryd.ntmps31
      go_wp2
      exact bodyPost_ret (v := .tuple #[.agg #[.int .i64 r, .int .i64 (l - 1)], .bool false]) (by simp [results, Tryd.results31, go_sem]) rfl ⟨rfl, HA.out _ _⟩
  · obtain rfl : l = 0 := by omega
    by_cases hv : v = 0
    · subst hv
      rw [show Bd.nR r 0 wd p 0 = r by simp [Bd.nR], show Bd.nL r 0 wd h p 0 = 0 by simp [Bd.nL], show Bd.nO r 0 wd p 0 = true by simp [Bd.nO]]
      unfold bandV
      go_enter Tryd.func31, Tryd.ntmps31
      go_wp2
      exact bodyPost_ret (v := .tuple #[.agg #[.int .i64 r, .int .i64 0], .bool true]) (by simp [results, Tryd.results31, go_sem]) rfl ⟨rfl, HA.out _ _⟩
    · have hv0 : 0 < v := by omega
      have hp : 1 ≤ p ∧ p ≤ 1000 := by omega
      have HG := hide (fun W => isWithin_any wd r p W r1 r2 wd1 wd2 hp.1 hp.2)
      cases hin : Bd.inB wd r p with
      | false =>
        rw [show Bd.nR r 0 wd p v = r by simp [Bd.nR, hin], show Bd.nL r 0 wd h p v = h by simp [Bd.nL, hin, hv0], show Bd.nO r 0 wd p v = false by simp [Bd.nO, hin, hv0]]
        rw [hin] at HG
        clear hin
        unfold bandV
        go_enter Tryd.func31, Tryd.ntmps31
        go_wp2_with (go_at_call 33; refine (HG.out _).mono ?_; rintro e w' ⟨rfl, rfl⟩)
        exact bodyPost_ret (v := .tuple #[.agg #[.int .i64 r, .int .i64 h], .bool false]) (by simp [results, Tryd.results31, go_sem]) rfl ⟨rfl, HA.out _ _⟩
      | true =>
        rw [show Bd.nR r 0 wd p v = p by simp [Bd.nR, hin, hv0], show Bd.nL r 0 wd h p v = 0 by simp [Bd.nL, hin], show Bd.nO r 0 wd p v = true by simp [Bd.nO, hin]]
        rw [hin] at HG
        clear hin
        unfold bandV
        go_enter Tryd.func31, Tryd.ntmps31
        go_wp2_with (go_at_call 33; refine (HG.out _).mono ?_; rintro e w' ⟨rfl, rfl⟩)
        exact bodyPost_ret (v := .tuple #[.agg #[.int .i64 p, .int .i64 0], .bool true]) (by simp [results, Tryd.results31, go_sem]) rfl ⟨rfl, HA.out _ _⟩
end Go.Proofs.YtomiebjfpfddhaaDoor
