/- banded, and the document's band, by their contracts. -/
import Derived.Test.YtomiebjfpfddhaaDoorBdNext
namespace Go.Proofs.YtomiebjfpfddhaaDoor
open Go.RowKit
set_option maxRecDepth 100000

set_option maxHeartbeats 1000000 in
theorem banded_any (T : TypeId) (v1 : Value) (w : World) (he : Hid (BEr w T v1)) :
    Calls Tryd.prog 25 #[] w fun e w' => e = .returned (.bool true) ∧ Below w.heap.size w w' := by
  have HN := hide (next_ok 100 0 10 2 120 5 T v1 w he (by decide))
  rw [show nextV 100 0 10 2 120 5 = .tuple #[.agg #[.int .i64 100, .int .i64 2], .bool false, .nilIface] by rfl] at HN
  unfold bandV at HN
  go_enter Tryd.func25, Tryd.ntmps25
  go_wp2_with fail
  refine HN.out.mono ?_
  rintro e w1 ⟨rfl, hb1⟩
  have HB : Hid (Below w.heap.size w (w1.alloc (.cells #[.int .i64 100, .int .i64 2] 45))) := hb1.alloc hb1.size _
  clear hb1 HN
  simp only []
  go_wp2
  go_ret
  exact ⟨rfl, HB.out⟩

def okN (b : Bool) : Int := if b = true then 0 else 2
set_option maxHeartbeats 2000000 in
theorem bandError_any (r l wd h : Int) (w : World) : Calls Tryd.prog 27 #[bandV r l, .int .i64 wd, .int .i64 h] w fun e w' => e = .returned (.int .i64 (okN (Bd.bOk r l && Bd.rOk wd h))) ∧ Below w.heap.size w w' := by
  show Calls Tryd.prog 27 #[.agg #[.int .i64 r, .int .i64 l], .int .i64 wd, .int .i64 h] w _
  have HB : Hid (Below w.heap.size w (w.alloc (.cells #[.int .i64 r, .int .i64 l] 51))) := (Below.refl _ _).alloc (Nat.le_refl _) _
  go_enter Tryd.func27, Tryd.ntmps27
  go_wp2
  all_goals go_ret
  all_goals
    refine ⟨ret_int ?_, HB.out⟩
    simp only [okN, Bd.bOk, Bd.rOk, Wi.withinB, Bool.and_eq_true, decide_eq_true_eq]
    split <;> first | rfl | omega | (exfalso; simp_all; done) | (exfalso; simp_all; omega)

theorem isWithin_any (wd r p : Int) (w : World) (h1 : 1 ≤ r) (h2 : r ≤ 1000) (h3 : 0 ≤ wd) (h4 : wd ≤ 100) (h5 : 1 ≤ p) (h6 : p ≤ 1000) :
    Calls Tryd.prog 33 #[.int .i64 wd, .int .i64 r, .int .i64 p] w fun e w' => e = .returned (.bool (Bd.inB wd r p)) ∧ w' = w := by
  have hp := prod_bounds h1 h2 h3 h4
  have w1 : IntKind.i64.wrap (r * wd) = r * wd := IntWalk.i64_in _ (by omega)
  by_cases hs : p - r < 0
  · go_enter Tryd.func33, Tryd.ntmps33
    go_wp2
    go_ret
    refine ⟨ret_bool ?_, rfl⟩
    rw [Bd.inB, show Cv.size (p - r) = -(p - r) by unfold Cv.size; omega]
  · go_enter Tryd.func33, Tryd.ntmps33
    go_wp2
    go_ret
    refine ⟨ret_bool ?_, rfl⟩
    rw [Bd.inB, show Cv.size (p - r) = p - r by unfold Cv.size; omega]
end Go.Proofs.YtomiebjfpfddhaaDoor
