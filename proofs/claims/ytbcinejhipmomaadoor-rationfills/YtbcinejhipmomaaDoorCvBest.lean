/- Volume, Surplus, Best and Cross by their contracts, of any lots. -/
import Derived.Test.YtbcinejhipmomaaDoorCvSums
namespace Go.Proofs.YtbcinejhipmomaaDoor
open Go.RowKit
set_option maxRecDepth 100000

theorem Lots.form {w : World} {v : Value} {l : List Cv.Lot} (h : Lots w v l) : ∃ a n cap, v = .slice a n cap := by
  rcases h with ⟨_, a, cap, rfl⟩ | ⟨b, off, cap, rfl, _⟩
  · exact ⟨_, _, _, rfl⟩
  · exact ⟨_, _, _, rfl⟩

set_option maxHeartbeats 400000 in
theorem volume_of (a : Option Addr) (n cap : Nat) (p d s : Int) (w : World)
    (hd : Hid (Calls Tryd.prog 19 #[.slice a n cap, .int .i64 p] w fun e w' => e = .returned (.int .i64 d) ∧ Below w.heap.size w w'))
    (hs : Hid (∀ w1, Below w.heap.size w w1 → Calls Tryd.prog 20 #[.slice a n cap, .int .i64 p] w1 fun e w' => e = .returned (.int .i64 s) ∧ Below w1.heap.size w1 w')) :
    Calls Tryd.prog 60 #[.slice a n cap, .int .i64 p] w fun e w' => e = .returned (.int .i64 (min d s)) ∧ Below w.heap.size w w' := by
  go_enter Tryd.func60, Tryd.ntmps60
  go_wp2_with fail
  refine hd.out.mono ?_
  rintro e w1 ⟨rfl, hb1⟩
  have HB1 := hide hb1
  clear hb1
  simp only []
  go_wp2_with fail
  refine (hs.out _ HB1.out).mono ?_
  rintro e w2 ⟨rfl, hb2⟩
  have HB2 := hide (HB1.out.trans (hb2.mono HB1.out.size))
  clear hb2
  simp only []
  go_wp2
  all_goals go_ret
  all_goals exact ⟨ret_int (by omega), HB2.out⟩

theorem Cv.demand_range (l : List Cv.Lot) (p : Int) (h : Cv.Well l) : 0 ≤ Cv.demand l p ∧ Cv.demand l p ≤ 120000 := by
  have := Cv.sumIf_bounds (Cv.dB p) l h.oks
  have h2 := h.1
  unfold Cv.demand
  omega
theorem Cv.supply_range (l : List Cv.Lot) (p : Int) (h : Cv.Well l) : 0 ≤ Cv.supply l p ∧ Cv.supply l p ≤ 120000 := by
  have := Cv.sumIf_bounds (Cv.sB p) l h.oks
  have h2 := h.1
  unfold Cv.supply
  omega

theorem volume_any (v : Value) (l : List Cv.Lot) (p : Int) (T : TypeId) (v1 v6 v7 : Value) (w : World) (hv : Lots w v l) (he : Hid (Er w T v1 v6 v7)) (hok : Cv.Well l) :
    Calls Tryd.prog 60 #[v, .int .i64 p] w fun e w' => e = .returned (.int .i64 (Cv.volume l p)) ∧ Below w.heap.size w w' := by
  obtain ⟨a, n, cap, rfl⟩ := hv.form
  exact volume_of a n cap p _ _ w (demand_any _ l p T v1 v6 v7 w hv he hok) (fun w1 hb => supply_any _ l p T v1 v6 v7 w1 (hv.later hb) (he.out.later hb) hok)
theorem volume_bad (v : Value) (l : List Cv.Lot) (p : Int) (T : TypeId) (v1 v6 v7 : Value) (w : World) (hv : Lots w v l) (he : Hid (Er w T v1 v6 v7)) (hbad : ¬ Cv.Well l) :
    Calls Tryd.prog 60 #[v, .int .i64 p] w fun e w' => e = .returned (.int .i64 0) ∧ Below w.heap.size w w' := by
  obtain ⟨a, n, cap, rfl⟩ := hv.form
  exact volume_of a n cap p 0 0 w (demand_bad _ l p T v1 v6 v7 w hv he hbad) (fun w1 hb => supply_bad _ l p T v1 v6 v7 w1 (hv.later hb) (he.out.later hb) hbad)
end Go.Proofs.YtbcinejhipmomaaDoor
