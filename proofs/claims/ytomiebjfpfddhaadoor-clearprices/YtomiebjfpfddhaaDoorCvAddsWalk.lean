/- Check of lots that are well, and of others; what the calls of package curve answer. -/
import Derived.Test.YtomiebjfpfddhaaDoorCvOwn
namespace Go.Proofs.YtomiebjfpfddhaaDoor
open Go.RowKit
set_option maxRecDepth 100000

theorem check_well (v : Value) (l : List Cv.Lot) (T : TypeId) (v1 v6 v7 : Value) (w : World) (hv : Lots w v l) (he : Hid (Er w T v1 v6 v7)) (hok : Cv.Well l) :
    Calls Tryd.prog 24 #[v] w fun e w' => e = .returned .nilIface ∧ Below w.heap.size w w' := by
  rcases hv with ⟨rfl, a, cap, rfl⟩ | ⟨b, off, cap, rfl, hcap, hl⟩
  · refine (check_none cap a w).mono ?_
    rintro e w' ⟨rfl, rfl⟩
    exact ⟨rfl, Below.refl _ _⟩
  · exact check_fine' b off cap _ l T v1 v6 v7 w rfl hcap hl he hok
theorem check_ill (v : Value) (l : List Cv.Lot) (T : TypeId) (v1 v6 v7 : Value) (w : World) (hv : Lots w v l) (he : Hid (Er w T v1 v6 v7)) (hbad : ¬ Cv.Well l) :
    Calls Tryd.prog 24 #[v] w fun e w' => (∃ U x, e = .returned (.iface U x)) ∧ Below w.heap.size w w' := by
  rcases hv with ⟨rfl, a, cap, rfl⟩ | ⟨b, off, cap, rfl, hcap, hl⟩
  · exact absurd Cv.well_nil hbad
  · exact check_bad b off cap _ l T v1 v6 v7 w rfl hcap hl he hbad
/-- what the calls of package curve answer of lots that are well, wherever they are made behind w -/
structure Tells (w : World) (v : Value) (p d s : Int) : Prop where
  dem : ∀ W, Below w.heap.size w W → Calls Tryd.prog 22 #[v, .int .i64 p] W fun e w' => e = .returned (.int .i64 d) ∧ Below W.heap.size W w'
  sup : ∀ W, Below w.heap.size w W → Calls Tryd.prog 23 #[v, .int .i64 p] W fun e w' => e = .returned (.int .i64 s) ∧ Below W.heap.size W w'
  vol : ∀ W, Below w.heap.size w W → Calls Tryd.prog 19 #[v, .int .i64 p] W fun e w' => e = .returned (.int .i64 (min d s)) ∧ Below W.heap.size W w'
  sur : ∀ W, Below w.heap.size w W → Calls Tryd.prog 21 #[v, .int .i64 p] W fun e w' => e = .returned (.int .i64 (d - s)) ∧ Below W.heap.size W w'
theorem tells_of {v : Value} {l : List Cv.Lot} {T : TypeId} {v1 v6 v7 : Value} {w : World} (p : Int) (hv : Lots w v l) (he : Er w T v1 v6 v7) (hok : Cv.Well l) : Tells w v p (Cv.demand l p) (Cv.supply l p) :=
  ⟨fun W hb => demand_any v l p T v1 v6 v7 W (hv.later hb) (he.later hb) hok, fun W hb => supply_any v l p T v1 v6 v7 W (hv.later hb) (he.later hb) hok,
   fun W hb => volume_any v l p T v1 v6 v7 W (hv.later hb) (he.later hb) hok, fun W hb => surplus_any v l p T v1 v6 v7 W (hv.later hb) (he.later hb) hok⟩

end Go.Proofs.YtomiebjfpfddhaaDoor
