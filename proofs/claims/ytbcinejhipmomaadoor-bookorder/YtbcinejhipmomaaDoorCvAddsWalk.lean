/- The law CurveAdds, for all lots. -/
import Derived.Test.YtbcinejhipmomaaDoorCvOwn
namespace Go.Proofs.YtbcinejhipmomaaDoor
open Go.RowKit
set_option maxRecDepth 100000

theorem check_well (v : Value) (l : List Cv.Lot) (T : TypeId) (v1 v6 v7 : Value) (w : World) (hv : Lots w v l) (he : Hid (Er w T v1 v6 v7)) (hok : Cv.Well l) :
    Calls Tryd.prog 53 #[v] w fun e w' => e = .returned .nilIface ∧ Below w.heap.size w w' := by
  rcases hv with ⟨rfl, a, cap, rfl⟩ | ⟨b, off, cap, rfl, hcap, hl⟩
  · refine (check_none cap a w).mono ?_
    rintro e w' ⟨rfl, rfl⟩
    exact ⟨rfl, Below.refl _ _⟩
  · exact check_fine' b off cap _ l T v1 v6 v7 w rfl hcap hl he hok
theorem check_ill (v : Value) (l : List Cv.Lot) (T : TypeId) (v1 v6 v7 : Value) (w : World) (hv : Lots w v l) (he : Hid (Er w T v1 v6 v7)) (hbad : ¬ Cv.Well l) :
    Calls Tryd.prog 53 #[v] w fun e w' => (∃ U x, e = .returned (.iface U x)) ∧ Below w.heap.size w w' := by
  rcases hv with ⟨rfl, a, cap, rfl⟩ | ⟨b, off, cap, rfl, hcap, hl⟩
  · exact absurd Cv.well_nil hbad
  · exact check_bad b off cap _ l T v1 v6 v7 w rfl hcap hl he hbad
theorem Lots.take {w : World} {b off cap : Nat} {l : List Cv.Lot} (h : LotsAt w b off l) (hn : l.length ≤ cap) (k : Nat) (hk : k ≤ l.length) : Lots w (.slice (some ⟨b, off, none⟩) k cap) (l.take k) := by
  have e : (l.take k).length = k := by rw [List.length_take]; omega
  exact .inr ⟨b, off, cap, by rw [e], by rw [e]; omega, h.take k⟩
theorem Lots.drop {w : World} {b off cap : Nat} {l : List Cv.Lot} (h : LotsAt w b off l) (hn : l.length ≤ cap) (k : Nat) (hk : k ≤ l.length) : Lots w (.slice (some ⟨b, off + k * 5, none⟩) (l.length - k) (cap - k)) (l.drop k) := by
  exact .inr ⟨b, off + k * 5, cap - k, by rw [List.length_drop], by rw [List.length_drop]; omega, h.drop k⟩
end Go.Proofs.YtbcinejhipmomaaDoor
