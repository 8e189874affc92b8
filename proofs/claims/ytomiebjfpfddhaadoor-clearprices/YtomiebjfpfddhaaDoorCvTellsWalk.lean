/- What an error of Check is, later on. -/
import Derived.Test.YtomiebjfpfddhaaDoorCvFaulted
import Derived.Test.YtomiebjfpfddhaaDoorCvAddsWalk
import Derived.Deep.RegionWith
namespace Go.Proofs.YtomiebjfpfddhaaDoor
open Go.RowKit
set_option maxRecDepth 100000

theorem ErrIs.well {w : World} {ad : Nat → Addr} {l : List Cv.Lot} {x : Value} {c at_ : Int} (h : ErrIs w ad l x c at_) (hw : Cv.Well l) : c = 0 := by
  rcases h with ⟨h1, _⟩ | ⟨_, _, h, _⟩ | ⟨_, i, B, j, hi, _, hno, _⟩
  · have := hw.1; omega
  · exact h
  · rw [hw.2 i hi] at hno; cases hno
theorem ErrIs.ill {w : World} {ad : Nat → Addr} {l : List Cv.Lot} {x : Value} {c at_ : Int} (h : ErrIs w ad l x c at_) (hw : ¬ Cv.Well l) : 0 < c := by
  rcases h with ⟨_, _, h, _⟩ | ⟨h, _⟩ | ⟨_, i, B, j, _, _, _, _, h, _⟩
  · omega
  · exact absurd h hw
  · omega
theorem ErrIs.later {w w' : World} {ad : Nat → Addr} {l : List Cv.Lot} {x : Value} {c at_ : Int} (h : ErrIs w ad l x c at_) (hb : Below w.heap.size w w') : ErrIs w' ad l x c at_ := by
  rcases h with h | h | ⟨h1, i, B, j, g1, g2, g3, g4, g5, g6, g7, g8, g9, g10⟩
  · exact .inl h
  · exact .inr (.inl h)
  · exact .inr (.inr ⟨h1, i, B, j, g1, g2, g3, g4, g5, g6, g7, g8, cell_later hb g9, cell_later hb g10⟩)

end Go.Proofs.YtomiebjfpfddhaaDoor
