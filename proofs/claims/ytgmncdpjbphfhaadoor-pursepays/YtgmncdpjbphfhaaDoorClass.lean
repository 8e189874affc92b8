/- A law for a walk, of every program: a region that draws its order and whose operations, in every world of a class, read one value, whose callees leave a world of the class. -/
import Derived.Test.YtgmncdpjbphfhaaDoorTail
namespace Go.Proofs.YtgmncdpjbphfhaaDoor
open Go

theorem region_quiet_class {P : Program} {X : Type} (val : X → World) {id : Nat} {Q : Exit → Act → World → Prop} {a : Act} {w : World} {l : List Oper} (hm : P.follows .mixedOrders = true) (hB : Region.lexB .any l.toArray = true)
    (x0 : X) (hx0 : val x0 = { w with drawn := w.drawn + 1 })
    (h : wpQuiet P l.toArray (fun w' => ∃ x, w' = val x) (fun a' => ∀ x, Q .normal a' (val x)) l a) : (Code.region id l.toArray true).wp P Q a w := by
  refine wp_region_quiet (C := fun w' => ∃ x, w' = val x) hm hB ⟨x0, hx0.symm⟩ ?_
  have hq : (fun a' : Act => ∀ w', (∃ x, w' = val x) → Q .normal a' w') = (fun a' => ∀ x, Q .normal a' (val x)) := by
    funext a'
    exact propext ⟨fun h x => h _ ⟨x, rfl⟩, fun h w' ⟨x, hx⟩ => hx ▸ h x⟩
  rw [hq]
  simpa using h
end Go.Proofs.YtgmncdpjbphfhaaDoor
