/- A law for a walk, of every program: as Fork, with what is so behind the region said once. -/
import Derived.Test.YtccjlddikinkiaaDoorFork
namespace Go.Proofs.YtccjlddikinkiaaDoor
open Go
section
variable {P : Program} {ops : Array Oper} {X : Type} {val : X → World}
theorem spec_mono {i : Nat} {K K' : Act → World → Prop} {a : Act} {w : World} (h : ∀ a w, K a w → K' a w) (hh : spec P ops val i K a w) : spec P ops val i K' a w := by
  obtain ⟨o, h1, h2, h3⟩ := hh
  exact ⟨o, h1, h2, upM_mono (fun v w' ⟨hx, hk⟩ => ⟨hx, h _ _ hk⟩) h3⟩
theorem walkP_mono {Q Q' : Act → World → Prop} (h : ∀ a w, Q a w → Q' a w) : ∀ (p : Plan) (a : Act) (w : World), walkP P ops val Q p a w → walkP P ops val Q' p a w := by
  intro p
  induction p with
  | done => intro a w hh; exact h a w hh
  | read i p ih =>
    intro a w hh
    obtain ⟨o, h1, h2, v, h3, h4⟩ := hh
    exact ⟨o, h1, h2, v, h3, ih _ _ h4⟩
  | one i p ih => intro a w hh; exact spec_mono (fun a w => ih a w) hh
  | two i p j q ihp ihq => intro a w hh; exact ⟨spec_mono (fun a w => ihp a w) hh.1, spec_mono (fun a w => ihq a w) hh.2⟩
/-- THE LAW. -/
theorem region_join {id : Nat} {Q : Exit → Act → World → Prop} {a : Act} {w : World} {l : List Oper} (Post : Act → World → Prop) (p : Plan) (hm : P.follows .mixedOrders = true)
    (hB : (Region.noSelect l.toArray && (p.len == l.length) && planB .any l.toArray p (Array.replicate l.toArray.size false)) = true)
    (x0 : X) (hx0 : val x0 = { w with drawn := w.drawn + 1 })
    (h : walkP P l.toArray val Post p a (val x0)) (hp : ∀ a w, Post a w → Q .normal a w) : (Code.region id l.toArray true).wp P Q a w :=
  region_plan p hm hB x0 hx0 (walkP_mono hp p a _ h)
theorem region_join1 {id : Nat} {Q : Exit → Act → World → Prop} {a : Act} {w : World} {l : List Oper} (G : Nat → World → Prop) (p : Plan) (hm : P.follows .mixedOrders = true)
    (hB : (Region.noSelect l.toArray && (p.len == l.length) && planB .any l.toArray p (Array.replicate l.toArray.size false)) = true)
    (x0 : X) (hx0 : val x0 = { w with drawn := w.drawn + 1 })
    (h : ∃ fr : Nat → Act, walkP P l.toArray val (fun a' w' => ∃ D, a' = fr D ∧ G D w') p a (val x0) ∧ ∀ D w', G D w' → Q .normal (fr D) w') : (Code.region id l.toArray true).wp P Q a w := by
  obtain ⟨fr, h1, h2⟩ := h
  exact region_join _ p hm hB x0 hx0 h1 (fun a' w' ⟨D, e, hg⟩ => by subst e; exact h2 D w' hg)
end
end Go.Proofs.YtccjlddikinkiaaDoor
