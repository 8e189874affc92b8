/- A law for a walk, of every program: as Many, where two operations that turn the world may come in either order: the walk goes on both ways. -/
import Derived.Test.YtccjlddikinkiaaDoorMany
namespace Go.Proofs.YtccjlddikinkiaaDoor
open Go

inductive Plan where
  | done
  | read (i : Nat) (p : Plan)
  | one (i : Nat) (p : Plan)
  | two (i : Nat) (p : Plan) (j : Nat) (q : Plan)
def Plan.len : Plan → Nat
  | .done => 0
  | .read _ p => p.len + 1
  | .one _ p => p.len + 1
  | .two _ p _ _ => p.len + 1

section
variable {P : Program} {ops : Array Oper} {md : Region.Mode} {X : Type} {val : X → World}

def planB (md : Region.Mode) (ops : Array Oper) : Plan → Array Bool → Bool
  | .done, listed => (Region.ready md ops listed).isEmpty
  | .read i p, listed => (Region.ready md ops listed).contains i && Region.free md ops listed i && planB md ops p (listed.setIfInBounds i true)
  | .one i p, listed => (Region.ready md ops listed).contains i && (Region.ready md ops listed).all (· == i) && planB md ops p (listed.setIfInBounds i true)
  | .two i p j q, listed => (Region.ready md ops listed).contains i && (Region.ready md ops listed).all (fun k => k == i || k == j) && (p.len == q.len) && planB md ops p (listed.setIfInBounds i true) && planB md ops q (listed.setIfInBounds j true)

def spec (P : Program) (ops : Array Oper) (val : X → World) (i : Nat) (K : Act → World → Prop) (a : Act) (w : World) : Prop :=
  ∃ o, ops[i]? = some o ∧ Region.wanted o (yielded ops a.tmps) = true ∧ upM P (fun v w' => (∃ x, val x = w') ∧ K (a.put o.dst v) w') ((execOp a.eval o).run P w)
theorem spec_of {i : Nat} {K : Act → World → Prop} {a : Act} {w : World} {o : Oper} (ho : ops[i]? = some o) (hw : Region.wanted o (yielded ops a.tmps) = true) (h : upM P (fun v w' => (∃ x, val x = w') ∧ K (a.put o.dst v) w') ((execOp a.eval o).run P w)) : spec P ops val i K a w := ⟨o, ho, hw, h⟩
def walkP (P : Program) (ops : Array Oper) (val : X → World) (Q : Act → World → Prop) : Plan → Act → World → Prop
  | .done, a, w => Q a w
  | .read i p, a, w => ∃ o, ops[i]? = some o ∧ Region.wanted o (yielded ops a.tmps) = true ∧ ∃ v, (∀ x, isRd (val x) v ((execOp a.eval o).run P (val x))) ∧ walkP P ops val Q p (a.put o.dst v) w
  | .one i p, a, w => spec P ops val i (walkP P ops val Q p) a w
  | .two i p j q, a, w => spec P ops val i (walkP P ops val Q p) a w ∧ spec P ops val j (walkP P ops val Q q) a w
theorem walkP_done {Q : Act → World → Prop} {a : Act} {w : World} (h : Q a w) : walkP P ops val Q .done a w := h
theorem walkP_read {Q : Act → World → Prop} {i : Nat} {p : Plan} {a : Act} {w : World} {o : Oper} (ho : ops[i]? = some o)
    (h : ∀ K : Act → Prop, (∀ a, walkP P ops val Q p a w → K a) → Region.wanted o (yielded ops a.tmps) = true ∧ ∃ v, (∀ x, isRd (val x) v ((execOp a.eval o).run P (val x))) ∧ K (a.put o.dst v)) : walkP P ops val Q (.read i p) a w := by
  obtain ⟨h1, v, h2, h3⟩ := h _ (fun _ h => h)
  exact ⟨o, ho, h1, v, h2, h3⟩
theorem spec_step {i : Nat} {K0 : Act → World → Prop} {a : Act} {w : World} {o : Oper} (ho : ops[i]? = some o)
    (h : ∀ K : Act → World → Prop, (∀ a w, K0 a w → K a w) → Region.wanted o (yielded ops a.tmps) = true ∧ upM P (fun v w' => (∃ x, val x = w') ∧ K (a.put o.dst v) w') ((execOp a.eval o).run P w)) : spec P ops val i K0 a w := by
  obtain ⟨h1, h2⟩ := h _ (fun _ _ h => h)
  exact ⟨o, ho, h1, h2⟩

theorem headM_plan {Q : Act → World → Prop} (hsel : Region.noSelect ops = true) :
    ∀ (p : Plan) (listed : Array Bool) (a : Act) (x : X), planB md ops p listed = true → walkP P ops val Q p a (val x) → headM P md ops val Q p.len listed a (val x) := by
  intro p
  induction p with
  | done =>
    intro listed a x hB h
    exact ⟨by simpa [planB] using hB, h⟩
  | read i p ih =>
    intro listed a x hB h
    simp only [planB, Bool.and_eq_true] at hB
    obtain ⟨⟨hr, hf⟩, hB'⟩ := hB
    have hr' : i ∈ Region.ready md ops listed := by simpa using hr
    obtain ⟨o, ho, hw, v, hv, hK⟩ := h
    exact headM_first ho (Region.noSelect_spec hsel) p.len listed a x (Region.free_spec ho hf) hr' ⟨hw, hv⟩ (ih _ _ x hB' hK)
  | one i p ih =>
    intro listed a x hB h
    simp only [planB, Bool.and_eq_true] at hB
    obtain ⟨⟨hr, hf⟩, hB'⟩ := hB
    have hr' : i ∈ Region.ready md ops listed := by simpa using hr
    obtain ⟨o, ho, hw, h⟩ := h
    refine ⟨fun h0 => (by rw [h0] at hr'; cases hr'), fun j hj => ?_⟩
    have : j = i := by
      have := List.all_eq_true.1 hf j hj
      simpa using this
    subst this
    exact ⟨o, ho, hw, upM_mono (fun v w' ⟨⟨x', hx'⟩, h'⟩ => by subst hx'; exact ⟨⟨x', rfl⟩, ih _ _ x' hB' h'⟩) h⟩
  | two i p j q ihp ihq =>
    intro listed a x hB h
    simp only [planB, Bool.and_eq_true] at hB
    obtain ⟨⟨⟨⟨hr, hf⟩, hlen⟩, hBp⟩, hBq⟩ := hB
    have hl : p.len = q.len := by simpa using hlen
    have hr' : i ∈ Region.ready md ops listed := by simpa using hr
    obtain ⟨⟨o, ho, hw, h1⟩, ⟨o2, ho2, hw2, h2⟩⟩ := h
    refine ⟨fun h0 => (by rw [h0] at hr'; cases hr'), fun k hk => ?_⟩
    have : k = i ∨ k = j := by
      have := List.all_eq_true.1 hf k hk
      simpa using this
    rcases this with rfl | rfl
    · exact ⟨o, ho, hw, upM_mono (fun v w' ⟨⟨x', hx'⟩, h'⟩ => by subst hx'; exact ⟨⟨x', rfl⟩, ihp _ _ x' hBp h'⟩) h1⟩
    · exact ⟨o2, ho2, hw2, upM_mono (fun v w' ⟨⟨x', hx'⟩, h'⟩ => by
        subst hx'
        have := ihq _ _ x' hBq h'
        rw [← hl] at this
        exact ⟨⟨x', rfl⟩, this⟩) h2⟩

/-- THE LAW. -/
theorem region_plan {id : Nat} {Q : Exit → Act → World → Prop} {a : Act} {w : World} {l : List Oper} (p : Plan) (hm : P.follows .mixedOrders = true)
    (hB : (Region.noSelect l.toArray && (p.len == l.length) && planB .any l.toArray p (Array.replicate l.toArray.size false)) = true)
    (x0 : X) (hx0 : val x0 = { w with drawn := w.drawn + 1 })
    (h : walkP P l.toArray val (Q .normal) p a (val x0)) : (Code.region id l.toArray true).wp P Q a w := by
  simp only [Bool.and_eq_true, beq_iff_eq] at hB
  obtain ⟨⟨hsel, hlen⟩, hB⟩ := hB
  refine wp_region_any hm ?_
  have T := any_of_headM (Q' := Q) _ _ _ _ (headM_plan (md := .any) hsel p _ a x0 hB h)
  rw [hlen, hx0] at T
  simpa using T
end
end Go.Proofs.YtccjlddikinkiaaDoor
