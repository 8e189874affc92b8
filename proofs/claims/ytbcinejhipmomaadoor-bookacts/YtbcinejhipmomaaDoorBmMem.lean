/- The document's book in memory. -/
import Derived.Test.YtbcinejhipmomaaDoorBkActs1
namespace Go.Proofs.YtbcinejhipmomaaDoor
open Go.RowKit
set_option maxRecDepth 100000

/-- a book at a block: the slice that its cell holds, the lots behind it -/
structure MBook (w : World) (base p : Nat) (v : Value) (l : List Cv.Lot) : Prop where
  cell : w.heap[p]? = some (.cells #[v] 64 (0, 0))
  lo : base ≤ p
  row : w.ownsRow base 43 5 v l.length (flat l)
theorem MBook.ne {w : World} {base p : Nat} {v : Value} {l : List Cv.Lot} (h : MBook w base p v l) : v.ownBlock ≠ some p := by
  intro e
  rcases h.row.2 with ⟨e1, _⟩ | ⟨r, cap, cur, e1, _, hr, _⟩
  · rw [e1] at e; cases e
  · rw [e1] at e
    have : r = p := by simpa [Value.ownBlock] using e
    rw [this, h.cell] at hr
    cases hr
theorem MBook.lt {w : World} {base p : Nat} {v : Value} {l : List Cv.Lot} (h : MBook w base p v l) : p < w.heap.size := lt_of_block h.cell
theorem MBook.rowLt {w : World} {base p : Nat} {v : Value} {l : List Cv.Lot} (h : MBook w base p v l) : ∀ k, v.ownBlock = some k → base ≤ k ∧ k < w.heap.size := h.row.lt
theorem MBook.only {w w' : World} {a b : Option Nat} {base p : Nat} {v : Value} {l : List Cv.Lot} (h : MBook w base p v l) (ho : Only w w' a b) (h1 : some p ≠ a) (h2 : some p ≠ b) (h3 : ∀ k, v.ownBlock = some k → some k ≠ a) (h4 : ∀ k, v.ownBlock = some k → some k ≠ b) : MBook w' base p v l :=
  ⟨by rw [ho.block p h.lt h1 h2]; exact h.cell, h.lo, row_only h.row ho h3 h4⟩
theorem MBook.later {w w' : World} {base p : Nat} {v : Value} {l : List Cv.Lot} (h : MBook w base p v l) (hb : Below w.heap.size w w') : MBook w' base p v l :=
  h.only (Only.of_below hb none none) (by simp) (by simp) (fun _ _ => by simp) (fun _ _ => by simp)
theorem MBook.form {w : World} {base p : Nat} {v : Value} {l : List Cv.Lot} (h : MBook w base p v l) : (v = .slice none 0 0 ∧ l = []) ∨ ∃ g cap, v = .slice (some ⟨g, 0, none⟩) l.length cap ∧ l.length ≤ cap ∧ base ≤ g ∧ LotsAt w g 0 l := by
  rcases h.row.2 with ⟨e, e2⟩ | ⟨g, cap, cur, e, hg, hgg, hle, _, _, _⟩
  · exact .inl ⟨e, List.eq_nil_of_length_eq_zero e2⟩
  · refine .inr ⟨g, cap, e, hle, hg, lotsAt_of_flat fun j u hu => ?_⟩
    have := World.ownsRow.cells h.row (g := g) (by rw [e]; rfl) j u hu
    have hp : (⟨g, 0, none⟩ : Addr).add j = ⟨g, j, none⟩ := by unfold Addr.add; split <;> simp_all
    rwa [hp] at this

theorem Step.belowM {w w' : World} {base p : Nat} {v v' : Value} {l : List Cv.Lot} (h : Step w w' p v v') (hb : MBook w base p v l) (n : Nat) (hn : n ≤ base) : Below n w w' :=
  h.only.below (by have := hb.lo; have := hb.lt; omega) (fun k e => by cases e; have := hb.lo; omega) (fun k e => by have := (hb.rowLt k e).1; omega)

theorem MBook.set {w w2 : World} {base p : Nat} {v v' : Value} {l l' : List Cv.Lot} (h : MBook w base p v l) (hg : w.grownBy w2 v.ownBlock) (hr : w2.ownsRow base 43 5 v' l'.length (flat l')) (hn : ∀ k, v'.ownBlock = some k → v.ownBlock = some k ∨ w.heap.size ≤ k) :
    MBook (w2.setCell ⟨p, 0, none⟩ v') base p v' l' ∧ Step w (w2.setCell ⟨p, 0, none⟩ v') p v v' := by
  have hc : w2.heap[p]? = some (.cells #[v] 64 (0, 0)) := by rw [hg.block p h.lt (fun e => h.ne e.symm)]; exact h.cell
  have h3 : v'.ownBlock ≠ some p := by
    intro e
    rcases hr.2 with ⟨e1, _⟩ | ⟨r, cap, cur, e1, _, hr2, _⟩
    · rw [e1] at e; cases e
    · rw [e1] at e
      have : r = p := by simpa [Value.ownBlock] using e
      rw [this, hc] at hr2
      cases hr2
  refine ⟨⟨one_setCell hc, h.lo, ownsRow_setCell_other hr h3 _⟩, ⟨?_, hn⟩⟩
  exact (Only.of_grown hg (some p)).trans (Only.setCell w2 p 0 v' v.ownBlock) (fun k e => .inl e)
theorem MBook.openAt {w w2 : World} {base p : Nat} {v : Value} {l : List Cv.Lot} (h : MBook w base p v l) (hg : w.grownBy w2 v.ownBlock) : w2.cell? ⟨p, 0, none⟩ = some v ∧ w2.frozen? ⟨p, 0, none⟩ = false := by
  have hc : w2.heap[p]? = some (.cells #[v] 64 (0, 0)) := by rw [hg.block p h.lt (fun e => h.ne e.symm)]; exact h.cell
  exact ⟨cell_of_one hc, free_of_one hc⟩

theorem MBook.setOther {w : World} {base p b : Nat} {v : Value} {l : List Cv.Lot} (h : MBook w base p v l) (hp : b ≠ p) (hv : v.ownBlock ≠ some b) (o : Nat) (u : Value) : MBook (w.setCell ⟨b, o, none⟩ u) base p v l :=
  ⟨by rw [Below.heap_setCell _ _ _ _ (by show p ≠ b; omega)]; exact h.cell, h.lo, ownsRow_setCell_other h.row hv u⟩

end Go.Proofs.YtbcinejhipmomaaDoor
