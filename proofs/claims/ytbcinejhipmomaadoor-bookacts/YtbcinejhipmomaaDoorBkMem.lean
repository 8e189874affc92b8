/- A book in memory: a cell that holds a slice, and the row of lots behind it; what it is behind a store, an append and a removal. -/
import Derived.Test.YtbcinejhipmomaaDoorCvOwn
import Derived.Test.YtbcinejhipmomaaDoorBkFacts
import Derived.OneCell
import Derived.Laws.IdiomCopy
namespace Go.Proofs.YtbcinejhipmomaaDoor
open Go.RowKit
set_option maxRecDepth 100000

/-- of the old blocks two may have turned, no other one -/
structure Only (w w' : World) (a b : Option Nat) : Prop where
  os : w'.os = w.os
  tape : w'.tape = w.tape
  output : w'.output = w.output
  size : w.heap.size ≤ w'.heap.size
  block : ∀ k, k < w.heap.size → some k ≠ a → some k ≠ b → w'.heap[k]? = w.heap[k]?
theorem Only.refl (w : World) (a b : Option Nat) : Only w w a b := ⟨rfl, rfl, rfl, Nat.le_refl _, fun _ _ _ _ => rfl⟩
theorem Only.of_below {w w' : World} (h : Below w.heap.size w w') (a b : Option Nat) : Only w w' a b := ⟨h.os, h.tape, h.output, h.size, fun k hk _ _ => h.block k hk⟩
theorem Only.of_grown {w w' : World} {r : Option Nat} (h : w.grownBy w' r) (a : Option Nat) : Only w w' a r := ⟨h.os, h.tape, h.output, h.size, fun k hk _ h2 => h.block k hk h2⟩
theorem Only.trans {w w1 w2 : World} {a b b1 : Option Nat} (h : Only w w1 a b) (h1 : Only w1 w2 a b1) (hb : ∀ k, b1 = some k → b = some k ∨ w.heap.size ≤ k) : Only w w2 a b :=
  ⟨h1.os.trans h.os, h1.tape.trans h.tape, h1.output.trans h.output, Nat.le_trans h.size h1.size, fun k hk ha hk2 => by
    rw [h1.block k (Nat.lt_of_lt_of_le hk h.size) ha (fun e => ?_)]
    · exact h.block k hk ha hk2
    · rcases hb k e.symm with h3 | h3
      · exact hk2 h3.symm
      · omega⟩
theorem Only.below {w w' : World} {a b : Option Nat} {n : Nat} (h : Only w w' a b) (hn : n ≤ w.heap.size) (ha : ∀ k, a = some k → n ≤ k) (hb : ∀ k, b = some k → n ≤ k) : Below n w w' :=
  ⟨h.os, h.tape, h.output, h.size, fun k hk => h.block k (by omega) (fun e => by have := ha k e.symm; omega) (fun e => by have := hb k e.symm; omega)⟩
theorem Only.cell {w w' : World} {a b : Option Nat} (h : Only w w' a b) {p : Addr} {v : Value} (hc : w.cell? p = some v) (ha : some p.block ≠ a) (hb : some p.block ≠ b) : w'.cell? p = some v :=
  (World.cell?_of_block (h.block p.block (World.block_lt_of_cell? w p hc) ha hb)).trans hc
theorem Only.setCell (w : World) (g o : Nat) (v : Value) (b : Option Nat) : Only w (w.setCell ⟨g, o, none⟩ v) (some g) b :=
  ⟨rfl, rfl, rfl, by simp, fun k _ ha _ => Below.heap_setCell _ _ _ _ (fun e => ha (by rw [e]))⟩
theorem Only.swap {w w' : World} {a b : Option Nat} (h : Only w w' a b) : Only w w' b a := ⟨h.os, h.tape, h.output, h.size, fun k hk h1 h2 => h.block k hk h2 h1⟩
theorem Only.setCells (w : World) (g : Nat) : ∀ (vs : List Value) (o : Nat) (a : Option Nat), Only w (w.setCells g o vs) a (some g) := by
  intro vs
  induction vs generalizing w with
  | nil => intro o a; exact Only.refl w _ _
  | cons v vs ih =>
    intro o a
    exact (Only.setCell w g o v a).swap.trans (ih (w.setCell ⟨g, o, none⟩ v) (o + 1) a) (fun k h => .inl h)

/-- a book at a block: the slice that its cell holds, the lots behind it -/
structure Book (w : World) (base p : Nat) (v : Value) (l : List Cv.Lot) : Prop where
  cell : w.heap[p]? = some (.cells #[v] 92 (0, 0))
  lo : base ≤ p
  row : w.ownsRow base 43 5 v l.length (flat l)
theorem Book.ne {w : World} {base p : Nat} {v : Value} {l : List Cv.Lot} (h : Book w base p v l) : v.ownBlock ≠ some p := by
  intro e
  rcases h.row.2 with ⟨e1, _⟩ | ⟨r, cap, cur, e1, _, hr, _⟩
  · rw [e1] at e; cases e
  · rw [e1] at e
    have : r = p := by simpa [Value.ownBlock] using e
    rw [this, h.cell] at hr
    cases hr
theorem Book.lt {w : World} {base p : Nat} {v : Value} {l : List Cv.Lot} (h : Book w base p v l) : p < w.heap.size := lt_of_block h.cell
theorem Book.rowLt {w : World} {base p : Nat} {v : Value} {l : List Cv.Lot} (h : Book w base p v l) : ∀ k, v.ownBlock = some k → base ≤ k ∧ k < w.heap.size := h.row.lt
theorem row_only {w w' : World} {a b : Option Nat} {base : Nat} {e : TypeId} {s : Nat} {v : Value} {n : Nat} {xs : List Value} (hr : w.ownsRow base e s v n xs) (h : Only w w' a b) (ha : ∀ k, v.ownBlock = some k → some k ≠ a) (hb : ∀ k, v.ownBlock = some k → some k ≠ b) : w'.ownsRow base e s v n xs := by
  refine ⟨hr.1, ?_⟩
  rcases hr.2 with hn | ⟨g, cap, cur, rfl, hg, hgg, rest⟩
  · exact .inl hn
  · exact .inr ⟨g, cap, cur, rfl, hg, by rw [h.block g (lt_of_block hgg) (ha g rfl) (hb g rfl)]; exact hgg, rest⟩
theorem Book.only {w w' : World} {a b : Option Nat} {base p : Nat} {v : Value} {l : List Cv.Lot} (h : Book w base p v l) (ho : Only w w' a b) (h1 : some p ≠ a) (h2 : some p ≠ b) (h3 : ∀ k, v.ownBlock = some k → some k ≠ a) (h4 : ∀ k, v.ownBlock = some k → some k ≠ b) : Book w' base p v l :=
  ⟨by rw [ho.block p h.lt h1 h2]; exact h.cell, h.lo, row_only h.row ho h3 h4⟩
theorem Book.later {w w' : World} {base p : Nat} {v : Value} {l : List Cv.Lot} (h : Book w base p v l) (hb : Below w.heap.size w w') : Book w' base p v l :=
  h.only (Only.of_below hb none none) (by simp) (by simp) (fun _ _ => by simp) (fun _ _ => by simp)
theorem Book.form {w : World} {base p : Nat} {v : Value} {l : List Cv.Lot} (h : Book w base p v l) : (v = .slice none 0 0 ∧ l = []) ∨ ∃ g cap, v = .slice (some ⟨g, 0, none⟩) l.length cap ∧ l.length ≤ cap ∧ base ≤ g ∧ LotsAt w g 0 l := by
  rcases h.row.2 with ⟨e, e2⟩ | ⟨g, cap, cur, e, hg, hgg, hle, _, _, _⟩
  · exact .inl ⟨e, List.eq_nil_of_length_eq_zero e2⟩
  · refine .inr ⟨g, cap, e, hle, hg, lotsAt_of_flat fun j u hu => ?_⟩
    have := World.ownsRow.cells h.row (g := g) (by rw [e]; rfl) j u hu
    have hp : (⟨g, 0, none⟩ : Addr).add j = ⟨g, j, none⟩ := by unfold Addr.add; split <;> simp_all
    rwa [hp] at this

/-- what an act leaves: the book's own cell and its row have turned, no other block; a new row is a new block -/
structure Step (w w' : World) (p : Nat) (v v' : Value) : Prop where
  only : Only w w' (some p) v.ownBlock
  new : ∀ k, v'.ownBlock = some k → v.ownBlock = some k ∨ w.heap.size ≤ k
theorem Step.refl (w : World) (p : Nat) (v : Value) : Step w w p v v := ⟨Only.refl _ _ _, fun _ h => .inl h⟩
theorem Step.of_below {w w' : World} (h : Below w.heap.size w w') (p : Nat) (v : Value) : Step w w' p v v := ⟨Only.of_below h _ _, fun _ h => .inl h⟩
theorem Step.trans {w w1 w2 : World} {p : Nat} {v v1 v2 : Value} (h : Step w w1 p v v1) (h1 : Step w1 w2 p v1 v2) : Step w w2 p v v2 :=
  ⟨h.only.trans h1.only h.new, fun k hk => by
    rcases h1.new k hk with h3 | h3
    · exact h.new k h3
    · exact .inr (Nat.le_trans h.only.size h3)⟩
theorem Step.below {w w' : World} {base p : Nat} {v v' : Value} {l : List Cv.Lot} (h : Step w w' p v v') (hb : Book w base p v l) (n : Nat) (hn : n ≤ base) : Below n w w' :=
  h.only.below (by have := hb.lo; have := hb.lt; omega) (fun k e => by cases e; have := hb.lo; omega) (fun k e => by have := (hb.rowLt k e).1; omega)

/-- a block's cells behind a store of some -/
theorem setCells_block {e : TypeId} {fz : Nat × Nat} (g : Nat) : ∀ (vs : List Value) (o : Nat) (w : World) (cur : Array Value), w.heap[g]? = some (.cells cur e fz) → o + vs.length ≤ cur.size →
    ∃ cur', (w.setCells g o vs).heap[g]? = some (.cells cur' e fz) ∧ cur'.size = cur.size ∧ cur'.toList = cur.toList.take o ++ vs ++ cur.toList.drop (o + vs.length)
  | [], o, w, cur, h, hs => ⟨cur, h, rfl, by simp⟩
  | v :: vs, o, w, cur, h, hs => by
    have hlt := lt_of_block h
    have h' : w.heap[g] = .cells cur e fz := by simpa [Array.getElem?_eq_getElem hlt] using h
    have h1 : (w.setCell ⟨g, o, none⟩ v).heap[g]? = some (.cells (cur.setIfInBounds o v) e fz) := by
      show (w.heap.modify g _)[g]? = _
      rw [Array.getElem?_eq_getElem (by simpa using hlt), Array.getElem_modify_self, h']
      rfl
    simp only [List.length_cons] at hs
    obtain ⟨cur', a1, a2, a3⟩ := setCells_block g vs (o + 1) _ _ h1 (by simp; omega)
    refine ⟨cur', a1, by rw [a2]; simp, ?_⟩
    rw [a3]
    simp only [List.length_cons, Array.toList_setIfInBounds]
    have ho : o < cur.toList.length := by simp; omega
    rw [List.take_succ_eq_append_getElem (by simpa using ho), List.take_set_of_le (Nat.le_refl o), List.getElem_set_self, List.drop_set_of_lt (by omega), show o + 1 + vs.length = o + (vs.length + 1) by omega]
    simp
/-- a row of the call's own behind a store of some of its cells -/
theorem row_setCells {w : World} {base : Nat} {e : TypeId} {s g n cap : Nat} {xs : List Value} (h : w.ownsRow base e s (.slice (some ⟨g, 0, none⟩) n cap) n xs) (o : Nat) (vs : List Value) (m : Nat) (hm : m ≤ cap) (hv : o + vs.length ≤ n * s) (ys : List Value) (hy : ys.length = m * s) (hmn : m ≤ n) (he : (xs.take o ++ vs ++ xs.drop (o + vs.length)).take (m * s) = ys) :
    (w.setCells g o vs).ownsRow base e s (.slice (some ⟨g, 0, none⟩) m cap) m ys := by
  rcases h.2 with ⟨e1, _⟩ | ⟨g', cap', cur, e1, hg, hgg, h1, h2, h3, h4⟩
  · cases e1
  · obtain ⟨rfl, rfl⟩ : g = g' ∧ cap = cap' := by simpa using e1
    have hle : n * s ≤ cur.size := by rw [h3]; exact Nat.mul_le_mul_right _ h1
    obtain ⟨cur', a1, a2, a3⟩ := setCells_block g vs o w cur hgg (by omega)
    refine ⟨hy, .inr ⟨g, cap, cur', rfl, hg, a1, hm, h2, by rw [a2, h3], ?_⟩⟩
    have hms : m * s ≤ n * s := Nat.mul_le_mul_right _ hmn
    rw [a3, ← he, ← h4]
    have hx : cur.toList = cur.toList.take (n * s) ++ cur.toList.drop (n * s) := (List.take_append_drop _ _).symm
    have hl : (cur.toList.take (n * s)).length = n * s := by rw [List.length_take]; simp; omega
    generalize cur.toList.take (n * s) = A at *
    generalize cur.toList.drop (n * s) = C at *
    have e1 : (A ++ C).take o = A.take o := List.take_append_of_le_length (by omega)
    have e2 : (A ++ C).drop (o + vs.length) = A.drop (o + vs.length) ++ C := List.drop_append_of_le_length (by omega)
    rw [hx, e1, e2, ← List.append_assoc]
    exact List.take_append_of_le_length (by simp only [List.length_append, List.length_take, List.length_drop]; omega)
end Go.Proofs.YtbcinejhipmomaaDoor
