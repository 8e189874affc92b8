/- An intake in memory: a block of six slices and a turn, a row of requests behind each slice; which blocks an act may turn. -/
import Derived.Test.YtfifmigmdiegdaaDoorSumWalks
import Derived.Test.YtfifmigmdiegdaaDoorIkFacts
import Derived.OneCell
import Derived.Laws.IdiomCopy
import Derived.Maps.AppendAt
import Derived.Deep.RegionLaw
import Derived.Lib.SliceRun
import Derived.Lib.SmallJoins
import Derived.Deep.QuietTactic
import Derived.BigQuiet
namespace Go.Proofs.YtfifmigmdiegdaaDoor
open Go.RowKit
set_option maxRecDepth 100000
def askA (a : Ask) : Array Value := #[.int .u8 a.k, .int .i64 a.c, .int .i64 a.sq, .int .i64 a.it, .int .i64 a.sd, .int .i64 a.pr, .int .i64 a.q, .int .i64 a.id]
def askV (a : Ask) : Value := .agg (askA a)
def askC (a : Ask) : List Value := [.int .u8 a.k, .int .i64 a.c, .int .i64 a.sq, .int .i64 a.it, .int .i64 a.sd, .int .i64 a.pr, .int .i64 a.q, .int .i64 a.id]
def aflat (l : List Ask) : List Value := l.flatMap askC
theorem aflat_length : ∀ l : List Ask, (aflat l).length = l.length * 8
  | [] => rfl
  | x :: l => by
    have := aflat_length l
    simp only [aflat, List.flatMap_cons, List.length_append, List.length_cons] at this ⊢
    rw [this]
    show 8 + _ = _
    omega
theorem aflat_append (a b : List Ask) : aflat (a ++ b) = aflat a ++ aflat b := by simp [aflat]
theorem aflat_take (l : List Ask) (k : Nat) (h : k ≤ l.length) : (aflat l).take (k * 8) = aflat (l.take k) := by
  have e : aflat l = aflat (l.take k) ++ aflat (l.drop k) := by rw [← aflat_append, List.take_append_drop]
  have hl : (aflat (l.take k)).length = k * 8 := by rw [aflat_length, List.length_take]; congr 1; omega
  rw [e, ← hl, List.take_left]
theorem aflat_drop (l : List Ask) (k : Nat) (h : k ≤ l.length) : (aflat l).drop (k * 8) = aflat (l.drop k) := by
  have e : aflat l = aflat (l.take k) ++ aflat (l.drop k) := by rw [← aflat_append, List.take_append_drop]
  have hl : (aflat (l.take k)).length = k * 8 := by rw [aflat_length, List.length_take]; congr 1; omega
  rw [e, ← hl, List.drop_left]
theorem aflat_one (l : List Ask) : ∀ u ∈ aflat l, u.oneCell' = true := by
  intro u hu
  simp only [aflat, List.mem_flatMap] at hu
  obtain ⟨x, _, hx⟩ := hu
  simp only [askC, List.mem_cons, List.not_mem_nil, or_false] at hx
  rcases hx with rfl | rfl | rfl | rfl | rfl | rfl | rfl | rfl <;> rfl
theorem aflat_get (l : List Ask) (i j : Nat) (hi : i < l.length) (hj : j < 8) : (aflat l)[i * 8 + j]? = (askC (anth l i))[j]? := by
  have e : aflat l = aflat (l.take i) ++ (askC (anth l i) ++ aflat (l.drop (i + 1))) := by
    have h2 : l = l.take i ++ (anth l i :: l.drop (i + 1)) := by
      have := List.getElem?_eq_some_iff.1 (anth_get hi)
      obtain ⟨h3, h4⟩ := this
      rw [← h4, List.getElem_cons_drop, List.take_append_drop]
    conv => lhs; rw [h2]
    rw [aflat_append]
    rfl
  have hl : (aflat (l.take i)).length = i * 8 := by rw [aflat_length, List.length_take]; congr 1; omega
  rw [e, List.getElem?_append_right (by omega), hl, show i * 8 + j - i * 8 = j by omega, List.getElem?_append_left (by show _ < 8; exact hj)]

/-- which of the old blocks may have turned -/
structure Turned (w w' : World) (S : Nat → Prop) : Prop where
  os : w'.os = w.os
  tape : w'.tape = w.tape
  output : w'.output = w.output
  size : w.heap.size ≤ w'.heap.size
  block : ∀ k, k < w.heap.size → ¬ S k → w'.heap[k]? = w.heap[k]?
theorem Turned.refl (w : World) (S : Nat → Prop) : Turned w w S := ⟨rfl, rfl, rfl, Nat.le_refl _, fun _ _ _ => rfl⟩
theorem Turned.of_below {w w' : World} (h : Below w.heap.size w w') (S : Nat → Prop) : Turned w w' S := ⟨h.os, h.tape, h.output, h.size, fun k hk _ => h.block k hk⟩
theorem Turned.of_grown {w w' : World} {r : Option Nat} (h : w.grownBy w' r) : Turned w w' (fun k => some k = r) := ⟨h.os, h.tape, h.output, h.size, fun k hk h2 => h.block k hk h2⟩
theorem Turned.trans {w w1 w2 : World} {S S1 : Nat → Prop} (h : Turned w w1 S) (h1 : Turned w1 w2 S1) (hs : ∀ k, S1 k → S k ∨ w.heap.size ≤ k) : Turned w w2 S :=
  ⟨h1.os.trans h.os, h1.tape.trans h.tape, h1.output.trans h.output, Nat.le_trans h.size h1.size, fun k hk hn => by
    rw [h1.block k (Nat.lt_of_lt_of_le hk h.size) (fun e => ?_)]
    · exact h.block k hk hn
    · rcases hs k e with h3 | h3
      · exact hn h3
      · omega⟩
theorem Turned.mono {w w' : World} {S S' : Nat → Prop} (h : Turned w w' S) (hs : ∀ k, S k → S' k) : Turned w w' S' := ⟨h.os, h.tape, h.output, h.size, fun k hk hn => h.block k hk (fun e => hn (hs k e))⟩
theorem Turned.below {w w' : World} {S : Nat → Prop} {n : Nat} (h : Turned w w' S) (hn : n ≤ w.heap.size) (hs : ∀ k, S k → n ≤ k) : Below n w w' :=
  ⟨h.os, h.tape, h.output, h.size, fun k hk => h.block k (by omega) (fun e => by have := hs k e; omega)⟩
theorem Turned.setCell (w : World) (g o : Nat) (v : Value) : Turned w (w.setCell ⟨g, o, none⟩ v) (fun k => k = g) :=
  ⟨rfl, rfl, rfl, by simp, fun k _ ha => Below.heap_setCell _ _ _ _ (fun e => ha e)⟩
theorem Turned.setCells (w : World) (g : Nat) : ∀ (vs : List Value) (o : Nat), Turned w (w.setCells g o vs) (fun k => k = g) := by
  intro vs
  induction vs generalizing w with
  | nil => intro o; exact Turned.refl w _
  | cons v vs ih =>
    intro o
    exact (Turned.setCell w g o v).trans (ih (w.setCell ⟨g, o, none⟩ v) (o + 1)) (fun k h => .inl h)
theorem row_turned {w w' : World} {S : Nat → Prop} {base : Nat} {e : TypeId} {s : Nat} {v : Value} {n : Nat} {xs : List Value} (hr : w.ownsRow base e s v n xs) (h : Turned w w' S) (ha : ∀ k, v.ownBlock = some k → ¬ S k) : w'.ownsRow base e s v n xs := by
  refine ⟨hr.1, ?_⟩
  rcases hr.2 with hn | ⟨g, cap, cur, rfl, hg, hgg, rest⟩
  · exact .inl hn
  · exact .inr ⟨g, cap, cur, rfl, hg, by rw [h.block g (lt_of_block hgg) (ha g rfl)]; exact hgg, rest⟩
theorem row_form {w : World} {base : Nat} {e : TypeId} {s : Nat} {v : Value} {n : Nat} {xs : List Value} (hr : w.ownsRow base e s v n xs) : ∃ a c, v = .slice a n c := by
  rcases hr.2 with ⟨rfl, rfl⟩ | ⟨g, cap, cur, rfl, _⟩
  · exact ⟨_, _, rfl⟩
  · exact ⟨_, _, rfl⟩
theorem row_base {w : World} {base b2 : Nat} {e : TypeId} {s : Nat} {v : Value} {n : Nat} {xs : List Value} (hr : w.ownsRow base e s v n xs) (h : b2 ≤ base) : w.ownsRow b2 e s v n xs := by
  refine ⟨hr.1, ?_⟩
  rcases hr.2 with h1 | ⟨g, cap, cur, e1, hg, h2⟩
  · exact .inl h1
  · exact .inr ⟨g, cap, cur, e1, by omega, h2⟩

/-- six slices and a turn -/
def qrow (V : Nat → Value) (t : Nat) : Array Value := #[V 0, V 1, V 2, V 3, V 4, V 5, .int .i64 (t : Int)]
theorem qrow_get (V : Nat → Value) (t : Nat) {c : Nat} (hc : c < 6) : (qrow V t)[c]? = some (V c) := by
  match c, hc with
  | 0, _ => rfl
  | 1, _ => rfl
  | 2, _ => rfl
  | 3, _ => rfl
  | 4, _ => rfl
  | 5, _ => rfl
theorem qrow_set (V : Nat → Value) (t : Nat) {c : Nat} (hc : c < 6) (v : Value) : (qrow V t).setIfInBounds c v = qrow (Ik.upd V c v) t := by
  match c, hc with
  | 0, _ => rfl
  | 1, _ => rfl
  | 2, _ => rfl
  | 3, _ => rfl
  | 4, _ => rfl
  | 5, _ => rfl
theorem block_setCell {w : World} {p : Nat} {cur : Array Value} {e : TypeId} {fz : Nat × Nat} (h : w.heap[p]? = some (.cells cur e fz)) (o : Nat) (v : Value) : (w.setCell ⟨p, o, none⟩ v).heap[p]? = some (.cells (cur.setIfInBounds o v) e fz) := by
  have hlt := lt_of_block h
  have h' : w.heap[p] = .cells cur e fz := by simpa [Array.getElem?_eq_getElem hlt] using h
  show (w.heap.modify p _)[p]? = _
  rw [Array.getElem?_eq_getElem (by simpa using hlt), Array.getElem_modify_self, h']
  rfl
/-- the blocks of an intake -/
def qown (p : Nat) (V : Nat → Value) (k : Nat) : Prop := k = p ∨ ∃ c, c < 6 ∧ (V c).ownBlock = some k
structure Itk (w : World) (base p : Nat) (V : Nat → Value) (t : Nat) (L : Nat → List Ask) : Prop where
  cell : w.heap[p]? = some (.cells (qrow V t) 48 (0, 0))
  lo : base ≤ p
  turn : t < 6
  row : ∀ c, c < 6 → w.ownsRow base 30 8 (V c) (L c).length (aflat (L c))
  few : ∀ c, c < 6 → (L c).length ≤ 6
  apart : ∀ c d, c < 6 → d < 6 → c ≠ d → ∀ k, (V c).ownBlock = some k → (V d).ownBlock ≠ some k
structure QStep (w w' : World) (p : Nat) (V V' : Nat → Value) : Prop where
  turned : Turned w w' (qown p V)
  new : ∀ k, qown p V' k → qown p V k ∨ w.heap.size ≤ k
section
variable {w w' w2 : World} {base p t : Nat} {V V' : Nat → Value} {L : Nat → List Ask}
theorem QStep.refl (w : World) (p : Nat) (V : Nat → Value) : QStep w w p V V := ⟨Turned.refl _ _, fun _ h => .inl h⟩
theorem QStep.of_below (h : Below w.heap.size w w') (p : Nat) (V : Nat → Value) : QStep w w' p V V := ⟨Turned.of_below h _, fun _ h => .inl h⟩
theorem QStep.trans {V2 : Nat → Value} (h : QStep w w' p V V') (h1 : QStep w' w2 p V' V2) : QStep w w2 p V V2 :=
  ⟨h.turned.trans h1.turned h.new, fun k hk => by
    rcases h1.new k hk with h3 | h3
    · exact h.new k h3
    · exact .inr (Nat.le_trans h.turned.size h3)⟩
theorem Itk.lt (h : Itk w base p V t L) : p < w.heap.size := lt_of_block h.cell
theorem Itk.own_lt (h : Itk w base p V t L) {k : Nat} (hk : qown p V k) : base ≤ k ∧ k < w.heap.size := by
  rcases hk with rfl | ⟨c, hc, hk⟩
  · exact ⟨h.lo, h.lt⟩
  · exact (h.row c hc).lt k hk
theorem QStep.below (h : QStep w w' p V V') (hi : Itk w base p V t L) {n : Nat} (hn : n ≤ base) : Below n w w' :=
  h.turned.below (by have := hi.lo; have := hi.lt; omega) (fun k hk => by have := (hi.own_lt hk).1; omega)
theorem row_ne_type {e e2 : TypeId} {s n : Nat} {v : Value} {xs : List Value} {cur : Array Value} {q : Nat} (hr : w.ownsRow base e s v n xs) (hq : w.heap[q]? = some (.cells cur e2 (0, 0))) (hne : e ≠ e2) : v.ownBlock ≠ some q := by
  intro h
  rcases hr.2 with ⟨e1, _⟩ | ⟨r, cap, cur2, e1, _, hr2, _⟩
  · rw [e1] at h; cases h
  · rw [e1] at h
    have : r = q := by simpa [Value.ownBlock] using h
    rw [this, hq] at hr2
    simp at hr2
    exact hne hr2.2.symm
theorem Itk.ne (h : Itk w base p V t L) {c : Nat} (hc : c < 6) : (V c).ownBlock ≠ some p := row_ne_type (h.row c hc) h.cell (by decide)
theorem Itk.turned {S : Nat → Prop} (h : Itk w base p V t L) (ho : Turned w w' S) (hs : ∀ k, qown p V k → ¬ S k) : Itk w' base p V t L :=
  ⟨by rw [ho.block p h.lt (hs p (.inl rfl))]; exact h.cell, h.lo, h.turn, fun c hc => row_turned (h.row c hc) ho (fun k hk => hs k (.inr ⟨c, hc, hk⟩)), h.few, h.apart⟩
theorem Itk.later (h : Itk w base p V t L) (hb : Below w.heap.size w w') : Itk w' base p V t L := h.turned (Turned.of_below hb (fun _ => False)) (fun _ _ h => h)
theorem Itk.at (h : Itk w base p V t L) {c : Nat} (hc : c < 6) : w.cell? ⟨p, c, none⟩ = some (V c) := by
  rw [cell_of_row w p c _ _ _ h.cell]; exact qrow_get V t hc
theorem Itk.atTurn (h : Itk w base p V t L) : w.cell? ⟨p, 6, none⟩ = some (.int .i64 (t : Int)) := by
  rw [cell_of_row w p 6 _ _ _ h.cell]; rfl
theorem Itk.free (h : Itk w base p V t L) (c : Nat) : w.frozen? ⟨p, c, none⟩ = false := by simp [World.frozen?, h.cell]
theorem Itk.form (h : Itk w base p V t L) {c : Nat} (hc : c < 6) : ∃ a k, V c = .slice a (L c).length k := row_form (h.row c hc)
/-- a queue is made anew -/
theorem Itk.set (h : Itk w base p V t L) {c : Nat} (hc : c < 6) (hg : w.grownBy w2 (V c).ownBlock) {v' : Value} {l' : List Ask} (hr : w2.ownsRow base 30 8 v' l'.length (aflat l')) (hf : l'.length ≤ 6) (hn : ∀ k, v'.ownBlock = some k → (V c).ownBlock = some k ∨ w.heap.size ≤ k) :
    Itk (w2.setCell ⟨p, c, none⟩ v') base p (Ik.upd V c v') t (Ik.upd L c l') ∧ QStep w (w2.setCell ⟨p, c, none⟩ v') p V (Ik.upd V c v') := by
  have hcell : w2.heap[p]? = some (.cells (qrow V t) 48 (0, 0)) := by rw [hg.block p h.lt (fun e => h.ne hc e.symm)]; exact h.cell
  have hp' : v'.ownBlock ≠ some p := row_ne_type hr hcell (by decide)
  have hsc := Turned.setCell w2 p c v'
  have hrow : ∀ d, d < 6 → d ≠ c → w2.ownsRow base 30 8 (V d) (L d).length (aflat (L d)) := fun d hd hdc =>
    row_turned (h.row d hd) (Turned.of_grown hg) (fun k hk e => h.apart d c hd hc hdc k hk e.symm)
  refine ⟨⟨?_, h.lo, h.turn, ?_, ?_, ?_⟩, ⟨?_, ?_⟩⟩
  · rw [block_setCell hcell, qrow_set V t hc]
  · intro d hd
    by_cases hdc : d = c
    · subst hdc
      rw [Ik.upd_same, Ik.upd_same]
      exact row_turned hr hsc (fun k hk e => hp' (by rw [hk, e]))
    · rw [Ik.upd_other _ _ hdc, Ik.upd_other _ _ hdc]
      exact row_turned (hrow d hd hdc) hsc (fun k hk e => h.ne hd (by rw [hk, e]))
  · intro d hd
    by_cases hdc : d = c
    · subst hdc; rw [Ik.upd_same]; exact hf
    · rw [Ik.upd_other _ _ hdc]; exact h.few d hd
  · intro d e hd he hde k hk
    have new_old : ∀ d, d < 6 → d ≠ c → ∀ k, v'.ownBlock = some k → (V d).ownBlock ≠ some k := fun d hd hdc k hk h3 => by
      rcases hn k hk with h4 | h4
      · exact h.apart d c hd hc hdc k h3 h4
      · have := ((h.row d hd).lt k h3).2
        omega
    by_cases hdc : d = c
    · subst hdc
      rw [Ik.upd_same] at hk
      rw [Ik.upd_other _ _ (Ne.symm hde)]
      exact new_old e he (Ne.symm hde) k hk
    · rw [Ik.upd_other _ _ hdc] at hk
      by_cases hec : e = c
      · subst hec
        rw [Ik.upd_same]
        exact fun h3 => new_old d hd hdc k h3 hk
      · rw [Ik.upd_other _ _ hec]
        exact h.apart d e hd he hde k hk
  · refine ((Turned.of_grown hg).mono (fun k hk => .inr ⟨c, hc, hk.symm⟩)).trans hsc (fun k hk => .inl (.inl hk))
  · intro k hk
    rcases hk with rfl | ⟨d, hd, hk⟩
    · exact .inl (.inl rfl)
    · by_cases hdc : d = c
      · subst hdc
        rw [Ik.upd_same] at hk
        rcases hn k hk with h4 | h4
        · exact .inl (.inr ⟨d, hd, h4⟩)
        · exact .inr h4
      · rw [Ik.upd_other _ _ hdc] at hk
        exact .inl (.inr ⟨d, hd, hk⟩)
theorem Itk.openAt (h : Itk w base p V t L) {c : Nat} (hc : c < 6) (hg : w.grownBy w2 (V c).ownBlock) : w2.cell? ⟨p, c, none⟩ = some (V c) ∧ w2.frozen? ⟨p, c, none⟩ = false := by
  have hcell : w2.heap[p]? = some (.cells (qrow V t) 48 (0, 0)) := by rw [hg.block p h.lt (fun e => h.ne hc e.symm)]; exact h.cell
  exact ⟨by rw [cell_of_row w2 p c _ _ _ hcell]; exact qrow_get V t hc, by simp [World.frozen?, hcell]⟩
/-- the turn goes on -/
theorem Itk.next (h : Itk w base p V t L) {t' : Nat} (ht : t' < 6) : Itk (w.setCell ⟨p, 6, none⟩ (.int .i64 (t' : Int))) base p V t' L ∧ QStep w (w.setCell ⟨p, 6, none⟩ (.int .i64 (t' : Int))) p V V := by
  have hsc := Turned.setCell w p 6 (.int .i64 (t' : Int))
  refine ⟨⟨?_, h.lo, ht, fun d hd => row_turned (h.row d hd) hsc (fun k hk e => h.ne hd (by rw [hk, e])), h.few, h.apart⟩, ⟨hsc.mono (fun k hk => .inl hk), fun _ h => .inl h⟩⟩
  rw [block_setCell h.cell]
  rfl
end
end Go.Proofs.YtfifmigmdiegdaaDoor
