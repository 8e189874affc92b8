/- A book and the document's book side by side. -/
import Derived.Test.YtbcinejhipmomaaDoorBmLevels
import Derived.Test.YtbcinejhipmomaaDoorOneCall
namespace Go.Proofs.YtbcinejhipmomaaDoor
open Go.RowKit
set_option maxRecDepth 100000

structure Two (w W : World) (p pm : Nat) (v vm : Value) (L M : List Cv.Lot) : Prop where
  b : Book W w.heap.size p v L
  m : MBook W w.heap.size pm vm M
  ap : ∀ k, v.ownBlock = some k → vm.ownBlock ≠ some k
  ne : p ≠ pm
  bl : Below w.heap.size w W
theorem row_type {W : World} {base : Nat} {v : Value} {n : Nat} {xs : List Value} {q : Nat} {a : Array Value} {T : TypeId} {fz : Nat × Nat} (h : W.ownsRow base 43 5 v n xs) (hq : W.heap[q]? = some (.cells a T fz)) (hT : T ≠ 43) : v.ownBlock ≠ some q := by
  intro e
  rcases h.2 with ⟨e1, _⟩ | ⟨r, cap, cur, e1, _, hr, _⟩
  · rw [e1] at e; cases e
  · rw [e1] at e
    have : r = q := by simpa [Value.ownBlock] using e
    rw [this, hq] at hr
    simp only [Option.some.injEq, Obj.cells.injEq] at hr
    exact hT hr.2.1
theorem Two.book {w W W' : World} {p pm : Nat} {v vm v' : Value} {L M L' : List Cv.Lot} (h : Two w W p pm v vm L M) (hb : Book W' w.heap.size p v' L') (hs : Step W W' p v v') : Two w W' p pm v' vm L' M := by
  refine ⟨hb, h.m.only hs.only (by simp; exact fun e => h.ne e.symm) (fun e => row_type h.b.row h.m.cell (by decide) e.symm) (fun k hk e => ?_) (fun k hk e => h.ap k e.symm hk), fun k hk => ?_, h.ne, h.bl.trans (hs.below h.b _ (Nat.le_refl _))⟩
  · have : k = p := by simpa using e
    subst this
    exact row_type h.m.row h.b.cell (by decide) hk
  · rcases hs.new k hk with h1 | h1
    · exact h.ap k h1
    · intro e
      have := (h.m.rowLt k e).2
      omega
theorem Two.mbook {w W W' : World} {p pm : Nat} {v vm vm' : Value} {L M M' : List Cv.Lot} (h : Two w W p pm v vm L M) (hb : MBook W' w.heap.size pm vm' M') (hs : Step W W' pm vm vm') : Two w W' p pm v vm' L M' := by
  refine ⟨h.b.only hs.only (by simp; exact h.ne) (fun e => row_type h.m.row h.b.cell (by decide) e.symm) (fun k hk e => ?_) (fun k hk e => h.ap k hk e.symm), hb, fun k hk e => ?_, h.ne, h.bl.trans (hs.belowM h.m _ (Nat.le_refl _))⟩
  · have : k = pm := by simpa using e
    subst this
    exact row_type h.b.row h.m.cell (by decide) hk
  · rcases hs.new k e with h1 | h1
    · exact h.ap k hk h1
    · have := (h.b.rowLt k hk).2
      omega
theorem Two.later {w W W' : World} {p pm : Nat} {v vm : Value} {L M : List Cv.Lot} (h : Two w W p pm v vm L M) (hb : Below W.heap.size W W') : Two w W' p pm v vm L M :=
  ⟨h.b.later hb, h.m.later hb, h.ap, h.ne, h.bl.trans (hb.mono h.bl.size)⟩

def actA (x : BAct) : Array Value := #[.string x.kind, .int .i64 x.x.id, .int .i64 x.x.ow, .int .i64 x.x.sd, .int .i64 x.x.pr, .int .i64 x.x.q, .int .i64 x.id, .int .i64 x.q]
/-- what is so in a region of two acts, ahead of the first and behind it -/
def BCls (w : World) (p pm B : Nat) (vm : Value) (A : BAct) (L L' : List Cv.Lot) (b : Bool) (W : World) : Prop :=
  (∃ v, Two w W p pm v vm (if b = true then L' else L) L) ∧ W.heap[B]? = some (.cells (actA A) 51 (0, 0))
theorem BCls.done {w : World} {p pm B : Nat} {vm v v' : Value} {A : BAct} {L L' : List Cv.Lot} {W W' : World} (h : Two w W p pm v vm L L) (ha : W.heap[B]? = some (.cells (actA A) 51 (0, 0))) (hb : Book W' w.heap.size p v' L') (hs : Step W W' p v v') : BCls w p pm B vm A L L' true W' := by
  refine ⟨⟨v', h.book hb hs⟩, ?_⟩
  rw [hs.only.block B (lt_of_block ha) (fun e => ?_) (fun e => row_type h.b.row ha (by decide) e.symm)]
  · exact ha
  · have : B = p := by simpa using e
    subst this
    rw [h.b.cell] at ha
    simp at ha
theorem bcls_all (w : World) (p pm B : Nat) (vm : Value) (A : BAct) (L L' : List Cv.Lot) : ∃ (X : Type) (val : X → World) (fl : X → Bool), (∀ x, BCls w p pm B vm A L L' (fl x) (val x)) ∧ ∀ b W, BCls w p pm B vm A L L' b W → ∃ x, val x = W ∧ fl x = b :=
  ⟨{ t : Bool × World // BCls w p pm B vm A L L' t.1 t.2 }, fun x => x.1.2, fun x => x.1.1, fun x => x.2, fun b W h => ⟨⟨(b, W), h⟩, rfl, rfl⟩⟩
def BInv (w W : World) (p pm : Nat) (L : List Cv.Lot) : Prop := Bk.Good L ∧ ∃ v vm, Two w W p pm v vm L L
theorem er4_sent {w : World} {ad : Nat → Addr} (h : Sent w ad) : Er4 w 177 (.pointer (some (ad 1))) (.pointer (some (ad 5))) (.pointer (some (ad 6))) (.pointer (some (ad 7))) :=
  ⟨⟨h.cell 1 (by decide), h.cell 6 (by decide), h.cell 7 (by decide)⟩, h.cell 5 (by decide)⟩
theorem hs_cell {w : World} {B j : Nat} {T : TypeId} {a : Array Value} {v : Value} (h : w.heap[B]? = some (.cells a T (0, 0))) (e : a[j]? = some v) : w.cell? ⟨B, j, none⟩ = some v := by
  rw [cell_of_row w B j _ _ _ h, e]
theorem bd1 {n : Nat} {w w' : World} (h : Below n w w') : Below n w w'.drew := ⟨h.os, h.tape, h.output, h.size, h.block⟩
theorem addC_le (l : List Cv.Lot) (x : Cv.Lot) : Bk.addC l x ≤ 4 := by unfold Bk.addC; split <;> (try split) <;> (try split) <;> decide
theorem canC_le (l : List Cv.Lot) (id : Int) : Bk.canC l id ≤ 4 := by unfold Bk.canC; split <;> decide
theorem takC_le (l : List Cv.Lot) (id q : Int) : Bk.takC l id q ≤ 4 := by unfold Bk.takC; split <;> (try split) <;> decide
end Go.Proofs.YtbcinejhipmomaaDoor
