/- Requests as they come in. -/
import Derived.Test.YtccjlddikinkiaaDoorSeLog
namespace Go.Proofs.YtccjlddikinkiaaDoor
open Go.RowKit
def az : Ask := ⟨0, 0, 0, 0, 0, 0, 0, 0⟩
def anth (l : List Ask) (i : Nat) : Ask := l.getD i az
/-- the cells of a slice of requests that came in -/
def AsksAt (w : World) (g : Addr) (l : List Ask) : Prop := ∀ i, i < l.length → w.cell? (g.add (i * 8)) = some (.int .u8 (anth l i).k) ∧ w.cell? ⟨(g.add (i * 8)).block, (g.add (i * 8)).off + 1, none⟩ = some (.int .i64 (anth l i).c) ∧ w.cell? ⟨(g.add (i * 8)).block, (g.add (i * 8)).off + 2, none⟩ = some (.int .i64 (anth l i).sq) ∧ w.cell? ⟨(g.add (i * 8)).block, (g.add (i * 8)).off + 3, none⟩ = some (.int .i64 (anth l i).it) ∧ w.cell? ⟨(g.add (i * 8)).block, (g.add (i * 8)).off + 4, none⟩ = some (.int .i64 (anth l i).sd) ∧ w.cell? ⟨(g.add (i * 8)).block, (g.add (i * 8)).off + 5, none⟩ = some (.int .i64 (anth l i).pr) ∧ w.cell? ⟨(g.add (i * 8)).block, (g.add (i * 8)).off + 6, none⟩ = some (.int .i64 (anth l i).q) ∧ w.cell? ⟨(g.add (i * 8)).block, (g.add (i * 8)).off + 7, none⟩ = some (.int .i64 (anth l i).id)
theorem AsksAt.later {w w' : World} {g : Addr} {l : List Ask} (h : AsksAt w g l) (hb : Below w.heap.size w w') : AsksAt w' g l :=
  fun i hi => ⟨cell_later hb (h i hi).1, cell_later hb (h i hi).2.1, cell_later hb (h i hi).2.2.1, cell_later hb (h i hi).2.2.2.1, cell_later hb (h i hi).2.2.2.2.1, cell_later hb (h i hi).2.2.2.2.2.1, cell_later hb (h i hi).2.2.2.2.2.2.1, cell_later hb (h i hi).2.2.2.2.2.2.2⟩
/-- a slice of requests that came in -/
def ArgAsks (w : World) (a : Option Addr) (n : Nat) (l : List Ask) : Prop := l.length = n ∧ (n = 0 ∨ ∃ g, a = some g ∧ AsksAt w g l)
theorem class_all (R : World → Prop) : ∃ (X : Type) (val : X → World), (∀ x, R (val x)) ∧ ∀ W, R W → ∃ x, val x = W :=
  ⟨{ W : World // R W }, fun x => x.1, fun x => x.2, fun W h => ⟨⟨W, h⟩, rfl⟩⟩
end Go.Proofs.YtccjlddikinkiaaDoor
