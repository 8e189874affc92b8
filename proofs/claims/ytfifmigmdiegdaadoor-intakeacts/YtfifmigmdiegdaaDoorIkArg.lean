/- Acts of an intake as they come in. -/
import Derived.Test.YtfifmigmdiegdaaDoorIkTaken
import Derived.Test.YtfifmigmdiegdaaDoorIkWaits
namespace Go.Proofs.YtfifmigmdiegdaaDoor
open Go.RowKit
set_option maxRecDepth 100000
structure DAct where
  kind : ByteArray
  a : Ask
  c : Int
def dz : DAct := ⟨ByteArray.empty, az, 0⟩
def dnth (l : List DAct) (i : Nat) : DAct := l.getD i dz
def doCells (x : DAct) : List Value := [.string x.kind, .int .u8 x.a.k, .int .i64 x.a.c, .int .i64 x.a.sq, .int .i64 x.a.it, .int .i64 x.a.sd, .int .i64 x.a.pr, .int .i64 x.a.q, .int .i64 x.a.id, .int .i64 x.c]
/-- the cells of a slice of acts that came in -/
def DosAt (w : World) (g : Addr) (l : List DAct) : Prop := ∀ i, i < l.length → w.cell? (g.add (i * 10)) = some (.string (dnth l i).kind) ∧ w.cell? ⟨(g.add (i * 10)).block, (g.add (i * 10)).off + 1, none⟩ = some (.int .u8 (dnth l i).a.k) ∧ w.cell? ⟨(g.add (i * 10)).block, (g.add (i * 10)).off + 2, none⟩ = some (.int .i64 (dnth l i).a.c) ∧ w.cell? ⟨(g.add (i * 10)).block, (g.add (i * 10)).off + 3, none⟩ = some (.int .i64 (dnth l i).a.sq) ∧ w.cell? ⟨(g.add (i * 10)).block, (g.add (i * 10)).off + 4, none⟩ = some (.int .i64 (dnth l i).a.it) ∧ w.cell? ⟨(g.add (i * 10)).block, (g.add (i * 10)).off + 5, none⟩ = some (.int .i64 (dnth l i).a.sd) ∧ w.cell? ⟨(g.add (i * 10)).block, (g.add (i * 10)).off + 6, none⟩ = some (.int .i64 (dnth l i).a.pr) ∧ w.cell? ⟨(g.add (i * 10)).block, (g.add (i * 10)).off + 7, none⟩ = some (.int .i64 (dnth l i).a.q) ∧ w.cell? ⟨(g.add (i * 10)).block, (g.add (i * 10)).off + 8, none⟩ = some (.int .i64 (dnth l i).a.id) ∧ w.cell? ⟨(g.add (i * 10)).block, (g.add (i * 10)).off + 9, none⟩ = some (.int .i64 (dnth l i).c)
theorem DosAt.later {w w' : World} {g : Addr} {l : List DAct} (h : DosAt w g l) (hb : Below w.heap.size w w') : DosAt w' g l :=
  fun i hi => ⟨cell_later hb (h i hi).1, cell_later hb (h i hi).2.1, cell_later hb (h i hi).2.2.1, cell_later hb (h i hi).2.2.2.1, cell_later hb (h i hi).2.2.2.2.1, cell_later hb (h i hi).2.2.2.2.2.1, cell_later hb (h i hi).2.2.2.2.2.2.1, cell_later hb (h i hi).2.2.2.2.2.2.2.1, cell_later hb (h i hi).2.2.2.2.2.2.2.2.1, cell_later hb (h i hi).2.2.2.2.2.2.2.2.2⟩
/-- a slice of acts that came in -/
def ArgDos (w : World) (a : Option Addr) (n : Nat) (l : List DAct) : Prop := l.length = n ∧ (n = 0 ∨ ∃ g, a = some g ∧ DosAt w g l)
end Go.Proofs.YtfifmigmdiegdaaDoor
