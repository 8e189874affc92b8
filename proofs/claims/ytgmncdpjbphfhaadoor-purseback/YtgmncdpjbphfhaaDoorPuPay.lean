/- An act of purses that is read whole, and kept whole, at once. -/
import Derived.Test.YtgmncdpjbphfhaaDoorPuArg
namespace Go.Proofs.YtgmncdpjbphfhaaDoor
open Go.RowKit
set_option maxRecDepth 100000

def payA (x : PAct) : Array Value := #[.string x.kind, .int .i64 x.n, .int .i64 x.cash, .int .i64 x.s0, .int .i64 x.s1, .int .i64 x.s2, .int .i64 x.item, .int .i64 x.a.id, .int .i64 x.a.ow, .int .i64 x.a.sd, .int .i64 x.a.pr, .int .i64 x.a.q, .int .i64 x.b.id, .int .i64 x.b.ow, .int .i64 x.b.sd, .int .i64 x.b.pr, .int .i64 x.b.q, .int .i64 x.price, .int .i64 x.qty]
theorem info36 : (Tryd.prog.info? 36).map (fun i => (i.zero, i.size)) = some (some (.agg (payA pz)), 19) := by kernel_rfl
theorem zero36 (w : World) : (zeroValue 36).run Tryd.prog w = .ok (.agg (payA pz)) w := (zero_of_info info36).1 w
theorem size36 : (Tryd.prog.info? 36).map (·.size) = some 19 := (zero_of_info info36).2
/-- an act at a place -/
def PayAt (w : World) (G : Addr) (x : PAct) : Prop := w.cell? G = some (.string x.kind) ∧ ∀ j, 0 < j → j < 19 → w.cell? ⟨G.block, G.off + j, none⟩ = (payCells x)[j]?
theorem load36 {w : World} {G : Addr} {x : PAct} (h : PayAt w G x) : (loadVar 36 G).run Tryd.prog w = .ok (.agg (payA x)) w := by
  have hl : (loadCells G (payCells x).length).run Tryd.prog w = .ok (payCells x).toArray w := run_loadCells_list (P := Tryd.prog) w G (payCells x) (fun j v hv => by
    have hj : j < 19 := by
      have := List.getElem?_eq_some_iff.1 hv
      exact this.1
    by_cases e : j = 0
    · subst e
      have : G.add 0 = G := by unfold Addr.add; simp
      rw [this, h.1]
      simpa [payCells] using hv
    · have : G.add j = ⟨G.block, G.off + j, none⟩ := by unfold Addr.add; rw [if_neg e]
      rw [this, h.2 j (by omega) hj, hv])
  unfold loadVar
  simp only [Sem.run_bind, Tryd.isAgg36, Tryd.sizeOf36, Result.andThen_ok, if_true]
  rw [show (19 : Nat) = (payCells x).length from rfl, hl]
  rfl
theorem wpList_load36 {ops : Array Oper} {rest : List Oper} {op : Oper} {a : Act} {w : World} {Q : Exit → Act → World → Prop} {G : Addr} {z : PAct} (h : PayAt w G z) (hgd : op.guard = none) (x : Operand) (ho : op.op = .load 36 x)
    (hx : a.eval x = .pointer (some G)) (k : wpList Tryd.prog ops Q rest (a.put op.dst (.agg (payA z))) w) : wpList Tryd.prog ops Q (op :: rest) a w :=
  wpList_plain hgd fun _ hK => by
    unfold Oper.wp execOp
    simp only [ho, hx, Instr.loadAt, Instr.sureAddr, Sem.run_bind, Sem.run_pure, Result.andThen_ok, load36 h]
    exact hK _ _ k
theorem pay_one (x : PAct) : (payA x).all (·.oneCell') = true := by simp [payA, Value.oneCell']
theorem store36 {w : World} {x : PAct} : (storeVar 36 ⟨w.heap.size, 0, none⟩ (.agg (payA x))).run Tryd.prog (w.alloc (.cells (payA pz) 36)) = .ok () (w.alloc (.cells (payA x) 36)) := by
  rw [run_storeVar_row (w.alloc (.cells (payA pz) 36)) w.heap.size 36 36 (payA pz) (payA x) (heap_alloc_last w _) size36 rfl (pay_one x), World.setRow_alloc_new]
theorem wpList_store36 {ops : Array Oper} {rest : List Oper} {op : Oper} {a : Act} {w : World} {Q : Exit → Act → World → Prop} {z : PAct} (W' : World) (hW : w.alloc (.cells (payA z) 36) = W') (hgd : op.guard = none) (x y : Operand) (ho : op.op = .store 36 x y)
    (hx : a.eval x = .pointer (some ⟨w.heap.size, 0, none⟩)) (hy : a.eval y = .agg (payA z)) (k : wpList Tryd.prog ops Q rest (a.put op.dst undef) W') : wpList Tryd.prog ops Q (op :: rest) a (w.alloc (.cells (payA pz) 36)) :=
  wpList_plain hgd fun _ hK => by
    unfold Oper.wp execOp
    simp only [ho, hx, hy, Instr.storeAt, Instr.sureAddr, Sem.run_bind, Sem.run_pure, Result.andThen_ok, store36]
    subst hW
    exact hK _ _ k
end Go.Proofs.YtgmncdpjbphfhaaDoor
