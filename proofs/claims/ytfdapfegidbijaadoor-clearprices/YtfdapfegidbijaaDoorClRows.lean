/- Tables of 1001 numbers in memory: read, written, loaded and stored whole. -/
import Derived.Test.YtfdapfegidbijaaDoorCvSums
import Derived.Deep.WholeRow
import Derived.Laws.CopyOwn
import Derived.Deep.MidRow
namespace Go.Proofs.YtfdapfegidbijaaDoor
open Go.RowKit
set_option maxRecDepth 100000

def row (f : Nat → Int) : Array Value := Array.ofFn (n := 1001) fun i => Value.int .i64 (f i.val)
theorem row_size (f : Nat → Int) : (row f).size = 1001 := by simp [row]
theorem row_at (f : Nat → Int) {i : Nat} (h : i < 1001) : (row f)[i]? = some (.int .i64 (f i)) := by
  unfold row; rw [Array.getElem?_ofFn]; simp [h]
theorem row_one (f : Nat → Int) : (row f).all (·.oneCell') = true := by
  rw [Array.all_eq_true]
  intro i hi
  simp only [row, Array.getElem_ofFn]
  rfl
theorem row_congr {f g : Nat → Int} (h : ∀ i, i < 1001 → f i = g i) : row f = row g := by
  unfold row
  congr 1
  funext i
  rw [h i.val i.isLt]
theorem row_set (f : Nat → Int) {i : Nat} (v : Int) : (row f).setIfInBounds i (.int .i64 v) = row (fun j => if j = i then v else f j) := by
  apply Array.ext_getElem?
  intro j
  by_cases hj : j < 1001
  · rw [row_at _ hj]
    by_cases e : i = j
    · subst e
      rw [Array.getElem?_setIfInBounds_self_of_lt (by rw [row_size]; exact hj)]
      simp
    · rw [Array.getElem?_setIfInBounds_ne e, row_at _ hj]
      have : ¬ j = i := fun h => e h.symm
      simp [this]
  · rw [Array.getElem?_eq_none (by rw [Array.size_setIfInBounds, row_size]; omega), Array.getElem?_eq_none (by rw [row_size]; omega)]
theorem row_zero : row (fun _ => 0) = Array.replicate 1001 (.int .i64 0) := by
  apply Array.ext_getElem?
  intro j
  by_cases hj : j < 1001
  · rw [row_at _ hj, Array.getElem?_replicate]; simp [hj]
  · rw [Array.getElem?_eq_none (by rw [row_size]; omega), Array.getElem?_eq_none (by simp; omega)]

/-- a table of the call's own, at a block -/
def Tot (w : World) (B : Nat) (f : Nat → Int) : Prop := w.heap[B]? = some (.cells (row f) 60 (0, 0))
theorem Tot.cell {w : World} {B : Nat} {f : Nat → Int} (h : Tot w B f) {i : Nat} (hi : i < 1001) : w.cell? ⟨B, i, none⟩ = some (.int .i64 (f i)) := by
  rw [cell_of_row w B i _ _ _ h, row_at f hi]
theorem Tot.frozen {w : World} {B : Nat} {f : Nat → Int} (h : Tot w B f) (i : Nat) : w.frozen? ⟨B, i, none⟩ = false := by
  simp [World.frozen?, show w.heap[B]? = _ from h]
theorem Tot.lt {w : World} {B : Nat} {f : Nat → Int} (h : Tot w B f) : B < w.heap.size := (Array.getElem?_eq_some_iff.1 h).1
theorem Tot.later {w w' : World} {B n : Nat} {f : Nat → Int} (h : Tot w B f) (hb : Below n w w') (hn : B < n) : Tot w' B f := (hb.block B hn).trans h
theorem Tot.set {w : World} {B : Nat} {f : Nat → Int} (h : Tot w B f) (i : Nat) (v : Int) : Tot (w.setCell ⟨B, i, none⟩ (.int .i64 v)) B (fun j => if j = i then v else f j) := by
  unfold Tot at h ⊢
  rw [setCell_eq_setRow w B i _ _ _ _ h, row_set]
  exact setRow_heap w B _ _ _ _ h
theorem Tot.congr {w : World} {B : Nat} {f g : Nat → Int} (h : Tot w B f) (e : ∀ i, i < 1001 → f i = g i) : Tot w B g := by
  unfold Tot at h ⊢; rw [← row_congr e]; exact h
theorem Tot.other {w : World} {B : Nat} {f : Nat → Int} (h : Tot w B f) {a : Addr} (ha : B ≠ a.block) (v : Value) : Tot (w.setCell a v) B f :=
  (Below.heap_setCell w a v B ha).trans h
theorem Tot.alloc {w : World} {B : Nat} {f : Nat → Int} (h : Tot w B f) (o : Obj) : Tot (w.alloc o) B f := (Below.heap_alloc w o B h.lt).trans h
theorem Tot.new (w : World) (f : Nat → Int) : Tot (w.alloc (.cells (row f) 60)) w.heap.size f := heap_alloc_last w _
theorem Tot.drew {w : World} {B : Nat} {f : Nat → Int} (h : Tot w B f) (n : Nat) : Tot (w.drewN n) B f := h

theorem info60 : (Tryd.prog.info? 60).map (fun i => (i.zero, i.size)) = some (some (.agg (Array.replicate 1001 (.int .i64 0))), 1001) := by kernel_rfl
theorem zero60 (w : World) : (zeroValue 60).run Tryd.prog w = .ok (.agg (row fun _ => 0)) w := by rw [row_zero]; exact (zero_of_info info60).1 w
theorem size60 : (Tryd.prog.info? 60).map (·.size) = some 1001 := (zero_of_info info60).2
theorem agg60 : Tryd.prog.underlying 60 = some (.array 1001 3) := by kernel_rfl
/-- the whole table out of its block -/
theorem load60 {w : World} {B : Nat} {f : Nat → Int} (h : Tot w B f) : (loadVar 60 ⟨B, 0, none⟩).run Tryd.prog w = .ok (.agg (row f)) w :=
  run_loadVar_row w B 60 60 (row f) (0, 0) _ h agg60 rfl (by rw [row_size]; exact size60)
/-- a whole table into its block -/
theorem store60 {w : World} {B : Nat} {f : Nat → Int} (g : Nat → Int) (h : Tot w B f) : (storeVar 60 ⟨B, 0, none⟩ (.agg (row g))).run Tryd.prog w = .ok () (w.setRow B (row g)) :=
  run_storeVar_row w B 60 60 (row f) (row g) h (by rw [row_size]; exact size60) (by rw [row_size, row_size]) (row_one g)
theorem Tot.stored {w : World} {B : Nat} {f : Nat → Int} (g : Nat → Int) (h : Tot w B f) : Tot (w.setRow B (row g)) B g := setRow_heap w B _ _ _ _ h
theorem Tot.beside {w : World} {B C : Nat} {f : Nat → Int} (c : Array Value) (h : Tot w B f) (hne : B ≠ C) : Tot (w.setRow C c) B f := (setRow_other w C B c hne).trans h

/-- the two, as the walk meets them -/
theorem wpList_load60 {ops : Array Oper} {rest : List Oper} {op : Oper} {a : Act} {w : World} {Q : Exit → Act → World → Prop} {B : Nat} {f : Nat → Int} (h : Tot w B f) (hgd : op.guard = none) (x : Operand) (ho : op.op = .load 60 x)
    (hx : a.eval x = .pointer (some ⟨B, 0, none⟩)) (k : wpList Tryd.prog ops Q rest (a.put op.dst (.agg (row f))) w) : wpList Tryd.prog ops Q (op :: rest) a w :=
  wpList_plain hgd fun _ hK => by
    unfold Oper.wp execOp
    simp only [ho, hx, Instr.loadAt, Instr.sureAddr, Sem.run_bind, Sem.run_pure, Result.andThen_ok, load60 h]
    exact hK _ _ k
theorem wpList_store60 {ops : Array Oper} {rest : List Oper} {op : Oper} {a : Act} {w : World} {Q : Exit → Act → World → Prop} {B : Nat} {f : Nat → Int} (g : Nat → Int) (h : Tot w B f) (hgd : op.guard = none) (x y : Operand) (ho : op.op = .store 60 x y)
    (hx : a.eval x = .pointer (some ⟨B, 0, none⟩)) (hy : a.eval y = .agg (row g)) (k : wpList Tryd.prog ops Q rest (a.put op.dst undef) (w.setRow B (row g))) : wpList Tryd.prog ops Q (op :: rest) a w :=
  wpList_plain hgd fun _ hK => by
    unfold Oper.wp execOp
    simp only [ho, hx, hy, Instr.storeAt, Instr.sureAddr, Sem.run_bind, Sem.run_pure, Result.andThen_ok, store60 g h]
    exact hK _ _ k
end Go.Proofs.YtfdapfegidbijaaDoor
