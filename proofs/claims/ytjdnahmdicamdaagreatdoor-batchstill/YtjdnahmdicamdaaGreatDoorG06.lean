/- Purses in memory: a block of 48 numbers, read, written, loaded and stored whole. -/
import Derived.Deep.WholeRow
import Derived.Laws.CopyOwn
import Derived.Deep.MidRow
import Derived.Test.YtjdnahmdicamdaaGreatDoorG05
namespace Go.Proofs.YtjdnahmdicamdaaGreatDoor
open Go.RowKit
set_option maxRecDepth 100000

def p_row (f : Nat → Int) : Array Value := Array.ofFn (n := 48) fun i => Value.int .i64 (f i.val)
theorem p_row_size (f : Nat → Int) : (p_row f).size = 48 := by simp [p_row]
theorem p_row_at (f : Nat → Int) {i : Nat} (h : i < 48) : (p_row f)[i]? = some (.int .i64 (f i)) := by
  unfold p_row; rw [Array.getElem?_ofFn]; simp [h]
theorem p_row_one (f : Nat → Int) : (p_row f).all (·.oneCell') = true := by
  rw [Array.all_eq_true]
  intro i hi
  simp only [p_row, Array.getElem_ofFn]
  rfl
theorem p_row_congr {f g : Nat → Int} (h : ∀ i, i < 48 → f i = g i) : p_row f = p_row g := by
  unfold p_row
  congr 1
  funext i
  rw [h i.val i.isLt]
theorem p_row_set (f : Nat → Int) {i : Nat} (v : Int) : (p_row f).setIfInBounds i (.int .i64 v) = p_row (fun j => if j = i then v else f j) := by
  apply Array.ext_getElem?
  intro j
  by_cases hj : j < 48
  · rw [p_row_at _ hj]
    by_cases e : i = j
    · subst e
      rw [Array.getElem?_setIfInBounds_self_of_lt (by rw [p_row_size]; exact hj)]
      simp
    · rw [Array.getElem?_setIfInBounds_ne e, p_row_at _ hj]
      have : ¬ j = i := fun h => e h.symm
      simp [this]
  · rw [Array.getElem?_eq_none (by rw [Array.size_setIfInBounds, p_row_size]; omega), Array.getElem?_eq_none (by rw [p_row_size]; omega)]
theorem p_row_zero : p_row (fun _ => 0) = Array.replicate 48 (.int .i64 0) := by
  apply Array.ext_getElem?
  intro j
  by_cases hj : j < 48
  · rw [p_row_at _ hj, Array.getElem?_replicate]; simp [hj]
  · rw [Array.getElem?_eq_none (by rw [p_row_size]; omega), Array.getElem?_eq_none (by simp; omega)]

/-- a purse at a block of a type -/
def Purse (w : World) (T : TypeId) (B : Nat) (f : Nat → Int) : Prop := w.heap[B]? = some (.cells (p_row f) T (0, 0))
theorem Purse.cell {w : World} {T : TypeId} {B : Nat} {f : Nat → Int} (h : Purse w T B f) {i : Nat} (hi : i < 48) : w.cell? ⟨B, i, none⟩ = some (.int .i64 (f i)) := by
  rw [cell_of_row w B i _ _ _ h, p_row_at f hi]
theorem Purse.frozen {w : World} {T : TypeId} {B : Nat} {f : Nat → Int} (h : Purse w T B f) (i : Nat) : w.frozen? ⟨B, i, none⟩ = false := by
  simp [World.frozen?, show w.heap[B]? = _ from h]
theorem Purse.lt {w : World} {T : TypeId} {B : Nat} {f : Nat → Int} (h : Purse w T B f) : B < w.heap.size := (Array.getElem?_eq_some_iff.1 h).1
theorem Purse.later {w w' : World} {T : TypeId} {B n : Nat} {f : Nat → Int} (h : Purse w T B f) (hb : Below n w w') (hn : B < n) : Purse w' T B f := (hb.block B hn).trans h
theorem Purse.set {w : World} {T : TypeId} {B : Nat} {f : Nat → Int} (h : Purse w T B f) (i : Nat) (v : Int) : Purse (w.setCell ⟨B, i, none⟩ (.int .i64 v)) T B (fun j => if j = i then v else f j) := by
  unfold Purse at h ⊢
  rw [setCell_eq_setRow w B i _ _ _ _ h, p_row_set]
  exact setRow_heap w B _ _ _ _ h
theorem Purse.congr {w : World} {T : TypeId} {B : Nat} {f g : Nat → Int} (h : Purse w T B f) (e : ∀ i, i < 48 → f i = g i) : Purse w T B g := by
  unfold Purse at h ⊢; rw [← p_row_congr e]; exact h
theorem Purse.add {w : World} {T : TypeId} {B : Nat} {f : Nat → Int} (h : Purse w T B f) (i : Nat) (v u : Int) (e : u = f i + v) : Purse (w.setCell ⟨B, i, none⟩ (.int .i64 u)) T B (Pu.add f i v) :=
  (h.set i u).congr fun j _ => by
    unfold Pu.add
    split
    · rename_i hj; rw [hj]; exact e
    · rfl
theorem Purse.other {w : World} {T : TypeId} {B : Nat} {f : Nat → Int} (h : Purse w T B f) {a : Addr} (ha : B ≠ a.block) (v : Value) : Purse (w.setCell a v) T B f :=
  (Below.heap_setCell w a v B ha).trans h
theorem Purse.alloc {w : World} {T : TypeId} {B : Nat} {f : Nat → Int} (h : Purse w T B f) (o : Obj) : Purse (w.alloc o) T B f := (Below.heap_alloc w o B h.lt).trans h
theorem Purse.new (w : World) (T : TypeId) (f : Nat → Int) : Purse (w.alloc (.cells (p_row f) T)) T w.heap.size f := heap_alloc_last w _
theorem Purse.drew {w : World} {T : TypeId} {B : Nat} {f : Nat → Int} (h : Purse w T B f) (n : Nat) : Purse (w.drewN n) T B f := h
/-- behind eight stores at a client's place -/
theorem Purse.put8 {w : World} {T : TypeId} {B : Nat} {f : Nat → Int} (h : Purse w T B f) (c : Nat) (v0 v1 v2 v3 v4 v5 v6 v7 : Int) :
    Purse ((((((((w.setCell ⟨B, c * 8, none⟩ (.int .i64 v0)).setCell ⟨B, c * 8 + 1, none⟩ (.int .i64 v1)).setCell ⟨B, c * 8 + 2, none⟩ (.int .i64 v2)).setCell ⟨B, c * 8 + 3, none⟩ (.int .i64 v3)).setCell ⟨B, c * 8 + 4, none⟩ (.int .i64 v4)).setCell ⟨B, c * 8 + 5, none⟩ (.int .i64 v5)).setCell ⟨B, c * 8 + 6, none⟩ (.int .i64 v6)).setCell ⟨B, c * 8 + 7, none⟩ (.int .i64 v7)) T B
      (fun j => if j = c * 8 + 7 then v7 else if j = c * 8 + 6 then v6 else if j = c * 8 + 5 then v5 else if j = c * 8 + 4 then v4 else if j = c * 8 + 3 then v3 else if j = c * 8 + 2 then v2 else if j = c * 8 + 1 then v1 else if j = c * 8 then v0 else f j) :=
  (((((((h.set _ v0).set _ v1).set _ v2).set _ v3).set _ v4).set _ v5).set _ v6).set _ v7

theorem info55 : (Tryz.prog.info? 105).map (fun i => (i.zero, i.size)) = some (some (.agg (Array.replicate 48 (.int .i64 0))), 48) := by kernel_rfl
theorem info32 : (Tryz.prog.info? 131).map (fun i => (i.zero, i.size)) = some (some (.agg (Array.replicate 48 (.int .i64 0))), 48) := by kernel_rfl
theorem zero55 (w : World) : (zeroValue 105).run Tryz.prog w = .ok (.agg (p_row fun _ => 0)) w := by rw [p_row_zero]; exact (zero_of_info info55).1 w
theorem size55 : (Tryz.prog.info? 105).map (·.size) = some 48 := (zero_of_info info55).2
theorem info53 : (Tryz.prog.info? 66).map (fun i => (i.zero, i.size)) = some (some (.agg (Array.replicate 48 (.int .i64 0))), 48) := by kernel_rfl
theorem size53 : (Tryz.prog.info? 66).map (·.size) = some 48 := (zero_of_info info53).2
theorem zero32 (w : World) : (zeroValue 131).run Tryz.prog w = .ok (.agg (p_row fun _ => 0)) w := by rw [p_row_zero]; exact (zero_of_info info32).1 w
/-- the whole purse out of its block -/
theorem load55 {w : World} {B : Nat} {f : Nat → Int} (h : Purse w 105 B f) : (loadVar 105 ⟨B, 0, none⟩).run Tryz.prog w = .ok (.agg (p_row f)) w :=
  run_loadVar_row w B 105 105 (p_row f) (0, 0) _ h Tryz.underlying105 rfl (by rw [p_row_size]; exact size55)
theorem load53 {w : World} {B : Nat} {f : Nat → Int} (h : Purse w 105 B f) : (loadVar 66 ⟨B, 0, none⟩).run Tryz.prog w = .ok (.agg (p_row f)) w :=
  run_loadVar_row w B 105 66 (p_row f) (0, 0) _ h Tryz.underlying66 rfl (by rw [p_row_size]; exact size53)
/-- a whole purse into its block -/
theorem store55 {w : World} {B : Nat} {f : Nat → Int} (g : Nat → Int) (h : Purse w 105 B f) : (storeVar 105 ⟨B, 0, none⟩ (.agg (p_row g))).run Tryz.prog w = .ok () (w.setRow B (p_row g)) :=
  run_storeVar_row w B 105 105 (p_row f) (p_row g) h (by rw [p_row_size]; exact size55) (by rw [p_row_size, p_row_size]) (p_row_one g)
theorem Purse.stored {w : World} {B : Nat} {T : TypeId} {f : Nat → Int} (g : Nat → Int) (h : Purse w T B f) : Purse (w.setRow B (p_row g)) T B g := setRow_heap w B _ _ _ _ h
theorem Purse.beside {w : World} {B C : Nat} {T : TypeId} {f : Nat → Int} (c : Array Value) (h : Purse w T B f) (hne : B ≠ C) : Purse (w.setRow C c) T B f := (setRow_other w C B c hne).trans h
/-- the three, as the walk meets them -/
theorem wpList_load55 {ops : Array Oper} {rest : List Oper} {op : Oper} {a : Act} {w : World} {Q : Exit → Act → World → Prop} {B : Nat} {f : Nat → Int} (h : Purse w 105 B f) (hgd : op.guard = none) (x : Operand) (ho : op.op = .load 105 x)
    (hx : a.eval x = .pointer (some ⟨B, 0, none⟩)) (k : wpList Tryz.prog ops Q rest (a.put op.dst (.agg (p_row f))) w) : wpList Tryz.prog ops Q (op :: rest) a w :=
  wpList_plain hgd fun _ hK => by
    unfold Oper.wp execOp
    simp only [ho, hx, Instr.loadAt, Instr.sureAddr, Sem.run_bind, Sem.run_pure, Result.andThen_ok, load55 h]
    exact hK _ _ k
theorem wpList_load53 {ops : Array Oper} {rest : List Oper} {op : Oper} {a : Act} {w : World} {Q : Exit → Act → World → Prop} {B : Nat} {f : Nat → Int} (h : Purse w 105 B f) (hgd : op.guard = none) (x : Operand) (ho : op.op = .load 66 x)
    (hx : a.eval x = .pointer (some ⟨B, 0, none⟩)) (k : wpList Tryz.prog ops Q rest (a.put op.dst (.agg (p_row f))) w) : wpList Tryz.prog ops Q (op :: rest) a w :=
  wpList_plain hgd fun _ hK => by
    unfold Oper.wp execOp
    simp only [ho, hx, Instr.loadAt, Instr.sureAddr, Sem.run_bind, Sem.run_pure, Result.andThen_ok, load53 h]
    exact hK _ _ k
theorem wpList_store55 {ops : Array Oper} {rest : List Oper} {op : Oper} {a : Act} {w : World} {Q : Exit → Act → World → Prop} {B : Nat} {f : Nat → Int} (g : Nat → Int) (h : Purse w 105 B f) (hgd : op.guard = none) (x y : Operand) (ho : op.op = .store 105 x y)
    (hx : a.eval x = .pointer (some ⟨B, 0, none⟩)) (hy : a.eval y = .agg (p_row g)) (k : wpList Tryz.prog ops Q rest (a.put op.dst undef) (w.setRow B (p_row g))) : wpList Tryz.prog ops Q (op :: rest) a w :=
  wpList_plain hgd fun _ hK => by
    unfold Oper.wp execOp
    simp only [ho, hx, hy, Instr.storeAt, Instr.sureAddr, Sem.run_bind, Sem.run_pure, Result.andThen_ok, store55 g h]
    exact hK _ _ k
end Go.Proofs.YtjdnahmdicamdaaGreatDoor
/- The small functions of package purse by their contracts: grow, isClient, isBelowZero, isWell, asked. -/
namespace Go.Proofs.YtjdnahmdicamdaaGreatDoor
open Go.RowKit
set_option maxRecDepth 100000

theorem grow_no (B o : Nat) (t more most : Int) (w : World) (hc : w.cell? ⟨B, o, none⟩ = some (.int .i64 t)) (h0 : 0 ≤ t) (h1 : t ≤ most) (h2 : most ≤ 1099511627776) (h : most - t < more) :
    Calls Tryz.prog 75 #[.pointer (some ⟨B, o, none⟩), .int .i64 more, .int .i64 most] w fun e w' => e = .returned (.bool false) ∧ w' = w := by
  go_enter Tryz.func75, Tryz.ntmps75
  go_wp2
  go_ret
  exact ⟨rfl, rfl⟩
theorem grow_yes (B o : Nat) (t more most : Int) (w : World) (hc : w.cell? ⟨B, o, none⟩ = some (.int .i64 t)) (hf : w.frozen? ⟨B, o, none⟩ = false) (h0 : 0 ≤ t) (h1 : t ≤ most) (h2 : most ≤ 1099511627776) (h3 : 0 ≤ more) (h : ¬ most - t < more) :
    Calls Tryz.prog 75 #[.pointer (some ⟨B, o, none⟩), .int .i64 more, .int .i64 most] w fun e w' => e = .returned (.bool true) ∧ w' = w.setCell ⟨B, o, none⟩ (.int .i64 (t + more)) := by
  go_enter Tryz.func75, Tryz.ntmps75
  go_wp2
  go_ret
  exact ⟨rfl, rfl⟩
theorem isClient_any (n : Int) (w : World) : Calls Tryz.prog 54 #[.int .i64 n] w fun e w' => e = .returned (.bool (Wi.withinB n 0 5)) ∧ w' = w := by
  go_enter Tryz.func54, Tryz.ntmps54
  go_wp2_with fail
  refine (within_any n 0 5 w).mono ?_
  rintro e w2 ⟨rfl, rfl⟩
  simp only []
  go_wp2
  go_ret
  exact ⟨rfl, rfl⟩
theorem ix0 (a b c : Int) (w : World) : (Instr.index 41 (.agg #[.int .i64 a, .int .i64 b, .int .i64 c]) (.int .i64 0)).run Tryz.prog w = .ok (.int .i64 a) w := by kernel_rfl
theorem ix1 (a b c : Int) (w : World) : (Instr.index 41 (.agg #[.int .i64 a, .int .i64 b, .int .i64 c]) (.int .i64 1)).run Tryz.prog w = .ok (.int .i64 b) w := by kernel_rfl
theorem ix2 (a b c : Int) (w : World) : (Instr.index 41 (.agg #[.int .i64 a, .int .i64 b, .int .i64 c]) (.int .i64 2)).run Tryz.prog w = .ok (.int .i64 c) w := by kernel_rfl
set_option maxHeartbeats 1000000 in
theorem below_any (cash s0 s1 s2 : Int) (w : World) : Calls Tryz.prog 74 #[.int .i64 cash, .agg #[.int .i64 s0, .int .i64 s1, .int .i64 s2]] w fun e w' => e = .returned (.bool (decide (s0 < 0) || decide (s1 < 0) || decide (s2 < 0) || decide (cash < 0))) ∧ Below w.heap.size w w' := by
  have hb : Hid (Below w.heap.size w (w.alloc (.cells #[.int .i64 s0, .int .i64 s1, .int .i64 s2] 41))) := (Below.refl _ _).alloc (Nat.le_refl _) _
  have i0 := @ix0
  have i1 := @ix1
  have i2 := @ix2
  by_cases h0 : s0 < 0
  · go_enter Tryz.func74, Tryz.ntmps74
    go_wp2
    refine wp_loop_rounds 1 ?_
    rw [rounds_succ]
    go_wp2
    go_ret
    exact ⟨ret_bool (by simp [h0]), hb.out⟩
  by_cases h1 : s1 < 0
  · go_enter Tryz.func74, Tryz.ntmps74
    go_wp2
    refine wp_loop_rounds 2 ?_
    rw [rounds_succ]
    go_wp2
    rw [rounds_succ]
    go_wp2
    go_ret
    exact ⟨ret_bool (by simp [h1]), hb.out⟩
  by_cases h2 : s2 < 0
  · go_enter Tryz.func74, Tryz.ntmps74
    go_wp2
    refine wp_loop_rounds 3 ?_
    rw [rounds_succ]
    go_wp2
    rw [rounds_succ]
    go_wp2
    rw [rounds_succ]
    go_wp2
    go_ret
    exact ⟨ret_bool (by simp [h2]), hb.out⟩
  · have H : Hid (¬ s0 < 0 ∧ ¬ s1 < 0 ∧ ¬ s2 < 0) := ⟨h0, h1, h2⟩
    go_enter Tryz.func74, Tryz.ntmps74
    go_wp2
    refine wp_loop_rounds 4 ?_
    rw [rounds_succ]
    go_wp2
    rw [rounds_succ]
    go_wp2
    rw [rounds_succ]
    go_wp2
    rw [rounds_succ]
    go_wp2
    go_ret
    exact ⟨ret_bool (by obtain ⟨a, b, c⟩ := H.out; simp [show ¬ s0 < 0 by omega, show ¬ s1 < 0 by omega, show ¬ s2 < 0 by omega]), hb.out⟩

/-- a list of one lot is well just if the lot is -/
theorem p_well_one (x : Cv.Lot) : Cv.okAt [x] 0 = Cv.ok x := by simp [Cv.okAt, Cv.nth, Cv.has]
set_option maxHeartbeats 1000000 in
theorem isWell_any (item : Int) (x : Cv.Lot) (T : TypeId) (v1 v6 v7 : Value) (w : World) (he : Hid (Er w T v1 v6 v7)) :
    Calls Tryz.prog 77 #[.int .i64 item, lotV x] w fun e w' => e = .returned (.bool (Pu.well item x)) ∧ Below w.heap.size w w' := by
  show Calls Tryz.prog 77 #[.int .i64 item, .agg #[.int .i64 x.id, .int .i64 x.ow, .int .i64 x.sd, .int .i64 x.pr, .int .i64 x.q]] w _
  have hb1 : Below w.heap.size w (w.alloc (.cells #[.int .i64 x.id, .int .i64 x.ow, .int .i64 x.sd, .int .i64 x.pr, .int .i64 x.q] 56)) := (Below.refl _ _).alloc (Nat.le_refl _) _
  have hb2 : Below w.heap.size w ((w.alloc (.cells #[.int .i64 x.id, .int .i64 x.ow, .int .i64 x.sd, .int .i64 x.pr, .int .i64 x.q] 56)).alloc (.cells #[.int .i64 x.id, .int .i64 x.ow, .int .i64 x.sd, .int .i64 x.pr, .int .i64 x.q] 56)) := hb1.alloc hb1.size _
  have HB1 := hide hb1; have HB2 := hide hb2
  have HC := hide (check_some (w.heap.size + 1) 0 1 1 [x] T v1 v6 v7 ((w.alloc (.cells #[.int .i64 x.id, .int .i64 x.ow, .int .i64 x.sd, .int .i64 x.pr, .int .i64 x.q] 56)).alloc (.cells #[.int .i64 x.id, .int .i64 x.ow, .int .i64 x.sd, .int .i64 x.pr, .int .i64 x.q] 56)) rfl (by decide) (by decide) (by
    intro i hi
    have : i = 0 := by simp at hi; omega
    subst this
    refine ⟨?_, ?_, ?_, ?_, ?_⟩ <;> simp [Cv.nth]) (he.out.later hb2))
  clear hb1 hb2
  cases hw : Wi.withinB item 0 2 with
  | false =>
    have HW : Hid (Pu.well item x = false) := by show _ = _; unfold Pu.well; rw [hw]; rfl
    have HI := hide (within_any item 0 2 (w.alloc (.cells #[.int .i64 x.id, .int .i64 x.ow, .int .i64 x.sd, .int .i64 x.pr, .int .i64 x.q] 56)))
    rw [hw] at HI
    clear hw
    go_enter Tryz.func77, Tryz.ntmps77
    go_wp2_with fail
    refine HI.out.mono ?_
    rintro e w2 ⟨rfl, rfl⟩
    simp only []
    go_wp2
    go_ret
    exact ⟨ret_bool HW.out.symm, HB1.out⟩
  | true =>
    have HW : Hid (Pu.well item x = Cv.ok x) := by show _ = _; unfold Pu.well; rw [hw]; rfl
    have HI := hide (within_any item 0 2 (w.alloc (.cells #[.int .i64 x.id, .int .i64 x.ow, .int .i64 x.sd, .int .i64 x.pr, .int .i64 x.q] 56)))
    rw [hw] at HI
    clear hw
    go_enter Tryz.func77, Tryz.ntmps77
    go_wp2_with fail
    refine HI.out.mono ?_
    rintro e w2 ⟨rfl, rfl⟩
    simp only []
    go_wp2_with fail
    refine HC.out.mono ?_
    rintro e w3 ⟨h3, hb3⟩
    have HB3 : Hid (Below w.heap.size w w3) := HB2.out.trans (hb3.mono HB2.out.size)
    rcases h3 with ⟨hwl, rfl⟩ | ⟨i, B, hi, _, hno, rfl, _⟩
    · have HO : Hid (Cv.ok x = true) := by show _ = _; rw [← p_well_one]; exact hwl 0 (by decide)
      clear hwl hb3
      simp only []
      go_wp2
      go_ret
      exact ⟨ret_bool (by rw [HW.out, HO.out]), HB3.out⟩
    · have HO : Hid (Cv.ok x = false) := by
        show _ = _
        have : i = 0 := by omega
        subst this
        rw [← p_well_one]; exact hno
      clear hno hi hb3
      simp only []
      go_wp2
      go_ret
      exact ⟨ret_bool (by rw [HW.out, HO.out]), HB3.out⟩
end Go.Proofs.YtjdnahmdicamdaaGreatDoor
/- asked, Hold and Free of a purse by their contracts. -/
namespace Go.Proofs.YtjdnahmdicamdaaGreatDoor
open Go.RowKit
set_option maxRecDepth 100000

/-- an error by its number -/
def errE (v : Nat → Value) : Nat → Value
  | 0 => .nilIface
  | c + 1 => .iface 252 (v (c + 1))
/-- what the errors that a purse answers hold -/
structure PEr (w : World) (v : Nat → Value) : Prop where
  er : Er w 252 (v 1) (v 6) (v 7)
  c9 : w.cell? ⟨5, 0, none⟩ = some (.iface 252 (v 9))
theorem PEr.later {w w' : World} {v : Nat → Value} (h : PEr w v) (hb : Below w.heap.size w w') : PEr w' v := ⟨h.er.later hb, cell_later hb h.c9⟩

theorem Purse.lat {w w' : World} {T : TypeId} {B : Nat} {f : Nat → Int} (h : Purse w T B f) (hb : Below w.heap.size w w') : Purse w' T B f := h.later hb h.lt

/-- of the old blocks one may have turned, no other one -/
structure Save (w w' : World) (p : Nat) : Prop where
  os : w'.os = w.os
  tape : w'.tape = w.tape
  output : w'.output = w.output
  size : w.heap.size ≤ w'.heap.size
  block : ∀ k, k < w.heap.size → k ≠ p → w'.heap[k]? = w.heap[k]?
theorem Save.of_below {w w' : World} (h : Below w.heap.size w w') (p : Nat) : Save w w' p := ⟨h.os, h.tape, h.output, h.size, fun k hk _ => h.block k hk⟩
theorem Save.trans {w w1 w2 : World} {p : Nat} (h : Save w w1 p) (h1 : Save w1 w2 p) : Save w w2 p :=
  ⟨h1.os.trans h.os, h1.tape.trans h.tape, h1.output.trans h.output, Nat.le_trans h.size h1.size, fun k hk ha => by rw [h1.block k (Nat.lt_of_lt_of_le hk h.size) ha]; exact h.block k hk ha⟩
theorem Save.below {w w' : World} {p n : Nat} (h : Save w w' p) (hn : n ≤ w.heap.size) (hp : n ≤ p) : Below n w w' := ⟨h.os, h.tape, h.output, h.size, fun k hk => h.block k (by omega) (by omega)⟩
theorem Save.setCell (w : World) (g o : Nat) (v : Value) : Save w (w.setCell ⟨g, o, none⟩ v) g := ⟨rfl, rfl, rfl, by simp, fun k _ ha => Below.heap_setCell _ _ _ _ ha⟩
theorem Purse.save {w w' : World} {T : TypeId} {B p : Nat} {f : Nat → Int} (h : Purse w T B f) (hs : Save w w' p) (hne : B ≠ p) : Purse w' T B f := (hs.block B h.lt hne).trans h
theorem cell_save {w w' : World} {p : Nat} {a : Addr} {v : Value} (hs : Save w w' p) (h : w.cell? a = some v) (hne : a.block ≠ p) : w'.cell? a = some v :=
  (World.cell?_of_block (hs.block a.block (World.block_lt_of_cell? w a h) hne)).trans h
theorem PEr.save {w w' : World} {v : Nat → Value} {p : Nat} (h : PEr w v) (hs : Save w w' p) (hp : 12 < p) : PEr w' v :=
  ⟨⟨cell_save hs h.er.c1 (by show 0 ≠ p; omega), cell_save hs h.er.c6 (by show 4 ≠ p; omega), cell_save hs h.er.c7 (by show 2 ≠ p; omega)⟩, cell_save hs h.c9 (by show 5 ≠ p; omega)⟩

set_option maxHeartbeats 1000000 in
theorem asked_any (p : Nat) (item : Int) (x : Cv.Lot) (f : Nat → Int) (w : World) (hp : Hid (Purse w 105 p f)) (hw : Hid (Pu.well item x = true)) :
    Calls Tryz.prog 78 #[.pointer (some ⟨p, 0, none⟩), .int .i64 item, lotV x] w fun e w' => e = .returned (.tuple #[.int .i64 (f (Pu.tx item x)), .pointer (some ⟨p, Pu.hx item x, none⟩), .int .i64 (Pu.mu x)]) ∧ Below w.heap.size w w' := by
  show Calls Tryz.prog 78 #[.pointer (some ⟨p, 0, none⟩), .int .i64 item, .agg #[.int .i64 x.id, .int .i64 x.ow, .int .i64 x.sd, .int .i64 x.pr, .int .i64 x.q]] w _
  obtain ⟨k, rfl, hk⟩ := Pu.well_item hw.out
  obtain ⟨c, hc, hc6⟩ := Pu.well_ow hw.out
  have hpl := hp.out.lt
  have hne : ¬ (w.heap.size = p) := by omega
  have hne' : ¬ (p = w.heap.size) := by omega
  have hbd := Cv.ok_bounds (Pu.well_ok hw.out)
  have hmu := Pu.mu_bounds (Pu.well_ok hw.out)
  have hbW : Below w.heap.size w (w.alloc (.cells #[.int .i64 x.id, .int .i64 c, .int .i64 x.sd, .int .i64 x.pr, .int .i64 x.q] 56)) := (Below.refl _ _).alloc (Nat.le_refl _) _
  have HBW := hide hbW
  clear hbW
  have hci : (c : Int) < 6 := by omega
  have hki : (k : Int) < 3 := by omega
  by_cases hs : x.sd = 0
  · have HX : Hid (Pu.tx k x = c * 8 ∧ Pu.hx k x = c * 8 + 1 ∧ Pu.mu x = x.pr * x.q) := by
      refine ⟨?_, ?_, ?_⟩
      · unfold Pu.tx; rw [if_pos hs]; omega
      · unfold Pu.hx; rw [if_pos hs]; omega
      · unfold Pu.mu; rw [if_pos hs]
    have hm : 1 ≤ x.pr * x.q ∧ x.pr * x.q ≤ 1000000 := by rw [← HX.out.2.2]; exact hmu
    obtain ⟨m1, m2⟩ := hm
    have c0 := hp.out.cell (i := c * 8) (by omega)
    have hsb : (x.sd == 0) = true := by simp [hs]
    clear hmu hbd hs
    rw [hc]
    go_enter Tryz.func78, Tryz.ntmps78
    go_wp2
    go_quiet (fail)
    go_wp2
    go_quiet (fail)
    go_wp2
    refine bodyPost_ret (v := .tuple #[.int .i64 (f (c * 8)), .pointer (some ⟨p, c * 8 + 1, none⟩), .int .i64 (x.pr * x.q)]) (by simp [results, Tryz.results78, go_sem]) rfl ⟨?_, ?_⟩
    · rw [HX.out.1, HX.out.2.1, HX.out.2.2]
    · exact (HBW.out.trans ((blw_drew _).mono HBW.out.size)).trans ((blw_drew _).mono (by simp))
  · have hs1 : x.sd = 1 := by omega
    have HX : Hid (Pu.tx k x = c * 8 + 2 + k ∧ Pu.hx k x = c * 8 + 5 + k ∧ Pu.mu x = x.q) := by
      refine ⟨?_, ?_, ?_⟩
      · unfold Pu.tx; rw [if_neg hs]; omega
      · unfold Pu.hx; rw [if_neg hs]; omega
      · unfold Pu.mu; rw [if_neg hs]
    have c0 := hp.out.cell (i := c * 8 + 2 + k) (by omega)
    have hsb : (x.sd == 0) = false := by simp [hs]
    clear hmu hbd hs hs1
    rw [hc]
    go_enter Tryz.func78, Tryz.ntmps78
    go_wp2
    go_quiet (fail)
    go_wp2
    go_quiet (fail)
    go_wp2
    refine bodyPost_ret (v := .tuple #[.int .i64 (f (c * 8 + 2 + k)), .pointer (some ⟨p, c * 8 + 5 + k, none⟩), .int .i64 x.q]) (by simp [results, Tryz.results78, go_sem]) rfl ⟨?_, ?_⟩
    · rw [HX.out.1, HX.out.2.1, HX.out.2.2]
    · exact (HBW.out.trans ((blw_drew _).mono HBW.out.size)).trans ((blw_drew _).mono (by simp))

set_option maxHeartbeats 1000000 in
theorem hold_any (p : Nat) (item : Int) (x : Cv.Lot) (f : Nat → Int) (v : Nat → Value) (w : World) (he : Hid (PEr w v)) (hp : Hid (Purse w 105 p f)) (hg : Hid (Pu.Good f)) :
    Calls Tryz.prog 41 #[.pointer (some ⟨p, 0, none⟩), .int .i64 item, lotV x] w fun e w' => e = .returned (errE v (Pu.holdC f item x)) ∧ Purse w' 105 p (Pu.holdF f item x) ∧ Save w w' p := by
  show Calls Tryz.prog 41 #[.pointer (some ⟨p, 0, none⟩), .int .i64 item, .agg #[.int .i64 x.id, .int .i64 x.ow, .int .i64 x.sd, .int .i64 x.pr, .int .i64 x.q]] w _
  have hbW : Below w.heap.size w (w.alloc (.cells #[.int .i64 x.id, .int .i64 x.ow, .int .i64 x.sd, .int .i64 x.pr, .int .i64 x.q] 56)) := (Below.refl _ _).alloc (Nat.le_refl _) _
  have HBW := hide hbW
  have HC := hide (isWell_any item x 252 _ _ _ _ (he.out.later hbW).er)
  have HX0 : Hid ((w.alloc (.cells #[.int .i64 x.id, .int .i64 x.ow, .int .i64 x.sd, .int .i64 x.pr, .int .i64 x.q] 56)).heap[w.heap.size]? = some (.cells #[.int .i64 x.id, .int .i64 x.ow, .int .i64 x.sd, .int .i64 x.pr, .int .i64 x.q] 56 (0, 0))) := heap_alloc_new _ _
  unfold lotV at HC
  clear hbW
  go_enter Tryz.func41, Tryz.ntmps41
  go_wp2_with fail
  refine HC.out.mono ?_
  rintro e w2 ⟨rfl, hb2⟩
  have HB : Hid (Below w.heap.size w w2) := HBW.out.trans (hb2.mono HBW.out.size)
  have hX : w2.heap[w.heap.size]? = some (.cells #[.int .i64 x.id, .int .i64 x.ow, .int .i64 x.sd, .int .i64 x.pr, .int .i64 x.q] 56 (0, 0)) := by
    rw [hb2.block _ (lt_of_block HX0.out)]; exact HX0.out
  have HX3 := hide hX
  have HP2 := hide (hp.out.lat HB.out)
  clear hb2 HC HBW HX0
  cases hok : Pu.well item x with
  | false =>
    have HA : Hid (Pu.holdC f item x = 1 ∧ Pu.holdF f item x = f) := by
      have e : Pu.holdC f item x = 1 := by unfold Pu.holdC; rw [hok]; rfl
      exact ⟨e, by unfold Pu.holdF; rw [e]; rfl⟩
    have e1 := (he.out.later HB.out).er.c1
    clear hok hX
    simp only []
    go_wp2
    go_ret
    exact ⟨by rw [HA.out.1]; rfl, by rw [HA.out.2]; exact HP2.out, Save.of_below HB.out p⟩
  | true =>
    have HOK := hide hok
    clear hok
    have HQ := hide (asked_any p item x f w2 HP2.out HOK.out)
    unfold lotV at HQ
    have b0 : w2.cell? ⟨w.heap.size, 0, none⟩ = some (.int .i64 x.id) := by simp [World.cell?, hX]
    have b1 : w2.cell? ⟨w.heap.size, 1, none⟩ = some (.int .i64 x.ow) := by simp [World.cell?, hX]
    have b2 : w2.cell? ⟨w.heap.size, 2, none⟩ = some (.int .i64 x.sd) := by simp [World.cell?, hX]
    have b3 : w2.cell? ⟨w.heap.size, 3, none⟩ = some (.int .i64 x.pr) := by simp [World.cell?, hX]
    have b4 : w2.cell? ⟨w.heap.size, 4, none⟩ = some (.int .i64 x.q) := by simp [World.cell?, hX]
    clear hX
    simp only []
    go_wp2_with fail
    refine HQ.out.mono ?_
    rintro e w3 ⟨rfl, hb3⟩
    have HB3 : Hid (Below w.heap.size w w3) := HB.out.trans (hb3.mono HB.out.size)
    have HP3 := hide (HP2.out.lat hb3)
    clear hb3 HQ b0 b1 b2 b3 b4
    have hga := Pu.good_at hg.out HOK.out
    have hmu := Pu.mu_bounds (Pu.well_ok HOK.out)
    have hlt := Pu.place_lt HOK.out
    have ch := HP3.out.cell hlt.1
    have fh := HP3.out.frozen (Pu.hx item x)
    have HCD : Hid (Pu.holdC f item x = if f (Pu.tx item x) - f (Pu.hx item x) < Pu.mu x then 9 else 0) := by show _ = _; unfold Pu.holdC; rw [if_pos HOK.out]
    have HFD : Hid (Pu.holdF f item x = if Pu.holdC f item x = 0 then Pu.add f (Pu.hx item x) (Pu.mu x) else f) := rfl
    generalize Pu.hx item x = ih at *
    generalize hft : f (Pu.tx item x) = ft at *
    generalize hfh : f ih = fi at *
    generalize Pu.mu x = m at *
    have Hfh := hide hfh
    clear hft hfh
    obtain ⟨g0, g1, g2⟩ := hga
    obtain ⟨m0, m1⟩ := hmu
    by_cases hpo : ft - fi < m
    · have HA : Hid (Pu.holdC f item x = 9 ∧ Pu.holdF f item x = f) := by
        have e : Pu.holdC f item x = 9 := by rw [HCD.out, if_pos hpo]
        exact ⟨e, by rw [HFD.out, e]; rfl⟩
      have e9 := (he.out.later HB3.out).c9
      simp only []
      go_wp2
      go_ret
      exact ⟨by rw [HA.out.1]; rfl, by rw [HA.out.2]; exact HP3.out, Save.of_below HB3.out p⟩
    · have HA : Hid (Pu.holdC f item x = 0 ∧ Pu.holdF f item x = Pu.add f ih m) := by
        have e : Pu.holdC f item x = 0 := by rw [HCD.out, if_neg hpo]
        exact ⟨e, by rw [HFD.out, e]; rfl⟩
      simp only []
      go_wp2
      go_ret
      exact ⟨by rw [HA.out.1]; rfl, by rw [HA.out.2]; exact HP3.out.add _ _ _ (by rw [Hfh.out]), (Save.of_below HB3.out p).trans (Save.setCell _ _ _ _)⟩
set_option maxHeartbeats 1000000 in
theorem free_any (p : Nat) (item : Int) (x : Cv.Lot) (f : Nat → Int) (v : Nat → Value) (w : World) (he : Hid (PEr w v)) (hp : Hid (Purse w 105 p f)) (hg : Hid (Pu.Good f)) :
    Calls Tryz.prog 94 #[.pointer (some ⟨p, 0, none⟩), .int .i64 item, lotV x] w fun e w' => e = .returned (errE v (Pu.freeC f item x)) ∧ Purse w' 105 p (Pu.freeF f item x) ∧ Save w w' p := by
  show Calls Tryz.prog 94 #[.pointer (some ⟨p, 0, none⟩), .int .i64 item, .agg #[.int .i64 x.id, .int .i64 x.ow, .int .i64 x.sd, .int .i64 x.pr, .int .i64 x.q]] w _
  have hbW : Below w.heap.size w (w.alloc (.cells #[.int .i64 x.id, .int .i64 x.ow, .int .i64 x.sd, .int .i64 x.pr, .int .i64 x.q] 56)) := (Below.refl _ _).alloc (Nat.le_refl _) _
  have HBW := hide hbW
  have HC := hide (isWell_any item x 252 _ _ _ _ (he.out.later hbW).er)
  have HX0 : Hid ((w.alloc (.cells #[.int .i64 x.id, .int .i64 x.ow, .int .i64 x.sd, .int .i64 x.pr, .int .i64 x.q] 56)).heap[w.heap.size]? = some (.cells #[.int .i64 x.id, .int .i64 x.ow, .int .i64 x.sd, .int .i64 x.pr, .int .i64 x.q] 56 (0, 0))) := heap_alloc_new _ _
  unfold lotV at HC
  clear hbW
  go_enter Tryz.func94, Tryz.ntmps94
  go_wp2_with fail
  refine HC.out.mono ?_
  rintro e w2 ⟨rfl, hb2⟩
  have HB : Hid (Below w.heap.size w w2) := HBW.out.trans (hb2.mono HBW.out.size)
  have hX : w2.heap[w.heap.size]? = some (.cells #[.int .i64 x.id, .int .i64 x.ow, .int .i64 x.sd, .int .i64 x.pr, .int .i64 x.q] 56 (0, 0)) := by
    rw [hb2.block _ (lt_of_block HX0.out)]; exact HX0.out
  have HX3 := hide hX
  have HP2 := hide (hp.out.lat HB.out)
  clear hb2 HC HBW HX0
  cases hok : Pu.well item x with
  | false =>
    have HA : Hid (Pu.freeC f item x = 1 ∧ Pu.freeF f item x = f) := by
      have e : Pu.freeC f item x = 1 := by unfold Pu.freeC; rw [hok]; rfl
      exact ⟨e, by unfold Pu.freeF; rw [e]; rfl⟩
    have e1 := (he.out.later HB.out).er.c1
    clear hok hX
    simp only []
    go_wp2
    go_ret
    exact ⟨by rw [HA.out.1]; rfl, by rw [HA.out.2]; exact HP2.out, Save.of_below HB.out p⟩
  | true =>
    have HOK := hide hok
    clear hok
    have HQ := hide (asked_any p item x f w2 HP2.out HOK.out)
    unfold lotV at HQ
    have b0 : w2.cell? ⟨w.heap.size, 0, none⟩ = some (.int .i64 x.id) := by simp [World.cell?, hX]
    have b1 : w2.cell? ⟨w.heap.size, 1, none⟩ = some (.int .i64 x.ow) := by simp [World.cell?, hX]
    have b2 : w2.cell? ⟨w.heap.size, 2, none⟩ = some (.int .i64 x.sd) := by simp [World.cell?, hX]
    have b3 : w2.cell? ⟨w.heap.size, 3, none⟩ = some (.int .i64 x.pr) := by simp [World.cell?, hX]
    have b4 : w2.cell? ⟨w.heap.size, 4, none⟩ = some (.int .i64 x.q) := by simp [World.cell?, hX]
    clear hX
    simp only []
    go_wp2_with fail
    refine HQ.out.mono ?_
    rintro e w3 ⟨rfl, hb3⟩
    have HB3 : Hid (Below w.heap.size w w3) := HB.out.trans (hb3.mono HB.out.size)
    have HP3 := hide (HP2.out.lat hb3)
    clear hb3 HQ b0 b1 b2 b3 b4
    have hga := Pu.good_at hg.out HOK.out
    have hmu := Pu.mu_bounds (Pu.well_ok HOK.out)
    have hlt := Pu.place_lt HOK.out
    have ch := HP3.out.cell hlt.1
    have fh := HP3.out.frozen (Pu.hx item x)
    have HCD : Hid (Pu.freeC f item x = if f (Pu.hx item x) < Pu.mu x then 9 else 0) := by show _ = _; unfold Pu.freeC; rw [if_pos HOK.out]
    have HFD : Hid (Pu.freeF f item x = if Pu.freeC f item x = 0 then Pu.add f (Pu.hx item x) (-(Pu.mu x)) else f) := rfl
    generalize Pu.hx item x = ih at *
    generalize hft : f (Pu.tx item x) = ft at *
    generalize hfh : f ih = fi at *
    generalize Pu.mu x = m at *
    have Hfh := hide hfh
    clear hft hfh
    obtain ⟨g0, g1, g2⟩ := hga
    obtain ⟨m0, m1⟩ := hmu
    by_cases hpo : fi < m
    · have HA : Hid (Pu.freeC f item x = 9 ∧ Pu.freeF f item x = f) := by
        have e : Pu.freeC f item x = 9 := by rw [HCD.out, if_pos hpo]
        exact ⟨e, by rw [HFD.out, e]; rfl⟩
      have e9 := (he.out.later HB3.out).c9
      simp only []
      go_wp2
      go_ret
      exact ⟨by rw [HA.out.1]; rfl, by rw [HA.out.2]; exact HP3.out, Save.of_below HB3.out p⟩
    · have HA : Hid (Pu.freeC f item x = 0 ∧ Pu.freeF f item x = Pu.add f ih (-m)) := by
        have e : Pu.freeC f item x = 0 := by rw [HCD.out, if_neg hpo]
        exact ⟨e, by rw [HFD.out, e]; rfl⟩
      simp only []
      go_wp2
      go_ret
      exact ⟨by rw [HA.out.1]; rfl, by rw [HA.out.2]; exact HP3.out.add _ _ _ (by rw [Hfh.out]; omega), (Save.of_below HB3.out p).trans (Save.setCell _ _ _ _)⟩
end Go.Proofs.YtjdnahmdicamdaaGreatDoor
/- New, Of and Copy of a purse by their contracts. -/
namespace Go.Proofs.YtjdnahmdicamdaaGreatDoor
open Go.RowKit
set_option maxRecDepth 100000

theorem Save.setRow (w : World) (g : Nat) (c : Array Value) : Save w (w.setRow g c) g := ⟨rfl, rfl, rfl, by simp [World.setRow], fun k _ ha => setRow_other w g k c ha⟩
theorem new_any (w : World) : Calls Tryz.prog 36 #[] w fun e w' => e = .returned (.pointer (some ⟨w.heap.size, 0, none⟩)) ∧ w' = w.alloc (.cells (p_row fun _ => 0) 105) := by
  have z55 := zero55
  go_enter Tryz.func36, Tryz.ntmps36
  go_wp2
  go_ret
  exact ⟨rfl, rfl⟩

/-- what a client has, as a value -/
def hasV (f : Nat → Int) (c : Nat) : Value := .agg #[.int .i64 (f (c * 8)), .int .i64 (f (c * 8 + 1)), .int .i64 (f (c * 8 + 2)), .int .i64 (f (c * 8 + 3)), .int .i64 (f (c * 8 + 4)), .int .i64 (f (c * 8 + 5)), .int .i64 (f (c * 8 + 6)), .int .i64 (f (c * 8 + 7))]
def ofV (f : Nat → Int) (n : Int) : Value := if Wi.withinB n 0 5 = true then hasV f n.toNat else hasV (fun _ => 0) 0
theorem ofV_in (f : Nat → Int) {c : Nat} (h : c < 6) : ofV f c = hasV f c := by
  unfold ofV
  rw [if_pos (by simp [Wi.withinB]; omega), Int.toNat_natCast]
set_option maxHeartbeats 1000000 in
theorem of_any (p : Nat) (n : Int) (f : Nat → Int) (w : World) (hp : Hid (Purse w 105 p f)) :
    Calls Tryz.prog 19 #[.pointer (some ⟨p, 0, none⟩), .int .i64 n] w fun e w' => e = .returned (ofV f n) ∧ Below w.heap.size w w' := by
  have hbW : Below w.heap.size w (w.alloc (.cells #[.int .i64 0, .int .i64 0, .int .i64 0, .int .i64 0, .int .i64 0, .int .i64 0, .int .i64 0, .int .i64 0] 60)) := (Below.refl _ _).alloc (Nat.le_refl _) _
  have HBW := hide hbW
  have HI := hide (isClient_any n (w.alloc (.cells #[.int .i64 0, .int .i64 0, .int .i64 0, .int .i64 0, .int .i64 0, .int .i64 0, .int .i64 0, .int .i64 0] 60)))
  clear hbW
  have hpl := hp.out.lt
  cases hin : Wi.withinB n 0 5 with
  | false =>
    have HO : Hid (ofV f n = hasV (fun _ => 0) 0) := by show _ = _; unfold ofV; rw [if_neg (by rw [hin]; simp)]
    rw [hin] at HI
    clear hin
    go_enter Tryz.func19, Tryz.ntmps19
    go_wp2_with fail
    refine HI.out.mono ?_
    rintro e w2 ⟨rfl, rfl⟩
    simp only []
    go_wp2
    refine bodyPost_ret (v := hasV (fun _ => 0) 0) (by simp [results, Tryz.results19, go_sem, hasV]) rfl ⟨by rw [HO.out], ?_⟩
    exact HBW.out
  | true =>
    obtain ⟨c, rfl, hc6⟩ : ∃ c : Nat, n = c ∧ c < 6 := by
      simp only [Wi.withinB, Bool.and_eq_true, decide_eq_true_eq] at hin
      exact ⟨n.toNat, by omega, by omega⟩
    have HO : Hid (ofV f c = hasV f c) := ofV_in f hc6
    rw [hin] at HI
    clear hin
    have hci : (c : Int) < 6 := by omega
    have c0 := hp.out.cell (i := c * 8) (by omega)
    have c1 := hp.out.cell (i := c * 8 + 1) (by omega)
    have c2 := hp.out.cell (i := c * 8 + 2) (by omega)
    have c3 := hp.out.cell (i := c * 8 + 3) (by omega)
    have c4 := hp.out.cell (i := c * 8 + 4) (by omega)
    have c5 := hp.out.cell (i := c * 8 + 5) (by omega)
    have c6 := hp.out.cell (i := c * 8 + 6) (by omega)
    have c7 := hp.out.cell (i := c * 8 + 7) (by omega)
    have hne : ¬ (w.heap.size = p) := by omega
    have hne' : ¬ (p = w.heap.size) := by omega
    go_enter Tryz.func19, Tryz.ntmps19
    go_wp2_with fail
    refine HI.out.mono ?_
    rintro e w2 ⟨rfl, rfl⟩
    simp only []
    go_wp2
    refine bodyPost_ret (v := hasV f c) (by simp [results, Tryz.results19, go_sem, hasV]) rfl ⟨by rw [HO.out], ?_⟩
    exact (Below.refl _ _).alloc (Nat.le_refl _) _

set_option maxHeartbeats 1000000 in
theorem p_copy_any (p : Nat) (f : Nat → Int) (w : World) (hp : Hid (Purse w 105 p f)) :
    Calls Tryz.prog 15 #[.pointer (some ⟨p, 0, none⟩)] w fun e w' => e = .returned (.pointer (some ⟨w.heap.size, 0, none⟩)) ∧ Purse w' 105 w.heap.size f ∧ Below w.heap.size w w' := by
  have z55 := zero55
  have HN : Hid (Purse (w.alloc (.cells (p_row fun _ => 0) 105)) 105 w.heap.size (fun _ => 0)) := Purse.new w 105 _
  go_enter Tryz.func15, Tryz.ntmps15
  go_wp2_with (first | refine wpList_load55 (B := p) (f := f) hp.out rfl (.tmp 5) rfl rfl ?_ | refine wpList_store55 (B := w.heap.size) f (f := fun _ => 0) HN.out rfl (.tmp 3) (.tmp 6) rfl rfl rfl ?_)
  go_ret
  exact ⟨rfl, HN.out.stored f, Save.below ((Save.of_below ((Below.refl _ _).alloc (Nat.le_refl _) _) _).trans (Save.setRow _ _ _)) (Nat.le_refl _) (Nat.le_refl _)⟩
end Go.Proofs.YtjdnahmdicamdaaGreatDoor
