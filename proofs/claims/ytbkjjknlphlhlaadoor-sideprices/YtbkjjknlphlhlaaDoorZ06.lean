/- What Check answers is what LotsFault says: faulted. -/
import Derived.Deep.WholeRow
import Derived.Laws.CopyOwn
import Derived.Deep.MidRow
import Derived.Test.YtbkjjknlphlhlaaDoorZ05
namespace Go.Proofs.YtbkjjknlphlhlaaDoor
open Go.RowKit
set_option maxRecDepth 100000

set_option maxHeartbeats 400000 in
theorem faulted_of (err : Value) (c at_ : Int) (w : World) (HC : Hid (∀ W, Below w.heap.size w W → Calls Tryd.prog 20 #[err] W fun e w' => e = .returned (.tuple #[.int .i64 c, .int .i64 at_]) ∧ Below W.heap.size W w')) :
    Calls Tryd.prog 9 #[err, .agg #[.int .i64 c, .int .i64 at_]] w fun e w' => e = .returned (.bool true) ∧ Below w.heap.size w w' := by
  go_enter Tryd.func9, Tryd.ntmps9
  go_wp2_with fail
  refine (HC.out _ ((Below.refl _ w).alloc (Nat.le_refl _) _)).mono ?_
  rintro e w2 ⟨rfl, hb2⟩
  have HB2 : Hid (Below w.heap.size w w2) := ((Below.refl _ w).alloc (Nat.le_refl _) _).trans (hb2.mono (by simp))
  have d0 : w2.cell? ⟨w.heap.size, 0, none⟩ = some (.int .i64 c) := by rw [hb2.cell (p := ⟨w.heap.size, 0, none⟩) (by simp)]; simp
  have d1 : w2.cell? ⟨w.heap.size, 1, none⟩ = some (.int .i64 at_) := by rw [hb2.cell (p := ⟨w.heap.size, 1, none⟩) (by simp)]; simp
  clear hb2
  simp only []
  go_wp2
  all_goals go_ret
  all_goals exact ⟨ret_bool (by simp), HB2.out⟩

/-- the error of lots that are not well: its value -/
def ErrIs (w : World) (ad : Nat → Addr) (l : List Cv.Lot) (e : Value) (c : Int) (at_ : Int) : Prop :=
  (120 < l.length ∧ e = .iface 145 (.pointer (some (ad 7))) ∧ c = 8 ∧ at_ = -1) ∨ (Cv.Well l ∧ e = .nilIface ∧ c = 0 ∧ at_ = -1) ∨
  (l.length ≤ 120 ∧ ∃ i B j : Nat, i < l.length ∧ Cv.WellTo l i ∧ Cv.okAt l i = false ∧ j < 12 ∧ c = (j : Int) + 1 ∧ badE (Cv.nth l i) = c ∧ at_ = i ∧ e = .iface 56 (.pointer (some ⟨B, 0, none⟩)) ∧ w.cell? ⟨B, 0, none⟩ = some (.int .i64 i) ∧ w.cell? ⟨B, 1, none⟩ = some (.iface 145 (.pointer (some (ad j)))))

theorem bad_unique {l : List Cv.Lot} {i j : Nat} (hi : Cv.WellTo l i) (hi' : Cv.okAt l i = false) (hj : Cv.WellTo l j) (hj' : Cv.okAt l j = false) : i = j := by
  rcases Nat.lt_trichotomy i j with h | h | h
  · rw [hj i h] at hi'; cases hi'
  · exact h
  · rw [hi j h] at hj'; cases hj'
theorem sent_er {w : World} {ad : Nat → Addr} (h : Sent w ad) : Er w 145 (.pointer (some (ad 1))) (.pointer (some (ad 6))) (.pointer (some (ad 7))) :=
  ⟨h.cell 1 (by decide), h.cell 6 (by decide), h.cell 7 (by decide)⟩

theorem check_tells (v : Value) (l : List Cv.Lot) (ad : Nat → Addr) (w : World) (hv : Lots w v l) (hs : Sent w ad) :
    Calls Tryd.prog 24 #[v] w fun e w' => (∃ x c at_, e = .returned x ∧ ErrIs w' ad l x c at_) ∧ Below w.heap.size w w' := by
  rcases hv with ⟨rfl, a, cap, rfl⟩ | ⟨b, off, cap, rfl, hcap, hl⟩
  · refine (check_none cap a w).mono ?_
    rintro e w' ⟨rfl, rfl⟩
    exact ⟨⟨_, 0, -1, rfl, .inr (.inl ⟨Cv.well_nil, rfl, rfl, rfl⟩)⟩, Below.refl _ _⟩
  · by_cases h : 120 < l.length
    · refine (check_full _ cap _ 145 _ _ _ w (sent_er hs) h).mono ?_
      rintro e w' ⟨rfl, rfl⟩
      exact ⟨⟨_, 8, -1, rfl, .inl ⟨h, rfl, rfl, rfl⟩⟩, Below.refl _ _⟩
    · refine (check_some b off cap _ l 145 _ _ _ w rfl (by omega) hcap hl (sent_er hs)).mono ?_
      rintro e w' ⟨h1 | ⟨i, B, hi, hw, hno, rfl, c0, c1⟩, hb⟩
      · exact ⟨⟨_, 0, -1, h1.2, .inr (.inl ⟨⟨by omega, h1.1⟩, rfl, rfl, rfl⟩)⟩, hb⟩
      · cases hok : Cv.ok (Cv.nth l i) with
        | true => exact ⟨⟨_, 7, i, rfl, .inr (.inr ⟨by omega, i, B, 6, hi, hw, hno, by decide, rfl, by unfold badE; rw [hok]; rfl, rfl, rfl, c0, by rw [c1, hok]; rfl⟩)⟩, hb⟩
        | false => exact ⟨⟨_, 2, i, rfl, .inr (.inr ⟨by omega, i, B, 1, hi, hw, hno, by decide, rfl, by unfold badE; rw [hok]; rfl, rfl, rfl, c0, by rw [c1, hok]; rfl⟩)⟩, hb⟩

/-- LotsFault says the same -/
theorem lotsFault_tells (v : Value) (l : List Cv.Lot) (w : World) (hv : Came w v l) :
    Calls Tryd.prog 7 #[v] w fun e w' => (∃ c at_ : Int, e = .returned (.agg #[.int .i64 c, .int .i64 at_]) ∧ ∀ W ad x c' at', ErrIs W ad l x c' at' → c' = c ∧ at' = at_) ∧ Below w.heap.size w w' := by
  have full : 120 < l.length → ∀ W ad x c' at', ErrIs W ad l x c' at' → c' = 8 ∧ at' = -1 := by
    rintro h W ad x c' at' (⟨_, _, h1, h2⟩ | ⟨hw, _⟩ | ⟨h1, _⟩)
    · exact ⟨h1, h2⟩
    · have := hw.1; omega
    · omega
  have fine : Cv.Well l → ∀ W ad x c' at', ErrIs W ad l x c' at' → c' = 0 ∧ at' = -1 := by
    rintro h W ad x c' at' (⟨h1, _⟩ | ⟨_, _, h1, h2⟩ | ⟨_, i, B, j, hi, _, hno, _⟩)
    · have := h.1; omega
    · exact ⟨h1, h2⟩
    · rw [h.2 i hi] at hno; cases hno
  have bad : l.length ≤ 120 → ∀ i, i < l.length → Cv.WellTo l i → Cv.okAt l i = false → ∀ W ad x c' at', ErrIs W ad l x c' at' → c' = badE (Cv.nth l i) ∧ at' = i := by
    rintro h i hi hw hno W ad x c' at' (⟨h1, _⟩ | ⟨h1, _⟩ | ⟨_, i', B, j, hi', hw', hno', _, _, he, ha, _⟩)
    · omega
    · rw [h1.2 i hi] at hno; cases hno
    · obtain rfl := bad_unique hw hno hw' hno'
      exact ⟨he.symm, ha⟩
  rcases hv with ⟨rfl, a, cap, rfl⟩ | ⟨g, cap, rfl, hl⟩
  · refine (lotsFault_none a cap w).mono ?_
    rintro e w' ⟨rfl, hb⟩
    exact ⟨⟨0, -1, rfl, fine Cv.well_nil⟩, hb⟩
  · by_cases h : 120 < l.length
    · refine (lotsFault_full _ _ cap w h).mono ?_
      rintro e w' ⟨rfl, hb⟩
      exact ⟨⟨8, -1, rfl, full h⟩, hb⟩
    · refine (lotsFault_some g _ cap l w rfl (by omega) hl).mono ?_
      rintro e w' ⟨h1 | ⟨i, hi, hw, hno, rfl⟩, hb⟩
      · exact ⟨⟨0, -1, h1.2, fine ⟨by omega, h1.1⟩⟩, hb⟩
      · exact ⟨⟨_, i, rfl, bad (by omega) i hi hw hno⟩, hb⟩

theorem faulted_tells (x : Value) (l : List Cv.Lot) (c at_ : Int) (ad : Nat → Addr) (w : World) (hs : Sent w ad) (hx : ErrIs w ad l x c at_) :
    Calls Tryd.prog 9 #[x, .agg #[.int .i64 c, .int .i64 at_]] w fun e w' => e = .returned (.bool true) ∧ Below w.heap.size w w' := by
  refine faulted_of x c at_ w fun W hb => ?_
  rcases hx with ⟨_, rfl, rfl, rfl⟩ | ⟨_, rfl, rfl, rfl⟩ | ⟨_, i, B, j, _, _, _, hj, rfl, _, rfl, rfl, c0, c1⟩
  · exact code_sent 7 (by decide) ad W (hs.later hb)
  · refine (code_nil W).mono ?_
    rintro e w' ⟨rfl, rfl⟩
    exact ⟨rfl, Below.refl _ _⟩
  · exact code_fault B 0 i j hj ad W (hs.later hb) (cell_later hb c0) (cell_later hb c1)
end Go.Proofs.YtbkjjknlphlhlaaDoor
namespace Go.Proofs.YtbkjjknlphlhlaaDoor
open Go.RowKit
set_option maxRecDepth 100000
theorem aside_plain (x : Addr) (W : World) (hg : Hid (W.cell? ⟨12, 0, none⟩ = some (.iface 124 (.agg #[.pointer (some ⟨13, 27, none⟩)])))) : Calls Tryd.prog 23 #[.iface 145 (.pointer (some x))] W fun e w' => e = .returned (.iface 145 (.pointer (some x))) ∧ Below W.heap.size W w' := by
  have hb : Below W.heap.size W (W.alloc (.cells #[.pointer none] 56)) := (Below.refl _ _).alloc (Nat.le_refl _) _
  obtain ⟨w1, hw1⟩ : ∃ w1, W.alloc (.cells #[.pointer none] 56) = w1 := ⟨_, rfl⟩
  rw [hw1] at hb
  have HAM := hide (fun t => as_miss x t w1 (cell_later hb hg.out))
  have HB := hide hb; have HW1 := hide hw1
  clear hb hw1
  go_enter Tryd.func23, Tryd.ntmps23
  go_wp2_with fail
  rw [HW1.out]
  refine (HAM.out _).mono ?_
  rintro e w2 ⟨rfl, hb2⟩
  have HB2 := hide (HB.out.trans (hb2.mono HB.out.size))
  clear hb2
  simp only []
  go_wp2
  go_ret
  exact ⟨rfl, HB2.out⟩
theorem aside_fault (B : Nat) (x : Addr) (W : World) (hg : Hid (W.cell? ⟨12, 0, none⟩ = some (.iface 124 (.agg #[.pointer (some ⟨13, 27, none⟩)])))) (hx : Hid (W.cell? ⟨B, 1, none⟩ = some (.iface 145 (.pointer (some x))))) : Calls Tryd.prog 23 #[.iface 56 (.pointer (some ⟨B, 0, none⟩))] W fun e w' => e = .returned (.iface 145 (.pointer (some x))) ∧ Below W.heap.size W w' := by
  have hb : Below W.heap.size W (W.alloc (.cells #[.pointer none] 56)) := (Below.refl _ _).alloc (Nat.le_refl _) _
  have hlt := World.block_lt_of_cell? _ _ hx.out
  have hc : (W.alloc (.cells #[.pointer none] 56)).cell? ⟨W.heap.size, 0, none⟩ = some (.pointer none) := by rw [World.cell?_alloc_at _ _ _ _ (by simp)]; rfl
  have hf : (W.alloc (.cells #[.pointer none] 56)).frozen? ⟨W.heap.size, 0, none⟩ = false := by
    have : (W.alloc (.cells #[.pointer none] 56)).heap[W.heap.size]? = some (.cells #[.pointer none] 56) := by show (W.heap.push _)[W.heap.size]? = _; simp
    unfold World.frozen?; rw [this]; rfl
  obtain ⟨w1, hw1⟩ : ∃ w1, W.alloc (.cells #[.pointer none] 56) = w1 := ⟨_, rfl⟩
  rw [hw1] at hb hc hf
  have HAH := hide (as_hit ⟨B, 0, none⟩ ⟨W.heap.size, 0, none⟩ (.pointer none) w1 (cell_later hb hg.out) hc hf)
  have HB := hide hb; have HW1 := hide hw1; have HC := hide hc
  have HX := hide (cell_later hb hx.out)
  have HLT : Hid (B < W.heap.size) := hide hlt
  clear hb hw1 hc hf hlt
  go_enter Tryd.func23, Tryd.ntmps23
  go_wp2_with fail
  rw [HW1.out]
  refine HAH.out.mono ?_
  rintro e w2 ⟨rfl, w3, hb3, rfl⟩
  have h0 : (w3.setCell ⟨W.heap.size, 0, none⟩ (.pointer (some ⟨B, 0, none⟩))).cell? ⟨W.heap.size, 0, none⟩ = some (.pointer (some ⟨B, 0, none⟩)) := by
    exact World.cell?_setCell_same' _ _ _ (by rw [cell_later hb3 HC.out]; rfl)
  have h1 : (w3.setCell ⟨W.heap.size, 0, none⟩ (.pointer (some ⟨B, 0, none⟩))).cell? ⟨B, 1, none⟩ = some (.iface 145 (.pointer (some x))) := by
    have hne : W.heap.size ≠ B := fun h => by have := HLT.out; omega
    have e : (w3.setCell ⟨W.heap.size, 0, none⟩ (.pointer (some ⟨B, 0, none⟩))).heap[B]? = w3.heap[B]? := by simp [World.setCell, Array.getElem?_modify, hne]
    have := cell_later hb3 HX.out
    unfold World.cell? at this ⊢
    rw [e]; exact this
  have hb4 : Below W.heap.size W (w3.setCell ⟨W.heap.size, 0, none⟩ (.pointer (some ⟨B, 0, none⟩))) := (HB.out.trans (hb3.mono HB.out.size)).setCell (p := ⟨W.heap.size, 0, none⟩) (Nat.le_refl _) _
  generalize w3.setCell ⟨W.heap.size, 0, none⟩ (.pointer (some ⟨B, 0, none⟩)) = w4 at *
  have H0 := hide h0; have H1 := hide h1; have HB4 := hide hb4
  clear h0 h1 hb4 hb3
  simp only []
  have h0 := H0.out; have h1 := H1.out
  go_wp2
  go_ret
  exact ⟨rfl, HB4.out⟩
end Go.Proofs.YtbkjjknlphlhlaaDoor
namespace Go.Proofs.YtbkjjknlphlhlaaDoor
open Go.RowKit
set_option maxRecDepth 100000

def row (f : Nat → Int) : Array Value := Array.ofFn (n := 1001) fun i => Value.int .i64 (f i.val)
theorem row_size (f : Nat → Int) : (row f).size = 1001 := by simp [row]
theorem row_at (f : Nat → Int) {i : Nat} (h : i < 1001) : (row f)[i]? = some (.int .i64 (f i)) := by
  unfold row; rw [Array.getElem?_ofFn]; simp [h]
theorem row_one (f : Nat → Int) : (row f).all (·.oneCell') = true := by
  rw [Array.all_eq_true]
  intro i hi
  simp only [row, Array.getElem_ofFn]
  rfl
theorem row_congr {f g : Nat → Int} (h : ∀ i, i < 1001 → f i = g i) : row f = row g := by
  unfold row
  congr 1
  funext i
  rw [h i.val i.isLt]
theorem row_set (f : Nat → Int) {i : Nat} (v : Int) : (row f).setIfInBounds i (.int .i64 v) = row (fun j => if j = i then v else f j) := by
  apply Array.ext_getElem?
  intro j
  by_cases hj : j < 1001
  · rw [row_at _ hj]
    by_cases e : i = j
    · subst e
      rw [Array.getElem?_setIfInBounds_self_of_lt (by rw [row_size]; exact hj)]
      simp
    · rw [Array.getElem?_setIfInBounds_ne e, row_at _ hj]
      have : ¬ j = i := fun h => e h.symm
      simp [this]
  · rw [Array.getElem?_eq_none (by rw [Array.size_setIfInBounds, row_size]; omega), Array.getElem?_eq_none (by rw [row_size]; omega)]
theorem row_zero : row (fun _ => 0) = Array.replicate 1001 (.int .i64 0) := by
  apply Array.ext_getElem?
  intro j
  by_cases hj : j < 1001
  · rw [row_at _ hj, Array.getElem?_replicate]; simp [hj]
  · rw [Array.getElem?_eq_none (by rw [row_size]; omega), Array.getElem?_eq_none (by simp; omega)]

/-- a table of the call's own, at a block -/
def Tot (w : World) (B : Nat) (f : Nat → Int) : Prop := w.heap[B]? = some (.cells (row f) 62 (0, 0))
theorem Tot.cell {w : World} {B : Nat} {f : Nat → Int} (h : Tot w B f) {i : Nat} (hi : i < 1001) : w.cell? ⟨B, i, none⟩ = some (.int .i64 (f i)) := by
  rw [cell_of_row w B i _ _ _ h, row_at f hi]
theorem Tot.frozen {w : World} {B : Nat} {f : Nat → Int} (h : Tot w B f) (i : Nat) : w.frozen? ⟨B, i, none⟩ = false := by
  simp [World.frozen?, show w.heap[B]? = _ from h]
theorem Tot.lt {w : World} {B : Nat} {f : Nat → Int} (h : Tot w B f) : B < w.heap.size := (Array.getElem?_eq_some_iff.1 h).1
theorem Tot.later {w w' : World} {B n : Nat} {f : Nat → Int} (h : Tot w B f) (hb : Below n w w') (hn : B < n) : Tot w' B f := (hb.block B hn).trans h
theorem Tot.set {w : World} {B : Nat} {f : Nat → Int} (h : Tot w B f) (i : Nat) (v : Int) : Tot (w.setCell ⟨B, i, none⟩ (.int .i64 v)) B (fun j => if j = i then v else f j) := by
  unfold Tot at h ⊢
  rw [setCell_eq_setRow w B i _ _ _ _ h, row_set]
  exact setRow_heap w B _ _ _ _ h
theorem Tot.congr {w : World} {B : Nat} {f g : Nat → Int} (h : Tot w B f) (e : ∀ i, i < 1001 → f i = g i) : Tot w B g := by
  unfold Tot at h ⊢; rw [← row_congr e]; exact h
theorem Tot.other {w : World} {B : Nat} {f : Nat → Int} (h : Tot w B f) {a : Addr} (ha : B ≠ a.block) (v : Value) : Tot (w.setCell a v) B f :=
  (Below.heap_setCell w a v B ha).trans h
theorem Tot.alloc {w : World} {B : Nat} {f : Nat → Int} (h : Tot w B f) (o : Obj) : Tot (w.alloc o) B f := (Below.heap_alloc w o B h.lt).trans h
theorem Tot.new (w : World) (f : Nat → Int) : Tot (w.alloc (.cells (row f) 62)) w.heap.size f := heap_alloc_last w _
theorem Tot.drew {w : World} {B : Nat} {f : Nat → Int} (h : Tot w B f) (n : Nat) : Tot (w.drewN n) B f := h

theorem info60 : (Tryd.prog.info? 62).map (fun i => (i.zero, i.size)) = some (some (.agg (Array.replicate 1001 (.int .i64 0))), 1001) := by kernel_rfl
theorem zero60 (w : World) : (zeroValue 62).run Tryd.prog w = .ok (.agg (row fun _ => 0)) w := by rw [row_zero]; exact (zero_of_info info60).1 w
theorem size60 : (Tryd.prog.info? 62).map (·.size) = some 1001 := (zero_of_info info60).2
theorem agg60 : Tryd.prog.underlying 62 = some (.array 1001 3) := by kernel_rfl
/-- the whole table out of its block -/
theorem load60 {w : World} {B : Nat} {f : Nat → Int} (h : Tot w B f) : (loadVar 62 ⟨B, 0, none⟩).run Tryd.prog w = .ok (.agg (row f)) w :=
  run_loadVar_row w B 62 62 (row f) (0, 0) _ h agg60 rfl (by rw [row_size]; exact size60)
/-- a whole table into its block -/
theorem store60 {w : World} {B : Nat} {f : Nat → Int} (g : Nat → Int) (h : Tot w B f) : (storeVar 62 ⟨B, 0, none⟩ (.agg (row g))).run Tryd.prog w = .ok () (w.setRow B (row g)) :=
  run_storeVar_row w B 62 62 (row f) (row g) h (by rw [row_size]; exact size60) (by rw [row_size, row_size]) (row_one g)
theorem Tot.stored {w : World} {B : Nat} {f : Nat → Int} (g : Nat → Int) (h : Tot w B f) : Tot (w.setRow B (row g)) B g := setRow_heap w B _ _ _ _ h
theorem Tot.beside {w : World} {B C : Nat} {f : Nat → Int} (c : Array Value) (h : Tot w B f) (hne : B ≠ C) : Tot (w.setRow C c) B f := (setRow_other w C B c hne).trans h

/-- the two, as the walk meets them -/
theorem wpList_load60 {ops : Array Oper} {rest : List Oper} {op : Oper} {a : Act} {w : World} {Q : Exit → Act → World → Prop} {B : Nat} {f : Nat → Int} (h : Tot w B f) (hgd : op.guard = none) (x : Operand) (ho : op.op = .load 62 x)
    (hx : a.eval x = .pointer (some ⟨B, 0, none⟩)) (k : wpList Tryd.prog ops Q rest (a.put op.dst (.agg (row f))) w) : wpList Tryd.prog ops Q (op :: rest) a w :=
  wpList_plain hgd fun _ hK => by
    unfold Oper.wp execOp
    simp only [ho, hx, Instr.loadAt, Instr.sureAddr, Sem.run_bind, Sem.run_pure, Result.andThen_ok, load60 h]
    exact hK _ _ k
theorem wpList_store60 {ops : Array Oper} {rest : List Oper} {op : Oper} {a : Act} {w : World} {Q : Exit → Act → World → Prop} {B : Nat} {f : Nat → Int} (g : Nat → Int) (h : Tot w B f) (hgd : op.guard = none) (x y : Operand) (ho : op.op = .store 62 x y)
    (hx : a.eval x = .pointer (some ⟨B, 0, none⟩)) (hy : a.eval y = .agg (row g)) (k : wpList Tryd.prog ops Q rest (a.put op.dst undef) (w.setRow B (row g))) : wpList Tryd.prog ops Q (op :: rest) a w :=
  wpList_plain hgd fun _ hK => by
    unfold Oper.wp execOp
    simp only [ho, hx, hy, Instr.storeAt, Instr.sureAddr, Sem.run_bind, Sem.run_pure, Result.andThen_ok, store60 g h]
    exact hK _ _ k
end Go.Proofs.YtbkjjknlphlhlaaDoor
namespace Go.Proofs.YtbkjjknlphlhlaaDoor
namespace Cv

def size (n : Int) : Int := max n (-n)
def left (l : List Lot) (p : Int) : Int := size (demand l p - supply l p)
def away (ref p : Int) : Int := size (p - ref)
theorem size_nonneg (n : Int) : 0 ≤ size n := by unfold size; omega
theorem size_if (n : Int) : size n = if n < 0 then -n else n := by unfold size; split <;> omega

/-- is the first worth better than the second? -/
def worthB (v s a v' s' a' : Int) : Bool := if v = v' then (if s = s' then decide (a < a') else decide (s < s')) else decide (v' < v)

/-- among the prices from 1 to n the one that is taken is p, and v is traded at it; none: 0, 0 -/
def Won (l : List Lot) (ref n p v : Int) : Prop :=
  (p = 0 ∧ v = 0 ∧ ∀ q, 1 ≤ q → q ≤ n → volume l q = 0) ∨
  (0 < v ∧ 1 ≤ p ∧ p ≤ n ∧ volume l p = v ∧ ∀ q, 1 ≤ q → q ≤ n → volume l q < v ∨ volume l q = v ∧ (left l p < left l q ∨ left l p = left l q ∧ (away ref p < away ref q ∨ away ref p = away ref q ∧ p ≤ q)))

theorem Won.unique {l : List Lot} {ref n p v p' v' : Int} (h : Won l ref n p v) (h' : Won l ref n p' v') : p = p' ∧ v = v' := by
  rcases h with ⟨h1, h2, h3⟩ | ⟨h1, h2, h3, h4, h5⟩
  · rcases h' with ⟨g1, g2, g3⟩ | ⟨g1, g2, g3, g4, g5⟩
    · omega
    · have := h3 p' g2 g3; omega
  · rcases h' with ⟨g1, g2, g3⟩ | ⟨g1, g2, g3, g4, g5⟩
    · have := g3 p h2 h3; omega
    · have a := h5 p' g2 g3
      have b := g5 p h2 h3
      omega

theorem volume_nonneg (l : List Lot) (h : Oks l) (p : Int) : 0 ≤ volume l p := by
  have hd := (sumIf_bounds (dB p) l h).1
  have hs := (sumIf_bounds (sB p) l h).1
  unfold volume demand supply
  omega
theorem volume_le (l : List Lot) (h : Well l) (p : Int) : volume l p ≤ 120000 := by
  have hd := (sumIf_bounds (dB p) l h.oks).2
  have := h.1
  unfold volume demand
  omega

/-- what is left, and how far it is, of the price that is taken: of none 0 -/
def wl (l : List Lot) (p : Int) : Int := if p = 0 then 0 else left l p
def wa (ref p : Int) : Int := if p = 0 then 0 else away ref p

theorem Won.start (l : List Lot) (ref : Int) : Won l ref 0 0 0 := .inl ⟨rfl, rfl, fun q h1 h2 => by omega⟩
theorem Won.take {l : List Lot} {ref n p v : Int} (hl : Oks l) (hn : 0 ≤ n) (h : Won l ref n p v) (hb : worthB (volume l (n + 1)) (left l (n + 1)) (away ref (n + 1)) v (wl l p) (wa ref p) = true) : Won l ref (n + 1) (n + 1) (volume l (n + 1)) := by
  have v0 := volume_nonneg l hl (n + 1)
  have s0 : 0 ≤ left l (n + 1) := size_nonneg _
  have a0 : 0 ≤ away ref (n + 1) := size_nonneg _
  unfold worthB wl wa at hb
  rcases h with ⟨h1, h2, h3⟩ | ⟨h1, h2, h3, h4, h5⟩
  · rw [if_pos h1, if_pos h1] at hb
    have hv : 0 < volume l (n + 1) := by
      split at hb
      · split at hb <;> simp only [decide_eq_true_eq] at hb <;> omega
      · simp only [decide_eq_true_eq] at hb; omega
    refine .inr ⟨hv, by omega, by omega, rfl, fun q q1 q2 => ?_⟩
    by_cases e : q = n + 1
    · rw [e]; omega
    · have := h3 q q1 (by omega); omega
  · have hp : ¬ p = 0 := by omega
    rw [if_neg hp, if_neg hp] at hb
    have key : v < volume l (n + 1) ∨ volume l (n + 1) = v ∧ (left l (n + 1) < left l p ∨ left l (n + 1) = left l p ∧ away ref (n + 1) < away ref p) := by
      split at hb
      · split at hb <;> simp only [decide_eq_true_eq] at hb <;> omega
      · simp only [decide_eq_true_eq] at hb; omega
    refine .inr ⟨by omega, by omega, by omega, rfl, fun q q1 q2 => ?_⟩
    by_cases e : q = n + 1
    · rw [e]; omega
    · have := h5 q q1 (by omega); omega
theorem Won.keep {l : List Lot} {ref n p v : Int} (hl : Oks l) (h : Won l ref n p v) (hb : worthB (volume l (n + 1)) (left l (n + 1)) (away ref (n + 1)) v (wl l p) (wa ref p) = false) : Won l ref (n + 1) p v := by
  have v0 := volume_nonneg l hl (n + 1)
  unfold worthB wl wa at hb
  rcases h with ⟨h1, h2, h3⟩ | ⟨h1, h2, h3, h4, h5⟩
  · refine .inl ⟨h1, h2, fun q q1 q2 => ?_⟩
    by_cases e : q = n + 1
    · rw [e]
      by_cases hv : volume l (n + 1) = v
      · omega
      · rw [if_neg hv] at hb; simp only [decide_eq_false_iff_not] at hb; omega
    · exact h3 q q1 (by omega)
  · have hp : ¬ p = 0 := by omega
    rw [if_neg hp, if_neg hp] at hb
    refine .inr ⟨h1, h2, by omega, h4, fun q q1 q2 => ?_⟩
    by_cases e : q = n + 1
    · rw [e]
      split at hb
      · split at hb <;> simp only [decide_eq_false_iff_not] at hb <;> omega
      · simp only [decide_eq_false_iff_not] at hb; omega
    · exact h5 q q1 (by omega)

theorem Won.range {l : List Lot} {ref n p v : Int} (h : Won l ref n p v) (hn : 0 ≤ n) : 0 ≤ p ∧ p ≤ n ∧ 0 ≤ v := by
  rcases h with ⟨h1, h2, h3⟩ | ⟨h1, h2, h3, h4, h5⟩ <;> omega

/-- quantities of one side at just one price -/
def atB (side p : Int) (x : Lot) : Bool := x.sd == side && x.pr == p
def at_ (l : List Lot) (side p : Int) : Int := sumIf (atB side p) l
theorem demand_step (p : Int) : ∀ l : List Lot, demand l p = demand l (p + 1) + at_ l 0 p
  | [] => rfl
  | x :: l => by
    have ih := demand_step p l
    unfold demand at_ at ih ⊢
    simp only [sumIf]
    by_cases hs : x.sd = 0
    · by_cases h1 : x.pr = p
      · have h2 : p ≤ x.pr := by omega
        have h3 : ¬ p + 1 ≤ x.pr := by omega
        have e : (x.pr == p) = true := by simpa using h1
        simp only [dB, atB, hs, h2, h3, e, beq_self_eq_true, decide_true, decide_false, Bool.and_self, Bool.and_false, if_true, Bool.false_eq_true, if_false]
        omega
      · by_cases h2 : p ≤ x.pr
        · have h3 : p + 1 ≤ x.pr := by omega
          simp [dB, atB, hs, h1, h2, h3] at *
          omega
        · have h3 : ¬ p + 1 ≤ x.pr := by omega
          simp [dB, atB, hs, h1, h2, h3] at *
          omega
    · simp [dB, atB, hs] at *
      omega
theorem supply_step (p : Int) : ∀ l : List Lot, supply l (p + 1) = supply l p + at_ l 1 (p + 1)
  | [] => rfl
  | x :: l => by
    have ih := supply_step p l
    unfold supply at_ at ih ⊢
    simp only [sumIf]
    by_cases hs : x.sd = 1
    · by_cases h1 : x.pr = p + 1
      · have h3 : ¬ x.pr ≤ p := by omega
        have h2 : x.pr ≤ p + 1 := by omega
        have e : (x.pr == p + 1) = true := by simpa using h1
        simp only [sB, atB, hs, h2, h3, e, beq_self_eq_true, decide_true, decide_false, Bool.and_self, Bool.and_false, if_true, Bool.false_eq_true, if_false]
        omega
      · by_cases h2 : x.pr ≤ p
        · have h3 : x.pr ≤ p + 1 := by omega
          simp [sB, atB, hs, h1, h2, h3] at *
          omega
        · have h3 : ¬ x.pr ≤ p + 1 := by omega
          simp [sB, atB, hs, h1, h2, h3] at *
          omega
    · simp [sB, atB, hs] at *
      omega
theorem demand_top (l : List Lot) (h : Oks l) {p : Int} (hp : 1000 ≤ p) : demand l (p + 1) = 0 :=
  sumIf_zero l fun x hx => by
    have := (ok_bounds (h x hx)).2.2.2.1
    have h2 : ¬ p + 1 ≤ x.pr := by omega
    simp [dB, h2]
theorem supply_low (l : List Lot) (h : Oks l) {p : Int} (hp : p ≤ 0) : supply l p = 0 :=
  sumIf_zero l fun x hx => by
    have := (ok_bounds (h x hx)).2.2.2.1
    have h2 : ¬ x.pr ≤ p := by omega
    simp [sB, h2]

/-- it trades just if there is a buy at a sell's price -/
theorem Won.cross {l : List Lot} {ref p v : Int} (hl : Oks l) (h : Won l ref 1000 p v) : cross l = decide (0 < v) := by
  rw [cross_volume l hl]
  have hr := best_range l hl 0 (.inl rfl)
  rcases h with ⟨h1, h2, h3⟩ | ⟨h1, h2, h3, h4, h5⟩
  · have : volume l (best 0 l) = 0 := by
      by_cases e : 1 ≤ best 0 l
      · exact h3 _ e hr.2
      · unfold volume
        have := supply_low l hl (p := best 0 l) (by omega)
        have hd := (sumIf_bounds (dB (best 0 l)) l hl).1
        unfold demand; omega
    rw [this, h2]
  · have hb : p ≤ best 0 l := by
      have hd : demand l p ≠ 0 := by unfold volume at h4; omega
      rcases best_buy l hl with ⟨b1, b2⟩ | ⟨_, b2⟩
      · exact absurd (sumIf_zero l fun x hx => by simp [dB, b2 x hx]) hd
      · by_cases e : p ≤ best 0 l
        · exact e
        · refine absurd (sumIf_zero l fun x hx => ?_) hd
          by_cases es : x.sd = 0
          · have := b2 x hx es
            have h2 : ¬ p ≤ x.pr := by omega
            simp [dB, h2]
          · simp [dB, es]
    have hsu := supply_rises l hl hb
    have hs : 0 < supply l (best 0 l) := by unfold volume at h4; omega
    have hd : 0 < demand l (best 0 l) := by
      rcases best_buy l hl with ⟨b1, b2⟩ | ⟨⟨x, hx, hxs, hxp⟩, b2⟩
      · omega
      · exact sumIf_pos l hl ⟨x, hx, by simp [dB, hxs, hxp]⟩
    have : 0 < volume l (best 0 l) := by unfold volume; omega
    simp [this, h1]

/-- what is strictly better than a price -/
def stB (side p : Int) (x : Lot) : Bool := x.sd == side && better side x.pr p
def strict (l : List Lot) (side p : Int) : Int := sumIf (stB side p) l
theorem strict_buy (l : List Lot) (h : Oks l) (p : Int) : strict l 0 p ≤ demand l p :=
  sumIf_mono l h (fun x _ hx => by simp only [stB, better, dB, if_true, Bool.and_eq_true, decide_eq_true_eq] at hx ⊢; exact ⟨hx.1, by omega⟩)
theorem strict_sell (l : List Lot) (h : Oks l) (p : Int) : strict l 1 p ≤ supply l p :=
  sumIf_mono l h (fun x _ hx => by
    simp only [stB, better, sB, Bool.and_eq_true] at hx ⊢
    rw [if_neg (by decide)] at hx
    simp only [decide_eq_true_eq] at hx ⊢
    exact ⟨hx.1, by omega⟩)

/-- the other test of what is strictly better, as the document's answer has it -/
def stR (side p : Int) (x : Lot) : Bool := x.sd == side && ((side == 0 && decide (p < x.pr)) || (side == 1 && decide (x.pr < p)))
theorem strict_ref (l : List Lot) (h : Oks l) (side p : Int) : strict l side p = sumIf (stR side p) l :=
  sumIf_congr l fun x hx => by
    have hb := (ok_bounds (h x hx)).2.2.1
    unfold stB stR better
    by_cases hs : x.sd = side
    · by_cases h0 : side = 0
      · simp [hs, h0]
      · have h1 : side = 1 := by omega
        simp [h1]
    · have : (x.sd == side) = false := by simpa using hs
      simp [this]

end Cv
end Go.Proofs.YtbkjjknlphlhlaaDoor
