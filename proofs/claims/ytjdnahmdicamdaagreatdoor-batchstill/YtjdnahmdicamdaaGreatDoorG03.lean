/- A book in memory: a cell that holds a slice, and the row of lots behind it; what it is behind a store, an append and a removal. -/
import Derived.OneCell
import Derived.Laws.IdiomCopy
import Derived.Deep.RegionLaw
import Derived.Lib.SliceRun
import Derived.Lib.SmallJoins
import Derived.Test.YtjdnahmdicamdaaGreatDoorG02
namespace Go.Proofs.YtjdnahmdicamdaaGreatDoor
open Go.RowKit
set_option maxRecDepth 100000

/-- of the old blocks two may have turned, no other one -/
structure Only (w w' : World) (a b : Option Nat) : Prop where
  os : w'.os = w.os
  tape : w'.tape = w.tape
  output : w'.output = w.output
  size : w.heap.size ≤ w'.heap.size
  block : ∀ k, k < w.heap.size → some k ≠ a → some k ≠ b → w'.heap[k]? = w.heap[k]?
theorem Only.refl (w : World) (a b : Option Nat) : Only w w a b := ⟨rfl, rfl, rfl, Nat.le_refl _, fun _ _ _ _ => rfl⟩
theorem Only.of_below {w w' : World} (h : Below w.heap.size w w') (a b : Option Nat) : Only w w' a b := ⟨h.os, h.tape, h.output, h.size, fun k hk _ _ => h.block k hk⟩
theorem Only.of_grown {w w' : World} {r : Option Nat} (h : w.grownBy w' r) (a : Option Nat) : Only w w' a r := ⟨h.os, h.tape, h.output, h.size, fun k hk _ h2 => h.block k hk h2⟩
theorem Only.trans {w w1 w2 : World} {a b b1 : Option Nat} (h : Only w w1 a b) (h1 : Only w1 w2 a b1) (hb : ∀ k, b1 = some k → b = some k ∨ w.heap.size ≤ k) : Only w w2 a b :=
  ⟨h1.os.trans h.os, h1.tape.trans h.tape, h1.output.trans h.output, Nat.le_trans h.size h1.size, fun k hk ha hk2 => by
    rw [h1.block k (Nat.lt_of_lt_of_le hk h.size) ha (fun e => ?_)]
    · exact h.block k hk ha hk2
    · rcases hb k e.symm with h3 | h3
      · exact hk2 h3.symm
      · omega⟩
theorem Only.below {w w' : World} {a b : Option Nat} {n : Nat} (h : Only w w' a b) (hn : n ≤ w.heap.size) (ha : ∀ k, a = some k → n ≤ k) (hb : ∀ k, b = some k → n ≤ k) : Below n w w' :=
  ⟨h.os, h.tape, h.output, h.size, fun k hk => h.block k (by omega) (fun e => by have := ha k e.symm; omega) (fun e => by have := hb k e.symm; omega)⟩
theorem Only.cell {w w' : World} {a b : Option Nat} (h : Only w w' a b) {p : Addr} {v : Value} (hc : w.cell? p = some v) (ha : some p.block ≠ a) (hb : some p.block ≠ b) : w'.cell? p = some v :=
  (World.cell?_of_block (h.block p.block (World.block_lt_of_cell? w p hc) ha hb)).trans hc
theorem Only.setCell (w : World) (g o : Nat) (v : Value) (b : Option Nat) : Only w (w.setCell ⟨g, o, none⟩ v) (some g) b :=
  ⟨rfl, rfl, rfl, by simp, fun k _ ha _ => Below.heap_setCell _ _ _ _ (fun e => ha (by rw [e]))⟩
theorem Only.swap {w w' : World} {a b : Option Nat} (h : Only w w' a b) : Only w w' b a := ⟨h.os, h.tape, h.output, h.size, fun k hk h1 h2 => h.block k hk h2 h1⟩
theorem Only.setCells (w : World) (g : Nat) : ∀ (vs : List Value) (o : Nat) (a : Option Nat), Only w (w.setCells g o vs) a (some g) := by
  intro vs
  induction vs generalizing w with
  | nil => intro o a; exact Only.refl w _ _
  | cons v vs ih =>
    intro o a
    exact (Only.setCell w g o v a).swap.trans (ih (w.setCell ⟨g, o, none⟩ v) (o + 1) a) (fun k h => .inl h)

/-- a book at a block: the slice that its cell holds, the lots behind it -/
structure Book (w : World) (base p : Nat) (v : Value) (l : List Cv.Lot) : Prop where
  cell : w.heap[p]? = some (.cells #[v] 103 (0, 0))
  lo : base ≤ p
  row : w.ownsRow base 56 5 v l.length (flat l)
theorem Book.ne {w : World} {base p : Nat} {v : Value} {l : List Cv.Lot} (h : Book w base p v l) : v.ownBlock ≠ some p := by
  intro e
  rcases h.row.2 with ⟨e1, _⟩ | ⟨r, cap, cur, e1, _, hr, _⟩
  · rw [e1] at e; cases e
  · rw [e1] at e
    have : r = p := by simpa [Value.ownBlock] using e
    rw [this, h.cell] at hr
    cases hr
theorem Book.lt {w : World} {base p : Nat} {v : Value} {l : List Cv.Lot} (h : Book w base p v l) : p < w.heap.size := lt_of_block h.cell
theorem Book.rowLt {w : World} {base p : Nat} {v : Value} {l : List Cv.Lot} (h : Book w base p v l) : ∀ k, v.ownBlock = some k → base ≤ k ∧ k < w.heap.size := h.row.lt
theorem row_only {w w' : World} {a b : Option Nat} {base : Nat} {e : TypeId} {s : Nat} {v : Value} {n : Nat} {xs : List Value} (hr : w.ownsRow base e s v n xs) (h : Only w w' a b) (ha : ∀ k, v.ownBlock = some k → some k ≠ a) (hb : ∀ k, v.ownBlock = some k → some k ≠ b) : w'.ownsRow base e s v n xs := by
  refine ⟨hr.1, ?_⟩
  rcases hr.2 with hn | ⟨g, cap, cur, rfl, hg, hgg, rest⟩
  · exact .inl hn
  · exact .inr ⟨g, cap, cur, rfl, hg, by rw [h.block g (lt_of_block hgg) (ha g rfl) (hb g rfl)]; exact hgg, rest⟩
theorem Book.only {w w' : World} {a b : Option Nat} {base p : Nat} {v : Value} {l : List Cv.Lot} (h : Book w base p v l) (ho : Only w w' a b) (h1 : some p ≠ a) (h2 : some p ≠ b) (h3 : ∀ k, v.ownBlock = some k → some k ≠ a) (h4 : ∀ k, v.ownBlock = some k → some k ≠ b) : Book w' base p v l :=
  ⟨by rw [ho.block p h.lt h1 h2]; exact h.cell, h.lo, row_only h.row ho h3 h4⟩
theorem Book.later {w w' : World} {base p : Nat} {v : Value} {l : List Cv.Lot} (h : Book w base p v l) (hb : Below w.heap.size w w') : Book w' base p v l :=
  h.only (Only.of_below hb none none) (by simp) (by simp) (fun _ _ => by simp) (fun _ _ => by simp)
theorem Book.form {w : World} {base p : Nat} {v : Value} {l : List Cv.Lot} (h : Book w base p v l) : (v = .slice none 0 0 ∧ l = []) ∨ ∃ g cap, v = .slice (some ⟨g, 0, none⟩) l.length cap ∧ l.length ≤ cap ∧ base ≤ g ∧ LotsAt w g 0 l := by
  rcases h.row.2 with ⟨e, e2⟩ | ⟨g, cap, cur, e, hg, hgg, hle, _, _, _⟩
  · exact .inl ⟨e, List.eq_nil_of_length_eq_zero e2⟩
  · refine .inr ⟨g, cap, e, hle, hg, lotsAt_of_flat fun j u hu => ?_⟩
    have := World.ownsRow.cells h.row (g := g) (by rw [e]; rfl) j u hu
    have hp : (⟨g, 0, none⟩ : Addr).add j = ⟨g, j, none⟩ := by unfold Addr.add; split <;> simp_all
    rwa [hp] at this

/-- what an act leaves: the book's own cell and its row have turned, no other block; a new row is a new block -/
structure Step (w w' : World) (p : Nat) (v v' : Value) : Prop where
  only : Only w w' (some p) v.ownBlock
  new : ∀ k, v'.ownBlock = some k → v.ownBlock = some k ∨ w.heap.size ≤ k
theorem Step.refl (w : World) (p : Nat) (v : Value) : Step w w p v v := ⟨Only.refl _ _ _, fun _ h => .inl h⟩
theorem Step.of_below {w w' : World} (h : Below w.heap.size w w') (p : Nat) (v : Value) : Step w w' p v v := ⟨Only.of_below h _ _, fun _ h => .inl h⟩
theorem Step.trans {w w1 w2 : World} {p : Nat} {v v1 v2 : Value} (h : Step w w1 p v v1) (h1 : Step w1 w2 p v1 v2) : Step w w2 p v v2 :=
  ⟨h.only.trans h1.only h.new, fun k hk => by
    rcases h1.new k hk with h3 | h3
    · exact h.new k h3
    · exact .inr (Nat.le_trans h.only.size h3)⟩
theorem Step.below {w w' : World} {base p : Nat} {v v' : Value} {l : List Cv.Lot} (h : Step w w' p v v') (hb : Book w base p v l) (n : Nat) (hn : n ≤ base) : Below n w w' :=
  h.only.below (by have := hb.lo; have := hb.lt; omega) (fun k e => by cases e; have := hb.lo; omega) (fun k e => by have := (hb.rowLt k e).1; omega)

/-- a block's cells behind a store of some -/
theorem setCells_block {e : TypeId} {fz : Nat × Nat} (g : Nat) : ∀ (vs : List Value) (o : Nat) (w : World) (cur : Array Value), w.heap[g]? = some (.cells cur e fz) → o + vs.length ≤ cur.size →
    ∃ cur', (w.setCells g o vs).heap[g]? = some (.cells cur' e fz) ∧ cur'.size = cur.size ∧ cur'.toList = cur.toList.take o ++ vs ++ cur.toList.drop (o + vs.length)
  | [], o, w, cur, h, hs => ⟨cur, h, rfl, by simp⟩
  | v :: vs, o, w, cur, h, hs => by
    have hlt := lt_of_block h
    have h' : w.heap[g] = .cells cur e fz := by simpa [Array.getElem?_eq_getElem hlt] using h
    have h1 : (w.setCell ⟨g, o, none⟩ v).heap[g]? = some (.cells (cur.setIfInBounds o v) e fz) := by
      show (w.heap.modify g _)[g]? = _
      rw [Array.getElem?_eq_getElem (by simpa using hlt), Array.getElem_modify_self, h']
      rfl
    simp only [List.length_cons] at hs
    obtain ⟨cur', a1, a2, a3⟩ := setCells_block g vs (o + 1) _ _ h1 (by simp; omega)
    refine ⟨cur', a1, by rw [a2]; simp, ?_⟩
    rw [a3]
    simp only [List.length_cons, Array.toList_setIfInBounds]
    have ho : o < cur.toList.length := by simp; omega
    rw [List.take_succ_eq_append_getElem (by simpa using ho), List.take_set_of_le (Nat.le_refl o), List.getElem_set_self, List.drop_set_of_lt (by omega), show o + 1 + vs.length = o + (vs.length + 1) by omega]
    simp
/-- a row of the call's own behind a store of some of its cells -/
theorem row_setCells {w : World} {base : Nat} {e : TypeId} {s g n cap : Nat} {xs : List Value} (h : w.ownsRow base e s (.slice (some ⟨g, 0, none⟩) n cap) n xs) (o : Nat) (vs : List Value) (m : Nat) (hm : m ≤ cap) (hv : o + vs.length ≤ n * s) (ys : List Value) (hy : ys.length = m * s) (hmn : m ≤ n) (he : (xs.take o ++ vs ++ xs.drop (o + vs.length)).take (m * s) = ys) :
    (w.setCells g o vs).ownsRow base e s (.slice (some ⟨g, 0, none⟩) m cap) m ys := by
  rcases h.2 with ⟨e1, _⟩ | ⟨g', cap', cur, e1, hg, hgg, h1, h2, h3, h4⟩
  · cases e1
  · obtain ⟨rfl, rfl⟩ : g = g' ∧ cap = cap' := by simpa using e1
    have hle : n * s ≤ cur.size := by rw [h3]; exact Nat.mul_le_mul_right _ h1
    obtain ⟨cur', a1, a2, a3⟩ := setCells_block g vs o w cur hgg (by omega)
    refine ⟨hy, .inr ⟨g, cap, cur', rfl, hg, a1, hm, h2, by rw [a2, h3], ?_⟩⟩
    have hms : m * s ≤ n * s := Nat.mul_le_mul_right _ hmn
    rw [a3, ← he, ← h4]
    have hx : cur.toList = cur.toList.take (n * s) ++ cur.toList.drop (n * s) := (List.take_append_drop _ _).symm
    have hl : (cur.toList.take (n * s)).length = n * s := by rw [List.length_take]; simp; omega
    generalize cur.toList.take (n * s) = A at *
    generalize cur.toList.drop (n * s) = C at *
    have e1 : (A ++ C).take o = A.take o := List.take_append_of_le_length (by omega)
    have e2 : (A ++ C).drop (o + vs.length) = A.drop (o + vs.length) ++ C := List.drop_append_of_le_length (by omega)
    rw [hx, e1, e2, ← List.append_assoc]
    exact List.take_append_of_le_length (by simp only [List.length_append, List.length_take, List.length_drop]; omega)
end Go.Proofs.YtjdnahmdicamdaaGreatDoor
/- Where a lot stands: find by its contract; New. -/
namespace Go.Proofs.YtjdnahmdicamdaaGreatDoor
open Go.RowKit
set_option maxRecDepth 100000

namespace Bk
open Cv
/-- where a lot stands, or -1 -/
def posI (l : List Lot) (id : Int) : Int := if has l id = true then (pos l id : Int) else -1
theorem posI_none {l : List Lot} {id : Int} (h : has l id = false) : posI l id = -1 := by unfold posI; rw [h]; rfl
theorem posI_some {l : List Lot} {id : Int} (h : has l id = true) : posI l id = (pos l id : Nat) := by unfold posI; rw [if_pos h]
theorem posI_at {l : List Lot} {id : Int} {k : Nat} (hk : k < l.length) (hn : has (l.take k) id = false) (hx : (nth l k).id = id) : posI l id = (k : Nat) := by
  have h1 : has l id = true := List.any_eq_true.2 ⟨nth l k, nth_mem hk, by simpa using hx⟩
  rw [posI_some h1]
  have h2 : pos l id = k := by
    unfold pos
    rw [List.findIdx_eq hk]
    refine ⟨by rw [← nth_get hk]; simpa using hx, fun j hj => ?_⟩
    have := List.any_eq_false.1 hn l[j] (by rw [List.mem_take_iff_getElem]; exact ⟨j, by omega, rfl⟩)
    simpa using this
  rw [h2]
theorem posI_lt {l : List Lot} {id : Int} (h : has l id = true) : pos l id < l.length := pos_has.1 h
end Bk

theorem findClos_any (x : Cv.Lot) (B : Nat) (id : Int) (w : World) (hc : w.cell? ⟨B, 0, none⟩ = some (.int .i64 id)) :
    Calls Tryz.prog 93 #[lotV x, .pointer (some ⟨B, 0, none⟩)] w fun e w' => e = .returned (.bool (x.id == id)) ∧ Below w.heap.size w w' := by
  have hB : B < w.heap.size := World.block_lt_of_cell? _ _ hc
  have hne : B ≠ w.heap.size := by omega
  show Calls Tryz.prog 93 #[.agg #[.int .i64 x.id, .int .i64 x.ow, .int .i64 x.sd, .int .i64 x.pr, .int .i64 x.q], .pointer (some ⟨B, 0, none⟩)] w _
  go_enter Tryz.func93, Tryz.ntmps93
  go_wp2
  all_goals go_ret
  all_goals
    refine ⟨ret_bool ?_, (Below.refl _ _).alloc (Nat.le_refl _) _⟩
    first | rfl | simp_all

set_option maxHeartbeats 1000000 in
theorem indexFunc_at (b off cap B : Nat) (id : Int) (l : List Cv.Lot) (w : World) (hn' : l.length ≤ 1000) (hl : Hid (LotsAt w b off l)) (hc : w.cell? ⟨B, 0, none⟩ = some (.int .i64 id)) :
    Calls Tryz.prog 92 #[.slice (some ⟨b, off, none⟩) l.length cap, .func (.func 93) #[] #[.pointer (some ⟨B, 0, none⟩)]] w fun e w' => e = .returned (.int .i64 (Bk.posI l id)) ∧ Below w.heap.size w w' := by
  generalize hn : l.length = n at *
  have Hn := hide hn
  clear hn
  go_enter Tryz.func92, Tryz.ntmps92
  go_wp2
  go_loopw [8] (fun i wr => ∃ k : Nat, k ≤ n ∧ i = .int .i64 k ∧ Cv.has (l.take k) id = false ∧ Below w.heap.size w wr) (fun i _ => n - (intOf i).toNat)
  case atStart => exact ⟨0, Nat.zero_le _, rfl, rfl, Below.refl _ _⟩
  case round =>
    obtain ⟨k, hk, rfl, hno, hb⟩ := hrel
    have HN := hide hno; have HB := hide hb
    clear hno hb
    by_cases hlt : k < n
    · have hki : (k : Int) < n := by omega
      obtain ⟨c0, c1, c2, c3, c4⟩ := (hl.out.later HB.out) k (by rw [Hn.out]; exact hlt)
      have hcB := cell_later HB.out hc
      have HC := hide (findClos_any (Cv.nth l k) B id wr hcB)
      have HT := hide (Cv.take_succ (l := l) (i := k) (by rw [Hn.out]; exact hlt))
      obtain ⟨x, hxx⟩ : ∃ x, Cv.nth l k = x := ⟨_, rfl⟩
      rw [hxx] at HC HT c0 c1 c2 c3 c4
      have HX := hide hxx
      clear hxx
      go_wp2_with fail
      refine HC.out.mono ?_
      rintro e w2 ⟨rfl, hb2⟩
      have HB2 := hide (HB.out.trans (hb2.mono HB.out.size))
      clear hb2 c0 c1 c2 c3 c4 hcB HC
      by_cases hx : x.id = id
      · have hxb : (x.id == id) = true := by simpa using hx
        have Hx := hide hx
        clear hx
        rw [hxb]
        simp only []
        go_wp2
        go_ret
        refine ⟨?_, HB2.out⟩
        rw [Bk.posI_at (by rw [Hn.out]; exact hlt) HN.out (by rw [HX.out]; exact Hx.out)]
        rfl
      · have hxb : (x.id == id) = false := by simpa using hx
        have hno' : Cv.has (l.take (k + 1)) id = false := by
          have hh := HN.out
          rw [HT.out]
          unfold Cv.has at hh ⊢
          rw [List.any_append, hh]
          simp [hx]
        have Hno := hide hno'
        clear hx hno'
        rw [hxb]
        simp only []
        go_wp2
        exact ⟨⟨k + 1, by omega, by go_num, Hno.out, HB2.out⟩, by simp [intOf]; omega⟩
    · have hki : ¬ (k : Int) < n := by omega
      have hkk : k = l.length := by rw [Hn.out]; omega
      have hno := HN.out
      rw [hkk, List.take_length] at hno
      have Hno := hide hno
      clear hno hkk
      go_wp2
      go_ret
      exact ⟨by rw [Bk.posI_none Hno.out]; rfl, HB.out⟩


theorem find_any (p base : Nat) (v : Value) (id : Int) (l : List Cv.Lot) (w : World) (hb : Hid (Book w base p v l)) (hn : Hid (l.length ≤ 60)) :
    Calls Tryz.prog 53 #[.pointer (some ⟨p, 0, none⟩), .int .i64 id] w fun e w' => e = .returned (.int .i64 (Bk.posI l id)) ∧ Below w.heap.size w w' := by
  have hcell : (w.alloc (.cells #[.int .i64 id] 3)).cell? ⟨p, 0, none⟩ = some v := cell_later ((Below.refl _ _).alloc (Nat.le_refl _) _) (cell_of_one hb.out.cell)
  rcases hb.out.form with ⟨rfl, hl⟩ | ⟨g, cap, rfl, hle, _, hl⟩
  · have HL := hide hl
    clear hl
    go_enter Tryz.func53, Tryz.ntmps53
    go_wp2_with fail
    refine (indexFunc_none 0 none _ _).mono ?_
    rintro e w2 ⟨rfl, rfl⟩
    simp only []
    go_wp2
    go_ret
    exact ⟨by rw [HL.out]; rfl, (Below.refl _ _).alloc (Nat.le_refl _) _⟩
  · have HC := hide (indexFunc_at g 0 cap w.heap.size id l (w.alloc (.cells #[.int .i64 id] 3)) (by have := hn.out; omega) (hl.later ((Below.refl _ _).alloc (Nat.le_refl _) _)) (by simp))
    clear hl hle
    go_enter Tryz.func53, Tryz.ntmps53
    go_wp2_with fail
    refine HC.out.mono ?_
    rintro e w2 ⟨rfl, hb2⟩
    have HB := hide hb2
    clear hb2
    simp only []
    go_wp2
    go_ret
    exact ⟨rfl, ((Below.refl _ _).alloc (Nat.le_refl _) _).trans (HB.out.mono (by simp))⟩

theorem newBook_any (w : World) : Calls Tryz.prog 37 #[] w fun e w' => e = .returned (.pointer (some ⟨w.heap.size, 0, none⟩)) ∧ w' = w.alloc (.cells #[.slice none 0 0] 103) := by
  go_enter Tryz.func37, Tryz.ntmps37
  go_wp2
  go_ret
  exact ⟨rfl, rfl⟩
theorem book_new (w : World) (base : Nat) (h : base ≤ w.heap.size) : Book (w.alloc (.cells #[.slice none 0 0] 103)) base w.heap.size (.slice none 0 0) [] :=
  ⟨heap_alloc_new w _, h, World.ownsRow_nil _ _ _ _⟩
end Go.Proofs.YtjdnahmdicamdaaGreatDoor
/- slices.Delete of one lot, and remove, by their contracts. -/
namespace Go.Proofs.YtjdnahmdicamdaaGreatDoor
open Go.RowKit
set_option maxRecDepth 100000

def zeros5 : List Value := lotCells Cv.z
/-- clear of one lot's cells -/
theorem run_clear_lot (w : World) (ty : TypeId) (b o c : Nat) (hc : ∀ j, j < 5 → (w.cell? ⟨b, o + j, none⟩).isSome = true) (hf : ∀ j, j < 5 → w.frozen? ⟨b, o + j, none⟩ = false) :
    (Builtin.clear_ #[37] ty #[.slice (some ⟨b, o, none⟩) 1 c]).run Tryz.prog w = .ok (.tuple #[]) (w.setCells b o zeros5) := by
  have hzc : (Builtin.zeroCells (Value.agg #[.int .i64 0, .int .i64 0, .int .i64 0, .int .i64 0, .int .i64 0]).cells 1).toList = zeros5 := by kernel_rfl
  have hst := run_storeCells_cells (P := Tryz.prog) b o zeros5 0 w (fun j hj => by simpa using hc j hj) (fun j hj => by simpa using hf j hj) (by
    intro v hv
    simp only [zeros5, lotCells, List.mem_cons, List.not_mem_nil, or_false] at hv
    rcases hv with rfl | rfl | rfl | rfl | rfl <;> rfl)
  simp only [Nat.add_zero] at hst
  simp [Builtin.clear_, run_underlying Tryz.underlying37, hzc, hst]

theorem flat_append (a b : List Cv.Lot) : flat (a ++ b) = flat a ++ flat b := by simp [flat]
theorem flat_take (l : List Cv.Lot) (k : Nat) (h : k ≤ l.length) : (flat l).take (k * 5) = flat (l.take k) := by
  have e : flat l = flat (l.take k) ++ flat (l.drop k) := by rw [← flat_append, List.take_append_drop]
  have hl : (flat (l.take k)).length = k * 5 := by rw [flat_length, List.length_take]; congr 1; omega
  rw [e, ← hl, List.take_left]
theorem flat_drop (l : List Cv.Lot) (k : Nat) (h : k ≤ l.length) : (flat l).drop (k * 5) = flat (l.drop k) := by
  have e : flat l = flat (l.take k) ++ flat (l.drop k) := by rw [← flat_append, List.take_append_drop]
  have hl : (flat (l.take k)).length = k * 5 := by rw [flat_length, List.length_take]; congr 1; omega
  rw [e, ← hl, List.drop_left]
/-- a row's cells are there, and may be written -/
theorem row_open {w : World} {base : Nat} {e : TypeId} {s g n cap : Nat} {xs : List Value} (h : w.ownsRow base e s (.slice (some ⟨g, 0, none⟩) n cap) n xs) (j : Nat) (hj : j < n * s) : (w.cell? ⟨g, j, none⟩).isSome = true ∧ w.frozen? ⟨g, j, none⟩ = false ∧ w.cell? ⟨g, j, none⟩ = xs[j]? := by
  rcases h.2 with ⟨e1, _⟩ | ⟨g', cap', cur, e1, hg, hgg, h1, h2, h3, h4⟩
  · cases e1
  · obtain ⟨rfl, rfl⟩ : g = g' ∧ cap = cap' := by simpa using e1
    have hle : n * s ≤ cur.size := by rw [h3]; exact Nat.mul_le_mul_right _ h1
    have e2 : w.cell? ⟨g, j, none⟩ = xs[j]? := by
      rw [cell_of_row w g j cur e (0, 0) hgg, ← h4, List.getElem?_take_of_lt hj]; simp
    have e3 : (w.cell? ⟨g, j, none⟩).isSome = true := by
      rw [cell_of_row w g j cur e (0, 0) hgg]; simp; omega
    exact ⟨e3, by simp [World.frozen?, hgg], e2⟩

set_option maxHeartbeats 1000000 in
theorem delete_any (g cap n i j base : Nat) (l : List Cv.Lot) (w : World) (hn : Hid (l.length = n)) (hrow : w.ownsRow base 56 5 (.slice (some ⟨g, 0, none⟩) n cap) n (flat l)) (hj : Hid (j = i + 1)) (hjn : j ≤ n) (hij : i < j) (hcap : n ≤ cap) :
    Calls Tryz.prog 112 #[.slice (some ⟨g, 0, none⟩) n cap, .int .i64 i, .int .i64 j] w fun e w' => e = .returned (.slice (some ⟨g, 0, none⟩) (n - 1) cap) ∧ w'.ownsRow base 56 5 (.slice (some ⟨g, 0, none⟩) (n - 1) cap) (n - 1) (flat (Bk.del l i)) ∧ w.grownBy w' (some g) := by
  obtain ⟨i0, z0, hi, hz0, hz1, hz2, hz3⟩ := info110
  have hne : ¬ ((i : Int) = j) := by omega
  obtain ⟨news, hnews⟩ : ∃ news, news = flat (l.drop j) := ⟨_, rfl⟩
  have hlen : news.length = (n - j) * 5 := by rw [hnews, flat_length, List.length_drop, hn.out]
  have hget : ∀ t u, news[t]? = some u → w.cell? ⟨g, j * 5 + t, none⟩ = some u := by
    intro t u hu
    have ht : t < (n - j) * 5 := by
      have := (List.getElem?_eq_some_iff.1 hu).1
      rwa [hlen] at this
    rw [(row_open hrow (j * 5 + t) (by omega)).2.2]
    rw [hnews, ← flat_drop l j (by rw [hn.out]; exact hjn), List.getElem?_drop] at hu
    exact hu
  obtain ⟨A, hA, hsrc⟩ : ∃ A : Addr, (if cap = j then some (⟨g, 0, none⟩ : Addr) else some ⟨g, j * 5, none⟩) = some A ∧ Hid (∀ t u, news[t]? = some u → w.drew.cell? (A.add t) = some u) := by
    by_cases h : cap = j
    · refine ⟨⟨g, 0, none⟩, by simp [h], fun t u hu => ?_⟩
      have h0 : news.length = 0 := by rw [hlen]; omega
      rw [List.length_eq_zero_iff.1 h0] at hu
      simp at hu
    · refine ⟨⟨g, j * 5, none⟩, by simp [h], fun t u hu => ?_⟩
      rw [Addr.add_lit]
      exact hget t u hu
  have s1 : Hid (news.length = (n - j) * 5) := hlen
  have s2 : Hid (∀ u ∈ news, u.oneCell' = true) := by
    intro u hu
    rw [hnews] at hu
    exact flat_one _ u hu
  have s3 : Hid (∀ t, t < news.length → (w.drew.cell? ⟨g, 0 + i * 5 + t, none⟩).isSome = true ∧ w.drew.frozen? ⟨g, 0 + i * 5 + t, none⟩ = false) := by
    intro t ht
    rw [hlen] at ht
    have h := row_open hrow (0 + i * 5 + t) (by omega)
    exact ⟨h.1, h.2.1⟩
  have hrowd : w.drew.ownsRow base 56 5 (.slice (some ⟨g, 0, none⟩) n cap) n (flat l) := hrow
  obtain ⟨W1, hW1⟩ : ∃ W1, W1 = w.drew.setCells g (0 + i * 5) news := ⟨_, rfl⟩
  have hfl : (flat l).length = n * 5 := by rw [flat_length, hn.out]
  -- the row behind the append: as long as it was
  obtain ⟨ys, hys⟩ : ∃ ys, ys = (flat l).take (0 + i * 5) ++ news ++ (flat l).drop (0 + i * 5 + news.length) := ⟨_, rfl⟩
  have hyl : ys.length = n * 5 := by
    rw [hys]
    simp only [List.length_append, List.length_take, List.length_drop, hlen, hfl]; omega
  have hr1 : W1.ownsRow base 56 5 (.slice (some ⟨g, 0, none⟩) n cap) n ys := by
    rw [hW1]
    exact row_setCells hrowd _ news n hcap (by rw [hlen]; omega) ys hyl (Nat.le_refl _) (by rw [← hys]; exact List.take_of_length_le (by omega))
  have hcl : ∀ ty, (Builtin.clear_ #[37] ty #[.slice (some ⟨g, (i + (n - j)) * 5, none⟩) (n - (i + (n - j))) (cap - (i + (n - j)))]).run Tryz.prog W1 = .ok (.tuple #[]) (W1.setCells g ((i + (n - j)) * 5) zeros5) := by
    intro ty
    rw [show n - (i + (n - j)) = 1 by have := hj.out; omega]
    exact run_clear_lot W1 ty g _ _ (fun t ht => (row_open hr1 _ (by have := hj.out; omega)).1) (fun t ht => (row_open hr1 _ (by have := hj.out; omega)).2.1)
  have HR : Hid ((W1.setCells g ((i + (n - j)) * 5) zeros5).ownsRow base 56 5 (.slice (some ⟨g, 0, none⟩) (n - 1) cap) (n - 1) (flat (Bk.del l i))) := by
    have hd : (Bk.del l i).length = n - 1 := by rw [Bk.del_length (by rw [hn.out]; omega), hn.out]
    refine row_setCells hr1 _ zeros5 (n - 1) (by omega) (by show _ + 5 ≤ _; have := hj.out; omega) _ (by rw [flat_length, hd]) (by omega) ?_
    have e1 : (i + (n - j)) * 5 = (n - 1) * 5 := by have := hj.out; congr 1; omega
    rw [e1, List.append_assoc, List.take_append_of_le_length (by rw [List.length_take, hyl]; omega), List.take_take, Nat.min_self, hys]
    rw [List.take_append_of_le_length (by simp only [List.length_append, List.length_take, hlen, hfl]; have := hj.out; omega), List.take_of_length_le (by simp only [List.length_append, List.length_take, hlen, hfl]; have := hj.out; omega)]
    rw [hnews, Nat.zero_add, flat_take l i (by rw [hn.out]; omega), ← flat_append, hj.out]
    rfl
  have HG : Hid (w.grownBy (W1.setCells g ((i + (n - j)) * 5) zeros5) (some g)) := by
    have o1 := Only.setCells w.drew g news (0 + i * 5) none
    rw [← hW1] at o1
    have o2 := o1.trans (Only.setCells W1 g zeros5 ((i + (n - j)) * 5) none) (fun k h => .inl h)
    exact ⟨o2.os, o2.tape, o2.output, o2.size, fun k hk h => o2.block k hk (by simp) h⟩
  have hW : Hid (W1 = w.drew.setCells g (0 + i * 5) news) := hW1
  have HI := hide hi; have HZ := hide hz1
  have hic : i ≤ cap := by omega
  have hjc : j ≤ cap := by omega
  clear hW1 hr1 hys hyl hfl hrowd hget hnews hlen hrow hi hz0 hz1 hz2 hz3
  go_enter Tryz.func112, Tryz.ntmps112
  go_wp2_with fail
  go_region_law (refine step_append_room rfl (.tmp 22) (.tmp 25) 37 rfl 56 i0 5 Tryz.underlying37 HI.out HZ.out g 0 i cap (by simp [Act.eval, Act.put]) A (n - j) (cap - j) news (by simp [Act.eval, Act.put]) s1.out hsrc.out s2.out (by omega) s3.out ?_; rw [← hW.out])
  go_wp2
  go_ret
  exact ⟨by rw [show n - 1 = i + (n - j) by have := hj.out; omega]; rfl, HR.out, HG.out⟩
end Go.Proofs.YtjdnahmdicamdaaGreatDoor
/- remove, Get, Lots and Copy of a book by their contracts. -/
namespace Go.Proofs.YtjdnahmdicamdaaGreatDoor
open Go.RowKit
set_option maxRecDepth 100000

theorem Book.set {w w2 : World} {base p : Nat} {v v' : Value} {l l' : List Cv.Lot} (h : Book w base p v l) (hg : w.grownBy w2 v.ownBlock) (hr : w2.ownsRow base 56 5 v' l'.length (flat l')) (hn : ∀ k, v'.ownBlock = some k → v.ownBlock = some k ∨ w.heap.size ≤ k) :
    Book (w2.setCell ⟨p, 0, none⟩ v') base p v' l' ∧ Step w (w2.setCell ⟨p, 0, none⟩ v') p v v' := by
  have hc : w2.heap[p]? = some (.cells #[v] 103 (0, 0)) := by rw [hg.block p h.lt (fun e => h.ne e.symm)]; exact h.cell
  have h3 : v'.ownBlock ≠ some p := by
    intro e
    rcases hr.2 with ⟨e1, _⟩ | ⟨r, cap, cur, e1, _, hr2, _⟩
    · rw [e1] at e; cases e
    · rw [e1] at e
      have : r = p := by simpa [Value.ownBlock] using e
      rw [this, hc] at hr2
      cases hr2
  refine ⟨⟨one_setCell hc, h.lo, ownsRow_setCell_other hr h3 _⟩, ⟨?_, hn⟩⟩
  exact (Only.of_grown hg (some p)).trans (Only.setCell w2 p 0 v' v.ownBlock) (fun k e => .inl e)
theorem Book.openAt {w w2 : World} {base p : Nat} {v : Value} {l : List Cv.Lot} (h : Book w base p v l) (hg : w.grownBy w2 v.ownBlock) : w2.cell? ⟨p, 0, none⟩ = some v ∧ w2.frozen? ⟨p, 0, none⟩ = false := by
  have hc : w2.heap[p]? = some (.cells #[v] 103 (0, 0)) := by rw [hg.block p h.lt (fun e => h.ne e.symm)]; exact h.cell
  exact ⟨cell_of_one hc, free_of_one hc⟩

theorem remove_any (p base k : Nat) (v : Value) (l : List Cv.Lot) (w : World) (hb : Hid (Book w base p v l)) (hk : k < l.length) (hn : Hid (l.length ≤ 60)) :
    Calls Tryz.prog 79 #[.pointer (some ⟨p, 0, none⟩), .int .i64 k] w fun e w' => e = .returned (.tuple #[]) ∧ ∃ v', Book w' base p v' (Bk.del l k) ∧ Step w w' p v v' := by
  have hcell := cell_of_one hb.out.cell
  rcases hb.out.form with ⟨_, hl⟩ | ⟨g, cap, rfl, hle, _, _⟩
  · rw [hl] at hk; exact absurd hk (Nat.not_lt_zero _)
  obtain ⟨n, hnn⟩ : ∃ n, l.length = n := ⟨_, rfl⟩
  have Hl := hide hnn
  have HD := hide (delete_any g cap n k (k + 1) base l w hnn (by rw [← hnn]; exact hb.out.row) rfl (by omega) (by omega) (by omega))
  have HL60 : Hid (n ≤ 60) := by rw [← hnn]; exact hn.out
  rw [hnn] at hcell hk hle ⊢
  clear hnn
  have hk60 : k < 60 := by have := HL60.out; omega
  have hkk : ((k + 1 : Nat) : Int) = (k : Int) + 1 := by omega
  rw [hkk] at HD
  go_enter Tryz.func79, Tryz.ntmps79
  go_wp2_with fail
  refine HD.out.mono ?_
  rintro e w2 ⟨rfl, hrow, hg⟩
  obtain ⟨k1, k2⟩ := hb.out.openAt (w2 := w2) (by rw [Hl.out]; exact hg)
  have HR := hide hrow; have HG := hide hg
  clear hrow hg hcell
  rw [Hl.out] at k1
  simp only []
  go_wp2
  go_end0
  have hd : (Bk.del l k).length = n - 1 := by rw [Bk.del_length (by rw [Hl.out]; exact hk), Hl.out]
  have hb' := hb.out
  rw [Hl.out] at hb'
  exact ⟨rfl, _, hb'.set HG.out (by rw [hd]; exact HR.out) (fun k h => .inl h)⟩

set_option maxHeartbeats 1000000 in
theorem clone_any (v : Value) (base n : Nat) (l : List Cv.Lot) (w : World) (hn : Hid (l.length = n)) (hn' : n ≤ 1000) (hr : Hid (w.ownsRow base 56 5 v n (flat l))) :
    Calls Tryz.prog 44 #[v] w fun e w' => ∃ v2, e = .returned v2 ∧ w'.ownsRow w.heap.size 56 5 v2 n (flat l) ∧ Below w.heap.size w w' := by
  have q22 : ∀ (w : World) (a : Option Addr) (n c n' c' : Nat), (binOp .eql 37 (.slice a n c) (.slice none n' c')).run Tryz.prog w = .ok (.bool a.isNone) w := fun w a n c n' c' => Lib.run_eql_slice_nil w _ _ a n c n' c' Tryz.underlying37
  rcases hr.out.2 with ⟨rfl, h0⟩ | ⟨g, cap, cur, rfl, _⟩
  · have HE : Hid (flat l = [] ∧ n = 0) := ⟨by rw [show l = [] from List.eq_nil_of_length_eq_zero (by rw [hn.out]; exact h0)]; rfl, h0⟩
    clear h0
    go_enter Tryz.func44, Tryz.ntmps44
    go_wp2
    go_ret
    exact ⟨_, rfl, by rw [HE.out.1, HE.out.2]; exact World.ownsRow_nil _ _ _ _, Below.refl _ _⟩
  · obtain ⟨i0, z0, hi, hz0, hz1, hz2, hz3⟩ := info110
    have Hi := hide hi; have Hz0 := hide hz0; have Hz1 := hide hz1; have Hz2 := hide hz2; have Hz3 := hide hz3
    clear hi hz0 hz1 hz2 hz3
    go_enter Tryz.func44, Tryz.ntmps44
    go_wp2_with (at_builtin; refine wpList_append_own _ rfl _ _ 37 rfl w.heap.size 56 i0 z0 5 40 Tryz.underlying37 Hi.out Hz0.out Hz1.out Hz2.out Hz3.out (by decide) _ _ _ rfl (World.ownsRow_made w #[] 0 (Nat.le_refl _) (Nat.zero_le _) (by simp)) ⟨g, 0, none⟩ n cap (flat l) rfl (by rw [flat_length, hn.out]) (fun j u hj => cell_later ((Below.refl _ _).alloc (Nat.le_refl _) _) (World.ownsRow.cells hr.out (g := g) rfl j u hj)) (flat_one l) (by unfold maxLen; omega) (by omega) (by simp) ?_)
    intro v2 w1 hown hgrow hnil
    have HO : Hid (w1.ownsRow w.heap.size 56 5 v2 n (flat l)) := by
      show World.ownsRow _ _ _ _ _ _ _
      simpa using hown
    have HB : Hid (Below w.heap.size w w1) := ((Below.refl _ w).alloc (Nat.le_refl _) _).grown hgrow (by simp) (by intro k hk; simp [Value.ownBlock] at hk; omega)
    clear hown hgrow hnil
    go_wp2
    go_ret
    exact ⟨v2, rfl, HO.out, HB.out⟩

theorem lots_any (p base : Nat) (v : Value) (l : List Cv.Lot) (w : World) (hb : Hid (Book w base p v l)) (hn : Hid (l.length ≤ 60)) :
    Calls Tryz.prog 12 #[.pointer (some ⟨p, 0, none⟩)] w fun e w' => ∃ v2, e = .returned v2 ∧ w'.ownsRow w.heap.size 56 5 v2 l.length (flat l) ∧ Below w.heap.size w w' := by
  have hcell := cell_of_one hb.out.cell
  have HC := hide (clone_any v base l.length l w rfl (by have := hn.out; omega) hb.out.row)
  obtain ⟨a, m, c, rfl⟩ : ∃ a m c, v = .slice a m c := by
    rcases hb.out.form with ⟨e, _⟩ | ⟨g, cap, e, _⟩
    · exact ⟨_, _, _, e⟩
    · exact ⟨_, _, _, e⟩
  go_enter Tryz.func12, Tryz.ntmps12
  go_wp2_with fail
  refine HC.out.mono ?_
  rintro e w2 ⟨v2, rfl, hr2, hb2⟩
  have HR := hide hr2; have HB := hide hb2
  clear hr2 hb2 hcell
  simp only []
  go_wp2
  go_ret
  exact ⟨v2, rfl, HR.out, HB.out⟩

/-- the lot of an ID, or none -/
def Bk.getX (l : List Cv.Lot) (id : Int) : Cv.Lot := if Cv.has l id = true then Cv.nth l (Bk.pos l id) else Cv.z
set_option maxHeartbeats 1000000 in
theorem get_any (p base : Nat) (v : Value) (id : Int) (l : List Cv.Lot) (w : World) (hb : Hid (Book w base p v l)) (hn : Hid (l.length ≤ 60)) :
    Calls Tryz.prog 18 #[.pointer (some ⟨p, 0, none⟩), .int .i64 id] w fun e w' => e = .returned (.tuple #[lotV (Bk.getX l id), .bool (Cv.has l id)]) ∧ Below w.heap.size w w' := by
  have HF := hide (find_any p base v id l (w.alloc (.cells #[.int .i64 0, .int .i64 0, .int .i64 0, .int .i64 0, .int .i64 0] 56)) (hb.out.later ((Below.refl _ _).alloc (Nat.le_refl _) _)) hn)
  go_enter Tryz.func18, Tryz.ntmps18
  go_wp2_with fail
  refine HF.out.mono ?_
  rintro e w2 ⟨rfl, hb2⟩
  have hB2 : Below w.heap.size w w2 := ((Below.refl _ _).alloc (Nat.le_refl _) _).trans (hb2.mono (by simp))
  have HB := hide hB2
  have HP : Hid (∀ j, j < 5 → w2.cell? ⟨w.heap.size, j, none⟩ = some (.int .i64 0) ∧ w2.frozen? ⟨w.heap.size, j, none⟩ = false) := fun j hj => by
    have e := hb2.block w.heap.size (by simp)
    rw [heap_alloc_new] at e
    refine ⟨?_, by simp [World.frozen?, e]⟩
    simp only [World.cell?, e]
    have : j = 0 ∨ j = 1 ∨ j = 2 ∨ j = 3 ∨ j = 4 := by omega
    rcases this with rfl | rfl | rfl | rfl | rfl <;> rfl
  have HK := hide (hb.out.later hB2)
  have ⟨a0, f0⟩ := HP.out 0 (by decide); have ⟨a1, f1⟩ := HP.out 1 (by decide); have ⟨a2, f2⟩ := HP.out 2 (by decide); have ⟨a3, f3⟩ := HP.out 3 (by decide); have ⟨a4, f4⟩ := HP.out 4 (by decide)
  clear hb2 hB2 HF
  cases hh : Cv.has l id with
  | false =>
    have Hh := hide hh
    rw [Bk.posI_none hh]
    clear hh
    simp only []
    go_wp2
    refine bodyPost_ret (v := .tuple #[lotV Cv.z, .bool false]) (by simp [results, Tryz.results18, go_sem, lotV, Cv.z, a0, a1, a2, a3, a4]) rfl ⟨?_, ?_⟩
    · rw [show Bk.getX l id = Cv.z by unfold Bk.getX; rw [Hh.out]; rfl, Hh.out]
    · exact ((((HB.out.setCell (Nat.le_refl _) _).setCell (Nat.le_refl _) _).setCell (Nat.le_refl _) _).setCell (Nat.le_refl _) _).setCell (Nat.le_refl _) _
  | true =>
    have Hh := hide hh
    rw [Bk.posI_some hh]
    have hk := Bk.posI_lt hh
    clear hh
    have hcell := cell_of_one HK.out.cell
    rcases HK.out.form with ⟨_, hl⟩ | ⟨g, cap, rfl, hle, _, hl⟩
    · rw [hl] at hk; exact absurd hk (Nat.not_lt_zero _)
    obtain ⟨c0, c1, c2, c3, c4⟩ := hl _ hk
    have HX : Hid (Bk.getX l id = Cv.nth l (Bk.pos l id)) := by show _ = _; unfold Bk.getX; rw [if_pos Hh.out]
    have h60 : l.length ≤ 60 := hn.out
    obtain ⟨x, hx⟩ : ∃ x, Cv.nth l (Bk.pos l id) = x := ⟨_, rfl⟩
    rw [hx] at HX c0 c1 c2 c3 c4
    clear hx
    generalize Bk.pos l id = k at *
    obtain ⟨n, hnn⟩ : ∃ n, l.length = n := ⟨_, rfl⟩
    rw [hnn] at hk hcell h60
    have hg : g < w2.heap.size := World.block_lt_of_cell? _ _ c0
    have hki : (k : Int) < n := by omega
    simp only [Nat.zero_add] at c0 c1 c2 c3 c4
    clear hl hle hnn HK
    simp only []
    go_wp2
    refine bodyPost_ret (v := .tuple #[lotV x, .bool true]) (by simp [results, Tryz.results18, go_sem, lotV, a0, a1, a2, a3, a4]) rfl ⟨?_, ?_⟩
    · rw [Hh.out, HX.out]
    · exact ((((HB.out.setCell (Nat.le_refl _) _).setCell (Nat.le_refl _) _).setCell (Nat.le_refl _) _).setCell (Nat.le_refl _) _).setCell (Nat.le_refl _) _
end Go.Proofs.YtjdnahmdicamdaaGreatDoor
