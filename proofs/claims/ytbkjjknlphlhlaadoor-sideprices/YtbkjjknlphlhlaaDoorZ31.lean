/- A region that draws its order, in company: by what holds of whatever has gone. -/
import Derived.Test.YtbkjjknlphlhlaaDoorZ30
namespace Go.Proofs.YtbkjjknlphlhlaaDoor
namespace Wy
open Go.Conc Sim
set_option maxRecDepth 100000
/-- How many have not gone yet. -/
def left (listed : Array Bool) : Nat := listed.toList.count false
theorem left_list : ∀ (l : List Bool) (i : Nat) (hi : i < l.length), l[i] = false → (l.set i true).count false + 1 = l.count false
  | [], _, hi, _ => by simp at hi
  | x :: l, 0, _, h => by
    have hx : x = false := h
    subst hx; simp
  | x :: l, i + 1, hi, h => by
    have := left_list l i (by simpa using hi) h
    simp only [List.set_cons_succ, List.count_cons]
    omega
theorem left_set {listed : Array Bool} {i : Nat} (h : listed.getD i true = false) : left (listed.setIfInBounds i true) + 1 = left listed := by
  obtain ⟨l⟩ := listed
  have hi : i < l.length := by
    by_cases hi : i < l.length
    · exact hi
    · simp [Array.getD, hi] at h
  have h : l[i] = false := by simpa [Array.getD, hi] using h
  unfold left
  simp only [List.setIfInBounds_toArray]
  exact left_list l i hi h
theorem all_of_left {listed : Array Bool} (h : left listed = 0) (i : Nat) : listed.getD i true = true := by
  obtain ⟨l⟩ := listed
  unfold left at h
  by_cases hi : i < l.length
  · have : l[i] ≠ false := fun e => by
      have := List.count_eq_zero.1 h
      exact this (e ▸ List.getElem_mem hi)
    simpa [Array.getD, hi] using this
  · simp [Array.getD, hi]
section
variable {P : Program} {main : Bool} {I : World → Prop} {X : Event → Prop} {S : (Nat → Prop) → (Nat → Prop) → Goroutine → World → Prop} {md : Region.Mode} {ops : Array Oper} {b : Frame} {k : List Item} {cs : List Frame}
/-- Nobody is ready: all have gone. -/
theorem all_gone (hback : ∀ i o, ops[i]? = some o → ∀ e ∈ o.after, Region.binds md e = true → e.on < i) {listed : Array Bool} (hs : listed.size = ops.size) (hr : Region.ready md ops listed = []) : ∀ i, i < ops.size → listed.getD i true = true := by
  intro i
  induction i using Nat.strongRecOn with
  | ind i ih =>
    intro hi
    cases hl : listed.getD i true with
    | true => rfl
    | false =>
      have : i ∈ Region.ready md ops listed := mem_ready.2 ⟨hl, ops[i], Array.getElem?_eq_getElem hi, fun e he hb => by
        have h1 := hback i _ (Array.getElem?_eq_getElem hi) e he hb
        have h2 := ih e.on h1 (by omega)
        have h3 : e.on < listed.size := by omega
        simpa [Array.getD, h3] using h2⟩
      rw [hr] at this; cases this
/-- ████ -/
theorem wayAny_inv {Inv : Array Bool → (Nat → Prop) → (Nat → Prop) → Act → World → Prop} (hback : ∀ i o, ops[i]? = some o → ∀ e ∈ o.after, Region.binds md e = true → e.on < i)
    (hstep : ∀ (listed : Array Bool) A M a w i o rest, Inv listed A M a w → listed.size = ops.size → listed.getD i true = false → ops[i]? = some o → (∀ e ∈ o.after, Region.binds md e = true → listed.getD e.on false = true) →
      (∀ A M a w, Inv (listed.setIfInBounds i true) A M a w → WayAt P main I X S ops b k cs rest A M a w) → WayAt P main I X S ops b k cs (i :: rest) A M a w)
    (hend : ∀ (listed : Array Bool) A M a w, Inv listed A M a w → (∀ i, i < ops.size → listed.getD i true = true) → WayAt P main I X S ops b k cs [] A M a w) :
    ∀ (fuel : Nat) (listed : Array Bool) (A M : Nat → Prop) (a : Act) (w : World), listed.size = ops.size → left listed ≤ fuel → Inv listed A M a w → WayAny P main I X S md ops b k cs fuel listed A M a w := by
  intro fuel
  induction fuel with
  | zero =>
    intro listed A M a w hs hl h
    have hall := all_of_left (Nat.le_zero.1 hl)
    refine ⟨?_, hend listed A M a w h fun i _ => hall i⟩
    cases hr : Region.ready md ops listed with
    | nil => rfl
    | cons x xs =>
      have : x ∈ Region.ready md ops listed := by rw [hr]; exact List.mem_cons_self
      have := (mem_ready.1 this).1
      rw [hall x] at this; cases this
  | succ fuel ih =>
    intro listed A M a w hs hl h
    refine ⟨fun hr => hend listed A M a w h (all_gone hback hs hr), fun i hi rest hrest => ?_⟩
    obtain ⟨h1, o, h2, h3⟩ := mem_ready.1 hi
    refine hstep listed A M a w i o rest h hs h1 h2 h3 fun A M a w h' => hrest A M a w (ih _ A M a w (by simp [hs]) ?_ h')
    have := left_set h1
    omega
end
end Wy
end Go.Proofs.YtbkjjknlphlhlaaDoor
namespace Go.Proofs.YtbkjjknlphlhlaaDoor
namespace Sin
open Sim
open Go.Conc
set_option maxRecDepth 100000
section
variable {P : Program} {Z : Nat → Prop} {Stop : Goroutine → World → Prop} {w : World}
theorem wd_still {n : Nat} {g g' : Goroutine} (h : Ev.Still P true n g g') (k : Mb.Wd P Z Stop g' w) : Mb.Wd P Z Stop g w := by
  induction n generalizing g with
  | zero => cases h; exact k
  | succ n ih =>
    obtain ⟨h0, g1, h1, h2⟩ := h
    exact .go h0 fun d hd => ⟨_, _, _, h1 _, ⟨Nat.le_refl _, fun e he => by simp at he⟩, (ih h2).at hd⟩
/-- What one does of whatever is not shunned. -/
theorem wd_of_way {S2 : (Nat → Prop) → (Nat → Prop) → Goroutine → World → Prop} {A M : Nat → Prop} {g : Goroutine} (h : Wy.Way P true (fun _ => True) (fun _ => False) S2 A M g w) (hA : ∀ b, A b → ¬ Z b ∧ b < w.heap.size) (hZ : ∀ b, Z b → b < w.heap.size)
    (hs : ∀ A M g w, S2 A M g w → (∀ b, A b → ¬ Z b ∧ b < w.heap.size) → (∀ b, Z b → b < w.heap.size) → Stop g w) : Mb.Wd P Z Stop g w := by
  have rel : ∀ {A : Nat → Prop} {w : World} {d : Nat}, w.drawn ≤ d → Rely A w (w.at d) := fun hd => ⟨fun _ _ => rfl, Nat.le_refl _, rfl, hd, rfl, rfl⟩
  induction h with
  | stop h => exact .stop fun d hd => hs _ _ _ _ (h _ (rel hd) trivial) hA hZ
  | @step A M g w h0 h1 h2 ih =>
    refine .go h0 fun d hd => ?_
    obtain ⟨g', w', es, e, hg⟩ := h1 (w.at d) (rel hd) trivial
    have hA' : ∀ b, fresh (w.at d) w' A b → ¬ Z b ∧ b < w'.heap.size := fun b hb => by
      rcases hb with hb | hb
      · exact ⟨(hA b hb).1, Nat.lt_of_lt_of_le (hA b hb).2 hg.size⟩
      · exact ⟨fun hz => by have := hZ b hz; have h3 : w.heap.size ≤ b := hb.1; omega, hb.2⟩
    refine ⟨g', w', es, e, ⟨hg.size, fun ev he => ?_⟩, ih (w.at d) g' w' es (rel hd) trivial e hA' fun b hz => Nat.lt_of_lt_of_le (hZ b hz) hg.size⟩
    rcases hg.evs ev he with h | h
    · rcases h with ⟨a, h3, h4, h5, _⟩ | h | ⟨f, h⟩ | ⟨b, h3, h⟩
      · obtain ⟨l, wr, sy⟩ := ev
        dsimp only at h3 h4
        subst h3; subst h4
        exact .cell a wr (hA' _ h5).1 (hA' _ h5).2
      · subst h; exact .room
      · subst h; exact .ext f
      · subst h; exact .obj b (hA' _ h3).1 (hA' _ h3).2
    · exact h.elim
end
end Sin
end Go.Proofs.YtbkjjknlphlhlaaDoor
namespace Go.Proofs.YtbkjjknlphlhlaaDoor
namespace Wy
open Go.Conc Sim Ev Mc
set_option maxRecDepth 100000
section
variable {ops : Array Oper} {i : Nat} {rest : List Nat} {k : List Item} {cs : List Frame} {b : Frame} {a : Act} {o : Oper}
theorem cur_at (ho : ops[i]? = some o) (hg : o.guard = none) (hk : b.kind ≠ .early) : curOp (G (b.at a (.inRegion ops (i :: rest) :: k)) cs) = some o := by
  unfold curOp G Frame.at
  cases hb : b.kind <;> first | (exact absurd hb hk) | simp [ho, hg]
theorem fin_at (v : Value) (ho : ops[i]? = some o) : fin (G (b.at a (.inRegion ops (i :: rest) :: k)) cs) v = G (b.at (a.put o.dst v) (.inRegion ops rest :: k)) cs := by
  unfold fin
  show G (Frame.finish (b.at a _) v) cs = _
  rw [Frame.finish_at, ho]
  rfl
theorem eval_at' (x : Operand) (todo : List Item) : (G (b.at a todo) cs).frame.eval x = a.eval x := Frame.eval_at b a todo x
variable {E : Env} {main : Bool} {S : (Nat → Prop) → (Nat → Prop) → Goroutine → World → Prop} {A M : Nat → Prop} {w : World}
/-- A load of a variable of one cell that all may read. -/
theorem way_load {t : TypeId} {x : Operand} {ad : Addr} {v : Value} (ho : ops[i]? = some o) (hg : o.guard = none) (hk : b.kind ≠ .early) (hop : o.op = .load t x) (hx : a.eval x = .pointer (some ad)) (hb : Holds1 E ad v)
    (hs : ∀ w : World, Sem.run Tryd.prog (sizeOf t) w = .ok 1 w) (ha : ∀ w : World, Sem.run Tryd.prog (isAgg t) w = .ok false w) (hq : (Tryd.prog.funcs[b.fn]?).any (·.norace) = false)
    (h : ∀ w1, Rely A w w1 → Kn E w1 → WayAt Tryd.prog main (Kn E) (XE E main) S ops b k cs rest A M (a.put o.dst v) w1) : WayAt Tryd.prog main (Kn E) (XE E main) S ops b k cs (i :: rest) A M a w :=
  way_go rfl fun w1 r hi => by
    have hl : loadOf (G (b.at a (.inRegion ops (i :: rest) :: k)) cs) = some (t, .pointer (some ad)) := by
      unfold loadOf
      rw [cur_at ho hg hk]
      obtain ⟨d, op, ty, ps, af, gd⟩ := o
      dsimp only at hop
      subst hop
      show some (t, (G (b.at a _) cs).frame.eval x) = _
      rw [eval_at', hx]
    have e := load_one (main := main) (w := w1) hl hs ha (hb.get hi) hq
    rw [fin_at v ho] at e
    refine ⟨_, _, _, e, .still (xe_read hb), ?_⟩
    rw [Ev.fresh_self, Ev.fresh_self]
    exact h w1 r hi
/-- A move. -/
theorem way_move {x : Operand} {v : Value} (ho : ops[i]? = some o) (hg : o.guard = none) (hk : b.kind ≠ .early) (hop : o.op = .move x ∨ o.op = .assign x) (hx : a.eval x = v)
    (h : WayAt Tryd.prog main (Kn E) (XE E main) S ops b k cs rest A M (a.put o.dst v) w) : WayAt Tryd.prog main (Kn E) (XE E main) S ops b k cs (i :: rest) A M a w := by
  have hw : Region.wanted o (yielded ops a.tmps) = true := by simp [Region.wanted, hg]
  have hr : ∀ w1 : World, (execOp a.eval o).run Tryd.prog w1 = .ok (.value v) w1 := fun w1 => by
    rcases hop with hop | hop <;> (unfold execOp; simp [hop, hx])
  have he : ∀ w1 : World, (execOp a.eval o).events Tryd.prog w1 #[] = #[] := fun w1 => by
    rcases hop with hop | hop <;> (unfold execOp; simp [hop])
  exact way_pure ho hw hk hr he h
end
end Wy
end Go.Proofs.YtbkjjknlphlhlaaDoor
namespace Go.Proofs.YtbkjjknlphlhlaaDoor
namespace Ev
open Go.Conc Go.ConcN
open Go.ConcR (KK WgAt stA smA rd wr mk)
set_option maxRecDepth 100000
section
variable (Wg : Nat) (nb db tb ob : Addr) (cn : Nat) (T : Array Value) (hT : WT Wg nb db tb ob cn T) (S : Int) (hS : S = 0 ∨ S = 4294967296 ∨ S = 8589934592 ∨ S = 12884901888 ∨ S = 17179869184 ∨ S = 21474836480 ∨ S = 25769803776 ∨ S = 30064771072)
 include hT hS
theorem leaves_a : QuitsD Tryd.prog 94 1 (fin (R6 Wg nb db tb ob cn T) (.int .u64 S)) := by
  obtain ⟨v0, v1, v2, v3, v4, v5, v6, v7, v8, v9, v10, v11, v12, v13, v14, v15, v16, v17, v18, v19, v20, v21, v22, v23, v24, v25, v26, rfl⟩ := array27 T hT.size
  have h0 := hT.a0; have h1 := hT.a1; have h2 := hT.a2; have h3 := hT.a3; have h4 := hT.a4; have h8 := hT.a8
  simp only [List.getElem?_toArray, List.getElem?_cons_succ, List.getElem?_cons_zero, Option.some.injEq] at h0 h1 h2 h3 h4 h8
  subst h0; subst h1; subst h2; subst h3; subst h4; subst h8
  have go : ∀ g : Goroutine, Still Tryd.prog false 87 g (adv Tryd.prog false 87 g) → (adv Tryd.prog false 87 g).status = .running → (∀ w, stepG Tryd.prog false (adv Tryd.prog false 87 g) w = .go (next Tryd.prog false (adv Tryd.prog false 87 g)) w #[mk .enable]) →
      Still Tryd.prog false 5 (next Tryd.prog false (adv Tryd.prog false 87 g)) (adv Tryd.prog false 5 (next Tryd.prog false (adv Tryd.prog false 87 g))) → (adv Tryd.prog false 5 (next Tryd.prog false (adv Tryd.prog false 87 g))).status = .running → (∀ w, stepG Tryd.prog false (adv Tryd.prog false 5 (next Tryd.prog false (adv Tryd.prog false 87 g))) w = .go (next Tryd.prog false (adv Tryd.prog false 5 (next Tryd.prog false (adv Tryd.prog false 87 g)))) w) →
      (next Tryd.prog false (adv Tryd.prog false 5 (next Tryd.prog false (adv Tryd.prog false 87 g)))).status = .finished → QuitsD Tryd.prog 94 1 g := fun g h1 h2 h3 h4 h5 h6 h7 =>
    Still.quits (n := 87) (k := 7) h1 (QuitsD.said (mk .enable) rfl h2 h3 (Still.quits (n := 5) (k := 1) h4 (QuitsD.ctl h5 h6 ⟨h7, rfl⟩)))
  rcases hS with rfl | rfl | rfl | rfl | rfl | rfl | rfl | rfl
  all_goals exact go _ (still_of (fun w => by kernel_rfl) (by kernel_rfl) (by kernel_rfl)) (by kernel_rfl) (fun w => by kernel_rfl) (still_of (fun w => by kernel_rfl) (by kernel_rfl) (by kernel_rfl)) (by kernel_rfl) (fun w => by kernel_rfl) (by kernel_rfl)
end
end Ev
end Go.Proofs.YtbkjjknlphlhlaaDoor
namespace Go.Proofs.YtbkjjknlphlhlaaDoor
namespace Ev
open Go.Conc Go.ConcN
open Go.ConcR (KK WgAt stA smA rd wr mk)
set_option maxRecDepth 100000
section
variable (Wg : Nat) (nb db tb ob : Addr) (cn : Nat) (T : Array Value) (hT : WT Wg nb db tb ob cn T) (S : Int) (hS : S = 34359738368 ∨ S = 38654705664 ∨ S = 42949672960 ∨ S = 47244640256 ∨ S = 51539607552 ∨ S = 55834574848 ∨ S = 60129542144 ∨ S = 64424509440)
 include hT hS
theorem leaves_b : QuitsD Tryd.prog 94 1 (fin (R6 Wg nb db tb ob cn T) (.int .u64 S)) := by
  obtain ⟨v0, v1, v2, v3, v4, v5, v6, v7, v8, v9, v10, v11, v12, v13, v14, v15, v16, v17, v18, v19, v20, v21, v22, v23, v24, v25, v26, rfl⟩ := array27 T hT.size
  have h0 := hT.a0; have h1 := hT.a1; have h2 := hT.a2; have h3 := hT.a3; have h4 := hT.a4; have h8 := hT.a8
  simp only [List.getElem?_toArray, List.getElem?_cons_succ, List.getElem?_cons_zero, Option.some.injEq] at h0 h1 h2 h3 h4 h8
  subst h0; subst h1; subst h2; subst h3; subst h4; subst h8
  have go : ∀ g : Goroutine, Still Tryd.prog false 87 g (adv Tryd.prog false 87 g) → (adv Tryd.prog false 87 g).status = .running → (∀ w, stepG Tryd.prog false (adv Tryd.prog false 87 g) w = .go (next Tryd.prog false (adv Tryd.prog false 87 g)) w #[mk .enable]) →
      Still Tryd.prog false 5 (next Tryd.prog false (adv Tryd.prog false 87 g)) (adv Tryd.prog false 5 (next Tryd.prog false (adv Tryd.prog false 87 g))) → (adv Tryd.prog false 5 (next Tryd.prog false (adv Tryd.prog false 87 g))).status = .running → (∀ w, stepG Tryd.prog false (adv Tryd.prog false 5 (next Tryd.prog false (adv Tryd.prog false 87 g))) w = .go (next Tryd.prog false (adv Tryd.prog false 5 (next Tryd.prog false (adv Tryd.prog false 87 g)))) w) →
      (next Tryd.prog false (adv Tryd.prog false 5 (next Tryd.prog false (adv Tryd.prog false 87 g)))).status = .finished → QuitsD Tryd.prog 94 1 g := fun g h1 h2 h3 h4 h5 h6 h7 =>
    Still.quits (n := 87) (k := 7) h1 (QuitsD.said (mk .enable) rfl h2 h3 (Still.quits (n := 5) (k := 1) h4 (QuitsD.ctl h5 h6 ⟨h7, rfl⟩)))
  rcases hS with rfl | rfl | rfl | rfl | rfl | rfl | rfl | rfl
  all_goals exact go _ (still_of (fun w => by kernel_rfl) (by kernel_rfl) (by kernel_rfl)) (by kernel_rfl) (fun w => by kernel_rfl) (still_of (fun w => by kernel_rfl) (by kernel_rfl) (by kernel_rfl)) (by kernel_rfl) (fun w => by kernel_rfl) (by kernel_rfl)
end
end Ev
end Go.Proofs.YtbkjjknlphlhlaaDoor
namespace Go.Proofs.YtbkjjknlphlhlaaDoor
namespace Ev
open Go.Conc Go.ConcN
open Go.ConcR (KK WgAt stA smA rd wr mk)
set_option maxRecDepth 100000
section
variable (Wg : Nat) (nb db tb ob : Addr) (cn : Nat) (T : Array Value) (hT : WT Wg nb db tb ob cn T) (S : Int) (hS : S = 4294967297 ∨ S = 8589934593 ∨ S = 12884901889 ∨ S = 17179869185 ∨ S = 21474836481 ∨ S = 25769803777 ∨ S = 30064771073 ∨ S = 34359738369)
 include hT hS
theorem leaves_c : QuitsD Tryd.prog 94 1 (fin (R6 Wg nb db tb ob cn T) (.int .u64 S)) := by
  obtain ⟨v0, v1, v2, v3, v4, v5, v6, v7, v8, v9, v10, v11, v12, v13, v14, v15, v16, v17, v18, v19, v20, v21, v22, v23, v24, v25, v26, rfl⟩ := array27 T hT.size
  have h0 := hT.a0; have h1 := hT.a1; have h2 := hT.a2; have h3 := hT.a3; have h4 := hT.a4; have h8 := hT.a8
  simp only [List.getElem?_toArray, List.getElem?_cons_succ, List.getElem?_cons_zero, Option.some.injEq] at h0 h1 h2 h3 h4 h8
  subst h0; subst h1; subst h2; subst h3; subst h4; subst h8
  have go : ∀ g : Goroutine, Still Tryd.prog false 87 g (adv Tryd.prog false 87 g) → (adv Tryd.prog false 87 g).status = .running → (∀ w, stepG Tryd.prog false (adv Tryd.prog false 87 g) w = .go (next Tryd.prog false (adv Tryd.prog false 87 g)) w #[mk .enable]) →
      Still Tryd.prog false 5 (next Tryd.prog false (adv Tryd.prog false 87 g)) (adv Tryd.prog false 5 (next Tryd.prog false (adv Tryd.prog false 87 g))) → (adv Tryd.prog false 5 (next Tryd.prog false (adv Tryd.prog false 87 g))).status = .running → (∀ w, stepG Tryd.prog false (adv Tryd.prog false 5 (next Tryd.prog false (adv Tryd.prog false 87 g))) w = .go (next Tryd.prog false (adv Tryd.prog false 5 (next Tryd.prog false (adv Tryd.prog false 87 g)))) w) →
      (next Tryd.prog false (adv Tryd.prog false 5 (next Tryd.prog false (adv Tryd.prog false 87 g)))).status = .finished → QuitsD Tryd.prog 94 1 g := fun g h1 h2 h3 h4 h5 h6 h7 =>
    Still.quits (n := 87) (k := 7) h1 (QuitsD.said (mk .enable) rfl h2 h3 (Still.quits (n := 5) (k := 1) h4 (QuitsD.ctl h5 h6 ⟨h7, rfl⟩)))
  rcases hS with rfl | rfl | rfl | rfl | rfl | rfl | rfl | rfl
  all_goals exact go _ (still_of (fun w => by kernel_rfl) (by kernel_rfl) (by kernel_rfl)) (by kernel_rfl) (fun w => by kernel_rfl) (still_of (fun w => by kernel_rfl) (by kernel_rfl) (by kernel_rfl)) (by kernel_rfl) (fun w => by kernel_rfl) (by kernel_rfl)
end
end Ev
end Go.Proofs.YtbkjjknlphlhlaaDoor
namespace Go.Proofs.YtbkjjknlphlhlaaDoor
namespace Ev
open Go.Conc Go.ConcN
open Go.ConcR (KK WgAt stA smA rd wr mk)
set_option maxRecDepth 100000
section
variable (Wg : Nat) (nb db tb ob : Addr) (cn : Nat) (T : Array Value) (hT : WT Wg nb db tb ob cn T) (S : Int) (hS : S = 38654705665 ∨ S = 42949672961 ∨ S = 47244640257 ∨ S = 51539607553 ∨ S = 55834574849 ∨ S = 60129542145 ∨ S = 64424509441)
 include hT hS
theorem leaves_d : QuitsD Tryd.prog 94 1 (fin (R6 Wg nb db tb ob cn T) (.int .u64 S)) := by
  obtain ⟨v0, v1, v2, v3, v4, v5, v6, v7, v8, v9, v10, v11, v12, v13, v14, v15, v16, v17, v18, v19, v20, v21, v22, v23, v24, v25, v26, rfl⟩ := array27 T hT.size
  have h0 := hT.a0; have h1 := hT.a1; have h2 := hT.a2; have h3 := hT.a3; have h4 := hT.a4; have h8 := hT.a8
  simp only [List.getElem?_toArray, List.getElem?_cons_succ, List.getElem?_cons_zero, Option.some.injEq] at h0 h1 h2 h3 h4 h8
  subst h0; subst h1; subst h2; subst h3; subst h4; subst h8
  have go : ∀ g : Goroutine, Still Tryd.prog false 87 g (adv Tryd.prog false 87 g) → (adv Tryd.prog false 87 g).status = .running → (∀ w, stepG Tryd.prog false (adv Tryd.prog false 87 g) w = .go (next Tryd.prog false (adv Tryd.prog false 87 g)) w #[mk .enable]) →
      Still Tryd.prog false 5 (next Tryd.prog false (adv Tryd.prog false 87 g)) (adv Tryd.prog false 5 (next Tryd.prog false (adv Tryd.prog false 87 g))) → (adv Tryd.prog false 5 (next Tryd.prog false (adv Tryd.prog false 87 g))).status = .running → (∀ w, stepG Tryd.prog false (adv Tryd.prog false 5 (next Tryd.prog false (adv Tryd.prog false 87 g))) w = .go (next Tryd.prog false (adv Tryd.prog false 5 (next Tryd.prog false (adv Tryd.prog false 87 g)))) w) →
      (next Tryd.prog false (adv Tryd.prog false 5 (next Tryd.prog false (adv Tryd.prog false 87 g)))).status = .finished → QuitsD Tryd.prog 94 1 g := fun g h1 h2 h3 h4 h5 h6 h7 =>
    Still.quits (n := 87) (k := 7) h1 (QuitsD.said (mk .enable) rfl h2 h3 (Still.quits (n := 5) (k := 1) h4 (QuitsD.ctl h5 h6 ⟨h7, rfl⟩)))
  rcases hS with rfl | rfl | rfl | rfl | rfl | rfl | rfl
  all_goals exact go _ (still_of (fun w => by kernel_rfl) (by kernel_rfl) (by kernel_rfl)) (by kernel_rfl) (fun w => by kernel_rfl) (still_of (fun w => by kernel_rfl) (by kernel_rfl) (by kernel_rfl)) (by kernel_rfl) (fun w => by kernel_rfl) (by kernel_rfl)
end
end Ev
end Go.Proofs.YtbkjjknlphlhlaaDoor
namespace Go.Proofs.YtbkjjknlphlhlaaDoor
namespace Ev
open Go.Conc Go.ConcN
open Go.ConcR (KK WgAt stA smA rd wr mk)
set_option maxRecDepth 100000
section
variable (Wg : Nat) (nb db tb ob : Addr) (cn : Nat) (T : Array Value)
/-- At its look. -/
noncomputable def Q1 : Goroutine := adv Tryd.prog false 103 (fin (R6 Wg nb db tb ob cn T) (.int .u64 1))
/-- At its store. -/
noncomputable def Q2 : Goroutine := adv Tryd.prog false 20 (fin (Q1 Wg nb db tb ob cn T) (.int .u64 1))
/-- At its call to him who waits. -/
noncomputable def Q3 : Goroutine := adv Tryd.prog false 27 (fin (Q2 Wg nb db tb ob cn T) (.tuple #[]))
noncomputable def Q4 : Goroutine := fin (Q3 Wg nb db tb ob cn T) (.tuple #[])
variable (hT : WT Wg nb db tb ob cn T)
 include hT
theorem last_all : Still Tryd.prog false 103 (fin (R6 Wg nb db tb ob cn T) (.int .u64 1)) (Q1 Wg nb db tb ob cn T) ∧ sits (Q1 Wg nb db tb ob cn T) = some (71, #[.pointer (some ⟨Wg, 0, none⟩)]) ∧
    Still Tryd.prog false 20 (fin (Q1 Wg nb db tb ob cn T) (.int .u64 1)) (Q2 Wg nb db tb ob cn T) ∧ sits (Q2 Wg nb db tb ob cn T) = some (72, #[.pointer (some ⟨Wg, 0, none⟩), .int .u64 0]) ∧
    Still Tryd.prog false 27 (fin (Q2 Wg nb db tb ob cn T) (.tuple #[])) (Q3 Wg nb db tb ob cn T) ∧ (∃ l, sits (Q3 Wg nb db tb ob cn T) = some (58, ⟨.pointer (some ⟨Wg, 1, none⟩) :: l⟩)) ∧ mayWake Tryd.prog (Q3 Wg nb db tb ob cn T) = true ∧
    (Q4 Wg nb db tb ob cn T).status = .running ∧ QuitsD Tryd.prog 24 1 (Q4 Wg nb db tb ob cn T) := by
  obtain ⟨v0, v1, v2, v3, v4, v5, v6, v7, v8, v9, v10, v11, v12, v13, v14, v15, v16, v17, v18, v19, v20, v21, v22, v23, v24, v25, v26, rfl⟩ := array27 T hT.size
  have h0 := hT.a0; have h1 := hT.a1; have h2 := hT.a2; have h3 := hT.a3; have h4 := hT.a4; have h8 := hT.a8
  simp only [List.getElem?_toArray, List.getElem?_cons_succ, List.getElem?_cons_zero, Option.some.injEq] at h0 h1 h2 h3 h4 h8
  subst h0; subst h1; subst h2; subst h3; subst h4; subst h8
  have go : ∀ g : Goroutine, Still Tryd.prog false 17 g (adv Tryd.prog false 17 g) → (adv Tryd.prog false 17 g).status = .running → (∀ w, stepG Tryd.prog false (adv Tryd.prog false 17 g) w = .go (next Tryd.prog false (adv Tryd.prog false 17 g)) w #[mk .enable]) →
      Still Tryd.prog false 5 (next Tryd.prog false (adv Tryd.prog false 17 g)) (adv Tryd.prog false 5 (next Tryd.prog false (adv Tryd.prog false 17 g))) → (adv Tryd.prog false 5 (next Tryd.prog false (adv Tryd.prog false 17 g))).status = .running → (∀ w, stepG Tryd.prog false (adv Tryd.prog false 5 (next Tryd.prog false (adv Tryd.prog false 17 g))) w = .go (next Tryd.prog false (adv Tryd.prog false 5 (next Tryd.prog false (adv Tryd.prog false 17 g)))) w) →
      (next Tryd.prog false (adv Tryd.prog false 5 (next Tryd.prog false (adv Tryd.prog false 17 g)))).status = .finished → QuitsD Tryd.prog 24 1 g := fun g h1 h2 h3 h4 h5 h6 h7 =>
    Still.quits (n := 17) (k := 7) h1 (QuitsD.said (mk .enable) rfl h2 h3 (Still.quits (n := 5) (k := 1) h4 (QuitsD.ctl h5 h6 ⟨h7, rfl⟩)))
  exact ⟨still_of (fun w => by kernel_rfl) (by kernel_rfl) (by kernel_rfl), by kernel_rfl, still_of (fun w => by kernel_rfl) (by kernel_rfl) (by kernel_rfl), by kernel_rfl, still_of (fun w => by kernel_rfl) (by kernel_rfl) (by kernel_rfl), ⟨[.bool false, .int .i64 0], by kernel_rfl⟩, by kernel_rfl, by kernel_rfl,
    go _ (still_of (fun w => by kernel_rfl) (by kernel_rfl) (by kernel_rfl)) (by kernel_rfl) (fun w => by kernel_rfl) (still_of (fun w => by kernel_rfl) (by kernel_rfl) (by kernel_rfl)) (by kernel_rfl) (fun w => by kernel_rfl) (by kernel_rfl)⟩
end
end Ev
end Go.Proofs.YtbkjjknlphlhlaaDoor
namespace Go.Proofs.YtbkjjknlphlhlaaDoor
namespace Mc
open Go.Conc Go.ConcN Hd Sim Wy Ev
open Go.ConcR (KK WgAt stA smA mk)
set_option maxRecDepth 100000
theorem quits_mono {P : Program} : ∀ {n m d : Nat} {g : Goroutine}, n ≤ m → QuitsD P n d g → QuitsD P m d g
  | 0, 0, _, _, _, h => h
  | 0, _ + 1, _, _, _, h => .inl h
  | _ + 1, 0, _, _, hm, _ => absurd hm (by omega)
  | n + 1, m + 1, _, _, hm, h => h.imp id fun ⟨a, g', es, b, c, d⟩ => ⟨a, g', es, b, c, quits_mono (by omega) d⟩
section
variable (Wg : Nat) (nb db tb ob : Addr) (cn : Nat) (T : Array Value) (hT : WT Wg nb db tb ob cn T)
 include hT
theorem leaves_k {k : Nat} (hk : k ≤ 15) : QuitsD Tryd.prog 200 1 (fin (R6 Wg nb db tb ob cn T) (.int .u64 ((k : Int) * KK))) := by
  have hK : KK = 4294967296 := rfl
  refine quits_mono (n := 94) (by omega) ?_
  by_cases a : k ≤ 7
  · exact leaves_a Wg nb db tb ob cn T hT _ (by rw [hK]; omega)
  · exact leaves_b Wg nb db tb ob cn T hT _ (by rw [hK]; omega)
theorem leaves_k1 {k : Nat} (h1 : 1 ≤ k) (hk : k ≤ 15) : QuitsD Tryd.prog 200 1 (fin (R6 Wg nb db tb ob cn T) (.int .u64 ((k : Int) * KK + 1))) := by
  have hK : KK = 4294967296 := rfl
  refine quits_mono (n := 94) (by omega) ?_
  by_cases a : k ≤ 8
  · exact leaves_c Wg nb db tb ob cn T hT _ (by rw [hK]; omega)
  · exact leaves_d Wg nb db tb ob cn T hT _ (by rw [hK]; omega)
end
section
variable {E : Env} {F : Fam} {nb db tb ob : Addr} (T : Array Value) (hT : WT E.Wg nb db tb ob E.cn T)
 include hT
theorem gl3_of : GL3 Tryd.prog E (Q3 E.Wg nb db tb ob E.cn T) := by
  obtain ⟨_, _, _, _, _, ⟨l, h6⟩, h7, h8, h9⟩ := last_all E.Wg nb db tb ob E.cn T hT
  exact ⟨sits_run h6, fun w _ hw => give_acts h6 hw fun w' => ⟨quits_mono (n := 24) (by omega) h9, h7, h8⟩⟩
theorem gl2_of : GL2 Tryd.prog E (Q2 E.Wg nb db tb ob E.cn T) := by
  obtain ⟨_, _, _, h4, h5, _⟩ := last_all E.Wg nb db tb ob E.cn T hT
  exact ⟨sits_run h4, fun w _ hw => store_acts h4 hw fun w' => ⟨27, by omega, _, h5, gl3_of T hT⟩⟩
theorem gl1_of : GL1 Tryd.prog E (Q1 E.Wg nb db tb ob E.cn T) := by
  obtain ⟨_, h2, h3, _⟩ := last_all E.Wg nb db tb ob E.cn T hT
  exact ⟨sits_run h2, fun w _ hw => load_acts h2 hw ⟨20, by omega, _, h3, gl2_of T hT⟩⟩
theorem gsub_of : GSub Tryd.prog E (R6 E.Wg nb db tb ob E.cn T) := by
  obtain ⟨_, h2, d, h3, rfl⟩ := r_sub E.Wg nb db tb ob E.cn T hT
  have hK : (KK : Int) = 4294967296 := rfl
  refine ⟨h2, fun w st _ hw => ⟨fun k e hk => ?_, fun k e h1 hk => ?_, fun e => ?_⟩⟩
  · subst e
    exact add_acts h3 hw (by rw [IntKind.wrap_u64, hK]; omega) fun w' => leaves_k E.Wg nb db tb ob E.cn T hT hk
  · subst e
    exact add_acts h3 hw (by rw [IntKind.wrap_u64, hK]; omega) fun w' => leaves_k1 E.Wg nb db tb ob E.cn T hT h1 hk
  · subst e
    obtain ⟨a1, _⟩ := last_all E.Wg nb db tb ob E.cn T hT
    exact add_acts h3 hw (by rw [IntKind.wrap_u64, hK]; omega) fun w' => ⟨103, by omega, _, a1, gl1_of T hT⟩
theorem gdis_of : GDis Tryd.prog E (R4 E.Wg nb db tb ob E.cn T) := by
  obtain ⟨_, h2, h3⟩ := r_dis E.Wg nb db tb ob E.cn T hT
  obtain ⟨h4, _⟩ := r_sub E.Wg nb db tb ob E.cn T hT
  exact ⟨h2, _, fun w _ => h3 w, fun w _ => ⟨34, by omega, _, h4, gsub_of T hT⟩⟩
theorem way_closed (w : World) : WayE Tryd.prog E false (SRel Tryd.prog E) no no (RZ E.Wg nb db tb ob E.cn T) w := by
  obtain ⟨h1, h2, h3⟩ := r_closed E.Wg nb db tb ob E.cn T hT
  obtain ⟨h4, _, _⟩ := r_dis E.Wg nb db tb ob E.cn T hT
  have go : ∀ {n : Nat} {g g' : Goroutine}, Idle Tryd.prog false (Live E.Wg) (fun _ => False) n g g' → Idle Tryd.prog false (Kn E) (XE E false) n g g' := by
    intro n
    induction n with
    | zero => exact fun h => h
    | succ n ih => exact fun ⟨h0, g1, es, a, b, c⟩ => ⟨h0, g1, es, fun w hw => a w hw.wg, fun e he => (b e he).elim, ih c⟩
  exact Way.idle (go h1) (way_stop fun w => ⟨h2, _, fun w _ => h3 w, fun w _ => ⟨3, by omega, _, h4, gdis_of T hT⟩⟩)
end
end Mc
end Go.Proofs.YtbkjjknlphlhlaaDoor
namespace Go.Proofs.YtbkjjknlphlhlaaDoor
namespace Mc
open Go.Conc Go.ConcN Hd Sim Wy Ev
open Go.ConcR (KK WgAt stA smA mk)
set_option maxRecDepth 100000
section
variable {E : Env} {c : Frame} {cs : List Frame} {b3 b5 b7 b8 : Addr} {k : Nat} {tp : Option Addr} {cp : Nat} (h7 : Holds1 E b7 (.chan (some E.cn))) (hn : E.n ≤ 1000000) (hk1 : 1 ≤ k) (hk2 : k ≤ 16)
 include h7 hn hk1 hk2
theorem fam_ok (hTask : ∀ T, WT E.Wg b7 b8 b3 b5 E.cn T → ∀ i, i < E.n → ∀ w, Kn E w → WayE Tryd.prog E false (SSend Tryd.prog E (FamW E c cs b3 b5 b7 b8 k tp cp) i) E.Base no (RV E.Wg b7 b8 b3 b5 E.cn T i) w) : (FamW E c cs b3 b5 b7 b8 k tp cp).Ok Tryd.prog E where
  kw := ⟨hk1, hk2⟩
  recv := fun g ⟨T, hT, e⟩ => by
    subst e
    obtain ⟨a, b⟩ := r_recv E.Wg b7 b8 b3 b5 E.cn T hT
    exact ⟨a, fun w _ => b w⟩
  recv_val := fun g ⟨T, hT, e⟩ i hi w hk => by
    subst e
    exact hTask T hT i hi w hk
  recv_closed := fun g ⟨T, hT, e⟩ w _ => by
    subst e
    exact way_closed T hT w
  sel := selW_is
  sel_send := fun next gl val A M g w h hx hg w1 r hk => selW_send h7 hn next gl val A M g w h hx hg w1 r hk
  sel_recv := fun next gl val A M g w h hg i a e hi ha he w1 r hk => selW_recv h7 hn next gl val A M g w h hg i a e hi ha he w1 r hk
  sh := by intro h; cases h
  ld := fun val g ⟨cc, T, hc, hT, h0, e⟩ => by
    subst e
    exact ⟨sits_run (w_sits cc (c :: cs) E.Wg T), fun w v _ hw hv => ld_wait (F := FamW E c cs b3 b5 b7 b8 k tp cp) (CW := CWW E c cs b3 b5 b7 b8 k tp cp) rfl rfl hc hT h0 w v hw hv⟩
  fin := fun val g h => finW_run _ _ h
  lst := fun gl val A w w' ⟨bl, h1, h2, h3⟩ r => ⟨bl, h1, h2, h3.rely r h2⟩
end
section
variable {E : Env} {c : Frame} {cs : List Frame} {b3 b5 b7 b8 : Addr} {k : Nat} {tp : Option Addr} {cp : Nat} (h7 : Holds1 E b7 (.chan (some E.cn))) (hn : E.n ≤ 1000000) (h3 : Holds1 E b3 (.slice tp E.n cp)) (h8 : Holds1 E b8 (.chan (some E.cd)))
 include h7 hn h3 h8
/-- Out of the loop, into handOut, to the select or to the close. -/
theorem out_of_loop (V : Array Value) (w : World) (hV : VT E.Wg b3 b5 b7 b8 k V) (h15 : V[15]? = some (.bool false)) : NextM Tryd.prog E (FamW E c cs b3 b5 b7 b8 k tp cp) 0 (CS c cs V) w := by
  obtain ⟨n1, n2, n3, n4, n5, n6, n7, n8, n9, n10, n11, n12⟩ := n_out c cs E.Wg b3 b5 b7 b8 k V hV h15 tp E.n cp E.cn E.cd
  obtain ⟨⟨U, u0, u1, u2, u3, u4⟩, p2, p3, p4⟩ := p_all c cs E.Wg b3 b5 b7 b8 k V tp E.n cp E.cn E.cd hV h15
  have nr : ∀ {g : Goroutine}, g.frame.fn = 22 → (Tryd.prog.funcs[g.frame.fn]?).any (·.norace) = false := fun h => by rw [h]; kernel_rfl
  refine ⟨fun _ => (undef, undef), ?_⟩
  refine After.idle (still_idle n1) (After.idle (load_idle h3 n2 n4 (fun w => by kernel_rfl) (fun w => by kernel_rfl) (nr n3)) (After.idle (still_idle n5) (After.idle (load_idle h7 n6 n8 (fun w => by kernel_rfl) (fun w => by kernel_rfl) (nr n7))
    (After.idle (load_idle h8 n9 n11 (fun w => by kernel_rfl) (fun w => by kernel_rfl) (nr n10)) (After.idle (still_idle n12) (After.go p2 fun w1 r hk => ⟨_, _, _, make_rows p3 hn, guar_alloc _, ?_⟩))))))
  have hb : (w1.alloc (rows0 E.n)).heap[w1.heap.size]? = some (rows0 E.n) := alloc_at _
  have hs : w1.heap.size < (w1.alloc (rows0 E.n)).heap.size := (Array.getElem?_eq_some_iff.1 hb).1
  have hA : fresh w1 (w1.alloc (rows0 E.n)) no w1.heap.size := .inr ⟨Nat.le_refl _, hs⟩
  rw [u0]
  obtain ⟨y1, y2⟩ := y_made (fB c cs V tp E.n cp E.cn E.cd) c cs w1.heap.size E.n E.n E.n (.chan (some E.cn)) E.cd U u1 u2 u3 u4
  refine After.idle (still_idle y2) (to_sel (gl := []) (next := 0) h7 hV h15 hA hA ⟨_, hb, ?_, fun j hj => by cases hj⟩ y1 (Nat.zero_le _) (Nat.zero_le _) (.inl rfl))
  rw [size_madeCells]; omega
/-- ████ The main's way, from where the group stands. ████ -/
theorem next_all (hk : k ≤ 16) (V : Array Value) (w : World) (hV : VT E.Wg b3 b5 b7 b8 k V) : NextM Tryd.prog E (FamW E c cs b3 b5 b7 b8 k tp cp) k (Z6 c cs V) w := by
  obtain ⟨V2, v1, v2, v3, v4⟩ := n_begin c cs E.Wg b3 b5 b7 b8 k V hV
  exact NextM.idle (still_idle v4) (next_loop (F := FamW E c cs b3 b5 b7 b8 k tp cp) rfl h7 c cs hk (fun V w hV h15 => out_of_loop h7 hn h3 h8 V w hV h15) k 0 V2 w v1 v2 v3 (by omega))
end
end Mc
end Go.Proofs.YtbkjjknlphlhlaaDoor
namespace Go.Proofs.YtbkjjknlphlhlaaDoor
namespace Ev
open Go.Conc Go.ConcN
set_option maxRecDepth 100000
section
variable (Wg : Nat) (nb db tb ob : Addr) (cn : Nat) (T : Array Value) (hT : WT Wg nb db tb ob cn T)
 include hT
theorem r_send_nil (cd : Nat) {i p : Int} (h5 : T[5]? = some (.int .i64 i)) (h6 : T[6]? = some (.int .i64 p)) (h7 : T[7]? = some Value.nilIface) : (∀ w, stepG Tryd.prog false (RD Wg nb db tb ob cn cd T) w = .comm (RD Wg nb db tb ob cn cd T) #[scase cd (.agg #[.int .i64 i, .int .i64 p, Value.nilIface]) (.tuple #[])] true .send w #[]) ∧ True := by
  obtain ⟨v0, v1, v2, v3, v4, v5, v6, v7, v8, v9, v10, v11, v12, v13, v14, v15, v16, v17, v18, v19, v20, v21, v22, v23, v24, v25, v26, rfl⟩ := array27 T hT.size
  have h0 := hT.a0; have h1 := hT.a1; have h2 := hT.a2; have h3 := hT.a3; have h4 := hT.a4; have h8 := hT.a8
  simp only [List.getElem?_toArray, List.getElem?_cons_succ, List.getElem?_cons_zero, Option.some.injEq] at h0 h1 h2 h3 h4 h8
  subst h0; subst h1; subst h2; subst h3; subst h4; subst h8
  simp only [List.getElem?_toArray, List.getElem?_cons_succ, List.getElem?_cons_zero, Option.some.injEq] at h5 h6 h7
  subst h5; subst h6; subst h7
  refine ⟨fun w => ?_, trivial⟩
  kernel_rfl
theorem r_send_err (cd : Nat) {i p : Int} {ti : TypeId} {vi : Value} (h5 : T[5]? = some (.int .i64 i)) (h6 : T[6]? = some (.int .i64 p)) (h7 : T[7]? = some (Value.iface ti vi)) : (∀ w, stepG Tryd.prog false (RD Wg nb db tb ob cn cd T) w = .comm (RD Wg nb db tb ob cn cd T) #[scase cd (.agg #[.int .i64 i, .int .i64 p, (Value.iface ti vi)]) (.tuple #[])] true .send w #[]) ∧ True := by
  obtain ⟨v0, v1, v2, v3, v4, v5, v6, v7, v8, v9, v10, v11, v12, v13, v14, v15, v16, v17, v18, v19, v20, v21, v22, v23, v24, v25, v26, rfl⟩ := array27 T hT.size
  have h0 := hT.a0; have h1 := hT.a1; have h2 := hT.a2; have h3 := hT.a3; have h4 := hT.a4; have h8 := hT.a8
  simp only [List.getElem?_toArray, List.getElem?_cons_succ, List.getElem?_cons_zero, Option.some.injEq] at h0 h1 h2 h3 h4 h8
  subst h0; subst h1; subst h2; subst h3; subst h4; subst h8
  simp only [List.getElem?_toArray, List.getElem?_cons_succ, List.getElem?_cons_zero, Option.some.injEq] at h5 h6 h7
  subst h5; subst h6; subst h7
  refine ⟨fun w => ?_, trivial⟩
  kernel_rfl
end
end Ev
end Go.Proofs.YtbkjjknlphlhlaaDoor
