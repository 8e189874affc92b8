/- ████ A worker's region, walked in whatever order; of the call it asks that it goes until its answer stands. ████ -/
import Derived.Test.YtbkjjknlphlhlaaDoorZ32
namespace Go.Proofs.YtbkjjknlphlhlaaDoor
namespace Mc
open Go.Conc Sim Ev Wy
set_option maxRecDepth 100000
theorem same (p p' : Int) (e e' : Value) (h : Value.tuple #[.int .i64 p, e] = .tuple #[.int .i64 p', e']) : Value.int .i64 p = .int .i64 p' ∧ e = e' := by
  simp only [Value.tuple.injEq, Array.mk.injEq, List.cons.injEq, Value.int.injEq, and_true, true_and] at h
  exact ⟨by rw [h.1], h.2⟩
theorem iv_start {E : Env} {i : Nat} {fv L : Value} {tp : Option Addr} {n cp : Nat} {pl : Addr} {ds : List Deferred} {T : Array Value} {A : Nat → Prop} {w : World} (hs : T.size = 27) : Iv E i fv L tp n cp pl ds T (Array.replicate 12 false) A ⟨T, ds⟩ w := by
  have f : ∀ j, j < 12 → (Array.replicate 12 false).getD j true = true → False := by decide
  exact ⟨rfl, hs, fun s _ => rfl, fun j h7 hj hl => (f j hj hl).elim, 0, .nilIface, no, fun hl => (f 6 (by decide) hl).elim, fun j hj hl => (f j hj hl).elim⟩
theorem eval_tmp {a : Act} {s : Nat} {v : Value} (h : a.tmps[s]? = some v) : a.eval (.tmp s) = v := by
  show a.tmps.getD s undef = v
  simp [Array.getD_eq_getD_getElem?, h]
section
variable {ops : Array Oper} {i : Nat} {rest : List Nat} {k : List Item} {cs : List Frame} {b : Frame} {a : Act} {o : Oper}
variable {E : Env} {main : Bool} {S : (Nat → Prop) → (Nat → Prop) → Goroutine → World → Prop} {A M : Nat → Prop} {w : World}
theorem way_index {x y : Operand} {ta : Addr} {n cp j : Nat} (ho : ops[i]? = some o) (hg : o.guard = none) (hk : b.kind ≠ .early) (hop : o.op = .indexAddr 22 x y) (hx : a.eval x = .slice (some ta) n cp) (hy : a.eval y = .int .i64 j) (hj : j < n)
    (h : WayAt Tryd.prog main (Kn E) (XE E main) S ops b k cs rest A M (a.put o.dst (.pointer (some (ta.add j)))) w) : WayAt Tryd.prog main (Kn E) (XE E main) S ops b k cs (i :: rest) A M a w := by
  have hw : Region.wanted o (yielded ops a.tmps) = true := by simp [Region.wanted, hg]
  have hu : Tryd.prog.underlying 22 = some (.slice (Tryd.prog.elem 22)) := by kernel_rfl
  have hs : ∀ w : World, Sem.run Tryd.prog (sizeOf (Tryd.prog.elem 22)) w = .ok 1 w := fun w => by kernel_rfl
  have hr : ∀ w1 : World, (Instr.indexAt 22 (.slice (some ta) n cp) (.int .i64 j)).run Tryd.prog w1 = .ok (.pointer (some (ta.add j))) w1 := fun w1 => by
    rw [run_indexAt_slice (h := hu)]
    simp [hs, hj]
  have he : ∀ w1 : World, (Instr.indexAt 22 (.slice (some ta) n cp) (.int .i64 j)).events Tryd.prog w1 #[] = #[] := fun w1 => by
    rw [events_indexAt_slice (h := hu) (hi := ⟨by omega, by omega⟩)]
  refine way_pure ho hw hk (fun w1 => ?_) (fun w1 => ?_) h
  · unfold execOp; simp only [hop, hx, hy]; rw [Sem.run_bind, hr]; rfl
  · unfold execOp; simp only [hop, hx, hy]; simp [go_sem, he]
theorem way_extract {x : Operand} {j : Nat} {vs : Array Value} {v : Value} (ho : ops[i]? = some o) (hg : o.guard = none) (hk : b.kind ≠ .early) (hop : o.op = .extract x j) (hx : a.eval x = .tuple vs) (hv : vs[j]? = some v)
    (h : WayAt Tryd.prog main (Kn E) (XE E main) S ops b k cs rest A M (a.put o.dst v) w) : WayAt Tryd.prog main (Kn E) (XE E main) S ops b k cs (i :: rest) A M a w := by
  have hw : Region.wanted o (yielded ops a.tmps) = true := by simp [Region.wanted, hg]
  refine way_pure ho hw hk (fun w1 => ?_) (fun w1 => ?_) h
  · unfold execOp; simp [hop, hx, Instr.extract, hv]
  · unfold execOp; simp [hop, hx, Instr.extract, hv]
end
section
variable {E : Env} {b3 b5 b7 b8 : Addr} (hE : E.Ok) {fv L : Value} {ta : Addr} {cp : Nat} (h5 : Holds1 E b5 fv) (h3 : Holds1 E b3 (.slice (some ta) E.n cp)) {i : Nat} (hi : i < E.n) (hL : Holds1 E (ta.add i) L)
  (hCall : ∀ (A M : Nat → Prop) (a : Act) (w : World) (rest : List Nat), (∀ b, E.Base b → A b) → a.tmps[13]? = some fv → a.tmps[14]? = some (.int .i64 i) → a.tmps[18]? = some L → a.defers = (RW E.Wg b7 b8 b3 b5 E.cn).frame.defers →
    (∀ A' M' w' p e C, (∀ b, A b → A' b) → (∀ b, C b → A' b) → E.Rc C i (.int .i64 p) e w' → (e = .nilIface ∨ ∃ ti vi, e = .iface ti vi) → WayAt Tryd.prog false (Kn E) (XE E false) (RegW E b3 b5 b7 b8 i) rgOps (RW E.Wg b7 b8 b3 b5 E.cn).frame rgK (RW E.Wg b7 b8 b3 b5 E.cn).callers rest A' M' (a.put (some 19) (.tuple #[.int .i64 p, e])) w') →
    WayAt Tryd.prog false (Kn E) (XE E false) (RegW E b3 b5 b7 b8 i) rgOps (RW E.Wg b7 b8 b3 b5 E.cn).frame rgK (RW E.Wg b7 b8 b3 b5 E.cn).callers (6 :: rest) A M a w)
 include hE h5 h3 hi hL hCall
theorem reg_walk (T : Array Value) (hT : WT E.Wg b7 b8 b3 b5 E.cn T) (w : World) : WayE Tryd.prog E false (RegW E b3 b5 b7 b8 i) E.Base no (RA E.Wg b7 b8 b3 b5 E.cn T i) w := by
  obtain ⟨ra, rsz, r5, rold⟩ := ra_is E.Wg b7 b8 b3 b5 E.cn T hT i
  obtain ⟨kd, fn, _⟩ := rw_is E.Wg b7 b8 b3 b5 E.cn
  rw [ra]
  generalize (RA E.Wg b7 b8 b3 b5 E.cn T i).frame.tmps = T1 at rsz r5 rold
  have hk : (RW E.Wg b7 b8 b3 b5 E.cn).frame.kind ≠ .early := by rw [kd]; intro h; cases h
  have hq : (Tryd.prog.funcs[(RW E.Wg b7 b8 b3 b5 E.cn).frame.fn]?).any (·.norace) = false := by rw [fn]; kernel_rfl
  have t2 : T1[2]? = some (.pointer (some b5)) := (rold 2 (by simp)).trans hT.a2
  have t3 : T1[3]? = some (.pointer (some b3)) := (rold 3 (by simp)).trans hT.a3
  let Inv : Array Bool → (Nat → Prop) → (Nat → Prop) → Act → World → Prop := fun listed A _ a w => (∀ b, E.Base b → A b) ∧ Iv E i fv L (some ta) E.n cp (ta.add i) (RW E.Wg b7 b8 b3 b5 E.cn).frame.defers T1 listed A a w
  refine way_region_any rg_mixed fun w1 _ _ => wayAny_inv (Inv := Inv) ?_ ?_ ?_ _ _ _ _ _ _ ?_ ?_ ?_
  · intro j o ho e he hb
    have h := List.all_eq_true.1 rg_back j (List.mem_range.2 (by have := (Array.getElem?_eq_some_iff.1 ho).1; rw [rg_size] at this; exact this))
    rw [ho] at h
    simp only [Option.map_some, Option.getD_some] at h
    have h := Array.all_eq_true_iff_forall_mem.1 h e he
    simpa [hb] using h
  · intro listed A M a w j o rest hI hls hlj ho hpre hrest
    obtain ⟨hB, h⟩ := hI
    rw [rg_size] at hls
    have hj : j < 12 := by have := (Array.getElem?_eq_some_iff.1 ho).1; rw [rg_size] at this; exact this
    have gone : ∀ {es : List Nat}, (∀ x ∈ es, ∃ e ∈ o.after, Region.binds .any e = true ∧ e.on = x) → ∀ x ∈ es, x < 12 → listed.getD x true = true := fun hes x hx hx12 => by
      obtain ⟨e, he, hb, rfl⟩ := hes x hx
      have := hpre e he hb
      have h3 : e.on < listed.size := by omega
      simpa [Array.getD, h3] using this
    have old : ∀ s ∈ [0, 1, 2, 3, 4, 5, 8], a.tmps[s]? = T1[s]? := h.old
    obtain ⟨p, e, C, hv6, hv⟩ := h.val
    match j, hj with
    | 0, _ =>
      obtain ⟨hd, hop, hg, hes⟩ := opOf_is rg0 ho
      refine way_load ho hg hk hop (eval_tmp ((old 2 (by simp)).trans t2)) h5 (fun w => by kernel_rfl) (fun w => by kernel_rfl) hq fun w1 r hk1 => hrest _ _ _ _ ⟨hB, ?_⟩
      rw [hd]; exact (h.rely hE r).put hls (k := 0) (by decide) (by decide) (fun h7 => absurd h7 (by decide)) fun _ _ _ => rfl
    | 1, _ =>
      obtain ⟨hd, hop, hg, hes⟩ := opOf_is rg1 ho
      refine way_move ho hg hk (.inl hop) (eval_tmp ((old 5 (by simp)).trans r5)) (hrest _ _ _ _ ⟨hB, ?_⟩)
      rw [hd]; exact h.put hls (k := 1) (by decide) (by decide) (fun h7 => absurd h7 (by decide)) fun _ _ _ => rfl
    | 2, _ =>
      obtain ⟨hd, hop, hg, hes⟩ := opOf_is rg2 ho
      refine way_load ho hg hk hop (eval_tmp ((old 3 (by simp)).trans t3)) h3 (fun w => by kernel_rfl) (fun w => by kernel_rfl) hq fun w1 r hk1 => hrest _ _ _ _ ⟨hB, ?_⟩
      rw [hd]; exact (h.rely hE r).put hls (k := 2) (by decide) (by decide) (fun h7 => absurd h7 (by decide)) fun _ _ _ => rfl
    | 3, _ =>
      obtain ⟨hd, hop, hg, hes⟩ := opOf_is rg3 ho
      refine way_move ho hg hk (.inl hop) (eval_tmp ((old 5 (by simp)).trans r5)) (hrest _ _ _ _ ⟨hB, ?_⟩)
      rw [hd]; exact h.put hls (k := 3) (by decide) (by decide) (fun h7 => absurd h7 (by decide)) fun _ _ _ => rfl
    | 4, _ =>
      obtain ⟨hd, hop, hg, hes⟩ := opOf_is rg4 ho
      refine way_index ho hg hk hop (eval_tmp (hv 2 (by decide) (gone hes 2 (by simp) (by decide)))) (eval_tmp (hv 3 (by decide) (gone hes 3 (by simp) (by decide)))) hi (hrest _ _ _ _ ⟨hB, ?_⟩)
      rw [hd]; exact h.put hls (k := 4) (by decide) (by decide) (fun h7 => absurd h7 (by decide)) fun _ _ _ => rfl
    | 5, _ =>
      obtain ⟨hd, hop, hg, hes⟩ := opOf_is rg5 ho
      refine way_load ho hg hk hop (eval_tmp (hv 4 (by decide) (gone hes 4 (by simp) (by decide)))) hL (fun w => by kernel_rfl) (fun w => by kernel_rfl) hq fun w1 r hk1 => hrest _ _ _ _ ⟨hB, ?_⟩
      rw [hd]; exact (h.rely hE r).put hls (k := 5) (by decide) (by decide) (fun h7 => absurd h7 (by decide)) fun _ _ _ => rfl
    | 6, _ =>
      obtain ⟨hd, hop, hg, hes⟩ := opOf_is rg6 ho
      exact hCall A M a w rest hB (hv 0 (by decide) (gone hes 0 (by simp) (by decide))) (hv 1 (by decide) (gone hes 1 (by simp) (by decide))) (hv 5 (by decide) (gone hes 5 (by simp) (by decide))) h.ds fun A' M' w' p e C hA hC hrc he => hrest _ _ _ _ ⟨fun b hb => hA b (hB b hb), h.called hls hlj hC hrc he⟩
    | 7, _ =>
      obtain ⟨hd, hop, hg, hes⟩ := opOf_is rg7 ho
      have l6 := gone hes 6 (by simp) (by decide)
      refine way_move ho hg hk (.inl hop) (eval_tmp (hv 6 (by decide) l6)) (hrest _ _ _ _ ⟨hB, ?_⟩)
      rw [hd]; exact h.put hls (k := 7) (by decide) (by decide) (fun _ => l6) fun p' e' h' => Option.some.inj ((hv 6 (by decide) l6).symm.trans (h' 6 (by decide) l6))
    | 8, _ =>
      obtain ⟨hd, hop, hg, hes⟩ := opOf_is rg8 ho
      have l7 := gone hes 7 (by simp) (by decide)
      refine way_extract ho hg hk hop (eval_tmp (hv 7 (by decide) l7)) (v := .int .i64 p) rfl (hrest _ _ _ _ ⟨hB, ?_⟩)
      rw [hd]; exact h.put hls (k := 8) (by decide) (by decide) (fun _ => h.six 7 (by decide) (by decide) l7) fun p' e' h' => (same p p' e e' (Option.some.inj ((hv 7 (by decide) l7).symm.trans (h' 7 (by decide) l7)))).1
    | 9, _ =>
      obtain ⟨hd, hop, hg, hes⟩ := opOf_is rg9 ho
      have l7 := gone hes 7 (by simp) (by decide)
      refine way_extract ho hg hk hop (eval_tmp (hv 7 (by decide) l7)) (v := e) rfl (hrest _ _ _ _ ⟨hB, ?_⟩)
      rw [hd]; exact h.put hls (k := 9) (by decide) (by decide) (fun _ => h.six 7 (by decide) (by decide) l7) fun p' e' h' => (same p p' e e' (Option.some.inj ((hv 7 (by decide) l7).symm.trans (h' 7 (by decide) l7)))).2
    | 10, _ =>
      obtain ⟨hd, hop, hg, hes⟩ := opOf_is rg10 ho
      have l8 := gone hes 8 (by simp) (by decide)
      refine way_move ho hg hk (.inr hop) (eval_tmp (hv 8 (by decide) l8)) (hrest _ _ _ _ ⟨hB, ?_⟩)
      rw [hd]; exact h.put hls (k := 10) (by decide) (by decide) (fun _ => gone hes 6 (by simp) (by decide)) fun p' e' h' => Option.some.inj ((hv 8 (by decide) l8).symm.trans (h' 8 (by decide) l8))
    | 11, _ =>
      obtain ⟨hd, hop, hg, hes⟩ := opOf_is rg11 ho
      have l9 := gone hes 9 (by simp) (by decide)
      refine way_move ho hg hk (.inr hop) (eval_tmp (hv 9 (by decide) l9)) (hrest _ _ _ _ ⟨hB, ?_⟩)
      rw [hd]; exact h.put hls (k := 11) (by decide) (by decide) (fun _ => gone hes 6 (by simp) (by decide)) fun p' e' h' => Option.some.inj ((hv 9 (by decide) l9).symm.trans (h' 9 (by decide) l9))
  · intro listed A M a w hI hall
    obtain ⟨hB, h⟩ := hI
    have all : ∀ j, j < 12 → listed.getD j true = true := fun j hj => hall j (by rw [rg_size]; exact hj)
    have hU : WT E.Wg b7 b8 b3 b5 E.cn a.tmps := ⟨h.size, ((h.old 0 (by simp)).trans (rold 0 (by simp))).trans hT.a0, ((h.old 1 (by simp)).trans (rold 1 (by simp))).trans hT.a1, ((h.old 2 (by simp)).trans (rold 2 (by simp))).trans hT.a2, ((h.old 3 (by simp)).trans (rold 3 (by simp))).trans hT.a3, ((h.old 4 (by simp)).trans (rold 4 (by simp))).trans hT.a4, ((h.old 8 (by simp)).trans (rold 8 (by simp))).trans hT.a8⟩
    refine way_go rfl fun w1 r hk1 => ⟨_, w1, #[], stepG_region_end, .still (by simp), ?_⟩
    rw [Ev.fresh_self, Ev.fresh_self]
    have h := h.rely hE r
    refine .stop fun w2 r2 _ => ?_
    obtain ⟨p, e, C, h1, h2⟩ := (h.rely hE r2).val
    obtain ⟨x1, x2, x3⟩ := h1 (all 6 (by decide))
    refine ⟨a.tmps, p, e, hU, (h.old 5 (by simp)).trans r5, h2 10 (by decide) (all 10 (by decide)), h2 11 (by decide) (all 11 (by decide)), x3, ?_, C, x1, x2⟩
    rw [(rb_is E.Wg b7 b8 b3 b5 E.cn a.tmps hU).1, ← h.ds]
  · simp
  · rw [rg_size]; decide
  · rw [rg_size]
    exact ⟨fun b hb => hb, iv_start rsz⟩
end
end Mc
end Go.Proofs.YtbkjjknlphlhlaaDoor
namespace Go.Proofs.YtbkjjknlphlhlaaDoor
namespace Px
open Go.Conc Sim Ev Wy Mc
set_option maxRecDepth 100000
section
variable {N : Nat} {A0 : Nat → Prop} {w0 : World} {T : Array Value} {L L' : Nat → Bool} {A M : Nat → Prop} {a : Act} {w w1 : World}
theorem set_heap {p b : Nat} {v : Value} (h : b ≠ p) : (w.setCell ⟨p, 0, none⟩ v).heap[b]? = w.heap[b]? := by simp [World.setCell, Array.getElem?_modify, Ne.symm h]
theorem set_size {p : Nat} {v : Value} : (w.setCell ⟨p, 0, none⟩ v).heap.size = w.heap.size := by simp [World.setCell]
theorem set_here {p : Nat} {v x : Value} {t : TypeId} (h : w.heap[p]? = some (.cells #[x] t)) : (w.setCell ⟨p, 0, none⟩ v).heap[p]? = some (.cells #[v] t) := by simp [World.setCell, Array.getElem?_modify, h]
/-- Number j has been stored (j: 4 or 5). -/
theorem Iv6.stored (h : Iv6 N A0 w0 T L A M a w) (hA0 : ∀ b, A0 b → b < N) {j : Nat} (hj : j = 4 ∨ j = 5) (hl : L (j - 4) = true ∧ L (j - 2) = true) : ∃ p c x, a.tmps[j + 3]? = some (.pointer (some ⟨p, 0, none⟩)) ∧ a.tmps[j + 7]? = some (.chan c) ∧ w.heap[p]? = some (.cells #[x] (68 + j)) ∧ A p ∧ M p ∧
    Iv6 N A0 w0 T (fun i => L i || i == j) A M a (w.setCell ⟨p, 0, none⟩ (.chan c)) := by
  obtain ⟨f, h1, h2, h3, h4, h5, h6⟩ := h.ex
  rcases hj with rfl | rfl
  · have l0 : L 0 = true := hl.1
    have l2 : L 2 = true := hl.2
    obtain ⟨e1, e2⟩ := h3 l0
    obtain ⟨e3, x, e4, e5⟩ := h5 l2
    obtain ⟨q1, q2, q3, q4⟩ := h1 2 (by decide) l2
    have ne : ∀ i, i < 4 → i ≠ 2 → L i = true → f i ≠ f 2 := fun i hi hn hl => h2 i 2 hi (by decide) hn hl l2
    refine ⟨f 2, some (f 0), x, e3, e1, e4, q1, q2, h.size, h.ds, h.old, fun b hb => ⟨(h.keep b hb).1, (set_heap (by have := hA0 b hb; omega)).trans (h.keep b hb).2⟩, by rw [set_size]; exact h.low, h.tape, h.os, h.output, f, fun i hi hl => ?_, fun i i' hi hi' hne hl hl' => ?_, fun l => ?_, fun l => ?_, fun l => ?_, fun l => ?_⟩
    · have := h1 i hi (by simpa [show i ≠ 4 by omega] using hl); rw [set_size]; exact this
    · exact h2 i i' hi hi' hne (by simpa [show i ≠ 4 by omega] using hl) (by simpa [show i' ≠ 4 by omega] using hl')
    · rw [set_heap (ne 0 (by decide) (by decide) l0)]; exact h3 l0
    · have l := show L 1 = true by simpa using l
      rw [set_heap (ne 1 (by decide) (by decide) l)]; exact h4 l
    · exact ⟨e3, _, set_here e4, fun _ => rfl⟩
    · have l := show L 3 = true by simpa using l
      rw [set_heap (ne 3 (by decide) (by decide) l)]
      obtain ⟨k1, y, k2, k3⟩ := h6 l
      exact ⟨k1, y, k2, fun l5 => k3 (by simpa using l5)⟩
  · have l1 : L 1 = true := hl.1
    have l3 : L 3 = true := hl.2
    obtain ⟨e1, e2⟩ := h4 l1
    obtain ⟨e3, x, e4, e5⟩ := h6 l3
    obtain ⟨q1, q2, q3, q4⟩ := h1 3 (by decide) l3
    have ne : ∀ i, i < 4 → i ≠ 3 → L i = true → f i ≠ f 3 := fun i hi hn hl => h2 i 3 hi (by decide) hn hl l3
    refine ⟨f 3, some (f 1), x, e3, e1, e4, q1, q2, h.size, h.ds, h.old, fun b hb => ⟨(h.keep b hb).1, (set_heap (by have := hA0 b hb; omega)).trans (h.keep b hb).2⟩, by rw [set_size]; exact h.low, h.tape, h.os, h.output, f, fun i hi hl => ?_, fun i i' hi hi' hne hl hl' => ?_, fun l => ?_, fun l => ?_, fun l => ?_, fun l => ?_⟩
    · have := h1 i hi (by simpa [show i ≠ 5 by omega] using hl); rw [set_size]; exact this
    · exact h2 i i' hi hi' hne (by simpa [show i ≠ 5 by omega] using hl) (by simpa [show i' ≠ 5 by omega] using hl')
    · have l := show L 0 = true by simpa using l
      rw [set_heap (ne 0 (by decide) (by decide) l)]; exact h3 l
    · rw [set_heap (ne 1 (by decide) (by decide) l1)]; exact h4 l1
    · have l := show L 2 = true by simpa using l
      rw [set_heap (ne 2 (by decide) (by decide) l)]
      obtain ⟨k1, y, k2, k3⟩ := h5 l
      exact ⟨k1, y, k2, fun l4 => k3 (by simpa using l4)⟩
    · exact ⟨e3, _, set_here e4, fun _ => rfl⟩
end
/-- Which have gone. -/
def gone (listed : Array Bool) : Nat → Bool := fun i => listed.getD i true
theorem gone_set {listed : Array Bool} {j : Nat} (hj : j < listed.size) : gone (listed.setIfInBounds j true) = fun i => gone listed i || i == j := by
  funext i
  unfold gone
  by_cases h : i = j
  · subst h; simp [Array.getD, hj]
  · by_cases hi : i < listed.size
    · simp [Array.getD, hi, h, Ne.symm h]
    · simp [Array.getD, hi]
theorem op_chan {a : Act} {o : Oper} {t : TypeId} (hop : o.op = .makeChan t (.const (.int .i64 0))) (ht : t = 72 ∨ t = 73) (w1 : World) : (execOp a.eval o).run Tryd.prog w1 = .ok (.value (.chan (some w1.heap.size))) (w1.alloc chan0) ∧ (execOp a.eval o).events Tryd.prog w1 #[] = #[] := by
  have ev : a.eval (.const (.int .i64 0)) = .int .i64 0 := rfl
  unfold execOp
  simp only [hop, ev]
  exact ⟨by rw [Sem.run_bind, (run_chan t ht w1).1]; rfl, by rw [Sem.events_bind, (run_chan t ht w1).1, (run_chan t ht w1).2]; rfl⟩
theorem op_box {a : Act} {o : Oper} {t : TypeId} (hop : o.op = .alloc t) (ht : t = 72 ∨ t = 73) (w1 : World) : (execOp a.eval o).run Tryd.prog w1 = .ok (.value (.pointer (some ⟨w1.heap.size, 0, none⟩))) (w1.alloc (.cells #[.chan none] t)) ∧ (execOp a.eval o).events Tryd.prog w1 #[] = #[] := by
  unfold execOp
  simp only [hop]
  exact ⟨by rw [Sem.run_bind, (run_box t ht w1).1]; rfl, by rw [Sem.events_bind, (run_box t ht w1).1, (run_box t ht w1).2]; rfl⟩
theorem op_put {a : Act} {o : Oper} {t : TypeId} {x y : Operand} {p : Nat} {c : Option Nat} {v : Value} {w1 : World} (hop : o.op = .store t x y) (ht : t = 72 ∨ t = 73) (hx : a.eval x = .pointer (some ⟨p, 0, none⟩)) (hy : a.eval y = .chan c) (hw : w1.heap[p]? = some (.cells #[v] t)) :
    (execOp a.eval o).run Tryd.prog w1 = .ok .skip (w1.setCell ⟨p, 0, none⟩ (.chan c)) ∧ (execOp a.eval o).events Tryd.prog w1 #[] = #[⟨.cell ⟨p, 0, none⟩, true, false⟩] := by
  unfold execOp
  simp only [hop, hx, hy]
  exact ⟨by rw [Sem.run_bind, (run_put t ht hw).1]; rfl, by rw [Sem.events_bind, (run_put t ht hw).1, (run_put t ht hw).2]; rfl⟩
/-- An operation that yields nothing. -/
theorem way_skip {P : Program} {main : Bool} {I : World → Prop} {X : Event → Prop} {S : (Nat → Prop) → (Nat → Prop) → Goroutine → World → Prop} {ops : Array Oper} {b : Frame} {k : List Item} {cs : List Frame} {i : Nat} {rest : List Nat} {o : Oper} {A M : Nat → Prop} {a : Act} {w : World} (ho : ops[i]? = some o) (hw : Region.wanted o (yielded ops a.tmps) = true) (hk : b.kind = .normal ∨ b.kind = .deferred) (hd : o.dst = none)
    (h : ∀ w1, Rely A w w1 → I w1 → ∃ w', (execOp a.eval o).run P w1 = .ok .skip w' ∧ GuarX X A M w1 w' (seen P b.fn ((execOp a.eval o).events P w1 #[])) ∧ WayAt P main I X S ops b k cs rest (fresh w1 w' A) (fresh w1 w' M) a w') :
    WayAt P main I X S ops b k cs (i :: rest) A M a w :=
  Mc.way_go rfl fun w1 r hi => by
    obtain ⟨w', h1, h2, h3⟩ := h w1 r hi
    have hrT : (execOp a.eval o).runT P w1 #[] = (.ok .skip w', ((execOp a.eval o).runT P w1 #[]).2) := Prod.ext (by rw [Sem.runT_fst]; exact h1) rfl
    have e := Sin.apply_skip (fr := b.at a (.inRegion ops (i :: rest) :: k)) (cs := cs) hk hrT
    rw [Frame.finish_at, ho] at e
    have e0 : a.put ((some o).bind (·.dst)) undef = a := by simp [hd, Act.put]
    rw [e0] at e
    exact ⟨_, _, _, (stepG_oper ho hw).trans e, h2, h3⟩
section
variable {S : (Nat → Prop) → (Nat → Prop) → Goroutine → World → Prop} {b : Frame} {k : List Item} {cs : List Frame} {A0 : Nat → Prop} {w0 : World} {T : Array Value}
theorem chans_way (hk : b.kind = .normal) (hT : T.size = 27) (hA0 : ∀ b, A0 b → b < w0.heap.size)
    (hend : ∀ A M a w, Iv6 w0.heap.size A0 w0 T (fun _ => true) A M a w → Wy.Way Tryd.prog true (fun _ => True) (fun _ => False) S A M (G (b.at a k) cs) w) : Wy.Way Tryd.prog true (fun _ => True) (fun _ => False) S A0 (fun _ => False) (G (b.at ⟨T, []⟩ (.code eR1 :: k)) cs) w0 := by
  rw [eR1_is]
  let Inv : Array Bool → (Nat → Prop) → (Nat → Prop) → Act → World → Prop := fun listed A M a w => Iv6 w0.heap.size A0 w0 T (gone listed) A M a w ∧ (gone listed 4 = true → gone listed 0 = true ∧ gone listed 2 = true) ∧ (gone listed 5 = true → gone listed 1 = true ∧ gone listed 3 = true) ∧ listed.size = 6
  refine way_region_any rg_mixed fun w1 r _ => wayAny_inv (Inv := Inv) ?_ ?_ ?_ _ _ _ _ _ _ ?_ ?_ ?_
  · intro j o ho e he hb
    have h := List.all_eq_true.1 e_back j (List.mem_range.2 (by have := (Array.getElem?_eq_some_iff.1 ho).1; rw [eOps_size] at this; exact this))
    rw [ho] at h
    simp only [Option.map_some, Option.getD_some] at h
    have h := Array.all_eq_true_iff_forall_mem.1 h e he
    simpa [hb] using h
  · intro listed A M a w j o rest hI hls hlj ho hpre hrest
    obtain ⟨h, h4, h5, _⟩ := hI
    rw [eOps_size] at hls
    have hj : j < 6 := by have := (Array.getElem?_eq_some_iff.1 ho).1; rw [eOps_size] at this; exact this
    have isGone : ∀ {es : List Nat}, (∀ x ∈ es, ∃ e ∈ o.after, Region.binds .any e = true ∧ e.on = x) → ∀ x ∈ es, x < 6 → gone listed x = true := fun hes x hx hx6 => by
      obtain ⟨e, he, hb, rfl⟩ := hes x hx
      have := hpre e he hb
      have h3 : e.on < listed.size := by omega
      simpa [gone, Array.getD, h3] using this
    have gs := gone_set (show j < listed.size by omega)
    have hnj : gone listed j = false := hlj
    have next : ∀ {A M a w}, Iv6 w0.heap.size A0 w0 T (fun i => gone listed i || i == j) A M a w → (j = 4 → gone listed 0 = true ∧ gone listed 2 = true) → (j = 5 → gone listed 1 = true ∧ gone listed 3 = true) → Inv (listed.setIfInBounds j true) A M a w := fun {A M a w} h' k4 k5 => by
      refine ⟨by rw [gs]; exact h', fun l => ?_, fun l => ?_, by simp [hls]⟩ <;> rw [gs] at l ⊢
      · by_cases e : j = 4
        · have := k4 e; simp [this]
        · have l : gone listed 4 = true := by simpa [Ne.symm e] using l
          simp [h4 l]
      · by_cases e : j = 5
        · have := k5 e; simp [this]
        · have l : gone listed 5 = true := by simpa [Ne.symm e] using l
          simp [h5 l]
    have mk : ∀ {s : Nat}, j < 4 → o.dst = some s → o.guard = none → s = [11, 12, 7, 8].getD j 0 → (∀ w1 : World, (execOp a.eval o).run Tryd.prog w1 = .ok (.value (if j < 2 then .chan (some w1.heap.size) else .pointer (some ⟨w1.heap.size, 0, none⟩))) (w1.alloc (if j < 2 then chan0 else .cells #[.chan none] (70 + j))) ∧ (execOp a.eval o).events Tryd.prog w1 #[] = #[]) →
        WayAt Tryd.prog true (fun _ => True) (fun _ => False) S eOps b k cs (j :: rest) A M a w := fun {s} hj4 hd hg hs hrun => by
      have hw : Region.wanted o (yielded eOps a.tmps) = true := by simp [Region.wanted, hg]
      refine way_value ho hw (by rw [hk]; intro h; cases h) fun w1 r _ => ⟨_, _, (hrun w1).1, ?_, ?_⟩
      · rw [(hrun w1).2, seen_none]
        exact ⟨fun b hb _ => heap_push (w := w1) hb, by show w1.heap.size ≤ (w1.heap.push _).size; simp, rfl, Nat.le_refl _, rfl, rfl, by simp⟩
      · rw [hd]
        exact hrest _ _ _ _ (next ((h.rely r).made (fun b hb => Nat.lt_of_lt_of_le (hA0 b hb) (h.rely r).low) hj4 hnj h4 h5 hs rfl rfl) (fun e => by omega) (fun e => by omega))
    have st : ∀ {t : TypeId}, (j = 4 ∨ j = 5) → o.op = .store t (.tmp (j + 3)) (.tmp (j + 7)) → o.dst = none → o.guard = none → t = 68 + j → gone listed (j - 4) = true → gone listed (j - 2) = true →
        WayAt Tryd.prog true (fun _ => True) (fun _ => False) S eOps b k cs (j :: rest) A M a w := fun {t} hj45 hop hd hg ht l1 l2 => by
      have hw : Region.wanted o (yielded eOps a.tmps) = true := by simp [Region.wanted, hg]
      have k4 : j = 4 → gone listed 0 = true ∧ gone listed 2 = true := fun e => by subst e; exact ⟨l1, l2⟩
      have k5 : j = 5 → gone listed 1 = true ∧ gone listed 3 = true := fun e => by subst e; exact ⟨l1, l2⟩
      refine way_skip ho hw (.inl hk) hd fun w1 r _ => ?_
      obtain ⟨p, c, x, e1, e2, e3, e4, e5, e6⟩ := (h.rely r).stored hA0 hj45 ⟨l1, l2⟩
      obtain ⟨r1, r2⟩ := op_put (a := a) (w1 := w1) hop (by rcases hj45 with e | e <;> subst e <;> simp [ht]) (eval_tmp e1) (eval_tmp e2) (ht ▸ e3)
      refine ⟨_, r1, ?_, ?_⟩
      · rw [r2]
        refine ⟨fun b hb hnM => set_heap fun e => hnM (e ▸ e5), by rw [set_size]; exact Nat.le_refl _, rfl, Nat.le_refl _, rfl, rfl, fun ev he => .inl ?_⟩
        have := Sin.seen_sub _ _ ev he
        simp only [List.mem_toArray, List.mem_cons, List.not_mem_nil, or_false] at this
        subst this
        exact .inl ⟨⟨p, 0, none⟩, rfl, rfl, .inl e4, fun _ => .inl e5⟩
      · rw [Mc.fresh_eq (by rw [set_size]), Mc.fresh_eq (by rw [set_size])]
        exact hrest A M a _ (next e6 k4 k5)
    match j, hj with
    | 0, _ =>
      obtain ⟨hd, hop, hg, hes⟩ := opOf_is eo0 ho
      exact mk (by decide) hd hg rfl fun w1 => op_chan hop (.inl rfl) w1
    | 1, _ =>
      obtain ⟨hd, hop, hg, hes⟩ := opOf_is eo1 ho
      exact mk (by decide) hd hg rfl fun w1 => op_chan hop (.inr rfl) w1
    | 2, _ =>
      obtain ⟨hd, hop, hg, hes⟩ := opOf_is eo2 ho
      exact mk (by decide) hd hg rfl fun w1 => op_box hop (.inl rfl) w1
    | 3, _ =>
      obtain ⟨hd, hop, hg, hes⟩ := opOf_is eo3 ho
      exact mk (by decide) hd hg rfl fun w1 => op_box hop (.inr rfl) w1
    | 4, _ =>
      obtain ⟨hd, hop, hg, hes⟩ := opOf_is eo4 ho
      exact st (.inl rfl) hop hd hg rfl (isGone hes 0 (by simp) (by decide)) (isGone hes 2 (by simp) (by decide))
    | 5, _ =>
      obtain ⟨hd, hop, hg, hes⟩ := opOf_is eo5 ho
      exact st (.inr rfl) hop hd hg rfl (isGone hes 1 (by simp) (by decide)) (isGone hes 3 (by simp) (by decide))
  · intro listed A M a w hI hall
    have e : gone listed = fun _ => true := by
      funext i
      by_cases hi : i < eOps.size
      · exact hall i hi
      · have hs := hI.2.2.2
        rw [eOps_size] at hi
        simp [gone, Array.getD, show ¬ i < listed.size by omega]
    exact way_go rfl fun w1 r _ => ⟨_, _, _, stepG_region_end, .still (by simp), by rw [Ev.fresh_self, Ev.fresh_self]; exact (hend _ _ _ _ (e ▸ hI.1)).rely r⟩
  · simp [eOps_size]
  · rw [eOps_size]; decide
  · have f : ∀ i, i < 6 → gone (Array.replicate 6 false) i = true → False := by decide
    rw [eOps_size]
    refine ⟨⟨hT, rfl, fun _ _ _ _ _ => rfl, fun b hb => ⟨hb, r.keep b hb⟩, r.size, r.tape, r.os, r.output, id, fun i hi l => (f i (by omega) l).elim, fun i _ hi _ _ l => (f i (by omega) l).elim, fun l => (f 0 (by decide) l).elim, fun l => (f 1 (by decide) l).elim, fun l => (f 2 (by decide) l).elim, fun l => (f 3 (by decide) l).elim⟩, fun l => (f 4 (by decide) l).elim, fun l => (f 5 (by decide) l).elim, by simp⟩
end
end Px
end Go.Proofs.YtbkjjknlphlhlaaDoor
namespace Go.Proofs.YtbkjjknlphlhlaaDoor
namespace Px
open Go.Conc Sim Ev Wy Mc
set_option maxRecDepth 100000

/-! ### steps -/
section
variable {Z : Nat → Prop} {Stop : Goroutine → World → Prop} {w : World} {g : Goroutine}
theorem wd_new (g' : Nat → Goroutine) {ob : Obj} (h0 : g.status = .running) (h : ∀ w, stepG Tryd.prog true g w = .go (g' w.heap.size) (w.alloc ob) #[]) (k : Mb.Wd Tryd.prog Z Stop (g' w.heap.size) (w.alloc ob)) : Mb.Wd Tryd.prog Z Stop g w :=
  .go h0 fun d hd => ⟨_, _, _, h _, ⟨by show w.heap.size ≤ (w.heap.push ob).size; simp, fun e he => by simp at he⟩, k.at (show (w.alloc ob).drawn ≤ d from hd)⟩
theorem wd_same {g' : Goroutine} (h0 : g.status = .running) (h : ∀ w, stepG Tryd.prog true g w = .go g' w #[]) (k : Mb.Wd Tryd.prog Z Stop g' w) : Mb.Wd Tryd.prog Z Stop g w :=
  .go h0 fun d hd => ⟨_, _, _, h _, ⟨Nat.le_refl _, fun e he => by simp at he⟩, k.at hd⟩
end
theorem type3 : ∃ i, Tryd.prog.info? 3 = some i ∧ i.zero = some (.int .i64 0) ∧ i.size = 1 ∧ i.bytes ≤ 1000 := by
  cases h : Tryd.prog.info? 3 with
  | none =>
    have : (Tryd.prog.info? 3).isSome = true := by kernel_rfl
    rw [h] at this; cases this
  | some i =>
    have h1 : ((Tryd.prog.info? 3).bind (·.zero)) = some (.int .i64 0) := by kernel_rfl
    have h2 : ((Tryd.prog.info? 3).map (·.size)) = some 1 := by kernel_rfl
    have h3 : ((Tryd.prog.info? 3).map fun i => decide (i.bytes ≤ 1000)) = some true := by kernel_rfl
    rw [h] at h1 h2 h3
    refine ⟨i, rfl, by simpa using h1, by simpa using h2, by simpa using h3⟩
def ints0 (n : Nat) : Obj := .cells (madeCells #[.int .i64 0] (n * 1)) 3
theorem make_ints {main : Bool} {g : Goroutine} {w : World} {n : Nat} (h : makeOf g = some (25, .int .i64 0, .int .i64 n)) (hn : n ≤ 1000000) :
    stepG Tryd.prog main g w = .go (fin g (.slice (some ⟨w.heap.size, 0, none⟩) 0 n)) (w.alloc (ints0 n)) #[] := by
  unfold makeOf at h
  split at h
  · rename_i d t' x y ty ps af gd e
    simp only [Option.some.injEq, Prod.mk.injEq] at h
    obtain ⟨rfl, hx, hy⟩ := h
    obtain ⟨i, hi, hz, hs, hb⟩ := type3
    have ht : Tryd.prog.underlying 25 = some (.slice 3) := by kernel_rfl
    have hbn : (i.bytes : Int) * n ≤ 1000 * 1000000 := by
      have : i.bytes * n ≤ 1000 * 1000000 := Nat.mul_le_mul hb hn
      omega
    have hr : (Instr.makeSlice 25 (.int .i64 0) (.int .i64 n)).run Tryd.prog w = .ok (.slice (some ⟨w.heap.size, 0, none⟩) 0 n) (w.alloc (ints0 n)) := by
      have := run_makeSlice (w := w) 25 3 i _ ht hi hz .i64 .i64 0 n (Int.le_refl _) (by omega) (by rw [hs]; simp only [Int.toNat_natCast]; omega) (by omega) (by omega)
      rw [this, hs]
      rfl
    have hroom : n * i.bytes ≤ 1000000 * 1000 := Nat.mul_le_mul hn hb
    have he : (Instr.makeSlice 25 (.int .i64 0) (.int .i64 n)).events Tryd.prog w #[] = #[] :=
      events_make w 25 3 i _ ht hi hz .i64 .i64 0 n (Int.le_refl _) (by omega) (by omega) (by omega) (by simp only [Int.toNat_natCast]; omega) #[]
    have e2 : (execOp g.frame.eval { dst := d, op := .makeSlice 25 x y, type := ty, pos := ps, after := af, guard := gd }).events Tryd.prog w #[] = #[] := by
      unfold execOp; simp only [hx, hy]; simp [go_sem, he]
    rw [opv_step e (v := .slice (some ⟨w.heap.size, 0, none⟩) 0 n) (w' := w.alloc (ints0 n)) (by unfold execOp; simp only [hx, hy]; rw [Sem.run_bind, hr]; rfl), e2, seen_none]
  · cases h

/-! ### the way -/
section
variable (c : Frame) (cs : List Frame) (tp : Option Addr) (n cp : Nat) (ref k : Int) (N N2 N3 N4 : Nat)
noncomputable def p0 : Goroutine := G (Frame.enter Tryd.prog 5 #[.slice tp n cp, .int .i64 ref, .int .i64 k] .normal) (c :: cs)
noncomputable def p1 : Goroutine := adv Tryd.prog true 2 (p0 c cs tp n cp ref k)
/-- Behind the reference's box. -/
noncomputable def p2 : Goroutine := fin (p1 c cs tp n cp ref k) (.pointer (some ⟨N, 0, none⟩))
/-- At answers' test of how many there are. -/
noncomputable def p3 : Goroutine := adv Tryd.prog true 47 (p2 c cs tp n cp ref k N)
noncomputable def p4 : Goroutine := fin (p3 c cs tp n cp ref k N) (.bool false)
noncomputable def p5 : Goroutine := adv Tryd.prog true 7 (p4 c cs tp n cp ref k N)
/-- Behind the list's making. -/
noncomputable def p6 : Goroutine := fin (p5 c cs tp n cp ref k N) (.slice (some ⟨N2, 0, none⟩) 0 n)
noncomputable def p7 : Goroutine := adv Tryd.prog true 11 (p6 c cs tp n cp ref k N N2)
noncomputable def p8 : Goroutine := fin (p7 c cs tp n cp ref k N N2) (.pointer (some ⟨N3, 0, none⟩))
noncomputable def p9 : Goroutine := fin (p8 c cs tp n cp ref k N N2 N3) (.pointer (some ⟨N4, 0, none⟩))
noncomputable def p10 : Goroutine := adv Tryd.prog true 3 (p9 c cs tp n cp ref k N N2 N3 N4)
theorem p01 : Still Tryd.prog true 2 (p0 c cs tp n cp ref k) (p1 c cs tp n cp ref k) := still_of (fun w => by kernel_rfl) (by kernel_rfl) (by kernel_rfl)
theorem p12 (w : World) : stepG Tryd.prog true (p1 c cs tp n cp ref k) w = .go (p2 c cs tp n cp ref k w.heap.size) (w.alloc (.cells #[.int .i64 ref] 3)) #[] := by kernel_rfl
theorem p23 (hk : 1 ≤ k) (hk2 : k ≤ 16) : Still Tryd.prog true 47 (p2 c cs tp n cp ref k N) (p3 c cs tp n cp ref k N) := by
  have : k = 1 ∨ k = 2 ∨ k = 3 ∨ k = 4 ∨ k = 5 ∨ k = 6 ∨ k = 7 ∨ k = 8 ∨ k = 9 ∨ k = 10 ∨ k = 11 ∨ k = 12 ∨ k = 13 ∨ k = 14 ∨ k = 15 ∨ k = 16 := by omega
  rcases this with rfl | rfl | rfl | rfl | rfl | rfl | rfl | rfl | rfl | rfl | rfl | rfl | rfl | rfl | rfl | rfl <;> exact still_of (fun w => by kernel_rfl) (by kernel_rfl) (by kernel_rfl)
theorem p34 (hk : 1 ≤ k) (hk2 : k ≤ 16) (hn : n ≤ 100) (w : World) : stepG Tryd.prog true (p3 c cs tp n cp ref k N) w = .go (p4 c cs tp n cp ref k N) w #[] := by
  have e : stepG Tryd.prog true (p3 c cs tp n cp ref k N) w = .go (fin (p3 c cs tp n cp ref k N) (.bool (decide ((n : Int) > 100)))) w #[] ∧ True := by
    have : k = 1 ∨ k = 2 ∨ k = 3 ∨ k = 4 ∨ k = 5 ∨ k = 6 ∨ k = 7 ∨ k = 8 ∨ k = 9 ∨ k = 10 ∨ k = 11 ∨ k = 12 ∨ k = 13 ∨ k = 14 ∨ k = 15 ∨ k = 16 := by omega
    rcases this with rfl | rfl | rfl | rfl | rfl | rfl | rfl | rfl | rfl | rfl | rfl | rfl | rfl | rfl | rfl | rfl <;> exact ⟨by kernel_rfl, trivial⟩
  rw [e.1, show decide ((n : Int) > 100) = false by simp; omega]
  rfl
theorem p1_run : (p1 c cs tp n cp ref k).status = .running := by kernel_rfl
theorem p3_run (hk : 1 ≤ k) (hk2 : k ≤ 16) : (p3 c cs tp n cp ref k N).status = .running ∧ True := by
  have : k = 1 ∨ k = 2 ∨ k = 3 ∨ k = 4 ∨ k = 5 ∨ k = 6 ∨ k = 7 ∨ k = 8 ∨ k = 9 ∨ k = 10 ∨ k = 11 ∨ k = 12 ∨ k = 13 ∨ k = 14 ∨ k = 15 ∨ k = 16 := by omega
  rcases this with rfl | rfl | rfl | rfl | rfl | rfl | rfl | rfl | rfl | rfl | rfl | rfl | rfl | rfl | rfl | rfl <;> exact ⟨by kernel_rfl, trivial⟩
theorem p5_run (hk : 1 ≤ k) (hk2 : k ≤ 16) : (p5 c cs tp n cp ref k N).status = .running ∧ True := by
  have : k = 1 ∨ k = 2 ∨ k = 3 ∨ k = 4 ∨ k = 5 ∨ k = 6 ∨ k = 7 ∨ k = 8 ∨ k = 9 ∨ k = 10 ∨ k = 11 ∨ k = 12 ∨ k = 13 ∨ k = 14 ∨ k = 15 ∨ k = 16 := by omega
  rcases this with rfl | rfl | rfl | rfl | rfl | rfl | rfl | rfl | rfl | rfl | rfl | rfl | rfl | rfl | rfl | rfl <;> exact ⟨by kernel_rfl, trivial⟩
theorem p45 (hk : 1 ≤ k) (hk2 : k ≤ 16) : Still Tryd.prog true 7 (p4 c cs tp n cp ref k N) (p5 c cs tp n cp ref k N) := by
  have : k = 1 ∨ k = 2 ∨ k = 3 ∨ k = 4 ∨ k = 5 ∨ k = 6 ∨ k = 7 ∨ k = 8 ∨ k = 9 ∨ k = 10 ∨ k = 11 ∨ k = 12 ∨ k = 13 ∨ k = 14 ∨ k = 15 ∨ k = 16 := by omega
  rcases this with rfl | rfl | rfl | rfl | rfl | rfl | rfl | rfl | rfl | rfl | rfl | rfl | rfl | rfl | rfl | rfl <;> exact still_of (fun w => by kernel_rfl) (by kernel_rfl) (by kernel_rfl)
theorem p56 (hk : 1 ≤ k) (hk2 : k ≤ 16) (hn : n ≤ 100) (w : World) : stepG Tryd.prog true (p5 c cs tp n cp ref k N) w = .go (p6 c cs tp n cp ref k N w.heap.size) (w.alloc (ints0 n)) #[] := by
  have : k = 1 ∨ k = 2 ∨ k = 3 ∨ k = 4 ∨ k = 5 ∨ k = 6 ∨ k = 7 ∨ k = 8 ∨ k = 9 ∨ k = 10 ∨ k = 11 ∨ k = 12 ∨ k = 13 ∨ k = 14 ∨ k = 15 ∨ k = 16 := by omega
  have h : makeOf (p5 c cs tp n cp ref k N) = some (25, .int .i64 0, .int .i64 n) ∧ True := by
    rcases this with rfl | rfl | rfl | rfl | rfl | rfl | rfl | rfl | rfl | rfl | rfl | rfl | rfl | rfl | rfl | rfl <;> exact ⟨by kernel_rfl, trivial⟩
  exact make_ints h.1 (by omega)
end
end Px
end Go.Proofs.YtbkjjknlphlhlaaDoor
