/- What a goroutine does while others turn what is not its own. -/
import Derived.Test.YtbkjjknlphlhlaaDoorZ10
import Derived.Test.YtbkjjknlphlhlaaDoorZ22
namespace Go.Proofs.YtbkjjknlphlhlaaDoor
namespace Sim
open Go.Conc
set_option maxRecDepth 100000

/-- What the others may do while one counts on the blocks A. -/
structure Rely (A : Nat → Prop) (w w1 : World) : Prop where
  keep : ∀ b : Nat, A b → w1.heap[b]? = w.heap[b]?
  size : w.heap.size ≤ w1.heap.size
  tape : w1.tape = w.tape
  drawn : w.drawn ≤ w1.drawn
  os : w1.os = w.os
  output : w1.output = w.output
def fresh (w w' : World) (A : Nat → Prop) : Nat → Prop := fun b => A b ∨ (w.heap.size ≤ b ∧ b < w'.heap.size)
/-- An entry: a plain touch of a block of A; a write: of one of M. -/
def EvG (A M : Nat → Prop) (e : Event) : Prop :=
  (∃ a : Addr, e.loc = .cell a ∧ e.sync = false ∧ A a.block ∧ (e.write = true → M a.block)) ∨ e = ⟨.mark .noRoom, false, true⟩ ∨ (∃ f, e = ⟨.mark (.extern f), false, true⟩) ∨ ∃ b, A b ∧ e = ⟨.obj b, false, false⟩
/-- What one does: it turns blocks of M alone, and makes new ones. -/
structure Guar (A M : Nat → Prop) (w w' : World) (es : Array Event) : Prop where
  aside : ∀ b : Nat, b < w.heap.size → ¬ M b → w'.heap[b]? = w.heap[b]?
  size : w.heap.size ≤ w'.heap.size
  tape : w'.tape = w.tape
  drawn : w.drawn ≤ w'.drawn
  os : w'.os = w.os
  output : w'.output = w.output
  evs : ∀ e ∈ es, EvG (fresh w w' A) (fresh w w' M) e
theorem Rely.refl (A : Nat → Prop) (w : World) : Rely A w w := ⟨fun _ _ => rfl, Nat.le_refl _, rfl, Nat.le_refl _, rfl, rfl⟩
theorem Rely.trans {A : Nat → Prop} {w w1 w2 : World} (h : Rely A w w1) (k : Rely A w1 w2) : Rely A w w2 :=
  ⟨fun b hb => (k.keep b hb).trans (h.keep b hb), Nat.le_trans h.size k.size, k.tape.trans h.tape, Nat.le_trans h.drawn k.drawn, k.os.trans h.os, k.output.trans h.output⟩

/-- ████ One is on its way to a stop, whatever the others do. ████ -/
inductive Run (P : Program) (main : Bool) (Stop : (Nat → Prop) → (Nat → Prop) → Goroutine → World → Prop) : (Nat → Prop) → (Nat → Prop) → Goroutine → World → Prop
  | stop {A M g w} (h : ∀ w1, Rely A w w1 → Stop A M g w1) : Run P main Stop A M g w
  | step {A M g w} (hs : g.status = .running) (g' : World → Goroutine) (w' : World → World) (es : World → Array Event)
      (h1 : ∀ w1, Rely A w w1 → stepG P main g w1 = .go (g' w1) (w' w1) (es w1) ∧ Guar A M w1 (w' w1) (es w1))
      (h2 : ∀ w1, Rely A w w1 → Run P main Stop (fresh w1 (w' w1) A) (fresh w1 (w' w1) M) (g' w1) (w' w1)) : Run P main Stop A M g w

section
variable {P : Program} {main : Bool} {Stop Stop' : (Nat → Prop) → (Nat → Prop) → Goroutine → World → Prop}
/-- A step, without functions. -/
theorem Run.go {A M : Nat → Prop} {g : Goroutine} {w : World} (hs : g.status = .running) (h : ∀ w1, Rely A w w1 → ∃ g' w' es, stepG P main g w1 = .go g' w' es ∧ Guar A M w1 w' es ∧ Run P main Stop (fresh w1 w' A) (fresh w1 w' M) g' w') : Run P main Stop A M g w := by
  classical
  refine .step hs (fun w1 => if k : Rely A w w1 then (h w1 k).choose else default) (fun w1 => if k : Rely A w w1 then (h w1 k).choose_spec.choose else default) (fun w1 => if k : Rely A w w1 then (h w1 k).choose_spec.choose_spec.choose else #[]) (fun w1 k => ?_) (fun w1 k => ?_)
  · simp only [dif_pos k]
    have := (h w1 k).choose_spec.choose_spec.choose_spec
    exact ⟨this.1, this.2.1⟩
  · simp only [dif_pos k]
    exact (h w1 k).choose_spec.choose_spec.choose_spec.2.2
theorem Run.rely {A M : Nat → Prop} {g : Goroutine} {w w1 : World} (h : Run P main Stop A M g w) (k : Rely A w w1) : Run P main Stop A M g w1 := by
  cases h with
  | stop h => exact .stop fun w2 k2 => h w2 (k.trans k2)
  | step hs g' w' es h1 h2 => exact .step hs g' w' es (fun w2 k2 => h1 w2 (k.trans k2)) (fun w2 k2 => h2 w2 (k.trans k2))
theorem Run.mono {A M : Nat → Prop} {g : Goroutine} {w : World} (h : Run P main Stop A M g w) (hS : ∀ A M g w, Stop A M g w → Stop' A M g w) : Run P main Stop' A M g w := by
  induction h with
  | stop h => exact .stop fun w1 k => hS _ _ _ _ (h w1 k)
  | step hs g' w' es h1 _ ih => exact .step hs g' w' es h1 ih
/-- Two ways, one behind the other. -/
theorem Run.seq {A M : Nat → Prop} {g : Goroutine} {w : World} (h : Run P main Stop A M g w) (hS : ∀ A M g w, Stop A M g w → Run P main Stop' A M g w) : Run P main Stop' A M g w := by
  induction h with
  | stop h => exact hS _ _ _ _ (h _ (.refl _ _))
  | step hs g' w' es h1 _ ih => exact .step hs g' w' es h1 ih
end
section
variable {P : Program} {S : FuncId → Bool} {st : Bool} {m : Ren} {main : Bool} {Stop : (Nat → Prop) → (Nat → Prop) → Goroutine → World → Prop}
theorem HR.later {m : Ren} {w w' w1 : World} {A : Nat → Prop} (h : HR S st m w w') (k : Rely A w' w1) (hA : ∀ a b, m a = some b → A b) : HR S st m w w1 :=
  ⟨fun b b' e => by
    obtain ⟨o, o', h1, h2, h3⟩ := h.obj b b' e
    exact ⟨o, o', h1, (k.keep b' (hA _ _ e)).trans h2, h3⟩, h.inj⟩
end
end Sim
end Go.Proofs.YtbkjjknlphlhlaaDoor
namespace Go.Proofs.YtbkjjknlphlhlaaDoor
namespace Sin
open Sim
open Go.Conc
set_option maxRecDepth 100000
section
variable {P : Program} {S : FuncId → Bool} {st : Bool} {m : Ren} {main : Bool} {Stop : (Nat → Prop) → (Nat → Prop) → Goroutine → World → Prop}
/-- ████ WHAT A LONE RUN COMES TO, ONE COMES TO IN COMPANY. ████ -/
theorem lift2 (hF : ∀ f, S f = true → FnX P S st f) {Q : Frame → World → Prop} (hQ : Blind Q) {m0 : Ren} {A0 B0 : Nat → Prop} {L0 : Nat} (hB0 : ∀ b, L0 ≤ b → B0 b) {base : Base} {K Kt : List Item} (hQr : K = [] ∨ ∀ fr w, Q fr w → fr.mode = .run)
    (hstop : ∀ (m : Ren) (A M : Nat → Prop) (fr : Frame) (w : World) (fr' : Frame) (cs' : List Frame) (w' : World) (Kt : List Item), Stk P S st m (bombOf P) base K Kt fr [bombOf P] fr' cs' → HR S st m w w' → GX P st m → Q fr w → (∀ a b, m a = some b → A b) → Le m0 m → (∀ b, A0 b → A b) → (∀ a b, m a = some b → B0 b) → Stop A M (G fr' cs') w')
    {fr fr' : Frame} {cs cs' : List Frame} {w w' : World} {A M : Nat → Prop} (hr : Reaches P Q fr cs w) (hG : GX P st m) (hst : Stk P S st m (bombOf P) base K Kt fr cs fr' cs') (hh : HR S st m w w') (hd : w.drawn ≤ w'.drawn)
    (hA : ∀ a b, m a = some b → A b) (hM : ∀ a b, m a = some b → Shut w a ∨ M b) (hle : Le m0 m) (hAA : ∀ b, A0 b → A b) (hB : ∀ a b, m a = some b → B0 b) (hL : L0 ≤ w'.heap.size) : Run P main Stop A M (G fr' cs') w' := by
  have hacc := hr.acc hQ
  generalize he : (fr, cs, w) = s at hacc
  induction hacc generalizing fr cs w m fr' cs' w' A M Kt with
  | intro s _ ih =>
    subst he
    by_cases hq : AtQ P Q fr cs w
    · obtain ⟨rfl, hq⟩ := hq
      exact .stop fun w1 k => hstop m A M fr w fr' cs' w1 Kt hst (hh.later k hA) hG hq hA hle hAA hB
    · refine .go rfl fun w1 k => ?_
      have hh1 := hh.later k hA
      obtain ⟨T2, fr1, cs1, wl, m1, fr1', cs1', wc, es', k1, ⟨Kt1, k2⟩, k3, k4, k5, k6⟩ := Reaches.next hF hQ hQr (main := main) hG hst hh1 hr hq (Nat.le_trans hd k.drawn)
      have shut1 : ∀ a, Shut w a → Shut wl a := fun a ⟨c, t, fz, h1, h2⟩ => by
        obtain ⟨c1, h3, h4⟩ := k4.keep a c t fz h1
        exact ⟨c1, t, fz, h3, fun i hi => h2 i (by omega)⟩
      have hA1 : ∀ a b, m1 a = some b → fresh w1 wc A b := fun a b e => by
        rcases e0 : m a with _ | b2
        · have := k4.fresh a b e e0
          exact .inr ⟨this.1, this.2.1⟩
        · have := k4.le.app _ _ e0
          rw [e] at this; cases this
          exact .inl (hA _ _ e0)
      have hM1 : ∀ a b, m1 a = some b → Shut wl a ∨ fresh w1 wc M b := fun a b e => by
        rcases e0 : m a with _ | b2
        · have := k4.fresh a b e e0
          exact .inr (.inr ⟨this.1, this.2.1⟩)
        · have := k4.le.app _ _ e0
          rw [e] at this; cases this
          rcases hM _ _ e0 with h | h
          · exact .inl (shut1 _ h)
          · exact .inr (.inl h)
      refine ⟨_, wc, es', k1, ⟨fun b hb hnm => ?_, k4.size, k4.tape, ?_, k4.os, k4.output, fun e he => ?_⟩, ?_⟩
      · by_cases hi : ∃ a, m a = some b
        · obtain ⟨a, ha⟩ := hi
          rcases hM _ _ ha with h | h
          · exact k4.shut a b ha h
          · exact absurd h hnm
        · exact k4.aside b hb fun a ha => hi ⟨a, ha⟩
      · have h1 := k4.drawn
        have h2 := k4.drawnL
        have h3 : (World.on w T2 w1.drawn).drawn = w1.drawn := rfl
        omega
      · rcases k4.evs e he with ⟨a, a', v, h1, h2, h3, h4, h5⟩ | h | h | ⟨b, b', h1, h2⟩
        · refine .inl ⟨a', h2, h3, hA1 _ _ h1.1, fun hw => ?_⟩
          rcases hM1 _ _ h1.1 with ⟨c, t, fz, e1, e2⟩ | h
          · have h6 := h5 hw
            obtain ⟨c0, t0, fz0, e3, hlt, _, _⟩ := cell_isSome h4
            rw [e1] at e3; cases e3
            have := e2 _ hlt
            simp [World.frozen?, e1, this] at h6
          · exact h
        · exact .inr (.inl h)
        · exact .inr (.inr (.inl h))
        · exact .inr (.inr (.inr ⟨b', hA1 _ _ h1, h2⟩))
      · refine ih (fr1, cs1, wl) k6 k5 (hG.mono k4.le) k2 k3 ?_ hA1 hM1 (hle.trans k4.le) (fun b hb => .inl (hAA b hb)) (fun a b e => ?_) (Nat.le_trans hL (Nat.le_trans k.size k4.size)) rfl
        · have h1 := k4.drawn
          have h3 : (World.on w T2 w1.drawn).drawn = w1.drawn := rfl
          omega
        · rcases e0 : m a with _ | b2
          · have := k4.fresh a b e e0
            exact hB0 b (Nat.le_trans hL (Nat.le_trans k.size this.1))
          · have := k4.le.app _ _ e0
            rw [e] at this; cases this
            exact hB _ _ e0
end
end Sin
end Go.Proofs.YtbkjjknlphlhlaaDoor
namespace Go.Proofs.YtbkjjknlphlhlaaDoor
namespace Sin
open Sim
open Go.Conc
set_option maxRecDepth 100000

/-! ### what is closed -/
open Classical in
/-- Each block of D stands for itself. -/
noncomputable def idOn (D : Nat → Prop) : Ren := fun b => if D b then some b else none
theorem idOn_some {D : Nat → Prop} {a b : Nat} : idOn D a = some b ↔ D a ∧ a = b := by
  unfold idOn
  split
  · next h => simp [h]
  · next h => simp [h]
theorem idOn_self {D : Nat → Prop} {a : Nat} (h : D a) : idOn D a = some a := idOn_some.2 ⟨h, rfl⟩
theorem idOn_inj (D : Nat → Prop) : Inj (idOn D) := fun _ _ _ h k => (idOn_some.1 h).2.trans (idOn_some.1 k).2.symm
theorem idOn_le {D K : Nat → Prop} (h : ∀ b, D b → K b) : Le (idOn D) (idOn K) := ⟨fun a b e => by obtain ⟨x, rfl⟩ := idOn_some.1 e; exact idOn_self (h _ x), fun _ => idOn_inj K⟩
def im (m : Ren) (b : Nat) : Prop := ∃ a, m a = some b

/-- Blocks that have a fellow stand for themselves. -/
def Own (m : Ren) : Prop := ∀ a b, m a = some b → a = b
theorem own_idOn (D : Nat → Prop) : Own (idOn D) := fun _ _ e => (idOn_some.1 e).2
theorem AR.same {m : Ren} (hm : Own m) {a a' : Addr} (h : AR m a a') : a' = a := by
  obtain ⟨b, o, s⟩ := a
  obtain ⟨b', o', s'⟩ := a'
  obtain ⟨h1, h2, h3⟩ := h
  have := hm _ _ h1
  simp only at this h2 h3
  subst this; subst h2; subst h3; rfl

/-! ### a value that stands for another one -/
/-- No other value is taken for it. -/
def Sure (S : FuncId → Bool) (u v : Value) : Prop := ∀ m v', Own m → VR S m u v' → v' = v
section
variable {S : FuncId → Bool} {D : Nat → Prop}
theorem sure_bool (b : Bool) : Sure S (.bool b) (.bool b) := fun _ _ _ h => by cases h; rfl
theorem sure_int (k : IntKind) (n : Int) : Sure S (.int k n) (.int k n) := fun _ _ _ h => by cases h; rfl
theorem sure_string (s : ByteArray) : Sure S (.string s) (.string s) := fun _ _ _ h => by cases h; rfl
theorem sure_ptr (a : Addr) : Sure S (.pointer (some a)) (.pointer (some a)) := fun _ _ hm h => by
  cases h with
  | ptr h => rw [AR.same hm h]
theorem sure_nilp : Sure S (.pointer none) (.pointer none) := fun _ _ _ h => by cases h; rfl
theorem sure_slice (a : Addr) (l c : Nat) : Sure S (.slice (some a) l c) (.slice (some a) l c) := fun _ _ hm h => by
  cases h with
  | slice _ _ h => rw [AR.same hm h]
  | ghost => rfl
theorem sure_nils (l c : Nat) : Sure S (.slice none l c) (.slice none l c) := fun _ _ _ h => by cases h; rfl
theorem sure_nilMap : Sure S (.map none) (.map none) := fun _ _ _ h => by cases h; rfl
theorem sure_chan (r : Option Nat) : Sure S (.chan r) (.chan r) := fun _ _ _ h => by cases h; rfl
theorem sure_nilFunc : Sure S .nilFunc .nilFunc := fun _ _ _ h => by cases h; rfl
theorem sure_nilIface : Sure S .nilIface .nilIface := fun _ _ _ h => by cases h; rfl
theorem sure_iface (t : TypeId) {v : Value} (h : Sure S v v) : Sure S (.iface t v) (.iface t v) := fun m _ hm k => by
  cases k with
  | iface _ k => rw [h m _ hm k]
theorem img (S : FuncId → Bool) (D : Nat → Prop) : ∀ v : Value, ∃ u, VR S (idOn D) u v ∧ (One u → Sure S u v)
  | .bool b => ⟨_, .bool b, fun _ => sure_bool b⟩
  | .int k n => ⟨_, .int k n, fun _ => sure_int k n⟩
  | .string s => ⟨_, .string s, fun _ => sure_string s⟩
  | .float _ _ => ⟨_, .hole trivial, fun h => h.elim⟩
  | .complex _ _ _ => ⟨_, .hole trivial, fun h => h.elim⟩
  | .pointer none => ⟨_, .nilp, fun _ => sure_nilp⟩
  | .pointer (some a) => by
    by_cases h : D a.block
    · exact ⟨_, .ptr ⟨idOn_self h, rfl, rfl⟩, fun _ => sure_ptr a⟩
    · exact ⟨_, .hole trivial, fun h => h.elim⟩
  | .slice none l c => ⟨_, .nils l c, fun _ => sure_nils l c⟩
  | .slice (some a) l c => by
    by_cases h : D a.block
    · exact ⟨_, .slice l c ⟨idOn_self h, rfl, rfl⟩, fun _ => sure_slice a l c⟩
    · by_cases h0 : l = 0 ∧ c = 0
      · obtain ⟨rfl, rfl⟩ := h0
        exact ⟨_, .ghost, fun _ => sure_slice a 0 0⟩
      · exact ⟨_, .hole trivial, fun h => h.elim⟩
  | .map none => ⟨_, .nilMap, fun _ => sure_nilMap⟩
  | .map (some _) => ⟨_, .hole trivial, fun h => h.elim⟩
  | .chan r => ⟨_, .chan r, fun _ => sure_chan r⟩
  | .func f a c => ⟨_, .jfunc f a c, fun _ _ _ _ h => by cases h; rfl⟩
  | .nilFunc => ⟨_, .nilFunc, fun _ => sure_nilFunc⟩
  | .iface _ _ => ⟨_, .hole trivial, fun h => h.elim⟩
  | .nilIface => ⟨_, .nilIface, fun _ => sure_nilIface⟩
  | .tuple _ => ⟨_, .hole trivial, fun h => h.elim⟩
  | .agg c => by
    have ih : ∀ i, i < c.size → ∃ u, VR S (idOn D) u (c.getD i (.tuple #[])) := fun i hi => by
      have e : c.getD i (.tuple #[]) = c[i] := by simp [Array.getD, hi]
      rw [e]
      have : SizeOf.sizeOf c[i] < 1 + SizeOf.sizeOf c := by have := Array.sizeOf_lt_of_mem (Array.getElem_mem hi); omega
      obtain ⟨u, h, _⟩ := img S D c[i]
      exact ⟨u, h⟩
    refine ⟨.agg (Array.ofFn fun i : Fin c.size => (ih i.1 i.2).choose), .agg (by simp) fun i hi => ?_, fun h => h.elim⟩
    have hi' : i < c.size := by simpa using hi
    have := (ih i hi').choose_spec
    simpa [Array.getD, hi'] using this
 termination_by v => SizeOf.sizeOf v
 decreasing_by all_goals simp_wf; omega
/-- It stands for itself, and no other one does. -/
def Nice (S : FuncId → Bool) (D : Nat → Prop) (v : Value) : Prop := VR S (idOn D) v v ∧ Sure S v v
open Classical in
/-- What stands for it: itself, if it may. -/
noncomputable def san (S : FuncId → Bool) (D : Nat → Prop) (v : Value) : Value := if Nice S D v then v else (img S D v).choose
theorem san_vr (v : Value) : VR S (idOn D) (san S D v) v := by
  unfold san
  split
  · next h => exact h.1
  · exact (img S D v).choose_spec.1
theorem san_sure (v : Value) (h : One (san S D v)) : Sure S (san S D v) v := by
  unfold san at h ⊢
  split at h
  · next h1 => rw [if_pos h1]; exact h1.2
  · next h1 => rw [if_neg h1]; exact (img S D v).choose_spec.2 h
theorem san_self {v : Value} (h : Nice S D v) : san S D v = v := if_pos h
theorem nice_int (k : IntKind) (n : Int) : Nice S D (.int k n) := ⟨.int k n, sure_int k n⟩
theorem nice_string (s : ByteArray) : Nice S D (.string s) := ⟨.string s, sure_string s⟩
theorem nice_ptr {a : Addr} (h : D a.block) : Nice S D (.pointer (some a)) := ⟨.ptr ⟨idOn_self h, rfl, rfl⟩, sure_ptr a⟩
theorem nice_slice {a : Addr} (l c : Nat) (h : D a.block) : Nice S D (.slice (some a) l c) := ⟨.slice l c ⟨idOn_self h, rfl, rfl⟩, sure_slice a l c⟩
theorem nice_ghost (a : Addr) : Nice S D (.slice (some a) 0 0) := ⟨.ghost, sure_slice a 0 0⟩
theorem nice_nils (l c : Nat) : Nice S D (.slice none l c) := ⟨.nils l c, sure_nils l c⟩
theorem nice_nilIface : Nice S D .nilIface := ⟨.nilIface, sure_nilIface⟩
theorem nice_iface (t : TypeId) {v : Value} (h : Nice S D v) : Nice S D (.iface t v) := ⟨.iface t h.1, sure_iface t h.2⟩
/-- What is known of D's blocks. -/
def Closed (D : Nat → Prop) (w : World) : Prop := ∀ b, D b → (∃ c t fz, w.heap[b]? = some (.cells c t fz)) ∨ ∃ a l, w.heap[b]? = some (.number a l) ∧ D a.block
noncomputable def sanO (S : FuncId → Bool) (D : Nat → Prop) : Obj → Obj
  | .cells c t fz => .cells (c.map (san S D)) t fz
  | o => o
noncomputable def sanW (S : FuncId → Bool) (D : Nat → Prop) (w : World) : World := { w with heap := w.heap.map (sanO S D) }
theorem san_heap (w : World) (b : Nat) : (sanW S D w).heap[b]? = (w.heap[b]?).map (sanO S D) := by simp [sanW]
theorem san_cell {w : World} {a : Addr} {v : Value} (h : w.cell? a = some v) (hv : Nice S D v) : (sanW S D w).cell? a = some v := by
  obtain ⟨c, t, fz, h1, h2, h3, h4⟩ := cell_isSome h
  unfold World.cell?
  rw [san_heap, h1]
  simp [sanO, h3, h4, san_self hv]
theorem san_rows (c : Array Value) : VRs S (idOn D) (c.map (san S D)) c := .of_mem (by simp) fun i v v' hv hv' => by
  simp only [Array.getElem?_map, hv', Option.map_some, Option.some.injEq] at hv
  rw [← hv]; exact san_vr v'
theorem hr_san {st : Bool} {w : World} (h : Closed D w) : HR S st (idOn D) (sanW S D w) w := by
  refine ⟨fun b b' e => ?_, idOn_inj D⟩
  obtain ⟨hb, rfl⟩ := idOn_some.1 e
  rcases h b hb with ⟨c, t, fz, h1⟩ | ⟨a, l, h1, h2⟩
  · refine ⟨_, _, by rw [san_heap, h1]; rfl, h1, .inl ⟨_, t, fz, c, fz, rfl, rfl, ?_⟩⟩
    have := san_rows (S := S) (D := D) c
    exact ⟨this.1, this.2, fun i _ x y => ⟨x, y⟩, fun _ => rfl⟩
  · exact ⟨_, _, by rw [san_heap, h1]; rfl, h1, .inr ⟨a, a, l, rfl, rfl, idOn_self h2, rfl, rfl⟩⟩
end
theorem HR.closed {S : FuncId → Bool} {st : Bool} {m : Ren} {w w' : World} (h : HR S st m w w') : Closed (im m) w' := fun b ⟨a, ha⟩ => by
  obtain ⟨o, o', h1, h2, h3⟩ := h.obj a b ha
  rcases h3 with ⟨c, t, fz, c', fz', rfl, rfl, h4⟩ | ⟨x, x', l, rfl, rfl, h4⟩
  · exact .inl ⟨c', t, fz', h2⟩
  · exact .inr ⟨x', l, h2, _, h4.1⟩
theorem Closed.keep {D : Nat → Prop} {w w' : World} (h : Closed D w) (hk : ∀ b, D b → w'.heap[b]? = w.heap[b]?) : Closed D w' := fun b hb => by
  rw [hk b hb]; exact h b hb
/-- A value that no other one is taken for, but for the numbers of blocks. -/
theorem VR.image {S : FuncId → Bool} {m : Ren} {t : TypeId} {a : Addr} {v' : Value} (h : VR S m (.iface t (.pointer (some a))) v') : VR S (idOn (im m)) v' v' := by
  cases h with
  | iface _ h =>
    cases h with
    | ptr h => exact .iface _ (.ptr ⟨idOn_self ⟨_, h.1⟩, rfl, rfl⟩)
end Sin
end Go.Proofs.YtbkjjknlphlhlaaDoor
namespace Go.Proofs.YtbkjjknlphlhlaaDoor
namespace Sin
open Sim
open Go.Conc
set_option maxRecDepth 100000

/-! ### the lone world -/
def shutO : Obj → Obj
  | .cells c t _ => .cells c t (0, c.size)
  | o => o
def shutW (w : World) : World := { w with heap := w.heap.map shutO, drawn := 0 }
theorem shut_heap (w : World) (b : Nat) : (shutW w).heap[b]? = (w.heap[b]?).map shutO := by simp [shutW]
theorem shut_cell (w : World) (a : Addr) : (shutW w).cell? a = w.cell? a := by
  unfold World.cell?
  rw [shut_heap]
  cases h : w.heap[a.block]? with
  | none => rfl
  | some o => cases o <;> rfl
section
variable {S : FuncId → Bool} {D : Nat → Prop} {w0 w1 : World}
theorem hr_start (hD : Closed D w0) (keep : ∀ b, D b → w1.heap[b]? = w0.heap[b]?) : HR S false (idOn D) (shutW (sanW S D w0)) w1 := by
  refine ⟨fun b b' e => ?_, idOn_inj D⟩
  obtain ⟨hb, rfl⟩ := idOn_some.1 e
  rcases hD b hb with ⟨c, t, fz, h1⟩ | ⟨a, l, h1, h2⟩
  · refine ⟨_, _, by rw [shut_heap, san_heap, h1]; rfl, (keep b hb).trans h1, .inl ⟨_, t, _, c, fz, rfl, rfl, ?_⟩⟩
    have := san_rows (S := S) (D := D) c
    exact ⟨this.1, this.2, fun i hi _ _ => ⟨Nat.zero_le _, hi⟩, fun h => by cases h⟩
  · exact ⟨_, _, by rw [shut_heap, san_heap, h1]; rfl, (keep b hb).trans h1, .inr ⟨a, a, l, rfl, rfl, idOn_self h2, rfl, rfl⟩⟩
end

/-! ### from a contract to a run in company -/
/-- A call, about to come back. -/
def Leaving (f : FuncId) (res : Array Value → Value) (R : Value → World → Prop) (fr : Frame) (w : World) : Prop :=
  fr.fn = f ∧ fr.mode = .returning ∧ fr.defers = [] ∧ fr.kind = .normal ∧ R (res fr.tmps) w
section
variable {P : Program} {f : FuncId} {fn : Func} {res : Array Value → Value} {R : Value → World → Prop}
theorem reach_calls (hf : P.funcs[f]? = some fn) (hres : ∀ t w v, (results fn t).run P w = .ok v w → v = res t) {args : Array Value} {w : World}
    (h : ∀ T d, Calls P f args (World.on w T d) fun e w' => ∃ v, e = .returned v ∧ R v w') : Reaches P (Leaving f res R) (Frame.enter P f args .normal) [bombOf P] w := fun T d _ => by
  obtain ⟨e, w', fr, ⟨v, rfl, hR⟩, ⟨n, hn⟩, hfn, hm, hdf, hk, fn', hf', hrun⟩ := h T d [bombOf P]
  rw [hfn, hf] at hf'; cases hf'
  exact ⟨T, n, fr, w', fun _ _ => rfl, hn, hfn, hm, hdf, hk, hres _ _ _ hrun ▸ hR⟩
theorem leaving_blind (hR : ∀ v w T d, R v w → R v (World.on w T d)) : Blind (Leaving f res R) :=
  ⟨fun _ _ _ _ ⟨h1, h2, h3, h4, h5⟩ => ⟨h1, h2, h3, h4, hR _ _ _ _ h5⟩, fun _ _ _ ⟨_, h, _⟩ hp => by rw [h] at hp; cases hp⟩
variable {S : FuncId → Bool} {main : Bool} {Stop : (Nat → Prop) → (Nat → Prop) → Goroutine → World → Prop}
/-- ████ A call in company: it goes until it is about to come back, and then its contract holds, but for the numbers of blocks. ████ -/
theorem call_run (hF : ∀ f, S f = true → fnB P S false f = true) (hf : P.funcs[f]? = some fn) (hSf : S f = true) (hres : ∀ t w v, (results fn t).run P w = .ok v w → v = res t)
    {D : Nat → Prop} {w0 w1 : World} (hG : ∀ g, g < P.globals.size → D g) (hD : Closed D w0) (hDc : ∀ b, D b → ∃ c t fz, w0.heap[b]? = some (.cells c t fz)) {args : Array Value} (ha : VRs S (idOn D) args args) (hR : ∀ v w T d, R v w → R v (World.on w T d))
    (h : ∀ T d, Calls P f args (World.on (shutW (sanW S D w0)) T d) fun e w' => ∃ v, e = .returned v ∧ R v w') {cs : List Frame} {A M : Nat → Prop} (hA : ∀ b, D b → A b) (keep : ∀ b, D b → w1.heap[b]? = w0.heap[b]?)
    (hstop : ∀ m A' M' (fr' : Frame) wl w' t, fr'.fn = f → fr'.mode = .returning → fr'.defers = [] → fr'.kind = .normal → fr'.roundOf = none → VRs S m t fr'.tmps → HR S false m wl w' → Le (idOn D) m → R (res t) wl → (∀ a b, m a = some b → A' b) → (∀ b, A b → A' b) → (∀ a b, m a = some b → D b ∨ w1.heap.size ≤ b) → Stop A' M' (G fr' cs) w') :
    Run P main Stop A M (G (Frame.enter P f args .normal) cs) w1 := by
  have hr := reach_calls hf hres h
  have hst : Stk P S false (idOn D) (bombOf P) ⟨cs, [], .normal⟩ [] [] (Frame.enter P f args .normal) [bombOf P] (Frame.enter P f args .normal) cs :=
    .bottom (base := ⟨cs, [], .normal⟩) (enter_alike (hF f hSf) ha) rfl rfl
  refine lift2 (m0 := idOn D) (A0 := A) (B0 := fun b => D b ∨ w1.heap.size ≤ b) (L0 := w1.heap.size) (hB0 := fun b hb => .inr hb) (base := ⟨cs, [], .normal⟩) (K := []) (Kt := []) (fun f hf => .inl (hF f hf)) (leaving_blind hR) (.inl rfl) (fun m A' M' fr w fr' cs' w' Kt hs hh hg hq hA1 hle hAA hBB => ?_) hr ⟨⟨fun g hg => idOn_self (hG g hg), idOn_inj D⟩, fun h => by cases h⟩ hst (hr_start hD keep) (Nat.zero_le _) ?_ ?_ (.refl _) (fun _ hb => hb) (fun a b e => .inl ?_) (Nat.le_refl _)
  · obtain ⟨q1, q2, q3, q4, q5⟩ := hq
    have hfr := hs.fr
    cases hs with
    | bottom _ hd hk => exact hstop m A' M' fr' w w' fr.tmps (hfr.fn.trans q1) (hfr.mode.trans q2) hd hk hfr.round' hfr.tmps hh hle q5 hA1 hAA hBB
    | push _ _ _ _ _ r => cases r
  · intro a b e
    obtain ⟨h1, rfl⟩ := idOn_some.1 e
    exact hA _ h1
  · intro a b e
    obtain ⟨h1, rfl⟩ := idOn_some.1 e
    obtain ⟨c, t, fz, e1⟩ := hDc a h1
    exact .inl ⟨_, t, _, by rw [shut_heap, san_heap, e1]; rfl, fun i hi => ⟨Nat.zero_le _, hi⟩⟩
  · obtain ⟨h1, rfl⟩ := idOn_some.1 e
    exact h1
end
end Sin
end Go.Proofs.YtbkjjknlphlhlaaDoor
namespace Go.Proofs.YtbkjjknlphlhlaaDoor
namespace Sin
open Sim
open Go.Conc
set_option maxRecDepth 100000

/-- What a whole run has done to both worlds. -/
structure Mx (m m1 : Ren) (w w1 w' w1' : World) : Prop where
  le : Le m m1
  size : w'.heap.size ≤ w1'.heap.size
  sizeL : w.heap.size ≤ w1.heap.size
  aside : ∀ b : Nat, b < w'.heap.size → (∀ a, m a ≠ some b) → w1'.heap[b]? = w'.heap[b]?
  asideL : ∀ b : Nat, b < w.heap.size → m b = none → w1.heap[b]? = w.heap[b]?
  fresh : ∀ a b, m1 a = some b → m a = none → w'.heap.size ≤ b ∧ w.heap.size ≤ a
  mine : ∀ b, w'.heap.size ≤ b → b < w1'.heap.size → ∃ a, m1 a = some b
  os : w1'.os = w'.os
  output : w1'.output = w'.output
  holdL : ∀ (b o : Nat) (v : Value), b < w.heap.size → w1.cell? ⟨b, o, none⟩ = some v → ¬ One v → w.cell? ⟨b, o, none⟩ = some v
  holdR : ∀ (b b' o : Nat) (v : Value), b < w.heap.size → m b = some b' → w1.cell? ⟨b, o, none⟩ = some v → ¬ One v → w1'.cell? ⟨b', o, none⟩ = w'.cell? ⟨b', o, none⟩
  keepR : ∀ (b : Nat) (c : Array Value) (t : TypeId) (fz : Nat × Nat), w'.heap[b]? = some (Obj.cells c t fz) → ∃ c1 : Array Value, w1'.heap[b]? = some (Obj.cells c1 t fz) ∧ c1.size = c.size
section
variable {m m1 m2 : Ren} {w w1 w2 w' w1' w2' : World}
theorem Mx.refl (m : Ren) (w w' : World) : Mx m m w w w' w' where
  le := .refl _
  size := Nat.le_refl _
  sizeL := Nat.le_refl _
  aside := fun _ _ _ => rfl
  asideL := fun _ _ _ => rfl
  fresh := fun a b h h' => by rw [h] at h'; cases h'
  mine := fun b h h' => by omega
  os := rfl
  output := rfl
  holdL := fun _ _ _ _ h _ => h
  holdR := fun _ _ _ _ _ _ _ _ => rfl
  keepR := fun _ c _ _ h => ⟨c, h, rfl⟩
theorem Mx.step {evs : Array Event} (h : Mx m m1 w w1 w' w1') (k : Mv m1 m2 w1 w2 w1' w2' evs) : Mx m m2 w w2 w' w2' where
  le := h.le.trans k.le
  size := Nat.le_trans h.size k.size
  sizeL := Nat.le_trans h.sizeL k.sizeL
  aside := fun b hb hn => by
    rw [k.aside b (Nat.lt_of_lt_of_le hb h.size) (fun a ha => ?_), h.aside b hb hn]
    rcases hm : m a with _ | b2
    · have := (h.fresh a b ha hm).1; omega
    · have := h.le.app _ _ hm
      rw [ha] at this; cases this
      exact hn a hm
  asideL := fun b hb hn => by
    rw [k.asideL b (Nat.lt_of_lt_of_le hb h.sizeL) ?_, h.asideL b hb hn]
    rcases hm : m1 b with _ | b2
    · rfl
    · have := (h.fresh b b2 hm hn).2; omega
  fresh := fun a b ha hn => by
    rcases hm : m1 a with _ | b2
    · have := k.fresh a b ha hm
      exact ⟨Nat.le_trans h.size this.1, Nat.le_trans h.sizeL this.2.2⟩
    · have h2 := k.le.app _ _ hm
      rw [ha] at h2; cases h2
      exact h.fresh a b hm hn
  mine := fun b hb hb2 => by
    by_cases hlt : b < w1'.heap.size
    · obtain ⟨a, h1⟩ := h.mine b hb hlt
      exact ⟨a, k.le.app _ _ h1⟩
    · obtain ⟨a, h1, _⟩ := k.mine b (by omega) hb2
      exact ⟨a, h1⟩
  os := k.os.trans h.os
  output := k.output.trans h.output
  holdL := fun b o v hb hv hn => h.holdL b o v hb (k.holdL b o v (Nat.lt_of_lt_of_le hb h.sizeL) hv hn) hn
  holdR := fun b b' o v hb hm hv hn => by
    have hlt := Nat.lt_of_lt_of_le hb h.sizeL
    rw [k.holdR b b' o v hlt (h.le.app _ _ hm) hv hn, h.holdR b b' o v hb hm (k.holdL b o v hlt hv hn) hn]
  keepR := fun b c t fz hb => by
    obtain ⟨c1, h1, h2⟩ := h.keepR b c t fz hb
    obtain ⟨c2, h3, h4⟩ := k.keepR b c1 t fz h1
    exact ⟨c2, h3, h4.trans h2⟩
theorem Mx.at (h : Mx m m1 w w1 w' w1') (d : Nat) : Mx m m1 w w1 w' (w1'.at d) := ⟨h.le, h.size, h.sizeL, h.aside, h.asideL, h.fresh, h.mine, h.os, h.output, h.holdL, h.holdR, h.keepR⟩
theorem Mx.on (h : Mx m m1 w w1 w' w1') (T : Nat → Question → Nat) (d : Nat) : Mx m m1 w (World.on w1 T d) w' w1' := ⟨h.le, h.size, h.sizeL, h.aside, h.asideL, h.fresh, h.mine, h.os, h.output, h.holdL, h.holdR, h.keepR⟩
end
section
variable {P : Program} {S : FuncId → Bool} {m : Ren} {Z : Nat → Prop} {Stop : Goroutine → World → Prop}
/-- ████ ████ -/
theorem lift4 (hF : ∀ f, S f = true → FnX P S true f) {Q : Frame → World → Prop} (hQ : Blind Q) {m0 : Ren} {base : Base} {K Kt : List Item} (hQr : K = [] ∨ ∀ fr w, Q fr w → fr.mode = .run) {wl0 wr0 : World}
    (hstop : ∀ (m : Ren) (fr fr' : Frame) (cs' : List Frame) (wl w' : World) (Kt : List Item), Stk P S true m (bombOf P) base K Kt fr [bombOf P] fr' cs' → HR S true m wl w' → Own m → Q fr wl → (∀ a b, m a = some b → ¬ Z b) → Mx m0 m wl0 wl wr0 w' → (∀ b, Z b → b < w'.heap.size) → wl.heap.size = w'.heap.size → Stop (G fr' cs') w')
    {fr fr' : Frame} {cs cs' : List Frame} {w w' : World} (hr : Reaches P Q fr cs w) (hG : GX P true m) (hst : Stk P S true m (bombOf P) base K Kt fr cs fr' cs') (hh : HR S true m w w') (hd : w.drawn ≤ w'.drawn)
    (hm : Own m) (hA : ∀ a b, m a = some b → ¬ Z b) (hZ : ∀ b, Z b → b < w'.heap.size) (hx : Mx m0 m wl0 w wr0 w') (hsz : w.heap.size = w'.heap.size) : Mb.Wd P Z Stop (G fr' cs') w' := by
  have hacc := hr.acc hQ
  generalize he : (fr, cs, w) = s at hacc
  induction hacc generalizing fr cs w m fr' cs' w' Kt with
  | intro s _ ih =>
    subst he
    by_cases hq : AtQ P Q fr cs w
    · obtain ⟨rfl, hq⟩ := hq
      exact .stop fun d k => hstop m fr fr' cs' w (w'.at d) Kt hst ⟨hh.obj, hh.inj⟩ hm hq hA (hx.at d) hZ hsz
    · refine .go rfl fun d k => ?_
      have hh1 : HR S true m w (w'.at d) := ⟨hh.obj, hh.inj⟩
      have hx1 := hx.at d
      have hZ1 : ∀ b, Z b → b < (w'.at d).heap.size := hZ
      have hsz1 : w.heap.size = (w'.at d).heap.size := hsz
      have hd1 : w.drawn ≤ (w'.at d).drawn := Nat.le_trans hd k
      generalize w'.at d = w1 at hh1 hx1 hZ1 hsz1 hd1
      obtain ⟨T2, fr1, cs1, wl, m1, fr1', cs1', wc, es', k1, ⟨Kt1, k2⟩, k3, k4, k5, k6⟩ := Reaches.next hF hQ hQr (main := true) hG hst hh1 hr hq hd1
      obtain ⟨hsz2, hown⟩ := k4.same hsz1
      have hm1 : Own m1 := fun a b e => (hown a b e).elim (hm a b) id
      have hA1 : ∀ a b, m1 a = some b → ¬ Z b := fun a b e => by
        rcases e0 : m a with _ | b2
        · have := k4.fresh a b e e0
          exact fun hz => by have := hZ1 b hz; omega
        · have := k4.le.app _ _ e0
          rw [e] at this; cases this
          exact hA _ _ e0
      refine ⟨_, wc, es', k1, ⟨k4.size, fun e he => ?_⟩, ?_⟩
      · rcases k4.evs e he with ⟨a, a', v, h1, h2, h3, h4, h5⟩ | h | ⟨f, h⟩ | ⟨b, b', h1, h2⟩
        · obtain ⟨l, wr, sy⟩ := e
          dsimp only at h2 h3
          subst h2; subst h3
          exact .cell a' wr (hA1 _ _ h1.1) (k3.lt h1.1).2
        · subst h; exact .room
        · subst h; exact .ext f
        · subst h2; exact .obj b' (hA1 _ _ h1) (k3.lt h1).2
      · refine ih (fr1, cs1, wl) k6 k5 (hG.mono k4.le) k2 k3 ?_ hm1 hA1 (fun b hb => Nat.lt_of_lt_of_le (hZ1 b hb) k4.size) ((hx1.on T2 w1.drawn).step k4) hsz2 rfl
        have h1 := k4.drawn
        have h3 : (World.on w T2 w1.drawn).drawn = w1.drawn := rfl
        omega
end

/-! ### what is kept -/
section
variable {P : Program} {S : FuncId → Bool} {m : Ren} {D : Nat → Prop} {w wl w' : World}
/-- A block that the lone run leaves as it was is left as it was. -/
theorem kept_row (hx : Mx (idOn D) m (sanW S D w) wl w w') (hh : HR S true m wl w') (hm : Own m) {b : Nat} (hD : D b) {c : Array Value} {t : TypeId} {fz : Nat × Nat} (e : w.heap[b]? = some (.cells c t fz)) (hl : wl.heap[b]? = (sanW S D w).heap[b]?) : w'.heap[b]? = w.heap[b]? := by
  obtain ⟨c1, e1, hz⟩ := hx.keepR b c t fz e
  have hlt : b < w.heap.size := (Array.getElem?_eq_some_iff.1 e).1
  have hlt2 : b < (sanW S D w).heap.size := by simpa [sanW] using hlt
  have el : wl.heap[b]? = some (.cells (c.map (san S D)) t fz) := by rw [hl, san_heap, e]; rfl
  have hmb : m b = some b := hx.le.app _ _ (idOn_self hD)
  rw [e1, e]
  congr 2
  refine Array.ext hz fun i h1 h2 => ?_
  have cl : wl.cell? ⟨b, i, none⟩ = some (san S D c[i]) := by simp [World.cell?, el, h2]
  have cr : w'.cell? ⟨b, i, none⟩ = some c1[i] := by simp [World.cell?, e1, h1]
  have c0 : w.cell? ⟨b, i, none⟩ = some c[i] := by simp [World.cell?, e, h2]
  by_cases one : One (san S D c[i])
  · obtain ⟨v', e2, hv⟩ := hh.cell (a' := ⟨b, i, none⟩) ⟨hmb, rfl, rfl⟩ cl
    rw [cr] at e2; cases e2
    exact san_sure _ one m _ hm hv
  · have := hx.holdR b b i _ hlt2 (idOn_self hD) cl one
    rw [cr, c0] at this
    exact Option.some.inj this
end
end Sin
end Go.Proofs.YtbkjjknlphlhlaaDoor
