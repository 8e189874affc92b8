/- An operation of whatever make, where the kernel reckons which it is; the group's Add(1), whole. -/
import Derived.Conc.WgGenN3
import Derived.Conc.QuitsD
import Derived.Test.YtbkjjknlphlhlaaDoorZ24
namespace Go.Proofs.YtbkjjknlphlhlaaDoor
namespace Ev
open Go.Conc
open Go.ConcR (KK WgAt stA smA rd wr mk)
set_option maxRecDepth 100000

/-- The operation at which it stands. -/
def curOp (g : Goroutine) : Option Oper :=
  match g.status, g.dying, g.offers, g.frame.mode, g.frame.roundOf, g.frame.kind, g.frame.todo with
  | .running, none, none, .run, none, .early, _ => none
  | .running, none, none, .run, none, _, .inRegion ops (i :: _) :: _ =>
    match ops[i]? with
    | some o => if o.guard.isNone then some o else none
    | _ => none
  | _, _, _, _, _, _, _ => none

section
variable {P : Program} {main : Bool} {g : Goroutine} {w w' : World} {o : Oper}
theorem curOp_is (h : curOp g = some o) : ∃ (b : Frame) (a : Act) (ops : Array Oper) (i : Nat) (rest : List Nat) (k : List Item),
    g = G (b.at a (.inRegion ops (i :: rest) :: k)) g.callers ∧ ops[i]? = some o ∧ Region.wanted o (yielded ops a.tmps) = true ∧ b.kind ≠ .early ∧ a.eval = g.frame.eval ∧ b.fn = g.frame.fn := by
  obtain ⟨⟨fn, t, todo, ds, mode, kind, round⟩, callers, status, dying, offers⟩ := g
  unfold curOp at h
  dsimp only at h
  split at h
  · cases h
  · rename_i ops i rest k hk
    split at h
    · rename_i o' e
      split at h
      · rename_i hgd
        cases h
        exact ⟨⟨fn, t, [], ds, .run, kind, none⟩, ⟨t, ds⟩, ops, i, rest, k, rfl, e, by have := Option.isNone_iff_eq_none.1 hgd; simp [Region.wanted, this], fun hk2 => hk hk2, rfl, rfl⟩
      · cases h
    · cases h
  · cases h
theorem opv_step (h : curOp g = some o) {v : Value} (hr : (execOp g.frame.eval o).run P w = .ok (.value v) w') : stepG P main g w = .go (fin g v) w' (seen P g.frame.fn ((execOp g.frame.eval o).events P w #[])) := by
  obtain ⟨b, a, ops, i, rest, k, hg, ho, hw, hk, he, hf⟩ := curOp_is h
  rw [← he] at hr ⊢
  rw [← hf]
  unfold fin
  rw [hg, stepG_value ho hw hk hr]
  congr 2
  show b.at (a.put o.dst v) _ = Frame.finish (b.at a _) v
  rw [Frame.finish_at, ho]
  rfl
theorem ops_step (h : curOp g = some o) (hr : (execOp g.frame.eval o).run P w = .ok .skip w') : stepG P main g w = .go (fin g undef) w' (seen P g.frame.fn ((execOp g.frame.eval o).events P w #[])) := by
  obtain ⟨b, a, ops, i, rest, k, hg, ho, hw, hk, he, hf⟩ := curOp_is h
  rw [← he] at hr ⊢
  rw [← hf]
  unfold fin
  rw [hg, stepG_none ho hw hk hr]
  congr 2
  show b.at (a.put o.dst undef) _ = Frame.finish (b.at a _) undef
  rw [Frame.finish_at, ho]
  rfl
/-- A pointer as a bare one. -/
def convOf (g : Goroutine) : Option (TypeId × TypeId × Value) := match curOp g with
  | some { op := .convert src dst x, .. } => some (src, dst, g.frame.eval x)
  | _ => none
theorem conv_step {src dst t : TypeId} {a : Addr} {v : Value} (h : convOf g = some (src, dst, .pointer (some a))) (hs : P.underlying src = some (.pointer t)) (hd : P.underlying dst = some .unsafePointer) (hsz : (P.info? t).map (fun i => decide (i.size = 0)) = some false) (hc : w.cell? a = some v) :
    stepG P main g w = .go (fin g (.pointer (some a))) w #[] := by
  unfold convOf at h
  split at h
  · rename_i d src' dst' x ty ps af gd e
    simp only [Option.some.injEq, Prod.mk.injEq] at h
    obtain ⟨rfl, rfl, hx⟩ := h
    have hr := run_convert_to_unsafe (P := P) hs hd hsz hc
    have he := events_convert_to_unsafe (P := P) hs hd hsz hc #[]
    rw [opv_step e (v := .pointer (some a)) (w' := w) (by unfold execOp; simp only [hx]; rw [Sem.run_bind, hr]; rfl)]
    congr 1
    have : (execOp g.frame.eval { dst := d, op := .convert src' dst' x, type := ty, pos := ps, after := af, guard := gd }).events P w #[] = #[] := by
      unfold execOp; simp only [hx]; simp [go_sem, he]
    rw [this]
    exact seen_none P _
  · cases h
end
end Ev
end Go.Proofs.YtbkjjknlphlhlaaDoor
namespace Go.Proofs.YtbkjjknlphlhlaaDoor
namespace Ev
open Go.Conc Go.ConcN
open Go.ConcR (KK WgAt stA smA rd wr mk)
set_option maxRecDepth 100000

/-- n idle steps: where I holds of the world they leave it, and list what E allows alone. -/
def Idle (P : Program) (main : Bool) (I : World → Prop) (E : Event → Prop) : Nat → Goroutine → Goroutine → Prop
  | 0, g, g' => g = g'
  | n + 1, g, g' => g.status = .running ∧ ∃ g1 es, (∀ w, I w → stepG P main g w = .go g1 w es) ∧ (∀ e ∈ es, E e) ∧ Idle P main I E n g1 g'
section
variable {P : Program} {main : Bool} {I : World → Prop} {E : Event → Prop}
theorem Still.idle {n : Nat} {g g' : Goroutine} (h : Still P main n g g') : Idle P main I E n g g' := by
  induction n generalizing g with
  | zero => exact h
  | succ n ih =>
    obtain ⟨h0, g1, h1, h2⟩ := h
    exact ⟨h0, g1, #[], fun w _ => h1 w, fun e he => by simp at he, ih h2⟩
theorem Idle.trans {n m : Nat} {g g' g'' : Goroutine} (h : Idle P main I E n g g') (k : Idle P main I E m g' g'') : Idle P main I E (m + n) g g'' := by
  induction n generalizing g with
  | zero => cases h; exact k
  | succ n ih =>
    obtain ⟨h0, g1, es, h1, h2, h3⟩ := h
    exact ⟨h0, g1, es, h1, h2, ih h3⟩
theorem Idle.one {g g1 : Goroutine} {es : Array Event} (h0 : g.status = .running) (h : ∀ w, I w → stepG P main g w = .go g1 w es) (he : ∀ e ∈ es, E e) : Idle P main I E 1 g g1 := ⟨h0, g1, es, h, he, rfl⟩
end

/-- What the group's idle steps may list. -/
def Said (Wg : Nat) (e : Event) : Prop := ∃ a : Addr, a.block = Wg ∧ (e = mk (.read a) ∨ e = mk (.write a))
/-- Of the world: the group's block is one. -/
def Live (Wg : Nat) (w : World) : Prop := WgLive 83 Wg w
theorem live1 {Wg : Nat} {w : World} (h : Live Wg w) : ∃ v, w.cell? ⟨Wg, 1, none⟩ = some v := let ⟨_, _, x⟩ := h; ⟨_, x.cellSm⟩

/-- To the next word m, and behind it. -/
def ToMark (main : Bool) (Wg : Nat) (m : Mark) (g g' : Goroutine) : Prop := ∃ n g1, Idle Tryd.prog main (Live Wg) (Said Wg) n g g1 ∧ g1.status = .running ∧ ∀ w, stepG Tryd.prog main g1 w = .go g' w #[mk m]

section
variable (c : Frame) (cs : List Frame) (Wg : Nat)
noncomputable def A0 : Goroutine := G (Frame.enter Tryd.prog 32 #[.pointer (some ⟨Wg, 0, none⟩), .int .i64 1] .normal) (c :: cs)
noncomputable def A2 : Goroutine := next Tryd.prog true (adv Tryd.prog true 12 (A0 c cs Wg))
noncomputable def A3 : Goroutine := adv Tryd.prog true 34 (A2 c cs Wg)
noncomputable def A4 (S : Int) : Goroutine := fin (A3 c cs Wg) (.int .u64 S)
noncomputable def A5 : Goroutine := fin (adv Tryd.prog true 52 (A4 c cs Wg 4294967296)) (.pointer (some ⟨Wg, 1, none⟩))
noncomputable def A6 : Goroutine := next Tryd.prog true (A5 c cs Wg)

theorem a_dis : ToMark true Wg .disable (A0 c cs Wg) (A2 c cs Wg) :=
  ⟨12, _, (still_of (fun w => by kernel_rfl) (by kernel_rfl) (by kernel_rfl)).idle, by kernel_rfl, fun w => by kernel_rfl⟩
theorem a_to : Idle Tryd.prog true (Live Wg) (Said Wg) 34 (A2 c cs Wg) (A3 c cs Wg) := (still_of (fun w => by kernel_rfl) (by kernel_rfl) (by kernel_rfl)).idle
theorem a_sits : sits (A3 c cs Wg) = some (70, #[.pointer (some ⟨Wg, 0, none⟩), .int .u64 4294967296]) := by kernel_rfl
theorem a_one : ∃ g, ToMark true Wg .enable (A4 c cs Wg 4294967296) g ∧ Still Tryd.prog true 1 g (G (c.finish (.tuple #[])) cs) := by
  refine ⟨next Tryd.prog true (adv Tryd.prog true 39 (A6 c cs Wg)), ⟨_, adv Tryd.prog true 39 (A6 c cs Wg), Idle.trans (still_of (n := 52) (g := A4 c cs Wg 4294967296) (fun w => by kernel_rfl) (by kernel_rfl) (by kernel_rfl)).idle (Idle.trans (Idle.one (g1 := A5 c cs Wg) (es := #[]) (by kernel_rfl) (fun w hw => ?_) (by simp)) (Idle.trans (Idle.one (g1 := A6 c cs Wg) (es := #[mk (.read ⟨Wg, 1, none⟩)]) (by kernel_rfl) (fun w _ => by kernel_rfl) (fun e he => by rw [Array.mem_singleton] at he; subst he; exact ⟨_, rfl, .inl rfl⟩))
    (still_of (n := 39) (g := A6 c cs Wg) (fun w => by kernel_rfl) (by kernel_rfl) (by kernel_rfl)).idle)), by kernel_rfl, fun w => by kernel_rfl⟩, ?_⟩
  · obtain ⟨v, hv⟩ := live1 hw
    exact conv_step (src := 111) (dst := 90) (t := 81) (by kernel_rfl) (by kernel_rfl) (by kernel_rfl) (by kernel_rfl) hv
  · exact ⟨by kernel_rfl, _, fun w => by kernel_rfl, rfl⟩
noncomputable def A7 (S : Int) : Goroutine := next Tryd.prog true (adv Tryd.prog true 87 (A4 c cs Wg S))
theorem a_more (k : Nat) (h1 : 1 ≤ k) (h2 : k ≤ 15) : ToMark true Wg .enable (A4 c cs Wg ((k + 1 : Nat) * 4294967296)) (A7 c cs Wg ((k + 1 : Nat) * 4294967296)) ∧ Still Tryd.prog true 1 (A7 c cs Wg ((k + 1 : Nat) * 4294967296)) (G (c.finish (.tuple #[])) cs) := by
  have one : k = 1 ∨ k = 2 ∨ k = 3 ∨ k = 4 ∨ k = 5 ∨ k = 6 ∨ k = 7 ∨ k = 8 ∨ k = 9 ∨ k = 10 ∨ k = 11 ∨ k = 12 ∨ k = 13 ∨ k = 14 ∨ k = 15 := by omega
  rcases one with rfl | rfl | rfl | rfl | rfl | rfl | rfl | rfl | rfl | rfl | rfl | rfl | rfl | rfl | rfl <;>
    exact ⟨⟨87, _, (still_of (n := 87) (fun w => by kernel_rfl) (by kernel_rfl) (by kernel_rfl)).idle, by kernel_rfl, fun w => by kernel_rfl⟩, by kernel_rfl, _, fun w => by kernel_rfl, rfl⟩
end
end Ev
end Go.Proofs.YtbkjjknlphlhlaaDoor
namespace Go.Proofs.YtbkjjknlphlhlaaDoor
namespace Mc
open Go.Conc Go.ConcN Hd
open Go.ConcR (stA smA mk g_of_ofEvents)
set_option maxRecDepth 100000

/-- What stands throughout one call: the group's block, the two channels, what was there when it began (Low: the heap's size; Base: what all may read), how many goroutines there were, how long the trace was; n tasks; Z: the blocks that nobody may touch any more; W0: the world in which it began; Rc C i a e w: of task i this was made, as the blocks C tell. -/
structure Env where
  Wg : Nat
  cn : Nat
  cd : Nat
  Low : Nat
  b0 : Nat
  p : Nat
  n : Nat
  Base : Nat → Prop
  Z : Nat → Prop
  W0 : World
  Rc : (Nat → Prop) → Nat → Value → Value → World → Prop
structure Env.Ok (E : Env) : Prop where
  base : ∀ b, E.Base b → b < E.Low ∧ b ≠ E.Wg ∧ b ≠ E.cn ∧ b ≠ E.cd ∧ ¬ E.Z b
  wg : E.Wg < E.Low
  cn : E.cn < E.Low
  cd : E.cd < E.Low
  wn : E.Wg ≠ E.cn
  wd : E.Wg ≠ E.cd
  nd : E.cn ≠ E.cd
  z : ∀ b, E.Z b → b < E.Low
  b0 : 1 ≤ E.b0
  one : ∀ C a v e w, E.Rc C a v e w → v.oneCell' = true ∧ e.oneCell' = true
  rc : ∀ C at_ a e w w', E.Rc C at_ a e w → (∀ b, C b → w'.heap[b]? = w.heap[b]?) → E.Rc C at_ a e w'

def blk : Loc → Option Nat
  | .cell a => some a.block
  | .obj b => some b
  | _ => none
def Sh (E : Env) : Loc → Prop := fun l => ∃ a, l = .cell a ∧ E.Z a.block
def Sh2 (E : Env) : Loc → Prop := fun l => Sh E l ∨ ShN E.Wg l
def OwnL (E : Env) (own : Nat → Nat) (k : Nat) (l : Loc) : Prop := 1 ≤ k ∧ ∃ b, blk l = some b ∧ E.Low ≤ b ∧ own b = k
def RdL (E : Env) (k : Nat) (l : Loc) : Prop := E.b0 ≤ k ∧ ∃ b, blk l = some b ∧ E.Base b

section
variable {E : Env} (hE : E.Ok)
 include hE
theorem sh_low {l : Loc} (h : Sh2 E l) : ∃ a, l = .cell a ∧ a.block < E.Low ∧ ¬ E.Base a.block := by
  rcases h with ⟨a, e, hz⟩ | ⟨a, e, hw⟩
  · exact ⟨a, e, hE.z _ hz, fun hb => (hE.base _ hb).2.2.2.2 hz⟩
  · exact ⟨a, e, hw ▸ hE.wg, fun hb => (hE.base _ hb).2.1 hw⟩
theorem apart (own : Nat → Nat) : Apart (Sh2 E) (OwnL E own) (RdL E) where
  own := fun k k' l ⟨_, b, hb, _, h1⟩ ⟨_, b', hb', _, h2⟩ => by rw [hb] at hb'; cases hb'; rw [← h1, h2]
  ownRd := fun k k' l ⟨_, b, hb, h1, _⟩ ⟨_, b', hb', h2⟩ => by rw [hb] at hb'; cases hb'; have := (hE.base _ h2).1; omega
  ownSh := fun k l ⟨_, b, hb, h1, _⟩ hs => by
    obtain ⟨a, e, h2, _⟩ := sh_low hE hs
    subst e; simp only [blk, Option.some.injEq] at hb; omega
  rdSh := fun k l ⟨_, b, hb, h1⟩ hs => by
    obtain ⟨a, e, _, h2⟩ := sh_low hE hs
    subst e; simp only [blk, Option.some.injEq] at hb; exact h2 (hb ▸ h1)
end

/-- What a step of goroutine i's may list. -/
inductive EvOk (E : Env) (i : Nat) (own : Nat → Nat) (B : Nat) : Event → Prop
  | cell (a : Addr) (wr : Bool) (h : (E.Base a.block ∧ wr = false) ∨ (E.Low ≤ a.block ∧ a.block < B ∧ own a.block = i)) : EvOk E i own B ⟨.cell a, wr, false⟩
  | obj (b : Nat) (h : E.Base b ∨ (E.Low ≤ b ∧ b < B ∧ own b = i)) : EvOk E i own B ⟨.obj b, false, false⟩
  | wg (a : Addr) (wr : Bool) (h : a.block = E.Wg) : EvOk E i own B ⟨.cell a, wr, true⟩
  | saidR (a : Addr) (h : a.block = E.Wg) (h0 : i = 0) : EvOk E i own B (mk (.read a))
  | saidW (a : Addr) (h : a.block = E.Wg) (h0 : i = 0) : EvOk E i own B (mk (.write a))
  | room : EvOk E i own B ⟨.mark .noRoom, false, true⟩
  | ext (f : FuncId) : EvOk E i own B ⟨.mark (.extern f), false, true⟩
  | dis : EvOk E i own B (mk .disable)
  | ena : EvOk E i own B (mk .enable)
  | rel : EvOk E i own B (mk (.releaseMerge (stA E.Wg)))
  | acq : EvOk E i own B (mk (.acquire (stA E.Wg)))
  | look (h0 : i = 0) : EvOk E i own B ⟨.obj E.cn, false, true⟩
  | close : EvOk E i own B ⟨.obj E.cn, true, true⟩

section
variable {E : Env} {i B : Nat} {own : Nat → Nat}
theorem not_sh (hE : E.Ok) {a : Addr} (h : E.Base a.block ∨ E.Low ≤ a.block) : ¬ Sh2 E (.cell a) := fun hs => by
  obtain ⟨a', e, h1, h2⟩ := sh_low hE hs
  cases e
  rcases h with h | h
  · exact h2 h
  · omega
theorem not_sh_obj {b : Nat} : ¬ Sh2 E (.obj b) := fun hs => by rcases hs with ⟨_, e, _⟩ | ⟨_, e, _⟩ <;> cases e
/-- What it is to touch a place by such an entry. -/
theorem evOk_touch (hE : E.Ok) {e : Event} (h : EvOk E i own B e) {x : Touch} (hx : (MemAct.ofEvent e).touch? = some x) :
    (ShN E.Wg x.loc ∧ x.kind ≠ .plain ∧ (x.kind = .said → i = 0)) ∨ (¬ Sh2 E x.loc ∧ x.kind = .plain ∧ x.loc.isMemory = true ∧ ∃ b, blk x.loc = some b ∧ ((E.Base b ∧ x.write = false) ∨ (E.Low ≤ b ∧ own b = i))) ∨ (x = ⟨.obj E.cn, false, .atomic⟩ ∧ i = 0) := by
  cases h with
  | cell a wr h =>
    have : MemAct.ofEvent ⟨.cell a, wr, false⟩ = .access ⟨.cell a, wr, false⟩ := rfl
    rw [this] at hx
    simp only [MemAct.touch?, Option.some.injEq] at hx
    subst hx
    exact .inr (.inl ⟨not_sh hE (h.imp (·.1) (·.1)), rfl, rfl, _, rfl, h.imp id fun h => ⟨h.1, h.2.2⟩⟩)
  | obj b h =>
    have : MemAct.ofEvent ⟨.obj b, false, false⟩ = .access ⟨.obj b, false, false⟩ := rfl
    rw [this] at hx
    simp only [MemAct.touch?, Option.some.injEq] at hx
    subst hx
    exact .inr (.inl ⟨not_sh_obj, rfl, rfl, b, rfl, h.imp (fun h => ⟨h, rfl⟩) fun h => ⟨h.1, h.2.2⟩⟩)
  | look h0 =>
    have : MemAct.ofEvent ⟨.obj E.cn, false, true⟩ = .access ⟨.obj E.cn, false, true⟩ := rfl
    rw [this] at hx
    simp only [MemAct.touch?, Option.some.injEq] at hx
    subst hx
    exact .inr (.inr ⟨rfl, h0⟩)
  | wg a wr h =>
    have : MemAct.ofEvent ⟨.cell a, wr, true⟩ = .access ⟨.cell a, wr, true⟩ := rfl
    rw [this] at hx
    simp only [MemAct.touch?, Option.some.injEq] at hx
    subst hx
    exact .inl ⟨⟨a, rfl, h⟩, by simp, by simp⟩
  | saidR a h h0 =>
    have : MemAct.ofEvent (mk (.read a)) = .mark (.read a) := rfl
    rw [this] at hx
    simp only [MemAct.touch?, Option.some.injEq] at hx
    subst hx
    exact .inl ⟨⟨a, rfl, h⟩, by simp, fun _ => h0⟩
  | saidW a h h0 =>
    have : MemAct.ofEvent (mk (.write a)) = .mark (.write a) := rfl
    rw [this] at hx
    simp only [MemAct.touch?, Option.some.injEq] at hx
    subst hx
    exact .inl ⟨⟨a, rfl, h⟩, by simp, fun _ => h0⟩
  | _ => first | (cases hx; done) | (exact absurd hx (by decide)) | (simp [mk, MemAct.ofEvent, MemAct.touch?] at hx)
theorem evOk_low (hE : E.Ok) (hB : E.Low ≤ B) {e : Event} (h : EvOk E i own B e) : (MemAct.ofEvent e).low B := by
  have bB : ∀ b, E.Base b → b < B := fun b hb => Nat.lt_of_lt_of_le (hE.base b hb).1 hB
  cases h with
  | cell a wr h => exact h.elim (fun h => bB _ h.1) fun h => h.2.1
  | obj b h => exact h.elim (fun h => bB _ h) fun h => h.2.1
  | wg a wr h => exact (show a.block < B from h ▸ Nat.lt_of_lt_of_le hE.wg hB)
  | saidR a h h0 => exact (show a.block < B from h ▸ Nat.lt_of_lt_of_le hE.wg hB)
  | saidW a h h0 => exact (show a.block < B from h ▸ Nat.lt_of_lt_of_le hE.wg hB)
  | rel => exact (show E.Wg < B from Nat.lt_of_lt_of_le hE.wg hB)
  | acq => exact (show E.Wg < B from Nat.lt_of_lt_of_le hE.wg hB)
  | close => exact (show E.cn < B from Nat.lt_of_lt_of_le hE.cn hB)
  | look _ => exact (show E.cn < B from Nat.lt_of_lt_of_le hE.cn hB)
  | _ => trivial
theorem evOk_norel {e : Event} (h : EvOk E i own B e) (a : Addr) : MemAct.ofEvent e ≠ .mark (.release a) := by
  cases h <;> simp [mk, MemAct.ofEvent]
theorem op_of {g : Nat} {fn : FuncId} {pos : String} {es : Array Event} {op : MemOp} (h : op ∈ MemOp.ofEvents g fn pos es) : ∃ e ∈ es, op.g = g ∧ op.act = .ofEvent e := by
  obtain ⟨e, he, rfl⟩ := Go.Conc.mem_ofEvents h
  exact ⟨e, he, rfl, rfl⟩
theorem ok0_of (hE : E.Ok) {j : Nat} {fn : FuncId} {pos : String} {es : Array Event} (h : ∀ e ∈ es, EvOk E 0 own B e) : ∀ op ∈ MemOp.ofEvents 0 fn pos es, Ok0 (Sh2 E) (OwnL E own) (RdL E) j op := fun op hop => by
  obtain ⟨e, he, hg, ha⟩ := op_of hop
  refine ⟨hg, fun x hx => ?_⟩
  rw [ha] at hx
  rcases evOk_touch hE (h e he) hx with ⟨h1, h2, _⟩ | ⟨h1, _, _, b, hb, h3⟩ | ⟨rfl, _⟩
  · exact .inl ⟨.inr h1, h2⟩
  · refine .inr ⟨h1, fun k k1 kj ⟨_, b', hb', hl, ho⟩ => ?_, fun hw k k1 kj ⟨_, b', hb', hbase⟩ => ?_⟩
    · rw [hb] at hb'; cases hb'
      rcases h3 with ⟨h3, _⟩ | ⟨_, h3⟩
      · have := (hE.base _ h3).1; omega
      · omega
    · rw [hb] at hb'; cases hb'
      rcases h3 with ⟨_, h3⟩ | ⟨h3, _⟩
      · rw [h3] at hw; cases hw
      · have := (hE.base _ hbase).1; omega
  · refine .inr ⟨not_sh_obj, fun k k1 kj ⟨_, b', hb', hl, ho⟩ => ?_, fun hw => by cases hw⟩
    cases hb'
    have := hE.cn; omega
theorem okW_of (hE : E.Ok) (hi : E.b0 ≤ i) {fn : FuncId} {pos : String} {es : Array Event} (h : ∀ e ∈ es, EvOk E i own B e) : ∀ op ∈ MemOp.ofEvents i fn pos es, OkW (Sh2 E) (OwnL E own) (RdL E) i op := fun op hop => by
  obtain ⟨e, he, hg, ha⟩ := op_of hop
  have := hE.b0
  refine ⟨hg, fun x hx => ?_⟩
  rw [ha] at hx
  rcases evOk_touch hE (h e he) hx with ⟨h1, h2, h3⟩ | ⟨h1, _, _, b, hb, h3⟩ | ⟨_, h3⟩
  · exact .inl ⟨.inr h1, h2, fun e => by have := h3 e; omega⟩
  · rcases h3 with ⟨h3, h4⟩ | ⟨h3, h4⟩
    · exact .inr (.inr ⟨⟨hi, b, hb, h3⟩, h4⟩)
    · exact .inr (.inl ⟨by omega, b, hb, h3, h4⟩)
  · omega
theorem okP_of (hE : E.Ok) (hB : E.Low ≤ B) (hi : i = 0 ∨ E.b0 ≤ i) {fn : FuncId} {pos : String} {es : Array Event} (h : ∀ e ∈ es, EvOk E i own B e) : ∀ op ∈ MemOp.ofEvents i fn pos es, OkP E.Wg E.b0 B op := fun op hop => by
  obtain ⟨e, he, hg, ha⟩ := op_of hop
  refine ⟨fun h0 hb => by omega, fun x h0 hx hk => ?_, fun x hx => ?_, ha ▸ evOk_low hE hB (h e he), ha ▸ evOk_norel (h e he) _⟩
  · rw [ha] at hx
    rcases evOk_touch hE (h e he) hx with ⟨h1, _⟩ | ⟨_, h1, _⟩ | ⟨_, h1⟩
    · exact h1
    · rw [h1] at hk; cases hk
    · omega
  · rw [ha] at hx
    rcases evOk_touch hE (h e he) hx with ⟨⟨a, e, _⟩, _⟩ | ⟨_, _, h1, _⟩ | ⟨rfl, _⟩
    · rw [e]; rfl
    · exact h1
    · rfl
end

/-- Who has made which block: what is new is i's. -/
def grew (own : Nat → Nat) (i B B' : Nat) : Nat → Nat := fun b => if B ≤ b ∧ b < B' then i else own b
/-- The trace, while the call goes. -/
def Tr (E : Env) (own : Nat → Nat) (B : Nat) (t : Trace) (j : Nat) : Prop := Ph (Sh E) E.Wg E.b0 E.p (OwnL E own) (RdL E) B t j ∧ E.Low ≤ B ∧ ∀ b, B ≤ b → own b = 0

section
variable {E : Env} {B B' j : Nat} {own : Nat → Nat} {t : Trace}
/-- ████ An own step. ████ -/
theorem Tr.step (hE : E.Ok) (h : Tr E own B t j) {i : Nat} (hi : i = 0 ∨ (E.b0 ≤ i ∧ i ≤ j)) (hB : B ≤ B') {fn : FuncId} {pos : String} {es : Array Event} (hes : ∀ e ∈ es, EvOk E i (grew own i B B') B' e) :
    Tr E (grew own i B B') B' (t ++ MemOp.ofEvents i fn pos es) j := by
  obtain ⟨h, hl, ht⟩ := h
  have hgr : Ph (Sh E) E.Wg E.b0 E.p (OwnL E (grew own i B B')) (RdL E) B t j := by
    refine h.grow (fun k l ⟨h1, b, hb, h2, h3⟩ => ⟨h1, b, hb, h2, ?_⟩) (fun k l ⟨h1, b, hb, h2, h3⟩ => ?_) fun _ _ => Iff.rfl
    · unfold grew
      rw [if_neg]
      · exact h3
      · intro hx; have := ht b hx.1; omega
    · unfold grew at h3
      split at h3
      · next hx =>
        refine .inr (fresh_low h.seen ?_)
        cases l <;> simp only [blk, Option.some.injEq, reduceCtorEq] at hb
        · show ¬ _ < B; omega
        · show ¬ _ < B; omega
      · exact .inl ⟨h1, b, hb, h2, h3⟩
  have hB' : E.Low ≤ B' := Nat.le_trans hl hB
  have A := apart hE (grew own i B B')
  refine ⟨hgr.app hB (okP_of hE hB' (hi.imp id (·.1)) hes) ?_, hB', fun b hb => ?_⟩
  · rcases hi with rfl | ⟨h1, h2⟩
    · exact hgr.ct.app0 A (ok0_of hE hes)
    · have := hE.b0
      exact hgr.ct.appW A (by omega) h2 (okW_of hE h1 hes)
  · unfold grew
    rw [if_neg (by omega)]; exact ht b (by omega)
/-- What touches nothing. -/
theorem Tr.mute (h : Tr E own B t j) {u : Trace} (hn : ∀ op ∈ u, op.act.touch? = none) (hg : ∀ op ∈ u, op.g ≤ j) (hl : ∀ op ∈ u, op.act.low B) (hr : ∀ op ∈ u, op.act ≠ .mark (.release (stA E.Wg))) : Tr E own B (t ++ u) j :=
  ⟨h.1.app (Nat.le_refl _) (fun op hop => ⟨fun _ _ => hn op hop, fun x _ hx _ => by rw [hn op hop] at hx; (cases hx), fun x hx => by rw [hn op hop] at hx; (cases hx), hl op hop, hr op hop⟩) (Hd.mute h.1.ct hn hg), h.2⟩
/-- A go statement. -/
theorem Tr.fork (hE : E.Ok) (h : Tr E own B t j) {x y : MemOp} (hx : x.g = 0 ∧ x.act = .go (j + 1)) (hy : y.g = j + 1 ∧ y.act = .start) (h0 : Deaf t 0 = 0) : Tr E own B (t ++ #[x, y]) (j + 1) := by
  refine ⟨h.1.app (Nat.le_refl _) (fun op hop => ?_) (h.1.ct.fork (apart hE own) hx hy h0), h.2⟩
  simp only [List.mem_toArray, List.mem_cons, List.not_mem_nil, or_false] at hop
  rcases hop with rfl | rfl
  · exact ⟨fun _ _ => by rw [hx.2]; rfl, fun z _ hz _ => by rw [hx.2] at hz; (cases hz), fun z hz => by rw [hx.2] at hz; (cases hz), by rw [hx.2]; trivial, by rw [hx.2]; simp⟩
  · exact ⟨fun _ _ => by rw [hy.2]; rfl, fun z _ hz _ => by rw [hy.2] at hz; (cases hz), fun z hz => by rw [hy.2] at hz; (cases hz), by rw [hy.2]; trivial, by rw [hy.2]; simp⟩
/-- The beginning. -/
theorem Tr.begin (hE : E.Ok) {B0 : Nat} (h : Hist (Sh E) B0 E.b0 t) (hp : E.p = t.size) (hW : B0 ≤ E.Wg) (hB : B0 ≤ B) (hl : E.Low ≤ B) : Tr E (fun _ => 0) B t (E.b0 - 1) :=
  ⟨hp ▸ Ph.begin h hE.b0 hW (fun k l _ ⟨h1, b, _, _, h2⟩ => by have h2 : 0 = k := h2; omega) (fun k l hk ⟨h1, _⟩ => by omega) hB, hl, fun _ _ => rfl⟩
end
end Mc
end Go.Proofs.YtbkjjknlphlhlaaDoor
namespace Go.Proofs.YtbkjjknlphlhlaaDoor
namespace Wy
open Go.Conc Sim
set_option maxRecDepth 100000

structure GuarX (X : Event → Prop) (A M : Nat → Prop) (w w' : World) (es : Array Event) : Prop where
  aside : ∀ b : Nat, b < w.heap.size → ¬ M b → w'.heap[b]? = w.heap[b]?
  size : w.heap.size ≤ w'.heap.size
  tape : w'.tape = w.tape
  drawn : w.drawn ≤ w'.drawn
  os : w'.os = w.os
  output : w'.output = w.output
  evs : ∀ e ∈ es, EvG (fresh w w' A) (fresh w w' M) e ∨ X e
theorem GuarX.of {X : Event → Prop} {A M : Nat → Prop} {w w' : World} {es : Array Event} (h : Guar A M w w' es) : GuarX X A M w w' es :=
  ⟨h.aside, h.size, h.tape, h.drawn, h.os, h.output, fun e he => .inl (h.evs e he)⟩
theorem GuarX.still {X : Event → Prop} {A M : Nat → Prop} {w : World} {es : Array Event} (h : ∀ e ∈ es, X e) : GuarX X A M w w es :=
  ⟨fun _ _ _ => rfl, Nat.le_refl _, rfl, Nat.le_refl _, rfl, rfl, fun e he => .inr (h e he)⟩

/-- Where one stands: what one counts on, what one may turn, who one is, and the world as it was when one last moved. -/
structure Pt where
  A : Nat → Prop
  M : Nat → Prop
  g : Goroutine
  w : World

section
variable (P : Program) (main : Bool) (I : World → Prop) (X : Event → Prop) (Stop : (Nat → Prop) → (Nat → Prop) → Goroutine → World → Prop)
/-- ████ -/
inductive Way : (Nat → Prop) → (Nat → Prop) → Goroutine → World → Prop
  | stop {A M g w} (h : ∀ w1, Rely A w w1 → I w1 → Stop A M g w1) : Way A M g w
  | step {A M g w} (hs : g.status = .running) (h1 : ∀ w1, Rely A w w1 → I w1 → ∃ g' w' es, stepG P main g w1 = .go g' w' es ∧ GuarX X A M w1 w' es)
      (h2 : ∀ w1 g' w' es, Rely A w w1 → I w1 → stepG P main g w1 = .go g' w' es → Way (fresh w1 w' A) (fresh w1 w' M) g' w') : Way A M g w
/-- It has come to its stop, whatever the others do. -/
def There (x : Pt) : Prop := ∀ w1, Rely x.A x.w w1 → I w1 → Stop x.A x.M x.g w1
/-- One step on. -/
def Ch (x1 x0 : Pt) : Prop := ¬ There I Stop x0 ∧ ∃ w1 es, Rely x0.A x0.w w1 ∧ I w1 ∧ stepG P main x0.g w1 = .go x1.g x1.w es ∧ x1.A = fresh w1 x1.w x0.A ∧ x1.M = fresh w1 x1.w x0.M
end

section
variable {P : Program} {main : Bool} {I : World → Prop} {X : Event → Prop} {Stop Stop' : (Nat → Prop) → (Nat → Prop) → Goroutine → World → Prop}
theorem Way.acc {A M : Nat → Prop} {g : Goroutine} {w : World} (h : Way P main I X Stop A M g w) : Acc (Ch P main I Stop) ⟨A, M, g, w⟩ := by
  induction h with
  | stop h => exact .intro _ fun y hy => absurd h hy.1
  | step hs h1 h2 ih =>
    refine .intro _ fun ⟨A', M', g', w'⟩ hy => ?_
    obtain ⟨_, w1, es, hr, hi, hst, hA, hM⟩ := hy
    dsimp only at hst hA hM hr
    subst hA; subst hM
    exact ih w1 g' w' es hr hi hst
theorem Way.rely {A M : Nat → Prop} {g : Goroutine} {w w1 : World} (h : Way P main I X Stop A M g w) (k : Rely A w w1) : Way P main I X Stop A M g w1 := by
  cases h with
  | stop h => exact .stop fun w2 k2 => h w2 (k.trans k2)
  | step hs h1 h2 => exact .step hs (fun w2 k2 => h1 w2 (k.trans k2)) fun w2 g' w' es k2 => h2 w2 g' w' es (k.trans k2)
theorem Way.seq {A M : Nat → Prop} {g : Goroutine} {w : World} (h : Way P main I X Stop A M g w) (hS : ∀ A M g w, (∀ w1, Rely A w w1 → I w1 → Stop A M g w1) → Way P main I X Stop' A M g w) : Way P main I X Stop' A M g w := by
  induction h with
  | stop h => exact hS _ _ _ _ h
  | step hs h1 _ ih => exact .step hs h1 ih
theorem Way.of_run {A M : Nat → Prop} {g : Goroutine} {w : World} (h : Run P main Stop A M g w) : Way P main I X Stop A M g w := by
  induction h with
  | stop h => exact .stop fun w1 k _ => h w1 k
  | step hs g' w' es h1 _ ih =>
    refine .step hs (fun w1 k _ => ⟨_, _, _, (h1 w1 k).1, .of (h1 w1 k).2⟩) fun w1 g1 w1' es1 k _ e => ?_
    rw [(h1 w1 k).1] at e
    cases e
    exact ih w1 k
/-- Ahead of it: steps that are idle. -/
theorem Way.idle {A M : Nat → Prop} {n : Nat} {g g' : Goroutine} {w : World} (h : Ev.Idle P main I X n g g') (k : Way P main I X Stop A M g' w) : Way P main I X Stop A M g w := by
  induction n generalizing g w with
  | zero => cases h; exact k
  | succ n ih =>
    obtain ⟨h0, g1, es, h1, h2, h3⟩ := h
    refine .step h0 (fun w1 r i => ⟨_, _, _, h1 w1 i, .still h2⟩) fun w1 g2 w2 es2 r i e => ?_
    rw [h1 w1 i] at e
    cases e
    rw [Ev.fresh_self, Ev.fresh_self]
    exact ih h3 (k.rely r)
/-- In the machine: it is at its stop, or it takes a step, and is nearer. -/
theorem Way.moves {x : Pt} {w : World} (h : Way P main I X Stop x.A x.M x.g x.w) (r : Rely x.A x.w w) (hi : I w) : Stop x.A x.M x.g w ∨
    (x.g.status = .running ∧ ∃ g' w' es, stepG P main x.g w = .go g' w' es ∧ GuarX X x.A x.M w w' es ∧ Ch P main I Stop ⟨fresh w w' x.A, fresh w w' x.M, g', w'⟩ x ∧ Way P main I X Stop (fresh w w' x.A) (fresh w w' x.M) g' w') := by
  obtain ⟨A, M, g, w0⟩ := x
  by_cases ht : There I Stop ⟨A, M, g, w0⟩
  · exact .inl (ht w r hi)
  · cases h with
    | stop h => exact absurd h ht
    | step hs h1 h2 =>
      obtain ⟨g', w', es, e, hg⟩ := h1 w r hi
      exact .inr ⟨hs, g', w', es, e, hg, ⟨ht, w, es, r, hi, e, rfl, rfl⟩, h2 w g' w' es r hi e⟩
end
end Wy
end Go.Proofs.YtbkjjknlphlhlaaDoor
namespace Go.Proofs.YtbkjjknlphlhlaaDoor
namespace Ev
open Go.Conc
theorem Still.quits {P : Program} {n k d : Nat} {g g' : Goroutine} (h : Still P false n g g') (hq : QuitsD P k d g') : QuitsD P (k + n) d g := by
  induction n generalizing g with
  | zero => cases h; exact hq
  | succ n ih =>
    obtain ⟨h0, g1, h1, h2⟩ := h
    exact QuitsD.ctl h0 h1 (ih h2)
end Ev
end Go.Proofs.YtbkjjknlphlhlaaDoor
