/- Operations that are alike: of two runs of them the one is matched by the other. -/
import Derived.Test.YtbkjjknlphlhlaaDoorZ12
namespace Go.Proofs.YtbkjjknlphlhlaaDoor
namespace Sim
set_option maxRecDepth 100000

/-- How such an operation may stop short. -/
def tame : Halt → Bool
  | .panic _ | .stuck _ => true
  | .unsupported (.initOrder _) => false
  | .unsupported _ => true
  | _ => false
/-- Both do the same, but for the numbers of blocks. (Where the first one stops short, nothing is asked.) -/
inductive SR (P : Program) (S : FuncId → Bool) (st : Bool) {α α' : Type} (A : Ren → α → α' → Prop) : Ren → Sem α → Sem α' → Prop
  | pure {m a a'} (h : A m a a') : SR P S st A m (.pure a) (.pure a')
  | halt {m h s'} (ht : tame h = true := by rfl) : SR P S st A m (.halt h) s'
  | load {m a a' k k'} (ha : AR m a a') (hk : ∀ m', Le m m' → ∀ v v', VR S m' v v' → SR P S st A m' (k v) (k' v')) : SR P S st A m (.load .plain a k) (.load .plain a' k')
  | store {m a a' v v' k k'} (ha : AR m a a') (hv : VR S m v v') (hk : SR P S st A m k k') : SR P S st A m (.store .plain a v k) (.store .plain a' v' k')
  | new {m c c' t k k'} (hc : VRs S m c c') (hk : ∀ m', Le m m' → ∀ b b', m' b = some b' → SR P S st A m' (k b) (k' b')) : SR P S st A m (.new (.cells c t) k) (.new (.cells c' t) k')
  | choose {m q k k'} (hk : ∀ m', Le m m' → ∀ n, SR P S st A m' (k n) (k' n)) : SR P S st A m (.choose q k) (.choose q k')
  | program {m k k'} (hk : SR P S st A m (k P) (k' P)) : SR P S st A m (.program k) (.program k')
  | room {m k k'} (hk : SR P S st A m k k') : SR P S st A m (.mark .noRoom k) (.mark .noRoom k')
  | ext {m f k k'} (hf : S f = true) (hk : SR P S st A m k k') : SR P S st A m (.mark (.extern f) k) (.mark (.extern f) k')
  | newNum {m a a' l k k'} (ha : AR m a a') (hk : ∀ m', Le m m' → ∀ b b', m' b = some b' → SR P S st A m' (k b) (k' b')) : SR P S st A m (.new (.number a l) k) (.new (.number a' l) k')
  | getNum {m r r' k k'} (hr : m r = some r') (hk : ∀ m', Le m m' → ∀ a a' l, AR m' a a' → SR P S st A m' (k (.number a l)) (k' (.number a' l))) : SR P S st A m (.getObj r k) (.getObj r' k')
  | shape {m r r' k k'} (hr : m r = some r') (hk : ∀ m', Le m m' → ∀ x, SR P S st A m' (k x) (k' x)) : SR P S st A m (.shape r k) (.shape r' k')
  | frozen {m a a' k k'} (hs : st = true) (ha : AR m a a') (hk : ∀ m', Le m m' → ∀ x, SR P S st A m' (k x) (k' x)) : SR P S st A m (.frozen a k) (.frozen a' k')
  | dead {m s s'} (h : ∀ w, ∃ x w1, s.run P w = .halt x w1 ∧ tame x = true) : SR P S st A m s s'

section
variable {P : Program} {S : FuncId → Bool} {st : Bool} {α α' β β' : Type} {A : Ren → α → α' → Prop} {B : Ren → β → β' → Prop}
def Mono (A : Ren → α → α' → Prop) : Prop := ∀ m m' a a', Le m m' → A m a a' → A m' a a'
theorem SR.mono (hA : Mono A) {m m' : Ren} {s : Sem α} {s' : Sem α'} (h : SR P S st A m s s') (l : Le m m') : SR P S st A m' s s' := by
  induction h generalizing m' with
  | pure h => exact .pure (hA _ _ _ _ l h)
  | halt ht => exact .halt ht
  | load ha _ ih => exact .load (ha.mono l) fun m2 l2 v v' hv => ih m2 (l.trans l2) v v' hv (Le.refl _)
  | store ha hv _ ih => exact .store (ha.mono l) (hv.mono l) (ih l)
  | new hc _ ih => exact .new (hc.mono l) fun m2 l2 b b' hb => ih m2 (l.trans l2) b b' hb (Le.refl _)
  | choose _ ih => exact .choose fun m2 l2 n => ih m2 (l.trans l2) n (Le.refl _)
  | program _ ih => exact .program (ih l)
  | room _ ih => exact .room (ih l)
  | ext hf _ ih => exact .ext hf (ih l)
  | newNum ha _ ih => exact .newNum (ha.mono l) fun m2 l2 b b' hb => ih m2 (l.trans l2) b b' hb (Le.refl _)
  | getNum hr _ ih => exact .getNum (l.app _ _ hr) fun m2 l2 a a' q ha => ih m2 (l.trans l2) a a' q ha (Le.refl _)
  | shape hr _ ih => exact .shape (l.app _ _ hr) fun m2 l2 x => ih m2 (l.trans l2) x (Le.refl _)
  | frozen hs ha _ ih => exact .frozen hs (ha.mono l) fun m2 l2 x => ih m2 (l.trans l2) x (Le.refl _)
  | dead h => exact .dead h
theorem SR.bind' {m : Ren} {s : Sem α} {s' : Sem α'} {f : α → Sem β} {f' : α' → Sem β'} (h : SR P S st A m s s') (hf : ∀ m', Le m m' → ∀ a a', A m' a a' → SR P S st B m' (f a) (f' a')) : SR P S st B m (s.bind f) (s'.bind f') := by
  induction h with
  | pure h => exact hf _ (Le.refl _) _ _ h
  | halt ht => exact .halt ht
  | load ha _ ih => exact .load ha fun m2 l2 v v' hv => ih m2 l2 v v' hv fun m3 l3 => hf m3 (l2.trans l3)
  | store ha hv _ ih => exact .store ha hv (ih hf)
  | new hc _ ih => exact .new hc fun m2 l2 b b' hb => ih m2 l2 b b' hb fun m3 l3 => hf m3 (l2.trans l3)
  | choose _ ih => exact .choose fun m2 l2 n => ih m2 l2 n fun m3 l3 => hf m3 (l2.trans l3)
  | program _ ih => exact .program (ih hf)
  | room _ ih => exact .room (ih hf)
  | ext h _ ih => exact .ext h (ih hf)
  | newNum ha _ ih => exact .newNum ha fun m2 l2 b b' hb => ih m2 l2 b b' hb fun m3 l3 => hf m3 (l2.trans l3)
  | getNum hr _ ih => exact .getNum hr fun m2 l2 a a' q ha => ih m2 l2 a a' q ha fun m3 l3 => hf m3 (l2.trans l3)
  | shape hr _ ih => exact .shape hr fun m2 l2 x => ih m2 l2 x fun m3 l3 => hf m3 (l2.trans l3)
  | frozen hs ha _ ih => exact .frozen hs ha fun m2 l2 x => ih m2 l2 x fun m3 l3 => hf m3 (l2.trans l3)
  | @dead _ s _ h =>
    refine .dead fun w => ?_
    obtain ⟨x, w1, e, ht⟩ := h w
    exact ⟨x, w1, by rw [show s.bind f = s >>= f from rfl, Sem.run_bind, e]; rfl, ht⟩
theorem SR.bind {m : Ren} {s : Sem α} {s' : Sem α'} {f : α → Sem β} {f' : α' → Sem β'} (h : SR P S st A m s s') (hf : ∀ m', Le m m' → ∀ a a', A m' a a' → SR P S st B m' (f a) (f' a')) : SR P S st B m (s >>= f) (s' >>= f') := h.bind' hf
end

/-! ### the worlds -/

/-- Cells of a block of the small world, and of the one that stands for it: as many, alike; what may not be written there may not be written here. -/
structure ORl (S : FuncId → Bool) (st : Bool) (m : Ren) (c : Array Value) (fz : Nat × Nat) (c' : Array Value) (fz' : Nat × Nat) : Prop where
  size : c.size = c'.size
  cells : ∀ i, i < c.size → VR S m (c.getD i (.tuple #[])) (c'.getD i (.tuple #[]))
  bar : ∀ i, i < c.size → fz'.1 ≤ i → i < fz'.2 → fz.1 ≤ i ∧ i < fz.2
  strict : st = true → fz = fz'
def OO (S : FuncId → Bool) (st : Bool) (m : Ren) (o o' : Obj) : Prop :=
  (∃ (c : Array Value) (t : TypeId) (fz : Nat × Nat) (c' : Array Value) (fz' : Nat × Nat), o = .cells c t fz ∧ o' = .cells c' t fz' ∧ ORl S st m c fz c' fz') ∨ ∃ a a' l, o = .number a l ∧ o' = .number a' l ∧ AR m a a'
structure HR (S : FuncId → Bool) (st : Bool) (m : Ren) (w w' : World) : Prop where
  obj : ∀ b b', m b = some b' → ∃ o o', w.heap[b]? = some o ∧ w'.heap[b']? = some o' ∧ OO S st m o o'
  inj : Inj m
/-- What the one draws on its way to w1 the other draws as well. -/
def TA (w w1 w' : World) : Prop := ∀ n q, w.drawn + n < w1.drawn → w.tape (w.drawn + n) q = w'.tape (w'.drawn + n) q

/-- Nothing of this block of the small world may be written. -/
def Shut (w : World) (b : Nat) : Prop := ∃ c t fz, w.heap[b]? = some (Obj.cells c t fz) ∧ ∀ i, i < c.size → fz.1 ≤ i ∧ i < fz.2
/-- An entry that such a step lists: a plain touch of a cell that stands for one that is there; a write: of one that may be written. -/
def Ev (m : Ren) (w : World) (e : Event) : Prop :=
  (∃ a a' v, AR m a a' ∧ e.loc = .cell a' ∧ e.sync = false ∧ w.cell? a = some v ∧ (e.write = true → w.frozen? a = false)) ∨ e = ⟨.mark .noRoom, false, true⟩ ∨ (∃ f, e = ⟨.mark (.extern f), false, true⟩) ∨ ∃ b b', m b = some b' ∧ e = ⟨.obj b', false, false⟩
/-- A value of one cell. -/
def One : Value → Prop
  | .agg _ | .tuple _ => False
  | _ => True
/-- What such a run does to both worlds. -/
structure Mv (m m1 : Ren) (w w1 w' w1' : World) (evs : Array Event) : Prop where
  le : Le m m1
  size : w'.heap.size ≤ w1'.heap.size
  sizeL : w.heap.size ≤ w1.heap.size
  aside : ∀ b : Nat, b < w'.heap.size → (∀ a, m a ≠ some b) → w1'.heap[b]? = w'.heap[b]?
  shut : ∀ (a b : Nat), m a = some b → Shut w a → w1'.heap[b]? = w'.heap[b]?
  fresh : ∀ a b, m1 a = some b → m a = none → w'.heap.size ≤ b ∧ b < w1'.heap.size ∧ w.heap.size ≤ a
  mine : ∀ b, w'.heap.size ≤ b → b < w1'.heap.size → ∃ a, m1 a = some b ∧ m a = none
  tape : w1'.tape = w'.tape
  drawn : w1'.drawn + w.drawn = w'.drawn + w1.drawn
  tapeL : w1.tape = w.tape
  drawnL : w.drawn ≤ w1.drawn
  os : w1'.os = w'.os
  output : w1'.output = w'.output
  keep : ∀ (b : Nat) (c : Array Value) (t : TypeId) (fz : Nat × Nat), w.heap[b]? = some (Obj.cells c t fz) → ∃ c1 : Array Value, w1.heap[b]? = some (Obj.cells c1 t fz) ∧ c1.size = c.size
  evs : ∀ e ∈ evs, Ev m1 w1 e
  same : w.heap.size = w'.heap.size → w1.heap.size = w1'.heap.size ∧ ∀ a b, m1 a = some b → m a = some b ∨ a = b
  asideL : ∀ b : Nat, b < w.heap.size → m b = none → w1.heap[b]? = w.heap[b]?
  osL : w1.os = w.os
  outputL : w1.output = w.output
  holdL : ∀ (b o : Nat) (v : Value), b < w.heap.size → w1.cell? ⟨b, o, none⟩ = some v → ¬ One v → w.cell? ⟨b, o, none⟩ = some v
  holdR : ∀ (b b' o : Nat) (v : Value), b < w.heap.size → m b = some b' → w1.cell? ⟨b, o, none⟩ = some v → ¬ One v → w1'.cell? ⟨b', o, none⟩ = w'.cell? ⟨b', o, none⟩
  keepR : ∀ (b : Nat) (c : Array Value) (t : TypeId) (fz : Nat × Nat), w'.heap[b]? = some (Obj.cells c t fz) → ∃ c1 : Array Value, w1'.heap[b]? = some (Obj.cells c1 t fz) ∧ c1.size = c.size

theorem cell_isSome {w : World} {a : Addr} {v : Value} (h : w.cell? a = some v) : ∃ c t fz, w.heap[a.block]? = some (.cells c t fz) ∧ a.off < c.size ∧ a.spot = none ∧ c[a.off]? = some v := by
  unfold World.cell? at h
  split at h
  · next c t fz e =>
    split at h
    · cases h
    · next hs =>
      refine ⟨c, t, fz, e, (Array.getElem?_eq_some_iff.1 h).1, by cases hh : a.spot <;> simp_all, h⟩
  · cases h
theorem Mv.keepCell {m m1 : Ren} {w w1 w' w1' : World} {evs : Array Event} (h : Mv m m1 w w1 w' w1' evs) {a : Addr} {v : Value} (hc : w.cell? a = some v) : (∃ v1, w1.cell? a = some v1) ∧ w1.frozen? a = w.frozen? a := by
  obtain ⟨c, t, fz, h1, h2, h3, h4⟩ := cell_isSome hc
  obtain ⟨c1, h5, h6⟩ := h.keep _ _ _ _ h1
  refine ⟨⟨c1[a.off]'(by omega), ?_⟩, ?_⟩
  · simp [World.cell?, h5, h3, Array.getElem?_eq_getElem (show a.off < c1.size by omega)]
  · simp [World.frozen?, h5, h1]
theorem Ev.later {m m1 m2 : Ren} {w w1 w' w1' : World} {evs : Array Event} (h : Mv m m1 w w1 w' w1' evs) (l : Le m2 m1) {e : Event} (he : Ev m2 w e) : Ev m1 w1 e := by
  rcases he with ⟨a, a', v, h1, h2, h3, h4, h5⟩ | he
  · obtain ⟨⟨v1, k1⟩, k2⟩ := h.keepCell h4
    exact .inl ⟨a, a', v1, h1.mono l, h2, h3, k1, fun x => k2.trans (h5 x)⟩
  · rcases he with he | he | ⟨b, b', h1, h2⟩
    · exact .inr (.inl he)
    · exact .inr (.inr (.inl he))
    · exact .inr (.inr (.inr ⟨b, b', l.app _ _ h1, h2⟩))
theorem Mv.refl (m : Ren) (w w' : World) : Mv m m w w w' w' #[] where
  le := .refl _
  size := Nat.le_refl _
  sizeL := Nat.le_refl _
  aside := fun _ _ _ => rfl
  shut := fun _ _ _ _ => rfl
  fresh := fun a b h h' => by rw [h] at h'; cases h'
  mine := fun b h h' => by omega
  tape := rfl
  drawn := Nat.add_comm _ _ ▸ rfl
  tapeL := rfl
  drawnL := Nat.le_refl _
  os := rfl
  output := rfl
  keep := fun b c t fz h => ⟨c, h, rfl⟩
  evs := fun e he => by simp at he
  same := fun h => ⟨h, fun _ _ x => .inl x⟩
  asideL := fun _ _ _ => rfl
  osL := rfl
  outputL := rfl
  holdL := fun _ _ _ _ h _ => h
  holdR := fun _ _ _ _ _ _ _ _ => rfl
  keepR := fun _ c _ _ h => ⟨c, h, rfl⟩
theorem Mv.trans {m m1 m2 : Ren} {w w1 w2 w' w1' w2' : World} {e1 e2 : Array Event} (h : Mv m m1 w w1 w' w1' e1) (k : Mv m1 m2 w1 w2 w1' w2' e2) : Mv m m2 w w2 w' w2' (e1 ++ e2) where
  le := h.le.trans k.le
  size := Nat.le_trans h.size k.size
  sizeL := Nat.le_trans h.sizeL k.sizeL
  aside := fun b hb hn => by
    rw [k.aside b (Nat.lt_of_lt_of_le hb h.size) (fun a ha => ?_), h.aside b hb hn]
    rcases hm : m a with _ | b2
    · have := (h.fresh a b ha hm).1; omega
    · have := h.le.app _ _ hm
      rw [ha] at this; cases this
      exact hn a hm
  shut := fun a b ha hs => by
    have hs1 : Shut w1 a := by
      obtain ⟨c, t, fz, h1, h2⟩ := hs
      obtain ⟨c1, h3, h4⟩ := h.keep _ _ _ _ h1
      exact ⟨c1, t, fz, h3, fun i hi => h2 i (by omega)⟩
    rw [k.shut a b (h.le.app _ _ ha) hs1, h.shut a b ha hs]
  fresh := fun a b ha hn => by
    rcases hm : m1 a with _ | b2
    · have := k.fresh a b ha hm
      exact ⟨Nat.le_trans h.size this.1, this.2.1, Nat.le_trans h.sizeL this.2.2⟩
    · have h2 := k.le.app _ _ hm
      rw [ha] at h2; cases h2
      have := h.fresh a b hm hn
      exact ⟨this.1, Nat.lt_of_lt_of_le this.2.1 k.size, this.2.2⟩
  mine := fun b hb hb2 => by
    by_cases hlt : b < w1'.heap.size
    · obtain ⟨a, h1, h2⟩ := h.mine b hb hlt
      exact ⟨a, k.le.app _ _ h1, h2⟩
    · obtain ⟨a, h1, h2⟩ := k.mine b (by omega) hb2
      refine ⟨a, h1, ?_⟩
      rcases hm : m a with _ | b2
      · rfl
      · have := h.le.app _ _ hm; rw [h2] at this; cases this
  tape := k.tape.trans h.tape
  drawn := by have := h.drawn; have := k.drawn; omega
  tapeL := k.tapeL.trans h.tapeL
  drawnL := Nat.le_trans h.drawnL k.drawnL
  os := k.os.trans h.os
  output := k.output.trans h.output
  keep := fun b c t fz hb => by
    obtain ⟨c1, h1, h2⟩ := h.keep b c t fz hb
    obtain ⟨c2, h3, h4⟩ := k.keep b c1 t fz h1
    exact ⟨c2, h3, h4.trans h2⟩
  evs := fun e he => by
    rcases Array.mem_append.1 he with x | x
    · exact (h.evs e x).later k k.le
    · exact k.evs e x
  same := fun e => by
    have h1 := h.same e
    have h2 := k.same h1.1
    exact ⟨h2.1, fun a b ha => (h2.2 a b ha).elim (h1.2 a b) .inr⟩
  asideL := fun b hb hn => by
    rw [k.asideL b (Nat.lt_of_lt_of_le hb h.sizeL) ?_, h.asideL b hb hn]
    rcases hm : m1 b with _ | b2
    · rfl
    · have := (h.fresh b b2 hm hn).2.2; omega
  osL := k.osL.trans h.osL
  outputL := k.outputL.trans h.outputL
  holdL := fun b o v hb hv hn => h.holdL b o v hb (k.holdL b o v (Nat.lt_of_lt_of_le hb h.sizeL) hv hn) hn
  holdR := fun b b' o v hb hm hv hn => by
    have hlt := Nat.lt_of_lt_of_le hb h.sizeL
    rw [k.holdR b b' o v hlt (h.le.app _ _ hm) hv hn, h.holdR b b' o v hb hm (k.holdL b o v hlt hv hn) hn]
  keepR := fun b c t fz hb => by
    obtain ⟨c1, h1, h2⟩ := h.keepR b c t fz hb
    obtain ⟨c2, h3, h4⟩ := k.keepR b c1 t fz h1
    exact ⟨c2, h3, h4.trans h2⟩

section
variable {P : Program} {S : FuncId → Bool} {st : Bool} {α α' : Type} {A : Ren → α → α' → Prop}
theorem HR.row {m : Ren} {w w' : World} (h : HR S st m w w') {b b' : Nat} (hb : m b = some b') {c : Array Value} {t : TypeId} {fz : Nat × Nat} (e : w.heap[b]? = some (.cells c t fz)) : ∃ c' fz', w'.heap[b']? = some (Obj.cells c' t fz') ∧ ORl S st m c fz c' fz' := by
  obtain ⟨o, o', h1, h2, h3⟩ := h.obj b b' hb
  rw [e] at h1; cases h1
  rcases h3 with ⟨c1, t1, fz1, c', fz', e1, rfl, h4⟩ | ⟨_, _, _, e1, _⟩
  · cases e1; exact ⟨c', fz', h2, h4⟩
  · cases e1
theorem HR.cell {m : Ren} {w w' : World} (h : HR S st m w w') {a a' : Addr} (ha : AR m a a') {v : Value} (hv : w.cell? a = some v) : ∃ v', w'.cell? a' = some v' ∧ VR S m v v' := by
  obtain ⟨c0, t0, fz0, e0, hlt, hs, hc⟩ := cell_isSome hv
  obtain ⟨c', fz', h2, h3⟩ := h.row ha.1 e0
  have hlt' : a.off < c'.size := h3.size ▸ hlt
  refine ⟨c'[a.off], ?_, ?_⟩
  · unfold World.cell?
    rw [h2]
    simp [ha.2.1, ha.2.2, hs, hlt']
  · have := h3.cells _ hlt
    have e : c0[a.off] = v := by simpa [hlt] using hc
    simpa [Array.getD, hlt, hlt', e] using this
theorem HR.open_ {m : Ren} {w w' : World} (h : HR S st m w w') {a a' : Addr} (ha : AR m a a') {v : Value} (hv : w.cell? a = some v) (hf : w.frozen? a = false) : w'.frozen? a' = false := by
  obtain ⟨c0, t0, fz0, e0, hlt, hs, hc⟩ := cell_isSome hv
  obtain ⟨c', fz', h2, h3⟩ := h.row ha.1 e0
  unfold World.frozen? at hf ⊢
  rw [e0] at hf; rw [h2]
  have := h3.bar a.off hlt
  simp only [ha.2.1, Bool.and_eq_false_iff, decide_eq_false_iff_not] at hf ⊢
  omega
theorem HR.drew {m : Ren} {w w' : World} (h : HR S st m w w') : HR S st m { w with drawn := w.drawn + 1 } { w' with drawn := w'.drawn + 1 } := ⟨h.obj, h.inj⟩
theorem mv_drew {m : Ren} {w w' : World} : Mv m m w { w with drawn := w.drawn + 1 } w' { w' with drawn := w'.drawn + 1 } #[] where
  le := .refl _
  size := Nat.le_refl _
  sizeL := Nat.le_refl _
  aside := fun _ _ _ => rfl
  shut := fun _ _ _ _ => rfl
  fresh := fun a b h h' => by rw [h] at h'; cases h'
  mine := fun b h h' => by simp at h'; omega
  tape := rfl
  drawn := by simp; omega
  tapeL := rfl
  drawnL := by simp
  os := rfl
  output := rfl
  keep := fun b c t fz h => ⟨c, h, rfl⟩
  evs := fun e he => by simp at he
  same := fun h => ⟨h, fun _ _ x => .inl x⟩
  asideL := fun _ _ _ => rfl
  osL := rfl
  outputL := rfl
  holdL := fun _ _ _ _ h _ => h
  holdR := fun _ _ _ _ _ _ _ _ => rfl
  keepR := fun _ c _ _ h => ⟨c, h, rfl⟩
theorem cell_set {w : World} {a : Addr} {x : Value} (hx : w.cell? a = some x) (v : Value) (b o : Nat) : (w.setCell a v).cell? ⟨b, o, none⟩ = if a.block = b ∧ a.off = o then some v else w.cell? ⟨b, o, none⟩ := by
  obtain ⟨c0, t0, fz0, e0, hlt, hs, hc⟩ := cell_isSome hx
  by_cases hb : a.block = b
  · subst hb
    have e1 : (w.setCell a v).heap[a.block]? = some (.cells (c0.setIfInBounds a.off v) t0 fz0) := by simp [World.setCell, Array.getElem?_modify, e0, hs]
    simp only [World.cell?, e1, e0, Option.isSome_none, Bool.false_eq_true, if_false, true_and, Array.getElem?_setIfInBounds]
    split
    · next h => subst h; simp
    · next h => rfl
  · have e1 : (w.setCell a v).heap[b]? = w.heap[b]? := by simp [World.setCell, Array.getElem?_modify, hb]
    rw [if_neg (fun h => hb h.1)]
    simp only [World.cell?, e1]
theorem getD_set (c : Array Value) {i : Nat} (hi : i < c.size) (j : Nat) (v d : Value) : (c.setIfInBounds j v).getD i d = if j = i then v else c.getD i d := by
  simp only [Array.getD_eq_getD_getElem?, Array.getElem?_setIfInBounds]
  split
  · next e => subst e; simp [hi]
  · rfl
theorem HR.store {m : Ren} {w w' : World} (h : HR S st m w w') {a a' : Addr} (ha : AR m a a') {x : Value} (hv : w.cell? a = some x) {v v' : Value} (hr : VR S m v v') : HR S st m (w.setCell a v) (w'.setCell a' v') := by
  obtain ⟨c0, t0, fz0, e0, hlt, hs, hc⟩ := cell_isSome hv
  obtain ⟨hb, ho, hp⟩ := ha
  have hs' : a'.spot = none := hp.trans hs
  refine ⟨fun b b' hbb => ?_, h.inj⟩
  by_cases hab : b = a.block
  · subst hab
    rw [hb] at hbb; cases hbb
    obtain ⟨c', fz', h2, h3⟩ := h.row hb e0
    refine ⟨.cells (c0.setIfInBounds a.off v) t0 fz0, .cells (c'.setIfInBounds a.off v') t0 fz', ?_, ?_, .inl ⟨_, _, _, _, _, rfl, rfl, ?_⟩⟩
    · simp [World.setCell, Array.getElem?_modify, e0, hs]
    · simp [World.setCell, Array.getElem?_modify, h2, hs', ho]
    · refine ⟨by simp [h3.size], fun i hi => ?_, fun i hi => h3.bar i (by simpa using hi), fun e => h3.strict e⟩
      simp only [Array.size_setIfInBounds] at hi
      have hi' : i < c'.size := h3.size ▸ hi
      have := h3.cells i hi
      rw [getD_set c0 hi, getD_set c' hi']
      split
      · exact hr
      · simpa [Array.getD, hi, hi'] using this
  · have hab' : b' ≠ a'.block := fun e => hab (h.inj b a.block b' hbb (e ▸ hb))
    obtain ⟨o, o', h1, h2, h3⟩ := h.obj b b' hbb
    refine ⟨o, o', ?_, ?_, h3⟩
    · simp [World.setCell, Array.getElem?_modify, Ne.symm hab, h1]
    · simp [World.setCell, Array.getElem?_modify, Ne.symm hab', h2]
theorem mv_store {m : Ren} {w w' : World} (h : HR S st m w w') {a a' : Addr} (ha : AR m a a') {x : Value} (hv : w.cell? a = some x) (hf : w.frozen? a = false) {x' : Value} (hv' : w'.cell? a' = some x') {v : Value} (one : One v) (v' : Value) : Mv m m w (w.setCell a v) w' (w'.setCell a' v') #[⟨.cell a', true, false⟩] where
  le := .refl _
  size := by simp [World.setCell]
  sizeL := by simp [World.setCell]
  aside := fun b _ hn => by
    have : b ≠ a'.block := fun e => hn a.block (e ▸ ha.1)
    simp [World.setCell, Array.getElem?_modify, Ne.symm this]
  shut := fun b b' hb hsh => by
    have : b' ≠ a'.block := fun e => by
      have e2 : b = a.block := h.inj _ _ _ hb (e ▸ ha.1)
      subst e2
      obtain ⟨c, t, fz, h1, h2⟩ := hsh
      obtain ⟨c0, t0, fz0, e0, hlt, hs, hc⟩ := cell_isSome hv
      rw [e0] at h1; cases h1
      have := h2 _ hlt
      unfold World.frozen? at hf
      rw [e0] at hf
      simp [this] at hf
    simp [World.setCell, Array.getElem?_modify, Ne.symm this]
  fresh := fun a b h h' => by rw [h] at h'; cases h'
  mine := fun b h h' => by simp [World.setCell] at h'; omega
  tape := rfl
  drawn := Nat.add_comm _ _ ▸ rfl
  tapeL := rfl
  drawnL := Nat.le_refl _
  os := rfl
  output := rfl
  keep := fun b c t fz hb => by
    by_cases e : a.block = b
    · obtain ⟨c0, t0, fz0, e0, hlt, hs, hc⟩ := cell_isSome hv
      refine ⟨c.setIfInBounds a.off v, ?_, by simp⟩
      simp [World.setCell, Array.getElem?_modify, e, hb, hs]
    · exact ⟨c, by simp [World.setCell, Array.getElem?_modify, e, hb], rfl⟩
  same := fun h => ⟨by simpa [World.setCell] using h, fun _ _ x => .inl x⟩
  asideL := fun b _ hn => by
    have : b ≠ a.block := fun e => by rw [e, ha.1] at hn; cases hn
    simp [World.setCell, Array.getElem?_modify, Ne.symm this]
  osL := rfl
  holdL := fun b o u _ hu hn => by
    rw [cell_set hv] at hu
    split at hu
    · cases hu; exact absurd one hn
    · exact hu
  holdR := fun b b' o u _ hm hu hn => by
    rw [cell_set hv] at hu
    split at hu
    · cases hu; exact absurd one hn
    · next hne =>
      rw [cell_set hv', if_neg]
      rintro ⟨rfl, rfl⟩
      exact hne ⟨(h.inj _ _ _ ha.1 hm), ha.2.1.symm⟩
  keepR := fun b c t fz hb => by
    have hs' : a'.spot = none := by obtain ⟨_, _, _, _, _, hs, _⟩ := cell_isSome hv'; exact hs
    by_cases e : a'.block = b
    · refine ⟨c.setIfInBounds a'.off v', ?_, by simp⟩
      simp [World.setCell, Array.getElem?_modify, e, hb, hs']
    · exact ⟨c, by simp [World.setCell, Array.getElem?_modify, e, hb], rfl⟩
  outputL := rfl
  evs := fun e he => by
    simp at he; subst he
    obtain ⟨c0, t0, fz0, e0, hlt, hs, hc⟩ := cell_isSome hv
    refine .inl ⟨a, a', v, ha, rfl, rfl, ?_, fun _ => ?_⟩
    · simp [World.cell?, World.setCell, Array.getElem?_modify, e0, hs, hlt]
    · unfold World.frozen? at hf ⊢
      rw [e0] at hf
      simpa [World.setCell, Array.getElem?_modify, e0] using hf
theorem heap_push {w : World} {o : Obj} {b : Nat} (hb : b < w.heap.size) : ({ w with heap := w.heap.push o } : World).heap[b]? = w.heap[b]? := by
  have : b ≠ w.heap.size := by omega
  simp [Array.getElem?_push, this]
def Ren.put (m : Ren) (b b' : Nat) : Ren := fun x => if x = b then some b' else m x
theorem HR.lt {m : Ren} {w w' : World} (h : HR S st m w w') {b b' : Nat} (e : m b = some b') : b < w.heap.size ∧ b' < w'.heap.size := by
  obtain ⟨o, o', h1, h2, _⟩ := h.obj b b' e
  exact ⟨(Array.getElem?_eq_some_iff.1 h1).1, (Array.getElem?_eq_some_iff.1 h2).1⟩
theorem HR.none {m : Ren} {w w' : World} (h : HR S st m w w') {b : Nat} (hb : w.heap.size ≤ b) : m b = none := by
  rcases e : m b with _ | b'
  · rfl
  · have := (h.lt e).1; omega
theorem HR.inj_put {m : Ren} {w w' : World} (h : HR S st m w w') : Inj (m.put w.heap.size w'.heap.size) := fun x y z hx hy => by
  unfold Ren.put at hx hy
  split at hx <;> split at hy
  · omega
  · cases hx; have := (h.lt hy).2; omega
  · cases hy; have := (h.lt hx).2; omega
  · exact h.inj _ _ _ hx hy
theorem HR.le_put {m : Ren} {w w' : World} (h : HR S st m w w') : Le m (m.put w.heap.size w'.heap.size) := ⟨fun b b' e => by
  have := (h.lt e).1
  unfold Ren.put
  rw [if_neg (by omega)]; exact e, fun _ => h.inj_put⟩
theorem ORl.mono {m m' : Ren} {c c' : Array Value} {fz fz' : Nat × Nat} (h : ORl S st m c fz c' fz') (l : Le m m') : ORl S st m' c fz c' fz' := ⟨h.size, fun i hi => (h.cells i hi).mono l, h.bar, h.strict⟩
theorem OO.mono {m m' : Ren} {o o' : Obj} (h : OO S st m o o') (l : Le m m') : OO S st m' o o' := by
  rcases h with ⟨c, t, fz, c', fz', e1, e2, h⟩ | ⟨a, a', q, e1, e2, h⟩
  · exact .inl ⟨c, t, fz, c', fz', e1, e2, h.mono l⟩
  · exact .inr ⟨a, a', q, e1, e2, h.mono l⟩
theorem HR.new {m : Ren} {w w' : World} (h : HR S st m w w') {o o' : Obj} (ho : OO S st m o o') :
    HR S st (m.put w.heap.size w'.heap.size) { w with heap := w.heap.push o } { w' with heap := w'.heap.push o' } := by
  refine ⟨fun b b' e => ?_, h.inj_put⟩
  unfold Ren.put at e
  split at e
  · next eb =>
    cases e; subst eb
    exact ⟨o, o', by simp, by simp, ho.mono h.le_put⟩
  · obtain ⟨o1, o2, h1, h2, h3⟩ := h.obj b b' e
    exact ⟨o1, o2, by rw [heap_push (h.lt e).1]; exact h1, by rw [heap_push (h.lt e).2]; exact h2, h3.mono h.le_put⟩
theorem OO.row {m : Ren} {c c' : Array Value} (hc : VRs S m c c') (t : TypeId) : OO S st m (.cells c t) (.cells c' t) :=
  .inl ⟨c, t, (0, 0), c', (0, 0), rfl, rfl, hc.1, hc.2, fun i _ h1 h2 => absurd h2 (by simp), fun _ => rfl⟩
theorem mv_new {m : Ren} {w w' : World} (h : HR S st m w w') (o o' : Obj) : Mv m (m.put w.heap.size w'.heap.size) w { w with heap := w.heap.push o } w' { w' with heap := w'.heap.push o' } #[] where
  le := h.le_put
  size := by simp
  sizeL := by simp
  aside := fun b hb _ => heap_push hb
  shut := fun a b ha _ => heap_push (h.lt ha).2
  fresh := fun a b ha hn => by
    unfold Ren.put at ha
    split at ha
    · next e => cases ha; subst e; exact ⟨Nat.le_refl _, by simp, Nat.le_refl _⟩
    · rw [hn] at ha; cases ha
  mine := fun b hb hb2 => by
    have : b = w'.heap.size := by simp at hb2; omega
    subst this
    exact ⟨w.heap.size, by simp [Ren.put], h.none (Nat.le_refl _)⟩
  tape := rfl
  drawn := Nat.add_comm _ _ ▸ rfl
  tapeL := rfl
  drawnL := Nat.le_refl _
  os := rfl
  output := rfl
  keep := fun b c t fz hb => ⟨c, by rw [heap_push (Array.getElem?_eq_some_iff.1 hb).1]; exact hb, rfl⟩
  same := fun h => ⟨by simpa using h, fun a b ha => by
    unfold Ren.put at ha
    split at ha
    · next e => cases ha; subst e; exact .inr h
    · exact .inl ha⟩
  asideL := fun b hb _ => heap_push hb
  osL := rfl
  holdL := fun b q u hb hu _ => by
    have e : ({ w with heap := w.heap.push o } : World).heap[b]? = w.heap[b]? := heap_push hb
    simpa only [World.cell?, e] using hu
  holdR := fun b b' q u _ hm _ _ => by
    have e : ({ w' with heap := w'.heap.push o' } : World).heap[b']? = w'.heap[b']? := heap_push (h.lt hm).2
    simp only [World.cell?, e]
  keepR := fun b c t fz hb => ⟨c, by rw [heap_push (Array.getElem?_eq_some_iff.1 hb).1]; exact hb, rfl⟩
  outputL := rfl
  evs := fun e he => by simp at he

theorem run_store {a : Addr} {v : Value} (h : One v) (k : Sem α) (w : World) : (Sem.store .plain a v k).run P w = match w.cell? a with
    | some _ => if w.frozen? a then .halt (.unsupported (.unsafePointer "a write to bytes that a string shares")) w else k.run P (w.setCell a v)
    | none => match w.farStore P a v false with
      | .ok (w, _) => k.run P w
      | .error h => .halt h w := by
  cases v <;> first | exact h.elim | rfl
theorem runT_store {a : Addr} {v x : Value} (h : One v) {k : Sem α} {w : World} (hx : w.cell? a = some x) (hf : w.frozen? a = false) (es : Array Event) : (Sem.store .plain a v k).runT P w es = k.runT P (w.setCell a v) (es.push ⟨.cell a, true, false⟩) := by
  cases v <;> first | exact h.elim | (simp only [Sem.runT, hx, hf]; rfl)

/-- It comes to its end, or stops short in one of these ways. -/
theorem SR.ends {m : Ren} {s : Sem α} {s' : Sem α'} (h : SR P S st A m s s') {w w' : World} (hh : HR S st m w w') : (∃ a w1, s.run P w = .ok a w1) ∨ ∃ x w1, s.run P w = .halt x w1 ∧ tame x = true := by
  induction h generalizing w w' with
  | pure h => exact .inl ⟨_, _, rfl⟩
  | halt ht => exact .inr ⟨_, _, rfl, ht⟩
  | @load m a a' k k' ha _ ih =>
    simp only [Sem.run]
    split
    · next v hv =>
      obtain ⟨v', _, hvr⟩ := hh.cell ha hv
      exact ih m (.refl _) v v' hvr hh
    · obtain ⟨o, o', h1, h2, h3⟩ := hh.obj _ _ ha.1
      refine .inr ?_
      rcases h3 with ⟨c, t, fz, c', fz', rfl, _, _⟩ | ⟨_, _, _, rfl, _⟩ <;> (simp only [World.farLoad, h1]; exact ⟨_, _, rfl, by simp [World.noCell, h1, tame]⟩)
  | @store m a a' v v' k k' ha hv _ ih =>
    by_cases one : One v
    · rw [run_store one]
      split
      · next x hx =>
        split
        · exact .inr ⟨_, _, rfl, rfl⟩
        · exact ih (hh.store ha hx hv)
      · obtain ⟨o, o', h1, h2, h3⟩ := hh.obj _ _ ha.1
        refine .inr ?_
        rcases h3 with ⟨c, t, fz, c', fz', rfl, _, _⟩ | ⟨_, _, _, rfl, _⟩ <;> (simp only [World.farStore, h1]; exact ⟨_, _, rfl, by simp [World.noCell, h1, tame]⟩)
    · refine .inr ⟨.stuck "store: not the value of one cell", w, ?_, rfl⟩
      cases v <;> first | exact absurd trivial one | rfl
  | @new m c c' t k k' hc _ ih => exact ih _ hh.le_put w.heap.size w'.heap.size (by simp [Ren.put]) (hh.new (.row hc t))
  | @choose m q k k' _ ih =>
    simp only [Sem.run]
    split
    · exact ih m (.refl _) 0 hh
    · exact ih m (.refl _) _ hh.drew
  | @program m k k' _ ih => exact ih hh
  | @room m k k' _ ih => exact ih hh
  | @ext m f k k' _ _ ih => exact ih hh
  | @newNum m a a' l k k' ha _ ih => exact ih _ hh.le_put w.heap.size w'.heap.size (by simp [Ren.put]) (hh.new (.inr ⟨a, a', l, rfl, rfl, ha⟩))
  | @getNum m r r' k k' hr2 _ ih =>
    obtain ⟨o, o', h1, h2, h3⟩ := hh.obj _ _ hr2
    simp only [Sem.run, h1]
    rcases h3 with ⟨c, t, fz, c', fz', rfl, _, _⟩ | ⟨x, x', q, rfl, rfl, hx⟩
    · exact .inr ⟨_, _, rfl, rfl⟩
    · exact ih m (.refl _) x x' q hx hh
  | @shape m r r' k k' hr2 _ ih => exact ih m (.refl _) _ hh
  | @frozen m a a' k k' hs ha _ ih => exact ih m (.refl _) _ hh
  | dead h => exact .inr (h w)

/-- ████ WHAT IS ALIKE RUNS ALIKE. ████ -/
theorem SR.run {m : Ren} {s : Sem α} {s' : Sem α'} (h : SR P S st A m s s') {w w' : World} (hh : HR S st m w w') {a : α} {w1 : World} (hr : s.run P w = .ok a w1) (ht : TA w w1 w') (es : Array Event) :
    ∃ m1 a' w1' evs, s'.runT P w' es = (.ok a' w1', es ++ evs) ∧ A m1 a a' ∧ HR S st m1 w1 w1' ∧ Mv m m1 w w1 w' w1' evs := by
  induction h generalizing w w' es with
  | @pure m a a' h =>
    simp only [Sem.run] at hr; cases hr
    exact ⟨_, _, _, #[], by simp [Sem.runT], h, hh, .refl _ _ _⟩
  | halt ht => simp [Sem.run] at hr
  | @load m a a' k k' ha _ ih =>
    simp only [Sem.run] at hr
    split at hr
    · next v hv =>
      obtain ⟨v', hv', hvr⟩ := hh.cell ha hv
      obtain ⟨m1, x', w1', evs, e1, e2, e3, e4⟩ := ih m (.refl _) v v' hvr hh hr ht (es.push ⟨.cell a', false, false⟩)
      refine ⟨m1, x', w1', #[⟨.cell a', false, false⟩] ++ evs, ?_, e2, e3, ?_⟩
      · simp only [Sem.runT, hv']
        rw [show ((Mode.plain == Mode.atomic) = false) from rfl, e1]
        simp
      · have hm : Mv m m w w w' w' #[⟨.cell a', false, false⟩] := { Mv.refl m w w' with evs := fun e he => by simp at he; subst he; exact .inl ⟨a, a', v, ha, rfl, rfl, hv, fun x => by cases x⟩ }
        exact hm.trans e4
    · next hn =>
      -- there is no such cell in the small world: it goes no further
      obtain ⟨o, o', h1, h2, h3⟩ := hh.obj _ _ ha.1
      rcases h3 with ⟨c, t, fz, c', fz', rfl, _, _⟩ | ⟨_, _, _, rfl, _⟩ <;> simp [World.farLoad, h1] at hr
  | @store m a a' v v' k k' ha hv _ ih =>
    have one : One v := by
      cases v <;> first | trivial | (simp [Sem.run] at hr)
    rw [run_store one] at hr
    have one' : One v' := by
      cases hv <;> first | trivial | exact one.elim
    split at hr
    · next x hx =>
      split at hr
      · cases hr
      · next hf =>
        have hf : w.frozen? a = false := by simpa using hf
        obtain ⟨x', hx', _⟩ := hh.cell ha hx
        obtain ⟨m1, y', w1', evs, e1, e2, e3, e4⟩ := ih (hh.store ha hx hv) hr ht (es.push ⟨.cell a', true, false⟩)
        refine ⟨m1, y', w1', #[⟨.cell a', true, false⟩] ++ evs, ?_, e2, e3, (mv_store hh ha hx hf hx' one v').trans e4⟩
        rw [runT_store one' hx' (hh.open_ ha hx hf), e1]
        simp
    · next hn =>
      obtain ⟨o, o', h1, h2, h3⟩ := hh.obj _ _ ha.1
      rcases h3 with ⟨c, t, fz, c', fz', rfl, _, _⟩ | ⟨_, _, _, rfl, _⟩ <;> simp [World.farStore, h1] at hr
  | @new m c c' t k k' hc _ ih =>
    simp only [Sem.run] at hr
    obtain ⟨m1, x', w1', evs, e1, e2, e3, e4⟩ := ih _ hh.le_put w.heap.size w'.heap.size (by simp [Ren.put]) (hh.new (.row hc t)) hr ht es
    exact ⟨m1, x', w1', #[] ++ evs, by simp only [Sem.runT]; rw [e1]; simp, e2, e3, (mv_new hh _ _).trans e4⟩
  | @choose m q k k' _ ih =>
    simp only [Sem.run] at hr
    split at hr
    · next hq =>
      obtain ⟨m1, x', w1', evs, e1, e2, e3, e4⟩ := ih m (.refl _) 0 hh hr ht es
      exact ⟨m1, x', w1', evs, by simp only [Sem.runT, if_pos hq]; exact e1, e2, e3, e4⟩
    · next hq =>
      obtain ⟨m1, x', w1', evs, e1, e2, e3, e4⟩ := ih m (.refl _) _ hh.drew hr (fun n q' hn => by
        have := ht (n + 1) q' (by simp at hn; omega)
        simpa [Nat.add_assoc, Nat.add_comm 1 n] using this) es
      have h0 := ht 0 q (by have := e4.drawnL; simp at this; omega)
      simp only [Nat.add_zero] at h0
      exact ⟨m1, x', w1', #[] ++ evs, by simp only [Sem.runT, if_neg hq]; rw [← h0, e1]; simp, e2, e3, mv_drew.trans e4⟩
  | @program m k k' _ ih =>
    simp only [Sem.run] at hr
    obtain ⟨m1, x', w1', evs, e1, e2, e3, e4⟩ := ih hh hr ht es
    exact ⟨m1, x', w1', evs, by simp only [Sem.runT]; exact e1, e2, e3, e4⟩
  | @room m k k' _ ih =>
    simp only [Sem.run] at hr
    obtain ⟨m1, x', w1', evs, e1, e2, e3, e4⟩ := ih hh hr ht (es.push ⟨.mark .noRoom, false, true⟩)
    have hm : Mv m m w w w' w' #[⟨.mark .noRoom, false, true⟩] := { Mv.refl m w w' with evs := fun e he => by simp at he; subst he; exact .inr (.inl rfl) }
    exact ⟨m1, x', w1', _, by simp only [Sem.runT]; rw [e1]; simp, e2, e3, hm.trans e4⟩
  | @ext m f k k' _ _ ih =>
    simp only [Sem.run] at hr
    obtain ⟨m1, x', w1', evs, e1, e2, e3, e4⟩ := ih hh hr ht (es.push ⟨.mark (.extern f), false, true⟩)
    have hm : Mv m m w w w' w' #[⟨.mark (.extern f), false, true⟩] := { Mv.refl m w w' with evs := fun e he => by simp at he; subst he; exact .inr (.inr (.inl ⟨f, rfl⟩)) }
    exact ⟨m1, x', w1', _, by simp only [Sem.runT]; rw [e1]; simp, e2, e3, hm.trans e4⟩
  | @newNum m a a' l k k' ha _ ih =>
    simp only [Sem.run] at hr
    obtain ⟨m1, x', w1', evs, e1, e2, e3, e4⟩ := ih _ hh.le_put w.heap.size w'.heap.size (by simp [Ren.put]) (hh.new (.inr ⟨a, a', l, rfl, rfl, ha⟩)) hr ht es
    exact ⟨m1, x', w1', #[] ++ evs, by simp only [Sem.runT]; rw [e1]; simp, e2, e3, (mv_new hh _ _).trans e4⟩
  | @getNum m r r' k k' hr2 _ ih =>
    simp only [Sem.run] at hr
    obtain ⟨o, o', h1, h2, h3⟩ := hh.obj _ _ hr2
    rcases h3 with ⟨c, t, fz, c', fz', rfl, _, _⟩ | ⟨x, x', q, rfl, rfl, hx⟩
    · simp [h1] at hr
    · simp only [h1] at hr
      obtain ⟨m1, y', w1', evs, e1, e2, e3, e4⟩ := ih m (.refl _) x x' q hx hh hr ht (es.push ⟨.obj r', false, false⟩)
      have hm : Mv m m w w w' w' #[⟨.obj r', false, false⟩] := { Mv.refl m w w' with evs := fun e he => by simp at he; subst he; exact .inr (.inr (.inr ⟨r, r', hr2, rfl⟩)) }
      exact ⟨m1, y', w1', _, by simp only [Sem.runT, h2]; rw [show (Obj.number x' q).isChan = false from rfl, e1]; simp, e2, e3, hm.trans e4⟩
  | @shape m r r' k k' hr2 _ ih =>
    simp only [Sem.run] at hr
    have e : w'.shape? r' = w.shape? r := by
      obtain ⟨o, o', h1, h2, h3⟩ := hh.obj _ _ hr2
      rcases h3 with ⟨c, t, fz, c', fz', rfl, rfl, h⟩ | ⟨_, _, _, rfl, rfl, _⟩
      · simp [World.shape?, h1, h2, h.size]
      · simp [World.shape?, h1, h2]
    obtain ⟨m1, x', w1', evs, e1, e2, e3, e4⟩ := ih m (.refl _) _ hh hr ht es
    exact ⟨m1, x', w1', evs, by simp only [Sem.runT, e]; exact e1, e2, e3, e4⟩
  | @frozen m a a' k k' hs ha _ ih =>
    simp only [Sem.run] at hr
    have e : w'.frozen? a' = w.frozen? a := by
      obtain ⟨o, o', h1, h2, h3⟩ := hh.obj _ _ ha.1
      rcases h3 with ⟨c, t, fz, c', fz', rfl, rfl, h⟩ | ⟨_, _, _, rfl, rfl, _⟩
      · simp [World.frozen?, h1, h2, h.strict hs, ha.2.1]
      · simp [World.frozen?, h1, h2]
    obtain ⟨m1, x', w1', evs, e1, e2, e3, e4⟩ := ih m (.refl _) _ hh hr ht es
    exact ⟨m1, x', w1', evs, by simp only [Sem.runT, e]; exact e1, e2, e3, e4⟩
  | dead h => obtain ⟨x, w2, e, _⟩ := h w; rw [e] at hr; cases hr
/-- What it yields is of the relation. -/
theorem SR.yields {m : Ren} {s : Sem α} {s' : Sem α'} (h : SR P S st A m s s') {w w' : World} (hh : HR S st m w w') {a : α} {w1 : World} (hr : s.run P w = .ok a w1) : ∃ m1 a', A m1 a a' := by
  have e : HR S st m w { w' with tape := w.tape, drawn := w.drawn } := ⟨hh.obj, hh.inj⟩
  obtain ⟨m1, a', _, _, _, h2, _⟩ := h.run e hr (fun _ _ _ => rfl) #[]
  exact ⟨m1, a', h2⟩
/-- The world with another tape, read from another place on. -/
def World.on (w : World) (T : Nat → Question → Nat) (d : Nat) : World := { w with tape := T, drawn := d }
/-- It goes by what it draws alone: where another tape holds the same answers, the same comes of it. -/
theorem SR.local_ {m : Ren} {s : Sem α} {s' : Sem α'} (h : SR P S st A m s s') {w w' : World} (hh : HR S st m w w') {a : α} {w1 : World} (hr : s.run P w = .ok a w1) (T : Nat → Question → Nat) (d : Nat) :
    w.drawn ≤ w1.drawn ∧ ((∀ n q, w.drawn + n < w1.drawn → T (d + n) q = w.tape (w.drawn + n) q) → s.run P (World.on w T d) = .ok a (World.on w1 T (d + (w1.drawn - w.drawn)))) := by
  induction h generalizing w w' d with
  | pure h => simp only [Sem.run] at hr; cases hr; exact ⟨Nat.le_refl _, fun _ => by simp [Sem.run]⟩
  | halt ht => simp [Sem.run] at hr
  | @load m a a' k k' ha _ ih =>
    simp only [Sem.run] at hr
    split at hr
    · next v hv =>
      obtain ⟨v', _, hvr⟩ := hh.cell ha hv
      have hv2 : (World.on w T d).cell? a = some v := hv
      refine ⟨(ih m (.refl _) v v' hvr hh hr d).1, fun hT => ?_⟩
      simp only [Sem.run, hv2]
      exact (ih m (.refl _) v v' hvr hh hr d).2 hT
    · obtain ⟨o, o', h1, h2, h3⟩ := hh.obj _ _ ha.1
      rcases h3 with ⟨c, t, fz, c', fz', rfl, _, _⟩ | ⟨_, _, _, rfl, _⟩ <;> simp [World.farLoad, h1] at hr
  | @store m a a' v v' k k' ha hv _ ih =>
    have one : One v := by
      cases v <;> first | trivial | (simp [Sem.run] at hr)
    rw [run_store one] at hr
    split at hr
    · next x hx =>
      split at hr
      · cases hr
      · next hf =>
        have hx2 : (World.on w T d).cell? a = some x := hx
        have hf2 : (World.on w T d).frozen? a = w.frozen? a := rfl
        have := ih (hh.store ha hx hv) hr d
        refine ⟨this.1, fun hT => ?_⟩
        rw [run_store one, hx2]
        simp only [hf2, if_neg hf]
        exact this.2 hT
    · obtain ⟨o, o', h1, h2, h3⟩ := hh.obj _ _ ha.1
      rcases h3 with ⟨c, t, fz, c', fz', rfl, _, _⟩ | ⟨_, _, _, rfl, _⟩ <;> simp [World.farStore, h1] at hr
  | @new m c c' t k k' hc _ ih =>
    simp only [Sem.run] at hr
    exact ih _ hh.le_put w.heap.size w'.heap.size (by simp [Ren.put]) (hh.new (.row hc t)) hr d
  | @choose m q k k' _ ih =>
    simp only [Sem.run] at hr
    split at hr
    · next hq =>
      have := ih m (.refl _) 0 hh hr d
      exact ⟨this.1, fun hT => by simp only [Sem.run, if_pos hq]; exact this.2 hT⟩
    · next hq =>
      have := ih m (.refl _) _ hh.drew hr (d + 1)
      have h1 : w.drawn + 1 ≤ w1.drawn := this.1
      refine ⟨by omega, fun hT => ?_⟩
      have h0 := hT 0 q (by omega)
      simp only [Nat.add_zero] at h0
      have h2 := this.2 fun n q' hn => by
        have := hT (n + 1) q' (by simp at hn; omega)
        simpa [Nat.add_assoc, Nat.add_comm 1 n] using this
      simp only [Sem.run, if_neg hq]
      have e : d + 1 + (w1.drawn - (w.drawn + 1)) = d + (w1.drawn - w.drawn) := by omega
      simp only [e] at h2
      show (k (q.cut (T d q))).run P _ = _
      rw [h0]
      exact h2
  | @program m k k' _ ih => exact ih hh hr d
  | @room m k k' _ ih => exact ih hh hr d
  | @ext m f k k' _ _ ih => exact ih hh hr d
  | @newNum m a a' l k k' ha _ ih => exact ih _ hh.le_put w.heap.size w'.heap.size (by simp [Ren.put]) (hh.new (.inr ⟨a, a', l, rfl, rfl, ha⟩)) hr d
  | @getNum m r r' k k' hr2 _ ih =>
    simp only [Sem.run] at hr
    obtain ⟨o, o', h1, h2, h3⟩ := hh.obj _ _ hr2
    rcases h3 with ⟨c, t, fz, c', fz', rfl, _, _⟩ | ⟨x, x', q, rfl, rfl, hx⟩
    · simp [h1] at hr
    · simp only [h1] at hr
      have := ih m (.refl _) x x' q hx hh hr d
      have h1' : (World.on w T d).heap[r]? = some (.number x q) := h1
      exact ⟨this.1, fun hT => by simp only [Sem.run, h1']; exact this.2 hT⟩
  | @shape m r r' k k' hr2 _ ih => exact ih m (.refl _) _ hh hr d
  | @frozen m a a' k k' hs ha _ ih => exact ih m (.refl _) _ hh hr d
  | dead h => obtain ⟨x, w2, e, _⟩ := h w; rw [e] at hr; cases hr
end
end Sim
end Go.Proofs.YtbkjjknlphlhlaaDoor
