/- Operations that are alike, one by one. -/
import Derived.Test.YtbkjjknlphlhlaaDoorZ13
namespace Go.Proofs.YtbkjjknlphlhlaaDoor
namespace Sim
set_option maxRecDepth 100000

abbrev EQ {α : Type} : Ren → α → α → Prop := fun _ a b => a = b
abbrev UU : Ren → Unit → Unit → Prop := fun _ _ _ => True

/-- No address, no function: at most n deep. -/
def dryB : Nat → Value → Bool
  | 0, _ => false
  | _ + 1, .bool _ | _ + 1, .int .. | _ + 1, .string _ | _ + 1, .pointer none | _ + 1, .slice none .. | _ + 1, .nilFunc | _ + 1, .nilIface | _ + 1, .chan none => true
  | n + 1, .agg c | n + 1, .tuple c => c.all (dryB n)
  | n + 1, .iface _ v => dryB n v
  | _ + 1, _ => false

section
variable {P : Program} {S : FuncId → Bool} {st : Bool} {m : Ren}
theorem VR.dry : ∀ {n : Nat} {v : Value}, dryB n v = true → VR S m v v
  | 0, v, h => by simp [dryB] at h
  | n + 1, .bool b, _ => .bool b
  | n + 1, .int k b, _ => .int k b
  | n + 1, .string b, _ => .string b
  | n + 1, .pointer none, _ => .nilp
  | n + 1, .slice none l c, _ => .nils l c
  | n + 1, .nilFunc, _ => .nilFunc
  | n + 1, .nilIface, _ => .nilIface
  | n + 1, .chan none, _ => .chan _
  | n + 1, .iface t v, h => .iface t (VR.dry (n := n) (by simpa [dryB] using h))
  | n + 1, .agg c, h => .agg rfl fun i hi => by
      have := Array.all_eq_true.1 (by simpa only [dryB] using h) i hi
      simpa [Array.getD, hi] using VR.dry (n := n) this
  | n + 1, .tuple c, h => .tuple rfl fun i hi => by
      have := Array.all_eq_true.1 (by simpa only [dryB] using h) i hi
      simpa [Array.getD, hi] using VR.dry (n := n) this

theorem VR.monoA : Mono (VR S) := fun _ _ _ _ l h => h.mono l
theorem sr_stuck {α α' : Type} {A : Ren → α → α' → Prop} {w : String} {s' : Sem α'} : SR P S st A m (stuck w) s' := .halt
theorem sr_unsupported {α α' : Type} {A : Ren → α → α' → Prop} {u : Unsupported} {s' : Sem α'} (hu : tame (.unsupported u) = true) : SR P S st A m (unsupported u) s' := .halt hu
theorem sr_program : SR P S st (fun _ a b => a = P ∧ b = P) m program program := .program (.pure ⟨rfl, rfl⟩)
theorem sr_prog {α α' : Type} {A : Ren → α → α' → Prop} {f : Program → Sem α} {f' : Program → Sem α'} (h : SR P S st A m (f P) (f' P)) : SR P S st A m (program >>= f) (program >>= f') := .program h
theorem sr_typeInfo (t : TypeId) : SR P S st (fun _ a b => a = b ∧ P.info? t = some a) m (typeInfo t) (typeInfo t) := sr_prog (by
  cases h : P.info? t with
  | none => exact .halt
  | some i => exact .pure ⟨rfl, rfl⟩)
theorem sr_underlying (t : TypeId) : SR P S st (fun _ a b => a = b ∧ P.underlying t = some a) m (underlying t) (underlying t) := sr_prog (by
  cases h : P.underlying t with
  | none => exact .halt
  | some i => exact .pure ⟨rfl, rfl⟩)
theorem sr_sizeOf (t : TypeId) : SR P S st (fun _ a b => a = b ∧ ∃ i, P.info? t = some i ∧ a = i.size) m (sizeOf t) (sizeOf t) := (sr_typeInfo t).bind fun _ _ a b h => by
  obtain ⟨rfl, h⟩ := h
  exact .pure ⟨rfl, a, h, rfl⟩
theorem sr_isAgg (t : TypeId) : SR P S st EQ m (isAgg t) (isAgg t) := (sr_underlying t).bind fun m' _ a b h => by
  obtain ⟨rfl, _⟩ := h
  cases a <;> exact .pure rfl
def zdry (P : Program) (t : TypeId) : Bool := match P.info? t with
  | some i => (match i.zero with | some v => dryB 4 v | none => false)
  | none => false
theorem sr_zero {t : TypeId} (h : zdry P t = true) : SR P S st (VR S) m (zeroValue t) (zeroValue t) := (sr_typeInfo t).bind fun _ _ a b e => by
  obtain ⟨rfl, e⟩ := e
  unfold zdry at h
  rw [e] at h
  cases hz : a.zero with
  | none => exact .halt
  | some v => simp only [hz] at h; exact .pure (.dry h)
theorem sr_load {a a' : Addr} (h : AR m a a') : SR P S st (VR S) m (load a) (load a') := .load h fun _ _ _ _ hv => .pure hv
theorem sr_store {a a' : Addr} {v v' : Value} (h : AR m a a') (hv : VR S m v v') : SR P S st UU m (store a v) (store a' v') := .store h hv (.pure trivial)
theorem sr_loadCellsFrom : ∀ (n i : Nat) {m : Ren} {a a' : Addr} {c c' : Array Value}, AR m a a' → VRs S m c c' → SR P S st (VRs S) m (loadCellsFrom a i n c) (loadCellsFrom a' i n c')
  | 0, _, _, _, _, _, _, _, hc => .pure hc
  | n + 1, i, _, _, _, _, _, h, hc => (sr_load (h.add i)).bind fun _ l _ _ hv => sr_loadCellsFrom n (i + 1) (h.mono l) ((hc.mono l).push hv)
theorem sr_loadCells {a a' : Addr} (n : Nat) (h : AR m a a') : SR P S st (VRs S) m (loadCells a n) (loadCells a' n) := sr_loadCellsFrom n 0 h .empty
theorem sr_loadVar {a a' : Addr} (t : TypeId) (h : AR m a a') : SR P S st (VR S) m (loadVar t a) (loadVar t a') := (sr_isAgg t).bind fun m1 l1 b b' e => by
  obtain rfl := e
  cases b
  · exact sr_load (h.mono l1)
  · exact (sr_sizeOf t).bind fun m2 l2 n n' e => by
      obtain ⟨rfl, _⟩ := e
      exact (sr_loadCells n ((h.mono l1).mono l2)).bind fun m3 l3 c c' hc => .pure (.agg hc.1 hc.2)
theorem sr_storeCells : ∀ (l l' : List Value) (i : Nat) {m : Ren} {a a' : Addr}, AR m a a' → VRs S m l.toArray l'.toArray → SR P S st UU m (storeCells a l i) (storeCells a' l' i)
  | [], [], _, _, _, _, _, _ => .pure trivial
  | [], v' :: l', _, _, _, _, _, hl => by have := hl.1; simp at this
  | v :: l, [], _, _, _, _, _, hl => by have := hl.1; simp at this
  | v :: l, v' :: l', i, _, _, _, h, hl => by
    have h0 := hl.2 0 (by simp)
    have ht : VRs S _ l.toArray l'.toArray := ⟨by have := hl.1; simpa using this, fun j hj => by
      have := hl.2 (j + 1) (by simpa using hj)
      simpa [Array.getD_eq_getD_getElem?] using this⟩
    exact (sr_store (h.add i) (by simpa using h0)).bind fun _ lm _ _ _ => sr_storeCells l l' (i + 1) (h.mono lm) (ht.mono lm)
theorem VRs.toList {c c' : Array Value} (h : VRs S m c c') : VRs S m c.toList.toArray c'.toList.toArray := by simpa using h
theorem sr_storeVar {a a' : Addr} {v v' : Value} (t : TypeId) (h : AR m a a') (hv : VR S m v v') : SR P S st UU m (storeVar t a v) (storeVar t a' v') := (sr_sizeOf t).bind fun m1 l1 n n' e => by
  obtain ⟨rfl, _⟩ := e
  have hc := hv.cells
  rw [← hc.1]
  split
  · exact .halt
  · exact sr_storeCells _ _ 0 (h.mono l1) (hc.mono l1).toList
theorem sr_newRow {c c' : Array Value} (t : TypeId) (h : VRs S m c c') : SR P S st AR m (newRow t c) (newRow t c') := .new h fun _ _ _ _ hb => .pure ⟨hb, rfl, rfl⟩
theorem sr_newVar {v v' : Value} (t : TypeId) (h : VR S m v v') : SR P S st AR m (newVar t v) (newVar t v') := sr_newRow t h.cells
theorem sr_part {c c' : Array Value} (t : TypeId) (off : Nat) (h : VRs S m c c') : SR P S st (VR S) m (part t c off) (part t c' off) := (sr_isAgg t).bind fun m1 l1 b b' e => by
  obtain rfl := e
  cases b
  · show SR P S st (VR S) m1 (match c[off]? with | some v => pure v | none => stuck _) (match c'[off]? with | some v => pure v | none => stuck _)
    cases hx : c[off]? with
    | none => exact .halt
    | some v =>
      obtain ⟨v', h1, h2⟩ := h.get? hx
      rw [h1]; exact .pure (h2.mono l1)
  · exact (sr_sizeOf t).bind fun m2 l2 n n' e => by
      obtain ⟨rfl, _⟩ := e
      have := ((h.mono l1).mono l2).extract off (off + n)
      exact .pure (.agg this.1 this.2)
theorem sr_asIntOf {v v' : Value} (h : VR S m v v') : SR P S st EQ m (asIntOf v) (asIntOf v') := by
  cases h <;> first | exact .pure rfl | exact .halt
theorem sr_asInt {v v' : Value} (h : VR S m v v') : SR P S st EQ m (asInt v) (asInt v') := (sr_asIntOf h).bind fun _ _ a b e => by obtain rfl := e; exact .pure rfl
theorem sr_asBool {v v' : Value} (h : VR S m v v') : SR P S st EQ m (asBool v) (asBool v') := by
  cases h <;> first | exact .pure rfl | exact .halt
theorem sr_sureAddr {v v' : Value} (h : VR S m v v') : SR P S st AR m (Instr.sureAddr v) (Instr.sureAddr v') := by
  cases h <;> first | exact .halt | (rename_i h; exact .pure h)
theorem sr_goPanic {α α' : Type} {A : Ren → α → α' → Prop} {v : Value} {s' : Sem α'} : SR P S st A m (goPanic v) s' := .halt
theorem sr_choose (q : Question) : SR P S st EQ m (choose q) (choose q) := .choose fun _ _ _ => .pure rfl
theorem sr_bounds {α α' : Type} {A : Ren → α → α' → Prop} (x y : Int) (b : Bool) (c : BoundsCode) : SR P S st A m (runtimePanic (.bounds x y b c)) (runtimePanic (.bounds x y b c)) := .program .halt
theorem sr_boundsPanic {α α' : Type} {A : Ren → α → α' → Prop} (k : IntKind) (x y : Int) (c : BoundsCode) : SR P S st A m (boundsPanic k x y c) (boundsPanic k x y c) := by
  unfold boundsPanic
  dsimp only
  split
  · exact SR.bind (A := EQ) (SR.bind (sr_choose _) fun _ _ a b e => by obtain rfl := e; exact .pure rfl) fun _ _ a b e => by obtain rfl := e; exact sr_bounds _ _ _ _
  · exact sr_bounds _ _ _ _
end
end Sim
end Go.Proofs.YtbkjjknlphlhlaaDoor
namespace Go.Proofs.YtbkjjknlphlhlaaDoor
namespace Sim
set_option maxRecDepth 100000

section
variable {P : Program} {S : FuncId → Bool} {st : Bool} {m : Ren}
/-! ### addresses that are reckoned with -/
theorem AR.eta {a a' : Addr} (h : AR m a a') : a' = { a with block := a'.block } := by
  obtain ⟨_, h2, h3⟩ := h
  cases a; cases a'; simp_all
theorem sr_shape {r r' : Nat} (h : m r = some r') : SR P S st EQ m (shape r) (shape r') := .shape h fun _ _ _ => .pure rfl
theorem sr_numberAt {r r' : Nat} (h : m r = some r') : SR P S st (fun m a b => (a = none ∧ b = none) ∨ ∃ x x' l, a = some (x, l) ∧ b = some (x', l) ∧ AR m x x') m (numberAt r) (numberAt r') := (sr_shape h).bind fun m1 l1 a b e => by
  obtain rfl := e
  try dsimp only
  split
  · exact .pure (.inl ⟨rfl, rfl⟩)
  · exact .getNum (l1.app _ _ h) fun m2 _ x x' l hx => .pure (.inr ⟨x, x', l, rfl, rfl, hx⟩)
theorem sr_viewAt {α α' : Type} {A : Ren → α → α' → Prop} {r r' : Nat} (h : m r = some r') {k : Option (Addr × TypeId) → Sem α} {k' : Option (Addr × TypeId) → Sem α'} (hk : ∀ m', Le m m' → SR P S st A m' (k none) (k' none)) : SR P S st A m (viewAt r >>= k) (viewAt r' >>= k') := by
  refine SR.bind (A := fun _ a b => a = none ∧ b = none) ?_ fun m1 l1 a b e => by obtain ⟨rfl, rfl⟩ := e; exact hk m1 l1
  refine (sr_shape h).bind fun m1 l1 a b e => ?_
  obtain rfl := e
  try dsimp only
  split
  · exact .pure ⟨rfl, rfl⟩
  · exact .getNum (l1.app _ _ h) fun m2 _ x x' l hx => .pure ⟨rfl, rfl⟩
theorem sr_behind {a a' : Addr} (h : AR m a a') : SR P S st (fun m x y => AR m x.1 y.1 ∧ x.2 = y.2) m (behindNumber a) (behindNumber a') := (sr_numberAt h.1).bind fun m1 l1 x y e => by
  rcases e with ⟨rfl, rfl⟩ | ⟨x, x', l, rfl, rfl, hx⟩
  · exact .pure ⟨h.mono l1, rfl⟩
  · exact .pure ⟨hx, rfl⟩
theorem sr_asNumber {a a' : Addr} (h : AR m a a') (l : Bool) : SR P S st (VR S) m (asNumber a l) (asNumber a' l) := .newNum h fun _ _ _ _ hb => .pure (.ptr ⟨hb, rfl, rfl⟩)
/-- Two pointers. -/
def PP (m : Ren) (v v' : Value) : Prop := ∃ a a', v = .pointer (some a) ∧ v' = .pointer (some a') ∧ AR m a a'
theorem SR.imp {α α' : Type} {A B : Ren → α → α' → Prop} {s : Sem α} {s' : Sem α'} (h : SR P S st A m s s') (hk : ∀ m a a', A m a a' → B m a a') : SR P S st B m s s' := by
  induction h with
  | pure h => exact .pure (hk _ _ _ h)
  | halt ht => exact .halt ht
  | load ha _ ih => exact .load ha fun m2 l2 v v' hv => ih m2 l2 v v' hv
  | store ha hv _ ih => exact .store ha hv ih
  | new hc _ ih => exact .new hc fun m2 l2 b b' hb => ih m2 l2 b b' hb
  | choose _ ih => exact .choose fun m2 l2 n => ih m2 l2 n
  | program _ ih => exact .program ih
  | room _ ih => exact .room ih
  | ext hf _ ih => exact .ext hf ih
  | newNum ha _ ih => exact .newNum ha fun m2 l2 b b' hb => ih m2 l2 b b' hb
  | getNum hr _ ih => exact .getNum hr fun m2 l2 a a' q ha => ih m2 l2 a a' q ha
  | shape hr _ ih => exact .shape hr fun m2 l2 x => ih m2 l2 x
  | frozen hs ha _ ih => exact .frozen hs ha fun m2 l2 x => ih m2 l2 x
  | dead h => exact .dead h
theorem sr_unsafeAddP {x x' y y' : Value} (hx : VR S m x x') (hy : VR S m y y') (t : TypeId) : SR P S st PP m (Builtin.unsafeAdd_ #[] t #[x, y]) (Builtin.unsafeAdd_ #[] t #[x', y']) := by
  have key : ∀ (a a' : Option Addr), VR S m (.pointer a) (.pointer a') → SR P S st PP m (Builtin.unsafeAdd_ #[] t #[.pointer a, y]) (Builtin.unsafeAdd_ #[] t #[.pointer a', y']) := by
    intro a a' h
    refine (sr_asInt hy).bind fun m1 l1 n n' e => ?_
    obtain rfl := e
    try dsimp only
    cases h with
    | nilp =>
      split
      · exact .halt
      · split
        · exact .halt
        · exact .halt
    | ptr h =>
      split
      · refine sr_viewAt (l1.app _ _ h.1) fun m2 l2 => ?_
        exact .pure ⟨_, _, rfl, rfl, (h.mono l1).mono l2⟩
      · split
        · exact .halt
        · refine (sr_shape (l1.app _ _ h.1)).bind fun m2 l2 s s' e => ?_
          obtain rfl := e
          try dsimp only
          split
          · refine sr_prog ?_
            rw [h.2.1]
            split
            · have := (h.mono l1).mono l2
              exact .pure ⟨_, _, rfl, rfl, this.1, rfl, this.2.2⟩
            · exact .halt
          · exact .halt
  cases hx with
  | nilp => exact key _ _ .nilp
  | ptr h => exact key _ _ (.ptr h)
  | _ => exact .halt

theorem sr_unsafeAdd {x x' y y' : Value} (hx : VR S m x x') (hy : VR S m y y') (t : TypeId) : SR P S st (VR S) m (Builtin.unsafeAdd_ #[] t #[x, y]) (Builtin.unsafeAdd_ #[] t #[x', y']) := (sr_unsafeAddP hx hy t).imp fun _ _ _ ⟨_, _, e1, e2, h⟩ => e1 ▸ e2 ▸ .ptr h

/-- The package variables stand for themselves. -/
structure Gl (P : Program) (m : Ren) : Prop where
  own : ∀ g, g < P.globals.size → m g = some g
  inj : Inj m
theorem Gl.mono {m m' : Ren} (h : Gl P m) (l : Le m m') : Gl P m' := ⟨fun g hg => l.app _ _ (h.own g hg), l.inj h.inj⟩
theorem sr_byteOf {a a' : Addr} (h : AR m a a') : SR P S st EQ m (byteOf a) (byteOf a') := by
  unfold byteOf
  rw [h.2.2]
  split
  · exact .pure rfl
  · refine sr_prog ?_
    unfold noView
    refine SR.bind (A := UU) (sr_viewAt h.1 fun m2 l2 => .pure trivial) fun m1 l1 _ _ _ => ?_
    refine (sr_shape (l1.app _ _ h.1)).bind fun m2 l2 s s' e => ?_
    obtain rfl := e
    rw [h.2.1]
    split
    · dsimp only
      split
      · exact .pure rfl
      · split
        · exact .pure rfl
        · exact .halt
    · exact .halt
theorem sr_twoPlaces (hG : Gl P m) {a a' b b' : Addr} (ha : AR m a a') (hb : AR m b b') : SR P S st EQ m (Op.twoPlaces a b) (Op.twoPlaces a' b') := by
  unfold Op.twoPlaces
  refine sr_prog ?_
  by_cases hc : (a.block != b.block || decide (a.block ≥ P.globals.size)) = true
  · rw [if_pos hc]; exact .halt
  · rw [if_neg hc]
    simp only [Bool.or_eq_true, bne_iff_ne, ne_eq, decide_eq_true_eq, not_or, Decidable.not_not, Nat.not_le] at hc
    have e1 : a'.block = a.block := by have := ha.1; rw [hG.own _ (by omega)] at this; exact (Option.some.inj this).symm
    have e2 : b'.block = b.block := by have := hb.1; rw [hG.own _ (by omega)] at this; exact (Option.some.inj this).symm
    rw [if_neg (by simp [e1, e2, hc.1]; omega)]
    exact (sr_byteOf ha).bind fun m1 l1 x x' e => by
      obtain rfl := e
      exact (sr_byteOf (hb.mono l1)).bind fun m2 l2 y y' e => by obtain rfl := e; exact .pure rfl
theorem sr_addrSub (hG : Gl P m) (k : IntKind) {a a' b b' : Addr} (ha : AR m a a') (hb : AR m b b') : SR P S st (VR S) m (Op.addrSub k a b) (Op.addrSub k a' b') := (sr_twoPlaces hG ha hb).bind fun _ _ x y e => by obtain rfl := e; exact .pure (.int _ _)
theorem sr_addrCmp (hG : Gl P m) (op : BinOp) {a a' b b' : Addr} (ha : AR m a a') (hb : AR m b b') : SR P S st (VR S) m (Op.addrCmp op a b) (Op.addrCmp op a' b') := (sr_twoPlaces hG ha hb).bind fun _ _ x y e => by
  obtain rfl := e
  cases op <;> first | exact .pure (.bool _) | exact .halt
theorem sr_addrMod (k : IntKind) {a a' : Addr} (ha : AR m a a') (n : Int) : SR P S st (VR S) m (Op.addrMod k a n) (Op.addrMod k a' n) := by
  unfold Op.addrMod
  refine (sr_shape ha.1).bind fun m1 l1 s s' e => ?_
  obtain rfl := e
  split
  · refine (sr_typeInfo _).bind fun m2 l2 i i' e => ?_
    obtain ⟨rfl, _⟩ := e
    dsimp only
    split
    · exact .halt
    · exact (sr_byteOf ((ha.mono l1).mono l2)).bind fun _ _ x y e => by obtain rfl := e; exact .pure (.int _ _)
  · exact .halt
theorem sr_movedNumber {x x' y y' : Value} (hx : VR S m x x') (hy : VR S m y y') (t : TypeId) : SR P S st (VR S) m (movedNumber t x y) (movedNumber t x' y') := by
  unfold movedNumber
  refine (sr_underlying t).bind fun m1 l1 d d' e => ?_
  obtain ⟨rfl, _⟩ := e
  dsimp only
  split
  · exact .halt
  · have hx1 := hx.mono l1
    have hy1 := hy.mono l1
    cases hx1 with
    | ptr h =>
      refine (sr_behind h).bind fun m2 l2 p p' e => ?_
      obtain ⟨p1, p2⟩ := p; obtain ⟨q1, q2⟩ := p'
      obtain ⟨e1, e2⟩ := e
      dsimp only at e1 e2 ⊢
      subst e2
      refine (sr_unsafeAddP (.ptr e1) (hy1.mono l2) t).bind fun m3 l3 v v' ⟨_, _, x1, x2, h⟩ => ?_
      subst x1; subst x2
      exact sr_asNumber h _
    | nilp => exact sr_unsafeAdd .nilp hy1 t
    | bool b => exact sr_unsafeAdd (.bool b) hy1 t
    | int k n => exact sr_unsafeAdd (.int k n) hy1 t
    | string b => exact sr_unsafeAdd (.string b) hy1 t
    | nils l c => exact sr_unsafeAdd (.nils l c) hy1 t
    | slice l c h => exact sr_unsafeAdd (.slice l c h) hy1 t
    | @ghost a => exact sr_unsafeAdd (.ghost (a := a)) hy1 t
    | chan r => exact sr_unsafeAdd (.chan r) hy1 t
    | func h1 h2 h3 => exact sr_unsafeAdd (.func h1 h2 h3) hy1 t
    | nilFunc => exact sr_unsafeAdd .nilFunc hy1 t
    | nilMap => exact sr_unsafeAdd .nilMap hy1 t
    | jfunc f a c => exact sr_unsafeAdd (.jfunc f a c) hy1 t
    | nilIface => exact sr_unsafeAdd .nilIface hy1 t
    | iface t' h => exact sr_unsafeAdd (.iface t' h) hy1 t
    | agg h1 h2 => exact sr_unsafeAdd (.agg h1 h2) hy1 t
    | tuple h1 h2 => exact sr_unsafeAdd (.tuple h1 h2) hy1 t
    | hole _ => exact .halt
theorem sr_movedPointer {x x' y y' : Value} (hx : VR S m x x') (hy : VR S m y y') (t : TypeId) : SR P S st (VR S) m (movedPointer t x y) (movedPointer t x' y') := by
  unfold movedPointer
  cases hx with
  | ptr h =>
    refine (sr_numberAt h.1).bind fun m1 l1 a b e => ?_
    rcases e with ⟨rfl, rfl⟩ | ⟨x, x', l, rfl, rfl, _⟩
    · exact sr_unsafeAdd ((VR.ptr h).mono l1) (hy.mono l1) t
    · exact .halt
  | nilp => exact sr_unsafeAdd .nilp hy t
  | bool b => exact sr_unsafeAdd (.bool b) hy t
  | int k n => exact sr_unsafeAdd (.int k n) hy t
  | string b => exact sr_unsafeAdd (.string b) hy t
  | nils l c => exact sr_unsafeAdd (.nils l c) hy t
  | slice l c h => exact sr_unsafeAdd (.slice l c h) hy t
  | @ghost a => exact sr_unsafeAdd (.ghost (a := a)) hy t
  | chan r => exact sr_unsafeAdd (.chan r) hy t
  | func h1 h2 h3 => exact sr_unsafeAdd (.func h1 h2 h3) hy t
  | nilFunc => exact sr_unsafeAdd .nilFunc hy t
  | nilMap => exact sr_unsafeAdd .nilMap hy t
  | jfunc f a c => exact sr_unsafeAdd (.jfunc f a c) hy t
  | nilIface => exact sr_unsafeAdd .nilIface hy t
  | iface t' h => exact sr_unsafeAdd (.iface t' h) hy t
  | agg h1 h2 => exact sr_unsafeAdd (.agg h1 h2) hy t
  | tuple h1 h2 => exact sr_unsafeAdd (.tuple h1 h2) hy t
  | hole _ => exact .halt
end
end Sim
end Go.Proofs.YtbkjjknlphlhlaaDoor
