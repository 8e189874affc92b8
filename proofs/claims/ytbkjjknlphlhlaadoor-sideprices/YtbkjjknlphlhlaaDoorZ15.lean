/- What an operation does is alike where its operands are, on: operators, places, slices. -/
import Derived.Test.YtbkjjknlphlhlaaDoorZ14
namespace Go.Proofs.YtbkjjknlphlhlaaDoor
namespace Sim
set_option maxRecDepth 100000

section
variable {P : Program} {S : FuncId → Bool} {st : Bool} {m : Ren}
theorem sr_intArith (op : BinOp) (k : IntKind) (a b : Int) : SR P S st (VR S) m (Op.intArith op k a b) (Op.intArith op k a b) := by
  cases op <;> first | exact .pure (.int _ _) | exact .halt
theorem sr_intCmp (op : BinOp) (a b : Int) : SR P S st (VR S) m (Op.intCmp op a b) (Op.intCmp op a b) := by
  cases op <;> first | exact .pure (.bool _) | exact .halt
theorem sr_stringOp (op : BinOp) (a b : ByteArray) : SR P S st (VR S) m (Op.stringOp op a b) (Op.stringOp op a b) := by
  unfold Op.stringOp
  dsimp only
  split
  · split
    · exact .halt
    · exact .pure (.string _)
  all_goals first | exact .pure (.bool _) | exact .halt
theorem sr_ints (op : BinOp) (t : TypeId) (k k' : IntKind) (a b : Int) (h : op = .add ∨ op = .sub ∨ op = .lss ∨ op = .leq ∨ op = .gtr ∨ op = .geq ∨ op = .eql ∨ op = .neq) : SR P S st (VR S) m (binOp op t (.int k a) (.int k' b)) (binOp op t (.int k a) (.int k' b)) := by
  rcases h with rfl | rfl | rfl | rfl | rfl | rfl | rfl | rfl <;> (unfold binOp; dsimp only; split) <;> first | exact .halt | exact sr_intArith _ _ _ _ | exact sr_intCmp _ _ _
theorem sr_cmp (hG : Gl P m) (op : BinOp) (t : TypeId) {x x' y y' : Value} (hx : VR S m x x') (hy : VR S m y y') (h : op = .lss ∨ op = .leq ∨ op = .gtr ∨ op = .geq) : SR P S st (VR S) m (binOp op t x y) (binOp op t x' y') := by
  have hp : ∀ (a a' b b' : Addr), AR m a a' → AR m b b' → SR P S st (VR S) m (do Op.addrCmp op (← behindNumber a).1 (← behindNumber b).1) (do Op.addrCmp op (← behindNumber a').1 (← behindNumber b').1) := fun a a' b b' ha hb =>
    (sr_behind ha).bind fun m1 l1 p p' e => (sr_behind (hb.mono l1)).bind fun m2 l2 q q' f => sr_addrCmp ((hG.mono l1).mono l2) op (e.1.mono l2) f.1
  have hi : ∀ (k k' : IntKind) (a b : Int), SR P S st (VR S) m (binOp op t (.int k a) (.int k' b)) (binOp op t (.int k a) (.int k' b)) := fun k k' a b => sr_ints op t k k' a b (by rcases h with rfl | rfl | rfl | rfl <;> simp)
  have hs : ∀ (a b : ByteArray), SR P S st (VR S) m (Op.stringOp op a b) (Op.stringOp op a b) := fun a b => sr_stringOp op a b
  rcases h with rfl | rfl | rfl | rfl <;> cases hx <;> cases hy <;> first | exact .halt | exact hi _ _ _ _ | exact hs _ _ | exact hp _ _ _ _ ‹_› ‹_›
theorem sr_add (op : BinOp) (t : TypeId) {x x' y y' : Value} (hx : VR S m x x') (hy : VR S m y y') (h : op = .add ∨ op = .sub) (hG : Gl P m) : SR P S st (VR S) m (binOp op t x y) (binOp op t x' y') := by
  have hi : ∀ (k k' : IntKind) (a b : Int), SR P S st (VR S) m (binOp op t (.int k a) (.int k' b)) (binOp op t (.int k a) (.int k' b)) := fun k k' a b => sr_ints op t k k' a b (by rcases h with rfl | rfl <;> simp)
  have hs : ∀ (a b : ByteArray), SR P S st (VR S) m (Op.stringOp op a b) (Op.stringOp op a b) := fun a b => sr_stringOp op a b
  have hm : ∀ {x x' y y' : Value}, VR S m x x' → VR S m y y' → SR P S st (VR S) m (movedNumber t x y) (movedNumber t x' y') := fun hx hy => sr_movedNumber hx hy t
  have hmm : ∀ {x x' y y' : Value}, VR S m x x' → VR S m y y' → SR P S st (VR S) m (do if (← underlying t) matches .unsafePointer then movedPointer t x y else movedNumber t x y) (do if (← underlying t) matches .unsafePointer then movedPointer t x' y' else movedNumber t x' y') := fun hx hy => (sr_underlying t).bind fun m1 l1 d d' e => by
    obtain ⟨rfl, _⟩ := e
    split
    · exact sr_movedPointer (hx.mono l1) (hy.mono l1) t
    · exact sr_movedNumber (hx.mono l1) (hy.mono l1) t
  have hsub : ∀ (a a' b b' : Addr), AR m a a' → AR m b b' → SR P S st (VR S) m (do Op.addrSub .u64 (← behindNumber a).1 (← behindNumber b).1) (do Op.addrSub .u64 (← behindNumber a').1 (← behindNumber b').1) := fun a a' b b' ha hb =>
    (sr_behind ha).bind fun m1 l1 p p' e => (sr_behind (hb.mono l1)).bind fun m2 l2 q q' f => sr_addrSub ((hG.mono l1).mono l2) _ (e.1.mono l2) f.1
  rcases h with rfl | rfl
  · cases hx <;> cases hy <;> first | exact .halt | exact hi _ _ _ _ | exact hs _ _ | exact hm (.ptr ‹_›) (.int _ _) | exact hmm (.ptr ‹_›) (.int _ _) | exact hm .nilp (.int _ _) | exact hmm .nilp (.int _ _)
  · cases hx <;> cases hy <;> first | exact .halt | exact hi _ _ _ _ | exact hs _ _ | exact hsub _ _ _ _ ‹_› ‹_› | exact hm (.ptr ‹_›) (.int _ _) | exact hm .nilp (.int _ _)
theorem sr_equalNil {v v' : Value} (hv : VR S m v v') (t : TypeId) : SR P S st EQ m (Op.equal t v .nilIface) (Op.equal t v' .nilIface) := by
  unfold Op.equal
  rw [show Op.maxDepth = 9999 + 1 from rfl]
  unfold Op.equalIn
  refine (sr_underlying t).bind fun m1 l1 d d' e => ?_
  obtain ⟨rfl, _⟩ := e
  cases hv <;> cases d <;> first | exact .halt | exact .pure rfl
theorem sr_not {s s' : Sem Bool} (h : SR P S st EQ m s s') : SR P S st (VR S) m (do pure (.bool (!(← s)))) (do pure (.bool (!(← s')))) := h.bind fun _ _ a b e => by obtain rfl := e; exact .pure (.bool _)
theorem sr_yes {s s' : Sem Bool} (h : SR P S st EQ m s s') : SR P S st (VR S) m (do pure (.bool (← s))) (do pure (.bool (← s'))) := h.bind fun _ _ a b e => by obtain rfl := e; exact .pure (.bool _)
theorem sr_eqNil (op : BinOp) (t : TypeId) (x : Operand) {v v' : Value} (hv : VR S m v v') (h : op = .eql ∨ op = .neq) : SR P S st (VR S) m (do eqGuard op t x (.const .nilIface) v .nilIface; binOp op t v .nilIface) (do eqGuard op t x (.const .nilIface) v' .nilIface; binOp op t v' .nilIface) := by
  have he := sr_equalNil (P := P) (st := st) hv t
  have g : ∀ w : Value, eqGuard op t x (.const .nilIface) w .nilIface = pure () := fun w => by
    rcases h with rfl | rfl <;> cases w <;> first | rfl | simp [eqGuard]
  rw [g, g]
  refine SR.bind (A := UU) (.pure trivial) fun m1 l1 _ _ _ => SR.mono VR.monoA ?_ l1
  rcases h with rfl | rfl
  · have g2 : ∀ v : Value, binOp .eql t v .nilIface = (do pure (.bool (← Op.equal t v .nilIface))) := fun v => by cases v <;> rfl
    rw [g2, g2]; exact sr_yes he
  · have g2 : ∀ v : Value, binOp .neq t v .nilIface = (do pure (.bool (!(← Op.equal t v .nilIface)))) := fun v => by cases v <;> rfl
    rw [g2, g2]; exact sr_not he
theorem sr_equalInt {x x' y y' : Value} (hG : Gl P m) (hx : VR S m x x') (hy : VR S m y y') {t : TypeId} {k : IntKind} (hT : P.underlying t = some (.int k)) : SR P S st EQ m (Op.equal t x y) (Op.equal t x' y') := by
  unfold Op.equal
  rw [show Op.maxDepth = 9999 + 1 from rfl]
  unfold Op.equalIn
  refine (sr_underlying t).bind fun m1 l1 d d' e => ?_
  obtain ⟨rfl, e⟩ := e
  rw [hT] at e; cases e
  have hint : ∀ (k k' : IntKind) (a b : Int), SR P S st EQ m1 (if k = k' then pure (a == b) else stuck "==: kinds differ" : Sem Bool) (if k = k' then pure (a == b) else stuck "==: kinds differ") := fun k k' a b => by
    split
    · exact .pure rfl
    · exact .halt
  replace hx := hx.mono l1
  replace hy := hy.mono l1
  replace hG := hG.mono l1
  clear l1
  have hpp : ∀ (a a' b b' : Addr), AR m1 a a' → AR m1 b b' → SR P S st EQ m1 (do
      let (a, b) := ((← behindNumber a).1, (← behindNumber b).1)
      if a.block == b.block && a.block < (← program).globals.size then return (← byteOf a) == (← byteOf b)
      let .named "sync.copyChecker" _ := (← typeInfo t).desc | unsupported .addressObserved
      if a == b then pure true else unsupported .addressObserved : Sem Bool) (do
      let (a, b) := ((← behindNumber a').1, (← behindNumber b').1)
      if a.block == b.block && a.block < (← program).globals.size then return (← byteOf a) == (← byteOf b)
      let .named "sync.copyChecker" _ := (← typeInfo t).desc | unsupported .addressObserved
      if a == b then pure true else unsupported .addressObserved : Sem Bool) := by
    intro a a' b b' ha hb
    refine (sr_behind ha).bind fun m2 l2 p p' e => (sr_behind (hb.mono l2)).bind fun m3 l3 q q' f => ?_
    have ha := e.1.mono l3
    have hb := f.1
    have hG := (hG.mono l2).mono l3
    generalize p.1 = a at ha ⊢; generalize p'.1 = a' at ha ⊢; generalize q.1 = b at hb ⊢; generalize q'.1 = b' at hb ⊢
    refine sr_prog ?_
    have eb : a'.block = b'.block ↔ a.block = b.block := ⟨fun e => hG.inj _ _ _ ha.1 (e ▸ hb.1), fun e => by have := ha.1; rw [e, hb.1] at this; exact (Option.some.inj this).symm⟩
    have eg : a'.block < P.globals.size ↔ a.block < P.globals.size := ⟨fun h => by
      have := hG.inj _ _ _ ha.1 (hG.own _ h)
      omega, fun h => by
      have := ha.1; rw [hG.own _ h] at this
      have := Option.some.inj this
      omega⟩
    have ee : (a' == b') = (a == b) := by
      have h1 := ha.2.1; have h2 := ha.2.2; have h3 := hb.2.1; have h4 := hb.2.2
      cases a; cases b; cases a'; cases b'
      simp only at h1 h2 h3 h4 eb
      subst h1; subst h2; subst h3; subst h4
      rw [Bool.eq_iff_iff]
      simp only [beq_iff_eq, Addr.mk.injEq, eb]
    rw [show (a'.block == b'.block) = (a.block == b.block) by rw [Bool.eq_iff_iff]; simp only [beq_iff_eq, eb], show (decide (a'.block < P.globals.size)) = decide (a.block < P.globals.size) by simp only [eg], ee]
    split
    · exact (sr_byteOf ha).bind fun m4 l4 x x' e => by
        obtain rfl := e
        exact (sr_byteOf (hb.mono l4)).bind fun m5 l5 y y' e => by obtain rfl := e; exact .pure rfl
    · refine (sr_typeInfo t).bind fun m4 l4 i i' e => ?_
      obtain ⟨rfl, _⟩ := e
      split
      · split
        · exact .pure rfl
        · exact .halt
      · exact .halt
  cases hx <;> cases hy <;> first
    | exact .halt
    | exact hint _ _ _ _
    | exact hpp _ _ _ _ ‹_› ‹_›
    | (rename_i n1; rcases n1 with (_ | n1) | n1 <;> first | exact .pure rfl | exact .halt)
    | (rename_i n1 _ _ _; rcases n1 with (_ | n1) | n1 <;> first | exact .pure rfl | exact .halt)
theorem eqGuardType_int {t : TypeId} {k : IntKind} (hT : P.underlying t = some (.int k)) : P.eqGuardType P.depth t = true → P.depth = 0 := fun h => by
  cases hd : P.depth with
  | zero => rfl
  | succ d => rw [hd] at h; simp [Program.eqGuardType, hT] at h
theorem sr_eqGuard {a a' b b' : Value} (ha : VR S m a a') (hb : VR S m b b') (na : a ≠ .tuple #[]) (nb : b ≠ .tuple #[]) (op : BinOp) {t : TypeId} {k : IntKind} (x y : Operand) (hT : P.underlying t = some (.int k)) (h : op = .eql ∨ op = .neq) : SR P S st UU m (eqGuard op t x y a b) (eqGuard op t x y a' b') := by
  have hin : ∀ (a a' b b' : Value), SR P S st EQ m (Op.eqGuardIn Op.maxDepth t a b) (Op.eqGuardIn Op.maxDepth t a' b') := fun a a' b b' => by
    rw [show Op.maxDepth = 9999 + 1 from rfl]
    unfold Op.eqGuardIn
    refine (sr_underlying t).bind fun m1 l1 d d' e => ?_
    obtain ⟨rfl, e⟩ := e
    rw [hT] at e; cases e
    exact .pure rfl
  have hlast : ∀ (a a' b b' : Value) (u : Unsupported) (_ : tame (.unsupported u) = true), SR P S st UU m (do if ← Op.eqGuardIn Op.maxDepth t a b then unsupported u) (do if ← Op.eqGuardIn Op.maxDepth t a' b' then unsupported u) := fun a a' b b' u hu => (hin _ _ _ _).bind fun _ _ p q e => by
    obtain rfl := e
    cases p
    · exact .pure trivial
    · exact .halt hu
  have hni : ∀ (c : Bool) (u : Unsupported) (_ : tame (.unsupported u) = true), SR P S st UU m (if c = true then pure () else do if ← Op.eqGuardIn Op.maxDepth t .nilIface .nilIface then unsupported u) (if c = true then pure () else do if ← Op.eqGuardIn Op.maxDepth t .nilIface .nilIface then unsupported u) := fun c u hu => by
    cases c
    · exact hlast _ _ _ _ _ hu
    · exact .pure trivial
  have hag : ∀ (c c' e e' : Array Value) (u : Unsupported) (_ : tame (.unsupported u) = true), SR P S st UU m (do
      if !(← program).eqGuardType (← program).depth t then return
      if ← Op.eqGuardIn Op.maxDepth t (.agg c) (.agg e) then unsupported u) (do
      if !(← program).eqGuardType (← program).depth t then return
      if ← Op.eqGuardIn Op.maxDepth t (.agg c') (.agg e') then unsupported u) := fun c c' e e' u hu => by
    refine sr_prog (sr_prog ?_)
    split
    · exact .pure trivial
    · exact hlast _ _ _ _ _ hu
  rcases h with rfl | rfl <;> (unfold eqGuard; cases ha <;> cases hb <;> first | exact absurd rfl na | exact absurd rfl nb | exact .pure trivial | exact hni _ _ rfl | exact hag _ _ _ _ _ rfl)
theorem eqInt_dead {a b : Value} (op : BinOp) {t : TypeId} {k : IntKind} (x y : Operand) (hT : P.underlying t = some (.int k)) (h : op = .eql ∨ op = .neq) (hh : a = .tuple #[] ∨ b = .tuple #[]) (w : World) : ∃ z w1, (do eqGuard op t x y a b; binOp op t a b : Sem Value).run P w = .halt z w1 ∧ tame z = true := by
  have he : ∃ z w1, (Op.equal t a b).run P w = .halt z w1 ∧ tame z = true := by
    unfold Op.equal
    rw [show Op.maxDepth = 9999 + 1 from rfl]
    unfold Op.equalIn
    rw [Sem.run_bind]
    have hu : (underlying t).run P w = .ok (.int k) w := by simp [underlying, hT]
    rw [hu]
    rcases hh with rfl | rfl
    · cases b <;> first | (refine ⟨_, _, rfl, ?_⟩; rfl) | (rename_i p; cases p <;> (refine ⟨_, _, rfl, ?_⟩; rfl))
    · cases a <;> first | (refine ⟨_, _, rfl, ?_⟩; rfl) | (rename_i p; cases p <;> (refine ⟨_, _, rfl, ?_⟩; rfl))
  obtain ⟨z, w1, e, ht⟩ := he
  refine ⟨z, w1, ?_, ht⟩
  have g : eqGuard op t x y a b = pure () := by
    rcases hh with rfl | rfl <;> rcases h with rfl | rfl
    · cases b <;> first | rfl | simp [eqGuard]
    · cases b <;> first | rfl | simp [eqGuard]
    · cases a <;> first | rfl | simp [eqGuard]
    · cases a <;> first | rfl | simp [eqGuard]
  rw [g]
  have hb : binOp op t a b = (do pure (.bool (← Op.equal t a b))) ∨ binOp op t a b = (do pure (.bool (!(← Op.equal t a b)))) := by
    rcases hh with rfl | rfl <;> rcases h with rfl | rfl
    · cases b <;> exact .inl rfl
    · cases b <;> exact .inr rfl
    · cases a <;> exact .inl rfl
    · cases a <;> exact .inr rfl
  show ((pure () : Sem Unit) >>= fun _ => binOp op t a b).run P w = _
  rw [Sem.run_bind]
  show (binOp op t a b).run P w = _
  rcases hb with hb | hb <;> (rw [hb, Sem.run_bind, e]; rfl)
theorem sr_eqInt (hG : Gl P m) {a a' b b' : Value} (ha : VR S m a a') (hb : VR S m b b') (op : BinOp) {t : TypeId} {k : IntKind} (x y : Operand) (hT : P.underlying t = some (.int k)) (h : op = .eql ∨ op = .neq) : SR P S st (VR S) m (do eqGuard op t x y a b; binOp op t a b) (do eqGuard op t x y a' b'; binOp op t a' b') := by
  by_cases hh : a = .tuple #[] ∨ b = .tuple #[]
  · exact .dead fun w => eqInt_dead op x y hT h hh w
  have na : a ≠ .tuple #[] := fun e => hh (.inl e)
  have nb : b ≠ .tuple #[] := fun e => hh (.inr e)
  clear hh
  refine (sr_eqGuard ha hb na nb op x y hT h).bind fun m1 l1 _ _ _ => ?_
  have he := sr_equalInt (st := st) (hG.mono l1) (ha.mono l1) (hb.mono l1) hT
  have hi : ∀ (k k' : IntKind) (a b : Int), SR P S st (VR S) m1 (binOp op t (.int k a) (.int k' b)) (binOp op t (.int k a) (.int k' b)) := fun k k' a b => sr_ints op t k k' a b (by rcases h with rfl | rfl <;> simp)
  have hs : ∀ (a b : ByteArray), SR P S st (VR S) m1 (Op.stringOp op a b) (Op.stringOp op a b) := fun a b => sr_stringOp op a b
  rcases h with rfl | rfl
  · have := sr_yes he
    cases ha <;> cases hb <;> first | exact absurd rfl na | exact absurd rfl nb | exact hi _ _ _ _ | exact hs _ _ | exact this
  · have := sr_not he
    cases ha <;> cases hb <;> first | exact absurd rfl na | exact absurd rfl nb | exact hi _ _ _ _ | exact hs _ _ | exact this
/-! ### places, slices -/
def fieldOk (P : Program) (s : TypeId) (f : Nat) : Bool := match P.underlying s with
  | some (.struct fs) => (match fs[f]? with
    | some x => (match P.info? x.type with | some i => i.size != 0 | none => false)
    | none => true)
  | _ => true
theorem sr_fieldAt {x x' : Value} (hx : VR S m x x') {s : TypeId} {f : Nat} (h : fieldOk P s f = true) : SR P S st (VR S) m (Instr.fieldAt s x f) (Instr.fieldAt s x' f) := by
  unfold Instr.fieldAt
  refine (sr_underlying s).bind fun m1 l1 d d' e => ?_
  obtain ⟨rfl, e⟩ := e
  split
  · next fields =>
    unfold fieldOk at h
    rw [e] at h
    dsimp only at h ⊢
    cases hf : fields[f]? with
    | none => exact .halt
    | some fd =>
      rw [hf] at h
      dsimp only at h ⊢
      refine (sr_sureAddr (hx.mono l1)).bind fun m2 l2 a a' ha => ?_
      refine SR.bind (A := AR) ?_ fun m3 l3 b b' hb => .pure (.ptr hb)
      unfold fieldPlace
      refine (sr_sizeOf _).bind fun m3 l3 n n' e => ?_
      obtain ⟨rfl, i, hi, rfl⟩ := e
      rw [hi] at h
      have h0 : ¬ i.size = 0 := by simpa using h
      rw [if_neg h0, if_neg h0]
      exact .pure ((ha.mono l3).add _)
  · exact .halt
def Opt (m : Ren) : Option Addr → Option Addr → Prop
  | some a, some a' => AR m a a'
  | none, none => True
  | _, _ => False
theorem sr_beyond (c : Bool) (x : String) (k : IntKind) (n : Int) (len : Nat) : SR P S st (VR S) m (if c = true then unsupported (.noEntry x) else boundsPanic k n len .index) (if c = true then unsupported (.noEntry x) else boundsPanic k n len .index) := by
  cases c
  · exact sr_boundsPanic _ _ _ _
  · exact .halt rfl
theorem sr_indexAt {x x' i i' : Value} (hx : VR S m x x') (hi : VR S m i i') (t : TypeId) : SR P S st (VR S) m (Instr.indexAt t x i) (Instr.indexAt t x' i') := by
  unfold Instr.indexAt
  refine (sr_asIntOf hi).bind fun m1 l1 p p' e => ?_
  obtain rfl := e
  obtain ⟨k, n⟩ := p
  dsimp only
  refine (sr_underlying t).bind fun m2 l2 d d' e => ?_
  obtain ⟨rfl, e⟩ := e
  have hx2 := (hx.mono l1).mono l2
  cases d <;> first
    | exact .halt
    | (refine (sr_sureAddr hx2).bind fun m3 l3 a a' ha => ?_
       refine (sr_underlying t).bind fun m4 l4 d2 d2' e2 => ?_
       obtain ⟨rfl, _⟩ := e2
       dsimp only
       split
       · exact (sr_sizeOf _).bind fun m5 l5 q q' e => by
           obtain ⟨rfl, _⟩ := e
           exact .pure (.ptr (((AR.mono ha l4).mono l5).add _))
       · exact sr_beyond _ _ _ _ _)
    | (cases hx2 with
      | nils l c =>
        refine (sr_underlying t).bind fun m4 l4 d2 d2' e2 => ?_
        obtain ⟨rfl, _⟩ := e2
        exact sr_boundsPanic _ _ _ _
      | slice l c h =>
        refine (sr_underlying t).bind fun m4 l4 d2 d2' e2 => ?_
        obtain ⟨rfl, _⟩ := e2
        dsimp only
        split
        · exact (sr_sizeOf _).bind fun m5 l5 q q' e => by
            obtain ⟨rfl, _⟩ := e
            exact .pure (.ptr (((AR.mono h l4).mono l5).add _))
        · exact sr_beyond _ _ _ _ _
      | ghost =>
        refine (sr_underlying t).bind fun m4 l4 d2 d2' e2 => ?_
        obtain ⟨rfl, _⟩ := e2
        have h0 : ¬ (0 ≤ n ∧ n < ((0 : Nat) : Int)) := by omega
        dsimp only
        rw [if_neg h0]
        exact sr_beyond _ _ _ _ _
      | _ => exact .halt)
end
end Sim
end Go.Proofs.YtbkjjknlphlhlaaDoor
namespace Go.Proofs.YtbkjjknlphlhlaaDoor
namespace Sim
set_option maxRecDepth 100000

section
variable {P : Program} {S : FuncId → Bool} {st : Bool} {m : Ren}
theorem sr_sliceBound {x x' : Value} (hx : VR S m x x') (y : Nat) (c : BoundsCode) : SR P S st EQ m (Instr.sliceBound x y c) (Instr.sliceBound x' y c) := by
  unfold Instr.sliceBound
  refine (sr_asIntOf hx).bind fun m1 l1 p p' e => ?_
  obtain rfl := e
  dsimp only
  split
  · exact .pure rfl
  · exact sr_boundsPanic _ _ _ _
def OptV (S : FuncId → Bool) (m : Ren) : Option Value → Option Value → Prop
  | some a, some a' => VR S m a a'
  | none, none => True
  | _, _ => False
theorem OptV.mono {m m' : Ren} {o o' : Option Value} (h : OptV S m o o') (l : Le m m') : OptV S m' o o' := by
  cases o <;> cases o' <;> first | exact h | exact VR.mono h l
theorem sr_sliceBounds (b : Bool) (len cap : Nat) {lo lo' hi hi' mx mx' : Option Value} (hlo : OptV S m lo lo') (hhi : OptV S m hi hi') (hmx : OptV S m mx mx') : SR P S st EQ m (Instr.sliceBounds b len cap lo hi mx) (Instr.sliceBounds b len cap lo' hi' mx') := by
  unfold Instr.sliceBounds
  have tail : ∀ (m1 : Ren) (l1 : Le m m1) (q h : Nat) (mx mx' : Option Value), mx.isSome = mx'.isSome → SR P S st EQ m1 (do
      let l ← match lo with
        | some v => Instr.sliceBound v h (if mx.isSome then .slice3C else .sliceB)
        | none => pure 0
      pure (l, h, q)) (do
      let l ← match lo' with
        | some v => Instr.sliceBound v h (if mx'.isSome then .slice3C else .sliceB)
        | none => pure 0
      pure (l, h, q)) := fun m1 l1 q h mx mx' e => by
    rw [e]
    have := hlo.mono l1
    rcases lo with _ | v <;> rcases lo' with _ | v'
    · exact .pure rfl
    · exact this.elim
    · exact this.elim
    · exact (sr_sliceBound this _ _).bind fun _ _ a a' e => by obtain rfl := e; exact .pure rfl
  rcases mx with _ | v <;> rcases mx' with _ | v'
  · rcases hi with _ | u <;> rcases hi' with _ | u'
    · exact tail m (.refl _) cap len none none rfl
    · exact hhi.elim
    · exact hhi.elim
    · exact (sr_sliceBound hhi _ _).bind fun m1 l1 a a' e => by obtain rfl := e; exact tail m1 l1 cap a none none rfl
  · exact hmx.elim
  · exact hmx.elim
  · refine (sr_sliceBound hmx _ _).bind fun m1 l1 a a' e => ?_
    obtain rfl := e
    rcases hi with _ | u <;> rcases hi' with _ | u'
    · exact .halt
    · exact hhi.elim
    · exact hhi.elim
    · exact (sr_sliceBound (VR.mono hhi l1) _ _).bind fun m2 l2 b b' e => by obtain rfl := e; exact tail m2 (l1.trans l2) a b (some v) (some v') rfl
theorem sr_sliceBound0 {x x' : Value} (hx : VR S m x x') (c : BoundsCode) : SR P S st (fun _ a a' => a = 0 ∧ a' = 0) m (Instr.sliceBound x 0 c) (Instr.sliceBound x' 0 c) := by
  unfold Instr.sliceBound
  refine (sr_asIntOf hx).bind fun m1 l1 p p' e => ?_
  obtain rfl := e
  dsimp only
  split
  · next h => exact .pure (by have := h.1; have := h.2; constructor <;> omega)
  · exact sr_boundsPanic _ _ _ _
theorem sr_sliceBounds0 (b : Bool) {lo lo' hi hi' mx mx' : Option Value} (hlo : OptV S m lo lo') (hhi : OptV S m hi hi') (hmx : OptV S m mx mx') : SR P S st (fun _ a a' => a = (0, 0, 0) ∧ a' = (0, 0, 0)) m (Instr.sliceBounds b 0 0 lo hi mx) (Instr.sliceBounds b 0 0 lo' hi' mx') := by
  unfold Instr.sliceBounds
  have tail : ∀ (m1 : Ren) (l1 : Le m m1) (mx mx' : Option Value), mx.isSome = mx'.isSome → SR P S st (fun _ a a' => a = (0, 0, 0) ∧ a' = (0, 0, 0)) m1 (do
      let l ← match lo with
        | some v => Instr.sliceBound v 0 (if mx.isSome then .slice3C else .sliceB)
        | none => pure 0
      pure (l, 0, 0)) (do
      let l ← match lo' with
        | some v => Instr.sliceBound v 0 (if mx'.isSome then .slice3C else .sliceB)
        | none => pure 0
      pure (l, 0, 0)) := fun m1 l1 mx mx' e => by
    rw [e]
    have := hlo.mono l1
    rcases lo with _ | v <;> rcases lo' with _ | v'
    · exact .pure ⟨rfl, rfl⟩
    · exact this.elim
    · exact this.elim
    · exact (sr_sliceBound0 this _).bind fun _ _ a a' e => by obtain ⟨rfl, rfl⟩ := e; exact .pure ⟨rfl, rfl⟩
  rcases mx with _ | v <;> rcases mx' with _ | v'
  · rcases hi with _ | u <;> rcases hi' with _ | u'
    · exact tail m (.refl _) none none rfl
    · exact hhi.elim
    · exact hhi.elim
    · exact (sr_sliceBound0 hhi _).bind fun m1 l1 a a' e => by obtain ⟨rfl, rfl⟩ := e; exact tail m1 l1 none none rfl
  · exact hmx.elim
  · exact hmx.elim
  · refine (sr_sliceBound0 hmx _).bind fun m1 l1 a a' e => ?_
    obtain ⟨rfl, rfl⟩ := e
    rcases hi with _ | u <;> rcases hi' with _ | u'
    · exact .halt
    · exact hhi.elim
    · exact hhi.elim
    · exact (sr_sliceBound0 (VR.mono hhi l1) _).bind fun m2 l2 b b' e => by obtain ⟨rfl, rfl⟩ := e; exact tail m2 (l1.trans l2) (some v) (some v') rfl
theorem sr_slice {x x' : Value} (hx : VR S m x x') (t : TypeId) {lo lo' hi hi' mx mx' : Option Value} (hlo : OptV S m lo lo') (hhi : OptV S m hi hi') (hmx : OptV S m mx mx') : SR P S st (VR S) m (Instr.slice t x lo hi mx) (Instr.slice t x' lo' hi' mx') := by
  unfold Instr.slice
  refine (sr_underlying t).bind fun m1 l1 d d' e => ?_
  obtain ⟨rfl, e⟩ := e
  have hx := hx.mono l1
  have hlo := hlo.mono l1
  have hhi := hhi.mono l1
  have hmx := hmx.mono l1
  cases d with
  | string => cases hx with
    | string s =>
      have e : mx.isSome = mx'.isSome := by cases mx <;> cases mx' <;> first | rfl | exact hmx.elim
      dsimp only
      rw [e]
      split
      · exact .halt
      · exact (sr_sliceBounds false s.size s.size hlo hhi (mx := none) (mx' := none) trivial).bind fun _ _ a a' e => by obtain rfl := e; exact .pure (.string _)
    | _ => exact .halt
  | slice elem => cases hx with
    | nils l c =>
      refine (sr_sliceBounds true l c hlo hhi hmx).bind fun m2 l2 a a' e => ?_
      obtain rfl := e
      obtain ⟨p, q, r⟩ := a
      dsimp only
      refine (sr_sizeOf _).bind fun m3 l3 n n' e => ?_
      obtain ⟨rfl, _⟩ := e
      split <;> exact .pure (.nils _ _)
    | slice l c h =>
      refine (sr_sliceBounds true l c hlo hhi hmx).bind fun m2 l2 a a' e => ?_
      obtain rfl := e
      obtain ⟨p, q, r⟩ := a
      dsimp only
      refine (sr_sizeOf _).bind fun m3 l3 n n' e => ?_
      obtain ⟨rfl, _⟩ := e
      split
      · exact .pure (.slice _ _ ((h.mono l2).mono l3))
      · exact .pure (.slice _ _ (((h.mono l2).mono l3).add _))
    | ghost =>
      refine (sr_sliceBounds0 true hlo hhi hmx).bind fun m2 l2 a a' e => ?_
      obtain ⟨rfl, rfl⟩ := e
      dsimp only
      refine (sr_sizeOf _).bind fun m3 l3 n n' e => ?_
      obtain ⟨rfl, _⟩ := e
      rw [Nat.zero_mul]
      split <;> exact .pure .ghost
    | _ => exact .halt
  | pointer arr => cases hx with
    | ptr h =>
      refine (sr_underlying arr).bind fun m2 l2 d d' e => ?_
      obtain ⟨rfl, e⟩ := e
      split
      · next n elem =>
        refine (sr_sliceBounds false n n (hlo.mono l2) (hhi.mono l2) (hmx.mono l2)).bind fun m3 l3 a a' e => ?_
        obtain rfl := e
        obtain ⟨p, q, r⟩ := a
        dsimp only
        refine (sr_sizeOf _).bind fun m4 l4 n n' e => ?_
        obtain ⟨rfl, _⟩ := e
        have h4 := ((h.mono l2).mono l3).mono l4
        split
        · exact .pure (.slice _ _ h4)
        · exact .pure (.slice _ _ (h4.add _))
      · exact .halt
    | nilp => exact .program .halt
    | _ => exact .halt
  | _ => cases hx <;> exact .halt
theorem sr_sliceAt {x x' : Value} (hx : VR S m x x') (t : TypeId) {lo lo' hi hi' mx mx' : Option Value} (hlo : OptV S m lo lo') (hhi : OptV S m hi hi') (hmx : OptV S m mx mx') : SR P S st (VR S) m (Instr.sliceAt t x lo hi mx) (Instr.sliceAt t x' lo' hi' mx') := by
  unfold Instr.sliceAt
  refine (sr_underlying t).bind fun m1 l1 d d' e => ?_
  obtain ⟨rfl, e⟩ := e
  have hs := sr_slice (P := P) (st := st) (hx.mono l1) t (hlo.mono l1) (hhi.mono l1) (hmx.mono l1)
  cases d <;> first
    | exact hs
    | (rename_i n elem
       refine (sr_sureAddr (hx.mono l1)).bind fun m2 l2 a a' ha => ?_
       refine (sr_sliceBounds false n n ((hlo.mono l1).mono l2) ((hhi.mono l1).mono l2) ((hmx.mono l1).mono l2)).bind fun m3 l3 p p' e => ?_
       obtain rfl := e
       obtain ⟨p, q, r⟩ := p
       dsimp only
       refine (sr_sizeOf _).bind fun m4 l4 n n' e => ?_
       obtain ⟨rfl, _⟩ := e
       have h4 := (ha.mono l3).mono l4
       split
       · exact .pure (.slice _ _ h4)
       · exact .pure (.slice _ _ (h4.add _)))
theorem sr_extract {x x' : Value} (hx : VR S m x x') (i : Nat) : SR P S st (VR S) m (Instr.extract x i) (Instr.extract x' i) := by
  cases hx with
  | @tuple c c' hz hc =>
    unfold Instr.extract
    dsimp only
    cases hv : c[i]? with
    | none => exact .halt
    | some v =>
      obtain ⟨v', h1, h2⟩ := VRs.get? (S := S) (m := m) ⟨hz, hc⟩ hv
      rw [h1]; exact .pure h2
  | _ => exact .halt
theorem sr_makeIface {x x' : Value} (hx : VR S m x x') (t : TypeId) : SR P S st (VR S) m (Instr.makeInterface t x) (Instr.makeInterface t x') := by
  unfold Instr.makeInterface
  refine (sr_underlying t).bind fun m1 l1 d d' e => ?_
  obtain ⟨rfl, e⟩ := e
  split
  · exact .halt
  · exact .pure (.iface _ (hx.mono l1))
end
end Sim
end Go.Proofs.YtbkjjknlphlhlaaDoor
