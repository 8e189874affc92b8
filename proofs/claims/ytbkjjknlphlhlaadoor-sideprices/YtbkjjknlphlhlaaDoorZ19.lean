/- Operations that are alike, on: '==' and '!=' whole; types asserted; methods looked up. -/
import Derived.Test.YtbkjjknlphlhlaaDoorZ18
namespace Go.Proofs.YtbkjjknlphlhlaaDoor
namespace Sim
set_option maxRecDepth 100000

section
variable {P : Program} {S : FuncId → Bool} {st : Bool} {m : Ren}
theorem sr_guardStep {d : Nat} (ft : TypeId) (off : Nat) (ih : ∀ {m : Ren} {x x' y y' : Value}, VR S m x x' → VR S m y y' → SR P S st EQ m (Op.eqGuardIn d ft x y) (Op.eqGuardIn d ft x' y')) {m m' : Ren} {c c' e e' : Array Value} (hc : VRs S m c c') (he : VRs S m e e') (l : Le m m') :
    SR P S st EQ m' (do
      let a ← part ft c off
      let b ← part ft e off
      let q ← Op.eqGuardIn d ft a b
      if q = true then pure (ForInStep.done (some true, ())) else pure (ForInStep.yield (none, ())) : Sem (ForInStep (Option Bool × Unit))) (do
      let a ← part ft c' off
      let b ← part ft e' off
      let q ← Op.eqGuardIn d ft a b
      if q = true then pure (ForInStep.done (some true, ())) else pure (ForInStep.yield (none, ()))) := by
  refine (sr_part ft off (hc.mono l)).bind fun m1 l1 a a' ha => (sr_part ft off ((he.mono l).mono l1)).bind fun m2 l2 b b' hb => (ih (ha.mono l2) hb).bind fun m3 l3 q q' e => ?_
  obtain rfl := e
  split <;> exact .pure rfl
theorem guardIn_odd (d : Nat) (t : TypeId) {x y : Value} (h : Odd x ∨ Odd y) : Op.eqGuardIn (d + 1) t x y = (underlying t >>= fun _ => pure false) := by
  unfold Op.eqGuardIn
  congr 1
  funext ds
  rcases h with h | h
  · cases ds <;> first | rfl | (cases x <;> first | rfl | exact h.elim)
  · cases ds <;> first | rfl | (cases y <;> first | rfl | exact h.elim | (cases x <;> rfl))
theorem guard_odd {a b : Value} (op : BinOp) (t : TypeId) (x y : Operand) (h : Odd a ∨ Odd b) : eqGuard op t x y a b = pure () := by
  rcases h with h | h
  · cases a <;> first | exact h.elim | (cases op <;> rfl)
  · cases b <;> first | exact h.elim | (cases a <;> first | (cases op <;> rfl))
theorem eq_dead {a b : Value} (op : BinOp) (t : TypeId) (x y : Operand) (h : op = .eql ∨ op = .neq) (hh : a = .tuple #[] ∨ b = .tuple #[]) (w : World) : ∃ z w1, (do eqGuard op t x y a b; binOp op t a b : Sem Value).run P w = .halt z w1 ∧ tame z = true := by
  have ho : Odd a ∨ Odd b := hh.imp (fun e => by rw [e]; trivial) fun e => by rw [e]; trivial
  have he : ∃ z w1, (Op.equal t a b).run P w = .halt z w1 ∧ tame z = true := by
    unfold Op.equal
    rw [show Op.maxDepth = 9999 + 1 from rfl]
    unfold Op.equalIn
    rw [Sem.run_bind]
    have hh0 : HR (fun _ => false) false (fun _ => none) w w := ⟨(fun b b' e => nomatch e), (fun a b c e => nomatch e)⟩
    rcases (sr_underlying (P := P) (S := fun _ => false) (st := false) (m := fun _ => none) t).ends hh0 with ⟨d, w1, hr⟩ | ⟨z, w1, hr, hz⟩
    · rw [hr, Result.andThen_ok]
      rcases hh with rfl | rfl
      · cases d <;> first | (refine ⟨_, _, rfl, ?_⟩; rfl) | (cases b <;> first | (refine ⟨_, _, rfl, ?_⟩; rfl) | (rename_i p l c; cases p <;> (refine ⟨_, _, rfl, ?_⟩; rfl)) | (rename_i p; cases p <;> (refine ⟨_, _, rfl, ?_⟩; rfl)))
      · cases d <;> first | (refine ⟨_, _, rfl, ?_⟩; rfl) | (cases a <;> first | (refine ⟨_, _, rfl, ?_⟩; rfl) | (rename_i p l c; cases p <;> (refine ⟨_, _, rfl, ?_⟩; rfl)) | (rename_i p; cases p <;> (refine ⟨_, _, rfl, ?_⟩; rfl)))
    · rw [hr, Result.andThen_halt]
      exact ⟨z, w1, rfl, hz⟩
  obtain ⟨z, w1, e, ht⟩ := he
  refine ⟨z, w1, ?_, ht⟩
  rw [guard_odd op t x y ho]
  have hb : binOp op t a b = (do pure (.bool (← Op.equal t a b))) ∨ binOp op t a b = (do pure (.bool (!(← Op.equal t a b)))) := by
    rcases hh with rfl | rfl <;> rcases h with rfl | rfl
    · cases b <;> exact .inl rfl
    · cases b <;> exact .inr rfl
    · cases a <;> exact .inl rfl
    · cases a <;> exact .inr rfl
  show ((pure () : Sem Unit) >>= fun _ => binOp op t a b).run P w = _
  rw [Sem.run_bind]
  show (binOp op t a b).run P w = _
  rcases hb with hb | hb <;> (rw [hb, Sem.run_bind, e]; rfl)
set_option maxHeartbeats 1000000 in
theorem sr_eqGuardIn : ∀ (d : Nat) (t : TypeId) {m : Ren} {x x' y y' : Value}, VR S m x x' → VR S m y y' → SR P S st EQ m (Op.eqGuardIn d t x y) (Op.eqGuardIn d t x' y')
  | 0, _, _, _, _, _, _, _, _ => .halt
  | d + 1, t, m, x, x', y, y', hx, hy => by
    have ih := fun (t : TypeId) {m : Ren} {x x' y y' : Value} => sr_eqGuardIn d t (m := m) (x := x) (x' := x') (y := y) (y' := y')
    by_cases ho : Odd x ∨ Odd y
    · rw [guardIn_odd d t ho, guardIn_odd d t (ho.imp hx.odd hy.odd)]
      exact (sr_underlying t).bind fun _ _ _ _ _ => .pure rfl
    have n1 : ¬ Odd x := fun h => ho (.inl h)
    have n2 : ¬ Odd y := fun h => ho (.inr h)
    clear ho
    unfold Op.eqGuardIn
    refine (sr_underlying t).bind fun m1 l1 ds ds' e => ?_
    obtain ⟨rfl, e⟩ := e
    replace hx := hx.mono l1
    replace hy := hy.mono l1
    clear l1 e
    cases ds with
    | struct fs => cases hx <;> cases hy <;> first
        | exact absurd trivial n1
        | exact absurd trivial n2
        | exact .pure rfl
        | (rename_i c c' hc1 hc2 e e' he1 he2
           refine SR.bind (A := EQ) ?_ fun m2 l2 r r' e => by obtain rfl := e; rcases r with ⟨_ | r, _⟩ <;> exact .pure rfl
           rw [← Array.forIn_toList, ← Array.forIn_toList]
           refine sr_forIn _ _ fun f _ b m3 l3 => ?_
           split
           · exact sr_guardStep (f.type) f.offset (ih f.type) ⟨hc1, hc2⟩ ⟨he1, he2⟩ l3
           · exact .pure rfl)
    | array n el => cases hx <;> cases hy <;> first
        | exact absurd trivial n1
        | exact absurd trivial n2
        | exact .pure rfl
        | (rename_i c c' hc1 hc2 e e' he1 he2
           refine (sr_sizeOf el).bind fun m2 l2 k k' e => ?_
           obtain ⟨rfl, _⟩ := e
           refine SR.bind (A := EQ) ?_ fun m3 l3 r r' e => by obtain rfl := e; rcases r with ⟨_ | r, _⟩ <;> exact .pure rfl
           rw [Std.Legacy.Range.forIn_eq_forIn_range', Std.Legacy.Range.forIn_eq_forIn_range']
           refine sr_forIn _ _ fun i _ b m3 l3 => ?_
           exact sr_guardStep el (i * k) (ih el) (VRs.mono ⟨hc1, hc2⟩ l2) (VRs.mono ⟨he1, he2⟩ l2) l3)
    | _ => cases hx <;> cases hy <;> first | exact absurd trivial n1 | exact absurd trivial n2 | exact .pure rfl
theorem sr_eqGuard2 {a a' b b' : Value} (ha : VR S m a a') (hb : VR S m b b') (op : BinOp) (t : TypeId) (x y : Operand) (h : op = .eql ∨ op = .neq) : SR P S st UU m (eqGuard op t x y a b) (eqGuard op t x y a' b') := by
  have hlast : ∀ {a a' b b' : Value} (u : Unsupported) (_ : tame (.unsupported u) = true), VR S m a a' → VR S m b b' → SR P S st UU m (do if ← Op.eqGuardIn Op.maxDepth t a b then unsupported u) (do if ← Op.eqGuardIn Op.maxDepth t a' b' then unsupported u) := fun u hu ha hb => (sr_eqGuardIn Op.maxDepth t ha hb).bind fun _ _ p q e => by
    obtain rfl := e
    cases p
    · exact .pure trivial
    · exact .halt hu
  have hni : ∀ (c : Bool) (u : Unsupported) (_ : tame (.unsupported u) = true), SR P S st UU m (if c = true then pure () else do if ← Op.eqGuardIn Op.maxDepth t .nilIface .nilIface then unsupported u) (if c = true then pure () else do if ← Op.eqGuardIn Op.maxDepth t .nilIface .nilIface then unsupported u) := fun c u hu => by
    cases c
    · exact hlast _ hu .nilIface .nilIface
    · exact .pure trivial
  have hag : ∀ {c c' e e' : Array Value} (u : Unsupported) (_ : tame (.unsupported u) = true), VR S m (.agg c) (.agg c') → VR S m (.agg e) (.agg e') → SR P S st UU m (do
      if !(← program).eqGuardType (← program).depth t then return
      if ← Op.eqGuardIn Op.maxDepth t (.agg c) (.agg e) then unsupported u) (do
      if !(← program).eqGuardType (← program).depth t then return
      if ← Op.eqGuardIn Op.maxDepth t (.agg c') (.agg e') then unsupported u) := fun u hu hc he => by
    refine sr_prog (sr_prog ?_)
    split
    · exact .pure trivial
    · exact hlast _ hu hc he
  have ha' := ha
  have hb' := hb
  by_cases ho : Odd a ∨ Odd b
  · rw [guard_odd op t x y ho, guard_odd op t x y (ho.imp ha.odd hb.odd)]
    exact .pure trivial
  have n1 : ¬ Odd a := fun h => ho (.inl h)
  have n2 : ¬ Odd b := fun h => ho (.inr h)
  clear ho
  rcases h with rfl | rfl <;> (unfold eqGuard; cases ha <;> cases hb <;> first | exact absurd trivial n1 | exact absurd trivial n2 | exact .pure trivial | exact hni _ _ rfl | exact hag _ rfl ha' hb')
theorem sr_eq2 (hst : st = true) (hG : Gl P m) {a a' b b' : Value} (ha : VR S m a a') (hb : VR S m b b') (op : BinOp) (t : TypeId) (x y : Operand) (h : op = .eql ∨ op = .neq) : SR P S st (VR S) m (do eqGuard op t x y a b; binOp op t a b) (do eqGuard op t x y a' b'; binOp op t a' b') := by
  by_cases hh : a = .tuple #[] ∨ b = .tuple #[]
  · exact .dead (eq_dead op t x y h hh)
  have na : a ≠ .tuple #[] := fun e => hh (.inl e)
  have nb : b ≠ .tuple #[] := fun e => hh (.inr e)
  clear hh
  refine (sr_eqGuard2 ha hb op t x y h).bind fun m1 l1 _ _ _ => ?_
  have he : SR P S st EQ m1 (Op.equal t a b) (Op.equal t a' b') := sr_equalIn hst Op.maxDepth t (hG.mono l1) (ha.mono l1) (hb.mono l1)
  have hi : ∀ (k k' : IntKind) (a b : Int), SR P S st (VR S) m1 (binOp op t (.int k a) (.int k' b)) (binOp op t (.int k a) (.int k' b)) := fun k k' a b => sr_ints op t k k' a b (by rcases h with rfl | rfl <;> simp)
  have hs : ∀ (a b : ByteArray), SR P S st (VR S) m1 (Op.stringOp op a b) (Op.stringOp op a b) := fun a b => sr_stringOp op a b
  rcases h with rfl | rfl
  · have := sr_yes he
    cases ha <;> cases hb <;> first | exact absurd rfl na | exact absurd rfl nb | exact hi _ _ _ _ | exact hs _ _ | exact this
  · have := sr_not he
    cases ha <;> cases hb <;> first | exact absurd rfl na | exact absurd rfl nb | exact hi _ _ _ _ | exact hs _ _ | exact this

/-! ### types asserted -/
theorem vr_handle (hb : Hb P m) (t : TypeId) : VR S m (typeHandle P t) (typeHandle P t) := .ptr ⟨hb, rfl, rfl⟩
theorem sr_elemOf (t : TypeId) : SR P S st EQ m (elemOf t) (elemOf t) := by
  unfold elemOf
  refine (sr_underlying t).bind fun _ _ d d' e => ?_
  obtain ⟨rfl, _⟩ := e
  cases d <;> first | exact .halt | exact .pure rfl
theorem sr_assertion {α α' : Type} {A : Ren → α → α' → Prop} {i c : Option TypeId} {a : TypeId} {n : String} (hb : Hb P m) : SR P S st A m (runtimePanic (.typeAssertion i c a n)) (runtimePanic (.typeAssertion i c a n)) := by
  unfold runtimePanic
  refine sr_prog ?_
  dsimp only
  refine (sr_elemOf _).bind fun m1 l1 e e' he => ?_
  obtain rfl := he
  have hh : ∀ (t : Option TypeId), VR S m1 (match t with | some t => typeHandle P t | none => .pointer none) (match t with | some t => typeHandle P t | none => .pointer none) := fun t => by
    cases t with
    | none => exact .nilp
    | some t => exact vr_handle (hb.mono l1) t
  refine (sr_newVar e (v := .agg #[_, _, _, _]) (v' := .agg #[_, _, _, _]) ?_).bind fun _ _ _ _ _ => .halt
  have := (((VRs.empty.push (hh i)).push (hh c)).push (vr_handle (hb.mono l1) a)).push (VR.string n.toUTF8)
  exact .agg this.1 this.2
theorem sr_typeAssert {x x' : Value} (hx : VR S m x x') (xt asserted : TypeId) (ok : Bool) (hz : (!ok || zdry P asserted) = true) (hb : Hb P m) : SR P S st (VR S) m (Instr.typeAssert x xt asserted ok) (Instr.typeAssert x' xt asserted ok) := by
  unfold Instr.typeAssert
  have holds : ∀ {m' : Ren} {v v' : Value}, Le m m' → VR S m' v v' → SR P S st (VR S) m' (pure (if ok then .tuple #[v, .bool true] else v)) (pure (if ok then .tuple #[v', .bool true] else v')) := fun l h => .pure (by
    split
    · have := (VRs.empty.push h).push (.bool true); exact .tuple this.1 this.2
    · exact h)
  have fails : ∀ {m' : Ren} (_ : Le m m') (s d : Option TypeId) (n : String), SR P S st (VR S) m' (if ok then do pure (.tuple #[← zeroValue asserted, .bool false]) else runtimePanic (.typeAssertion s d asserted n)) (if ok then do pure (.tuple #[← zeroValue asserted, .bool false]) else runtimePanic (.typeAssertion s d asserted n)) := fun l s d n => by
    cases ok
    · exact sr_assertion (hb.mono l)
    · refine (sr_zero (by simpa using hz)).bind fun _ _ z z' h => .pure ?_
      have := (VRs.empty.push h).push (.bool false); exact .tuple this.1 this.2
  refine (sr_underlying asserted).bind fun m1 l1 ds ds' e => ?_
  obtain ⟨rfl, _⟩ := e
  replace hx := hx.mono l1
  cases ds with
  | interface want => cases hx <;> first
      | exact .halt
      | exact fails l1 _ _ _
      | (rename_i t v v' hv
         refine (sr_typeInfo t).bind fun m2 l2 i i' e => ?_
         obtain ⟨rfl, _⟩ := e
         dsimp only
         split
         · exact holds (l1.trans l2) ((VR.iface t hv).mono l2)
         · exact fails (l1.trans l2) _ _ _)
  | _ => cases hx <;> first
      | exact .halt
      | exact fails l1 _ _ _
      | (rename_i t v v' hv
         dsimp only
         split
         · exact holds l1 hv
         · exact fails l1 _ _ _)
end
end Sim
end Go.Proofs.YtbkjjknlphlhlaaDoor
