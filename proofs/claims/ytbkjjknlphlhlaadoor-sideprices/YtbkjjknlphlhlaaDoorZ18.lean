/- Operations that are alike, on: '==' of whatever type. -/
import Derived.Test.YtbkjjknlphlhlaaDoorZ17
namespace Go.Proofs.YtbkjjknlphlhlaaDoor
namespace Sim
set_option maxRecDepth 100000

section
variable {P : Program} {S : FuncId → Bool} {st : Bool} {m : Ren}
theorem sr_ptrInt (t : TypeId) (hG : Gl P m) {a a' b b' : Addr} (ha : AR m a a') (hb : AR m b b') : SR P S st EQ m (do
      let (a, b) := ((← behindNumber a).1, (← behindNumber b).1)
      if a.block == b.block && a.block < (← program).globals.size then return (← byteOf a) == (← byteOf b)
      let .named "sync.copyChecker" _ := (← typeInfo t).desc | unsupported .addressObserved
      if a == b then pure true else unsupported .addressObserved : Sem Bool) (do
      let (a, b) := ((← behindNumber a').1, (← behindNumber b').1)
      if a.block == b.block && a.block < (← program).globals.size then return (← byteOf a) == (← byteOf b)
      let .named "sync.copyChecker" _ := (← typeInfo t).desc | unsupported .addressObserved
      if a == b then pure true else unsupported .addressObserved : Sem Bool) := by
  refine (sr_behind ha).bind fun m2 l2 p p' e => (sr_behind (hb.mono l2)).bind fun m3 l3 q q' f => ?_
  have ha := e.1.mono l3
  have hb := f.1
  have hG := (hG.mono l2).mono l3
  generalize p.1 = a at ha ⊢; generalize p'.1 = a' at ha ⊢; generalize q.1 = b at hb ⊢; generalize q'.1 = b' at hb ⊢
  refine sr_prog ?_
  have eg : a'.block < P.globals.size ↔ a.block < P.globals.size := ⟨fun h => by
    have := hG.inj _ _ _ ha.1 (hG.own _ h)
    omega, fun h => by
    have := ha.1; rw [hG.own _ h] at this
    have := Option.some.inj this
    omega⟩
  rw [ar_block hG.inj ha hb, show (decide (a'.block < P.globals.size)) = decide (a.block < P.globals.size) by simp only [eg], ar_beq hG.inj ha hb]
  split
  · exact (sr_byteOf ha).bind fun m4 l4 x x' e => by
      obtain rfl := e
      exact (sr_byteOf (hb.mono l4)).bind fun m5 l5 y y' e => by obtain rfl := e; exact .pure rfl
  · refine (sr_typeInfo t).bind fun m4 l4 i i' e => ?_
    obtain ⟨rfl, _⟩ := e
    split
    · split
      · exact .pure rfl
      · exact .halt
    · exact .halt
theorem sr_kinds {α : Type} [DecidableEq α] (k k' : α) (q : Bool) : SR P S st EQ m (if k = k' then pure q else stuck "==: kinds differ" : Sem Bool) (if k = k' then pure q else stuck "==: kinds differ") := by
  split
  · exact .pure rfl
  · exact .halt
theorem sr_eqStep {d : Nat} (ft : TypeId) (off : Nat) (ih : ∀ {m : Ren} {x x' y y' : Value}, Gl P m → VR S m x x' → VR S m y y' → SR P S st EQ m (Op.equalIn d ft x y) (Op.equalIn d ft x' y')) {m m' : Ren} (hG : Gl P m) {c c' e e' : Array Value} (hc : VRs S m c c') (he : VRs S m e e') (l : Le m m') :
    SR P S st EQ m' (do
      let a ← part ft c off
      let b ← part ft e off
      let q ← Op.equalIn d ft a b
      if (!q) = true then pure (ForInStep.done (some false, ())) else pure (ForInStep.yield (none, ())) : Sem (ForInStep (Option Bool × Unit))) (do
      let a ← part ft c' off
      let b ← part ft e' off
      let q ← Op.equalIn d ft a b
      if (!q) = true then pure (ForInStep.done (some false, ())) else pure (ForInStep.yield (none, ()))) := by
  refine (sr_part ft off (hc.mono l)).bind fun m1 l1 a a' ha => (sr_part ft off ((he.mono l).mono l1)).bind fun m2 l2 b b' hb => (ih (((hG.mono l).mono l1).mono l2) (ha.mono l2) hb).bind fun m3 l3 q q' e => ?_
  obtain rfl := e
  split <;> exact .pure rfl
set_option maxHeartbeats 1000000 in
theorem sr_equalIn (hst : st = true) : ∀ (d : Nat) (t : TypeId) {m : Ren} {x x' y y' : Value}, Gl P m → VR S m x x' → VR S m y y' → SR P S st EQ m (Op.equalIn d t x y) (Op.equalIn d t x' y')
  | 0, _, _, _, _, _, _, _, _, _ => .halt
  | d + 1, t, m, x, x', y, y', hG, hx, hy => by
    have ih := fun (t : TypeId) {m : Ren} {x x' y y' : Value} => sr_equalIn hst d t (m := m) (x := x) (x' := x') (y := y) (y' := y')
    unfold Op.equalIn
    refine (sr_underlying t).bind fun m1 l1 ds ds' e => ?_
    obtain ⟨rfl, e⟩ := e
    replace hx := hx.mono l1
    replace hy := hy.mono l1
    replace hG := hG.mono l1
    clear l1 e
    cases ds with
    | bool => cases hx <;> cases hy <;> first | exact .halt | exact .pure rfl
    | int k => cases hx <;> cases hy <;> first
        | exact .halt
        | exact sr_kinds _ _ _
        | exact sr_ptrInt t hG ‹_› ‹_›
        | (rename_i n1; rcases n1 with (_ | n1) | n1 <;> first | exact .pure rfl | exact .halt)
        | (rename_i n1 _ _ _; rcases n1 with (_ | n1) | n1 <;> first | exact .pure rfl | exact .halt)
    | string => cases hx <;> cases hy <;> first | exact .halt | exact .pure rfl
    | pointer el => cases hx <;> cases hy <;> first
        | exact .halt
        | exact .pure rfl
        | (rename_i a a' ha b b' hb
           refine (sr_sizeOf el).bind fun m2 l2 n n' e => ?_
           obtain ⟨rfl, _⟩ := e
           rw [ar_beq hG.inj ha hb]
           split
           · exact sr_sameAddr hst (l2.inj hG.inj) (ha.mono l2) (hb.mono l2)
           · split
             · exact .pure rfl
             · exact (sr_choose _).bind fun _ _ n n' e => by obtain rfl := e; exact .pure rfl)
    | unsafePointer => cases hx <;> cases hy <;> first | exact .halt | exact sr_samePointer hst hG.inj ‹_› ‹_› | exact sr_samePointer hst hG.inj trivial trivial | exact sr_samePointer (o := none) (o' := none) hst hG.inj trivial ‹_› | exact sr_samePointer (q := none) (q' := none) hst hG.inj ‹_› trivial
    | chan _ _ => cases hx <;> cases hy <;> first | exact .halt | exact .pure rfl
    | interface _ => cases hx <;> cases hy <;> first
        | exact .halt
        | exact .pure rfl
        | (rename_i tx vx vx' hvx ty vy vy' hvy
           dsimp only
           split
           · exact .pure rfl
           · refine (sr_typeInfo tx).bind fun m2 l2 i i' e => ?_
             obtain ⟨rfl, _⟩ := e
             split
             · refine sr_prog (sr_prog ?_)
               split
               · exact .halt
               · exact (sr_typeStr _).bind fun _ _ s s' e => by obtain rfl := e; exact sr_panicErr _
             · exact ih tx (hG.mono l2) (hvx.mono l2) (hvy.mono l2))
    | struct fs => cases hx <;> cases hy <;> first
        | exact .halt
        | (rename_i c c' hc1 hc2 e e' he1 he2
           refine sr_prog ?_
           split
           · exact .halt
           · refine SR.bind (A := EQ) ?_ fun m2 l2 r r' e => by obtain rfl := e; rcases r with ⟨_ | r, _⟩ <;> exact .pure rfl
             rw [← Array.forIn_toList, ← Array.forIn_toList]
             refine sr_forIn _ _ fun f _ b m3 l3 => ?_
             split
             · exact sr_eqStep (f.type) f.offset (ih f.type) hG ⟨hc1, hc2⟩ ⟨he1, he2⟩ l3
             · exact .pure rfl)
    | array n el => cases hx <;> cases hy <;> first
        | exact .halt
        | (rename_i c c' hc1 hc2 e e' he1 he2
           dsimp only
           refine (sr_sizeOf el).bind fun m2 l2 k k' e => ?_
           obtain ⟨rfl, _⟩ := e
           refine SR.bind (A := EQ) ?_ fun m3 l3 r r' e => by obtain rfl := e; rcases r with ⟨_ | r, _⟩ <;> exact .pure rfl
           rw [Std.Legacy.Range.forIn_eq_forIn_range', Std.Legacy.Range.forIn_eq_forIn_range']
           refine sr_forIn _ _ fun i _ b m3 l3 => ?_
           exact sr_eqStep el (i * k) (ih el) (hG.mono l2) (VRs.mono ⟨hc1, hc2⟩ l2) (VRs.mono ⟨he1, he2⟩ l2) l3)
    | slice _ => cases hx <;> cases hy <;> first | exact .halt | exact .pure rfl
    | map _ _ => cases hx <;> cases hy <;> first | exact .halt | exact .pure rfl
    | func _ _ _ => cases hx <;> cases hy <;> first | exact .halt | exact .pure rfl
    | _ => cases hx <;> cases hy <;> exact .halt
end
end Sim
end Go.Proofs.YtbkjjknlphlhlaaDoor
