/- Operations that are alike, on: what is compared with what, whatever it be; types asserted; methods looked up. -/
import Derived.Test.YtbkjjknlphlhlaaDoorZ16
namespace Go.Proofs.YtbkjjknlphlhlaaDoor
namespace Sim
set_option maxRecDepth 100000

section
variable {P : Program} {S : FuncId → Bool} {st : Bool} {m : Ren}
theorem ar_block (hi : Inj m) {a a' b b' : Addr} (ha : AR m a a') (hb : AR m b b') : (a'.block == b'.block) = (a.block == b.block) := by
  have eb : a'.block = b'.block ↔ a.block = b.block := ⟨fun e => hi _ _ _ ha.1 (e ▸ hb.1), fun e => by have := ha.1; rw [e, hb.1] at this; exact (Option.some.inj this).symm⟩
  rw [Bool.eq_iff_iff]; simp only [beq_iff_eq, eb]
theorem ar_beq (hi : Inj m) {a a' b b' : Addr} (ha : AR m a a') (hb : AR m b b') : (a' == b') = (a == b) := by
  have eb : a'.block = b'.block ↔ a.block = b.block := ⟨fun e => hi _ _ _ ha.1 (e ▸ hb.1), fun e => by have := ha.1; rw [e, hb.1] at this; exact (Option.some.inj this).symm⟩
  have h1 := ha.2.1; have h2 := ha.2.2; have h3 := hb.2.1; have h4 := hb.2.2
  cases a; cases b; cases a'; cases b'
  simp only at h1 h2 h3 h4 eb
  subst h1; subst h2; subst h3; subst h4
  rw [Bool.eq_iff_iff]
  simp only [beq_iff_eq, Addr.mk.injEq, eb]
theorem sr_noView {a a' : Addr} (h : AR m a a') : SR P S st UU m (noView a) (noView a') := by
  unfold noView
  exact sr_viewAt h.1 fun m2 l2 => .pure trivial
theorem sr_stringish (hst : st = true) {a a' : Addr} (h : AR m a a') : SR P S st EQ m (stringish a) (stringish a') := by
  unfold stringish
  refine (sr_frozen hst h).bind fun m1 l1 x y e => ?_
  obtain rfl := e
  cases x
  · refine (sr_shape (l1.app _ _ h.1)).bind fun m2 l2 s s' e => ?_
    obtain rfl := e
    cases s with
    | none => exact .pure rfl
    | some p => exact sr_frozen hst ⟨l2.app _ _ (l1.app _ _ h.1), rfl, rfl⟩
  · exact .pure rfl
theorem sr_mayBeOne (hst : st = true) {a a' b b' : Addr} (ha : AR m a a') (hb : AR m b b') : SR P S st EQ m (mayBeOne a b) (mayBeOne a' b') := by
  unfold mayBeOne
  refine (sr_stringish hst ha).bind fun m1 l1 x x' e => ?_
  obtain rfl := e
  refine (sr_stringish hst (hb.mono l1)).bind fun m2 l2 y y' e => ?_
  obtain rfl := e
  have none_ : ∀ {m} {a a' : Addr}, AR m a a' → SR P S st EQ m (do pure ((← shape a.block) matches some (_, 0))) (do pure ((← shape a'.block) matches some (_, 0))) := fun h => (sr_shape h.1).bind fun _ _ s s' e => by obtain rfl := e; exact .pure rfl
  refine (none_ ((ha.mono l1).mono l2)).bind fun m3 l3 z z' e => ?_
  obtain rfl := e
  refine (none_ (((hb.mono l1).mono l2).mono l3)).bind fun m4 l4 q q' e => ?_
  obtain rfl := e
  exact .pure rfl
theorem sr_sameAddr (hst : st = true) (hi : Inj m) {a a' b b' : Addr} (ha : AR m a a') (hb : AR m b b') : SR P S st EQ m (sameAddr a b) (sameAddr a' b') := by
  unfold sameAddr
  rw [ar_block hi ha hb, ar_beq hi ha hb]
  split
  · exact .pure rfl
  · refine (sr_frozen hst ha).bind fun m1 l1 x x' e => ?_
    obtain rfl := e
    refine (sr_frozen hst (hb.mono l1)).bind fun m2 l2 y y' e => ?_
    obtain rfl := e
    have ha := (ha.mono l1).mono l2
    have hb := (hb.mono l1).mono l2
    have tl : SR P S st EQ m2 (do
        noView a
        noView b
        if ← mayBeOne a b then return (← choose (.extern "sameAddr.stringBytes" 2)) == 1
        pure false) (do
        noView a'
        noView b'
        if ← mayBeOne a' b' then return (← choose (.extern "sameAddr.stringBytes" 2)) == 1
        pure false) := by
      refine (sr_noView ha).bind fun m3 l3 _ _ _ => (sr_noView (hb.mono l3)).bind fun m4 l4 _ _ _ => (sr_mayBeOne hst ((ha.mono l3).mono l4) ((hb.mono l3).mono l4)).bind fun m5 l5 z z' e => ?_
      obtain rfl := e
      cases z
      · exact .pure rfl
      · exact (sr_choose _).bind fun _ _ n n' e => by obtain rfl := e; exact .pure rfl
    cases x <;> cases y <;> first | exact .halt | exact tl
theorem sr_samePointer (hst : st = true) (hi : Inj m) {o o' q q' : Option Addr} (ho : Opt m o o') (hq : Opt m q q') : SR P S st EQ m (samePointer o q) (samePointer o' q') := by
  cases o <;> cases o' <;> simp only [Opt] at ho <;> cases q <;> cases q' <;> simp only [Opt] at hq <;> first | exact .pure rfl | exact sr_sameAddr hst hi ho hq
theorem sr_forIn {β γ : Type} {f f' : β → γ → Sem (ForInStep γ)} : ∀ (l : List β) {m : Ren} (b : γ), (∀ x ∈ l, ∀ b m', Le m m' → SR P S st EQ m' (f x b) (f' x b)) → SR P S st EQ m (forIn l b f) (forIn l b f')
  | [], _, _, _ => .pure rfl
  | x :: l, m, b, h => by
    rw [List.forIn_cons, List.forIn_cons]
    refine (h x (by simp) b m (.refl _)).bind fun m1 l1 r r' e => ?_
    obtain rfl := e
    cases r with
    | done b => exact .pure rfl
    | yield b => exact sr_forIn l b fun y hy b m' l' => h y (by simp [hy]) b m' (l1.trans l')
theorem sr_typeStr (t : TypeId) : SR P S st EQ m (typeStr t) (typeStr t) := by
  unfold typeStr
  refine (sr_typeInfo t).bind fun _ _ a b e => ?_
  obtain ⟨rfl, _⟩ := e
  dsimp only
  split
  · exact .halt
  · exact .pure rfl
/-- The types' handles are a block of their own. -/
def Hb (P : Program) (m : Ren) : Prop := m P.globals.size = some P.globals.size
theorem Hb.mono {m' : Ren} (h : Hb P m) (l : Le m m') : Hb P m' := l.app _ _ h
end
end Sim
end Go.Proofs.YtbkjjknlphlhlaaDoor
