/- Operations that are alike, on: a method of whatever lies in an interface. -/
import Derived.Test.YtbkjjknlphlhlaaDoorZ19
namespace Go.Proofs.YtbkjjknlphlhlaaDoor
namespace Sim
set_option maxRecDepth 100000

/-! ### a type that is made at run time has no methods -/
theorem word_none (d : TypeDesc) (s : String) (z : Value) (c : Bool) (b : Nat) : (Made.word d s z c b).methods = #[] := rfl
theorem struct_none {info : TypeId → Option TypeInfo} {fs : Array Field} {i : TypeInfo} (h : Made.reckonStruct info fs = some i) : i.methods = #[] := by
  unfold Made.reckonStruct at h
  simp only [bind, Option.bind_eq_some_iff] at h
  obtain ⟨r, _, h⟩ := h
  split at h <;> (cases h; rfl)
theorem reckon_none {info : TypeId → Option TypeInfo} {d : TypeDesc} {i : TypeInfo} (h : Made.reckon info d = some i) : i.methods = #[] := by
  unfold Made.reckon at h
  cases d with
  | struct fs => exact struct_none h
  | pointer e =>
    simp only [bind, Option.bind_eq_some_iff] at h
    obtain ⟨j, _, h⟩ := h
    split at h
    · cases h
    · split at h
      · cases h
      · simp only [Option.bind_eq_some_iff] at h
        obtain ⟨_, _, h⟩ := h
        cases h; rfl
    · simp only [Option.bind_eq_some_iff] at h
      obtain ⟨_, _, h⟩ := h
      cases h; rfl
  | _ => first
    | (cases h; done)
    | (simp only [bind, Option.bind_eq_some_iff] at h
       repeat (obtain ⟨_, _, h⟩ := h)
       rfl)
theorem made_none {T : Tables} {t : TypeId} (ht : ¬ t < T.types.size) : ∀ {n : Nat} {i : TypeInfo}, Made.infoAt T n t = some i → i.methods = #[]
  | 0, i, h => by cases h
  | n + 1, i, h => by
    unfold Made.infoAt at h
    rw [if_neg ht] at h
    obtain ⟨d, _, h⟩ := Option.bind_eq_some_iff.1 h
    exact reckon_none h
def methOk (P : Program) (S : FuncId → Bool) (name : String) : Bool := (List.range P.types.size).all fun t => match P.info? t with
  | none => true
  | some i => (match i.methods.find? (·.name == name) with
    | none => true
    | some x => x.path.all (!·.deref) && (match x.func with
      | some (f, pr) => S f && (pr || (x.path.isEmpty && match P.underlying t with | some (.struct _) => true | _ => false))
      | none => false))
section
variable {P : Program} {S : FuncId → Bool} {st : Bool} {m : Ren}
theorem meth_of {name : String} (h : methOk P S name = true) {t : TypeId} {i : TypeInfo} (hi : P.info? t = some i) {x : Method} (hx : i.methods.find? (·.name == name) = some x) :
    x.path.all (!·.deref) = true ∧ ∃ f pr, x.func = some (f, pr) ∧ S f = true ∧ (pr = true ∨ (x.path = #[] ∧ ∃ fs, P.underlying t = some (.struct fs))) := by
  by_cases ht : t < P.types.size
  · have := List.all_eq_true.1 h t (List.mem_range.2 ht)
    rw [hi] at this
    dsimp only at this
    rw [hx] at this
    dsimp only at this
    rw [Bool.and_eq_true] at this
    refine ⟨this.1, ?_⟩
    obtain ⟨_, h2⟩ := this
    split at h2
    · next f pr e =>
      rw [Bool.and_eq_true, Bool.or_eq_true] at h2
      refine ⟨f, pr, e, h2.1, h2.2.imp id fun h => ?_⟩
      rw [Bool.and_eq_true] at h
      refine ⟨by simpa using h.1, ?_⟩
      have h3 := h.2
      split at h3
      · next fs e2 => exact ⟨fs, e2⟩
      · cases h3
    · cases h2
  · have : i.methods = #[] := by
      unfold Tables.info? at hi
      rw [if_neg ht] at hi
      exact made_none ht hi
    rw [this] at hx; cases hx
def PV (S : FuncId → Bool) (m : Ren) (a b : TypeId × Place) : Prop := a.1 = b.1 ∧ ∃ u u', a.2 = .val u ∧ b.2 = .val u' ∧ VR S m u u'
theorem sr_follow : ∀ (l : List FieldStep) (t : TypeId) {m : Ren} {v v' : Value}, l.all (!·.deref) = true → VR S m v v' → SR P S st (PV S) m (follow l t (.val v)) (follow l t (.val v'))
  | [], _, _, _, _, _, hv => .pure ⟨rfl, _, _, rfl, rfl, hv⟩
  | s :: l, t, m, v, v', hl, hv => by
    simp only [List.all_cons, Bool.and_eq_true, Bool.not_eq_true'] at hl
    unfold follow
    refine (sr_underlying _).bind fun m1 l1 d d' e => ?_
    obtain ⟨rfl, _⟩ := e
    split
    · split
      · next f _ =>
        rw [hl.1]
        cases hv with
        | agg hz hc =>
          exact (sr_part f.type f.offset (VRs.mono ⟨hz, hc⟩ l1)).bind fun m2 l2 a a' ha => sr_follow l f.type (by simpa using hl.2) ha
        | _ => exact .halt
      · exact .halt
    · exact .halt
/-- A method, and whose it is. -/
def FV (S : FuncId → Bool) (m : Ren) (a b : FuncId × Value) : Prop := a.1 = b.1 ∧ S a.1 = true ∧ VR S m a.2 b.2
theorem sr_method {name : String} (h : methOk P S name = true) (n : Nat) (t : TypeId) {v v' : Value} (hv : VR S m v v') : SR P S st (FV S) m (method (n + 1) t v name) (method (n + 1) t v' name) := by
  unfold method
  refine (sr_typeInfo t).bind fun m1 l1 i i' e => ?_
  obtain ⟨rfl, hi⟩ := e
  split
  · next x hx =>
    obtain ⟨hp, f, pr, hf, hS, hr⟩ := meth_of h hi hx
    have fin : ∀ (s s' : Sem Value) (m2 : Ren), SR P S st (VR S) m2 s s' → SR P S st (FV S) m2 (do pure (f, ← s)) (do pure (f, ← s')) := fun s s' m2 h => h.bind fun _ _ a b e => .pure ⟨rfl, hS, e⟩
    rcases hr with rfl | ⟨hpath, fs, hfs⟩
    · refine (sr_follow x.path.toList t (by simpa using hp) (hv.mono l1)).bind fun m2 l2 a a' ha => ?_
      obtain ⟨xt, px⟩ := a
      obtain ⟨xt', px'⟩ := a'
      obtain ⟨h1, u, u', h2, h3, hu⟩ := ha
      dsimp only at h1 h2 h3
      subst h1; subst h2; subst h3
      dsimp only
      rw [hf]
      dsimp only
      refine fin _ _ _ ?_
      unfold receiverAt
      refine (sr_underlying _).bind fun m3 l3 d d' e => ?_
      obtain ⟨rfl, _⟩ := e
      cases d <;> first | exact .halt | exact .pure (hu.mono l3)
    · rw [hpath]
      show SR P S st (FV S) m1 (match (t, Place.val v) with | (xt, x_1) => _) (match (t, Place.val v') with | (xt, x_1) => _)
      dsimp only
      rw [hf]
      dsimp only
      refine fin _ _ _ ?_
      unfold receiverAt
      refine (sr_underlying _).bind fun m3 l3 d d' e => ?_
      obtain ⟨rfl, e⟩ := e
      rw [hfs] at e
      cases e
      cases pr
      · exact .pure ((hv.mono l1).mono l3)
      · exact .halt
  · exact .halt
end
end Sim
end Go.Proofs.YtbkjjknlphlhlaaDoor
namespace Go.Proofs.YtbkjjknlphlhlaaDoor
namespace Sim
open Go.Extern Go.Extern.Rtype
set_option maxRecDepth 100000

section
variable {P : Program} {S : FuncId → Bool} {st : Bool} {m : Ren}
theorem VRs.nth1 {a a' : Value} {l l' : List Value} (h : VRs S m ⟨a :: l⟩ ⟨a' :: l'⟩) : VR S m a a' ∧ VRs S m ⟨l⟩ ⟨l'⟩ := by
  refine ⟨by simpa using h.2 0 (by simp), by have := h.1; simpa using this, fun i hi => ?_⟩
  have := h.2 (i + 1) (by simpa using hi)
  simpa [Array.getD_eq_getD_getElem?] using this
/-- A row of one, of two, of three: both, or neither. -/
theorem VRs.one {c c' : Array Value} (h : VRs S m c c') : (∃ x x', c = #[x] ∧ c' = #[x'] ∧ VR S m x x') ∨ c = ⟨[]⟩ ∨ ∃ a b l, c = ⟨a :: b :: l⟩ := by
  obtain ⟨l⟩ := c
  obtain ⟨l'⟩ := c'
  rcases l with _ | ⟨a, _ | ⟨b, l⟩⟩
  · exact .inr (.inl rfl)
  · rcases l' with _ | ⟨a', _ | ⟨b', l'⟩⟩
    · exact absurd h.1 (by simp)
    · exact .inl ⟨a, a', rfl, rfl, h.nth1.1⟩
    · exact absurd h.1 (by simp)
  · exact .inr (.inr ⟨_, _, _, rfl⟩)
theorem VRs.two {c c' : Array Value} (h : VRs S m c c') : (∃ x y x' y', c = #[x, y] ∧ c' = #[x', y'] ∧ VR S m x x' ∧ VR S m y y') ∨ c = ⟨[]⟩ ∨ (∃ a, c = ⟨[a]⟩) ∨ ∃ a b d l, c = ⟨a :: b :: d :: l⟩ := by
  obtain ⟨l⟩ := c
  obtain ⟨l'⟩ := c'
  rcases l with _ | ⟨a, _ | ⟨b, _ | ⟨d, l⟩⟩⟩
  · exact .inr (.inl rfl)
  · exact .inr (.inr (.inl ⟨_, rfl⟩))
  · rcases l' with _ | ⟨a', _ | ⟨b', _ | ⟨d', l'⟩⟩⟩
    · exact absurd h.1 (by simp)
    · exact absurd h.1 (by simp)
    · exact .inl ⟨a, b, a', b', rfl, rfl, h.nth1.1, h.nth1.2.nth1.1⟩
    · exact absurd h.1 (by simp)
  · exact .inr (.inr (.inr ⟨_, _, _, _, rfl⟩))
theorem VRs.three {c c' : Array Value} (h : VRs S m c c') : (∃ x y z x' y' z', c = #[x, y, z] ∧ c' = #[x', y', z'] ∧ VR S m x x' ∧ VR S m y y' ∧ VR S m z z') ∨ c = ⟨[]⟩ ∨ (∃ a, c = ⟨[a]⟩) ∨ (∃ a b, c = ⟨[a, b]⟩) ∨ ∃ a b d e l, c = ⟨a :: b :: d :: e :: l⟩ := by
  obtain ⟨l⟩ := c
  obtain ⟨l'⟩ := c'
  rcases l with _ | ⟨a, _ | ⟨b, _ | ⟨d, _ | ⟨e, l⟩⟩⟩⟩
  · exact .inr (.inl rfl)
  · exact .inr (.inr (.inl ⟨_, rfl⟩))
  · exact .inr (.inr (.inr (.inl ⟨_, _, rfl⟩)))
  · rcases l' with _ | ⟨a', _ | ⟨b', _ | ⟨d', _ | ⟨e', l'⟩⟩⟩⟩
    · exact absurd h.1 (by simp)
    · exact absurd h.1 (by simp)
    · exact absurd h.1 (by simp)
    · exact .inl ⟨a, b, d, a', b', d', rfl, rfl, h.nth1.1, h.nth1.2.nth1.1, h.nth1.2.nth1.2.nth1.1⟩
    · exact absurd h.1 (by simp)
  · exact .inr (.inr (.inr (.inr ⟨_, _, _, _, _, rfl⟩)))

/-! ### types -/
theorem sr_if {b : Bool} {u : Unsupported} (hu : tame (.unsupported u) = true) : SR P S st UU m (if b = true then unsupported u else pure ()) (if b = true then unsupported u else pure ()) := by
  cases b
  · exact .pure trivial
  · exact .halt hu
theorem sr_noPack (w : String) (t : TypeId) : SR P S st UU m (noPack w t) (noPack w t) := sr_prog (sr_if rfl)
theorem sr_noPackHeld (w : String) (t : TypeId) : SR P S st UU m (noPackHeld w t) (noPackHeld w t) := sr_prog (sr_prog (sr_if rfl))
theorem sr_noPackNamed (w : String) (t : TypeId) : SR P S st UU m (noPackNamed w t) (noPackNamed w t) := sr_prog (sr_prog (sr_if rfl))
theorem sr_noPackMethods (w : String) (t : TypeId) : SR P S st UU m (noPackMethods w t) (noPackMethods w t) := sr_prog (sr_prog (sr_if rfl))
theorem sr_spelt (t : TypeId) : SR P S st EQ m (spelt t) (spelt t) := (sr_noPackNamed _ t).bind fun _ _ _ _ _ => sr_typeStr t
theorem sr_under (t : TypeId) : SR P S st EQ m (under t) (under t) := (sr_typeInfo t).bind fun m1 l1 i i' e => by
  obtain ⟨rfl, _⟩ := e
  split
  · exact (sr_typeInfo _).bind fun _ _ j j' e => by obtain ⟨rfl, _⟩ := e; exact .pure rfl
  · exact .pure rfl
theorem sr_kind (t : TypeId) : SR P S st EQ m (kind t) (kind t) := (sr_under t).bind fun m1 l1 i i' e => by
  obtain rfl := e
  dsimp only
  split <;> first | exact .pure rfl | exact .halt
theorem sr_hasName (t : TypeId) : SR P S st EQ m (hasName t) (hasName t) := (sr_typeInfo t).bind fun m1 l1 i i' e => by
  obtain ⟨rfl, _⟩ := e
  split <;> exact .pure rfl
theorem sr_elem? (t : TypeId) : SR P S st EQ m (elem? t) (elem? t) := (sr_under t).bind fun m1 l1 i i' e => by
  obtain rfl := e
  split <;> exact .pure rfl
theorem sr_implements (T V : TypeId) : SR P S st EQ m (implements T V) (implements T V) := (sr_noPackMethods _ V).bind fun _ _ _ _ _ => (sr_noPackMethods _ T).bind fun _ _ _ _ _ => (sr_under T).bind fun _ _ i i' e => by
  obtain rfl := e
  refine (sr_under V).bind fun _ _ j j' e => ?_
  obtain rfl := e
  split
  · exact .pure rfl
  · exact (sr_typeInfo V).bind fun _ _ k k' e => by obtain ⟨rfl, _⟩ := e; exact .pure rfl
  · exact .pure rfl
theorem sr_direct (T V : TypeId) : SR P S st EQ m (directlyAssignable T V) (directlyAssignable T V) := by
  unfold directlyAssignable
  split
  · exact .pure rfl
  · refine (sr_hasName T).bind fun _ _ a a' e => ?_
    obtain rfl := e
    refine (sr_hasName V).bind fun _ _ b b' e => ?_
    obtain rfl := e
    have tl : ∀ {m : Ren}, SR P S st EQ m (do
        let (t, ti) ← under T
        let (v, vi) ← under V
        match ti.desc, vi.desc with
        | .chan _ e, .chan .both e' => pure (t == v || e == e')
        | _, _ => pure (t == v)) (do
        let (t, ti) ← under T
        let (v, vi) ← under V
        match ti.desc, vi.desc with
        | .chan _ e, .chan .both e' => pure (t == v || e == e')
        | _, _ => pure (t == v)) := (sr_under T).bind fun _ _ i i' e => by
      obtain rfl := e
      refine (sr_under V).bind fun _ _ j j' e => ?_
      obtain rfl := e
      dsimp only
      split <;> exact .pure rfl
    cases a <;> cases b <;> first | exact .pure rfl | exact tl
theorem sr_cutType (n : String) : SR P S st EQ m (cutType n) (cutType n) := sr_prog (by
  split
  · exact .pure rfl
  · exact .halt)
theorem sr_panicString {α α' : Type} {A : Ren → α → α' → Prop} (n : String) : SR P S st A m (panicString n) (panicString n) := sr_prog .halt
theorem sr_handle (hb : Hb P m) (t : TypeId) : SR P S st (VR S) m (handle t) (handle t) := sr_prog (.pure (vr_handle hb t))
theorem sr_ofHandle (hi : Inj m) (hb : Hb P m) {v v' : Value} (h : VR S m v v') : SR P S st EQ m (ofHandle v) (ofHandle v') := sr_prog (by
  by_cases ho : v = .tuple #[]
  · subst ho; exact .halt
  have e : handleType P v' = handleType P v := by
    cases h with
    | ptr h =>
      rename_i a a'
      unfold handleType
      have : a'.block = P.globals.size ↔ a.block = P.globals.size := ⟨fun e => hi _ _ _ h.1 (by rw [e]; exact hb), fun e => by have := h.1; rw [e, show m P.globals.size = some P.globals.size from hb] at this; exact (Option.some.inj this).symm⟩
      simp only [beq_iff_eq, this, h.2.1]
    | hole _ => exact absurd rfl ho
    | _ => rfl
  rw [e]
  split
  · exact .pure rfl
  · exact .halt)
theorem sr_toType (hb : Hb P m) (t : TypeId) : SR P S st (VR S) m (ReflectliteType.toType t) (ReflectliteType.toType t) := (sr_cutType _).bind fun m1 l1 n n' e => by
  obtain rfl := e
  refine (sr_handle (hb.mono l1) t).bind fun _ _ h h' e => .pure (.iface _ ?_)
  have := VRs.empty.push e; exact .agg this.1 this.2
theorem sr_ofRtype (hi : Inj m) (hb : Hb P m) {v v' : Value} (h : VR S m v v') : SR P S st EQ m (ReflectliteType.ofRtype v) (ReflectliteType.ofRtype v') := by
  unfold ReflectliteType.ofRtype
  cases h with
  | agg hz hc =>
    rcases VRs.one ⟨hz, hc⟩ with ⟨x, x', rfl, rfl, hx⟩ | rfl | ⟨_, _, _, rfl⟩
    · exact (sr_ofHandle hi hb hx).bind fun _ _ t t' e => by obtain rfl := e; exact (sr_noPack _ t).bind fun _ _ _ _ _ => .pure rfl
    · exact .halt
    · exact .halt
  | _ => exact .halt
end
end Sim
end Go.Proofs.YtbkjjknlphlhlaaDoor
namespace Go.Proofs.YtbkjjknlphlhlaaDoor
namespace Sim
open Go.Extern Go.Extern.Rtype
set_option maxRecDepth 100000

/-- An entry that does alike what it is given alike. -/
def EntryOk (P : Program) (S : FuncId → Bool) (e : Array Value → Sem Value) : Prop := ∀ {st : Bool} {m : Ren} {l l' : Array Value}, Inj m → Hb P m → VRs S m l l' → SR P S st (VR S) m (e l) (e l')
section
variable {P : Program} {S : FuncId → Bool} {st : Bool} {m : Ren}
theorem VRs.agg3 {a b c a' b' c' : Value} (h1 : VR S m a a') (h2 : VR S m b b') (h3 : VR S m c c') : VR S m (.agg #[a, b, c]) (.agg #[a', b', c']) := by
  have := ((VRs.empty.push h1).push h2).push h3
  exact .agg this.1 this.2
theorem sr_mk (hb : Hb P m) (t : TypeId) {a a' : Addr} (ha : AR m a a') (f : Nat) : SR P S st (VR S) m (ReflectliteValue.mk t a f) (ReflectliteValue.mk t a' f) := (sr_handle hb t).bind fun m1 l1 h h' e => (sr_kind t).bind fun m2 l2 k k' e2 => by
  obtain rfl := e2
  exact .pure (VRs.agg3 (e.mono l2) (.ptr ((ha.mono l1).mono l2)) (.int _ _))
theorem sr_unpack (hb : Hb P m) {v v' : Value} (h : VR S m v v') : SR P S st (VR S) m (ReflectliteValue.unpack v) (ReflectliteValue.unpack v') := by
  cases h with
  | nilIface => exact .pure (VRs.agg3 .nilp .nilp (.int _ _))
  | iface t h => exact (sr_newVar t h).bind fun m1 l1 a a' ha => sr_mk (hb.mono l1) t ha 0
  | _ => exact .halt
theorem sr_valueError {α α' : Type} {A : Ren → α → α' → Prop} (n : String) (k : Nat) : SR P S st A m (ReflectliteValue.valueError n k) (ReflectliteValue.valueError n k) := (sr_cutType _).bind fun m1 l1 t t' e => by
  obtain rfl := e
  refine (sr_elemOf t).bind fun m2 l2 e e' he => ?_
  obtain rfl := he
  refine (sr_newVar e ?_).bind fun _ _ _ _ _ => .halt
  have := ((VRs.empty (S := S) (m := m2)).push (VR.string n.toUTF8)).push (VR.int .u8 (Int.ofNat k))
  exact .agg this.1 this.2
theorem dead_of {α : Type} {s : Sem α} (h : SR P (fun _ => false) false (fun _ (_ _ : α) => False) (fun _ => none) s s) (w : World) : ∃ x w1, s.run P w = .halt x w1 ∧ tame x = true := by
  have hh : HR (fun _ => false) false (fun _ => none) w w := ⟨(fun b b' e => nomatch e), (fun a b c e => nomatch e)⟩
  rcases h.ends hh with ⟨n, w1, hr⟩ | ⟨x, w1, hr, hx⟩
  · obtain ⟨_, _, h⟩ := h.yields hh hr
    exact h.elim
  · exact ⟨x, w1, hr, hx⟩
def PR (m : Ren) (a b : Option (TypeId × Addr × Nat)) : Prop := (a = none ∧ b = none) ∨ ∃ t x x' f, a = some (t, x, f) ∧ b = some (t, x', f) ∧ AR m x x'
theorem sr_partsAny (hi : Inj m) (hb : Hb P m) {v v' : Value} (h : VR S m v v') : SR P S st PR m (ReflectliteValue.partsAny v) (ReflectliteValue.partsAny v') := by
  cases h with
  | agg hz hc =>
    rcases VRs.three ⟨hz, hc⟩ with ⟨x, y, z, x', y', z', rfl, rfl, hx, hy, hz⟩ | rfl | ⟨_, rfl⟩ | ⟨_, _, rfl⟩ | ⟨_, _, _, _, _, rfl⟩
    · have key : ∀ {a a' : Addr} (f : Int), AR m a a' → SR P S st PR m (do pure (some (← ofHandle x, a, f.toNat))) (do pure (some (← ofHandle x', a', f.toNat))) := fun f ha => (sr_ofHandle hi hb hx).bind fun m1 l1 t t' e => by
        obtain rfl := e
        exact .pure (.inr ⟨_, _, _, _, rfl, rfl, ha.mono l1⟩)
      unfold ReflectliteValue.partsAny
      cases hz with
      | int k n =>
        cases k <;> first
          | (rcases n with (_ | n) | n <;> first | exact .pure (.inl ⟨rfl, rfl⟩) | (cases hy <;> first | exact .halt | exact key _ ‹_›))
          | exact .halt
      | _ => exact .halt
    all_goals exact .halt
  | _ => exact .halt
theorem sr_parts (hi : Inj m) (hb : Hb P m) {v v' : Value} (h : VR S m v v') : SR P S st PR m (ReflectliteValue.parts v) (ReflectliteValue.parts v') := (sr_partsAny hi hb h).bind fun m1 l1 a b e => by
  rcases e with ⟨rfl, rfl⟩ | ⟨t, x, x', f, rfl, rfl, hx⟩
  · exact .pure (.inl ⟨rfl, rfl⟩)
  · exact (sr_noPack _ t).bind fun m2 l2 _ _ _ => .pure (.inr ⟨_, _, _, _, rfl, rfl, hx.mono l2⟩)
theorem sr_vmethod {zero : Sem Value} {f : TypeId → Addr → Nat → Nat → Sem Value} (hz : ∀ {st : Bool} {m : Ren}, SR P S st (VR S) m zero zero) (hf : ∀ {st : Bool} {m : Ren} (t : TypeId) {a a' : Addr} (g k : Nat), Inj m → Hb P m → AR m a a' → SR P S st (VR S) m (f t a g k) (f t a' g k)) :
    EntryOk P S (ReflectliteValue.method zero f) ∧ EntryOk P S (ReflectliteValue.methodAny zero f) := by
  refine ⟨fun {st m l l'} hi hb h => ?_, fun {st m l l'} hi hb h => ?_⟩ <;> rcases h.one with ⟨x, x', rfl, rfl, hx⟩ | rfl | ⟨_, _, _, rfl⟩ <;> first
    | exact .halt
    | (refine SR.bind (A := PR) ?_ fun m1 l1 a b e => ?_
       · first | exact sr_parts hi hb hx | exact sr_partsAny hi hb hx
       · rcases e with ⟨rfl, rfl⟩ | ⟨t, x, x', g, rfl, rfl, hx⟩
         · exact hz
         · exact hf t g _ (l1.inj hi) (hb.mono l1) hx)
theorem sr_isNil (t : TypeId) {a a' : Addr} (g k : Nat) (ha : AR m a a') : SR P S st (VR S) m (ReflectliteValue.isNil t a g k) (ReflectliteValue.isNil t a' g k) := by
  unfold ReflectliteValue.isNil
  have tl : SR P S st (VR S) m (do
      match ← loadVar t a with
      | .chan none | .nilFunc | .nilIface | .map none | .pointer none | .slice none _ _ => pure (.bool true)
      | _ => pure (.bool false)) (do
      match ← loadVar t a' with
      | .chan none | .nilFunc | .nilIface | .map none | .pointer none | .slice none _ _ => pure (.bool true)
      | _ => pure (.bool false)) := (sr_loadVar t ha).bind fun _ _ v v' h => by
    cases h with
    | chan r => cases r <;> exact .pure (.bool _)
    | @hole v' h => cases v' <;> first | exact h.elim | exact .pure (.bool _) | (rename_i a _ _; cases a <;> first | exact h.elim | exact .pure (.bool _)) | (rename_i a; cases a <;> first | exact h.elim | exact .pure (.bool _))
    | _ => exact .pure (.bool _)
  by_cases h : (!([18, 19, 20, 21, 22, 23, 26].contains k)) = true
  · rw [if_pos h, if_pos h]
    exact SR.bind (A := fun _ (_ _ : Unit) => False) (sr_valueError _ _) fun m1 l1 _ _ h => h.elim
  · rw [if_neg h, if_neg h]
    exact tl
theorem sr_velem (hb : Hb P m) (t : TypeId) {a a' : Addr} (g k : Nat) (ha : AR m a a') : SR P S st (VR S) m (ReflectliteValue.elem t a g k) (ReflectliteValue.elem t a' g k) := by
  by_cases h20 : k = 20
  · subst h20
    refine (sr_loadVar t ha).bind fun m1 l1 v v' h => (sr_elem? t).bind fun m2 l2 e e' _ => ?_
    exact sr_unpack ((hb.mono l1).mono l2) (h.mono l2)
  · by_cases h22 : k = 22
    · subst h22
      refine (sr_loadVar t ha).bind fun m1 l1 v v' h => (sr_elem? t).bind fun m2 l2 e e' he => ?_
      obtain rfl := he
      have ve : ∀ {α α' : Type} {A : Ren → α → α' → Prop} {n : String} {k : Nat}, SR P S st A m2 (ReflectliteValue.valueError n k) (ReflectliteValue.valueError n k) := sr_valueError _ _
      cases h with
      | nilp => exact .pure (VRs.agg3 .nilp .nilp (.int _ _))
      | ptr h => cases e with
        | none => exact ve
        | some e => exact sr_mk ((hb.mono l1).mono l2) e (h.mono l2) _
      | hole _ => exact .dead (dead_of (sr_valueError (P := P) (S := fun _ => false) (st := false) (m := fun _ => none) (A := fun _ (_ _ : Value) => False) "reflectlite.Value.Elem" 22))
      | _ => exact ve
    · have hk : (k != 20 && k != 22) = true := by simp [h20, h22]
      unfold ReflectliteValue.elem
      rw [if_pos hk, if_pos hk]
      exact SR.bind (A := fun _ (_ _ : Unit) => False) (sr_valueError _ _) fun m1 l1 _ _ h => h.elim
theorem sr_set (hi : Inj m) (hb : Hb P m) {l l' : Array Value} (h : VRs S m l l') : SR P S st (VR S) m (ReflectliteValue.set l) (ReflectliteValue.set l') := by
  rcases h.two with ⟨x, y, x', y', rfl, rfl, hx, hy⟩ | rfl | ⟨_, rfl⟩ | ⟨_, _, _, _, rfl⟩
  · unfold ReflectliteValue.set
    refine (sr_parts hi hb hx).bind fun m1 l1 p p' e => (sr_parts (l1.inj hi) (hb.mono l1) (hy.mono l1)).bind fun m2 l2 q q' e2 => ?_
    rcases e with ⟨rfl, rfl⟩ | ⟨dst, a, a', f, rfl, rfl, ha⟩
    · exact .halt
    rcases e2 with ⟨rfl, rfl⟩ | ⟨src, b, b', f', rfl, rfl, hb2⟩
    · exact .halt
    dsimp only
    have fin : ∀ {s s' : Sem Unit} {m : Ren}, SR P S st UU m s s' → SR P S st (VR S) m (do s; pure (.tuple #[])) (do s'; pure (.tuple #[])) := fun h => h.bind fun _ _ _ _ _ => .pure .undef
    have tl : SR P S st (VR S) m2 (do
        let val ← loadVar src b
        if ← directlyAssignable dst src then storeVar dst a val
        else if ← implements dst src then
          if (← kind src) == 20 then
            match val with
            | .nilIface => unsupported (.noEntry "extern/reflectlite: a nil value of one interface type handed on as a value of another")
            | _ => storeVar dst a val
          else storeVar dst a (.iface src val)
        else panicString ("reflectlite.Set: value of type " ++ (← spelt src) ++ " is not assignable to type " ++ (← spelt dst))
        pure (.tuple #[])) (do
        let val ← loadVar src b'
        if ← directlyAssignable dst src then storeVar dst a' val
        else if ← implements dst src then
          if (← kind src) == 20 then
            match val with
            | .nilIface => unsupported (.noEntry "extern/reflectlite: a nil value of one interface type handed on as a value of another")
            | _ => storeVar dst a' val
          else storeVar dst a' (.iface src val)
        else panicString ("reflectlite.Set: value of type " ++ (← spelt src) ++ " is not assignable to type " ++ (← spelt dst))
        pure (.tuple #[])) := by
      refine (sr_loadVar src hb2).bind fun m3 l3 v v' hv => (sr_direct dst src).bind fun m4 l4 q q' e => ?_
      obtain rfl := e
      have ha := ((ha.mono l2).mono l3).mono l4
      have hv := hv.mono l4
      cases q
      · refine (sr_implements dst src).bind fun m5 l5 q q' e => ?_
        obtain rfl := e
        have ha := ha.mono l5
        have hv := hv.mono l5
        cases q
        · exact (sr_spelt src).bind fun m6 l6 x x' e => by
            obtain rfl := e
            exact (sr_spelt dst).bind fun m7 l7 y y' e => by
              obtain rfl := e
              exact SR.bind (A := fun _ (_ _ : Unit) => False) (sr_panicString _) fun _ _ _ _ h => h.elim
        · refine (sr_kind src).bind fun m6 l6 k k' e => ?_
          obtain rfl := e
          have ha := ha.mono l6
          have hv := hv.mono l6
          by_cases hk : (k == 20) = true
          · rw [if_pos hk, if_pos hk]
            have := fin (sr_storeVar (st := st) (P := P) dst ha hv)
            cases hv <;> first | exact .halt | exact this | (rename_i h; cases v' <;> first | exact h.elim | exact this)
          · rw [if_neg hk, if_neg hk]
            exact fin (sr_storeVar dst ha (.iface src hv))
      · exact fin (sr_storeVar dst ha hv)
    split
    · exact .halt
    · exact tl
  all_goals exact .halt
theorem sr_typeOf : EntryOk P S ReflectliteType.typeOf := fun {st m l l'} hi hb h => by
  rcases h.one with ⟨x, x', rfl, rfl, hx⟩ | rfl | ⟨_, _, _, rfl⟩
  · cases hx with
    | nilIface => exact .pure .nilIface
    | iface t h => exact sr_toType hb t
    | _ => exact .halt
  all_goals exact .halt
theorem sr_rmethod {f : TypeId → Sem Value} (hf : ∀ {st : Bool} {m : Ren} (t : TypeId), Hb P m → SR P S st (VR S) m (f t) (f t)) : EntryOk P S (ReflectliteType.method f) := fun {st m l l'} hi hb h => by
  rcases h.one with ⟨x, x', rfl, rfl, hx⟩ | rfl | ⟨_, _, _, rfl⟩
  · exact (sr_ofRtype hi hb hx).bind fun m1 l1 t t' e => by obtain rfl := e; exact hf t (hb.mono l1)
  all_goals exact .halt
theorem sr_abiMethod {f : TypeId → Sem Value} (hf : ∀ {st : Bool} {m : Ren} (t : TypeId), Hb P m → SR P S st (VR S) m (f t) (f t)) : EntryOk P S (ReflectliteType.abiMethod f) := fun {st m l l'} hi hb h => by
  rcases h.one with ⟨x, x', rfl, rfl, hx⟩ | rfl | ⟨_, _, _, rfl⟩
  · exact (sr_ofHandle hi hb hx).bind fun m1 l1 t t' e => by obtain rfl := e; exact (sr_noPack _ t).bind fun m2 l2 _ _ _ => hf t ((hb.mono l1).mono l2)
  all_goals exact .halt
theorem sr_relation (n : String) {f : TypeId → TypeId → Sem Bool} (hf : ∀ {st : Bool} {m : Ren} (t u : TypeId), SR P S st EQ m (f t u) (f t u)) : EntryOk P S (ReflectliteType.relation n f) := fun {st m l l'} hi hb h => by
  rcases h.two with ⟨x, y, x', y', rfl, rfl, hx, hy⟩ | rfl | ⟨_, rfl⟩ | ⟨_, _, _, _, rfl⟩
  · cases hy with
    | nilIface => exact sr_panicString _
    | iface t hu =>
        refine (sr_ofRtype hi hb hu).bind fun m1 l1 u u' e => ?_
        obtain rfl := e
        refine (sr_ofRtype (l1.inj hi) (hb.mono l1) (hx.mono l1)).bind fun m2 l2 t t' e => ?_
        obtain rfl := e
        exact (hf _ _).bind fun _ _ b b' e => by obtain rfl := e; exact .pure (.bool _)
    | _ => exact .halt
  all_goals exact .halt
end
end Sim
end Go.Proofs.YtbkjjknlphlhlaaDoor
namespace Go.Proofs.YtbkjjknlphlhlaaDoor
namespace Sim
open Go.Extern
set_option maxRecDepth 100000

/-- What is no row of Go, but an entry of the model's own. -/
def ExtHere (P : Program) (S : FuncId → Bool) (f : FuncId) : Prop := ∃ fn, P.funcs[f]? = some fn ∧ (fn.name == "runtime.NumGoroutine") = false ∧ fn.body.isNone = true ∧ Extern.findNext fn = none ∧
  ((∃ e, Extern.find fn = some e ∧ EntryOk P S e) ∨ (Extern.find fn = none ∧ (fn.name.endsWith ".init" && !fn.name.startsWith "(" && !fn.name.startsWith "gosem.") = false))
def exoB (P : Program) (S : FuncId → Bool) (o : Oper) : Bool :=
  o.op.operands.all (opndB P S) && match o.op with
  | .binOp op .. => (op matches .eql | .neq)
  | .typeAssert _ _ a ok => !ok || zdry P a
  | .nilCheck _ => true
  | .call c => (match c.callee with | .invoke _ name => methOk P S name | _ => false)
  | _ => false
def opX (P : Program) (S : FuncId → Bool) (st : Bool) (o : Oper) : Bool := opB P S st o || (st && exoB P S o)
def isPanic (o : Oper) : Bool := o.op matches .panic _

section
variable {P : Program} {S : FuncId → Bool} {st : Bool} {m : Ren}
theorem sr_callX (hi : Inj m) (hb : st = true → Hb P m) (hS : ∀ f, S f = true → FnHere P f ∨ (st = true ∧ ExtHere P S f)) {f : FuncId} (hf : S f = true) {l l' : Array Value} (h : VRs S m l l') : SR P S st (NB (FnHere P) S) m (callFunc f l) (callFunc f l') := by
  rcases hS f hf with hh | ⟨hst, hh⟩
  · obtain ⟨fn, h1, h2, h3⟩ := hh
    unfold callFunc
    refine sr_prog ?_
    rw [h1]
    dsimp only
    rw [h2, h3]
    exact .pure (.enter hf h ⟨fn, h1, h2, h3⟩)
  · obtain ⟨fn, h1, h2, h3, h4, h5⟩ := hh
    unfold callFunc
    refine sr_prog ?_
    rw [h1]
    dsimp only
    rw [h2, h3, h4]
    refine SR.ext hf ?_
    rcases h5 with ⟨e, h5, h6⟩ | ⟨h5, h6⟩
    · show SR P S st (NB (FnHere P) S) m (match Extern.find fn with | some e => _ | none => _) (match Extern.find fn with | some e => _ | none => _)
      rw [h5]
      exact sr_v (h6 hi (hb hst) h)
    · show SR P S st (NB (FnHere P) S) m (match Extern.find fn with | some e => _ | none => _) (match Extern.find fn with | some e => _ | none => _)
      rw [h5]
      dsimp only
      rw [h6]
      exact .halt
theorem invoke_method (n : String) (v : Value) (l : Array Value) : invoke (.fn (.method n) #[]) (#[v] ++ l) = callMethod v n ((#[v] ++ l).extract 1 (#[v] ++ l).size) := by
  have h : (#[v] ++ l)[0]? = some v := by simp [Array.getElem?_append]
  unfold invoke
  dsimp only
  rw [h]
theorem sr_execX (hG : Gl P m) (hb : st = true → Hb P m) (hS : ∀ f, S f = true → FnHere P f ∨ (st = true ∧ ExtHere P S f)) {o : Oper} (ho : opX P S st o = true) {ρ ρ' : Operand → Value} (hρ : ∀ x, opndB P S x = true → VR S m (ρ x) (ρ' x)) (hc : ∀ v, ρ (.const v) = v ∧ ρ' (.const v) = v) : SR P S st (NB (FnHere P) S) m (execOp ρ o) (execOp ρ' o) := by
  have hC : ∀ {m' : Ren}, Le m m' → ∀ {f : FuncId} {l l' : Array Value}, S f = true → VRs S m' l l' → SR P S st (NB (FnHere P) S) m' (callFunc f l) (callFunc f l') := fun {_} l {_ _ _} hs h => sr_callX (l.inj hG.inj) (fun e => (hb e).mono l) hS hs h
  unfold opX at ho
  rw [Bool.or_eq_true] at ho
  rcases ho with ho | ho
  · exact sr_execOpB hG (hC (.refl _)) ho hρ hc
  rw [Bool.and_eq_true] at ho
  obtain ⟨hst, ho⟩ := ho
  obtain ⟨dst, op, type, pos, after, guard⟩ := o
  unfold exoB at ho
  rw [Bool.and_eq_true] at ho
  obtain ⟨hop, ho⟩ := ho
  have hop : ∀ x ∈ op.operands, VR S m (ρ x) (ρ' x) := fun x hx => hρ x (by
    obtain ⟨i, hi, rfl⟩ := Array.mem_iff_getElem.1 hx
    exact Array.all_eq_true.1 hop i hi)
  dsimp only at ho hop
  unfold execOp
  cases op with
  | binOp op t x y yt =>
    have h1 := hop x (by simp [Op.operands]); have h2 := hop y (by simp [Op.operands])
    exact sr_v (sr_eq2 hst hG h1 h2 op t x y (by cases op <;> first | exact .inl rfl | exact .inr rfl | (cases ho; done)))
  | typeAssert x xt a ok =>
    have h1 := hop x (by simp [Op.operands])
    exact sr_v (sr_typeAssert h1 xt a ok ho (hb hst))
  | nilCheck x =>
    have h1 := hop x (by simp [Op.operands])
    dsimp only
    generalize ρ x = v at h1 ⊢; generalize ρ' x = v' at h1 ⊢
    cases h1 with
    | nilp => exact .program .halt
    | nilIface => exact .program .halt
    | nilFunc => exact .program .halt
    | ptr h => exact .pure (.value (.ptr h))
    | func hs hz hc => exact .pure (.value (.func hs hz hc))
    | bool b => exact .pure (.value (.bool b))
    | int k n => exact .pure (.value (.int k n))
    | string s => exact .pure (.value (.string s))
    | nils l c => exact .pure (.value (.nils l c))
    | slice l c h => exact .pure (.value (.slice l c h))
    | ghost => exact .pure (.value .ghost)
    | chan r => exact .pure (.value (.chan r))
    | iface t h => exact .pure (.value (.iface t h))
    | agg hz hc => exact .pure (.value (.agg hz hc))
    | tuple hz hc => exact .pure (.value (.tuple hz hc))
    | nilMap => exact .pure (.value .nilMap)
    | jfunc f a c => exact .dead fun w => ⟨_, _, rfl, rfl⟩
    | hole h => cases v' with
      | pointer a => cases a with
        | none => exact h.elim
        | some _ => exact .pure (.value (.hole h))
      | _ => first | exact h.elim | exact SR.pure (NB.value (VR.hole h))
  | call c =>
    obtain ⟨callee, args, ts⟩ := c
    have ha : VRs S m (args.map ρ) (args.map ρ') := VRs.map fun x hx => hop x (by simp [Op.operands, Call.operands, hx])
    cases callee with
    | invoke r n =>
      have h1 := hop r (by simp [Op.operands, Call.operands])
      dsimp only at ho
      show SR P S st (NB (FnHere P) S) m (invoke (.fn (.method n) #[]) (#[ρ r] ++ args.map ρ)) (invoke (.fn (.method n) #[]) (#[ρ' r] ++ args.map ρ'))
      rw [invoke_method, invoke_method]
      have hall : VRs S m (#[ρ r] ++ args.map ρ) (#[ρ' r] ++ args.map ρ') := (VRs.empty.push h1).append ha
      rw [← hall.1]
      have hx := hall.extract 1 (#[ρ r] ++ args.map ρ).size
      generalize (#[ρ r] ++ args.map ρ).extract 1 (#[ρ r] ++ args.map ρ).size = l at hx ⊢
      generalize (#[ρ' r] ++ args.map ρ').extract 1 (#[ρ r] ++ args.map ρ).size = l' at hx ⊢
      generalize ρ r = v at h1 ⊢; generalize ρ' r = v' at h1 ⊢
      unfold callMethod
      cases h1 with
      | iface t hv =>
        refine sr_prog ?_
        refine (sr_method ho (P.types.size + 99) t hv).bind fun m1 l1 a a' e => ?_
        obtain ⟨f, u⟩ := a
        obtain ⟨f', u'⟩ := a'
        obtain ⟨h2, h3, h4⟩ := e
        dsimp only at h2 h3 h4
        subst h2
        exact hC l1 h3 ((VRs.empty.push h4).append (hx.mono l1))
      | nilIface => exact .program .halt
      | _ => exact .halt
    | _ => cases ho
  | _ => cases ho
end
end Sim
end Go.Proofs.YtbkjjknlphlhlaaDoor
