/- What an operation does is alike where its operands are, on: values that are built, builtins. -/
import Derived.Test.YtbkjjknlphlhlaaDoorZ15
namespace Go.Proofs.YtbkjjknlphlhlaaDoor
namespace Sim
set_option maxRecDepth 100000

section
variable {P : Program} {S : FuncId → Bool} {st : Bool} {m : Ren}
theorem sr_mapM {β γ : Type} {f : β → Sem γ} : ∀ (l : List β) {m : Ren}, (∀ x ∈ l, ∀ m', Le m m' → SR P S st EQ m' (f x) (f x)) → SR P S st EQ m (l.mapM f) (l.mapM f)
  | [], _, _ => by rw [List.mapM_nil]; exact .pure rfl
  | x :: l, m, h => by
    rw [List.mapM_cons]
    refine (h x (by simp) m (.refl _)).bind fun m1 l1 a b e => ?_
    obtain rfl := e
    refine (sr_mapM l fun y hy m' l' => h y (by simp [hy]) m' (l1.trans l')).bind fun m2 l2 a b e => ?_
    obtain rfl := e
    exact .pure rfl
theorem VRs.of_lists {l l' : List Value} (h : VRs S m l.toArray l'.toArray) : ∀ (k : Nat) {c c' : Array Value}, VRs S m c c' → VRs S m ((l.zipIdx k).foldl (fun cs p => cs.setIfInBounds p.2 p.1) c) ((l'.zipIdx k).foldl (fun cs p => cs.setIfInBounds p.2 p.1) c') := by
  induction l generalizing l' with
  | nil =>
    intro k c c' hc
    have : l' = [] := by have := h.1; simpa using this.symm
    subst this; exact hc
  | cons v l ih =>
    intro k c c' hc
    cases l' with
    | nil => have := h.1; simp at this
    | cons v' l' =>
      have h0 := h.2 0 (by simp)
      have ht : VRs S m l.toArray l'.toArray := ⟨by have := h.1; simpa using this, fun j hj => by
        have := h.2 (j + 1) (by simpa using hj)
        simpa [Array.getD_eq_getD_getElem?] using this⟩
      exact ih ht (k + 1) (hc.set (by simpa using h0) k)
theorem foldl_shift (l : List Value) (off : Nat) : ∀ (k : Nat) (c : Array Value), (l.zipIdx k).foldl (fun cs p => cs.setIfInBounds (off + p.2) p.1) c = (l.zipIdx (off + k)).foldl (fun cs p => cs.setIfInBounds p.2 p.1) c := by
  induction l with
  | nil => intros; rfl
  | cons v l ih => intro k c; simpa [Nat.add_assoc] using ih (k + 1) (c.setIfInBounds (off + k) v)
theorem fold_sets (d : Array Value) (off : Nat) (c : Array Value) : d.zipIdx.foldl (fun cs (p : Value × Nat) => cs.setIfInBounds (off + p.2) p.1) c = (d.toList.zipIdx off).foldl (fun cs p => cs.setIfInBounds p.2 p.1) c := by
  rw [← Array.foldl_toList, Array.toList_zipIdx]
  exact foldl_shift d.toList off 0 c
/-- Parts that are laid: the same places, alike. -/
def Parts (S : FuncId → Bool) (m : Ren) : List (Nat × Value) → List (Nat × Value) → Prop
  | [], [] => True
  | x :: l, y :: l' => x.1 = y.1 ∧ VR S m x.2 y.2 ∧ Parts S m l l'
  | _, _ => False
theorem Parts.mono {m' : Ren} : ∀ {l l' : List (Nat × Value)}, Parts S m l l' → Le m m' → Parts S m' l l'
  | [], [], _, _ => trivial
  | _ :: _, _ :: _, h, k => ⟨h.1, h.2.1.mono k, Parts.mono h.2.2 k⟩
  | [], _ :: _, h, _ => h.elim
  | _ :: _, [], h, _ => h.elim
theorem fill_alike (place : Nat → Option (Nat × Nat)) : ∀ {l l' : List (Nat × Value)} {c c' : Array Value}, Parts S m l l' → VRs S m c c' → (Instr.fill place c l = none ∧ Instr.fill place c' l' = none) ∨ ∃ d d', Instr.fill place c l = some d ∧ Instr.fill place c' l' = some d' ∧ VRs S m d d'
  | [], [], c, c', _, hc => .inr ⟨c, c', rfl, rfl, hc⟩
  | [], _ :: _, _, _, h, _ => h.elim
  | _ :: _, [], _, _, h, _ => h.elim
  | (i, v) :: l, (j, v') :: l', c, c', h, hc => by
    obtain ⟨h1, h2, h3⟩ := h
    dsimp only at h1 h2
    subst h1
    unfold Instr.fill
    cases hp : place i with
    | none => exact .inl ⟨rfl, rfl⟩
    | some q =>
      obtain ⟨off, size⟩ := q
      have hz := h2.cells.1
      dsimp only
      rw [← hz, ← hc.1]
      split
      · exact .inl ⟨rfl, rfl⟩
      · refine fill_alike place h3 ?_
        have e1 := fold_sets v.cells off c
        have e2 := fold_sets v'.cells off c'
        have := VRs.of_lists (S := S) (m := m) (l := v.cells.toList) (l' := v'.cells.toList) h2.cells.toList off hc
        rw [← e1, ← e2] at this
        exact this
theorem sr_build {l l' : Array (Nat × Value)} (h : Parts S m l.toList l'.toList) {t : TypeId} (hz : zdry P t = true) : SR P S st (VR S) m (Instr.build t l) (Instr.build t l') := by
  unfold Instr.build
  refine (sr_zero hz).bind fun m1 l1 z z' hzz => ?_
  refine (sr_underlying t).bind fun m2 l2 d d' e => ?_
  obtain ⟨rfl, e⟩ := e
  have hc := (hzz.mono l2).cells
  have hp := (h.mono l1).mono l2
  split
  · next fields =>
    rw [Array.mapM_eq_mapM_toList]
    refine SR.bind (A := EQ) (SR.bind (sr_mapM fields.toList fun x _ m' l' => (sr_sizeOf x.type).bind fun _ _ a b e => by obtain ⟨rfl, _⟩ := e; exact .pure rfl) fun _ _ a b e => by obtain rfl := e; exact .pure rfl) fun m3 l3 pl pl' e => ?_
    obtain rfl := e
    rcases fill_alike (pl[·]?) (hp.mono l3) (hc.mono l3) with ⟨e1, e2⟩ | ⟨x, x', e1, e2, hx⟩
    · rw [e1]; exact .halt
    · rw [e1, e2]; exact .pure (.agg hx.1 hx.2)
  · next elem =>
    refine (sr_sizeOf elem).bind fun m3 l3 n n' e => ?_
    obtain ⟨rfl, _⟩ := e
    rcases fill_alike (fun i => some (i * n, n)) (hp.mono l3) (hc.mono l3) with ⟨e1, e2⟩ | ⟨x, x', e1, e2, hx⟩
    · rw [e1]; exact .halt
    · rw [e1, e2]; exact .pure (.agg hx.1 hx.2)
  · exact .halt
theorem VRs.table {z z' : Array Value} (h : VRs S m z z') (n : Nat) : VRs S m ((Array.range n).map (z[· % z.size]!)) ((Array.range n).map (z'[· % z'.size]!)) := by
  refine .of_mem (by simp) fun i x x' hx hx' => ?_
  simp only [Array.getElem?_map, Array.getElem?_range] at hx hx'
  split at hx
  · next hi =>
    simp only [hi, if_true, Option.map_some, Option.some.injEq] at hx hx'
    subst hx; subst hx'
    rw [← h.1]
    by_cases hz : i % z.size < z.size
    · have hz' : i % z.size < z'.size := h.1 ▸ hz
      have := h.2 _ hz
      simpa [Array.getD, hz, hz', getElem!_pos] using this
    · have hz' : ¬ i % z.size < z'.size := h.1 ▸ hz
      rw [getElem!_neg z _ hz, getElem!_neg z' _ hz']
      exact .bool _
  · simp at hx
def sliceZero (P : Program) (t : TypeId) : Bool := match P.underlying t with
  | some (.slice e) => zdry P e
  | _ => true
theorem sr_zeroIf {e : TypeId} (h : zdry P e = true) (c : Prop) [Decidable c] : SR P S st (VRs S) m (if c then pure #[] else do pure (← zeroValue e).cells) (if c then pure #[] else do pure (← zeroValue e).cells) := by
  split
  · exact .pure .empty
  · exact (sr_zero h).bind fun _ _ z z' hz => .pure hz.cells
theorem sr_buildSlice {l l' : Array (Nat × Value)} (h : Parts S m l.toList l'.toList) {t : TypeId} (len : Nat) (hz : sliceZero P t = true) : SR P S st (VR S) m (Instr.buildSlice t len l) (Instr.buildSlice t len l') := by
  unfold Instr.buildSlice
  refine (sr_underlying t).bind fun m1 l1 d d' e => ?_
  obtain ⟨rfl, e⟩ := e
  unfold sliceZero at hz
  rw [e] at hz
  cases d with
  | slice elem =>
    dsimp only at hz ⊢
    refine (sr_sizeOf elem).bind fun m2 l2 n n' e => ?_
    obtain ⟨rfl, _⟩ := e
    split
    · exact .halt
    · have tail : ∀ (m3 : Ren) (l3 : Le m2 m3) (z z' : Array Value), VRs S m3 z z' → SR P S st (VR S) m3 (do
          let some cells := Instr.fill (fun i => some (i * n, n)) ((Array.range (len * n)).map (z[· % z.size]!)) l.toList | stuck "buildSlice: a part of the wrong size"
          pure (.slice (some (← newRow elem cells)) len len)) (do
          let some cells := Instr.fill (fun i => some (i * n, n)) ((Array.range (len * n)).map (z'[· % z'.size]!)) l'.toList | stuck "buildSlice: a part of the wrong size"
          pure (.slice (some (← newRow elem cells)) len len)) := fun m3 l3 z z' hzz => by
        rcases fill_alike (fun i => some (i * n, n)) (((h.mono l1).mono l2).mono l3) (hzz.table (len * n)) with ⟨e1, e2⟩ | ⟨x, x', e1, e2, hx⟩
        · rw [e1]; exact .halt
        · rw [e1, e2]; exact (sr_newRow _ hx).bind fun _ _ a a' ha => .pure (.slice _ _ ha)
      split
      · exact tail m2 (.refl _) _ _ .empty
      · exact (sr_zero hz).bind fun m3 l3 z z' hzz => tail m3 l3 _ _ hzz.cells
  | _ => exact .halt
theorem sr_panicErr {α α' : Type} {A : Ren → α → α' → Prop} (x : String) : SR P S st A m (runtimePanic (.error x)) (runtimePanic (.error x)) := .program .halt
theorem sr_askRoom (n : Nat) : SR P S st UU m (askRoom n) (askRoom n) := by
  unfold askRoom
  split
  · exact .room (.pure trivial)
  · exact .pure trivial
theorem sr_len {ts : Array TypeId} (t : TypeId) {l l' : Array Value} (h : VRs S m l l') (hok : (match ts[0]? with | some x => (match P.underlying x with | some (.slice _) | some .string => true | _ => false) | none => false) = true) : SR P S st (VR S) m (Builtin.len_ ts t l) (Builtin.len_ ts t l') := by
  unfold Builtin.len_
  cases ht : ts[0]? with
  | none => exact .halt
  | some x =>
    rw [ht] at hok
    dsimp only at hok
    cases hv : l[0]? with
    | none => exact .halt
    | some v =>
      obtain ⟨v', hv', hr⟩ := h.get? hv
      rw [hv']
      refine (sr_underlying x).bind fun m1 l1 d d' e => ?_
      obtain ⟨rfl, e⟩ := e
      rw [e] at hok
      cases d <;> first | (cases hok; done) | (cases hr <;> first | exact .halt | exact .pure (.int _ _))
theorem sr_min2 {x x' y y' : Value} (hx : VR S m x x') (hy : VR S m y y') : SR P S st (VR S) m (Builtin.min2 x y) (Builtin.min2 x' y') := by
  cases hx <;> cases hy <;> first
    | exact .halt
    | exact .pure (.int _ _)
    | exact (sr_stringOp _ _ _).bind fun _ _ b b' hb => (sr_asBool hb).bind fun _ _ c c' e => by obtain rfl := e; exact .pure (.string _)
theorem sr_max2 {x x' y y' : Value} (hx : VR S m x x') (hy : VR S m y y') : SR P S st (VR S) m (Builtin.max2 x y) (Builtin.max2 x' y') := by
  cases hx <;> cases hy <;> first
    | exact .halt
    | exact .pure (.int _ _)
    | exact (sr_stringOp _ _ _).bind fun _ _ b b' hb => (sr_asBool hb).bind fun _ _ c c' e => by obtain rfl := e; exact .pure (.string _)
theorem sr_fold {f : Value → Value → Sem Value} (hf : ∀ {m x x' y y'}, VR S m x x' → VR S m y y' → SR P S st (VR S) m (f x y) (f x' y')) : ∀ (l l' : List Value) {m : Ren} {x x' : Value}, VR S m x x' → VRs S m l.toArray l'.toArray → SR P S st (VR S) m (l.foldlM f x) (l'.foldlM f x')
  | [], [], _, _, _, hx, _ => by rw [List.foldlM_nil, List.foldlM_nil]; exact .pure hx
  | [], _ :: _, _, _, _, _, h => by have := h.1; simp at this
  | _ :: _, [], _, _, _, _, h => by have := h.1; simp at this
  | v :: l, v' :: l', m, x, x', hx, h => by
    have h0 := h.2 0 (by simp)
    have ht : VRs S m l.toArray l'.toArray := ⟨by have := h.1; simpa using this, fun j hj => by
      have := h.2 (j + 1) (by simpa using hj)
      simpa [Array.getD_eq_getD_getElem?] using this⟩
    rw [List.foldlM_cons, List.foldlM_cons]
    exact (hf hx (by simpa using h0)).bind fun m1 l1 y y' hy => sr_fold hf l l' hy (ht.mono l1)
theorem sr_minmax (b : Bool) (ts : Array TypeId) (t : TypeId) {l l' : Array Value} (h : VRs S m l l') : SR P S st (VR S) m (if b then Builtin.min_ ts t l else Builtin.max_ ts t l) (if b then Builtin.min_ ts t l' else Builtin.max_ ts t l') := by
  have hl := h.toList
  unfold Builtin.min_ Builtin.max_
  generalize l.toList = x at hl ⊢; generalize l'.toList = y at hl ⊢
  rcases x with _ | ⟨v, x⟩ <;> rcases y with _ | ⟨v', y⟩
  · cases b <;> exact .halt
  · have := hl.1; simp at this
  · have := hl.1; simp at this
  · have h0 := hl.2 0 (by simp)
    have ht : VRs S m x.toArray y.toArray := ⟨by have := hl.1; simpa using this, fun j hj => by
      have := hl.2 (j + 1) (by simpa using hj)
      simpa [Array.getD_eq_getD_getElem?] using this⟩
    cases b
    · exact sr_fold (f := Builtin.max2) sr_max2 x y (by simpa using h0) ht
    · exact sr_fold (f := Builtin.min2) sr_min2 x y (by simpa using h0) ht
theorem sr_makeSlice {x x' y y' : Value} (hx : VR S m x x') (hy : VR S m y y') {t : TypeId} (hz : sliceZero P t = true) : SR P S st (VR S) m (Instr.makeSlice t x y) (Instr.makeSlice t x' y') := by
  unfold Instr.makeSlice
  refine (sr_underlying t).bind fun m1 l1 d d' e => ?_
  obtain ⟨rfl, e⟩ := e
  unfold sliceZero at hz
  rw [e] at hz
  cases d with
  | slice elem =>
    dsimp only at hz ⊢
    refine (sr_asInt (hx.mono l1)).bind fun m2 l2 a a' e => ?_
    obtain rfl := e
    refine (sr_asInt ((hy.mono l1).mono l2)).bind fun m3 l3 b b' e => ?_
    obtain rfl := e
    refine (sr_typeInfo elem).bind fun m4 l4 i i' e => ?_
    obtain ⟨rfl, _⟩ := e

    have tail : ∀ (l c : Nat), SR P S st (VR S) m4 (do
        askRoom (c * i.bytes)
        let n := c * (← sizeOf elem)
        let zero ← if n = 0 then pure #[] else do pure (← zeroValue elem).cells
        let a ← newRow elem ((Array.range n).map (zero[· % zero.size]!))
        pure (.slice (some a) l c)) (do
        askRoom (c * i.bytes)
        let n := c * (← sizeOf elem)
        let zero ← if n = 0 then pure #[] else do pure (← zeroValue elem).cells
        let a ← newRow elem ((Array.range n).map (zero[· % zero.size]!))
        pure (.slice (some a) l c)) := fun l c => by
      refine (sr_askRoom _).bind fun m5 l5 _ _ _ => ?_
      refine (sr_sizeOf elem).bind fun m6 l6 n n' e => ?_
      obtain ⟨rfl, _⟩ := e
      dsimp only
      split
      · exact (sr_newRow _ (VRs.empty.table _)).bind fun _ _ a a' ha => .pure (.slice _ _ ha)
      · exact (sr_zero hz).bind fun m7 l7 z z' hzz => (sr_newRow _ (hzz.cells.table _)).bind fun _ _ a a' ha => .pure (.slice _ _ ha)
    split
    · split
      · exact SR.bind (A := UU) (sr_panicErr _) fun _ _ _ _ _ => SR.mono VR.monoA (tail _ _) ‹_›
      · split
        · exact SR.bind (A := UU) (sr_panicErr _) fun _ _ _ _ _ => SR.mono VR.monoA (tail _ _) ‹_›
        · refine (sr_choose _).bind fun m5 l5 q q' e => ?_
          obtain rfl := e
          exact SR.bind (A := UU) (sr_panicErr _) fun _ _ _ _ _ => SR.mono VR.monoA (tail _ _) (l5.trans ‹_›)
    · exact tail _ _
  | _ => exact .halt
theorem sr_frozen (hst : st = true) {a a' : Addr} (h : AR m a a') : SR P S st EQ m (frozen a) (frozen a') := .frozen hst h fun _ _ _ => .pure rfl
theorem sr_firstCells (size n : Nat) {x x' : Value} (h : VR S m x x') (hg : ∀ a, x = .slice (some a) 0 0 → n = 0) : SR P S st (VRs S) m (Builtin.firstCells size n x) (Builtin.firstCells size n x') := by
  cases h with
  | slice l c h => exact sr_loadCells _ h
  | ghost =>
    obtain rfl := hg _ rfl
    unfold Builtin.firstCells
    dsimp only
    rw [Nat.zero_mul]
    exact .pure .empty
  | nils l c => exact .pure .empty
  | string b =>
    refine .pure (.of_mem rfl fun i v v' hv hv' => ?_)
    rw [hv] at hv'; cases hv'
    simp only [Array.getElem?_map, Option.map_eq_some_iff] at hv
    obtain ⟨_, _, rfl⟩ := hv
    exact .int _ _
  | _ => exact .halt
/-- Nothing of a row. -/
theorem sr_firstCells0 (size : Nat) {x x' : Value} (h : VR S m x x') : SR P S st (fun _ c c' => c = #[] ∧ c' = #[]) m (Builtin.firstCells size 0 x) (Builtin.firstCells size 0 x') := by
  cases h with
  | slice l c h => unfold Builtin.firstCells; rw [Nat.zero_mul]; exact .pure ⟨rfl, rfl⟩
  | ghost => unfold Builtin.firstCells; rw [Nat.zero_mul]; exact .pure ⟨rfl, rfl⟩
  | nils l c => exact .pure ⟨rfl, rfl⟩
  | string b => exact .pure (by constructor <;> simp)
  | _ => exact .halt
theorem sr_lenOfG {x x' : Value} (h : VR S m x x') : SR P S st (fun _ n n' => n = n' ∧ (∀ a, x = .slice (some a) 0 0 → n = 0)) m (Builtin.lenOf x) (Builtin.lenOf x') := by
  cases h <;> first | exact .halt | exact .pure ⟨rfl, fun _ e => by cases e <;> rfl⟩
theorem share_dead {α β : Type} {A : Ren → α → β → Prop} (size sLen n : Nat) (o : Option Addr) (x : Value) (s' : Sem β) : SR P S st A m (do
    if !(← Builtin.mayShare size sLen n o x) then mark .noRoom
    unsupported (.resourceLimit "append: a slice or a string whose bytes no memory bears")) s' := by
  refine .dead fun w => ?_
  have hc : ∀ (a : Addr) (k : Nat) (w : World), ∃ b, (Builtin.holdsCells a k).run P w = .ok b w := fun a k w => by
    unfold Builtin.holdsCells
    show ∃ b, Sem.run P (.shape a.block _) w = _
    unfold Sem.run
    rcases w.shape? a.block with _ | ⟨_, _⟩
    · exact ⟨_, rfl⟩
    · exact ⟨_, rfl⟩
  have hm : ∃ b, (Builtin.mayShare size sLen n o x).run P w = .ok b w := by
    unfold Builtin.mayShare
    have tl : ∀ t : Bool, ∃ b, (do
        if !t then return true
        match x with
        | .slice (some b) _ _ => do pure (!(← Builtin.holdsCells b (n * size)) || o.any (·.block == b.block))
        | _ => pure false : Sem Bool).run P w = .ok b w := fun t => by
      cases t
      · exact ⟨_, rfl⟩
      · cases x with
        | slice a l c =>
          cases a with
          | none => exact ⟨_, rfl⟩
          | some a =>
            obtain ⟨b, hb⟩ := hc a (n * size) w
            simp only [Bool.not_true, Bool.false_eq_true, if_false, Sem.run_bind, hb]
            exact ⟨_, rfl⟩
        | _ => exact ⟨_, rfl⟩
    cases o with
    | none => exact tl true
    | some a =>
      obtain ⟨b, hb⟩ := hc a (sLen * size) w
      obtain ⟨b2, hb2⟩ := tl (b && !(w.frozen? (a.add (sLen / 2 * size))))
      refine ⟨b2, ?_⟩
      rw [← hb2]
      simp only [Sem.run_bind, hb]
      rfl
  obtain ⟨b, hb⟩ := hm
  rw [Sem.run_bind, hb]
  cases b <;> exact ⟨_, _, rfl, rfl⟩
theorem sr_lenOf {x x' : Value} (h : VR S m x x') : SR P S st EQ m (Builtin.lenOf x) (Builtin.lenOf x') := by
  cases h <;> first | exact .halt | exact .pure rfl
end
end Sim
end Go.Proofs.YtbkjjknlphlhlaaDoor
namespace Go.Proofs.YtbkjjknlphlhlaaDoor
namespace Sim
set_option maxRecDepth 100000

section
variable {P : Program} {S : FuncId → Bool} {st : Bool} {m : Ren}
theorem VRs.zeros {z z' : Array Value} (h : VRs S m z z') (n : Nat) : VRs S m (Builtin.zeroCells z n) (Builtin.zeroCells z' n) := by
  unfold Builtin.zeroCells
  rw [← h.1]
  refine .of_mem (by simp) fun i x x' hx hx' => ?_
  simp only [Array.getElem?_map, Array.getElem?_range] at hx hx'
  split at hx
  · next hi =>
    simp only [hi, if_true, Option.map_some, Option.some.injEq] at hx hx'
    subst hx; subst hx'
    by_cases hz : i % z.size < z.size
    · have hz' : i % z.size < z'.size := h.1 ▸ hz
      have := h.2 _ hz
      simpa [Array.getD, hz, hz', getElem!_pos] using this
    · have hz' : ¬ i % z.size < z'.size := h.1 ▸ hz
      rw [getElem!_neg z _ hz, getElem!_neg z' _ hz']
      exact .bool _
  · simp at hx
theorem sr_pb {α α' β β' : Type} {A : Ren → β → β' → Prop} {a : α} {a' : α'} {f : α → Sem β} {f' : α' → Sem β'} (h : SR P S st A m (f a) (f' a')) : SR P S st A m ((Pure.pure a : Sem α) >>= f) ((Pure.pure a' : Sem α') >>= f') := h
def appendOk (P : Program) (st : Bool) (ts : Array TypeId) : Bool := st && (match ts[0]? with | some t => sliceZero P t | none => true) && (match ts[1]? with
  | some t => (match P.underlying t with | some (.slice _) | some .string => true | _ => false)
  | none => false)
theorem sr_append (_ : Inj m) {ts : Array TypeId} (t : TypeId) {l l' : Array Value} (h : VRs S m l l') (hok : appendOk P st ts = true) : SR P S st (VR S) m (Builtin.append_ ts t l) (Builtin.append_ ts t l') := by
  unfold appendOk at hok
  simp only [Bool.and_eq_true] at hok
  obtain ⟨⟨hst, hz⟩, hx⟩ := hok
  unfold Builtin.append_
  cases h0 : ts[0]? with
  | none => exact .halt
  | some sT =>
  rw [h0] at hz
  cases h1 : ts[1]? with
  | none => rw [h1] at hx; cases hx
  | some xT =>
  rw [h1] at hx
  dsimp only at hz hx
  cases hs : l[0]? with
  | none => exact .halt
  | some s =>
  cases hxv : l[1]? with
  | none => exact .halt
  | some x =>
  obtain ⟨s', hs', hsr⟩ := h.get? hs
  obtain ⟨x', hx', hxr⟩ := h.get? hxv
  rw [hs', hx']
  dsimp only
  refine (sr_underlying sT).bind fun m1 l1 d d' e => ?_
  obtain ⟨rfl, e⟩ := e
  unfold sliceZero at hz
  rw [e] at hz
  cases d with
  | slice elem =>
    dsimp only at hz ⊢
    have hsr := hsr.mono l1
    have hxr := hxr.mono l1
    have hs : (∃ o o' sLen sCap, s = .slice o sLen sCap ∧ s' = .slice o' sLen sCap ∧ (Opt m1 o o' ∨ ∃ a', o = some a' ∧ o' = some a' ∧ sLen = 0 ∧ sCap = 0)) ∨ ∀ o a b, s ≠ .slice o a b := by
      cases hsr with
      | nils a b => exact .inl ⟨none, none, a, b, rfl, rfl, .inl trivial⟩
      | slice a b h => exact .inl ⟨_, _, a, b, rfl, rfl, .inl h⟩
      | @ghost a' => exact .inl ⟨_, _, 0, 0, rfl, rfl, .inr ⟨a', rfl, rfl, rfl, rfl⟩⟩
      | _ => exact .inr fun _ _ _ e => by cases e
    rcases hs with ⟨o, o', sLen, sCap, rfl, rfl, ho⟩ | hs
    rotate_left
    · cases hsr <;> first | exact .halt | exact absurd rfl (hs _ _ _)
    dsimp only
    refine (sr_sizeOf elem).bind fun m2 l2 size size' e => ?_
    obtain ⟨rfl, _⟩ := e
    refine (sr_underlying xT).bind fun m3 l3 d d' e => ?_
    obtain ⟨rfl, e⟩ := e
    rw [e] at hx
    have hxr := (hxr.mono l2).mono l3
    have hso := (hsr.mono l2).mono l3
    have ho : Opt m3 o o' ∨ ∃ a', o = some a' ∧ o' = some a' ∧ sLen = 0 ∧ sCap = 0 := ho.imp (fun ho => by cases o <;> cases o' <;> first | exact ho | exact (AR.mono ho l2).mono l3) id
    have gs : ∀ a, Value.slice o sLen sCap = .slice (some a) 0 0 → sLen = 0 := fun a e => by cases e; rfl
    cases d <;> first | (cases hx; done) | skip
    all_goals
      refine sr_pb ?_
      simp only [Bool.false_eq_true, if_false, Bool.not_false, if_true]
      refine (sr_lenOfG hxr).bind fun m4 l4 n n' e => ?_
      obtain ⟨rfl, gx⟩ := e
      split
      · next hle =>
        rcases ho with ho | ⟨a', rfl, rfl, rfl, rfl⟩
        rotate_left
        · obtain rfl : n = 0 := by omega
          refine (sr_firstCells0 size (hxr.mono l4)).bind fun m5 l5 c c' hc => ?_
          obtain ⟨rfl, rfl⟩ := hc
          exact .pure .ghost
        refine (sr_firstCells size n (hxr.mono l4) gx).bind fun m5 l5 c c' hc => ?_
        rcases o with _ | a <;> rcases o' with _ | a'
        · exact .pure (.nils _ _)
        · exact ho.elim
        · exact ho.elim
        · have ha : AR m5 a a' := (AR.mono ho l4).mono l5
          exact (sr_storeCells _ _ 0 (ha.add _) hc.toList).bind fun m6 l6 _ _ _ => .pure (.slice _ _ (ha.mono l6))
      · refine (sr_typeInfo elem).bind fun m5 l5 i i' e => ?_
        obtain ⟨rfl, _⟩ := e
        split
        case' isTrue =>
          refine SR.bind (A := UU) (sr_panicErr _) fun m6 l6 _ _ _ => ?_
          have L := l5.trans l6
        case' isFalse => have L := l5
        all_goals
          refine (sr_typeInfo elem).bind fun m7 l7 i2 i2' e => ?_
          obtain ⟨rfl, _⟩ := e
          have L2 := L.trans l7
          split
          case' isTrue =>
            refine SR.bind (A := UU) ?_ fun m8 l8 _ _ _ => ?_
            · exact share_dead _ _ _ _ _ _
            have L3 := L2.trans l8
          case' isFalse => have L3 := L2
          all_goals
            refine (sr_choose _).bind fun m9 l9 c c' e => ?_
            obtain rfl := e
            refine (sr_typeInfo elem).bind fun ma la i3 i3' e => ?_
            obtain ⟨rfl, _⟩ := e
            refine (sr_askRoom _).bind fun mb lb _ _ _ => ?_
            have L4 := l4.trans (L3.trans (l9.trans (la.trans lb)))
            refine (sr_firstCells size sLen (hso.mono L4) gs).bind fun mc lc u u' hu => ?_
            refine (sr_firstCells size n (hxr.mono (L4.trans lc)) gx).bind fun md ld v v' hv => ?_
            refine (sr_zero hz).bind fun me le z z' hzz => ?_
            exact (sr_newRow _ ((((hu.mono ld).mono le).append (hv.mono le)).append (hzz.cells.zeros _))).bind fun _ _ a a' ha => .pure (.slice _ _ ha)
  | _ => exact .halt
end
end Sim
end Go.Proofs.YtbkjjknlphlhlaaDoor
namespace Go.Proofs.YtbkjjknlphlhlaaDoor
namespace Sim
set_option maxRecDepth 100000

/-- What an operation comes to, alike. -/
inductive NB (B : FuncId → Prop) (S : FuncId → Bool) (m : Ren) : Next → Next → Prop
  | value {v v'} (h : VR S m v v') : NB B S m (.value v) (.value v')
  | skip : NB B S m .skip .skip
  | enter {f a a'} (hf : S f = true) (h : VRs S m a a') (hb : B f) : NB B S m (.enter f a) (.enter f a')
abbrev NR (S : FuncId → Bool) (m : Ren) := NB (fun _ => True) S m

def opndB (P : Program) (S : FuncId → Bool) : Operand → Bool
  | .tmp _ => true
  | .const v => dryB 4 v
  | .global g => decide (g < P.globals.size)
  | .func f => S f
def intT (P : Program) (t : TypeId) : Bool := match P.underlying t with | some (.int _) => true | _ => false
def isNil : Operand → Bool
  | .const .nilIface => true
  | _ => false
def binB (P : Program) (op : BinOp) (t : TypeId) (y : Operand) : Bool := match op with
  | .add | .sub | .lss | .leq | .gtr | .geq => true
  | .eql | .neq => isNil y || intT P t
  | _ => false
def callB (P : Program) (st : Bool) (c : Call) : Bool := match c.callee with
  | .value _ => true
  | .builtin b => (match b with
    | .len => (match c.argTypes[0]? with | some x => (match P.underlying x with | some (.slice _) | some .string => true | _ => false) | none => false)
    | .min | .max => true
    | .append => appendOk P st c.argTypes
    | _ => false)
  | .invoke .. => false
def opB (P : Program) (S : FuncId → Bool) (st : Bool) (o : Oper) : Bool :=
  o.op.operands.all (opndB P S) && match o.op with
  | .move _ | .assign _ | .pick .. | .box .. | .load .. | .store .. | .makeInterface .. | .indexAddr .. | .extract .. | .slice .. => true
  | .alloc t | .build t _ => zdry P t
  | .buildSlice t .. | .makeSlice t .. => sliceZero P t
  | .binOp op t _ y _ => binB P op t y
  | .unOp op .. => (match op with | .not | .neg => true | _ => false)
  | .fieldAddr s _ f => fieldOk P s f
  | .makeFunc (.func f) first _ => S f && first.isEmpty
  | .call c => callB P st c
  | _ => false

/-- Of a function of S: that there is one, and that it has a body. -/
def FnHere (P : Program) (f : FuncId) : Prop := ∃ fn, P.funcs[f]? = some fn ∧ (fn.name == "runtime.NumGoroutine") = false ∧ fn.body.isNone = false

section
variable {P : Program} {S : FuncId → Bool} {st : Bool} {m : Ren} {B : FuncId → Prop}
theorem sr_v {s s' : Sem Value} (h : SR P S st (VR S) m s s') : SR P S st (NB B S) m (do pure (.value (← s))) (do pure (.value (← s'))) := h.bind fun _ _ _ _ hv => .pure (.value hv)
theorem sr_u {s s' : Sem Unit} (h : SR P S st UU m s s') : SR P S st (NB B S) m (do s; pure .skip) (do s'; pure .skip) := h.bind fun _ _ _ _ _ => .pure .skip
theorem sr_neg {x x' : Value} (hx : VR S m x x') (op : UnOp) (h : (match op with | .not | .neg => true | _ => false) = true) : SR P S st (VR S) m (Op.unary op x) (Op.unary op x') := by
  cases op <;> first | (cases h; done) | (cases hx <;> first | exact .halt | exact .pure (.bool _) | exact sr_intArith .sub _ 0 _)
theorem sr_callFunc (hS : ∀ f, S f = true → FnHere P f) {f : FuncId} (hf : S f = true) {l l' : Array Value} (h : VRs S m l l') : SR P S st (NR S) m (callFunc f l) (callFunc f l') := by
  obtain ⟨fn, h1, h2, h3⟩ := hS f hf
  unfold callFunc
  refine sr_prog ?_
  rw [h1]
  dsimp only
  rw [h2, h3]
  exact .pure (.enter hf h trivial)
theorem Parts.of {l : List (Nat × Operand)} {ρ ρ' : Operand → Value} (h : ∀ x ∈ l.map (·.2), VR S m (ρ x) (ρ' x)) : Parts S m (l.map fun (i, x) => (i, ρ x)) (l.map fun (i, x) => (i, ρ' x)) := by
  induction l with
  | nil => trivial
  | cons p l ih => exact ⟨rfl, h p.2 (by simp), ih fun x hx => h x (by simp at hx ⊢; exact .inr hx)⟩
theorem VRs.map {l : Array Operand} {ρ ρ' : Operand → Value} (h : ∀ x ∈ l, VR S m (ρ x) (ρ' x)) : VRs S m (l.map ρ) (l.map ρ') := by
  refine .of_mem (by simp) fun i v v' hv hv' => ?_
  simp only [Array.getElem?_map, Option.map_eq_some_iff] at hv hv'
  obtain ⟨x, hx, rfl⟩ := hv
  obtain ⟨y, hy, rfl⟩ := hv'
  rw [hx] at hy; cases hy
  exact h x (Array.mem_of_getElem? hx)

/-- ████ -/
theorem sr_execOpB (hG : Gl P m) (hC : ∀ {f : FuncId} {l l' : Array Value}, S f = true → VRs S m l l' → SR P S st (NB B S) m (callFunc f l) (callFunc f l')) {o : Oper} (ho : opB P S st o = true) {ρ ρ' : Operand → Value} (hρ : ∀ x, opndB P S x = true → VR S m (ρ x) (ρ' x)) (hc : ∀ v, ρ (.const v) = v ∧ ρ' (.const v) = v) : SR P S st (NB B S) m (execOp ρ o) (execOp ρ' o) := by
  obtain ⟨dst, op, type, pos, after, guard⟩ := o
  unfold opB at ho
  rw [Bool.and_eq_true] at ho
  obtain ⟨hop, ho⟩ := ho
  have hop : ∀ x ∈ op.operands, VR S m (ρ x) (ρ' x) := fun x hx => hρ x (by
    obtain ⟨i, hi, rfl⟩ := Array.mem_iff_getElem.1 hx
    exact Array.all_eq_true.1 hop i hi)
  dsimp only at ho hop
  unfold execOp
  cases op with
  | move x => exact .pure (.value (hop x (by simp [Op.operands])))
  | assign x => exact .pure (.value (hop x (by simp [Op.operands])))
  | pick c a b =>
    have h1 := hop c (by simp [Op.operands]); have h2 := hop a (by simp [Op.operands]); have h3 := hop b (by simp [Op.operands])
    refine (sr_asBool h1).bind fun m1 l1 q q' e => ?_
    obtain rfl := e
    cases q
    · exact .pure (.value (h3.mono l1))
    · exact .pure (.value (h2.mono l1))
  | alloc t => exact sr_v ((sr_zero ho).bind fun m1 l1 z z' hz => (sr_newVar t hz).bind fun _ _ a a' ha => .pure (.ptr ha))
  | box t x =>
    have h1 := hop x (by simp [Op.operands])
    exact sr_v ((sr_newVar t h1).bind fun _ _ a a' ha => .pure (.ptr ha))
  | build t l => exact sr_v (sr_build (by simpa using Parts.of (l := l.toList) fun x hx => hop x (by simpa [Op.operands] using hx)) ho)
  | buildSlice t n l => exact sr_v (sr_buildSlice (by simpa using Parts.of (l := l.toList) fun x hx => hop x (by simpa [Op.operands] using hx)) n ho)
  | load t a =>
    have h1 := hop a (by simp [Op.operands])
    exact sr_v ((sr_sureAddr h1).bind fun _ _ a a' ha => sr_loadVar t ha)
  | store t a x =>
    have h1 := hop a (by simp [Op.operands]); have h2 := hop x (by simp [Op.operands])
    exact sr_u ((sr_sureAddr h1).bind fun _ l a a' ha => sr_storeVar t ha (h2.mono l))
  | binOp op t x y yt =>
    have h1 := hop x (by simp [Op.operands]); have h2 := hop y (by simp [Op.operands])
    have hne : ∀ {a a' b b' : Value}, (∀ a b : Value, eqGuard op t x y a b = pure ()) → SR P S st (VR S) m (binOp op t a b) (binOp op t a' b') → SR P S st (VR S) m (do eqGuard op t x y a b; binOp op t a b) (do eqGuard op t x y a' b'; binOp op t a' b') := fun g h => by rw [g, g]; exact h
    have heq : op = .eql ∨ op = .neq → SR P S st (VR S) m (do eqGuard op t x y (ρ x) (ρ y); binOp op t (ρ x) (ρ y)) (do eqGuard op t x y (ρ' x) (ρ' y); binOp op t (ρ' x) (ρ' y)) := fun he => by
      have : (isNil y || intT P t) = true := by rcases he with rfl | rfl <;> exact ho
      rw [Bool.or_eq_true] at this
      rcases this with hn | hn
      · have ey : y = .const .nilIface := by
          unfold isNil at hn
          split at hn
          · rfl
          · cases hn
        subst ey
        rw [(hc _).1, (hc _).2]
        exact sr_eqNil op t x h1 he
      · unfold intT at hn
        split at hn
        · next k hT => exact sr_eqInt hG h1 h2 op x y hT he
        · cases hn
    cases op with
    | eql => exact sr_v (heq (.inl rfl))
    | neq => exact sr_v (heq (.inr rfl))
    | add => exact sr_v (hne (fun _ _ => rfl) (sr_add _ _ h1 h2 (.inl rfl) hG))
    | sub => exact sr_v (hne (fun _ _ => rfl) (sr_add _ _ h1 h2 (.inr rfl) hG))
    | lss => exact sr_v (hne (fun _ _ => rfl) (sr_cmp hG _ _ h1 h2 (by simp)))
    | leq => exact sr_v (hne (fun _ _ => rfl) (sr_cmp hG _ _ h1 h2 (by simp)))
    | gtr => exact sr_v (hne (fun _ _ => rfl) (sr_cmp hG _ _ h1 h2 (by simp)))
    | geq => exact sr_v (hne (fun _ _ => rfl) (sr_cmp hG _ _ h1 h2 (by simp)))
    | _ => cases ho
  | unOp op t x =>
    have h1 := hop x (by simp [Op.operands])
    exact sr_v (sr_neg h1 op ho)
  | makeInterface t x =>
    have h1 := hop x (by simp [Op.operands])
    exact sr_v (sr_makeIface h1 t)
  | makeFunc fn first cap =>
    cases fn with
    | func f =>
      dsimp only at ho
      rw [Bool.and_eq_true] at ho
      have hf : first = #[] := by simpa using ho.2
      subst hf
      have := VRs.map (S := S) (m := m) (l := cap) fun x hx => hop x (by simpa [Op.operands] using hx)
      refine sr_v (.pure ?_)
      rw [Array.map_empty, Array.map_empty]
      exact .func ho.1 this.1 this.2
    | _ => cases ho
  | makeSlice t a b =>
    have h1 := hop a (by simp [Op.operands]); have h2 := hop b (by simp [Op.operands])
    exact sr_v (sr_makeSlice h1 h2 ho)
  | slice t x lo hi mx =>
    have h1 := hop x (by simp [Op.operands])
    have ho : ∀ q : Option Operand, (∀ y, q = some y → VR S m (ρ y) (ρ' y)) → OptV S m (q.map ρ) (q.map ρ') := fun q h => by
      cases q with
      | none => trivial
      | some y => exact h y rfl
    exact sr_v (sr_sliceAt h1 t (ho lo fun y e => hop y (by subst e; simp [Op.operands])) (ho hi fun y e => hop y (by subst e; simp [Op.operands])) (ho mx fun y e => hop y (by subst e; simp [Op.operands])))
  | fieldAddr s x f =>
    have h1 := hop x (by simp [Op.operands])
    exact sr_v (sr_fieldAt h1 ho)
  | indexAddr t x i =>
    have h1 := hop x (by simp [Op.operands]); have h2 := hop i (by simp [Op.operands])
    exact sr_v (sr_indexAt h1 h2 t)
  | extract t i =>
    have h1 := hop t (by simp [Op.operands])
    exact sr_v (sr_extract h1 i)
  | call c =>
    obtain ⟨callee, args, ts⟩ := c
    have ha : VRs S m (args.map ρ) (args.map ρ') := VRs.map fun x hx => hop x (by simp [Op.operands, Call.operands, hx])
    cases callee with
    | value f =>
      have h1 := hop f (by simp [Op.operands, Call.operands])
      unfold resolve
      dsimp only
      generalize ρ f = v at h1 ⊢; generalize ρ' f = v' at h1 ⊢
      cases h1 with
      | @func g c c' hs hz hcc =>
        show SR P S st (NB B S) m (invoke (.fn (.func g) c) (#[] ++ args.map ρ)) (invoke (.fn (.func g) c') (#[] ++ args.map ρ'))
        exact hC hs ((VRs.empty.append ha).append ⟨hz, hcc⟩)
      | nilFunc => exact .program .halt
      | jfunc g a c =>
        show SR P S st (NB B S) m (invoke (.fn (.method "") #[]) (#[.nilIface, .func g a c] ++ args.map ρ)) _
        refine .dead fun w => ?_
        have h0 : (#[Value.nilIface, .func g a c] ++ args.map ρ)[0]? = some .nilIface := by simp [Array.getElem?_append]
        have e : invoke (.fn (.method "") #[]) (#[.nilIface, .func g a c] ++ args.map ρ) = callMethod .nilIface "" ((#[Value.nilIface, .func g a c] ++ args.map ρ).extract 1 (#[Value.nilIface, .func g a c] ++ args.map ρ).size) := by
          unfold invoke; dsimp only; rw [h0]
        rw [e]
        exact ⟨_, _, rfl, rfl⟩
      | _ => exact .halt
    | builtin b =>
      cases b with
      | len => exact sr_v (sr_len _ ha ho)
      | min => exact sr_v (sr_minmax true ts type ha)
      | max => exact sr_v (sr_minmax false ts type ha)
      | append => exact sr_v (sr_append hG.inj _ ha ho)
      | _ => cases ho
    | invoke r n => cases ho
  | _ => cases ho
theorem sr_execOp (hG : Gl P m) (hS : ∀ f, S f = true → FnHere P f) {o : Oper} (ho : opB P S st o = true) {ρ ρ' : Operand → Value} (hρ : ∀ x, opndB P S x = true → VR S m (ρ x) (ρ' x)) (hc : ∀ v, ρ (.const v) = v ∧ ρ' (.const v) = v) : SR P S st (NR S) m (execOp ρ o) (execOp ρ' o) := sr_execOpB hG (fun hs h => sr_callFunc hS hs h) ho hρ hc
end
end Sim
end Go.Proofs.YtbkjjknlphlhlaaDoor
