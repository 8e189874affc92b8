/- Frames that are alike, and ████ A STEP OF THE ONE IS MATCHED BY A STEP OF THE OTHER. ████ -/
import Derived.Conc.Own
import Derived.Test.YtbkjjknlphlhlaaDoorZ20
namespace Go.Proofs.YtbkjjknlphlhlaaDoor
namespace Sin
open Sim
open Go.Conc
set_option maxRecDepth 100000

/-- An operation that does alike, or that panics. -/
def opY (P : Program) (S : FuncId → Bool) (st : Bool) (o : Oper) : Bool := opX P S st o || isPanic o
def codeB (P : Program) (S : FuncId → Bool) (st : Bool) : Code → Bool
  | .skip | .label _ | .exit _ | .ret | .refuse _ => true
  | .seq a b => codeB P S st a && codeB P S st b
  | .cond c a b => opndB P S c && (codeB P S st a && codeB P S st b)
  | .block _ c | .loop c | .scope c => codeB P S st c
  | .region _ ops _ => ops.all (opY P S st)
  | .rangeFunc .. | .goto _ => false
def itemB (P : Program) (S : FuncId → Bool) (st : Bool) : Item → Bool
  | .code c | .inLoop c | .inScope c => codeB P S st c
  | .inBlock _ => true
  | .inRegion ops l => l.all fun i => ((ops[i]?).map (opY P S st)).getD true
  | _ => false
def fnB (P : Program) (S : FuncId → Bool) (st : Bool) (f : FuncId) : Bool := match P.funcs[f]? with
  | some fn => !(fn.name == "runtime.NumGoroutine") && (match fn.body with | some c => codeB P S st c | none => false)
  | none => false

/-- A function that does alike: by its text, or as an entry. -/
def FnX (P : Program) (S : FuncId → Bool) (st : Bool) (f : FuncId) : Prop := fnB P S st f = true ∨ (st = true ∧ ExtHere P S f)
/-- The package variables, and the types' handles, stand for themselves. -/
structure GX (P : Program) (st : Bool) (m : Ren) : Prop where
  gl : Gl P m
  hb : st = true → Hb P m
theorem GX.mono {P : Program} {st : Bool} {m m' : Ren} (h : GX P st m) (l : Le m m') : GX P st m' := ⟨h.gl.mono l, fun e => (h.hb e).mono l⟩

section
variable {P : Program} {S : FuncId → Bool} {st : Bool} {m : Ren}
theorem fnB_here {f : FuncId} (this : fnB P S st f = true) : FnHere P f := by
  unfold fnB at this
  split at this
  · next fn e =>
    rw [Bool.and_eq_true] at this
    refine ⟨fn, e, by simpa using this.1, ?_⟩
    split at this
    · next c e2 => rw [e2]; rfl
    · cases this.2
  · cases this
theorem fnHere (hF : ∀ f, S f = true → FnX P S st f) : ∀ f, S f = true → FnHere P f ∨ (st = true ∧ ExtHere P S f) := fun f hf => (hF f hf).imp fnB_here id

/-- (K: what is left to do in the one that is not alone, behind what is left here.) -/
structure FR (P : Program) (S : FuncId → Bool) (st : Bool) (m : Ren) (K : List Item) (fr fr' : Frame) : Prop where
  fn : fr'.fn = fr.fn
  tmps : VRs S m fr.tmps fr'.tmps
  todo : fr'.todo = fr.todo ++ K
  ok : ∀ x ∈ fr.todo, itemB P S st x = true
  d : fr.defers = []
  mode : fr'.mode = fr.mode
  run : fr.mode = .run ∨ fr.mode = .returning
  kind : fr.kind = .normal
  kind' : fr'.kind = .normal ∨ fr'.kind = .deferred
  round : fr.roundOf = none
  round' : fr'.roundOf = none
theorem FR.mono {m' : Ren} {K : List Item} {fr fr' : Frame} (h : FR P S st m K fr fr') (l : Le m m') : FR P S st m' K fr fr' := { h with tmps := h.tmps.mono l }

/-- Who called the lowest frame, what it has deferred, and its kind. -/
structure Base where
  cs : List Frame
  ds : List Deferred
  kd : CallKind
/-- Stacks of frames: each is alike to one, the lowest ones to each other; below that one: 'bomb' here, whoever called there. -/
inductive Stk (P : Program) (S : FuncId → Bool) (st : Bool) (m : Ren) (bomb : Frame) (base : Base) (K : List Item) : List Item → Frame → List Frame → Frame → List Frame → Prop
  | bottom {fr fr'} (h : FR P S st m K fr fr') (hd : fr'.defers = base.ds) (hk : fr'.kind = base.kd) : Stk P S st m bomb base K K fr [bomb] fr' base.cs
  | push {Kc fr fr' c cs c' cs'} (h : FR P S st m [] fr fr') (hd : fr'.defers = []) (hk : fr'.kind = .normal) (hs : S fr.fn = true) (hc : c.todo ≠ []) (r : Stk P S st m bomb base K Kc c cs c' cs') : Stk P S st m bomb base K [] fr (c :: cs) fr' (c' :: cs')
theorem Stk.fr {bomb : Frame} {base : Base} {K Kt : List Item} {fr fr' : Frame} {cs cs' : List Frame} (h : Stk P S st m bomb base K Kt fr cs fr' cs') : FR P S st m Kt fr fr' := by cases h <;> assumption
theorem Stk.mono {m' : Ren} {bomb : Frame} {base : Base} {K Kt : List Item} {fr fr' : Frame} {cs cs' : List Frame} (h : Stk P S st m bomb base K Kt fr cs fr' cs') (l : Le m m') : Stk P S st m' bomb base K Kt fr cs fr' cs' := by
  induction h with
  | bottom h hd hk => exact .bottom (h.mono l) hd hk
  | push h hd hk hs hc _ ih => exact .push (h.mono l) hd hk hs hc ih
/-- The top frame, another one. -/
theorem Stk.top {bomb : Frame} {base : Base} {K Kt : List Item} {fr fr' g g' : Frame} {cs cs' : List Frame} (h : Stk P S st m bomb base K Kt fr cs fr' cs') (hg : FR P S st m Kt g g') (hd : g'.defers = fr'.defers) (hk : g'.kind = fr'.kind) (hf : g.fn = fr.fn) : Stk P S st m bomb base K Kt g cs g' cs' := by
  cases h with
  | bottom _ h1 h2 => exact .bottom hg (hd.trans h1) (hk.trans h2)
  | push _ h1 h2 h3 h4 r => exact .push hg (hd.trans h1) (hk.trans h2) (hf ▸ h3) h4 r

theorem eval_alike (hG : Gl P m) {fr fr' : Frame} (h : VRs S m fr.tmps fr'.tmps) {x : Operand} (hx : opndB P S x = true) : VR S m (fr.eval x) (fr'.eval x) := by
  cases x with
  | tmp t => exact h.getD t
  | const v => exact .dry hx
  | global g => exact .ptr ⟨hG.own g (by simpa [opndB] using hx), rfl, rfl⟩
  | func f => exact .func hx rfl fun i hi => absurd hi (by simp)
theorem yielded_alike {ops : Array Oper} {t t' : Array Value} (h : VRs S m t t') (j : Nat) : yielded ops t' j = yielded ops t j := by
  unfold yielded
  cases hd : (ops[j]?).bind (·.dst) with
  | none => rfl
  | some d =>
    simp only [Option.bind_some]
    cases hv : t[d]? with
    | none => rw [h.none hv]
    | some v =>
      obtain ⟨v', h1, h2⟩ := h.get? hv
      rw [h1]
      cases h2 <;> first | rfl | (rename_i h; cases v' <;> first | exact h.elim | rfl)
theorem FR.finish {K : List Item} {fr fr' : Frame} (h : FR P S st m K fr fr') (hne : fr.todo ≠ []) {v v' : Value} (hv : VR S m v v') : FR P S st m K (fr.finish v) (fr'.finish v') ∧ (fr'.finish v').defers = fr'.defers ∧ (fr'.finish v').kind = fr'.kind ∧ (fr.finish v).fn = fr.fn ∧ (fr.finish v).todo ≠ [] := by
  obtain ⟨fn, tmps, todo, ds, mode, kind, round⟩ := fr
  obtain ⟨fn', tmps', todo', ds', mode', kind', round'⟩ := fr'
  obtain ⟨h1, h2, h3, h4, h5, h6, h7, h8, h9, h10, h11⟩ := h
  dsimp only at h1 h2 h3 h4 h5 h6 h7 h8 h9 h10 h11 hne
  subst h1; subst h3
  unfold Frame.finish
  rcases todo with _ | ⟨x, k⟩
  · exact absurd rfl hne
  · have hx := h4 x (by simp)
    simp only [List.cons_append]
    cases x with
    | inRegion ops l =>
      rcases l with _ | ⟨i, rest⟩
      · exact ⟨⟨rfl, h2, rfl, h4, h5, h6, h7, h8, h9, h10, h11⟩, rfl, rfl, rfl, by simp⟩
      · refine ⟨⟨rfl, ?_, rfl, fun y hy => ?_, h5, h6, h7, h8, h9, h10, h11⟩, rfl, rfl, rfl, by simp⟩
        · dsimp only
          cases (ops[i]?).bind (·.dst) with
          | none => exact h2
          | some d => exact h2.set hv d
        · rcases List.mem_cons.1 hy with rfl | hy
          · exact List.all_eq_true.2 fun j hj => List.all_eq_true.1 hx j (List.mem_cons_of_mem _ hj)
          · exact h4 y (by simp [hy])
    | inRangeFunc _ => cases hx
    | beginRound => cases hx
    | call _ _ _ _ => cases hx
    | extern _ _ => cases hx
    | _ => exact ⟨⟨rfl, h2, rfl, h4, h5, h6, h7, h8, h9, h10, h11⟩, rfl, rfl, rfl, by simp⟩

/-- A step goes by what it draws alone. -/
def Loc1 (P : Program) (fr : Frame) (cs : List Frame) (fr1 : Frame) (cs1 : List Frame) (w w1 : World) : Prop :=
  w.drawn ≤ w1.drawn ∧ ∀ T d, (∀ n q, w.drawn + n < w1.drawn → T (d + n) q = w.tape (w.drawn + n) q) → ∃ es2, stepG P true (G fr cs) (World.on w T d) = .go (G fr1 cs1) (World.on w1 T (d + (w1.drawn - w.drawn))) es2
/-- What may become of a step: it ends the run · it panics · it is matched. -/
def Matched (P : Program) (S : FuncId → Bool) (st : Bool) (m : Ren) (bomb : Frame) (base : Base) (K : List Item) (main : Bool) (fr : Frame) (cs : List Frame) (fr' : Frame) (cs' : List Frame) (w w' : World) : Prop :=
  (∃ o w1 es, stepG P true (G fr cs) w = .ended o w1 es) ∨
  (∃ fr1 w1 es ch, stepG P true (G fr cs) w = .go (G fr1 cs) w1 es ∧ fr1.mode = .panicking ch ∧ fr1.defers = [] ∧ ∀ x ∈ fr1.todo, itemB P S st x = true) ∨
  ∃ fr1 cs1 w1 es, stepG P true (G fr cs) w = .go (G fr1 cs1) w1 es ∧ Loc1 P fr cs fr1 cs1 w w1 ∧ (TA w w1 w' → ∃ m1 fr1' cs1' w1' es', stepG P main (G fr' cs') w' = .go (G fr1' cs1') w1' es' ∧ (∃ Kt, Stk P S st m1 bomb base K Kt fr1 cs1 fr1' cs1') ∧ HR S st m1 w1 w1' ∧ Mv m m1 w w1 w' w1' es')
theorem Mv.less {m m1 : Ren} {w w1 w' w1' : World} {e1 e2 : Array Event} (h : Mv m m1 w w1 w' w1' e1) (hs : ∀ e ∈ e2, e ∈ e1) : Mv m m1 w w1 w' w1' e2 := { h with evs := fun e he => h.evs e (hs e he) }
theorem Matched.quiet {bomb : Frame} {base : Base} {K Kt : List Item} {main : Bool} {fr fr' g g' : Frame} {cs cs' : List Frame} {w w' : World} (hst : Stk P S st m bomb base K Kt fr cs fr' cs') (hh : HR S st m w w')
    (h1 : ∀ w, stepG P true (G fr cs) w = .go (G g cs) w) (h2 : stepG P main (G fr' cs') w' = .go (G g' cs') w') (hg : FR P S st m Kt g g') (hd : g'.defers = fr'.defers) (hk : g'.kind = fr'.kind) (hf : g.fn = fr.fn) : Matched P S st m bomb base K main fr cs fr' cs' w w' :=
  .inr (.inr ⟨g, cs, w, #[], h1 w, ⟨Nat.le_refl _, fun T d _ => ⟨#[], by rw [h1, Nat.sub_self]; rfl⟩⟩, fun _ => ⟨m, g', cs', w', #[], h2, ⟨_, hst.top hg hd hk hf⟩, hh, .refl _ _ _⟩⟩)
theorem exitTo_ok {id : Nat} : ∀ {k k' : List Item}, exitTo id k = some k' → (∀ x ∈ k, itemB P S st x = true) → ∀ x ∈ k', itemB P S st x = true
  | [], _, h, _ => by simp [exitTo] at h
  | x :: k, k', h, hk => by
    have ih : exitTo id k = some k' → ∀ x ∈ k', itemB P S st x = true := fun h => exitTo_ok h fun y hy => hk y (by simp [hy])
    cases x with
    | inBlock i =>
      unfold exitTo at h
      split at h
      · cases h; exact fun y hy => hk y (by simp [hy])
      · exact ih h
    | _ => exact ih (by simpa [exitTo] using h)
theorem exitTo_app {id : Nat} {K : List Item} : ∀ {k k' : List Item}, exitTo id k = some k' → exitTo id (k ++ K) = some (k' ++ K)
  | [], _, h => by simp [exitTo] at h
  | x :: k, k', h => by
    have ih : exitTo id k = some k' → exitTo id (k ++ K) = some (k' ++ K) := exitTo_app
    cases x with
    | inBlock i =>
      unfold exitTo at h
      rw [List.cons_append]
      unfold exitTo
      split at h
      · next e => cases h; rw [if_pos e]
      · next e => rw [if_neg e]; exact ih h
    | _ => exact ih (by simpa [exitTo] using h)
theorem seen_sub (fn : FuncId) (es : Array Event) : ∀ e ∈ seen P fn es, e ∈ es := by
  intro e he
  unfold seen at he
  have key : ∀ (l : List Event) (q : Bool) (kept : Array Event), (∀ x ∈ (l.foldl (fun (p : Bool × Array Event) e => match e.loc with
      | .mark (.extern f) => ((P.funcs[f]?).any (·.norace), p.2)
      | _ => (p.1, if p.1 && !e.sync then p.2 else p.2.push e)) (q, kept)).2, x ∈ kept ∨ x ∈ l) := by
    intro l
    induction l with
    | nil => intro q kept x hx; exact .inl hx
    | cons y l ih =>
      intro q kept x hx
      rw [List.foldl_cons] at hx
      have := ih _ _ x hx
      rcases this with h | h
      · split at h
        · exact .inl h
        · dsimp only at h
          split at h
          · exact .inl h
          · rcases Array.mem_push.1 h with h | rfl
            · exact .inl h
            · exact .inr (by simp)
      · exact .inr (by simp [h])
  dsimp only at he
  rw [← Array.foldl_toList] at he
  rcases key _ _ _ e he with h | h
  · simp at h
  · exact Array.mem_toList_iff.1 h

end

section
variable {P : Program} {S : FuncId → Bool} {st : Bool} {m : Ren}
/-- ████ A frame that runs, at a move of control. ████ -/
theorem control {bomb : Frame} {base : Base} {K Kt : List Item} {main : Bool} {fn : FuncId} {t t' : Array Value} {todo : List Item} {ds : List Deferred} {kd : CallKind} {cs cs' : List Frame} {w w' : World} (hG : GX P st m)
    (hst : Stk P S st m bomb base K Kt ⟨fn, t, todo, [], .run, .normal, none⟩ cs ⟨fn, t', todo ++ Kt, ds, .run, kd, none⟩ cs') (hh : HR S st m w w') (hne : todo ≠ [] ∨ Kt = [])
    (hn : ∀ ops i rest k, todo ≠ .inRegion ops (i :: rest) :: k) : Matched P S st m bomb base K main ⟨fn, t, todo, [], .run, .normal, none⟩ cs ⟨fn, t', todo ++ Kt, ds, .run, kd, none⟩ cs' w w' := by
  have hfr := hst.fr
  have hok := hfr.ok
  have ht := hfr.tmps
  have hk := hfr.kind'
  dsimp only at hok ht hk
  have go : ∀ (k : List Item), (∀ x ∈ k, itemB P S st x = true) → FR P S st m Kt ⟨fn, t, k, [], .run, .normal, none⟩ ⟨fn, t', k ++ Kt, ds, .run, kd, none⟩ := fun k h => ⟨rfl, ht, rfl, h, rfl, rfl, .inl rfl, rfl, hk, rfl, rfl⟩
  have ret : FR P S st m Kt ⟨fn, t, todo, [], .returning, .normal, none⟩ ⟨fn, t', todo ++ Kt, ds, .returning, kd, none⟩ := ⟨rfl, ht, rfl, hok, rfl, rfl, .inr rfl, rfl, hk, rfl, rfl⟩
  have to : ∀ (k : List Item), (∀ x ∈ k, itemB P S st x = true) → (∀ w, stepG P true (G ⟨fn, t, todo, [], .run, .normal, none⟩ cs) w = .go (G ⟨fn, t, k, [], .run, .normal, none⟩ cs) w) → stepG P main (G ⟨fn, t', todo ++ Kt, ds, .run, kd, none⟩ cs') w' = .go (G ⟨fn, t', k ++ Kt, ds, .run, kd, none⟩ cs') w' → Matched P S st m bomb base K main ⟨fn, t, todo, [], .run, .normal, none⟩ cs ⟨fn, t', todo ++ Kt, ds, .run, kd, none⟩ cs' w w' :=
    fun k h a b => .quiet hst hh a b (go k h) rfl rfl rfl
  rcases todo with _ | ⟨x, k⟩
  · obtain rfl := hne.resolve_left (by simp)
    exact .quiet hst hh (fun _ => by simp [stepG, stepG.exec, G]) (by simp [stepG, stepG.exec, G]) ret rfl rfl rfl
  have hx := hok x (by simp)
  have hk : ∀ y ∈ k, itemB P S st y = true := fun y hy => hok y (by simp [hy])
  cases x with
  | code c =>
    cases c with
    | skip => exact to k hk (fun _ => by simp [stepG, stepG.exec, G]) (by simp [stepG, stepG.exec, G])
    | label _ => exact to k hk (fun _ => by simp [stepG, stepG.exec, G]) (by simp [stepG, stepG.exec, G])
    | ret => exact .quiet hst hh (fun _ => by simp [stepG, stepG.exec, G]) (by simp [stepG, stepG.exec, G]) ret rfl rfl rfl
    | refuse _ => exact .inl ⟨_, _, _, by simp [stepG, stepG.exec, G]; exact ⟨rfl, rfl, rfl⟩⟩
    | seq a b =>
      have hx : (codeB P S st a && codeB P S st b) = true := hx
      rw [Bool.and_eq_true] at hx
      refine to (.code a :: .code b :: k) (fun y hy => ?_) (fun _ => by simp [stepG, stepG.exec, G]) (by simp [stepG, stepG.exec, G])
      rcases List.mem_cons.1 hy with rfl | hy
      · exact hx.1
      · rcases List.mem_cons.1 hy with rfl | hy
        · exact hx.2
        · exact hk y hy
    | cond c a b =>
      have hx : (opndB P S c && (codeB P S st a && codeB P S st b)) = true := hx
      rw [Bool.and_eq_true, Bool.and_eq_true] at hx
      have he := eval_alike hG.gl (fr := ⟨fn, t, .code (.cond c a b) :: k, [], .run, .normal, none⟩) (fr' := ⟨fn, t', .code (.cond c a b) :: (k ++ Kt), ds, .run, kd, none⟩) ht hx.1
      generalize hv : Frame.eval ⟨fn, t, .code (.cond c a b) :: k, [], .run, .normal, none⟩ c = v at he
      generalize hv' : Frame.eval ⟨fn, t', .code (.cond c a b) :: (k ++ Kt), ds, .run, kd, none⟩ c = v' at he
      cases he with
      | bool q =>
        refine to (.code (if q then a else b) :: k) (fun y hy => ?_) (fun _ => by simp [stepG, stepG.exec, G, hv]) (by simp [stepG, stepG.exec, G, hv'])
        rcases List.mem_cons.1 hy with rfl | hy
        · cases q
          · exact hx.2.2
          · exact hx.2.1
        · exact hk y hy
      | _ => exact .inl ⟨_, _, _, by simp [stepG, stepG.exec, G, hv]; exact ⟨rfl, rfl, rfl⟩⟩
    | block id c =>
      refine to (.code c :: .inBlock id :: k) (fun y hy => ?_) (fun _ => by simp [stepG, stepG.exec, G]) (by simp [stepG, stepG.exec, G])
      rcases List.mem_cons.1 hy with rfl | hy
      · exact hx
      · rcases List.mem_cons.1 hy with rfl | hy
        · rfl
        · exact hk y hy
    | loop c =>
      refine to (.code c :: .inLoop c :: k) (fun y hy => ?_) (fun _ => by simp [stepG, stepG.exec, G]) (by simp [stepG, stepG.exec, G])
      rcases List.mem_cons.1 hy with rfl | hy
      · exact hx
      · rcases List.mem_cons.1 hy with rfl | hy
        · exact hx
        · exact hk y hy
    | scope c =>
      refine to (.code c :: .inScope c :: k) (fun y hy => ?_) (fun _ => by simp [stepG, stepG.exec, G]) (by simp [stepG, stepG.exec, G])
      rcases List.mem_cons.1 hy with rfl | hy
      · exact hx
      · rcases List.mem_cons.1 hy with rfl | hy
        · exact hx
        · exact hk y hy
    | exit id =>
      cases he : exitTo id k with
      | none => exact .inl ⟨_, _, _, by simp [stepG, stepG.exec, G, he]; exact ⟨rfl, rfl, rfl⟩⟩
      | some k' => exact to k' (exitTo_ok he hk) (fun _ => by simp [stepG, stepG.exec, G, he]) (by simp [stepG, stepG.exec, G, exitTo_app he])
    | region id ops draw =>
      have reg : ∀ l, ∀ y ∈ Item.inRegion ops l :: k, itemB P S st y = true := fun l y hy => by
        rcases List.mem_cons.1 hy with rfl | hy
        · refine List.all_eq_true.2 fun i _ => ?_
          cases ho : ops[i]? with
          | none => rfl
          | some o =>
            obtain ⟨hi, rfl⟩ := Array.getElem?_eq_some_iff.1 ho
            exact Array.all_eq_true.1 hx i hi
        · exact hk y hy
      cases draw with
      | false => exact to (.inRegion ops (List.range ops.size) :: k) (reg _) (fun _ => by simp [stepG, stepG.exec, G]) (by simp [stepG, stepG.exec, G])
      | true =>
        have a1 : ∀ w : World, stepG P true (G ⟨fn, t, .code (.region id ops true) :: k, [], .run, .normal, none⟩ cs) w = .go (G ⟨fn, t, .inRegion ops (Region.schedule (P.follows .mixedOrders) ops (w.tape w.drawn (.order fn id))) :: k, [], .run, .normal, none⟩ cs) { w with drawn := w.drawn + 1 } := by
          intro w; simp [stepG, stepG.exec, G, choose, Sem.run, Question.forced, Question.cut]
        have a2 : stepG P main (G ⟨fn, t', .code (.region id ops true) :: (k ++ Kt), ds, .run, kd, none⟩ cs') w' = .go (G ⟨fn, t', .inRegion ops (Region.schedule (P.follows .mixedOrders) ops (w'.tape w'.drawn (.order fn id))) :: (k ++ Kt), ds, .run, kd, none⟩ cs') { w' with drawn := w'.drawn + 1 } := by
          simp [stepG, stepG.exec, G, choose, Sem.run, Question.forced, Question.cut]
        refine .inr (.inr ⟨_, _, _, _, a1 w, ⟨by simp, fun T d hT => ⟨#[], ?_⟩⟩, fun hta => ?_⟩)
        · have := hT 0 (.order fn id) (by simp)
          simp only [Nat.add_zero] at this
          rw [a1]
          simp only [World.on, this]
          rw [Nat.add_sub_cancel_left]
        have e := hta 0 (.order fn id) (by simp)
        simp only [Nat.add_zero] at e
        rw [← e] at a2
        exact ⟨m, _, _, _, #[], a2, ⟨_, hst.top (go _ (reg _)) rfl rfl rfl⟩, hh.drew, mv_drew⟩
    | rangeFunc _ _ _ _ => cases hx
    | goto _ => cases hx
  | inBlock _ => exact to k hk (fun _ => by simp [stepG, stepG.exec, G]) (by simp [stepG, stepG.exec, G])
  | inScope _ => exact to k hk (fun _ => by simp [stepG, stepG.exec, G]) (by simp [stepG, stepG.exec, G])
  | inLoop c =>
    refine to (.code c :: .inLoop c :: k) (fun y hy => ?_) (fun _ => by simp [stepG, stepG.exec, G]) (by simp [stepG, stepG.exec, G])
    rcases List.mem_cons.1 hy with rfl | hy
    · exact hx
    · rcases List.mem_cons.1 hy with rfl | hy
      · exact hx
      · exact hk y hy
  | inRegion ops l =>
    cases l with
    | nil => exact to k hk (fun _ => by simp [stepG, stepG.exec, G]) (by simp [stepG, stepG.exec, G])
    | cons i rest => exact absurd rfl (hn ops i rest k)
  | inRangeFunc _ => cases hx
  | endRangeFunc _ => cases hx
  | beginRound => cases hx
  | call _ _ _ _ => cases hx
  | extern _ _ => cases hx
end
end Sin
end Go.Proofs.YtbkjjknlphlhlaaDoor
