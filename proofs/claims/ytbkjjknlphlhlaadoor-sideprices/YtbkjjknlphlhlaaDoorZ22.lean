/- ████ A step of the one is matched by a step of the other, ON: operations, returns. ████ -/
import Derived.Test.YtbkjjknlphlhlaaDoorZ21
namespace Go.Proofs.YtbkjjknlphlhlaaDoor
namespace Sin
open Sim
open Go.Conc
set_option maxRecDepth 100000

section
variable {P : Program} {S : FuncId → Bool} {st : Bool} {m : Ren}
theorem apply_value {fr : Frame} {cs : List Frame} {s : Sem Next} {w w1 : World} {v : Value} {es : Array Event} (hk : fr.kind = .normal ∨ fr.kind = .deferred) (hr : s.runT P w #[] = (.ok (.value v) w1, es)) : stepG.apply P true fr cs none s w = .go (G (fr.finish v) cs) w1 (seen P fr.fn es) := by
  have hk' : (fr.kind == CallKind.early) = false := by rcases hk with h | h <;> rw [h] <;> rfl
  unfold stepG.apply
  rw [if_pos rfl, hr]
  simp [hk', GStep.after, G]
theorem apply_skip {fr : Frame} {cs : List Frame} {s : Sem Next} {w w1 : World} {es : Array Event} (hk : fr.kind = .normal ∨ fr.kind = .deferred) (hr : s.runT P w #[] = (.ok .skip w1, es)) : stepG.apply P true fr cs none s w = .go (G (fr.finish undef) cs) w1 (seen P fr.fn es) := by
  have hk' : (fr.kind == CallKind.early) = false := by rcases hk with h | h <;> rw [h] <;> rfl
  unfold stepG.apply
  rw [if_pos rfl, hr]
  simp [hk', GStep.after, G]
theorem apply_enter {fr : Frame} {cs : List Frame} {s : Sem Next} {w w1 : World} {f : FuncId} {args : Array Value} {es : Array Event} {ops : Array Oper} {l : List Nat} {k : List Item} (ht : fr.todo = .inRegion ops l :: k) (hk : fr.kind = .normal ∨ fr.kind = .deferred) (hr : s.runT P w #[] = (.ok (.enter f args) w1, es)) : stepG.apply P true fr cs none s w = .go (G (Frame.enter P f args .normal) (fr :: cs)) w1 (seen P fr.fn es) := by
  have hk' : (fr.kind == CallKind.early) = false := by rcases hk with h | h <;> rw [h] <;> rfl
  unfold stepG.apply
  rw [if_pos rfl, hr]
  simp [hk', GStep.after, G, ht]
theorem apply_halt {fr : Frame} {cs : List Frame} {s : Sem Next} {w w1 : World} {x : Halt} {es : Array Event} (hx : tame x = true) (hr : s.runT P w #[] = (.halt x w1, es)) :
    (∃ o w2 e2, stepG.apply P true fr cs none s w = .ended o w2 e2) ∨ ∃ ch w2 e2, stepG.apply P true fr cs none s w = .go (G (fr.raise ch) cs) w2 e2 := by
  unfold stepG.apply
  rw [if_pos rfl, hr]
  cases x with
  | panic v => exact .inr ⟨_, _, _, by simp [GStep.after, G]; exact ⟨rfl, rfl, rfl⟩⟩
  | stuck y => exact .inl ⟨_, _, _, by simp [GStep.after]; exact ⟨rfl, rfl, rfl⟩⟩
  | unsupported u => cases u <;> first | (cases hx; done) | exact .inl ⟨_, _, _, by simp [GStep.after]; exact ⟨rfl, rfl, rfl⟩⟩
  | _ => cases hx
theorem enter_alike {f : FuncId} (hf : fnB P S st f = true) {a a' : Array Value} (h : VRs S m a a') : FR P S st m [] (Frame.enter P f a .normal) (Frame.enter P f a' .normal) := by
  have := hf
  unfold fnB at this
  split at this
  · next fn e =>
    rw [Bool.and_eq_true] at this
    split at this
    · next c e2 =>
      refine ⟨rfl, ?_, (List.append_nil _).symm, fun x hx => ?_, rfl, rfl, .inl rfl, rfl, .inl rfl, rfl, rfl⟩
      · show VRs S m (a ++ _) (a' ++ _)
        rw [h.1]
        exact h.append (.replicate _ .undef)
      · simp only [Frame.enter, e, Option.bind_some, e2, Option.getD_some, List.mem_singleton] at hx
        subst hx
        exact this.2
    · cases this.2
  · cases this
theorem fnB_of (hF : ∀ f, S f = true → FnX P S st f) {f : FuncId} (hf : S f = true) (hb : FnHere P f) : fnB P S st f = true := by
  rcases hF f hf with h | ⟨_, fn, e, _, h, _⟩
  · exact h
  · obtain ⟨fn', e', _, h'⟩ := hb
    rw [e] at e'; cases e'
    rw [h] at h'; cases h'
theorem sr_panicNil {S : FuncId → Bool} {st : Bool} {m : Ren} : SR P S st (fun _ (_ _ : Value) => False) m (runtimePanic .panicNil) (runtimePanic .panicNil) := by
  unfold runtimePanic
  refine sr_prog ?_
  refine (sr_elemOf _).bind fun m1 l1 e e' he => ?_
  obtain rfl := he
  exact (sr_newVar e (.agg rfl fun i hi => absurd hi (by simp))).bind fun _ _ _ _ _ => .halt
theorem nil_halts (w : World) : ∃ x w1, (runtimePanic .panicNil : Sem Value).run P w = .halt x w1 ∧ tame x = true := by
  have hh : HR (fun _ => false) false (fun _ => none) w w := ⟨(fun b b' e => nomatch e), (fun a b c e => nomatch e)⟩
  rcases (sr_panicNil (P := P) (S := fun _ => false) (st := false) (m := fun _ => none)).ends hh with ⟨n, w1, hr⟩ | ⟨x, w1, hr, hx⟩
  · obtain ⟨_, _, h⟩ := (sr_panicNil (P := P)).yields hh hr
    exact h.elim
  · exact ⟨x, w1, hr, hx⟩
theorem panic_halts {o : Oper} (h : isPanic o = true) (ρ : Operand → Value) (w : World) : ∃ x w1, (execOp ρ o).run P w = .halt x w1 ∧ tame x = true := by
  obtain ⟨dst, op, type, pos, after, guard⟩ := o
  cases op with
  | panic y =>
    show ∃ x w1, (do pure (Next.value (← Instr.panic (ρ y))) : Sem Next).run P w = .halt x w1 ∧ tame x = true
    have key : ∃ x w1, (Instr.panic (ρ y)).run P w = .halt x w1 ∧ tame x = true := by
      generalize ρ y = v
      cases v with
      | iface t v => exact ⟨_, _, rfl, rfl⟩
      | nilIface =>
        show ∃ x w1, (Instr.panicnil >>= fun n => if n == 1 then goPanic .nilIface else runtimePanic .panicNil : Sem Value).run P w = .halt x w1 ∧ tame x = true
        rw [Sem.run_bind]
        have hn : (∃ n w1, Instr.panicnil.run P w = .ok n w1) ∨ ∃ x w1, Instr.panicnil.run P w = .halt x w1 ∧ tame x = true := by
          unfold Instr.panicnil
          rw [Sem.run_bind]
          show (∃ n w1, Result.andThen (.ok (w.sys .env).1 (w.sys .env).2) _ = .ok n w1) ∨ ∃ x w1, Result.andThen (.ok (w.sys .env).1 (w.sys .env).2) _ = .halt x w1 ∧ tame x = true
          generalize (w.sys .env).1 = r
          generalize (w.sys .env).2 = w2
          cases r <;> first | exact .inl ⟨_, _, rfl⟩ | exact .inr ⟨_, _, rfl, rfl⟩
        rcases hn with ⟨n, w1, h⟩ | ⟨x, w1, h, hx⟩
        · rw [h]
          show ∃ x w2, (if n == 1 then goPanic .nilIface else runtimePanic .panicNil : Sem Value).run P w1 = .halt x w2 ∧ tame x = true
          split
          · exact ⟨_, _, rfl, rfl⟩
          · exact nil_halts w1
        · exact ⟨x, w1, by rw [h]; rfl, hx⟩
      | _ => exact ⟨_, _, rfl, rfl⟩
    obtain ⟨x, w1, h, hx⟩ := key
    exact ⟨x, w1, by rw [Sem.run_bind, h]; rfl, hx⟩
  | _ => cases h
/-- ████ -/
theorem operation (hF : ∀ f, S f = true → FnX P S st f) {bomb : Frame} {base : Base} {K Kt : List Item} {main : Bool} {fn : FuncId} {t t' : Array Value} {ops : Array Oper} {i : Nat} {rest : List Nat} {k : List Item} {ds : List Deferred} {kd : CallKind} {cs cs' : List Frame} {w w' : World} (hG : GX P st m)
    (hst : Stk P S st m bomb base K Kt ⟨fn, t, .inRegion ops (i :: rest) :: k, [], .run, .normal, none⟩ cs ⟨fn, t', .inRegion ops (i :: rest) :: (k ++ Kt), ds, .run, kd, none⟩ cs') (hh : HR S st m w w') :
    Matched P S st m bomb base K main ⟨fn, t, .inRegion ops (i :: rest) :: k, [], .run, .normal, none⟩ cs ⟨fn, t', .inRegion ops (i :: rest) :: (k ++ Kt), ds, .run, kd, none⟩ cs' w w' := by
  have hfr := hst.fr
  have hok := hfr.ok
  have ht := hfr.tmps
  have hk := hfr.kind'
  dsimp only at hok ht hk
  have hops := hok (.inRegion ops (i :: rest)) (by simp)
  by_cases hw : ((ops[i]?).map (Region.wanted · (yielded ops t))).getD false = true
  · obtain ⟨o, ho⟩ : ∃ o, ops[i]? = some o := by
      cases h : ops[i]? with
      | none => rw [h] at hw; cases hw
      | some o => exact ⟨o, rfl⟩
    have hw1 : Region.wanted o (yielded ops t) = true := by rw [ho] at hw; exact hw
    have hw2 : Region.wanted o (yielded ops t') = true := by rw [show yielded ops t' = yielded ops t from funext (yielded_alike ht)]; exact hw1
    have hoy : opY P S st o = true := by
      have h := List.all_eq_true.1 hops i (by simp)
      rw [ho] at h
      exact h
    have e1 := stepG_oper (P := P) (main := true) (b := ⟨fn, t, [], [], .run, .normal, none⟩) (a := ⟨t, []⟩) (k := k) (cs := cs) (w := w) (rest := rest) ho hw1
    have e2 := stepG_oper (P := P) (main := main) (b := ⟨fn, t', [], ds, .run, kd, none⟩) (a := ⟨t', ds⟩) (k := k ++ Kt) (cs := cs') (w := w') (rest := rest) ho hw2
    by_cases hp : isPanic o = true
    · obtain ⟨x, w1, hr, hx⟩ := panic_halts (P := P) hp (⟨t, []⟩ : Act).eval w
      have hrT : (execOp (⟨t, []⟩ : Act).eval o).runT P w #[] = (.halt x w1, ((execOp (⟨t, []⟩ : Act).eval o).runT P w #[]).2) := Prod.ext (by rw [Sem.runT_fst]; exact hr) rfl
      rcases apply_halt hx hrT (fr := ⟨fn, t, .inRegion ops (i :: rest) :: k, [], .run, .normal, none⟩) (cs := cs) with ⟨o1, w2, es2, h2⟩ | ⟨ch, w2, es2, h2⟩
      · exact .inl ⟨_, _, _, e1.trans h2⟩
      · exact .inr (.inl ⟨_, _, _, ch, e1.trans h2, rfl, rfl, hok⟩)
    have hob : opX P S st o = true := by
      have h := hoy
      unfold opY at h
      rw [Bool.or_eq_true] at h
      exact h.resolve_right hp
    have hsr := sr_execX hG.gl hG.hb (fnHere hF) hob (ρ := (⟨t, []⟩ : Act).eval) (ρ' := (⟨t', ds⟩ : Act).eval) (m := m) (fun x hx => by
      have := eval_alike hG.gl (S := S) (fr := ⟨fn, t, [], [], .run, .normal, none⟩) (fr' := ⟨fn, t', [], ds, .run, kd, none⟩) ht hx
      cases x <;> exact this) (fun v => ⟨rfl, rfl⟩)
    change stepG P true (G ⟨fn, t, .inRegion ops (i :: rest) :: k, [], .run, .normal, none⟩ cs) w = stepG.apply P true ⟨fn, t, .inRegion ops (i :: rest) :: k, [], .run, .normal, none⟩ cs none (execOp (⟨t, []⟩ : Act).eval o) w at e1
    change stepG P main (G ⟨fn, t', .inRegion ops (i :: rest) :: (k ++ Kt), ds, .run, kd, none⟩ cs') w' = stepG.apply P true ⟨fn, t', .inRegion ops (i :: rest) :: (k ++ Kt), ds, .run, kd, none⟩ cs' none (execOp (⟨t', ds⟩ : Act).eval o) w' at e2
    rcases hsr.ends hh with ⟨n, w1, hr⟩ | ⟨x, w1, hr, hx⟩
    · have hrT : (execOp (⟨t, []⟩ : Act).eval o).runT P w #[] = (.ok n w1, ((execOp (⟨t, []⟩ : Act).eval o).runT P w #[]).2) := Prod.ext (by rw [Sem.runT_fst]; exact hr) rfl
      have main_ : TA w w1 w' → ∃ m1 n' w1' evs, (execOp (⟨t', ds⟩ : Act).eval o).runT P w' #[] = (.ok n' w1', #[] ++ evs) ∧ NB (FnHere P) S m1 n n' ∧ HR S st m1 w1 w1' ∧ Mv m m1 w w1 w' w1' (seen P fn (#[] ++ evs)) := fun hta => by
        obtain ⟨m1, n', w1', evs, r1, r2, r3, r4⟩ := hsr.run hh hr hta #[]
        exact ⟨m1, n', w1', evs, r1, r2, r3, Mv.less r4 fun e he => by have := seen_sub _ _ e he; simpa using this⟩
      have e1' : ∀ w : World, stepG P true (G ⟨fn, t, .inRegion ops (i :: rest) :: k, [], .run, .normal, none⟩ cs) w = stepG.apply P true ⟨fn, t, .inRegion ops (i :: rest) :: k, [], .run, .normal, none⟩ cs none (execOp (⟨t, []⟩ : Act).eval o) w := fun w => stepG_oper (P := P) (main := true) (b := ⟨fn, t, [], [], .run, .normal, none⟩) (a := ⟨t, []⟩) (k := k) (cs := cs) (w := w) (rest := rest) ho hw1
      have lo := fun T d => hsr.local_ hh hr T d
      have loT : ∀ T d, (∀ n q, w.drawn + n < w1.drawn → T (d + n) q = w.tape (w.drawn + n) q) → (execOp (⟨t, []⟩ : Act).eval o).runT P (World.on w T d) #[] = (.ok n (World.on w1 T (d + (w1.drawn - w.drawn))), ((execOp (⟨t, []⟩ : Act).eval o).runT P (World.on w T d) #[]).2) := fun T d hT => Prod.ext (by rw [Sem.runT_fst]; exact (lo T d).2 hT) rfl
      cases n with
      | value v =>
        refine .inr (.inr ⟨_, _, _, _, e1.trans (apply_value (.inl rfl) hrT), ⟨(lo w.tape 0).1, fun T d hT => ⟨_, (e1' _).trans (apply_value (.inl rfl) (loT T d hT))⟩⟩, fun hta => ?_⟩)
        obtain ⟨m1, n', w1', evs, r1, r2, r3, r4⟩ := main_ hta
        cases r2 with
        | value hv =>
        obtain ⟨f1, f2, f3, f4, f5⟩ := (hfr.mono r4.le).finish (by simp) hv
        exact ⟨m1, _, _, _, _, e2.trans (apply_value hk r1), ⟨_, (hst.mono r4.le).top f1 f2 f3 f4⟩, r3, r4⟩
      | skip =>
        refine .inr (.inr ⟨_, _, _, _, e1.trans (apply_skip (.inl rfl) hrT), ⟨(lo w.tape 0).1, fun T d hT => ⟨_, (e1' _).trans (apply_skip (.inl rfl) (loT T d hT))⟩⟩, fun hta => ?_⟩)
        obtain ⟨m1, n', w1', evs, r1, r2, r3, r4⟩ := main_ hta
        cases r2
        obtain ⟨f1, f2, f3, f4, f5⟩ := (hfr.mono r4.le).finish (by simp) .undef
        exact ⟨m1, _, _, _, _, e2.trans (apply_skip hk r1), ⟨_, (hst.mono r4.le).top f1 f2 f3 f4⟩, r3, r4⟩
      | enter f a =>
        refine .inr (.inr ⟨_, _, _, _, e1.trans (apply_enter rfl (.inl rfl) hrT), ⟨(lo w.tape 0).1, fun T d hT => ⟨_, (e1' _).trans (apply_enter rfl (.inl rfl) (loT T d hT))⟩⟩, fun hta => ?_⟩)
        obtain ⟨m1, n', w1', evs, r1, r2, r3, r4⟩ := main_ hta
        cases r2 with
        | enter hf ha hb => exact ⟨m1, _, _, _, _, e2.trans (apply_enter rfl hk r1), ⟨_, .push (enter_alike (fnB_of hF hf hb) ha) rfl rfl hf (by simp) (hst.mono r4.le)⟩, r3, r4⟩
      | _ => exact absurd (hsr.yields hh hr) (by rintro ⟨m1, n', h⟩; cases h)
    · have hrT : (execOp (⟨t, []⟩ : Act).eval o).runT P w #[] = (.halt x w1, ((execOp (⟨t, []⟩ : Act).eval o).runT P w #[]).2) := Prod.ext (by rw [Sem.runT_fst]; exact hr) rfl
      rcases apply_halt hx hrT (fr := ⟨fn, t, .inRegion ops (i :: rest) :: k, [], .run, .normal, none⟩) (cs := cs) with ⟨o1, w2, es2, h2⟩ | ⟨ch, w2, es2, h2⟩
      · exact .inl ⟨_, _, _, e1.trans h2⟩
      · exact .inr (.inl ⟨_, _, _, ch, e1.trans h2, rfl, rfl, hok⟩)
  · have hw' : ¬ ((ops[i]?).map (Region.wanted · (yielded ops t'))).getD false = true := by
      rw [show yielded ops t' = yielded ops t from funext (yielded_alike ht)]; exact hw
    obtain ⟨f1, f2, f3, f4, f5⟩ := hfr.finish (by simp) .undef
    refine .quiet hst hh ?_ ?_ f1 f2 f3 f4
    · intro w
      simp only [Bool.not_eq_true] at hw
      simp [stepG, stepG.exec, G, hw, undef]
    · simp only [Bool.not_eq_true] at hw'
      simp [stepG, stepG.exec, G, hw', undef]
theorem sr_mapM2 {β : Type} {f f' : β → Sem Value} : ∀ (l : List β) {m : Ren}, (∀ x ∈ l, ∀ m', Le m m' → SR P S st (VR S) m' (f x) (f' x)) → SR P S st (fun m (a b : List Value) => VRs S m a.toArray b.toArray) m (l.mapM f) (l.mapM f')
  | [], _, _ => by rw [List.mapM_nil, List.mapM_nil]; exact .pure .empty
  | x :: l, m, h => by
    rw [List.mapM_cons, List.mapM_cons]
    refine (h x (by simp) m (.refl _)).bind fun m1 l1 a b e => ?_
    refine (sr_mapM2 l fun y hy m' l' => h y (by simp [hy]) m' (l1.trans l')).bind fun m2 l2 c d e2 => ?_
    refine .pure ?_
    have := (VRs.push .empty (e.mono l2)).append e2
    simpa using this
theorem sr_asAddr {v v' : Value} (h : VR S m v v') : SR P S st AR m (asAddr v) (asAddr v') := by
  cases h with
  | ptr h => exact .pure h
  | nilp => exact .program .halt
  | _ => exact .halt
theorem sr_results (fn : Func) {t t' : Array Value} (h : VRs S m t t') : SR P S st (VR S) m (results fn t) (results fn t') := by
  unfold results
  rw [Array.mapM_eq_mapM_toList, Array.mapM_eq_mapM_toList]
  refine SR.bind (A := fun m (a b : Array Value) => VRs S m a b) ?_ fun m1 l1 a b e => ?_
  · refine (sr_mapM2 fn.results.toList fun x _ m' l' => ?_).bind fun m2 l2 a b e => .pure e
    cases x with
    | tmp d => exact .pure ((h.mono l').getD d)
    | cell d ty => exact (sr_asAddr ((h.mono l').getD d)).bind fun m3 l3 a a' ha => sr_loadVar ty ha
  · refine .pure ?_
    by_cases hz : a.size = 1
    · rw [dif_pos hz, dif_pos (e.1 ▸ hz)]
      have := e.2 0 (by omega)
      have h1 : 0 < a.size := by omega
      have h2 : 0 < b.size := by rw [← e.1]; omega
      simpa [Array.getD, h1, h2] using this
    · rw [dif_neg hz, dif_neg (e.1 ▸ hz)]
      exact .tuple e.1 e.2
/-- ████ -/
theorem comeback (hF : ∀ f, S f = true → FnX P S st f) {bomb : Frame} {base : Base} {K Kt : List Item} {main : Bool} {fn : FuncId} {t t' : Array Value} {todo : List Item} {c c' : Frame} {cs cs' : List Frame} {w w' : World}
    (hs : S fn = true) (h : FR P S st m [] ⟨fn, t, todo, [], .returning, .normal, none⟩ ⟨fn, t', todo ++ [], [], .returning, .normal, none⟩) (hc : c.todo ≠ []) (hr : Stk P S st m bomb base K Kt c cs c' cs') (hh : HR S st m w w') :
    Matched P S st m bomb base K main ⟨fn, t, todo, [], .returning, .normal, none⟩ (c :: cs) ⟨fn, t', todo ++ [], [], .returning, .normal, none⟩ (c' :: cs') w w' := by
  obtain ⟨f, e1⟩ : ∃ f, P.funcs[fn]? = some f := by
    rcases fnHere hF fn hs with ⟨f, e, _⟩ | ⟨_, f, e, _⟩ <;> exact ⟨f, e⟩
  have ht := h.tmps
  have hsr := sr_results (P := P) (st := st) f ht
  rcases hsr.ends hh with ⟨v, w1, hv⟩ | ⟨x, w1, hv, hx⟩
  · have hrT : (results f t).runT P w #[] = (.ok v w1, ((results f t).runT P w #[]).2) := Prod.ext (by rw [Sem.runT_fst]; exact hv) rfl
    have a1 : stepG P true (G ⟨fn, t, todo, [], .returning, .normal, none⟩ (c :: cs)) w = .go (G (c.finish v) cs) w1 (seen P fn ((results f t).runT P w #[]).2) := by
      have hrT' := hrT
      simp only [stepG, G, unwind, e1]
      rw [hrT']
      simp [GStep.after, doReturn]
    have lo := fun T d => hsr.local_ hh hv T d
    refine .inr (.inr ⟨_, _, _, _, a1, ⟨(lo w.tape 0).1, fun T d hT => ?_⟩, fun hta => ?_⟩)
    · have hrT' : (results f t).runT P (World.on w T d) #[] = (.ok v (World.on w1 T (d + (w1.drawn - w.drawn))), ((results f t).runT P (World.on w T d) #[]).2) := Prod.ext (by rw [Sem.runT_fst]; exact (lo T d).2 hT) rfl
      refine ⟨seen P fn ((results f t).runT P (World.on w T d) #[]).2, ?_⟩
      simp only [stepG, G, unwind, e1]
      rw [hrT']
      simp [GStep.after, doReturn]
    obtain ⟨m1, v', w1', evs, r1, r2, r3, r4⟩ := hsr.run hh hv hta #[]
    have a2 : stepG P main (G ⟨fn, t', todo ++ [], [], .returning, .normal, none⟩ (c' :: cs')) w' = .go (G (c'.finish v') cs') w1' (seen P fn (#[] ++ evs)) := by
      simp only [stepG, G, unwind, e1]
      rw [r1]
      simp [GStep.after, doReturn]
    obtain ⟨f1, f2, f3, f4, f5⟩ := (hr.fr.mono r4.le).finish hc r2
    exact ⟨m1, _, _, _, _, a2, ⟨_, (hr.mono r4.le).top f1 f2 f3 f4⟩, r3, Mv.less r4 fun e he => by have := seen_sub _ _ e he; simpa using this⟩
  · have hrT : (results f t).runT P w #[] = (.halt x w1, ((results f t).runT P w #[]).2) := Prod.ext (by rw [Sem.runT_fst]; exact hv) rfl
    refine .inl ?_
    simp only [stepG, G, unwind, e1]
    rw [hrT]
    cases x with
    | panic v => exact ⟨_, _, _, rfl⟩
    | stuck y => exact ⟨_, _, _, rfl⟩
    | unsupported u => exact ⟨_, _, _, rfl⟩
    | _ => cases hx
end
end Sin
end Go.Proofs.YtbkjjknlphlhlaaDoor
namespace Go.Proofs.YtbkjjknlphlhlaaDoor
namespace Sin
open Sim
open Go.Conc
set_option maxRecDepth 100000

section
variable {P : Program} {S : FuncId → Bool} {st : Bool} {m : Ren}
theorem Stk.steps (hF : ∀ f, S f = true → FnX P S st f) {bomb : Frame} {base : Base} {K Kt : List Item} {main : Bool} {fr fr' : Frame} {cs cs' : List Frame} {w w' : World} (hG : GX P st m)
    (hst : Stk P S st m bomb base K Kt fr cs fr' cs') (hh : HR S st m w w') : (fr.mode = .returning ∧ cs = [bomb]) ∨ (fr.mode = .run ∧ fr.todo = [] ∧ cs = [bomb] ∧ K ≠ []) ∨ Matched P S st m bomb base K main fr cs fr' cs' w w' := by
  have hfr := hst.fr
  obtain ⟨fn, t, todo, ds, mode, kind, round⟩ := fr
  obtain ⟨fn', t', todo', ds', mode', kind', round'⟩ := fr'
  obtain ⟨h1, h2, h3, h4, h5, h6, h7, h8, h9, h10, h11⟩ := hfr
  dsimp only at h1 h2 h3 h4 h5 h6 h7 h8 h9 h10 h11
  subst h1; subst h3; subst h5; subst h6; subst h8; subst h10; subst h11
  rcases h7 with rfl | rfl
  · by_cases hne : todo ≠ [] ∨ Kt = []
    · refine .inr (.inr ?_)
      by_cases hx : ∃ ops i rest k, todo = .inRegion ops (i :: rest) :: k
      · obtain ⟨ops, i, rest, k, rfl⟩ := hx
        exact operation hF hG hst hh
      · exact control hG hst hh hne fun ops i rest k e => hx ⟨ops, i, rest, k, e⟩
    · have h0 : todo = [] := Classical.byContradiction fun h => hne (.inl h)
      have hK : Kt ≠ [] := fun h => hne (.inr h)
      cases hst with
      | bottom _ _ _ => exact .inr (.inl ⟨rfl, h0, rfl, hK⟩)
      | push _ _ _ _ _ _ => exact absurd rfl hK
  · cases hst with
    | bottom _ _ _ => exact .inl ⟨rfl, rfl⟩
    | push h hd hk hs hc r =>
      dsimp only at hd hk hs
      subst hd; subst hk
      exact .inr (.inr (comeback hF hs h hc r hh))

/-- The frame that lies below all: a panic that comes to it ends the run. -/
def bombOf (P : Program) : Frame := { fn := P.funcs.size, tmps := #[], todo := [], defers := [{ target := .fn (.func P.funcs.size) #[], args := #[] }], mode := .run, kind := .normal }

/-- Frames above the lowest one, none of which has a deferred call. -/
inductive Bare (P : Program) (S : FuncId → Bool) (st : Bool) (bomb : Frame) : List Frame → Prop
  | bottom : Bare P S st bomb [bomb]
  | push {c cs} (hd : c.defers = []) (ho : ∀ x ∈ c.todo, itemB P S st x = true) (h : Bare P S st bomb cs) : Bare P S st bomb (c :: cs)
theorem Stk.bare {bomb : Frame} {base : Base} {K Kt : List Item} {fr fr' : Frame} {cs cs' : List Frame} (h : Stk P S st m bomb base K Kt fr cs fr' cs') : Bare P S st bomb cs := by
  induction h with
  | bottom _ _ _ => exact .bottom
  | push h _ _ _ _ r ih => exact .push r.fr.d r.fr.ok ih
theorem lone_step {fr fr' : Frame} {cs cs' : List Frame} {w w' : World} {es : Array Event} (h : stepG P true (G fr cs) w = .go (G fr' cs') w' es) : step P (lone fr cs w) = .next (lone fr' cs' w') := step_lone_go (by show (stepG P true (G fr cs) w).bare = _; rw [h]; rfl)
theorem lone_ended {fr : Frame} {cs : List Frame} {w w' : World} {o : Outcome} {es : Array Event} (h : stepG P true (G fr cs) w = .ended o w' es) : step P (lone fr cs w) = .ended o w' := step_lone_ended (by show (stepG P true (G fr cs) w).bare = _; rw [h]; rfl)
theorem raise_is (c : Frame) (vs : List PanicEntry) : (∃ ch, (c.raise vs).mode = .panicking ch) ∧ (c.raise vs).defers = c.defers ∧ (c.raise vs).todo = c.todo := by
  unfold Frame.raise
  split
  · exact ⟨⟨_, rfl⟩, rfl, rfl⟩
  · exact ⟨⟨_, rfl⟩, rfl, rfl⟩
theorem lone_inj {fr g : Frame} {cs gs : List Frame} {w w' : World} (h : lone fr cs w = lone g gs w') : fr = g ∧ cs = gs ∧ w = w' := by
  unfold lone at h
  simp only [Machine.mk.injEq, Array.mk.injEq, List.cons.injEq, Goroutine.mk.injEq, and_true] at h
  exact ⟨h.2.1, h.2.2, h.1⟩
/-- Once it panics it never again runs, nor returns. -/
theorem no_panic : ∀ {cs : List Frame}, Bare P S st (bombOf P) cs → ∀ {fr : Frame} {ch : List PanicEntry} (w : World), fr.mode = .panicking ch → fr.defers = [] → (∀ x ∈ fr.todo, itemB P S st x = true) → ∀ (n : Nat) (g : Frame) (gs : List Frame) (w' : World), runN P n (lone fr cs w) = .next (lone g gs w') → ∃ ch', g.mode = .panicking ch' := by
  intro cs hb
  induction hb with
  | bottom =>
    intro fr ch w hm hd ho n g gs w' hr
    have hcat : fr.catches P = false := by
      unfold Frame.catches
      split
      · next h1 h2 =>
        have := ho _ (by rw [h2]; exact List.mem_cons_self)
        cases this
      · rfl
    have h1 : stepG P true (G fr [bombOf P]) w = .go (G ((bombOf P).raise ch) []) w := by
      simp [stepG, G, hm, unwind, hd, hcat]
    have h2 : ∃ o es, stepG P true (G ((bombOf P).raise ch) []) w = .ended o w es := by
      have hn : P.funcs[P.funcs.size]? = none := by simp
      have hi : (invoke (.fn (.func P.funcs.size) #[]) #[]).run P w = .halt (.stuck "call: no such function") w := by
        show (callFunc P.funcs.size (#[] ++ #[])).run P w = _
        unfold callFunc
        show Sem.run P (match P.funcs[P.funcs.size]? with | none => stuck "call: no such function" | some fn => _) w = _
        rw [hn]; rfl
      simp [stepG, G, bombOf, Frame.raise, unwind, callDeferred, hi, GStep.after]
    obtain ⟨o, es, h2⟩ := h2
    rcases n with _ | _ | n
    · simp only [runN, Stepped.next.injEq] at hr
      have : fr = g := (lone_inj hr).1
      subst this; exact ⟨ch, hm⟩
    · simp only [runN, lone_step h1, Stepped.next.injEq] at hr
      have : (bombOf P).raise ch = g := (lone_inj hr).1
      subst this; exact ⟨_, rfl⟩
    · simp only [runN, lone_step h1, lone_ended h2] at hr
      cases hr
  | @push c cs hd' ho' hb ih =>
    intro fr ch w hm hd ho n g gs w' hr
    have hcat : fr.catches P = false := by
      unfold Frame.catches
      split
      · next h1 h2 =>
        have := ho _ (by rw [h2]; exact List.mem_cons_self)
        cases this
      · rfl
    have h1 : stepG P true (G fr (c :: cs)) w = .go (G (c.raise ch) cs) w := by
      simp [stepG, G, hm, unwind, hd, hcat]
    rcases n with _ | n
    · simp only [runN, Stepped.next.injEq] at hr
      have : fr = g := (lone_inj hr).1
      subst this; exact ⟨ch, hm⟩
    · simp only [runN, lone_step h1] at hr
      obtain ⟨⟨ch2, r1⟩, r2, r3⟩ := raise_is c ch
      exact ih w (fr := c.raise ch) r1 (r2.trans hd') (r3 ▸ ho') n g gs w' hr

theorem ret_bomb {fr : Frame} {w : World} (hd : fr.defers = []) (hm : fr.mode = .returning) (hk : fr.kind = .normal) : ∀ (n : Nat) (g : Frame) (w' : World), runN P (n + 1) (lone fr [bombOf P] w) ≠ .next (lone g [bombOf P] w') := by
  have hn : P.funcs[P.funcs.size]? = none := by simp
  have h2 : ∀ w, stepG P true (G (bombOf P) []) w = .go (G { bombOf P with mode := .returning } []) w := fun w => by simp [stepG, stepG.exec, G, bombOf]
  have h3 : ∀ w, ∃ o es, stepG P true (G { bombOf P with mode := .returning } []) w = .ended o w es := fun w => by
    have hi : (invoke (.fn (.func P.funcs.size) #[]) #[]).run P w = .halt (.stuck "call: no such function") w := by
      show (callFunc P.funcs.size (#[] ++ #[])).run P w = _
      unfold callFunc
      show Sem.run P (match P.funcs[P.funcs.size]? with | none => stuck "call: no such function" | some fn => _) w = _
      rw [hn]; rfl
    simp [stepG, G, bombOf, unwind, callDeferred, hi, GStep.after]
  have h1 : (∃ o w1 es, stepG P true (G fr [bombOf P]) w = .ended o w1 es) ∨ ∃ w1 es, stepG P true (G fr [bombOf P]) w = .go (G (bombOf P) []) w1 es := by
    simp only [stepG, G, hm, unwind, hd]
    split
    · exact .inr ⟨_, _, by simp only [doReturn, hk]; rfl⟩
    · next f hf =>
      generalize (results f fr.tmps).runT P w #[] = r
      obtain ⟨r, es⟩ := r
      cases r with
      | ok v w1 => exact .inr ⟨_, _, by simp only [doReturn, hk]; rfl⟩
      | halt x w1 => cases x <;> exact .inl ⟨_, _, _, rfl⟩
  intro n g w' hr
  rcases h1 with ⟨o, w1, es, h1⟩ | ⟨w1, es, h1⟩
  · simp only [runN, lone_ended h1] at hr; cases hr
  · simp only [runN, lone_step h1] at hr
    rcases n with _ | n
    · simp only [runN, Stepped.next.injEq] at hr
      have := (lone_inj hr).2.1; cases this
    · simp only [runN, lone_step (h2 w1)] at hr
      rcases n with _ | n
      · simp only [runN, Stepped.next.injEq] at hr
        have := (lone_inj hr).2.1; cases this
      · obtain ⟨o, es, h3⟩ := h3 w1
        simp only [runN, lone_ended h3] at hr; cases hr

/-- On every tape a lone run comes to where Q holds. -/
def Reaches (P : Program) (Q : Frame → World → Prop) (fr : Frame) (cs : List Frame) (w : World) : Prop :=
  ∀ (T : Nat → Question → Nat) (d : Nat), w.drawn ≤ d → ∃ T2 n fr1 w1, (∀ x, d ≤ x → T2 x = T x) ∧ runN P n (lone fr cs (World.on w T2 d)) = .next (lone fr1 [bombOf P] w1) ∧ Q fr1 w1
/-- Q looks at no tape, and not at a panic. -/
structure Blind (Q : Frame → World → Prop) : Prop where
  on : ∀ fr w T d, Q fr w → Q fr (World.on w T d)
  still : ∀ fr w ch, Q fr w → fr.mode ≠ .panicking ch
def AtQ (P : Program) (Q : Frame → World → Prop) (fr : Frame) (cs : List Frame) (w : World) : Prop := cs = [bombOf P] ∧ Q fr w
/-- One step on, on some tape. -/
def Des (P : Program) (Q : Frame → World → Prop) (s1 s : Frame × List Frame × World) : Prop :=
  ¬ AtQ P Q s.1 s.2.1 s.2.2 ∧ ∃ (T : Nat → Question → Nat) (d : Nat), s.2.2.drawn ≤ d ∧ d ≤ s1.2.2.drawn ∧ ∀ (T' : Nat → Question → Nat) (d' : Nat), (∀ n q, d + n < s1.2.2.drawn → T' (d' + n) q = T (d + n) q) → ∃ es, stepG P true (G s.1 s.2.1) (World.on s.2.2 T' d') = .go (G s1.1 s1.2.1) (World.on s1.2.2 T' (d' + (s1.2.2.drawn - d))) es

theorem Reaches.next (hF : ∀ f, S f = true → FnX P S st f) {Q : Frame → World → Prop} (hQ : Blind Q) {base : Base} {K Kt : List Item} (hQr : K = [] ∨ ∀ fr w, Q fr w → fr.mode = .run) {main : Bool} {fr fr' : Frame} {cs cs' : List Frame} {w w' : World} (hG : GX P st m)
    (hst : Stk P S st m (bombOf P) base K Kt fr cs fr' cs') (hh : HR S st m w w') (hr : Reaches P Q fr cs w) (hn : ¬ AtQ P Q fr cs w) (hd : w.drawn ≤ w'.drawn) :
    ∃ T2 fr1 cs1 w1 m1 fr1' cs1' w1' es', stepG P main (G fr' cs') w' = .go (G fr1' cs1') w1' es' ∧ (∃ Kt, Stk P S st m1 (bombOf P) base K Kt fr1 cs1 fr1' cs1') ∧ HR S st m1 w1 w1' ∧ Mv m m1 (World.on w T2 w'.drawn) w1 w' w1' es' ∧ Reaches P Q fr1 cs1 w1 ∧ Des P Q (fr1, cs1, w1) (fr, cs, w) := by
  have nq : ∀ T d, ¬ AtQ P Q fr cs (World.on w T d) := fun T d h => hn ⟨h.1, by have := hQ.on _ _ w.tape w.drawn h.2; exact this⟩
  obtain ⟨T2, n, frq, wq, ha, hrun, hq⟩ := hr w'.tape w'.drawn hd
  rcases n with _ | n
  · simp only [runN, Stepped.next.injEq] at hrun
    obtain ⟨rfl, rfl, rfl⟩ := lone_inj hrun
    exact absurd ⟨rfl, hq⟩ (nq _ _)
  have hh2 : HR S st m (World.on w T2 w'.drawn) w' := ⟨hh.obj, hh.inj⟩
  rcases hst.steps hF (main := main) hG hh2 with ⟨hm, rfl⟩ | ⟨hm, ht, rfl, hK⟩ | ⟨o, w1, es, h1⟩ | ⟨fr1, w1, es, ch, h1, h2, h3, h4⟩ | ⟨fr1, cs1, w1, es, h1, hl, h2⟩
  · exact absurd hrun (ret_bomb hst.fr.d hm hst.fr.kind n frq wq)
  · have hQm := hQr.resolve_left hK
    have h1 : stepG P true (G fr [bombOf P]) (World.on w T2 w'.drawn) = .go (G { fr with mode := .returning } [bombOf P]) (World.on w T2 w'.drawn) := by
      have hfr := hst.fr
      obtain ⟨fn, t, todo, ds, mode, kind, round⟩ := fr
      have e1 := hfr.d; have e2 := hfr.kind; have e3 := hfr.round
      dsimp only at hm ht e1 e2 e3
      subst hm; subst ht; subst e1; subst e2; subst e3
      simp [stepG, stepG.exec, G]
    simp only [runN, lone_step h1] at hrun
    rcases n with _ | n
    · simp only [runN, Stepped.next.injEq] at hrun
      have := (lone_inj hrun).1
      subst this
      exact absurd (hQm _ _ hq) (by simp)
    · exact absurd hrun (ret_bomb (fr := { fr with mode := .returning }) hst.fr.d rfl hst.fr.kind n frq wq)
  · simp only [runN, lone_ended h1] at hrun; cases hrun
  · simp only [runN, lone_step h1] at hrun
    obtain ⟨ch', h⟩ := no_panic hst.bare w1 h2 h3 h4 n frq [bombOf P] wq hrun
    exact absurd h (hQ.still _ _ _ hq)
  · obtain ⟨m1, fr1', cs1', w1', es', k1, k2, k3, k4⟩ := h2 fun n q _ => by
      show T2 (w'.drawn + n) q = w'.tape (w'.drawn + n) q
      rw [ha _ (Nat.le_add_right _ _)]
    have hw1 : w'.drawn ≤ w1.drawn := hl.1
    have des : ∀ T' d', (∀ n q, w'.drawn + n < w1.drawn → T' (d' + n) q = T2 (w'.drawn + n) q) → ∃ es, stepG P true (G fr cs) (World.on w T' d') = .go (G fr1 cs1) (World.on w1 T' (d' + (w1.drawn - w'.drawn))) es := fun T' d' h => hl.2 T' d' h
    refine ⟨T2, fr1, cs1, w1, m1, fr1', cs1', w1', es', k1, k2, k3, k4, ?_, hn, T2, w'.drawn, hd, hw1, des⟩
    intro T' d' hd'
    let j := w1.drawn - w'.drawn
    have hj : d' - j + j = d' := by omega
    obtain ⟨T3, n3, fr3, w3, a3, r3, q3⟩ := hr (fun x => if x < d' then T2 (x - (d' - j) + w'.drawn) else T' x) (d' - j) (by omega)
    rcases n3 with _ | n3
    · simp only [runN, Stepped.next.injEq] at r3
      obtain ⟨rfl, rfl, rfl⟩ := lone_inj r3
      exact absurd ⟨rfl, q3⟩ (nq _ _)
    · obtain ⟨es3, h3⟩ := des T3 (d' - j) fun n q hn => by
        rw [a3 _ (Nat.le_add_right _ _), if_pos (by omega)]
        congr 1
        omega
      simp only [runN, lone_step h3] at r3
      rw [hj] at r3
      refine ⟨T3, n3, fr3, w3, fun x hx => ?_, r3, q3⟩
      rw [a3 x (by omega), if_neg (by omega)]

/-- Where there is no endless way down, there is an end. -/
theorem acc_of {α : Type} {R : α → α → Prop} {s : α} (h : ∀ f : Nat → α, f 0 = s → ¬ ∀ i, R (f (i + 1)) (f i)) : Acc R s := by
  refine Classical.byContradiction fun hn => ?_
  have next : ∀ x : { x // ¬ Acc R x }, ∃ y : { x // ¬ Acc R x }, R y.1 x.1 := fun x => by
    refine Classical.byContradiction fun hc => x.2 (.intro _ fun y hy => ?_)
    exact Classical.byContradiction fun hy' => hc ⟨⟨y, hy'⟩, hy⟩
  let g : Nat → { x // ¬ Acc R x } := fun i => Nat.rec ⟨s, hn⟩ (fun _ x => (next x).choose) i
  exact h (fun i => (g i).1) rfl fun i => (next (g i)).choose_spec
/-- The places at which what is drawn at step i is laid. -/
def laidAt (D : Nat) (j : Nat → Nat) : Nat → Nat
  | 0 => D
  | i + 1 => laidAt D j i + j i
theorem laidAt_mono (D : Nat) (j : Nat → Nat) {a b : Nat} (h : a ≤ b) : laidAt D j a ≤ laidAt D j b := by
  induction h with
  | refl => exact Nat.le_refl _
  | step _ ih => exact Nat.le_trans ih (Nat.le_add_right _ _)
theorem one_tape (D : Nat) (j : Nat → Nat) (A : Nat → Nat → Question → Nat) : ∃ T : Nat → Question → Nat, ∀ i n q, n < j i → T (laidAt D j i + n) q = A i n q := by
  classical
  refine ⟨fun x => if h : ∃ i, laidAt D j i ≤ x ∧ x < laidAt D j (i + 1) then A h.choose (x - laidAt D j h.choose) else fun _ => 0, fun i n q hn => ?_⟩
  have hx : ∃ k, laidAt D j k ≤ laidAt D j i + n ∧ laidAt D j i + n < laidAt D j (k + 1) := ⟨i, Nat.le_add_right _ _, by show _ < laidAt D j i + j i; omega⟩
  have e : hx.choose = i := by
    obtain ⟨h1, h2⟩ := hx.choose_spec
    generalize hx.choose = k at h1 h2
    rcases Nat.lt_trichotomy k i with h | h | h
    · have := laidAt_mono D j (show k + 1 ≤ i from h); omega
    · exact h
    · have := laidAt_mono D j (show i + 1 ≤ k from h)
      have e : laidAt D j (i + 1) = laidAt D j i + j i := rfl
      omega
  show (dite (∃ k, laidAt D j k ≤ laidAt D j i + n ∧ laidAt D j i + n < laidAt D j (k + 1)) (fun h => A h.choose (laidAt D j i + n - laidAt D j h.choose)) (fun _ _ => 0)) q = _
  rw [dif_pos hx]
  simp only [e]
  rw [Nat.add_sub_cancel_left]
theorem runN_snoc (n : Nat) (a b c : Machine) (h : runN P n a = .next b) (h2 : step P b = .next c) : runN P (n + 1) a = .next c := by
  rw [runN_add P n 1 a, h]
  simp only [runN, h2]
/-- ████ -/
theorem Reaches.acc {Q : Frame → World → Prop} (hQ : Blind Q) {fr : Frame} {cs : List Frame} {w : World} (hr : Reaches P Q fr cs w) : Acc (Des P Q) (fr, cs, w) := by
  refine acc_of fun f h0 hf => ?_
  have hn := fun i => (hf i).1
  have hc := fun i => (hf i).2
  let T := fun i => (hc i).choose
  have hT : ∀ i, ∃ d, (f i).2.2.drawn ≤ d ∧ d ≤ (f (i + 1)).2.2.drawn ∧ ∀ (T' : Nat → Question → Nat) (d' : Nat), (∀ n q, d + n < (f (i + 1)).2.2.drawn → T' (d' + n) q = T i (d + n) q) → ∃ es, stepG P true (G (f i).1 (f i).2.1) (World.on (f i).2.2 T' d') = .go (G (f (i + 1)).1 (f (i + 1)).2.1) (World.on (f (i + 1)).2.2 T' (d' + ((f (i + 1)).2.2.drawn - d))) es := fun i => (hc i).choose_spec
  let d := fun i => (hT i).choose
  have hd := fun i => (hT i).choose_spec
  obtain ⟨T0, hT0⟩ := one_tape w.drawn (fun i => (f (i + 1)).2.2.drawn - d i) (fun i n => T i (d i + n))
  obtain ⟨T2, n, frq, wq, a2, r2, q2⟩ := hr T0 w.drawn (Nat.le_refl _)
  let c := laidAt w.drawn (fun i => (f (i + 1)).2.2.drawn - d i)
  have hge : ∀ i, w.drawn ≤ c i := fun i => laidAt_mono w.drawn _ (Nat.zero_le i)
  have runs : ∀ i, runN P i (lone fr cs (World.on w T2 w.drawn)) = .next (lone (f i).1 (f i).2.1 (World.on (f i).2.2 T2 (c i))) := by
    intro i
    induction i with
    | zero => rw [h0]; rfl
    | succ i ih =>
      obtain ⟨es, h⟩ := (hd i).2.2 T2 (c i) fun n q hn => by
        rw [a2 _ (by have := hge i; omega)]
        exact hT0 i n q (by show n < (f (i + 1)).2.2.drawn - d i; have hn' : d i + n < (f (i + 1)).2.2.drawn := hn; omega)
      exact runN_snoc i _ _ _ ih (lone_step h)
  have := runs n
  rw [r2] at this
  obtain ⟨e1, e2, e3⟩ := lone_inj (Stepped.next.inj this)
  refine hn n ⟨e2.symm, ?_⟩
  have h := hQ.on _ _ (f n).2.2.tape (f n).2.2.drawn q2
  rw [e1, e3] at h
  exact h
end
end Sin
end Go.Proofs.YtbkjjknlphlhlaaDoor
