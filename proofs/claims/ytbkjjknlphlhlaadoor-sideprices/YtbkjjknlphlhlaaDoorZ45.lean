/- ████ One call of each, whole, beside others who only leave: from where its group stands to where its list has come back to its caller. ████ -/
import Derived.Conc.FxBegin
import Derived.Test.YtbkjjknlphlhlaaDoorZ36
import Derived.Test.YtbkjjknlphlhlaaDoorZ44
namespace Go.Proofs.YtbkjjknlphlhlaaDoor
namespace Mc
open Go.Conc Go.ConcN Hd Sim Wy Ev
open Go.ConcR (KK WgAt stA smA mk)
set_option maxRecDepth 100000
theorem still_trans {P : Program} {main : Bool} {n m : Nat} {g g' g'' : Goroutine} (h : Still P main n g g') (k : Still P main m g' g'') : Still P main (m + n) g g'' := by
  induction n generalizing g with
  | zero => cases h; exact k
  | succ n ih =>
    obtain ⟨h0, g1, h1, h2⟩ := h
    exact ⟨h0, g1, h1, ih h2⟩
/-- What stands behind it. -/
structure Back (E : Env) (c : Frame) (cs : List Frame) (gs : Array Goroutine) (w : World) (t : Trace) : Prop where
  hist : Hist (Sh2 E) w.heap.size gs.size t
  leave : ∃ q : Nat → Nat, ∀ i g, 0 < i → gs[i]? = some g → QuitsD Tryd.prog (q i) (Deaf t i) g
  above : ∀ i, gs.size ≤ i → Deaf t i = 0
  kn : Kn E w
  list : ∃ g n bl cur, gs[0]? = some g ∧ Still Tryd.prog true n g (G (c.finish (.slice (some ⟨bl, 0, none⟩) E.n E.n)) cs) ∧ w.heap[bl]? = some (.cells cur 55 (0, 0)) ∧ (E.Base bl ∨ E.Low ≤ bl) ∧ cur.size = 3 * E.n ∧
    ∀ j, j < E.n → ∃ p e C, cur[3 * j]? = some (.int .i64 j) ∧ cur[3 * j + 1]? = some p ∧ cur[3 * j + 2]? = some e ∧ E.Rc C j p e w
section
variable {E : Env} {c : Frame} {cs : List Frame} {b3 b5 b7 b8 : Addr} {k : Nat} {tp : Option Addr} {cp : Nat}
theorem fam_all (h7 : Holds1 E b7 (.chan (some E.cn))) (h8 : Holds1 E b8 (.chan (some E.cd))) (hn : E.n ≤ 1000000) (hk1 : 1 ≤ k) (hk2 : k ≤ 16)
    (hReg : ∀ T, WT E.Wg b7 b8 b3 b5 E.cn T → ∀ i, i < E.n → ∀ w, Kn E w → WayE Tryd.prog E false (RegW E b3 b5 b7 b8 i) E.Base no (RA E.Wg b7 b8 b3 b5 E.cn T i) w) : (FamW E c cs b3 b5 b7 b8 k tp cp).Ok Tryd.prog E :=
  fam_ok h7 hn hk1 hk2 (task_of h8 hReg)
/-- From the machine's end to what stands behind it. -/
theorem back_of {gs : Array Goroutine} {w : World} {t : Trace} (hd : Done Tryd.prog E (FamW E c cs b3 b5 b7 b8 k tp cp) gs w t) : Back E c cs gs w t := by
  refine ⟨hd.hist, hd.leave, hd.above, hd.kn, ?_⟩
  obtain ⟨g, gl, val, A, g1, hfin, hlst, hA, hres⟩ := hd.val
  have hfin : FinW (CWW E c cs b3 b5 b7 b8 k tp cp) (c :: cs) val g := hfin
  have hlst : LstW E gl val A w := hlst
  obtain ⟨f, n1, ⟨V1, bl, v1, v2, v3, hf⟩, st⟩ := hfin
  obtain ⟨bl', l1, l2, cur, l3, l4, l5⟩ := hlst
  rw [hf] at st
  have hbb : key bl = key bl' := v3.symm.trans l1
  have hbb : bl = bl' := by simpa [key] using hbb
  rw [← hbb] at l2 l3
  obtain ⟨_, _, _, _, _, _, _, _, _, p10⟩ := p_back c cs E.Wg b3 b5 b7 b8 k V1 tp E.n cp E.cn E.cd bl v1 v2
  refine ⟨g, _, bl, cur, g1, still_trans st p10, l3, hA bl l2, l4, fun j hj => ?_⟩
  obtain ⟨hin, C, hrc⟩ := hres j hj
  obtain ⟨x1, x2, x3⟩ := l5 j hin hj
  exact ⟨_, _, C, x1, x2, x3, hrc⟩
theorem call_runs (hE : E.Ok) (h3 : Holds1 E b3 (.slice tp E.n cp)) (h7 : Holds1 E b7 (.chan (some E.cn))) (h8 : Holds1 E b8 (.chan (some E.cd))) (hn : E.n ≤ 1000000) (hk1 : 1 ≤ k) (hk2 : k ≤ 16)
    (hReg : ∀ T, WT E.Wg b7 b8 b3 b5 E.cn T → ∀ i, i < E.n → ∀ w, Kn E w → WayE Tryd.prog E false (RegW E b3 b5 b7 b8 i) E.Base no (RA E.Wg b7 b8 b3 b5 E.cn T i) w)
    {gs : Array Goroutine} {w : World} {t : Trace} {sl : Option (Nat × Nat)} {B0 : Nat} {V : Array Value} (hV : VT E.Wg b3 b5 b7 b8 k V) (hb : gs.size = E.b0) (hp : E.p = t.size) (hlow : E.Low = w.heap.size) (hB0 : B0 ≤ E.Wg) (hW0 : E.W0 = w)
    (h0 : gs[0]? = some (Z6 c cs V)) (hist : Hist (Sh E) B0 E.b0 t) (leave : ∃ q : Nat → Nat, ∀ i g, 0 < i → gs[i]? = some g → QuitsD Tryd.prog (q i) (Deaf t i) g) (above : ∀ i, gs.size ≤ i → Deaf t i = 0)
    (hwg : WgAt 83 E.Wg w 0 0) (hcn : ∃ s r, w.heap[E.cn]? = some (.chan 0 #[] false s r false)) (hcd : ∃ s r, w.heap[E.cd]? = some (.chan 0 #[] false s r false)) :
    ∃ n gs' w' sl' t', runNT Tryd.prog n (crowd gs w sl) t = (.next (crowd gs' w' sl'), t') ∧ Back E c cs gs' w' t' := by
  have hF := fam_all (E := E) (c := c) (cs := cs) (b3 := b3) (b5 := b5) (b7 := b7) (b8 := b8) (k := k) (tp := tp) (cp := cp) h7 h8 hn hk1 hk2 hReg
  have hway : NextM Tryd.prog E (FamW E c cs b3 b5 b7 b8 k tp cp) k (Z6 c cs V) w := next_all h7 hn h3 h8 hk2 V w hV
  obtain ⟨n, m', t', hrun, hg⟩ := each_runs hE hF (sl := sl) hb hp hlow hB0 hW0 h0 hist leave above hwg hcn hcd hway
  obtain ⟨gs', w', sl', hm, hd⟩ := hg
  exact ⟨n, gs', w', sl', t', hm ▸ hrun, back_of hd⟩
end
end Mc
end Go.Proofs.YtbkjjknlphlhlaaDoor
namespace Go.Proofs.YtbkjjknlphlhlaaDoor
namespace Mc
open Go.Conc Go.ConcN Hd Sim Wy Ev
open Go.ConcR (KK WgAt stA smA)
set_option maxRecDepth 100000
/-- The call of fv with (i, L), from a worker's region: it goes until its answer stands. -/
def CallW (E : Env) (b3 b5 b7 b8 : Addr) (fv L : Value) (i : Nat) : Prop :=
  ∀ (A M : Nat → Prop) (a : Act) (w : World) (rest : List Nat), (∀ b, E.Base b → A b) → a.tmps[13]? = some fv → a.tmps[14]? = some (.int .i64 i) → a.tmps[18]? = some L → a.defers = (RW E.Wg b7 b8 b3 b5 E.cn).frame.defers →
    (∀ A' M' w' p e C, (∀ b, A b → A' b) → (∀ b, C b → A' b) → E.Rc C i (.int .i64 p) e w' → (e = .nilIface ∨ ∃ ti vi, e = .iface ti vi) → WayAt Tryd.prog false (Kn E) (XE E false) (RegW E b3 b5 b7 b8 i) rgOps (RW E.Wg b7 b8 b3 b5 E.cn).frame rgK (RW E.Wg b7 b8 b3 b5 E.cn).callers rest A' M' (a.put (some 19) (.tuple #[.int .i64 p, e])) w') →
    WayAt Tryd.prog false (Kn E) (XE E false) (RegW E b3 b5 b7 b8 i) rgOps (RW E.Wg b7 b8 b3 b5 E.cn).frame rgK (RW E.Wg b7 b8 b3 b5 E.cn).callers (6 :: rest) A M a w
section
variable {E : Env} {c : Frame} {cs : List Frame} {b3 b5 b7 b8 : Addr} {k : Nat} {tp : Option Addr} {cp : Nat} {fv : Value} {L : Nat → Value}
theorem each_whole (hE : E.Ok) (h3 : Holds1 E b3 (.slice tp E.n cp)) (h5 : Holds1 E b5 fv) (h7 : Holds1 E b7 (.chan (some E.cn))) (h8 : Holds1 E b8 (.chan (some E.cd))) (hn : E.n ≤ 1000000) (hk1 : 1 ≤ k) (hk2 : k ≤ 16)
    (hL : ∀ i, i < E.n → ∃ ta, tp = some ta ∧ Holds1 E (ta.add i) (L i)) (hCall : ∀ i, i < E.n → CallW E b3 b5 b7 b8 fv (L i) i)
    {gs : Array Goroutine} {w : World} {t : Trace} {sl : Option (Nat × Nat)} {B0 : Nat} {V : Array Value} (hV : VT E.Wg b3 b5 b7 b8 k V) (hb : gs.size = E.b0) (hp : E.p = t.size) (hlow : E.Low = w.heap.size) (hB0 : B0 ≤ E.Wg) (hW0 : E.W0 = w)
    (h0 : gs[0]? = some (Z6 c cs V)) (hist : Hist (Sh E) B0 E.b0 t) (leave : ∃ q : Nat → Nat, ∀ i g, 0 < i → gs[i]? = some g → QuitsD Tryd.prog (q i) (Deaf t i) g) (above : ∀ i, gs.size ≤ i → Deaf t i = 0)
    (hwg : WgAt 83 E.Wg w 0 0) (hcn : ∃ s r, w.heap[E.cn]? = some (.chan 0 #[] false s r false)) (hcd : ∃ s r, w.heap[E.cd]? = some (.chan 0 #[] false s r false)) :
    ∃ n gs' w' sl' t', runNT Tryd.prog n (crowd gs w sl) t = (.next (crowd gs' w' sl'), t') ∧ Back E c cs gs' w' t' := by
  have hReg : ∀ T, WT E.Wg b7 b8 b3 b5 E.cn T → ∀ i, i < E.n → ∀ w, Kn E w → WayE Tryd.prog E false (RegW E b3 b5 b7 b8 i) E.Base no (RA E.Wg b7 b8 b3 b5 E.cn T i) w := fun T hT i hi w _ => by
    obtain ⟨ta, e, hl⟩ := hL i hi
    exact reg_walk hE h5 (e ▸ h3) hi hl (hCall i hi) T hT w
  exact call_runs hE h3 h7 h8 hn hk1 hk2 hReg hV hb hp hlow hB0 hW0 h0 hist leave above hwg hcn hcd
end
end Mc
end Go.Proofs.YtbkjjknlphlhlaaDoor
namespace Go.Proofs.YtbkjjknlphlhlaaDoor
namespace Mc
open Go.Conc Sim Ev Wy
set_option maxRecDepth 100000
theorem run_enter {a : Act} {o : Oper} {cap : Array Value} {y z : Value} (hop : o.op = .call { callee := .value (.tmp 13), args := #[.tmp 14, .tmp 18], argTypes := #[3, 24] }) (hx : a.eval (.tmp 13) = .func (.func 12) #[] cap) (hy : a.eval (.tmp 14) = y) (hz : a.eval (.tmp 18) = z) (w : World) :
    (execOp a.eval o).run Tryd.prog w = .ok (.enter 12 (#[y, z] ++ cap)) w ∧ (execOp a.eval o).events Tryd.prog w #[] = #[] := by
  have hf : Tryd.prog.funcs[12]? = some Tryd.f12 := by kernel_rfl
  have h1 : (Tryd.f12.name == "runtime.NumGoroutine") = false := by kernel_rfl
  have h2 : Tryd.f12.body.isNone = false := by kernel_rfl
  have h3 : ¬ Tryd.f12.name = "runtime.NumGoroutine" := fun h => by rw [h] at h1; simp at h1
  have h4 : ¬ Tryd.f12.body = none := fun h => by rw [h] at h2; cases h2
  generalize a.eval = ρ at hx hy hz ⊢
  constructor
  · unfold execOp
    simp [hop, resolve, Deferred.ofValue, hx, hy, hz, invoke, callFunc, hf, h3, h4, go_sem]
  · unfold execOp
    simp [hop, resolve, Deferred.ofValue, hx, hy, hz, invoke, callFunc, hf, h3, h4, go_sem]
section
variable {ops : Array Oper} {i : Nat} {rest : List Nat} {k : List Item} {cs : List Frame} {b : Frame} {a : Act} {o : Oper} {E : Env} {main : Bool} {S : (Nat → Prop) → (Nat → Prop) → Goroutine → World → Prop} {A M : Nat → Prop} {w : World} {cap : Array Value} {y z : Value}
/-- Into the callee. -/
theorem way_enter (ho : ops[i]? = some o) (hg : o.guard = none) (hk : b.kind ≠ .early) (hop : o.op = .call { callee := .value (.tmp 13), args := #[.tmp 14, .tmp 18], argTypes := #[3, 24] }) (hx : a.eval (.tmp 13) = .func (.func 12) #[] cap) (hy : a.eval (.tmp 14) = y) (hz : a.eval (.tmp 18) = z)
    (h : Wy.Way Tryd.prog main (Kn E) (XE E main) S A M (G (Frame.enter Tryd.prog 12 (#[y, z] ++ cap) .normal) (b.at a (.inRegion ops (i :: rest) :: k) :: cs)) w) : WayAt Tryd.prog main (Kn E) (XE E main) S ops b k cs (i :: rest) A M a w := by
  have hw : Region.wanted o (yielded ops a.tmps) = true := by simp [Region.wanted, hg]
  refine way_go rfl fun w1 r _ => ?_
  obtain ⟨h1, h2⟩ := run_enter hop hx hy hz w1
  refine ⟨_, w1, _, stepG_enter ho hw hk h1, ?_, ?_⟩
  · unfold listed; rw [h2, seen_none]; exact .still (by simp)
  · rw [Ev.fresh_self, Ev.fresh_self]; exact h.rely r
end
end Mc
end Go.Proofs.YtbkjjknlphlhlaaDoor
namespace Go.Proofs.YtbkjjknlphlhlaaDoor
namespace Mc
open Go.Conc Sim Ev Wy Sin
set_option maxRecDepth 100000
def res12 (t : Array Value) : Value := .tuple #[t.getD 5 undef, t.getD 6 undef]
theorem res12_is (t : Array Value) (w : World) : (results Tryd.f12 t).run Tryd.prog w = .ok (res12 t) w ∧ (results Tryd.f12 t).events Tryd.prog w #[] = #[] := ⟨by kernel_rfl, by kernel_rfl⟩

/-! ### what is told, but for the numbers of blocks -/
section
variable {S : FuncId → Bool} {st : Bool} {m : Ren} {w w' : World} {D : Nat → Prop} {ad : Nat → Addr}
theorem cell_ren (h : HR S st m w w') {B B' o : Nat} (hB : m B = some B') {v : Value} (hv : w.cell? ⟨B, o, none⟩ = some v) : ∃ v', w'.cell? ⟨B', o, none⟩ = some v' ∧ VR S m v v' := by
  obtain ⟨x, x', h1, h2, h3⟩ := h.obj B B' hB
  rcases h3 with ⟨c, t, fz, c', fz', rfl, rfl, h4⟩ | ⟨a, a', l, rfl, rfl, _⟩
  · simp only [World.cell?, h1, h2] at hv ⊢
    exact VRs.get? (c := c) (c' := c') ⟨h4.size, h4.cells⟩ (by simpa using hv)
  · simp [World.cell?, h1] at hv
theorem ptr_kept (hle : Le (idOn D) m) {a : Addr} (ha : D a.block) {t : TypeId} {x : Value} (h : VR S m (.iface t (.pointer (some a))) x) : x = .iface t (.pointer (some a)) := by
  cases h with
  | iface _ h =>
    cases h with
    | ptr h =>
      rename_i a'
      obtain ⟨h1, h2, h3⟩ := h
      rw [hle.app _ _ (idOn_self ha)] at h1
      obtain ⟨b', o', s'⟩ := a'
      obtain ⟨b, o, s⟩ := a
      simp only [Option.some.injEq] at h1 h2 h3
      subst h1; subst h2; subst h3; rfl
theorem ans_ren (hh : HR S st m w w') (hle : Le (idOn D) m) (hd : ∀ g, g < 12 → D (ad g).block) {l : List Cv.Lot} {ref p : Int} {x x' : Value} (hx : VR S m x x') (h : Ans w ad l ref p x) : Ans w' ad l ref p x' := by
  rcases h with ⟨h1, h2, rfl, h3⟩ | ⟨h1, h2, rfl, h3⟩ | ⟨h1, h2, c, at_, h⟩
  · cases hx; exact .inl ⟨h1, h2, rfl, h3⟩
  · exact .inr (.inl ⟨h1, h2, ptr_kept hle (hd 1 (by decide)) hx, h3⟩)
  · refine .inr (.inr ⟨h1, h2, c, at_, ?_⟩)
    rcases h with ⟨e1, rfl, e2⟩ | ⟨e1, _⟩ | ⟨e1, i, B, j, k1, k2, k3, k4, k5, k6, k7, rfl, k8, k9⟩
    · exact .inl ⟨e1, ptr_kept hle (hd 7 (by decide)) hx, e2⟩
    · exact absurd e1 h1
    · cases hx with
      | iface _ hx =>
        cases hx with
        | ptr hx =>
          rename_i a'
          obtain ⟨q1, q2, q3⟩ := hx
          obtain ⟨B', o', s'⟩ := a'
          dsimp only at q1 q2 q3
          subst q2; subst q3
          obtain ⟨v0, r0, r1⟩ := cell_ren hh q1 k8
          obtain ⟨v1, r2, r3⟩ := cell_ren hh q1 k9
          cases r1
          rw [ptr_kept hle (hd j k4) r3] at r2
          exact .inr (.inr ⟨e1, i, B', j, k1, k2, k3, k4, k5, k6, k7, rfl, r0, r2⟩)
theorem ans_image {l : List Cv.Lot} {ref p : Int} {x x' : Value} (h : Ans w ad l ref p x) (hx : VR S m x x') : VR S (idOn (im m)) x' x' := by
  rcases h with ⟨_, _, rfl, _⟩ | ⟨_, _, rfl, _⟩ | ⟨h1, _, c, at_, h⟩
  · cases hx; exact .nilIface
  · exact Sin.VR.image hx
  · rcases h with ⟨_, rfl, _⟩ | ⟨e1, _⟩ | ⟨_, i, B, j, _, _, _, _, _, _, _, rfl, _, _⟩
    · exact Sin.VR.image hx
    · exact absurd e1 h1
    · exact Sin.VR.image hx
theorem Ans.iface {l : List Cv.Lot} {ref p : Int} {x : Value} (h : Ans w ad l ref p x) : x = .nilIface ∨ ∃ ti vi, x = .iface ti vi := by
  rcases h with ⟨_, _, h, _⟩ | ⟨_, _, h, _⟩ | ⟨h1, _, c, at_, h⟩
  · exact .inl h
  · exact .inr ⟨_, _, h⟩
  · exact .inr (err_is h h1)
theorem Ans.keep {C : Nat → Prop} {l : List Cv.Lot} {ref p : Int} {x : Value} (h : Ans w ad l ref p x) (hx : VR S (idOn C) x x) (hk : ∀ b, C b → w'.heap[b]? = w.heap[b]?) : Ans w' ad l ref p x := by
  rcases h with h | h | ⟨h1, h2, c, at_, h⟩
  · exact .inl h
  · exact .inr (.inl h)
  · refine .inr (.inr ⟨h1, h2, c, at_, ?_⟩)
    rcases h with h | h | ⟨e1, i, B, j, k1, k2, k3, k4, k5, k6, k7, rfl, k8, k9⟩
    · exact .inl h
    · exact .inr (.inl h)
    · have hB : C B := by
        cases hx with
        | iface _ hx =>
          cases hx with
          | ptr hx => exact (idOn_some.1 hx.1).1
      exact .inr (.inr ⟨e1, i, B, j, k1, k2, k3, k4, k5, k6, k7, rfl, (cell_heap (a := ⟨B, 0, none⟩) (hk B hB)).trans k8, (cell_heap (a := ⟨B, 1, none⟩) (hk B hB)).trans k9⟩)
end
/-- What is known of an answer: of task i's lots. -/
def RcT (D : Nat → Prop) (Low : Nat) (ad : Nat → Addr) (Ls : Nat → List Cv.Lot) (ref : Int) : (Nat → Prop) → Nat → Value → Value → World → Prop := fun C i v x w =>
  ∃ p, v = .int .i64 p ∧ Ans w ad (Ls i) ref p x ∧ Closed C w ∧ VR S12 (idOn C) x x ∧ ∀ b, C b → D b ∨ Low ≤ b
theorem rcT_one {D : Nat → Prop} {Low : Nat} {ad : Nat → Addr} {Ls : Nat → List Cv.Lot} {ref : Int} (C : Nat → Prop) (i : Nat) (v x : Value) (w : World) (h : RcT D Low ad Ls ref C i v x w) : v.oneCell' = true ∧ x.oneCell' = true := by
  obtain ⟨p, rfl, h, _⟩ := h
  refine ⟨rfl, ?_⟩
  rcases Ans.iface h with rfl | ⟨_, _, rfl⟩ <;> rfl
theorem rcT_keep {D : Nat → Prop} {Low : Nat} {ad : Nat → Addr} {Ls : Nat → List Cv.Lot} {ref : Int} (C : Nat → Prop) (i : Nat) (v x : Value) (w w' : World) (h : RcT D Low ad Ls ref C i v x w) (hk : ∀ b, C b → w'.heap[b]? = w.heap[b]?) : RcT D Low ad Ls ref C i v x w' := by
  obtain ⟨p, rfl, h1, h2, h3, h4⟩ := h
  exact ⟨p, rfl, Ans.keep h1 h3 hk, h2.keep hk, h3, h4⟩

section
variable {ops : Array Oper} {i : Nat} {rest : List Nat} {k : List Item} {cs : List Frame} {b : Frame} {a : Act} {o : Oper} {E : Env} {main : Bool} {S : (Nat → Prop) → (Nat → Prop) → Goroutine → World → Prop} {A M : Nat → Prop} {w : World} {cap : Array Value} {y z : Value}
theorem way_enter2 (ho : ops[i]? = some o) (hg : o.guard = none) (hk : b.kind ≠ .early) (hop : o.op = .call { callee := .value (.tmp 13), args := #[.tmp 14, .tmp 18], argTypes := #[3, 24] }) (hx : a.eval (.tmp 13) = .func (.func 12) #[] cap) (hy : a.eval (.tmp 14) = y) (hz : a.eval (.tmp 18) = z)
    (h : ∀ w1, Rely A w w1 → Kn E w1 → Wy.Way Tryd.prog main (Kn E) (XE E main) S A M (G (Frame.enter Tryd.prog 12 (#[y, z] ++ cap) .normal) (b.at a (.inRegion ops (i :: rest) :: k) :: cs)) w1) : WayAt Tryd.prog main (Kn E) (XE E main) S ops b k cs (i :: rest) A M a w := by
  have hw : Region.wanted o (yielded ops a.tmps) = true := by simp [Region.wanted, hg]
  refine way_go rfl fun w1 r hi => ?_
  obtain ⟨h1, h2⟩ := run_enter hop hx hy hz w1
  refine ⟨_, w1, _, stepG_enter ho hw hk h1, ?_, ?_⟩
  · unfold listed; rw [h2, seen_none]; exact .still (by simp)
  · rw [Ev.fresh_self, Ev.fresh_self]; exact h w1 r hi
end
/-- ████ -/
theorem call_w {E : Env} {b3 b5 b7 b8 ra : Addr} {ref : Int} {ad : Nat → Addr} {Ls : Nat → List Cv.Lot} {D : Nat → Prop} (hRc : E.Rc = RcT D E.Low ad Ls ref) (hDB : ∀ b, D b → E.Base b) (hG : ∀ g, g < Tryd.prog.globals.size → D g) (hD : Closed D E.W0)
    (hDc : ∀ b, D b → ∃ c t fz, E.W0.heap[b]? = some (.cells c t fz)) (hra : D ra.block) (hr : E.W0.cell? ra = some (.int .i64 ref)) (he : Er E.W0 145 (.pointer (some (ad 1))) (.pointer (some (ad 6))) (.pointer (some (ad 7)))) (hd : ∀ g, g < 12 → D (ad g).block)
    {L : Value} {i : Nat} (hL : Lots E.W0 L (Ls i)) (hLv : VR S12 (idOn D) L L) : CallW E b3 b5 b7 b8 (.func (.func 12) #[] #[.pointer (some ra)]) L i := by
  intro A M a w rest hB h13 h14 h18 hds hK
  obtain ⟨o, ho⟩ : ∃ o, rgOps[6]? = some o := ⟨_, Array.getElem?_eq_getElem (by rw [rg_size]; decide)⟩
  obtain ⟨hdst, hop, hg, _⟩ := opOf_is rg6 ho
  obtain ⟨kd, _, _⟩ := rw_is E.Wg b7 b8 b3 b5 E.cn
  have hk : (RW E.Wg b7 b8 b3 b5 E.cn).frame.kind ≠ .early := by rw [kd]; intro h; cases h
  refine way_enter2 ho hg hk hop (eval_tmp h13) (eval_tmp h14) (eval_tmp h18) fun w1 r1 k1 => ?_
  have hcon : ∀ T d, Calls Tryd.prog 12 #[.int .i64 i, L, .pointer (some ra)] (World.on (shutW (sanW S12 D E.W0)) T d) fun e w' => ∃ v, e = .returned v ∧ ∃ p x, v = .tuple #[.int .i64 p, x] ∧ Ans w' ad (Ls i) ref p x := fun T d => by
    refine (task_any i L (Ls i) ref ra ad (World.on (shutW (sanW S12 D E.W0)) T d) ?_ ⟨(shut_cell _ _).trans (san_cell he.c1 (nice_iface _ (nice_ptr (hd 1 (by decide))))), (shut_cell _ _).trans (san_cell he.c6 (nice_iface _ (nice_ptr (hd 6 (by decide))))), (shut_cell _ _).trans (san_cell he.c7 (nice_iface _ (nice_ptr (hd 7 (by decide)))))⟩ ((shut_cell _ _).trans (san_cell hr (nice_int _ _)))).mono ?_
    · rcases hL with h | ⟨b, off, cap, h1, h2, h3⟩
      · exact .inl h
      · exact .inr ⟨b, off, cap, h1, h2, fun j hj => ⟨(shut_cell _ _).trans (san_cell (h3 j hj).1 (nice_int _ _)), (shut_cell _ _).trans (san_cell (h3 j hj).2.1 (nice_int _ _)), (shut_cell _ _).trans (san_cell (h3 j hj).2.2.1 (nice_int _ _)), (shut_cell _ _).trans (san_cell (h3 j hj).2.2.2.1 (nice_int _ _)), (shut_cell _ _).trans (san_cell (h3 j hj).2.2.2.2 (nice_int _ _))⟩⟩
    · rintro e w' ⟨⟨p, x, rfl, h⟩, _⟩
      exact ⟨_, rfl, p, x, rfl, h⟩
  have hargs : VRs S12 (idOn D) #[.int .i64 i, L, .pointer (some ra)] #[.int .i64 i, L, .pointer (some ra)] := ((VRs.empty.push (.int _ _)).push hLv).push (.ptr ⟨idOn_self hra, rfl, rfl⟩)
  refine (Way.of_run (call_run (Stop := fun A' _ g w' => ∃ (fr' : Frame) (m : Ren) (p : Int) (x : Value), g = G fr' ((RW E.Wg b7 b8 b3 b5 E.cn).frame.at a (.inRegion rgOps (6 :: rest) :: rgK) :: (RW E.Wg b7 b8 b3 b5 E.cn).callers) ∧ fr'.fn = 12 ∧ fr'.mode = .returning ∧ fr'.defers = [] ∧ fr'.kind = .normal ∧ fr'.roundOf = none ∧
      res12 fr'.tmps = .tuple #[.int .i64 p, x] ∧ RcT D E.Low ad Ls ref (im m) i (.int .i64 p) x w' ∧ (∀ b, im m b → A' b) ∧ ∀ b, A b → A' b)
    s12_ok (f := 12) (fn := Tryd.f12) (res := res12) (by kernel_rfl) rfl (fun t w v h => ?_) hG hD hDc hargs (R := fun v w' => ∃ p x, v = .tuple #[.int .i64 p, x] ∧ Ans w' ad (Ls i) ref p x) (fun _ _ _ _ h => h) hcon (fun b hb => hB b (hDB b hb)) (fun b hb => k1.base b (hDB b hb)) ?_)).seq ?_
  · rw [(res12_is t w).1] at h; cases h; rfl
  · rintro m A' M' fr' wl w' t q1 q2 q3 q4 q5 ht hh hle ⟨p, x, hv, hans⟩ hA1 hAA hBB
    have e5 := ht.getD 5
    have e6 := ht.getD 6
    simp only [res12, Value.tuple.injEq, Array.mk.injEq, List.cons.injEq, and_true] at hv
    have e5 : VR S12 m (.int .i64 p) (fr'.tmps.getD 5 (.tuple #[])) := hv.1 ▸ e5
    have e6 : VR S12 m x (fr'.tmps.getD 6 (.tuple #[])) := hv.2 ▸ e6
    have e5' : fr'.tmps.getD 5 (.tuple #[]) = .int .i64 p := by
      generalize fr'.tmps.getD 5 (.tuple #[]) = z at e5
      cases e5; rfl
    refine ⟨fr', m, p, fr'.tmps.getD 6 (.tuple #[]), rfl, q1, q2, q3, q4, q5, ?_, ⟨p, rfl, ans_ren hh hle hd e6 hans, Sin.HR.closed hh, ans_image hans e6, fun b ⟨a, ha⟩ => (hBB a b ha).imp id (Nat.le_trans k1.low)⟩, fun b ⟨a, ha⟩ => hA1 a b ha, hAA⟩
    show Value.tuple #[fr'.tmps.getD 5 undef, fr'.tmps.getD 6 undef] = _
    rw [show fr'.tmps.getD 5 undef = .int .i64 p from e5']
    rfl
  · intro A' M' g w2 h
    by_cases hx : ∃ w3, Rely A' w2 w3 ∧ Kn E w3
    · obtain ⟨w3, r3, k3⟩ := hx
      obtain ⟨fr', m, p, x, hgg, q1, q2, q3, q4, q5, hres, _, _, _⟩ := h w3 r3 k3
      subst hgg
      refine way_go rfl fun w4 r4 k4 => ?_
      obtain ⟨fr2, m2, p2, x2, hg2, _, _, _, _, _, hres2, hrc, hC, hAA⟩ := h w4 r4 k4
      have hff : fr' = fr2 := congrArg (fun g : Goroutine => g.frame) hg2
      subst hff
      have hst : stepG Tryd.prog false (G fr' ((RW E.Wg b7 b8 b3 b5 E.cn).frame.at a (.inRegion rgOps (6 :: rest) :: rgK) :: (RW E.Wg b7 b8 b3 b5 E.cn).callers)) w4 = .go (G (((RW E.Wg b7 b8 b3 b5 E.cn).frame.at a (.inRegion rgOps (6 :: rest) :: rgK)).finish (.tuple #[.int .i64 p2, x2])) (RW E.Wg b7 b8 b3 b5 E.cn).callers) w4 := by
        have hh := stepG_leave (P := Tryd.prog) (main := false) (b := fr') (a := ⟨fr'.tmps, fr'.defers⟩) (cs := (RW E.Wg b7 b8 b3 b5 E.cn).callers) (w := w4) (todo := fr'.todo) (c := (RW E.Wg b7 b8 b3 b5 E.cn).frame.at a (.inRegion rgOps (6 :: rest) :: rgK)) q4 q3 (fn := Tryd.f12) (by rw [q1]; kernel_rfl) (res12_is fr'.tmps w4).1 (res12_is fr'.tmps w4).2
        rw [hres2] at hh
        have hfr : ({ fr'.at ⟨fr'.tmps, fr'.defers⟩ fr'.todo with mode := .returning } : Frame) = fr' := by
          obtain ⟨fn, tmps, todo, ds, mode, kind, round⟩ := fr'
          dsimp only at q2 q5
          subst q2; subst q5
          rfl
        rw [hfr] at hh
        exact hh
      refine ⟨_, w4, #[], hst, .still (by simp), ?_⟩
      rw [Ev.fresh_self, Ev.fresh_self, Frame.finish_at, ho]
      have := hK A' M' w4 p2 x2 (im m2) hAA hC (hRc ▸ hrc) (by obtain ⟨q, _, hq, _⟩ := hrc; exact Ans.iface hq)
      rw [← hdst] at this
      exact this
    · exact .stop fun w3 r3 k3 => absurd ⟨w3, r3, k3⟩ hx
end Mc
end Go.Proofs.YtbkjjknlphlhlaaDoor
namespace Go.Proofs.YtbkjjknlphlhlaaDoor
namespace Px
open Go.Conc Go.ConcN Sim Sin Sf Mc Hd Mb Ev
open Go.ConcR (WgAt)
open Go.RowKit
set_option maxRecDepth 100000

def ShZ (Z : Nat → Prop) : Loc → Prop := fun l => ∃ a : Addr, l = .cell a ∧ Z a.block
/-- Between two calls that go. -/
structure Ms (Z : Nat → Prop) (gs : Array Goroutine) (w : World) (t : Trace) : Prop where
  pos : 1 ≤ gs.size
  leav : ∃ q, Leavers Tryd.prog t gs q
  hist : Hist (ShZ Z) w.heap.size gs.size t
  low : ∀ x, Z x → x < w.heap.size
def Runs (gs : Array Goroutine) (w : World) (sl : Option (Nat × Nat)) (t : Trace) (Post : Array Goroutine → World → Option (Nat × Nat) → Trace → Prop) : Prop := ∃ n gs' w' sl' t', runNT Tryd.prog n (crowd gs w sl) t = (.next (crowd gs' w' sl'), t') ∧ Post gs' w' sl' t'
section
variable {gs : Array Goroutine} {w : World} {sl : Option (Nat × Nat)} {t : Trace} {Z : Nat → Prop} {Stop : Goroutine → World → Prop} {g : Goroutine} {Post Post' : Array Goroutine → World → Option (Nat × Nat) → Trace → Prop}
theorem Runs.then (h : Runs gs w sl t Post) (k : ∀ gs w sl t, Post gs w sl t → Runs gs w sl t Post') : Runs gs w sl t Post' := by
  obtain ⟨n, gs1, w1, sl1, t1, h1, h2⟩ := h
  obtain ⟨m, gs2, w2, sl2, t2, h3, h4⟩ := k _ _ _ _ h2
  exact ⟨n + m, gs2, w2, sl2, t2, Go.ConcX.runNT_trans h1 h3, h4⟩
theorem ms_wd (h : Ms Z gs w t) (h0 : gs[0]? = some g) (hw : Wd Tryd.prog Z Stop g w) : Runs gs w sl t fun gs' w' _ t' => Ms Z gs' w' t' ∧ gs'.size = gs.size ∧ ∃ g', gs'[0]? = some g' ∧ Stop g' w' := by
  obtain ⟨q, hL⟩ := h.leav
  obtain ⟨n, gs', g', w', sl', t', q', h1, h2, h3, h4, h5, h6, h7⟩ := wd_runs (Sh := ShZ Z) (sl := sl) (d0 := w.drawn) (fun _ h => h) h.pos hw (Nat.le_refl _) h0 hL h.hist rfl
  exact ⟨n, gs', w', sl', t', h1, ⟨h2 ▸ h.pos, ⟨q', h5⟩, h2 ▸ h6, fun x hx => Nat.lt_of_lt_of_le (h.low x hx) h7⟩, h2, g', h3, h4⟩
end

/-! ### what is known of the lots -/
theorem sent_keep {w w' : World} {ad : Nat → Addr} (h : Sent w ad) (hg : ∀ g, g < 13 → w'.heap[g]? = w.heap[g]?) (ha : ∀ g, g < 12 → w'.heap[(ad g).block]? = w.heap[(ad g).block]?) : Sent w' ad := by
  have gl : ∀ g, g < 12 → glob g < 13 := by decide
  refine ⟨fun g hg12 => ?_, ?_, fun g hg12 => ?_, h.ne⟩
  · exact (cell_heap (a := ⟨glob g, 0, none⟩) (hg _ (gl g hg12))).trans (h.cell g hg12)
  · exact (cell_heap (a := ⟨12, 0, none⟩) (hg 12 (by decide))).trans h.et
  · obtain ⟨c, t, e⟩ := h.row g hg12
    exact ⟨c, t, (ha g hg12).trans e⟩
theorem lots_keep {w w' : World} {v : Value} {l : List Cv.Lot} {D : Nat → Prop} {S : FuncId → Bool} (h : Lots w v l) (hv : VR S (idOn D) v v) (hk : ∀ b, D b → w'.heap[b]? = w.heap[b]?) : Lots w' v l := by
  rcases h with h | ⟨b, off, cap, rfl, h2, h3⟩
  · exact .inl h
  · by_cases hl0 : l.length = 0
    · exact .inl ⟨List.eq_nil_of_length_eq_zero hl0, _, _, by rw [hl0]⟩
    have hb : D b := by
      generalize hn : l.length = n at hv
      cases hv with
      | slice _ _ h => exact (idOn_some.1 h.1).1
      | ghost => exact absurd hn hl0
    have c : ∀ o, w'.cell? ⟨b, o, none⟩ = w.cell? ⟨b, o, none⟩ := fun o => cell_heap (a := ⟨b, o, none⟩) (hk b hb)
    exact .inr ⟨b, off, cap, rfl, h2, fun j hj => by simpa only [c] using h3 j hj⟩
/-- What the workers may read, and what the lists are. -/
structure Wf (Dw : Nat → Prop) (ad : Nat → Addr) (tp : Option Addr) (n : Nat) (L : Nat → Value) (Ls : Nat → List Cv.Lot) (w : World) : Prop where
  closed : Closed Dw w
  cells : ∀ b, Dw b → ∃ c t fz, w.heap[b]? = some (.cells c t fz)
  glob : ∀ g, g < 14 → Dw g
  sent : Sent w ad
  ads : ∀ g, g < 12 → Dw (ad g).block
  lots : ∀ i, i < n → Lots w (L i) (Ls i) ∧ VR S12 (idOn Dw) (L i) (L i)
  row : ∀ i, i < n → ∃ ta, tp = some ta ∧ w.cell? (ta.add i) = some (L i)
theorem Wf.keep {Dw : Nat → Prop} {ad : Nat → Addr} {tp : Option Addr} {n : Nat} {L : Nat → Value} {Ls : Nat → List Cv.Lot} {w w' : World} (h : Wf Dw ad tp n L Ls w) (hk : ∀ b, Dw b → w'.heap[b]? = w.heap[b]?) (ht : ∀ ta, tp = some ta → w'.heap[ta.block]? = w.heap[ta.block]?) : Wf Dw ad tp n L Ls w' where
  closed := h.closed.keep hk
  cells := fun b hb => by rw [hk b hb]; exact h.cells b hb
  glob := h.glob
  sent := sent_keep h.sent (fun g hg => hk g (h.glob g (by omega))) fun g hg => hk _ (h.ads g hg)
  ads := h.ads
  lots := fun i hi => ⟨lots_keep (h.lots i hi).1 (h.lots i hi).2 hk, (h.lots i hi).2⟩
  row := fun i hi => by
    obtain ⟨ta, e, h1⟩ := h.row i hi
    exact ⟨ta, e, (cell_heap (by rw [show (ta.add i).block = ta.block by unfold Addr.add; split <;> rfl]; exact ht ta e)).trans h1⟩
/-- A price, or which error. -/
def Fine (l : List Cv.Lot) (ref p : Int) : Prop := Cv.Well l ∧ Wi.withinB ref 1 1000 = true ∧ ∃ vol, Cv.Won l ref 1000 p vol
def Bad (l : List Cv.Lot) (ref : Int) (J : Nat) : Prop := (Cv.Well l ∧ Wi.withinB ref 1 1000 = false ∧ J = 1) ∨ (¬ Cv.Well l ∧ ∃ W ad x at_, ErrIs W ad l x ((J : Int) + 1) at_)
theorem ans_split {w : World} {ad : Nat → Addr} {l : List Cv.Lot} {ref p : Int} {x : Value} (h : Ans w ad l ref p x) : (x = .nilIface ∧ Fine l ref p) ∨ ∃ J, J < 12 ∧ Bad l ref J ∧ (x = .iface 145 (.pointer (some (ad J))) ∨ ∃ B, x = .iface 56 (.pointer (some ⟨B, 0, none⟩)) ∧ w.cell? ⟨B, 1, none⟩ = some (.iface 145 (.pointer (some (ad J))))) := by
  rcases h with ⟨h1, h2, h3, h4⟩ | ⟨h1, h2, h3, _⟩ | ⟨h1, _, c, at_, h⟩
  · exact .inl ⟨h3, h1, h2, h4⟩
  · exact .inr ⟨1, by decide, .inl ⟨h1, h2, rfl⟩, .inl h3⟩
  · have h0 := h
    rcases h with ⟨_, e, rfl, _⟩ | ⟨e, _⟩ | ⟨_, i, B, j, _, _, _, hj, rfl, _, _, e, _, c1⟩
    · exact .inr ⟨7, by decide, .inr ⟨h1, w, ad, x, at_, h0⟩, .inl e⟩
    · exact absurd e h1
    · exact .inr ⟨j, hj, .inr ⟨h1, w, ad, x, at_, h0⟩, .inr ⟨B, e, c1⟩⟩
end Px
end Go.Proofs.YtbkjjknlphlhlaaDoor
