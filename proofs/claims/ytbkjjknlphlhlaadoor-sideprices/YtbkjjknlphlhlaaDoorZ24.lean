/- Pieces of code of the main beside those who turn nothing. -/
import Derived.Laws.AppendOwn
import Derived.Conc.Own3
import Derived.Test.YtbkjjknlphlhlaaDoorProg
import Derived.KernelRfl
import Derived.Conc.MarkLaws
import Derived.Conc.AtomicLaws2
import Derived.Conc.SmallLaws
import Derived.Test.YtbkjjknlphlhlaaDoorZ23
namespace Go.Proofs.YtbkjjknlphlhlaaDoor
namespace Sin
open Sim
open Go.Conc
set_option maxRecDepth 100000

/-- What the main may touch: rows that nobody shuns. -/
def Dz (Z : Nat → Prop) (w : World) : Nat → Prop := fun b => ¬ Z b ∧ ∃ c t fz, w.heap[b]? = some (Obj.cells c t fz)
theorem closed_dz {Z : Nat → Prop} {w : World} : Closed (Dz Z w) w := fun _ h => .inl h.2
theorem dz_cell {Z : Nat → Prop} {w : World} {a : Addr} {v : Value} (h : w.cell? a = some v) (hz : ¬ Z a.block) : Dz Z w a.block := by
  obtain ⟨c, t, fz, e, _⟩ := cell_isSome h
  exact ⟨hz, c, t, fz, e⟩
/-- The package variables and the types' handles are among it; what is shunned is there. -/
structure Mz (P : Program) (Z : Nat → Prop) (w : World) : Prop where
  glob : ∀ g, g ≤ P.globals.size → Dz Z w g
  low : ∀ b, Z b → b < w.heap.size
/-- The world of the lone run. -/
noncomputable def Lw (S : FuncId → Bool) (Z : Nat → Prop) (w : World) : World := sanW S (Dz Z w) w
/-- What stands behind a run: of the lone run, and of the one that is not. -/
structure Aft (S : FuncId → Bool) (Z : Nat → Prop) (w wl w' : World) (m : Ren) : Prop where
  hr : HR S true m wl w'
  own : Own m
  apart : ∀ a b, m a = some b → ¬ Z b
  mx : Mx (idOn (Dz Z w)) m (Lw S Z w) wl w w'
  low : ∀ b, Z b → b < w'.heap.size
  sz : wl.heap.size = w'.heap.size
section
variable {P : Program} {S : FuncId → Bool} {Z : Nat → Prop} {w wl w' : World} {m : Ren}
theorem lw_size : (Lw S Z w).heap.size = w.heap.size := by simp [Lw, sanW]
theorem Mz.at (h : Mz P Z w) (d : Nat) : Mz P Z (w.at d) := ⟨h.glob, h.low⟩
theorem Mz.gx (h : Mz P Z w) : GX P true (idOn (Dz Z w)) := ⟨⟨fun g hg => idOn_self (h.glob g (Nat.le_of_lt hg)), idOn_inj _⟩, fun _ => idOn_self (h.glob _ (Nat.le_refl _))⟩
theorem Aft.size (h : Aft S Z w wl w' m) : w.heap.size ≤ w'.heap.size := h.mx.size
theorem Aft.keep (h : Aft S Z w wl w' m) {b : Nat} (hb : b < w.heap.size) (hl : wl.heap[b]? = (Lw S Z w).heap[b]?) : w'.heap[b]? = w.heap[b]? := by
  by_cases hD : Dz Z w b
  · obtain ⟨c, t, fz, e⟩ := hD.2
    exact kept_row h.mx h.hr h.own hD e hl
  · exact h.mx.aside b hb fun a e => by obtain ⟨h1, rfl⟩ := idOn_some.1 e; exact hD h1
theorem sanO_cells {D : Nat → Prop} {o : Obj} {c : Array Value} {t : TypeId} {fz : Nat × Nat} (h : sanO S D o = .cells c t fz) : ∃ c0, o = .cells c0 t fz := by
  cases o <;> cases h
  exact ⟨_, rfl⟩
theorem Aft.thereB (h : Aft S Z w wl w' m) {b : Nat} {c : Array Value} {t : TypeId} {fz : Nat × Nat} (hz : ¬ Z b) (hg : wl.heap[b]? = some (.cells c t fz)) : m b = some b := by
  by_cases hlt : b < w.heap.size
  · by_cases hD : Dz Z w b
    · exact h.mx.le.app _ _ (idOn_self hD)
    · have hn : idOn (Dz Z w) b = none := by
        rcases e0 : idOn (Dz Z w) b with _ | b
        · rfl
        · exact absurd (idOn_some.1 e0).1 hD
      rw [h.mx.asideL _ (by rw [lw_size]; exact hlt) hn, Lw, san_heap, Option.map_eq_some_iff] at hg
      obtain ⟨o, e1, e2⟩ := hg
      obtain ⟨c0, rfl⟩ := sanO_cells e2
      exact absurd ⟨hz, _, _, _, e1⟩ hD
  · obtain ⟨a0, e⟩ := h.mx.mine b (by omega) (by rw [← h.sz]; exact (Array.getElem?_eq_some_iff.1 hg).1)
    have := h.own _ _ e
    rwa [this] at e
theorem Aft.there (h : Aft S Z w wl w' m) {a : Addr} {v : Value} (hz : ¬ Z a.block) (hv : wl.cell? a = some v) : m a.block = some a.block := by
  obtain ⟨c, t, fz, e, _⟩ := cell_isSome hv
  exact h.thereB hz e
theorem Aft.cell (h : Aft S Z w wl w' m) {a : Addr} {v : Value} (hz : ¬ Z a.block) (hv : wl.cell? a = some v) : ∃ v', w'.cell? a = some v' ∧ VR S m v v' := h.hr.cell ⟨h.there hz hv, rfl, rfl⟩ hv
theorem Aft.cellS (h : Aft S Z w wl w' m) {a : Addr} {v : Value} (hz : ¬ Z a.block) (hv : wl.cell? a = some v) (hs : Sure S v v) : w'.cell? a = some v := by
  obtain ⟨v', e, hr⟩ := h.cell hz hv
  rw [e, hs m v' h.own hr]
theorem Aft.mz (h : Aft S Z w wl w' m) (hM : Mz P Z w) : Mz P Z w' := ⟨fun g hg => ⟨(hM.glob g hg).1, by
  obtain ⟨c, t, fz, e⟩ := (hM.glob g hg).2
  obtain ⟨c1, e1, _⟩ := h.mx.keepR _ _ _ _ e
  exact ⟨c1, t, fz, e1⟩⟩, h.low⟩
/-- A row of the call's own. -/
theorem Aft.row (h : Aft S Z w wl w' m) {base : Nat} {e : TypeId} {size n : Nat} {v : Value} {xs : List Value} (hown : wl.ownsRow base e size v n xs) (hs : ∀ x ∈ xs, Sure S x x) (hz : ∀ b, v.ownBlock = some b → ¬ Z b) : w'.ownsRow base e size v n xs := by
  refine ⟨hown.1, ?_⟩
  rcases hown.2 with h1 | ⟨g, cap, cur, rfl, hb, hg, h1, h2, h3, h4⟩
  · exact .inl h1
  · have hz := hz g rfl
    have hgm : m g = some g := h.thereB hz hg
    obtain ⟨c', fz', e1, hor⟩ := h.hr.row hgm hg
    have hfz := hor.strict rfl
    refine .inr ⟨g, cap, c', rfl, hb, by rw [e1, ← hfz], h1, h2, hor.size ▸ h3, ?_⟩
    rw [← h4]
    refine List.ext_getElem? fun i => ?_
    simp only [List.getElem?_take]
    split
    · next hi =>
      have hi2 : i < cur.size := by rw [h3]; exact Nat.lt_of_lt_of_le hi (Nat.mul_le_mul_right _ h1)
      have hi3 : i < c'.size := hor.size ▸ hi2
      have hx : cur[i] ∈ xs := by
        rw [← h4]
        refine List.mem_iff_getElem?.2 ⟨i, ?_⟩
        rw [List.getElem?_take, if_pos hi]
        simp [hi2]
      have hv := hor.cells i hi2
      have : VR S m cur[i] c'[i] := by simpa [Array.getD, hi2, hi3] using hv
      have := hs _ hx m _ h.own this
      simp [hi2, hi3, this]
    · rfl
end
section
variable {P : Program} {S : FuncId → Bool} {Z : Nat → Prop} {Stop : Goroutine → World → Prop} {w : World}
/-- ████ Code that runs through. ████ -/
theorem piece (hF : ∀ f, S f = true → FnX P S true f) {c : Code} {K : List Item} {b : Frame} {t tr : Array Value} {ds : List Deferred} {cs : List Frame} {Qa : Array Value → World → Prop} (hc : codeB P S true c = true) (hk : b.kind = .normal ∨ b.kind = .deferred)
    (hM : Mz P Z w) (hv : VRs S (idOn (Dz Z w)) t tr) (h : ∀ (T : Nat → Question → Nat) (d : Nat), c.wp P (fun e a' w' => e = .normal ∧ a'.defers = [] ∧ Qa a'.tmps w') ⟨t, []⟩ (World.on (Lw S Z w) T d)) (hQ : ∀ t w T d, Qa t w → Qa t (World.on w T d))
    (k : ∀ m t' tr' wl w', Aft S Z w wl w' m → VRs S m t' tr' → Qa t' wl → Mb.Wd P Z Stop (G (b.at ⟨tr', ds⟩ K) cs) w') : Mb.Wd P Z Stop (G (b.at ⟨tr, ds⟩ (.code c :: K)) cs) w := by
  let b0 : Frame := { b with kind := .normal, defers := [] }
  have hreach : Reaches P (fun fr w => ∃ t, fr = b0.at ⟨t, []⟩ [] ∧ Qa t w) (b0.at ⟨t, []⟩ [.code c]) [bombOf P] (Lw S Z w) := fun T d _ => by
    obtain ⟨e, a', w', ⟨rfl, hd, hq⟩, hr⟩ := h T d b0 [] [bombOf P]
    obtain ⟨n, hn⟩ := hr
    obtain ⟨t', ds'⟩ := a'
    dsimp only at hd
    subst hd
    exact ⟨T, n, _, w', fun _ _ => rfl, hn, t', rfl, hq⟩
  have hbl : Blind (fun fr w => ∃ t, fr = b0.at ⟨t, []⟩ [] ∧ Qa t w) := ⟨fun fr w T d ⟨t, h1, h2⟩ => ⟨t, h1, hQ _ _ _ _ h2⟩, fun fr w ch ⟨t, h1, _⟩ h => by subst h1; cases h⟩
  have hfr : FR P S true (idOn (Dz Z w)) K (b0.at ⟨t, []⟩ [.code c]) (b.at ⟨tr, ds⟩ (.code c :: K)) := ⟨rfl, hv, rfl, fun x hx => by simp only [Frame.at, List.mem_singleton] at hx; subst hx; exact hc, rfl, rfl, .inl rfl, rfl, hk, rfl, rfl⟩
  have hd0 : (World.on (Lw S Z w) w.tape 0).drawn ≤ w.drawn := Nat.zero_le _
  have hr0 : HR S true (idOn (Dz Z w)) (Lw S Z w) w := hr_san closed_dz
  refine (lift4 (Stop := fun g w' => ∃ m t' tr' wl, g = G (b.at ⟨tr', ds⟩ K) cs ∧ Aft S Z w wl w' m ∧ VRs S m t' tr' ∧ Qa t' wl) (m0 := idOn (Dz Z w)) (base := ⟨cs, ds, b.kind⟩) (K := K) (Kt := K) (wl0 := Lw S Z w) (wr0 := w) hF hbl (.inr fun fr w ⟨t, h1, _⟩ => by subst h1; rfl) ?_ hreach hM.gx (.bottom (base := ⟨cs, ds, b.kind⟩) hfr rfl rfl) hr0 (Nat.le_refl _) (own_idOn _) (fun x y e => by obtain ⟨h1, rfl⟩ := idOn_some.1 e; exact h1.1) hM.low (.refl _ _ _) lw_size).seq ?_
  · rintro m fr fr' cs' wl w' Kt hs hh hm ⟨t, rfl, hq⟩ hA hx hZ hsz
    have hf := hs.fr
    cases hs with
    | bottom _ hd hkk =>
      refine ⟨m, t, fr'.tmps, wl, ?_, ⟨hh, hm, hA, hx, hZ, hsz⟩, hf.tmps, hq⟩
      have e1 := hf.fn; have e3 := hf.todo; have e4 := hf.mode; have e5 := hf.round'
      obtain ⟨fn', t', todo', ds', mode', kind', round'⟩ := fr'
      dsimp only [Frame.at] at e1 e3 e4 e5 hd hkk
      subst e1; subst e3; subst e4; subst e5; subst hd; subst hkk
      rfl
    | push _ _ _ _ _ r => cases r
  · rintro g w' ⟨m, t', tr', wl, rfl, h1, h2, h3⟩
    exact k m t' tr' wl w' h1 h2 h3
end
end Sin
end Go.Proofs.YtbkjjknlphlhlaaDoor
namespace Go.Proofs.YtbkjjknlphlhlaaDoor
namespace Sin
open Sim
open Go.Conc
set_option maxRecDepth 100000

/-- Codes, one behind the other. -/
def wpL (P : Program) : List Code → (Exit → Act → World → Prop) → Act → World → Prop
  | [], Q, a, w => Q .normal a w
  | c :: l, Q, a, w => c.wp P (Exit.then (wpL P l Q) Q) a w
section
variable {P : Program}
theorem arrives_pass {m : Machine} {b : Frame} {k : List Item} {cs : List Frame} {e : Exit} {a : Act} {w : World} (he : e ≠ .normal) : ∀ (l : List Code), Arrives P m b (l.map .code ++ k) cs e a w → Arrives P m b k cs e a w
  | [], h => h
  | c :: l, h => arrives_pass he l (Arrives.pass (x := .code c) rfl (fun _ _ => .inl he) h)
theorem wpL_arrives {Q : Exit → Act → World → Prop} : ∀ (l : List Code) (a : Act) (w : World), wpL P l Q a w → ∀ (b : Frame) (k : List Item) (cs : List Frame), ∃ e a' w', Q e a' w' ∧ Arrives P (lone (b.at a (l.map .code ++ k)) cs w) b k cs e a' w'
  | [], a, w, h, b, k, cs => ⟨.normal, a, w, h, ⟨0, rfl⟩⟩
  | c :: l, a, w, h, b, k, cs => by
    obtain ⟨e, a1, w1, hq, harr⟩ := h b (l.map .code ++ k) cs
    by_cases he : e = .normal
    · subst he
      obtain ⟨e2, a2, w2, hq2, harr2⟩ := wpL_arrives l a1 w1 hq b k cs
      exact ⟨e2, a2, w2, hq2, .of_steps harr harr2⟩
    · refine ⟨e, a1, w1, ?_, arrives_pass he l harr⟩
      cases e <;> first | exact hq | exact absurd rfl he
/-- How the rest of a function comes to its end. -/
def Ends (R : Array Value → World → Prop) : Exit → Act → World → Prop := fun e a w => (e = .ret ∨ e = .normal) ∧ a.defers = [] ∧ R a.tmps w
/-- The rest: operations of a region, then codes. -/
def wpRest (P : Program) (ops : Array Oper) (l : List Nat) (codes : List Code) (R : Array Value → World → Prop) (t : Array Value) (w : World) : Prop := wpOps P ops (Exit.then (wpL P codes (Ends R)) (Ends R)) l ⟨t, []⟩ w
variable {S : FuncId → Bool} {Z : Nat → Prop} {Stop : Goroutine → World → Prop} {w : World}
def AtRet (b : Frame) (R : Array Value → World → Prop) (fr : Frame) (w : World) : Prop := ∃ t todo, fr = { b.at ⟨t, []⟩ todo with mode := .returning } ∧ R t w
theorem rest_reach {b : Frame} {ops : Array Oper} {l : List Nat} {codes : List Code} {R : Array Value → World → Prop} {t : Array Value} (h : ∀ (T : Nat → Question → Nat) (d : Nat), wpRest P ops l codes R t (World.on w T d)) :
    Reaches P (AtRet b R) (b.at ⟨t, []⟩ (.inRegion ops l :: codes.map .code)) [bombOf P] w := fun T d _ => by
  have fin : ∀ {m : Machine} {e : Exit} {a' : Act} {w' : World}, Ends R e a' w' → Arrives P m b [] [bombOf P] e a' w' → ∃ n fr1 w1, runN P n m = .next (lone fr1 [bombOf P] w1) ∧ AtRet b R fr1 w1 := by
    rintro m e ⟨t', ds'⟩ w' ⟨he, hd, hR⟩ harr
    dsimp only at hd hR
    subst hd
    rcases he with rfl | rfl
    · obtain ⟨todo, n, hn⟩ := harr
      exact ⟨n, _, w', hn, t', todo, rfl, hR⟩
    · obtain ⟨n, hn⟩ := harr
      refine ⟨n + 1, { b.at ⟨t', []⟩ [] with mode := .returning }, w', ?_, t', [], rfl, hR⟩
      rw [runN_add P n 1, hn]
      simp only [runN, step_end]
  obtain ⟨e, a', w', hq, harr⟩ := wp_ops l _ _ (h T d) b (codes.map .code) [bombOf P]
  by_cases he : e = .normal
  · subst he
    obtain ⟨e2, a2, w2, hq2, harr2⟩ := wpL_arrives codes a' w' hq b [] [bombOf P]
    rw [List.append_nil] at harr2
    obtain ⟨n, fr1, w1, h1, h2⟩ := fin hq2 (.of_steps harr harr2)
    exact ⟨T, n, fr1, w1, fun _ _ => rfl, h1, h2⟩
  · have hq' : Ends R e a' w' := by cases e <;> first | exact hq | exact absurd rfl he
    obtain ⟨n, fr1, w1, h1, h2⟩ := fin hq' (arrives_pass he codes (by rw [List.append_nil]; exact harr))
    exact ⟨T, n, fr1, w1, fun _ _ => rfl, h1, h2⟩
theorem ret_blind {b : Frame} {R : Array Value → World → Prop} (hR : ∀ t w T d, R t w → R t (World.on w T d)) : Blind (AtRet b R) :=
  ⟨fun _ _ _ _ ⟨t, todo, h1, h2⟩ => ⟨t, todo, h1, hR _ _ _ _ h2⟩, fun _ _ _ ⟨_, _, h1, _⟩ h => by subst h1; cases h⟩
/-- ████ The rest of a function: to its return. ████ -/
theorem rest (hF : ∀ f, S f = true → FnX P S true f) {ops : Array Oper} {l : List Nat} {codes : List Code} {b : Frame} {t tr : Array Value} {cs : List Frame} {R : Array Value → World → Prop} (hk : b.kind = .normal)
    (hops : itemB P S true (.inRegion ops l) = true) (hcs : codes.all (codeB P S true) = true) (hM : Mz P Z w) (hv : VRs S (idOn (Dz Z w)) t tr) (h : ∀ (T : Nat → Question → Nat) (d : Nat), wpRest P ops l codes R t (World.on (Lw S Z w) T d)) (hR : ∀ t w T d, R t w → R t (World.on w T d))
    (k : ∀ m t' tr' wl w' todo, Aft S Z w wl w' m → VRs S m t' tr' → R t' wl → Mb.Wd P Z Stop (G { b.at ⟨tr', []⟩ todo with mode := .returning } cs) w') : Mb.Wd P Z Stop (G (b.at ⟨tr, []⟩ (.inRegion ops l :: codes.map .code)) cs) w := by
  have hfr : FR P S true (idOn (Dz Z w)) [] (b.at ⟨t, []⟩ (.inRegion ops l :: codes.map .code)) (b.at ⟨tr, []⟩ (.inRegion ops l :: codes.map .code)) := ⟨rfl, hv, (List.append_nil _).symm, fun x hx => by
    simp only [Frame.at, List.mem_cons, List.mem_map] at hx
    rcases hx with rfl | ⟨c, hc, rfl⟩
    · exact hops
    · exact List.all_eq_true.1 hcs c hc, rfl, rfl, .inl rfl, hk, .inl hk, rfl, rfl⟩
  have hr0 : HR S true (idOn (Dz Z w)) (Lw S Z w) w := hr_san closed_dz
  have hreach : Reaches P (AtRet b R) (b.at ⟨t, []⟩ (.inRegion ops l :: codes.map .code)) [bombOf P] (Lw S Z w) := rest_reach h
  refine (lift4 (Stop := fun g w' => ∃ m t' tr' wl todo, g = G { b.at ⟨tr', []⟩ todo with mode := .returning } cs ∧ Aft S Z w wl w' m ∧ VRs S m t' tr' ∧ R t' wl) (m0 := idOn (Dz Z w)) (base := ⟨cs, [], b.kind⟩) (K := []) (Kt := []) (wl0 := Lw S Z w) (wr0 := w) hF (ret_blind hR) (.inl rfl) ?_ hreach hM.gx (.bottom (base := ⟨cs, [], b.kind⟩) hfr rfl rfl) hr0 (Nat.le_refl _) (own_idOn _) (fun x y e => by obtain ⟨h1, rfl⟩ := idOn_some.1 e; exact h1.1) hM.low (.refl _ _ _) lw_size).seq ?_
  · rintro m fr fr' cs' wl w' Kt hs hh hm ⟨t, todo, rfl, hq⟩ hA hx hZ hsz
    have hf := hs.fr
    cases hs with
    | bottom _ hd hkk =>
      refine ⟨m, t, fr'.tmps, wl, fr'.todo, ?_, ⟨hh, hm, hA, hx, hZ, hsz⟩, hf.tmps, hq⟩
      have e1 := hf.fn; have e4 := hf.mode; have e5 := hf.round'
      obtain ⟨fn', t', todo', ds', mode', kind', round'⟩ := fr'
      dsimp only [Frame.at] at e1 e4 e5 hd hkk
      subst e1; subst e4; subst e5; subst hd; subst hkk
      rfl
    | push _ _ _ _ _ r => cases r
  · rintro g w' ⟨m, t', tr', wl, todo, rfl, h1, h2, h3⟩
    exact k m t' tr' wl w' todo h1 h2 h3

/-! ### what is returned -/
theorem wd_pop {b c : Frame} {fn : Func} {t : Array Value} {todo : List Item} {cs : List Frame} {v : Value} (hk : b.kind = .normal) (hf : P.funcs[b.fn]? = some fn) (hr : ∀ w, (results fn t).run P w = .ok v w ∧ (results fn t).events P w #[] = #[])
    (k : Mb.Wd P Z Stop (G (c.finish v) cs) w) : Mb.Wd P Z Stop (G { b.at ⟨t, []⟩ todo with mode := .returning } (c :: cs)) w :=
  .go rfl fun d hd => ⟨_, _, _, stepG_leave (a := ⟨t, []⟩) hk rfl hf (hr _).1 (hr _).2, ⟨Nat.le_refl _, fun e he => by simp at he⟩, k.at hd⟩
/-- What comes back is made of slots. -/
def ResOk (P : Program) (S : FuncId → Bool) (fn : Func) (res : Array Value → Value) : Prop := (∀ t w, (results fn t).run P w = .ok (res t) w ∧ (results fn t).events P w #[] = #[]) ∧ ∀ m t t', VRs S m t t' → VR S m (res t) (res t')
/-- ████ The rest of a function, and back to its caller. ████ -/
theorem rest_back (hF : ∀ f, S f = true → FnX P S true f) {ops : Array Oper} {l : List Nat} {codes : List Code} {b c : Frame} {t tr : Array Value} {cs : List Frame} {fn : Func} {res : Array Value → Value} {R : Value → World → Prop} (hk : b.kind = .normal) (hf : P.funcs[b.fn]? = some fn) (hres : ResOk P S fn res)
    (hops : itemB P S true (.inRegion ops l) = true) (hcs : codes.all (codeB P S true) = true) (hM : Mz P Z w) (hv : VRs S (idOn (Dz Z w)) t tr) (h : ∀ (T : Nat → Question → Nat) (d : Nat), wpRest P ops l codes (fun t w => R (res t) w) t (World.on (Lw S Z w) T d)) (hR : ∀ v w T d, R v w → R v (World.on w T d))
    (k : ∀ m v v' wl w', Aft S Z w wl w' m → VR S m v v' → R v wl → Mb.Wd P Z Stop (G (c.finish v') cs) w') : Mb.Wd P Z Stop (G (b.at ⟨tr, []⟩ (.inRegion ops l :: codes.map .code)) (c :: cs)) w :=
  rest hF hk hops hcs hM hv h (fun _ w T d => hR _ w T d) fun m _ tr' wl w' _ h1 h2 h3 => wd_pop hk hf (fun w => hres.1 tr' w) (k m _ _ wl w' h1 (hres.2 _ _ _ h2) h3)
/-- ████ A whole call, and back. ████ -/
theorem call_back (hF : ∀ f, S f = true → FnX P S true f) {f : FuncId} {fn : Func} {c : Frame} {cs : List Frame} {args ar : Array Value} {res : Array Value → Value} {R : Value → World → Prop} (hSf : fnB P S true f = true) (hf : P.funcs[f]? = some fn) (hres : ResOk P S fn res)
    (hM : Mz P Z w) (ha : VRs S (idOn (Dz Z w)) args ar) (h : ∀ T d, Calls P f args (World.on (Lw S Z w) T d) fun e w' => ∃ v, e = .returned v ∧ R v w') (hR : ∀ v w T d, R v w → R v (World.on w T d))
    (k : ∀ m v v' wl w', Aft S Z w wl w' m → VR S m v v' → R v wl → Mb.Wd P Z Stop (G (c.finish v') cs) w') : Mb.Wd P Z Stop (G (Frame.enter P f ar .normal) (c :: cs)) w := by
  have hr := (reach_calls hf (fun t w v e => by rw [(hres.1 t w).1] at e; cases e; rfl) h)
  have hr0 : HR S true (idOn (Dz Z w)) (Lw S Z w) w := hr_san closed_dz
  let b0 : Frame := { (default : Frame) with fn := f, kind := .normal }
  refine (lift4 (Stop := fun g w' => ∃ m t' tr' wl todo, g = G { b0.at ⟨tr', []⟩ todo with mode := .returning } (c :: cs) ∧ Aft S Z w wl w' m ∧ VRs S m t' tr' ∧ R (res t') wl) (m0 := idOn (Dz Z w)) (base := ⟨c :: cs, [], .normal⟩) (K := []) (Kt := []) (wl0 := Lw S Z w) (wr0 := w) hF (leaving_blind hR) (.inl rfl) ?_ hr hM.gx (.bottom (base := ⟨c :: cs, [], .normal⟩) (enter_alike hSf ha) rfl rfl) hr0 (Nat.le_refl _) (own_idOn _) (fun x y e => by obtain ⟨h1, rfl⟩ := idOn_some.1 e; exact h1.1) hM.low (.refl _ _ _) lw_size).seq ?_
  · rintro m fr fr' cs' wl w' Kt hs hh hm ⟨q1, q2, q3, q4, q5⟩ hA hx hZ hsz
    have hf := hs.fr
    cases hs with
    | bottom _ hd hkk =>
      refine ⟨m, fr.tmps, fr'.tmps, wl, fr'.todo, ?_, ⟨hh, hm, hA, hx, hZ, hsz⟩, hf.tmps, q5⟩
      have e1 := hf.fn.trans q1; have e4 := hf.mode.trans q2; have e5 := hf.round'
      obtain ⟨fn', t', todo', ds', mode', kind', round'⟩ := fr'
      dsimp only at e1 e4 e5 hd hkk
      subst e1; subst e4; subst e5; subst hd; subst hkk
      rfl
    | push _ _ _ _ _ r => cases r
  · rintro g w' ⟨m, t', tr', wl, todo, rfl, h1, h2, h3⟩
    exact wd_pop rfl hf (fun w => hres.1 tr' w) (k m _ _ wl w' h1 (hres.2 _ _ _ h2) h3)

/-! ### operations -/
/-- An operation that yields a value. -/
theorem wd_value {ops : Array Oper} {i : Nat} {rest : List Nat} {o : Oper} {b : Frame} {a : Act} {k : List Item} {cs : List Frame} (ho : ops[i]? = some o) (hw : Region.wanted o (yielded ops a.tmps) = true) (hk : b.kind ≠ .early)
    (h : ∀ d, w.drawn ≤ d → ∃ v w', (execOp a.eval o).run P (w.at d) = .ok (.value v) w' ∧ Mb.Ed Z (w.at d) w' ((execOp a.eval o).events P (w.at d) #[]) ∧ Mb.Wd P Z Stop (G (b.at (a.put o.dst v) (.inRegion ops rest :: k)) cs) w') : Mb.Wd P Z Stop (G (b.at a (.inRegion ops (i :: rest) :: k)) cs) w :=
  .go rfl fun d hd => by
    obtain ⟨v, w', h1, h2, h3⟩ := h d hd
    exact ⟨_, _, _, stepG_value ho hw hk h1, ⟨h2.size, fun e he => h2.evs e (seen_sub _ _ e he)⟩, h3⟩
/-- A call: into the callee. -/
theorem wd_enter {ops : Array Oper} {i : Nat} {rest : List Nat} {o : Oper} {b : Frame} {a : Act} {k : List Item} {cs : List Frame} {f : FuncId} {args : Array Value} (ho : ops[i]? = some o) (hw : Region.wanted o (yielded ops a.tmps) = true) (hk : b.kind ≠ .early)
    (h : ∀ w, (execOp a.eval o).run P w = .ok (.enter f args) w ∧ (execOp a.eval o).events P w #[] = #[]) (k' : Mb.Wd P Z Stop (G (Frame.enter P f args .normal) (b.at a (.inRegion ops (i :: rest) :: k) :: cs)) w) : Mb.Wd P Z Stop (G (b.at a (.inRegion ops (i :: rest) :: k)) cs) w :=
  .go rfl fun d hd => ⟨_, _, _, stepG_enter ho hw hk (h _).1, ⟨Nat.le_refl _, fun e he => by
    have := seen_sub _ _ e he
    rw [(h _).2] at this
    simp at this⟩, k'.at hd⟩
end
end Sin
end Go.Proofs.YtbkjjknlphlhlaaDoor
namespace Go.Proofs.YtbkjjknlphlhlaaDoor
namespace Ev
open Go.Conc
set_option maxRecDepth 100000

/-- The goroutines that it is, one behind the other, each with the world and what is listed. -/
def trace (P : Program) (main : Bool) : Nat → Goroutine → World → List (Goroutine × World × Array Event)
  | 0, _, _ => []
  | n + 1, g, w => match stepG P main g w with
    | .go g' w' es => (g', w', es) :: trace P main n g' w'
    | _ => []
def last (g : Goroutine) : List (Goroutine × World × Array Event) → Goroutine
  | [] => g
  | x :: l => last x.1 l
/-- n steps, none of which looks at the world, turns it, or lists anything. -/
def Still (P : Program) (main : Bool) : Nat → Goroutine → Goroutine → Prop
  | 0, g, g' => g = g'
  | n + 1, g, g' => g.status = .running ∧ ∃ g1, (∀ w, stepG P main g w = .go g1 w #[]) ∧ Still P main n g1 g'

/-- Whoever it is behind its next step, in whatever world. -/
def next (P : Program) (main : Bool) (g : Goroutine) : Goroutine := match stepG P main g default with
  | .go g' _ _ => g'
  | .spawn g' _ _ _ => g'
  | .comm g' _ _ _ _ _ => g'
  | _ => g
def adv (P : Program) (main : Bool) (n : Nat) (g : Goroutine) : Goroutine := last g (trace P main n g default)

section
variable {P : Program} {main : Bool}
theorem still_of {n : Nat} {g : Goroutine} (h : ∀ w, trace P main n g w = (trace P main n g default).map fun x => (x.1, w, #[])) (h0 : g.status = .running) (hs : (trace P main n g default).map (·.1.status) = List.replicate n .running) : Still P main n g (adv P main n g) := by
  show Still P main n g (last g (trace P main n g default))
  induction n generalizing g with
  | zero => rfl
  | succ n ih =>
    cases hd : stepG P main g default with
    | go g1 w1 es1 =>
      have hT : trace P main (n + 1) g default = (g1, w1, es1) :: trace P main n g1 w1 := by simp [trace, hd]
      have hw1 : w1 = default ∧ es1 = #[] := by
        have := h default
        rw [hT] at this
        simp only [List.map_cons, List.cons.injEq, Prod.mk.injEq, true_and] at this
        exact this.1
      obtain ⟨rfl, rfl⟩ := hw1
      rw [hT] at hs h ⊢
      simp only [List.map_cons, List.replicate_succ, List.cons.injEq] at hs h
      have hstep : ∀ w, stepG P main g w = .go g1 w #[] ∧ trace P main n g1 w = (trace P main n g1 default).map fun x => (x.1, w, #[]) := fun w => by
        have hw := h w
        cases hg : stepG P main g w with
        | go g2 w2 es2 =>
          simp only [trace, hg, List.cons.injEq, Prod.mk.injEq] at hw
          obtain ⟨⟨rfl, rfl, rfl⟩, h2⟩ := hw
          exact ⟨rfl, h2⟩
        | _ => simp [trace, hg] at hw
      exact ⟨h0, g1, fun w => (hstep w).1, ih (fun w => (hstep w).2) hs.1 hs.2⟩
    | _ => simp [trace, hd, List.replicate_succ] at hs
theorem Still.goes {R : World → World → Prop} {D : World → World → Array Event → Prop} {Stop : Goroutine → World → Prop} (tr : ∀ a b c, R a b → R b c → R a c) (hD : ∀ w, D w w #[]) {n m : Nat} {g g' : Goroutine} (h : Still P main n g g') {w : World} (k : Goes P main R D Stop m g' w) : Goes P main R D Stop (m + n) g w := by
  induction n generalizing g w with
  | zero => cases h; exact k
  | succ n ih =>
    obtain ⟨h0, g1, h1, h2⟩ := h
    refine Goes.step h0 fun w1 r => ?_
    rw [h1 w1]
    exact ⟨hD w1, ih h2 (Goes.rely tr k r)⟩
theorem fresh_self (w : World) (A : Nat → Prop) : Sim.fresh w w A = A := by
  funext b
  exact propext ⟨fun h => h.elim id fun h => absurd h.2 (Nat.not_lt.2 h.1), .inl⟩
theorem guar_self (A M : Nat → Prop) (w : World) : Sim.Guar A M w w #[] := ⟨fun _ _ _ => rfl, Nat.le_refl _, rfl, Nat.le_refl _, rfl, rfl, fun e he => by simp at he⟩
theorem Still.run {Stop : (Nat → Prop) → (Nat → Prop) → Goroutine → World → Prop} {A M : Nat → Prop} {n : Nat} {g g' : Goroutine} (h : Still P main n g g') {w : World} (k : Sim.Run P main Stop A M g' w) : Sim.Run P main Stop A M g w := by
  induction n generalizing g w with
  | zero => cases h; exact k
  | succ n ih =>
    obtain ⟨h0, g1, h1, h2⟩ := h
    refine .go h0 fun w1 r => ⟨g1, w1, #[], h1 w1, guar_self A M w1, ?_⟩
    rw [fresh_self, fresh_self]
    exact ih h2 (k.rely r)
end

end Ev
end Go.Proofs.YtbkjjknlphlhlaaDoor
namespace Go.Proofs.YtbkjjknlphlhlaaDoor
namespace Ev
open Go.Conc
set_option maxRecDepth 100000

/-- It stands at an operation: the call of a known function; with what. -/
def sits (g : Goroutine) : Option (FuncId × Array Value) :=
  match g.status, g.dying, g.offers, g.frame.mode, g.frame.roundOf, g.frame.kind, g.frame.todo with
  | .running, none, none, .run, none, .early, _ => none
  | .running, none, none, .run, none, _, .inRegion ops (i :: _) :: _ =>
    match ops[i]? with
    | some { op := .call { callee := .value (.func f), args, .. }, guard := none, .. } => some (f, args.map g.frame.eval)
    | _ => none
  | _, _, _, _, _, _, _ => none
/-- What it is when that has yielded v. -/
def fin (g : Goroutine) (v : Value) : Goroutine := G (g.frame.finish v) g.callers

section
variable {P : Program} {main : Bool} {g : Goroutine} {w w' : World} {f : FuncId} {args : Array Value}
theorem sits_is (h : sits g = some (f, args)) : ∃ (b : Frame) (a : Act) (ops : Array Oper) (i : Nat) (rest : List Nat) (k : List Item) (o : Oper) (ars : Array Operand) (ats : Array TypeId),
    g = G (b.at a (.inRegion ops (i :: rest) :: k)) g.callers ∧ ops[i]? = some o ∧ Region.wanted o (yielded ops a.tmps) = true ∧ b.kind ≠ .early ∧ o.op = .call { callee := .value (.func f), args := ars, argTypes := ats } ∧ ars.map a.eval = args := by
  obtain ⟨⟨fn, t, todo, ds, mode, kind, round⟩, callers, status, dying, offers⟩ := g
  unfold sits at h
  dsimp only at h
  split at h
  · cases h
  · rename_i ops i rest k hk
    split at h
    · rename_i fo ar o1 o2 o3 o4 o5 e
      simp only [Option.some.injEq, Prod.mk.injEq] at h
      obtain ⟨rfl, rfl⟩ := h
      refine ⟨⟨fn, t, [], ds, .run, kind, none⟩, ⟨t, ds⟩, ops, i, rest, k, _, _, _, rfl, e, by simp [Region.wanted], fun hk2 => hk hk2, rfl, ?_⟩
      congr 1
    · cases h
  · cases h
variable {fn : Func} {e : Array Value → Sem Value}
/-- ████ -/
theorem ext_step (h : sits g = some (f, args)) (hf : P.funcs[f]? = some fn) (hname : (fn.name == "runtime.NumGoroutine") = false) (hb : fn.body.isNone = true) (hn : Extern.findNext fn = none) (he : Extern.find fn = some e)
    {v : Value} {evs : Array Event} (hrun : (e args).run P w = .ok v w') (hev : (e args).events P w #[⟨.mark (.extern f), false, true⟩] = #[⟨.mark (.extern f), false, true⟩] ++ evs) (hs : ∀ x ∈ evs, x.sync = true ∧ ∀ g, x.loc ≠ .mark (.extern g)) :
    stepG P main g w = .go (fin g v) w' evs := by
  obtain ⟨b, a, ops, i, rest, k, o, ars, ats, hg, ho, hw, hk, hop, hargs⟩ := sits_is h
  subst hargs
  unfold fin
  rw [hg, stepG_entry ho hw hk hop hf hname hb hn he hrun hev hs]
  congr 2
  show b.at (a.put o.dst v) _ = Frame.finish (b.at a _) v
  rw [Frame.finish_at, ho]
  rfl
theorem blocked_step (h : sits g = some (f, args)) (hf : P.funcs[f]? = some fn) (hname : (fn.name == "runtime.NumGoroutine") = false) (hb : fn.body.isNone = true) (hn : Extern.findNext fn = none) (he : Extern.find fn = some e) (hrun : (e args).run P w = .halt .blocked w') :
    stepG P main g w = .go { g with status := .blocked } w' #[] := by
  obtain ⟨b, a, ops, i, rest, k, o, ars, ats, hg, ho, hw, hk, hop, hargs⟩ := sits_is h
  subst hargs
  rw [hg]
  exact stepG_entry_blocked ho hw hop hf hname hb hn he hrun
end

/-! ### the group's words, at this program -/
section
variable {main : Bool} {g : Goroutine} {w : World} {ad : Addr}
theorem add_step {d v : Int} (h : sits g = some (70, #[.pointer (some ad), .int .u64 d])) (hc : w.cell? ad = some (.int .u64 v)) (hz : w.frozen? ad = false) :
    stepG Tryd.prog main g w = .go (fin g (.int .u64 (IntKind.u64.wrap (v + d)))) (w.setCell ad (.int .u64 (IntKind.u64.wrap (v + d)))) #[⟨.cell ad, false, true⟩, ⟨.cell ad, true, true⟩] :=
  ext_step h (fn := Tryd.f70) (by kernel_rfl) (by kernel_rfl) (by kernel_rfl) (by kernel_rfl) (e := Extern.Atomic.update (Op.intArith .add) .u64 true) (by kernel_rfl) (run_add_entry hc hz) (by rw [events_add_entry hc hz]; rfl) (sync_rw ad)
theorem load_step {v : Int} (h : sits g = some (71, #[.pointer (some ad)])) (hc : w.cell? ad = some (.int .u64 v)) :
    stepG Tryd.prog main g w = .go (fin g (.int .u64 v)) w #[⟨.cell ad, false, true⟩] := by
  obtain ⟨b, a, ops, i, rest, k, o, ars, ats, hg, ho, hw, hk, hop, hargs⟩ := sits_is h
  obtain ⟨l⟩ := ars
  match l, hargs with
  | [x], hargs =>
    simp only [List.map_toArray, List.map_cons, List.map_nil, Array.mk.injEq, List.cons.injEq, and_true] at hargs
    unfold fin
    rw [hg, stepG_load_atomic (fn := Tryd.f71) ho hw hk hop (by kernel_rfl) (by kernel_rfl) (by kernel_rfl) (by kernel_rfl) .u64 (by kernel_rfl) hargs hc]
    congr 2
    show b.at (a.put o.dst _) _ = Frame.finish (b.at a _) _
    rw [Frame.finish_at, ho]
    rfl
  | [], hargs => simp at hargs
  | _ :: _ :: _, hargs => simp at hargs
theorem store_step {v : Int} {u : Value} (h : sits g = some (72, #[.pointer (some ad), .int .u64 v])) (hc : w.cell? ad = some u) (hz : w.frozen? ad = false) :
    stepG Tryd.prog main g w = .go (fin g (.tuple #[])) (w.setCell ad (.int .u64 v)) #[⟨.cell ad, true, true⟩] := by
  obtain ⟨b, a, ops, i, rest, k, o, ars, ats, hg, ho, hw, hk, hop, hargs⟩ := sits_is h
  obtain ⟨l⟩ := ars
  match l, hargs with
  | [x, y], hargs =>
    simp only [List.map_toArray, List.map_cons, List.map_nil, Array.mk.injEq, List.cons.injEq, and_true] at hargs
    unfold fin
    rw [hg, stepG_store_atomic (fn := Tryd.f72) ho hw hk hop (by kernel_rfl) (by kernel_rfl) (by kernel_rfl) (by kernel_rfl) (by kernel_rfl) hargs.1 hargs.2 hc hz]
    congr 2
    show b.at (a.put o.dst _) _ = Frame.finish (b.at a _) _
    rw [Frame.finish_at, ho]
    rfl
  | [], hargs => simp at hargs
  | [_], hargs => simp at hargs
  | _ :: _ :: _ :: _, hargs => simp at hargs
theorem cas_hit {v n : Int} (h : sits g = some (73, #[.pointer (some ad), .int .u64 v, .int .u64 n])) (hc : w.cell? ad = some (.int .u64 v)) (hz : w.frozen? ad = false) :
    stepG Tryd.prog main g w = .go (fin g (.bool true)) (w.setCell ad (.int .u64 n)) #[⟨.cell ad, false, true⟩, ⟨.cell ad, true, true⟩] :=
  ext_step h (fn := Tryd.f73) (by kernel_rfl) (by kernel_rfl) (by kernel_rfl) (by kernel_rfl) (e := Extern.Atomic.casT (.int .u64)) (by kernel_rfl) (by rw [casT_eq]; exact run_cas_hit_entry hc hz) (by rw [casT_eq, events_cas_hit_entry hc hz]; rfl) (sync_rw ad)
theorem cas_miss {v old n : Int} (h : sits g = some (73, #[.pointer (some ad), .int .u64 old, .int .u64 n])) (hc : w.cell? ad = some (.int .u64 v)) (hz : w.frozen? ad = false) (hne : ¬ v = old) :
    stepG Tryd.prog main g w = .go (fin g (.bool false)) w #[⟨.cell ad, false, true⟩] :=
  ext_step h (fn := Tryd.f73) (by kernel_rfl) (by kernel_rfl) (by kernel_rfl) (by kernel_rfl) (e := Extern.Atomic.casT (.int .u64)) (by kernel_rfl) (by rw [casT_eq]; exact run_cas_miss_entry hc hz hne) (by rw [casT_eq, events_cas_miss_entry hc hz hne]; rfl) (sync_r ad)
theorem sem_wait {l : List Value} (h : sits g = some (63, ⟨.pointer (some ad) :: l⟩)) (hc : w.cell? ad = some (.int .u32 0)) :
    stepG Tryd.prog main g w = .go { g with status := .blocked } w #[] :=
  blocked_step h (fn := Tryd.f63) (by kernel_rfl) (by kernel_rfl) (by kernel_rfl) (by kernel_rfl) (e := Extern.Sync.semacquire) (by kernel_rfl) (by simp [Extern.Sync.semacquire, Extern.Sync.count, hc])
theorem sem_take {l : List Value} {n : Int} (h : sits g = some (63, ⟨.pointer (some ad) :: l⟩)) (hc : w.cell? ad = some (.int .u32 n)) (hn : n ≠ 0) (hz : w.frozen? ad = false) :
    stepG Tryd.prog main g w = .go (fin g (.tuple #[])) (w.setCell ad (.int .u32 (n - 1))) (semEvents ad) := by
  obtain ⟨b, a, ops, i, rest, k, o, ars, ats, hg, ho, hw, hk, hop, hargs⟩ := sits_is h
  unfold fin
  rw [hg, stepG_semacquire (fn := Tryd.f63) (n := n) ho hw hk hop (by kernel_rfl) (by kernel_rfl) (by kernel_rfl) (by kernel_rfl) (by kernel_rfl) (by rw [hargs]; rfl) hc hn hz]
  congr 2
  show b.at (a.put o.dst _) _ = Frame.finish (b.at a _) _
  rw [Frame.finish_at, ho]
  rfl
theorem sem_give {l : List Value} {n : Int} (h : sits g = some (58, ⟨.pointer (some ad) :: l⟩)) (hc : w.cell? ad = some (.int .u32 n)) (hz : w.frozen? ad = false) :
    stepG Tryd.prog main g w = .go (fin g (.tuple #[])) (w.setCell ad (.int .u32 (IntKind.u32.wrap (n + 1)))) (semEvents ad) := by
  obtain ⟨b, a, ops, i, rest, k, o, ars, ats, hg, ho, hw, hk, hop, hargs⟩ := sits_is h
  unfold fin
  rw [hg, stepG_semrelease (fn := Tryd.f58) (n := n) ho hw hk hop (by kernel_rfl) (by kernel_rfl) (by kernel_rfl) (by kernel_rfl) (by kernel_rfl) (by rw [hargs]; rfl) hc hz]
  congr 2
  show b.at (a.put o.dst _) _ = Frame.finish (b.at a _) _
  rw [Frame.finish_at, ho]
  rfl
end
end Ev
end Go.Proofs.YtbkjjknlphlhlaaDoor
