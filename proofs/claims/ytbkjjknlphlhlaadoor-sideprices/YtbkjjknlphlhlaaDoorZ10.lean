/- The trace of a call that starts workers behind calls that did: what is known, whose places are whose, and what the join hands over. -/
import Derived.Conc.CrowdTrace
import Derived.Conc.TokenTrace
import Derived.Conc.Beside
import Derived.Conc.Crowd
namespace Go.Proofs.YtbkjjknlphlhlaaDoor
namespace Hd
open Go.Conc Go.ConcN
open Go.ConcR (stA)
set_option maxRecDepth 100000

/-- What is so of the trace between two calls that go. -/
structure Hist (Sh : Loc → Prop) (B b : Nat) (t : Trace) : Prop where
  past : Past Sh B t
  quiet : Quiet Sh t
  mem : ∀ op ∈ t, ∀ x, op.act.touch? = some x → x.loc.isMemory = true
  gs : ∀ (i : Nat) (op : MemOp), t[i]? = some op → op.g < b

section
variable {Sh : Loc → Prop} {Own Own' Rd Rd' : Nat → Loc → Prop} {t u : Trace} {j : Nat}
/-- Nobody has touched it. -/
def Fresh (t : Trace) (l : Loc) : Prop := ∀ op ∈ t, ∀ x, op.act.touch? = some x → x.loc ≠ l
theorem Fresh.perm {l : Loc} (h : Fresh t l) (g : Nat) : Perm t g l := fun i a ha hl => by
  obtain ⟨x, hx, hxa⟩ := touch_of ha
  exact absurd hl (h x (Array.mem_of_getElem? hx) a hxa)
theorem fresh_low {B : Nat} (h : ∀ op ∈ t, op.act.low B) {l : Loc} (hl : ¬ l.low B) : Fresh t l := fun op hop x hx e => by
  have h1 := h op hop
  cases ha : op.act with
  | access ev =>
    rw [ha] at hx h1
    simp only [MemAct.touch?, Option.some.injEq] at hx
    subst hx; exact hl (e ▸ h1)
  | mark m =>
    rw [ha] at hx h1
    cases m <;> simp only [MemAct.touch?, Option.some.injEq, reduceCtorEq] at hx <;> (subst hx; exact hl (e ▸ h1))
  | _ => rw [ha] at hx; simp [MemAct.touch?] at hx
/-- Places that nobody has touched become somebody's. -/
theorem grow (h : CT Sh Own Rd t j) (hle : ∀ k l, Own k l → Own' k l) (hnew : ∀ k l, Own' k l → Own k l ∨ Fresh t l) (hrd : ∀ k l, Rd' k l ↔ Rd k l) : CT Sh Own' Rd' t j :=
  ⟨h.quiet, fun k k1 kj l hl => (hnew k l hl).elim (h.own k k1 kj l) fun hf => hf.perm k, fun k k1 kj l hl => h.rd k k1 kj l ((hrd k l).1 hl),
    fun l hs hl => h.free l hs fun k k1 kj => ⟨fun ho => (hl k k1 kj).1 (hle k l ho), fun hr => (hl k k1 kj).2 ((hrd k l).2 hr)⟩, fun l hs hl => h.mine l hs fun k k1 kj ho => hl k k1 kj (hle k l ho), h.nr, h.gs⟩
/-- What touches nothing, whoever does it. -/
theorem mute (h : CT Sh Own Rd t j) (hn : ∀ op ∈ u, op.act.touch? = none) (hg : ∀ op ∈ u, op.g ≤ j) : CT Sh Own Rd (t ++ u) j := by
  have no : ∀ op ∈ u, ∀ b, op.act.touch? = some b → False := fun op hop b hb => by rw [hn op hop] at hb; cases hb
  refine ⟨h.quiet.app fun op hop x hx _ => (no op hop x hx).elim, fun k k1 kj l hl => (h.own k k1 kj l hl).app fun op hop b hb _ => (no op hop b hb).elim,
    fun k k1 kj l hl => (h.rd k k1 kj l hl).app fun op hop b hb _ _ => (no op hop b hb).elim, fun l hs hl => (h.free l hs hl).app fun op hop b hb _ => (no op hop b hb).elim,
    fun l hs hl => (h.mine l hs hl).app fun op hop b hb _ _ => (no op hop b hb).elim, fun said => noRace_appendMute (h.nr said) hn, fun i op hi => ?_⟩
  rcases getElem?_append_cases hi with ⟨_, hi'⟩ | ⟨_, hiu⟩
  · exact h.gs i op hi'
  · exact hg op hiu
end

/-- What is so of the trace while the workers of one call go: p is where it began; goroutines below b0 are the main and those who left before. -/
structure Ph (Sh : Loc → Prop) (Wg b0 p : Nat) (Own Rd : Nat → Loc → Prop) (B : Nat) (t : Trace) (j : Nat) : Prop where
  ct : CT (fun l => Sh l ∨ ShN Wg l) Own Rd t j
  p_le : p ≤ t.size
  old : ∀ i a, i < p → touchAt t i = some a → a.loc.isMemory = true → Knows t 0 i ∨ (Sh a.loc ∧ a.kind = .atomic)
  over : ∀ i g, i < p → t.g? i = some g → g ≠ 0 → t.counts i → ∃ j, t.g? j = some 0 ∧ HappensBefore t i j
  late : ∀ i op, p ≤ i → t[i]? = some op → op.g ≠ 0 → op.g < b0 → op.act.touch? = none
  atm : ∀ i op x, p ≤ i → t[i]? = some op → op.g ≠ 0 → op.act.touch? = some x → x.kind = .atomic → ShN Wg x.loc
  mem : ∀ op ∈ t, ∀ x, op.act.touch? = some x → x.loc.isMemory = true
  seen : ∀ op ∈ t, op.act.low B
  norel : NoRelease (stA Wg) t

/-- What is asked of what comes to it. -/
structure OkP (Wg b0 B : Nat) (op : MemOp) : Prop where
  late : op.g ≠ 0 → op.g < b0 → op.act.touch? = none
  atm : ∀ x, op.g ≠ 0 → op.act.touch? = some x → x.kind = .atomic → ShN Wg x.loc
  mem : ∀ x, op.act.touch? = some x → x.loc.isMemory = true
  seen : op.act.low B
  norel : op.act ≠ .mark (.release (stA Wg))

section
variable {Sh : Loc → Prop} {Wg b0 p B B' j j' : Nat} {Own Own' Rd Rd' : Nat → Loc → Prop} {t u : Trace}
theorem Ph.app (h : Ph Sh Wg b0 p Own Rd B t j) (hB : B ≤ B') (hu : ∀ op ∈ u, OkP Wg b0 B' op) (hct : CT (fun l => Sh l ∨ ShN Wg l) Own' Rd' (t ++ u) j') : Ph Sh Wg b0 p Own' Rd' B' (t ++ u) j' := by
  refine ⟨hct, by have := h.p_le; simp; omega, fun i a hi ha hm => ?_, fun i g hi hg hne hc => ?_, fun i op hi ho h0 hb => ?_, fun i op x hi ho h0 hx hk => ?_, fun op hop x hx => ?_, fun op hop => ?_, fun i e => ?_⟩
  · have hlt : i < t.size := Nat.lt_of_lt_of_le hi h.p_le
    rw [touchAt_old hlt] at ha
    exact (h.old i a hi ha hm).imp (·.app u) id
  · have hlt : i < t.size := Nat.lt_of_lt_of_le hi h.p_le
    rw [g?_old hlt] at hg
    obtain ⟨k, hk, hb⟩ := h.over i g hi hg hne ((counts_old hlt).1 hc)
    have hkl : k < t.size := by
      unfold Trace.g? at hk
      obtain ⟨z, hz, _⟩ := Option.map_eq_some_iff.1 hk
      exact lt_size_of_getElem? hz
    exact ⟨k, by rw [g?_old hkl]; exact hk, hb_app u hb⟩
  · rcases getElem?_append_cases ho with ⟨_, ho'⟩ | ⟨_, hou⟩
    · exact h.late i op hi ho' h0 hb
    · exact (hu op hou).late h0 hb
  · rcases getElem?_append_cases ho with ⟨_, ho'⟩ | ⟨_, hou⟩
    · exact h.atm i op x hi ho' h0 hx hk
    · exact (hu op hou).atm x h0 hx hk
  · rcases Array.mem_append.1 hop with h1 | h1
    · exact h.mem op h1 x hx
    · exact (hu op h1).mem x hx
  · rcases Array.mem_append.1 hop with h1 | h1
    · exact MemAct.low_mono hB (h.seen op h1)
    · exact (hu op h1).seen
  · obtain ⟨op, ho, hoa⟩ := Option.map_eq_some_iff.1 e
    rcases getElem?_append_cases ho with ⟨_, ho'⟩ | ⟨_, hou⟩
    · exact h.norel i (by rw [act?_of ho', hoa])
    · exact (hu op hou).norel hoa
/-- Blocks that are new become somebody's. -/
theorem Ph.grow (h : Ph Sh Wg b0 p Own Rd B t j) (hle : ∀ k l, Own k l → Own' k l) (hnew : ∀ k l, Own' k l → Own k l ∨ Fresh t l) (hrd : ∀ k l, Rd' k l ↔ Rd k l) : Ph Sh Wg b0 p Own' Rd' B t j :=
  ⟨Hd.grow h.ct hle hnew hrd, h.p_le, h.old, h.over, h.late, h.atm, h.mem, h.seen, h.norel⟩
/-- The beginning: a group that nobody has touched. -/
theorem Ph.begin {b : Nat} (h : Hist Sh B b t) (hb : 1 ≤ b) (hW : B ≤ Wg) (hO : ∀ k l, k < b → ¬ Own k l) (hR : ∀ k l, k < b → ¬ Rd k l) (hBB : B ≤ B') : Ph Sh Wg b t.size Own Rd B' t (b - 1) := by
  have hf : ∀ l, ShN Wg l → Fresh t l := fun l ⟨a, e, ha⟩ => fresh_low h.past.seen (by subst e; simp only [Loc.low, ha]; omega)
  refine ⟨⟨fun i op x ho hx hs => ?_, fun k k1 kj l hl => absurd hl (hO k l (by omega)), fun k k1 kj l hl => absurd hl (hR k l (by omega)), fun l hs _ i a ha e => ?_, fun l hs _ i a ha e _ => ?_, h.past.clean, fun i op ho => by have := h.gs i op ho; omega⟩,
    Nat.le_refl _, fun i a _ ha hm => h.past.known i a ha hm, fun i g _ hg hne hc => h.past.over i g hg hne hc, fun i op hi ho => ?_, fun i op x hi ho => ?_, h.mem, fun op hop => MemAct.low_mono hBB (h.past.seen op hop), fun i e => ?_⟩
  · rcases hs with hs | hs
    · exact h.quiet i op x ho hx hs
    · exact absurd rfl (hf _ hs op (Array.mem_of_getElem? ho) x hx)
  · obtain ⟨x, hx, hxa⟩ := touch_of ha
    rcases h.past.known i a ha (h.mem x (Array.mem_of_getElem? hx) a hxa) with h1 | ⟨h1, _⟩
    · exact h1
    · exact absurd (.inl (e ▸ h1)) hs
  · obtain ⟨x, hx, hxa⟩ := touch_of ha
    rcases h.past.known i a ha (h.mem x (Array.mem_of_getElem? hx) a hxa) with h1 | ⟨h1, _⟩
    · exact h1
    · exact absurd (.inl (e ▸ h1)) hs
  · have := lt_size_of_getElem? ho; omega
  · have := lt_size_of_getElem? ho; omega
  · obtain ⟨op, ho, hoa⟩ := Option.map_eq_some_iff.1 e
    have := h.past.seen op (Array.mem_of_getElem? ho)
    rw [hoa] at this
    have : (stA Wg).block < B := this
    simp only [stA] at this
    omega
/-- ████ The end: the main has said 'acquire' behind every worker's release. ████ -/
theorem Ph.join (h : Ph Sh Wg b0 p Own Rd B t j) {q : Nat} (hq : t.act? q = some (.mark (.acquire (stA Wg)))) (hg : t.g? q = some 0) (hh : t.heard q) (hrel : ∀ k, b0 ≤ k → k ≤ j → (∀ i, t.g? i ≠ some k) ∨ ∃ r, RelBy (stA Wg) t k r ∧ r < q) (h0 : Deaf t 0 = 0) :
    Hist (fun l => Sh l ∨ ShN Wg l) B (j + 1) t := by
  have edge : ∀ {k r}, RelBy (stA Wg) t k r → r < q → HappensBefore t r q := fun hr hrq => .single (.inr ⟨.marked hrq (.inr hr.act) hq (fun k _ _ => h.norel k), hr.heard, hh⟩)
  obtain ⟨zq, hzq, hzg⟩ := Option.map_eq_some_iff.1 hg
  have known : ∀ {k r i}, RelBy (stA Wg) t k r → r < q → t.g? i = some k → i ≤ r → HappensBefore t i q := fun {k r i} hr hrq hgi hir => by
    rcases Nat.lt_or_ge i r with hlt | hge
    · exact .trans (.single (.inl ⟨hlt, k, hgi, hr.g⟩)) (edge hr hrq)
    · obtain rfl : i = r := by omega
      exact edge hr hrq
  refine ⟨⟨h.ct.nr, fun i a ha hm => ?_, fun i g hgi hne hc => ?_, h0, h.seen⟩, h.ct.quiet, h.mem, fun i op ho => by have := h.ct.gs i op ho; omega⟩
  · rcases Nat.lt_or_ge i p with hip | hip
    · exact (h.old i a hip ha hm).imp id fun x => ⟨.inl x.1, x.2⟩
    · obtain ⟨x, hx, hxa⟩ := touch_of ha
      by_cases hx0 : x.g = 0
      · exact .inl (hx0 ▸ knows_own hx)
      · have hb0 : b0 ≤ x.g := Nat.le_of_not_lt fun hlt => by
          have := h.late i x hip hx hx0 hlt
          rw [this] at hxa; cases hxa
        have hgi : t.g? i = some x.g := by simp [Trace.g?, hx]
        rcases hrel x.g hb0 (h.ct.gs i x hx) with hno | ⟨r, hr, hrq⟩
        · exact absurd hgi (hno i)
        · rcases Nat.lt_or_ge r i with hlt | hge
          · have hnc := hr.after i hlt hgi
            have hat : a.kind = .atomic := by
              refine Classical.byContradiction fun hne => hnc ⟨a, ha, hm, .inl hne⟩
            exact .inr ⟨.inr (h.atm i x a hip hx hx0 hxa hat), hat⟩
          · exact .inl ⟨q, zq, hzq, hzg, .inr (known hr hrq hgi hge)⟩
  · rcases Nat.lt_or_ge i p with hip | hip
    · exact h.over i g hip hgi hne hc
    · obtain ⟨x, hx, hxg⟩ := Option.map_eq_some_iff.1 hgi
      subst hxg
      obtain ⟨a, ha, _, _⟩ := id hc
      have hb0 : b0 ≤ x.g := Nat.le_of_not_lt fun hlt => by
        have := h.late i x hip hx hne hlt
        have e : (t.act? i).bind (·.touch?) = x.act.touch? := touchAt_of hx
        rw [e, this] at ha; cases ha
      rcases hrel x.g hb0 (h.ct.gs i x hx) with hno | ⟨r, hr, hrq⟩
      · exact absurd hgi (hno i)
      · exact ⟨q, hg, known hr hrq hgi (Nat.le_of_not_lt fun hlt => hr.after i hlt hgi hc)⟩
end
end Hd
end Go.Proofs.YtbkjjknlphlhlaaDoor
namespace Go.Proofs.YtbkjjknlphlhlaaDoor
namespace Mc
open Go.Conc
theorem ask_pick' {P : Program} {m : Machine} {rs : List Nat} (h0 : m.rest.watch = false) (h2 : due m.rest.timers m.world.os.mono = [])
    (h3 : ahead m true = none) (hrs : runnable m.gs m.world.os.mono = rs) (hne : rs ≠ []) :
    ∃ i ∈ rs, ∃ d sl, m.world.drawn ≤ d ∧ ask P m = .goroutine (m.at d sl) i := by
  obtain ⟨world, gs, ⟨timers, alone, slice, watch⟩⟩ := m
  simp only at h0 h2 h3 hrs
  subst h0
  cases rs with
  | nil => exact absurd rfl hne
  | cons r rest =>
    by_cases hl : (r :: rest).length ≤ 1
    · refine ⟨r, by simp, world.drawn, slice, Nat.le_refl _, ?_⟩
      have hq : (Question.sched (r :: rest).length).forced = true := by simpa [Question.forced] using hl
      simp only [ask, askOn, Bool.false_eq_true, h2, h3, hrs, choose, Sem.run, hq, Machine.at, hl, pure, List.isEmpty_nil, if_true, List.length_nil, Nat.lt_irrefl, if_false]
      simp
    · have hlt : (Question.sched (r :: rest).length).cut (world.tape world.drawn (.sched (r :: rest).length)) < (r :: rest).length := by
        simp only [Question.cut]
        exact Nat.mod_lt _ (by simp)
      refine ⟨(r :: rest).getD ((Question.sched (r :: rest).length).cut (world.tape world.drawn (.sched (r :: rest).length))) 0, ?mem, world.drawn + 1 + 1, ?sl, ?le, ?eq⟩
      case eq =>
        simp only [ask, askOn, Bool.false_eq_true, h2, h3, hrs, choose, Sem.run, Machine.at, hl, pure, List.isEmpty_nil, if_true, List.length_nil, Nat.lt_irrefl, if_false,
          Question.forced]
        rfl
      case mem =>
        rw [List.getD_eq_getElem?_getD, List.getElem?_eq_getElem hlt]
        exact List.getElem_mem hlt
      case le => exact Nat.le_trans (Nat.le_succ _) (Nat.le_succ _)
theorem stepT_pick' {P : Program} {m : Machine} {rs : List Nat} (h0 : m.rest.watch = false) (h1 : m.rest.alone = none) (h2 : due m.rest.timers m.world.os.mono = [])
    (h3 : ahead m true = none) (hrs : runnable m.gs m.world.os.mono = rs) (hne : rs ≠ []) :
    ∃ i ∈ rs, ∃ d sl, m.world.drawn ≤ d ∧ stepT P m = runT P (m.at d sl) i := by
  have key : ∃ i ∈ rs, ∃ d sl, m.world.drawn ≤ d ∧ move P m = .goroutine (m.at d sl) i := by
    unfold move
    rw [h1]
    simp only
    split
    · rename_i i n hs
      split
      · rename_i hc
        refine ⟨i, ?_, m.world.drawn, _, Nat.le_refl _, rfl⟩
        rw [← hrs]
        exact mem_runnable.2 hc
      · obtain ⟨j, hj, d, sl, hd, h⟩ := ask_pick' (P := P) (m := { m with rest := { m.rest with slice := none } }) h0 h2 h3 hrs hne
        exact ⟨j, hj, d, sl, hd, h⟩
    · exact ask_pick' h0 h2 h3 hrs hne
  obtain ⟨i, hi, d, sl, hd, h⟩ := key
  exact ⟨i, hi, d, sl, hd, by simp [stepT, h]⟩
theorem crowd_pick' {P : Program} {gs : Array Goroutine} {w : World} {sl : Option (Nat × Nat)} (ha : ∀ g ∈ gs, awake g) (some1 : ∃ (i : Nat) (g : Goroutine), gs[i]? = some g ∧ g.status = .running) :
    ∃ (i : Nat) (g : Goroutine) (d : Nat) (sl' : Option (Nat × Nat)), gs[i]? = some g ∧ g.status = .running ∧ w.drawn ≤ d ∧ stepT P (crowd gs w sl) = runT P (crowd gs (w.at d) sl') i := by
  have hne : runnable (crowd gs w sl).gs (crowd gs w sl).world.os.mono ≠ [] := by
    intro h
    obtain ⟨i, g, hi, hg⟩ := some1
    have : i ∈ runnable (crowd gs w sl).gs (crowd gs w sl).world.os.mono := mem_runnable.2 (by simp [crowd, hi, Goroutine.canRun, hg])
    rw [h] at this; cases this
  obtain ⟨i, hi, d, sl', hd, hs⟩ := stepT_pick' (P := P) (m := crowd gs w sl) rfl rfl (by simp [due, crowd]) (ahead_crowd ha) rfl hne
  have hc := mem_runnable.1 hi
  simp only [crowd] at hc
  cases hg : gs[i]? with
  | none => simp [hg] at hc
  | some g =>
    simp only [hg, Option.any_some] at hc
    exact ⟨i, g, d, sl', hg, (canRun_iff (ha g (Array.mem_of_getElem? hg)) _).1 hc, hd, by rw [hs, crowd_at]⟩
end Mc
end Go.Proofs.YtbkjjknlphlhlaaDoor
namespace Go.Proofs.YtbkjjknlphlhlaaDoor
namespace Mb
open Go.Conc Go.ConcN Hd
set_option maxRecDepth 100000

/-- An entry that does no harm: a plain touch of what nobody shuns. -/
inductive SafeE (Z : Nat → Prop) (B : Nat) : Event → Prop
  | cell (a : Addr) (wr : Bool) (h1 : ¬ Z a.block) (h2 : a.block < B) : SafeE Z B ⟨.cell a, wr, false⟩
  | obj (b : Nat) (h1 : ¬ Z b) (h : b < B) : SafeE Z B ⟨.obj b, false, false⟩
  | room : SafeE Z B ⟨.mark .noRoom, false, true⟩
  | ext (f : FuncId) : SafeE Z B ⟨.mark (.extern f), false, true⟩
structure Ed (Z : Nat → Prop) (w w' : World) (es : Array Event) : Prop where
  size : w.heap.size ≤ w'.heap.size
  evs : ∀ e ∈ es, SafeE Z w'.heap.size e
/-- It goes to its stop while others draw. -/
inductive Wd (P : Program) (Z : Nat → Prop) (Stop : Goroutine → World → Prop) : Goroutine → World → Prop
  | stop {g w} (h : ∀ d, w.drawn ≤ d → Stop g (w.at d)) : Wd P Z Stop g w
  | step {g w} (hs : g.status = .running) (h1 : ∀ d, w.drawn ≤ d → ∃ g' w' es, stepG P true g (w.at d) = .go g' w' es ∧ Ed Z (w.at d) w' es) (h2 : ∀ d g' w' es, w.drawn ≤ d → stepG P true g (w.at d) = .go g' w' es → Wd P Z Stop g' w') : Wd P Z Stop g w
section
variable {P : Program} {Z : Nat → Prop} {Stop Stop' : Goroutine → World → Prop} {Sh : Loc → Prop} {g : Goroutine} {w : World}
theorem Wd.at (h : Wd P Z Stop g w) {d : Nat} (hd : w.drawn ≤ d) : Wd P Z Stop g (w.at d) := by
  cases h with
  | stop h => exact .stop fun d' k => h d' (Nat.le_trans hd k)
  | step hs h1 h2 => exact .step hs (fun d' k => h1 d' (Nat.le_trans hd k)) fun d' g' w' es k => h2 d' g' w' es (Nat.le_trans hd k)
theorem Wd.seq (h : Wd P Z Stop g w) (k : ∀ g w, Stop g w → Wd P Z Stop' g w) : Wd P Z Stop' g w := by
  induction h with
  | stop h => exact k _ _ (h _ (Nat.le_refl _))
  | step hs h1 _ ih => exact .step hs h1 ih
theorem Wd.go (hs : g.status = .running) (h : ∀ d, w.drawn ≤ d → ∃ g' w' es, stepG P true g (w.at d) = .go g' w' es ∧ Ed Z (w.at d) w' es ∧ Wd P Z Stop g' w') : Wd P Z Stop g w :=
  .step hs (fun d k => by obtain ⟨g', w', es, h1, h2, _⟩ := h d k; exact ⟨g', w', es, h1, h2⟩) fun d g1 w1 es1 k e => by
    obtain ⟨g', w', es, h1, _, h3⟩ := h d k
    rw [h1] at e; cases e
    exact h3

theorem safe_evl (hZ : ∀ l, Sh l → ∃ a : Addr, l = .cell a ∧ Z a.block) {B : Nat} {e : Event} (h : SafeE Z B e) : EvL Sh B e := by
  cases h with
  | cell a wr h1 h2 =>
    refine ⟨fun x hx hs => ?_, by simp, by simp, h2⟩
    simp only [MemAct.ofEvent, MemAct.touch?, Option.some.injEq] at hx
    subst hx
    obtain ⟨a', e, hz⟩ := hZ _ hs
    cases e
    exact absurd hz h1
  | obj b h1 h =>
    refine ⟨fun x hx hs => ?_, by simp, by simp, h⟩
    simp only [MemAct.ofEvent, MemAct.touch?, Option.some.injEq] at hx
    subst hx
    obtain ⟨a', e, hz⟩ := hZ _ hs
    cases e
  | room => exact ⟨fun x hx => by simp [MemAct.ofEvent, MemAct.touch?] at hx, by simp, by simp, trivial⟩
  | ext f => exact ⟨fun x hx => by simp [MemAct.ofEvent, MemAct.touch?] at hx, by simp, by simp, trivial⟩
theorem safe_mem {B : Nat} {e : Event} (h : SafeE Z B e) {x : Touch} (hx : (MemAct.ofEvent e).touch? = some x) : x.loc.isMemory = true := by
  cases h <;> simp only [MemAct.ofEvent, MemAct.touch?, Option.some.injEq, reduceCtorEq] at hx <;> (subst hx; rfl)
theorem hist_own (hZ : ∀ l, Sh l → ∃ a : Addr, l = .cell a ∧ Z a.block) {B B' b : Nat} {t : Trace} (h : Hist Sh B b t) (hB : B ≤ B') (hb : 1 ≤ b) {fn : FuncId} {pos : String} {es : Array Event} (hes : ∀ e ∈ es, SafeE Z B' e) : Hist Sh B' b (t ++ MemOp.ofEvents 0 fn pos es) := by
  refine ⟨(h.past.mono hB).own fun e he => safe_evl hZ (hes e he), h.quiet.app fun op hop x hx hs => ?_, fun op hop x hx => ?_, fun i op hi => ?_⟩
  · obtain ⟨e, he, rfl⟩ := Go.Conc.mem_ofEvents hop
    have hk := (safe_evl hZ (hes e he)).1 x hx hs
    exact ⟨hk, fun _ => rfl⟩
  · rcases Array.mem_append.1 hop with hop | hop
    · exact h.mem op hop x hx
    · obtain ⟨e, he, rfl⟩ := Go.Conc.mem_ofEvents hop
      exact safe_mem (hes e he) hx
  · rcases getElem?_append_cases hi with ⟨_, hi'⟩ | ⟨_, hiu⟩
    · exact h.gs i op hi'
    · obtain ⟨e, _, rfl⟩ := Go.Conc.mem_ofEvents hiu
      exact hb
theorem hist_mute {B b : Nat} {t : Trace} (h : Hist Sh B b t) {i : Nat} (hi : i ≠ 0) (hb : i < b) {fn : FuncId} {pos : String} {es : Array Event} (hes : ∀ e ∈ es, Event.mute e = true) : Hist Sh B b (t ++ MemOp.ofEvents i fn pos es) := by
  refine ⟨h.past.mute hi hes, h.quiet.app fun op hop x hx hs => ?_, fun op hop x hx => ?_, fun j op hj => ?_⟩
  · obtain ⟨e, he, rfl⟩ := Go.Conc.mem_ofEvents hop
    rw [touch_mute (hes e he)] at hx; cases hx
  · rcases Array.mem_append.1 hop with hop | hop
    · exact h.mem op hop x hx
    · obtain ⟨e, he, rfl⟩ := Go.Conc.mem_ofEvents hop
      rw [touch_mute (hes e he)] at hx; cases hx
  · rcases getElem?_append_cases hj with ⟨_, hj'⟩ | ⟨_, hju⟩
    · exact h.gs j op hj'
    · obtain ⟨e, _, rfl⟩ := Go.Conc.mem_ofEvents hju
      exact hb
/-- ████ -/
theorem wd_runs_at {B : Nat → Nat} (hB : ∀ {w w' : World} {t : Trace} {b : Nat} {fn : FuncId} {pos : String} {es : Array Event}, 1 ≤ b → Ed Z w w' es → Hist Sh (B w.heap.size) b t → Hist Sh (B w'.heap.size) b (t ++ MemOp.ofEvents 0 fn pos es)) {b : Nat} (hb : 1 ≤ b) (h : Wd P Z Stop g w) :
    ∀ (N d0 : Nat) (gs : Array Goroutine) (sl : Option (Nat × Nat)) (t : Trace) (q : Nat → Nat), w.drawn ≤ d0 → sumTo gs.size q ≤ N → gs[0]? = some g → Leavers P t gs q → Hist Sh (B w.heap.size) b t → gs.size = b →
      ∃ n gs' g' w' sl' t' q', runNT P n (crowd gs (w.at d0) sl) t = (.next (crowd gs' w' sl'), t') ∧ gs'.size = b ∧ gs'[0]? = some g' ∧ Stop g' w' ∧ Leavers P t' gs' q' ∧ Hist Sh (B w'.heap.size) b t' ∧ w.heap.size ≤ w'.heap.size := by
  induction h with
  | @stop g w h => exact fun N d0 gs sl t q hd _ h0 hL hH hs => ⟨0, gs, g, w.at d0, sl, t, q, rfl, hs, h0, h d0 hd, hL, hH, Nat.le_refl _⟩
  | @step g0 w hrun h1 h2 ihW =>
    intro N
    induction N using Nat.strongRecOn with
    | ind N ihN =>
    intro d0 gs sl t q hd0 hM h0 hL hH hsz
    have haw : ∀ g ∈ gs, awake g := by
      intro g hg
      obtain ⟨i, hi, rfl⟩ := Array.mem_iff_getElem.1 hg
      rcases Nat.eq_zero_or_pos i with rfl | hpos
      · have : gs[0] = g0 := by simpa [Array.getElem?_eq_getElem hi] using h0
        rw [this]; exact awake_of (.inl hrun)
      · exact awake_of ((hL.old i _ hpos (Array.getElem?_eq_getElem hi)).status.elim .inl fun x => .inr (.inr x))
    obtain ⟨i, g, d, sl', hi, hg, hd, hst⟩ := Mc.crowd_pick' (P := P) (w := w.at d0) (sl := sl) haw ⟨0, g0, h0, hrun⟩
    have hd : w.drawn ≤ d := Nat.le_trans hd0 hd
    have hst : stepT P (crowd gs (w.at d0) sl) = runT P (crowd gs (w.at d) sl') i := hst
    rcases Nat.eq_zero_or_pos i with rfl | hpos
    · obtain rfl : g = g0 := by rw [h0] at hi; exact (Option.some.inj hi).symm
      obtain ⟨a', w', es, hgo, hed⟩ := h1 d hd
      have hrunT := runT_crowd_go (P := P) (sl := sl') (i := 0) hi (show stepG P (0 == 0) g (w.at d) = _ from hgo)
      have hsz' : ((gs.map (woken P g a' w')).setIfInBounds 0 a').size = b := by simp [hsz]
      have hlt : 0 < gs.size := (Array.getElem?_eq_some_iff.1 h0).1
      obtain ⟨n, gs', g'', w'', sl'', t', q', hr, hs', h0', hS, hL', hH', hz'⟩ := ihW d a' w' es hd hgo (sumTo ((gs.map (woken P g a' w')).setIfInBounds 0 a').size q) w'.drawn ((gs.map (woken P g a' w')).setIfInBounds 0 a') sl' (t ++ MemOp.ofEvents 0 g.frame.fn g.frame.place es) q (Nat.le_refl _) (Nat.le_refl _) (by simp [hlt])
        ⟨fun j x hj hx => by
          have hne : 0 ≠ j := by omega
          rw [Array.getElem?_setIfInBounds_ne hne, Array.getElem?_map] at hx
          obtain ⟨y, hy, rfl⟩ := Option.map_eq_some_iff.1 hx
          have hq := hL.old j y hj hy
          rw [woken_quitsD hq, Deaf_other t (by omega) _ (fun op hop => by obtain ⟨e, _, rfl⟩ := Go.Conc.mem_ofEvents hop; rfl)]
          exact hq, fun j hj => by
          rw [Deaf_other t (g' := 0) (by simp at hj; omega) _ (fun op hop => by obtain ⟨e, _, rfl⟩ := Go.Conc.mem_ofEvents hop; rfl)]
          exact hL.above j (by simpa using hj)⟩
        (hB hb hed hH) hsz'
      exact ⟨n + 1, gs', g'', w'', sl'', t', q', by simp only [runNT, hst, hrunT]; exact hr, hs', h0', hS, hL', hH', Nat.le_trans hed.size hz'⟩
    · have hq := hL.old i g hpos hi
      have hi0 : (i == 0) = false := by simp; omega
      have hlt : i < gs.size := (Array.getElem?_eq_some_iff.1 hi).1
      cases hqi : q i with
      | zero => rw [hqi] at hq; rw [hq.1] at hg; cases hg
      | succ k =>
        rw [hqi] at hq
        rcases hq with ⟨hf, _⟩ | ⟨_, g', es, hm, hstp, hq'⟩
        · rw [hf] at hg; cases hg
        have hrunT := runT_crowd_go (P := P) (sl := sl') (i := i) hi (by rw [hi0]; exact hstp (w.at d))
        have hsz' : ((gs.map (woken P g g' (w.at d))).setIfInBounds i g').size = gs.size := by simp
        have hsum : sumTo gs.size (upd q i k) + (k + 1) = sumTo gs.size q + k := by
          have := sumTo_upd q k id hlt
          simpa [hqi] using this
        obtain ⟨n, gs', g'', w'', sl'', t', q', hr, hs', h0', hS, hL', hH', hz'⟩ := ihN (sumTo gs.size (upd q i k)) (by omega) d ((gs.map (woken P g g' (w.at d))).setIfInBounds i g') sl' (t ++ MemOp.ofEvents i g.frame.fn g.frame.place es) (upd q i k) hd (by rw [hsz']; exact Nat.le_refl _)
          (by
            have hne : i ≠ 0 := by omega
            rw [Array.getElem?_setIfInBounds_ne hne, Array.getElem?_map, h0]
            simp [woken_run hrun])
          ⟨fun j x hj hx => by
            by_cases hji : i = j
            · subst hji
              rw [Array.getElem?_setIfInBounds_self_of_lt (by simpa using hlt)] at hx
              obtain rfl := Option.some.inj hx
              rw [upd_same, Deaf_own]
              exact hq'
            · rw [Array.getElem?_setIfInBounds_ne hji, Array.getElem?_map] at hx
              obtain ⟨y, hy, rfl⟩ := Option.map_eq_some_iff.1 hx
              have hqj := hL.old j y hj hy
              rw [woken_quitsD hqj, upd_ne q k (Ne.symm hji), Deaf_other t hji _ (fun op hop => by obtain ⟨e, _, rfl⟩ := Go.Conc.mem_ofEvents hop; rfl)]
              exact hqj, fun j hj => by
            rw [Deaf_other t (g' := i) (by simp at hj; omega) _ (fun op hop => by obtain ⟨e, _, rfl⟩ := Go.Conc.mem_ofEvents hop; rfl)]
            exact hL.above j (by simpa using hj)⟩
          (hist_mute hH (by omega) (by omega) hm) (hsz'.trans hsz)
        exact ⟨n + 1, gs', g'', w'', sl'', t', q', by simp only [runNT, hst, hrunT]; exact hr, hs', h0', hS, hL', hH', hz'⟩
/-- ████ -/
theorem wd_runs (hZ : ∀ l, Sh l → ∃ a : Addr, l = .cell a ∧ Z a.block) {b : Nat} (hb : 1 ≤ b) (h : Wd P Z Stop g w) {d0 : Nat} {gs : Array Goroutine} {sl : Option (Nat × Nat)} {t : Trace} {q : Nat → Nat} (hd : w.drawn ≤ d0) (h0 : gs[0]? = some g) (hL : Leavers P t gs q) (hH : Hist Sh w.heap.size b t) (hs : gs.size = b) :
    ∃ n gs' g' w' sl' t' q', runNT P n (crowd gs (w.at d0) sl) t = (.next (crowd gs' w' sl'), t') ∧ gs'.size = b ∧ gs'[0]? = some g' ∧ Stop g' w' ∧ Leavers P t' gs' q' ∧ Hist Sh w'.heap.size b t' ∧ w.heap.size ≤ w'.heap.size :=
  wd_runs_at (B := id) (fun hb he hH => hist_own hZ hH he.size hb he.evs) hb h _ _ _ _ _ _ hd (Nat.le_refl _) h0 hL hH hs
theorem hist_marks {B b n : Nat} {t : Trace} (h : Hist Sh B b t) (hb : 1 ≤ b) {fn : FuncId} {pos : String} {es : Array Event} (hes : ∀ e ∈ es, SafeE (fun _ => True) n e) : Hist Sh B b (t ++ MemOp.ofEvents 0 fn pos es) := by
  have no : ∀ e ∈ es, (MemAct.ofEvent e).touch? = none ∧ EvL Sh B e := fun e he => by
    cases hes e he with
    | cell a wr h1 _ => exact absurd trivial h1
    | obj b h1 _ => exact absurd trivial h1
    | room => exact ⟨rfl, fun x hx => by simp [MemAct.ofEvent, MemAct.touch?] at hx, by simp, by simp, trivial⟩
    | ext f => exact ⟨rfl, fun x hx => by simp [MemAct.ofEvent, MemAct.touch?] at hx, by simp, by simp, trivial⟩
  refine ⟨h.past.own fun e he => (no e he).2, h.quiet.app fun op hop x hx hs => ?_, fun op hop x hx => ?_, fun i op hi => ?_⟩
  · obtain ⟨e, he, rfl⟩ := Go.Conc.mem_ofEvents hop
    rw [(no e he).1] at hx; cases hx
  · rcases Array.mem_append.1 hop with hop | hop
    · exact h.mem op hop x hx
    · obtain ⟨e, he, rfl⟩ := Go.Conc.mem_ofEvents hop
      rw [(no e he).1] at hx; cases hx
  · rcases getElem?_append_cases hi with ⟨_, hi'⟩ | ⟨_, hiu⟩
    · exact h.gs i op hi'
    · obtain ⟨e, _, rfl⟩ := Go.Conc.mem_ofEvents hiu
      exact hb
/-- .. touching nothing: the trace stays below what it stayed below. -/
theorem wd_marks {B b : Nat} (hb : 1 ≤ b) (h : Wd P (fun _ => True) Stop g w) {d0 : Nat} {gs : Array Goroutine} {sl : Option (Nat × Nat)} {t : Trace} {q : Nat → Nat} (hd : w.drawn ≤ d0) (h0 : gs[0]? = some g) (hL : Leavers P t gs q) (hH : Hist Sh B b t) (hs : gs.size = b) :
    ∃ n gs' g' w' sl' t' q', runNT P n (crowd gs (w.at d0) sl) t = (.next (crowd gs' w' sl'), t') ∧ gs'.size = b ∧ gs'[0]? = some g' ∧ Stop g' w' ∧ Leavers P t' gs' q' ∧ Hist Sh B b t' ∧ w.heap.size ≤ w'.heap.size :=
  wd_runs_at (B := fun _ => B) (fun hb he hH => hist_marks hH hb he.evs) hb h _ _ _ _ _ _ hd (Nat.le_refl _) h0 hL hH hs
end
end Mb
end Go.Proofs.YtbkjjknlphlhlaaDoor
namespace Go.Proofs.YtbkjjknlphlhlaaDoor
namespace Ms
section
variable {α : Type} {r : α → α → Prop}
/-- One of them goes down, the others stand. -/
inductive Low (r : α → α → Prop) : List α → List α → Prop
  | head {a b : α} {l : List α} (h : r a b) : Low r (a :: l) (b :: l)
  | tail {a : α} {l l' : List α} (h : Low r l l') : Low r (a :: l) (a :: l')
theorem Low.set {l : List α} {i : Nat} {a b : α} (h : l[i]? = some b) (k : r a b) : Low r (l.set i a) l := by
  induction l generalizing i with
  | nil => simp at h
  | cons x l ih =>
    cases i with
    | zero => simp only [List.getElem?_cons_zero, Option.some.injEq] at h; subst h; exact .head k
    | succ i => exact .tail (ih (by simpa using h))
theorem acc_cons {a : α} {l : List α} (ha : Acc r a) (hl : Acc (Low r) l) : Acc (Low r) (a :: l) := by
  induction ha generalizing l with
  | intro a _ iha =>
    induction hl with
    | intro l hl ihl =>
      refine .intro _ fun y hy => ?_
      cases hy with
      | head h => exact iha _ h (.intro l hl)
      | tail h => exact ihl _ h
theorem acc_list {l : List α} (h : ∀ x ∈ l, Acc r x) : Acc (Low r) l := by
  induction l with
  | nil => exact .intro _ fun y hy => by cases hy
  | cons a l ih => exact acc_cons (h a (by simp)) (ih fun x hx => h x (by simp [hx]))
/-- The measure. -/
def Mu (r : α → α → Prop) : Type := { p : Nat × List α // ∀ x ∈ p.2, Acc r x }
/-- The number goes down; or it stands, and one of the others goes down. -/
def Down (x y : Mu r) : Prop := x.1.1 < y.1.1 ∨ (x.1.1 = y.1.1 ∧ Low r x.1.2 y.1.2)
theorem down_wf : WellFounded (Down (r := r)) := by
  have key : ∀ (n : Nat) (l : List α), Acc (Low r) l → ∀ h, Acc (Down (r := r)) ⟨(n, l), h⟩ := by
    intro n
    induction n using Nat.strongRecOn with
    | ind n ihn =>
      intro l hl
      induction hl with
      | intro l _ ihl =>
        intro h
        refine .intro _ fun ⟨⟨n', l'⟩, h'⟩ hd => ?_
        rcases hd with hd | ⟨e, hd⟩
        · exact ihn n' hd l' (acc_list h') h'
        · dsimp only at e hd
          subst e
          exact ihl l' hd h'
  exact ⟨fun ⟨⟨n, l⟩, h⟩ => key n l (acc_list h) h⟩
end
end Ms
end Go.Proofs.YtbkjjknlphlhlaaDoor
