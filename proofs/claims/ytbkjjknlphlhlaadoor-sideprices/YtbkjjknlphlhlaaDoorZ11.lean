/- A communication that can proceed meets somebody, in the machine of many: whoever the tape picks. -/
import Derived.Conc.CrowdSel
import Derived.Laws.Sem
namespace Go.Proofs.YtbkjjknlphlhlaaDoor
namespace Cm
open Go.Conc
set_option maxRecDepth 100000

theorem choose_lt {P : Program} {n : Nat} (hn : 0 < n) (w : World) (q : Question) (hq : q = .select n ∨ ∃ s, q = .extern s n) : ∃ x d, (choose q).run P w = .ok x (w.at d) ∧ x < n ∧ w.drawn ≤ d := by
  by_cases hf : q.forced = true
  · exact ⟨0, w.drawn, by simp [choose, Sem.run, hf]; rfl, hn, Nat.le_refl _⟩
  · refine ⟨q.cut (w.tape w.drawn q), w.drawn + 1, by simp [choose, Sem.run, hf]; rfl, ?_, Nat.le_succ _⟩
    rcases hq with rfl | ⟨s, rfl⟩
    · exact Nat.mod_lt _ hn
    · simp only [Question.cut]
      rw [if_neg (by omega)]
      exact Nat.mod_lt _ hn

section
variable {P : Program} {gs : Array Goroutine} {w w₁ : World} {sl : Option (Nat × Nat)} {i : Nat} {g g₂ : Goroutine} {es : Array Event} {cases : Array CommCase} {shape : CommShape} {blocking : Bool}

/-- The cases that can proceed, with their ways. -/
def ready (w : World) (gs : Array Goroutine) (cases : Array CommCase) : List (Nat × CommCase × List Way) :=
  (cases.zipIdx.toList.map fun (c, k) => (k, c, ways w gs c)).filter fun (_, _, ws) => !ws.isEmpty
theorem mem_ready {x : Nat × CommCase × List Way} (h : x ∈ ready w gs cases) : cases[x.1]? = some x.2.1 ∧ x.2.2 = ways w gs x.2.1 ∧ x.2.2 ≠ [] := by
  obtain ⟨k, c, ws⟩ := x
  unfold ready at h
  rw [List.mem_filter] at h
  obtain ⟨h1, h2⟩ := h
  simp only [List.mem_map, Prod.mk.injEq, Prod.exists] at h1
  obtain ⟨c', k', hm, rfl, rfl, rfl⟩ := h1
  have := Array.mem_zipIdx_iff_getElem?.1 (Array.mem_toList_iff.1 hm)
  refine ⟨by simpa using this, rfl, fun e => ?_⟩
  dsimp only at e h2
  rw [e] at h2; simp at h2
theorem ready_ne {k : Nat} {c : CommCase} (hk : cases[k]? = some c) (hw : ways w gs c ≠ []) : ready w gs cases ≠ [] := by
  intro e
  unfold ready at e
  rw [List.filter_eq_nil_iff] at e
  have := e (k, c, ways w gs c) (by
    simp only [List.mem_map, Prod.mk.injEq, Prod.exists]
    exact ⟨c, k, Array.mem_toList_iff.2 (Array.mem_zipIdx_iff_getElem?.2 (by simpa using hk)), rfl, rfl, rfl⟩)
  exact this (by cases h : ways w gs c with
    | nil => exact absurd h hw
    | cons _ _ => rfl)

/-- What comes of it: the case and the way are of those that there are. -/
theorem comm_picks (hi : gs[i]? = some g) (h : stepG P (i == 0) g w = .comm g₂ cases blocking shape w₁ es) (hm : ∀ cc ∈ cases, illMade w₁ cc = false)
    {k0 : Nat} {c0 : CommCase} (hk0 : cases[k0]? = some c0) (hw0 : ways w₁ (gs.setIfInBounds i ph) c0 ≠ [])
    (hp : ∀ (k : Nat) (c : CommCase), cases[k]? = some c → ∀ x ∈ ways w₁ (gs.setIfInBounds i ph) c, ∃ j q, x = .partner j q) :
    ∃ (k : Nat) (c : CommCase) (j q d : Nat), cases[k]? = some c ∧ Way.partner j q ∈ ways w₁ (gs.setIfInBounds i ph) c ∧ w₁.drawn ≤ d ∧ ∀ (r cap s rc : Nat) (buf : Array Value) (closed tm : Bool), c.chan = .chan (some r) → w₁.heap[r]? = some (.chan cap buf closed s rc tm) →
      runT P (crowd gs w sl) i = (match c.send with
        | some v => (.next (crowd ((finishPartner P (gs.setIfInBounds i ph) j q v).setIfInBounds i (g₂.finishComm P cases shape k undef false)) ((w₁.at d).setChan r cap buf closed (s + 1) (rc + 1) tm) sl),
          MemOp.ofEvents i g.frame.fn g.frame.place es ++ #[{ g := i, fn := g₂.frame.fn, pos := g₂.frame.place, act := .send r s }, { g := j, fn := ((gs.setIfInBounds i ph).getD j default).frame.fn, pos := ((gs.setIfInBounds i ph).getD j default).frame.place, act := .recv r rc cap },
            { g := i, fn := g₂.frame.fn, pos := g₂.frame.place, act := .sendDone r s }, { g := j, fn := ((gs.setIfInBounds i ph).getD j default).frame.fn, pos := ((gs.setIfInBounds i ph).getD j default).frame.place, act := .recvDone r rc }])
        | none => (.next (crowd ((finishPartner P (gs.setIfInBounds i ph) j q undef).setIfInBounds i (g₂.finishComm P cases shape k (offeredValue (gs.setIfInBounds i ph) j q) true)) ((w₁.at d).setChan r cap buf closed (s + 1) (rc + 1) tm) sl),
          MemOp.ofEvents i g.frame.fn g.frame.place es ++ #[{ g := j, fn := ((gs.setIfInBounds i ph).getD j default).frame.fn, pos := ((gs.setIfInBounds i ph).getD j default).frame.place, act := .send r s }, { g := i, fn := g₂.frame.fn, pos := g₂.frame.place, act := .recv r rc cap },
            { g := j, fn := ((gs.setIfInBounds i ph).getD j default).frame.fn, pos := ((gs.setIfInBounds i ph).getD j default).frame.place, act := .sendDone r s }, { g := i, fn := g₂.frame.fn, pos := g₂.frame.place, act := .recvDone r rc }])) := by
  have hne := ready_ne hk0 hw0
  generalize hr : ready w₁ (gs.setIfInBounds i ph) cases = rs at hne
  obtain ⟨a, d1, ha, hal, hd1⟩ := choose_lt (P := P) (List.length_pos_iff.2 hne) w₁ (.select rs.length) (.inl rfl)
  obtain ⟨⟨k, c, ws⟩, hx⟩ : ∃ x, rs[a]? = some x := ⟨_, List.getElem?_eq_getElem hal⟩
  have hmem := mem_ready (hr ▸ List.mem_of_getElem? hx)
  obtain ⟨hk, hws, hwne⟩ := hmem
  dsimp only at hk hws hwne
  obtain ⟨b, d2, hb, hbl, hd2⟩ := choose_lt (P := P) (List.length_pos_iff.2 hwne) (w₁.at d1) (.extern "which waiting goroutine is the partner" ws.length) (.inr ⟨_, rfl⟩)
  obtain ⟨way, hy⟩ : ∃ y, ws[b]? = some y := ⟨_, List.getElem?_eq_getElem hbl⟩
  have hwm : way ∈ ways w₁ (gs.setIfInBounds i ph) c := hws ▸ List.mem_of_getElem? hy
  obtain ⟨j, q, rfl⟩ := hp k c hk way hwm
  refine ⟨k, c, j, q, d2, hk, hwm, Nat.le_trans hd1 hd2, fun r cap s rc buf closed tm hch hc => ?_⟩
  rw [runT_crowd_comm hi h]
  unfold communicate
  have hill : cases.any (illMade w₁) = false := any_ill hm
  have hrs : (cases.zipIdx.toList.map fun (c, k) => (k, c, ways w₁ (gs.setIfInBounds i ph) c)).filter (fun (_, _, ws) => !ws.isEmpty) = rs := hr
  have hemp : rs.isEmpty = false := by cases rs with
    | nil => exact absurd rfl hne
    | cons _ _ => rfl
  have hpick : (do
      let a ← choose (.select rs.length)
      let (k, c, ws) := rs.getD a (0, default, [])
      let b ← choose (.extern "which waiting goroutine is the partner" ws.length)
      pure (k, c, ws.getD b .closed) : Sem (Nat × CommCase × Way)).run P w₁ = .ok (k, c, .partner j q) (w₁.at d2) := by
    rw [Sem.run_bind, ha]
    simp only [Result.andThen_ok, List.getD, hx, Option.getD_some]
    rw [Sem.run_bind, hb]
    simp only [Result.andThen_ok, hy, Option.getD_some]
    rfl
  simp only [hrs, hemp, Bool.false_eq_true, if_false]
  rw [if_neg (by show ¬ cases.any (illMade w₁) = true; rw [hill]; simp), hpick]
  dsimp only
  have hc2 : (w₁.at d2).heap[r]? = some (.chan cap buf closed s rc tm) := hc
  simp only [hch, hc2]
  cases c.send with
  | some v => simp [World.setChan, crowd]
  | none => simp [World.setChan, crowd]
end
end Cm
end Go.Proofs.YtbkjjknlphlhlaaDoor
