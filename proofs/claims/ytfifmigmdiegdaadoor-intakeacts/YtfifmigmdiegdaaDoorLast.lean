/- A law for a walk, of every program: as Many, where one operation comes last of all in every order (a store, mostly), and the world behind it need not be one of the class. -/
import Derived.Test.YtfifmigmdiegdaaDoorMany
namespace Go.Proofs.YtfifmigmdiegdaaDoor
open Go
section
variable {P : Program} {ops : Array Oper} {md : Region.Mode} {X : Type} {val : X → World}
def ClosedL (md : Region.Mode) (ops : Array Oper) (listed : Array Bool) : Prop :=
  ∀ j oj, ops[j]? = some oj → listed.getD j false = true → ∀ e ∈ oj.after, Region.binds md e = true → listed.getD e.on false = true
def needsL (md : Region.Mode) (ops : Array Oper) : Nat → Nat → Nat → Bool
  | 0, _, _ => false
  | f + 1, j, i => match ops[j]? with
    | some o => o.after.any fun e => Region.binds md e && (e.on == i || needsL md ops f e.on i)
    | none => false
theorem needs_listed {listed : Array Bool} (hc : ClosedL md ops listed) {i : Nat} : ∀ (f j : Nat), needsL md ops f j i = true → listed.getD j false = true → listed.getD i false = true
  | 0, j, h, _ => by simp [needsL] at h
  | f + 1, j, h, hj => by
    unfold needsL at h
    cases ho : ops[j]? with
    | none => rw [ho] at h; simp at h
    | some o =>
      rw [ho] at h
      simp only [Array.any_eq_true'] at h
      obtain ⟨e, he, h2⟩ := h
      simp only [Bool.and_eq_true, Bool.or_eq_true, beq_iff_eq] at h2
      have hl := hc j o ho hj e he h2.1
      rcases h2.2 with h3 | h3
      · rw [← h3]; exact hl
      · exact needs_listed hc f e.on h3 hl
theorem ready_needs {listed : Array Bool} (hc : ClosedL md ops listed) {i z : Nat} {f : Nat} (h : needsL md ops f z i = true) (hz : z ∈ Region.ready md ops listed) : listed.getD i false = true := by
  obtain ⟨_, o, ho, hall⟩ := mem_ready.1 hz
  cases f with
  | zero => simp [needsL] at h
  | succ f =>
    unfold needsL at h
    rw [ho] at h
    simp only [Array.any_eq_true'] at h
    obtain ⟨e, he, h2⟩ := h
    simp only [Bool.and_eq_true, Bool.or_eq_true, beq_iff_eq] at h2
    have hl := hall e he h2.1
    rcases h2.2 with h3 | h3
    · rw [← h3]; exact hl
    · exact needs_listed hc f e.on h3 hl
theorem closed_set {listed : Array Bool} (hc : ClosedL md ops listed) {i : Nat} (hi : i ∈ Region.ready md ops listed) : ClosedL md ops (listed.setIfInBounds i true) := by
  intro j oj hj hl e he hb
  by_cases hij : i = j
  · subst hij
    obtain ⟨_, o, ho, hall⟩ := mem_ready.1 hi
    obtain rfl := Option.some.inj (hj.symm.trans ho)
    exact getD_set_true (hall e he hb)
  · rw [getD_set_ne false hij] at hl
    exact getD_set_true (hc j oj hj hl e he hb)
def headL (P : Program) (md : Region.Mode) (ops : Array Oper) (val : X → World) (z : Nat) (Q : Act → World → Prop) : Nat → Array Bool → Act → World → Prop
  | 0, listed, a, w => Region.ready md ops listed = [] ∧ Q a w
  | f + 1, listed, a, w => Region.ready md ops listed ≠ [] ∧ ∀ i ∈ Region.ready md ops listed, mOp P ops i (fun a' w' => (i ≠ z → ∃ x, val x = w') ∧ headL P md ops val z Q f (listed.setIfInBounds i true) a' w') a w
theorem any_of_headL {z : Nat} {Q' : Exit → Act → World → Prop} :
    ∀ (f : Nat) (listed : Array Bool) (a : Act) (w : World), headL P md ops val z (Q' .normal) f listed a w → wpAny P md ops Q' f listed a w := by
  intro f
  induction f with
  | zero => intro listed a w h; exact h
  | succ f ih =>
    intro listed a w h
    exact ⟨fun h0 => absurd h0 h.1, fun i hi => wpOp_of_mOp (fun a' w' h' => ih _ a' w' h'.2) (h.2 i hi)⟩
theorem headL_first {i z : Nat} {oi : Oper} {v : Value} {Q : Act → World → Prop} (hi : ops[i]? = some oi) (hiz : i ≠ z) (n : Nat) (hnd : needsL md ops n z i = true) (hsel : ∀ (j : Nat) (o : Oper) cs b, ops[j]? = some o → o.op ≠ .select cs b) :
    ∀ (f : Nat) (listed : Array Bool) (a : Act) (x : X), ClosedL md ops listed →
      (∀ j oj, ops[j]? = some oj → j ≠ i → listed.getD j true = false → (∀ e ∈ oj.after, Region.binds md e = true → e.on ≠ i) → oi.apart ops oj = true) →
      i ∈ Region.ready md ops listed → YM P ops val oi v a →
      headL P md ops val z Q f (listed.setIfInBounds i true) (a.put oi.dst v) (val x) → headL P md ops val z Q (f + 1) listed a (val x) := by
  intro f
  induction f with
  | zero =>
    intro listed a x _ _ hr hy H
    refine ⟨fun h => (by rw [h] at hr; cases hr), fun j hj => ?_⟩
    by_cases hji : j = i
    · subst hji; exact hy.mOp hi ⟨fun _ => ⟨x, rfl⟩, H⟩
    · have := ready_mono hj hji
      rw [H.1] at this
      cases this
  | succ f ih =>
    intro listed a x hcl hfree hr hy H
    have hun := (mem_ready.1 hr).1
    refine ⟨fun h => (by rw [h] at hr; cases hr), fun j hj => ?_⟩
    by_cases hji : j = i
    · subst hji; exact hy.mOp hi ⟨fun _ => ⟨x, rfl⟩, H⟩
    · obtain ⟨hjun, oj, hoj, hall⟩ := mem_ready.1 hj
      have hjz : j ≠ z := fun e => by
        subst e
        have := ready_needs hcl hnd hj
        rw [getD_both hun] at this
        cases this
      have hnot : ∀ e ∈ oj.after, Region.binds md e = true → e.on ≠ i := fun e he hb heq => by
        have h1 := hall e he hb
        rw [heq, getD_both hun] at h1
        cases h1
      have h2 := mOp_put hoj (hfree j oj hoj hji hjun hnot) (fun cs b => hsel i oi cs b hi) (fun cs b => hsel j oj cs b hoj) hy (H.2 j (ready_mono hj hji))
      refine mOp_mono (fun a' w' h3 => ?_) h2
      obtain ⟨hy', hx, h4⟩ := h3
      obtain ⟨x', hx'⟩ := hx hjz
      subst hx'
      refine ⟨fun _ => ⟨x', rfl⟩, ih (listed.setIfInBounds j true) a' x' (closed_set hcl hj) (fun k ok hk hki hu hno => hfree k ok hk hki ?_ hno) (ready_mono hr (Ne.symm hji)) hy' ?_⟩
      · by_cases hjk : j = k
        · subst hjk; exact hjun
        · rw [getD_set_ne true hjk] at hu; exact hu
      · rw [Array.setIfInBounds_comm _ _ hji]; exact h4
def ordL (md : Region.Mode) (ops : Array Oper) (sp : List Nat) (z n : Nat) : List Nat → Array Bool → Bool
  | [], _ => false
  | [i], listed => (Region.ready md ops listed).contains i && (Region.ready md ops listed).all (· == i) && (i == z) && (Region.ready md ops (listed.setIfInBounds i true)).isEmpty
  | i :: r, listed => (Region.ready md ops listed).contains i && (if sp.contains i then (Region.ready md ops listed).all (· == i) else Region.free md ops listed i && needsL md ops n z i) && (i != z) && ordL md ops sp z n r (listed.setIfInBounds i true)
/-- the walk: reads as soon as they may come, one operation last -/
def walkL (P : Program) (ops : Array Oper) (val : X → World) (sp : List Nat) (Q : Act → World → Prop) : List Nat → Act → World → Prop
  | [], a, w => Q a w
  | [i], a, w => ∃ o, ops[i]? = some o ∧ Region.wanted o (yielded ops a.tmps) = true ∧ upM P (fun v w' => Q (a.put o.dst v) w') ((execOp a.eval o).run P w)
  | i :: r, a, w => ∃ o, ops[i]? = some o ∧ Region.wanted o (yielded ops a.tmps) = true ∧
      if sp.contains i = true then upM P (fun v w' => (∃ x, val x = w') ∧ walkL P ops val sp Q r (a.put o.dst v) w') ((execOp a.eval o).run P w)
      else ∃ v, (∀ x, isRd (val x) v ((execOp a.eval o).run P (val x))) ∧ walkL P ops val sp Q r (a.put o.dst v) w
theorem walkL_last {sp : List Nat} {Q : Act → World → Prop} {i : Nat} {a : Act} {w : World} {o : Oper} (ho : ops[i]? = some o)
    (h : ∀ K : Act → World → Prop, (∀ a w, Q a w → K a w) → Region.wanted o (yielded ops a.tmps) = true ∧ upM P (fun v w' => K (a.put o.dst v) w') ((execOp a.eval o).run P w)) : walkL P ops val sp Q [i] a w := by
  obtain ⟨h1, h2⟩ := h _ (fun _ _ h => h)
  exact ⟨o, ho, h1, h2⟩
theorem walkL_read {sp : List Nat} {Q : Act → World → Prop} {i j : Nat} {r : List Nat} {a : Act} {w : World} {o : Oper} (ho : ops[i]? = some o) (hs : sp.contains i = false)
    (h : ∀ K : Act → Prop, (∀ a, walkL P ops val sp Q (j :: r) a w → K a) → Region.wanted o (yielded ops a.tmps) = true ∧ ∃ v, (∀ x, isRd (val x) v ((execOp a.eval o).run P (val x))) ∧ K (a.put o.dst v)) : walkL P ops val sp Q (i :: j :: r) a w := by
  obtain ⟨h1, v, h2, h3⟩ := h _ (fun _ h => h)
  refine ⟨o, ho, h1, ?_⟩
  rw [if_neg (by rw [hs]; simp)]
  exact ⟨v, h2, h3⟩
theorem walkL_call {sp : List Nat} {Q : Act → World → Prop} {i j : Nat} {r : List Nat} {a : Act} {w : World} {o : Oper} (ho : ops[i]? = some o) (hs : sp.contains i = true)
    (h : ∀ K : Act → World → Prop, (∀ a w, walkL P ops val sp Q (j :: r) a w → K a w) → Region.wanted o (yielded ops a.tmps) = true ∧ upM P (fun v w' => (∃ x, val x = w') ∧ K (a.put o.dst v) w') ((execOp a.eval o).run P w)) : walkL P ops val sp Q (i :: j :: r) a w := by
  obtain ⟨h1, h2⟩ := h _ (fun _ _ h => h)
  refine ⟨o, ho, h1, ?_⟩
  rw [if_pos hs]
  exact h2
theorem headL_ord {sp : List Nat} {z n : Nat} {Q : Act → World → Prop} (hsel : Region.noSelect ops = true) :
    ∀ (ord : List Nat) (listed : Array Bool) (a : Act) (x : X), ClosedL md ops listed → ordL md ops sp z n ord listed = true → walkL P ops val sp Q ord a (val x) → headL P md ops val z Q ord.length listed a (val x) := by
  intro ord
  induction ord with
  | nil =>
    intro listed a x _ hB h
    simp [ordL] at hB
  | cons i r ih =>
    intro listed a x hcl hB h
    cases r with
    | nil =>
      simp only [ordL, Bool.and_eq_true] at hB
      obtain ⟨⟨⟨hr, hf⟩, hz⟩, hE⟩ := hB
      have hr' : i ∈ Region.ready md ops listed := by simpa using hr
      obtain ⟨o, ho, hw, h⟩ := h
      refine ⟨fun h0 => (by rw [h0] at hr'; cases hr'), fun j hj => ?_⟩
      have : j = i := by
        have := List.all_eq_true.1 hf j hj
        simpa using this
      subst this
      have hzz : j = z := by simpa using hz
      exact ⟨o, ho, hw, upM_mono (fun v w' h' => ⟨fun hne => absurd hzz hne, by simpa using hE, h'⟩) h⟩
    | cons j r =>
      simp only [ordL, Bool.and_eq_true] at hB
      obtain ⟨⟨⟨hr, hf⟩, hz⟩, hB'⟩ := hB
      have hr' : i ∈ Region.ready md ops listed := by simpa using hr
      have hiz : i ≠ z := by simpa using hz
      obtain ⟨o, ho, hw, h⟩ := h
      have hcl' := closed_set hcl hr'
      by_cases hs : sp.contains i = true
      · rw [if_pos hs] at hf h
        refine ⟨fun h0 => (by rw [h0] at hr'; cases hr'), fun k hk => ?_⟩
        have : k = i := by
          have := List.all_eq_true.1 hf k hk
          simpa using this
        subst this
        exact ⟨o, ho, hw, upM_mono (fun v w' ⟨⟨x', hx'⟩, h'⟩ => by subst hx'; exact ⟨fun _ => ⟨x', rfl⟩, ih _ _ x' hcl' hB' h'⟩) h⟩
      · rw [if_neg hs] at hf h
        simp only [Bool.and_eq_true] at hf
        obtain ⟨v, hv, hK⟩ := h
        exact headL_first ho hiz n hf.2 (Region.noSelect_spec hsel) (j :: r).length listed a x hcl (Region.free_spec ho hf.1) hr' ⟨hw, hv⟩ (ih _ _ x hcl' hB' hK)
theorem closed_none (n : Nat) : ClosedL md ops (Array.replicate n false) := by
  intro j oj _ hl
  exfalso
  rw [Array.getD_eq_getD_getElem?] at hl
  by_cases h : j < n
  · simp [h] at hl
  · simp [h] at hl
/-- THE LAW. -/
theorem region_many_last {id : Nat} {Q : Exit → Act → World → Prop} {a : Act} {w : World} {l : List Oper} (sp : List Nat) (z n : Nat) (ord : List Nat) (hm : P.follows .mixedOrders = true)
    (hB : (Region.noSelect l.toArray && (ord.length == l.length) && ordL .any l.toArray sp z n ord (Array.replicate l.toArray.size false)) = true)
    (x0 : X) (hx0 : val x0 = { w with drawn := w.drawn + 1 })
    (h : walkL P l.toArray val sp (Q .normal) ord a (val x0)) : (Code.region id l.toArray true).wp P Q a w := by
  simp only [Bool.and_eq_true, beq_iff_eq] at hB
  obtain ⟨⟨hsel, hlen⟩, hB⟩ := hB
  refine wp_region_any hm ?_
  have T := any_of_headL (Q' := Q) _ _ _ _ (headL_ord (md := .any) hsel ord _ a x0 (closed_none _) hB h)
  rw [hlen, hx0] at T
  simpa using T
end
end Go.Proofs.YtfifmigmdiegdaaDoor
