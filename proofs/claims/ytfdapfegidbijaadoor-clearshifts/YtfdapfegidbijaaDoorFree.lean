/- A law for a walk, of every program: a region that draws its order, in which one operation z (the making of a variable) may come at any time, all others but the last only read, and the last waits for all: one walk serves every order. -/
import Derived.Test.YtfdapfegidbijaaDoorTail
namespace Go.Proofs.YtfdapfegidbijaaDoor
open Go

section
variable {P : Program} {ops : Array Oper} {md : Region.Mode} {val : Bool → Nat → World} {z m : Nat} {oz : Oper} {p : Value}

/-- one value, ahead of z and behind it; the world moves on by draws alone -/
def quietF (P : Program) (val : Bool → Nat → World) (o : Oper) (a : Act) (next : Act → Prop) : Prop :=
  ∃ v, (∀ b n, o.quietAt P a (fun w => ∃ k, w = val b k) (val b n) v) ∧ next (a.put o.dst v)
def walkF (P : Program) (ops : Array Oper) (val : Bool → Nat → World) (Q : Act → Prop) : List Oper → Act → Prop
  | [], a => Q a
  | o :: rest, a => Region.wanted o (yielded ops a.tmps) = true ∧ quietF P val o a (walkF P ops val Q rest)
theorem walkF_nil {Q : Act → Prop} {a : Act} (h : Q a) : walkF P ops val Q [] a := h
theorem walkF_step {Q : Act → Prop} {a : Act} {o : Oper} {rest : List Oper}
    (h : ∀ K : Act → Prop, (∀ a, walkF P ops val Q rest a → K a) → Region.wanted o (yielded ops a.tmps) = true ∧ quietF P val o a K) : walkF P ops val Q (o :: rest) a := h _ (fun _ h => h)

def YieldsF (P : Program) (ops : Array Oper) (val : Bool → Nat → World) (o : Oper) (v : Value) (a : Act) : Prop := ∀ b, YieldsIn P ops (fun w => ∃ k, w = val b k) o v a

/-- whatever order is picked, f operations are left ahead of the last -/
def headZ (P : Program) (md : Region.Mode) (ops : Array Oper) (val : Bool → Nat → World) (z : Nat) (dz : Option Nat) (p : Value) (L : Array Bool → Act → Prop) : Nat → Array Bool → Bool → Act → Prop
  | 0, listed, b, a => b = true ∧ L listed a
  | f + 1, listed, b, a => Region.ready md ops listed ≠ [] ∧ ∀ i ∈ Region.ready md ops listed,
      (i = z ∧ b = false ∧ headZ P md ops val z dz p L f (listed.setIfInBounds i true) true (a.put dz p)) ∨
      (i ≠ z ∧ qOp P ops (fun w => ∃ k, w = val b k) i (headZ P md ops val z dz p L f (listed.setIfInBounds i true) b) a)

theorem any_of_headZ {g : Nat} {L : Array Bool → Act → Prop} {Q' : Exit → Act → World → Prop} (hz : ops[z]? = some oz) (hzw : oz.guard = none)
    (hzr : ∀ (a : Act) n, (execOp a.eval oz).run P (val false n) = .ok (.value p) (val true n))
    (hL : ∀ listed a n, L listed a → wpAny P md ops Q' g listed a (val true n)) :
    ∀ (f : Nat) (listed : Array Bool) (b : Bool) (a : Act) (n : Nat), headZ P md ops val z oz.dst p L f listed b a → wpAny P md ops Q' (f + g) listed a (val b n) := by
  intro f
  induction f with
  | zero => intro listed b a n h; obtain ⟨rfl, h⟩ := h; rw [Nat.zero_add]; exact hL _ _ _ h
  | succ f ih =>
    intro listed b a n h
    rw [show f + 1 + g = (f + g) + 1 by omega]
    refine ⟨fun h0 => absurd h0 h.1, fun i hi => ?_⟩
    rcases h.2 i hi with ⟨rfl, rfl, h2⟩ | ⟨_, h2⟩
    · unfold wpOp
      simp only [hz]
      have hw : Region.wanted oz (yielded ops a.tmps) = true := by simp [Region.wanted, hzw]
      simp only [hw, if_true, Oper.wp, hzr, Oper.upon]
      exact .inl (ih _ _ _ n h2)
    · exact wpOp_of_qOp (C := fun w => ∃ k, w = val b k) ⟨n, rfl⟩ (fun a' w' ⟨k, hk⟩ h' => hk ▸ ih _ _ a' k h') h2

theorem headZ_first {i : Nat} {oi : Oper} {v : Value} {L : Array Bool → Act → Prop} (hi : ops[i]? = some oi) (hz : ops[z]? = some oz) (hiz : i ≠ z) (hsel : ∀ (j : Nat) (o : Oper) cs b, ops[j]? = some o → o.op ≠ .select cs b)
    (hdone : ∀ listed a, L listed a → ∀ j ∈ Region.ready md ops listed, j = m) (hwait : Region.waitsFor md ops m i = true) :
    ∀ (f : Nat) (listed : Array Bool) (b : Bool) (a : Act),
      (∀ j oj, ops[j]? = some oj → j ≠ i → listed.getD j true = false → (∀ e ∈ oj.after, Region.binds md e = true → e.on ≠ i) → oi.apart ops oj = true) →
      i ∈ Region.ready md ops listed → YieldsF P ops val oi v a →
      headZ P md ops val z oz.dst p L f (listed.setIfInBounds i true) b (a.put oi.dst v) → headZ P md ops val z oz.dst p L (f + 1) listed b a := by
  have hnm : ∀ (listed : Array Bool), i ∈ Region.ready md ops listed → m ∉ Region.ready md ops listed := by
    intro listed hr hm
    obtain ⟨oj, hoj, e, he, hb, hon⟩ := Region.waitsFor_spec hwait
    obtain ⟨_, oj', hoj', hall⟩ := mem_ready.1 hm
    obtain rfl := Option.some.inj (hoj.symm.trans hoj')
    have h1 := hall e he hb
    rw [hon, getD_both (mem_ready.1 hr).1] at h1
    cases h1
  intro f
  induction f with
  | zero =>
    intro listed b a _ hr hy H
    refine ⟨fun h => (by rw [h] at hr; cases hr), fun j hj => ?_⟩
    by_cases hji : j = i
    · subst hji; exact .inr ⟨hiz, (hy b).qOp hi H⟩
    · have := hdone _ _ H.2 j (ready_mono hj hji)
      subst this
      exact absurd hj (hnm listed hr)
  | succ f ih =>
    intro listed b a hfree hr hy H
    refine ⟨fun h => (by rw [h] at hr; cases hr), fun j hj => ?_⟩
    by_cases hji : j = i
    · subst hji; exact .inr ⟨hiz, (hy b).qOp hi H⟩
    · obtain ⟨hjun, oj, hoj, hall⟩ := mem_ready.1 hj
      have hnot : ∀ e ∈ oj.after, Region.binds md e = true → e.on ≠ i := fun e he hb heq => by
        have h1 := hall e he hb
        rw [heq, getD_both (mem_ready.1 hr).1] at h1
        cases h1
      have hap := hfree j oj hoj hji hjun hnot
      have hfree' : ∀ k ok, ops[k]? = some ok → k ≠ i → (listed.setIfInBounds j true).getD k true = false → (∀ e ∈ ok.after, Region.binds md e = true → e.on ≠ i) → oi.apart ops ok = true := fun k ok hk hki hu hno => by
        refine hfree k ok hk hki ?_ hno
        by_cases hjk : j = k
        · subst hjk; exact hjun
        · rw [getD_set_ne true hjk] at hu; exact hu
      rcases H.2 j (ready_mono hj hji) with ⟨rfl, rfl, h2⟩ | ⟨hjz, h2⟩
      · refine .inl ⟨rfl, rfl, ih _ _ _ hfree' (ready_mono hr (Ne.symm hji)) ?_ ?_⟩
        · obtain rfl := Option.some.inj (hz.symm.trans hoj)
          obtain ⟨h1, h2', h3⟩ := Oper.apart_spec hap
          intro b'
          exact (hy b').of_same (execOp_put oi (fun cs b => hsel i oi cs b hi) a oz.dst p h3) (wanted_put oi a oz.dst p h3)
        · obtain rfl := Option.some.inj (hz.symm.trans hoj)
          obtain ⟨_, h2', _⟩ := Oper.apart_spec hap
          rw [Array.setIfInBounds_comm _ _ hji, ← Act.put_comm a v p h2']
          exact h2
      · refine .inr ⟨hjz, ?_⟩
        obtain ⟨h1, h2', h3⟩ := Oper.apart_spec hap
        have h4 := qOp_put hoj hap (fun cs b => hsel i oi cs b hi) (fun cs b => hsel j oj cs b hoj) (hy b) h2
        obtain ⟨u, hyu, hK⟩ := yieldsIn_of_qOp hoj h4
        refine hyu.qOp hoj (ih _ _ _ hfree' (ready_mono hr (Ne.symm hji)) (fun b' => (hy b').of_same (execOp_put oi (fun cs b => hsel i oi cs b hi) a oj.dst u h3) (wanted_put oi a oj.dst u h3)) ?_)
        rw [Array.setIfInBounds_comm _ _ hji]
        exact hK.2

/-- the closed test: the heads, in the order of the text (z stands behind them), may each come first; then z alone; then the last alone -/
def lexZ (md : Region.Mode) (ops : Array Oper) (z m : Nat) : Nat → Nat → Array Bool → Bool
  | 0, _, listed => decide (Region.ready md ops listed = [z]) && Region.seqB md ops 1 m (listed.setIfInBounds z true)
  | f + 1, k, listed => (Region.ready md ops listed).contains k && Region.free md ops listed k && Region.waitsFor md ops m k && lexZ md ops z m f (k + 1) (listed.setIfInBounds k true)

theorem headZ_lex {Lq : Act → Prop} (hsel : Region.noSelect ops = true) (hz : ops[z]? = some oz) :
    ∀ (l : List Oper) (k : Nat) (listed : Array Bool) (a : Act), (∀ j, j < l.length → l[j]? = ops[k + j]?) → k + l.length = z →
    lexZ md ops z m l.length k listed = true → walkF P ops val (fun a' => Lq (a'.put oz.dst p)) l a →
    headZ P md ops val z oz.dst p (fun listed' a' => Region.seqB md ops 1 m listed' = true ∧ Lq a') (l.length + 1) listed false a := by
  intro l
  induction l with
  | nil =>
    intro k listed a _ hk hB h
    simp only [List.length_nil, lexZ, Bool.and_eq_true, decide_eq_true_eq] at hB
    refine ⟨by rw [hB.1]; simp, fun i hi => ?_⟩
    rw [hB.1] at hi
    have hiz : i = z := by simpa using hi
    subst hiz
    exact .inl ⟨rfl, rfl, rfl, hB.2, h⟩
  | cons o l ih =>
    intro k listed a hl hk hB h
    have h0 : ops[k]? = some o := by simpa using (hl 0 (by simp)).symm
    simp only [List.length_cons, lexZ, Bool.and_eq_true] at hB
    obtain ⟨⟨⟨hr, hf⟩, hw⟩, hB'⟩ := hB
    have hr' : k ∈ Region.ready md ops listed := by simpa using hr
    obtain ⟨hwant, v, hv, hK⟩ := h
    have hkz : k ≠ z := by simp only [List.length_cons] at hk; omega
    refine headZ_first (m := m) h0 hz hkz (Region.noSelect_spec hsel) (fun listed' a' hL j hj => ?_) hw (l.length + 1) listed false a (Region.free_spec h0 hf) hr' (v := v) (fun b => .inl ⟨hwant, fun w ⟨n, hn⟩ => hn ▸ hv b n⟩) (ih (k + 1) _ _ (fun j hj => ?_) ?_ hB' hK)
    · have hs := hL.1
      simp only [Region.seqB, Bool.and_eq_true, decide_eq_true_eq] at hs
      rw [hs.1] at hj
      simpa using hj
    · have := hl (j + 1) (by simp; omega)
      simpa [Nat.add_assoc, Nat.add_comm 1 j] using this
    · simp only [List.length_cons] at hk; omega

/-- THE LAW. -/
theorem region_free_alloc {id : Nat} {Q : Exit → Act → World → Prop} {a : Act} {w : World} {l : List Oper} {o : Oper} (hm : P.follows .mixedOrders = true)
    (hsel : Region.noSelect (l ++ [oz, o]).toArray = true) (hB : lexZ .any (l ++ [oz, o]).toArray l.length (l.length + 1) l.length 0 (Array.replicate (l.length + 2) false) = true) (hzw : oz.guard = none)
    (h0 : val false 1 = { w with drawn := w.drawn + 1 })
    (hzr : ∀ (a : Act) n, (execOp a.eval oz).run P (val false n) = .ok (.value p) (val true n))
    (h : walkF P (l ++ [oz, o]).toArray val (fun a' => ∀ n, wpList P (l ++ [oz, o]).toArray Q [o] (a'.put oz.dst p) (val true n)) l a) : (Code.region id (l ++ [oz, o]).toArray true).wp P Q a w := by
  have hz : (l ++ [oz, o]).toArray[l.length]? = some oz := by simp
  have H := headZ_lex (md := .any) (z := l.length) (m := l.length + 1) (p := p) (val := val) (P := P) hsel hz (Lq := fun a' => ∀ n, wpList P (l ++ [oz, o]).toArray Q [o] a' (val true n)) l 0 (Array.replicate (l.length + 2) false) a
    (fun j hj => by simp [List.getElem?_append_left hj]) (by simp) hB h
  refine wp_region_any hm ?_
  have T := any_of_headZ (Q' := Q) (g := 1) hz hzw hzr (fun listed a' n hL => wpAny_of_seq (md := .any) (Q' := Q) [o] (l.length + 1) listed a' (val true n) (fun j => by
    cases j with
    | zero => simp
    | succ j => simp; omega) hL.1 (hL.2 n)) (l.length + 1) _ false a 1 H
  rw [h0] at T
  have hsz : (l ++ [oz, o]).toArray.size = l.length + 1 + 1 := by simp
  rw [hsz]
  exact T

/-- the same, the list of operations written out -/
theorem region_free_alloc_lit {id : Nat} {Q : Exit → Act → World → Prop} {a : Act} {w : World} {L : List Oper} {o : Oper} (n : Nat) (hL : L.take n ++ [oz, o] = L) (hm : P.follows .mixedOrders = true)
    (hsel : Region.noSelect L.toArray = true) (hB : lexZ .any L.toArray (L.take n).length ((L.take n).length + 1) (L.take n).length 0 (Array.replicate ((L.take n).length + 2) false) = true) (hzw : oz.guard = none)
    (h0 : val false 1 = { w with drawn := w.drawn + 1 })
    (hzr : ∀ (a : Act) n, (execOp a.eval oz).run P (val false n) = .ok (.value p) (val true n))
    (h : walkF P L.toArray val (fun a' => ∀ n, wpList P L.toArray Q [o] (a'.put oz.dst p) (val true n)) (L.take n) a) : (Code.region id L.toArray true).wp P Q a w := by
  have := region_free_alloc (id := id) (Q := Q) (a := a) (w := w) (l := L.take n) (oz := oz) (o := o) (p := p) (val := val) (P := P) hm
  rw [hL] at this
  exact this hsel hB hzw h0 hzr h
end
end Go.Proofs.YtfdapfegidbijaaDoor
