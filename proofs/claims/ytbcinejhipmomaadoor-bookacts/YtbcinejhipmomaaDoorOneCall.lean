/- A law for a walk, of every program: a region that draws its order, in which one call z turns the world, all the other first n operations only read, whether z has come or not, and the last ones wait for all of these and come one behind the other: one walk, in the order of the text, serves every order. -/
import Derived.Test.YtbcinejhipmomaaDoorTail
namespace Go.Proofs.YtbcinejhipmomaaDoor
open Go

section
variable {P : Program} {ops : Array Oper} {md : Region.Mode} {X : Type} {val : X → World} {fl : X → Bool} {z : Nat}

/-- what is asked of an operation in the world of x: one value, the world as it was (unless it is z); or a call that hands back one value and leaves a world in which z has come if it is z -/
def upS (P : Program) (val : X → World) (D : X → Prop) (ns : Prop) (w : World) (v : Value) : Result Next → Prop
  | .ok (.value u) w' => w' = w ∧ u = v ∧ ns
  | .ok .skip w' => w' = w ∧ v = undef ∧ ns
  | .ok (.enter f args) w' => w' = w ∧ Calls P f args w (fun e w'' => e = .returned v ∧ ∃ x', val x' = w'' ∧ D x')
  | _ => False
def atS (P : Program) (val : X → World) (fl : X → Bool) (z i : Nat) (o : Oper) (a : Act) (v : Value) : Prop :=
  ∀ x, (i = z → fl x = false) → upS P val (fun x' => fl x' = (fl x || i == z)) (i ≠ z) (val x) v ((execOp a.eval o).run P (val x))
def sOp (P : Program) (ops : Array Oper) (val : X → World) (fl : X → Bool) (z i : Nat) (K : Act → Prop) (a : Act) : Prop :=
  ∃ o, ops[i]? = some o ∧ Region.wanted o (yielded ops a.tmps) = true ∧ ∃ v, atS P val fl z i o a v ∧ K (a.put o.dst v)
def YS (P : Program) (ops : Array Oper) (val : X → World) (fl : X → Bool) (z i : Nat) (o : Oper) (v : Value) (a : Act) : Prop :=
  Region.wanted o (yielded ops a.tmps) = true ∧ atS P val fl z i o a v

theorem YS.of_same {i : Nat} {o : Oper} {v : Value} {a a' : Act} (hy : YS P ops val fl z i o v a) (he : execOp a'.eval o = execOp a.eval o)
    (hw : Region.wanted o (yielded ops a'.tmps) = Region.wanted o (yielded ops a.tmps)) : YS P ops val fl z i o v a' := by
  unfold YS atS at *
  rw [he, hw]
  exact hy
theorem YS.sOp {i : Nat} {o : Oper} {v : Value} {a : Act} {K : Act → Prop} (hi : ops[i]? = some o) (hy : YS P ops val fl z i o v a) (h : K (a.put o.dst v)) : sOp P ops val fl z i K a := ⟨o, hi, hy.1, v, hy.2, h⟩
theorem sOp_mono {i : Nat} {a : Act} {K K' : Act → Prop} (h : ∀ a, K a → K' a) (hh : sOp P ops val fl z i K a) : sOp P ops val fl z i K' a := by
  obtain ⟨o, ho, hw, v, hv, hK⟩ := hh
  exact ⟨o, ho, hw, v, hv, h _ hK⟩
theorem sOp_put {i j : Nat} {oi oj : Oper} {v : Value} (hj : ops[j]? = some oj) (hap : oi.apart ops oj = true)
    (hsi : ∀ cs b, oi.op ≠ .select cs b) (hsj : ∀ cs b, oj.op ≠ .select cs b) {K : Act → Prop} {a : Act}
    (hy : YS P ops val fl z i oi v a) (h : sOp P ops val fl z j K (a.put oi.dst v)) :
    sOp P ops val fl z j (fun a' => YS P ops val fl z i oi v a' ∧ K (a'.put oi.dst v)) a := by
  obtain ⟨h1, h2, h3⟩ := Oper.apart_spec hap
  obtain ⟨o, ho, hw, u, hu, hK⟩ := h
  obtain rfl := Option.some.inj (hj.symm.trans ho)
  rw [wanted_put oj a oi.dst v h1] at hw
  refine ⟨oj, hj, hw, u, fun x e1 => ?_, hy.of_same (execOp_put oi hsi a oj.dst u h3) (wanted_put oi a oj.dst u h3), by rw [← Act.put_comm a v u h2]; exact hK⟩
  have := hu x e1
  rwa [execOp_put oj hsj a oi.dst v h1] at this
theorem wpOp_of_sOp {i : Nat} {a : Act} {K : Act → Prop} {K' : Act → World → Prop} {Q' : Exit → Act → World → Prop} {x : X} (hx : i = z → fl x = false) (h : ∀ a x', fl x' = (fl x || i == z) → K a → K' a (val x')) (hh : sOp P ops val fl z i K a) : wpOp P ops Q' i K' a (val x) := by
  obtain ⟨o, ho, hw, v, hv, hK⟩ := hh
  unfold wpOp
  simp only [ho, hw, if_true]
  refine .inl ?_
  have h3 := hv x hx
  unfold Oper.wp
  generalize (execOp a.eval o).run P (val x) = r at *
  cases r with
  | ok n w' =>
    cases n <;> simp only [upS] at h3 <;> simp only [Oper.upon]
    case value u =>
      obtain ⟨e1, e2, n1⟩ := h3
      rw [e1, e2]
      exact h _ x (by simp [n1]) hK
    case skip =>
      obtain ⟨e1, e2, n1⟩ := h3
      rw [e1, ← e2]
      exact h _ x (by simp [n1]) hK
    case enter f args =>
      obtain ⟨e1, hc⟩ := h3
      rw [e1]
      exact hc.mono fun e w'' ⟨he, x', hx', c1⟩ => by subst he; subst hx'; exact h _ x' c1 hK
  | halt x w' => simp only [upS] at h3

def headS (P : Program) (md : Region.Mode) (ops : Array Oper) (val : X → World) (fl : X → Bool) (z n : Nat) (L : Array Bool → Act → Prop) : Nat → Array Bool → Act → Prop
  | 0, listed, a => L listed a
  | f + 1, listed, a => Region.ready md ops listed ≠ [] ∧ ∀ i ∈ Region.ready md ops listed, i < n ∧ sOp P ops val fl z i (headS P md ops val fl z n L f (listed.setIfInBounds i true)) a

theorem getD_set_same (l : Array Bool) (i : Nat) : (l.setIfInBounds i true).getD i true = true := by
  by_cases h : i < l.size
  · simp [Array.getD, h]
  · simp [Array.getD, h]
theorem getD_set_flag (l : Array Bool) (i z : Nat) : (l.setIfInBounds i true).getD z true = (l.getD z true || i == z) := by
  by_cases h : i = z
  · subst h; rw [getD_set_same]; simp
  · rw [getD_set_ne true h]; simp [h]
theorem any_of_headS {n g : Nat} {L : Array Bool → Act → Prop} {Q' : Exit → Act → World → Prop} (hL : ∀ listed a x, fl x = listed.getD z true → L listed a → wpAny P md ops Q' g listed a (val x)) :
    ∀ (f : Nat) (listed : Array Bool) (a : Act) (x : X), fl x = listed.getD z true → headS P md ops val fl z n L f listed a → wpAny P md ops Q' (f + g) listed a (val x) := by
  intro f
  induction f with
  | zero => intro listed a x hx h; rw [Nat.zero_add]; exact hL _ _ _ hx h
  | succ f ih =>
    intro listed a x hx h
    rw [show f + 1 + g = (f + g) + 1 by omega]
    refine ⟨fun h0 => absurd h0 h.1, fun i hi => wpOp_of_sOp (fun e => ?_) (fun a' x' c1 h' => ih _ a' x' (by rw [c1, hx, getD_set_flag]) h') (h.2 i hi).2⟩
    subst e
    rw [hx]
    exact (mem_ready.1 hi).1

theorem headS_first {n i : Nat} {oi : Oper} {v : Value} {L : Array Bool → Act → Prop} (hi : ops[i]? = some oi) (hsel : ∀ (j : Nat) (o : Oper) cs b, ops[j]? = some o → o.op ≠ .select cs b)
    (hs : Region.sinkB md ops n = true) (hc : Region.chainB md ops n = true) (hn : n < ops.size) (hin : i < n)
    (hdone : ∀ listed a, L listed a → ∀ j ∈ Region.ready md ops listed, n ≤ j) :
    ∀ (f : Nat) (listed : Array Bool) (a : Act), HeadInv md ops n listed →
      (∀ j oj, ops[j]? = some oj → j ≠ i → listed.getD j true = false → (∀ e ∈ oj.after, Region.binds md e = true → e.on ≠ i) → oi.apart ops oj = true) →
      i ∈ Region.ready md ops listed → YS P ops val fl z i oi v a →
      headS P md ops val fl z n L f (listed.setIfInBounds i true) (a.put oi.dst v) → headS P md ops val fl z n L (f + 1) listed a := by
  intro f
  induction f with
  | zero =>
    intro listed a inv _ hr hy H
    have hun := (mem_ready.1 hr).1
    refine ⟨fun h => (by rw [h] at hr; cases hr), fun j hj => ?_⟩
    have hjn : j < n := Nat.lt_of_not_le fun h => tail_waits hs hc hn inv _ i rfl hin hun j h hj
    refine ⟨hjn, ?_⟩
    by_cases hji : j = i
    · subst hji; exact hy.sOp hi H
    · exact absurd (hdone _ _ H j (ready_mono hj hji)) (by omega)
  | succ f ih =>
    intro listed a inv hfree hr hy H
    have hun := (mem_ready.1 hr).1
    refine ⟨fun h => (by rw [h] at hr; cases hr), fun j hj => ?_⟩
    have hjn : j < n := Nat.lt_of_not_le fun h => tail_waits hs hc hn inv _ i rfl hin hun j h hj
    refine ⟨hjn, ?_⟩
    by_cases hji : j = i
    · subst hji; exact hy.sOp hi H
    · obtain ⟨hjun, oj, hoj, hall⟩ := mem_ready.1 hj
      have hnot : ∀ e ∈ oj.after, Region.binds md e = true → e.on ≠ i := fun e he hb heq => by
        have h1 := hall e he hb
        rw [heq, getD_both hun] at h1
        cases h1
      have h2 := sOp_put hoj (hfree j oj hoj hji hjun hnot) (fun cs b => hsel i oi cs b hi) (fun cs b => hsel j oj cs b hoj) hy (H.2 j (ready_mono hj hji)).2
      refine sOp_mono (fun a' h3 => ih (listed.setIfInBounds j true) a' (inv.set hj hjn) (fun k ok hk hki hu hno => hfree k ok hk hki ?_ hno) (ready_mono hr (Ne.symm hji)) h3.1 ?_) h2
      · by_cases hjk : j = k
        · subst hjk; exact hjun
        · rw [getD_set_ne true hjk] at hu; exact hu
      · rw [Array.setIfInBounds_comm _ _ hji]; exact h3.2

/-- the walk in the order of the text -/
def walkS (P : Program) (ops : Array Oper) (val : X → World) (fl : X → Bool) (z : Nat) (Q : Act → Prop) : Nat → List Oper → Act → Prop
  | _, [], a => Q a
  | k, o :: rest, a => Region.wanted o (yielded ops a.tmps) = true ∧ ∃ v, atS P val fl z k o a v ∧ walkS P ops val fl z Q (k + 1) rest (a.put o.dst v)
theorem walkS_nil {Q : Act → Prop} {k : Nat} {a : Act} (h : Q a) : walkS P ops val fl z Q k [] a := h
theorem walkS_step {Q : Act → Prop} {k : Nat} {a : Act} {o : Oper} {rest : List Oper}
    (h : ∀ K : Act → Prop, (∀ a, walkS P ops val fl z Q (k + 1) rest a → K a) → Region.wanted o (yielded ops a.tmps) = true ∧ ∃ v, atS P val fl z k o a v ∧ K (a.put o.dst v)) : walkS P ops val fl z Q k (o :: rest) a := h _ (fun _ h => h)

theorem headS_lex {n g : Nat} {Lq : Act → Prop} (hsel : Region.noSelect ops = true) (hs : Region.sinkB md ops n = true) (hc : Region.chainB md ops n = true) (hn : n < ops.size) (hz : z < n) :
    ∀ (l : List Oper) (k : Nat) (listed : Array Bool) (a : Act), (∀ j, j < l.length → l[j]? = ops[k + j]?) → k + l.length = n → HeadInv md ops n listed → (∀ j, j < k → listed.getD j true = true) →
    Region.lexHead md ops g l.length k listed = true → walkS P ops val fl z Lq k l a →
    headS P md ops val fl z n (fun listed' a' => Region.seqB md ops g n listed' = true ∧ listed'.getD z true = true ∧ Lq a') l.length listed a := by
  intro l
  induction l with
  | nil =>
    intro k listed a _ hk inv hset hB h
    obtain rfl : k = n := by simpa using hk
    exact ⟨by simpa [Region.lexHead] using hB, hset z hz, h⟩
  | cons o l ih =>
    intro k listed a hl hk inv hset hB h
    have h0 : ops[k]? = some o := by simpa using (hl 0 (by simp)).symm
    simp only [List.length_cons, Region.lexHead, Bool.and_eq_true] at hB
    obtain ⟨⟨hr, hf⟩, hB'⟩ := hB
    have hkn : k < n := by simp only [List.length_cons] at hk; omega
    have hr' : k ∈ Region.ready md ops listed := by simpa using hr
    obtain ⟨hw, v, hv, hK⟩ := h
    refine headS_first h0 (Region.noSelect_spec hsel) hs hc hn hkn (fun listed' a' hL => seqB_ready hL.1) l.length listed a inv (Region.free_spec h0 hf) hr' (v := v) ⟨hw, hv⟩ (ih (k + 1) _ _ (fun j hj => ?_) ?_ (inv.set hr' hkn) (fun j hj => ?_) hB' hK)
    · have := hl (j + 1) (by simp; omega)
      simpa [Nat.add_assoc, Nat.add_comm 1 j] using this
    · simp only [List.length_cons] at hk; omega
    · rw [getD_set_flag]
      by_cases e : k = j
      · simp [e]
      · rw [hset j (by omega)]; rfl

/-- THE LAW. -/
theorem region_one_call {id : Nat} {Q : Exit → Act → World → Prop} {a : Act} {w : World} {l : List Oper} (z n : Nat) (hm : P.follows .mixedOrders = true) (hB : Region.lexTailB .any l.toArray n = true) (hz : z < n)
    (x0 : X) (hx0 : val x0 = { w with drawn := w.drawn + 1 }) (hf0 : fl x0 = false)
    (h : walkS P l.toArray val fl z (fun a' => ∀ x, fl x = true → wpList P l.toArray Q (l.drop n) a' (val x)) 0 (l.take n) a) : (Code.region id l.toArray true).wp P Q a w := by
  simp only [Region.lexTailB, Bool.and_eq_true, decide_eq_true_eq] at hB
  obtain ⟨⟨⟨⟨hsel, hn⟩, hs⟩, hc⟩, hlex⟩ := hB
  have hn' : n < l.length := by simpa using hn
  have htl : (l.take n).length = n := by simp; omega
  have hdl : (l.drop n).length = l.toArray.size - n := by simp
  have inv0 : HeadInv .any l.toArray n (Array.replicate l.toArray.size false) :=
    ⟨by simp, fun j oj _ hj => (by rw [getD_replicate_false] at hj; cases hj), fun t _ ht => getD_in (by simpa using ht) (getD_replicate_false _ _)⟩
  have H := headS_lex (md := .any) (g := l.toArray.size - n) hsel hs hc hn hz (l.take n) 0 _ a (fun j hj => by rw [htl] at hj; simp [hj]) (by simpa using htl) inv0 (fun j hj => absurd hj (Nat.not_lt_zero j)) (by rw [htl]; exact hlex) h
  refine wp_region_any hm ?_
  have T := any_of_headS (Q' := Q) (g := l.toArray.size - n) (fun listed a' x hx hL => by
    have := wpAny_of_seq (md := .any) (Q' := Q) (l.drop n) n listed a' (val x) (fun j => by simp [List.getElem?_drop]) (by rw [hdl]; exact hL.1) (hL.2.2 x (hx.trans hL.2.1))
    rwa [hdl] at this) _ _ _ x0 (by rw [hf0]; exact (getD_in (by simp; omega) (getD_replicate_false _ _)).symm) H
  rw [htl, show n + (l.toArray.size - n) = l.toArray.size by omega, hx0] at T
  exact T
end
end Go.Proofs.YtbcinejhipmomaaDoor
