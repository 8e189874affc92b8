/- A law for a walk, of every program: a region that draws its order, in which one operation z (the making of a variable) may come at any time, all others but the last only read, and the last waits for all: one walk serves every order. -/
import Derived.OwnWalk
import Derived.Test.YtbkjjknlphlhlaaDoorZ07
namespace Go.Proofs.YtbkjjknlphlhlaaDoor
open Go

section
variable {P : Program} {ops : Array Oper} {md : Region.Mode} {val : Bool → Nat → World} {z m : Nat} {oz : Oper} {p : Value}

/-- one value, ahead of z and behind it; the world moves on by draws alone -/
def quietF (P : Program) (val : Bool → Nat → World) (o : Oper) (a : Act) (next : Act → Prop) : Prop :=
  ∃ v, (∀ b n, o.quietAt P a (fun w => ∃ k, w = val b k) (val b n) v) ∧ next (a.put o.dst v)
def walkF (P : Program) (ops : Array Oper) (val : Bool → Nat → World) (Q : Act → Prop) : List Oper → Act → Prop
  | [], a => Q a
  | o :: rest, a => Region.wanted o (yielded ops a.tmps) = true ∧ quietF P val o a (walkF P ops val Q rest)
theorem walkF_nil {Q : Act → Prop} {a : Act} (h : Q a) : walkF P ops val Q [] a := h
theorem walkF_step {Q : Act → Prop} {a : Act} {o : Oper} {rest : List Oper}
    (h : ∀ K : Act → Prop, (∀ a, walkF P ops val Q rest a → K a) → Region.wanted o (yielded ops a.tmps) = true ∧ quietF P val o a K) : walkF P ops val Q (o :: rest) a := h _ (fun _ h => h)

def YieldsF (P : Program) (ops : Array Oper) (val : Bool → Nat → World) (o : Oper) (v : Value) (a : Act) : Prop := ∀ b, YieldsIn P ops (fun w => ∃ k, w = val b k) o v a

/-- whatever order is picked, f operations are left ahead of the last -/
def headZ (P : Program) (md : Region.Mode) (ops : Array Oper) (val : Bool → Nat → World) (z : Nat) (dz : Option Nat) (p : Value) (L : Array Bool → Act → Prop) : Nat → Array Bool → Bool → Act → Prop
  | 0, listed, b, a => b = true ∧ L listed a
  | f + 1, listed, b, a => Region.ready md ops listed ≠ [] ∧ ∀ i ∈ Region.ready md ops listed,
      (i = z ∧ b = false ∧ headZ P md ops val z dz p L f (listed.setIfInBounds i true) true (a.put dz p)) ∨
      (i ≠ z ∧ qOp P ops (fun w => ∃ k, w = val b k) i (headZ P md ops val z dz p L f (listed.setIfInBounds i true) b) a)

theorem any_of_headZ {g : Nat} {L : Array Bool → Act → Prop} {Q' : Exit → Act → World → Prop} (hz : ops[z]? = some oz) (hzw : oz.guard = none)
    (hzr : ∀ (a : Act) n, (execOp a.eval oz).run P (val false n) = .ok (.value p) (val true n))
    (hL : ∀ listed a n, L listed a → wpAny P md ops Q' g listed a (val true n)) :
    ∀ (f : Nat) (listed : Array Bool) (b : Bool) (a : Act) (n : Nat), headZ P md ops val z oz.dst p L f listed b a → wpAny P md ops Q' (f + g) listed a (val b n) := by
  intro f
  induction f with
  | zero => intro listed b a n h; obtain ⟨rfl, h⟩ := h; rw [Nat.zero_add]; exact hL _ _ _ h
  | succ f ih =>
    intro listed b a n h
    rw [show f + 1 + g = (f + g) + 1 by omega]
    refine ⟨fun h0 => absurd h0 h.1, fun i hi => ?_⟩
    rcases h.2 i hi with ⟨rfl, rfl, h2⟩ | ⟨_, h2⟩
    · unfold wpOp
      simp only [hz]
      have hw : Region.wanted oz (yielded ops a.tmps) = true := by simp [Region.wanted, hzw]
      simp only [hw, if_true, Oper.wp, hzr, Oper.upon]
      exact .inl (ih _ _ _ n h2)
    · exact wpOp_of_qOp (C := fun w => ∃ k, w = val b k) ⟨n, rfl⟩ (fun a' w' ⟨k, hk⟩ h' => hk ▸ ih _ _ a' k h') h2

theorem headZ_first {i : Nat} {oi : Oper} {v : Value} {L : Array Bool → Act → Prop} (hi : ops[i]? = some oi) (hz : ops[z]? = some oz) (hiz : i ≠ z) (hsel : ∀ (j : Nat) (o : Oper) cs b, ops[j]? = some o → o.op ≠ .select cs b)
    (hdone : ∀ listed a, L listed a → ∀ j ∈ Region.ready md ops listed, j = m) (hwait : Region.waitsFor md ops m i = true) :
    ∀ (f : Nat) (listed : Array Bool) (b : Bool) (a : Act),
      (∀ j oj, ops[j]? = some oj → j ≠ i → listed.getD j true = false → (∀ e ∈ oj.after, Region.binds md e = true → e.on ≠ i) → oi.apart ops oj = true) →
      i ∈ Region.ready md ops listed → YieldsF P ops val oi v a →
      headZ P md ops val z oz.dst p L f (listed.setIfInBounds i true) b (a.put oi.dst v) → headZ P md ops val z oz.dst p L (f + 1) listed b a := by
  have hnm : ∀ (listed : Array Bool), i ∈ Region.ready md ops listed → m ∉ Region.ready md ops listed := by
    intro listed hr hm
    obtain ⟨oj, hoj, e, he, hb, hon⟩ := Region.waitsFor_spec hwait
    obtain ⟨_, oj', hoj', hall⟩ := mem_ready.1 hm
    obtain rfl := Option.some.inj (hoj.symm.trans hoj')
    have h1 := hall e he hb
    rw [hon, getD_both (mem_ready.1 hr).1] at h1
    cases h1
  intro f
  induction f with
  | zero =>
    intro listed b a _ hr hy H
    refine ⟨fun h => (by rw [h] at hr; cases hr), fun j hj => ?_⟩
    by_cases hji : j = i
    · subst hji; exact .inr ⟨hiz, (hy b).qOp hi H⟩
    · have := hdone _ _ H.2 j (ready_mono hj hji)
      subst this
      exact absurd hj (hnm listed hr)
  | succ f ih =>
    intro listed b a hfree hr hy H
    refine ⟨fun h => (by rw [h] at hr; cases hr), fun j hj => ?_⟩
    by_cases hji : j = i
    · subst hji; exact .inr ⟨hiz, (hy b).qOp hi H⟩
    · obtain ⟨hjun, oj, hoj, hall⟩ := mem_ready.1 hj
      have hnot : ∀ e ∈ oj.after, Region.binds md e = true → e.on ≠ i := fun e he hb heq => by
        have h1 := hall e he hb
        rw [heq, getD_both (mem_ready.1 hr).1] at h1
        cases h1
      have hap := hfree j oj hoj hji hjun hnot
      have hfree' : ∀ k ok, ops[k]? = some ok → k ≠ i → (listed.setIfInBounds j true).getD k true = false → (∀ e ∈ ok.after, Region.binds md e = true → e.on ≠ i) → oi.apart ops ok = true := fun k ok hk hki hu hno => by
        refine hfree k ok hk hki ?_ hno
        by_cases hjk : j = k
        · subst hjk; exact hjun
        · rw [getD_set_ne true hjk] at hu; exact hu
      rcases H.2 j (ready_mono hj hji) with ⟨rfl, rfl, h2⟩ | ⟨hjz, h2⟩
      · refine .inl ⟨rfl, rfl, ih _ _ _ hfree' (ready_mono hr (Ne.symm hji)) ?_ ?_⟩
        · obtain rfl := Option.some.inj (hz.symm.trans hoj)
          obtain ⟨h1, h2', h3⟩ := Oper.apart_spec hap
          intro b'
          exact (hy b').of_same (execOp_put oi (fun cs b => hsel i oi cs b hi) a oz.dst p h3) (wanted_put oi a oz.dst p h3)
        · obtain rfl := Option.some.inj (hz.symm.trans hoj)
          obtain ⟨_, h2', _⟩ := Oper.apart_spec hap
          rw [Array.setIfInBounds_comm _ _ hji, ← Act.put_comm a v p h2']
          exact h2
      · refine .inr ⟨hjz, ?_⟩
        obtain ⟨h1, h2', h3⟩ := Oper.apart_spec hap
        have h4 := qOp_put hoj hap (fun cs b => hsel i oi cs b hi) (fun cs b => hsel j oj cs b hoj) (hy b) h2
        obtain ⟨u, hyu, hK⟩ := yieldsIn_of_qOp hoj h4
        refine hyu.qOp hoj (ih _ _ _ hfree' (ready_mono hr (Ne.symm hji)) (fun b' => (hy b').of_same (execOp_put oi (fun cs b => hsel i oi cs b hi) a oj.dst u h3) (wanted_put oi a oj.dst u h3)) ?_)
        rw [Array.setIfInBounds_comm _ _ hji]
        exact hK.2

/-- the closed test: the heads, in the order of the text (z stands behind them), may each come first; then z alone; then the last alone -/
def lexZ (md : Region.Mode) (ops : Array Oper) (z m : Nat) : Nat → Nat → Array Bool → Bool
  | 0, _, listed => decide (Region.ready md ops listed = [z]) && Region.seqB md ops 1 m (listed.setIfInBounds z true)
  | f + 1, k, listed => (Region.ready md ops listed).contains k && Region.free md ops listed k && Region.waitsFor md ops m k && lexZ md ops z m f (k + 1) (listed.setIfInBounds k true)

theorem headZ_lex {Lq : Act → Prop} (hsel : Region.noSelect ops = true) (hz : ops[z]? = some oz) :
    ∀ (l : List Oper) (k : Nat) (listed : Array Bool) (a : Act), (∀ j, j < l.length → l[j]? = ops[k + j]?) → k + l.length = z →
    lexZ md ops z m l.length k listed = true → walkF P ops val (fun a' => Lq (a'.put oz.dst p)) l a →
    headZ P md ops val z oz.dst p (fun listed' a' => Region.seqB md ops 1 m listed' = true ∧ Lq a') (l.length + 1) listed false a := by
  intro l
  induction l with
  | nil =>
    intro k listed a _ hk hB h
    simp only [List.length_nil, lexZ, Bool.and_eq_true, decide_eq_true_eq] at hB
    refine ⟨by rw [hB.1]; simp, fun i hi => ?_⟩
    rw [hB.1] at hi
    have hiz : i = z := by simpa using hi
    subst hiz
    exact .inl ⟨rfl, rfl, rfl, hB.2, h⟩
  | cons o l ih =>
    intro k listed a hl hk hB h
    have h0 : ops[k]? = some o := by simpa using (hl 0 (by simp)).symm
    simp only [List.length_cons, lexZ, Bool.and_eq_true] at hB
    obtain ⟨⟨⟨hr, hf⟩, hw⟩, hB'⟩ := hB
    have hr' : k ∈ Region.ready md ops listed := by simpa using hr
    obtain ⟨hwant, v, hv, hK⟩ := h
    have hkz : k ≠ z := by simp only [List.length_cons] at hk; omega
    refine headZ_first (m := m) h0 hz hkz (Region.noSelect_spec hsel) (fun listed' a' hL j hj => ?_) hw (l.length + 1) listed false a (Region.free_spec h0 hf) hr' (v := v) (fun b => .inl ⟨hwant, fun w ⟨n, hn⟩ => hn ▸ hv b n⟩) (ih (k + 1) _ _ (fun j hj => ?_) ?_ hB' hK)
    · have hs := hL.1
      simp only [Region.seqB, Bool.and_eq_true, decide_eq_true_eq] at hs
      rw [hs.1] at hj
      simpa using hj
    · have := hl (j + 1) (by simp; omega)
      simpa [Nat.add_assoc, Nat.add_comm 1 j] using this
    · simp only [List.length_cons] at hk; omega

/-- THE LAW. -/
theorem region_free_alloc {id : Nat} {Q : Exit → Act → World → Prop} {a : Act} {w : World} {l : List Oper} {o : Oper} (hm : P.follows .mixedOrders = true)
    (hsel : Region.noSelect (l ++ [oz, o]).toArray = true) (hB : lexZ .any (l ++ [oz, o]).toArray l.length (l.length + 1) l.length 0 (Array.replicate (l.length + 2) false) = true) (hzw : oz.guard = none)
    (h0 : val false 1 = { w with drawn := w.drawn + 1 })
    (hzr : ∀ (a : Act) n, (execOp a.eval oz).run P (val false n) = .ok (.value p) (val true n))
    (h : walkF P (l ++ [oz, o]).toArray val (fun a' => ∀ n, wpList P (l ++ [oz, o]).toArray Q [o] (a'.put oz.dst p) (val true n)) l a) : (Code.region id (l ++ [oz, o]).toArray true).wp P Q a w := by
  have hz : (l ++ [oz, o]).toArray[l.length]? = some oz := by simp
  have H := headZ_lex (md := .any) (z := l.length) (m := l.length + 1) (p := p) (val := val) (P := P) hsel hz (Lq := fun a' => ∀ n, wpList P (l ++ [oz, o]).toArray Q [o] a' (val true n)) l 0 (Array.replicate (l.length + 2) false) a
    (fun j hj => by simp [List.getElem?_append_left hj]) (by simp) hB h
  refine wp_region_any hm ?_
  have T := any_of_headZ (Q' := Q) (g := 1) hz hzw hzr (fun listed a' n hL => wpAny_of_seq (md := .any) (Q' := Q) [o] (l.length + 1) listed a' (val true n) (fun j => by
    cases j with
    | zero => simp
    | succ j => simp; omega) hL.1 (hL.2 n)) (l.length + 1) _ false a 1 H
  rw [h0] at T
  have hsz : (l ++ [oz, o]).toArray.size = l.length + 1 + 1 := by simp
  rw [hsz]
  exact T

/-- the same, the list of operations written out -/
theorem region_free_alloc_lit {id : Nat} {Q : Exit → Act → World → Prop} {a : Act} {w : World} {L : List Oper} {o : Oper} (n : Nat) (hL : L.take n ++ [oz, o] = L) (hm : P.follows .mixedOrders = true)
    (hsel : Region.noSelect L.toArray = true) (hB : lexZ .any L.toArray (L.take n).length ((L.take n).length + 1) (L.take n).length 0 (Array.replicate ((L.take n).length + 2) false) = true) (hzw : oz.guard = none)
    (h0 : val false 1 = { w with drawn := w.drawn + 1 })
    (hzr : ∀ (a : Act) n, (execOp a.eval oz).run P (val false n) = .ok (.value p) (val true n))
    (h : walkF P L.toArray val (fun a' => ∀ n, wpList P L.toArray Q [o] (a'.put oz.dst p) (val true n)) (L.take n) a) : (Code.region id L.toArray true).wp P Q a w := by
  have := region_free_alloc (id := id) (Q := Q) (a := a) (w := w) (l := L.take n) (oz := oz) (o := o) (p := p) (val := val) (P := P) hm
  rw [hL] at this
  exact this hsel hB hzw h0 hzr h
end
end Go.Proofs.YtbkjjknlphlhlaaDoor
namespace Go.Proofs.YtbkjjknlphlhlaaDoor
open Go.RowKit
set_option maxRecDepth 100000

theorem apart_any (a b : Int) (w : World) (h1 : -1000000 ≤ a) (h2 : a ≤ 1000000) (h3 : -1000000 ≤ b) (h4 : b ≤ 1000000) : Calls Tryd.prog 27 #[.int .i64 a, .int .i64 b] w fun e w' => e = .returned (.int .i64 (Cv.size (a - b))) ∧ w' = w := by
  go_enter Tryd.func27, Tryd.ntmps27
  go_wp2
  all_goals go_ret
  all_goals exact ⟨ret_int (by unfold Cv.size; omega), rfl⟩

def worthV (v s a : Int) : Value := .agg #[.int .i64 v, .int .i64 s, .int .i64 a]
theorem isBetter_any (v s a v' s' a' : Int) (w : World) : Calls Tryd.prog 28 #[worthV v s a, worthV v' s' a'] w fun e w' => e = .returned (.bool (Cv.worthB v s a v' s' a')) ∧ Below w.heap.size w w' := by
  show Calls Tryd.prog 28 #[.agg #[.int .i64 v, .int .i64 s, .int .i64 a], .agg #[.int .i64 v', .int .i64 s', .int .i64 a']] w _
  go_enter Tryd.func28, Tryd.ntmps28
  go_wp2
  all_goals go_ret
  all_goals
    refine ⟨ret_bool ?_, ((Below.refl _ _).alloc (Nat.le_refl _) _).alloc (by simp) _⟩
    simp_all [Cv.worthB]

theorem price_err (v : Value) (ref : Int) (R : World → Value → Prop) (w : World)
    (HC : Hid (Calls Tryd.prog 24 #[v] w fun e w' => (∃ U x, e = .returned (.iface U x) ∧ R w' (.iface U x)) ∧ Below w.heap.size w w')) :
    Calls Tryd.prog 13 #[v, .int .i64 ref] w fun e w' => (∃ U x, e = .returned (.tuple #[.int .i64 0, .int .i64 0, .iface U x]) ∧ R w' (.iface U x)) ∧ Below w.heap.size w w' := by
  go_enter Tryd.func13, Tryd.ntmps13
  go_wp2_with fail
  refine HC.out.mono ?_
  rintro e w1 ⟨⟨U, x, rfl, hr⟩, hb1⟩
  have HB1 := hide hb1; have HR := hide hr
  clear hb1 hr
  simp only []
  go_wp2
  go_ret3
  exact ⟨⟨U, x, rfl, HR.out⟩, HB1.out⟩

theorem price_ref (v : Value) (ref : Int) (T : TypeId) (v1 v6 v7 : Value) (w : World) (he : Hid (Er w T v1 v6 v7)) (hr : Wi.withinB ref 1 1000 = false)
    (HC : Hid (Calls Tryd.prog 24 #[v] w fun e w' => e = .returned .nilIface ∧ Below w.heap.size w w')) :
    Calls Tryd.prog 13 #[v, .int .i64 ref] w fun e w' => e = .returned (.tuple #[.int .i64 0, .int .i64 0, .iface T v1]) ∧ Below w.heap.size w w' := by
  go_enter Tryd.func13, Tryd.ntmps13
  go_wp2_with fail
  refine HC.out.mono ?_
  rintro e w1 ⟨rfl, hb1⟩
  have HB1 := hide hb1
  have e1 := (he.out.later hb1).c1
  clear hb1
  simp only []
  go_wp2_with fail
  refine (within_any _ _ _ _).mono ?_
  rintro e w1 ⟨rfl, rfl⟩
  rw [hr]
  simp only []
  go_wp2_with fail
  go_quiet (fail)
  have HB2 : Hid (Below w.heap.size w (w1.drewN nq)) := HB1.out.trans ((blw_drew nq).mono HB1.out.size)
  generalize w1.drewN nq = w2 at *
  go_wp2_with fail
  go_ret3
  exact ⟨rfl, HB2.out⟩

/-- three numbers of the call's own, at a block -/
def Wor (w : World) (B : Nat) (v s a : Int) : Prop := w.heap[B]? = some (.cells #[.int .i64 v, .int .i64 s, .int .i64 a] 65 (0, 0))
theorem Wor.later {w w' : World} {B n : Nat} {v s a : Int} (h : Wor w B v s a) (hb : Below n w w') (hn : B < n) : Wor w' B v s a := (hb.block B hn).trans h
theorem Wor.lt {w : World} {B : Nat} {v s a : Int} (h : Wor w B v s a) : B < w.heap.size := (Array.getElem?_eq_some_iff.1 h).1
theorem Wor.cells {w : World} {B : Nat} {v s a : Int} (h : Wor w B v s a) : w.cell? ⟨B, 0, none⟩ = some (.int .i64 v) ∧ w.cell? ⟨B, 1, none⟩ = some (.int .i64 s) ∧ w.cell? ⟨B, 2, none⟩ = some (.int .i64 a) := by
  refine ⟨?_, ?_, ?_⟩ <;> (rw [cell_of_row w B _ _ _ _ h]; rfl)
theorem Wor.frozen {w : World} {B : Nat} {v s a : Int} (h : Wor w B v s a) (i : Nat) : w.frozen? ⟨B, i, none⟩ = false := by
  simp [World.frozen?, show w.heap[B]? = _ from h]

theorem Wor.set {w : World} {B : Nat} {v s a : Int} (h : Wor w B v s a) (v' s' a' : Int) : Wor (((w.setCell ⟨B, 0, none⟩ (.int .i64 v')).setCell ⟨B, 1, none⟩ (.int .i64 s')).setCell ⟨B, 2, none⟩ (.int .i64 a')) B v' s' a' := by
  unfold Wor at h ⊢
  have h1 : (w.setCell ⟨B, 0, none⟩ (.int .i64 v')).heap[B]? = some (.cells #[.int .i64 v', .int .i64 s, .int .i64 a] 65 (0, 0)) := by
    rw [setCell_eq_setRow w B 0 _ _ _ _ h]; exact setRow_heap w B _ _ _ _ h
  have h2 : ((w.setCell ⟨B, 0, none⟩ (.int .i64 v')).setCell ⟨B, 1, none⟩ (.int .i64 s')).heap[B]? = some (.cells #[.int .i64 v', .int .i64 s', .int .i64 a] 65 (0, 0)) := by
    rw [setCell_eq_setRow _ B 1 _ _ _ _ h1]; exact setRow_heap _ B _ _ _ _ h1
  rw [setCell_eq_setRow _ B 2 _ _ _ _ h2]; exact setRow_heap _ B _ _ _ _ h2

set_option maxHeartbeats 2000000 in
/-- the one price of lots that are well -/
theorem price_well (v : Value) (l : List Cv.Lot) (ref : Int) (w : World) (hv : Hid (Lots w v l)) (hok : Hid (Cv.Well l)) (hr : Wi.withinB ref 1 1000 = true)
    (HC : Hid (Calls Tryd.prog 24 #[v] w fun e w' => e = .returned .nilIface ∧ Below w.heap.size w w')) :
    Calls Tryd.prog 13 #[v, .int .i64 ref] w fun e w' => (∃ p vol, e = .returned (.tuple #[.int .i64 p, .int .i64 vol, .nilIface]) ∧ Cv.Won l ref 1000 p vol) ∧ Below w.heap.size w w' := by
  have z60 := zero60
  have HD : Hid (∀ W, Below w.heap.size w W → Calls Tryd.prog 25 #[v] W fun e w' => e = .returned (totV (dem l 0)) ∧ Below W.heap.size W w') := fun W hb => demands_any v l W (hv.out.later hb) hok
  have HSu : Hid (∀ W, Below w.heap.size w W → Calls Tryd.prog 26 #[v] W fun e w' => e = .returned (totV (sup l 1001)) ∧ Below W.heap.size W w') := fun W hb => supplies_any v l W (hv.out.later hb) hok
  have hrr : 1 ≤ ref ∧ ref ≤ 1000 := by simpa [Wi.withinB] using hr
  obtain ⟨rf1, rf2⟩ := hrr
  go_enter Tryd.func13, Tryd.ntmps13
  go_wp2_with fail
  refine HC.out.mono ?_
  rintro e w1 ⟨rfl, hb1⟩
  have HB1 := hide hb1
  clear hb1 HC
  simp only []
  go_wp2_with fail
  refine (within_any _ _ _ _).mono ?_
  rintro e w1 ⟨rfl, rfl⟩
  rw [hr]
  simp only []
  clear hr
  go_wp2_with fail
  refine (HD.out w1 HB1.out).mono ?_
  rintro e w2 ⟨rfl, hb2⟩
  have HB2 := hide (HB1.out.trans (hb2.mono HB1.out.size))
  clear hb2 HD HB1
  simp only []
  go_wp2_with fail
  refine (HSu.out w2 HB2.out).mono ?_
  rintro e w3 ⟨rfl, hb3⟩
  have HB3 := hide (HB2.out.trans (hb3.mono HB2.out.size))
  clear hb3 HSu HB2
  simp only [totV]
  have HA : Hid (Tot ((w3.alloc (.cells (row fun _ => 0) 62)).alloc (.cells (row fun _ => 0) 62)) w3.heap.size (fun _ => 0)) := (Tot.new w3 _).alloc _
  have HA2 : Hid (Tot (((w3.alloc (.cells (row fun _ => 0) 62)).alloc (.cells (row fun _ => 0) 62)).setRow w3.heap.size (row (dem l 0))) (w3.heap.size + 1) (fun _ => 0)) := by
    have := Tot.new (w3.alloc (.cells (row fun _ => 0) 62)) (fun _ => 0)
    rw [show (w3.alloc (.cells (row fun _ => 0) 62)).heap.size = w3.heap.size + 1 by simp] at this
    exact this.beside _ (by omega)
  go_wp2_with (first | (refine wpList_store60 (dem l 0) HA.out rfl _ _ rfl rfl rfl ?_) | (refine wpList_store60 (sup l 1001) HA2.out rfl _ _ rfl rfl rfl ?_))
  have TD : Hid (Tot ((((w3.alloc (.cells (row fun _ => 0) 62)).alloc (.cells (row fun _ => 0) 62)).setRow w3.heap.size (row (dem l 0))).setRow (w3.heap.size + 1) (row (sup l 1001))) w3.heap.size (dem l 0)) := (HA.out.stored _).beside _ (by omega)
  have TS : Hid (Tot ((((w3.alloc (.cells (row fun _ => 0) 62)).alloc (.cells (row fun _ => 0) 62)).setRow w3.heap.size (row (dem l 0))).setRow (w3.heap.size + 1) (row (sup l 1001))) (w3.heap.size + 1) (sup l 1001)) := HA2.out.stored _
  have HB4 : Hid (Below w.heap.size w ((((w3.alloc (.cells (row fun _ => 0) 62)).alloc (.cells (row fun _ => 0) 62)).setRow w3.heap.size (row (dem l 0))).setRow (w3.heap.size + 1) (row (sup l 1001)))) :=
    below_setRow (below_setRow ((HB3.out.alloc HB3.out.size _).alloc (by have := HB3.out.size; simp; omega) _) HB3.out.size _) (by have := HB3.out.size; omega) _
  have hz4 : Hid (((((w3.alloc (.cells (row fun _ => 0) 62)).alloc (.cells (row fun _ => 0) 62)).setRow w3.heap.size (row (dem l 0))).setRow (w3.heap.size + 1) (row (sup l 1001))).heap.size = w3.heap.size + 1 + 1) := by show _ = _; simp
  clear HA HA2
  generalize (((w3.alloc (.cells (row fun _ => 0) 62)).alloc (.cells (row fun _ => 0) 62)).setRow w3.heap.size (row (dem l 0))).setRow (w3.heap.size + 1) (row (sup l 1001)) = w4 at *
  have TD5 := hide (TD.out.alloc (.cells #[.int .i64 0, .int .i64 0, .int .i64 0] 65))
  have TS5 := hide (TS.out.alloc (.cells #[.int .i64 0, .int .i64 0, .int .i64 0] 65))
  have HB5 := hide (HB4.out.alloc HB4.out.size (.cells #[.int .i64 0, .int .i64 0, .int .i64 0] 65))
  have WB5 : Hid (Wor (w4.alloc (.cells #[.int .i64 0, .int .i64 0, .int .i64 0] 65)) (w3.heap.size + 1 + 1) 0 0 0) := by
    have := heap_alloc_last w4 (.cells #[.int .i64 0, .int .i64 0, .int .i64 0] 65)
    rw [hz4.out] at this
    exact this
  have hz5 : Hid ((w4.alloc (.cells #[.int .i64 0, .int .i64 0, .int .i64 0] 65)).heap.size = w3.heap.size + 3) := by show _ = _; simp [hz4.out]
  have HZ : Hid (w.heap.size ≤ w3.heap.size) := HB3.out.size
  clear TD TS HB4 hz4 HB3
  generalize w4.alloc (.cells #[.int .i64 0, .int .i64 0, .int .i64 0] 65) = w5 at *
  generalize w3.heap.size = N at *
  go_loopw [4, 11] (fun pr i wr => ∃ (q : Nat) (p vol : Int), (1 ≤ q ∧ q ≤ 1001) ∧ i = .int .i64 q ∧ pr = .int .i64 p ∧ Cv.Won l ref ((q : Int) - 1) p vol ∧ Tot wr N (dem l 0) ∧ Tot wr (N + 1) (sup l 1001) ∧ Wor wr (N + 1 + 1) vol (Cv.wl l p) (Cv.wa ref p) ∧ Below w.heap.size w wr) (fun _ i _ => 1001 - (intOf i).toNat)
  case atStart => exact ⟨1, 0, 0, by omega, rfl, rfl, Cv.Won.start l ref, TD5.out, TS5.out, WB5.out, HB5.out⟩
  case round =>
    obtain ⟨q, p, vol, hq, rfl, rfl, hwon, hd, hs, hw, hb⟩ := hrel
    obtain ⟨hq1, hq2⟩ := hq
    have HW := hide hwon; have HTD := hide hd; have HTS := hide hs; have HWo := hide hw; have HB := hide hb
    clear hwon hd hs hw hb TD5 TS5 WB5 HB5
    by_cases hlt : q ≤ 1000
    · have hki : (q : Int) ≤ 1000 := by omega
      have hqi : (q : Int) < 1001 := by omega
      have d1 := HTD.out.cell (i := q) (by omega)
      have d2 := HTS.out.cell (i := q) (by omega)
      rw [show dem l 0 q = Cv.demand l q by unfold dem; rw [if_pos (by omega)]] at d1
      rw [show sup l 1001 q = Cv.supply l q by unfold sup; rw [if_pos (by omega)]] at d2
      have b1 : 0 ≤ Cv.demand l q ∧ Cv.demand l q ≤ 120000 := by
        have := Cv.sumIf_bounds (Cv.dB q) l hok.out.oks; have h2 := hok.out.1; unfold Cv.demand; omega
      have b2 : 0 ≤ Cv.supply l q ∧ Cv.supply l q ≤ 120000 := by
        have := Cv.sumIf_bounds (Cv.sB q) l hok.out.oks; have h2 := hok.out.1; unfold Cv.supply; omega
      have HV : Hid (Cv.volume l q = min (Cv.demand l q) (Cv.supply l q)) := rfl
      have HL : Hid (Cv.left l q = Cv.size (Cv.demand l q - Cv.supply l q)) := rfl
      have HAw : Hid (Cv.away ref q = Cv.size ((q : Int) - ref)) := rfl
      generalize Cv.demand l q = dm at *
      generalize Cv.supply l q = sp at *
      obtain ⟨b11, b12⟩ := b1
      obtain ⟨b21, b22⟩ := b2
      go_wp2_with fail
      obtain ⟨val, hvF, hvT⟩ : ∃ val : Bool → Nat → World, (∀ n, val false n = wr.drewN n) ∧ (∀ n, val true n = (wr.drewN n).alloc (.cells #[.int .i64 0, .int .i64 0, .int .i64 0] 65)) := ⟨fun b n => bif b then (wr.drewN n).alloc (.cells #[.int .i64 0, .int .i64 0, .int .i64 0] 65) else wr.drewN n, fun _ => rfl, fun _ => rfl⟩
      have f1 : ∀ n, (val false n).cell? ⟨N, q, none⟩ = some (.int .i64 dm) := fun n => by rw [hvF]; exact d1
      have f2 : ∀ n, (val false n).cell? ⟨N + 1, q, none⟩ = some (.int .i64 sp) := fun n => by rw [hvF]; exact d2
      have t1 : ∀ n, (val true n).cell? ⟨N, q, none⟩ = some (.int .i64 dm) := fun n => by
        rw [hvT, ((Below.refl (wr.drewN n).heap.size _).alloc (Nat.le_refl _) _).cell (p := ⟨N, q, none⟩) (World.block_lt_of_cell? _ _ (show (wr.drewN n).cell? ⟨N, q, none⟩ = _ from d1))]; exact d1
      have t2 : ∀ n, (val true n).cell? ⟨N + 1, q, none⟩ = some (.int .i64 sp) := fun n => by
        rw [hvT, ((Below.refl (wr.drewN n).heap.size _).alloc (Nat.le_refl _) _).cell (p := ⟨N + 1, q, none⟩) (World.block_lt_of_cell? _ _ (show (wr.drewN n).cell? ⟨N + 1, q, none⟩ = _ from d2))]; exact d2
      have HvF := hide hvF; have HvT := hide hvT
      have hal : ∀ (a : Act) n, (execOp a.eval { dst := some 12, op := Op.alloc 65, type := 0, pos := "clear.go:22", after := #[], guard := none }).run Tryd.prog (val false n) = .ok (.value (.pointer (some ⟨wr.heap.size, 0, none⟩))) (val true n) := by
        intro a n
        rw [hvF, hvT]
        kernel_rfl
      clear hvF hvT
      refine region_free_alloc_lit (val := val) (p := .pointer (some ⟨wr.heap.size, 0, none⟩)) 18 rfl (by kernel_rfl) (by kernel_rfl) (by kernel_rfl) rfl (by rw [HvF.out]; rfl) hal ?_
      clear hal d1 d2
      have wr1 : IntKind.i64.wrap (dm - sp) = dm - sp := IntWalk.i64_in _ (by omega)
      have wr2 : IntKind.i64.wrap ((q : Int) - ref) = (q : Int) - ref := IntWalk.i64_in _ (by omega)
      simp only [List.take_succ_cons, List.take_zero]
      repeat (refine walkF_step (fun K hK => ?_); refine ⟨by rfl, ?_⟩; unfold quietF; go_simp; first | (refine hK _ ?_; clear hK K) | (refine ⟨_, ⟨fun n => (apart_any _ _ _ (by omega) (by omega) (by omega) (by omega)).mono (fun e w' ⟨he, hw⟩ => ⟨he, n, hw⟩), fun n => (apart_any _ _ _ (by omega) (by omega) (by omega) (by omega)).mono (fun e w' ⟨he, hw⟩ => ⟨he, n, hw⟩)⟩, hK _ ?_⟩; clear hK K))
      rw [show (if sp < dm then sp else dm) = Cv.volume l q by rw [HV.out]; split <;> omega, ← HL.out, ← HAw.out]
      refine walkF_nil ?_
      intro n
      rw [HvT.out]
      have HTD2 := hide (HTD.out.drew n)
      have HTS2 := hide (HTS.out.drew n)
      have HWo2 : Hid (Wor (wr.drewN n) (N + 1 + 1) vol (Cv.wl l p) (Cv.wa ref p)) := HWo.out
      have HB2 : Hid (Below w.heap.size w (wr.drewN n)) := HB.out.trans ((blw_drew n).mono HB.out.size)
      rw [show wr.heap.size = (wr.drewN n).heap.size from rfl]
      clear HvF HvT f1 f2 t1 t2 HTD HTS HWo HB wr1 wr2 HV HL HAw
      generalize wr.drewN n = W at *
      have HNz : Hid (N + 1 + 1 < W.heap.size) := HWo2.out.lt
      have HBa : Hid (Below W.heap.size W (W.alloc (.cells #[.int .i64 (Cv.volume l q), .int .i64 (Cv.left l q), .int .i64 (Cv.away ref q)] 65))) := (Below.refl _ _).alloc (Nat.le_refl _) _
      obtain ⟨o0, o1, o2⟩ := (HWo2.out.later HBa.out HNz.out).cells
      have HIB := hide (isBetter_any (Cv.volume l q) (Cv.left l q) (Cv.away ref q) vol (Cv.wl l p) (Cv.wa ref p) (W.alloc (.cells #[.int .i64 (Cv.volume l q), .int .i64 (Cv.left l q), .int .i64 (Cv.away ref q)] 65)))
      go_wp2_with fail
      refine HIB.out.mono ?_
      rintro e w6 ⟨rfl, hb6⟩
      have HT6 : Hid (Wor w6 W.heap.size (Cv.volume l q) (Cv.left l q) (Cv.away ref q)) := (heap_alloc_last W _ |> fun h => (show Wor _ _ _ _ _ from h)).later hb6 (by simp)
      have HB6 : Hid (Below W.heap.size W w6) := HBa.out.trans (hb6.mono HBa.out.size)
      have HTD6 : Hid (Tot w6 N (dem l 0)) := HTD2.out.later HB6.out HTD2.out.lt
      have HTS6 : Hid (Tot w6 (N + 1) (sup l 1001)) := HTS2.out.later HB6.out HTS2.out.lt
      have HWo6 : Hid (Wor w6 (N + 1 + 1) vol (Cv.wl l p) (Cv.wa ref p)) := HWo2.out.later HB6.out HNz.out
      have HBB : Hid (Below w.heap.size w w6) := HB2.out.trans (HB6.out.mono HB2.out.size)
      clear hb6 HBa o0 o1 o2 HIB HTD2 HTS2 HWo2 HB2 HB6
      have HN2 : Hid (N + 1 + 1 ≠ W.heap.size) := by show _ ≠ _; have := HNz.out; omega
      clear HNz
      cases hwb : Cv.worthB (Cv.volume l q) (Cv.left l q) (Cv.away ref q) vol (Cv.wl l p) (Cv.wa ref p) with
      | false =>
        have Hwb := hide hwb
        clear hwb
        simp only []
        go_wp2_with fail
        have hk := HW.out.keep hok.out.oks (by rw [show (q : Int) - 1 + 1 = q by omega]; exact Hwb.out)
        rw [show (q : Int) - 1 + 1 = ((q + 1 : Nat) : Int) - 1 by omega] at hk
        exact ⟨⟨q + 1, p, vol, by omega, by go_num, rfl, hk, HTD6.out, HTS6.out, HWo6.out, HBB.out⟩, by simp [intOf]; omega⟩
      | true =>
        have Hwb := hide hwb
        clear hwb
        simp only []
        obtain ⟨g0, g1, g2⟩ := HT6.out.cells
        have h0 := HWo6.out.frozen 0
        have h1 := HWo6.out.frozen 1
        have h2 := HWo6.out.frozen 2
        obtain ⟨o0, o1, o2⟩ := HWo6.out.cells
        go_wp2_with fail
        refine region_quiet_tail 3 (by kernel_rfl) (by kernel_rfl) ?_
        simp only [List.take_succ_cons, List.take_zero, List.drop_succ_cons, List.drop_zero]
        repeat (first | go_big_quiet_step (fail) | quiet_step (fail))
        refine wpQuiet_nil ?_
        intro _ hw'
        obtain ⟨nq, hw''⟩ := hw'
        subst hw''
        have HBd : Hid (Below w.heap.size w (w6.drewN nq)) := HBB.out.trans ((blw_drew nq).mono HBB.out.size)
        have HTDd := hide (HTD6.out.drew nq)
        have HTSd := hide (HTS6.out.drew nq)
        have HWd : Hid (Wor (w6.drewN nq) (N + 1 + 1) vol (Cv.wl l p) (Cv.wa ref p)) := HWo6.out
        clear g0 g1 g2 h0 h1 h2 o0 o1 o2 HT6 HTD6 HTS6 HWo6 HBB
        generalize w6.drewN nq = w7 at *
        have h0 := HWd.out.frozen 0
        have h1 := HWd.out.frozen 1
        have h2 := HWd.out.frozen 2
        obtain ⟨o0, o1, o2⟩ := HWd.out.cells
        go_wp2_with fail
        have hk := HW.out.take hok.out.oks (by omega) (by rw [show (q : Int) - 1 + 1 = q by omega]; exact Hwb.out)
        rw [show (q : Int) - 1 + 1 = q by omega, show (q : Int) = ((q + 1 : Nat) : Int) - 1 by omega] at hk
        have hq0 : ((q + 1 : Nat) : Int) - 1 = q := by omega
        rw [hq0] at hk
        have hw7 := HWd.out.set (Cv.volume l q) (Cv.left l q) (Cv.away ref q)
        refine ⟨⟨q + 1, q, Cv.volume l q, by omega, by go_num, rfl, by rw [hq0]; exact hk, ?_, ?_, ?_, ?_⟩, by simp [intOf]; omega⟩
        · exact ((HTDd.out.other (by simp; omega) _).other (by simp; omega) _).other (by simp; omega) _
        · exact ((HTSd.out.other (by simp) _).other (by simp) _).other (by simp) _
        · rw [show Cv.wl l q = Cv.left l q by unfold Cv.wl; rw [if_neg (by omega)], show Cv.wa ref q = Cv.away ref q by unfold Cv.wa; rw [if_neg (by omega)]]
          exact hw7
        · have := HZ.out
          exact ((HBd.out.setCell (by simp; omega) _).setCell (by simp; omega) _).setCell (by simp; omega) _
    · have hki : ¬ (q : Int) ≤ 1000 := by omega
      obtain rfl : q = 1001 := by omega
      obtain ⟨o0, o1, o2⟩ := HWo.out.cells
      go_wp2_with fail
      go_quiet (fail)
      have HBd : Hid (Below w.heap.size w (wr.drewN nq)) := HB.out.trans ((blw_drew nq).mono HB.out.size)
      generalize wr.drewN nq = w7 at *
      go_wp2_with fail
      go_ret3
      exact ⟨⟨p, vol, rfl, HW.out⟩, HBd.out⟩
end Go.Proofs.YtbkjjknlphlhlaaDoor
namespace Go.Proofs.YtbkjjknlphlhlaaDoor
open Go.RowKit
set_option maxRecDepth 100000

theorem two_boxes (w : World) (x y : Value) : Below w.heap.size w ((w.alloc (.cells #[x] 3)).alloc (.cells #[y] 3)) := ((Below.refl _ _).alloc (Nat.le_refl _) _).alloc (by simp) _
/-- who is short, by demand and supply -/
def shortOf (d s : Int) : Int := if d < s then 0 else if s < d then 1 else -1
/-- the price of lots that are well -/
theorem price_any (v : Value) (l : List Cv.Lot) (ref : Int) (T : TypeId) (v1 v6 v7 : Value) (w : World) (hv : Lots w v l) (he : Hid (Er w T v1 v6 v7)) (hok : Cv.Well l) (hr : Wi.withinB ref 1 1000 = true) :
    Calls Tryd.prog 13 #[v, .int .i64 ref] w fun e w' => (∃ p vol, e = .returned (.tuple #[.int .i64 p, .int .i64 vol, .nilIface]) ∧ Cv.Won l ref 1000 p vol) ∧ Below w.heap.size w w' :=
  price_well v l ref w hv hok hr (check_well v l T v1 v6 v7 w hv he hok)
/-- else 0, 0 and an error -/
theorem price_bad (v : Value) (l : List Cv.Lot) (ref : Int) (T : TypeId) (v1 v6 v7 : Value) (w : World) (hv : Lots w v l) (he : Hid (Er w T v1 v6 v7)) (hbad : ¬ (Cv.Well l ∧ Wi.withinB ref 1 1000 = true)) :
    Calls Tryd.prog 13 #[v, .int .i64 ref] w fun e w' => (∃ U x, e = .returned (.tuple #[.int .i64 0, .int .i64 0, .iface U x])) ∧ Below w.heap.size w w' := by
  by_cases hok : Cv.Well l
  · have hr : Wi.withinB ref 1 1000 = false := by
      cases h : Wi.withinB ref 1 1000 with
      | true => exact absurd ⟨hok, h⟩ hbad
      | false => rfl
    refine (price_ref v ref T v1 v6 v7 w he hr (check_well v l T v1 v6 v7 w hv he hok)).mono ?_
    rintro e w' ⟨rfl, hb⟩
    exact ⟨⟨_, _, rfl⟩, hb⟩
  · have h := check_ill v l T v1 v6 v7 w hv he hok
    refine (price_err v ref (fun _ _ => True) w (h.mono ?_)).mono ?_
    · rintro e w' ⟨⟨U, x, rfl⟩, hb⟩
      exact ⟨⟨U, x, rfl, trivial⟩, hb⟩
    · rintro e w' ⟨⟨U, x, rfl, _⟩, hb⟩
      exact ⟨⟨U, x, rfl⟩, hb⟩

def twoLots : List Cv.Lot := [⟨1, 0, 0, 10, 5⟩, ⟨2, 0, 1, 8, 4⟩]
end Go.Proofs.YtbkjjknlphlhlaaDoor
namespace Go.Proofs.YtbkjjknlphlhlaaDoor
open Go.RowKit
set_option maxRecDepth 100000

/-- What one list of lots comes to: its price, or the error of the reference, or the lots' own. -/
def Ans (w : World) (ad : Nat → Addr) (l : List Cv.Lot) (ref p : Int) (x : Value) : Prop :=
  (Cv.Well l ∧ Wi.withinB ref 1 1000 = true ∧ x = .nilIface ∧ ∃ vol, Cv.Won l ref 1000 p vol) ∨ (Cv.Well l ∧ Wi.withinB ref 1 1000 = false ∧ x = .iface 145 (.pointer (some (ad 1))) ∧ p = 0) ∨
  (¬ Cv.Well l ∧ p = 0 ∧ ∃ c at_, ErrIs w ad l x c at_)
theorem err_is {w : World} {ad : Nat → Addr} {l : List Cv.Lot} {x : Value} {c at_ : Int} (h : ErrIs w ad l x c at_) (hn : ¬ Cv.Well l) : ∃ ti vi, x = .iface ti vi := by
  rcases h with ⟨_, h, _⟩ | ⟨h, _⟩ | ⟨_, i, B, j, _, _, _, _, _, _, _, h, _⟩
  · exact ⟨_, _, h⟩
  · exact absurd h hn
  · exact ⟨_, _, h⟩
theorem ill_tells (v : Value) (l : List Cv.Lot) (ad : Nat → Addr) (w : World) (hv : Lots w v l) (he : Er w 145 (.pointer (some (ad 1))) (.pointer (some (ad 6))) (.pointer (some (ad 7)))) (hn : ¬ Cv.Well l) :
    Calls Tryd.prog 24 #[v] w fun e w' => (∃ U x, e = .returned (.iface U x) ∧ ∃ c at_, ErrIs w' ad l (.iface U x) c at_) ∧ Below w.heap.size w w' := by
  rcases hv with ⟨rfl, a, cap, rfl⟩ | ⟨b, off, cap, rfl, hcap, hl⟩
  · exact absurd Cv.well_nil hn
  · by_cases h : 120 < l.length
    · refine (check_full _ cap _ 145 _ _ _ w he h).mono ?_
      rintro e w' ⟨rfl, rfl⟩
      exact ⟨⟨_, _, rfl, 8, -1, .inl ⟨h, rfl, rfl, rfl⟩⟩, Below.refl _ _⟩
    · refine (check_some b off cap _ l 145 _ _ _ w rfl (by omega) hcap hl he).mono ?_
      rintro e w' ⟨h1 | ⟨i, B, hi, hw, hno, rfl, c0, c1⟩, hb⟩
      · exact absurd ⟨by omega, h1.1⟩ hn
      · cases hok : Cv.ok (Cv.nth l i) with
        | true => exact ⟨⟨_, _, rfl, 7, i, .inr (.inr ⟨by omega, i, B, 6, hi, hw, hno, by decide, rfl, by unfold badE; rw [hok]; rfl, rfl, rfl, c0, by rw [c1, hok]; rfl⟩)⟩, hb⟩
        | false => exact ⟨⟨_, _, rfl, 2, i, .inr (.inr ⟨by omega, i, B, 1, hi, hw, hno, by decide, rfl, by unfold badE; rw [hok]; rfl, rfl, rfl, c0, by rw [c1, hok]; rfl⟩)⟩, hb⟩
theorem price_tells (v : Value) (l : List Cv.Lot) (ref : Int) (ad : Nat → Addr) (w : World) (hv : Lots w v l) (he : Er w 145 (.pointer (some (ad 1))) (.pointer (some (ad 6))) (.pointer (some (ad 7)))) :
    Calls Tryd.prog 13 #[v, .int .i64 ref] w fun e w' => (∃ p vol x, e = .returned (.tuple #[.int .i64 p, .int .i64 vol, x]) ∧ Ans w' ad l ref p x) ∧ Below w.heap.size w w' := by
  by_cases hok : Cv.Well l
  · cases hr : Wi.withinB ref 1 1000 with
    | true =>
      refine (price_any v l ref 145 _ _ _ w hv he hok hr).mono ?_
      rintro e w' ⟨⟨p, vol, rfl, h⟩, hb⟩
      exact ⟨⟨_, _, _, rfl, .inl ⟨hok, hr, rfl, vol, h⟩⟩, hb⟩
    | false =>
      refine (price_ref v ref 145 _ _ _ w he hr (check_well v l 145 _ _ _ w hv he hok)).mono ?_
      rintro e w' ⟨rfl, hb⟩
      exact ⟨⟨_, _, _, rfl, .inr (.inl ⟨hok, hr, rfl, rfl⟩)⟩, hb⟩
  · refine (price_err v ref (fun w' x => ∃ c at_, ErrIs w' ad l x c at_) w (ill_tells v l ad w hv he hok)).mono ?_
    rintro e w' ⟨⟨U, x, rfl, h⟩, hb⟩
    exact ⟨⟨_, _, _, rfl, .inr (.inr ⟨hok, rfl, h⟩)⟩, hb⟩
theorem task_any (i : Int) (v : Value) (l : List Cv.Lot) (ref : Int) (ra : Addr) (ad : Nat → Addr) (w : World) (hv : Lots w v l) (he : Er w 145 (.pointer (some (ad 1))) (.pointer (some (ad 6))) (.pointer (some (ad 7)))) (hr : w.cell? ra = some (.int .i64 ref)) :
    Calls Tryd.prog 12 #[.int .i64 i, v, .pointer (some ra)] w fun e w' => (∃ p x, e = .returned (.tuple #[.int .i64 p, x]) ∧ Ans w' ad l ref p x) ∧ Below w.heap.size w w' := by
  have HC := hide (price_tells v l ref ad w hv he)
  have HR := hide hr
  clear hr hv he
  go_enter Tryd.func12, Tryd.ntmps12
  have hr := HR.out
  go_wp2_with fail
  refine HC.out.mono ?_
  rintro e w1 ⟨⟨p, vol, x, rfl, h⟩, hb⟩
  have H := hide h
  have HB := hide hb
  clear h hb HC hr
  simp only []
  go_wp2
  go_ret2
  exact ⟨⟨p, x, rfl, H.out⟩, HB.out⟩
end Go.Proofs.YtbkjjknlphlhlaaDoor
