/- hasID by its contract: does an ID stand in a list of lots? -/
import Derived.StillTail
import Derived.Test.YtbkjjknlphlhlaaDoorZ03
namespace Go.Proofs.YtbkjjknlphlhlaaDoor
open Go.RowKit
set_option maxRecDepth 100000

/-- the cells of a list of lots behind an address -/
def LotsAt (w : World) (b off : Nat) (l : List Cv.Lot) : Prop :=
  ∀ i, i < l.length → w.cell? ⟨b, off + i * 5, none⟩ = some (.int .i64 (Cv.nth l i).id) ∧ w.cell? ⟨b, off + i * 5 + 1, none⟩ = some (.int .i64 (Cv.nth l i).ow) ∧ w.cell? ⟨b, off + i * 5 + 2, none⟩ = some (.int .i64 (Cv.nth l i).sd) ∧
    w.cell? ⟨b, off + i * 5 + 3, none⟩ = some (.int .i64 (Cv.nth l i).pr) ∧ w.cell? ⟨b, off + i * 5 + 4, none⟩ = some (.int .i64 (Cv.nth l i).q)
theorem LotsAt.later {w w' : World} {b off : Nat} {l : List Cv.Lot} (h : LotsAt w b off l) (hb : Below w.heap.size w w') : LotsAt w' b off l :=
  fun i hi => ⟨cell_later hb (h i hi).1, cell_later hb (h i hi).2.1, cell_later hb (h i hi).2.2.1, cell_later hb (h i hi).2.2.2.1, cell_later hb (h i hi).2.2.2.2⟩

set_option maxHeartbeats 1000000 in
theorem indexFunc_any (b off cap B : Nat) (id : Int) (l : List Cv.Lot) (w : World) (hn' : l.length ≤ 1000) (hl : Hid (LotsAt w b off l)) (hc : w.cell? ⟨B, 0, none⟩ = some (.int .i64 id)) :
    Calls Tryd.prog 74 #[.slice (some ⟨b, off, none⟩) l.length cap, .func (.func 66) #[] #[.pointer (some ⟨B, 0, none⟩)]] w fun e w' => (∃ r : Int, e = .returned (.int .i64 r) ∧ decide (0 ≤ r) = Cv.has l id) ∧ Below w.heap.size w w' := by
  generalize hn : l.length = n at *
  have Hn := hide hn
  clear hn
  go_enter Tryd.func74, Tryd.ntmps74
  go_wp2
  go_loopw [8] (fun i wr => ∃ k : Nat, k ≤ n ∧ i = .int .i64 k ∧ Cv.has (l.take k) id = false ∧ Below w.heap.size w wr) (fun i _ => n - (intOf i).toNat)
  case atStart => exact ⟨0, Nat.zero_le _, rfl, rfl, Below.refl _ _⟩
  case round =>
    obtain ⟨k, hk, rfl, hno, hb⟩ := hrel
    have HN := hide hno; have HB := hide hb
    clear hno hb
    by_cases hlt : k < n
    · have hki : (k : Int) < n := by omega
      obtain ⟨c0, c1, c2, c3, c4⟩ := (hl.out.later HB.out) k (by rw [Hn.out]; exact hlt)
      have hcB := cell_later HB.out hc
      have HC := hide (idClos_any (Cv.nth l k) B id wr hcB)
      have HT := hide (Cv.take_succ (l := l) (i := k) (by rw [Hn.out]; exact hlt))
      generalize Cv.nth l k = x at *
      go_wp2_with fail
      refine HC.out.mono ?_
      rintro e w2 ⟨rfl, hb2⟩
      have HB2 := hide (HB.out.trans (hb2.mono HB.out.size))
      clear hb2 c0 c1 c2 c3 c4 hcB HC
      by_cases hx : x.id = id
      · have hxb : (x.id == id) = true := by simpa using hx
        have Hx := hide hx
        clear hx
        rw [hxb]
        simp only []
        go_wp2
        go_ret
        refine ⟨⟨k, rfl, ?_⟩, HB2.out⟩
        have : Cv.has l id = true := by
          have e : l = l.take (k + 1) ++ l.drop (k + 1) := (List.take_append_drop _ _).symm
          rw [e, HT.out]
          simp [Cv.has, hxb]
        rw [this]
        simp
      · have hxb : (x.id == id) = false := by simpa using hx
        have hno' : Cv.has (l.take (k + 1)) id = false := by
          have hh := HN.out
          rw [HT.out]
          unfold Cv.has at hh ⊢
          rw [List.any_append, hh]
          simp [hx]
        have Hno := hide hno'
        clear hx hno'
        rw [hxb]
        simp only []
        go_wp2
        exact ⟨⟨k + 1, by omega, by go_num, Hno.out, HB2.out⟩, by simp [intOf]; omega⟩
    · have hki : ¬ (k : Int) < n := by omega
      have hkk : k = l.length := by rw [Hn.out]; omega
      have hno := HN.out
      rw [hkk, List.take_length] at hno
      have Hno := hide hno
      clear hno hkk
      go_wp2
      go_ret
      exact ⟨⟨-1, rfl, by rw [Hno.out]; rfl⟩, HB.out⟩

theorem indexFunc_none (cap : Nat) (a : Option Addr) (f : Value) (w : World) :
    Calls Tryd.prog 74 #[.slice a 0 cap, f] w fun e w' => e = .returned (.int .i64 (-1)) ∧ w' = w := by
  go_enter Tryd.func74, Tryd.ntmps74
  go_wp2
  refine wp_loop_rounds 1 ?_
  rw [rounds_succ]
  go_wp2
  go_ret
  exact ⟨rfl, rfl⟩

theorem contains_any (b off cap B : Nat) (id : Int) (l : List Cv.Lot) (w : World) (hn' : l.length ≤ 1000) (hl : Hid (LotsAt w b off l)) (hc : w.cell? ⟨B, 0, none⟩ = some (.int .i64 id)) :
    Calls Tryd.prog 65 #[.slice (some ⟨b, off, none⟩) l.length cap, .func (.func 66) #[] #[.pointer (some ⟨B, 0, none⟩)]] w fun e w' => e = .returned (.bool (Cv.has l id)) ∧ Below w.heap.size w w' := by
  go_enter Tryd.func65, Tryd.ntmps65
  go_wp2_with fail
  refine (indexFunc_any b off cap B id l w hn' hl hc).mono ?_
  rintro e w2 ⟨⟨r, rfl, hr⟩, hb⟩
  have Hr := hide hr
  clear hr
  simp only []
  go_wp2
  go_ret
  exact ⟨ret_bool Hr.out, hb⟩

theorem hasID_any (b off cap n : Nat) (id : Int) (l : List Cv.Lot) (w : World) (hn : Hid (l.length = n)) (hn' : n ≤ 1000) (hl : Hid (LotsAt w b off l)) :
    Calls Tryd.prog 38 #[.slice (some ⟨b, off, none⟩) n cap, .int .i64 id] w fun e w' => e = .returned (.bool (Cv.has l id)) ∧ Below w.heap.size w w' := by
  have HC := hide (contains_any b off cap w.heap.size id l (w.alloc (.cells #[.int .i64 id] 3)) (by rw [hn.out]; exact hn') (hl.out.later ((Below.refl _ _).alloc (Nat.le_refl _) _)) (by simp))
  rw [hn.out] at HC
  go_enter Tryd.func38, Tryd.ntmps38
  go_wp2_with fail
  refine HC.out.mono ?_
  rintro e w2 ⟨rfl, hb⟩
  have HB := hide hb
  clear hb
  simp only []
  go_wp2
  go_ret
  exact ⟨rfl, ((Below.refl _ _).alloc (Nat.le_refl _) _).trans (HB.out.mono (by simp))⟩

theorem LotsAt.take {w : World} {b off : Nat} {l : List Cv.Lot} (h : LotsAt w b off l) (k : Nat) : LotsAt w b off (l.take k) := by
  intro i hi
  rw [List.length_take] at hi
  rw [Cv.nth_take (by omega)]
  exact h i (by omega)
theorem LotsAt.drop {w : World} {b off : Nat} {l : List Cv.Lot} (h : LotsAt w b off l) (k : Nat) : LotsAt w b (off + k * 5) (l.drop k) := by
  intro i hi
  rw [List.length_drop] at hi
  rw [Cv.nth_drop]
  have := h (k + i) (by omega)
  rw [show off + (k + i) * 5 = off + k * 5 + i * 5 by omega] at this
  exact this
end Go.Proofs.YtbkjjknlphlhlaaDoor
namespace Go.Proofs.YtbkjjknlphlhlaaDoor
open Go

section
variable {P : Program} {ops : Array Oper} {md : Region.Mode} {C : World → Prop}

/-- whatever order is picked of the first f operations, each of them quiet and below n; behind them L -/
def headQ (P : Program) (md : Region.Mode) (ops : Array Oper) (C : World → Prop) (n : Nat) (L : Array Bool → Act → Prop) : Nat → Array Bool → Act → Prop
  | 0, listed, a => L listed a
  | f + 1, listed, a => Region.ready md ops listed ≠ [] ∧ ∀ i ∈ Region.ready md ops listed, i < n ∧ qOp P ops C i (headQ P md ops C n L f (listed.setIfInBounds i true)) a

theorem any_of_headQ {n g : Nat} {L : Array Bool → Act → Prop} {Q' : Exit → Act → World → Prop} (hL : ∀ listed a w, C w → L listed a → wpAny P md ops Q' g listed a w) :
    ∀ (f : Nat) (listed : Array Bool) (a : Act) (w : World), C w → headQ P md ops C n L f listed a → wpAny P md ops Q' (f + g) listed a w := by
  intro f
  induction f with
  | zero => intro listed a w hw h; rw [Nat.zero_add]; exact hL _ _ _ hw h
  | succ f ih =>
    intro listed a w hw h
    rw [show f + 1 + g = (f + g) + 1 by omega]
    exact ⟨fun h0 => absurd h0 h.1, fun i hi => wpOp_of_qOp hw (fun a' w' hw' h' => ih _ a' w' hw' h') (h.2 i hi).2⟩

theorem headQ_first {n i : Nat} {oi : Oper} {v : Value} {L : Array Bool → Act → Prop} (hi : ops[i]? = some oi) (hsel : ∀ (j : Nat) (o : Oper) cs b, ops[j]? = some o → o.op ≠ .select cs b)
    (hs : Region.sinkB md ops n = true) (hc : Region.chainB md ops n = true) (hn : n < ops.size) (hin : i < n)
    (hdone : ∀ listed a, L listed a → ∀ j ∈ Region.ready md ops listed, n ≤ j) :
    ∀ (f : Nat) (listed : Array Bool) (a : Act), HeadInv md ops n listed →
      (∀ j oj, ops[j]? = some oj → j ≠ i → listed.getD j true = false → (∀ e ∈ oj.after, Region.binds md e = true → e.on ≠ i) → oi.apart ops oj = true) →
      i ∈ Region.ready md ops listed → YieldsIn P ops C oi v a →
      headQ P md ops C n L f (listed.setIfInBounds i true) (a.put oi.dst v) → headQ P md ops C n L (f + 1) listed a := by
  intro f
  induction f with
  | zero =>
    intro listed a inv _ hr hy H
    have hun := (mem_ready.1 hr).1
    refine ⟨fun h => (by rw [h] at hr; cases hr), fun j hj => ?_⟩
    have hjn : j < n := Nat.lt_of_not_le fun h => tail_waits hs hc hn inv _ i rfl hin hun j h hj
    refine ⟨hjn, ?_⟩
    by_cases hji : j = i
    · subst hji; exact hy.qOp hi H
    · exact absurd (hdone _ _ H j (ready_mono hj hji)) (by omega)
  | succ f ih =>
    intro listed a inv hfree hr hy H
    have hun := (mem_ready.1 hr).1
    refine ⟨fun h => (by rw [h] at hr; cases hr), fun j hj => ?_⟩
    have hjn : j < n := Nat.lt_of_not_le fun h => tail_waits hs hc hn inv _ i rfl hin hun j h hj
    refine ⟨hjn, ?_⟩
    by_cases hji : j = i
    · subst hji; exact hy.qOp hi H
    · obtain ⟨hjun, oj, hoj, hall⟩ := mem_ready.1 hj
      have hnot : ∀ e ∈ oj.after, Region.binds md e = true → e.on ≠ i := fun e he hb heq => by
        have h1 := hall e he hb
        rw [heq, getD_both hun] at h1
        cases h1
      have h2 := qOp_put hoj (hfree j oj hoj hji hjun hnot) (fun cs b => hsel i oi cs b hi) (fun cs b => hsel j oj cs b hoj) hy (H.2 j (ready_mono hj hji)).2
      refine qOp_mono (fun a' h3 => ih (listed.setIfInBounds j true) a' (inv.set hj hjn) (fun k ok hk hki hu hno => hfree k ok hk hki ?_ hno) (ready_mono hr (Ne.symm hji)) h3.1 ?_) h2
      · by_cases hjk : j = k
        · subst hjk; exact hjun
        · rw [getD_set_ne true hjk] at hu; exact hu
      · rw [Array.setIfInBounds_comm _ _ hji]; exact h3.2

theorem headQ_lex {n g : Nat} {Lq : Act → Prop} (hsel : Region.noSelect ops = true) (hs : Region.sinkB md ops n = true) (hc : Region.chainB md ops n = true) (hn : n < ops.size) :
    ∀ (l : List Oper) (k : Nat) (listed : Array Bool) (a : Act), (∀ j, j < l.length → l[j]? = ops[k + j]?) → k + l.length = n → HeadInv md ops n listed →
    Region.lexHead md ops g l.length k listed = true → wpQuiet P ops C Lq l a →
    headQ P md ops C n (fun listed' a' => Region.seqB md ops g n listed' = true ∧ Lq a') l.length listed a := by
  intro l
  induction l with
  | nil =>
    intro k listed a _ hk _ hB h
    obtain rfl : k = n := by simpa using hk
    exact ⟨by simpa [Region.lexHead] using hB, h⟩
  | cons o l ih =>
    intro k listed a hl hk inv hB h
    have h0 : ops[k]? = some o := by simpa using (hl 0 (by simp)).symm
    simp only [List.length_cons, Region.lexHead, Bool.and_eq_true] at hB
    obtain ⟨⟨hr, hf⟩, hB'⟩ := hB
    have hkn : k < n := by simp only [List.length_cons] at hk; omega
    have hr' : k ∈ Region.ready md ops listed := by simpa using hr
    obtain ⟨v, hy, hK⟩ := yieldsIn_of_qOp (C := C) (K := wpQuiet P ops C Lq l) h0 (by unfold qOp; simp only [h0]; exact h)
    refine headQ_first h0 (Region.noSelect_spec hsel) hs hc hn hkn (fun listed' a' hL => seqB_ready hL.1) l.length listed a inv (Region.free_spec h0 hf) hr' hy (ih (k + 1) _ _ (fun j hj => ?_) ?_ (inv.set hr' hkn) hB' hK)
    · have := hl (j + 1) (by simp; omega)
      simpa [Nat.add_assoc, Nat.add_comm 1 j] using this
    · simp only [List.length_cons] at hk; omega

/-- THE LAW. -/
theorem region_quiet_tail {id : Nat} {Q : Exit → Act → World → Prop} {a : Act} {w : World} {l : List Oper} (n : Nat) (hm : P.follows .mixedOrders = true) (hB : Region.lexTailB .any l.toArray n = true)
    (h : wpQuiet P l.toArray (fun w' => ∃ m, w' = w.drewN m) (fun a' => ∀ w', (∃ m, w' = w.drewN m) → wpList P l.toArray Q (l.drop n) a' w') (l.take n) a) : (Code.region id l.toArray true).wp P Q a w := by
  simp only [Region.lexTailB, Bool.and_eq_true, decide_eq_true_eq] at hB
  obtain ⟨⟨⟨⟨hsel, hn⟩, hs⟩, hc⟩, hlex⟩ := hB
  have hn' : n < l.length := by simpa using hn
  have htl : (l.take n).length = n := by simp; omega
  have hdl : (l.drop n).length = l.toArray.size - n := by simp
  have inv0 : HeadInv .any l.toArray n (Array.replicate l.toArray.size false) :=
    ⟨by simp, fun j oj _ hj => (by rw [getD_replicate_false] at hj; cases hj), fun t _ ht => getD_in (by simpa using ht) (getD_replicate_false _ _)⟩
  have H := headQ_lex (md := .any) (g := l.toArray.size - n) hsel hs hc hn (l.take n) 0 _ a (fun j hj => by rw [htl] at hj; simp [hj]) (by simpa using htl) inv0 (by rw [htl]; exact hlex) h
  refine wp_region_any hm ?_
  have T := any_of_headQ (Q' := Q) (g := l.toArray.size - n) (fun listed a' w' hw' hL => by
    have := wpAny_of_seq (md := .any) (Q' := Q) (l.drop n) n listed a' w' (fun j => by simp [List.getElem?_drop]) (by rw [hdl]; exact hL.1) (hL.2 w' hw')
    rwa [hdl] at this) _ _ _ { w with drawn := w.drawn + 1 } ⟨1, rfl⟩ H
  rw [htl, show n + (l.toArray.size - n) = l.toArray.size by omega] at T
  exact T
end
end Go.Proofs.YtbkjjknlphlhlaaDoor
namespace Go.Proofs.YtbkjjknlphlhlaaDoor
open Go.RowKit
set_option maxRecDepth 100000

theorem blw_drew {w : World} (m : Nat) : Below w.heap.size w (w.drewN m) := ⟨rfl, rfl, rfl, Nat.le_refl _, fun _ _ => rfl⟩
/-- what the errors that Check answers hold -/
structure Er (w : World) (T : TypeId) (v1 v6 v7 : Value) : Prop where
  c1 : w.cell? ⟨1, 0, none⟩ = some (.iface T v1)
  c6 : w.cell? ⟨6, 0, none⟩ = some (.iface T v6)
  c7 : w.cell? ⟨7, 0, none⟩ = some (.iface T v7)
theorem Er.later {w w' : World} {T : TypeId} {v1 v6 v7 : Value} (h : Er w T v1 v6 v7) (hb : Below w.heap.size w w') : Er w' T v1 v6 v7 :=
  ⟨cell_later hb h.c1, cell_later hb h.c6, cell_later hb h.c7⟩

theorem check_none (cap : Nat) (a : Option Addr) (w : World) : Calls Tryd.prog 24 #[.slice a 0 cap] w fun e w' => e = .returned .nilIface ∧ w' = w := by
  go_enter Tryd.func24, Tryd.ntmps24
  go_wp2
  refine wp_loop_rounds 1 ?_
  rw [rounds_succ]
  go_wp2
  go_ret
  exact ⟨rfl, rfl⟩
theorem check_full (n cap : Nat) (a : Option Addr) (T : TypeId) (v1 v6 v7 : Value) (w : World) (h : Er w T v1 v6 v7) (hn : 120 < n) : Calls Tryd.prog 24 #[.slice a n cap] w fun e w' => e = .returned (.iface T v7) ∧ w' = w := by
  have hn' : (120 : Int) < n := by omega
  have c7 := h.c7
  go_enter Tryd.func24, Tryd.ntmps24
  go_wp2
  go_ret
  exact ⟨rfl, rfl⟩

set_option maxHeartbeats 2000000 in
theorem check_some (b off cap n : Nat) (l : List Cv.Lot) (T : TypeId) (v1 v6 v7 : Value) (w : World) (hn : Hid (l.length = n)) (hn' : n ≤ 120) (hcap : n ≤ cap) (hl : Hid (LotsAt w b off l)) (he : Hid (Er w T v1 v6 v7)) :
    Calls Tryd.prog 24 #[.slice (some ⟨b, off, none⟩) n cap] w fun e w' => (Cv.WellTo l n ∧ e = .returned .nilIface ∨
      ∃ i B, i < n ∧ Cv.WellTo l i ∧ Cv.okAt l i = false ∧ e = .returned (.iface 56 (.pointer (some ⟨B, 0, none⟩))) ∧ w'.cell? ⟨B, 0, none⟩ = some (.int .i64 (i : Nat)) ∧ w'.cell? ⟨B, 1, none⟩ = some (if Cv.ok (Cv.nth l i) = true then .iface T v6 else .iface T v1)) ∧ Below w.heap.size w w' := by
  have hni : ¬ (120 : Int) < n := by omega
  go_enter Tryd.func24, Tryd.ntmps24
  go_wp2
  go_loopw [11] (fun i wr => ∃ k : Nat, k ≤ n ∧ i = .int .i64 k ∧ Cv.WellTo l k ∧ Below w.heap.size w wr) (fun i _ => n - (intOf i).toNat)
  case atStart => exact ⟨0, Nat.zero_le _, rfl, fun i hi => absurd hi (Nat.not_lt_zero i), Below.refl _ _⟩
  case round =>
    obtain ⟨k, hk, rfl, hwl, hb⟩ := hrel
    have HW := hide hwl; have HB := hide hb
    clear hwl hb
    by_cases hlt : k < n
    · have hki : (k : Int) < n := by omega
      have hkc : k ≤ cap := by omega
      obtain ⟨c0, c1, c2, c3, c4⟩ := (hl.out.later HB.out) k (by rw [hn.out]; exact hlt)
      have HX : Hid (∃ x, x = Cv.nth l k) := ⟨_, rfl⟩
      generalize hx : Cv.nth l k = x at *
      have HX := hide hx
      clear hx
      go_wp2_with fail
      refine (lotOk_any x _).mono ?_
      rintro e w2 ⟨rfl, hb2⟩
      have HB2 : Hid (Below w.heap.size w w2) := (HB.out.alloc HB.out.size _).trans (hb2.mono (by have := HB.out.size; simp; omega))
      have d0 : w2.cell? ⟨wr.heap.size, 0, none⟩ = some (.int .i64 x.id) := by rw [hb2.cell (p := ⟨wr.heap.size, 0, none⟩) (by simp)]; simp
      clear hb2 c0 c1 c2 c3 c4
      cases hok : Cv.ok x with
      | false =>
        have Hok := hide hok
        clear hok
        have e1 := (he.out.later HB2.out).c1
        simp only []
        go_wp2
        go_ret
        refine ⟨.inr ⟨k, w2.heap.size, hlt, HW.out, ?_, rfl, by simp, ?_⟩, HB2.out.alloc HB2.out.size _⟩
        · unfold Cv.okAt; rw [HX.out, Hok.out]; rfl
        · rw [HX.out, Hok.out]; simp
      | true =>
        have Hok := hide hok
        clear hok
        have hL := hide ((hl.out.later HB2.out).take k)
        have hT : Hid ((l.take k).length = k) := by show _ = _; rw [List.length_take, hn.out]; omega
        simp only []
        go_wp2
        refine region_quiet_tail 5 (by kernel_rfl) (by kernel_rfl) ?_
        simp only [List.take_succ_cons, List.take_zero, List.drop_succ_cons, List.drop_zero]
        repeat (first | go_big_quiet_step (fail) | quiet_step (fail))
        refine wpQuiet_nil ?_
        intro _ hw'
        obtain ⟨nq, hw''⟩ := hw'
        subst hw''
        have HB3 : Hid (Below w.heap.size w (w2.drewN nq)) := HB2.out.trans ((blw_drew nq).mono HB2.out.size)
        have hL3 := hide (hL.out.later (blw_drew nq))
        clear hL
        generalize w2.drewN nq = w3 at *
        go_wp2_with fail
        refine (hasID_any b off cap k x.id (l.take k) w3 hT (by omega) hL3).mono ?_
        rintro e w4 ⟨rfl, hb4⟩
        have HB4 := hide (HB3.out.trans (hb4.mono HB3.out.size))
        clear hb4 hL3 d0
        cases hha : Cv.has (l.take k) x.id with
        | true =>
          have Hha := hide hha
          clear hha
          have e6 := (he.out.later HB4.out).c6
          simp only []
          go_wp2
          go_ret
          refine ⟨.inr ⟨k, w4.heap.size, hlt, HW.out, ?_, rfl, by simp, ?_⟩, HB4.out.alloc HB4.out.size _⟩
          · unfold Cv.okAt; rw [HX.out, Hok.out, Hha.out]; rfl
          · rw [HX.out, Hok.out]; simp
        | false =>
          have hwl' : Cv.WellTo l (k + 1) := by
            intro i hi
            by_cases e : i = k
            · rw [e]; unfold Cv.okAt; rw [HX.out, Hok.out, hha]; rfl
            · exact HW.out i (by omega)
          have HW' := hide hwl'
          clear hwl' hha
          simp only []
          go_wp2
          exact ⟨⟨k + 1, by omega, by go_num, HW'.out, HB4.out⟩, by simp [intOf]; omega⟩
    · have hki : ¬ (k : Int) < n := by omega
      have hkk : k = n := by omega
      have hwl := HW.out
      rw [hkk] at hwl
      have Hwl := hide hwl
      clear hwl hkk
      go_wp2
      go_ret
      exact ⟨.inl ⟨Hwl.out, rfl⟩, HB.out⟩
end Go.Proofs.YtbkjjknlphlhlaaDoor
namespace Go.Proofs.YtbkjjknlphlhlaaDoor
open Go.RowKit
set_option maxRecDepth 100000

/-- Check has an error of them -/
theorem check_bad (b off cap n : Nat) (l : List Cv.Lot) (T : TypeId) (v1 v6 v7 : Value) (w : World) (hn : Hid (l.length = n)) (hcap : n ≤ cap) (hl : Hid (LotsAt w b off l)) (he : Hid (Er w T v1 v6 v7)) (hbad : ¬ Cv.Well l) :
    Calls Tryd.prog 24 #[.slice (some ⟨b, off, none⟩) n cap] w fun e w' => (∃ U x, e = .returned (.iface U x)) ∧ Below w.heap.size w w' := by
  by_cases h : 120 < n
  · refine (check_full n cap _ T v1 v6 v7 w he.out h).mono ?_
    rintro e w' ⟨rfl, rfl⟩
    exact ⟨⟨_, _, rfl⟩, Below.refl _ _⟩
  · refine (check_some b off cap n l T v1 v6 v7 w hn (by omega) hcap hl he).mono ?_
    rintro e w' ⟨h1 | ⟨i, B, _, _, _, rfl, _⟩, hb⟩
    · exact absurd ⟨by rw [hn.out]; omega, by rw [hn.out]; exact h1.1⟩ hbad
    · exact ⟨⟨_, _, rfl⟩, hb⟩
/-- Check has none -/
theorem check_fine' (b off cap n : Nat) (l : List Cv.Lot) (T : TypeId) (v1 v6 v7 : Value) (w : World) (hn : Hid (l.length = n)) (hcap : n ≤ cap) (hl : Hid (LotsAt w b off l)) (he : Hid (Er w T v1 v6 v7)) (hok : Cv.Well l) :
    Calls Tryd.prog 24 #[.slice (some ⟨b, off, none⟩) n cap] w fun e w' => e = .returned .nilIface ∧ Below w.heap.size w w' := by
  have h120 := hok.1
  rw [hn.out] at h120
  refine (check_some b off cap n l T v1 v6 v7 w hn h120 hcap hl he).mono ?_
  rintro e w' ⟨h1 | ⟨i, B, hi, _, hno, _⟩, hb⟩
  · exact ⟨h1.2, hb⟩
  · rw [hok.2 i (by rw [hn.out]; exact hi)] at hno
    cases hno

/-- a slice that holds a list of lots -/
def Lots (w : World) (v : Value) (l : List Cv.Lot) : Prop :=
  (l = [] ∧ ∃ a cap, v = .slice a 0 cap) ∨ ∃ b off cap, v = .slice (some ⟨b, off, none⟩) l.length cap ∧ l.length ≤ cap ∧ LotsAt w b off l
theorem Lots.later {w w' : World} {v : Value} {l : List Cv.Lot} (h : Lots w v l) (hb : Below w.heap.size w w') : Lots w' v l := by
  rcases h with h | ⟨b, off, cap, h1, h2, h3⟩
  · exact .inl h
  · exact .inr ⟨b, off, cap, h1, h2, h3.later hb⟩
theorem Cv.well_nil : Cv.Well [] := ⟨by simp, fun i hi => by simp at hi⟩

end Go.Proofs.YtbkjjknlphlhlaaDoor
namespace Go.Proofs.YtbkjjknlphlhlaaDoor
open Go.RowKit
set_option maxRecDepth 100000

theorem Lots.form {w : World} {v : Value} {l : List Cv.Lot} (h : Lots w v l) : ∃ a n cap, v = .slice a n cap := by
  rcases h with ⟨_, a, cap, rfl⟩ | ⟨b, off, cap, rfl, _⟩
  · exact ⟨_, _, _, rfl⟩
  · exact ⟨_, _, _, rfl⟩

theorem Cv.demand_range (l : List Cv.Lot) (p : Int) (h : Cv.Well l) : 0 ≤ Cv.demand l p ∧ Cv.demand l p ≤ 120000 := by
  have := Cv.sumIf_bounds (Cv.dB p) l h.oks
  have h2 := h.1
  unfold Cv.demand
  omega
theorem Cv.supply_range (l : List Cv.Lot) (p : Int) (h : Cv.Well l) : 0 ≤ Cv.supply l p ∧ Cv.supply l p ≤ 120000 := by
  have := Cv.sumIf_bounds (Cv.sB p) l h.oks
  have h2 := h.1
  unfold Cv.supply
  omega

end Go.Proofs.YtbkjjknlphlhlaaDoor
namespace Go.Proofs.YtbkjjknlphlhlaaDoor
open Go.RowKit
set_option maxRecDepth 100000

def lotCells (x : Cv.Lot) : List Value := [.int .i64 x.id, .int .i64 x.ow, .int .i64 x.sd, .int .i64 x.pr, .int .i64 x.q]
def flat (l : List Cv.Lot) : List Value := l.flatMap lotCells
theorem flat_length : ∀ l : List Cv.Lot, (flat l).length = l.length * 5
  | [] => rfl
  | x :: l => by
    have := flat_length l
    simp only [flat, List.flatMap_cons, List.length_append, List.length_cons] at this ⊢
    rw [this, show (lotCells x).length = 5 from rfl]
    omega
theorem flat_at : ∀ (l : List Cv.Lot) (i j : Nat), i < l.length → j < 5 → (flat l)[i * 5 + j]? = (lotCells (Cv.nth l i))[j]?
  | [], i, j, h, _ => absurd h (Nat.not_lt_zero i)
  | x :: l, 0, j, _, hj => by
    show (lotCells x ++ flat l)[0 * 5 + j]? = _
    rw [Nat.zero_mul, Nat.zero_add, List.getElem?_append_left (by show j < 5; exact hj)]
    rfl
  | x :: l, i + 1, j, h, hj => by
    show (lotCells x ++ flat l)[(i + 1) * 5 + j]? = _
    rw [List.getElem?_append_right (by show 5 ≤ _; omega), show (i + 1) * 5 + j - (lotCells x).length = i * 5 + j by show _ - 5 = _; omega, flat_at l i j (by simpa using h) hj]
    rfl
theorem flat_one (l : List Cv.Lot) (u : Value) (h : u ∈ flat l) : u.oneCell' = true := by
  obtain ⟨x, _, hx⟩ := List.mem_flatMap.1 h
  simp only [lotCells, List.mem_cons, List.not_mem_nil, or_false] at hx
  rcases hx with rfl | rfl | rfl | rfl | rfl <;> rfl
theorem lotsAt_of_flat {w : World} {b : Nat} {l : List Cv.Lot} (h : ∀ j u, (flat l)[j]? = some u → w.cell? ⟨b, j, none⟩ = some u) : LotsAt w b 0 l := by
  intro i hi
  have key : ∀ j u, j < 5 → (lotCells (Cv.nth l i))[j]? = some u → w.cell? ⟨b, i * 5 + j, none⟩ = some u := fun j u hj hu => h _ u (by rw [flat_at l i j hi hj]; exact hu)
  rw [Nat.zero_add]
  exact ⟨key 0 _ (by decide) rfl, key 1 _ (by decide) rfl, key 2 _ (by decide) rfl, key 3 _ (by decide) rfl, key 4 _ (by decide) rfl⟩

/-- a slice that came in, as a list of lots -/
def ArgLots (w : World) (a : Option Addr) (l : List Cv.Lot) : Prop := l = [] ∨ ∃ g, a = some g ∧ ∀ j u, (flat l)[j]? = some u → w.cell? (g.add j) = some u

theorem info110 : ∃ i z, Tryd.prog.info? 47 = some i ∧ i.zero = some z ∧ i.size = 5 ∧ i.bytes = 40 ∧ z.cells.size = 5 := ⟨_, _, rfl, rfl, rfl, rfl, rfl⟩

end Go.Proofs.YtbkjjknlphlhlaaDoor
namespace Go.Proofs.YtbkjjknlphlhlaaDoor
open Go.RowKit
set_option maxRecDepth 100000

theorem check_well (v : Value) (l : List Cv.Lot) (T : TypeId) (v1 v6 v7 : Value) (w : World) (hv : Lots w v l) (he : Hid (Er w T v1 v6 v7)) (hok : Cv.Well l) :
    Calls Tryd.prog 24 #[v] w fun e w' => e = .returned .nilIface ∧ Below w.heap.size w w' := by
  rcases hv with ⟨rfl, a, cap, rfl⟩ | ⟨b, off, cap, rfl, hcap, hl⟩
  · refine (check_none cap a w).mono ?_
    rintro e w' ⟨rfl, rfl⟩
    exact ⟨rfl, Below.refl _ _⟩
  · exact check_fine' b off cap _ l T v1 v6 v7 w rfl hcap hl he hok
theorem check_ill (v : Value) (l : List Cv.Lot) (T : TypeId) (v1 v6 v7 : Value) (w : World) (hv : Lots w v l) (he : Hid (Er w T v1 v6 v7)) (hbad : ¬ Cv.Well l) :
    Calls Tryd.prog 24 #[v] w fun e w' => (∃ U x, e = .returned (.iface U x)) ∧ Below w.heap.size w w' := by
  rcases hv with ⟨rfl, a, cap, rfl⟩ | ⟨b, off, cap, rfl, hcap, hl⟩
  · exact absurd Cv.well_nil hbad
  · exact check_bad b off cap _ l T v1 v6 v7 w rfl hcap hl he hbad
theorem Lots.take {w : World} {b off cap : Nat} {l : List Cv.Lot} (h : LotsAt w b off l) (hn : l.length ≤ cap) (k : Nat) (hk : k ≤ l.length) : Lots w (.slice (some ⟨b, off, none⟩) k cap) (l.take k) := by
  have e : (l.take k).length = k := by rw [List.length_take]; omega
  exact .inr ⟨b, off, cap, by rw [e], by rw [e]; omega, h.take k⟩
theorem Lots.drop {w : World} {b off cap : Nat} {l : List Cv.Lot} (h : LotsAt w b off l) (hn : l.length ≤ cap) (k : Nat) (hk : k ≤ l.length) : Lots w (.slice (some ⟨b, off + k * 5, none⟩) (l.length - k) (cap - k)) (l.drop k) := by
  exact .inr ⟨b, off + k * 5, cap - k, by rw [List.length_drop], by rw [List.length_drop]; omega, h.drop k⟩
end Go.Proofs.YtbkjjknlphlhlaaDoor
namespace Go.Proofs.YtbkjjknlphlhlaaDoor
open Go.RowKit
set_option maxRecDepth 100000

/-- the cells of a slice of lots that came in -/
def ArgAt (w : World) (g : Addr) (l : List Cv.Lot) : Prop :=
  ∀ i, i < l.length → w.cell? (g.add (i * 5)) = some (.int .i64 (Cv.nth l i).id) ∧ w.cell? ⟨(g.add (i * 5)).block, (g.add (i * 5)).off + 1, none⟩ = some (.int .i64 (Cv.nth l i).ow) ∧ w.cell? ⟨(g.add (i * 5)).block, (g.add (i * 5)).off + 2, none⟩ = some (.int .i64 (Cv.nth l i).sd) ∧
    w.cell? ⟨(g.add (i * 5)).block, (g.add (i * 5)).off + 3, none⟩ = some (.int .i64 (Cv.nth l i).pr) ∧ w.cell? ⟨(g.add (i * 5)).block, (g.add (i * 5)).off + 4, none⟩ = some (.int .i64 (Cv.nth l i).q)
theorem ArgAt.later {w w' : World} {g : Addr} {l : List Cv.Lot} (h : ArgAt w g l) (hb : Below w.heap.size w w') : ArgAt w' g l :=
  fun i hi => ⟨cell_later hb (h i hi).1, cell_later hb (h i hi).2.1, cell_later hb (h i hi).2.2.1, cell_later hb (h i hi).2.2.2.1, cell_later hb (h i hi).2.2.2.2⟩
theorem argAt_of_flat {w : World} {g : Addr} {l : List Cv.Lot} (h : ∀ j u, (flat l)[j]? = some u → w.cell? (g.add j) = some u) : ArgAt w g l := by
  intro i hi
  have key : ∀ j u, j < 5 → (lotCells (Cv.nth l i))[j]? = some u → w.cell? (g.add (i * 5 + j)) = some u := fun j u hj hu => h _ u (by rw [flat_at l i j hi hj]; exact hu)
  have e : ∀ j, 0 < j → g.add (i * 5 + j) = ⟨(g.add (i * 5)).block, (g.add (i * 5)).off + j, none⟩ := by
    intro j hj
    unfold Addr.add
    rw [if_neg (by omega)]
    split
    · simp_all
    · simp; omega
  exact ⟨key 0 _ (by decide) rfl, by rw [← e 1 (by decide)]; exact key 1 _ (by decide) rfl, by rw [← e 2 (by decide)]; exact key 2 _ (by decide) rfl, by rw [← e 3 (by decide)]; exact key 3 _ (by decide) rfl, by rw [← e 4 (by decide)]; exact key 4 _ (by decide) rfl⟩

set_option maxHeartbeats 400000 in
theorem demandOf_some (g : Addr) (n cap : Nat) (p : Int) (l : List Cv.Lot) (w : World) (hn : Hid (l.length = n)) (hok : Hid (Cv.Well l)) (hl : Hid (ArgAt w g l)) :
    Calls Tryd.prog 17 #[.slice (some g) n cap, .int .i64 p] w fun e w' => e = .returned (.int .i64 (Cv.demand l p)) ∧ w' = w := by
  have h120 := hok.out.1
  rw [hn.out] at h120
  have HR : Hid (∀ k, 0 ≤ Cv.sumIf (Cv.dB p) (l.take k) ∧ Cv.sumIf (Cv.dB p) (l.take k) ≤ 120000) := fun k => by
    have := Cv.sumIf_bounds (Cv.dB p) (l.take k) (hok.out.oks.take k)
    have h2 : (l.take k).length ≤ 120 := by rw [List.length_take, hn.out]; omega
    omega
  go_enter Tryd.func17, Tryd.ntmps17
  go_wp2
  go_loop [5, 6] (fun s i => ∃ k : Nat, k ≤ n ∧ i = .int .i64 k ∧ s = .int .i64 (Cv.sumIf (Cv.dB p) (l.take k))) (fun _ i => n - (intOf i).toNat)
  case atStart => exact ⟨0, Nat.zero_le _, rfl, rfl⟩
  case round =>
    obtain ⟨k, hk, rfl, rfl⟩ := hrel
    by_cases hlt : k < n
    · have hki : (k : Int) < n := by omega
      obtain ⟨c0, c1, c2, c3, c4⟩ := hl.out k (by rw [hn.out]; exact hlt)
      have HS := hide (Cv.sumIf_step (Cv.dB p) (l := l) (k := k) (by rw [hn.out]; exact hlt))
      obtain ⟨r1, r2⟩ := HR.out k
      have HR2 := hide (HR.out (k + 1))
      rw [HS.out] at HR2
      generalize Cv.sumIf (Cv.dB p) (l.take k) = sk at *
      generalize Cv.nth l k = x at *
      have hdB : Cv.dB p x = (x.sd == 0 && decide (p ≤ x.pr)) := rfl
      by_cases hs : x.sd = 0
      · by_cases hp : p ≤ x.pr
        · have hd : Cv.dB p x = true := by rw [hdB]; simp [hs, hp]
          have HS2 := hide (show Cv.sumIf (Cv.dB p) (l.take (k + 1)) = sk + x.q by have := HS.out; rw [hd] at this; simpa using this)
          have hr2 : 0 ≤ sk + x.q ∧ sk + x.q ≤ 120000 := by have := HR2.out; rw [hd] at this; simpa using this
          clear HS HR2 hd hdB
          obtain ⟨r3, r4⟩ := hr2
          go_wp2
          exact ⟨⟨k + 1, by omega, by go_num, by rw [HS2.out]⟩, by simp [intOf]; omega⟩
        · have hd : Cv.dB p x = false := by rw [hdB]; simp [hp]
          have HS2 := hide (show Cv.sumIf (Cv.dB p) (l.take (k + 1)) = sk by have := HS.out; rw [hd] at this; simpa using this)
          clear HS HR2 hd hdB
          go_wp2
          exact ⟨⟨k + 1, by omega, by go_num, by rw [HS2.out]⟩, by simp [intOf]; omega⟩
      · have hd : Cv.dB p x = false := by rw [hdB]; simp [hs]
        have HS2 := hide (show Cv.sumIf (Cv.dB p) (l.take (k + 1)) = sk by have := HS.out; rw [hd] at this; simpa using this)
        clear HS HR2 hd hdB
        go_wp2
        exact ⟨⟨k + 1, by omega, by go_num, by rw [HS2.out]⟩, by simp [intOf]; omega⟩
    · have hki : ¬ (k : Int) < n := by omega
      have hkk : l.take k = l := by
        have : k = l.length := by rw [hn.out]; omega
        rw [this, List.take_length]
      have Hkk := hide hkk
      clear hkk
      go_wp2
      go_ret
      exact ⟨by rw [Hkk.out]; rfl, rfl⟩
theorem demandOf_none (a : Option Addr) (cap : Nat) (p : Int) (w : World) : Calls Tryd.prog 17 #[.slice a 0 cap, .int .i64 p] w fun e w' => e = .returned (.int .i64 0) ∧ w' = w := by
  go_enter Tryd.func17, Tryd.ntmps17
  go_wp2
  refine wp_loop_rounds 1 ?_
  rw [rounds_succ]
  go_wp2
  go_ret
  exact ⟨rfl, rfl⟩

set_option maxHeartbeats 400000 in
theorem supplyOf_some (g : Addr) (n cap : Nat) (p : Int) (l : List Cv.Lot) (w : World) (hn : Hid (l.length = n)) (hok : Hid (Cv.Well l)) (hl : Hid (ArgAt w g l)) :
    Calls Tryd.prog 18 #[.slice (some g) n cap, .int .i64 p] w fun e w' => e = .returned (.int .i64 (Cv.supply l p)) ∧ w' = w := by
  have h120 := hok.out.1
  rw [hn.out] at h120
  have HR : Hid (∀ k, 0 ≤ Cv.sumIf (Cv.sB p) (l.take k) ∧ Cv.sumIf (Cv.sB p) (l.take k) ≤ 120000) := fun k => by
    have := Cv.sumIf_bounds (Cv.sB p) (l.take k) (hok.out.oks.take k)
    have h2 : (l.take k).length ≤ 120 := by rw [List.length_take, hn.out]; omega
    omega
  go_enter Tryd.func18, Tryd.ntmps18
  go_wp2
  go_loop [5, 6] (fun s i => ∃ k : Nat, k ≤ n ∧ i = .int .i64 k ∧ s = .int .i64 (Cv.sumIf (Cv.sB p) (l.take k))) (fun _ i => n - (intOf i).toNat)
  case atStart => exact ⟨0, Nat.zero_le _, rfl, rfl⟩
  case round =>
    obtain ⟨k, hk, rfl, rfl⟩ := hrel
    by_cases hlt : k < n
    · have hki : (k : Int) < n := by omega
      obtain ⟨c0, c1, c2, c3, c4⟩ := hl.out k (by rw [hn.out]; exact hlt)
      have HS := hide (Cv.sumIf_step (Cv.sB p) (l := l) (k := k) (by rw [hn.out]; exact hlt))
      obtain ⟨r1, r2⟩ := HR.out k
      have HR2 := hide (HR.out (k + 1))
      rw [HS.out] at HR2
      generalize Cv.sumIf (Cv.sB p) (l.take k) = sk at *
      generalize Cv.nth l k = x at *
      have hdB : Cv.sB p x = (x.sd == 1 && decide (x.pr ≤ p)) := rfl
      by_cases hs : x.sd = 1
      · by_cases hp : x.pr ≤ p
        · have hd : Cv.sB p x = true := by rw [hdB]; simp [hs, hp]
          have HS2 := hide (show Cv.sumIf (Cv.sB p) (l.take (k + 1)) = sk + x.q by have := HS.out; rw [hd] at this; simpa using this)
          have hr2 : 0 ≤ sk + x.q ∧ sk + x.q ≤ 120000 := by have := HR2.out; rw [hd] at this; simpa using this
          clear HS HR2 hd hdB
          obtain ⟨r3, r4⟩ := hr2
          go_wp2
          exact ⟨⟨k + 1, by omega, by go_num, by rw [HS2.out]⟩, by simp [intOf]; omega⟩
        · have hd : Cv.sB p x = false := by rw [hdB]; simp [hp]
          have HS2 := hide (show Cv.sumIf (Cv.sB p) (l.take (k + 1)) = sk by have := HS.out; rw [hd] at this; simpa using this)
          clear HS HR2 hd hdB
          go_wp2
          exact ⟨⟨k + 1, by omega, by go_num, by rw [HS2.out]⟩, by simp [intOf]; omega⟩
      · have hd : Cv.sB p x = false := by rw [hdB]; simp [hs]
        have HS2 := hide (show Cv.sumIf (Cv.sB p) (l.take (k + 1)) = sk by have := HS.out; rw [hd] at this; simpa using this)
        clear HS HR2 hd hdB
        go_wp2
        exact ⟨⟨k + 1, by omega, by go_num, by rw [HS2.out]⟩, by simp [intOf]; omega⟩
    · have hki : ¬ (k : Int) < n := by omega
      have hkk : l.take k = l := by
        have : k = l.length := by rw [hn.out]; omega
        rw [this, List.take_length]
      have Hkk := hide hkk
      clear hkk
      go_wp2
      go_ret
      exact ⟨by rw [Hkk.out]; rfl, rfl⟩
theorem supplyOf_none (a : Option Addr) (cap : Nat) (p : Int) (w : World) : Calls Tryd.prog 18 #[.slice a 0 cap, .int .i64 p] w fun e w' => e = .returned (.int .i64 0) ∧ w' = w := by
  go_enter Tryd.func18, Tryd.ntmps18
  go_wp2
  refine wp_loop_rounds 1 ?_
  rw [rounds_succ]
  go_wp2
  go_ret
  exact ⟨rfl, rfl⟩

/-- a slice of lots that came in -/
def Came (w : World) (v : Value) (l : List Cv.Lot) : Prop := (l = [] ∧ ∃ a cap, v = .slice a 0 cap) ∨ ∃ g cap, v = .slice (some g) l.length cap ∧ ArgAt w g l
theorem Came.later {w w' : World} {v : Value} {l : List Cv.Lot} (h : Came w v l) (hb : Below w.heap.size w w') : Came w' v l := by
  rcases h with h | ⟨g, cap, h1, h2⟩
  · exact .inl h
  · exact .inr ⟨g, cap, h1, h2.later hb⟩
theorem came_of {w : World} {a : Option Addr} {cap : Nat} {l : List Cv.Lot} (h : ArgLots w a l) : Came w (.slice a l.length cap) l := by
  rcases h with rfl | ⟨g, rfl, hc⟩
  · exact .inl ⟨rfl, _, _, rfl⟩
  · exact .inr ⟨g, cap, rfl, argAt_of_flat hc⟩
theorem demandOf_any (v : Value) (l : List Cv.Lot) (p : Int) (w : World) (hv : Came w v l) (hok : Cv.Well l) : Calls Tryd.prog 17 #[v, .int .i64 p] w fun e w' => e = .returned (.int .i64 (Cv.demand l p)) ∧ w' = w := by
  rcases hv with ⟨rfl, a, cap, rfl⟩ | ⟨g, cap, rfl, hl⟩
  · exact demandOf_none a cap p w
  · exact demandOf_some g _ cap p l w rfl hok hl
theorem supplyOf_any (v : Value) (l : List Cv.Lot) (p : Int) (w : World) (hv : Came w v l) (hok : Cv.Well l) : Calls Tryd.prog 18 #[v, .int .i64 p] w fun e w' => e = .returned (.int .i64 (Cv.supply l p)) ∧ w' = w := by
  rcases hv with ⟨rfl, a, cap, rfl⟩ | ⟨g, cap, rfl, hl⟩
  · exact supplyOf_none a cap p w
  · exact supplyOf_some g _ cap p l w rfl hok hl
theorem Came.form {w : World} {v : Value} {l : List Cv.Lot} (h : Came w v l) : ∃ a n cap, v = .slice a n cap := by
  rcases h with ⟨_, a, cap, rfl⟩ | ⟨g, cap, rfl, _⟩
  · exact ⟨_, _, _, rfl⟩
  · exact ⟨_, _, _, rfl⟩
end Go.Proofs.YtbkjjknlphlhlaaDoor
