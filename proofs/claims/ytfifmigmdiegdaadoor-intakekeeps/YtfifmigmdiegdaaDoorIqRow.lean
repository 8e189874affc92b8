/- Rows of requests that begin somewhere in their block, and six of them in an array: what an append, a cut of the first one and a store leave. -/
import Derived.Test.YtfifmigmdiegdaaDoorIkArg
import Derived.ArgAppend
namespace Go.Proofs.YtfifmigmdiegdaaDoor
open Go.RowKit
set_option maxRecDepth 100000
/-- a slice of requests of the law's own, wherever it begins in its block -/
def Off (w : World) (base : Nat) (v : Value) (l : List Ask) : Prop :=
  (v = .slice none 0 0 ∧ l = []) ∨ ∃ g o cap cur, v = .slice (some ⟨g, o, none⟩) l.length cap ∧ base ≤ g ∧ w.heap[g]? = some (.cells cur 30 (0, 0)) ∧ l.length ≤ cap ∧ cap ≤ maxLen ∧ o + cap * 8 ≤ cur.size ∧ (cur.toList.drop o).take (l.length * 8) = aflat l
section
variable {w w' : World} {base : Nat} {v : Value} {l : List Ask}
theorem Off.of_row (h : w.ownsRow base 30 8 v l.length (aflat l)) : Off w base v l := by
  rcases h.2 with ⟨e, e2⟩ | ⟨g, cap, cur, e, h1, h2, h3, h4, h5, h6⟩
  · exact .inl ⟨e, List.eq_nil_of_length_eq_zero e2⟩
  · exact .inr ⟨g, 0, cap, cur, e, h1, h2, h3, h4, by omega, by simpa using h6⟩
theorem Off.lt (h : Off w base v l) : ∀ k, v.ownBlock = some k → base ≤ k ∧ k < w.heap.size := by
  intro k hk
  rcases h with ⟨e, _⟩ | ⟨g, o, cap, cur, e, h1, h2, _⟩
  · rw [e] at hk; cases hk
  · rw [e] at hk
    obtain rfl : g = k := by simpa [Value.ownBlock] using hk
    exact ⟨h1, lt_of_block h2⟩
theorem Off.turned {S : Nat → Prop} (h : Off w base v l) (ht : Turned w w' S) (ha : ∀ k, v.ownBlock = some k → ¬ S k) : Off w' base v l := by
  rcases h with h | ⟨g, o, cap, cur, rfl, h1, h2, h3⟩
  · exact .inl h
  · exact .inr ⟨g, o, cap, cur, rfl, h1, by rw [ht.block g (lt_of_block h2) (ha g rfl)]; exact h2, h3⟩
theorem Off.form (h : Off w base v l) : ∃ a c, v = .slice a l.length c := by
  rcases h with ⟨rfl, rfl⟩ | ⟨g, o, cap, cur, rfl, _⟩
  · exact ⟨_, _, rfl⟩
  · exact ⟨_, _, rfl⟩
theorem Off.base_le {b2 : Nat} (h : Off w base v l) (hb : b2 ≤ base) : Off w b2 v l := by
  rcases h with h | ⟨g, o, cap, cur, e, h1, h2⟩
  · exact .inl h
  · exact .inr ⟨g, o, cap, cur, e, by omega, h2⟩
theorem Off.ne_type {q : Nat} {cur : Array Value} {e2 : TypeId} (h : Off w base v l) (hq : w.heap[q]? = some (.cells cur e2 (0, 0))) (hne : 30 ≠ e2) : v.ownBlock ≠ some q := by
  intro hk
  rcases h with ⟨e, _⟩ | ⟨g, o, cap, cur2, e, h1, h2, _⟩
  · rw [e] at hk; cases hk
  · rw [e] at hk
    obtain rfl : g = q := by simpa [Value.ownBlock] using hk
    rw [hq] at h2
    simp at h2
    exact hne h2.2.symm
/-- the cells of a request of it -/
theorem Off.cells (h : Off w base v l) (i : Nat) (hi : i < l.length) : ∃ g o cap, v = .slice (some ⟨g, o, none⟩) l.length cap ∧ l.length ≤ cap ∧ ∀ j, j < 8 → w.cell? ⟨g, o + i * 8 + j, none⟩ = (askC (anth l i))[j]? := by
  rcases h with ⟨_, e⟩ | ⟨g, o, cap, cur, e, h1, h2, h3, h4, h5, h6⟩
  · rw [e] at hi; cases hi
  · refine ⟨g, o, cap, e, h3, fun j hj => ?_⟩
    rw [cell_of_row w g _ cur 30 (0, 0) h2, ← aflat_get l i j hi hj, ← h6, List.getElem?_take_of_lt (by omega), List.getElem?_drop, Nat.add_assoc]
    simp
/-- the first one is cut off -/
theorem Off.tail {g o n cap : Nat} {x : Ask} (h : Off w base (.slice (some ⟨g, o, none⟩) n cap) (x :: l)) : n = l.length + 1 ∧ Off w base (.slice (some (if cap = 1 then ⟨g, o, none⟩ else ⟨g, o + 8, none⟩)) l.length (cap - 1)) l := by
  rcases h with ⟨e, _⟩ | ⟨g', o', cap', cur, e, h1, h2, h3, h4, h5, h6⟩
  · cases e
  · obtain ⟨⟨rfl, rfl⟩, rfl, rfl⟩ : (g = g' ∧ o = o') ∧ n = (x :: l).length ∧ cap = cap' := by simpa using e
    refine ⟨rfl, ?_⟩
    simp only [List.length_cons] at h3 h6
    by_cases hc : cap = 1
    · rw [if_pos hc]
      have h0 : l.length = 0 := by omega
      have hl : l = [] := List.eq_nil_of_length_eq_zero h0
      subst hl
      exact .inr ⟨g, o, cap - 1, cur, rfl, h1, h2, by simp, by omega, by omega, by simp [aflat]⟩
    · rw [if_neg hc]
      refine .inr ⟨g, o + 8, cap - 1, cur, rfl, h1, h2, by omega, by omega, by omega, ?_⟩
      have e2 : aflat (x :: l) = askC x ++ aflat l := rfl
      have h7 := congrArg (List.drop 8) h6
      rw [e2] at h7
      have h8 : (askC x).length = 8 := rfl
      rw [← h8, List.drop_left, h8, List.drop_take, List.drop_drop] at h7
      rw [← h7]
      congr 1
      omega
/-- one more behind it -/
theorem run_append_off (w : World) (base : Nat) (v : Value) (l : List Ask) (h : Off w base v l) (x : Ask) (a : Addr) (hx : ∀ j u, (askC x)[j]? = some u → w.cell? (a.add j) = some u) (hn : l.length ≤ 1000) (hb : base ≤ w.heap.size) :
    ∃ v' w', (Builtin.append_ #[33, 33] 33 #[v, .slice (some a) 1 1]).run Tryd.prog w = .ok v' w' ∧ Off w' base v' (l ++ [x]) ∧ w.grownBy w' v.ownBlock ∧ ∀ k, v'.ownBlock = some k → v.ownBlock = some k ∨ w.heap.size ≤ k := by
  obtain ⟨i0, z0, hi0, hz0, hz1, hz2, hz3⟩ := info30
  have h1c : ∀ u ∈ askC x, u.oneCell' = true := fun u hu => aflat_one [x] u (by simpa [aflat] using hu)
  rcases h with ⟨rfl, rfl⟩ | ⟨g, o, cap, cur, rfl, h1, h2, h3, h4, h5, h6⟩
  · obtain ⟨v', w', e1, e2, e3, _, e4⟩ := run_append_own_at (P := Tryd.prog) w base 33 33 30 i0 z0 8 64 Tryd.underlying33 hi0 hz0 hz1 hz2 hz3 (by decide) (.slice none 0 0) 0 [] (World.ownsRow_nil _ _ _ _) a 1 1 (askC x) rfl hx h1c (by unfold maxLen; omega) (by omega) hb
    refine ⟨v', w', e1, Off.of_row (l := [x]) (by simpa [aflat] using e2), e3, fun k hk => ?_⟩
    rcases e4 with h | h
    · rw [h] at hk; exact .inl hk
    · rw [h] at hk; exact .inr (Nat.le_of_eq (Option.some.inj hk))
  · by_cases hr : l.length + 1 ≤ cap
    · have hlc : (askC x).length = 8 := rfl
      have hcs : ∀ j, j < (askC x).length → (w.cell? ⟨g, o + l.length * i0.size + j, none⟩).isSome = true := fun j hj => by
        rw [hz1, cell_of_row w g _ cur 30 (0, 0) h2]
        rw [hlc] at hj
        simp; omega
      have hfs : ∀ j, j < (askC x).length → w.frozen? ⟨g, o + l.length * i0.size + j, none⟩ = false := fun j hj => by simp [World.frozen?, h2]
      have hrun := run_append_room_cells (P := Tryd.prog) w 33 33 30 i0 Tryd.underlying33 hi0 g o l.length cap a 1 1 (askC x) (by rw [hz1]; rfl) hx h1c hr hcs hfs
      rw [hz1] at hrun
      obtain ⟨cur', a1, a2, a3⟩ := setCells_block g (askC x) (o + l.length * 8) w cur h2 (by rw [hlc]; omega)
      refine ⟨_, _, hrun, .inr ⟨g, o, cap, cur', by simp, h1, a1, by simpa using hr, h4, by rw [a2]; exact h5, ?_⟩, ?_, fun k hk => .inl hk⟩
      · rw [a3, aflat_append]
        have e0 : aflat [x] = askC x := by simp [aflat]
        have hl2 : (cur.toList.take (o + l.length * 8)).length = o + l.length * 8 := by rw [List.length_take]; simp; omega
        have e1 : (cur.toList.take (o + l.length * 8)).drop o = aflat l := by
          rw [List.drop_take, Nat.add_sub_cancel_left]; exact h6
        rw [e0, List.append_assoc, List.drop_append_of_le_length (by omega), e1, ← List.append_assoc]
        have e2 : (l ++ [x]).length * 8 = (aflat l ++ askC x).length := by rw [List.length_append, List.length_append, aflat_length, hlc]; simp; omega
        rw [e2, List.take_left]
      · have t := Turned.setCells w g (askC x) (o + l.length * 8)
        exact ⟨t.os, t.tape, t.output, t.size, fun k hk hne => t.block k hk (fun e => hne (by rw [e]; rfl))⟩
    · have hold : ∀ j u, (aflat l)[j]? = some u → w.cell? ((⟨g, o, none⟩ : Addr).add j) = some u := fun j u hj => by
        rw [Addr.add_lit, cell_of_row w g _ cur 30 (0, 0) h2]
        have hjl : j < l.length * 8 := by have := (List.getElem?_eq_some_iff.1 hj).1; rwa [aflat_length] at this
        rw [← h6, List.getElem?_take_of_lt hjl, List.getElem?_drop] at hj
        simpa using hj
      obtain ⟨v', w', e1, e2, e3⟩ := run_append_arg_grows (P := Tryd.prog) w 33 33 30 i0 z0 8 64 Tryd.underlying33 hi0 hz0 hz1 hz2 hz3 (by decide) ⟨g, o, none⟩ l.length cap (aflat l) (aflat_length l) hold a 1 1 (askC x) rfl hx (by omega) (by unfold maxLen; omega) (by omega)
      refine ⟨v', w', e1, (Off.of_row (l := l ++ [x]) (by rw [aflat_append]; simpa [aflat] using e2)).base_le hb, ⟨e3.os, e3.tape, e3.output, e3.size, fun k hk _ => e3.block k hk (by simp)⟩, fun k hk => .inr (e2.lt k hk).1⟩
end
/-- six slices in an array -/
def srow (U : Nat → Value) : Array Value := #[U 0, U 1, U 2, U 3, U 4, U 5]
theorem srow_get (U : Nat → Value) {c : Nat} (hc : c < 6) : (srow U)[c]? = some (U c) := by
  match c, hc with
  | 0, _ => rfl
  | 1, _ => rfl
  | 2, _ => rfl
  | 3, _ => rfl
  | 4, _ => rfl
  | 5, _ => rfl
theorem srow_set (U : Nat → Value) {c : Nat} (hc : c < 6) (v : Value) : (srow U).setIfInBounds c v = srow (Ik.upd U c v) := by
  match c, hc with
  | 0, _ => rfl
  | 1, _ => rfl
  | 2, _ => rfl
  | 3, _ => rfl
  | 4, _ => rfl
  | 5, _ => rfl
structure Wai (w : World) (base B : Nat) (U : Nat → Value) (M : Nat → List Ask) : Prop where
  cell : w.heap[B]? = some (.cells (srow U) 37 (0, 0))
  lo : base ≤ B
  row : ∀ c, c < 6 → Off w base (U c) (M c)
  apart : ∀ c d, c < 6 → d < 6 → c ≠ d → ∀ k, (U c).ownBlock = some k → (U d).ownBlock ≠ some k
section
variable {w w' w2 : World} {base B : Nat} {U U' : Nat → Value} {M : Nat → List Ask}
theorem Wai.lt (h : Wai w base B U M) : B < w.heap.size := lt_of_block h.cell
theorem Wai.own_lt (h : Wai w base B U M) {k : Nat} (hk : qown B U k) : base ≤ k ∧ k < w.heap.size := by
  rcases hk with rfl | ⟨c, hc, hk⟩
  · exact ⟨h.lo, h.lt⟩
  · exact (h.row c hc).lt k hk
theorem Wai.ne (h : Wai w base B U M) {c : Nat} (hc : c < 6) : (U c).ownBlock ≠ some B := (h.row c hc).ne_type h.cell (by decide)
theorem Wai.turned {S : Nat → Prop} (h : Wai w base B U M) (ho : Turned w w' S) (hs : ∀ k, qown B U k → ¬ S k) : Wai w' base B U M :=
  ⟨by rw [ho.block B h.lt (hs B (.inl rfl))]; exact h.cell, h.lo, fun c hc => (h.row c hc).turned ho (fun k hk => hs k (.inr ⟨c, hc, hk⟩)), h.apart⟩
theorem Wai.later (h : Wai w base B U M) (hb : Below w.heap.size w w') : Wai w' base B U M := h.turned (Turned.of_below hb (fun _ => False)) (fun _ _ h => h)
theorem Wai.at (h : Wai w base B U M) {c : Nat} (hc : c < 6) : w.cell? ⟨B, c, none⟩ = some (U c) := by
  rw [cell_of_row w B c _ _ _ h.cell]; exact srow_get U hc
theorem Wai.free (h : Wai w base B U M) (c : Nat) : w.frozen? ⟨B, c, none⟩ = false := by simp [World.frozen?, h.cell]
theorem Wai.set (h : Wai w base B U M) {c : Nat} (hc : c < 6) (hg : w.grownBy w2 (U c).ownBlock) {v' : Value} {l' : List Ask} (hr : Off w2 base v' l') (hn : ∀ k, v'.ownBlock = some k → (U c).ownBlock = some k ∨ w.heap.size ≤ k) :
    Wai (w2.setCell ⟨B, c, none⟩ v') base B (Ik.upd U c v') (Ik.upd M c l') ∧ QStep w (w2.setCell ⟨B, c, none⟩ v') B U (Ik.upd U c v') := by
  have hcell : w2.heap[B]? = some (.cells (srow U) 37 (0, 0)) := by rw [hg.block B h.lt (fun e => h.ne hc e.symm)]; exact h.cell
  have hp' : v'.ownBlock ≠ some B := hr.ne_type hcell (by decide)
  have hsc := Turned.setCell w2 B c v'
  have hrow : ∀ d, d < 6 → d ≠ c → Off w2 base (U d) (M d) := fun d hd hdc =>
    (h.row d hd).turned (Turned.of_grown hg) (fun k hk e => h.apart d c hd hc hdc k hk e.symm)
  refine ⟨⟨?_, h.lo, ?_, ?_⟩, ⟨?_, ?_⟩⟩
  · rw [block_setCell hcell, srow_set U hc]
  · intro d hd
    by_cases hdc : d = c
    · subst hdc
      rw [Ik.upd_same, Ik.upd_same]
      exact hr.turned hsc (fun k hk e => hp' (by rw [hk, e]))
    · rw [Ik.upd_other _ _ hdc, Ik.upd_other _ _ hdc]
      exact (hrow d hd hdc).turned hsc (fun k hk e => h.ne hd (by rw [hk, e]))
  · intro d e hd he hde k hk
    have new_old : ∀ d, d < 6 → d ≠ c → ∀ k, v'.ownBlock = some k → (U d).ownBlock ≠ some k := fun d hd hdc k hk h3 => by
      rcases hn k hk with h4 | h4
      · exact h.apart d c hd hc hdc k h3 h4
      · have := ((h.row d hd).lt k h3).2
        omega
    by_cases hdc : d = c
    · subst hdc
      rw [Ik.upd_same] at hk
      rw [Ik.upd_other _ _ (Ne.symm hde)]
      exact new_old e he (Ne.symm hde) k hk
    · rw [Ik.upd_other _ _ hdc] at hk
      by_cases hec : e = c
      · subst hec
        rw [Ik.upd_same]
        exact fun h3 => new_old d hd hdc k h3 hk
      · rw [Ik.upd_other _ _ hec]
        exact h.apart d e hd he hde k hk
  · refine ((Turned.of_grown hg).mono (fun k hk => .inr ⟨c, hc, hk.symm⟩)).trans hsc (fun k hk => .inl (.inl hk))
  · intro k hk
    rcases hk with rfl | ⟨d, hd, hk⟩
    · exact .inl (.inl rfl)
    · by_cases hdc : d = c
      · subst hdc
        rw [Ik.upd_same] at hk
        rcases hn k hk with h4 | h4
        · exact .inl (.inr ⟨d, hd, h4⟩)
        · exact .inr h4
      · rw [Ik.upd_other _ _ hdc] at hk
        exact .inl (.inr ⟨d, hd, hk⟩)
theorem Wai.openAt (h : Wai w base B U M) {c : Nat} (hc : c < 6) (hg : w.grownBy w2 (U c).ownBlock) : w2.heap[B]? = some (.cells (srow U) 37 (0, 0)) := by
  rw [hg.block B h.lt (fun e => h.ne hc e.symm)]; exact h.cell
end
/-- an intake, and beside it six lists of what waits in it -/
structure Both (w W : World) (p B : Nat) (V : Nat → Value) (t : Nat) (L : Nat → List Ask) (U : Nat → Value) (M : Nat → List Ask) : Prop where
  itk : Itk W p p V t L
  own : Ik.Own L
  wai : Wai W B B U M
  dis : ∀ k, qown p V k → ¬ qown B U k
  lo : w.heap.size ≤ p ∧ w.heap.size ≤ B
  below : Below w.heap.size w W
section
variable {w W W' : World} {p B t t' : Nat} {V V' U U' : Nat → Value} {L L' M M' : Nat → List Ask}
theorem Both.later (h : Both w W p B V t L U M) (hb : Below W.heap.size W W') : Both w W' p B V t L U M :=
  ⟨h.itk.later hb, h.own, h.wai.later hb, h.dis, h.lo, h.below.trans (hb.mono h.below.size)⟩
/-- the intake goes on -/
theorem Both.goI (h : Both w W p B V t L U M) (hi : Itk W' p p V' t' L') (ho : Ik.Own L') (hs : QStep W W' p V V') : Both w W' p B V' t' L' U M :=
  ⟨hi, ho, h.wai.turned hs.turned (fun k hk e => h.dis k e hk), fun k hk e => by
    rcases hs.new k hk with h1 | h1
    · exact h.dis k h1 e
    · have := (h.wai.own_lt e).2
      omega, h.lo, h.below.trans (hs.below h.itk h.lo.1)⟩
/-- the lists go on -/
theorem Both.goW (h : Both w W p B V t L U M) (hw : Wai W' B B U' M') (hs : QStep W W' B U U') : Both w W' p B V t L U' M' :=
  ⟨h.itk.turned hs.turned (fun k hk e => h.dis k hk e), h.own, hw, fun k hk e => by
    rcases hs.new k e with h1 | h1
    · exact h.dis k hk h1
    · have := (h.itk.own_lt hk).2
      omega, h.lo, h.below.trans (hs.turned.below h.below.size (fun k hk => by have := (h.wai.own_lt hk).1; have := h.lo.2; omega))⟩
theorem Both.same (h : Both w W p B V t L U M) (hm : ∀ c, c < 6 → M c = M' c) : Both w W p B V t L U M' :=
  ⟨h.itk, h.own, ⟨h.wai.cell, h.wai.lo, fun c hc => by rw [← hm c hc]; exact h.wai.row c hc, h.wai.apart⟩, h.dis, h.lo, h.below⟩
end
end Go.Proofs.YtfifmigmdiegdaaDoor
