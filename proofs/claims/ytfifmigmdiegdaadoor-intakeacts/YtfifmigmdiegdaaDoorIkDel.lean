/- slices.Delete of the first requests of a row by its contract. -/
import Derived.Test.YtfifmigmdiegdaaDoorIkClear
namespace Go.Proofs.YtfifmigmdiegdaaDoor
open Go.RowKit
set_option maxRecDepth 100000
/-- a block's cells behind a store of some -/
theorem setCells_block {e : TypeId} {fz : Nat × Nat} (g : Nat) : ∀ (vs : List Value) (o : Nat) (w : World) (cur : Array Value), w.heap[g]? = some (.cells cur e fz) → o + vs.length ≤ cur.size →
    ∃ cur', (w.setCells g o vs).heap[g]? = some (.cells cur' e fz) ∧ cur'.size = cur.size ∧ cur'.toList = cur.toList.take o ++ vs ++ cur.toList.drop (o + vs.length)
  | [], o, w, cur, h, hs => ⟨cur, h, rfl, by simp⟩
  | v :: vs, o, w, cur, h, hs => by
    have hlt := lt_of_block h
    have h' : w.heap[g] = .cells cur e fz := by simpa [Array.getElem?_eq_getElem hlt] using h
    have h1 : (w.setCell ⟨g, o, none⟩ v).heap[g]? = some (.cells (cur.setIfInBounds o v) e fz) := by
      show (w.heap.modify g _)[g]? = _
      rw [Array.getElem?_eq_getElem (by simpa using hlt), Array.getElem_modify_self, h']
      rfl
    simp only [List.length_cons] at hs
    obtain ⟨cur', a1, a2, a3⟩ := setCells_block g vs (o + 1) _ _ h1 (by simp; omega)
    refine ⟨cur', a1, by rw [a2]; simp, ?_⟩
    rw [a3]
    simp only [List.length_cons, Array.toList_setIfInBounds]
    have ho : o < cur.toList.length := by simp; omega
    rw [List.take_succ_eq_append_getElem (by simpa using ho), List.take_set_of_le (Nat.le_refl o), List.getElem_set_self, List.drop_set_of_lt (by omega), show o + 1 + vs.length = o + (vs.length + 1) by omega]
    simp
/-- a row of the call's own behind a store of some of its cells -/
theorem row_setCells {w : World} {base : Nat} {e : TypeId} {s g n cap : Nat} {xs : List Value} (h : w.ownsRow base e s (.slice (some ⟨g, 0, none⟩) n cap) n xs) (o : Nat) (vs : List Value) (m : Nat) (hm : m ≤ cap) (hv : o + vs.length ≤ n * s) (ys : List Value) (hy : ys.length = m * s) (hmn : m ≤ n) (he : (xs.take o ++ vs ++ xs.drop (o + vs.length)).take (m * s) = ys) :
    (w.setCells g o vs).ownsRow base e s (.slice (some ⟨g, 0, none⟩) m cap) m ys := by
  rcases h.2 with ⟨e1, _⟩ | ⟨g', cap', cur, e1, hg, hgg, h1, h2, h3, h4⟩
  · cases e1
  · obtain ⟨rfl, rfl⟩ : g = g' ∧ cap = cap' := by simpa using e1
    have hle : n * s ≤ cur.size := by rw [h3]; exact Nat.mul_le_mul_right _ h1
    obtain ⟨cur', a1, a2, a3⟩ := setCells_block g vs o w cur hgg (by omega)
    refine ⟨hy, .inr ⟨g, cap, cur', rfl, hg, a1, hm, h2, by rw [a2, h3], ?_⟩⟩
    have hms : m * s ≤ n * s := Nat.mul_le_mul_right _ hmn
    rw [a3, ← he, ← h4]
    have hx : cur.toList = cur.toList.take (n * s) ++ cur.toList.drop (n * s) := (List.take_append_drop _ _).symm
    have hl : (cur.toList.take (n * s)).length = n * s := by rw [List.length_take]; simp; omega
    generalize cur.toList.take (n * s) = A at *
    generalize cur.toList.drop (n * s) = C at *
    have e1 : (A ++ C).take o = A.take o := List.take_append_of_le_length (by omega)
    have e2 : (A ++ C).drop (o + vs.length) = A.drop (o + vs.length) ++ C := List.drop_append_of_le_length (by omega)
    rw [hx, e1, e2, ← List.append_assoc]
    exact List.take_append_of_le_length (by simp only [List.length_append, List.length_take, List.length_drop]; omega)
/-- a row's cells are there, and may be written -/
theorem row_open {w : World} {base : Nat} {e : TypeId} {s g n cap : Nat} {xs : List Value} (h : w.ownsRow base e s (.slice (some ⟨g, 0, none⟩) n cap) n xs) (j : Nat) (hj : j < n * s) : (w.cell? ⟨g, j, none⟩).isSome = true ∧ w.frozen? ⟨g, j, none⟩ = false ∧ w.cell? ⟨g, j, none⟩ = xs[j]? := by
  rcases h.2 with ⟨e1, _⟩ | ⟨g', cap', cur, e1, hg, hgg, h1, h2, h3, h4⟩
  · cases e1
  · obtain ⟨rfl, rfl⟩ : g = g' ∧ cap = cap' := by simpa using e1
    have hle : n * s ≤ cur.size := by rw [h3]; exact Nat.mul_le_mul_right _ h1
    have e2 : w.cell? ⟨g, j, none⟩ = xs[j]? := by
      rw [cell_of_row w g j cur e (0, 0) hgg, ← h4, List.getElem?_take_of_lt hj]; simp
    have e3 : (w.cell? ⟨g, j, none⟩).isSome = true := by
      rw [cell_of_row w g j cur e (0, 0) hgg]; simp; omega
    exact ⟨e3, by simp [World.frozen?, hgg], e2⟩
def zer (J : Nat) : List Value := aflat (List.replicate J az)
theorem zer_len (J : Nat) : (zer J).length = J * 8 := by unfold zer; rw [aflat_length]; simp
/-- clear of so many requests' cells -/
theorem run_clear_asks (w : World) (ty : TypeId) (b o J c : Nat) (hJ : J = 1 ∨ J = 2) (hc : ∀ j, j < J * 8 → (w.cell? ⟨b, o + j, none⟩).isSome = true) (hf : ∀ j, j < J * 8 → w.frozen? ⟨b, o + j, none⟩ = false) :
    (Builtin.clear_ #[33] ty #[.slice (some ⟨b, o, none⟩) J c]).run Tryd.prog w = .ok (.tuple #[]) (w.setCells b o (zer J)) := by
  have hzc : (Builtin.zeroCells (Value.agg #[.int .u8 0, .int .i64 0, .int .i64 0, .int .i64 0, .int .i64 0, .int .i64 0, .int .i64 0, .int .i64 0]).cells J).toList = zer J := by
    rcases hJ with rfl | rfl <;> kernel_rfl
  have hst := run_storeCells_cells (P := Tryd.prog) b o (zer J) 0 w (fun j hj => by rw [zer_len] at hj; simpa using hc j hj) (fun j hj => by rw [zer_len] at hj; simpa using hf j hj) (aflat_one _)
  simp only [Nat.add_zero] at hst
  rcases hJ with rfl | rfl <;> simp [Builtin.clear_, run_underlying Tryd.underlying33, hzc, hst]
theorem delete_none (v : Value) (n : Nat) (base : Nat) (xs : List Value) (w : World) (hr : Hid (w.ownsRow base 30 8 v n xs)) : Calls Tryd.prog 21 #[v, .int .i64 0, .int .i64 0] w fun e w' => e = .returned v ∧ w' = w := by
  have hsl : ∃ a c, v = .slice a n c ∧ (a = none → n = 0 ∧ c = 0) ∧ n ≤ c := by
    rcases hr.out.2 with ⟨rfl, rfl⟩ | ⟨g, cap, cur, rfl, _, _, h, _⟩
    · exact ⟨_, _, rfl, fun _ => ⟨rfl, rfl⟩, Nat.le_refl _⟩
    · exact ⟨_, _, rfl, fun h => (by cases h), h⟩
  obtain ⟨a, c, rfl, ha, hc⟩ := hsl
  cases a with
  | none =>
    obtain ⟨rfl, rfl⟩ := ha rfl
    clear ha
    go_enter Tryd.func21, Tryd.ntmps21
    go_wp2
    go_ret
    exact ⟨rfl, rfl⟩
  | some g =>
    clear ha
    go_enter Tryd.func21, Tryd.ntmps21
    go_wp2
    go_ret
    exact ⟨rfl, rfl⟩
set_option maxHeartbeats 1000000 in
theorem delete_some (g cap n j base : Nat) (l : List Ask) (w : World) (hn : Hid (l.length = n)) (hrow : w.ownsRow base 30 8 (.slice (some ⟨g, 0, none⟩) n cap) n (aflat l)) (hJ : Hid (j = 1 ∨ j = 2)) (hj0 : 0 < j) (hjn : j ≤ n) (hcap : n ≤ cap) :
    Calls Tryd.prog 21 #[.slice (some ⟨g, 0, none⟩) n cap, .int .i64 0, .int .i64 j] w fun e w' => e = .returned (.slice (some ⟨g, 0, none⟩) (n - j) cap) ∧ w'.ownsRow base 30 8 (.slice (some ⟨g, 0, none⟩) (n - j) cap) (n - j) (aflat (l.drop j)) ∧ w.grownBy w' (some g) := by
  obtain ⟨i0, z0, hi, hz0, hz1, hz2, hz3⟩ := info30
  have hne : ¬ ((0 : Int) = j) := by omega
  obtain ⟨news, hnews⟩ : ∃ news, news = aflat (l.drop j) := ⟨_, rfl⟩
  have hlen : news.length = (n - j) * 8 := by rw [hnews, aflat_length, List.length_drop, hn.out]
  have hget : ∀ t u, news[t]? = some u → w.cell? ⟨g, j * 8 + t, none⟩ = some u := by
    intro t u hu
    have ht : t < (n - j) * 8 := by
      have := (List.getElem?_eq_some_iff.1 hu).1
      rwa [hlen] at this
    rw [(row_open hrow (j * 8 + t) (by omega)).2.2]
    rw [hnews, ← aflat_drop l j (by rw [hn.out]; exact hjn), List.getElem?_drop] at hu
    exact hu
  obtain ⟨A, hA, hsrc⟩ : ∃ A : Addr, (if cap = j then some (⟨g, 0, none⟩ : Addr) else some ⟨g, j * 8, none⟩) = some A ∧ Hid (∀ t u, news[t]? = some u → w.drew.cell? (A.add t) = some u) := by
    by_cases h : cap = j
    · refine ⟨⟨g, 0, none⟩, by simp [h], fun t u hu => ?_⟩
      have h0 : news.length = 0 := by rw [hlen]; omega
      rw [List.length_eq_zero_iff.1 h0] at hu
      simp at hu
    · refine ⟨⟨g, j * 8, none⟩, by simp [h], fun t u hu => ?_⟩
      rw [Addr.add_lit]
      exact hget t u hu
  have s1 : Hid (news.length = (n - j) * 8) := hlen
  have s2 : Hid (∀ u ∈ news, u.oneCell' = true) := by
    intro u hu
    rw [hnews] at hu
    exact aflat_one _ u hu
  have s3 : Hid (∀ t, t < news.length → (w.drew.cell? ⟨g, 0 + 0 * 8 + t, none⟩).isSome = true ∧ w.drew.frozen? ⟨g, 0 + 0 * 8 + t, none⟩ = false) := by
    intro t ht
    rw [hlen] at ht
    have h := row_open hrow (0 + 0 * 8 + t) (by omega)
    exact ⟨h.1, h.2.1⟩
  have hrowd : w.drew.ownsRow base 30 8 (.slice (some ⟨g, 0, none⟩) n cap) n (aflat l) := hrow
  obtain ⟨W1, hW1⟩ : ∃ W1, W1 = w.drew.setCells g (0 + 0 * 8) news := ⟨_, rfl⟩
  have hfl : (aflat l).length = n * 8 := by rw [aflat_length, hn.out]
  obtain ⟨ys, hys⟩ : ∃ ys, ys = (aflat l).take (0 + 0 * 8) ++ news ++ (aflat l).drop (0 + 0 * 8 + news.length) := ⟨_, rfl⟩
  have hyl : ys.length = n * 8 := by
    rw [hys]
    simp only [List.length_append, List.length_take, List.length_drop, hlen, hfl]; omega
  have hr1 : W1.ownsRow base 30 8 (.slice (some ⟨g, 0, none⟩) n cap) n ys := by
    rw [hW1]
    exact row_setCells hrowd _ news n hcap (by rw [hlen]; omega) ys hyl (Nat.le_refl _) (by rw [← hys]; exact List.take_of_length_le (by omega))
  have hcl : ∀ ty, (Builtin.clear_ #[33] ty #[.slice (some ⟨g, (n - j) * 8, none⟩) (n - (n - j)) (cap - (n - j))]).run Tryd.prog W1 = .ok (.tuple #[]) (W1.setCells g ((n - j) * 8) (zer j)) := by
    intro ty
    rw [show n - (n - j) = j by omega]
    exact run_clear_asks W1 ty g _ j _ hJ.out (fun t ht => (row_open hr1 _ (by omega)).1) (fun t ht => (row_open hr1 _ (by omega)).2.1)
  have HR : Hid ((W1.setCells g ((n - j) * 8) (zer j)).ownsRow base 30 8 (.slice (some ⟨g, 0, none⟩) (n - j) cap) (n - j) (aflat (l.drop j))) := by
    have hd : (l.drop j).length = n - j := by rw [List.length_drop, hn.out]
    refine row_setCells hr1 _ (zer j) (n - j) (by omega) (by rw [zer_len]; omega) _ (by rw [aflat_length, hd]) (by omega) ?_
    rw [List.append_assoc, List.take_append_of_le_length (by rw [List.length_take, hyl]; omega), List.take_take, Nat.min_self, hys]
    rw [List.take_append_of_le_length (by simp only [List.length_append, List.length_take, hlen, hfl]; omega), List.take_of_length_le (by simp only [List.length_append, List.length_take, hlen, hfl]; omega)]
    rw [hnews]
    simp
  have HG : Hid (w.grownBy (W1.setCells g ((n - j) * 8) (zer j)) (some g)) := by
    have o1 := Turned.setCells w.drew g news (0 + 0 * 8)
    rw [← hW1] at o1
    have o2 := o1.trans (Turned.setCells W1 g (zer j) ((n - j) * 8)) (fun k h => .inl h)
    exact ⟨o2.os, o2.tape, o2.output, o2.size, fun k hk h => o2.block k hk (fun e => h (by rw [e]))⟩
  have hW : Hid (W1 = w.drew.setCells g (0 + 0 * 8) news) := hW1
  have HI := hide hi; have HZ := hide hz1
  have hjc : j ≤ cap := by omega
  have hnj : n - j ≤ cap := by omega
  clear hW1 hr1 hys hyl hfl hrowd hget hnews hlen hrow hi hz0 hz1 hz2 hz3
  go_enter Tryd.func21, Tryd.ntmps21
  go_wp2_with fail
  go_region_law (refine step_append_room rfl (.tmp 22) (.tmp 25) 33 rfl 30 i0 8 Tryd.underlying33 HI.out HZ.out g 0 0 cap (by simp [Act.eval, Act.put]) A (n - j) (cap - j) news (by simp [Act.eval, Act.put]) s1.out hsrc.out s2.out (by omega) s3.out ?_; rw [← hW.out])
  all_goals go_wp2
  all_goals go_ret
  all_goals exact ⟨by simp, HR.out, HG.out⟩
end Go.Proofs.YtfifmigmdiegdaaDoor
