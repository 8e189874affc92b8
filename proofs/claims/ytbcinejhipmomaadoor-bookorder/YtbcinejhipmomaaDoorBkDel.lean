/- slices.Delete of one lot, and remove, by their contracts. -/
import Derived.Test.YtbcinejhipmomaaDoorBkFind
import Derived.Deep.RegionLaw
import Derived.Lib.SliceRun
import Derived.Lib.SmallJoins
namespace Go.Proofs.YtbcinejhipmomaaDoor
open Go.RowKit
set_option maxRecDepth 100000

def zeros5 : List Value := lotCells Cv.z
/-- clear of one lot's cells -/
theorem run_clear_lot (w : World) (ty : TypeId) (b o c : Nat) (hc : ∀ j, j < 5 → (w.cell? ⟨b, o + j, none⟩).isSome = true) (hf : ∀ j, j < 5 → w.frozen? ⟨b, o + j, none⟩ = false) :
    (Builtin.clear_ #[22] ty #[.slice (some ⟨b, o, none⟩) 1 c]).run Tryd.prog w = .ok (.tuple #[]) (w.setCells b o zeros5) := by
  have hzc : (Builtin.zeroCells (Value.agg #[.int .i64 0, .int .i64 0, .int .i64 0, .int .i64 0, .int .i64 0]).cells 1).toList = zeros5 := by kernel_rfl
  have hst := run_storeCells_cells (P := Tryd.prog) b o zeros5 0 w (fun j hj => by simpa using hc j hj) (fun j hj => by simpa using hf j hj) (by
    intro v hv
    simp only [zeros5, lotCells, List.mem_cons, List.not_mem_nil, or_false] at hv
    rcases hv with rfl | rfl | rfl | rfl | rfl <;> rfl)
  simp only [Nat.add_zero] at hst
  simp [Builtin.clear_, run_underlying Tryd.underlying22, hzc, hst]

theorem flat_append (a b : List Cv.Lot) : flat (a ++ b) = flat a ++ flat b := by simp [flat]
theorem flat_take (l : List Cv.Lot) (k : Nat) (h : k ≤ l.length) : (flat l).take (k * 5) = flat (l.take k) := by
  have e : flat l = flat (l.take k) ++ flat (l.drop k) := by rw [← flat_append, List.take_append_drop]
  have hl : (flat (l.take k)).length = k * 5 := by rw [flat_length, List.length_take]; congr 1; omega
  rw [e, ← hl, List.take_left]
theorem flat_drop (l : List Cv.Lot) (k : Nat) (h : k ≤ l.length) : (flat l).drop (k * 5) = flat (l.drop k) := by
  have e : flat l = flat (l.take k) ++ flat (l.drop k) := by rw [← flat_append, List.take_append_drop]
  have hl : (flat (l.take k)).length = k * 5 := by rw [flat_length, List.length_take]; congr 1; omega
  rw [e, ← hl, List.drop_left]
/-- a row's cells are there, and may be written -/
theorem row_open {w : World} {base : Nat} {e : TypeId} {s g n cap : Nat} {xs : List Value} (h : w.ownsRow base e s (.slice (some ⟨g, 0, none⟩) n cap) n xs) (j : Nat) (hj : j < n * s) : (w.cell? ⟨g, j, none⟩).isSome = true ∧ w.frozen? ⟨g, j, none⟩ = false ∧ w.cell? ⟨g, j, none⟩ = xs[j]? := by
  rcases h.2 with ⟨e1, _⟩ | ⟨g', cap', cur, e1, hg, hgg, h1, h2, h3, h4⟩
  · cases e1
  · obtain ⟨rfl, rfl⟩ : g = g' ∧ cap = cap' := by simpa using e1
    have hle : n * s ≤ cur.size := by rw [h3]; exact Nat.mul_le_mul_right _ h1
    have e2 : w.cell? ⟨g, j, none⟩ = xs[j]? := by
      rw [cell_of_row w g j cur e (0, 0) hgg, ← h4, List.getElem?_take_of_lt hj]; simp
    have e3 : (w.cell? ⟨g, j, none⟩).isSome = true := by
      rw [cell_of_row w g j cur e (0, 0) hgg]; simp; omega
    exact ⟨e3, by simp [World.frozen?, hgg], e2⟩

set_option maxHeartbeats 1000000 in
theorem delete_any (g cap n i j base : Nat) (l : List Cv.Lot) (w : World) (hn : Hid (l.length = n)) (hrow : w.ownsRow base 43 5 (.slice (some ⟨g, 0, none⟩) n cap) n (flat l)) (hj : Hid (j = i + 1)) (hjn : j ≤ n) (hij : i < j) (hcap : n ≤ cap) :
    Calls Tryd.prog 74 #[.slice (some ⟨g, 0, none⟩) n cap, .int .i64 i, .int .i64 j] w fun e w' => e = .returned (.slice (some ⟨g, 0, none⟩) (n - 1) cap) ∧ w'.ownsRow base 43 5 (.slice (some ⟨g, 0, none⟩) (n - 1) cap) (n - 1) (flat (Bk.del l i)) ∧ w.grownBy w' (some g) := by
  obtain ⟨i0, z0, hi, hz0, hz1, hz2, hz3⟩ := info110
  have hne : ¬ ((i : Int) = j) := by omega
  obtain ⟨news, hnews⟩ : ∃ news, news = flat (l.drop j) := ⟨_, rfl⟩
  have hlen : news.length = (n - j) * 5 := by rw [hnews, flat_length, List.length_drop, hn.out]
  have hget : ∀ t u, news[t]? = some u → w.cell? ⟨g, j * 5 + t, none⟩ = some u := by
    intro t u hu
    have ht : t < (n - j) * 5 := by
      have := (List.getElem?_eq_some_iff.1 hu).1
      rwa [hlen] at this
    rw [(row_open hrow (j * 5 + t) (by omega)).2.2]
    rw [hnews, ← flat_drop l j (by rw [hn.out]; exact hjn), List.getElem?_drop] at hu
    exact hu
  obtain ⟨A, hA, hsrc⟩ : ∃ A : Addr, (if cap = j then some (⟨g, 0, none⟩ : Addr) else some ⟨g, j * 5, none⟩) = some A ∧ Hid (∀ t u, news[t]? = some u → w.drew.cell? (A.add t) = some u) := by
    by_cases h : cap = j
    · refine ⟨⟨g, 0, none⟩, by simp [h], fun t u hu => ?_⟩
      have h0 : news.length = 0 := by rw [hlen]; omega
      rw [List.length_eq_zero_iff.1 h0] at hu
      simp at hu
    · refine ⟨⟨g, j * 5, none⟩, by simp [h], fun t u hu => ?_⟩
      rw [Addr.add_lit]
      exact hget t u hu
  have s1 : Hid (news.length = (n - j) * 5) := hlen
  have s2 : Hid (∀ u ∈ news, u.oneCell' = true) := by
    intro u hu
    rw [hnews] at hu
    exact flat_one _ u hu
  have s3 : Hid (∀ t, t < news.length → (w.drew.cell? ⟨g, 0 + i * 5 + t, none⟩).isSome = true ∧ w.drew.frozen? ⟨g, 0 + i * 5 + t, none⟩ = false) := by
    intro t ht
    rw [hlen] at ht
    have h := row_open hrow (0 + i * 5 + t) (by omega)
    exact ⟨h.1, h.2.1⟩
  have hrowd : w.drew.ownsRow base 43 5 (.slice (some ⟨g, 0, none⟩) n cap) n (flat l) := hrow
  obtain ⟨W1, hW1⟩ : ∃ W1, W1 = w.drew.setCells g (0 + i * 5) news := ⟨_, rfl⟩
  have hfl : (flat l).length = n * 5 := by rw [flat_length, hn.out]
  -- the row behind the append: as long as it was
  obtain ⟨ys, hys⟩ : ∃ ys, ys = (flat l).take (0 + i * 5) ++ news ++ (flat l).drop (0 + i * 5 + news.length) := ⟨_, rfl⟩
  have hyl : ys.length = n * 5 := by
    rw [hys]
    simp only [List.length_append, List.length_take, List.length_drop, hlen, hfl]; omega
  have hr1 : W1.ownsRow base 43 5 (.slice (some ⟨g, 0, none⟩) n cap) n ys := by
    rw [hW1]
    exact row_setCells hrowd _ news n hcap (by rw [hlen]; omega) ys hyl (Nat.le_refl _) (by rw [← hys]; exact List.take_of_length_le (by omega))
  have hcl : ∀ ty, (Builtin.clear_ #[22] ty #[.slice (some ⟨g, (i + (n - j)) * 5, none⟩) (n - (i + (n - j))) (cap - (i + (n - j)))]).run Tryd.prog W1 = .ok (.tuple #[]) (W1.setCells g ((i + (n - j)) * 5) zeros5) := by
    intro ty
    rw [show n - (i + (n - j)) = 1 by have := hj.out; omega]
    exact run_clear_lot W1 ty g _ _ (fun t ht => (row_open hr1 _ (by have := hj.out; omega)).1) (fun t ht => (row_open hr1 _ (by have := hj.out; omega)).2.1)
  have HR : Hid ((W1.setCells g ((i + (n - j)) * 5) zeros5).ownsRow base 43 5 (.slice (some ⟨g, 0, none⟩) (n - 1) cap) (n - 1) (flat (Bk.del l i))) := by
    have hd : (Bk.del l i).length = n - 1 := by rw [Bk.del_length (by rw [hn.out]; omega), hn.out]
    refine row_setCells hr1 _ zeros5 (n - 1) (by omega) (by show _ + 5 ≤ _; have := hj.out; omega) _ (by rw [flat_length, hd]) (by omega) ?_
    have e1 : (i + (n - j)) * 5 = (n - 1) * 5 := by have := hj.out; congr 1; omega
    rw [e1, List.append_assoc, List.take_append_of_le_length (by rw [List.length_take, hyl]; omega), List.take_take, Nat.min_self, hys]
    rw [List.take_append_of_le_length (by simp only [List.length_append, List.length_take, hlen, hfl]; have := hj.out; omega), List.take_of_length_le (by simp only [List.length_append, List.length_take, hlen, hfl]; have := hj.out; omega)]
    rw [hnews, Nat.zero_add, flat_take l i (by rw [hn.out]; omega), ← flat_append, hj.out]
    rfl
  have HG : Hid (w.grownBy (W1.setCells g ((i + (n - j)) * 5) zeros5) (some g)) := by
    have o1 := Only.setCells w.drew g news (0 + i * 5) none
    rw [← hW1] at o1
    have o2 := o1.trans (Only.setCells W1 g zeros5 ((i + (n - j)) * 5) none) (fun k h => .inl h)
    exact ⟨o2.os, o2.tape, o2.output, o2.size, fun k hk h => o2.block k hk (by simp) h⟩
  have hW : Hid (W1 = w.drew.setCells g (0 + i * 5) news) := hW1
  have HI := hide hi; have HZ := hide hz1
  have hic : i ≤ cap := by omega
  have hjc : j ≤ cap := by omega
  clear hW1 hr1 hys hyl hfl hrowd hget hnews hlen hrow hi hz0 hz1 hz2 hz3
  go_enter Tryd.func74, Tryd.ntmps74
  go_wp2_with fail
  go_region_law (refine step_append_room rfl (.tmp 22) (.tmp 25) 22 rfl 43 i0 5 Tryd.underlying22 HI.out HZ.out g 0 i cap (by simp [Act.eval, Act.put]) A (n - j) (cap - j) news (by simp [Act.eval, Act.put]) s1.out hsrc.out s2.out (by omega) s3.out ?_; rw [← hW.out])
  go_wp2
  go_ret
  exact ⟨by rw [show n - 1 = i + (n - j) by have := hj.out; omega]; rfl, HR.out, HG.out⟩
end Go.Proofs.YtbcinejhipmomaaDoor
