/- A law for a walk: append to a row of bytes of the call's own whose frozen range, if any, lies behind its end (as a conversion of a text leaves it). -/
import Derived.Test.YtnnbbdfocnjhpaaDoorEncodeWalks
import Derived.Lib.FrozenHead
import Derived.Laws.IdiomStrings
namespace Go.Proofs.YtnnbbdfocnjhpaaDoor
open Go.RowKit
set_option maxRecDepth 100000

/-- a slice of bytes of the call's own, no byte of its row frozen -/
def RowM (w : World) (base : Nat) (v : Value) (xs : List Int) : Prop :=
  ∃ g cap cur fz, v = .slice (some ⟨g, 0, none⟩) xs.length cap ∧ base ≤ g ∧ w.heap[g]? = some (.cells cur 5 fz) ∧ (∀ j, j < cur.size → j < fz.1 ∨ fz.2 ≤ j) ∧
    xs.length ≤ cap ∧ cap ≤ maxLen ∧ cur.size = cap ∧ cur.toList.take xs.length = xs.map (Value.int .u8)

theorem run_storeCells_atM (P : Program) (g o : Nat) (t : TypeId) (fz : Nat × Nat) : ∀ (vs : List Value) (i : Nat) (cur : Array Value) (w : World), w.heap[g]? = some (.cells cur t fz) → (∀ j, j < cur.size → j < fz.1 ∨ fz.2 ≤ j) → o + i + vs.length ≤ cur.size → (∀ v ∈ vs, v.oneCell' = true) →
    (storeCells ⟨g, o, none⟩ vs i).run P w = .ok () (w.setRow g (cur.toList.take (o + i) ++ vs ++ cur.toList.drop (o + i + vs.length)).toArray)
  | [], i, cur, w, hg, _, _, _ => by
    simp only [storeCells, List.append_nil, List.length_nil, Nat.add_zero, List.take_append_drop, Array.toArray_toList]
    rw [setRow_self w g cur t fz hg]
    rfl
  | v :: rest, i, cur, w, hg, hfz, hl, h1 => by
    have hi : o + i < cur.size := by simp at hl; omega
    have hadd : (⟨g, o, none⟩ : Addr).add i = ⟨g, o + i, none⟩ := by unfold Addr.add; split <;> simp_all
    have hcell : w.cell? ⟨g, o + i, none⟩ = some cur[o + i] := by simp [World.cell?, hg, hi]
    have hfro : w.frozen? ⟨g, o + i, none⟩ = false := by
      have := hfz (o + i) hi
      obtain ⟨lo, hi'⟩ := fz
      simp only [World.frozen?, hg, Bool.and_eq_false_iff, decide_eq_false_iff_not]
      simp only at this
      omega
    have hst : (store ((⟨g, o, none⟩ : Addr).add i) v).run P w = .ok () (w.setRow g (cur.setIfInBounds (o + i) v)) := by
      rw [hadd, run_store P w _ v _ (h1 v (by simp)), hcell]
      simp [hfro, setCell_eq_setRow w g (o + i) cur t fz v hg]
    have ih := run_storeCells_atM P g o t fz rest (i + 1) (cur.setIfInBounds (o + i) v) (w.setRow g (cur.setIfInBounds (o + i) v)) (setRow_heap w g cur _ t _ hg) (by simpa using hfz) (by simp at hl ⊢; omega) (fun x hx => h1 x (by simp [hx]))
    simp only [storeCells, Sem.run_bind, hst, Result.andThen_ok, ih, setRow_setRow]
    congr 3
    have e := list_seg_step cur.toList (o + i) v rest (by simp at hl ⊢; omega)
    simpa [Array.toList_setIfInBounds, Nat.add_assoc] using e

theorem RowM.cells {w : World} {base g len cap : Nat} {xs : List Int} (h : RowM w base (.slice (some ⟨g, 0, none⟩) len cap) xs) : ∀ j u, (xs.map (Value.int .u8))[j]? = some u → w.cell? ((⟨g, 0, none⟩ : Addr).add j) = some u := by
  intro j u hu
  obtain ⟨g', cap', cur, fz, hv, _, hg, _, _, _, _, ht⟩ := h
  simp only [Value.slice.injEq, Option.some.injEq, Addr.mk.injEq, and_true] at hv
  obtain ⟨rfl, rfl, rfl⟩ := hv
  have hadd : (⟨g, 0, none⟩ : Addr).add j = ⟨g, j, none⟩ := by unfold Addr.add; split <;> simp_all
  rw [hadd, cell_of_row w g j cur 5 fz hg]
  rw [← ht, List.getElem?_take] at hu
  split at hu
  · simpa using hu
  · cases hu

theorem run_append_mark (w : World) (base : Nat) (ty : TypeId) (v : Value) (xs : List Int) (hown : RowM w base v xs)
    (a : Addr) (m c : Nat) (ys : List Int) (hl : ys.length = m) (hnews : ∀ j u, (ys.map (Value.int .u8))[j]? = some u → w.cell? (a.add j) = some u)
    (hsz : xs.length + m ≤ 10000000) (hbase : base ≤ w.heap.size) :
    ∃ v' w', (Builtin.append_ #[50, 50] ty #[v, .slice (some a) m c]).run Tryd.prog w = .ok v' w' ∧ RowM w' base v' (xs ++ ys) ∧ w.grownBy w' v.ownBlock := by
  obtain ⟨i, hi, hz, hz1, hz2⟩ := info5
  obtain ⟨g, cap, cur, fz, rfl, hbg, hg, hfz, hnc, hcm, hcs, ht⟩ := id hown
  have h1 : ∀ u ∈ ys.map (Value.int .u8), u.oneCell' = true := fun u hu => by obtain ⟨_, _, rfl⟩ := List.mem_map.1 hu; rfl
  have hl' : (ys.map (Value.int .u8)).length = m * i.size := by rw [hz1]; simpa using hl
  have hlen : (xs ++ ys).length = xs.length + m := by simp [hl]
  by_cases hroom : xs.length + m ≤ cap
  · have hf := run_firstCells_some (P := Tryd.prog) w i.size m a m c _ hl' hnews
    have hst := run_storeCells_atM Tryd.prog g (xs.length * i.size) 5 fz (ys.map (Value.int .u8)) 0 cur w hg hfz (by rw [hz1]; simp [hl]; omega) h1
    rw [hz1] at hf
    simp only [hz1, Nat.mul_one, Nat.add_zero] at hst
    refine ⟨_, _, by simp [Builtin.append_, run_underlying Tryd.underlying50, sizeOf, typeInfo, hi, hz1, Builtin.lenOf, hroom, hf, Addr.add_lit, hst]; exact ⟨rfl, rfl⟩, ⟨g, cap, _, fz, by rw [hlen], hbg, setRow_heap w g cur _ 5 _ hg, ?_, by omega, hcm, ?_, ?_⟩, ⟨rfl, rfl, rfl, by simp, fun k _ hk => setRow_other w g k _ (fun e => hk (by simp [Value.ownBlock, e]))⟩⟩
    · intro j hj
      refine hfz j ?_
      simp only [List.size_toArray, List.length_append, List.length_take, List.length_drop, Array.length_toList, List.length_map] at hj
      omega
    · simp only [List.size_toArray, List.length_append, List.length_take, List.length_drop, Array.length_toList, List.length_map]
      omega
    · simp only []
      rw [ht, ← List.append_assoc, List.map_append, hlen, show xs.length + m = (xs.map (Value.int .u8) ++ ys.map (Value.int .u8)).length by simp [hl]]
      exact List.take_left
  · have holds := RowM.cells hown
    have hr := run_append_grow (P := Tryd.prog) w 50 ty 5 i _ Tryd.underlying50 hi hz ⟨g, 0, none⟩ xs.length cap (xs.map (Value.int .u8)) (by rw [hz1]; simp) holds a m c _ hl' hnews (by omega) (by omega) (growslice_fits (by omega) (by rw [hz2]; omega))
    have hge := grownCap_ge w (xs.length + m) cap 5
    refine ⟨_, _, hr, ⟨w.heap.size, _, _, (0, 0), by rw [hlen], hbase, heap_alloc_new w.drew _, fun j _ => .inr (Nat.zero_le _), by omega, grownCap_le_maxLen w (xs.length + m) cap 5 (by unfold maxLen; omega), ?_, ?_⟩, ⟨rfl, rfl, rfl, by simp, fun k hk _ => heap_alloc_old w.drew _ hk⟩⟩
    · simp only [Array.size_append, List.size_toArray, size_zeroCells, List.length_map, hl]
      simp [Value.cells]
      omega
    · simp only [Array.toList_append, List.append_assoc]
      rw [← List.append_assoc, List.map_append, hlen, show xs.length + m = (xs.map (Value.int .u8) ++ ys.map (Value.int .u8)).length by simp [hl]]
      exact List.take_left

/-- at the operation, for the walk -/
theorem wpList_append_mark {w : World} {ops : Array Oper} {rest : List Oper} {o : Oper} {a : Act} {Q : Exit → Act → World → Prop} (hgd : o.guard = none) (s x : Operand)
    (ho : o.op = .call { callee := .builtin .append, args := #[s, x], argTypes := #[50, 50] })
    (base : Nat) (v : Value) (xs : List Int) (hs : a.eval s = v) (hown : RowM w base v xs)
    (ad : Addr) (m c : Nat) (ys : List Int) (hx : a.eval x = .slice (some ad) m c) (hl : ys.length = m) (hnews : ∀ j u, (ys.map (Value.int .u8))[j]? = some u → w.cell? (ad.add j) = some u)
    (hsz : xs.length + m ≤ 10000000) (hbase : base ≤ w.heap.size)
    (h : ∀ v' w', RowM w' base v' (xs ++ ys) → w.grownBy w' v.ownBlock → wpList Tryd.prog ops Q rest (a.put o.dst v') w') : wpList Tryd.prog ops Q (o :: rest) a w := by
  refine wpList_plain hgd fun K hK => ?_
  obtain ⟨v', w', hr, h2, h3⟩ := run_append_mark w base o.type v xs hown ad m c ys hl hnews hsz hbase
  unfold Oper.wp execOp
  simp only [ho, resolve, invoke, builtin, Sem.run_bind, Sem.run_pure, Result.andThen_ok, List.map_toArray, List.map_cons, List.map_nil, hs, hx, hr]
  exact hK _ _ (h v' w' h2 h3)

theorem RowM.lt {w : World} {base : Nat} {v : Value} {xs : List Int} (h : RowM w base v xs) : ∀ k, v.ownBlock = some k → base ≤ k ∧ k < w.heap.size := by
  obtain ⟨g, cap, cur, fz, rfl, hbg, hg, _⟩ := h
  intro k hk
  obtain rfl : g = k := by simpa [Value.ownBlock] using hk
  exact ⟨hbg, (Array.getElem?_eq_some_iff.1 hg).1⟩

theorem rowM_string {w : World} {base : Nat} {v : Value} {xs : List Int} (h : RowM w base v xs) : (convert 50 9 v).run Tryd.prog w = .ok (.string (strOfNums xs)) w := by
  obtain ⟨g, cap, cur, fz, rfl, hbg, hg, hfz, hnc, hcm, hcs, ht⟩ := id h
  refine run_convert_bytes_arg w 50 5 Tryd.underlying50 Tryd.underlying5 g 0 xs.length cap xs rfl ?_ 9 Tryd.underlying9
  intro i hi
  have := RowM.cells h i (.int .u8 (xs.getD i 0)) (by simp [hi])
  have hp : (⟨g, 0, none⟩ : Addr).add i = ⟨g, 0 + i, none⟩ := by unfold Addr.add; split <;> simp_all
  rwa [hp] at this

/-- a beginning of a row -/
theorem RowM.take {w : World} {base g len cap : Nat} {xs : List Int} (h : RowM w base (.slice (some ⟨g, 0, none⟩) len cap) xs) (n : Nat) (hn : n ≤ xs.length) : RowM w base (.slice (some ⟨g, 0, none⟩) n cap) (xs.take n) := by
  obtain ⟨g', cap', cur, fz, h2, hb, hg, hz, hc, hm, hs, ht⟩ := h
  simp only [Value.slice.injEq, Option.some.injEq, Addr.mk.injEq, and_true] at h2
  obtain ⟨rfl, rfl, rfl⟩ := h2
  have hl : (xs.take n).length = n := by simp; omega
  refine ⟨g, cap, cur, fz, by rw [hl], hb, hg, hz, by rw [hl]; omega, hm, hs, ?_⟩
  rw [hl, List.map_take, ← ht, List.take_take]
  congr 1
  omega

/-- a new row of a text's bytes -/
theorem rowM_new (w : World) (s : ByteArray) (hs : s.size ≤ 100000) : ∃ v w', (convert 9 50 (.string s)).run Tryd.prog w = .ok v w' ∧ RowM w' w.heap.size v (s.data.toList.map fun b => (b.toNat : Int)) ∧ Below w.heap.size w w' := by
  have hr := run_bytes_of_string (P := Tryd.prog) w 9 50 5 s Tryd.underlying9 Tryd.underlying50 Tryd.underlying5
  have hge := grownCap_ge w s.size 0 5
  have hsl : s.data.toList.length = s.size := by rw [Array.length_toList]; rfl
  refine ⟨_, _, hr, ⟨w.heap.size, _, _, _, by rw [List.length_map, hsl], Nat.le_refl _, heap_alloc_new w.drew _, fun j hj => .inl hj, by rw [List.length_map, hsl]; exact hge, grownCap_le_maxLen w s.size 0 5 (by unfold maxLen; omega), ?_, ?_⟩, ?_⟩
  · have : s.data.size = s.size := rfl
    simp only [bytesRow, Array.size_append, Array.size_map, Array.size_replicate]
    omega
  · simp only [bytesRow, Array.toList_append, Array.toList_map, List.length_map, List.map_map]
    rw [List.take_left' (by simp)]
    rfl
  · exact ⟨rfl, rfl, rfl, by simp, fun k hk => heap_alloc_old w.drew _ hk⟩
end Go.Proofs.YtnnbbdfocnjhpaaDoor
