/- Cancel and Take of a book by their contracts. -/
import Derived.Test.YtbcinejhipmomaaDoorBkOps
import Derived.Deep.QuietTactic
import Derived.BigQuiet
namespace Go.Proofs.YtbcinejhipmomaaDoor
open Go.RowKit
set_option maxRecDepth 100000

/-- what the errors of a book hold -/
structure Er4 (w : World) (T : TypeId) (v1 v5 v6 v7 : Value) : Prop where
  er : Er w T v1 v6 v7
  c5 : w.cell? ⟨3, 0, none⟩ = some (.iface T v5)
theorem Er4.later {w w' : World} {T : TypeId} {v1 v5 v6 v7 : Value} (h : Er4 w T v1 v5 v6 v7) (hb : Below w.heap.size w w') : Er4 w' T v1 v5 v6 v7 := ⟨h.er.later hb, cell_later hb h.c5⟩
/-- an error by our number -/
def errOf (T : TypeId) (v1 v5 v6 v7 : Value) : Nat → Value
  | 0 => .nilIface
  | 1 => .iface T v1
  | 2 => .iface T v6
  | 3 => .iface T v7
  | _ => .iface T v5

theorem Step.setNew {w w' : World} {p b : Nat} {v v' : Value} (h : Step w w' p v v') (hb : w.heap.size ≤ b) (o : Nat) (u : Value) : Step w (w'.setCell ⟨b, o, none⟩ u) p v v' :=
  ⟨⟨h.only.os, h.only.tape, h.only.output, by simpa using h.only.size, fun k hk h1 h2 => by
    rw [Below.heap_setCell _ _ _ _ (by show k ≠ b; omega)]; exact h.only.block k hk h1 h2⟩, h.new⟩
theorem Book.setOther {w : World} {base p b : Nat} {v : Value} {l : List Cv.Lot} (h : Book w base p v l) (hp : b ≠ p) (hv : v.ownBlock ≠ some b) (o : Nat) (u : Value) : Book (w.setCell ⟨b, o, none⟩ u) base p v l :=
  ⟨by rw [Below.heap_setCell _ _ _ _ (by show p ≠ b; omega)]; exact h.cell, h.lo, ownsRow_setCell_other h.row hv u⟩
theorem below_drew' {B : Nat} {w w' : World} (h : Below B w w') : Below B w w'.drew := ⟨h.os, h.tape, h.output, h.size, h.block⟩
set_option maxHeartbeats 1000000 in
theorem cancel_any (p base : Nat) (v : Value) (id : Int) (l : List Cv.Lot) (T : TypeId) (v1 v5 v6 v7 : Value) (w : World) (he : Hid (Er4 w T v1 v5 v6 v7)) (hb : Hid (Book w base p v l)) (hn : Hid (l.length ≤ 60)) :
    Calls Tryd.prog 24 #[.pointer (some ⟨p, 0, none⟩), .int .i64 id] w fun e w' => e = .returned (.tuple #[lotV (Bk.canX l id), errOf T v1 v5 v6 v7 (Bk.canC l id)]) ∧ ∃ v', Book w' base p v' (Bk.canL l id) ∧ Step w w' p v v' := by
  have HF := hide (find_any p base v id l (w.alloc (.cells #[.int .i64 0, .int .i64 0, .int .i64 0, .int .i64 0, .int .i64 0] 43)) (hb.out.later ((Below.refl _ _).alloc (Nat.le_refl _) _)) hn)
  go_enter Tryd.func24, Tryd.ntmps24
  go_wp2_with fail
  refine HF.out.mono ?_
  rintro e w2 ⟨rfl, hb2⟩
  have hB2 : Below w.heap.size w w2 := ((Below.refl _ _).alloc (Nat.le_refl _) _).trans (hb2.mono (by simp))
  have HB := hide hB2
  have h43 : w2.heap[w.heap.size]? = some (.cells #[.int .i64 0, .int .i64 0, .int .i64 0, .int .i64 0, .int .i64 0] 43 (0, 0)) := by
    have e := hb2.block w.heap.size (by simp)
    rw [heap_alloc_new] at e
    exact e
  have H43 := hide h43
  have HK := hide (hb.out.later hB2)
  have HE := hide (he.out.later hB2)
  clear hb2 hB2 HF h43
  cases hh : Cv.has l id with
  | false =>
    have Hh := hide hh
    rw [Bk.posI_none hh]
    have HC : Hid (Bk.canC l id = 4 ∧ Bk.canL l id = l ∧ Bk.canX l id = Cv.z) := by
      have e : Bk.canC l id = 4 := by unfold Bk.canC; rw [hh]; rfl
      exact ⟨e, by unfold Bk.canL; rw [e]; rfl, by unfold Bk.canX; rw [e]; rfl⟩
    clear hh
    have c5 := HE.out.c5
    have cs : ∀ j, j < 5 → w2.cell? ⟨w.heap.size, j, none⟩ = some (.int .i64 0) ∧ w2.frozen? ⟨w.heap.size, j, none⟩ = false := fun j hj => by
      refine ⟨?_, by simp [World.frozen?, H43.out]⟩
      simp only [World.cell?, H43.out]
      have : j = 0 ∨ j = 1 ∨ j = 2 ∨ j = 3 ∨ j = 4 := by omega
      rcases this with rfl | rfl | rfl | rfl | rfl <;> rfl
    have ⟨a0, f0⟩ := cs 0 (by decide); have ⟨a1, f1⟩ := cs 1 (by decide); have ⟨a2, f2⟩ := cs 2 (by decide); have ⟨a3, f3⟩ := cs 3 (by decide); have ⟨a4, f4⟩ := cs 4 (by decide)
    clear cs
    have h3 : ¬ (3 = w.heap.size) := fun e => by
      have h := he.out.c5
      have := World.block_lt_of_cell? _ _ h
      simp at this
      omega
    simp only []
    go_wp2
    go_region
    go_wp2
    refine bodyPost_ret (v := .tuple #[lotV Cv.z, .iface T v5]) (by simp [results, Tryd.results24, go_sem, lotV, Cv.z, a0, a1, a2, a3, a4]) rfl ⟨?_, ?_⟩
    · rw [HC.out.1, HC.out.2.2]; rfl
    · have hb5 : Below w.heap.size w (((((w2.setCell ⟨w.heap.size, 0, none⟩ (.int .i64 0)).setCell ⟨w.heap.size, 1, none⟩ (.int .i64 0)).setCell ⟨w.heap.size, 2, none⟩ (.int .i64 0)).setCell ⟨w.heap.size, 3, none⟩ (.int .i64 0)).setCell ⟨w.heap.size, 4, none⟩ (.int .i64 0)).drew :=
        below_drew' (((((HB.out.setCell (Nat.le_refl _) _).setCell (Nat.le_refl _) _).setCell (Nat.le_refl _) _).setCell (Nat.le_refl _) _).setCell (Nat.le_refl _) _)
      exact ⟨v, by rw [HC.out.2.1]; exact hb.out.later hb5, Step.of_below hb5 p v⟩
  | true =>
    have Hh := hide hh
    rw [Bk.posI_some hh]
    have hk := Bk.posI_lt hh
    have HC : Hid (Bk.canC l id = 0 ∧ Bk.canL l id = Bk.del l (Bk.pos l id) ∧ Bk.canX l id = Cv.nth l (Bk.pos l id)) := by
      have e : Bk.canC l id = 0 := by unfold Bk.canC; rw [hh]; rfl
      exact ⟨e, by unfold Bk.canL; rw [if_pos e], by unfold Bk.canX; rw [if_pos e]⟩
    clear hh
    have hcell := cell_of_one HK.out.cell
    rcases HK.out.form with ⟨_, hl⟩ | ⟨g, cap, rfl, hle, _, hl⟩
    · rw [hl] at hk; exact absurd hk (Nat.not_lt_zero _)
    obtain ⟨c0, c1, c2, c3, c4⟩ := hl _ hk
    have h60 : l.length ≤ 60 := hn.out
    have HRM := fun X => remove_any p base (Bk.pos l id) _ l (w2.alloc (.cells X 43)) (HK.out.later ((Below.refl _ _).alloc (Nat.le_refl _) _)) hk hn
    have HRM := hide HRM
    obtain ⟨x, hx⟩ : ∃ x, Cv.nth l (Bk.pos l id) = x := ⟨_, rfl⟩
    rw [hx] at HC c0 c1 c2 c3 c4
    clear hx
    generalize Bk.pos l id = k at *
    have Hgp : Hid (p < w.heap.size ∧ g < w.heap.size) := ⟨hb.out.lt, (hb.out.rowLt g rfl).2⟩
    have hg : g < w2.heap.size := World.block_lt_of_cell? _ _ c0
    obtain ⟨n, hnn⟩ : ∃ n, l.length = n := ⟨_, rfl⟩
    rw [hnn] at hk hcell h60
    have hki : (k : Int) < n := by omega
    simp only [Nat.zero_add] at c0 c1 c2 c3 c4
    have Hnn := hide hnn
    clear hl hle hnn
    simp only []
    go_wp2_with fail
    refine (HRM.out _).mono ?_
    rintro e w3 ⟨rfl, v3, hk3, hs3⟩
    have hsz := HB.out.size
    have h43' : w3.heap[w.heap.size]? = some (.cells #[.int .i64 0, .int .i64 0, .int .i64 0, .int .i64 0, .int .i64 0] 43 (0, 0)) := by
      rw [hs3.only.block _ (by have := lt_of_block H43.out; simp; omega) (fun e => by have := Hgp.out.1; simp at e; omega) (fun e => by have := Hgp.out.2; simp [Value.ownBlock] at e; omega), heap_alloc_old _ _ (lt_of_block H43.out)]
      exact H43.out
    have h7 : w3.heap[w2.heap.size]? = some (.cells #[.int .i64 x.id, .int .i64 x.ow, .int .i64 x.sd, .int .i64 x.pr, .int .i64 x.q] 43 (0, 0)) := by
      rw [hs3.only.block _ (by simp) (fun e => by have := Hgp.out.1; simp at e; omega) (fun e => by have := Hgp.out.2; simp [Value.ownBlock] at e; omega), heap_alloc_new]
    have cs : ∀ j, j < 5 → w3.cell? ⟨w.heap.size, j, none⟩ = some (.int .i64 0) ∧ w3.frozen? ⟨w.heap.size, j, none⟩ = false := fun j hj => by
      refine ⟨?_, by simp [World.frozen?, h43']⟩
      simp only [World.cell?, h43']
      have : j = 0 ∨ j = 1 ∨ j = 2 ∨ j = 3 ∨ j = 4 := by omega
      rcases this with rfl | rfl | rfl | rfl | rfl <;> rfl
    have ⟨a0, f0⟩ := cs 0 (by decide); have ⟨a1, f1⟩ := cs 1 (by decide); have ⟨a2, f2⟩ := cs 2 (by decide); have ⟨a3, f3⟩ := cs 3 (by decide); have ⟨a4, f4⟩ := cs 4 (by decide)
    have b0 : w3.cell? ⟨w2.heap.size, 0, none⟩ = some (.int .i64 x.id) := by simp [World.cell?, h7]
    have b1 : w3.cell? ⟨w2.heap.size, 1, none⟩ = some (.int .i64 x.ow) := by simp [World.cell?, h7]
    have b2 : w3.cell? ⟨w2.heap.size, 2, none⟩ = some (.int .i64 x.sd) := by simp [World.cell?, h7]
    have b3 : w3.cell? ⟨w2.heap.size, 3, none⟩ = some (.int .i64 x.pr) := by simp [World.cell?, h7]
    have b4 : w3.cell? ⟨w2.heap.size, 4, none⟩ = some (.int .i64 x.q) := by simp [World.cell?, h7]
    have HS3 := hide hs3; have HK3 := hide hk3
    have HLT := hide (lt_of_block h43')
    clear cs hs3 hk3 h7 h43' hcell c0 c1 c2 c3 c4 hsz
    simp only []
    go_wp2
    refine bodyPost_ret (v := .tuple #[lotV x, .nilIface]) (by simp [results, Tryd.results24, go_sem, lotV, a0, a1, a2, a3, a4]) rfl ⟨?_, ?_⟩
    · rw [HC.out.1, HC.out.2.2]; rfl
    · have hst := (Step.of_below ((HB.out.alloc HB.out.size (.cells #[.int .i64 x.id, .int .i64 x.ow, .int .i64 x.sd, .int .i64 x.pr, .int .i64 x.q] 43))) p _).trans HS3.out
      have hne : v3.ownBlock ≠ some w.heap.size := fun e => by
        rcases HS3.out.new _ e with h | h
        · have := Hgp.out.2; simp [Value.ownBlock] at h; omega
        · have := lt_of_block H43.out; simp at h; omega
      have hnp : w.heap.size ≠ p := by have := Hgp.out.1; omega
      refine ⟨v3, ?_, ((((hst.setNew (Nat.le_refl _) _ _).setNew (Nat.le_refl _) _ _).setNew (Nat.le_refl _) _ _).setNew (Nat.le_refl _) _ _).setNew (Nat.le_refl _) _ _⟩
      rw [HC.out.2.1]
      exact ((((HK3.out.setOther hnp hne _ _).setOther hnp hne _ _).setOther hnp hne _ _).setOther hnp hne _ _).setOther hnp hne _ _

/-- a lot of which something is taken, in its place -/
theorem flat_put {l : List Cv.Lot} {k : Nat} (hk : k < l.length) (x : Cv.Lot) : flat (Bk.put l k x) = (flat l).take (k * 5) ++ lotCells x ++ (flat l).drop (k * 5 + 5) := by
  unfold Bk.put
  rw [flat_append, flat_take l k (by omega), show k * 5 + 5 = (k + 1) * 5 by omega, flat_drop l (k + 1) (by omega)]
  simp [flat]
theorem flat_split {l : List Cv.Lot} {k : Nat} (hk : k < l.length) : flat l = (flat l).take (k * 5) ++ lotCells (Cv.nth l k) ++ (flat l).drop (k * 5 + 5) := by
  have e := Bk.split_at hk
  rw [← flat_put hk, Bk.put, ← e]
theorem Book.less {w : World} {base p g cap : Nat} {l : List Cv.Lot} (h : Book w base p (.slice (some ⟨g, 0, none⟩) l.length cap) l) {k : Nat} (hk : k < l.length) (q : Int) :
    Book (w.setCell ⟨g, k * 5 + 4, none⟩ (.int .i64 ((Cv.nth l k).q - q))) base p (.slice (some ⟨g, 0, none⟩) l.length cap) (Bk.put l k (Bk.less (Cv.nth l k) q)) ∧ Step w (w.setCell ⟨g, k * 5 + 4, none⟩ (.int .i64 ((Cv.nth l k).q - q))) p (.slice (some ⟨g, 0, none⟩) l.length cap) (.slice (some ⟨g, 0, none⟩) l.length cap) := by
  have hr := row_setCells h.row (k * 5 + 4) [.int .i64 ((Cv.nth l k).q - q)] l.length (by
    rcases h.row.2 with ⟨e, _⟩ | ⟨g', cap', cur, e, _, _, hc, _⟩
    · cases e
    · obtain ⟨_, rfl⟩ : g = g' ∧ cap = cap' := by simpa using e
      exact hc) (by show k * 5 + 4 + 1 ≤ _; omega) (flat (Bk.put l k (Bk.less (Cv.nth l k) q))) (by rw [flat_length, Bk.put_length hk]) (Nat.le_refl _) (by
    rw [List.take_of_length_le (by simp only [List.length_append, List.length_take, List.length_drop, flat_length, List.length_cons, List.length_nil]; omega)]
    have hl : ((flat l).take (k * 5)).length = k * 5 := by rw [List.length_take, flat_length]; omega
    have e1 : (flat l).take (k * 5 + 4) = (flat l).take (k * 5) ++ [.int .i64 (Cv.nth l k).id, .int .i64 (Cv.nth l k).ow, .int .i64 (Cv.nth l k).sd, .int .i64 (Cv.nth l k).pr] := by
      have e := flat_split hk
      generalize (flat l).drop (k * 5 + 5) = D at *
      have e2 : (flat l).take (k * 5 + 4) = ((flat l).take (k * 5) ++ lotCells (Cv.nth l k) ++ D).take (k * 5 + 4) := by rw [← e]
      generalize (flat l).take (k * 5) = A at *
      rw [e2, List.append_assoc, List.take_append, hl]
      simp [lotCells, hl, List.take_of_length_le]
    rw [e1, flat_put hk]
    simp [lotCells, Bk.less])
  have hs : w.setCells g (k * 5 + 4) [.int .i64 ((Cv.nth l k).q - q)] = w.setCell ⟨g, k * 5 + 4, none⟩ (.int .i64 ((Cv.nth l k).q - q)) := rfl
  rw [hs] at hr
  have hgp : g ≠ p := fun e => h.ne (by rw [e]; rfl)
  refine ⟨⟨by rw [Below.heap_setCell _ _ _ _ (by show p ≠ g; omega)]; exact h.cell, h.lo, by rw [Bk.put_length hk]; exact hr⟩, ⟨(Only.setCell w g _ _ (some p)).swap, fun k h => .inl h⟩⟩

theorem Bk.del_put {l : List Cv.Lot} {k : Nat} (hk : k < l.length) (x : Cv.Lot) : Bk.del (Bk.put l k x) k = Bk.del l k := by
  have hl : (l.take k).length = k := by rw [List.length_take]; omega
  unfold Bk.del Bk.put
  congr 1
  · rw [List.take_append_of_le_length (by omega), List.take_of_length_le (by omega)]
  · rw [List.drop_append, hl, List.drop_of_length_le (by omega), show k + 1 - k = 1 by omega]
    rfl
set_option maxHeartbeats 1000000 in
theorem take_any (p base : Nat) (v : Value) (id q : Int) (l : List Cv.Lot) (T : TypeId) (v1 v5 v6 v7 : Value) (w : World) (he : Hid (Er4 w T v1 v5 v6 v7)) (hb : Hid (Book w base p v l)) (hgood : Hid (Bk.Good l)) :
    Calls Tryd.prog 25 #[.pointer (some ⟨p, 0, none⟩), .int .i64 id, .int .i64 q] w fun e w' => e = .returned (errOf T v1 v5 v6 v7 (Bk.takC l id q)) ∧ ∃ v', Book w' base p v' (Bk.takL l id q) ∧ Step w w' p v v' := by
  have hn : Hid (l.length ≤ 60) := hgood.out.len
  go_enter Tryd.func25, Tryd.ntmps25
  go_wp2_with fail
  refine (find_any p base v id l w hb hn).mono ?_
  rintro e w2 ⟨rfl, hb2⟩
  have HB := hide hb2
  have HK := hide (hb.out.later hb2)
  have HE := hide (he.out.later hb2)
  clear hb2
  cases hh : Cv.has l id with
  | false =>
    rw [Bk.posI_none hh]
    have HC : Hid (Bk.takC l id q = 4 ∧ Bk.takL l id q = l) := by
      have e : Bk.takC l id q = 4 := by unfold Bk.takC; rw [hh]; rfl
      exact ⟨e, by unfold Bk.takL; rw [e]; rfl⟩
    clear hh
    have c5 := HE.out.c5
    simp only []
    go_wp2
    go_ret
    exact ⟨by rw [HC.out.1]; rfl, v, by rw [HC.out.2]; exact HK.out, Step.of_below HB.out p v⟩
  | true =>
    have Hh := hide hh
    rw [Bk.posI_some hh]
    have hk := Bk.posI_lt hh
    have HK0 := hide hk
    clear hh
    have hcell := cell_of_one HK.out.cell
    rcases HK.out.form with ⟨_, hl⟩ | ⟨g, cap, rfl, hle, _, hl⟩
    · rw [hl] at hk; exact absurd hk (Nat.not_lt_zero _)
    have HX : Hid (Cv.ok (Cv.nth l (Bk.pos l id)) = true) := hgood.out.oks _ (Cv.nth_mem hk)
    obtain ⟨_, _, _, _, c4⟩ := hl _ hk
    have h60 : l.length ≤ 60 := hn.out
    obtain ⟨n, hnn⟩ : ∃ n, l.length = n := ⟨_, rfl⟩
    have Hnn := hide hnn
    rw [hnn] at hk hcell h60
    have hki : (Bk.pos l id : Int) < n := by omega
    simp only [Nat.zero_add] at c4
    have hxb := (Cv.ok_bounds HX.out).2.2.2.2
    have HLS := hide (HK.out.less HK0.out q)
    obtain ⟨xq, hxq⟩ : ∃ xq, (Cv.nth l (Bk.pos l id)).q = xq := ⟨_, rfl⟩
    obtain ⟨k, hkk⟩ : ∃ k, Bk.pos l id = k := ⟨_, rfl⟩
    have HXQ := hide hxq; have HKK := hide hkk
    rw [hxq] at c4 hxb HLS
    rw [hkk] at hk hki c4 HLS ⊢
    clear hxq hkk hnn hl hle HX
    have hg : g < w2.heap.size := World.block_lt_of_cell? _ _ c4
    simp only []
    go_wp2_with fail
    refine (within_any q 1 xq _).mono ?_
    rintro e w3 ⟨rfl, rfl⟩
    cases hw : Wi.withinB q 1 xq with
    | false =>
      have HC : Hid (Bk.takC l id q = 1 ∧ Bk.takL l id q = l) := by
        have e : Bk.takC l id q = 1 := by unfold Bk.takC; rw [if_pos Hh.out, HXQ.out, hw]; rfl
        exact ⟨e, by unfold Bk.takL; rw [e]; rfl⟩
      clear hw
      have c1 := HE.out.er.c1
      simp only []
      go_wp2
      go_ret
      exact ⟨by rw [HC.out.1]; rfl, _, by rw [HC.out.2]; exact HK.out, Step.of_below HB.out p _⟩
    | true =>
      have HC0 : Hid (Bk.takC l id q = 0) := by show _ = _; unfold Bk.takC; rw [if_pos Hh.out, HXQ.out, hw]; rfl
      have hqb : 1 ≤ q ∧ q ≤ xq := by simpa [Wi.withinB] using hw
      have f4 : w3.frozen? ⟨g, k * 5 + 4, none⟩ = false := (row_open (by have := HK.out.row; rw [Hnn.out] at this; exact this) (k * 5 + 4) (by omega)).2.1
      have hgp : ¬ (g = p) := fun e => HK.out.ne (by rw [e]; rfl)
      clear hw
      have hsub : IntKind.i64.wrap (xq - q) = xq - q := IntWalk.i64_in _ (by omega)
      by_cases hq : q = xq
      · have hz : xq - q = 0 := by omega
        have HL1 : Hid (Bk.takL l id q = Bk.del l k) := by show _ = _; unfold Bk.takL; rw [if_pos HC0.out, HXQ.out, if_pos hq, HKK.out]
        have HDP : Hid (Bk.del (Bk.put l k (Bk.less (Cv.nth l k) q)) k = Bk.del l k) := Bk.del_put (by rw [Hnn.out]; exact hk) _
        have HRM := hide (remove_any p base k _ _ _ HLS.out.1 (by rw [Bk.put_length (by rw [Hnn.out]; exact hk), Hnn.out]; exact hk) (by show _ ≤ _; rw [Bk.put_length (by rw [Hnn.out]; exact hk)]; exact hn.out))
        rw [hz] at HRM HLS
        have HQ := hide hq
        clear hq
        simp only []
        go_wp2_with fail
        refine HRM.out.mono ?_
        rintro e w4 ⟨rfl, v4, hk4, hs4⟩
        have HK4 := hide hk4; have HS4 := hide hs4
        clear hk4 hs4 HRM
        simp only []
        go_wp2
        go_ret
        refine ⟨by rw [HC0.out]; rfl, v4, by rw [HL1.out, ← HDP.out]; exact HK4.out, ((Step.of_below HB.out p _).trans HLS.out.2).trans HS4.out⟩
      · have hz : ¬ (xq - q = 0) := by omega
        have HL1 : Hid (Bk.takL l id q = Bk.put l k (Bk.less (Cv.nth l k) q)) := by show _ = _; unfold Bk.takL; rw [if_pos HC0.out, HXQ.out, if_neg hq, HKK.out]
        have HQ := hide hq
        clear hq
        simp only []
        go_wp2
        go_ret
        refine ⟨by rw [HC0.out]; rfl, _, by rw [HL1.out]; exact HLS.out.1, (Step.of_below HB.out p _).trans HLS.out.2⟩
end Go.Proofs.YtbcinejhipmomaaDoor
