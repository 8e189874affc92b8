/- Cancel and Take of a book by their contracts. -/
import Derived.Deep.QuietTactic
import Derived.BigQuiet
import Derived.Sort.Lot0
import Derived.Maps.OwnOps
import Derived.Maps.AppendAt
import Derived.Maps.Views
import Derived.Test.YtjdnahmdicamdaaGreatDoorG03
namespace Go.Proofs.YtjdnahmdicamdaaGreatDoor
open Go.RowKit
set_option maxRecDepth 100000

/-- what the errors of a book hold -/
structure Er4 (w : World) (T : TypeId) (v1 v5 v6 v7 : Value) : Prop where
  er : Er w T v1 v6 v7
  c5 : w.cell? ⟨1, 0, none⟩ = some (.iface T v5)
theorem Er4.later {w w' : World} {T : TypeId} {v1 v5 v6 v7 : Value} (h : Er4 w T v1 v5 v6 v7) (hb : Below w.heap.size w w') : Er4 w' T v1 v5 v6 v7 := ⟨h.er.later hb, cell_later hb h.c5⟩
/-- an error by our number -/
def errOf (T : TypeId) (v1 v5 v6 v7 : Value) : Nat → Value
  | 0 => .nilIface
  | 1 => .iface T v1
  | 2 => .iface T v6
  | 3 => .iface T v7
  | _ => .iface T v5

theorem Step.setNew {w w' : World} {p b : Nat} {v v' : Value} (h : Step w w' p v v') (hb : w.heap.size ≤ b) (o : Nat) (u : Value) : Step w (w'.setCell ⟨b, o, none⟩ u) p v v' :=
  ⟨⟨h.only.os, h.only.tape, h.only.output, by simpa using h.only.size, fun k hk h1 h2 => by
    rw [Below.heap_setCell _ _ _ _ (by show k ≠ b; omega)]; exact h.only.block k hk h1 h2⟩, h.new⟩
theorem Book.setOther {w : World} {base p b : Nat} {v : Value} {l : List Cv.Lot} (h : Book w base p v l) (hp : b ≠ p) (hv : v.ownBlock ≠ some b) (o : Nat) (u : Value) : Book (w.setCell ⟨b, o, none⟩ u) base p v l :=
  ⟨by rw [Below.heap_setCell _ _ _ _ (by show p ≠ b; omega)]; exact h.cell, h.lo, ownsRow_setCell_other h.row hv u⟩
theorem below_drew' {B : Nat} {w w' : World} (h : Below B w w') : Below B w w'.drew := ⟨h.os, h.tape, h.output, h.size, h.block⟩
set_option maxHeartbeats 1000000 in
theorem cancel_any (p base : Nat) (v : Value) (id : Int) (l : List Cv.Lot) (T : TypeId) (v1 v5 v6 v7 : Value) (w : World) (he : Hid (Er4 w T v1 v5 v6 v7)) (hb : Hid (Book w base p v l)) (hn : Hid (l.length ≤ 60)) :
    Calls Tryz.prog 42 #[.pointer (some ⟨p, 0, none⟩), .int .i64 id] w fun e w' => e = .returned (.tuple #[lotV (Bk.canX l id), errOf T v1 v5 v6 v7 (Bk.canC l id)]) ∧ ∃ v', Book w' base p v' (Bk.canL l id) ∧ Step w w' p v v' := by
  have HF := hide (find_any p base v id l (w.alloc (.cells #[.int .i64 0, .int .i64 0, .int .i64 0, .int .i64 0, .int .i64 0] 56)) (hb.out.later ((Below.refl _ _).alloc (Nat.le_refl _) _)) hn)
  go_enter Tryz.func42, Tryz.ntmps42
  go_wp2_with fail
  refine HF.out.mono ?_
  rintro e w2 ⟨rfl, hb2⟩
  have hB2 : Below w.heap.size w w2 := ((Below.refl _ _).alloc (Nat.le_refl _) _).trans (hb2.mono (by simp))
  have HB := hide hB2
  have h43 : w2.heap[w.heap.size]? = some (.cells #[.int .i64 0, .int .i64 0, .int .i64 0, .int .i64 0, .int .i64 0] 56 (0, 0)) := by
    have e := hb2.block w.heap.size (by simp)
    rw [heap_alloc_new] at e
    exact e
  have H43 := hide h43
  have HK := hide (hb.out.later hB2)
  have HE := hide (he.out.later hB2)
  clear hb2 hB2 HF h43
  cases hh : Cv.has l id with
  | false =>
    have Hh := hide hh
    rw [Bk.posI_none hh]
    have HC : Hid (Bk.canC l id = 4 ∧ Bk.canL l id = l ∧ Bk.canX l id = Cv.z) := by
      have e : Bk.canC l id = 4 := by unfold Bk.canC; rw [hh]; rfl
      exact ⟨e, by unfold Bk.canL; rw [e]; rfl, by unfold Bk.canX; rw [e]; rfl⟩
    clear hh
    have c5 := HE.out.c5
    have cs : ∀ j, j < 5 → w2.cell? ⟨w.heap.size, j, none⟩ = some (.int .i64 0) ∧ w2.frozen? ⟨w.heap.size, j, none⟩ = false := fun j hj => by
      refine ⟨?_, by simp [World.frozen?, H43.out]⟩
      simp only [World.cell?, H43.out]
      have : j = 0 ∨ j = 1 ∨ j = 2 ∨ j = 3 ∨ j = 4 := by omega
      rcases this with rfl | rfl | rfl | rfl | rfl <;> rfl
    have ⟨a0, f0⟩ := cs 0 (by decide); have ⟨a1, f1⟩ := cs 1 (by decide); have ⟨a2, f2⟩ := cs 2 (by decide); have ⟨a3, f3⟩ := cs 3 (by decide); have ⟨a4, f4⟩ := cs 4 (by decide)
    clear cs
    have h3 : ¬ (1 = w.heap.size) := fun e => by
      have h := he.out.c5
      have := World.block_lt_of_cell? _ _ h
      simp at this
      omega
    simp only []
    go_wp2
    go_region
    go_wp2
    refine bodyPost_ret (v := .tuple #[lotV Cv.z, .iface T v5]) (by simp [results, Tryz.results42, go_sem, lotV, Cv.z, a0, a1, a2, a3, a4]) rfl ⟨?_, ?_⟩
    · rw [HC.out.1, HC.out.2.2]; rfl
    · have hb5 : Below w.heap.size w (((((w2.setCell ⟨w.heap.size, 0, none⟩ (.int .i64 0)).setCell ⟨w.heap.size, 1, none⟩ (.int .i64 0)).setCell ⟨w.heap.size, 2, none⟩ (.int .i64 0)).setCell ⟨w.heap.size, 3, none⟩ (.int .i64 0)).setCell ⟨w.heap.size, 4, none⟩ (.int .i64 0)).drew :=
        below_drew' (((((HB.out.setCell (Nat.le_refl _) _).setCell (Nat.le_refl _) _).setCell (Nat.le_refl _) _).setCell (Nat.le_refl _) _).setCell (Nat.le_refl _) _)
      exact ⟨v, by rw [HC.out.2.1]; exact hb.out.later hb5, Step.of_below hb5 p v⟩
  | true =>
    have Hh := hide hh
    rw [Bk.posI_some hh]
    have hk := Bk.posI_lt hh
    have HC : Hid (Bk.canC l id = 0 ∧ Bk.canL l id = Bk.del l (Bk.pos l id) ∧ Bk.canX l id = Cv.nth l (Bk.pos l id)) := by
      have e : Bk.canC l id = 0 := by unfold Bk.canC; rw [hh]; rfl
      exact ⟨e, by unfold Bk.canL; rw [if_pos e], by unfold Bk.canX; rw [if_pos e]⟩
    clear hh
    have hcell := cell_of_one HK.out.cell
    rcases HK.out.form with ⟨_, hl⟩ | ⟨g, cap, rfl, hle, _, hl⟩
    · rw [hl] at hk; exact absurd hk (Nat.not_lt_zero _)
    obtain ⟨c0, c1, c2, c3, c4⟩ := hl _ hk
    have h60 : l.length ≤ 60 := hn.out
    have HRM := fun X => remove_any p base (Bk.pos l id) _ l (w2.alloc (.cells X 56)) (HK.out.later ((Below.refl _ _).alloc (Nat.le_refl _) _)) hk hn
    have HRM := hide HRM
    obtain ⟨x, hx⟩ : ∃ x, Cv.nth l (Bk.pos l id) = x := ⟨_, rfl⟩
    rw [hx] at HC c0 c1 c2 c3 c4
    clear hx
    generalize Bk.pos l id = k at *
    have Hgp : Hid (p < w.heap.size ∧ g < w.heap.size) := ⟨hb.out.lt, (hb.out.rowLt g rfl).2⟩
    have hg : g < w2.heap.size := World.block_lt_of_cell? _ _ c0
    obtain ⟨n, hnn⟩ : ∃ n, l.length = n := ⟨_, rfl⟩
    rw [hnn] at hk hcell h60
    have hki : (k : Int) < n := by omega
    simp only [Nat.zero_add] at c0 c1 c2 c3 c4
    have Hnn := hide hnn
    clear hl hle hnn
    simp only []
    go_wp2_with fail
    refine (HRM.out _).mono ?_
    rintro e w3 ⟨rfl, v3, hk3, hs3⟩
    have hsz := HB.out.size
    have h43' : w3.heap[w.heap.size]? = some (.cells #[.int .i64 0, .int .i64 0, .int .i64 0, .int .i64 0, .int .i64 0] 56 (0, 0)) := by
      rw [hs3.only.block _ (by have := lt_of_block H43.out; simp; omega) (fun e => by have := Hgp.out.1; simp at e; omega) (fun e => by have := Hgp.out.2; simp [Value.ownBlock] at e; omega), heap_alloc_old _ _ (lt_of_block H43.out)]
      exact H43.out
    have h7 : w3.heap[w2.heap.size]? = some (.cells #[.int .i64 x.id, .int .i64 x.ow, .int .i64 x.sd, .int .i64 x.pr, .int .i64 x.q] 56 (0, 0)) := by
      rw [hs3.only.block _ (by simp) (fun e => by have := Hgp.out.1; simp at e; omega) (fun e => by have := Hgp.out.2; simp [Value.ownBlock] at e; omega), heap_alloc_new]
    have cs : ∀ j, j < 5 → w3.cell? ⟨w.heap.size, j, none⟩ = some (.int .i64 0) ∧ w3.frozen? ⟨w.heap.size, j, none⟩ = false := fun j hj => by
      refine ⟨?_, by simp [World.frozen?, h43']⟩
      simp only [World.cell?, h43']
      have : j = 0 ∨ j = 1 ∨ j = 2 ∨ j = 3 ∨ j = 4 := by omega
      rcases this with rfl | rfl | rfl | rfl | rfl <;> rfl
    have ⟨a0, f0⟩ := cs 0 (by decide); have ⟨a1, f1⟩ := cs 1 (by decide); have ⟨a2, f2⟩ := cs 2 (by decide); have ⟨a3, f3⟩ := cs 3 (by decide); have ⟨a4, f4⟩ := cs 4 (by decide)
    have b0 : w3.cell? ⟨w2.heap.size, 0, none⟩ = some (.int .i64 x.id) := by simp [World.cell?, h7]
    have b1 : w3.cell? ⟨w2.heap.size, 1, none⟩ = some (.int .i64 x.ow) := by simp [World.cell?, h7]
    have b2 : w3.cell? ⟨w2.heap.size, 2, none⟩ = some (.int .i64 x.sd) := by simp [World.cell?, h7]
    have b3 : w3.cell? ⟨w2.heap.size, 3, none⟩ = some (.int .i64 x.pr) := by simp [World.cell?, h7]
    have b4 : w3.cell? ⟨w2.heap.size, 4, none⟩ = some (.int .i64 x.q) := by simp [World.cell?, h7]
    have HS3 := hide hs3; have HK3 := hide hk3
    have HLT := hide (lt_of_block h43')
    clear cs hs3 hk3 h7 h43' hcell c0 c1 c2 c3 c4 hsz
    simp only []
    go_wp2
    refine bodyPost_ret (v := .tuple #[lotV x, .nilIface]) (by simp [results, Tryz.results42, go_sem, lotV, a0, a1, a2, a3, a4]) rfl ⟨?_, ?_⟩
    · rw [HC.out.1, HC.out.2.2]; rfl
    · have hst := (Step.of_below ((HB.out.alloc HB.out.size (.cells #[.int .i64 x.id, .int .i64 x.ow, .int .i64 x.sd, .int .i64 x.pr, .int .i64 x.q] 56))) p _).trans HS3.out
      have hne : v3.ownBlock ≠ some w.heap.size := fun e => by
        rcases HS3.out.new _ e with h | h
        · have := Hgp.out.2; simp [Value.ownBlock] at h; omega
        · have := lt_of_block H43.out; simp at h; omega
      have hnp : w.heap.size ≠ p := by have := Hgp.out.1; omega
      refine ⟨v3, ?_, ((((hst.setNew (Nat.le_refl _) _ _).setNew (Nat.le_refl _) _ _).setNew (Nat.le_refl _) _ _).setNew (Nat.le_refl _) _ _).setNew (Nat.le_refl _) _ _⟩
      rw [HC.out.2.1]
      exact ((((HK3.out.setOther hnp hne _ _).setOther hnp hne _ _).setOther hnp hne _ _).setOther hnp hne _ _).setOther hnp hne _ _

/-- a lot of which something is taken, in its place -/
theorem flat_put {l : List Cv.Lot} {k : Nat} (hk : k < l.length) (x : Cv.Lot) : flat (Bk.put l k x) = (flat l).take (k * 5) ++ lotCells x ++ (flat l).drop (k * 5 + 5) := by
  unfold Bk.put
  rw [flat_append, flat_take l k (by omega), show k * 5 + 5 = (k + 1) * 5 by omega, flat_drop l (k + 1) (by omega)]
  simp [flat]
theorem flat_split {l : List Cv.Lot} {k : Nat} (hk : k < l.length) : flat l = (flat l).take (k * 5) ++ lotCells (Cv.nth l k) ++ (flat l).drop (k * 5 + 5) := by
  have e := Bk.split_at hk
  rw [← flat_put hk, Bk.put, ← e]
theorem Book.less {w : World} {base p g cap : Nat} {l : List Cv.Lot} (h : Book w base p (.slice (some ⟨g, 0, none⟩) l.length cap) l) {k : Nat} (hk : k < l.length) (q : Int) :
    Book (w.setCell ⟨g, k * 5 + 4, none⟩ (.int .i64 ((Cv.nth l k).q - q))) base p (.slice (some ⟨g, 0, none⟩) l.length cap) (Bk.put l k (Bk.less (Cv.nth l k) q)) ∧ Step w (w.setCell ⟨g, k * 5 + 4, none⟩ (.int .i64 ((Cv.nth l k).q - q))) p (.slice (some ⟨g, 0, none⟩) l.length cap) (.slice (some ⟨g, 0, none⟩) l.length cap) := by
  have hr := row_setCells h.row (k * 5 + 4) [.int .i64 ((Cv.nth l k).q - q)] l.length (by
    rcases h.row.2 with ⟨e, _⟩ | ⟨g', cap', cur, e, _, _, hc, _⟩
    · cases e
    · obtain ⟨_, rfl⟩ : g = g' ∧ cap = cap' := by simpa using e
      exact hc) (by show k * 5 + 4 + 1 ≤ _; omega) (flat (Bk.put l k (Bk.less (Cv.nth l k) q))) (by rw [flat_length, Bk.put_length hk]) (Nat.le_refl _) (by
    rw [List.take_of_length_le (by simp only [List.length_append, List.length_take, List.length_drop, flat_length, List.length_cons, List.length_nil]; omega)]
    have hl : ((flat l).take (k * 5)).length = k * 5 := by rw [List.length_take, flat_length]; omega
    have e1 : (flat l).take (k * 5 + 4) = (flat l).take (k * 5) ++ [.int .i64 (Cv.nth l k).id, .int .i64 (Cv.nth l k).ow, .int .i64 (Cv.nth l k).sd, .int .i64 (Cv.nth l k).pr] := by
      have e := flat_split hk
      generalize (flat l).drop (k * 5 + 5) = D at *
      have e2 : (flat l).take (k * 5 + 4) = ((flat l).take (k * 5) ++ lotCells (Cv.nth l k) ++ D).take (k * 5 + 4) := by rw [← e]
      generalize (flat l).take (k * 5) = A at *
      rw [e2, List.append_assoc, List.take_append, hl]
      simp [lotCells, hl, List.take_of_length_le]
    rw [e1, flat_put hk]
    simp [lotCells, Bk.less])
  have hs : w.setCells g (k * 5 + 4) [.int .i64 ((Cv.nth l k).q - q)] = w.setCell ⟨g, k * 5 + 4, none⟩ (.int .i64 ((Cv.nth l k).q - q)) := rfl
  rw [hs] at hr
  have hgp : g ≠ p := fun e => h.ne (by rw [e]; rfl)
  refine ⟨⟨by rw [Below.heap_setCell _ _ _ _ (by show p ≠ g; omega)]; exact h.cell, h.lo, by rw [Bk.put_length hk]; exact hr⟩, ⟨(Only.setCell w g _ _ (some p)).swap, fun k h => .inl h⟩⟩

theorem Bk.del_put {l : List Cv.Lot} {k : Nat} (hk : k < l.length) (x : Cv.Lot) : Bk.del (Bk.put l k x) k = Bk.del l k := by
  have hl : (l.take k).length = k := by rw [List.length_take]; omega
  unfold Bk.del Bk.put
  congr 1
  · rw [List.take_append_of_le_length (by omega), List.take_of_length_le (by omega)]
  · rw [List.drop_append, hl, List.drop_of_length_le (by omega), show k + 1 - k = 1 by omega]
    rfl
set_option maxHeartbeats 1000000 in
theorem take_any (p base : Nat) (v : Value) (id q : Int) (l : List Cv.Lot) (T : TypeId) (v1 v5 v6 v7 : Value) (w : World) (he : Hid (Er4 w T v1 v5 v6 v7)) (hb : Hid (Book w base p v l)) (hgood : Hid (Bk.Good l)) :
    Calls Tryz.prog 91 #[.pointer (some ⟨p, 0, none⟩), .int .i64 id, .int .i64 q] w fun e w' => e = .returned (errOf T v1 v5 v6 v7 (Bk.takC l id q)) ∧ ∃ v', Book w' base p v' (Bk.takL l id q) ∧ Step w w' p v v' := by
  have hn : Hid (l.length ≤ 60) := hgood.out.len
  go_enter Tryz.func91, Tryz.ntmps91
  go_wp2_with fail
  refine (find_any p base v id l w hb hn).mono ?_
  rintro e w2 ⟨rfl, hb2⟩
  have HB := hide hb2
  have HK := hide (hb.out.later hb2)
  have HE := hide (he.out.later hb2)
  clear hb2
  cases hh : Cv.has l id with
  | false =>
    rw [Bk.posI_none hh]
    have HC : Hid (Bk.takC l id q = 4 ∧ Bk.takL l id q = l) := by
      have e : Bk.takC l id q = 4 := by unfold Bk.takC; rw [hh]; rfl
      exact ⟨e, by unfold Bk.takL; rw [e]; rfl⟩
    clear hh
    have c5 := HE.out.c5
    simp only []
    go_wp2
    go_ret
    exact ⟨by rw [HC.out.1]; rfl, v, by rw [HC.out.2]; exact HK.out, Step.of_below HB.out p v⟩
  | true =>
    have Hh := hide hh
    rw [Bk.posI_some hh]
    have hk := Bk.posI_lt hh
    have HK0 := hide hk
    clear hh
    have hcell := cell_of_one HK.out.cell
    rcases HK.out.form with ⟨_, hl⟩ | ⟨g, cap, rfl, hle, _, hl⟩
    · rw [hl] at hk; exact absurd hk (Nat.not_lt_zero _)
    have HX : Hid (Cv.ok (Cv.nth l (Bk.pos l id)) = true) := hgood.out.oks _ (Cv.nth_mem hk)
    obtain ⟨_, _, _, _, c4⟩ := hl _ hk
    have h60 : l.length ≤ 60 := hn.out
    obtain ⟨n, hnn⟩ : ∃ n, l.length = n := ⟨_, rfl⟩
    have Hnn := hide hnn
    rw [hnn] at hk hcell h60
    have hki : (Bk.pos l id : Int) < n := by omega
    simp only [Nat.zero_add] at c4
    have hxb := (Cv.ok_bounds HX.out).2.2.2.2
    have HLS := hide (HK.out.less HK0.out q)
    obtain ⟨xq, hxq⟩ : ∃ xq, (Cv.nth l (Bk.pos l id)).q = xq := ⟨_, rfl⟩
    obtain ⟨k, hkk⟩ : ∃ k, Bk.pos l id = k := ⟨_, rfl⟩
    have HXQ := hide hxq; have HKK := hide hkk
    rw [hxq] at c4 hxb HLS
    rw [hkk] at hk hki c4 HLS ⊢
    clear hxq hkk hnn hl hle HX
    have hg : g < w2.heap.size := World.block_lt_of_cell? _ _ c4
    simp only []
    go_wp2_with fail
    refine (within_any q 1 xq _).mono ?_
    rintro e w3 ⟨rfl, rfl⟩
    cases hw : Wi.withinB q 1 xq with
    | false =>
      have HC : Hid (Bk.takC l id q = 1 ∧ Bk.takL l id q = l) := by
        have e : Bk.takC l id q = 1 := by unfold Bk.takC; rw [if_pos Hh.out, HXQ.out, hw]; rfl
        exact ⟨e, by unfold Bk.takL; rw [e]; rfl⟩
      clear hw
      have c1 := HE.out.er.c1
      simp only []
      go_wp2
      go_ret
      exact ⟨by rw [HC.out.1]; rfl, _, by rw [HC.out.2]; exact HK.out, Step.of_below HB.out p _⟩
    | true =>
      have HC0 : Hid (Bk.takC l id q = 0) := by show _ = _; unfold Bk.takC; rw [if_pos Hh.out, HXQ.out, hw]; rfl
      have hqb : 1 ≤ q ∧ q ≤ xq := by simpa [Wi.withinB] using hw
      have f4 : w3.frozen? ⟨g, k * 5 + 4, none⟩ = false := (row_open (by have := HK.out.row; rw [Hnn.out] at this; exact this) (k * 5 + 4) (by omega)).2.1
      have hgp : ¬ (g = p) := fun e => HK.out.ne (by rw [e]; rfl)
      clear hw
      have hsub : IntKind.i64.wrap (xq - q) = xq - q := IntWalk.i64_in _ (by omega)
      by_cases hq : q = xq
      · have hz : xq - q = 0 := by omega
        have HL1 : Hid (Bk.takL l id q = Bk.del l k) := by show _ = _; unfold Bk.takL; rw [if_pos HC0.out, HXQ.out, if_pos hq, HKK.out]
        have HDP : Hid (Bk.del (Bk.put l k (Bk.less (Cv.nth l k) q)) k = Bk.del l k) := Bk.del_put (by rw [Hnn.out]; exact hk) _
        have HRM := hide (remove_any p base k _ _ _ HLS.out.1 (by rw [Bk.put_length (by rw [Hnn.out]; exact hk), Hnn.out]; exact hk) (by show _ ≤ _; rw [Bk.put_length (by rw [Hnn.out]; exact hk)]; exact hn.out))
        rw [hz] at HRM HLS
        have HQ := hide hq
        clear hq
        simp only []
        go_wp2_with fail
        refine HRM.out.mono ?_
        rintro e w4 ⟨rfl, v4, hk4, hs4⟩
        have HK4 := hide hk4; have HS4 := hide hs4
        clear hk4 hs4 HRM
        simp only []
        go_wp2
        go_ret
        refine ⟨by rw [HC0.out]; rfl, v4, by rw [HL1.out, ← HDP.out]; exact HK4.out, ((Step.of_below HB.out p _).trans HLS.out.2).trans HS4.out⟩
      · have hz : ¬ (xq - q = 0) := by omega
        have HL1 : Hid (Bk.takL l id q = Bk.put l k (Bk.less (Cv.nth l k) q)) := by show _ = _; unfold Bk.takL; rw [if_pos HC0.out, HXQ.out, if_neg hq, HKK.out]
        have HQ := hide hq
        clear hq
        simp only []
        go_wp2
        go_ret
        refine ⟨by rw [HC0.out]; rfl, _, by rw [HL1.out]; exact HLS.out.1, (Step.of_below HB.out p _).trans HLS.out.2⟩
end Go.Proofs.YtjdnahmdicamdaaGreatDoor
/- The law CurveAdds, for all lots. -/
namespace Go.Proofs.YtjdnahmdicamdaaGreatDoor
open Go.RowKit
set_option maxRecDepth 100000

theorem check_well (v : Value) (l : List Cv.Lot) (T : TypeId) (v1 v6 v7 : Value) (w : World) (hv : Lots w v l) (he : Hid (Er w T v1 v6 v7)) (hok : Cv.Well l) :
    Calls Tryz.prog 45 #[v] w fun e w' => e = .returned .nilIface ∧ Below w.heap.size w w' := by
  rcases hv with ⟨rfl, a, cap, rfl⟩ | ⟨b, off, cap, rfl, hcap, hl⟩
  · refine (check_none cap a w).mono ?_
    rintro e w' ⟨rfl, rfl⟩
    exact ⟨rfl, Below.refl _ _⟩
  · exact check_fine' b off cap _ l T v1 v6 v7 w rfl hcap hl he hok
theorem check_ill (v : Value) (l : List Cv.Lot) (T : TypeId) (v1 v6 v7 : Value) (w : World) (hv : Lots w v l) (he : Hid (Er w T v1 v6 v7)) (hbad : ¬ Cv.Well l) :
    Calls Tryz.prog 45 #[v] w fun e w' => (∃ U x, e = .returned (.iface U x)) ∧ Below w.heap.size w w' := by
  rcases hv with ⟨rfl, a, cap, rfl⟩ | ⟨b, off, cap, rfl, hcap, hl⟩
  · exact absurd Cv.well_nil hbad
  · exact check_bad b off cap _ l T v1 v6 v7 w rfl hcap hl he hbad
theorem Lots.take {w : World} {b off cap : Nat} {l : List Cv.Lot} (h : LotsAt w b off l) (hn : l.length ≤ cap) (k : Nat) (hk : k ≤ l.length) : Lots w (.slice (some ⟨b, off, none⟩) k cap) (l.take k) := by
  have e : (l.take k).length = k := by rw [List.length_take]; omega
  exact .inr ⟨b, off, cap, by rw [e], by rw [e]; omega, h.take k⟩
theorem Lots.drop {w : World} {b off cap : Nat} {l : List Cv.Lot} (h : LotsAt w b off l) (hn : l.length ≤ cap) (k : Nat) (hk : k ≤ l.length) : Lots w (.slice (some ⟨b, off + k * 5, none⟩) (l.length - k) (cap - k)) (l.drop k) := by
  exact .inr ⟨b, off + k * 5, cap - k, by rw [List.length_drop], by rw [List.length_drop]; omega, h.drop k⟩
end Go.Proofs.YtjdnahmdicamdaaGreatDoor
/- The numbers of a seed: next, Stream, and the document's, by their contracts. -/
namespace Go.Proofs.YtjdnahmdicamdaaGreatDoor
open Go.RowKit
set_option maxRecDepth 100000
namespace Ra
def half (x : Int) : Int := bits .xor .u32 x (x * 8192 % 4294967296)
def half2 (x : Int) : Int := bits .xor .u32 (half x) (half x / 131072)
/-- the next number -/
def nxt (x : Int) : Int := bits .xor .u32 (half2 x) (half2 x * 32 % 4294967296)
def seedOf (s : Int) : Int := if s = 0 then 2463534242 else s
/-- the numbers of a seed -/
def num (s : Int) : Nat → Int
  | 0 => seedOf s
  | k + 1 => nxt (num s k)
def IsU (x : Int) : Prop := 0 ≤ x ∧ x < 4294967296
theorem half_u (x : Int) : IsU (half x) := ⟨(bits_within .xor .u32 _ _).1, by have := (bits_within .xor .u32 x (x * 8192 % 4294967296)).2; unfold half; have e : IntKind.u32.max = 4294967295 := rfl; omega⟩
theorem half2_u (x : Int) : IsU (half2 x) := ⟨(bits_within .xor .u32 _ _).1, by have := (bits_within .xor .u32 (half x) (half x / 131072)).2; unfold half2; have e : IntKind.u32.max = 4294967295 := rfl; omega⟩
theorem nxt_u (x : Int) : IsU (nxt x) := ⟨(bits_within .xor .u32 _ _).1, by have := (bits_within .xor .u32 (half2 x) (half2 x * 32 % 4294967296)).2; unfold nxt; have e : IntKind.u32.max = 4294967295 := rfl; omega⟩
theorem seedOf_u {s : Int} (h : IsU s) : IsU (seedOf s) := by unfold seedOf; split; exact ⟨by omega, by omega⟩; exact h
theorem num_u {s : Int} (h : IsU s) : ∀ k, IsU (num s k)
  | 0 => seedOf_u h
  | _ + 1 => nxt_u _
/-- so many in another order, behind k changes of places -/
def shuf (s : Int) (n : Nat) : Nat → Array Int
  | 0 => ((List.range n).map Int.ofNat).toArray
  | k + 1 => Sort.swp (shuf s n k) (n - 1 - k) (num s (k + 1) % ((n - k : Nat) : Int)).toNat
theorem shuf_size (s : Int) (n : Nat) : ∀ k, (shuf s n k).size = n
  | 0 => by simp [shuf]
  | k + 1 => by rw [shuf, Sort.size_swp]; exact shuf_size s n k
end Ra

theorem next_any (x : Int) (hx : Ra.IsU x) (w : World) : Calls Tryz.prog 152 #[.int .u32 x] w fun e w' => e = .returned (.int .u32 (Ra.nxt x)) ∧ w' = w := by
  obtain ⟨h0, h1⟩ := hx
  go_enter Tryz.func152, Tryz.ntmps152
  go_wp2
  go_ret
  exact ⟨rfl, rfl⟩
theorem nextOf_any (x : Int) (hx : Ra.IsU x) (w : World) : Calls Tryz.prog 141 #[.int .u32 x] w fun e w' => e = .returned (.int .u32 (Ra.nxt x)) ∧ w' = w := by
  obtain ⟨h0, h1⟩ := hx
  go_enter Tryz.func141, Tryz.ntmps141
  go_wp2
  go_ret
  exact ⟨rfl, rfl⟩
theorem seedOf_any (x : Int) (w : World) : Calls Tryz.prog 140 #[.int .u32 x] w fun e w' => e = .returned (.int .u32 (Ra.seedOf x)) ∧ w' = w := by
  by_cases h : x = 0
  · subst h
    go_enter Tryz.func140, Tryz.ntmps140
    go_wp2
    go_ret
    exact ⟨rfl, rfl⟩
  · have e : Ra.seedOf x = x := if_neg h
    rw [e]
    go_enter Tryz.func140, Tryz.ntmps140
    go_wp2
    go_ret
    exact ⟨rfl, rfl⟩

/-- a slice of numbers of 32 bits -/
def Words (w : World) (base : Nat) (v : Value) (n : Nat) (f : Nat → Int) : Prop :=
  (n = 0 ∧ ∃ a cap, v = .slice a 0 cap) ∨ ∃ b cap, v = .slice (some ⟨b, 0, none⟩) n cap ∧ base ≤ b ∧ b < w.heap.size ∧ ∀ i, i < n → w.cell? ⟨b, i, none⟩ = some (.int .u32 (f i))
theorem Words.later {w w' : World} {base : Nat} {v : Value} {n : Nat} {f : Nat → Int} (h : Words w base v n f) (hb : Below w.heap.size w w') : Words w' base v n f := by
  rcases h with h | ⟨b, cap, h1, h2, h3, h4⟩
  · exact .inl h
  · exact .inr ⟨b, cap, h1, h2, Nat.lt_of_lt_of_le h3 hb.size, fun i hi => cell_later hb (h4 i hi)⟩
theorem info23 : ∃ i, Tryz.prog.info? 23 = some i ∧ i.zero = some (.int .u32 0) ∧ i.size = 1 ∧ i.bytes = 4 := ⟨_, rfl, rfl, rfl, rfl⟩
def wds (f : Nat → Int) (k : Nat) : List Value := (List.range k).map fun i => .int .u32 (f i)
theorem wds_succ (f : Nat → Int) (k : Nat) : wds f (k + 1) = wds f k ++ [.int .u32 (f k)] := by simp [wds, List.range_succ]
theorem cell_new1 (w : World) (o : Array Value) (T : TypeId) (u : Value) (j : Nat) (x : Value) (ho : o = #[x]) (hj : [x][j]? = some u) : (w.alloc (.cells o T)).cell? ((⟨w.heap.size, 0, none⟩ : Addr).add j) = some u := by
  subst ho
  match j, hj with
  | 0, hj =>
    have hj : x = u := by simpa using hj
    subst hj
    show World.cell? _ ⟨w.heap.size, 0, none⟩ = _
    rw [World.cell?_alloc_new]
    rfl
  | j + 1, hj => simp at hj
theorem words_of {w : World} {base n : Nat} {v : Value} {f : Nat → Int} (h : w.ownsRow base 23 1 v n (wds f n)) : Words w base v n f := by
  rcases h.2 with ⟨h1, h2⟩ | ⟨g, cap, cur, h1, hg1, hg2, _, _, _, _⟩
  · exact .inl ⟨h2, none, 0, h1⟩
  · refine .inr ⟨g, cap, h1, hg1, (Array.getElem?_eq_some_iff.1 hg2).1, fun i hi => ?_⟩
    have := World.ownsRow.cells h (g := g) (by rw [h1]; rfl) i (.int .u32 (f i)) (by simp [wds, hi])
    have hp : (⟨g, 0, none⟩ : Addr).add i = ⟨g, i, none⟩ := by unfold Addr.add; split <;> simp_all
    rwa [hp] at this

set_option maxHeartbeats 400000 in
theorem stream_from (s x0 : Int) (n : Nat) (hx : Hid (∀ k, Ra.IsU (Ra.num s k))) (hn' : n ≤ 1000) (w : World) (hs : (x0 = 0 ∧ Hid (2463534242 = Ra.num s 0)) ∨ (¬ x0 = 0 ∧ Hid (x0 = Ra.num s 0))) :
    Calls Tryz.prog 148 #[.int .u32 x0, .int .i64 (n : Int)] w fun e w' => ∃ v, e = .returned v ∧ Words w' w.heap.size v n (fun i => Ra.num s (i + 1)) ∧ Below w.heap.size w w' := by
  obtain ⟨i0, hi, hz0, hz1, hz2⟩ := info23
  have Hi := hide hi; have Hz0 := hide hz0; have Hz1 := hide hz1; have Hz2 := hide hz2
  clear hi hz0 hz1 hz2
  have hmin : (n : Int) ≤ 1000 := by omega
  have hbb : x0 = 0 ∨ (x0 == 0) = false := by by_cases h : x0 = 0; exact .inl h; exact .inr (by simpa using h)
  have h0 : Hid ((if x0 = 0 then 2463534242 else x0) = Ra.num s 0) := by
    rcases hs with ⟨h1, h2⟩ | ⟨h1, h2⟩
    · show _ = _; rw [if_pos h1]; exact h2.out
    · show _ = _; rw [if_neg h1]; exact h2.out
  clear hs
  rcases hbb with rfl | h1
  all_goals
    go_enter Tryz.func148, Tryz.ntmps148
    go_wp2
    go_loopw [5, 6, 12] (fun x v i wr => ∃ k : Nat, k ≤ n ∧ i = .int .i64 k ∧ x = .int .u32 (Ra.num s k) ∧ wr.ownsRow w.heap.size 23 1 v k (wds (fun i => Ra.num s (i + 1)) k) ∧ Below w.heap.size w wr) (fun _ _ i _ => n - (intOf i).toNat)
    case atStart => exact ⟨0, Nat.zero_le _, rfl, by rw [← h0.out]; simp_all, World.ownsRow_nil _ _ _ _, Below.refl _ _⟩
    case round =>
      obtain ⟨k, hk, rfl, rfl, hown, hb⟩ := hrel
      have HB := hide hb; have HO := hide hown
      clear hb hown
      by_cases hlt : k < n
      · have hki : (k : Int) < n := by omega
        go_wp2_with fail
        refine (next_any _ (hx.out k) _).mono ?_
        rintro e w2 ⟨rfl, rfl⟩
        simp only []
        generalize hy : Ra.nxt (Ra.num s k) = y
        have HY : Hid (y = Ra.num s (k + 1)) := hy.symm
        clear hy
        go_wp2_with (at_builtin; refine wpList_append_own _ rfl _ _ 228 rfl w.heap.size 23 i0 (.int .u32 0) 1 4 Tryz.underlying228 Hi.out Hz0.out Hz1.out Hz2.out rfl (by decide) _ _ _ rfl (HO.out.alloc _) ⟨w2.heap.size, 0, none⟩ 1 1 [.int .u32 y] rfl rfl ?c1 ?c2 ?c3 ?c4 ?c5 ?_)
        case c1 => exact fun j u hj => cell_new1 w2 _ _ u j _ rfl hj
        case c2 => intro u hu; have hu : u = .int .u32 y := by simpa using hu
                   rw [hu]; rfl
        case c3 => unfold maxLen; omega
        case c4 => omega
        case c5 => have := HB.out.size; simp; omega
        intro v3 w3 hown' hgrow _
        have HO3 : Hid (w3.ownsRow w.heap.size 23 1 v3 (k + 1) (wds (fun i => Ra.num s (i + 1)) (k + 1))) := by
          show w3.ownsRow _ _ _ _ _ _
          rw [wds_succ, ← HY.out]
          exact hown'
        have HB3 : Hid (Below w.heap.size w w3) := (HB.out.alloc HB.out.size _).grown hgrow (by have := HB.out.size; simp; omega) (fun j hj => by
          rcases HO.out.2 with ⟨e, _⟩ | ⟨g, cap, cur, e, hg, _⟩
          · rw [e] at hj; cases hj
          · rw [e] at hj; cases hj; exact hg)
        clear hown' hgrow HO HB
        go_wp2
        exact ⟨⟨k + 1, by omega, by go_num, by rw [HY.out], HO3.out, HB3.out⟩, by simp [intOf]; omega⟩
      · have hki : ¬ (k : Int) < n := by omega
        obtain rfl : k = n := by omega
        have HW := hide (words_of HO.out)
        clear HO
        go_wp2
        go_ret
        exact ⟨_, rfl, HW.out, HB.out⟩
theorem stream_any (s : Int) (n : Nat) (hs : Ra.IsU s) (hn' : n ≤ 1000) (w : World) :
    Calls Tryz.prog 148 #[.int .u32 s, .int .i64 (n : Int)] w fun e w' => ∃ v, e = .returned v ∧ Words w' w.heap.size v n (fun i => Ra.num s (i + 1)) ∧ Below w.heap.size w w' := by
  refine stream_from s s n (Ra.num_u hs) hn' w ?_
  by_cases h : s = 0
  · exact .inl ⟨h, by subst h; rfl⟩
  · exact .inr ⟨h, by show s = Ra.seedOf s; unfold Ra.seedOf; rw [if_neg h]⟩
end Go.Proofs.YtjdnahmdicamdaaGreatDoor
/- Levels in a map by price: what a map of levels holds, how a level is looked up, how one is written. -/
namespace Go.Proofs.YtjdnahmdicamdaaGreatDoor
open Go.RowKit Go.Maps
set_option maxRecDepth 100000

/-- a level's value reads as itself -/
def RV (v : Value) : Option (DataW Value × List MemPlace) := some (.held v, [])
def lvV (g : Value) (q : Int) : Value := .agg #[g, .int .i64 q]
def zl : Value := lvV (.slice none 0 0) 0
theorem lvV_inj {g g' : Value} {q q' : Int} (h : lvV g q = lvV g' q') : g = g' ∧ q = q' := by
  simpa [lvV] using h
theorem keyed3 : Keyed Tryz.prog 3 := int_keyed Tryz.underlying3
theorem zero62 (w : World) : (zeroValue 188).run Tryz.prog w = .ok zl w := by kernel_rfl
theorem key3 {p : Int} (h1 : -9223372036854775808 ≤ p) (h2 : p ≤ 9223372036854775807) : keyOf Tryz.prog 3 (.int .i64 p) = some (.int .i64 p) := keyOf_int_mk Tryz.underlying3 (WalkArith.wf_i64 (by omega))

structure Lvls (w : World) (base b n : Nat) (f : Int → List Cv.Lot) (D : DataW Value) (g : Int → Value) : Prop where
  own : w.ownsMap Tryz.prog 3 RV b n D
  at_ : ∀ p, D.atKey (.int .i64 p) (.held zl) = .held (lvV (g p) (Ra.tot (f p)))
  has_ : ∀ p, Maps.has D (.int .i64 p) = !(f p).isEmpty
  row : ∀ p, w.ownsRow base 56 5 (g p) (f p).length (flat (f p))
  apart : ∀ p q r, p ≠ q → (g p).ownBlock = some r → (g q).ownBlock ≠ some r

theorem Lvls.notMap {w : World} {base b n : Nat} {f : Int → List Cv.Lot} {D : DataW Value} {g : Int → Value} (h : Lvls w base b n f D g) (p : Int) : (g p).ownBlock ≠ some b := by
  intro e
  obtain ⟨es, clock, hb, _⟩ := h.own
  rcases (h.row p).2 with ⟨e1, _⟩ | ⟨r, cap, cur, e1, _, hr, _⟩
  · rw [e1] at e; cases e
  · rw [e1] at e
    have : r = b := by simpa [Value.ownBlock] using e
    rw [this, hb] at hr
    cases hr
theorem Lvls.kept {w w' : World} {base b n : Nat} {f : Int → List Cv.Lot} {D : DataW Value} {g : Int → Value} {row : Option Nat} (h : Lvls w base b n f D g) (hg : w.grownBy w' row) (hb : some b ≠ row) (hr : ∀ p, (g p).ownBlock = none ∨ (g p).ownBlock ≠ row) : Lvls w' base b n f D g :=
  ⟨h.own.kept hg hb, h.at_, h.has_, fun p => (h.row p).kept hg (hr p), h.apart⟩
theorem Lvls.alloc {w : World} {base b n : Nat} {f : Int → List Cv.Lot} {D : DataW Value} {g : Int → Value} (h : Lvls w base b n f D g) (o : Obj) : Lvls (w.alloc o) base b n f D g :=
  ⟨h.own.alloc o, h.at_, h.has_, fun p => (h.row p).alloc o, h.apart⟩
theorem Lvls.drew {w : World} {base b n : Nat} {f : Int → List Cv.Lot} {D : DataW Value} {g : Int → Value} (h : Lvls w base b n f D g) : Lvls w.drew base b n f D g :=
  ⟨h.own.drew, h.at_, h.has_, fun p => (h.row p).drew, h.apart⟩
theorem Lvls.later {w w' : World} {base b n : Nat} {f : Int → List Cv.Lot} {D : DataW Value} {g : Int → Value} (h : Lvls w base b n f D g) (hb : Below w.heap.size w w') : Lvls w' base b n f D g :=
  h.kept (row := none) ⟨hb.os, hb.tape, hb.output, hb.size, fun i hi _ => hb.block i hi⟩ (by simp) (fun p => by
    cases e : (g p).ownBlock with
    | none => exact .inl rfl
    | some r => exact .inr (by simp))

theorem Lvls.look {w : World} {base b n : Nat} {f : Int → List Cv.Lot} {D : DataW Value} {g : Int → Value} (h : Lvls w base b n f D g) {p : Int} (h1 : -9223372036854775808 ≤ p) (h2 : p ≤ 9223372036854775807) :
    (Instr.lookup 170 (.map (some b)) (.int .i64 p) false).run Tryz.prog w = .ok (lvV (g p) (Ra.tot (f p))) w := by
  obtain ⟨v, ps, hrun, hv⟩ := h.own.lookup keyed3 Tryz.underlying170 (zero62 w) (zd := .held zl) (zp := []) rfl (key3 h1 h2)
  rw [h.at_] at hv
  have : v = lvV (g p) (Ra.tot (f p)) := (by simpa [RV] using hv : _ ∧ ps = []).1
  rw [hrun, this]

/-- a level that grows by one lot -/
def grow (f : Int → List Cv.Lot) (p : Int) (x : Cv.Lot) : Int → List Cv.Lot := fun q => if q = p then f p ++ [x] else f q
theorem Lvls.store {w w3 : World} {base b n : Nat} {f : Int → List Cv.Lot} {D : DataW Value} {g : Int → Value} (h : Lvls w base b n f D g) {p : Int} (x : Cv.Lot) (h1 : -9223372036854775808 ≤ p) (h2 : p ≤ 9223372036854775807) (hn : n < maxLen) {v3 : Value}
    (hrow : w3.ownsRow base 56 5 v3 ((f p).length + 1) (flat (f p) ++ lotCells x)) (hg : w.grownBy w3 (g p).ownBlock) (hloc : v3.ownBlock = (g p).ownBlock ∨ v3.ownBlock = some w.heap.size) :
    ∃ w4 D' g', (Instr.mapUpdate 170 (.map (some b)) (.int .i64 p) (lvV v3 (Ra.tot (f p) + x.q))).run Tryz.prog w3 = .ok () w4 ∧ Lvls w4 base b (n + 1) (grow f p x) D' g' ∧ w3.grownBy w4 (some b) := by
  have hown3 : w3.ownsMap Tryz.prog 3 RV b n D := h.own.kept hg (fun e => h.notMap p e.symm)
  obtain ⟨w4, hrun, hown4, hg4⟩ := hown3.update keyed3 Tryz.underlying170 hn (key3 h1 h2) (val := lvV v3 (Ra.tot (f p) + x.q)) (d := .held (lvV v3 (Ra.tot (f p) + x.q))) (ps := []) rfl
  have hne : ∀ q : Int, q ≠ p → (Lit.int .i64 q) ≠ (Lit.int .i64 p) := fun q hq e => hq (by simpa using e)
  have hD : IsMap D := by obtain ⟨es, clock, _, _, _, e⟩ := h.own; exact ⟨_, e⟩
  refine ⟨w4, _, fun q => if q = p then v3 else g q, hrun, ⟨hown4, fun q => ?_, fun q => ?_, fun q => ?_, fun q r k hqr hq => ?_⟩, hg4⟩
  · by_cases hq : q = p
    · subst hq
      rw [atKey_put_same hD (by trivial)]
      simp [grow, Ra.tot_append, Ra.tot]
    · rw [atKey_put_other (hne q hq), h.at_]
      simp [grow, hq]
  · by_cases hq : q = p
    · subst hq
      rw [has_put_same hD (by trivial)]
      simp [grow]
    · rw [has_put_other (hne q hq), h.has_]
      simp [grow, hq]
  · have hfl : flat (f p ++ [x]) = flat (f p) ++ lotCells x := by simp [flat]
    have h4 : ∀ {v : Value} {m : Nat} {xs : List Value}, w3.ownsRow base 56 5 v m xs → w4.ownsRow base 56 5 v m xs := fun {v m xs} hv => hv.kept hg4 (by
      cases e : v.ownBlock with
      | none => exact .inl rfl
      | some r =>
        refine .inr fun e2 => ?_
        have hrb : r = b := by simpa using e2
        obtain ⟨es, clock, hb, _⟩ := hown3
        rcases hv.2 with ⟨e1, _⟩ | ⟨r', cap, cur, e1, _, hr, _⟩
        · rw [e1] at e; cases e
        · rw [e1] at e
          have : r' = r := by simpa [Value.ownBlock] using e
          rw [this, hrb, hb] at hr
          cases hr)
    by_cases hq : q = p
    · subst hq
      simp only [grow, if_true]
      rw [hfl, List.length_append]
      exact h4 hrow
    · simp only [grow, hq, if_false]
      refine h4 ((h.row q).kept hg ?_)
      cases e : (g q).ownBlock with
      | none => exact .inl rfl
      | some r => exact .inr fun e2 => h.apart p q r (Ne.symm hq) e2.symm e
  · have hlt : ∀ (q : Int) k, (g q).ownBlock = some k → k < w.heap.size := fun q k hk => ((h.row q).lt k hk).2
    by_cases hqp : q = p
    · have hrp : r ≠ p := fun e => hqr (hqp.trans e.symm)
      simp only [hqp, if_true] at hq
      simp only [hrp, if_false]
      intro e
      rcases hloc with hl | hl
      · exact h.apart p r k (fun e => hrp e.symm) (hl ▸ hq) e
      · rw [hl] at hq
        have := hlt r k e
        have : w.heap.size = k := by simpa using hq
        omega
    · simp only [hqp, if_false] at hq
      by_cases hrp : r = p
      · simp only [hrp, if_true]
        intro e
        rcases hloc with hl | hl
        · exact h.apart q p k hqp hq (hl ▸ e)
        · rw [hl] at e
          have := hlt q k hq
          have : w.heap.size = k := by simpa using e
          omega
      · simp only [hrp, if_false]
        exact h.apart q r k hqr hq
end Go.Proofs.YtjdnahmdicamdaaGreatDoor
