/- remove, Get, Lots and Copy of a book by their contracts. -/
import Derived.Test.YtbcinejhipmomaaDoorBkDel
namespace Go.Proofs.YtbcinejhipmomaaDoor
open Go.RowKit
set_option maxRecDepth 100000

theorem Book.set {w w2 : World} {base p : Nat} {v v' : Value} {l l' : List Cv.Lot} (h : Book w base p v l) (hg : w.grownBy w2 v.ownBlock) (hr : w2.ownsRow base 43 5 v' l'.length (flat l')) (hn : ∀ k, v'.ownBlock = some k → v.ownBlock = some k ∨ w.heap.size ≤ k) :
    Book (w2.setCell ⟨p, 0, none⟩ v') base p v' l' ∧ Step w (w2.setCell ⟨p, 0, none⟩ v') p v v' := by
  have hc : w2.heap[p]? = some (.cells #[v] 92 (0, 0)) := by rw [hg.block p h.lt (fun e => h.ne e.symm)]; exact h.cell
  have h3 : v'.ownBlock ≠ some p := by
    intro e
    rcases hr.2 with ⟨e1, _⟩ | ⟨r, cap, cur, e1, _, hr2, _⟩
    · rw [e1] at e; cases e
    · rw [e1] at e
      have : r = p := by simpa [Value.ownBlock] using e
      rw [this, hc] at hr2
      cases hr2
  refine ⟨⟨one_setCell hc, h.lo, ownsRow_setCell_other hr h3 _⟩, ⟨?_, hn⟩⟩
  exact (Only.of_grown hg (some p)).trans (Only.setCell w2 p 0 v' v.ownBlock) (fun k e => .inl e)
theorem Book.openAt {w w2 : World} {base p : Nat} {v : Value} {l : List Cv.Lot} (h : Book w base p v l) (hg : w.grownBy w2 v.ownBlock) : w2.cell? ⟨p, 0, none⟩ = some v ∧ w2.frozen? ⟨p, 0, none⟩ = false := by
  have hc : w2.heap[p]? = some (.cells #[v] 92 (0, 0)) := by rw [hg.block p h.lt (fun e => h.ne e.symm)]; exact h.cell
  exact ⟨cell_of_one hc, free_of_one hc⟩

theorem remove_any (p base k : Nat) (v : Value) (l : List Cv.Lot) (w : World) (hb : Hid (Book w base p v l)) (hk : k < l.length) (hn : Hid (l.length ≤ 60)) :
    Calls Tryd.prog 55 #[.pointer (some ⟨p, 0, none⟩), .int .i64 k] w fun e w' => e = .returned (.tuple #[]) ∧ ∃ v', Book w' base p v' (Bk.del l k) ∧ Step w w' p v v' := by
  have hcell := cell_of_one hb.out.cell
  rcases hb.out.form with ⟨_, hl⟩ | ⟨g, cap, rfl, hle, _, _⟩
  · rw [hl] at hk; exact absurd hk (Nat.not_lt_zero _)
  obtain ⟨n, hnn⟩ : ∃ n, l.length = n := ⟨_, rfl⟩
  have Hl := hide hnn
  have HD := hide (delete_any g cap n k (k + 1) base l w hnn (by rw [← hnn]; exact hb.out.row) rfl (by omega) (by omega) (by omega))
  have HL60 : Hid (n ≤ 60) := by rw [← hnn]; exact hn.out
  rw [hnn] at hcell hk hle ⊢
  clear hnn
  have hk60 : k < 60 := by have := HL60.out; omega
  have hkk : ((k + 1 : Nat) : Int) = (k : Int) + 1 := by omega
  rw [hkk] at HD
  go_enter Tryd.func55, Tryd.ntmps55
  go_wp2_with fail
  refine HD.out.mono ?_
  rintro e w2 ⟨rfl, hrow, hg⟩
  obtain ⟨k1, k2⟩ := hb.out.openAt (w2 := w2) (by rw [Hl.out]; exact hg)
  have HR := hide hrow; have HG := hide hg
  clear hrow hg hcell
  rw [Hl.out] at k1
  simp only []
  go_wp2
  go_end0
  have hd : (Bk.del l k).length = n - 1 := by rw [Bk.del_length (by rw [Hl.out]; exact hk), Hl.out]
  have hb' := hb.out
  rw [Hl.out] at hb'
  exact ⟨rfl, _, hb'.set HG.out (by rw [hd]; exact HR.out) (fun k h => .inl h)⟩

set_option maxHeartbeats 1000000 in
theorem clone_any (v : Value) (base n : Nat) (l : List Cv.Lot) (w : World) (hn : Hid (l.length = n)) (hn' : n ≤ 1000) (hr : Hid (w.ownsRow base 43 5 v n (flat l))) :
    Calls Tryd.prog 58 #[v] w fun e w' => ∃ v2, e = .returned v2 ∧ w'.ownsRow w.heap.size 43 5 v2 n (flat l) ∧ Below w.heap.size w w' := by
  have q22 : ∀ (w : World) (a : Option Addr) (n c n' c' : Nat), (binOp .eql 22 (.slice a n c) (.slice none n' c')).run Tryd.prog w = .ok (.bool a.isNone) w := fun w a n c n' c' => Lib.run_eql_slice_nil w _ _ a n c n' c' Tryd.underlying22
  rcases hr.out.2 with ⟨rfl, h0⟩ | ⟨g, cap, cur, rfl, _⟩
  · have HE : Hid (flat l = [] ∧ n = 0) := ⟨by rw [show l = [] from List.eq_nil_of_length_eq_zero (by rw [hn.out]; exact h0)]; rfl, h0⟩
    clear h0
    go_enter Tryd.func58, Tryd.ntmps58
    go_wp2
    go_ret
    exact ⟨_, rfl, by rw [HE.out.1, HE.out.2]; exact World.ownsRow_nil _ _ _ _, Below.refl _ _⟩
  · obtain ⟨i0, z0, hi, hz0, hz1, hz2, hz3⟩ := info110
    have Hi := hide hi; have Hz0 := hide hz0; have Hz1 := hide hz1; have Hz2 := hide hz2; have Hz3 := hide hz3
    clear hi hz0 hz1 hz2 hz3
    go_enter Tryd.func58, Tryd.ntmps58
    go_wp2_with (at_builtin; refine wpList_append_own _ rfl _ _ 22 rfl w.heap.size 43 i0 z0 5 40 Tryd.underlying22 Hi.out Hz0.out Hz1.out Hz2.out Hz3.out (by decide) _ _ _ rfl (World.ownsRow_made w #[] 0 (Nat.le_refl _) (Nat.zero_le _) (by simp)) ⟨g, 0, none⟩ n cap (flat l) rfl (by rw [flat_length, hn.out]) (fun j u hj => cell_later ((Below.refl _ _).alloc (Nat.le_refl _) _) (World.ownsRow.cells hr.out (g := g) rfl j u hj)) (flat_one l) (by unfold maxLen; omega) (by omega) (by simp) ?_)
    intro v2 w1 hown hgrow hnil
    have HO : Hid (w1.ownsRow w.heap.size 43 5 v2 n (flat l)) := by
      show World.ownsRow _ _ _ _ _ _ _
      simpa using hown
    have HB : Hid (Below w.heap.size w w1) := ((Below.refl _ w).alloc (Nat.le_refl _) _).grown hgrow (by simp) (by intro k hk; simp [Value.ownBlock] at hk; omega)
    clear hown hgrow hnil
    go_wp2
    go_ret
    exact ⟨v2, rfl, HO.out, HB.out⟩

theorem lots_any (p base : Nat) (v : Value) (l : List Cv.Lot) (w : World) (hb : Hid (Book w base p v l)) (hn : Hid (l.length ≤ 60)) :
    Calls Tryd.prog 27 #[.pointer (some ⟨p, 0, none⟩)] w fun e w' => ∃ v2, e = .returned v2 ∧ w'.ownsRow w.heap.size 43 5 v2 l.length (flat l) ∧ Below w.heap.size w w' := by
  have hcell := cell_of_one hb.out.cell
  have HC := hide (clone_any v base l.length l w rfl (by have := hn.out; omega) hb.out.row)
  obtain ⟨a, m, c, rfl⟩ : ∃ a m c, v = .slice a m c := by
    rcases hb.out.form with ⟨e, _⟩ | ⟨g, cap, e, _⟩
    · exact ⟨_, _, _, e⟩
    · exact ⟨_, _, _, e⟩
  go_enter Tryd.func27, Tryd.ntmps27
  go_wp2_with fail
  refine HC.out.mono ?_
  rintro e w2 ⟨v2, rfl, hr2, hb2⟩
  have HR := hide hr2; have HB := hide hb2
  clear hr2 hb2 hcell
  simp only []
  go_wp2
  go_ret
  exact ⟨v2, rfl, HR.out, HB.out⟩

theorem copy_any (p base : Nat) (v : Value) (l : List Cv.Lot) (w : World) (hb : Hid (Book w base p v l)) (hn : Hid (l.length ≤ 60)) :
    Calls Tryd.prog 34 #[.pointer (some ⟨p, 0, none⟩)] w fun e w' => ∃ q v2, e = .returned (.pointer (some ⟨q, 0, none⟩)) ∧ Book w' w.heap.size q v2 l ∧ Below w.heap.size w w' := by
  go_enter Tryd.func34, Tryd.ntmps34
  go_wp2_with fail
  refine (lots_any p base v l w hb hn).mono ?_
  rintro e w2 ⟨v2, rfl, hr2, hb2⟩
  have HB : Hid (Below w.heap.size w (w2.alloc (.cells #[v2] 92))) := hb2.alloc hb2.size _
  have HK : Hid (Book (w2.alloc (.cells #[v2] 92)) w.heap.size w2.heap.size v2 l) := ⟨heap_alloc_new _ _, hb2.size, hr2.alloc _⟩
  rcases hr2.2 with ⟨e, _⟩ | ⟨g, cap, cur, e, _⟩
  all_goals
    subst e
    clear hr2 hb2
    simp only []
    go_wp2
    go_ret
    exact ⟨_, _, rfl, HK.out, HB.out⟩

/-- the lot of an ID, or none -/
def Bk.getX (l : List Cv.Lot) (id : Int) : Cv.Lot := if Cv.has l id = true then Cv.nth l (Bk.pos l id) else Cv.z
set_option maxHeartbeats 1000000 in
theorem get_any (p base : Nat) (v : Value) (id : Int) (l : List Cv.Lot) (w : World) (hb : Hid (Book w base p v l)) (hn : Hid (l.length ≤ 60)) :
    Calls Tryd.prog 32 #[.pointer (some ⟨p, 0, none⟩), .int .i64 id] w fun e w' => e = .returned (.tuple #[lotV (Bk.getX l id), .bool (Cv.has l id)]) ∧ Below w.heap.size w w' := by
  have HF := hide (find_any p base v id l (w.alloc (.cells #[.int .i64 0, .int .i64 0, .int .i64 0, .int .i64 0, .int .i64 0] 43)) (hb.out.later ((Below.refl _ _).alloc (Nat.le_refl _) _)) hn)
  go_enter Tryd.func32, Tryd.ntmps32
  go_wp2_with fail
  refine HF.out.mono ?_
  rintro e w2 ⟨rfl, hb2⟩
  have hB2 : Below w.heap.size w w2 := ((Below.refl _ _).alloc (Nat.le_refl _) _).trans (hb2.mono (by simp))
  have HB := hide hB2
  have HP : Hid (∀ j, j < 5 → w2.cell? ⟨w.heap.size, j, none⟩ = some (.int .i64 0) ∧ w2.frozen? ⟨w.heap.size, j, none⟩ = false) := fun j hj => by
    have e := hb2.block w.heap.size (by simp)
    rw [heap_alloc_new] at e
    refine ⟨?_, by simp [World.frozen?, e]⟩
    simp only [World.cell?, e]
    have : j = 0 ∨ j = 1 ∨ j = 2 ∨ j = 3 ∨ j = 4 := by omega
    rcases this with rfl | rfl | rfl | rfl | rfl <;> rfl
  have HK := hide (hb.out.later hB2)
  have ⟨a0, f0⟩ := HP.out 0 (by decide); have ⟨a1, f1⟩ := HP.out 1 (by decide); have ⟨a2, f2⟩ := HP.out 2 (by decide); have ⟨a3, f3⟩ := HP.out 3 (by decide); have ⟨a4, f4⟩ := HP.out 4 (by decide)
  clear hb2 hB2 HF
  cases hh : Cv.has l id with
  | false =>
    have Hh := hide hh
    rw [Bk.posI_none hh]
    clear hh
    simp only []
    go_wp2
    refine bodyPost_ret (v := .tuple #[lotV Cv.z, .bool false]) (by simp [results, Tryd.results32, go_sem, lotV, Cv.z, a0, a1, a2, a3, a4]) rfl ⟨?_, ?_⟩
    · rw [show Bk.getX l id = Cv.z by unfold Bk.getX; rw [Hh.out]; rfl, Hh.out]
    · exact ((((HB.out.setCell (Nat.le_refl _) _).setCell (Nat.le_refl _) _).setCell (Nat.le_refl _) _).setCell (Nat.le_refl _) _).setCell (Nat.le_refl _) _
  | true =>
    have Hh := hide hh
    rw [Bk.posI_some hh]
    have hk := Bk.posI_lt hh
    clear hh
    have hcell := cell_of_one HK.out.cell
    rcases HK.out.form with ⟨_, hl⟩ | ⟨g, cap, rfl, hle, _, hl⟩
    · rw [hl] at hk; exact absurd hk (Nat.not_lt_zero _)
    obtain ⟨c0, c1, c2, c3, c4⟩ := hl _ hk
    have HX : Hid (Bk.getX l id = Cv.nth l (Bk.pos l id)) := by show _ = _; unfold Bk.getX; rw [if_pos Hh.out]
    have h60 : l.length ≤ 60 := hn.out
    obtain ⟨x, hx⟩ : ∃ x, Cv.nth l (Bk.pos l id) = x := ⟨_, rfl⟩
    rw [hx] at HX c0 c1 c2 c3 c4
    clear hx
    generalize Bk.pos l id = k at *
    obtain ⟨n, hnn⟩ : ∃ n, l.length = n := ⟨_, rfl⟩
    rw [hnn] at hk hcell h60
    have hg : g < w2.heap.size := World.block_lt_of_cell? _ _ c0
    have hki : (k : Int) < n := by omega
    simp only [Nat.zero_add] at c0 c1 c2 c3 c4
    clear hl hle hnn HK
    simp only []
    go_wp2
    refine bodyPost_ret (v := .tuple #[lotV x, .bool true]) (by simp [results, Tryd.results32, go_sem, lotV, a0, a1, a2, a3, a4]) rfl ⟨?_, ?_⟩
    · rw [Hh.out, HX.out]
    · exact ((((HB.out.setCell (Nat.le_refl _) _).setCell (Nat.le_refl _) _).setCell (Nat.le_refl _) _).setCell (Nat.le_refl _) _).setCell (Nat.le_refl _) _
end Go.Proofs.YtbcinejhipmomaaDoor
