/- Where a lot stands: find by its contract; New. -/
import Derived.Test.YtbcinejhipmomaaDoorBkMem
namespace Go.Proofs.YtbcinejhipmomaaDoor
open Go.RowKit
set_option maxRecDepth 100000

namespace Bk
open Cv
/-- where a lot stands, or -1 -/
def posI (l : List Lot) (id : Int) : Int := if has l id = true then (pos l id : Int) else -1
theorem posI_none {l : List Lot} {id : Int} (h : has l id = false) : posI l id = -1 := by unfold posI; rw [h]; rfl
theorem posI_some {l : List Lot} {id : Int} (h : has l id = true) : posI l id = (pos l id : Nat) := by unfold posI; rw [if_pos h]
theorem posI_at {l : List Lot} {id : Int} {k : Nat} (hk : k < l.length) (hn : has (l.take k) id = false) (hx : (nth l k).id = id) : posI l id = (k : Nat) := by
  have h1 : has l id = true := List.any_eq_true.2 ⟨nth l k, nth_mem hk, by simpa using hx⟩
  rw [posI_some h1]
  have h2 : pos l id = k := by
    unfold pos
    rw [List.findIdx_eq hk]
    refine ⟨by rw [← nth_get hk]; simpa using hx, fun j hj => ?_⟩
    have := List.any_eq_false.1 hn l[j] (by rw [List.mem_take_iff_getElem]; exact ⟨j, by omega, rfl⟩)
    simpa using this
  rw [h2]
theorem posI_lt {l : List Lot} {id : Int} (h : has l id = true) : pos l id < l.length := pos_has.1 h
end Bk

theorem findClos_any (x : Cv.Lot) (B : Nat) (id : Int) (w : World) (hc : w.cell? ⟨B, 0, none⟩ = some (.int .i64 id)) :
    Calls Tryd.prog 73 #[lotV x, .pointer (some ⟨B, 0, none⟩)] w fun e w' => e = .returned (.bool (x.id == id)) ∧ Below w.heap.size w w' := by
  have hB : B < w.heap.size := World.block_lt_of_cell? _ _ hc
  have hne : B ≠ w.heap.size := by omega
  show Calls Tryd.prog 73 #[.agg #[.int .i64 x.id, .int .i64 x.ow, .int .i64 x.sd, .int .i64 x.pr, .int .i64 x.q], .pointer (some ⟨B, 0, none⟩)] w _
  go_enter Tryd.func73, Tryd.ntmps73
  go_wp2
  all_goals go_ret
  all_goals
    refine ⟨ret_bool ?_, (Below.refl _ _).alloc (Nat.le_refl _) _⟩
    first | rfl | simp_all

set_option maxHeartbeats 1000000 in
theorem indexFunc_at (b off cap B : Nat) (id : Int) (l : List Cv.Lot) (w : World) (hn' : l.length ≤ 1000) (hl : Hid (LotsAt w b off l)) (hc : w.cell? ⟨B, 0, none⟩ = some (.int .i64 id)) :
    Calls Tryd.prog 72 #[.slice (some ⟨b, off, none⟩) l.length cap, .func (.func 73) #[] #[.pointer (some ⟨B, 0, none⟩)]] w fun e w' => e = .returned (.int .i64 (Bk.posI l id)) ∧ Below w.heap.size w w' := by
  generalize hn : l.length = n at *
  have Hn := hide hn
  clear hn
  go_enter Tryd.func72, Tryd.ntmps72
  go_wp2
  go_loopw [8] (fun i wr => ∃ k : Nat, k ≤ n ∧ i = .int .i64 k ∧ Cv.has (l.take k) id = false ∧ Below w.heap.size w wr) (fun i _ => n - (intOf i).toNat)
  case atStart => exact ⟨0, Nat.zero_le _, rfl, rfl, Below.refl _ _⟩
  case round =>
    obtain ⟨k, hk, rfl, hno, hb⟩ := hrel
    have HN := hide hno; have HB := hide hb
    clear hno hb
    by_cases hlt : k < n
    · have hki : (k : Int) < n := by omega
      obtain ⟨c0, c1, c2, c3, c4⟩ := (hl.out.later HB.out) k (by rw [Hn.out]; exact hlt)
      have hcB := cell_later HB.out hc
      have HC := hide (findClos_any (Cv.nth l k) B id wr hcB)
      have HT := hide (Cv.take_succ (l := l) (i := k) (by rw [Hn.out]; exact hlt))
      obtain ⟨x, hxx⟩ : ∃ x, Cv.nth l k = x := ⟨_, rfl⟩
      rw [hxx] at HC HT c0 c1 c2 c3 c4
      have HX := hide hxx
      clear hxx
      go_wp2_with fail
      refine HC.out.mono ?_
      rintro e w2 ⟨rfl, hb2⟩
      have HB2 := hide (HB.out.trans (hb2.mono HB.out.size))
      clear hb2 c0 c1 c2 c3 c4 hcB HC
      by_cases hx : x.id = id
      · have hxb : (x.id == id) = true := by simpa using hx
        have Hx := hide hx
        clear hx
        rw [hxb]
        simp only []
        go_wp2
        go_ret
        refine ⟨?_, HB2.out⟩
        rw [Bk.posI_at (by rw [Hn.out]; exact hlt) HN.out (by rw [HX.out]; exact Hx.out)]
        rfl
      · have hxb : (x.id == id) = false := by simpa using hx
        have hno' : Cv.has (l.take (k + 1)) id = false := by
          have hh := HN.out
          rw [HT.out]
          unfold Cv.has at hh ⊢
          rw [List.any_append, hh]
          simp [hx]
        have Hno := hide hno'
        clear hx hno'
        rw [hxb]
        simp only []
        go_wp2
        exact ⟨⟨k + 1, by omega, by go_num, Hno.out, HB2.out⟩, by simp [intOf]; omega⟩
    · have hki : ¬ (k : Int) < n := by omega
      have hkk : k = l.length := by rw [Hn.out]; omega
      have hno := HN.out
      rw [hkk, List.take_length] at hno
      have Hno := hide hno
      clear hno hkk
      go_wp2
      go_ret
      exact ⟨by rw [Bk.posI_none Hno.out]; rfl, HB.out⟩


theorem find_any (p base : Nat) (v : Value) (id : Int) (l : List Cv.Lot) (w : World) (hb : Hid (Book w base p v l)) (hn : Hid (l.length ≤ 60)) :
    Calls Tryd.prog 54 #[.pointer (some ⟨p, 0, none⟩), .int .i64 id] w fun e w' => e = .returned (.int .i64 (Bk.posI l id)) ∧ Below w.heap.size w w' := by
  have hcell : (w.alloc (.cells #[.int .i64 id] 3)).cell? ⟨p, 0, none⟩ = some v := cell_later ((Below.refl _ _).alloc (Nat.le_refl _) _) (cell_of_one hb.out.cell)
  rcases hb.out.form with ⟨rfl, hl⟩ | ⟨g, cap, rfl, hle, _, hl⟩
  · have HL := hide hl
    clear hl
    go_enter Tryd.func54, Tryd.ntmps54
    go_wp2_with fail
    refine (indexFunc_none 0 none _ _).mono ?_
    rintro e w2 ⟨rfl, rfl⟩
    simp only []
    go_wp2
    go_ret
    exact ⟨by rw [HL.out]; rfl, (Below.refl _ _).alloc (Nat.le_refl _) _⟩
  · have HC := hide (indexFunc_at g 0 cap w.heap.size id l (w.alloc (.cells #[.int .i64 id] 3)) (by have := hn.out; omega) (hl.later ((Below.refl _ _).alloc (Nat.le_refl _) _)) (by simp))
    clear hl hle
    go_enter Tryd.func54, Tryd.ntmps54
    go_wp2_with fail
    refine HC.out.mono ?_
    rintro e w2 ⟨rfl, hb2⟩
    have HB := hide hb2
    clear hb2
    simp only []
    go_wp2
    go_ret
    exact ⟨rfl, ((Below.refl _ _).alloc (Nat.le_refl _) _).trans (HB.out.mono (by simp))⟩

theorem newBook_any (w : World) : Calls Tryd.prog 22 #[] w fun e w' => e = .returned (.pointer (some ⟨w.heap.size, 0, none⟩)) ∧ w' = w.alloc (.cells #[.slice none 0 0] 92) := by
  go_enter Tryd.func22, Tryd.ntmps22
  go_wp2
  go_ret
  exact ⟨rfl, rfl⟩
theorem book_new (w : World) (base : Nat) (h : base ≤ w.heap.size) : Book (w.alloc (.cells #[.slice none 0 0] 92)) base w.heap.size (.slice none 0 0) [] :=
  ⟨heap_alloc_new w _, h, World.ownsRow_nil _ _ _ _⟩
end Go.Proofs.YtbcinejhipmomaaDoor
