/- The walks of check, Take and of the document's TakeOf. -/
import Derived.Test.YtccjlddikinkiaaDoorSeMem
import Derived.Deep.RegionWith
import Derived.Laws.Rows
import Derived.OneCell
namespace Go.Proofs.YtccjlddikinkiaaDoor
open Go.RowKit
set_option maxRecDepth 100000
section
variable {T : Nat → Value}
theorem row_later {w w1 : World} {B : Nat} {o : Obj} (hb : Below w.heap.size w w1) (h : w.heap[B]? = some o) : w1.heap[B]? = some o := by rw [hb.block _ (lt_of_block h)]; exact h
set_option maxHeartbeats 2000000 in
theorem check_any (on : Bool) (nx la : Int) (a : Ask) (w : World) (he : Hid (SEr w T)) : Calls Tryd.prog 11 #[sV on nx la, askV a] w fun e w' => e = .returned (errC T (Se.tc on nx a)) ∧ Below w.heap.size w w' := by
  have HA := hide (fun W (hb : Below w.heap.size w W) => wcheck_any a W (he.out.later hb))
  have HT : Hid (Se.tc on nx a = if Se.ac a = 0 then (if (a.k == 108) = on then 11 else if a.sq = Se.aw on nx then 0 else 12) else Se.ac a) := rfl
  generalize Se.tc on nx a = tc at *
  generalize Se.ac a = ac at *
  have HW := hide (fun W => awaited_any on nx la W)
  generalize Se.aw on nx = aw at *
  unfold askV askA sV at *
  have HB0 : Hid (Below w.heap.size w ((w.alloc (.cells #[.bool on, .int .i64 nx, .int .i64 la] 26)).alloc (.cells #[.int .u8 a.k, .int .i64 a.c, .int .i64 a.sq, .int .i64 a.it, .int .i64 a.sd, .int .i64 a.pr, .int .i64 a.q, .int .i64 a.id] 35))) := ((Below.refl _ _).alloc (Nat.le_refl _) _).alloc (by simp) _
  have HS0 : Hid (((w.alloc (.cells #[.bool on, .int .i64 nx, .int .i64 la] 26)).alloc (.cells #[.int .u8 a.k, .int .i64 a.c, .int .i64 a.sq, .int .i64 a.it, .int .i64 a.sd, .int .i64 a.pr, .int .i64 a.q, .int .i64 a.id] 35)).heap[w.heap.size]? = some (.cells #[.bool on, .int .i64 nx, .int .i64 la] 26 (0, 0))) := (Below.heap_alloc _ _ _ (by simp)).trans (heap_alloc_new _ _)
  have HD0 : Hid (((w.alloc (.cells #[.bool on, .int .i64 nx, .int .i64 la] 26)).alloc (.cells #[.int .u8 a.k, .int .i64 a.c, .int .i64 a.sq, .int .i64 a.it, .int .i64 a.sd, .int .i64 a.pr, .int .i64 a.q, .int .i64 a.id] 35)).heap[w.heap.size + 1]? = some (.cells #[.int .u8 a.k, .int .i64 a.c, .int .i64 a.sq, .int .i64 a.it, .int .i64 a.sd, .int .i64 a.pr, .int .i64 a.q, .int .i64 a.id] 35 (0, 0))) := by
    have h := heap_alloc_new (w.alloc (.cells #[.bool on, .int .i64 nx, .int .i64 la] 26)) (.cells #[.int .u8 a.k, .int .i64 a.c, .int .i64 a.sq, .int .i64 a.it, .int .i64 a.sd, .int .i64 a.pr, .int .i64 a.q, .int .i64 a.id] 35)
    have e : (w.alloc (.cells #[.bool on, .int .i64 nx, .int .i64 la] 26)).heap.size = w.heap.size + 1 := by simp
    show _ = _
    rw [e] at h
    exact h
  go_enter Tryd.func11, Tryd.ntmps11
  go_wp2_with fail
  refine (HA.out _ HB0.out).mono ?_
  rintro e w2 ⟨rfl, hb2⟩
  have HB2 := hide (HB0.out.trans (hb2.mono HB0.out.size))
  have HS := hide (row_later hb2 HS0.out)
  have HD := hide (row_later hb2 HD0.out)
  have c0 : w2.cell? ⟨w.heap.size, 0, none⟩ = some (.bool on) := by rw [cell_of_row _ _ 0 _ _ _ HS.out]; rfl
  have c1 : w2.cell? ⟨w.heap.size, 1, none⟩ = some (.int .i64 nx) := by rw [cell_of_row _ _ 1 _ _ _ HS.out]; rfl
  have c2 : w2.cell? ⟨w.heap.size, 2, none⟩ = some (.int .i64 la) := by rw [cell_of_row _ _ 2 _ _ _ HS.out]; rfl
  have d0 : w2.cell? ⟨w.heap.size + 1, 0, none⟩ = some (.int .u8 a.k) := by rw [cell_of_row _ _ 0 _ _ _ HD.out]; rfl
  have d1 : w2.cell? ⟨w.heap.size + 1, 1, none⟩ = some (.int .i64 a.c) := by rw [cell_of_row _ _ 1 _ _ _ HD.out]; rfl
  have d2 : w2.cell? ⟨w.heap.size + 1, 2, none⟩ = some (.int .i64 a.sq) := by rw [cell_of_row _ _ 2 _ _ _ HD.out]; rfl
  have d3 : w2.cell? ⟨w.heap.size + 1, 3, none⟩ = some (.int .i64 a.it) := by rw [cell_of_row _ _ 3 _ _ _ HD.out]; rfl
  have d4 : w2.cell? ⟨w.heap.size + 1, 4, none⟩ = some (.int .i64 a.sd) := by rw [cell_of_row _ _ 4 _ _ _ HD.out]; rfl
  have d5 : w2.cell? ⟨w.heap.size + 1, 5, none⟩ = some (.int .i64 a.pr) := by rw [cell_of_row _ _ 5 _ _ _ HD.out]; rfl
  have d6 : w2.cell? ⟨w.heap.size + 1, 6, none⟩ = some (.int .i64 a.q) := by rw [cell_of_row _ _ 6 _ _ _ HD.out]; rfl
  have d7 : w2.cell? ⟨w.heap.size + 1, 7, none⟩ = some (.int .i64 a.id) := by rw [cell_of_row _ _ 7 _ _ _ HD.out]; rfl
  have hsz : w.heap.size + 2 ≤ w2.heap.size := by have := hb2.size; simp at this; omega
  have hst := (he.out.later HB2.out).st
  have hod := (he.out.later HB2.out).od
  have hsz5 := (he.out.later HB2.out).size
  clear hb2 HA HB0 HS0 HD0
  simp only []
  by_cases hc : ac = 0
  · subst hc
    rw [show errC T 0 = .nilIface from rfl]
    by_cases hk : (a.k == 108) = on
    · have hT : tc = 11 := by rw [HT.out]; simp [hk]
      subst hT
      subst hk
      clear HT HW
      cases hkk : (a.k == 108)
      all_goals
        rw [hkk] at c0
        have hk1 := hkk
        simp only [beq_eq_false_iff_ne, beq_iff_eq] at hk1
        go_wp2
        go_ret
        exact ⟨rfl, HB2.out⟩
    · have hk2 : (a.k == 108) = !on := by
        cases on <;> cases h : (a.k == 108) <;> simp_all
      by_cases hq : a.sq = aw
      · have hT : tc = 0 := by rw [HT.out]; simp [hk, hq]
        subst hT
        have hq' : (a.sq != aw) = false := by simp [hq]
        clear HT hq
        cases on
        all_goals
          have hk1 := hk2
          simp only [Bool.not_true, Bool.not_false, beq_eq_false_iff_ne, beq_iff_eq] at hk1
          go_wp2
          have d2d : w2.drew.cell? ⟨w.heap.size + 1, 2, none⟩ = some (.int .i64 a.sq) := d2
          have HBd : Hid (Below w2.heap.size w2 w2.drew) := ⟨rfl, rfl, rfl, Nat.le_refl _, fun _ _ => rfl⟩
          go_region_with (go_at_call 15; refine (HW.out _).mono ?_; rintro e w3 ⟨rfl, hb3⟩; have d2e := cell_later hb3 d2d; have HB3 := hide (HB2.out.trans ((HBd.out.trans hb3).mono HB2.out.size)); have hod3 := (he.out.later HB3.out).od; have hsz3 := (he.out.later HB3.out).size; clear hb3)
          all_goals
            go_wp2
            go_ret
            exact ⟨rfl, HB3.out⟩
      · have hT : tc = 12 := by rw [HT.out]; simp [hk, hq]
        subst hT
        have hq' : (a.sq != aw) = true := by simp [hq]
        clear HT
        cases on
        all_goals
          have hk1 := hk2
          simp only [Bool.not_true, Bool.not_false, beq_eq_false_iff_ne, beq_iff_eq] at hk1
          go_wp2
          have d2d : w2.drew.cell? ⟨w.heap.size + 1, 2, none⟩ = some (.int .i64 a.sq) := d2
          have HBd : Hid (Below w2.heap.size w2 w2.drew) := ⟨rfl, rfl, rfl, Nat.le_refl _, fun _ _ => rfl⟩
          go_region_with (go_at_call 15; refine (HW.out _).mono ?_; rintro e w3 ⟨rfl, hb3⟩; have d2e := cell_later hb3 d2d; have HB3 := hide (HB2.out.trans ((HBd.out.trans hb3).mono HB2.out.size)); have hod3 := (he.out.later HB3.out).od; have hsz3 := (he.out.later HB3.out).size; clear hb3)
          all_goals
            go_wp2
            go_ret
            exact ⟨rfl, HB3.out⟩
  · obtain ⟨d, rfl⟩ : ∃ d, ac = d + 1 := ⟨ac - 1, by omega⟩
    have hT : tc = d + 1 := by rw [HT.out]; simp
    subst hT
    rw [show errC T (d + 1) = .iface 85 (T d) from rfl]
    clear HT hc HW
    go_wp2
    go_ret
    exact ⟨rfl, HB2.out⟩
end
end Go.Proofs.YtccjlddikinkiaaDoor
