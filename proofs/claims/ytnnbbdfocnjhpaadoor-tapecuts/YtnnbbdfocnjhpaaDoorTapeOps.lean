/- The small calls of a disk: recordSize, On, Power, Bytes, Cut, NewDisk. -/
import Derived.Test.YtnnbbdfocnjhpaaDoorTapeBase
namespace Go.Proofs.YtnnbbdfocnjhpaaDoor
open Go.RowKit
set_option maxRecDepth 100000

theorem recordSize_any (s : ByteArray) (w : World) (hs : s.size ≤ 1000000) :
    Calls Tryd.prog 72 #[.string s] w fun e w' => e = .returned (.int .i64 ((12 + s.size : Nat) : Int)) ∧ w' = w := by
  go_enter Tryd.func72, Tryd.ntmps72
  go_wp2
  go_ret
  exact ⟨ret_int (by omega), rfl⟩

/-- the cells of a disk, for a walk -/
theorem disk_cells {w : World} {p : Nat} {v : Value} {cut : Bool} {left : Int} (h : w.heap[p]? = some (.cells #[v, .bool cut, .int .i64 left] 104 (0, 0))) :
    w.cell? ⟨p, 0, none⟩ = some v ∧ w.cell? ⟨p, 1, none⟩ = some (.bool cut) ∧ w.cell? ⟨p, 2, none⟩ = some (.int .i64 left) ∧ (∀ j, w.frozen? ⟨p, j, none⟩ = false) ∧ p < w.heap.size :=
  ⟨by rw [cell_of_row w p 0 _ 104 (0, 0) h]; rfl, by rw [cell_of_row w p 1 _ 104 (0, 0) h]; rfl, by rw [cell_of_row w p 2 _ 104 (0, 0) h]; rfl, fun j => frozen_of_row w p j _ 104 h, (Array.getElem?_eq_some_iff.1 h).1⟩

set_option maxHeartbeats 1000000 in
theorem on_any (p : Nat) (v : Value) (cut : Bool) (left : Int) (w : World) (h : w.heap[p]? = some (.cells #[v, .bool cut, .int .i64 left] 104 (0, 0))) :
    Calls Tryd.prog 75 #[.pointer (some ⟨p, 0, none⟩)] w fun e w' => e = .returned (.tuple #[]) ∧ w' = (w.setCell ⟨p, 1, none⟩ (.bool false)).setCell ⟨p, 2, none⟩ (.int .i64 0) := by
  obtain ⟨c0, c1, c2, fz, hp⟩ := disk_cells h
  clear h
  go_enter Tryd.func75, Tryd.ntmps75
  go_wp2
  go_end0
  exact ⟨rfl, rfl⟩

set_option maxHeartbeats 1000000 in
theorem power_any (p : Nat) (v : Value) (cut : Bool) (left : Int) (w : World) (h : w.heap[p]? = some (.cells #[v, .bool cut, .int .i64 left] 104 (0, 0))) :
    Calls Tryd.prog 35 #[.pointer (some ⟨p, 0, none⟩)] w fun e w' => e = .returned (.bool (!cut || decide (0 < left))) ∧ w' = w := by
  obtain ⟨c0, c1, c2, fz, hp⟩ := disk_cells h
  clear h
  cases cut
  · go_enter Tryd.func35, Tryd.ntmps35
    go_wp2
    go_ret
    exact ⟨by simp, rfl⟩
  · go_enter Tryd.func35, Tryd.ntmps35
    go_wp2
    go_ret
    exact ⟨by simp, rfl⟩

set_option maxHeartbeats 1000000 in
theorem bytes_any (base p : Nat) (l : List UInt8) (cut : Bool) (left : Int) (w : World) (h : Disk w base p l cut left) :
    Calls Tryd.prog 37 #[.pointer (some ⟨p, 0, none⟩)] w fun e w' => e = .returned (.string (ba l)) ∧ w' = w := by
  obtain ⟨_, v, h, hr⟩ := h
  obtain ⟨c0, c1, c2, fz, hp⟩ := disk_cells h
  clear h
  have hcv := rowM_string hr
  rw [strOfNums_ints] at hcv
  clear hr
  go_enter Tryd.func37, Tryd.ntmps37
  go_wp2
  go_ret
  exact ⟨rfl, rfl⟩

set_option maxHeartbeats 1000000 in
theorem cut_any (p : Nat) (v : Value) (left n : Int) (w : World) (h : w.heap[p]? = some (.cells #[v, .bool false, .int .i64 left] 104 (0, 0))) (hn : 0 ≤ n) :
    Calls Tryd.prog 31 #[.pointer (some ⟨p, 0, none⟩), .int .i64 n] w fun e w' => e = .returned .nilIface ∧ w' = (w.setCell ⟨p, 1, none⟩ (.bool true)).setCell ⟨p, 2, none⟩ (.int .i64 n) := by
  have hn' : ¬ n < 0 := by omega
  have H := hide h
  obtain ⟨c0, c1, c2, fz, hp⟩ := disk_cells h
  clear h
  go_enter Tryd.func31, Tryd.ntmps31
  go_wp2_with fail
  refine (power_any p v false left w H.out).mono ?_
  rintro e w1 ⟨rfl, rfl⟩
  go_wp2
  go_ret
  exact ⟨rfl, rfl⟩

set_option maxHeartbeats 1000000 in
theorem newDisk_any (s : ByteArray) (w : World) (hs : s.size ≤ 100000) :
    Calls Tryd.prog 30 #[.string s] w fun e w' => ∃ p, e = .returned (.tuple #[.pointer (some ⟨p, 0, none⟩), .nilIface]) ∧ Disk w' w.heap.size p s.data.toList false 0 ∧ Below w.heap.size w w' := by
  obtain ⟨v, w1, hcv, hr, hb⟩ := rowM_new w s hs
  change RowM w1 w.heap.size v (ints s.data.toList) at hr
  obtain ⟨g, cap, hv, _⟩ := hr.form
  rw [ints_length, size_list] at hv
  subst hv
  have hs' : ¬ (1048576 : Int) < s.size := by omega
  have HR := hide hr
  have HB := hide hb
  clear hr hb
  go_enter Tryd.func30, Tryd.ntmps30
  go_wp2
  go_ret2
  refine ⟨w1.heap.size, rfl, ⟨HB.out.size, _, heap_alloc_new w1 _, ?_⟩, HB.out.alloc HB.out.size _⟩
  exact HR.out.block fun k hk => heap_alloc_old w1 _ (HR.out.lt k hk).2
end Go.Proofs.YtnnbbdfocnjhpaaDoor
