/- The checks of a lot, and the functions that package curve hands on, by their contracts. -/
import Derived.Test.YtdggddjgipgllaaGreatDoorG03
import Derived.Test.YtdggddjgipgllaaGreatDoorG02
import Derived.Test.YtdggddjgipgllaaGreatDoorG01
import Derived.Deep.QuietTactic
import Derived.BigQuiet
namespace Go.Proofs.YtdggddjgipgllaaGreatDoor
open Go.RowKit
set_option maxRecDepth 100000

def lotV (x : Cv.Lot) : Value := .agg #[.int .i64 x.id, .int .i64 x.ow, .int .i64 x.sd, .int .i64 x.pr, .int .i64 x.q]

set_option maxHeartbeats 1000000 in
theorem lotOk_any (x : Cv.Lot) (w : World) : Calls Tryz.prog 80 #[lotV x] w fun e w' => e = .returned (.bool (Cv.ok x)) ∧ Below w.heap.size w w' := by
 show Calls Tryz.prog 80 #[.agg #[.int .i64 x.id, .int .i64 x.ow, .int .i64 x.sd, .int .i64 x.pr, .int .i64 x.q]] w _
 go_enter Tryz.func80, Tryz.ntmps80
 go_wp2_with (first | (go_at_call 54; refine (isClB_any _ _).mono ?_; rintro e w' ⟨rfl, rfl⟩) | (go_at_call 35; refine (within_any _ _ _ _).mono ?_; rintro e w' ⟨rfl, rfl⟩))
 all_goals go_ret
 all_goals
  refine ⟨ret_bool ?_, bal⟩
  go_light
  simp_all [Cv.ok]

set_option maxHeartbeats 1000000 in
theorem dClos_any (x : Cv.Lot) (B : Nat) (p : Int) (w : World) (hc : w.cell? ⟨B, 0, none⟩ = some (.int .i64 p)) :
  Calls Tryz.prog 143 #[lotV x, .pointer (some ⟨B, 0, none⟩)] w fun e w' => e = .returned (.bool (Cv.dB p x)) ∧ Below w.heap.size w w' := by
 have hB : B < w.heap.size := World.block_lt_of_cell? _ _ hc
 have hne : B ≠ w.heap.size := by omega
 show Calls Tryz.prog 143 #[.agg #[.int .i64 x.id, .int .i64 x.ow, .int .i64 x.sd, .int .i64 x.pr, .int .i64 x.q], .pointer (some ⟨B, 0, none⟩)] w _
 go_enter Tryz.func143, Tryz.ntmps143
 go_wp2
 all_goals go_ret
 all_goals
  refine ⟨ret_bool ?_, bal⟩
  simp_all [Cv.dB]

set_option maxHeartbeats 1000000 in
theorem sClos_any (x : Cv.Lot) (B : Nat) (p : Int) (w : World) (hc : w.cell? ⟨B, 0, none⟩ = some (.int .i64 p)) :
  Calls Tryz.prog 144 #[lotV x, .pointer (some ⟨B, 0, none⟩)] w fun e w' => e = .returned (.bool (Cv.sB p x)) ∧ Below w.heap.size w w' := by
 have hB : B < w.heap.size := World.block_lt_of_cell? _ _ hc
 have hne : B ≠ w.heap.size := by omega
 show Calls Tryz.prog 144 #[.agg #[.int .i64 x.id, .int .i64 x.ow, .int .i64 x.sd, .int .i64 x.pr, .int .i64 x.q], .pointer (some ⟨B, 0, none⟩)] w _
 go_enter Tryz.func144, Tryz.ntmps144
 go_wp2
 all_goals go_ret
 all_goals
  refine ⟨ret_bool ?_, bal⟩
  simp_all [Cv.sB]

set_option maxHeartbeats 1000000 in
theorem idClos_any (x : Cv.Lot) (B : Nat) (id : Int) (w : World) (hc : w.cell? ⟨B, 0, none⟩ = some (.int .i64 id)) :
  Calls Tryz.prog 114 #[lotV x, .pointer (some ⟨B, 0, none⟩)] w fun e w' => e = .returned (.bool (x.id == id)) ∧ Below w.heap.size w w' := by
 have hB : B < w.heap.size := World.block_lt_of_cell? _ _ hc
 have hne : B ≠ w.heap.size := by omega
 show Calls Tryz.prog 114 #[.agg #[.int .i64 x.id, .int .i64 x.ow, .int .i64 x.sd, .int .i64 x.pr, .int .i64 x.q], .pointer (some ⟨B, 0, none⟩)] w _
 go_enter Tryz.func114, Tryz.ntmps114
 go_wp2
 all_goals go_ret
 all_goals
  refine ⟨ret_bool ?_, bal⟩
  first | rfl | simp_all

theorem better_any (side p than : Int) (w : World) : Calls Tryz.prog 96 #[.int .i64 side, .int .i64 p, .int .i64 than] w fun e w' => e = .returned (.bool (Cv.better side p than)) ∧ w' = w := by
 go_enter Tryz.func96, Tryz.ntmps96
 go_wp2
 all_goals go_ret
 all_goals
  refine ⟨ret_bool ?_, rfl⟩
  simp_all [Cv.better]

def LotsAt (w : World) (b off : Nat) (l : List Cv.Lot) : Prop :=
 ∀ i, i < l.length → w.cell? ⟨b, off + i * 5, none⟩ = some (.int .i64 (Cv.nth l i).id) ∧ w.cell? ⟨b, off + i * 5 + 1, none⟩ = some (.int .i64 (Cv.nth l i).ow) ∧ w.cell? ⟨b, off + i * 5 + 2, none⟩ = some (.int .i64 (Cv.nth l i).sd) ∧
  w.cell? ⟨b, off + i * 5 + 3, none⟩ = some (.int .i64 (Cv.nth l i).pr) ∧ w.cell? ⟨b, off + i * 5 + 4, none⟩ = some (.int .i64 (Cv.nth l i).q)
theorem LotsAt.later {w w' : World} {b off : Nat} {l : List Cv.Lot} (h : LotsAt w b off l) (hb : Below w.heap.size w w') : LotsAt w' b off l :=
 fun i hi => ⟨cell_later hb (h i hi).1, cell_later hb (h i hi).2.1, cell_later hb (h i hi).2.2.1, cell_later hb (h i hi).2.2.2.1, cell_later hb (h i hi).2.2.2.2⟩

set_option maxHeartbeats 1000000 in
theorem indexFunc_any (b off cap B : Nat) (id : Int) (l : List Cv.Lot) (w : World) (hn' : l.length ≤ 1000) (hl : Hid (LotsAt w b off l)) (hc : w.cell? ⟨B, 0, none⟩ = some (.int .i64 id)) :
  Calls Tryz.prog 92 #[.slice (some ⟨b, off, none⟩) l.length cap, .func (.func 114) #[] #[.pointer (some ⟨B, 0, none⟩)]] w fun e w' => (∃ r : Int, e = .returned (.int .i64 r) ∧ decide (0 ≤ r) = Cv.has l id) ∧ Below w.heap.size w w' := by
 generalize hn : l.length = n at *
 have Hn := hide hn
 clear hn
 go_enter Tryz.func92, Tryz.ntmps92
 go_wp2
 go_loopw [8] (fun i wr => ∃ k : Nat, k ≤ n ∧ i = .int .i64 k ∧ Cv.has (l.take k) id = false ∧ Below w.heap.size w wr) (fun i _ => n - (intOf i).toNat)
 case atStart => exact ⟨0, Nat.zero_le _, rfl, rfl, Below.refl _ _⟩
 case round =>
  obtain ⟨k, hk, rfl, hno, hb⟩ := hrel
  have HN := hide hno; have HB := hide hb
  clear hno hb
  by_cases hlt : k < n
  ·have hki : (k : Int) < n := by omega
   obtain ⟨c0, c1, c2, c3, c4⟩ := (hl.out.later HB.out) k (by rw [Hn.out]; exact hlt)
   have hcB := cell_later HB.out hc
   have HC := hide (idClos_any (Cv.nth l k) B id wr hcB)
   have HT := hide (Cv.take_succ (l := l) (i := k) (by rw [Hn.out]; exact hlt))
   generalize Cv.nth l k = x at *
   go_wp2_with fail
   refine HC.out.mono ?_
   rintro e w2 ⟨rfl, hb2⟩
   have HB2 := hide (HB.out.trans (hb2.mono HB.out.size))
   clear hb2 c0 c1 c2 c3 c4 hcB HC
   by_cases hx : x.id = id
   ·have hxb : (x.id == id) = true := by simpa using hx
    have Hx := hide hx
    clear hx
    rw [hxb]
    simp only []
    go_wp2
    go_ret
    refine ⟨⟨k, rfl, ?_⟩, HB2.out⟩
    have : Cv.has l id = true := by
     have e : l = l.take (k + 1) ++ l.drop (k + 1) := (List.take_append_drop _ _).symm
     rw [e, HT.out]
     simp [Cv.has, hxb]
    rw [this]
    simp
   ·have hxb : (x.id == id) = false := by simpa using hx
    have hno' : Cv.has (l.take (k + 1)) id = false := by
     have hh := HN.out
     rw [HT.out]
     unfold Cv.has at hh ⊢
     rw [List.any_append, hh]
     simp [hx]
    have Hno := hide hno'
    clear hx hno'
    rw [hxb]
    simp only []
    go_wp2
    exact ⟨⟨k + 1, by omega, by go_num, Hno.out, HB2.out⟩, by simp [intOf]; omega⟩
  ·have hki : ¬ (k : Int) < n := by omega
   have hkk : k = l.length := by rw [Hn.out]; omega
   have hno := HN.out
   rw [hkk, List.take_length] at hno
   have Hno := hide hno
   clear hno hkk
   go_wp2
   go_ret
   exact ⟨⟨-1, rfl, by rw [Hno.out]; rfl⟩, HB.out⟩

theorem indexFunc_none (cap : Nat) (a : Option Addr) (f : Value) (w : World) :
  Calls Tryz.prog 92 #[.slice a 0 cap, f] w fun e w' => e = .returned (.int .i64 (-1)) ∧ w' = w := by
 go_enter Tryz.func92, Tryz.ntmps92
 go_wp2
 refine wp_loop_rounds 1 ?_
 rw [rounds_succ]
 go_wp2
 go_ret
 exact ⟨rfl, rfl⟩

theorem contains_any (b off cap B : Nat) (id : Int) (l : List Cv.Lot) (w : World) (hn' : l.length ≤ 1000) (hl : Hid (LotsAt w b off l)) (hc : w.cell? ⟨B, 0, none⟩ = some (.int .i64 id)) :
  Calls Tryz.prog 113 #[.slice (some ⟨b, off, none⟩) l.length cap, .func (.func 114) #[] #[.pointer (some ⟨B, 0, none⟩)]] w fun e w' => e = .returned (.bool (Cv.has l id)) ∧ Below w.heap.size w w' := by
 go_enter Tryz.func113, Tryz.ntmps113
 go_wp2_with fail
 refine (indexFunc_any b off cap B id l w hn' hl hc).mono ?_
 rintro e w2 ⟨⟨r, rfl, hr⟩, hb⟩
 have Hr := hide hr
 clear hr
 simp only []
 go_wp2
 go_ret
 exact ⟨ret_bool Hr.out, hb⟩

theorem hasID_any (b off cap n : Nat) (id : Int) (l : List Cv.Lot) (w : World) (hn : Hid (l.length = n)) (hn' : n ≤ 1000) (hl : Hid (LotsAt w b off l)) :
  Calls Tryz.prog 81 #[.slice (some ⟨b, off, none⟩) n cap, .int .i64 id] w fun e w' => e = .returned (.bool (Cv.has l id)) ∧ Below w.heap.size w w' := by
 have HC := hide (contains_any b off cap w.heap.size id l (w.alloc (.cells #[.int .i64 id] 3)) (by rw [hn.out]; exact hn') (hl.out.later (bal)) (by simp))
 rw [hn.out] at HC
 go_enter Tryz.func81, Tryz.ntmps81
 go_wp2_with fail
 refine HC.out.mono ?_
 rintro e w2 ⟨rfl, hb⟩
 have HB := hide hb
 clear hb
 simp only []
 go_wp2
 go_ret
 exact ⟨rfl, (bal).trans (HB.out.mono (by simp))⟩

theorem LotsAt.take {w : World} {b off : Nat} {l : List Cv.Lot} (h : LotsAt w b off l) (k : Nat) : LotsAt w b off (l.take k) := by
 intro i hi
 rw [List.length_take] at hi
 rw [Cv.nth_take (by omega)]
 exact h i (by omega)
end Go.Proofs.YtdggddjgipgllaaGreatDoor
