/- What Names does: it answers true. -/
import Derived.Test.YtnnbbdfocnjhpaaDoorSame
import Derived.Test.YtnnbbdfocnjhpaaDoorCoded
namespace Go.Proofs.YtnnbbdfocnjhpaaDoor
open Go.RowKit
set_option maxRecDepth 100000

theorem new_any (s : ByteArray) (w : World) : Calls Tryd.prog 16 #[.string s] w fun e w' => e = .returned (.iface 92 (.pointer (some ⟨w.heap.size, 0, none⟩))) ∧ w' = w.alloc (.cells #[.string s] 94) := by
  go_enter Tryd.func16, Tryd.ntmps16
  go_wp2
  go_ret
  exact ⟨rfl, rfl⟩

def namesL : List Int := [6, 3, 1000, 1000, 1073741824, 60, 6, 2, 1099511627776, 1073741824, 5, 3, 1048576, 30, 2000, 100, 16, 0, 1, 108, 104, 111, 99, 113]
theorem names_get (i : Nat) (hi : i < namesL.length) : ((namesL.map (Value.int .i64)).toArray)[i]? = some (.int .i64 (namesL.getD i 0)) := by
  have : i < (namesL.map (Value.int .i64)).length := by simpa using hi
  simp [hi]

theorem below_drewN' {w : World} (m : Nat) : Below w.heap.size w (w.drewN m) := by
  induction m with
  | zero => exact Below.refl _ _
  | succ n ih => exact ih.drew

set_option maxHeartbeats 4000000 in
theorem names_any (ad : Nat → Addr) (w : World) (hs : Hid (Sent w ad)) : Calls Tryd.prog 3 #[] w fun e w' => e = .returned (.bool true) ∧ Below w.heap.size w w' := by
  go_enter Tryd.func3, Tryd.ntmps3
  go_wp2_with fail
  refine (ints_same w.heap.size (w.heap.size + 1) 24 24 namesL _ (by decide) ?i1 ?i2).mono ?_
  case i1 =>
    intro i hi
    rw [World.cell?_alloc_lt _ _ ⟨w.heap.size, i, none⟩ (by simp), World.cell?_alloc_new]
    exact names_get i hi
  case i2 =>
    intro i hi
    rw [World.cell?_alloc_at _ _ _ _ (by simp)]
    exact names_get i hi
  rintro e w1 ⟨rfl, m, hw1⟩
  have HB1 : Hid (Below w.heap.size w w1) := by
    rw [hw1]
    exact (((Below.refl _ _).alloc (Nat.le_refl _) _).alloc (by simp) _).trans ((below_drewN' m).mono (by simp; omega))
  clear hw1
  have c0 : w1.cell? ⟨0, 0, none⟩ = some (.iface 92 (.pointer (some (ad 0)))) := (hs.out.later HB1.out).cell 0 (by decide)
  have c1 : w1.cell? ⟨1, 0, none⟩ = some (.iface 92 (.pointer (some (ad 1)))) := (hs.out.later HB1.out).cell 1 (by decide)
  have c2 : w1.cell? ⟨2, 0, none⟩ = some (.iface 92 (.pointer (some (ad 2)))) := (hs.out.later HB1.out).cell 2 (by decide)
  have c3 : w1.cell? ⟨3, 0, none⟩ = some (.iface 92 (.pointer (some (ad 3)))) := (hs.out.later HB1.out).cell 3 (by decide)
  have c4 : w1.cell? ⟨4, 0, none⟩ = some (.iface 92 (.pointer (some (ad 4)))) := (hs.out.later HB1.out).cell 4 (by decide)
  have c5 : w1.cell? ⟨5, 0, none⟩ = some (.iface 92 (.pointer (some (ad 5)))) := (hs.out.later HB1.out).cell 5 (by decide)
  have c6 : w1.cell? ⟨6, 0, none⟩ = some (.iface 92 (.pointer (some (ad 6)))) := (hs.out.later HB1.out).cell 6 (by decide)
  have c7 : w1.cell? ⟨7, 0, none⟩ = some (.iface 92 (.pointer (some (ad 7)))) := (hs.out.later HB1.out).cell 7 (by decide)
  have c8 : w1.cell? ⟨8, 0, none⟩ = some (.iface 92 (.pointer (some (ad 8)))) := (hs.out.later HB1.out).cell 8 (by decide)
  have c9 : w1.cell? ⟨9, 0, none⟩ = some (.iface 92 (.pointer (some (ad 9)))) := (hs.out.later HB1.out).cell 9 (by decide)
  have c10 : w1.cell? ⟨10, 0, none⟩ = some (.iface 92 (.pointer (some (ad 10)))) := (hs.out.later HB1.out).cell 10 (by decide)
  have c11 : w1.cell? ⟨11, 0, none⟩ = some (.iface 92 (.pointer (some (ad 11)))) := (hs.out.later HB1.out).cell 11 (by decide)
  go_wp2_with fail
  have hcell : ∀ k, k < 12 → (w1.alloc (.cells #[.iface 92 (.pointer (some (ad 0))), .iface 92 (.pointer (some (ad 1))), .iface 92 (.pointer (some (ad 2))), .iface 92 (.pointer (some (ad 3))), .iface 92 (.pointer (some (ad 4))), .iface 92 (.pointer (some (ad 5))), .iface 92 (.pointer (some (ad 6))), .iface 92 (.pointer (some (ad 7))), .iface 92 (.pointer (some (ad 8))), .iface 92 (.pointer (some (ad 9))), .iface 92 (.pointer (some (ad 10))), .iface 92 (.pointer (some (ad 11)))] 25)).cell? ⟨w1.heap.size, k, none⟩ = some (.iface 92 (.pointer (some (ad k)))) := by
    intro k hk
    rw [World.cell?_alloc_new]
    match k, hk with
    | 0, _ => rfl
    | 1, _ => rfl
    | 2, _ => rfl
    | 3, _ => rfl
    | 4, _ => rfl
    | 5, _ => rfl
    | 6, _ => rfl
    | 7, _ => rfl
    | 8, _ => rfl
    | 9, _ => rfl
    | 10, _ => rfl
    | 11, _ => rfl
  have hb2 : Below w.heap.size w (w1.alloc (.cells #[.iface 92 (.pointer (some (ad 0))), .iface 92 (.pointer (some (ad 1))), .iface 92 (.pointer (some (ad 2))), .iface 92 (.pointer (some (ad 3))), .iface 92 (.pointer (some (ad 4))), .iface 92 (.pointer (some (ad 5))), .iface 92 (.pointer (some (ad 6))), .iface 92 (.pointer (some (ad 7))), .iface 92 (.pointer (some (ad 8))), .iface 92 (.pointer (some (ad 9))), .iface 92 (.pointer (some (ad 10))), .iface 92 (.pointer (some (ad 11)))] 25)) := HB1.out.alloc HB1.out.size _
  have hz2 : w1.heap.size < (w1.alloc (.cells #[.iface 92 (.pointer (some (ad 0))), .iface 92 (.pointer (some (ad 1))), .iface 92 (.pointer (some (ad 2))), .iface 92 (.pointer (some (ad 3))), .iface 92 (.pointer (some (ad 4))), .iface 92 (.pointer (some (ad 5))), .iface 92 (.pointer (some (ad 6))), .iface 92 (.pointer (some (ad 7))), .iface 92 (.pointer (some (ad 8))), .iface 92 (.pointer (some (ad 9))), .iface 92 (.pointer (some (ad 10))), .iface 92 (.pointer (some (ad 11)))] 25)).heap.size := by simp
  clear c0 c1 c2 c3 c4 c5 c6 c7 c8 c9 c10 c11
  generalize w1.alloc (.cells #[.iface 92 (.pointer (some (ad 0))), .iface 92 (.pointer (some (ad 1))), .iface 92 (.pointer (some (ad 2))), .iface 92 (.pointer (some (ad 3))), .iface 92 (.pointer (some (ad 4))), .iface 92 (.pointer (some (ad 5))), .iface 92 (.pointer (some (ad 6))), .iface 92 (.pointer (some (ad 7))), .iface 92 (.pointer (some (ad 8))), .iface 92 (.pointer (some (ad 9))), .iface 92 (.pointer (some (ad 10))), .iface 92 (.pointer (some (ad 11)))] 25) = w2 at *
  generalize w1.heap.size = bk at *
  have HB2 := hide hb2
  have HC := hide hcell
  clear hb2 hcell HB1
  go_loopw [4] (fun i wr => ∃ k : Nat, k ≤ 12 ∧ i = .int .i64 k ∧ Below w2.heap.size w2 wr) (fun i _ => 12 - (intOf i).toNat)
  case atStart => exact ⟨0, by omega, rfl, Below.refl _ _⟩
  case round =>
    obtain ⟨k, hk, rfl, hbr⟩ := hrel
    have HBr : Hid (Below w.heap.size w wr) := HB2.out.trans (hbr.mono HB2.out.size)
    have Hbr := hide hbr
    have hzr : bk < wr.heap.size := Nat.lt_of_lt_of_le hz2 hbr.size
    clear hbr
    by_cases hlt : k < 12
    · have hck : wr.cell? ⟨bk, k, none⟩ = some (.iface 92 (.pointer (some (ad k)))) := by rw [Hbr.out.cell (p := ⟨bk, k, none⟩) hz2]; exact HC.out k hlt
      have hki : ((k : Int)) < 12 := by omega
      go_wp2_with fail
      refine (code_fault wr.heap.size 0 7 k hlt ad _ (hs.out.later (HBr.out.alloc HBr.out.size _)) (by simp) (by simp)).mono ?_
      rintro e w3 ⟨rfl, hb3⟩
      have HB3 : Hid (Below wr.heap.size wr w3) := ((Below.refl _ _).alloc (Nat.le_refl _) _).trans (hb3.mono (by simp))
      have hck3 : w3.cell? ⟨bk, k, none⟩ = some (.iface 92 (.pointer (some (ad k)))) := by rw [HB3.out.cell (p := ⟨bk, k, none⟩) hzr]; exact hck
      clear hb3
      go_wp2_with fail
      refine (coded_sent k hlt ad _ (hs.out.later (HBr.out.trans (HB3.out.mono HBr.out.size)))).mono ?_
      rintro e w4 ⟨rfl, hb4⟩
      have HB4 := hide hb4
      clear hb4
      go_wp2
      exact ⟨⟨k + 1, by omega, by go_num, Hbr.out.trans ((HB3.out.mono Hbr.out.size).trans (HB4.out.mono (Nat.le_trans Hbr.out.size HB3.out.size)))⟩, by simp [intOf]; omega⟩
    · have hki : ¬ ((k : Int)) < 12 := by omega
      go_wp2_with fail
      refine (new_any _ _).mono ?_
      rintro e w3 ⟨rfl, hw3⟩
      have HB3 : Hid (Below wr.heap.size wr w3) := by rw [hw3]; exact (Below.refl _ _).alloc (Nat.le_refl _) _
      have hrow : w3.heap[wr.heap.size]? = some (.cells #[.string ⟨#[97, 110, 111, 116, 104, 101, 114, 32, 111, 110, 101]⟩] 94 (0, 0)) := by rw [hw3]; exact heap_alloc_new _ _
      have Hrow := hide hrow
      have Hsr : Hid (Sent wr ad) := hs.out.later HBr.out
      clear hw3 hrow
      go_wp2_with fail
      refine (code_other ⟨wr.heap.size, 0, none⟩ ad _ (Hsr.out.later HB3.out) ?hx _ _ Hrow.out).mono ?_
      case hx =>
        intro k hk e
        obtain ⟨c, t, hr⟩ := Hsr.out.row k hk
        have := block_lt_of_heap hr
        rw [← e] at this
        exact absurd this (by simp)
      rintro e w4 ⟨rfl, hb4⟩
      have HB4 := hide hb4
      clear hb4
      go_wp2_with fail
      refine (coded_nil _).mono ?_
      rintro e w5 ⟨rfl, rfl⟩
      go_wp2
      go_ret
      exact ⟨rfl, HBr.out.trans ((HB3.out.mono HBr.out.size).trans (HB4.out.mono (Nat.le_trans HBr.out.size HB3.out.size)))⟩

end Go.Proofs.YtnnbbdfocnjhpaaDoor
