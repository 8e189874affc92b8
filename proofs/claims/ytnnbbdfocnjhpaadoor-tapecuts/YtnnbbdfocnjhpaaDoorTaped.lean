/- The document's record; and taped: one record is written, and recovered. -/
import Derived.Test.YtnnbbdfocnjhpaaDoorTapeReads1
import Derived.Test.YtnnbbdfocnjhpaaDoorBytes
namespace Go.Proofs.YtnnbbdfocnjhpaaDoor
open Go.RowKit
set_option maxRecDepth 100000

theorem high_four (n : Nat) : Wi.high n = ints (Tp.four n) := (ints_four n).symm
theorem low_low (n : Nat) : Wi.low n = ints (Tp.low n) := (ints_low n).symm
theorem ba_append (a b : List UInt8) : ba a ++ ba b = ba (a ++ b) := by apply ByteArray.ext; simp [ba]

set_option maxHeartbeats 400000 in
theorem recordRef_any (s : ByteArray) (w : World) (hs : s.size ≤ 10000) :
    Calls Tryd.prog 71 #[.string s] w fun e w' => e = .returned (.string (ba (Tp.rec s.data.toList))) ∧ Below w.heap.size w w' := by
  go_enter Tryd.func71, Tryd.ntmps71
  go_wp2_with fail
  refine (high_any s.size w (by omega)).mono ?_
  rintro e w1 ⟨rfl, hb1⟩
  rw [high_four, strOfNums_ints]
  simp only []
  go_wp2_with fail
  rw [show (4294967295 - (s.size : Int)) = ((4294967295 - s.size : Nat) : Int) by omega]
  refine (high_any (4294967295 - s.size) w1 (by omega)).mono ?_
  rintro e w2 ⟨rfl, hb2⟩
  rw [high_four, strOfNums_ints]
  simp only []
  have HB2 : Hid (Below w.heap.size w w2) := hb1.trans (hb2.mono hb1.size)
  clear hb1 hb2
  have hz : Wi.sum s.data.toList < 4294967296 := Wi.sum_lt _
  have z1 : (ba (Tp.four s.size)).size = 4 := rfl
  have z2 : (ba (Tp.four (4294967295 - s.size))).size = 4 := rfl
  have z3 : (ba (Tp.low (Wi.sum s.data.toList))).size = 4 := rfl
  go_wp2_with fail
  refine (crc_any s w2 (by unfold maxLen; omega)).mono ?_
  rintro e w3 ⟨rfl, rfl⟩
  generalize hS : Wi.sum s.data.toList = S at *
  have HS := hide hS
  clear hS
  simp only []
  go_wp2_with fail
  refine (low_any S _ hz).mono ?_
  rintro e w4 ⟨rfl, hb4⟩
  rw [low_low, strOfNums_ints]
  simp only []
  have HB4 : Hid (Below w.heap.size w w4) := HB2.out.trans (hb4.mono HB2.out.size)
  clear hb4
  generalize hA : ba (Tp.four s.size) = A at *
  generalize hB : ba (Tp.four (4294967295 - s.size)) = B at *
  generalize hC : ba (Tp.low S) = C at *
  have HA := hide hA; have HBB := hide hB; have HC := hide hC
  clear hA hB hC
  go_wp2
  go_ret
  refine ⟨?_, HB4.out⟩
  refine ret_string ?_
  rw [← HA.out, ← HBB.out, ← HC.out, ← HS.out, ← size_list s]
  show ba _ ++ ba _ ++ ba s.data.toList ++ ba _ = _
  rw [ba_append, ba_append, ba_append]
  rfl

set_option maxHeartbeats 400000 in
theorem taped_any (T : TypeId) (x : Value) (w : World) (h8 : w.cell? ⟨8, 0, none⟩ = some (.iface T x)) :
    Calls Tryd.prog 29 #[] w fun e w' => e = .returned (.bool true) ∧ Below w.heap.size w w' := by
  have hlt : 8 < w.heap.size := World.block_lt_of_cell? _ _ h8
  go_enter Tryd.func29, Tryd.ntmps29
  go_wp2_with fail
  refine (newDisk_any ⟨#[]⟩ w (by decide)).mono ?_
  rintro e w1 ⟨p, rfl, hd1, hb1⟩
  have HD1 := hide hd1; have HB1 := hide hb1
  clear hd1 hb1
  simp only []
  go_wp2_with fail
  refine (append_free w.heap.size p _ ⟨#[97, 32, 98]⟩ 0 w1 T x HD1.out (by decide) (by decide) (cell_later HB1.out h8) hlt HB1.out.size).mono ?_
  rintro e w2 ⟨rfl, hd2, _, hb2⟩
  have HD2 := hide hd2; have HB2 := hide (HB1.out.trans hb2)
  clear hd2 hb2
  simp only []
  go_wp2_with fail
  refine (recover_any w.heap.size p _ false 0 w2 HD2.out (by decide) HB2.out.size).mono ?_
  rintro e w3 ⟨v3, ts, r, rfl, hrd, hst, hd3, _, hb3⟩
  have HB3 := hide (HB2.out.trans hb3)
  have hts : ts = [[97, 32, 98]] ∧ r = [] := by
    refine Tp.IsRead.unique (ts := [[97, 32, 98]]) (r := []) ?_ (by decide) (by decide)
    exact hrd
  obtain ⟨rfl, rfl⟩ := hts
  have HD3 := hide hd3; have HST := hide hst
  clear hd3 hst hrd hb3
  simp only []
  go_wp2_with fail
  have HA : Hid (Below w3.heap.size w3 (w3.alloc (.cells #[.string ⟨#[97, 32, 98]⟩] 9))) := (Below.refl _ _).alloc (Nat.le_refl _) _
  have HN : Hid (Strs (w3.alloc (.cells #[.string ⟨#[97, 32, 98]⟩] 9)) w3.heap.size (.slice (some ⟨w3.heap.size, 0, none⟩) 1 1) [[97, 32, 98]]) :=
    ⟨rfl, .inr ⟨w3.heap.size, 1, _, rfl, Nat.le_refl _, heap_alloc_new w3 _, Nat.le_refl _, by decide, rfl, rfl⟩⟩
  refine (texts_same _ _ _ _ _ _ (by decide) (HST.out.keeps (Keeps.below HA.out)) HN.out).mono ?_
  rintro e w4 ⟨rfl, m4, rfl⟩
  have HB4 : Hid (Below w3.heap.size w3 ((w3.alloc (.cells #[.string ⟨#[97, 32, 98]⟩] 9)).drewN m4)) := HA.out.trans ((below_drewN m4).mono HA.out.size)
  have HD4 := hide (HD3.out.below HB4.out)
  have HBB4 := hide (HB3.out.trans (HB4.out.mono HB3.out.size))
  generalize (w3.alloc (.cells #[.string ⟨#[97, 32, 98]⟩] 9)).drewN m4 = w4 at *
  clear HN HA
  simp only []
  go_wp2_with fail
  refine (bytes_any w.heap.size p _ false 0 w4 HD4.out).mono ?_
  rintro e w5 ⟨rfl, rfl⟩
  simp only []
  go_wp2_with fail
  refine (recordRef_any ⟨#[97, 32, 98]⟩ _ (by decide)).mono ?_
  rintro e w6 ⟨rfl, hb6⟩
  have HB6 := hide (HBB4.out.trans (hb6.mono HBB4.out.size))
  clear hb6
  rw [show Tp.rec (ByteArray.mk #[97, 32, 98]).data.toList = Tp.recs [[97, 32, 98]] from (List.append_nil _).symm]
  generalize ba (Tp.recs [[97, 32, 98]]) = R at *
  simp only []
  go_wp2
  go_ret
  exact ⟨rfl, HB6.out⟩
end Go.Proofs.YtnnbbdfocnjhpaaDoor
