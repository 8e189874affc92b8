/- What WireApart does, for every two requests: it answers true. -/
import Derived.Test.YtibdemdhbpkeeaaDoorFrameFacts
namespace Go.Proofs.YtibdemdhbpkeeaaDoor
open Go.RowKit
set_option maxRecDepth 100000

set_option maxHeartbeats 1000000 in
theorem apart_same (kb cb sqb itb sdb prb qb idb : Int) (w : World) (hb : Wi.code kb cb sqb itb sdb prb qb idb = 0) :
    Calls Tryd.prog 6 #[.agg #[.int .u8 kb, .int .i64 cb, .int .i64 sqb, .int .i64 itb, .int .i64 sdb, .int .i64 prb, .int .i64 qb, .int .i64 idb], .agg #[.int .u8 kb, .int .i64 cb, .int .i64 sqb, .int .i64 itb, .int .i64 sdb, .int .i64 prb, .int .i64 qb, .int .i64 idb]] w fun e w' => e = .returned (.bool true) ∧ Below w.heap.size w w' := by
  obtain ⟨b1, b2, b3⟩ := code_zero hb
  have h30 : (strOfNums (Wi.frame kb cb sqb itb sdb prb qb idb)).size = 30 := by rw [strOfNums_size, Wi.frame_length]
  clear hb
  go_enter Tryd.func6, Tryd.ntmps6
  go_wp2_with fail
  refine (framed_any _).mono ?_
  rintro e w1 ⟨rfl, hb1⟩
  obtain ⟨hc1, hf1⟩ := bcell hb1
  have hz1 : w.heap.size + 1 < w1.heap.size := by have := hb1.size; simp at this; omega
  have hz1' : w.heap.size < w1.heap.size := by omega
  go_wp2_with fail
  refine (encode_fine _ _ _ _ _ _ _ _ _ b1 b2 b3).mono ?_
  rintro e w2 ⟨rfl, hb2⟩
  obtain ⟨hc2, hf2⟩ := bcell hb2
  have hz2 : w.heap.size + 1 < w2.heap.size := by have := hb2.size; omega
  have hz2' : w.heap.size < w2.heap.size := by omega
  go_wp2_with fail
  refine (encode_fine _ _ _ _ _ _ _ _ _ b1 b2 b3).mono ?_
  rintro e w3 ⟨rfl, hb3⟩
  obtain ⟨hc3, hf3⟩ := bcell hb3
  generalize strOfNums (Wi.frame kb cb sqb itb sdb prb qb idb) = s at *
  go_wp2
  go_ret
  exact ⟨rfl, ((((Below.refl _ _).alloc (Nat.le_refl _) _).alloc (by simp) _).trans (hb1.mono (by simp; omega))).trans ((hb2.mono (by omega)).trans (hb3.mono (by omega)))⟩

set_option maxHeartbeats 4000000 in
theorem apart_other (ka ca sqa ita sda pra qa ida kb cb sqb itb sdb prb qb idb : Int) (w : World) (ha : Wi.code ka ca sqa ita sda pra qa ida = 0) (hb : Wi.code kb cb sqb itb sdb prb qb idb = 0)
    (hne : ¬ (ka = kb ∧ ca = cb ∧ sqa = sqb ∧ ita = itb ∧ sda = sdb ∧ pra = prb ∧ qa = qb ∧ ida = idb)) :
    Calls Tryd.prog 6 #[.agg #[.int .u8 ka, .int .i64 ca, .int .i64 sqa, .int .i64 ita, .int .i64 sda, .int .i64 pra, .int .i64 qa, .int .i64 ida], .agg #[.int .u8 kb, .int .i64 cb, .int .i64 sqb, .int .i64 itb, .int .i64 sdb, .int .i64 prb, .int .i64 qb, .int .i64 idb]] w fun e w' => e = .returned (.bool true) ∧ Below w.heap.size w w' := by
  obtain ⟨a1, a2, a3⟩ := code_zero ha
  obtain ⟨b1, b2, b3⟩ := code_zero hb
  have ha30 : (strOfNums (Wi.frame ka ca sqa ita sda pra qa ida)).size = 30 := by rw [strOfNums_size, Wi.frame_length]
  have hb30 : (strOfNums (Wi.frame kb cb sqb itb sdb prb qb idb)).size = 30 := by rw [strOfNums_size, Wi.frame_length]
  have hst : ((strOfNums (Wi.frame ka ca sqa ita sda pra qa ida)).toList == (strOfNums (Wi.frame kb cb sqb itb sdb prb qb idb)).toList) = false := by
    refine beq_eq_false_iff_ne.2 (fun h => ?_)
    rw [ByteArray.toList_eq, ByteArray.toList_eq] at h
    exact hne (Wi.frame_inj ha hb (by apply ByteArray.ext; exact Array.ext' h))
  have Hne := hide hne
  clear ha hb hne
  go_enter Tryd.func6, Tryd.ntmps6
  go_wp2_with fail
  refine (framed_any _).mono ?_
  rintro e w1 ⟨rfl, hb1⟩
  obtain ⟨hc1, hf1⟩ := bcell hb1
  have hz1 : w.heap.size + 1 < w1.heap.size := by have := hb1.size; simp at this; omega
  have hz1' : w.heap.size < w1.heap.size := by omega
  go_wp2_with fail
  refine (encode_fine _ _ _ _ _ _ _ _ _ a1 a2 a3).mono ?_
  rintro e w2 ⟨rfl, hb2⟩
  obtain ⟨hc2, hf2⟩ := bcell hb2
  have hz2 : w.heap.size + 1 < w2.heap.size := by have := hb2.size; omega
  have hz2' : w.heap.size < w2.heap.size := by omega
  go_wp2_with fail
  refine (encode_fine _ _ _ _ _ _ _ _ _ b1 b2 b3).mono ?_
  rintro e w3 ⟨rfl, hb3⟩
  obtain ⟨hc3, hf3⟩ := bcell hb3
  generalize strOfNums (Wi.frame ka ca sqa ita sda pra qa ida) = s at *
  generalize strOfNums (Wi.frame kb cb sqb itb sdb prb qb idb) = t at *
  go_wp2
  · exact absurd ⟨‹ka = kb›, ‹ca = cb›, ‹sqa = sqb›, ‹ita = itb›, ‹sda = sdb›, ‹pra = prb›, ‹qa = qb›, ‹ida = idb›⟩ Hne.out
  all_goals
    go_ret
    exact ⟨rfl, ((((Below.refl _ _).alloc (Nat.le_refl _) _).alloc (by simp) _).trans (hb1.mono (by simp; omega))).trans ((hb2.mono (by omega)).trans (hb3.mono (by omega)))⟩

set_option maxHeartbeats 4000000 in
theorem apart_bad (ka ca sqa ita sda pra qa ida kb cb sqb itb sdb prb qb idb : Int) (T1 T2 T3 : TypeId) (x1 x2 x3 : Value) (w : World) (h1 : w.cell? ⟨1, 0, none⟩ = some (.iface T1 x1)) (h2 : w.cell? ⟨2, 0, none⟩ = some (.iface T2 x2)) (h3 : w.cell? ⟨0, 0, none⟩ = some (.iface T3 x3)) (ha : Wi.code ka ca sqa ita sda pra qa ida ≠ 0) :
    Calls Tryd.prog 6 #[.agg #[.int .u8 ka, .int .i64 ca, .int .i64 sqa, .int .i64 ita, .int .i64 sda, .int .i64 pra, .int .i64 qa, .int .i64 ida], .agg #[.int .u8 kb, .int .i64 cb, .int .i64 sqb, .int .i64 itb, .int .i64 sdb, .int .i64 prb, .int .i64 qb, .int .i64 idb]] w fun e w' => e = .returned (.bool true) ∧ Below w.heap.size w w' := by
  have H1 := hide h1; have H2 := hide h2; have H3 := hide h3
  clear h1 h2 h3
  have Ha := hide ha
  clear ha
  go_enter Tryd.func6, Tryd.ntmps6
  go_wp2_with fail
  refine (framed_any _).mono ?_
  rintro e w1 ⟨rfl, hb1⟩
  obtain ⟨hc1, hf1⟩ := bcell hb1
  have hz1 : w.heap.size + 1 < w1.heap.size := by have := hb1.size; simp at this; omega
  have hz1' : w.heap.size < w1.heap.size := by omega
  have HB1 : Hid (Below w.heap.size w w1) := (((Below.refl _ _).alloc (Nat.le_refl _) _).alloc (by simp) _).trans (hb1.mono (by simp; omega))
  go_wp2_with fail
  refine (encode_err _ _ _ _ _ _ _ _ T1 T2 T3 x1 x2 x3 _ (cell_later HB1.out H1.out) (cell_later HB1.out H2.out) (cell_later HB1.out H3.out) Ha.out).mono ?_
  rintro e w2 ⟨rfl, hb2⟩
  obtain ⟨T, x, he⟩ := errOf_iface (T1 := T1) (T2 := T2) (T3 := T3) (x1 := x1) (x2 := x2) (x3 := x3) (Wi.code ka ca sqa ita sda pra qa ida)
  rw [he]
  clear he
  obtain ⟨hc2, hf2⟩ := bcell hb2
  have hz2 : w.heap.size + 1 < w2.heap.size := by have := hb2.size; omega
  have hz2' : w.heap.size < w2.heap.size := by omega
  have HB2 : Hid (Below w.heap.size w w2) := HB1.out.trans (hb2.mono (by omega))
  go_wp2_with fail
  by_cases hb : Wi.code kb cb sqb itb sdb prb qb idb = 0
  · obtain ⟨b1, b2, b3⟩ := code_zero hb
    refine (encode_fine _ _ _ _ _ _ _ _ _ b1 b2 b3).mono ?_
    rintro e w3 ⟨rfl, hb3⟩
    clear hb
    go_wp2
    go_ret
    exact ⟨rfl, HB2.out.trans (hb3.mono (by omega))⟩
  · refine (encode_err _ _ _ _ _ _ _ _ T1 T2 T3 x1 x2 x3 _ (cell_later HB2.out H1.out) (cell_later HB2.out H2.out) (cell_later HB2.out H3.out) hb).mono ?_
    rintro e w3 ⟨rfl, hb3⟩
    obtain ⟨T', x', he'⟩ := errOf_iface (T1 := T1) (T2 := T2) (T3 := T3) (x1 := x1) (x2 := x2) (x3 := x3) (Wi.code kb cb sqb itb sdb prb qb idb)
    rw [he']
    clear he' hb
    go_wp2
    go_ret
    exact ⟨rfl, HB2.out.trans (hb3.mono (by omega))⟩

set_option maxHeartbeats 4000000 in
theorem apart_half (ka ca sqa ita sda pra qa ida kb cb sqb itb sdb prb qb idb : Int) (T1 T2 T3 : TypeId) (x1 x2 x3 : Value) (w : World) (h1 : w.cell? ⟨1, 0, none⟩ = some (.iface T1 x1)) (h2 : w.cell? ⟨2, 0, none⟩ = some (.iface T2 x2)) (h3 : w.cell? ⟨0, 0, none⟩ = some (.iface T3 x3)) (ha : Wi.code ka ca sqa ita sda pra qa ida = 0) (hb : Wi.code kb cb sqb itb sdb prb qb idb ≠ 0) :
    Calls Tryd.prog 6 #[.agg #[.int .u8 ka, .int .i64 ca, .int .i64 sqa, .int .i64 ita, .int .i64 sda, .int .i64 pra, .int .i64 qa, .int .i64 ida], .agg #[.int .u8 kb, .int .i64 cb, .int .i64 sqb, .int .i64 itb, .int .i64 sdb, .int .i64 prb, .int .i64 qb, .int .i64 idb]] w fun e w' => e = .returned (.bool true) ∧ Below w.heap.size w w' := by
  have H1 := hide h1; have H2 := hide h2; have H3 := hide h3
  clear h1 h2 h3
  have Hb := hide hb
  obtain ⟨a1, a2, a3⟩ := code_zero ha
  clear ha hb
  go_enter Tryd.func6, Tryd.ntmps6
  go_wp2_with fail
  refine (framed_any _).mono ?_
  rintro e w1 ⟨rfl, hb1⟩
  obtain ⟨hc1, hf1⟩ := bcell hb1
  have hz1 : w.heap.size + 1 < w1.heap.size := by have := hb1.size; simp at this; omega
  have hz1' : w.heap.size < w1.heap.size := by omega
  have HB1 : Hid (Below w.heap.size w w1) := (((Below.refl _ _).alloc (Nat.le_refl _) _).alloc (by simp) _).trans (hb1.mono (by simp; omega))
  go_wp2_with fail
  refine (encode_fine _ _ _ _ _ _ _ _ _ a1 a2 a3).mono ?_
  rintro e w2 ⟨rfl, hb2⟩
  obtain ⟨hc2, hf2⟩ := bcell hb2
  have hz2 : w.heap.size + 1 < w2.heap.size := by have := hb2.size; omega
  have hz2' : w.heap.size < w2.heap.size := by omega
  have HB2 : Hid (Below w.heap.size w w2) := HB1.out.trans (hb2.mono (by omega))
  go_wp2_with fail
  refine (encode_err _ _ _ _ _ _ _ _ T1 T2 T3 x1 x2 x3 _ (cell_later HB2.out H1.out) (cell_later HB2.out H2.out) (cell_later HB2.out H3.out) Hb.out).mono ?_
  rintro e w3 ⟨rfl, hb3⟩
  obtain ⟨T, x, he⟩ := errOf_iface (T1 := T1) (T2 := T2) (T3 := T3) (x1 := x1) (x2 := x2) (x3 := x3) (Wi.code kb cb sqb itb sdb prb qb idb)
  rw [he]
  clear he
  go_wp2
  go_ret
  exact ⟨rfl, HB2.out.trans (hb3.mono (by omega))⟩

theorem apart_any (ka ca sqa ita sda pra qa ida kb cb sqb itb sdb prb qb idb : Int) (T1 T2 T3 : TypeId) (x1 x2 x3 : Value) (w : World) (h1 : w.cell? ⟨1, 0, none⟩ = some (.iface T1 x1)) (h2 : w.cell? ⟨2, 0, none⟩ = some (.iface T2 x2)) (h3 : w.cell? ⟨0, 0, none⟩ = some (.iface T3 x3)) :
    Calls Tryd.prog 6 #[.agg #[.int .u8 ka, .int .i64 ca, .int .i64 sqa, .int .i64 ita, .int .i64 sda, .int .i64 pra, .int .i64 qa, .int .i64 ida], .agg #[.int .u8 kb, .int .i64 cb, .int .i64 sqb, .int .i64 itb, .int .i64 sdb, .int .i64 prb, .int .i64 qb, .int .i64 idb]] w fun e w' => e = .returned (.bool true) ∧ Below w.heap.size w w' := by
  by_cases ha : Wi.code ka ca sqa ita sda pra qa ida = 0
  · by_cases hb : Wi.code kb cb sqb itb sdb prb qb idb = 0
    · by_cases hne : ka = kb ∧ ca = cb ∧ sqa = sqb ∧ ita = itb ∧ sda = sdb ∧ pra = prb ∧ qa = qb ∧ ida = idb
      · obtain ⟨rfl, rfl, rfl, rfl, rfl, rfl, rfl, rfl⟩ := hne
        exact apart_same _ _ _ _ _ _ _ _ w ha
      · exact apart_other _ _ _ _ _ _ _ _ _ _ _ _ _ _ _ _ w ha hb hne
    · exact apart_half _ _ _ _ _ _ _ _ _ _ _ _ _ _ _ _ T1 T2 T3 x1 x2 x3 w h1 h2 h3 ha hb
  · exact apart_bad _ _ _ _ _ _ _ _ _ _ _ _ _ _ _ _ T1 T2 T3 x1 x2 x3 w h1 h2 h3 ha

end Go.Proofs.YtibdemdhbpkeeaaDoor
