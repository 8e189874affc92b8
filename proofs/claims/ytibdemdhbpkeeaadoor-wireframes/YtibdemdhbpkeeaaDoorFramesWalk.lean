/- What WireFrames does, for every request and every text: it answers true. -/
import Derived.Test.YtibdemdhbpkeeaaDoorReadBack
import Derived.Test.YtibdemdhbpkeeaaDoorFrame
import Derived.Test.YtibdemdhbpkeeaaDoorAskError
import Derived.Test.YtibdemdhbpkeeaaDoorAskOf
namespace Go.Proofs.YtibdemdhbpkeeaaDoor
open Go.RowKit
set_option maxRecDepth 100000

set_option maxHeartbeats 1000000 in
theorem frames_long (k c sq it sd pr q id : Int) (s : ByteArray) (w : World) (h : (100 : Int) < s.size) :
    Calls Tryd.prog 3 #[.agg #[.int .u8 k, .int .i64 c, .int .i64 sq, .int .i64 it, .int .i64 sd, .int .i64 pr, .int .i64 q, .int .i64 id], .string s] w fun e w' => e = .returned (.bool true) ∧ Below w.heap.size w w' := by
  go_enter Tryd.func3, Tryd.ntmps3
  go_wp2_with fail
  refine (framed_any _).mono ?_
  rintro e w1 ⟨rfl, hb1⟩
  have HB1 : Hid (Below w.heap.size w w1) := ((Below.refl _ _).alloc (Nat.le_refl _) _).trans (hb1.mono (by simp))
  clear hb1
  go_wp2
  go_ret
  exact ⟨rfl, HB1.out⟩

theorem decAsk_form (s : ByteArray) : ∃ y0 y1 y2 y3 y4 y5 y6 y7 : Int, decAsk s = .agg #[.int .u8 y0, .int .i64 y1, .int .i64 y2, .int .i64 y3, .int .i64 y4, .int .i64 y5, .int .i64 y6, .int .i64 y7] := by
  unfold decAsk
  split
  · exact ⟨_, _, _, _, _, _, _, _, rfl⟩
  · exact ⟨_, _, _, _, _, _, _, _, rfl⟩

/-- the request's box in a world -/
def Boxed (w w1 : World) (C : Array Value) : Prop := ∀ j v, C[j]? = some v → w1.cell? ⟨w.heap.size, j, none⟩ = some v
theorem Boxed.later {w w1 w2 : World} {C : Array Value} (h : Boxed w w1 C) (hb : Below w1.heap.size w1 w2) : Boxed w w2 C := fun j v hj => cell_later hb (h j v hj)

set_option maxHeartbeats 4000000 in
theorem frames_fine (k c sq it sd pr q id : Int) (s : ByteArray) (ad : Nat → Addr) (w : World) (hs : Hid (Sent w ad)) (hlen : (s.size : Int) ≤ 100) (hc : Hid (Wi.code k c sq it sd pr q id = 0))
    (hAsk : Hid (∀ w, Calls Tryd.prog 14 #[.string s] w fun e w' => e = .returned (.tuple #[decAsk s, .int .i64 (decCode s)]) ∧ Below w.heap.size w w')) :
    Calls Tryd.prog 3 #[.agg #[.int .u8 k, .int .i64 c, .int .i64 sq, .int .i64 it, .int .i64 sd, .int .i64 pr, .int .i64 q, .int .i64 id], .string s] w fun e w' => e = .returned (.bool true) ∧ Below w.heap.size w w' := by
  have hl1 : ¬ (100 : Int) < s.size := by omega
  have hl2 : decide ((100 : Int) < s.size) = false := by simp; omega
  go_enter Tryd.func3, Tryd.ntmps3
  go_wp2_with fail
  refine (framed_any _).mono ?_
  rintro e w1 ⟨rfl, hb1⟩
  have HA1 : Hid (Boxed w w1 #[.int .u8 k, .int .i64 c, .int .i64 sq, .int .i64 it, .int .i64 sd, .int .i64 pr, .int .i64 q, .int .i64 id]) := fun j v hj => by rw [hb1.cell (p := ⟨w.heap.size, j, none⟩) (by simp)]; simpa using hj
  have HB1 : Hid (Below w.heap.size w w1) := ((Below.refl _ _).alloc (Nat.le_refl _) _).trans (hb1.mono (by simp))
  clear hb1
  have a10 : w1.cell? ⟨w.heap.size, 0, none⟩ = some (.int .u8 k) := HA1.out 0 _ rfl
  have a11 : w1.cell? ⟨w.heap.size, 1, none⟩ = some (.int .i64 c) := HA1.out 1 _ rfl
  have a12 : w1.cell? ⟨w.heap.size, 2, none⟩ = some (.int .i64 sq) := HA1.out 2 _ rfl
  have a13 : w1.cell? ⟨w.heap.size, 3, none⟩ = some (.int .i64 it) := HA1.out 3 _ rfl
  have a14 : w1.cell? ⟨w.heap.size, 4, none⟩ = some (.int .i64 sd) := HA1.out 4 _ rfl
  have a15 : w1.cell? ⟨w.heap.size, 5, none⟩ = some (.int .i64 pr) := HA1.out 5 _ rfl
  have a16 : w1.cell? ⟨w.heap.size, 6, none⟩ = some (.int .i64 q) := HA1.out 6 _ rfl
  have a17 : w1.cell? ⟨w.heap.size, 7, none⟩ = some (.int .i64 id) := HA1.out 7 _ rfl
  go_wp2_with fail
  refine (askError_any _ _ _ _ _ _ _ _ _).mono ?_
  rintro e w2 ⟨rfl, hb2⟩
  rw [hc.out]
  have HA2 : Hid (Boxed w w2 #[.int .u8 k, .int .i64 c, .int .i64 sq, .int .i64 it, .int .i64 sd, .int .i64 pr, .int .i64 q, .int .i64 id]) := HA1.out.later hb2
  have HB2 : Hid (Below w.heap.size w w2) := HB1.out.trans (hb2.mono HB1.out.size)
  clear hb2 a10 a11 a12 a13 a14 a15 a16 a17
  have a20 : w2.cell? ⟨w.heap.size, 0, none⟩ = some (.int .u8 k) := HA2.out 0 _ rfl
  have a21 : w2.cell? ⟨w.heap.size, 1, none⟩ = some (.int .i64 c) := HA2.out 1 _ rfl
  have a22 : w2.cell? ⟨w.heap.size, 2, none⟩ = some (.int .i64 sq) := HA2.out 2 _ rfl
  have a23 : w2.cell? ⟨w.heap.size, 3, none⟩ = some (.int .i64 it) := HA2.out 3 _ rfl
  have a24 : w2.cell? ⟨w.heap.size, 4, none⟩ = some (.int .i64 sd) := HA2.out 4 _ rfl
  have a25 : w2.cell? ⟨w.heap.size, 5, none⟩ = some (.int .i64 pr) := HA2.out 5 _ rfl
  have a26 : w2.cell? ⟨w.heap.size, 6, none⟩ = some (.int .i64 q) := HA2.out 6 _ rfl
  have a27 : w2.cell? ⟨w.heap.size, 7, none⟩ = some (.int .i64 id) := HA2.out 7 _ rfl
  go_wp2_with fail
  refine (encode_any _ _ _ _ _ _ _ _ ad _ (hs.out.later HB2.out)).mono ?_
  rintro e w3 ⟨rfl, hb3⟩
  rw [hc.out, encText, if_pos hc.out, show errV ad 0 = .nilIface from rfl]
  have HA3 : Hid (Boxed w w3 #[.int .u8 k, .int .i64 c, .int .i64 sq, .int .i64 it, .int .i64 sd, .int .i64 pr, .int .i64 q, .int .i64 id]) := HA2.out.later hb3
  have HB3 : Hid (Below w.heap.size w w3) := HB2.out.trans (hb3.mono HB2.out.size)
  clear hb3 a20 a21 a22 a23 a24 a25 a26 a27
  have a30 : w3.cell? ⟨w.heap.size, 0, none⟩ = some (.int .u8 k) := HA3.out 0 _ rfl
  have a31 : w3.cell? ⟨w.heap.size, 1, none⟩ = some (.int .i64 c) := HA3.out 1 _ rfl
  have a32 : w3.cell? ⟨w.heap.size, 2, none⟩ = some (.int .i64 sq) := HA3.out 2 _ rfl
  have a33 : w3.cell? ⟨w.heap.size, 3, none⟩ = some (.int .i64 it) := HA3.out 3 _ rfl
  have a34 : w3.cell? ⟨w.heap.size, 4, none⟩ = some (.int .i64 sd) := HA3.out 4 _ rfl
  have a35 : w3.cell? ⟨w.heap.size, 5, none⟩ = some (.int .i64 pr) := HA3.out 5 _ rfl
  have a36 : w3.cell? ⟨w.heap.size, 6, none⟩ = some (.int .i64 q) := HA3.out 6 _ rfl
  have a37 : w3.cell? ⟨w.heap.size, 7, none⟩ = some (.int .i64 id) := HA3.out 7 _ rfl
  go_wp2_with fail
  refine (check_any _ _ _ _ _ _ _ _ ad _ (hs.out.later HB3.out)).mono ?_
  rintro e w4 ⟨rfl, hb4⟩
  rw [hc.out, show errV ad 0 = .nilIface from rfl]
  have HA4 : Hid (Boxed w w4 #[.int .u8 k, .int .i64 c, .int .i64 sq, .int .i64 it, .int .i64 sd, .int .i64 pr, .int .i64 q, .int .i64 id]) := HA3.out.later hb4
  have HB4 : Hid (Below w.heap.size w w4) := HB3.out.trans (hb4.mono HB3.out.size)
  clear hb4 a30 a31 a32 a33 a34 a35 a36 a37
  have a40 : w4.cell? ⟨w.heap.size, 0, none⟩ = some (.int .u8 k) := HA4.out 0 _ rfl
  have a41 : w4.cell? ⟨w.heap.size, 1, none⟩ = some (.int .i64 c) := HA4.out 1 _ rfl
  have a42 : w4.cell? ⟨w.heap.size, 2, none⟩ = some (.int .i64 sq) := HA4.out 2 _ rfl
  have a43 : w4.cell? ⟨w.heap.size, 3, none⟩ = some (.int .i64 it) := HA4.out 3 _ rfl
  have a44 : w4.cell? ⟨w.heap.size, 4, none⟩ = some (.int .i64 sd) := HA4.out 4 _ rfl
  have a45 : w4.cell? ⟨w.heap.size, 5, none⟩ = some (.int .i64 pr) := HA4.out 5 _ rfl
  have a46 : w4.cell? ⟨w.heap.size, 6, none⟩ = some (.int .i64 q) := HA4.out 6 _ rfl
  have a47 : w4.cell? ⟨w.heap.size, 7, none⟩ = some (.int .i64 id) := HA4.out 7 _ rfl
  go_wp2_with fail
  refine (coded_nil _).mono ?_
  rintro e w5 ⟨rfl, rfl⟩
  go_wp2_with fail
  refine (coded_nil _).mono ?_
  rintro e w5 ⟨rfl, rfl⟩
  obtain ⟨hd0, hd1⟩ := dec_frame hc.out
  have HD : Hid (decAsk (strOfNums (Wi.frame k c sq it sd pr q id)) = .agg #[.int .u8 k, .int .i64 c, .int .i64 sq, .int .i64 it, .int .i64 sd, .int .i64 pr, .int .i64 q, .int .i64 id] ∧ decCode (strOfNums (Wi.frame k c sq it sd pr q id)) = 0) := ⟨by rw [decAsk, if_pos hd0, hd1], hd0⟩
  clear hd0 hd1
  go_wp2_with fail
  refine (decode_any _ ad _ (hs.out.later HB4.out)).mono ?_
  rintro e w6 ⟨rfl, hb6⟩
  rw [HD.out.1, HD.out.2, show errV ad 0 = .nilIface from rfl]
  have HA6 : Hid (Boxed w w6 #[.int .u8 k, .int .i64 c, .int .i64 sq, .int .i64 it, .int .i64 sd, .int .i64 pr, .int .i64 q, .int .i64 id]) := HA4.out.later hb6
  have HB6 : Hid (Below w.heap.size w w6) := HB4.out.trans (hb6.mono HB4.out.size)
  clear hb6 HD a40 a41 a42 a43 a44 a45 a46 a47
  have a60 : w6.cell? ⟨w.heap.size, 0, none⟩ = some (.int .u8 k) := HA6.out 0 _ rfl
  have a61 : w6.cell? ⟨w.heap.size, 1, none⟩ = some (.int .i64 c) := HA6.out 1 _ rfl
  have a62 : w6.cell? ⟨w.heap.size, 2, none⟩ = some (.int .i64 sq) := HA6.out 2 _ rfl
  have a63 : w6.cell? ⟨w.heap.size, 3, none⟩ = some (.int .i64 it) := HA6.out 3 _ rfl
  have a64 : w6.cell? ⟨w.heap.size, 4, none⟩ = some (.int .i64 sd) := HA6.out 4 _ rfl
  have a65 : w6.cell? ⟨w.heap.size, 5, none⟩ = some (.int .i64 pr) := HA6.out 5 _ rfl
  have a66 : w6.cell? ⟨w.heap.size, 6, none⟩ = some (.int .i64 q) := HA6.out 6 _ rfl
  have a67 : w6.cell? ⟨w.heap.size, 7, none⟩ = some (.int .i64 id) := HA6.out 7 _ rfl
  have hz6 : w.heap.size < w6.heap.size := World.block_lt_of_cell? _ _ a60
  go_wp2_with fail
  refine (frame_of _ _ _ _ _ _ _ _ _ hc.out).mono ?_
  rintro e w7 ⟨rfl, hb7⟩
  have HA7 : Hid (Boxed w w7 #[.int .u8 k, .int .i64 c, .int .i64 sq, .int .i64 it, .int .i64 sd, .int .i64 pr, .int .i64 q, .int .i64 id]) := fun j v hj => by
    rw [hb7.cell (p := ⟨w.heap.size, j, none⟩) (by simp; omega), World.cell?_alloc_lt _ _ ⟨w.heap.size, j, none⟩ hz6]; exact HA6.out j v hj
  have HBX : Hid (Below w.heap.size w w7) := (HB6.out.alloc HB6.out.size _).trans (hb7.mono (Nat.le_trans HB6.out.size (by simp)))
  have d0 : w7.cell? ⟨w6.heap.size, 0, none⟩ = some (.int .u8 k) := by rw [hb7.cell (p := ⟨w6.heap.size, 0, none⟩) (by simp)]; simp
  have d1 : w7.cell? ⟨w6.heap.size, 1, none⟩ = some (.int .i64 c) := by rw [hb7.cell (p := ⟨w6.heap.size, 1, none⟩) (by simp)]; simp
  have d2 : w7.cell? ⟨w6.heap.size, 2, none⟩ = some (.int .i64 sq) := by rw [hb7.cell (p := ⟨w6.heap.size, 2, none⟩) (by simp)]; simp
  have d3 : w7.cell? ⟨w6.heap.size, 3, none⟩ = some (.int .i64 it) := by rw [hb7.cell (p := ⟨w6.heap.size, 3, none⟩) (by simp)]; simp
  have d4 : w7.cell? ⟨w6.heap.size, 4, none⟩ = some (.int .i64 sd) := by rw [hb7.cell (p := ⟨w6.heap.size, 4, none⟩) (by simp)]; simp
  have d5 : w7.cell? ⟨w6.heap.size, 5, none⟩ = some (.int .i64 pr) := by rw [hb7.cell (p := ⟨w6.heap.size, 5, none⟩) (by simp)]; simp
  have d6 : w7.cell? ⟨w6.heap.size, 6, none⟩ = some (.int .i64 q) := by rw [hb7.cell (p := ⟨w6.heap.size, 6, none⟩) (by simp)]; simp
  have d7 : w7.cell? ⟨w6.heap.size, 7, none⟩ = some (.int .i64 id) := by rw [hb7.cell (p := ⟨w6.heap.size, 7, none⟩) (by simp)]; simp
  clear hb7 a60 a61 a62 a63 a64 a65 a66 a67
  have a70 : w7.cell? ⟨w.heap.size, 0, none⟩ = some (.int .u8 k) := HA7.out 0 _ rfl
  have a71 : w7.cell? ⟨w.heap.size, 1, none⟩ = some (.int .i64 c) := HA7.out 1 _ rfl
  have a72 : w7.cell? ⟨w.heap.size, 2, none⟩ = some (.int .i64 sq) := HA7.out 2 _ rfl
  have a73 : w7.cell? ⟨w.heap.size, 3, none⟩ = some (.int .i64 it) := HA7.out 3 _ rfl
  have a74 : w7.cell? ⟨w.heap.size, 4, none⟩ = some (.int .i64 sd) := HA7.out 4 _ rfl
  have a75 : w7.cell? ⟨w.heap.size, 5, none⟩ = some (.int .i64 pr) := HA7.out 5 _ rfl
  have a76 : w7.cell? ⟨w.heap.size, 6, none⟩ = some (.int .i64 q) := HA7.out 6 _ rfl
  have a77 : w7.cell? ⟨w.heap.size, 7, none⟩ = some (.int .i64 id) := HA7.out 7 _ rfl
  generalize strOfNums (Wi.frame k c sq it sd pr q id) = t at *
  obtain ⟨y0, y1, y2, y3, y4, y5, y6, y7, hy⟩ := decAsk_form s
  have Hy := hide hy; clear hy
  have hle := decCode_le s
  have hsum := Wi.sum_lt s.data.toList
  have hmx : s.size ≤ maxLen := by unfold maxLen; omega
  have Hmx := hide hmx; clear hmx
  go_wp2_with fail
  refine (decode_any s ad _ (hs.out.later HBX.out)).mono ?_
  rintro e w8 ⟨rfl, hb8⟩
  rw [Hy.out]
  have HB8 : Hid (Below w.heap.size w w8) := HBX.out.trans (hb8.mono HBX.out.size)
  clear hb8
  generalize hn : decCode s = n at *
  have Hn := hide hn; clear hn
  generalize hev : errV ad n = ev at *
  have Hev := hide hev; clear hev
  go_wp2_with fail
  refine (hAsk.out _).mono ?_
  rintro e w9 ⟨rfl, hb9⟩
  rw [Hy.out]
  have HB9 : Hid (Below w.heap.size w w9) := (HB8.out.alloc HB8.out.size _).trans (hb9.mono (Nat.le_trans HB8.out.size (by simp)))
  have hz9 : w8.heap.size < w9.heap.size := by have := hb9.size; simp at this; omega
  have x0 : w9.cell? ⟨w8.heap.size, 0, none⟩ = some (.int .u8 y0) := by rw [hb9.cell (p := ⟨w8.heap.size, 0, none⟩) (by simp)]; simp
  have x1 : w9.cell? ⟨w8.heap.size, 1, none⟩ = some (.int .i64 y1) := by rw [hb9.cell (p := ⟨w8.heap.size, 1, none⟩) (by simp)]; simp
  have x2 : w9.cell? ⟨w8.heap.size, 2, none⟩ = some (.int .i64 y2) := by rw [hb9.cell (p := ⟨w8.heap.size, 2, none⟩) (by simp)]; simp
  have x3 : w9.cell? ⟨w8.heap.size, 3, none⟩ = some (.int .i64 y3) := by rw [hb9.cell (p := ⟨w8.heap.size, 3, none⟩) (by simp)]; simp
  have x4 : w9.cell? ⟨w8.heap.size, 4, none⟩ = some (.int .i64 y4) := by rw [hb9.cell (p := ⟨w8.heap.size, 4, none⟩) (by simp)]; simp
  have x5 : w9.cell? ⟨w8.heap.size, 5, none⟩ = some (.int .i64 y5) := by rw [hb9.cell (p := ⟨w8.heap.size, 5, none⟩) (by simp)]; simp
  have x6 : w9.cell? ⟨w8.heap.size, 6, none⟩ = some (.int .i64 y6) := by rw [hb9.cell (p := ⟨w8.heap.size, 6, none⟩) (by simp)]; simp
  have x7 : w9.cell? ⟨w8.heap.size, 7, none⟩ = some (.int .i64 y7) := by rw [hb9.cell (p := ⟨w8.heap.size, 7, none⟩) (by simp)]; simp
  clear hb9
  go_wp2_with fail
  rw [← Hev.out]
  refine (coded_errV n (by omega) ad _ (hs.out.later (HB9.out.alloc HB9.out.size _))).mono ?_
  rintro e w10 ⟨rfl, hb10⟩
  have HB10 : Hid (Below w.heap.size w w10) := (HB9.out.alloc HB9.out.size _).trans (hb10.mono (Nat.le_trans HB9.out.size (by simp)))
  have X0 : w10.cell? ⟨w8.heap.size, 0, none⟩ = some (.int .u8 y0) := by rw [hb10.cell (p := ⟨w8.heap.size, 0, none⟩) (by simp; omega), World.cell?_alloc_lt _ _ ⟨w8.heap.size, 0, none⟩ hz9]; exact x0
  have V0 : w10.cell? ⟨w9.heap.size, 0, none⟩ = some (.int .u8 y0) := by rw [hb10.cell (p := ⟨w9.heap.size, 0, none⟩) (by simp)]; simp
  have X1 : w10.cell? ⟨w8.heap.size, 1, none⟩ = some (.int .i64 y1) := by rw [hb10.cell (p := ⟨w8.heap.size, 1, none⟩) (by simp; omega), World.cell?_alloc_lt _ _ ⟨w8.heap.size, 1, none⟩ hz9]; exact x1
  have V1 : w10.cell? ⟨w9.heap.size, 1, none⟩ = some (.int .i64 y1) := by rw [hb10.cell (p := ⟨w9.heap.size, 1, none⟩) (by simp)]; simp
  have X2 : w10.cell? ⟨w8.heap.size, 2, none⟩ = some (.int .i64 y2) := by rw [hb10.cell (p := ⟨w8.heap.size, 2, none⟩) (by simp; omega), World.cell?_alloc_lt _ _ ⟨w8.heap.size, 2, none⟩ hz9]; exact x2
  have V2 : w10.cell? ⟨w9.heap.size, 2, none⟩ = some (.int .i64 y2) := by rw [hb10.cell (p := ⟨w9.heap.size, 2, none⟩) (by simp)]; simp
  have X3 : w10.cell? ⟨w8.heap.size, 3, none⟩ = some (.int .i64 y3) := by rw [hb10.cell (p := ⟨w8.heap.size, 3, none⟩) (by simp; omega), World.cell?_alloc_lt _ _ ⟨w8.heap.size, 3, none⟩ hz9]; exact x3
  have V3 : w10.cell? ⟨w9.heap.size, 3, none⟩ = some (.int .i64 y3) := by rw [hb10.cell (p := ⟨w9.heap.size, 3, none⟩) (by simp)]; simp
  have X4 : w10.cell? ⟨w8.heap.size, 4, none⟩ = some (.int .i64 y4) := by rw [hb10.cell (p := ⟨w8.heap.size, 4, none⟩) (by simp; omega), World.cell?_alloc_lt _ _ ⟨w8.heap.size, 4, none⟩ hz9]; exact x4
  have V4 : w10.cell? ⟨w9.heap.size, 4, none⟩ = some (.int .i64 y4) := by rw [hb10.cell (p := ⟨w9.heap.size, 4, none⟩) (by simp)]; simp
  have X5 : w10.cell? ⟨w8.heap.size, 5, none⟩ = some (.int .i64 y5) := by rw [hb10.cell (p := ⟨w8.heap.size, 5, none⟩) (by simp; omega), World.cell?_alloc_lt _ _ ⟨w8.heap.size, 5, none⟩ hz9]; exact x5
  have V5 : w10.cell? ⟨w9.heap.size, 5, none⟩ = some (.int .i64 y5) := by rw [hb10.cell (p := ⟨w9.heap.size, 5, none⟩) (by simp)]; simp
  have X6 : w10.cell? ⟨w8.heap.size, 6, none⟩ = some (.int .i64 y6) := by rw [hb10.cell (p := ⟨w8.heap.size, 6, none⟩) (by simp; omega), World.cell?_alloc_lt _ _ ⟨w8.heap.size, 6, none⟩ hz9]; exact x6
  have V6 : w10.cell? ⟨w9.heap.size, 6, none⟩ = some (.int .i64 y6) := by rw [hb10.cell (p := ⟨w9.heap.size, 6, none⟩) (by simp)]; simp
  have X7 : w10.cell? ⟨w8.heap.size, 7, none⟩ = some (.int .i64 y7) := by rw [hb10.cell (p := ⟨w8.heap.size, 7, none⟩) (by simp; omega), World.cell?_alloc_lt _ _ ⟨w8.heap.size, 7, none⟩ hz9]; exact x7
  have V7 : w10.cell? ⟨w9.heap.size, 7, none⟩ = some (.int .i64 y7) := by rw [hb10.cell (p := ⟨w9.heap.size, 7, none⟩) (by simp)]; simp
  clear hb10 x0 x1 x2 x3 x4 x5 x6 x7
  go_wp2_with fail
  refine (sum_any s _ Hmx.out).mono ?_
  rintro e w11 ⟨rfl, rfl⟩
  generalize hz : Wi.sum s.data.toList = z at *
  have Hz := hide hz; clear hz
  go_wp2_with fail
  refine (crc_any s _ Hmx.out).mono ?_
  rintro e w12 ⟨rfl, rfl⟩
  rw [Hz.out]
  go_wp2
  go_ret
  exact ⟨rfl, HB10.out⟩

set_option maxHeartbeats 4000000 in
theorem frames_bad (k c sq it sd pr q id : Int) (s : ByteArray) (ad : Nat → Addr) (w : World) (hs : Hid (Sent w ad)) (hlen : (s.size : Int) ≤ 100) (hc : Hid (Wi.code k c sq it sd pr q id ≠ 0))
    (hAsk : Hid (∀ w, Calls Tryd.prog 14 #[.string s] w fun e w' => e = .returned (.tuple #[decAsk s, .int .i64 (decCode s)]) ∧ Below w.heap.size w w')) :
    Calls Tryd.prog 3 #[.agg #[.int .u8 k, .int .i64 c, .int .i64 sq, .int .i64 it, .int .i64 sd, .int .i64 pr, .int .i64 q, .int .i64 id], .string s] w fun e w' => e = .returned (.bool true) ∧ Below w.heap.size w w' := by
  have hl1 : ¬ (100 : Int) < s.size := by omega
  have hl2 : decide ((100 : Int) < s.size) = false := by simp; omega
  go_enter Tryd.func3, Tryd.ntmps3
  go_wp2_with fail
  refine (framed_any _).mono ?_
  rintro e w1 ⟨rfl, hb1⟩
  have HA1 : Hid (Boxed w w1 #[.int .u8 k, .int .i64 c, .int .i64 sq, .int .i64 it, .int .i64 sd, .int .i64 pr, .int .i64 q, .int .i64 id]) := fun j v hj => by rw [hb1.cell (p := ⟨w.heap.size, j, none⟩) (by simp)]; simpa using hj
  have HB1 : Hid (Below w.heap.size w w1) := ((Below.refl _ _).alloc (Nat.le_refl _) _).trans (hb1.mono (by simp))
  clear hb1
  have a10 : w1.cell? ⟨w.heap.size, 0, none⟩ = some (.int .u8 k) := HA1.out 0 _ rfl
  have a11 : w1.cell? ⟨w.heap.size, 1, none⟩ = some (.int .i64 c) := HA1.out 1 _ rfl
  have a12 : w1.cell? ⟨w.heap.size, 2, none⟩ = some (.int .i64 sq) := HA1.out 2 _ rfl
  have a13 : w1.cell? ⟨w.heap.size, 3, none⟩ = some (.int .i64 it) := HA1.out 3 _ rfl
  have a14 : w1.cell? ⟨w.heap.size, 4, none⟩ = some (.int .i64 sd) := HA1.out 4 _ rfl
  have a15 : w1.cell? ⟨w.heap.size, 5, none⟩ = some (.int .i64 pr) := HA1.out 5 _ rfl
  have a16 : w1.cell? ⟨w.heap.size, 6, none⟩ = some (.int .i64 q) := HA1.out 6 _ rfl
  have a17 : w1.cell? ⟨w.heap.size, 7, none⟩ = some (.int .i64 id) := HA1.out 7 _ rfl
  go_wp2_with fail
  refine (askError_any _ _ _ _ _ _ _ _ _).mono ?_
  rintro e w2 ⟨rfl, hb2⟩
  have hm5 := Wi.code_cases k c sq it sd pr q id
  have hm0 : 0 < Wi.code k c sq it sd pr q id := Nat.pos_of_ne_zero hc.out
  generalize hm : Wi.code k c sq it sd pr q id = m at *
  have hm0' : (0 : Int) < m := by omega
  have Hm := hide hm; clear hm
  have HA2 : Hid (Boxed w w2 #[.int .u8 k, .int .i64 c, .int .i64 sq, .int .i64 it, .int .i64 sd, .int .i64 pr, .int .i64 q, .int .i64 id]) := HA1.out.later hb2
  have HB2 : Hid (Below w.heap.size w w2) := HB1.out.trans (hb2.mono HB1.out.size)
  clear hb2 a10 a11 a12 a13 a14 a15 a16 a17
  have a20 : w2.cell? ⟨w.heap.size, 0, none⟩ = some (.int .u8 k) := HA2.out 0 _ rfl
  have a21 : w2.cell? ⟨w.heap.size, 1, none⟩ = some (.int .i64 c) := HA2.out 1 _ rfl
  have a22 : w2.cell? ⟨w.heap.size, 2, none⟩ = some (.int .i64 sq) := HA2.out 2 _ rfl
  have a23 : w2.cell? ⟨w.heap.size, 3, none⟩ = some (.int .i64 it) := HA2.out 3 _ rfl
  have a24 : w2.cell? ⟨w.heap.size, 4, none⟩ = some (.int .i64 sd) := HA2.out 4 _ rfl
  have a25 : w2.cell? ⟨w.heap.size, 5, none⟩ = some (.int .i64 pr) := HA2.out 5 _ rfl
  have a26 : w2.cell? ⟨w.heap.size, 6, none⟩ = some (.int .i64 q) := HA2.out 6 _ rfl
  have a27 : w2.cell? ⟨w.heap.size, 7, none⟩ = some (.int .i64 id) := HA2.out 7 _ rfl
  go_wp2_with fail
  refine (encode_any _ _ _ _ _ _ _ _ ad _ (hs.out.later HB2.out)).mono ?_
  rintro e w3 ⟨rfl, hb3⟩
  rw [encText, if_neg (by rw [Hm.out]; exact hc.out), Hm.out]
  have HA3 : Hid (Boxed w w3 #[.int .u8 k, .int .i64 c, .int .i64 sq, .int .i64 it, .int .i64 sd, .int .i64 pr, .int .i64 q, .int .i64 id]) := HA2.out.later hb3
  have HB3 : Hid (Below w.heap.size w w3) := HB2.out.trans (hb3.mono HB2.out.size)
  clear hb3 a20 a21 a22 a23 a24 a25 a26 a27
  have a30 : w3.cell? ⟨w.heap.size, 0, none⟩ = some (.int .u8 k) := HA3.out 0 _ rfl
  have a31 : w3.cell? ⟨w.heap.size, 1, none⟩ = some (.int .i64 c) := HA3.out 1 _ rfl
  have a32 : w3.cell? ⟨w.heap.size, 2, none⟩ = some (.int .i64 sq) := HA3.out 2 _ rfl
  have a33 : w3.cell? ⟨w.heap.size, 3, none⟩ = some (.int .i64 it) := HA3.out 3 _ rfl
  have a34 : w3.cell? ⟨w.heap.size, 4, none⟩ = some (.int .i64 sd) := HA3.out 4 _ rfl
  have a35 : w3.cell? ⟨w.heap.size, 5, none⟩ = some (.int .i64 pr) := HA3.out 5 _ rfl
  have a36 : w3.cell? ⟨w.heap.size, 6, none⟩ = some (.int .i64 q) := HA3.out 6 _ rfl
  have a37 : w3.cell? ⟨w.heap.size, 7, none⟩ = some (.int .i64 id) := HA3.out 7 _ rfl
  go_wp2_with fail
  refine (check_any _ _ _ _ _ _ _ _ ad _ (hs.out.later HB3.out)).mono ?_
  rintro e w4 ⟨rfl, hb4⟩
  rw [Hm.out]
  have HA4 : Hid (Boxed w w4 #[.int .u8 k, .int .i64 c, .int .i64 sq, .int .i64 it, .int .i64 sd, .int .i64 pr, .int .i64 q, .int .i64 id]) := HA3.out.later hb4
  have HB4 : Hid (Below w.heap.size w w4) := HB3.out.trans (hb4.mono HB3.out.size)
  clear hb4 a30 a31 a32 a33 a34 a35 a36 a37
  have a40 : w4.cell? ⟨w.heap.size, 0, none⟩ = some (.int .u8 k) := HA4.out 0 _ rfl
  have a41 : w4.cell? ⟨w.heap.size, 1, none⟩ = some (.int .i64 c) := HA4.out 1 _ rfl
  have a42 : w4.cell? ⟨w.heap.size, 2, none⟩ = some (.int .i64 sq) := HA4.out 2 _ rfl
  have a43 : w4.cell? ⟨w.heap.size, 3, none⟩ = some (.int .i64 it) := HA4.out 3 _ rfl
  have a44 : w4.cell? ⟨w.heap.size, 4, none⟩ = some (.int .i64 sd) := HA4.out 4 _ rfl
  have a45 : w4.cell? ⟨w.heap.size, 5, none⟩ = some (.int .i64 pr) := HA4.out 5 _ rfl
  have a46 : w4.cell? ⟨w.heap.size, 6, none⟩ = some (.int .i64 q) := HA4.out 6 _ rfl
  have a47 : w4.cell? ⟨w.heap.size, 7, none⟩ = some (.int .i64 id) := HA4.out 7 _ rfl
  go_wp2_with fail
  refine (coded_errV m (by omega) ad _ (hs.out.later HB4.out)).mono ?_
  rintro e w5 ⟨rfl, hb5⟩
  have HB5 : Hid (Below w.heap.size w w5) := HB4.out.trans (hb5.mono HB4.out.size)
  clear hb5
  go_wp2_with fail
  refine (coded_errV m (by omega) ad _ (hs.out.later HB5.out)).mono ?_
  rintro e w6 ⟨rfl, hb6⟩
  have HBX : Hid (Below w.heap.size w w6) := HB5.out.trans (hb6.mono HB5.out.size)
  clear hb6
  obtain ⟨y0, y1, y2, y3, y4, y5, y6, y7, hy⟩ := decAsk_form s
  have Hy := hide hy; clear hy
  have hle := decCode_le s
  have hsum := Wi.sum_lt s.data.toList
  have hmx : s.size ≤ maxLen := by unfold maxLen; omega
  have Hmx := hide hmx; clear hmx
  go_wp2_with fail
  refine (decode_any s ad _ (hs.out.later HBX.out)).mono ?_
  rintro e w8 ⟨rfl, hb8⟩
  rw [Hy.out]
  have HB8 : Hid (Below w.heap.size w w8) := HBX.out.trans (hb8.mono HBX.out.size)
  clear hb8
  generalize hn : decCode s = n at *
  have Hn := hide hn; clear hn
  generalize hev : errV ad n = ev at *
  have Hev := hide hev; clear hev
  go_wp2_with fail
  refine (hAsk.out _).mono ?_
  rintro e w9 ⟨rfl, hb9⟩
  rw [Hy.out]
  have HB9 : Hid (Below w.heap.size w w9) := (HB8.out.alloc HB8.out.size _).trans (hb9.mono (Nat.le_trans HB8.out.size (by simp)))
  have hz9 : w8.heap.size < w9.heap.size := by have := hb9.size; simp at this; omega
  have x0 : w9.cell? ⟨w8.heap.size, 0, none⟩ = some (.int .u8 y0) := by rw [hb9.cell (p := ⟨w8.heap.size, 0, none⟩) (by simp)]; simp
  have x1 : w9.cell? ⟨w8.heap.size, 1, none⟩ = some (.int .i64 y1) := by rw [hb9.cell (p := ⟨w8.heap.size, 1, none⟩) (by simp)]; simp
  have x2 : w9.cell? ⟨w8.heap.size, 2, none⟩ = some (.int .i64 y2) := by rw [hb9.cell (p := ⟨w8.heap.size, 2, none⟩) (by simp)]; simp
  have x3 : w9.cell? ⟨w8.heap.size, 3, none⟩ = some (.int .i64 y3) := by rw [hb9.cell (p := ⟨w8.heap.size, 3, none⟩) (by simp)]; simp
  have x4 : w9.cell? ⟨w8.heap.size, 4, none⟩ = some (.int .i64 y4) := by rw [hb9.cell (p := ⟨w8.heap.size, 4, none⟩) (by simp)]; simp
  have x5 : w9.cell? ⟨w8.heap.size, 5, none⟩ = some (.int .i64 y5) := by rw [hb9.cell (p := ⟨w8.heap.size, 5, none⟩) (by simp)]; simp
  have x6 : w9.cell? ⟨w8.heap.size, 6, none⟩ = some (.int .i64 y6) := by rw [hb9.cell (p := ⟨w8.heap.size, 6, none⟩) (by simp)]; simp
  have x7 : w9.cell? ⟨w8.heap.size, 7, none⟩ = some (.int .i64 y7) := by rw [hb9.cell (p := ⟨w8.heap.size, 7, none⟩) (by simp)]; simp
  clear hb9
  go_wp2_with fail
  rw [← Hev.out]
  refine (coded_errV n (by omega) ad _ (hs.out.later (HB9.out.alloc HB9.out.size _))).mono ?_
  rintro e w10 ⟨rfl, hb10⟩
  have HB10 : Hid (Below w.heap.size w w10) := (HB9.out.alloc HB9.out.size _).trans (hb10.mono (Nat.le_trans HB9.out.size (by simp)))
  have X0 : w10.cell? ⟨w8.heap.size, 0, none⟩ = some (.int .u8 y0) := by rw [hb10.cell (p := ⟨w8.heap.size, 0, none⟩) (by simp; omega), World.cell?_alloc_lt _ _ ⟨w8.heap.size, 0, none⟩ hz9]; exact x0
  have V0 : w10.cell? ⟨w9.heap.size, 0, none⟩ = some (.int .u8 y0) := by rw [hb10.cell (p := ⟨w9.heap.size, 0, none⟩) (by simp)]; simp
  have X1 : w10.cell? ⟨w8.heap.size, 1, none⟩ = some (.int .i64 y1) := by rw [hb10.cell (p := ⟨w8.heap.size, 1, none⟩) (by simp; omega), World.cell?_alloc_lt _ _ ⟨w8.heap.size, 1, none⟩ hz9]; exact x1
  have V1 : w10.cell? ⟨w9.heap.size, 1, none⟩ = some (.int .i64 y1) := by rw [hb10.cell (p := ⟨w9.heap.size, 1, none⟩) (by simp)]; simp
  have X2 : w10.cell? ⟨w8.heap.size, 2, none⟩ = some (.int .i64 y2) := by rw [hb10.cell (p := ⟨w8.heap.size, 2, none⟩) (by simp; omega), World.cell?_alloc_lt _ _ ⟨w8.heap.size, 2, none⟩ hz9]; exact x2
  have V2 : w10.cell? ⟨w9.heap.size, 2, none⟩ = some (.int .i64 y2) := by rw [hb10.cell (p := ⟨w9.heap.size, 2, none⟩) (by simp)]; simp
  have X3 : w10.cell? ⟨w8.heap.size, 3, none⟩ = some (.int .i64 y3) := by rw [hb10.cell (p := ⟨w8.heap.size, 3, none⟩) (by simp; omega), World.cell?_alloc_lt _ _ ⟨w8.heap.size, 3, none⟩ hz9]; exact x3
  have V3 : w10.cell? ⟨w9.heap.size, 3, none⟩ = some (.int .i64 y3) := by rw [hb10.cell (p := ⟨w9.heap.size, 3, none⟩) (by simp)]; simp
  have X4 : w10.cell? ⟨w8.heap.size, 4, none⟩ = some (.int .i64 y4) := by rw [hb10.cell (p := ⟨w8.heap.size, 4, none⟩) (by simp; omega), World.cell?_alloc_lt _ _ ⟨w8.heap.size, 4, none⟩ hz9]; exact x4
  have V4 : w10.cell? ⟨w9.heap.size, 4, none⟩ = some (.int .i64 y4) := by rw [hb10.cell (p := ⟨w9.heap.size, 4, none⟩) (by simp)]; simp
  have X5 : w10.cell? ⟨w8.heap.size, 5, none⟩ = some (.int .i64 y5) := by rw [hb10.cell (p := ⟨w8.heap.size, 5, none⟩) (by simp; omega), World.cell?_alloc_lt _ _ ⟨w8.heap.size, 5, none⟩ hz9]; exact x5
  have V5 : w10.cell? ⟨w9.heap.size, 5, none⟩ = some (.int .i64 y5) := by rw [hb10.cell (p := ⟨w9.heap.size, 5, none⟩) (by simp)]; simp
  have X6 : w10.cell? ⟨w8.heap.size, 6, none⟩ = some (.int .i64 y6) := by rw [hb10.cell (p := ⟨w8.heap.size, 6, none⟩) (by simp; omega), World.cell?_alloc_lt _ _ ⟨w8.heap.size, 6, none⟩ hz9]; exact x6
  have V6 : w10.cell? ⟨w9.heap.size, 6, none⟩ = some (.int .i64 y6) := by rw [hb10.cell (p := ⟨w9.heap.size, 6, none⟩) (by simp)]; simp
  have X7 : w10.cell? ⟨w8.heap.size, 7, none⟩ = some (.int .i64 y7) := by rw [hb10.cell (p := ⟨w8.heap.size, 7, none⟩) (by simp; omega), World.cell?_alloc_lt _ _ ⟨w8.heap.size, 7, none⟩ hz9]; exact x7
  have V7 : w10.cell? ⟨w9.heap.size, 7, none⟩ = some (.int .i64 y7) := by rw [hb10.cell (p := ⟨w9.heap.size, 7, none⟩) (by simp)]; simp
  clear hb10 x0 x1 x2 x3 x4 x5 x6 x7
  go_wp2_with fail
  refine (sum_any s _ Hmx.out).mono ?_
  rintro e w11 ⟨rfl, rfl⟩
  generalize hz : Wi.sum s.data.toList = z at *
  have Hz := hide hz; clear hz
  go_wp2_with fail
  refine (crc_any s _ Hmx.out).mono ?_
  rintro e w12 ⟨rfl, rfl⟩
  rw [Hz.out]
  go_wp2
  go_ret
  exact ⟨rfl, HB10.out⟩

theorem frames_any (k c sq it sd pr q id : Int) (s : ByteArray) (ad : Nat → Addr) (w : World) (hs : Sent w ad) :
    Calls Tryd.prog 3 #[.agg #[.int .u8 k, .int .i64 c, .int .i64 sq, .int .i64 it, .int .i64 sd, .int .i64 pr, .int .i64 q, .int .i64 id], .string s] w fun e w' => e = .returned (.bool true) ∧ Below w.heap.size w w' := by
  by_cases hlen : (100 : Int) < s.size
  · exact frames_long k c sq it sd pr q id s w hlen
  · by_cases hc : Wi.code k c sq it sd pr q id = 0
    · exact frames_fine k c sq it sd pr q id s ad w hs (by omega) hc (fun w => askOf_any s w)
    · exact frames_bad k c sq it sd pr q id s ad w hs (by omega) hc (fun w => askOf_any s w)
end Go.Proofs.YtibdemdhbpkeeaaDoor
