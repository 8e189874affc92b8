/- The document's answer for a text as a frame: AskOf is what Decode gives. -/
import Derived.Test.YtibdemdhbpkeeaaDoorFrame
import Derived.Test.YtibdemdhbpkeeaaDoorAskError
import Derived.Test.YtibdemdhbpkeeaaDoorDecode
namespace Go.Proofs.YtibdemdhbpkeeaaDoor
open Go.RowKit
set_option maxRecDepth 100000

theorem low_later {w0 : World} (n : Nat) (hn : n < 4294967296) (x : Later w0) : Calls Tryd.prog 31 #[.int .i64 n] x.val fun e w'' => e = .returned (.string (strOfNums (Wi.low n))) ∧ ∃ y : Later w0, w'' = y.val :=
  (low_any n x.val hn).mono fun _ w' ⟨he, hb⟩ => ⟨he, ⟨w', x.low.trans (hb.mono x.low.size)⟩, rfl⟩
theorem crc_later {w0 : World} (s : ByteArray) (hs : s.size ≤ maxLen) (x : Later w0) : Calls Tryd.prog 16 #[.string s] x.val fun e w'' => e = .returned (.int .i64 (Wi.sum s.data.toList)) ∧ ∃ y : Later w0, w'' = y.val :=
  (crc_any s x.val hs).mono fun _ _ ⟨he, hb⟩ => ⟨he, x, hb⟩

set_option maxHeartbeats 1000000 in
theorem askOf_text (s : ByteArray) (w : World) (hs : ((s.size : Int) != 30) = true) :
    Calls Tryd.prog 14 #[.string s] w fun e w' => e = .returned (.tuple #[zeroAsk, .int .i64 1]) ∧ Below w.heap.size w w' := by
  go_enter Tryd.func14, Tryd.ntmps14
  go_wp2
  refine bodyPost_ret (v := .tuple #[zeroAsk, .int .i64 1]) (by simp [results, Tryd.results14, go_sem, zeroAsk]) rfl ⟨rfl, ?_⟩
  exact (Below.refl _ _).alloc (Nat.le_refl _) _

set_option maxHeartbeats 1000000 in
theorem askOf_sum (s : ByteArray) (w : World) (hs : ((s.size : Int) != 30) = false) (hne : ((strOfNums (Wi.low (Wi.sum (s.data.toList.take 26)))).toList == (s.extract 26 s.size).toList) = false) :
    Calls Tryd.prog 14 #[.string s] w fun e w' => e = .returned (.tuple #[zeroAsk, .int .i64 5]) ∧ Below w.heap.size w w' := by
  have hs' : s.size = 30 := by have := hs; simp at this; omega
  have e26 : 26 ≤ s.size := by omega
  have f26 : (26 : Int) ≤ s.size := by omega
  have hm : (s.extract 0 26).size ≤ maxLen := by simp [maxLen]; omega
  have ht : (s.extract 0 26).data.toList = s.data.toList.take 26 := by simp
  have Hs := hide hs'
  clear hs'
  go_enter Tryd.func14, Tryd.ntmps14
  go_wp2
  have hb0 : Below w.heap.size w (w.alloc (.cells #[.int .u8 0, .int .i64 0, .int .i64 0, .int .i64 0, .int .i64 0, .int .i64 0, .int .i64 0, .int .i64 0] 23)) := (Below.refl _ _).alloc (Nat.le_refl _) _
  have p0 : (w.alloc (.cells #[.int .u8 0, .int .i64 0, .int .i64 0, .int .i64 0, .int .i64 0, .int .i64 0, .int .i64 0, .int .i64 0] 23)).cell? ⟨w.heap.size, 0, none⟩ = some (.int .u8 0) := by simp
  have g0 : (w.alloc (.cells #[.int .u8 0, .int .i64 0, .int .i64 0, .int .i64 0, .int .i64 0, .int .i64 0, .int .i64 0, .int .i64 0] 23)).frozen? ⟨w.heap.size, 0, none⟩ = false := by simp
  have p1 : (w.alloc (.cells #[.int .u8 0, .int .i64 0, .int .i64 0, .int .i64 0, .int .i64 0, .int .i64 0, .int .i64 0, .int .i64 0] 23)).cell? ⟨w.heap.size, 1, none⟩ = some (.int .i64 0) := by simp
  have g1 : (w.alloc (.cells #[.int .u8 0, .int .i64 0, .int .i64 0, .int .i64 0, .int .i64 0, .int .i64 0, .int .i64 0, .int .i64 0] 23)).frozen? ⟨w.heap.size, 1, none⟩ = false := by simp
  have p2 : (w.alloc (.cells #[.int .u8 0, .int .i64 0, .int .i64 0, .int .i64 0, .int .i64 0, .int .i64 0, .int .i64 0, .int .i64 0] 23)).cell? ⟨w.heap.size, 2, none⟩ = some (.int .i64 0) := by simp
  have g2 : (w.alloc (.cells #[.int .u8 0, .int .i64 0, .int .i64 0, .int .i64 0, .int .i64 0, .int .i64 0, .int .i64 0, .int .i64 0] 23)).frozen? ⟨w.heap.size, 2, none⟩ = false := by simp
  have p3 : (w.alloc (.cells #[.int .u8 0, .int .i64 0, .int .i64 0, .int .i64 0, .int .i64 0, .int .i64 0, .int .i64 0, .int .i64 0] 23)).cell? ⟨w.heap.size, 3, none⟩ = some (.int .i64 0) := by simp
  have g3 : (w.alloc (.cells #[.int .u8 0, .int .i64 0, .int .i64 0, .int .i64 0, .int .i64 0, .int .i64 0, .int .i64 0, .int .i64 0] 23)).frozen? ⟨w.heap.size, 3, none⟩ = false := by simp
  have p4 : (w.alloc (.cells #[.int .u8 0, .int .i64 0, .int .i64 0, .int .i64 0, .int .i64 0, .int .i64 0, .int .i64 0, .int .i64 0] 23)).cell? ⟨w.heap.size, 4, none⟩ = some (.int .i64 0) := by simp
  have g4 : (w.alloc (.cells #[.int .u8 0, .int .i64 0, .int .i64 0, .int .i64 0, .int .i64 0, .int .i64 0, .int .i64 0, .int .i64 0] 23)).frozen? ⟨w.heap.size, 4, none⟩ = false := by simp
  have p5 : (w.alloc (.cells #[.int .u8 0, .int .i64 0, .int .i64 0, .int .i64 0, .int .i64 0, .int .i64 0, .int .i64 0, .int .i64 0] 23)).cell? ⟨w.heap.size, 5, none⟩ = some (.int .i64 0) := by simp
  have g5 : (w.alloc (.cells #[.int .u8 0, .int .i64 0, .int .i64 0, .int .i64 0, .int .i64 0, .int .i64 0, .int .i64 0, .int .i64 0] 23)).frozen? ⟨w.heap.size, 5, none⟩ = false := by simp
  have p6 : (w.alloc (.cells #[.int .u8 0, .int .i64 0, .int .i64 0, .int .i64 0, .int .i64 0, .int .i64 0, .int .i64 0, .int .i64 0] 23)).cell? ⟨w.heap.size, 6, none⟩ = some (.int .i64 0) := by simp
  have g6 : (w.alloc (.cells #[.int .u8 0, .int .i64 0, .int .i64 0, .int .i64 0, .int .i64 0, .int .i64 0, .int .i64 0, .int .i64 0] 23)).frozen? ⟨w.heap.size, 6, none⟩ = false := by simp
  have p7 : (w.alloc (.cells #[.int .u8 0, .int .i64 0, .int .i64 0, .int .i64 0, .int .i64 0, .int .i64 0, .int .i64 0, .int .i64 0] 23)).cell? ⟨w.heap.size, 7, none⟩ = some (.int .i64 0) := by simp
  have g7 : (w.alloc (.cells #[.int .u8 0, .int .i64 0, .int .i64 0, .int .i64 0, .int .i64 0, .int .i64 0, .int .i64 0, .int .i64 0] 23)).frozen? ⟨w.heap.size, 7, none⟩ = false := by simp
  have hz0 : w.heap.size < (w.alloc (.cells #[.int .u8 0, .int .i64 0, .int .i64 0, .int .i64 0, .int .i64 0, .int .i64 0, .int .i64 0, .int .i64 0] 23)).heap.size := by simp
  generalize w.alloc (.cells #[.int .u8 0, .int .i64 0, .int .i64 0, .int .i64 0, .int .i64 0, .int .i64 0, .int .i64 0, .int .i64 0] 23) = w0 at *
  have hne' : Nonempty (Later w0) := ⟨⟨w0, Below.refl _ _⟩⟩
  refine region_quiet_class (X := Later w0) Later.val (by kernel_rfl) (by kernel_rfl) ⟨_, (Below.refl _ _).drew⟩ rfl ?_
  repeat quiet_step ((first | (go_at_call 16; exact crc_later _ hm _) | (go_at_call 31; exact low_later _ (Wi.sum_lt _) _)))
  refine wpQuiet_nil ?_
  intro x
  have P0 : x.val.cell? ⟨w.heap.size, 0, none⟩ = some (.int .u8 0) := by rw [x.low.cell (p := ⟨w.heap.size, 0, none⟩) hz0]; exact p0
  have G0 : x.val.frozen? ⟨w.heap.size, 0, none⟩ = false := by rw [x.low.frozen (p := ⟨w.heap.size, 0, none⟩) hz0]; exact g0
  have P1 : x.val.cell? ⟨w.heap.size, 1, none⟩ = some (.int .i64 0) := by rw [x.low.cell (p := ⟨w.heap.size, 1, none⟩) hz0]; exact p1
  have G1 : x.val.frozen? ⟨w.heap.size, 1, none⟩ = false := by rw [x.low.frozen (p := ⟨w.heap.size, 1, none⟩) hz0]; exact g1
  have P2 : x.val.cell? ⟨w.heap.size, 2, none⟩ = some (.int .i64 0) := by rw [x.low.cell (p := ⟨w.heap.size, 2, none⟩) hz0]; exact p2
  have G2 : x.val.frozen? ⟨w.heap.size, 2, none⟩ = false := by rw [x.low.frozen (p := ⟨w.heap.size, 2, none⟩) hz0]; exact g2
  have P3 : x.val.cell? ⟨w.heap.size, 3, none⟩ = some (.int .i64 0) := by rw [x.low.cell (p := ⟨w.heap.size, 3, none⟩) hz0]; exact p3
  have G3 : x.val.frozen? ⟨w.heap.size, 3, none⟩ = false := by rw [x.low.frozen (p := ⟨w.heap.size, 3, none⟩) hz0]; exact g3
  have P4 : x.val.cell? ⟨w.heap.size, 4, none⟩ = some (.int .i64 0) := by rw [x.low.cell (p := ⟨w.heap.size, 4, none⟩) hz0]; exact p4
  have G4 : x.val.frozen? ⟨w.heap.size, 4, none⟩ = false := by rw [x.low.frozen (p := ⟨w.heap.size, 4, none⟩) hz0]; exact g4
  have P5 : x.val.cell? ⟨w.heap.size, 5, none⟩ = some (.int .i64 0) := by rw [x.low.cell (p := ⟨w.heap.size, 5, none⟩) hz0]; exact p5
  have G5 : x.val.frozen? ⟨w.heap.size, 5, none⟩ = false := by rw [x.low.frozen (p := ⟨w.heap.size, 5, none⟩) hz0]; exact g5
  have P6 : x.val.cell? ⟨w.heap.size, 6, none⟩ = some (.int .i64 0) := by rw [x.low.cell (p := ⟨w.heap.size, 6, none⟩) hz0]; exact p6
  have G6 : x.val.frozen? ⟨w.heap.size, 6, none⟩ = false := by rw [x.low.frozen (p := ⟨w.heap.size, 6, none⟩) hz0]; exact g6
  have P7 : x.val.cell? ⟨w.heap.size, 7, none⟩ = some (.int .i64 0) := by rw [x.low.cell (p := ⟨w.heap.size, 7, none⟩) hz0]; exact p7
  have G7 : x.val.frozen? ⟨w.heap.size, 7, none⟩ = false := by rw [x.low.frozen (p := ⟨w.heap.size, 7, none⟩) hz0]; exact g7
  have HB1 : Hid (Below w.heap.size w x.val) := hb0.trans (x.low.mono hb0.size)
  have hz1 : w.heap.size < x.val.heap.size := Nat.lt_of_lt_of_le hz0 x.low.size
  clear p0 p1 p2 p3 p4 p5 p6 p7 g0 g1 g2 g3 g4 g5 g6 g7 hb0 hz0
  generalize x.val = w1 at *
  clear x hne' hm
  go_wp2
  refine bodyPost_ret (v := .tuple #[zeroAsk, .int .i64 5]) (by simp [results, Tryd.results14, go_sem, zeroAsk, P0, P1, P2, P3, P4, P5, P6, P7]) rfl ⟨rfl, ?_⟩
  iterate 8 refine Below.setCell (p := ⟨w.heap.size, _, none⟩) ?_ (Nat.le_refl w.heap.size) _
  exact HB1.out

set_option maxHeartbeats 1000000 in
theorem askOf_shape1 (s : ByteArray) (w : World) (hs : ((s.size : Int) != 30) = false) (hne : ((strOfNums (Wi.low (Wi.sum (s.data.toList.take 26)))).toList == (s.extract 26 s.size).toList) = true) (h1 : 0 < numHigh (s.extract 20 23).data.toList) :
    Calls Tryd.prog 14 #[.string s] w fun e w' => e = .returned (.tuple #[zeroAsk, .int .i64 3]) ∧ Below w.heap.size w w' := by
  have H1 := hide h1
  clear h1
  have hs' : s.size = 30 := by have := hs; simp at this; omega
  have e20 : 20 ≤ s.size := by omega
  have f20 : (20 : Int) ≤ s.size := by omega
  have e23 : 23 ≤ s.size := by omega
  have f23 : (23 : Int) ≤ s.size := by omega
  have e26 : 26 ≤ s.size := by omega
  have f26 : (26 : Int) ≤ s.size := by omega
  have hm : (s.extract 0 26).size ≤ maxLen := by simp [maxLen]; omega
  have ht : (s.extract 0 26).data.toList = s.data.toList.take 26 := by simp
  have Hs := hide hs'
  clear hs'
  go_enter Tryd.func14, Tryd.ntmps14
  go_wp2
  have hb0 : Below w.heap.size w (w.alloc (.cells #[.int .u8 0, .int .i64 0, .int .i64 0, .int .i64 0, .int .i64 0, .int .i64 0, .int .i64 0, .int .i64 0] 23)) := (Below.refl _ _).alloc (Nat.le_refl _) _
  have p0 : (w.alloc (.cells #[.int .u8 0, .int .i64 0, .int .i64 0, .int .i64 0, .int .i64 0, .int .i64 0, .int .i64 0, .int .i64 0] 23)).cell? ⟨w.heap.size, 0, none⟩ = some (.int .u8 0) := by simp
  have g0 : (w.alloc (.cells #[.int .u8 0, .int .i64 0, .int .i64 0, .int .i64 0, .int .i64 0, .int .i64 0, .int .i64 0, .int .i64 0] 23)).frozen? ⟨w.heap.size, 0, none⟩ = false := by simp
  have p1 : (w.alloc (.cells #[.int .u8 0, .int .i64 0, .int .i64 0, .int .i64 0, .int .i64 0, .int .i64 0, .int .i64 0, .int .i64 0] 23)).cell? ⟨w.heap.size, 1, none⟩ = some (.int .i64 0) := by simp
  have g1 : (w.alloc (.cells #[.int .u8 0, .int .i64 0, .int .i64 0, .int .i64 0, .int .i64 0, .int .i64 0, .int .i64 0, .int .i64 0] 23)).frozen? ⟨w.heap.size, 1, none⟩ = false := by simp
  have p2 : (w.alloc (.cells #[.int .u8 0, .int .i64 0, .int .i64 0, .int .i64 0, .int .i64 0, .int .i64 0, .int .i64 0, .int .i64 0] 23)).cell? ⟨w.heap.size, 2, none⟩ = some (.int .i64 0) := by simp
  have g2 : (w.alloc (.cells #[.int .u8 0, .int .i64 0, .int .i64 0, .int .i64 0, .int .i64 0, .int .i64 0, .int .i64 0, .int .i64 0] 23)).frozen? ⟨w.heap.size, 2, none⟩ = false := by simp
  have p3 : (w.alloc (.cells #[.int .u8 0, .int .i64 0, .int .i64 0, .int .i64 0, .int .i64 0, .int .i64 0, .int .i64 0, .int .i64 0] 23)).cell? ⟨w.heap.size, 3, none⟩ = some (.int .i64 0) := by simp
  have g3 : (w.alloc (.cells #[.int .u8 0, .int .i64 0, .int .i64 0, .int .i64 0, .int .i64 0, .int .i64 0, .int .i64 0, .int .i64 0] 23)).frozen? ⟨w.heap.size, 3, none⟩ = false := by simp
  have p4 : (w.alloc (.cells #[.int .u8 0, .int .i64 0, .int .i64 0, .int .i64 0, .int .i64 0, .int .i64 0, .int .i64 0, .int .i64 0] 23)).cell? ⟨w.heap.size, 4, none⟩ = some (.int .i64 0) := by simp
  have g4 : (w.alloc (.cells #[.int .u8 0, .int .i64 0, .int .i64 0, .int .i64 0, .int .i64 0, .int .i64 0, .int .i64 0, .int .i64 0] 23)).frozen? ⟨w.heap.size, 4, none⟩ = false := by simp
  have p5 : (w.alloc (.cells #[.int .u8 0, .int .i64 0, .int .i64 0, .int .i64 0, .int .i64 0, .int .i64 0, .int .i64 0, .int .i64 0] 23)).cell? ⟨w.heap.size, 5, none⟩ = some (.int .i64 0) := by simp
  have g5 : (w.alloc (.cells #[.int .u8 0, .int .i64 0, .int .i64 0, .int .i64 0, .int .i64 0, .int .i64 0, .int .i64 0, .int .i64 0] 23)).frozen? ⟨w.heap.size, 5, none⟩ = false := by simp
  have p6 : (w.alloc (.cells #[.int .u8 0, .int .i64 0, .int .i64 0, .int .i64 0, .int .i64 0, .int .i64 0, .int .i64 0, .int .i64 0] 23)).cell? ⟨w.heap.size, 6, none⟩ = some (.int .i64 0) := by simp
  have g6 : (w.alloc (.cells #[.int .u8 0, .int .i64 0, .int .i64 0, .int .i64 0, .int .i64 0, .int .i64 0, .int .i64 0, .int .i64 0] 23)).frozen? ⟨w.heap.size, 6, none⟩ = false := by simp
  have p7 : (w.alloc (.cells #[.int .u8 0, .int .i64 0, .int .i64 0, .int .i64 0, .int .i64 0, .int .i64 0, .int .i64 0, .int .i64 0] 23)).cell? ⟨w.heap.size, 7, none⟩ = some (.int .i64 0) := by simp
  have g7 : (w.alloc (.cells #[.int .u8 0, .int .i64 0, .int .i64 0, .int .i64 0, .int .i64 0, .int .i64 0, .int .i64 0, .int .i64 0] 23)).frozen? ⟨w.heap.size, 7, none⟩ = false := by simp
  have hz0 : w.heap.size < (w.alloc (.cells #[.int .u8 0, .int .i64 0, .int .i64 0, .int .i64 0, .int .i64 0, .int .i64 0, .int .i64 0, .int .i64 0] 23)).heap.size := by simp
  generalize w.alloc (.cells #[.int .u8 0, .int .i64 0, .int .i64 0, .int .i64 0, .int .i64 0, .int .i64 0, .int .i64 0, .int .i64 0] 23) = w0 at *
  have hne' : Nonempty (Later w0) := ⟨⟨w0, Below.refl _ _⟩⟩
  refine region_quiet_class (X := Later w0) Later.val (by kernel_rfl) (by kernel_rfl) ⟨_, (Below.refl _ _).drew⟩ rfl ?_
  repeat quiet_step ((first | (go_at_call 16; exact crc_later _ hm _) | (go_at_call 31; exact low_later _ (Wi.sum_lt _) _)))
  refine wpQuiet_nil ?_
  intro x
  have P0 : x.val.cell? ⟨w.heap.size, 0, none⟩ = some (.int .u8 0) := by rw [x.low.cell (p := ⟨w.heap.size, 0, none⟩) hz0]; exact p0
  have G0 : x.val.frozen? ⟨w.heap.size, 0, none⟩ = false := by rw [x.low.frozen (p := ⟨w.heap.size, 0, none⟩) hz0]; exact g0
  have P1 : x.val.cell? ⟨w.heap.size, 1, none⟩ = some (.int .i64 0) := by rw [x.low.cell (p := ⟨w.heap.size, 1, none⟩) hz0]; exact p1
  have G1 : x.val.frozen? ⟨w.heap.size, 1, none⟩ = false := by rw [x.low.frozen (p := ⟨w.heap.size, 1, none⟩) hz0]; exact g1
  have P2 : x.val.cell? ⟨w.heap.size, 2, none⟩ = some (.int .i64 0) := by rw [x.low.cell (p := ⟨w.heap.size, 2, none⟩) hz0]; exact p2
  have G2 : x.val.frozen? ⟨w.heap.size, 2, none⟩ = false := by rw [x.low.frozen (p := ⟨w.heap.size, 2, none⟩) hz0]; exact g2
  have P3 : x.val.cell? ⟨w.heap.size, 3, none⟩ = some (.int .i64 0) := by rw [x.low.cell (p := ⟨w.heap.size, 3, none⟩) hz0]; exact p3
  have G3 : x.val.frozen? ⟨w.heap.size, 3, none⟩ = false := by rw [x.low.frozen (p := ⟨w.heap.size, 3, none⟩) hz0]; exact g3
  have P4 : x.val.cell? ⟨w.heap.size, 4, none⟩ = some (.int .i64 0) := by rw [x.low.cell (p := ⟨w.heap.size, 4, none⟩) hz0]; exact p4
  have G4 : x.val.frozen? ⟨w.heap.size, 4, none⟩ = false := by rw [x.low.frozen (p := ⟨w.heap.size, 4, none⟩) hz0]; exact g4
  have P5 : x.val.cell? ⟨w.heap.size, 5, none⟩ = some (.int .i64 0) := by rw [x.low.cell (p := ⟨w.heap.size, 5, none⟩) hz0]; exact p5
  have G5 : x.val.frozen? ⟨w.heap.size, 5, none⟩ = false := by rw [x.low.frozen (p := ⟨w.heap.size, 5, none⟩) hz0]; exact g5
  have P6 : x.val.cell? ⟨w.heap.size, 6, none⟩ = some (.int .i64 0) := by rw [x.low.cell (p := ⟨w.heap.size, 6, none⟩) hz0]; exact p6
  have G6 : x.val.frozen? ⟨w.heap.size, 6, none⟩ = false := by rw [x.low.frozen (p := ⟨w.heap.size, 6, none⟩) hz0]; exact g6
  have P7 : x.val.cell? ⟨w.heap.size, 7, none⟩ = some (.int .i64 0) := by rw [x.low.cell (p := ⟨w.heap.size, 7, none⟩) hz0]; exact p7
  have G7 : x.val.frozen? ⟨w.heap.size, 7, none⟩ = false := by rw [x.low.frozen (p := ⟨w.heap.size, 7, none⟩) hz0]; exact g7
  have HB1 : Hid (Below w.heap.size w x.val) := hb0.trans (x.low.mono hb0.size)
  have hz1 : w.heap.size < x.val.heap.size := Nat.lt_of_lt_of_le hz0 x.low.size
  clear p0 p1 p2 p3 p4 p5 p6 p7 g0 g1 g2 g3 g4 g5 g6 g7 hb0 hz0
  generalize x.val = w1 at *
  clear x hne' hm
  go_wp2_with fail
  refine (number_any _ _ (by simp; omega)).mono ?_
  rintro e w2 ⟨rfl, rfl⟩
  have t2 := H1.out
  generalize numHigh (s.extract 20 23).data.toList = b at t2 ⊢
  have t3 : (0 : Int) < b := by omega
  go_wp2
  refine bodyPost_ret (v := .tuple #[zeroAsk, .int .i64 3]) (by simp [results, Tryd.results14, go_sem, zeroAsk, P0, P1, P2, P3, P4, P5, P6, P7]) rfl ⟨rfl, ?_⟩
  iterate 8 refine Below.setCell (p := ⟨w.heap.size, _, none⟩) ?_ (Nat.le_refl w.heap.size) _
  exact HB1.out

set_option maxHeartbeats 1000000 in
theorem askOf_shape2 (s : ByteArray) (w : World) (hs : ((s.size : Int) != 30) = false) (hne : ((strOfNums (Wi.low (Wi.sum (s.data.toList.take 26)))).toList == (s.extract 26 s.size).toList) = true) (h1 : numHigh (s.extract 20 23).data.toList = 0) (h2 : 0 < numHigh (s.extract 23 26).data.toList) :
    Calls Tryd.prog 14 #[.string s] w fun e w' => e = .returned (.tuple #[zeroAsk, .int .i64 3]) ∧ Below w.heap.size w w' := by
  have H1 := hide h1; have H2 := hide h2
  clear h1 h2
  have hs' : s.size = 30 := by have := hs; simp at this; omega
  have e20 : 20 ≤ s.size := by omega
  have f20 : (20 : Int) ≤ s.size := by omega
  have e23 : 23 ≤ s.size := by omega
  have f23 : (23 : Int) ≤ s.size := by omega
  have e26 : 26 ≤ s.size := by omega
  have f26 : (26 : Int) ≤ s.size := by omega
  have hm : (s.extract 0 26).size ≤ maxLen := by simp [maxLen]; omega
  have ht : (s.extract 0 26).data.toList = s.data.toList.take 26 := by simp
  have Hs := hide hs'
  clear hs'
  go_enter Tryd.func14, Tryd.ntmps14
  go_wp2
  have hb0 : Below w.heap.size w (w.alloc (.cells #[.int .u8 0, .int .i64 0, .int .i64 0, .int .i64 0, .int .i64 0, .int .i64 0, .int .i64 0, .int .i64 0] 23)) := (Below.refl _ _).alloc (Nat.le_refl _) _
  have p0 : (w.alloc (.cells #[.int .u8 0, .int .i64 0, .int .i64 0, .int .i64 0, .int .i64 0, .int .i64 0, .int .i64 0, .int .i64 0] 23)).cell? ⟨w.heap.size, 0, none⟩ = some (.int .u8 0) := by simp
  have g0 : (w.alloc (.cells #[.int .u8 0, .int .i64 0, .int .i64 0, .int .i64 0, .int .i64 0, .int .i64 0, .int .i64 0, .int .i64 0] 23)).frozen? ⟨w.heap.size, 0, none⟩ = false := by simp
  have p1 : (w.alloc (.cells #[.int .u8 0, .int .i64 0, .int .i64 0, .int .i64 0, .int .i64 0, .int .i64 0, .int .i64 0, .int .i64 0] 23)).cell? ⟨w.heap.size, 1, none⟩ = some (.int .i64 0) := by simp
  have g1 : (w.alloc (.cells #[.int .u8 0, .int .i64 0, .int .i64 0, .int .i64 0, .int .i64 0, .int .i64 0, .int .i64 0, .int .i64 0] 23)).frozen? ⟨w.heap.size, 1, none⟩ = false := by simp
  have p2 : (w.alloc (.cells #[.int .u8 0, .int .i64 0, .int .i64 0, .int .i64 0, .int .i64 0, .int .i64 0, .int .i64 0, .int .i64 0] 23)).cell? ⟨w.heap.size, 2, none⟩ = some (.int .i64 0) := by simp
  have g2 : (w.alloc (.cells #[.int .u8 0, .int .i64 0, .int .i64 0, .int .i64 0, .int .i64 0, .int .i64 0, .int .i64 0, .int .i64 0] 23)).frozen? ⟨w.heap.size, 2, none⟩ = false := by simp
  have p3 : (w.alloc (.cells #[.int .u8 0, .int .i64 0, .int .i64 0, .int .i64 0, .int .i64 0, .int .i64 0, .int .i64 0, .int .i64 0] 23)).cell? ⟨w.heap.size, 3, none⟩ = some (.int .i64 0) := by simp
  have g3 : (w.alloc (.cells #[.int .u8 0, .int .i64 0, .int .i64 0, .int .i64 0, .int .i64 0, .int .i64 0, .int .i64 0, .int .i64 0] 23)).frozen? ⟨w.heap.size, 3, none⟩ = false := by simp
  have p4 : (w.alloc (.cells #[.int .u8 0, .int .i64 0, .int .i64 0, .int .i64 0, .int .i64 0, .int .i64 0, .int .i64 0, .int .i64 0] 23)).cell? ⟨w.heap.size, 4, none⟩ = some (.int .i64 0) := by simp
  have g4 : (w.alloc (.cells #[.int .u8 0, .int .i64 0, .int .i64 0, .int .i64 0, .int .i64 0, .int .i64 0, .int .i64 0, .int .i64 0] 23)).frozen? ⟨w.heap.size, 4, none⟩ = false := by simp
  have p5 : (w.alloc (.cells #[.int .u8 0, .int .i64 0, .int .i64 0, .int .i64 0, .int .i64 0, .int .i64 0, .int .i64 0, .int .i64 0] 23)).cell? ⟨w.heap.size, 5, none⟩ = some (.int .i64 0) := by simp
  have g5 : (w.alloc (.cells #[.int .u8 0, .int .i64 0, .int .i64 0, .int .i64 0, .int .i64 0, .int .i64 0, .int .i64 0, .int .i64 0] 23)).frozen? ⟨w.heap.size, 5, none⟩ = false := by simp
  have p6 : (w.alloc (.cells #[.int .u8 0, .int .i64 0, .int .i64 0, .int .i64 0, .int .i64 0, .int .i64 0, .int .i64 0, .int .i64 0] 23)).cell? ⟨w.heap.size, 6, none⟩ = some (.int .i64 0) := by simp
  have g6 : (w.alloc (.cells #[.int .u8 0, .int .i64 0, .int .i64 0, .int .i64 0, .int .i64 0, .int .i64 0, .int .i64 0, .int .i64 0] 23)).frozen? ⟨w.heap.size, 6, none⟩ = false := by simp
  have p7 : (w.alloc (.cells #[.int .u8 0, .int .i64 0, .int .i64 0, .int .i64 0, .int .i64 0, .int .i64 0, .int .i64 0, .int .i64 0] 23)).cell? ⟨w.heap.size, 7, none⟩ = some (.int .i64 0) := by simp
  have g7 : (w.alloc (.cells #[.int .u8 0, .int .i64 0, .int .i64 0, .int .i64 0, .int .i64 0, .int .i64 0, .int .i64 0, .int .i64 0] 23)).frozen? ⟨w.heap.size, 7, none⟩ = false := by simp
  have hz0 : w.heap.size < (w.alloc (.cells #[.int .u8 0, .int .i64 0, .int .i64 0, .int .i64 0, .int .i64 0, .int .i64 0, .int .i64 0, .int .i64 0] 23)).heap.size := by simp
  generalize w.alloc (.cells #[.int .u8 0, .int .i64 0, .int .i64 0, .int .i64 0, .int .i64 0, .int .i64 0, .int .i64 0, .int .i64 0] 23) = w0 at *
  have hne' : Nonempty (Later w0) := ⟨⟨w0, Below.refl _ _⟩⟩
  refine region_quiet_class (X := Later w0) Later.val (by kernel_rfl) (by kernel_rfl) ⟨_, (Below.refl _ _).drew⟩ rfl ?_
  repeat quiet_step ((first | (go_at_call 16; exact crc_later _ hm _) | (go_at_call 31; exact low_later _ (Wi.sum_lt _) _)))
  refine wpQuiet_nil ?_
  intro x
  have P0 : x.val.cell? ⟨w.heap.size, 0, none⟩ = some (.int .u8 0) := by rw [x.low.cell (p := ⟨w.heap.size, 0, none⟩) hz0]; exact p0
  have G0 : x.val.frozen? ⟨w.heap.size, 0, none⟩ = false := by rw [x.low.frozen (p := ⟨w.heap.size, 0, none⟩) hz0]; exact g0
  have P1 : x.val.cell? ⟨w.heap.size, 1, none⟩ = some (.int .i64 0) := by rw [x.low.cell (p := ⟨w.heap.size, 1, none⟩) hz0]; exact p1
  have G1 : x.val.frozen? ⟨w.heap.size, 1, none⟩ = false := by rw [x.low.frozen (p := ⟨w.heap.size, 1, none⟩) hz0]; exact g1
  have P2 : x.val.cell? ⟨w.heap.size, 2, none⟩ = some (.int .i64 0) := by rw [x.low.cell (p := ⟨w.heap.size, 2, none⟩) hz0]; exact p2
  have G2 : x.val.frozen? ⟨w.heap.size, 2, none⟩ = false := by rw [x.low.frozen (p := ⟨w.heap.size, 2, none⟩) hz0]; exact g2
  have P3 : x.val.cell? ⟨w.heap.size, 3, none⟩ = some (.int .i64 0) := by rw [x.low.cell (p := ⟨w.heap.size, 3, none⟩) hz0]; exact p3
  have G3 : x.val.frozen? ⟨w.heap.size, 3, none⟩ = false := by rw [x.low.frozen (p := ⟨w.heap.size, 3, none⟩) hz0]; exact g3
  have P4 : x.val.cell? ⟨w.heap.size, 4, none⟩ = some (.int .i64 0) := by rw [x.low.cell (p := ⟨w.heap.size, 4, none⟩) hz0]; exact p4
  have G4 : x.val.frozen? ⟨w.heap.size, 4, none⟩ = false := by rw [x.low.frozen (p := ⟨w.heap.size, 4, none⟩) hz0]; exact g4
  have P5 : x.val.cell? ⟨w.heap.size, 5, none⟩ = some (.int .i64 0) := by rw [x.low.cell (p := ⟨w.heap.size, 5, none⟩) hz0]; exact p5
  have G5 : x.val.frozen? ⟨w.heap.size, 5, none⟩ = false := by rw [x.low.frozen (p := ⟨w.heap.size, 5, none⟩) hz0]; exact g5
  have P6 : x.val.cell? ⟨w.heap.size, 6, none⟩ = some (.int .i64 0) := by rw [x.low.cell (p := ⟨w.heap.size, 6, none⟩) hz0]; exact p6
  have G6 : x.val.frozen? ⟨w.heap.size, 6, none⟩ = false := by rw [x.low.frozen (p := ⟨w.heap.size, 6, none⟩) hz0]; exact g6
  have P7 : x.val.cell? ⟨w.heap.size, 7, none⟩ = some (.int .i64 0) := by rw [x.low.cell (p := ⟨w.heap.size, 7, none⟩) hz0]; exact p7
  have G7 : x.val.frozen? ⟨w.heap.size, 7, none⟩ = false := by rw [x.low.frozen (p := ⟨w.heap.size, 7, none⟩) hz0]; exact g7
  have HB1 : Hid (Below w.heap.size w x.val) := hb0.trans (x.low.mono hb0.size)
  have hz1 : w.heap.size < x.val.heap.size := Nat.lt_of_lt_of_le hz0 x.low.size
  clear p0 p1 p2 p3 p4 p5 p6 p7 g0 g1 g2 g3 g4 g5 g6 g7 hb0 hz0
  generalize x.val = w1 at *
  clear x hne' hm
  go_wp2_with fail
  refine (number_any _ _ (by simp; omega)).mono ?_
  rintro e w2 ⟨rfl, rfl⟩
  rw [H1.out]
  go_wp2_with fail
  refine (number_any _ _ (by simp; omega)).mono ?_
  rintro e w2 ⟨rfl, rfl⟩
  have t2 := H2.out
  generalize numHigh (s.extract 23 26).data.toList = b at t2 ⊢
  have t3 : (0 : Int) < b := by omega
  go_wp2
  refine bodyPost_ret (v := .tuple #[zeroAsk, .int .i64 3]) (by simp [results, Tryd.results14, go_sem, zeroAsk, P0, P1, P2, P3, P4, P5, P6, P7]) rfl ⟨rfl, ?_⟩
  iterate 8 refine Below.setCell (p := ⟨w.heap.size, _, none⟩) ?_ (Nat.le_refl w.heap.size) _
  exact HB1.out

end Go.Proofs.YtibdemdhbpkeeaaDoor
