/- take: what a frame is, as a Reader tells it. -/
import Derived.Test.YtibdemdhbpkeeaaDoorDecode
import Derived.Test.YtibdemdhbpkeeaaDoorClone
namespace Go.Proofs.YtibdemdhbpkeeaaDoor
open Go.RowKit
set_option maxRecDepth 100000

theorem code_errV (n : Nat) (hn : n ≤ 12) (ad : Nat → Addr) (w : World) (hs : Sent w ad) :
    Calls Tryd.prog 23 #[errV ad n] w fun e w' => e = .returned (.tuple #[.int .i64 n, .int .i64 (-1)]) ∧ Below w.heap.size w w' := by
  by_cases h : n = 0
  · subst h
    exact (code_nil w).mono fun e w' ⟨h1, h2⟩ => ⟨h1, by rw [h2]; exact Below.refl _ _⟩
  · rw [errV_pos ad h]
    have := code_sent (n - 1) (by omega) ad w hs
    rw [show ((n - 1 : Nat) : Int) + 1 = (n : Int) by omega] at this
    exact this

/-- the fields of what is decoded, as numbers -/
def df (s : ByteArray) (x : Nat) : Nat := if decCode s = 0 then x else 0
def gotCells (s : ByteArray) : List Value := [.int .u8 (df s (bAt s 0)), .int .i64 (df s (bAt s 1)), .int .i64 (df s (highAt s 2)), .int .i64 (df s (bAt s 6)), .int .i64 (df s (bAt s 7)), .int .i64 (df s (highAt s 8)), .int .i64 (df s (highAt s 12)), .int .i64 (df s (highAt s 16)), .int .i64 (decCode s)]
theorem decAsk_eq (s : ByteArray) : decAsk s = .agg #[.int .u8 (df s (bAt s 0)), .int .i64 (df s (bAt s 1)), .int .i64 (df s (highAt s 2)), .int .i64 (df s (bAt s 6)), .int .i64 (df s (bAt s 7)), .int .i64 (df s (highAt s 8)), .int .i64 (df s (highAt s 12)), .int .i64 (df s (highAt s 16))] := by
  unfold decAsk df
  split <;> rfl

set_option maxHeartbeats 1000000 in
theorem take_any (s : ByteArray) (ad : Nat → Addr) (w : World) (hs : Hid (Sent w ad)) :
    Calls Tryd.prog 33 #[.string s] w fun e w' => e = .returned (.agg (gotCells s).toArray) ∧ Below w.heap.size w w' := by
  go_enter Tryd.func33, Tryd.ntmps33
  go_wp2_with fail
  refine (decode_any s ad _ (hs.out.later ((Below.refl _ _).alloc (Nat.le_refl _) _))).mono ?_
  rintro e w1 ⟨rfl, hb1⟩
  rw [decAsk_eq]
  have HB1 : Hid (Below w.heap.size w w1) := ((Below.refl _ _).alloc (Nat.le_refl _) _).trans (hb1.mono (by simp))
  have HR1 : Hid (w1.heap[w.heap.size]? = some (.cells #[.int .u8 0, .int .i64 0, .int .i64 0, .int .i64 0, .int .i64 0, .int .i64 0, .int .i64 0, .int .i64 0, .int .i64 0] 53 (0, 0))) := by rw [Hid, hb1.block w.heap.size (by simp)]; exact heap_alloc_new w _
  have hz1 : w.heap.size < w1.heap.size := by have := hb1.size; simp at this; omega
  have hle := decCode_le s
  have HG : Hid (gotCells s = [.int .u8 (df s (bAt s 0)), .int .i64 (df s (bAt s 1)), .int .i64 (df s (highAt s 2)), .int .i64 (df s (bAt s 6)), .int .i64 (df s (bAt s 7)), .int .i64 (df s (highAt s 8)), .int .i64 (df s (highAt s 12)), .int .i64 (df s (highAt s 16)), .int .i64 (decCode s)]) := rfl
  generalize decCode s = dc at *
  generalize df s (bAt s 0) = x0 at *
  generalize df s (bAt s 1) = x1 at *
  generalize df s (highAt s 2) = x2 at *
  generalize df s (bAt s 6) = x3 at *
  generalize df s (bAt s 7) = x4 at *
  generalize df s (highAt s 8) = x5 at *
  generalize df s (highAt s 12) = x6 at *
  generalize df s (highAt s 16) = x7 at *
  clear hb1
  simp only []
  go_wp2_with fail
  have HB1a : Hid (Below w.heap.size w (w1.alloc (.cells #[.int .u8 x0, .int .i64 x1, .int .i64 x2, .int .i64 x3, .int .i64 x4, .int .i64 x5, .int .i64 x6, .int .i64 x7] 23))) := HB1.out.alloc HB1.out.size _
  refine (code_errV dc (by omega) ad _ (hs.out.later HB1a.out)).mono ?_
  rintro e w2 ⟨rfl, hb2⟩
  have HB2 : Hid (Below w.heap.size w w2) := HB1a.out.trans (hb2.mono HB1a.out.size)
  have hz2 : w1.heap.size < w2.heap.size := by have := hb2.size; simp at this; omega
  have ha2 : w2.heap[w1.heap.size]? = some (.cells #[.int .u8 x0, .int .i64 x1, .int .i64 x2, .int .i64 x3, .int .i64 x4, .int .i64 x5, .int .i64 x6, .int .i64 x7] 23 (0, 0)) := by rw [hb2.block w1.heap.size (by simp)]; exact heap_alloc_new w1 _
  have hr2 : w2.heap[w.heap.size]? = some (.cells #[.int .u8 0, .int .i64 0, .int .i64 0, .int .i64 0, .int .i64 0, .int .i64 0, .int .i64 0, .int .i64 0, .int .i64 0] 53 (0, 0)) := by
    rw [hb2.block w.heap.size (by simp; omega), heap_alloc_old w1 _ hz1]; exact HR1.out
  have A : ∀ j, w2.cell? ⟨w1.heap.size, j, none⟩ = (#[.int .u8 x0, .int .i64 x1, .int .i64 x2, .int .i64 x3, .int .i64 x4, .int .i64 x5, .int .i64 x6, .int .i64 x7] : Array Value)[j]? := fun j => cell_of_row w2 _ j _ 23 _ ha2
  have R : ∀ j, w2.cell? ⟨w.heap.size, j, none⟩ = (#[.int .u8 0, .int .i64 0, .int .i64 0, .int .i64 0, .int .i64 0, .int .i64 0, .int .i64 0, .int .i64 0, .int .i64 0] : Array Value)[j]? := fun j => cell_of_row w2 _ j _ 53 _ hr2
  have Z : ∀ j, w2.frozen? ⟨w.heap.size, j, none⟩ = false := fun j => frozen_of_row w2 _ j _ 53 hr2
  clear hb2 ha2 hr2
  simp only []
  go_wp2
  refine bodyPost_ret (v := .agg #[.int .u8 x0, .int .i64 x1, .int .i64 x2, .int .i64 x3, .int .i64 x4, .int .i64 x5, .int .i64 x6, .int .i64 x7, .int .i64 dc]) (by simp [results, Tryd.results33, go_sem, R]) rfl ⟨by rw [HG.out], ?_⟩
  iterate 9 refine Below.setCell (p := ⟨w.heap.size, _, none⟩) ?_ (Nat.le_refl w.heap.size) _
  exact HB2.out

theorem gotCells_length (s : ByteArray) : (gotCells s).length = 9 := rfl
theorem gotCells_one (s : ByteArray) : ∀ u ∈ gotCells s, u.oneCell' = true := by
  intro u hu
  simp only [gotCells, List.mem_cons, List.not_mem_nil, or_false] at hu
  rcases hu with rfl | rfl | rfl | rfl | rfl | rfl | rfl | rfl | rfl <;> rfl

/-- the i-th frame of a text; the cells of its first n frames, one behind the other -/
def fr (s : ByteArray) (i : Nat) : ByteArray := s.extract (30 * i) (30 * i + 30)
def gots (s : ByteArray) : Nat → List Value
  | 0 => []
  | n + 1 => gots s n ++ gotCells (fr s n)
theorem gots_length (s : ByteArray) : ∀ n, (gots s n).length = n * 9
  | 0 => rfl
  | n + 1 => by rw [gots, List.length_append, gots_length s n, gotCells_length]; omega
theorem gots_one (s : ByteArray) : ∀ n, ∀ u ∈ gots s n, u.oneCell' = true
  | 0, u, hu => by cases hu
  | n + 1, u, hu => by
    rcases List.mem_append.1 hu with h | h
    · exact gots_one s n u h
    · exact gotCells_one _ u h
theorem gots_at (s : ByteArray) : ∀ (n i j : Nat), i < n → j < 9 → (gots s n)[9 * i + j]? = (gotCells (fr s i))[j]?
  | n + 1, i, j, hi, hj => by
    rw [gots]
    by_cases h : i < n
    · rw [List.getElem?_append_left (by rw [gots_length]; omega)]
      exact gots_at s n i j h hj
    · obtain rfl : i = n := by omega
      rw [List.getElem?_append_right (by rw [gots_length]; omega), gots_length]
      congr 1
      omega
/-- frames of a piece of a text are frames of the text -/
theorem fr_piece (s : ByteArray) (m e i : Nat) (h : 30 * m + (30 * i + 30) ≤ e) : fr (s.extract (30 * m) e) i = fr s (m + i) := by
  unfold fr
  rw [ByteArray.extract_extract]
  congr 1 <;> omega
theorem gots_piece (s : ByteArray) (m e : Nat) : ∀ n, 30 * (m + n) ≤ e → gots s (m + n) = gots s m ++ gots (s.extract (30 * m) e) n
  | 0, _ => by simp [gots]
  | n + 1, h => by
    rw [← Nat.add_assoc, gots, gots, gots_piece s m e n (by omega), List.append_assoc, fr_piece s m e n (by omega)]
end Go.Proofs.YtibdemdhbpkeeaaDoor
