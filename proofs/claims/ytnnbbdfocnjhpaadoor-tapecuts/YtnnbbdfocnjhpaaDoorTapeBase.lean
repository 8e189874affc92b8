/- The memory of a disk and of a list of texts, and what keeps them. -/
import Derived.Test.YtnnbbdfocnjhpaaDoorMark
import Derived.Test.YtnnbbdfocnjhpaaDoorTapeFacts
import Derived.Maps.AppendAt
namespace Go.Proofs.YtnnbbdfocnjhpaaDoor
open Go.RowKit
set_option maxRecDepth 100000

/-- bytes as numbers, and as a text -/
def ints (l : List UInt8) : List Int := l.map fun b => (b.toNat : Int)
def ba (l : List UInt8) : ByteArray := ⟨l.toArray⟩
theorem ints_length (l : List UInt8) : (ints l).length = l.length := by simp [ints]
theorem ints_append (a b : List UInt8) : ints (a ++ b) = ints a ++ ints b := by simp [ints]
theorem ints_take (l : List UInt8) (n : Nat) : ints (l.take n) = (ints l).take n := by simp [ints]
theorem strOfNums_ints (l : List UInt8) : strOfNums (ints l) = ba l := by
  apply ByteArray.ext
  simp only [strOfNums, ints, ba, List.map_map]
  congr 1
  conv => rhs; rw [← List.map_id l]
  exact List.map_congr_left fun b _ => by simp
theorem strCells_ints (s : ByteArray) : Lib.strCells s = (ints s.data.toList).map (Value.int .u8) := by simp [Lib.strCells, ints]
theorem ba_list (l : List UInt8) : (ba l).data.toList = l := by simp [ba]
theorem ba_size (l : List UInt8) : (ba l).size = l.length := by simp [ba, ByteArray.size]
theorem ba_of (s : ByteArray) : ba s.data.toList = s := rfl
theorem size_list (s : ByteArray) : s.data.toList.length = s.size := by rw [Array.length_toList]; rfl
theorem ints_four (n : Nat) : ints (Tp.four n) = [(n : Int) / 16777216 % 256, (n : Int) / 65536 % 256, (n : Int) / 256 % 256, (n : Int) % 256] := by
  simp [ints, Tp.four]
theorem ints_low (n : Nat) : ints (Tp.low n) = [(n : Int) % 256, (n : Int) / 256 % 256, (n : Int) / 65536 % 256, (n : Int) / 16777216 % 256] := by
  simp [ints, Tp.low]

/-- a list of texts of the call's own -/
def Strs (w : World) (base : Nat) (v : Value) (ts : List (List UInt8)) : Prop := w.ownsRow base 9 1 v ts.length (ts.map fun t => Value.string (ba t))
/-- a disk at block p -/
def Disk (w : World) (base p : Nat) (l : List UInt8) (cut : Bool) (left : Int) : Prop :=
  base ≤ p ∧ ∃ v, w.heap[p]? = some (.cells #[v, .bool cut, .int .i64 left] 104 (0, 0)) ∧ RowM w base v (ints l)
/-- lists of texts that were there are as they were -/
structure Keeps (w w' : World) : Prop where
  size : w.heap.size ≤ w'.heap.size
  block : ∀ (k : Nat) (c : Array Value) (f : Nat × Nat), w.heap[k]? = some (.cells c 9 f) → w'.heap[k]? = some (.cells c 9 f)
theorem Keeps.refl (w : World) : Keeps w w := ⟨Nat.le_refl _, fun _ _ _ h => h⟩
theorem Keeps.trans {a b c : World} (h1 : Keeps a b) (h2 : Keeps b c) : Keeps a c := ⟨Nat.le_trans h1.size h2.size, fun k c f h => h2.block k c f (h1.block k c f h)⟩
theorem Keeps.below {w w' : World} (h : Below w.heap.size w w') : Keeps w w' :=
  ⟨h.size, fun k c f e => by rw [h.block k (Array.getElem?_eq_some_iff.1 e).1]; exact e⟩
theorem Keeps.grown {w w' : World} {base : Nat} {v : Value} {xs : List Int} (hr : RowM w base v xs) (hg : w.grownBy w' v.ownBlock) : Keeps w w' := by
  refine ⟨hg.size, fun k c f e => ?_⟩
  rw [hg.block k (Array.getElem?_eq_some_iff.1 e).1 ?_]
  · exact e
  · intro hk
    obtain ⟨g, cap, cur, fz, rfl, _, hgg, _⟩ := hr
    obtain rfl : k = g := by simpa [Value.ownBlock] using hk
    rw [hgg] at e
    simp at e
theorem Keeps.setCell {w0 w : World} (h : Keeps w0 w) {p j : Nat} {cs : Array Value} {f : Nat × Nat} (hp : w.heap[p]? = some (.cells cs 104 f)) (u : Value) : Keeps w0 (w.setCell ⟨p, j, none⟩ u) := by
  refine h.trans ⟨by simp, fun k c g e => ?_⟩
  rw [heap_setCell_other _ _ k _ ?_]
  · exact e
  · intro hk
    have hk : k = p := hk
    rw [hk, hp] at e
    simp at e
theorem Strs.keeps {w w' : World} {base : Nat} {v : Value} {ts : List (List UInt8)} (h : Strs w base v ts) (hk : Keeps w w') : Strs w' base v ts := by
  refine ⟨h.1, ?_⟩
  rcases h.2 with hn | ⟨g, cap, cur, rfl, hb, hg, rest⟩
  · exact .inl hn
  · exact .inr ⟨g, cap, cur, rfl, hb, hk.block _ _ _ hg, rest⟩
theorem Strs.mono {w : World} {base base' : Nat} {v : Value} {ts : List (List UInt8)} (h : Strs w base v ts) (hb : base' ≤ base) : Strs w base' v ts := by
  refine ⟨h.1, ?_⟩
  rcases h.2 with hn | ⟨g, cap, cur, rfl, hb', rest⟩
  · exact .inl hn
  · exact .inr ⟨g, cap, cur, rfl, by omega, rest⟩
theorem Strs.cells {w : World} {base : Nat} {g len cap : Nat} {ts : List (List UInt8)} (h : Strs w base (.slice (some ⟨g, 0, none⟩) len cap) ts) : ∀ i, i < ts.length → w.cell? ⟨g, i, none⟩ = some (.string (ba (ts.getD i []))) := by
  intro i hi
  have := World.ownsRow.cells h (g := g) rfl i (.string (ba (ts.getD i []))) (by simp [List.getElem?_eq_getElem hi, List.getD_eq_getElem?_getD])
  have hp : (⟨g, 0, none⟩ : Addr).add i = ⟨g, i, none⟩ := by unfold Addr.add; split <;> simp_all
  rwa [hp] at this
theorem RowM.form {w : World} {base : Nat} {v : Value} {xs : List Int} (h : RowM w base v xs) : ∃ g cap, v = .slice (some ⟨g, 0, none⟩) xs.length cap ∧ xs.length ≤ cap := by
  obtain ⟨g, cap, cur, fz, hv, _, _, _, hc, _⟩ := h
  exact ⟨g, cap, hv, hc⟩
theorem RowM.block {w w' : World} {base : Nat} {v : Value} {xs : List Int} (h : RowM w base v xs) (hb : ∀ k, v.ownBlock = some k → w'.heap[k]? = w.heap[k]?) : RowM w' base v xs := by
  obtain ⟨g, cap, cur, fz, rfl, hb', hg, rest⟩ := h
  exact ⟨g, cap, cur, fz, rfl, hb', (hb g rfl).trans hg, rest⟩
/-- what was laid behind leaves a disk as it is -/
theorem Disk.below {w w' : World} {base p : Nat} {l : List UInt8} {cut : Bool} {left : Int} (h : Disk w base p l cut left) (hb : Below w.heap.size w w') : Disk w' base p l cut left := by
  obtain ⟨h1, v, h2, h3⟩ := h
  exact ⟨h1, v, by rw [hb.block p (Array.getElem?_eq_some_iff.1 h2).1]; exact h2, h3.block fun k hk => hb.block k (h3.lt k hk).2⟩
theorem RowM.setCell {w : World} {base p j : Nat} {v : Value} {xs : List Int} {cs : Array Value} {f : Nat × Nat} (h : RowM w base v xs) (hp : w.heap[p]? = some (.cells cs 104 f)) (u : Value) : RowM (w.setCell ⟨p, j, none⟩ u) base v xs := by
  obtain ⟨g, cap, cur, fz, rfl, hb', hg, rest⟩ := h
  refine ⟨g, cap, cur, fz, rfl, hb', ?_, rest⟩
  rw [heap_setCell_other _ _ g _ ?_]
  · exact hg
  · intro hk
    have hk : g = p := hk
    rw [hk, hp] at hg
    simp at hg
theorem RowM.other {w : World} {base p : Nat} {v : Value} {xs : List Int} {cs : Array Value} {f : Nat × Nat} (h : RowM w base v xs) (hp : w.heap[p]? = some (.cells cs 104 f)) : some p ≠ v.ownBlock := by
  obtain ⟨g, cap, cur, fz, rfl, hb', hg, rest⟩ := h
  intro hk
  have hk : p = g := by simpa [Value.ownBlock] using hk
  rw [← hk, hp] at hg
  simp at hg
end Go.Proofs.YtnnbbdfocnjhpaaDoor
