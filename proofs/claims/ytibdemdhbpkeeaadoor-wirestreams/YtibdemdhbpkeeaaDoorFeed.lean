/- Feed: what a Reader tells of bytes, whatever waits; and Left. -/
import Derived.Test.YtibdemdhbpkeeaaDoorTake
namespace Go.Proofs.YtibdemdhbpkeeaaDoor
open Go.RowKit
set_option maxRecDepth 100000

theorem info61 : ∃ i z, Tryd.prog.info? 53 = some i ∧ i.zero = some z ∧ i.size = 9 ∧ i.bytes = 72 ∧ z.cells.size = 9 := ⟨_, _, rfl, rfl, rfl, rfl, rfl⟩
/-- a list of gots of the call's own: the first n frames of a text -/
def Gots (w : World) (base : Nat) (v : Value) (t : ByteArray) (n : Nat) : Prop := w.ownsRow base 53 9 v n (gots t n)
/-- how long a text is -/
def lenV : Value → Nat
  | .string s => s.size
  | _ => 0

theorem extract_head (t : ByteArray) (k : Nat) (h : 30 * (k + 1) ≤ t.size) : (t.extract (30 * k) t.size).extract 0 30 = fr t k := by
  unfold fr
  rw [ByteArray.extract_extract]
  congr 1
  omega
theorem extract_tail (t : ByteArray) (k : Nat) (h : 30 * (k + 1) ≤ t.size) : (t.extract (30 * k) t.size).extract 30 (t.size - 30 * k) = t.extract (30 * (k + 1)) t.size := by
  rw [ByteArray.extract_extract]
  congr 1 <;> omega

set_option maxHeartbeats 1000000 in
theorem feed_any (p : Nat) (u s : ByteArray) (ad : Nat → Addr) (w : World) (hs : Hid (Sent w ad)) (hp : w.cell? ⟨p, 0, none⟩ = some (.string u)) (hf : w.frozen? ⟨p, 0, none⟩ = false) (hz : (u ++ s).size ≤ 100000) :
    Calls Tryd.prog 17 #[.pointer (some ⟨p, 0, none⟩), .string s] w fun e w' => ∃ v w1, e = .returned v ∧ Gots w1 w.heap.size v (u ++ s) ((u ++ s).size / 30) ∧ Below w.heap.size w w1 ∧ w' = w1.setCell ⟨p, 0, none⟩ (.string ((u ++ s).extract (30 * ((u ++ s).size / 30)) (u ++ s).size)) := by
  obtain ⟨i61, z61, hi, hz0, hz1, hz2, hz3⟩ := info61
  have Hi := hide hi; have Hz0 := hide hz0; have Hz1 := hide hz1; have Hz2 := hide hz2; have Hz3 := hide hz3
  clear hi hz0 hz1 hz2 hz3
  have hpl : p < w.heap.size := World.block_lt_of_cell? _ _ hp
  have hsz : u.size + s.size ≤ 100000 := by simpa using hz
  go_enter Tryd.func17, Tryd.ntmps17
  go_wp2
  generalize ht : u ++ s = t at *
  have Ht := hide ht
  clear hsz ht
  go_loopw [1, 5] (fun sv v wr => ∃ k : Nat, 30 * k ≤ t.size ∧ sv = .string (t.extract (30 * k) t.size) ∧ Gots wr w.heap.size v t k ∧ Below w.heap.size w wr) (fun sv _ _ => lenV sv)
  case atStart => exact ⟨0, Nat.zero_le _, by simp, World.ownsRow_nil _ _ _ _, Below.refl _ _⟩
  case round =>
    obtain ⟨k, hk, rfl, hg, hb⟩ := hrel
    have HG := hide hg; have HB := hide hb
    clear hg hb
    have hes : (t.extract (30 * k) t.size).size = t.size - 30 * k := by simp
    by_cases hlt : 30 * (k + 1) ≤ t.size
    · have HH := hide (extract_head t k hlt)
      have HT := hide (extract_tail t k hlt)
      have hes2 : (t.extract (30 * (k + 1)) t.size).size = t.size - 30 * (k + 1) := by simp
      generalize t.extract (30 * k) t.size = x at *
      have hx30 : 30 ≤ x.size := by omega
      have hx30' : ¬ (x.size : Int) < 30 := by omega
      have hx31 : (30 : Int) ≤ x.size := by omega
      go_wp2_with fail
      rw [HH.out]
      refine (take_any (fr t k) ad _ (hs.out.later HB.out)).mono ?_
      rintro e w2 ⟨rfl, hb2⟩
      obtain ⟨x0, x1, x2, x3, x4, x5, x6, x7, dc, hgc⟩ : ∃ x0 x1 x2 x3 x4 x5 x6 x7 dc : Nat, gotCells (fr t k) = [.int .u8 x0, .int .i64 x1, .int .i64 x2, .int .i64 x3, .int .i64 x4, .int .i64 x5, .int .i64 x6, .int .i64 x7, .int .i64 dc] := ⟨_, _, _, _, _, _, _, _, _, rfl⟩
      rw [hgc]
      have HGC := hide hgc
      have HB2 : Hid (Below w.heap.size w w2) := HB.out.trans (hb2.mono HB.out.size)
      have HG2 : Hid (Gots w2 w.heap.size u5 t k) := HG.out.kept (row := none) ⟨hb2.os, hb2.tape, hb2.output, hb2.size, fun j hj _ => hb2.block j hj⟩ (by cases u5.ownBlock <;> simp)
      clear hgc hb2
      simp only []
      go_wp2_with (at_builtin; refine wpList_append_own _ rfl _ _ 48 rfl w.heap.size 53 i61 z61 9 72 Tryd.underlying48 Hi.out Hz0.out Hz1.out Hz2.out Hz3.out (by decide) _ _ _ rfl (World.ownsRow.alloc HG2.out _) ⟨w2.heap.size, 0, none⟩ 1 1 [.int .u8 x0, .int .i64 x1, .int .i64 x2, .int .i64 x3, .int .i64 x4, .int .i64 x5, .int .i64 x6, .int .i64 x7, .int .i64 dc] rfl rfl ?c1 ?c2 ?c3 ?c4 ?c5 ?_)
      case c1 =>
        intro j u hj
        have hp : (⟨w2.heap.size, 0, none⟩ : Addr).add j = ⟨w2.heap.size, j, none⟩ := by unfold Addr.add; split <;> simp_all
        rw [hp, cell_of_row _ _ j _ 53 _ (heap_alloc_new w2 _)]
        simpa using hj
      case c2 => exact fun u hu => gotCells_one (fr t k) u (by rw [HGC.out]; exact hu)
      case c3 => unfold maxLen; omega
      case c4 => omega
      case c5 => have := HB2.out.size; simp; omega
      intro v3 w3 hown' hgrow _
      have HG3 : Hid (Gots w3 w.heap.size v3 t (k + 1)) := by
        show w3.ownsRow w.heap.size 53 9 v3 (k + 1) (gots t k ++ gotCells (fr t k))
        rw [HGC.out]
        exact hown'
      have HB3 : Hid (Below w.heap.size w w3) := (HB2.out.alloc HB2.out.size _).grown hgrow (by have := HB2.out.size; simp; omega) (fun k hk => (World.ownsRow.lt HG2.out k hk).1)
      clear hown' hgrow
      go_wp2
      rw [HT.out]
      exact ⟨⟨k + 1, hlt, rfl, HG3.out, HB3.out⟩, by simp only [lenV]; omega⟩
    · have hx30 : (t.size - 30 * k) < 30 := by omega
      have hx30' : ((t.extract (30 * k) t.size).size : Int) < 30 := by omega
      have hkk : t.size / 30 = k := by omega
      have Hkk := hide hkk
      clear hkk
      have hps : (t.extract (30 * k) t.size).size ≤ 281474976710656 := by omega
      generalize hX : t.extract (30 * k) t.size = x at *
      have HX := hide hX
      clear hX
      go_wp2_with fail
      refine (clone_any x wr hps).mono ?_
      rintro e w2 ⟨rfl, hb2⟩
      have HB2 : Hid (Below w.heap.size w w2) := HB.out.trans (hb2.mono HB.out.size)
      have HG2 : Hid (Gots w2 w.heap.size u5 t k) := HG.out.kept (row := none) ⟨hb2.os, hb2.tape, hb2.output, hb2.size, fun j hj _ => hb2.block j hj⟩ (by cases u5.ownBlock <;> simp)
      have hp2 : w2.cell? ⟨p, 0, none⟩ = some (.string u) := by rw [HB2.out.cell (p := ⟨p, 0, none⟩) hpl]; exact hp
      have hf2 : w2.frozen? ⟨p, 0, none⟩ = false := by rw [HB2.out.frozen (p := ⟨p, 0, none⟩) hpl]; exact hf
      clear hb2
      simp only []
      go_wp2
      go_ret
      exact ⟨u5, w2, rfl, by rw [Ht.out, Hkk.out]; exact HG2.out, HB2.out, by rw [Ht.out, Hkk.out, HX.out]⟩

theorem left_any (p : Nat) (u : ByteArray) (w : World) (hp : w.cell? ⟨p, 0, none⟩ = some (.string u)) :
    Calls Tryd.prog 19 #[.pointer (some ⟨p, 0, none⟩)] w fun e w' => e = .returned (.int .i64 u.size) ∧ w' = w := by
  go_enter Tryd.func19, Tryd.ntmps19
  go_wp2
  go_ret
  exact ⟨rfl, rfl⟩
end Go.Proofs.YtibdemdhbpkeeaaDoor
