/- Append of a record to a disk. -/
import Derived.Test.YtnnbbdfocnjhpaaDoorTapeAppend
namespace Go.Proofs.YtnnbbdfocnjhpaaDoor
open Go.RowKit
set_option maxRecDepth 100000

theorem Row.form {w : World} {base : Nat} {v : Value} {xs : List Int} (h : Row w base v xs) (hn : xs ≠ []) : ∃ g cap, v = .slice (some ⟨g, 0, none⟩) xs.length cap := by
  rcases h.2 with ⟨_, h0⟩ | ⟨g, cap, cur, hv, _⟩
  · exact absurd (List.eq_nil_of_length_eq_zero h0) hn
  · exact ⟨g, cap, hv⟩
theorem Row.mono {w : World} {base base' : Nat} {v : Value} {xs : List Int} (h : Row w base v xs) (hb : base' ≤ base) : Row w base' v xs := by
  refine ⟨h.1, ?_⟩
  rcases h.2 with hn | ⟨g, cap, cur, rfl, hb', rest⟩
  · exact .inl hn
  · exact .inr ⟨g, cap, cur, rfl, by omega, rest⟩
theorem rec_ne (s : List UInt8) : ints (Tp.rec s) ≠ [] := by
  intro h
  have := congrArg List.length h
  rw [ints_length, Tp.rec_length] at this
  simp at this

/-- Append, of a text that fits: what write does with its record -/
theorem append_walk (base p : Nat) (l : List UInt8) (s : ByteArray) (cut : Bool) (left : Int) (w : World) (b : Bool) (R : World → Prop) (T : TypeId) (x : Value) (hd : Hid (Disk w base p l cut left)) (hs : s.size ≤ 10000) (hsz : l.length + (12 + s.size) ≤ 1048576)
    (h8 : w.cell? ⟨8, 0, none⟩ = some (.iface T x)) (hb8 : 8 < base) (hbs : base ≤ w.heap.size)
    (hwr : Hid (∀ g cap (wz : World), Disk wz base p l cut left → Row wz base (.slice (some ⟨g, 0, none⟩) (12 + s.size) cap) (ints (Tp.rec s.data.toList)) → base ≤ wz.heap.size → Below base w wz → Keeps w wz →
      Calls Tryd.prog 73 #[.pointer (some ⟨p, 0, none⟩), .slice (some ⟨g, 0, none⟩) (12 + s.size) cap] wz fun e w' => e = .returned (.bool b) ∧ R w' ∧ Below base w w')) :
    Calls Tryd.prog 32 #[.pointer (some ⟨p, 0, none⟩), .string s] w fun e w' => e = .returned (if b then .nilIface else .iface T x) ∧ R w' := by
  obtain ⟨hb, v, hp, hr⟩ := id hd.out
  obtain ⟨g0, cap0, hv, _⟩ := hr.form
  rw [ints_length] at hv
  subst hv
  obtain ⟨c0, c1, c2, fz, hpl⟩ := disk_cells hp
  clear hp hr
  have hs' : ¬ (10000 : Int) < s.size := by omega
  go_enter Tryd.func32, Tryd.ntmps32
  go_wp2_with fail
  go_quiet ((go_at_call 72; refine Calls.quiet_of_same (recordSize_any _ _ ?_); omega))
  have hfull : ¬ (1048576 : Int) < (l.length : Int) + ((12 + s.size : Nat) : Int) := by omega
  have HB0 : Hid (Below w.heap.size w (w.drewN nq)) := below_drewN nq
  go_wp2_with fail
  refine (record_any s _ hs).mono ?_
  rintro e w1 ⟨v1, rfl, hr1, hb1⟩
  obtain ⟨g1, cap1, hv1⟩ := hr1.form (rec_ne _)
  rw [ints_length, Tp.rec_length, size_list] at hv1
  subst hv1
  have HB1 : Hid (Below w.heap.size w w1) := HB0.out.trans (hb1.mono HB0.out.size)
  have HR1 := hide (hr1.mono (Nat.le_trans hbs HB0.out.size))
  clear hr1 hb1
  have h81 : w1.cell? ⟨8, 0, none⟩ = some (.iface T x) := cell_later HB1.out h8
  go_wp2_with fail
  refine (hwr.out g1 cap1 w1 (hd.out.below HB1.out) HR1.out (Nat.le_trans hbs HB1.out.size) (HB1.out.mono hbs) (Keeps.below HB1.out)).mono ?_
  rintro e w2 ⟨rfl, hR, hb2⟩
  have HR := hide hR
  clear hR
  have h82 : w2.cell? ⟨8, 0, none⟩ = some (.iface T x) := by rw [hb2.cell (p := ⟨8, 0, none⟩) hb8]; exact h8
  clear hb2
  cases b
  · go_wp2
    go_ret
    exact ⟨rfl, HR.out⟩
  · go_wp2
    go_ret
    exact ⟨rfl, HR.out⟩

theorem append_free (base p : Nat) (l : List UInt8) (s : ByteArray) (left : Int) (w : World) (T : TypeId) (x : Value) (hd : Disk w base p l false left) (hs : s.size ≤ 10000) (hsz : l.length + (12 + s.size) ≤ 1048576)
    (h8 : w.cell? ⟨8, 0, none⟩ = some (.iface T x)) (hb8 : 8 < base) (hbs : base ≤ w.heap.size) :
    Calls Tryd.prog 32 #[.pointer (some ⟨p, 0, none⟩), .string s] w fun e w' => e = .returned .nilIface ∧ Disk w' base p (l ++ Tp.rec s.data.toList) false left ∧ Keeps w w' ∧ Below base w w' := by
  refine append_walk base p l s false left w true (fun w' => Disk w' base p (l ++ Tp.rec s.data.toList) false left ∧ Keeps w w' ∧ Below base w w') T x hd hs hsz h8 hb8 hbs (fun g cap wz hdz hrz hbz hBz hKz => ?_)
  have hlen : (Tp.rec s.data.toList).length = 12 + s.size := by rw [Tp.rec_length, size_list]
  rw [← hlen] at hrz ⊢
  refine (write_free base p g cap l _ wz left hdz hrz (by omega) hbz).mono ?_
  rintro e w' ⟨rfl, h1, h2, h3⟩
  exact ⟨rfl, ⟨h1, hKz.trans h2, hBz.trans h3⟩, hBz.trans h3⟩

theorem append_cut (base p : Nat) (l : List UInt8) (s : ByteArray) (left : Nat) (w : World) (T : TypeId) (x : Value) (hd : Disk w base p l true left) (hs : s.size ≤ 10000) (hsz : l.length + (12 + s.size) ≤ 1048576) (hleft : left ≤ 9223372036854775807)
    (h8 : w.cell? ⟨8, 0, none⟩ = some (.iface T x)) (hb8 : 8 < base) (hbs : base ≤ w.heap.size) :
    Calls Tryd.prog 32 #[.pointer (some ⟨p, 0, none⟩), .string s] w fun e w' => e = .returned (if 12 + s.size ≤ left then .nilIface else .iface T x) ∧ Disk w' base p (l ++ (Tp.rec s.data.toList).take left) true (left - (12 + s.size) : Nat) ∧ Keeps w w' ∧ Below base w w' := by
  have hlen : (Tp.rec s.data.toList).length = 12 + s.size := by rw [Tp.rec_length, size_list]
  have h := append_walk base p l s true left w (decide (12 + s.size ≤ left)) (fun w' => Disk w' base p (l ++ (Tp.rec s.data.toList).take left) true (left - (12 + s.size) : Nat) ∧ Keeps w w' ∧ Below base w w') T x hd hs hsz h8 hb8 hbs (fun g cap wz hdz hrz hbz hBz hKz => by
    rw [← hlen] at hrz ⊢
    refine (write_cut base p g cap l _ wz left hdz hrz (by omega) hbz hleft).mono ?_
    rintro e w' ⟨rfl, h1, h2, h3⟩
    exact ⟨rfl, ⟨h1, hKz.trans h2, hBz.trans h3⟩, hBz.trans h3⟩)
  simpa using h
end Go.Proofs.YtnnbbdfocnjhpaaDoor
