/- The law WireStreams, for every text and all cuts. -/
import Derived.Test.YtibdemdhbpkeeaaDoorGots
import Derived.Test.YtibdemdhbpkeeaaDoorAskOf
import Derived.Laws.AppendOwnNone
namespace Go.Proofs.YtibdemdhbpkeeaaDoor
open Go.RowKit
set_option maxRecDepth 100000

set_option maxHeartbeats 400000 in
theorem streams_out (s : ByteArray) (a : Option Addr) (len cap : Nat) (w : World) (h : (400 : Int) < s.size ∨ ¬ (400 : Int) < s.size ∧ (30 : Int) < len) :
    Calls Tryd.prog 5 #[.string s, .slice a len cap] w fun e w' => e = .returned (.bool true) ∧ Below w.heap.size w w' := by
  rcases h with h | ⟨h, h'⟩
  all_goals
    go_enter Tryd.func5, Tryd.ntmps5
    go_wp2_with fail
    refine (framed_any w).mono ?_
    rintro e w1 ⟨rfl, hb1⟩
    have HB1 := hide hb1
    clear hb1
    go_wp2
    go_ret
    exact ⟨rfl, HB1.out⟩

theorem extract_join (s : ByteArray) (a b c : Nat) (h1 : a ≤ b) (h2 : b ≤ c) : s.extract a b ++ s.extract b c = s.extract a c := by
  rw [ByteArray.extract_append_extract, Nat.min_eq_left h1, Nat.max_eq_right h2]
theorem extract_all (s : ByteArray) : s.extract 0 s.size = s := ByteArray.extract_zero_size
/-- a Reader at block p: what waits -/
def Reader (w : World) (p : Nat) (u : ByteArray) : Prop := w.heap[p]? = some (.cells #[.string u] 47 (0, 0))
theorem Reader.cells {w : World} {p : Nat} {u : ByteArray} (h : Reader w p u) : w.cell? ⟨p, 0, none⟩ = some (.string u) ∧ w.frozen? ⟨p, 0, none⟩ = false ∧ p < w.heap.size :=
  ⟨by rw [cell_of_row w p 0 _ 47 _ h]; rfl, frozen_of_row w p 0 _ 47 h, (Array.getElem?_eq_some_iff.1 h).1⟩
theorem Reader.below {w w' : World} {p : Nat} {u : ByteArray} {B : Nat} (h : Reader w p u) (hb : Below B w w') (hp : p < B) : Reader w' p u := (hb.block p hp).trans h
theorem Reader.set {w : World} {p : Nat} {u x : ByteArray} (h : Reader w p u) : Reader (w.setCell ⟨p, 0, none⟩ (.string x)) p x := heap_setCell_same w p 0 _ 47 _ h
theorem Reader.grown {w w' : World} {p base n : Nat} {u : ByteArray} {v : Value} {xs : List Value} (h : Reader w p u) (hs : w.ownsRow base 53 9 v n xs) (hg : w.grownBy w' v.ownBlock) : Reader w' p u := by
  refine (hg.block p h.cells.2.2 ?_).trans h
  intro hk
  rcases hs.2 with ⟨rfl, _⟩ | ⟨g, cap, cur, rfl, _, hgg, _⟩
  · cases hk
  · obtain rfl : p = g := by simpa [Value.ownBlock] using hk
    rw [h] at hgg
    simp at hgg

/-- the second Reader while parts are fed: of the first at bytes -/
def PartInv (w2 wr : World) (s : ByteArray) (at_ : Nat) (v : Value) : Prop :=
  at_ ≤ s.size ∧ Reader wr w2.heap.size (s.extract (30 * (at_ / 30)) at_) ∧ Gots wr w2.heap.size v s (at_ / 30) ∧ Below w2.heap.size w2 wr

theorem rest_piece (s : ByteArray) (at_ e : Nat) (h1 : at_ ≤ e) : (s.extract (30 * (at_ / 30)) e).extract (30 * ((e - 30 * (at_ / 30)) / 30)) (e - 30 * (at_ / 30)) = s.extract (30 * (e / 30)) e := by
  rw [ByteArray.extract_extract]
  congr 1 <;> omega

/-- behind a part that is fed -/
theorem fed {w3 wr w4 w5 : World} {s u : ByteArray} {at_ e : Nat} {v v5 : Value} (h1 : at_ ≤ e) (hrd : Reader wr w3.heap.size u) (hg : Gots wr w3.heap.size v s (at_ / 30)) (hb : Below w3.heap.size w3 wr)
    (hg5 : Gots w4 wr.heap.size v5 (s.extract (30 * (at_ / 30)) e) ((e - 30 * (at_ / 30)) / 30)) (hb5 : Below wr.heap.size wr w4) (hw5 : w5 = w4.setCell ⟨w3.heap.size, 0, none⟩ (.string ((s.extract (30 * (at_ / 30)) e).extract (30 * ((e - 30 * (at_ / 30)) / 30)) (e - 30 * (at_ / 30))))) :
    Reader w5 w3.heap.size (s.extract (30 * (e / 30)) e) ∧ Gots w5 w3.heap.size v s (at_ / 30) ∧ Gots w5 w3.heap.size v5 (s.extract (30 * (at_ / 30)) e) ((e - 30 * (at_ / 30)) / 30) ∧ Below w3.heap.size w3 w5 := by
  have hr4 : Reader w4 w3.heap.size u := hrd.below hb5 hrd.cells.2.2
  rw [rest_piece s at_ e h1] at hw5
  subst hw5
  exact ⟨hr4.set, (hg.below hb5).setCell hr4 _, (hg5.mono hb.size).setCell hr4 _, (hb.trans (hb5.mono hb.size)).setCell (Nat.le_refl _) _⟩

theorem got_ask {t : ByteArray} {x0 x1 x2 x3 x4 x5 x6 x7 dc : Nat} (h : gotCells t = [.int .u8 x0, .int .i64 x1, .int .i64 x2, .int .i64 x3, .int .i64 x4, .int .i64 x5, .int .i64 x6, .int .i64 x7, .int .i64 dc]) :
    decAsk t = .agg #[.int .u8 x0, .int .i64 x1, .int .i64 x2, .int .i64 x3, .int .i64 x4, .int .i64 x5, .int .i64 x6, .int .i64 x7] ∧ ((decCode t : Nat) : Int) = dc := by
  simp only [gotCells, List.cons.injEq, Value.int.injEq, true_and, and_true] at h
  obtain ⟨e0, e1, e2, e3, e4, e5, e6, e7, e8⟩ := h
  rw [decAsk_eq, e0, e1, e2, e3, e4, e5, e6, e7]
  exact ⟨rfl, e8⟩

set_option maxHeartbeats 1000000 in
theorem streams_main (s : ByteArray) (a : Option Addr) (len cap : Nat) (zs : List Int) (ad : Nat → Addr) (w : World) (hs : Hid (Sent w ad)) (h1 : s.size ≤ 400) (h2 : len ≤ 30)
    (hcells : Hid (∀ i, i < len → ∃ g, a = some g ∧ w.cell? (g.add i) = some (.int .i64 (zs.getD i 0)))) :
    Calls Tryd.prog 5 #[.string s, .slice a len cap] w fun e w' => e = .returned (.bool true) ∧ Below w.heap.size w w' := by
  obtain ⟨i61, z61, hi, hz0, hz1, hz2, hz3⟩ := info61
  have Hi := hide hi; have Hz0 := hide hz0; have Hz1 := hide hz1; have Hz2 := hide hz2; have Hz3 := hide hz3
  clear hi hz0 hz1 hz2 hz3
  have h1' : ¬ (400 : Int) < s.size := by omega
  have h2' : ¬ (30 : Int) < len := by omega
  go_enter Tryd.func5, Tryd.ntmps5
  go_wp2_with fail
  refine (framed_any w).mono ?_
  rintro e w1 ⟨rfl, hb1⟩
  have HB1 := hide hb1
  clear hb1
  simp only []
  go_wp2_with fail
  have HR1 : Hid (Reader (w1.alloc (.cells #[.string ⟨#[]⟩] 47)) w1.heap.size ⟨#[]⟩) := heap_alloc_new w1 _
  have HBa : Hid (Below w.heap.size w (w1.alloc (.cells #[.string ⟨#[]⟩] 47))) := HB1.out.alloc HB1.out.size _
  have hes : (ByteArray.mk #[]) ++ s = s := ByteArray.empty_append
  refine (feed_any w1.heap.size ⟨#[]⟩ s ad _ (hs.out.later HBa.out) HR1.out.cells.1 HR1.out.cells.2.1 (by rw [hes]; omega)).mono ?_
  rintro e w3 ⟨v3, w2', rfl, hg, hb, hw3⟩
  rw [hes] at hg hw3
  have hR2 : Reader w2' w1.heap.size ⟨#[]⟩ := HR1.out.below hb (by simp)
  have HR3 : Hid (Reader w3 w1.heap.size (s.extract (30 * (s.size / 30)) s.size)) := by rw [hw3]; exact hR2.set
  have HG3 : Hid (Gots w3 w.heap.size v3 s (s.size / 30)) := by rw [hw3]; exact (hg.mono HBa.out.size).setCell hR2 _
  have HB3 : Hid (Below w.heap.size w w3) := by rw [hw3]; exact (HBa.out.trans (hb.mono HBa.out.size)).setCell HB1.out.size _
  have hz3 : w1.heap.size < w3.heap.size := (HR3.out.cells).2.2
  clear hg hb hw3 hR2 HR1 HBa hes
  obtain ⟨a3, c3, hv3, ha3⟩ := HG3.out.form
  subst hv3
  have HA3 := hide ha3
  clear ha3
  have HS0 : Hid (PartInv w3 (w3.alloc (.cells #[.string ⟨#[]⟩] 47)) s 0 (.slice none 0 0)) :=
    ⟨Nat.zero_le _, by show Reader _ _ (s.extract 0 0); rw [show s.extract 0 0 = ⟨#[]⟩ by simp; rfl]; exact heap_alloc_new w3 _, World.ownsRow_nil _ _ _ _, (Below.refl _ _).alloc (Nat.le_refl _) _⟩
  simp only []
  go_wp2
  go_loopw [9, 10, 11] (fun v atv iv wr => ∃ at_ k : Nat, atv = .int .i64 at_ ∧ iv = .int .i64 k ∧ k ≤ len ∧ PartInv w3 wr s at_ v) (fun _ _ iv _ => len - (intOf iv).toNat)
  case atStart => exact ⟨0, 0, rfl, rfl, Nat.zero_le _, HS0.out⟩
  case round =>
    obtain ⟨at_, k, rfl, rfl, hk, hat, hrd, hg, hb⟩ := hrel
    have HRD := hide hrd; have HG := hide hg; have HB := hide hb
    clear hrd hg hb
    have HBW : Hid (Below w.heap.size w wr) := HB3.out.trans (HB.out.mono HB3.out.size)
    by_cases hlt : k < len
    · have hki : (k : Int) < len := by omega
      obtain ⟨g, hg, hc⟩ := hcells.out k hlt
      subst hg
      have hcr : wr.cell? (g.add k) = some (.int .i64 (zs.getD k 0)) := by rw [HBW.out.cell (p := g.add k) (World.block_lt_of_cell? _ _ hc)]; exact hc
      clear hc
      generalize zs.getD k 0 = n at *
      by_cases hn : n < 0 ∨ (s.size : Int) - at_ < n
      · go_wp2
        all_goals exact ⟨⟨at_, k + 1, rfl, by go_num, by omega, hat, HRD.out, HG.out, HB.out⟩, by simp [intOf]; omega⟩
      · obtain ⟨m, rfl⟩ := Int.eq_ofNat_of_zero_le (show 0 ≤ n by omega)
        have hn1 : ¬ (m : Int) < 0 := by omega
        have hn2 : ¬ (s.size : Int) - at_ < m := by omega
        have hm : at_ + m ≤ s.size := by omega
        clear hn
        obtain ⟨r1, r2, r3⟩ := HRD.out.cells
        have hjoin : s.extract (30 * (at_ / 30)) at_ ++ s.extract at_ (at_ + m) = s.extract (30 * (at_ / 30)) (at_ + m) := extract_join s _ _ _ (by omega) (by omega)
        have hjs : (s.extract (30 * (at_ / 30)) (at_ + m)).size = at_ + m - 30 * (at_ / 30) := by simp; omega
        have HF := hide (feed_any w3.heap.size _ (s.extract at_ (at_ + m)) ad wr (hs.out.later HBW.out) r1 r2 (by rw [hjoin, hjs]; omega))
        rw [hjoin, hjs] at HF
        clear r1 r2 r3 hjoin hjs
        go_wp2_with fail
        refine HF.out.mono ?_
        rintro e w5 ⟨v5, w4, rfl, hg5, hb5, hw5⟩
        obtain ⟨f1, f2, f3, f4⟩ := fed (by omega) HRD.out HG.out HB.out hg5 hb5 hw5
        have F1 := hide f1; have F2 := hide f2; have F3 := hide f3; have F4 := hide f4
        clear f1 f2 f3 f4 hg5 hb5 hw5 HF HRD HG HB HBW
        have hdiv : (at_ + m) / 30 = at_ / 30 + (at_ + m - 30 * (at_ / 30)) / 30 := by omega
        have Hdiv := hide hdiv
        clear hdiv
        rcases F3.out.2 with ⟨hv5, hc0⟩ | ⟨g5, cap5, cur5, hv5, hb5', hg5', hc5', _, _, ht5⟩
        · subst hv5
          simp only []
          go_wp2_with (at_builtin; refine wpList_append_own_none rfl _ _ 48 rfl w3.heap.size 53 i61 9 Tryd.underlying48 Hi.out _ _ _ rfl F2.out rfl ?_)
          go_wp2
          refine ⟨⟨at_ + m, k + 1, by go_num, by go_num, by omega, hm, F1.out, ?_, F4.out⟩, by simp [intOf]; omega⟩
          rw [Hdiv.out, hc0]
          exact F2.out
        · subst hv5
          clear hb5' hg5' hc5' ht5
          have HN := hide (World.ownsRow.cells F3.out (g := g5) rfl)
          generalize hcnt : (at_ + m - 30 * (at_ / 30)) / 30 = cnt at *
          have hcl : cnt ≤ 400 := by omega
          have hpc : 30 * (at_ / 30 + cnt) ≤ at_ + m := by omega
          clear hcnt
          simp only []
          go_wp2_with (at_builtin; refine wpList_append_own _ rfl _ _ 48 rfl w3.heap.size 53 i61 z61 9 72 Tryd.underlying48 Hi.out Hz0.out Hz1.out Hz2.out Hz3.out (by decide) _ _ _ rfl F2.out ⟨g5, 0, none⟩ cnt cap5 (gots (s.extract (30 * (at_ / 30)) (at_ + m)) cnt) rfl (gots_length _ _) HN.out (gots_one _ _) ?c3 ?c4 ?c5 ?_)
          case c3 => unfold maxLen; omega
          case c4 => omega
          case c5 => exact F4.out.size
          intro v6 w6 hown' hgrow _
          have G1 := hide (F1.out.grown F2.out hgrow)
          have G2 : Hid (Gots w6 w3.heap.size v6 s ((at_ + m) / 30)) := by
            rw [Hid, Hdiv.out]
            show w6.ownsRow _ 53 9 v6 _ (gots s (at_ / 30 + cnt))
            rw [gots_piece s (at_ / 30) (at_ + m) cnt hpc]
            exact hown'
          have G4 : Hid (Below w3.heap.size w3 w6) := F4.out.grown hgrow F4.out.size (fun k hk => (World.ownsRow.lt F2.out k hk).1)
          clear hown' hgrow
          go_wp2
          exact ⟨⟨at_ + m, k + 1, by go_num, by go_num, by omega, hm, G1.out, G2.out, G4.out⟩, by simp [intOf]; omega⟩
    · have hki : ¬ (k : Int) < len := by omega
      have hm : at_ ≤ s.size := hat
      obtain ⟨r1, r2, r3⟩ := HRD.out.cells
      have hjoin : s.extract (30 * (at_ / 30)) at_ ++ s.extract at_ s.size = s.extract (30 * (at_ / 30)) s.size := extract_join s _ _ _ (by omega) hm
      have hjs : (s.extract (30 * (at_ / 30)) s.size).size = s.size - 30 * (at_ / 30) := by simp
      have HF := hide (feed_any w3.heap.size _ (s.extract at_ s.size) ad wr (hs.out.later HBW.out) r1 r2 (by rw [hjoin, hjs]; omega))
      rw [hjoin, hjs] at HF
      clear r1 r2 r3 hjoin hjs
      go_wp2_with fail
      refine HF.out.mono ?_
      rintro e w5 ⟨v5, w4, rfl, hg5, hb5, hw5⟩
      obtain ⟨f1, f2, f3, f4⟩ := fed hm HRD.out HG.out HB.out hg5 hb5 hw5
      have F1 := hide f1; have F2 := hide f2; have F3 := hide f3; have F4 := hide f4
      clear f1 f2 f3 f4 hg5 hb5 hw5 HF HRD HG HB HBW
      have hdiv : s.size / 30 = at_ / 30 + (s.size - 30 * (at_ / 30)) / 30 := by omega
      have Hdiv := hide hdiv
      clear hdiv
      rcases F3.out.2 with ⟨hv5, hc0⟩ | ⟨g5, cap5, cur5, hv5, hb5', hg5', hc5', _, _, ht5⟩
      · subst hv5
        simp only []
        go_wp2_with (at_builtin; refine wpList_append_own_none rfl _ _ 48 rfl w3.heap.size 53 i61 9 Tryd.underlying48 Hi.out _ _ _ rfl F2.out rfl ?_)
        have G2 : Hid (Gots w5 w3.heap.size u9 s (s.size / 30)) := by
          rw [Hid, Hdiv.out, hc0]
          exact F2.out
        have G1 := hide F1.out
        have G4 := hide F4.out
        clear F1 F2 F3 F4 Hdiv hc0
        have HGA := hide (HG3.out.below G4.out)
        have HRA := hide (HR3.out.below G4.out hz3)
        have HBA : Hid (Below w.heap.size w w5) := HB3.out.trans (G4.out.mono HB3.out.size)
        go_wp2_with fail
        refine (gots_same _ _ _ _ (s.size / 30) s w5 (by omega) HGA.out G2.out).mono ?_
        rintro e w7 ⟨rfl, m7, rfl⟩
        have HB7 : Hid (Below w5.heap.size w5 (w5.drewN m7)) := below_drewN m7
        have HGB := hide (HGA.out.below HB7.out)
        have HRB := hide (HRA.out.below HB7.out HRA.out.cells.2.2)
        have HTB := hide (G1.out.below HB7.out G1.out.cells.2.2)
        have HBB : Hid (Below w.heap.size w (w5.drewN m7)) := HBA.out.trans (HB7.out.mono HBA.out.size)
        generalize w5.drewN m7 = w7 at *
        clear HGA HRA HBA HB7 G1 G2 G4
        have hrs : (s.extract (30 * (s.size / 30)) s.size).size = s.size % 30 := by simp; omega
        generalize s.extract (30 * (s.size / 30)) s.size = rest at *
        have hp1 := HRB.out.cells.1
        have hp2 := HTB.out.cells.1
        simp only []
        have hq1 : ((rest.size : Nat) : Int) = (s.size : Int).tmod 30 := by rw [hrs, Int.tmod_eq_emod_of_nonneg (by omega)]; omega
        have hq2 : ((s.size / 30 : Nat) : Int) = (s.size : Int).tdiv 30 := by rw [Int.tdiv_eq_ediv_of_nonneg (by omega)]; omega
        clear hrs
        go_wp2_with (go_at_call 19; refine (left_any _ rest _ (by assumption)).mono ?_; rintro e w' ⟨rfl, rfl⟩)
        go_loopw [13] (fun iv wr => ∃ j : Nat, iv = .int .i64 j ∧ j ≤ s.size / 30 ∧ Gots wr w.heap.size (.slice a3 (s.size / 30) c3) s (s.size / 30) ∧ Below w.heap.size w wr) (fun iv _ => s.size / 30 - (intOf iv).toNat)
        case atStart => exact ⟨0, rfl, Nat.zero_le _, HGB.out, HBB.out⟩
        case round =>
          obtain ⟨j, rfl, hj, hgj, hbj⟩ := hrel
          have HGJ := hide hgj; have HBJ := hide hbj
          clear hgj hbj
          by_cases hjl : j < s.size / 30
          · have hji : (j : Int) < ((s.size / 30 : Nat) : Int) := by omega
            obtain ⟨g3, hg3⟩ := HA3.out (by omega)
            subst hg3
            have hje : 30 * j + 30 ≤ s.size := by omega
            go_wp2_with fail
            refine (askOf_any (fr s j) wr).mono ?_
            rintro e w9 ⟨rfl, hb9⟩
            have HG9 := hide (HGJ.out.below hb9)
            have HB9 : Hid (Below w.heap.size w w9) := HBJ.out.trans (hb9.mono HBJ.out.size)
            clear hb9
            obtain ⟨x0, x1, x2, x3, x4, x5, x6, x7, dc, hgc, p0, p1, p2, p3, p4, p5, p6, p7, p8⟩ := HG9.out.at j hjl
            obtain ⟨hda, hdc⟩ := got_ask hgc
            rw [hda, hdc]
            clear hda hdc hgc
            simp only []
            go_wp2
            have hgl : g3 < w9.heap.size := World.block_lt_of_cell? _ _ p0
            have q0 : (w9.alloc (.cells #[.int .u8 x0, .int .i64 x1, .int .i64 x2, .int .i64 x3, .int .i64 x4, .int .i64 x5, .int .i64 x6, .int .i64 x7] 23)).cell? ⟨g3, j * 9, none⟩ = some (.int .u8 x0) := by rw [World.cell?_alloc_lt _ _ ⟨g3, j * 9, none⟩ hgl]; exact p0
            have q1 : (w9.alloc (.cells #[.int .u8 x0, .int .i64 x1, .int .i64 x2, .int .i64 x3, .int .i64 x4, .int .i64 x5, .int .i64 x6, .int .i64 x7] 23)).cell? ⟨g3, j * 9 + 1, none⟩ = some (.int .i64 x1) := by rw [World.cell?_alloc_lt _ _ ⟨g3, j * 9 + 1, none⟩ hgl]; exact p1
            have q2 : (w9.alloc (.cells #[.int .u8 x0, .int .i64 x1, .int .i64 x2, .int .i64 x3, .int .i64 x4, .int .i64 x5, .int .i64 x6, .int .i64 x7] 23)).cell? ⟨g3, j * 9 + 2, none⟩ = some (.int .i64 x2) := by rw [World.cell?_alloc_lt _ _ ⟨g3, j * 9 + 2, none⟩ hgl]; exact p2
            have q3 : (w9.alloc (.cells #[.int .u8 x0, .int .i64 x1, .int .i64 x2, .int .i64 x3, .int .i64 x4, .int .i64 x5, .int .i64 x6, .int .i64 x7] 23)).cell? ⟨g3, j * 9 + 3, none⟩ = some (.int .i64 x3) := by rw [World.cell?_alloc_lt _ _ ⟨g3, j * 9 + 3, none⟩ hgl]; exact p3
            have q4 : (w9.alloc (.cells #[.int .u8 x0, .int .i64 x1, .int .i64 x2, .int .i64 x3, .int .i64 x4, .int .i64 x5, .int .i64 x6, .int .i64 x7] 23)).cell? ⟨g3, j * 9 + 4, none⟩ = some (.int .i64 x4) := by rw [World.cell?_alloc_lt _ _ ⟨g3, j * 9 + 4, none⟩ hgl]; exact p4
            have q5 : (w9.alloc (.cells #[.int .u8 x0, .int .i64 x1, .int .i64 x2, .int .i64 x3, .int .i64 x4, .int .i64 x5, .int .i64 x6, .int .i64 x7] 23)).cell? ⟨g3, j * 9 + 5, none⟩ = some (.int .i64 x5) := by rw [World.cell?_alloc_lt _ _ ⟨g3, j * 9 + 5, none⟩ hgl]; exact p5
            have q6 : (w9.alloc (.cells #[.int .u8 x0, .int .i64 x1, .int .i64 x2, .int .i64 x3, .int .i64 x4, .int .i64 x5, .int .i64 x6, .int .i64 x7] 23)).cell? ⟨g3, j * 9 + 6, none⟩ = some (.int .i64 x6) := by rw [World.cell?_alloc_lt _ _ ⟨g3, j * 9 + 6, none⟩ hgl]; exact p6
            have q7 : (w9.alloc (.cells #[.int .u8 x0, .int .i64 x1, .int .i64 x2, .int .i64 x3, .int .i64 x4, .int .i64 x5, .int .i64 x6, .int .i64 x7] 23)).cell? ⟨g3, j * 9 + 7, none⟩ = some (.int .i64 x7) := by rw [World.cell?_alloc_lt _ _ ⟨g3, j * 9 + 7, none⟩ hgl]; exact p7
            have q8 : (w9.alloc (.cells #[.int .u8 x0, .int .i64 x1, .int .i64 x2, .int .i64 x3, .int .i64 x4, .int .i64 x5, .int .i64 x6, .int .i64 x7] 23)).cell? ⟨g3, j * 9 + 8, none⟩ = some (.int .i64 dc) := by rw [World.cell?_alloc_lt _ _ ⟨g3, j * 9 + 8, none⟩ hgl]; exact p8
            have A : ∀ i, (w9.alloc (.cells #[.int .u8 x0, .int .i64 x1, .int .i64 x2, .int .i64 x3, .int .i64 x4, .int .i64 x5, .int .i64 x6, .int .i64 x7] 23)).cell? ⟨w9.heap.size, i, none⟩ = (#[.int .u8 x0, .int .i64 x1, .int .i64 x2, .int .i64 x3, .int .i64 x4, .int .i64 x5, .int .i64 x6, .int .i64 x7] : Array Value)[i]? := fun i => cell_of_row _ _ i _ 23 _ (heap_alloc_new w9 _)
            have HBX : Hid (Below w9.heap.size w9 (w9.alloc (.cells #[.int .u8 x0, .int .i64 x1, .int .i64 x2, .int .i64 x3, .int .i64 x4, .int .i64 x5, .int .i64 x6, .int .i64 x7] 23))) := (Below.refl _ _).alloc (Nat.le_refl _) _
            have HG10 := hide (HG9.out.below HBX.out)
            have HB10 := hide (HB9.out.trans (HBX.out.mono HB9.out.size))
            generalize w9.alloc (.cells #[.int .u8 x0, .int .i64 x1, .int .i64 x2, .int .i64 x3, .int .i64 x4, .int .i64 x5, .int .i64 x6, .int .i64 x7] 23) = w10 at *
            clear p0 p1 p2 p3 p4 p5 p6 p7 p8 HG9 HB9 HBX
            go_quiet (fail)
            have HB11 : Hid (Below w10.heap.size w10 (w10.drewN nq)) := below_drewN nq
            have HG11 := hide (HG10.out.below HB11.out)
            have HBB11 := hide (HB10.out.trans (HB11.out.mono HB10.out.size))
            generalize w10.drewN nq = w11 at *
            go_wp2
            exact ⟨⟨j + 1, by go_num, by omega, HG11.out, HBB11.out⟩, by simp [intOf]; omega⟩
          · have hji : ¬ (j : Int) < ((s.size / 30 : Nat) : Int) := by omega
            go_wp2
            go_ret
            exact ⟨rfl, HBJ.out⟩
      · subst hv5
        clear hb5' hg5' hc5' ht5
        have HN := hide (World.ownsRow.cells F3.out (g := g5) rfl)
        generalize hcnt : (s.size - 30 * (at_ / 30)) / 30 = cnt at *
        have hcl : cnt ≤ 400 := by omega
        have hpc : 30 * (at_ / 30 + cnt) ≤ s.size := by omega
        clear hcnt
        simp only []
        go_wp2_with (at_builtin; refine wpList_append_own _ rfl _ _ 48 rfl w3.heap.size 53 i61 z61 9 72 Tryd.underlying48 Hi.out Hz0.out Hz1.out Hz2.out Hz3.out (by decide) _ _ _ rfl F2.out ⟨g5, 0, none⟩ cnt cap5 (gots (s.extract (30 * (at_ / 30)) s.size) cnt) rfl (gots_length _ _) HN.out (gots_one _ _) ?c3 ?c4 ?c5 ?_)
        case c3 => unfold maxLen; omega
        case c4 => omega
        case c5 => exact F4.out.size
        intro v6 w6 hown' hgrow _
        have G1 := hide (F1.out.grown F2.out hgrow)
        have G2 : Hid (Gots w6 w3.heap.size v6 s (s.size / 30)) := by
          rw [Hid, Hdiv.out]
          show w6.ownsRow _ 53 9 v6 _ (gots s (at_ / 30 + cnt))
          rw [gots_piece s (at_ / 30) s.size cnt hpc]
          exact hown'
        have G4 : Hid (Below w3.heap.size w3 w6) := F4.out.grown hgrow F4.out.size (fun k hk => (World.ownsRow.lt F2.out k hk).1)
        clear hown' hgrow F1 F2 F3 F4 HN Hdiv
        have HGA := hide (HG3.out.below G4.out)
        have HRA := hide (HR3.out.below G4.out hz3)
        have HBA : Hid (Below w.heap.size w w6) := HB3.out.trans (G4.out.mono HB3.out.size)
        go_wp2_with fail
        refine (gots_same _ _ _ _ (s.size / 30) s w6 (by omega) HGA.out G2.out).mono ?_
        rintro e w7 ⟨rfl, m7, rfl⟩
        have HB7 : Hid (Below w6.heap.size w6 (w6.drewN m7)) := below_drewN m7
        have HGB := hide (HGA.out.below HB7.out)
        have HRB := hide (HRA.out.below HB7.out HRA.out.cells.2.2)
        have HTB := hide (G1.out.below HB7.out G1.out.cells.2.2)
        have HBB : Hid (Below w.heap.size w (w6.drewN m7)) := HBA.out.trans (HB7.out.mono HBA.out.size)
        generalize w6.drewN m7 = w7 at *
        clear HGA HRA HBA HB7 G1 G2 G4
        have hrs : (s.extract (30 * (s.size / 30)) s.size).size = s.size % 30 := by simp; omega
        generalize s.extract (30 * (s.size / 30)) s.size = rest at *
        have hp1 := HRB.out.cells.1
        have hp2 := HTB.out.cells.1
        simp only []
        have hq1 : ((rest.size : Nat) : Int) = (s.size : Int).tmod 30 := by rw [hrs, Int.tmod_eq_emod_of_nonneg (by omega)]; omega
        have hq2 : ((s.size / 30 : Nat) : Int) = (s.size : Int).tdiv 30 := by rw [Int.tdiv_eq_ediv_of_nonneg (by omega)]; omega
        clear hrs
        go_wp2_with (go_at_call 19; refine (left_any _ rest _ (by assumption)).mono ?_; rintro e w' ⟨rfl, rfl⟩)
        go_loopw [13] (fun iv wr => ∃ j : Nat, iv = .int .i64 j ∧ j ≤ s.size / 30 ∧ Gots wr w.heap.size (.slice a3 (s.size / 30) c3) s (s.size / 30) ∧ Below w.heap.size w wr) (fun iv _ => s.size / 30 - (intOf iv).toNat)
        case atStart => exact ⟨0, rfl, Nat.zero_le _, HGB.out, HBB.out⟩
        case round =>
          obtain ⟨j, rfl, hj, hgj, hbj⟩ := hrel
          have HGJ := hide hgj; have HBJ := hide hbj
          clear hgj hbj
          by_cases hjl : j < s.size / 30
          · have hji : (j : Int) < ((s.size / 30 : Nat) : Int) := by omega
            obtain ⟨g3, hg3⟩ := HA3.out (by omega)
            subst hg3
            have hje : 30 * j + 30 ≤ s.size := by omega
            go_wp2_with fail
            refine (askOf_any (fr s j) wr).mono ?_
            rintro e w9 ⟨rfl, hb9⟩
            have HG9 := hide (HGJ.out.below hb9)
            have HB9 : Hid (Below w.heap.size w w9) := HBJ.out.trans (hb9.mono HBJ.out.size)
            clear hb9
            obtain ⟨x0, x1, x2, x3, x4, x5, x6, x7, dc, hgc, p0, p1, p2, p3, p4, p5, p6, p7, p8⟩ := HG9.out.at j hjl
            obtain ⟨hda, hdc⟩ := got_ask hgc
            rw [hda, hdc]
            clear hda hdc hgc
            simp only []
            go_wp2
            have hgl : g3 < w9.heap.size := World.block_lt_of_cell? _ _ p0
            have q0 : (w9.alloc (.cells #[.int .u8 x0, .int .i64 x1, .int .i64 x2, .int .i64 x3, .int .i64 x4, .int .i64 x5, .int .i64 x6, .int .i64 x7] 23)).cell? ⟨g3, j * 9, none⟩ = some (.int .u8 x0) := by rw [World.cell?_alloc_lt _ _ ⟨g3, j * 9, none⟩ hgl]; exact p0
            have q1 : (w9.alloc (.cells #[.int .u8 x0, .int .i64 x1, .int .i64 x2, .int .i64 x3, .int .i64 x4, .int .i64 x5, .int .i64 x6, .int .i64 x7] 23)).cell? ⟨g3, j * 9 + 1, none⟩ = some (.int .i64 x1) := by rw [World.cell?_alloc_lt _ _ ⟨g3, j * 9 + 1, none⟩ hgl]; exact p1
            have q2 : (w9.alloc (.cells #[.int .u8 x0, .int .i64 x1, .int .i64 x2, .int .i64 x3, .int .i64 x4, .int .i64 x5, .int .i64 x6, .int .i64 x7] 23)).cell? ⟨g3, j * 9 + 2, none⟩ = some (.int .i64 x2) := by rw [World.cell?_alloc_lt _ _ ⟨g3, j * 9 + 2, none⟩ hgl]; exact p2
            have q3 : (w9.alloc (.cells #[.int .u8 x0, .int .i64 x1, .int .i64 x2, .int .i64 x3, .int .i64 x4, .int .i64 x5, .int .i64 x6, .int .i64 x7] 23)).cell? ⟨g3, j * 9 + 3, none⟩ = some (.int .i64 x3) := by rw [World.cell?_alloc_lt _ _ ⟨g3, j * 9 + 3, none⟩ hgl]; exact p3
            have q4 : (w9.alloc (.cells #[.int .u8 x0, .int .i64 x1, .int .i64 x2, .int .i64 x3, .int .i64 x4, .int .i64 x5, .int .i64 x6, .int .i64 x7] 23)).cell? ⟨g3, j * 9 + 4, none⟩ = some (.int .i64 x4) := by rw [World.cell?_alloc_lt _ _ ⟨g3, j * 9 + 4, none⟩ hgl]; exact p4
            have q5 : (w9.alloc (.cells #[.int .u8 x0, .int .i64 x1, .int .i64 x2, .int .i64 x3, .int .i64 x4, .int .i64 x5, .int .i64 x6, .int .i64 x7] 23)).cell? ⟨g3, j * 9 + 5, none⟩ = some (.int .i64 x5) := by rw [World.cell?_alloc_lt _ _ ⟨g3, j * 9 + 5, none⟩ hgl]; exact p5
            have q6 : (w9.alloc (.cells #[.int .u8 x0, .int .i64 x1, .int .i64 x2, .int .i64 x3, .int .i64 x4, .int .i64 x5, .int .i64 x6, .int .i64 x7] 23)).cell? ⟨g3, j * 9 + 6, none⟩ = some (.int .i64 x6) := by rw [World.cell?_alloc_lt _ _ ⟨g3, j * 9 + 6, none⟩ hgl]; exact p6
            have q7 : (w9.alloc (.cells #[.int .u8 x0, .int .i64 x1, .int .i64 x2, .int .i64 x3, .int .i64 x4, .int .i64 x5, .int .i64 x6, .int .i64 x7] 23)).cell? ⟨g3, j * 9 + 7, none⟩ = some (.int .i64 x7) := by rw [World.cell?_alloc_lt _ _ ⟨g3, j * 9 + 7, none⟩ hgl]; exact p7
            have q8 : (w9.alloc (.cells #[.int .u8 x0, .int .i64 x1, .int .i64 x2, .int .i64 x3, .int .i64 x4, .int .i64 x5, .int .i64 x6, .int .i64 x7] 23)).cell? ⟨g3, j * 9 + 8, none⟩ = some (.int .i64 dc) := by rw [World.cell?_alloc_lt _ _ ⟨g3, j * 9 + 8, none⟩ hgl]; exact p8
            have A : ∀ i, (w9.alloc (.cells #[.int .u8 x0, .int .i64 x1, .int .i64 x2, .int .i64 x3, .int .i64 x4, .int .i64 x5, .int .i64 x6, .int .i64 x7] 23)).cell? ⟨w9.heap.size, i, none⟩ = (#[.int .u8 x0, .int .i64 x1, .int .i64 x2, .int .i64 x3, .int .i64 x4, .int .i64 x5, .int .i64 x6, .int .i64 x7] : Array Value)[i]? := fun i => cell_of_row _ _ i _ 23 _ (heap_alloc_new w9 _)
            have HBX : Hid (Below w9.heap.size w9 (w9.alloc (.cells #[.int .u8 x0, .int .i64 x1, .int .i64 x2, .int .i64 x3, .int .i64 x4, .int .i64 x5, .int .i64 x6, .int .i64 x7] 23))) := (Below.refl _ _).alloc (Nat.le_refl _) _
            have HG10 := hide (HG9.out.below HBX.out)
            have HB10 := hide (HB9.out.trans (HBX.out.mono HB9.out.size))
            generalize w9.alloc (.cells #[.int .u8 x0, .int .i64 x1, .int .i64 x2, .int .i64 x3, .int .i64 x4, .int .i64 x5, .int .i64 x6, .int .i64 x7] 23) = w10 at *
            clear p0 p1 p2 p3 p4 p5 p6 p7 p8 HG9 HB9 HBX
            go_quiet (fail)
            have HB11 : Hid (Below w10.heap.size w10 (w10.drewN nq)) := below_drewN nq
            have HG11 := hide (HG10.out.below HB11.out)
            have HBB11 := hide (HB10.out.trans (HB11.out.mono HB10.out.size))
            generalize w10.drewN nq = w11 at *
            go_wp2
            exact ⟨⟨j + 1, by go_num, by omega, HG11.out, HBB11.out⟩, by simp [intOf]; omega⟩
          · have hji : ¬ (j : Int) < ((s.size / 30 : Nat) : Int) := by omega
            go_wp2
            go_ret
            exact ⟨rfl, HBJ.out⟩

theorem streams_any (s : ByteArray) (a : Option Addr) (len cap : Nat) (zs : List Int) (ad : Nat → Addr) (w : World) (hs : Sent w ad)
    (hcells : ∀ i, i < len → ∃ g, a = some g ∧ w.cell? (g.add i) = some (.int .i64 (zs.getD i 0))) :
    Calls Tryd.prog 5 #[.string s, .slice a len cap] w fun e w' => e = .returned (.bool true) ∧ Below w.heap.size w w' := by
  by_cases h1 : (400 : Int) < s.size
  · exact streams_out s a len cap w (.inl h1)
  · by_cases h2 : (30 : Int) < len
    · exact streams_out s a len cap w (.inr ⟨h1, h2⟩)
    · exact streams_main s a len cap zs ad w hs (by omega) (by omega) hcells
end Go.Proofs.YtibdemdhbpkeeaaDoor
