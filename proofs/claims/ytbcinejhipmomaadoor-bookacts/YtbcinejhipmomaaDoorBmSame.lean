/- SameLots, sameLevels, and the document's Owner and Levels of a book, by their contracts. -/
import Derived.Test.YtbcinejhipmomaaDoorBmOps2
import Derived.Test.YtbcinejhipmomaaDoorBkArg
namespace Go.Proofs.YtbcinejhipmomaaDoor
open Go.RowKit
set_option maxRecDepth 100000

theorem lots_none (c1 c2 : Nat) (a1 a2 : Option Addr) (w : World) : Calls Tryd.prog 35 #[.slice a1 0 c1, .slice a2 0 c2] w fun e w' => e = .returned (.bool true) ∧ Below w.heap.size w w' := by
  go_enter Tryd.func35, Tryd.ntmps35
  go_wp2
  refine wp_loop_rounds 1 ?_
  rw [rounds_succ]
  go_wp2
  go_ret
  exact ⟨rfl, Below.refl _ _⟩
set_option maxHeartbeats 1000000 in
theorem lots_cells (b1 o1 b2 o2 c1 c2 n : Nat) (l : List Cv.Lot) (w : World) (hn : n ≤ 1000) (hl : Hid (l.length = n)) (h1 : Hid (LotsAt w b1 o1 l)) (h2 : Hid (LotsAt w b2 o2 l)) :
    Calls Tryd.prog 35 #[.slice (some ⟨b1, o1, none⟩) n c1, .slice (some ⟨b2, o2, none⟩) n c2] w fun e w' => e = .returned (.bool true) ∧ Below w.heap.size w w' := by
  go_enter Tryd.func35, Tryd.ntmps35
  go_wp2
  go_loopw [5] (fun i wr => ∃ k : Nat, k ≤ n ∧ i = .int .i64 k ∧ Below w.heap.size w wr) (fun i _ => n - (intOf i).toNat)
  case atStart => exact ⟨0, by omega, rfl, Below.refl _ _⟩
  case round =>
    obtain ⟨k, hk, rfl, hb⟩ := hrel
    have HB := hide hb
    clear hb
    by_cases hlt : k < n
    · obtain ⟨c0, c1, c2, c3, c4⟩ := (h1.out.later HB.out) k (by rw [hl.out]; exact hlt)
      obtain ⟨d0, d1, d2, d3, d4⟩ := (h2.out.later HB.out) k (by rw [hl.out]; exact hlt)
      have hki : (k : Int) < n := by omega
      generalize Cv.nth l k = x at *
      go_wp2
      go_quiet (fail)
      go_wp2
      exact ⟨⟨k + 1, by omega, by go_num, HB.out.trans ((blw_drew nq).mono HB.out.size)⟩, by simp [intOf]; omega⟩
    · go_wp2
      go_ret
      exact ⟨rfl, HB.out⟩
/-- a row of lots, by its cells -/
theorem row_lots {w : World} {base : Nat} {v : Value} {l : List Cv.Lot} (h : w.ownsRow base 43 5 v l.length (flat l)) : (v = .slice none 0 0 ∧ l = []) ∨ ∃ g cap, v = .slice (some ⟨g, 0, none⟩) l.length cap ∧ LotsAt w g 0 l := by
  rcases h.2 with ⟨e, e2⟩ | ⟨g, cap, cur, e, hg, hgg, hle, _, _, _⟩
  · exact .inl ⟨e, List.eq_nil_of_length_eq_zero e2⟩
  · refine .inr ⟨g, cap, e, lotsAt_of_flat fun j u hu => ?_⟩
    have := World.ownsRow.cells h (g := g) (by rw [e]; rfl) j u hu
    have hp : (⟨g, 0, none⟩ : Addr).add j = ⟨g, j, none⟩ := by unfold Addr.add; split <;> simp_all
    rwa [hp] at this
theorem lots_same {base base' : Nat} (v1 v2 : Value) (l : List Cv.Lot) (w : World) (hn : l.length ≤ 1000) (h1 : w.ownsRow base 43 5 v1 l.length (flat l)) (h2 : w.ownsRow base' 43 5 v2 l.length (flat l)) :
    Calls Tryd.prog 35 #[v1, v2] w fun e w' => e = .returned (.bool true) ∧ Below w.heap.size w w' := by
  rcases row_lots h1 with ⟨rfl, e⟩ | ⟨g1, c1, rfl, a1⟩
  · rcases row_lots h2 with ⟨rfl, _⟩ | ⟨g2, c2, rfl, a2⟩
    · exact lots_none _ _ _ _ w
    · subst e; exact lots_none _ _ _ _ w
  · rcases row_lots h2 with ⟨rfl, e⟩ | ⟨g2, c2, rfl, a2⟩
    · subst e; exact lots_none _ _ _ _ w
    · exact lots_cells g1 0 g2 0 c1 c2 _ l w hn rfl a1 a2

set_option maxHeartbeats 1000000 in
theorem mowner_some (p base g cap n : Nat) (ow : Int) (l : List Cv.Lot) (w : World) (hb : Hid (MBook w base p (.slice (some ⟨g, 0, none⟩) n cap) l)) (hn : Hid (l.length = n)) (hn' : n ≤ 60) (hl : Hid (LotsAt w g 0 l)) :
    Calls Tryd.prog 38 #[.pointer (some ⟨p, 0, none⟩), .int .i64 ow] w fun e w' => ∃ v, e = .returned v ∧ Ints w' v (Bk.ids l ow) ∧ Below w.heap.size w w' := by
  have HCE := hide (cell_of_one hb.out.cell)
  have hpl := hb.out.lt
  obtain ⟨i0, hi, hz0, hz1, hz2⟩ := info3
  have Hi := hide hi; have Hz0 := hide hz0; have Hz1 := hide hz1; have Hz2 := hide hz2
  clear hi hz0 hz1 hz2
  go_enter Tryd.func38, Tryd.ntmps38
  go_wp2
  go_loopw [5, 6] (fun v i wr => ∃ (k : Nat) (zs : List Int), k ≤ n ∧ i = .int .i64 k ∧ zs = Bk.ids (l.take k) ow ∧ wr.ownsRow w.heap.size 3 1 v zs.length (iV zs) ∧ Below w.heap.size w wr) (fun _ i _ => n - (intOf i).toNat)
  case atStart => exact ⟨0, [], Nat.zero_le _, rfl, rfl, World.ownsRow_nil _ _ _ _, Below.refl _ _⟩
  case round =>
    obtain ⟨k, zs, hk, rfl, hzs, hown, hbl⟩ := hrel
    have HZ := hide hzs; have HB := hide hbl; have HO := hide hown
    clear hzs hown hbl
    have hcell := cell_later HB.out HCE.out
    by_cases hlt : k < n
    · have hki : (k : Int) < n := by omega
      obtain ⟨c0, c1, c2, c3, c4⟩ := (hl.out.later HB.out) k (by rw [hn.out]; exact hlt)
      simp only [Nat.zero_add] at c0 c1 c2 c3 c4
      have HT := hide (Cv.take_succ (l := l) (i := k) (by rw [hn.out]; exact hlt))
      generalize Cv.nth l k = x at *
      have HLZ : Hid (zs.length ≤ 60) := by
        have := Bk.ids_length (l.take k) ow
        rw [← HZ.out, List.length_take] at this
        show _ ≤ _
        omega
      by_cases hs : x.ow = ow
      · have hsb : (x.ow == ow) = true := by simp [hs]
        have HZ' : Hid (zs ++ [x.id] = Bk.ids (l.take (k + 1)) ow) := by show _ = _; rw [HT.out, Bk.ids_snoc, if_pos hs, HZ.out]
        clear hs
        go_wp2_with (at_builtin; refine wpList_append_own _ rfl _ _ 40 rfl w.heap.size 3 i0 (.int .i64 0) 1 8 Tryd.underlying40 Hi.out Hz0.out Hz1.out Hz2.out rfl (by decide) _ _ _ rfl (HO.out.alloc _) ⟨wr.heap.size, 0, none⟩ 1 1 [.int .i64 x.id] rfl rfl ?c1 ?c2 ?c3 ?c4 ?c5 ?_)
        case c1 => exact fun j u hj => cell_new1 wr #[.int .i64 x.id] 3 u j _ rfl hj
        case c2 => intro u hu; have hu : u = .int .i64 x.id := by simpa using hu
                   rw [hu]; rfl
        case c3 => have := HLZ.out; unfold maxLen; omega
        case c4 => have := HLZ.out; omega
        case c5 => have := HB.out.size; simp; omega
        intro v3 w3 hown' hgrow _
        have HO3 : Hid (w3.ownsRow w.heap.size 3 1 v3 (zs ++ [x.id]).length (iV (zs ++ [x.id]))) := by
          show w3.ownsRow _ _ _ _ _ _
          rw [List.length_append]
          simpa [iV] using hown'
        have hlt3 := HO.out.lt
        have HB3 : Hid (Below w.heap.size w w3) := (HB.out.alloc HB.out.size _).grown hgrow (by have := HB.out.size; simp; omega) (fun j hj => (hlt3 j hj).1)
        clear hown' hgrow HO hlt3
        go_wp2
        exact ⟨⟨k + 1, zs ++ [x.id], by omega, by go_num, HZ'.out, HO3.out, HB3.out⟩, by simp [intOf]; omega⟩
      · have hsb : (x.ow == ow) = false := by simp [hs]
        have HZ' : Hid (zs = Bk.ids (l.take (k + 1)) ow) := by show _ = _; rw [HT.out, Bk.ids_snoc, if_neg hs, List.append_nil, HZ.out]
        clear hs
        go_wp2
        exact ⟨⟨k + 1, zs, by omega, by go_num, HZ'.out, HO.out, HB.out⟩, by simp [intOf]; omega⟩
    · have hki : ¬ (k : Int) < n := by omega
      have hz := HZ.out
      rw [List.take_of_length_le (by rw [hn.out]; omega)] at hz
      have HZ' := hide hz
      clear hz
      go_wp2
      go_ret
      exact ⟨_, rfl, by rw [← HZ'.out]; exact ints_of rfl HO.out, HB.out⟩
theorem mowner_none (p base : Nat) (ow : Int) (w : World) (hb : Hid (MBook w base p (.slice none 0 0) [])) :
    Calls Tryd.prog 38 #[.pointer (some ⟨p, 0, none⟩), .int .i64 ow] w fun e w' => ∃ v, e = .returned v ∧ Ints w' v (Bk.ids [] ow) ∧ Below w.heap.size w w' := by
  have hcell := cell_of_one hb.out.cell
  go_enter Tryd.func38, Tryd.ntmps38
  go_wp2
  refine wp_loop_rounds 1 ?_
  rw [rounds_succ]
  go_wp2
  go_ret
  exact ⟨_, rfl, .inl ⟨rfl, _, _, rfl⟩, Below.refl _ _⟩
theorem mowner_any (p base : Nat) (v : Value) (ow : Int) (l : List Cv.Lot) (w : World) (hb : Hid (MBook w base p v l)) (hn : Hid (l.length ≤ 60)) :
    Calls Tryd.prog 38 #[.pointer (some ⟨p, 0, none⟩), .int .i64 ow] w fun e w' => ∃ v, e = .returned v ∧ Ints w' v (Bk.ids l ow) ∧ Below w.heap.size w w' := by
  rcases hb.out.form with ⟨rfl, rfl⟩ | ⟨g, cap, rfl, hle, _, hl⟩
  · exact mowner_none p base ow w hb
  · exact mowner_some p base g cap _ ow l w hb rfl hn.out hl

theorem slev_none (c1 c2 : Nat) (a1 a2 : Option Addr) (w : World) : Calls Tryd.prog 39 #[.slice a1 0 c1, .slice a2 0 c2] w fun e w' => e = .returned (.bool true) ∧ Below w.heap.size w w' := by
  go_enter Tryd.func39, Tryd.ntmps39
  go_wp2
  refine wp_loop_rounds 1 ?_
  rw [rounds_succ]
  go_wp2
  go_ret
  exact ⟨rfl, Below.refl _ _⟩
set_option maxHeartbeats 1000000 in
theorem slev_cells (g1 g2 c1 c2 n : Nat) (L : List Bk.Lev) (w : World) (hn : n ≤ 1000) (hl : Hid (L.length = n)) (h1 : Hid (LevAt w g1 L)) (h2 : Hid (LevAt w g2 L)) :
    Calls Tryd.prog 39 #[.slice (some ⟨g1, 0, none⟩) n c1, .slice (some ⟨g2, 0, none⟩) n c2] w fun e w' => e = .returned (.bool true) ∧ Below w.heap.size w w' := by
  go_enter Tryd.func39, Tryd.ntmps39
  go_wp2
  go_loopw [5] (fun i wr => ∃ k : Nat, k ≤ n ∧ i = .int .i64 k ∧ Below w.heap.size w wr) (fun i _ => n - (intOf i).toNat)
  case atStart => exact ⟨0, by omega, rfl, Below.refl _ _⟩
  case round =>
    obtain ⟨k, hk, rfl, hb⟩ := hrel
    have HB := hide hb
    clear hb
    by_cases hlt : k < n
    · have hkl : k < L.length := by rw [hl.out]; exact hlt
      obtain ⟨c0, c1, c2⟩ := (h1.out.later HB.out) k hkl
      obtain ⟨d0, d1, d2⟩ := (h2.out.later HB.out) k hkl
      have hki : (k : Int) < n := by omega
      generalize L[k] = x at *
      clear hkl
      go_wp2
      go_quiet (fail)
      go_wp2
      exact ⟨⟨k + 1, by omega, by go_num, HB.out.trans ((blw_drew nq).mono HB.out.size)⟩, by simp [intOf]; omega⟩
    · go_wp2
      go_ret
      exact ⟨rfl, HB.out⟩
theorem levAt_row {w : World} {T : TypeId} {base g n cap : Nat} {L : List Bk.Lev} (h : w.ownsRow base T 3 (.slice (some ⟨g, 0, none⟩) n cap) n (lflat L)) : LevAt w g L := by
  intro j hj
  have key : ∀ k u, k < 3 → (levCells L[j])[k]? = some u → w.cell? ⟨g, j * 3 + k, none⟩ = some u := fun k u hk hu => by
    have hc := World.ownsRow.cells h (g := g) rfl (j * 3 + k) u (by rw [lflat_at L j k hj hk]; exact hu)
    have hp : (⟨g, 0, none⟩ : Addr).add (j * 3 + k) = ⟨g, j * 3 + k, none⟩ := by unfold Addr.add; split <;> simp_all
    rwa [hp] at hc
  exact ⟨key 0 _ (by decide) rfl, key 1 _ (by decide) rfl, key 2 _ (by decide) rfl⟩
theorem row_levs {w : World} {T : TypeId} {base : Nat} {v : Value} {L : List Bk.Lev} (h : w.ownsRow base T 3 v L.length (lflat L)) : (v = .slice none 0 0 ∧ L = []) ∨ ∃ g cap, v = .slice (some ⟨g, 0, none⟩) L.length cap ∧ LevAt w g L := by
  have h' := h
  rcases h.2 with ⟨e, e2⟩ | ⟨g, cap, cur, e, hg, hgg, hle, _, _, _⟩
  · exact .inl ⟨e, List.eq_nil_of_length_eq_zero e2⟩
  · rw [e] at h'
    exact .inr ⟨g, cap, e, levAt_row h'⟩
theorem slev_any {T T' : TypeId} {base base' : Nat} (v1 v2 : Value) (L : List Bk.Lev) (w : World) (hn : L.length ≤ 1000) (h1 : w.ownsRow base T 3 v1 L.length (lflat L)) (h2 : w.ownsRow base' T' 3 v2 L.length (lflat L)) :
    Calls Tryd.prog 39 #[v1, v2] w fun e w' => e = .returned (.bool true) ∧ Below w.heap.size w w' := by
  rcases row_levs h1 with ⟨rfl, e⟩ | ⟨g1, c1, rfl, a1⟩
  · rcases row_levs h2 with ⟨rfl, _⟩ | ⟨g2, c2, rfl, a2⟩
    · exact slev_none _ _ _ _ w
    · subst e; exact slev_none _ _ _ _ w
  · rcases row_levs h2 with ⟨rfl, e⟩ | ⟨g2, c2, rfl, a2⟩
    · subst e; exact slev_none _ _ _ _ w
    · exact slev_cells g1 g2 c1 c2 _ L w hn rfl a1 a2
end Go.Proofs.YtbcinejhipmomaaDoor
