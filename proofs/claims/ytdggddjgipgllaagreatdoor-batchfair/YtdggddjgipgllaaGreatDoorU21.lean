/- Function filled of package batch: the lots of one side's fills. -/
import Derived.Test.YtdggddjgipgllaaGreatDoorU15
import Derived.Test.YtdggddjgipgllaaGreatDoorU20
import Derived.Test.YtdggddjgipgllaaGreatDoorU14
namespace Go.Proofs.YtdggddjgipgllaaGreatDoor
open Go.RowKit
set_option maxRecDepth 100000

theorem filledOf_len (l : List Cv.Lot) (sd : Int) (f : Int × Int) : (Fs.filledOf l sd f).length ≤ 1 := by
  unfold Fs.filledOf; split <;> simp
theorem filled_len (l : List Cv.Lot) (sd : Int) : ∀ F, (Fs.filled l sd F).length ≤ F.length
  | [] => Nat.le_refl _
  | f :: F => by
    have := filled_len l sd F
    have := filledOf_len l sd f
    rw [Fs.filled, List.length_append, List.length_cons]; omega
theorem filled_snoc (l : List Cv.Lot) (sd : Int) (F : List (Int × Int)) (f : Int × Int) : Fs.filled l sd (F ++ [f]) = Fs.filled l sd F ++ Fs.filledOf l sd f := by
  rw [Fs.filled_append, Fs.filled, Fs.filled, List.append_nil]

set_option maxHeartbeats 1000000 in
theorem filled_some (b base bF cap n : Nat) (v : Value) (sd : Int) (l : List Cv.Lot) (F : List (Int × Int)) (w : World) (hb : Hid (Book w base b v l)) (hl : Hid (l.length ≤ 60)) (hn : Hid (F.length = n)) (hn' : n ≤ 400)
    (hF : Hid (∀ i, i < n → w.cell? ⟨bF, i * 2, none⟩ = some (.int .i64 (fnth F i).1) ∧ w.cell? ⟨bF, i * 2 + 1, none⟩ = some (.int .i64 (fnth F i).2))) :
    Calls Tryz.prog 90 #[.pointer (some ⟨b, 0, none⟩), .int .i64 sd, .slice (some ⟨bF, 0, none⟩) n cap] w fun e w' => ∃ v', e = .returned v' ∧ w'.ownsRow w.heap.size 56 5 v' (Fs.filled l sd F).length (flat (Fs.filled l sd F)) ∧ Below w.heap.size w w' := by
  obtain ⟨i0, z0, hi, hz0, hz1, hz2, hz3⟩ := info110
  have Hi := hide hi; have Hz0 := hide hz0; have Hz1 := hide hz1; have Hz2 := hide hz2; have Hz3 := hide hz3
  clear hi hz0 hz1 hz2 hz3
  go_enter Tryz.func90, Tryz.ntmps90
  go_wp2
  go_loopw [7, 14] (fun u i wr => ∃ (k : Nat) (zs : List Cv.Lot), k ≤ n ∧ i = .int .i64 k ∧ zs = Fs.filled l sd (F.take k) ∧ zs.length ≤ k ∧ wr.ownsRow w.heap.size 56 5 u zs.length (flat zs) ∧ Below w.heap.size w wr) (fun _ i _ => n - (intOf i).toNat)
  case atStart => exact ⟨0, [], Nat.zero_le _, rfl, rfl, Nat.le_refl _, ⟨rfl, .inl ⟨rfl, rfl⟩⟩, Below.refl _ _⟩
  case round =>
    obtain ⟨k, zs, hk, rfl, hzs, hzl, hrow, hbl⟩ := hrel
    have HZS := hide hzs; have HROW := hide hrow; have HBL := hide hbl
    clear hzs hrow hbl
    by_cases hlt : k < n
    · have hki : (k : Int) < n := by omega
      obtain ⟨c0, c1⟩ := hF.out k hlt
      have c0 := cell_later HBL.out c0
      have c1 := cell_later HBL.out c1
      have HSN : Hid (Fs.filled l sd (F.take (k + 1)) = zs ++ Fs.filledOf l sd (fnth F k)) := by
        show _ = _
        rw [take_fnth (by rw [hn.out]; exact hlt), filled_snoc, ← HZS.out]
      obtain ⟨⟨id, q⟩, hfe⟩ : ∃ f, fnth F k = f := ⟨_, rfl⟩
      rw [hfe] at c0 c1 HSN
      clear hfe
      simp only [] at c0 c1
      have hb1 : Below wr.heap.size wr (wr.alloc (.cells #[.int .i64 id, .int .i64 q] 54)) := (Below.refl _ _).alloc (Nat.le_refl _) _
      have HGET := hide (get_any b base v id l (wr.alloc (.cells #[.int .i64 id, .int .i64 q] 54)) ((hb.out.later (HBL.out)).later hb1) hl.out)
      have hd : (wr.alloc (.cells #[.int .i64 id, .int .i64 q] 54)).heap[wr.heap.size]? = some (.cells #[.int .i64 id, .int .i64 q] 54 (0, 0)) := heap_alloc_new _ _
      have HD := hide hd; have HB1 := hide (HBL.out.trans (hb1.mono HBL.out.size))
      have HR1 := hide (HROW.out.alloc (.cells #[.int .i64 id, .int .i64 q] 54))
      clear hd hb1
      obtain ⟨D, hDe⟩ : ∃ D, wr.heap.size = D := ⟨_, rfl⟩
      have HDe := hide hDe
      clear hDe
      cases hh : Cv.has l id with
      | false =>
        have HFO : Hid (Fs.filledOf l sd (id, q) = []) := by show _ = _; unfold Fs.filledOf; rw [if_neg (by simp [hh])]
        rw [hh, show Bk.getX l id = Cv.z by unfold Bk.getX; rw [hh]; rfl] at HGET
        unfold lotV Cv.z at HGET
        go_wp2_with fail
        refine HGET.out.mono ?_
        rintro e w2 ⟨rfl, hb2⟩
        have HB2 := hide (HB1.out.trans (hb2.mono HB1.out.size))
        have HR2 := hide (row_later HR1.out hb2)
        clear hb2 HGET HR1 HB1 HD
        simp only []
        have HB3 := hide (HB2.out.alloc HB2.out.size (.cells #[.int .i64 0, .int .i64 0, .int .i64 0, .int .i64 0, .int .i64 0] 56))
        have HR3 := hide (HR2.out.alloc (.cells #[.int .i64 0, .int .i64 0, .int .i64 0, .int .i64 0, .int .i64 0] 56))
        go_wp2
        refine ⟨⟨k + 1, zs, by omega, by go_num, by rw [HSN.out, HFO.out, List.append_nil], by omega, HR3.out, HB3.out⟩, by simp [intOf]; omega⟩
      | true =>
        rw [hh, show Bk.getX l id = Cv.nth l (Bk.pos l id) by unfold Bk.getX; rw [if_pos hh]] at HGET
        have HFO : Hid (Fs.filledOf l sd (id, q) = if (Cv.nth l (Bk.pos l id)).sd = sd then [Pu.only (Cv.nth l (Bk.pos l id)) q] else []) := by
          show _ = _
          unfold Fs.filledOf
          by_cases hs : (Cv.nth l (Bk.pos l id)).sd = sd
          · rw [if_pos ⟨hh, hs⟩, if_pos hs]
          · rw [if_neg (fun h => hs h.2), if_neg hs]
        generalize Cv.nth l (Bk.pos l id) = X at *
        obtain ⟨x0, x1, x2, x3, x4⟩ := X
        unfold lotV at HGET
        simp only [Pu.only] at HFO HGET
        by_cases hs : x2 = sd
        · subst hs
          rw [if_pos rfl] at HFO
          go_wp2_with fail
          refine HGET.out.mono ?_
          rintro e w2 ⟨rfl, hb2⟩
          have HB2 := hide (HB1.out.trans (hb2.mono HB1.out.size))
          have HR2 := hide (row_later HR1.out hb2)
          have hd2 : w2.heap[D]? = some (.cells #[.int .i64 id, .int .i64 q] 54 (0, 0)) := by rw [← HDe.out, hb2.block _ (lt_of_block HD.out)]; exact HD.out
          rw [HDe.out]
          have d1 : w2.cell? ⟨D, 1, none⟩ = some (.int .i64 q) := by rw [cell_of_row w2 D 1 _ _ _ hd2]; rfl
          have hDl := lt_of_block hd2
          clear hb2 HGET HR1 HB1 HD hd2
          have HB3 := hide (HB2.out.alloc HB2.out.size (.cells #[.int .i64 x0, .int .i64 x1, .int .i64 x2, .int .i64 x3, .int .i64 q] 56))
          have HR3 := hide (HR2.out.alloc (.cells #[.int .i64 x0, .int .i64 x1, .int .i64 x2, .int .i64 x3, .int .i64 q] 56))
          simp only []
          go_wp2_with (at_builtin; refine wpList_append_own_at _ rfl _ _ 37 rfl w.heap.size 56 i0 z0 5 40 Tryz.underlying37 Hi.out Hz0.out Hz1.out Hz2.out Hz3.out (by decide) _ _ _ rfl (HR3.out.alloc _) ⟨w2.heap.size + 1, 0, none⟩ 1 1 (lotCells ⟨x0, x1, x2, x3, q⟩) rfl rfl ?c1 ?c2 ?c3 ?c4 ?c5 ?_)
          case c1 => exact fun j u hj => cell_new5 _ ⟨x0, x1, x2, x3, q⟩ 56 _ (by simp) j u hj
          case c2 => exact fun u hu => by
                          simp only [lotCells, List.mem_cons, List.not_mem_nil, or_false] at hu
                          rcases hu with rfl | rfl | rfl | rfl | rfl <;> rfl
          case c3 => unfold maxLen; omega
          case c4 => omega
          case c5 => have := HB3.out.size; simp at this ⊢; omega
          intro ve we hown' hgrow _ hloc
          have HRe : Hid (we.ownsRow w.heap.size 56 5 ve (zs ++ [Cv.Lot.mk x0 x1 x2 x3 q]).length (flat (zs ++ [Cv.Lot.mk x0 x1 x2 x3 q]))) := by
            show World.ownsRow _ _ _ _ _ _ _
            rw [show flat (zs ++ [Cv.Lot.mk x0 x1 x2 x3 q]) = flat zs ++ lotCells ⟨x0, x1, x2, x3, q⟩ by simp [flat], List.length_append]
            exact hown'
          have hlt2 := (HR3.out.alloc (.cells #[.int .i64 x0, .int .i64 x1, .int .i64 x2, .int .i64 x3, .int .i64 q] 56)).lt
          have HBe : Hid (Below w.heap.size w we) := (HB3.out.alloc HB3.out.size _).grown hgrow (by have := HB3.out.size; simp at this ⊢; omega) (fun j hj => (hlt2 j hj).1)
          clear hown' hgrow hloc hlt2 HR3 HB3 HR2 HB2 d1
          go_wp2
          refine ⟨⟨k + 1, zs ++ [Cv.Lot.mk x0 x1 x2 x3 q], by omega, by go_num, by rw [HSN.out, HFO.out], by simp; omega, HRe.out, HBe.out⟩, by simp [intOf]; omega⟩
        · have hs' : (x2 == sd) = false := by simpa using hs
          rw [if_neg hs] at HFO
          go_wp2_with fail
          refine HGET.out.mono ?_
          rintro e w2 ⟨rfl, hb2⟩
          have HB2 := hide (HB1.out.trans (hb2.mono HB1.out.size))
          have HR2 := hide (row_later HR1.out hb2)
          clear hb2 HGET HR1 HB1 HD
          have HB3 := hide (HB2.out.alloc HB2.out.size (.cells #[.int .i64 x0, .int .i64 x1, .int .i64 x2, .int .i64 x3, .int .i64 x4] 56))
          have HR3 := hide (HR2.out.alloc (.cells #[.int .i64 x0, .int .i64 x1, .int .i64 x2, .int .i64 x3, .int .i64 x4] 56))
          simp only []
          go_wp2
          refine ⟨⟨k + 1, zs, by omega, by go_num, by rw [HSN.out, HFO.out, List.append_nil], by omega, HR3.out, HB3.out⟩, by simp [intOf]; omega⟩
    · have hki : ¬ (k : Int) < n := by omega
      have hzz : zs = Fs.filled l sd F := by rw [HZS.out, List.take_of_length_le (by rw [hn.out]; omega)]
      subst hzz
      go_wp2
      go_ret
      exact ⟨_, rfl, HROW.out, HBL.out⟩
theorem filled_any (b base : Nat) (v vF : Value) (sd : Int) (l : List Cv.Lot) (F : List (Int × Int)) (w : World) (hb : Hid (Book w base b v l)) (hl : Hid (l.length ≤ 60)) (hn : F.length ≤ 400) (hF : Hid (Fls w vF F)) :
    Calls Tryz.prog 90 #[.pointer (some ⟨b, 0, none⟩), .int .i64 sd, vF] w fun e w' => ∃ v', e = .returned v' ∧ w'.ownsRow w.heap.size 56 5 v' (Fs.filled l sd F).length (flat (Fs.filled l sd F)) ∧ Below w.heap.size w w' := by
  rcases hF.out with ⟨rfl, a, cap, rfl⟩ | ⟨bF, cap, rfl, hc⟩
  · go_enter Tryz.func90, Tryz.ntmps90
    go_wp2
    refine wp_loop_rounds 1 ?_
    rw [rounds_succ]
    go_wp2
    go_ret
    exact ⟨_, rfl, ⟨rfl, .inl ⟨rfl, rfl⟩⟩, Below.refl _ _⟩
  · exact filled_some b base bF cap F.length v sd l F w hb hl rfl hn hc
end Go.Proofs.YtdggddjgipgllaaGreatDoor
/- A slice of fills beside a floor; two slices of lots that are apart. -/
namespace Go.Proofs.YtdggddjgipgllaaGreatDoor
open Go.RowKit
set_option maxRecDepth 100000

def FRow (w : World) (v : Value) (F : List (Int × Int)) : Prop :=
  (F = [] ∧ ∃ a cap, v = .slice a 0 cap) ∨ ∃ g cap cur, v = .slice (some ⟨g, 0, none⟩) F.length cap ∧ (∀ i, i < F.length → w.cell? ⟨g, i * 2, none⟩ = some (.int .i64 (fnth F i).1) ∧ w.cell? ⟨g, i * 2 + 1, none⟩ = some (.int .i64 (fnth F i).2)) ∧ w.heap[g]? = some (.cells cur 54 (0, 0))
section
variable {w w' : World} {v : Value} {F : List (Int × Int)}
theorem FRow.fls (h : FRow w v F) : Fls w v F := by
  rcases h with h | ⟨g, cap, cur, h1, h2, _⟩
  · exact .inl h
  · exact .inr ⟨g, cap, h1, h2⟩
theorem FRow.keep (h : FRow w v F) (hk : ∀ (g : Nat) (cur : Array Value), w.heap[g]? = some (Obj.cells cur 54 (0, 0)) → w'.heap[g]? = w.heap[g]?) : FRow w' v F := by
  rcases h with h | ⟨g, cap, cur, h1, h2, h3⟩
  · exact .inl h
  · refine .inr ⟨g, cap, cur, h1, fun i hi => ?_, by rw [hk g cur h3]; exact h3⟩
    rw [World.cell?_of_block (a := ⟨g, i * 2, none⟩) (hk g cur h3), World.cell?_of_block (a := ⟨g, i * 2 + 1, none⟩) (hk g cur h3)]
    exact h2 i hi
theorem FRow.later (h : FRow w v F) (hb : Below w.heap.size w w') : FRow w' v F := h.keep fun g _ hg => hb.block g (lt_of_block hg)
theorem FRow.save {q : Nat} (h : FRow w v F) (hs : Save w w' q) {a : Array Value} {T : TypeId} (hq : w.heap[q]? = some (.cells a T (0, 0))) (hT : T ≠ 54) : FRow w' v F :=
  h.keep fun g _ hg => hs.block g (lt_of_block hg) (Ne.symm (blkT hq hg hT))
theorem FRow.book {base p : Nat} {u u' : Value} {l : List Cv.Lot} (h : FRow w v F) (hb : Book w base p u l) (hs : Step w w' p u u') : FRow w' v F :=
  h.keep fun g _ hg => hs.only.block g (lt_of_block hg) (fun e => by
    have : g = p := by simpa using e
    exact blkT hg hb.cell (by decide) this) (fun e => rowT hb.row hg (by decide) e.symm)
theorem FRow.of_row {base : Nat} (h : w.ownsRow base 54 2 v F.length (fcells F)) : FRow w v F := by
  rcases fls_of h with h1 | ⟨g, cap, h1, h2⟩
  · exact .inl h1
  · rcases h.2 with ⟨e, _⟩ | ⟨g', cap', cur, e, hg, hgg, _⟩
    · rw [e] at h1; cases h1
    · rw [e] at h1
      simp only [Value.slice.injEq, Option.some.injEq, Addr.mk.injEq] at h1
      obtain ⟨⟨rfl, _, _⟩, _, rfl⟩ := h1
      exact .inr ⟨g', cap', cur, e, h2, hgg⟩
theorem FRow.val (h : FRow w v F) : ∃ a cap, v = .slice a F.length cap := by
  rcases h with ⟨rfl, a, cap, rfl⟩ | ⟨g, cap, cur, rfl, _⟩
  · exact ⟨a, cap, rfl⟩
  · exact ⟨_, _, rfl⟩
end
theorem OwnL.nil {w : World} {g g' : Nat} {v : Value} (h : OwnL w g v []) : OwnL w g' v [] := by
  rcases h with h | ⟨o, cap, cur, h1, h2, h3, h4⟩
  · exact .inl h
  · exact .inl ⟨rfl, _, _, h1⟩
/-- two slices, the one made ahead of the other -/
theorem own_pair {w1 w2 : World} {B base1 base2 : Nat} {v1 v2 : Value} {l1 l2 : List Cv.Lot} (h1 : w1.ownsRow base1 56 5 v1 l1.length (flat l1)) (h12 : Below w1.heap.size w1 w2) (h2 : w2.ownsRow base2 56 5 v2 l2.length (flat l2)) (hb1 : B ≤ base1) (hb2 : w1.heap.size ≤ base2) (hB : B ≤ w1.heap.size) :
    ∃ g1 g2, OwnL w2 g1 v1 l1 ∧ OwnL w2 g2 v2 l2 ∧ g1 ≠ g2 ∧ B ≤ g1 ∧ B ≤ g2 := by
  obtain ⟨g1, a1, c1⟩ := OwnL.of_row (row_later h1 h12)
  obtain ⟨g2, a2, c2⟩ := OwnL.of_row h2
  have hlt1 := h1.lt
  rcases c1 with rfl | ⟨c1, e1⟩
  · rcases c2 with rfl | ⟨c2, e2⟩
    · exact ⟨B, B + 1, a1.nil, a2.nil, by omega, by omega, by omega⟩
    · exact ⟨g2 + 1, g2, a1.nil, a2, by omega, by omega, by omega⟩
  · have := hlt1 g1 e1
    rcases c2 with rfl | ⟨c2, e2⟩
    · exact ⟨g1, g1 + 1, a1, a2.nil, by omega, by omega, by omega⟩
    · exact ⟨g1, g2, a1, a2, by omega, by omega, by omega⟩
end Go.Proofs.YtdggddjgipgllaaGreatDoor
