/- Prices by its contract, of any lots. -/
import Derived.Test.YtfdapfegidbijaaDoorCvBest
import Derived.Test.YtfdapfegidbijaaDoorCvPriceFacts
import Derived.Lib.RowBridge
namespace Go.Proofs.YtfdapfegidbijaaDoor
open Go.RowKit
set_option maxRecDepth 100000

/-- a slice that holds numbers -/
def Ints (w : World) (v : Value) (ps : List Int) : Prop :=
  (ps = [] ∧ ∃ a cap, v = .slice a 0 cap) ∨ ∃ b off cap, v = .slice (some ⟨b, off, none⟩) ps.length cap ∧ ∀ i, i < ps.length → w.cell? ⟨b, off + i, none⟩ = some (.int .i64 (ps.getD i 0))
theorem Ints.later {w w' : World} {v : Value} {ps : List Int} (h : Ints w v ps) (hb : Below w.heap.size w w') : Ints w' v ps := by
  rcases h with h | ⟨b, off, cap, h1, h2⟩
  · exact .inl h
  · exact .inr ⟨b, off, cap, h1, fun i hi => cell_later hb (h2 i hi)⟩
theorem info3 : ∃ i, Tryd.prog.info? 3 = some i ∧ i.zero = some (.int .i64 0) ∧ i.size = 1 ∧ i.bytes = 8 := ⟨_, rfl, rfl, rfl, rfl⟩
def prs (l : List Cv.Lot) : List Value := l.map fun x => .int .i64 x.pr

theorem putRow_below {w : World} {B : Nat} {blk n : Nat} {d : Array Int} (hB : B ≤ blk) : Below B w (Sort.putRow (Value.int .i64) (Sort.ahead w n) blk 0 d) := by
  refine ⟨rfl, rfl, rfl, ?_, fun k hk => ?_⟩
  · rw [Sort.size_putRow]; exact Nat.le_refl _
  · show (w.heap.modify blk _)[k]? = w.heap[k]?
    rw [Array.getElem?_modify, if_neg (by omega)]
theorem grow_below {w : World} {os : Array Obj} : Below w.heap.size w (Sort.grow w os) := by
  refine ⟨rfl, rfl, rfl, ?_, fun k hk => ?_⟩
  · show w.heap.size ≤ (w.heap ++ os).size
    rw [Array.size_append]; omega
  · show (w.heap ++ os)[k]? = w.heap[k]?
    rw [Array.getElem?_append_left hk]
theorem holds_later {w w' : World} {blk : Nat} {d : Array Int} (h : Sort.Holds (Value.int .i64) w blk 0 d) (hb : Below w.heap.size w w') (hl : blk < w.heap.size) : Sort.Holds (Value.int .i64) w' blk 0 d := by
  intro j hj
  exact ⟨cell_later hb (h j hj).1, by rw [hb.frozen (p := ⟨blk, 0 + j, none⟩) hl]; exact (h j hj).2⟩
theorem holds_of_row {w : World} {base g n cap : Nat} {zs : List Int} (h : w.ownsRow base 3 1 (.slice (some ⟨g, 0, none⟩) n cap) n (zs.map fun z => .int .i64 z)) : Sort.Holds (Value.int .i64) w g 0 zs.toArray := by
  intro j hj
  have hj : j < zs.length := by simpa using hj
  have hc := World.ownsRow.cells h (g := g) rfl j (.int .i64 zs[j]) (by simp [hj])
  have hp : (⟨g, 0, none⟩ : Addr).add j = ⟨g, j, none⟩ := by unfold Addr.add; split <;> simp_all
  rw [hp] at hc
  rw [Nat.zero_add]
  refine ⟨by rw [hc]; simp [hj], ?_⟩
  rcases h.2 with ⟨e, _⟩ | ⟨g', cap', cur, e, _, hg, _⟩
  · cases e
  · simp only [Value.slice.injEq, Option.some.injEq, Addr.mk.injEq, and_true, true_and] at e
    rw [e.1]
    exact frozen_of_row w g' j cur 3 hg
theorem prices_none (cap : Nat) (a : Option Addr) (w : World) : Calls Tryd.prog 18 #[.slice a 0 cap] w fun e w' => e = .returned (.slice none 0 0) ∧ w' = w := by
  go_enter Tryd.func18, Tryd.ntmps18
  go_wp2_with fail
  refine (well_none cap a w).mono ?_
  rintro e w1 ⟨rfl, rfl⟩
  simp only []
  go_wp2
  refine wp_loop_rounds 1 ?_
  rw [rounds_succ]
  go_wp2_with fail
  refine (slices_Sort_int_none _ _ _).mono ?_
  rintro e w2 ⟨rfl, rfl⟩
  simp only []
  go_wp2_with fail
  refine (slices_Compact_int_empty _ _ _).mono ?_
  rintro e w2 ⟨rfl, rfl⟩
  simp only []
  go_wp2
  go_ret
  exact ⟨rfl, rfl⟩
theorem prices_bad' (b off cap n : Nat) (l : List Cv.Lot) (T : TypeId) (v1 v6 v7 : Value) (w : World) (hn : Hid (l.length = n)) (hcap : n ≤ cap) (hl : Hid (LotsAt w b off l)) (he : Hid (Er w T v1 v6 v7)) (hbad : Hid (¬ Cv.Well l)) :
    Calls Tryd.prog 18 #[.slice (some ⟨b, off, none⟩) n cap] w fun e w' => e = .returned (.slice none 0 0) ∧ Below w.heap.size w w' := by
  go_enter Tryd.func18, Tryd.ntmps18
  go_wp2_with fail
  refine (well_bad b off cap n l T v1 v6 v7 w hn hcap hl he hbad).mono ?_
  rintro e w1 ⟨rfl, hb1⟩
  have HB1 := hide hb1
  clear hb1
  simp only []
  go_wp2
  refine wp_loop_rounds 1 ?_
  rw [rounds_succ]
  go_wp2_with fail
  refine (slices_Sort_int_none _ _ _).mono ?_
  rintro e w2 ⟨rfl, rfl⟩
  simp only []
  go_wp2_with fail
  refine (slices_Compact_int_empty _ _ _).mono ?_
  rintro e w2 ⟨rfl, rfl⟩
  simp only []
  go_wp2
  go_ret
  exact ⟨rfl, HB1.out⟩

set_option maxHeartbeats 1000000 in
theorem prices_fine (b off cap n : Nat) (l : List Cv.Lot) (T : TypeId) (v1 v6 v7 : Value) (w : World) (hn : Hid (l.length = n)) (hcap : n ≤ cap) (hl : Hid (LotsAt w b off l)) (he : Hid (Er w T v1 v6 v7)) (hok : Hid (Cv.Well l)) :
    Calls Tryd.prog 18 #[.slice (some ⟨b, off, none⟩) n cap] w fun e w' => (∃ v ps, e = .returned v ∧ Cv.IsPrices l ps ∧ Ints w' v ps) ∧ Below w.heap.size w w' := by
  obtain ⟨i0, hi, hz0, hz1, hz2⟩ := info3
  have Hi := hide hi; have Hz0 := hide hz0; have Hz1 := hide hz1; have Hz2 := hide hz2
  clear hi hz0 hz1 hz2
  have h120 := hok.out.1
  rw [hn.out] at h120
  go_enter Tryd.func18, Tryd.ntmps18
  go_wp2_with fail
  refine (well_fine b off cap n l T v1 v6 v7 w hn hcap hl he hok).mono ?_
  rintro e w1 ⟨rfl, hb1⟩
  have HB1 := hide hb1
  clear hb1
  simp only []
  go_wp2
  go_loopw [3, 9] (fun v i wr => ∃ k : Nat, k ≤ n ∧ i = .int .i64 k ∧ wr.ownsRow w.heap.size 3 1 v k (prs (l.take k)) ∧ Below w.heap.size w wr) (fun _ i _ => n - (intOf i).toNat)
  case atStart => exact ⟨0, Nat.zero_le _, rfl, World.ownsRow_nil _ _ _ _, HB1.out⟩
  case round =>
    obtain ⟨k, hk, rfl, hown, hb⟩ := hrel
    have HB := hide hb; have HO := hide hown
    clear hb hown
    by_cases hlt : k < n
    · have hki : (k : Int) < n := by omega
      obtain ⟨c0, c1, c2, c3, c4⟩ := (hl.out.later HB.out) k (by rw [hn.out]; exact hlt)
      have HT := hide (Cv.take_succ (l := l) (i := k) (by rw [hn.out]; exact hlt))
      generalize Cv.nth l k = x at *
      go_wp2_with (at_builtin; refine wpList_append_own _ rfl _ _ 33 rfl w.heap.size 3 i0 (.int .i64 0) 1 8 Tryd.underlying33 Hi.out Hz0.out Hz1.out Hz2.out rfl (by decide) _ _ _ rfl ((HO.out.alloc _).alloc _) ⟨wr.heap.size + 1, 0, none⟩ 1 1 [.int .i64 x.pr] rfl rfl ?c1 ?c2 ?c3 ?c4 ?c5 ?_)
      case c1 =>
        intro j u hj
        match j, hj with
        | 0, hj =>
          have hj : Value.int .i64 x.pr = u := by simpa using hj
          subst hj
          show World.cell? _ ⟨wr.heap.size + 1, 0, none⟩ = _
          rw [show wr.heap.size + 1 = (wr.alloc (.cells #[.int .i64 x.id, .int .i64 x.ow, .int .i64 x.sd, .int .i64 x.pr, .int .i64 x.q] 44)).heap.size by simp, World.cell?_alloc_new]
          rfl
        | j + 1, hj => simp at hj
      case c2 =>
        intro u hu
        have hu : u = .int .i64 x.pr := by simpa using hu
        rw [hu]; rfl
      case c3 => unfold maxLen; omega
      case c4 => omega
      case c5 => have := HB.out.size; simp; omega
      intro v3 w3 hown' hgrow _
      have HO3 : Hid (w3.ownsRow w.heap.size 3 1 v3 (k + 1) (prs (l.take (k + 1)))) := by
        have e : prs (l.take (k + 1)) = prs (l.take k) ++ [.int .i64 x.pr] := by rw [HT.out]; simp [prs]
        show w3.ownsRow _ _ _ _ _ _
        rw [e]
        exact hown'
      have HB3 : Hid (Below w.heap.size w w3) := ((HB.out.alloc HB.out.size _).alloc (by have := HB.out.size; simp; omega) _).grown hgrow (by have := HB.out.size; simp; omega) (fun k hk => (HO.out.lt k hk).1)
      clear hown' hgrow c0 c1 c2 c3 c4
      go_wp2
      exact ⟨⟨k + 1, by omega, by go_num, HO3.out, HB3.out⟩, by simp [intOf]; omega⟩
    · have hki : ¬ (k : Int) < n := by omega
      have hkk : k = n := by omega
      have hown := HO.out
      rw [show l.take k = l by rw [hkk, ← hn.out, List.take_length], hkk] at hown
      have HO2 := hide hown
      clear hown hkk HO
      rcases HO2.out.2 with ⟨hv, h0⟩ | ⟨g, cap', cur, hv, hbg, hgg, hnc, hcm, _, _⟩
      · subst hv
        have hnil : Hid (l = []) := List.eq_nil_of_length_eq_zero (by rw [hn.out]; exact h0)
        go_wp2_with fail
        refine (slices_Sort_int_none _ _ _).mono ?_
        rintro e w2 ⟨rfl, rfl⟩
        simp only []
        go_wp2_with fail
        refine (slices_Compact_int_empty _ _ _).mono ?_
        rintro e w2 ⟨rfl, rfl⟩
        simp only []
        go_wp2
        go_ret
        exact ⟨⟨_, [], rfl, by rw [hnil.out]; exact Cv.isPrices_nil, .inl ⟨rfl, _, _, rfl⟩⟩, HB.out⟩
      · subst hv
        have hgl : g < wr.heap.size := (HO2.out.lt g rfl).2
        have HH := hide (holds_of_row (zs := l.map fun x => x.pr) (by
          have := HO2.out
          rw [show prs l = (l.map fun x => x.pr).map (fun z => .int .i64 z) by simp [prs]] at this
          exact this))
        have hzl : (l.map (·.pr)).length = n := by rw [List.length_map, hn.out]
        have HP := hide (Cv.prices_of_sort l)
        have HS := hide (slices_Sort_int g 0 cap' (l.map (·.pr)) wr HH.out hgl (by rw [hzl]; omega))
        rw [hzl] at HS
        have hsl : ((l.map (·.pr)).mergeSort fun x y => decide (x ≤ y)).length = n := by rw [List.length_mergeSort, hzl]
        have Hzl := hide hzl; have Hsl := hide hsl
        clear hzl hsl hgg HO2
        generalize (l.map (·.pr)).mergeSort (fun x y => decide (x ≤ y)) = ss at *
        generalize l.map (·.pr) = zs at *
        go_wp2_with fail
        refine HS.out.mono ?_
        rintro e w2 ⟨rfl, n1, os1, hw2⟩
        have HP1 : Hid (Sort.Holds (Value.int .i64) (Sort.putRow (Value.int .i64) (Sort.ahead wr n1) g 0 ss.toArray) g 0 ss.toArray) := Sort.holds_putRow (Value.int .i64) (Sort.ahead wr n1) g 0 zs.toArray ss.toArray HH.out (by simp [Hzl.out, Hsl.out])
        have hl1 : g < (Sort.putRow (Value.int .i64) (Sort.ahead wr n1) g 0 ss.toArray).heap.size := by rw [Sort.size_putRow]; exact hgl
        have HH2 : Hid (Sort.Holds (Value.int .i64) w2 g 0 ss.toArray) := by
          show Sort.Holds _ _ _ _ _
          rw [hw2]
          exact holds_later HP1.out grow_below hl1
        have hgl2 : g < w2.heap.size := by rw [hw2]; exact Nat.lt_of_lt_of_le hl1 grow_below.size
        have HB2 : Hid (Below w.heap.size w w2) := by
          show Below _ _ _
          rw [hw2]
          exact (HB.out.trans (putRow_below hbg)).trans (grow_below.mono (by rw [Sort.size_putRow]; exact HB.out.size))
        clear hw2 HP1 hl1 HS
        have HC := hide (slices_Compact_int g 0 cap' ss w2 HH2.out (by rw [Hsl.out]; omega) (by rw [Hsl.out]; exact hnc))
        rw [Hsl.out] at HC
        have hcl := Lib.compact_length_le ss
        rw [Hsl.out] at hcl
        have Hcl := hide hcl
        clear hcl
        generalize Lib.compact ss = ps at *
        simp only []
        go_wp2_with fail
        refine HC.out.mono ?_
        rintro e w3 ⟨rfl, q3, hw3⟩
        have HB3 : Hid (Below w.heap.size w w3) := by
          show Below _ _ _
          rw [hw3]
          exact HB2.out.trans (putRow_below hbg)
        have HI : Hid (∀ i, i < ps.length → w3.cell? ⟨g, 0 + i, none⟩ = some (.int .i64 (ps.getD i 0))) := by
          intro i hi
          have h1 := Sort.cell?_putRow (Value.int .i64) (Sort.ahead w2 q3) g 0 ss.toArray (ps ++ List.replicate (n - ps.length) 0).toArray HH2.out (by have := Hcl.out; simp [Hsl.out]; omega) i (by simp; omega)
          rw [hw3, h1]
          simp [hi, List.getElem_append_left hi, show i < ps.length + (n - ps.length) by omega]
        clear hw3 HC
        simp only []
        go_wp2
        go_ret
        exact ⟨⟨_, ps, rfl, HP.out, .inr ⟨g, 0, cap', rfl, HI.out⟩⟩, HB3.out⟩

theorem prices_any (v : Value) (l : List Cv.Lot) (T : TypeId) (v1 v6 v7 : Value) (w : World) (hv : Lots w v l) (he : Hid (Er w T v1 v6 v7)) (hok : Cv.Well l) :
    Calls Tryd.prog 18 #[v] w fun e w' => (∃ v ps, e = .returned v ∧ Cv.IsPrices l ps ∧ Ints w' v ps) ∧ Below w.heap.size w w' := by
  rcases hv with ⟨rfl, a, cap, rfl⟩ | ⟨b, off, cap, rfl, hcap, hl⟩
  · refine (prices_none cap a w).mono ?_
    rintro e w' ⟨rfl, rfl⟩
    exact ⟨⟨_, [], rfl, Cv.isPrices_nil, .inl ⟨rfl, _, _, rfl⟩⟩, Below.refl _ _⟩
  · exact prices_fine b off cap _ l T v1 v6 v7 w rfl hcap hl he hok
theorem prices_bad (v : Value) (l : List Cv.Lot) (T : TypeId) (v1 v6 v7 : Value) (w : World) (hv : Lots w v l) (he : Hid (Er w T v1 v6 v7)) (hbad : ¬ Cv.Well l) :
    Calls Tryd.prog 18 #[v] w fun e w' => e = .returned (.slice none 0 0) ∧ Below w.heap.size w w' := by
  rcases hv with ⟨rfl, a, cap, rfl⟩ | ⟨b, off, cap, rfl, hcap, hl⟩
  · exact absurd Cv.well_nil hbad
  · exact prices_bad' b off cap _ l T v1 v6 v7 w rfl hcap hl he hbad
end Go.Proofs.YtfdapfegidbijaaDoor
