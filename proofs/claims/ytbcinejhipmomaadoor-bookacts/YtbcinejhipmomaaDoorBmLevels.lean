/- The document's Levels of a book by its contract. -/
import Derived.Test.YtbcinejhipmomaaDoorBmSame
namespace Go.Proofs.YtbcinejhipmomaaDoor
open Go.RowKit
set_option maxRecDepth 100000

/-- levels of the first prices of a side, the best one first -/
def Bk.levsTo (l : List Cv.Lot) (sd : Int) (k : Nat) : List Bk.Lev := (((List.range k).map (Bk.pj sd)).filter fun p => !(Ra.lv l sd p).isEmpty).map (Bk.lev l sd)
theorem Bk.levsTo_all (l : List Cv.Lot) (sd : Int) : Bk.levsTo l sd 1000 = Bk.levs l sd := rfl
theorem Bk.levsTo_succ (l : List Cv.Lot) (sd : Int) (k : Nat) : Bk.levsTo l sd (k + 1) = Bk.levsTo l sd k ++ if Ra.lv l sd (Bk.pj sd k) = [] then [] else [Bk.lev l sd (Bk.pj sd k)] := by
  unfold Bk.levsTo
  rw [List.range_succ, List.map_append, List.filter_append, List.map_append]
  congr 1
  by_cases h : Ra.lv l sd (Bk.pj sd k) = []
  · simp [h]
  · have : (Ra.lv l sd (Bk.pj sd k)).isEmpty = false := by simpa using h
    simp [this, h]
theorem Bk.levsTo_len (l : List Cv.Lot) (sd : Int) (k : Nat) : (Bk.levsTo l sd k).length ≤ k := by
  unfold Bk.levsTo
  rw [List.length_map]
  exact Nat.le_trans (List.length_filter_le _ _) (by simp)
theorem lv_snoc (t : List Cv.Lot) (x : Cv.Lot) (sd p : Int) : Ra.lv (t ++ [x]) sd p = Ra.lv t sd p ++ if x.sd = sd ∧ x.pr = p then [x] else [] := by
  unfold Ra.lv
  rw [List.filter_append]
  congr 1
  by_cases h : x.sd = sd ∧ x.pr = p
  · simp [h]
  · simp only [if_neg h]
    rw [List.filter_eq_nil_iff]
    intro y hy
    have : y = x := by simpa using hy
    subst this
    simpa using h
theorem info98 : ∃ i z, Tryd.prog.info? 98 = some i ∧ i.zero = some z ∧ i.size = 3 ∧ i.bytes = 24 ∧ z.cells.size = 3 := ⟨_, _, rfl, rfl, rfl, rfl, rfl⟩

theorem hs_set {w : World} {B j : Nat} {T : TypeId} {a a' : Array Value} (v : Value) (h : w.heap[B]? = some (.cells a T (0, 0))) (e : a.setIfInBounds j v = a') : (w.setCell ⟨B, j, none⟩ v).heap[B]? = some (.cells a' T (0, 0)) := by
  rw [setCell_eq_setRow w B j _ _ _ _ h, e]
  exact setRow_heap w B _ _ _ _ h
set_option maxHeartbeats 4000000 in
theorem mlevels_some (p base g cap n : Nat) (sd : Int) (l : List Cv.Lot) (w : World) (hb : Hid (MBook w base p (.slice (some ⟨g, 0, none⟩) n cap) l)) (hn : Hid (l.length = n)) (hn' : n ≤ 60) (hok : Hid (Cv.Oks l)) (hl : Hid (LotsAt w g 0 l)) :
    Calls Tryd.prog 40 #[.pointer (some ⟨p, 0, none⟩), .int .i64 sd] w fun e w' => ∃ v, e = .returned v ∧ w'.ownsRow w.heap.size 98 3 v (Bk.levs l sd).length (lflat (Bk.levs l sd)) ∧ Below w.heap.size w w' := by
  have HCE := hide (cell_of_one hb.out.cell)
  have hpl := hb.out.lt
  have hgl : n = 0 ∨ g < w.heap.size := by
    by_cases h : n = 0
    · exact .inl h
    · exact .inr (World.block_lt_of_cell? _ _ (hl.out 0 (by rw [hn.out]; omega)).1)
  have HGL := hide hgl
  clear hgl
  go_enter Tryd.func40, Tryd.ntmps40
  go_wp2
  go_loopw [5, 6] (fun v i wr => ∃ (k : Nat), k ≤ 1000 ∧ i = .int .i64 ((k : Int) + 1) ∧ wr.ownsRow w.heap.size 98 3 v (Bk.levsTo l sd k).length (lflat (Bk.levsTo l sd k)) ∧ Below w.heap.size w wr) (fun _ i _ => 1001 - (intOf i).toNat)
  case atStart => exact ⟨0, by decide, rfl, World.ownsRow_nil _ _ _ _, Below.refl _ _⟩
  case round =>
    obtain ⟨k, hk, rfl, hown, hbl⟩ := hrel
    have HB := hide hbl; have HO := hide hown
    clear hown hbl
    by_cases hlt : k < 1000
    · have hki : (k : Int) + 1 ≤ 1000 := by omega
      have HL0 := hide (Bk.levsTo_len l sd k)
      have HL1 := hide (Bk.levsTo_succ l sd k)
      by_cases hs0 : sd = 0
      · have hPe : Bk.pj sd k = (1001 - ((k : Int) + 1)) := by unfold Bk.pj; rw [if_pos hs0]; omega
        rw [hPe] at HL1
        have HP := hide hPe
        have hsb : (sd == 0) = true := by simp [hs0]
        clear hPe hs0
        have hbA : Below wr.heap.size wr (wr.alloc (.cells #[.int .i64 (1001 - ((k : Int) + 1)), .int .i64 0, .int .i64 0] 98)) := (Below.refl _ _).alloc (Nat.le_refl _) _
        have HBA : Hid (Below w.heap.size w (wr.alloc (.cells #[.int .i64 (1001 - ((k : Int) + 1)), .int .i64 0, .int .i64 0] 98))) := HB.out.trans (hbA.mono HB.out.size)
        have HOA := hide (HO.out.alloc (.cells #[.int .i64 (1001 - ((k : Int) + 1)), .int .i64 0, .int .i64 0] 98))
        have HNA : Hid ((wr.alloc (.cells #[.int .i64 (1001 - ((k : Int) + 1)), .int .i64 0, .int .i64 0] 98)).heap[wr.heap.size]? = some (.cells #[.int .i64 (1001 - ((k : Int) + 1)), .int .i64 0, .int .i64 0] 98 (0, 0))) := heap_alloc_new _ _
        have HOL := hide HO.out.lt
        have hwB : w.heap.size ≤ wr.heap.size := HB.out.size
        go_wp2
        obtain ⟨B, hB⟩ : ∃ B, wr.heap.size = B := ⟨_, rfl⟩
        rw [hB] at HNA HOL hwB ⊢
        generalize wr.alloc (.cells #[.int .i64 (1001 - ((k : Int) + 1)), .int .i64 0, .int .i64 0] 98) = wa at *
        clear hB hbA HB HO
        have hPr : (1 : Int) ≤ (1001 - ((k : Int) + 1)) ∧ (1001 - ((k : Int) + 1)) ≤ 1000 := by omega
        have HLV : Hid (Bk.lev l sd (1001 - ((k : Int) + 1)) = ⟨(1001 - ((k : Int) + 1)), Ra.tot (Ra.lv l sd (1001 - ((k : Int) + 1))), (Ra.lv l sd (1001 - ((k : Int) + 1))).length⟩) := rfl
        obtain ⟨Z, hZ⟩ : ∃ Z : Int, (1001 - ((k : Int) + 1)) = Z := ⟨_, rfl⟩
        rw [hZ] at HL1 HNA HLV hPr ⊢
        have HZ := hide hZ
        clear hZ
        go_loopw [9] (fun i wz => ∃ (j : Nat), j ≤ n ∧ i = .int .i64 j ∧ wz.heap[B]? = some (.cells #[.int .i64 Z, .int .i64 (Ra.tot (Ra.lv (l.take j) sd Z)), .int .i64 ((Ra.lv (l.take j) sd Z).length : Nat)] 98 (0, 0)) ∧ wz.ownsRow w.heap.size 98 3 u5 (Bk.levsTo l sd k).length (lflat (Bk.levsTo l sd k)) ∧ Below w.heap.size w wz) (fun i _ => n - (intOf i).toNat)
        case atStart => exact ⟨0, Nat.zero_le _, rfl, HNA.out, HOA.out, HBA.out⟩
        case round =>
          obtain ⟨j, hj, rfl, hcel, hown, hbl⟩ := hrel
          have HC := hide hcel; have HO := hide hown; have HB := hide hbl
          clear hcel hown hbl HNA HOA HBA
          have hcell := cell_later HB.out HCE.out
          have t0 : wr.cell? ⟨B, 0, none⟩ = some (.int .i64 Z) := (cell_of_row _ _ 0 _ _ _ HC.out).trans rfl
          have t1 : wr.cell? ⟨B, 1, none⟩ = some (.int .i64 (Ra.tot (Ra.lv (l.take j) sd Z))) := (cell_of_row _ _ 1 _ _ _ HC.out).trans rfl
          have t2 : wr.cell? ⟨B, 2, none⟩ = some (.int .i64 ((Ra.lv (l.take j) sd Z).length : Nat)) := (cell_of_row _ _ 2 _ _ _ HC.out).trans rfl
          have hBl : B < wr.heap.size := lt_of_block HC.out
          have htb : 0 ≤ Ra.tot (Ra.lv (l.take j) sd Z) ∧ Ra.tot (Ra.lv (l.take j) sd Z) ≤ 60000 ∧ (Ra.lv (l.take j) sd Z).length ≤ 60 := by
            have h1 : (Ra.lv (l.take j) sd Z).length ≤ (l.take j).length := List.length_filter_le _ _
            have h2 : (l.take j).length ≤ 60 := by rw [List.length_take, hn.out]; omega
            have h3 := Bk.tot_bound (l := Ra.lv (l.take j) sd Z) (fun x hx => hok.out x (List.mem_of_mem_take (List.mem_filter.1 hx).1))
            omega
          by_cases hjn : j < n
          · have hji : (j : Int) < n := by omega
            obtain ⟨c0, c1, c2, c3, c4⟩ := (hl.out.later HB.out) j (by rw [hn.out]; exact hjn)
            simp only [Nat.zero_add] at c0 c1 c2 c3 c4
            have HT := hide (Cv.take_succ (l := l) (i := j) (by rw [hn.out]; exact hjn))
            have HQ := hide ((Cv.ok_bounds (hok.out _ (Cv.nth_mem (l := l) (i := j) (by rw [hn.out]; exact hjn)))).2.2.2.2)
            generalize Cv.nth l j = x at *
            have hq := HQ.out
            by_cases hm : x.sd = sd ∧ x.pr = Z
            · have HN : Hid (Ra.lv (l.take (j + 1)) sd Z = Ra.lv (l.take j) sd Z ++ [x]) := by show _ = _; rw [HT.out, lv_snoc, if_pos hm]
              have hs1 : (x.sd == sd) = true := by simp [hm.1]
              have hs2 : (x.pr == Z) = true := by simp [hm.2]
              clear hm
              generalize Ra.lv (l.take j) sd Z = A at *
              obtain ⟨T, hT⟩ : ∃ T, Ra.tot A = T := ⟨_, rfl⟩
              obtain ⟨M, hM⟩ : ∃ M, A.length = M := ⟨_, rfl⟩
              rw [hT] at t1 htb HC
              rw [hM] at t2 htb HC
              have HTM := hide (And.intro hT hM)
              clear hT hM
              go_wp2
              refine region_quiet_tail 12 (by kernel_rfl) (by kernel_rfl) ?_
              simp only [List.take_succ_cons, List.take_zero, List.drop_succ_cons, List.drop_zero]
              repeat (first | go_big_quiet_step (fail) | quiet_step (fail))
              refine wpQuiet_nil ?_
              intro _ hw'
              obtain ⟨nq, hw''⟩ := hw'
              subst hw''
              have HC2 : Hid ((wr.drewN nq).heap[B]? = some (.cells #[.int .i64 Z, .int .i64 T, .int .i64 (M : Nat)] 98 (0, 0))) := HC.out
              have HB2 : Hid (Below w.heap.size w (wr.drewN nq)) := HB.out.trans ((blw_drew nq).mono HB.out.size)
              have HO2 : Hid ((wr.drewN nq).ownsRow w.heap.size 98 3 u5 (Bk.levsTo l sd k).length (lflat (Bk.levsTo l sd k))) := row_only HO.out (Only.of_below (blw_drew nq) none none) (fun _ _ => by simp) (fun _ _ => by simp)
              clear HC HB HO t0 t1 t2 hcell c0 c1 c2 c3 c4
              generalize wr.drewN nq = wd at *
              have t1 : wd.cell? ⟨B, 1, none⟩ = some (.int .i64 T) := (cell_of_row _ _ 1 _ _ _ HC2.out).trans rfl
              have t2 : wd.cell? ⟨B, 2, none⟩ = some (.int .i64 (M : Nat)) := (cell_of_row _ _ 2 _ _ _ HC2.out).trans rfl
              have f1 : wd.frozen? ⟨B, 1, none⟩ = false := by have h := HC2.out; simp [World.frozen?, h]
              have f2 : wd.frozen? ⟨B, 2, none⟩ = false := by have h := HC2.out; simp [World.frozen?, h]
              have hub : u5.ownBlock ≠ some B := fun e => by have := (HOL.out B e).2; omega
              go_wp2
              refine ⟨⟨j + 1, by omega, by go_num, ?_, ?_, ?_⟩, by simp [intOf]; omega⟩
              · rw [HN.out, Ra.tot_append, List.length_append, HTM.out.1, HTM.out.2]
                refine (hs_set _ (hs_set _ HC2.out rfl) rfl).trans ?_
                simp [Ra.tot]
              · exact ownsRow_setCell_other (ownsRow_setCell_other HO2.out hub _) hub _
              · exact (HB2.out.setCell (p := ⟨B, 1, none⟩) hwB _).setCell (p := ⟨B, 2, none⟩) hwB _
            · have HN : Hid (Ra.lv (l.take (j + 1)) sd Z = Ra.lv (l.take j) sd Z) := by show _ = _; rw [HT.out, lv_snoc, if_neg hm, List.append_nil]
              by_cases h1 : x.sd = sd
              · have h2 : ¬ x.pr = Z := fun e => hm ⟨h1, e⟩
                have hs1 : (x.sd == sd) = true := by simp [h1]
                have hs2 : (x.pr == Z) = false := by simp [h2]
                clear hm h1 h2
                go_wp2
                exact ⟨⟨j + 1, by omega, by go_num, by rw [HN.out]; exact HC.out, HO.out, HB.out⟩, by simp [intOf]; omega⟩
              · have hs1 : (x.sd == sd) = false := by simp [h1]
                clear hm h1
                go_wp2
                exact ⟨⟨j + 1, by omega, by go_num, by rw [HN.out]; exact HC.out, HO.out, HB.out⟩, by simp [intOf]; omega⟩
          · have hji : ¬ (j : Int) < n := by omega
            have hje : l.take j = l := List.take_of_length_le (by rw [hn.out]; omega)
            rw [hje] at t1 t2 htb HC
            obtain ⟨A, hA⟩ : ∃ A, Ra.lv l sd Z = A := ⟨_, rfl⟩
            rw [hA] at t1 t2 htb HC HL1 HLV
            clear hje hA
            by_cases hemp : A = []
            · have HL2 : Hid (Bk.levsTo l sd (k + 1) = Bk.levsTo l sd k) := by show _ = _; rw [HL1.out, if_pos hemp, List.append_nil]
              subst hemp
              simp only [List.length_nil] at t2
              go_wp2
              exact ⟨⟨k + 1, by omega, by go_num, by rw [HL2.out]; exact HO.out, HB.out⟩, by simp [intOf]; omega⟩
            · have HL2 : Hid (Bk.levsTo l sd (k + 1) = Bk.levsTo l sd k ++ [⟨Z, Ra.tot A, (A.length : Nat)⟩]) := by show _ = _; rw [HL1.out, if_neg hemp, HLV.out]
              have hpos : 0 < A.length := List.length_pos_iff.2 hemp
              obtain ⟨T, hT⟩ : ∃ T, Ra.tot A = T := ⟨_, rfl⟩
              obtain ⟨M, hM⟩ : ∃ M, A.length = M := ⟨_, rfl⟩
              rw [hT] at t1 htb HC HL2
              rw [hM] at t2 htb HC HL2 hpos
              have hposi : (0 : Int) < M := by omega
              clear hT hM hemp
              obtain ⟨i0, z0, hi, hz0, hz1, hz2, hz3⟩ := info98
              have Hi := hide hi; have Hz0 := hide hz0; have Hz1 := hide hz1; have Hz2 := hide hz2; have Hz3 := hide hz3
              clear hi hz0 hz1 hz2 hz3
              go_wp2_with (at_builtin; refine wpList_append_own _ rfl _ _ 77 rfl w.heap.size 98 i0 z0 3 24 Tryd.underlying77 Hi.out Hz0.out Hz1.out Hz2.out Hz3.out (by decide) _ _ _ rfl (HO.out.alloc _) ⟨wr.heap.size, 0, none⟩ 1 1 [.int .i64 Z, .int .i64 T, .int .i64 (M : Nat)] rfl rfl ?d1 ?d2 ?d3 ?d4 ?d5 ?_)
              try (case d1 => exact fun j' u hj' => cell_new3 wr _ _ _ 98 _ rfl j' u hj')
              case d2 =>
                first
                  | exact ⟨rfl, rfl, rfl⟩
                  | (intro u hu
                     simp only [List.mem_cons, List.not_mem_nil, or_false] at hu
                     rcases hu with rfl | rfl | rfl <;> rfl)
              case d3 => have := HL0.out; unfold maxLen; omega
              case d4 => have := HL0.out; omega
              case d5 => have := HB.out.size; simp; omega
              intro v3 w3 hown' hgrow _
              have HO3 : Hid (w3.ownsRow w.heap.size 98 3 v3 (Bk.levsTo l sd (k + 1)).length (lflat (Bk.levsTo l sd (k + 1)))) := by
                show w3.ownsRow _ _ _ _ _ _
                rw [HL2.out, List.length_append, lflat_snoc]
                exact hown'
              have HB3 : Hid (Below w.heap.size w w3) := (HB.out.alloc HB.out.size _).grown hgrow (by have := HB.out.size; simp; omega) (fun j hj => (HOL.out j hj).1)
              clear hown' hgrow
              go_wp2
              exact ⟨⟨k + 1, by omega, by go_num, HO3.out, HB3.out⟩, by simp [intOf]; omega⟩
      · have hPe : Bk.pj sd k = ((k : Int) + 1) := by unfold Bk.pj; rw [if_neg hs0]; omega
        rw [hPe] at HL1
        have HP := hide hPe
        have hsb : (sd == 0) = false := by simp [hs0]
        clear hPe hs0
        have hbA : Below wr.heap.size wr (wr.alloc (.cells #[.int .i64 ((k : Int) + 1), .int .i64 0, .int .i64 0] 98)) := (Below.refl _ _).alloc (Nat.le_refl _) _
        have HBA : Hid (Below w.heap.size w (wr.alloc (.cells #[.int .i64 ((k : Int) + 1), .int .i64 0, .int .i64 0] 98))) := HB.out.trans (hbA.mono HB.out.size)
        have HOA := hide (HO.out.alloc (.cells #[.int .i64 ((k : Int) + 1), .int .i64 0, .int .i64 0] 98))
        have HNA : Hid ((wr.alloc (.cells #[.int .i64 ((k : Int) + 1), .int .i64 0, .int .i64 0] 98)).heap[wr.heap.size]? = some (.cells #[.int .i64 ((k : Int) + 1), .int .i64 0, .int .i64 0] 98 (0, 0))) := heap_alloc_new _ _
        have HOL := hide HO.out.lt
        have hwB : w.heap.size ≤ wr.heap.size := HB.out.size
        go_wp2
        obtain ⟨B, hB⟩ : ∃ B, wr.heap.size = B := ⟨_, rfl⟩
        rw [hB] at HNA HOL hwB ⊢
        generalize wr.alloc (.cells #[.int .i64 ((k : Int) + 1), .int .i64 0, .int .i64 0] 98) = wa at *
        clear hB hbA HB HO
        have hPr : (1 : Int) ≤ ((k : Int) + 1) ∧ ((k : Int) + 1) ≤ 1000 := by omega
        have HLV : Hid (Bk.lev l sd ((k : Int) + 1) = ⟨((k : Int) + 1), Ra.tot (Ra.lv l sd ((k : Int) + 1)), (Ra.lv l sd ((k : Int) + 1)).length⟩) := rfl
        go_loopw [9] (fun i wz => ∃ (j : Nat), j ≤ n ∧ i = .int .i64 j ∧ wz.heap[B]? = some (.cells #[.int .i64 ((k : Int) + 1), .int .i64 (Ra.tot (Ra.lv (l.take j) sd ((k : Int) + 1))), .int .i64 ((Ra.lv (l.take j) sd ((k : Int) + 1)).length : Nat)] 98 (0, 0)) ∧ wz.ownsRow w.heap.size 98 3 u5 (Bk.levsTo l sd k).length (lflat (Bk.levsTo l sd k)) ∧ Below w.heap.size w wz) (fun i _ => n - (intOf i).toNat)
        case atStart => exact ⟨0, Nat.zero_le _, rfl, HNA.out, HOA.out, HBA.out⟩
        case round =>
          obtain ⟨j, hj, rfl, hcel, hown, hbl⟩ := hrel
          have HC := hide hcel; have HO := hide hown; have HB := hide hbl
          clear hcel hown hbl HNA HOA HBA
          have hcell := cell_later HB.out HCE.out
          have t0 : wr.cell? ⟨B, 0, none⟩ = some (.int .i64 ((k : Int) + 1)) := (cell_of_row _ _ 0 _ _ _ HC.out).trans rfl
          have t1 : wr.cell? ⟨B, 1, none⟩ = some (.int .i64 (Ra.tot (Ra.lv (l.take j) sd ((k : Int) + 1)))) := (cell_of_row _ _ 1 _ _ _ HC.out).trans rfl
          have t2 : wr.cell? ⟨B, 2, none⟩ = some (.int .i64 ((Ra.lv (l.take j) sd ((k : Int) + 1)).length : Nat)) := (cell_of_row _ _ 2 _ _ _ HC.out).trans rfl
          have hBl : B < wr.heap.size := lt_of_block HC.out
          have htb : 0 ≤ Ra.tot (Ra.lv (l.take j) sd ((k : Int) + 1)) ∧ Ra.tot (Ra.lv (l.take j) sd ((k : Int) + 1)) ≤ 60000 ∧ (Ra.lv (l.take j) sd ((k : Int) + 1)).length ≤ 60 := by
            have h1 : (Ra.lv (l.take j) sd ((k : Int) + 1)).length ≤ (l.take j).length := List.length_filter_le _ _
            have h2 : (l.take j).length ≤ 60 := by rw [List.length_take, hn.out]; omega
            have h3 := Bk.tot_bound (l := Ra.lv (l.take j) sd ((k : Int) + 1)) (fun x hx => hok.out x (List.mem_of_mem_take (List.mem_filter.1 hx).1))
            omega
          by_cases hjn : j < n
          · have hji : (j : Int) < n := by omega
            obtain ⟨c0, c1, c2, c3, c4⟩ := (hl.out.later HB.out) j (by rw [hn.out]; exact hjn)
            simp only [Nat.zero_add] at c0 c1 c2 c3 c4
            have HT := hide (Cv.take_succ (l := l) (i := j) (by rw [hn.out]; exact hjn))
            have HQ := hide ((Cv.ok_bounds (hok.out _ (Cv.nth_mem (l := l) (i := j) (by rw [hn.out]; exact hjn)))).2.2.2.2)
            generalize Cv.nth l j = x at *
            have hq := HQ.out
            by_cases hm : x.sd = sd ∧ x.pr = ((k : Int) + 1)
            · have HN : Hid (Ra.lv (l.take (j + 1)) sd ((k : Int) + 1) = Ra.lv (l.take j) sd ((k : Int) + 1) ++ [x]) := by show _ = _; rw [HT.out, lv_snoc, if_pos hm]
              have hs1 : (x.sd == sd) = true := by simp [hm.1]
              have hs2 : (x.pr == ((k : Int) + 1)) = true := by simp [hm.2]
              clear hm
              generalize Ra.lv (l.take j) sd ((k : Int) + 1) = A at *
              obtain ⟨T, hT⟩ : ∃ T, Ra.tot A = T := ⟨_, rfl⟩
              obtain ⟨M, hM⟩ : ∃ M, A.length = M := ⟨_, rfl⟩
              rw [hT] at t1 htb HC
              rw [hM] at t2 htb HC
              have HTM := hide (And.intro hT hM)
              clear hT hM
              go_wp2
              refine region_quiet_tail 12 (by kernel_rfl) (by kernel_rfl) ?_
              simp only [List.take_succ_cons, List.take_zero, List.drop_succ_cons, List.drop_zero]
              repeat (first | go_big_quiet_step (fail) | quiet_step (fail))
              refine wpQuiet_nil ?_
              intro _ hw'
              obtain ⟨nq, hw''⟩ := hw'
              subst hw''
              have HC2 : Hid ((wr.drewN nq).heap[B]? = some (.cells #[.int .i64 ((k : Int) + 1), .int .i64 T, .int .i64 (M : Nat)] 98 (0, 0))) := HC.out
              have HB2 : Hid (Below w.heap.size w (wr.drewN nq)) := HB.out.trans ((blw_drew nq).mono HB.out.size)
              have HO2 : Hid ((wr.drewN nq).ownsRow w.heap.size 98 3 u5 (Bk.levsTo l sd k).length (lflat (Bk.levsTo l sd k))) := row_only HO.out (Only.of_below (blw_drew nq) none none) (fun _ _ => by simp) (fun _ _ => by simp)
              clear HC HB HO t0 t1 t2 hcell c0 c1 c2 c3 c4
              generalize wr.drewN nq = wd at *
              have t1 : wd.cell? ⟨B, 1, none⟩ = some (.int .i64 T) := (cell_of_row _ _ 1 _ _ _ HC2.out).trans rfl
              have t2 : wd.cell? ⟨B, 2, none⟩ = some (.int .i64 (M : Nat)) := (cell_of_row _ _ 2 _ _ _ HC2.out).trans rfl
              have f1 : wd.frozen? ⟨B, 1, none⟩ = false := by have h := HC2.out; simp [World.frozen?, h]
              have f2 : wd.frozen? ⟨B, 2, none⟩ = false := by have h := HC2.out; simp [World.frozen?, h]
              have hub : u5.ownBlock ≠ some B := fun e => by have := (HOL.out B e).2; omega
              go_wp2
              refine ⟨⟨j + 1, by omega, by go_num, ?_, ?_, ?_⟩, by simp [intOf]; omega⟩
              · rw [HN.out, Ra.tot_append, List.length_append, HTM.out.1, HTM.out.2]
                refine (hs_set _ (hs_set _ HC2.out rfl) rfl).trans ?_
                simp [Ra.tot]
              · exact ownsRow_setCell_other (ownsRow_setCell_other HO2.out hub _) hub _
              · exact (HB2.out.setCell (p := ⟨B, 1, none⟩) hwB _).setCell (p := ⟨B, 2, none⟩) hwB _
            · have HN : Hid (Ra.lv (l.take (j + 1)) sd ((k : Int) + 1) = Ra.lv (l.take j) sd ((k : Int) + 1)) := by show _ = _; rw [HT.out, lv_snoc, if_neg hm, List.append_nil]
              by_cases h1 : x.sd = sd
              · have h2 : ¬ x.pr = ((k : Int) + 1) := fun e => hm ⟨h1, e⟩
                have hs1 : (x.sd == sd) = true := by simp [h1]
                have hs2 : (x.pr == ((k : Int) + 1)) = false := by simp [h2]
                clear hm h1 h2
                go_wp2
                exact ⟨⟨j + 1, by omega, by go_num, by rw [HN.out]; exact HC.out, HO.out, HB.out⟩, by simp [intOf]; omega⟩
              · have hs1 : (x.sd == sd) = false := by simp [h1]
                clear hm h1
                go_wp2
                exact ⟨⟨j + 1, by omega, by go_num, by rw [HN.out]; exact HC.out, HO.out, HB.out⟩, by simp [intOf]; omega⟩
          · have hji : ¬ (j : Int) < n := by omega
            have hje : l.take j = l := List.take_of_length_le (by rw [hn.out]; omega)
            rw [hje] at t1 t2 htb HC
            obtain ⟨A, hA⟩ : ∃ A, Ra.lv l sd ((k : Int) + 1) = A := ⟨_, rfl⟩
            rw [hA] at t1 t2 htb HC HL1 HLV
            clear hje hA
            by_cases hemp : A = []
            · have HL2 : Hid (Bk.levsTo l sd (k + 1) = Bk.levsTo l sd k) := by show _ = _; rw [HL1.out, if_pos hemp, List.append_nil]
              subst hemp
              simp only [List.length_nil] at t2
              go_wp2
              exact ⟨⟨k + 1, by omega, by go_num, by rw [HL2.out]; exact HO.out, HB.out⟩, by simp [intOf]; omega⟩
            · have HL2 : Hid (Bk.levsTo l sd (k + 1) = Bk.levsTo l sd k ++ [⟨((k : Int) + 1), Ra.tot A, (A.length : Nat)⟩]) := by show _ = _; rw [HL1.out, if_neg hemp, HLV.out]
              have hpos : 0 < A.length := List.length_pos_iff.2 hemp
              obtain ⟨T, hT⟩ : ∃ T, Ra.tot A = T := ⟨_, rfl⟩
              obtain ⟨M, hM⟩ : ∃ M, A.length = M := ⟨_, rfl⟩
              rw [hT] at t1 htb HC HL2
              rw [hM] at t2 htb HC HL2 hpos
              have hposi : (0 : Int) < M := by omega
              clear hT hM hemp
              obtain ⟨i0, z0, hi, hz0, hz1, hz2, hz3⟩ := info98
              have Hi := hide hi; have Hz0 := hide hz0; have Hz1 := hide hz1; have Hz2 := hide hz2; have Hz3 := hide hz3
              clear hi hz0 hz1 hz2 hz3
              go_wp2_with (at_builtin; refine wpList_append_own _ rfl _ _ 77 rfl w.heap.size 98 i0 z0 3 24 Tryd.underlying77 Hi.out Hz0.out Hz1.out Hz2.out Hz3.out (by decide) _ _ _ rfl (HO.out.alloc _) ⟨wr.heap.size, 0, none⟩ 1 1 [.int .i64 ((k : Int) + 1), .int .i64 T, .int .i64 (M : Nat)] rfl rfl ?ee1 ?ee2 ?ee3 ?ee4 ?ee5 ?_)
              try (case ee1 => exact fun j' u hj' => cell_new3 wr _ _ _ 98 _ rfl j' u hj')
              case ee2 =>
                first
                  | exact ⟨rfl, rfl, rfl⟩
                  | (intro u hu
                     simp only [List.mem_cons, List.not_mem_nil, or_false] at hu
                     rcases hu with rfl | rfl | rfl <;> rfl)
              case ee3 => have := HL0.out; unfold maxLen; omega
              case ee4 => have := HL0.out; omega
              case ee5 => have := HB.out.size; simp; omega
              intro v3 w3 hown' hgrow _
              have HO3 : Hid (w3.ownsRow w.heap.size 98 3 v3 (Bk.levsTo l sd (k + 1)).length (lflat (Bk.levsTo l sd (k + 1)))) := by
                show w3.ownsRow _ _ _ _ _ _
                rw [HL2.out, List.length_append, lflat_snoc]
                exact hown'
              have HB3 : Hid (Below w.heap.size w w3) := (HB.out.alloc HB.out.size _).grown hgrow (by have := HB.out.size; simp; omega) (fun j hj => (HOL.out j hj).1)
              clear hown' hgrow
              go_wp2
              exact ⟨⟨k + 1, by omega, by go_num, HO3.out, HB3.out⟩, by simp [intOf]; omega⟩
    · have hki : ¬ (k : Int) + 1 ≤ 1000 := by omega
      have hke : k = 1000 := by omega
      subst hke
      go_wp2
      go_ret
      exact ⟨_, rfl, by rw [← Bk.levsTo_all]; exact HO.out, HB.out⟩
set_option maxHeartbeats 2000000 in
theorem mlevels_none (p base : Nat) (sd : Int) (w : World) (hb : Hid (MBook w base p (.slice none 0 0) [])) :
    Calls Tryd.prog 40 #[.pointer (some ⟨p, 0, none⟩), .int .i64 sd] w fun e w' => ∃ v, e = .returned v ∧ w'.ownsRow w.heap.size 98 3 v (Bk.levs [] sd).length (lflat (Bk.levs [] sd)) ∧ Below w.heap.size w w' := by
  have HCE := hide (cell_of_one hb.out.cell)
  have hpl := hb.out.lt
  have HE : Hid (Bk.levs [] sd = []) := by
    show _ = _
    unfold Bk.levs Bk.prs
    rw [List.filter_eq_nil_iff.2 (fun p _ => by simp [Ra.lv])]
    rfl
  go_enter Tryd.func40, Tryd.ntmps40
  go_wp2
  go_loopw [5, 6] (fun v i wr => ∃ (k : Nat), k ≤ 1000 ∧ i = .int .i64 ((k : Int) + 1) ∧ v = .slice none 0 0 ∧ Below w.heap.size w wr) (fun _ i _ => 1001 - (intOf i).toNat)
  case atStart => exact ⟨0, by decide, rfl, rfl, Below.refl _ _⟩
  case round =>
    obtain ⟨k, hk, rfl, rfl, hbl⟩ := hrel
    have HB := hide hbl
    clear hbl
    have hcell := cell_later HB.out HCE.out
    have hBs : p < wr.heap.size := Nat.lt_of_lt_of_le hpl HB.out.size
    by_cases hlt : k < 1000
    · have hki : (k : Int) + 1 ≤ 1000 := by omega
      by_cases hs0 : sd = 0
      · have hsb : (sd == 0) = true := by simp [hs0]
        clear hs0
        go_wp2
        refine wp_loop_rounds 1 ?_
        rw [rounds_succ]
        go_wp2
        exact ⟨⟨k + 1, by omega, by go_num, rfl, HB.out.alloc HB.out.size _⟩, by simp [intOf]; omega⟩
      · have hsb : (sd == 0) = false := by simp [hs0]
        clear hs0
        go_wp2
        refine wp_loop_rounds 1 ?_
        rw [rounds_succ]
        go_wp2
        exact ⟨⟨k + 1, by omega, by go_num, rfl, HB.out.alloc HB.out.size _⟩, by simp [intOf]; omega⟩
    · have hki : ¬ (k : Int) + 1 ≤ 1000 := by omega
      go_wp2
      go_ret
      exact ⟨_, rfl, by rw [HE.out]; exact World.ownsRow_nil _ _ _ _, HB.out⟩
theorem mlevels_any (p base : Nat) (v : Value) (sd : Int) (l : List Cv.Lot) (w : World) (hb : Hid (MBook w base p v l)) (hg : Hid (Bk.Good l)) :
    Calls Tryd.prog 40 #[.pointer (some ⟨p, 0, none⟩), .int .i64 sd] w fun e w' => ∃ v, e = .returned v ∧ w'.ownsRow w.heap.size 98 3 v (Bk.levs l sd).length (lflat (Bk.levs l sd)) ∧ Below w.heap.size w w' := by
  rcases hb.out.form with ⟨rfl, rfl⟩ | ⟨g, cap, rfl, hle, _, hl⟩
  · exact mlevels_none p base sd w hb
  · exact mlevels_some p base g cap _ sd l w hb rfl hg.out.len hg.out.oks hl
end Go.Proofs.YtbcinejhipmomaaDoor
