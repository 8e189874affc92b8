/- The document's fills of a side, price by price, by its contract. -/
import Derived.Test.YtbcinejhipmomaaDoorRaRef
import Derived.Test.YtbcinejhipmomaaDoorRaFills
import Derived.Test.YtbcinejhipmomaaDoorRaSame
namespace Go.Proofs.YtbcinejhipmomaaDoor
open Go.RowKit
set_option maxRecDepth 100000

namespace Ra
theorem sf_eq (sh : List Cv.Lot → List Cv.Lot) (l : List Cv.Lot) (sd : Int) (ps : List Int) (v : Int) : sf sh l sd ps v = sfF sh (lv l sd) ps v := by
  unfold sf sfF
  rw [rowF_is sh l sd (lv l sd) ps v (fun _ _ => rfl)]
theorem full_length (sd price : Int) : (full sd price).length = cnt sd price := by simp [full]
theorem full_drop (sd price : Int) (j : Nat) (h : j < cnt sd price) : (full sd price).drop j = pj sd j :: (full sd price).drop (j + 1) := by
  rw [List.drop_eq_getElem_cons (by rw [full_length]; exact h)]
  simp [full]
end Ra
theorem two_one (a b : Int) : ∀ u ∈ [Value.int .i64 a, Value.int .i64 b], u.oneCell' = true := fun u hu => by
  simp only [List.mem_cons, List.not_mem_nil, or_false] at hu
  rcases hu with rfl | rfl <;> rfl
theorem alloc_le (w : World) (o : Obj) : w.heap.size ≤ (w.alloc o).heap.size := by simp

set_option maxHeartbeats 2000000 in
theorem sideFills_0 (va : Value) (price v s : Int) (l : List Cv.Lot) (F : List (Int × Int)) (w : World) (hs : Hid (Ra.IsU s)) (hv0 : 0 ≤ v) (hv1 : v ≤ 1000000) (hv : Hid (Came w va l)) (hok : Hid (Cv.Oks l)) (hll : Hid (l.length ≤ 120)) (h1 : 1 ≤ price) (h2 : price ≤ 1000)
    (hF : Hid (Ra.sfF (Ra.sh s) (Ra.lv l 0) (Ra.full 0 price) v = F)) (hFl : Hid (F.length ≤ 1000)) :
    Calls Tryd.prog 49 #[va, .int .i64 0, .int .i64 price, .int .i64 v, .int .u32 s] w fun e w' => ∃ v', e = .returned v' ∧ w'.ownsRow w.heap.size 45 2 v' F.length (fcells F) ∧ Below w.heap.size w w' := by
  obtain ⟨i0, z0, hi, hz0, hz1, hz2, hz3⟩ := info45
  have Hi := hide hi; have Hz0 := hide hz0; have Hz1 := hide hz1; have Hz2 := hide hz2; have Hz3 := hide hz3
  clear hi hz0 hz1 hz2 hz3
  obtain ⟨aa, na, ca, hva⟩ := hv.out.form
  subst hva
  go_enter Tryd.func49, Tryd.ntmps49
  go_wp2
  go_loopw [3, 11, 12] (fun lf vf pv wr => ∃ (j : Nat) (p left : Int) (F0 : List (Int × Int)), j ≤ Ra.cnt 0 price ∧ Hid (p = Ra.pj 0 j) ∧ pv = .int .i64 p ∧ lf = .int .i64 left ∧ 0 ≤ left ∧ left ≤ v ∧ F0 ++ Ra.sfF (Ra.sh s) (Ra.lv l 0) ((Ra.full 0 price).drop j) left = F ∧ wr.ownsRow w.heap.size 45 2 vf F0.length (fcells F0) ∧ Below w.heap.size w wr) (fun _ _ pv _ => (intOf pv - price + 1).toNat)
  case atStart => exact ⟨0, _, v, [], Nat.zero_le _, rfl, rfl, rfl, hv0, Int.le_refl _, hF.out, World.ownsRow_nil _ _ _ _, Below.refl _ _⟩
  case round =>
    obtain ⟨j, p, left, F0, hj, HP, rfl, rfl, hl0, hl1, hFF, hown, hb⟩ := hrel
    have HO := hide hown; have HB := hide hb; have HFF := hide hFF
    clear hown hb hFF
    have hpb : p ≤ 1000 ∧ price - 1 ≤ p := by have := HP.out; unfold Ra.pj at this; unfold Ra.cnt at hj; simp at this hj; omega
    have fin : left = 0 ∨ j = Ra.cnt 0 price → Hid (wr.ownsRow w.heap.size 45 2 u11 F.length (fcells F)) := fun h => by
      have e : F0 = F := by
        have h3 := HFF.out
        rcases h with h | h
        · rw [h, Ra.sfF_zero, List.append_nil] at h3; exact h3
        · rw [List.drop_of_length_le (by rw [Ra.full_length]; omega)] at h3
          rw [← h3]; simp [Ra.sfF, Ra.rowF, Ra.fill]
      have := HO.out
      rw [e] at this
      exact this
    by_cases hl : 0 < left
    · by_cases hjc : j < Ra.cnt 0 price
      · have hpp : price ≤ p := by have := HP.out; unfold Ra.pj at this; unfold Ra.cnt at hjc; simp at this hjc; omega
        have hdrop := Ra.full_drop 0 price j hjc
        rw [← HP.out] at hdrop
        have hpos : Ra.Pos (Ra.lv l 0 p) := Ra.lv_pos (Ra.pos_of_oks hok.out) 0 p
        have hbnd := tot_bounds (Ra.lv l 0 p) (hok.out.filter _)
        have hln : (Ra.lv l 0 p).length ≤ 120 := Nat.le_trans (List.length_filter_le _ _) hll.out
        have HFX : Hid (F0 ++ Ra.rest (Ra.sh s) (Ra.lv l 0) (Ra.arr (Ra.sh s) (Ra.lv l 0 p) left) ((Ra.full 0 price).drop (j + 1)) left = F) := by
          have h3 := HFF.out
          rw [hdrop, Ra.sfF_cons (Ra.mix_sh s) hpos _ _ hl0] at h3
          show _ = _
          unfold Ra.rest
          rw [Ra.tot_arr (Ra.mix_sh s)]
          exact h3
        have HPOS := hide hpos
        clear hpos hdrop HFF fin
        go_wp2_with fail
        refine (level_any _ 0 p l wr (hv.out.later HB.out) (by have := hll.out; omega)).mono ?_
        rintro e w2 ⟨v2, rfl, hrow2, hb2⟩
        have HB2 := hide (HB.out.trans (hb2.mono HB.out.size)); have HO2 := hide (row_later HO.out hb2)
        have HOL : Hid (∀ k, u11.ownBlock = some k → k < w2.heap.size) := fun k hk => Nat.lt_of_lt_of_le (HO.out.lt k hk).2 hb2.size
        clear hb2 HO HB
        obtain ⟨X0, HX0⟩ : ∃ X0, Hid (Ra.lv l 0 p = X0) := ⟨_, rfl⟩
        obtain ⟨N, HN⟩ : ∃ N, Hid (X0.length = N) := ⟨_, rfl⟩
        obtain ⟨q, HQ⟩ : ∃ q, Hid (Ra.tot X0 = q) := ⟨_, rfl⟩
        rw [HX0.out, HN.out] at hrow2
        rw [HX0.out, HN.out, HQ.out] at hbnd
        rw [HX0.out, HN.out] at hln
        have HPX : Hid (Ra.Pos X0) := by rw [← HX0.out]; exact HPOS.out
        rw [HX0.out] at HFX
        rcases Nat.eq_zero_or_pos N with hN0 | hNP
        · subst hN0
          have hX : X0 = [] := List.eq_nil_of_length_eq_zero HN.out
          have HF2 : Hid (F0 ++ Ra.sfF (Ra.sh s) (Ra.lv l 0) ((Ra.full 0 price).drop (j + 1)) left = F) := by
            have h3 := HFX.out
            rw [hX, show Ra.arr (Ra.sh s) [] left = [] by unfold Ra.arr; rw [if_neg (by simp [Ra.tot]; omega)], Ra.rest_nil _ _ _ _ hl0] at h3
            exact h3
          obtain ⟨a2, c2, hv2⟩ : ∃ a2 c2, v2 = .slice a2 0 c2 := by
            rcases hrow2.2 with ⟨e, _⟩ | ⟨r, c, _, e, _⟩
            · exact ⟨_, _, e⟩
            · exact ⟨_, _, e⟩
          subst hv2
          clear hrow2 hX HFX HN HX0 HQ HPX HPOS
          simp only []
          go_wp2
          refine wp_loop_rounds 1 ?_
          rw [rounds_succ]
          go_wp2_with fail
          refine (shuffleOf_zero s w2).mono ?_
          rintro e w3 ⟨rfl, rfl⟩
          simp only []
          go_wp2
          refine wp_loop_rounds 1 ?_
          rw [rounds_succ]
          go_wp2
          exact ⟨⟨j + 1, p - 1, left, F0, by omega, by show _ = _; have := HP.out; unfold Ra.pj at this ⊢; simp at this ⊢; omega, by go_num, rfl, hl0, hl1, HF2.out, HO2.out, HB2.out⟩, by simp [intOf]; omega⟩
        · rcases hrow2.2 with ⟨_, e0⟩ | ⟨rx, capx, cur2, rfl, _⟩
          · exact absurd e0 (by omega)
          have HX2 := hide hrow2
          clear hrow2
          simp only []
          obtain ⟨w0, hw0⟩ : ∃ w0, w0 = wr := ⟨_, rfl⟩
          subst hw0
          go_wp2
          go_loopw [15, 16] (fun av iv wx => ∃ i : Nat, i ≤ N ∧ iv = .int .i64 i ∧ av = .int .i64 (Ra.tot (X0.take i)) ∧ wx = w2) (fun _ iv _ => N - (intOf iv).toNat)
          case atStart => exact ⟨0, Nat.zero_le _, rfl, rfl, rfl⟩
          case round =>
            obtain ⟨i, hi, rfl, rfl, hwx⟩ := hrel
            subst hwx
            by_cases hlt : i < N
            · have hki : (i : Int) < N := by omega
              obtain ⟨c0, c1, c2, c3, c4⟩ := (lots_of_row HX2.out) i (by rw [HN.out]; exact hlt)
              rw [Nat.zero_add] at c0 c1 c2 c3 c4
              have HT := hide (Cv.take_succ (l := X0) (i := i) (by rw [HN.out]; exact hlt))
              have hg := tot_bounds (X0.take i) (by rw [← HX0.out]; exact (hok.out.filter _).take i)
              have hf := (Cv.ok_bounds (hok.out (Cv.nth X0 i) (by
                have := Cv.nth_mem (l := X0) (i := i) (by rw [HN.out]; exact hlt)
                rw [← HX0.out] at this
                rw [HX0.out] at this
                rw [← HX0.out] at this ⊢
                exact (List.mem_filter.1 this).1))).2.2.2.2
              rw [List.length_take, HN.out] at hg
              generalize Cv.nth X0 i = x at *
              obtain ⟨t, ht⟩ : ∃ t, Ra.tot (X0.take i) = t := ⟨_, rfl⟩
              have HS : Hid (Ra.tot (X0.take (i + 1)) = t + x.q) := by
                show _ = _
                rw [HT.out, Ra.tot_append, ht]; simp [Ra.tot]
              rw [ht] at hg ⊢
              have hg2 : t ≤ 1000000 := by omega
              clear ht HT
              go_wp2
              exact ⟨⟨i + 1, by omega, by go_num, by rw [HS.out], by first | rfl | trivial⟩, by simp [intOf]; omega⟩
            · have hki : ¬ (i : Int) < N := by omega
              rw [show X0.take i = X0 from List.take_of_length_le (by rw [HN.out]; omega), HQ.out]
              obtain ⟨wb, hwb⟩ : ∃ wb, decide (q ≤ left) = wb := ⟨_, rfl⟩
              have HWB := hide hwb
              go_wp2_with fail
              clear hwb
              refine (shuffleOf_any s N hs.out (by omega) wr).mono ?_
              rintro e w3 ⟨v3, rfl, ho, hb3⟩
              rcases ho with ⟨e0, _⟩ | ⟨go, cap3, rfl, hgo1, hgo2, hgc⟩
              · exact absurd e0 (by rw [Ra.shuf_size]; omega)
              rw [Ra.shuf_size] at hgc ⊢
              have HB3 := hide (HB2.out.trans (hb3.mono HB2.out.size)); have HO3 := hide (row_later HO2.out hb3); have HX3 := hide (row_base (b := 0) (row_later HX2.out hb3) (Nat.zero_le _))
              have HGO : Hid (u11.ownBlock ≠ some go) := fun e => by have := HOL.out go e; omega
              have HGL := hide hgo2; have HGC := hide hgc
              clear hb3 hgo1 hgo2 hgc HO2 HB2 HX2 HOL
              simp only []
              obtain ⟨X, HXA⟩ : ∃ X, Hid (Ra.arr (Ra.sh s) X0 left = X) := ⟨_, rfl⟩
              have HFY : Hid (F0 ++ Ra.rest (Ra.sh s) (Ra.lv l 0) (X.drop 0) ((Ra.full 0 price).drop (j + 1)) left = F) := by
                have h3 := HFX.out
                rw [HXA.out] at h3
                exact h3
              have HXP : Hid (Ra.Pos X) := by rw [← HXA.out]; exact Ra.arr_pos (Ra.mix_sh s) HPX.out left
              have HXL : Hid (X.length = N) := by rw [← HXA.out, (Ra.arr_perm (Ra.mix_sh s) X0 left).length_eq]; exact HN.out
              have HEL : Hid (∀ i, i < N → ∃ idx : Nat, idx < N ∧ Cv.nth X i = Cv.nth X0 idx ∧ (left < q → (Ra.shuf s N (N - 1))[i]! = (idx : Int)) ∧ (¬ left < q → idx = i)) := fun i hi => by
                have h3 := HXA.out
                unfold Ra.arr at h3
                rw [HQ.out] at h3
                by_cases h : left < q
                · rw [if_pos h] at h3
                  obtain ⟨idx, h4, h5, h6⟩ := Ra.sh_nth s X0 i (by rw [HN.out]; exact hi)
                  rw [HN.out] at h4 h5
                  exact ⟨idx, h4, by rw [← h3]; exact h6, fun _ => h5, fun h7 => absurd h h7⟩
                · rw [if_neg h] at h3
                  exact ⟨i, hi, by rw [h3], fun h7 => absurd h7 h, fun _ => rfl⟩
              clear HFX HPX HXA HPOS
              obtain ⟨wy, hwy⟩ : ∃ wy, wy = wr := ⟨_, rfl⟩
              subst hwy
              go_wp2
              go_loopw [3, 11, 19] (fun lf vf iv wx => ∃ (i : Nat) (lft : Int) (F1 : List (Int × Int)), i ≤ N ∧ iv = .int .i64 i ∧ lf = .int .i64 lft ∧ 0 ≤ lft ∧ lft ≤ left ∧ F1 ++ Ra.rest (Ra.sh s) (Ra.lv l 0) (X.drop i) ((Ra.full 0 price).drop (j + 1)) lft = F ∧ wx.ownsRow w.heap.size 45 2 vf F1.length (fcells F1) ∧ wx.ownsRow 0 43 5 (.slice (some ⟨rx, 0, none⟩) N capx) N (flat X0) ∧ (∀ i, i < N → wx.cell? ⟨go, i, none⟩ = some (.int .i64 (Ra.shuf s N (N - 1))[i]!)) ∧ vf.ownBlock ≠ some go ∧ go < wx.heap.size ∧ Below w.heap.size w wx) (fun _ _ iv _ => N - (intOf iv).toNat)
              case atStart => exact ⟨0, left, F0, Nat.zero_le _, rfl, rfl, hl0, Int.le_refl _, HFY.out, HO3.out, HX3.out, HGC.out, HGO.out, HGL.out, HB3.out⟩
              case round =>
                obtain ⟨i, lft, F1, hi, rfl, rfl, hf0, hf1, hFG, hown, hxr, hgc, hgo, hgl, hbw⟩ := hrel
                have HO4 := hide hown; have HX4 := hide hxr; have HW4 := hide hbw; have HFG := hide hFG; have HGC4 := hide hgc; have HGO4 := hide hgo; have HGL4 := hide hgl
                clear hown hxr hbw hFG hgc hgo hgl HFY HO3 HX3 HGC HGO HGL HB3
                have out : i = N ∨ lft = 0 → Hid (F1 ++ Ra.sfF (Ra.sh s) (Ra.lv l 0) ((Ra.full 0 price).drop (j + 1)) lft = F) := fun h => by
                  have h3 := HFG.out
                  rcases h with h | h
                  · rw [List.drop_of_length_le (by rw [HXL.out]; omega), Ra.rest_nil _ _ _ _ hf0] at h3
                    exact h3
                  · rw [h, Ra.rest_zero _ _ _ (fun y hy => HXP.out y (List.mem_of_mem_drop hy))] at h3
                    show _ = _
                    rw [h, Ra.sfF_zero]; exact h3
                by_cases hin : i < N
                · have hni : (i : Int) < N := by omega
                  by_cases hlf : 0 < lft
                  · obtain ⟨idx, hidx, hnx, hsh1, hsh2⟩ := HEL.out i hin
                    have cg := HGC4.out i hin
                    have hidi : (idx : Int) < N := by omega
                    obtain ⟨c0, c1, c2, c3, c4⟩ := (lots_of_row HX4.out) idx (by rw [HN.out]; exact hidx)
                    rw [Nat.zero_add] at c0 c1 c2 c3 c4
                    have HD := hide (Ra.drop_nth (l := X) (k := i) (by rw [HXL.out]; exact hin))
                    have hxq := HXP.out _ (Cv.nth_mem (l := X) (i := i) (by rw [HXL.out]; exact hin))
                    rw [hnx] at HD hxq
                    obtain ⟨y, hy⟩ : ∃ y, (Ra.shuf s N (N - 1))[i]! = y := ⟨_, rfl⟩
                    rw [hy] at cg hsh1
                    have hxq2 : (Cv.nth X0 idx).q ≤ 1000 := by
                      have h3 := Cv.nth_mem (l := X0) (i := idx) (by rw [HN.out]; exact hidx)
                      have h4 : Cv.nth X0 idx ∈ l := by
                        generalize Cv.nth X0 idx = z at h3
                        rw [← HX0.out] at h3
                        exact (List.mem_filter.1 h3).1
                      exact ((Cv.ok_bounds (hok.out _ h4)).2.2.2.2).2
                    clear hnx hy
                    generalize Cv.nth X0 idx = x at *
                    have key : ∀ T, min x.q lft = T → Hid ((F1 ++ [(x.id, T)]) ++ Ra.rest (Ra.sh s) (Ra.lv l 0) (X.drop (i + 1)) ((Ra.full 0 price).drop (j + 1)) (lft - T) = F) := fun T hT => by
                      have h3 := HFG.out
                      rw [HD.out, Ra.rest_cons _ _ _ _ (by rw [← HD.out]; exact fun y hy => HXP.out y (List.mem_of_mem_drop hy)) _ _ hlf, hT] at h3
                      show _ = _
                      rw [← h3]; simp
                    clear HFG out HD
                    have hwq := HWB.out
                    clear HWB
                    cases wb
                    · have hqb : ¬ q ≤ left := by simpa using hwq
                      have hyi := hsh1 (by omega)
                      subst hyi
                      clear hwq hqb
                      clear hsh1 hsh2
                      by_cases hxl : lft < x.q
                      · have HF2 := key lft (by omega)
                        have HLN : Hid (F1.length + 1 ≤ 1000) := by
                          have h3 := hFl.out
                          rw [← HF2.out] at h3
                          simp at h3
                          show _ ≤ _
                          omega
                        have HD3 : Hid (F1.length + 1 ≤ maxLen) := by have := HLN.out; show _ ≤ _; unfold maxLen; omega
                        have HD4 : Hid ((F1.length + 1) * 16 ≤ 140737488355328) := by have := HLN.out; show _ ≤ _; omega
                        clear key
                        go_wp2_with (at_builtin; refine wpList_append_own_at _ rfl _ _ 25 rfl w.heap.size 45 i0 z0 2 16 Tryd.underlying25 Hi.out Hz0.out Hz1.out Hz2.out Hz3.out (by decide) _ _ _ rfl (HO4.out.alloc _) ⟨wr.heap.size, 0, none⟩ 1 1 [.int .i64 x.id, .int .i64 lft] rfl rfl (fun j u hj => cell_new2 _ _ _ _ _ rfl j u hj) (two_one _ _) HD3.out HD4.out (Nat.le_trans HW4.out.size (alloc_le _ _)) ?_)
                        intro v5 w5 hown' hgrow _ hloc
                        have HO5 : Hid (w5.ownsRow w.heap.size 45 2 v5 (F1 ++ [(x.id, lft)]).length (fcells (F1 ++ [(x.id, lft)]))) := by
                          show w5.ownsRow _ _ _ _ _ _
                          rw [fcells_snoc, List.length_append]
                          exact hown'
                        have hlt5 := HO4.out.lt
                        have hgsz := hgrow.size
                        have HX5 : Hid (w5.ownsRow 0 43 5 (.slice (some ⟨rx, 0, none⟩) N capx) N (flat X0)) := (HX4.out.alloc _).kept hgrow (rows_apart HX4.out HO4.out (by decide))
                        have HW5 : Hid (Below w.heap.size w w5) := (HW4.out.alloc HW4.out.size _).grown hgrow (by have := HW4.out.size; simp; omega) (fun j hj => (hlt5 j hj).1)
                        have HGC5 : Hid (∀ i, i < N → w5.cell? ⟨go, i, none⟩ = some (.int .i64 (Ra.shuf s N (N - 1))[i]!)) := fun i hi => hgrow.cell (cell_later ((Below.refl _ wr).alloc (Nat.le_refl _) _) (HGC4.out i hi)) (fun e => HGO4.out e.symm)
                        have HGO5 : Hid (v5.ownBlock ≠ some go) := fun e => by
                          rcases hloc with h | h
                          · exact HGO4.out (h ▸ e)
                          · rw [h] at e
                            have h4 := HGL4.out
                            simp at e
                            omega
                        have HGL5 : Hid (go < w5.heap.size) := by
                          have h4 := HGL4.out
                          simp at hgsz
                          show _ < _
                          omega
                        clear hown' hgrow hloc hgsz hlt5 HO4 HX4 HW4 HGC4 HGO4 HGL4 c0 c1 c2 c3 c4 cg
                        go_wp2
                        exact ⟨⟨i + 1, lft - lft, F1 ++ [(x.id, lft)], by omega, by go_num, by go_num, by omega, by omega, HF2.out, HO5.out, HX5.out, HGC5.out, HGO5.out, HGL5.out, HW5.out⟩, by simp [intOf]; omega⟩
                      · have HF2 := key x.q (by omega)
                        have HLN : Hid (F1.length + 1 ≤ 1000) := by
                          have h3 := hFl.out
                          rw [← HF2.out] at h3
                          simp at h3
                          show _ ≤ _
                          omega
                        have HD3 : Hid (F1.length + 1 ≤ maxLen) := by have := HLN.out; show _ ≤ _; unfold maxLen; omega
                        have HD4 : Hid ((F1.length + 1) * 16 ≤ 140737488355328) := by have := HLN.out; show _ ≤ _; omega
                        clear key
                        go_wp2_with (at_builtin; refine wpList_append_own_at _ rfl _ _ 25 rfl w.heap.size 45 i0 z0 2 16 Tryd.underlying25 Hi.out Hz0.out Hz1.out Hz2.out Hz3.out (by decide) _ _ _ rfl (HO4.out.alloc _) ⟨wr.heap.size, 0, none⟩ 1 1 [.int .i64 x.id, .int .i64 x.q] rfl rfl (fun j u hj => cell_new2 _ _ _ _ _ rfl j u hj) (two_one _ _) HD3.out HD4.out (Nat.le_trans HW4.out.size (alloc_le _ _)) ?_)
                        intro v5 w5 hown' hgrow _ hloc
                        have HO5 : Hid (w5.ownsRow w.heap.size 45 2 v5 (F1 ++ [(x.id, x.q)]).length (fcells (F1 ++ [(x.id, x.q)]))) := by
                          show w5.ownsRow _ _ _ _ _ _
                          rw [fcells_snoc, List.length_append]
                          exact hown'
                        have hlt5 := HO4.out.lt
                        have hgsz := hgrow.size
                        have HX5 : Hid (w5.ownsRow 0 43 5 (.slice (some ⟨rx, 0, none⟩) N capx) N (flat X0)) := (HX4.out.alloc _).kept hgrow (rows_apart HX4.out HO4.out (by decide))
                        have HW5 : Hid (Below w.heap.size w w5) := (HW4.out.alloc HW4.out.size _).grown hgrow (by have := HW4.out.size; simp; omega) (fun j hj => (hlt5 j hj).1)
                        have HGC5 : Hid (∀ i, i < N → w5.cell? ⟨go, i, none⟩ = some (.int .i64 (Ra.shuf s N (N - 1))[i]!)) := fun i hi => hgrow.cell (cell_later ((Below.refl _ wr).alloc (Nat.le_refl _) _) (HGC4.out i hi)) (fun e => HGO4.out e.symm)
                        have HGO5 : Hid (v5.ownBlock ≠ some go) := fun e => by
                          rcases hloc with h | h
                          · exact HGO4.out (h ▸ e)
                          · rw [h] at e
                            have h4 := HGL4.out
                            simp at e
                            omega
                        have HGL5 : Hid (go < w5.heap.size) := by
                          have h4 := HGL4.out
                          simp at hgsz
                          show _ < _
                          omega
                        clear hown' hgrow hloc hgsz hlt5 HO4 HX4 HW4 HGC4 HGO4 HGL4 c0 c1 c2 c3 c4 cg
                        go_wp2
                        exact ⟨⟨i + 1, lft - x.q, F1 ++ [(x.id, x.q)], by omega, by go_num, by go_num, by omega, by omega, HF2.out, HO5.out, HX5.out, HGC5.out, HGO5.out, HGL5.out, HW5.out⟩, by simp [intOf]; omega⟩
                    · have hqb : q ≤ left := by simpa using hwq
                      have hyi := (hsh2 (by omega)).symm
                      subst hyi
                      clear hwq hqb
                      clear hsh1 hsh2
                      by_cases hxl : lft < x.q
                      · have HF2 := key lft (by omega)
                        have HLN : Hid (F1.length + 1 ≤ 1000) := by
                          have h3 := hFl.out
                          rw [← HF2.out] at h3
                          simp at h3
                          show _ ≤ _
                          omega
                        have HD3 : Hid (F1.length + 1 ≤ maxLen) := by have := HLN.out; show _ ≤ _; unfold maxLen; omega
                        have HD4 : Hid ((F1.length + 1) * 16 ≤ 140737488355328) := by have := HLN.out; show _ ≤ _; omega
                        clear key
                        go_wp2_with (at_builtin; refine wpList_append_own_at _ rfl _ _ 25 rfl w.heap.size 45 i0 z0 2 16 Tryd.underlying25 Hi.out Hz0.out Hz1.out Hz2.out Hz3.out (by decide) _ _ _ rfl (HO4.out.alloc _) ⟨wr.heap.size, 0, none⟩ 1 1 [.int .i64 x.id, .int .i64 lft] rfl rfl (fun j u hj => cell_new2 _ _ _ _ _ rfl j u hj) (two_one _ _) HD3.out HD4.out (Nat.le_trans HW4.out.size (alloc_le _ _)) ?_)
                        intro v5 w5 hown' hgrow _ hloc
                        have HO5 : Hid (w5.ownsRow w.heap.size 45 2 v5 (F1 ++ [(x.id, lft)]).length (fcells (F1 ++ [(x.id, lft)]))) := by
                          show w5.ownsRow _ _ _ _ _ _
                          rw [fcells_snoc, List.length_append]
                          exact hown'
                        have hlt5 := HO4.out.lt
                        have hgsz := hgrow.size
                        have HX5 : Hid (w5.ownsRow 0 43 5 (.slice (some ⟨rx, 0, none⟩) N capx) N (flat X0)) := (HX4.out.alloc _).kept hgrow (rows_apart HX4.out HO4.out (by decide))
                        have HW5 : Hid (Below w.heap.size w w5) := (HW4.out.alloc HW4.out.size _).grown hgrow (by have := HW4.out.size; simp; omega) (fun j hj => (hlt5 j hj).1)
                        have HGC5 : Hid (∀ i, i < N → w5.cell? ⟨go, i, none⟩ = some (.int .i64 (Ra.shuf s N (N - 1))[i]!)) := fun i hi => hgrow.cell (cell_later ((Below.refl _ wr).alloc (Nat.le_refl _) _) (HGC4.out i hi)) (fun e => HGO4.out e.symm)
                        have HGO5 : Hid (v5.ownBlock ≠ some go) := fun e => by
                          rcases hloc with h | h
                          · exact HGO4.out (h ▸ e)
                          · rw [h] at e
                            have h4 := HGL4.out
                            simp at e
                            omega
                        have HGL5 : Hid (go < w5.heap.size) := by
                          have h4 := HGL4.out
                          simp at hgsz
                          show _ < _
                          omega
                        clear hown' hgrow hloc hgsz hlt5 HO4 HX4 HW4 HGC4 HGO4 HGL4 c0 c1 c2 c3 c4 cg
                        go_wp2
                        exact ⟨⟨i + 1, lft - lft, F1 ++ [(x.id, lft)], by omega, by go_num, by go_num, by omega, by omega, HF2.out, HO5.out, HX5.out, HGC5.out, HGO5.out, HGL5.out, HW5.out⟩, by simp [intOf]; omega⟩
                      · have HF2 := key x.q (by omega)
                        have HLN : Hid (F1.length + 1 ≤ 1000) := by
                          have h3 := hFl.out
                          rw [← HF2.out] at h3
                          simp at h3
                          show _ ≤ _
                          omega
                        have HD3 : Hid (F1.length + 1 ≤ maxLen) := by have := HLN.out; show _ ≤ _; unfold maxLen; omega
                        have HD4 : Hid ((F1.length + 1) * 16 ≤ 140737488355328) := by have := HLN.out; show _ ≤ _; omega
                        clear key
                        go_wp2_with (at_builtin; refine wpList_append_own_at _ rfl _ _ 25 rfl w.heap.size 45 i0 z0 2 16 Tryd.underlying25 Hi.out Hz0.out Hz1.out Hz2.out Hz3.out (by decide) _ _ _ rfl (HO4.out.alloc _) ⟨wr.heap.size, 0, none⟩ 1 1 [.int .i64 x.id, .int .i64 x.q] rfl rfl (fun j u hj => cell_new2 _ _ _ _ _ rfl j u hj) (two_one _ _) HD3.out HD4.out (Nat.le_trans HW4.out.size (alloc_le _ _)) ?_)
                        intro v5 w5 hown' hgrow _ hloc
                        have HO5 : Hid (w5.ownsRow w.heap.size 45 2 v5 (F1 ++ [(x.id, x.q)]).length (fcells (F1 ++ [(x.id, x.q)]))) := by
                          show w5.ownsRow _ _ _ _ _ _
                          rw [fcells_snoc, List.length_append]
                          exact hown'
                        have hlt5 := HO4.out.lt
                        have hgsz := hgrow.size
                        have HX5 : Hid (w5.ownsRow 0 43 5 (.slice (some ⟨rx, 0, none⟩) N capx) N (flat X0)) := (HX4.out.alloc _).kept hgrow (rows_apart HX4.out HO4.out (by decide))
                        have HW5 : Hid (Below w.heap.size w w5) := (HW4.out.alloc HW4.out.size _).grown hgrow (by have := HW4.out.size; simp; omega) (fun j hj => (hlt5 j hj).1)
                        have HGC5 : Hid (∀ i, i < N → w5.cell? ⟨go, i, none⟩ = some (.int .i64 (Ra.shuf s N (N - 1))[i]!)) := fun i hi => hgrow.cell (cell_later ((Below.refl _ wr).alloc (Nat.le_refl _) _) (HGC4.out i hi)) (fun e => HGO4.out e.symm)
                        have HGO5 : Hid (v5.ownBlock ≠ some go) := fun e => by
                          rcases hloc with h | h
                          · exact HGO4.out (h ▸ e)
                          · rw [h] at e
                            have h4 := HGL4.out
                            simp at e
                            omega
                        have HGL5 : Hid (go < w5.heap.size) := by
                          have h4 := HGL4.out
                          simp at hgsz
                          show _ < _
                          omega
                        clear hown' hgrow hloc hgsz hlt5 HO4 HX4 HW4 HGC4 HGO4 HGL4 c0 c1 c2 c3 c4 cg
                        go_wp2
                        exact ⟨⟨i + 1, lft - x.q, F1 ++ [(x.id, x.q)], by omega, by go_num, by go_num, by omega, by omega, HF2.out, HO5.out, HX5.out, HGC5.out, HGO5.out, HGL5.out, HW5.out⟩, by simp [intOf]; omega⟩
                  · have HF2 := out (.inr (by omega))
                    have hlf0 : lft = 0 := by omega
                    subst hlf0
                    clear out HFG
                    go_wp2
                    exact ⟨⟨j + 1, p - 1, 0, F1, by omega, by show _ = _; have := HP.out; unfold Ra.pj at this ⊢; simp at this ⊢; omega, by go_num, rfl, by omega, by omega, HF2.out, HO4.out, HW4.out⟩, by simp [intOf]; omega⟩
                · have hni : ¬ (i : Int) < N := by omega
                  have HF2 := out (.inl (by omega))
                  clear out HFG
                  go_wp2
                  exact ⟨⟨j + 1, p - 1, lft, F1, by omega, by show _ = _; have := HP.out; unfold Ra.pj at this ⊢; simp at this ⊢; omega, by go_num, rfl, hf0, by omega, HF2.out, HO4.out, HW4.out⟩, by simp [intOf]; omega⟩
      · have hpp : ¬ price ≤ p := by have := HP.out; unfold Ra.pj at this; unfold Ra.cnt at hjc hj; simp at this hjc hj; omega
        have HR := fin (.inr (by omega))
        clear fin HFF HO
        go_wp2
        go_ret
        exact ⟨_, rfl, HR.out, HB.out⟩
    · have HR := fin (.inl (by omega))
      clear fin HFF HO
      go_wp2
      go_ret
      exact ⟨_, rfl, HR.out, HB.out⟩
end Go.Proofs.YtbcinejhipmomaaDoor
