/- share by its contract: what a side is filled with, level by level. -/
import Derived.Test.YtbcinejhipmomaaDoorRaDrawn
import Derived.Test.YtbcinejhipmomaaDoorRaBest
namespace Go.Proofs.YtbcinejhipmomaaDoor
open Go.RowKit Go.Maps
set_option maxRecDepth 100000
namespace Ra
open Cv
def rowF (sh : List Lot → List Lot) (f : Int → List Lot) : List Int → Int → List Lot
  | [], _ => []
  | p :: ps, v => arr sh (f p) v ++ rowF sh f ps (v - min (tot (f p)) v)
def sfF (sh : List Lot → List Lot) (f : Int → List Lot) (ps : List Int) (v : Int) : List (Int × Int) := fill (rowF sh f ps v) v
theorem sfF_cons {sh : List Lot → List Lot} (hs : Mix sh) {f : Int → List Lot} {p : Int} (h : Pos (f p)) (ps : List Int) (v : Int) (hv : 0 ≤ v) :
    sfF sh f (p :: ps) v = fill (arr sh (f p) v) v ++ sfF sh f ps (v - min (tot (f p)) v) := by
  unfold sfF
  rw [rowF, fill_append _ _ _ (arr_pos hs h v) hv, tot_arr hs]
theorem sfF_zero (sh : List Lot → List Lot) (f : Int → List Lot) (ps : List Int) : sfF sh f ps 0 = [] := fill_zero _
theorem rowF_is (sh : List Lot → List Lot) (l : List Lot) (sd : Int) (f : Int → List Lot) : ∀ (ps : List Int) (v : Int), (∀ p ∈ ps, f p = lv l sd p) → rowF sh f ps v = row sh l sd ps v
  | [], _, _ => rfl
  | p :: ps, v, h => by
    rw [rowF, row, h p List.mem_cons_self, rowF_is sh l sd f ps _ (fun q hq => h q (List.mem_cons_of_mem _ hq))]
/-- what is left within a level, and behind it -/
def rest (sh : List Lot → List Lot) (f : Int → List Lot) (X : List Lot) (ps : List Int) (v : Int) : List (Int × Int) := fill X v ++ sfF sh f ps (v - min (tot X) v)
theorem rest_zero (sh : List Lot → List Lot) (f : Int → List Lot) (X : List Lot) (hX : Pos X) (ps : List Int) : rest sh f X ps 0 = [] := by
  have h := tot_nonneg X hX
  unfold rest
  rw [fill_zero, show (0 : Int) - min (tot X) 0 = 0 by omega, sfF_zero]; rfl
theorem rest_nil (sh : List Lot → List Lot) (f : Int → List Lot) (ps : List Int) (v : Int) (hv : 0 ≤ v) : rest sh f [] ps v = sfF sh f ps v := by
  unfold rest
  rw [show v - min (tot []) v = v by simp [tot]; omega]; rfl
theorem rest_cons (sh : List Lot → List Lot) (f : Int → List Lot) (x : Lot) (X : List Lot) (hX : Pos (x :: X)) (ps : List Int) (v : Int) (hv : 0 < v) : rest sh f (x :: X) ps v = (x.id, min x.q v) :: rest sh f X ps (v - min x.q v) := by
  have hx := hX x List.mem_cons_self
  have h := tot_nonneg X (fun y hy => hX y (List.mem_cons_of_mem _ hy))
  unfold rest
  rw [fill, if_neg (by omega), List.cons_append]
  rw [show v - min (tot (x :: X)) v = v - min x.q v - min (tot X) (v - min x.q v) by simp only [tot]; omega]
theorem drop_nth {l : List Lot} {k : Nat} (h : k < l.length) : l.drop k = nth l k :: l.drop (k + 1) := by
  unfold nth; rw [List.drop_eq_getElem_cons h, List.getD_eq_getElem?_getD, List.getElem?_eq_getElem h]; rfl
end Ra

/-- fills as cells -/
def fcells (F : List (Int × Int)) : List Value := F.flatMap fun f => [.int .i64 f.1, .int .i64 f.2]
theorem fcells_snoc (F : List (Int × Int)) (f : Int × Int) : fcells (F ++ [f]) = fcells F ++ [.int .i64 f.1, .int .i64 f.2] := by simp [fcells]
theorem info45 : ∃ i z, Tryd.prog.info? 45 = some i ∧ i.zero = some z ∧ i.size = 2 ∧ i.bytes = 16 ∧ z.cells.size = 2 := ⟨_, _, rfl, rfl, rfl, rfl, rfl⟩
theorem cell_new2 (w : World) (x y : Value) (T : TypeId) (e : Nat) (he : e = w.heap.size) (j : Nat) (u : Value) (hj : [x, y][j]? = some u) : (w.alloc (.cells #[x, y] T)).cell? ((⟨e, 0, none⟩ : Addr).add j) = some u := by
  subst he
  have hp : (⟨w.heap.size, 0, none⟩ : Addr).add j = ⟨w.heap.size, j, none⟩ := by unfold Addr.add; split <;> simp_all
  rw [hp, World.cell?_alloc_new, ← hj]
  simp
theorem rows_apart {w : World} {a b : Nat} {e e' : TypeId} {s s' : Nat} {v v' : Value} {n n' : Nat} {xs xs' : List Value} (h : w.ownsRow a e s v n xs) (h' : w.ownsRow b e' s' v' n' xs') (he : e ≠ e') : v.ownBlock = none ∨ v.ownBlock ≠ v'.ownBlock := by
  rcases h.2 with ⟨h1, _⟩ | ⟨g, cap, cur, h1, _, h2, _⟩
  · left; rw [h1]; rfl
  · right
    rcases h'.2 with ⟨k1, _⟩ | ⟨g', cap', cur', k1, _, k2, _⟩
    · rw [h1, k1]; simp [Value.ownBlock]
    · rw [h1, k1]
      intro e2
      have : g = g' := by simpa [Value.ownBlock] using e2
      rw [this, k2] at h2
      simp at h2
      exact he h2.2.symm
theorem lots_of_row {w : World} {base N cap r : Nat} {X : List Cv.Lot} (h : w.ownsRow base 43 5 (.slice (some ⟨r, 0, none⟩) N cap) N (flat X)) : LotsAt w r 0 X :=
  lotsAt_of_flat fun j u hu => by
    have := World.ownsRow.cells h (g := r) rfl j u hu
    have hp : (⟨r, 0, none⟩ : Addr).add j = ⟨r, j, none⟩ := by unfold Addr.add; split <;> simp_all
    rwa [hp] at this
theorem flat_len {w : World} {base N : Nat} {v : Value} {X : List Cv.Lot} (h : w.ownsRow base 43 5 v N (flat X)) : X.length = N := by
  have := h.1
  rw [flat_length] at this
  omega

theorem field0 (a : Option Addr) (n c : Nat) (q : Int) (w : World) : (Instr.field 100 (.agg #[.slice a n c, .int .i64 q]) 0).run Tryd.prog w = .ok (.slice a n c) w := by kernel_rfl
theorem field1 (a : Option Addr) (n c : Nat) (q : Int) (w : World) : (Instr.field 100 (.agg #[.slice a n c, .int .i64 q]) 1).run Tryd.prog w = .ok (.int .i64 q) w := by kernel_rfl

set_option maxHeartbeats 2000000 in
theorem share_of (sd v s : Int) (B base n : Nat) (f : Int → List Cv.Lot) (ps qs : List Int) (F : List (Int × Int)) (w : World) (hs : Hid (Ra.IsU s)) (hv0 : 0 ≤ v) (hv1 : v ≤ 1000000) (hL : Hid (Levels w base B n f)) (hn : n ≤ 1000)
    (hp : Hid (ps.Pairwise (· < ·))) (hm : Hid (∀ p, p ∈ ps ↔ f p ≠ [])) (hok : Hid (∀ p, Cv.Oks (f p))) (hlen : Hid (∀ p, (f p).length ≤ 200)) (hqs : Hid ((if sd = 0 then ps.reverse else ps) = qs)) (hq : Hid (∀ p ∈ qs, f p ≠ [] ∧ 1 ≤ p ∧ p ≤ 1000))
    (hF : Hid (Ra.sfF (Ra.sh s) f qs v = F)) (hFl : Hid (F.length ≤ 1000)) (hql : Hid (qs.length ≤ 1000)) :
    Calls Tryd.prog 43 #[.map (some B), .int .i64 sd, .int .i64 v, .int .u32 s] w fun e w' => ∃ v', e = .returned v' ∧ w'.ownsRow w.heap.size 45 2 v' F.length (fcells F) ∧ Below w.heap.size w w' := by
  obtain ⟨i0, z0, hi, hz0, hz1, hz2, hz3⟩ := info45
  have Hi := hide hi; have Hz0 := hide hz0; have Hz1 := hide hz1; have Hz2 := hide hz2; have Hz3 := hide hz3
  clear hi hz0 hz1 hz2 hz3
  go_enter Tryd.func43, Tryd.ntmps43
  go_wp2_with fail
  refine (bestFirst_any sd B base n f ps w hL hn hp hm).mono ?_
  rintro e w1 ⟨vp, rfl, hprs, hb1⟩
  rw [hqs.out] at hprs
  have HB1 := hide hb1
  have HL1 := hide (hL.out.later hb1)
  clear hb1 hL
  rcases hprs with ⟨hq0, rfl⟩ | ⟨bp, capp, rfl, hc⟩
  · have HF0 : Hid (F = []) := by show _ = _; rw [← hF.out, hq0]; rfl
    clear hq0
    simp only []
    go_wp2
    refine wp_loop_rounds 1 ?_
    rw [rounds_succ]
    go_wp2
    go_ret
    exact ⟨_, rfl, by rw [HF0.out]; exact World.ownsRow_nil _ _ _ _, HB1.out⟩
  · obtain ⟨m, HM⟩ : ∃ m, Hid (qs.length = m) := ⟨_, rfl⟩
    rw [HM.out] at hc ⊢
    have hm1000 : m ≤ 1000 := by rw [← HM.out]; exact hql.out
    have HC := hide hc
    clear hc
    simp only []
    go_wp2
    go_loopw [9, 10, 22] (fun vf lf i wr => ∃ (k : Nat) (left : Int) (F0 : List (Int × Int)), k ≤ m ∧ i = .int .i64 k ∧ lf = .int .i64 left ∧ 0 ≤ left ∧ left ≤ v ∧ F0 ++ Ra.sfF (Ra.sh s) f (qs.drop k) left = F ∧ wr.ownsRow w1.heap.size 45 2 vf F0.length (fcells F0) ∧ Below w1.heap.size w1 wr) (fun _ _ i _ => m - (intOf i).toNat)
    case atStart => exact ⟨0, v, [], Nat.zero_le _, rfl, rfl, hv0, Int.le_refl _, hF.out, World.ownsRow_nil _ _ _ _, Below.refl _ _⟩
    case round =>
      obtain ⟨k, left, F0, hk, rfl, rfl, hl0, hl1, hFF, hown, hbw⟩ := hrel
      have HO := hide hown; have HW := hide hbw; have HFF := hide hFF
      clear hown hbw hFF
      by_cases hlt : k < m
      · have hki : (k : Int) < m := by omega
        obtain ⟨p, hpq⟩ : ∃ p, qs.getD k 0 = p := ⟨_, rfl⟩
        have hkq : k < qs.length := by rw [HM.out]; exact hlt
        have hge : qs[k] = p := by rw [← hpq]; simp [hkq]
        have cp : wr.cell? ⟨bp, k, none⟩ = some (.int .i64 p) := by rw [← hpq]; exact cell_later HW.out (HC.out k hlt)
        have hmem : p ∈ qs := by rw [← hge]; exact List.getElem_mem hkq
        have hdrop : qs.drop k = p :: qs.drop (k + 1) := by rw [List.drop_eq_getElem_cons hkq, hge]
        obtain ⟨hne, hp1, hp2⟩ := hq.out p hmem
        obtain ⟨D, g, hLv⟩ := HL1.out.later HW.out
        have hrow := hLv.row p
        have hrun := hLv.look (p := p) (by omega) (by omega)
        rcases (hLv.row p).2 with ⟨_, e0⟩ | ⟨r, capr, cur, hgp, _⟩
        · exact absurd (List.eq_nil_of_length_eq_zero e0) hne
        have hpos : Ra.Pos (f p) := fun x hx => ((Cv.ok_bounds (hok.out p x hx)).2.2.2.2).1
        have hbnd := tot_bounds (f p) (hok.out p)
        have hln := hlen.out p
        rw [hgp] at hrow hrun
        unfold lvV at hrun
        have HNP : Hid (0 < (f p).length) := Nat.pos_of_ne_zero fun e => hne (List.eq_nil_of_length_eq_zero e)
        obtain ⟨N, hN⟩ : ∃ N, (f p).length = N := ⟨_, rfl⟩
        obtain ⟨q, hq'⟩ : ∃ q, Ra.tot (f p) = q := ⟨_, rfl⟩
        have HFX : Hid (F0 ++ Ra.rest (Ra.sh s) f (Ra.arr (Ra.sh s) (f p) left) (qs.drop (k + 1)) left = F) := by
          have h1 := HFF.out
          rw [hdrop, Ra.sfF_cons (Ra.mix_sh s) hpos _ _ hl0] at h1
          show _ = _
          unfold Ra.rest
          rw [Ra.tot_arr (Ra.mix_sh s)]
          exact h1
        have HNP : Hid (0 < N) := by rw [← hN]; exact HNP.out
        rw [hN] at hrow hrun hln hbnd
        rw [hq'] at hrun hbnd
        have HROW := hide hrow; have HN := hide hN; have HPOS := hide hpos; have HQ := hide hq'
        clear hrow hN hpos hq' hLv hne hdrop hge hpq hgp HFF
        have f0 := @field0
        have f1 := @field1
        by_cases hql : left < q
        · have hN1 : (N : Int) - 1 = ((N - 1 : Nat) : Int) := by have := HNP.out; omega
          go_wp2_with (at_lookup; refine wpList_lookup_run rfl _ _ 82 rfl _ _ _ rfl rfl hrun ?_)
          refine (drawn_some r 0 capr N (N - 1) s (f p) wr hs HN (by omega) hN1 (lots_of_row HROW.out)).mono ?_
          rintro e w2 ⟨v2, rfl, hrow2, hb2⟩
          rcases hrow2.2 with ⟨_, e0⟩ | ⟨rx, capx, cur2, rfl, _⟩
          · exact absurd e0 (by have := HNP.out; omega)
          obtain ⟨X, HXE⟩ : ∃ X, Hid (Ra.sh s (f p) = X) := ⟨_, rfl⟩
          have HFY : Hid (F0 ++ Ra.rest (Ra.sh s) f (X.drop 0) (qs.drop (k + 1)) left = F) := by
            have h1 := HFX.out
            unfold Ra.arr at h1
            rw [if_pos (by rw [HQ.out]; exact hql), HXE.out] at h1
            exact h1
          have HX : Hid (w2.ownsRow 0 43 5 (.slice (some ⟨rx, 0, none⟩) N capx) N (flat X)) := by rw [← HXE.out]; exact row_base hrow2 (Nat.zero_le _)
          have HXP : Hid (Ra.Pos X) := fun x hx => HPOS.out x ((Ra.mix_sh s (f p)).mem_iff.1 (by rw [HXE.out]; exact hx))
          have HW2 : Hid (Below w1.heap.size w1 w2) := HW.out.trans (hb2.mono HW.out.size)
          have HO2 : Hid (w2.ownsRow w1.heap.size 45 2 u9 F0.length (fcells F0)) := HO.out.kept (row := none) ⟨hb2.os, hb2.tape, hb2.output, hb2.size, fun i hi _ => hb2.block i hi⟩ (by
            cases e : u9.ownBlock with
            | none => exact .inl rfl
            | some _ => exact .inr (by simp))
          clear hrow2 hb2 hN1
          simp only []
          clear cp HROW HO HW hrun f0 f1
          go_wp2
          go_loopw [9, 10, 41] (fun vf lf i wx => ∃ (j : Nat) (lft : Int) (F1 : List (Int × Int)), j ≤ N ∧ i = .int .i64 j ∧ lf = .int .i64 lft ∧ 0 ≤ lft ∧ lft ≤ left ∧ F1 ++ Ra.rest (Ra.sh s) f (X.drop j) (qs.drop (k + 1)) lft = F ∧ wx.ownsRow w1.heap.size 45 2 vf F1.length (fcells F1) ∧ wx.ownsRow 0 43 5 (.slice (some ⟨rx, 0, none⟩) N capx) N (flat X) ∧ Below w1.heap.size w1 wx) (fun _ _ i _ => N - (intOf i).toNat)
          case atStart => exact ⟨0, left, F0, Nat.zero_le _, rfl, rfl, hl0, Int.le_refl _, HFY.out, HO2.out, HX.out, HW2.out⟩
          case round =>
            obtain ⟨j, lft, F1, hj, rfl, rfl, hf0, hf1, hFG, hown, hxr, hbw⟩ := hrel
            have HO := hide hown; have HX3 := hide hxr; have HW := hide hbw; have HFG := hide hFG
            have HXL := hide (flat_len hxr)
            clear hown hxr hbw hFG HO2 HX HW2 HFY
            by_cases hjn : j < N
            · have hji : (j : Int) < N := by omega
              obtain ⟨c0, c1, c2, c3, c4⟩ := (lots_of_row HX3.out) j (by rw [HXL.out]; exact hjn)
              have HD := hide (Ra.drop_nth (l := X) (k := j) (by rw [HXL.out]; exact hjn))
              have hxq := HXP.out _ (Cv.nth_mem (l := X) (i := j) (by rw [HXL.out]; exact hjn))
              have HDP : Hid (Ra.Pos (X.drop j)) := fun y hy => HXP.out y (List.mem_of_mem_drop hy)
              generalize Cv.nth X j = x at *
              rw [Nat.zero_add] at c0 c1 c2 c3 c4
              by_cases h0 : lft = 0
              · subst h0
                have hmin : min x.q 0 = 0 := by omega
                have HR : Hid (wr.ownsRow w.heap.size 45 2 u9 F.length (fcells F)) := by
                  have h1 := HFG.out
                  rw [Ra.rest_zero _ _ _ HDP.out, List.append_nil] at h1
                  rw [← h1]
                  exact row_base HO.out HB1.out.size
                have HB : Hid (Below w.heap.size w wr) := HB1.out.trans (HW.out.mono HB1.out.size)
                clear HO HX3 HFG HD HDP
                go_wp2
                go_ret
                exact ⟨_, rfl, HR.out.alloc _, HB.out.alloc HB.out.size _⟩
              · obtain ⟨t, ht⟩ : ∃ t, min x.q lft = t := ⟨_, rfl⟩
                have ht1 : 1 ≤ t := by omega
                have ht2 : t ≤ lft := by omega
                have htb : (t == 0) = false := by simp; omega
                have HF2 : Hid ((F1 ++ [(x.id, t)]) ++ Ra.rest (Ra.sh s) f (X.drop (j + 1)) (qs.drop (k + 1)) (lft - t) = F) := by
                  have h1 := HFG.out
                  rw [HD.out, Ra.rest_cons _ _ _ _ (by have := HDP.out; rw [HD.out] at this; exact this) _ _ (by omega), ht] at h1
                  show _ = _
                  rw [← h1]; simp
                have HLN : Hid (F1.length + 1 ≤ 1000) := by
                  have h1 := hFl.out
                  rw [← HF2.out] at h1
                  simp at h1
                  show _ ≤ _
                  omega
                clear HFG HD HDP
                go_wp2_with (at_builtin; refine wpList_append_own _ rfl _ _ 25 rfl w1.heap.size 45 i0 z0 2 16 Tryd.underlying25 Hi.out Hz0.out Hz1.out Hz2.out Hz3.out (by decide) _ _ _ rfl ((HO.out.alloc _).alloc _) ⟨wr.heap.size + 1, 0, none⟩ 1 1 [.int .i64 x.id, .int .i64 t] rfl rfl ?d1 ?d2 ?d3 ?d4 ?d5 ?_)
                case d1 => exact fun j u hj => cell_new2 _ _ _ _ _ (by simp) j u hj
                case d2 => intro u hu
                           simp only [List.mem_cons, List.not_mem_nil, or_false] at hu
                           rcases hu with rfl | rfl <;> rfl
                case d3 => have := HLN.out; unfold maxLen; omega
                case d4 => have := HLN.out; omega
                case d5 => have := HW.out.size; simp; omega
                intro v3 w3 hown' hgrow _
                have HO3 : Hid (w3.ownsRow w1.heap.size 45 2 v3 (F1 ++ [(x.id, t)]).length (fcells (F1 ++ [(x.id, t)]))) := by
                  show w3.ownsRow _ _ _ _ _ _
                  rw [fcells_snoc, List.length_append]
                  exact hown'
                have hlt3 := HO.out.lt
                have HX4 : Hid (w3.ownsRow 0 43 5 (.slice (some ⟨rx, 0, none⟩) N capx) N (flat X)) := ((HX3.out.alloc _).alloc _).kept hgrow (rows_apart HX3.out HO.out (by decide))
                have HW3 : Hid (Below w1.heap.size w1 w3) := ((HW.out.alloc HW.out.size _).alloc (by have := HW.out.size; simp; omega) _).grown hgrow (by have := HW.out.size; simp; omega) (fun j hj => (hlt3 j hj).1)
                clear hown' hgrow HO HX3 HW hlt3 c0 c1 c2 c3 c4
                go_wp2
                exact ⟨⟨j + 1, lft - t, F1 ++ [(x.id, t)], by omega, by go_num, by go_num, by omega, by omega, HF2.out, HO3.out, HX4.out, HW3.out⟩, by simp [intOf]; omega⟩
            · have hji : ¬ (j : Int) < N := by omega
              have HF2 : Hid (F1 ++ Ra.sfF (Ra.sh s) f (qs.drop (k + 1)) lft = F) := by
                have h1 := HFG.out
                rw [List.drop_of_length_le (by rw [HXL.out]; omega), Ra.rest_nil _ _ _ _ hf0] at h1
                exact h1
              clear HFG HX3
              go_wp2
              exact ⟨⟨k + 1, lft, F1, by omega, by go_num, rfl, hf0, by omega, HF2.out, HO.out, HW.out⟩, by simp [intOf]; omega⟩
        · obtain ⟨X, HXE⟩ : ∃ X, Hid (f p = X) := ⟨_, rfl⟩
          obtain ⟨rx, hrx⟩ : ∃ rx, r = rx := ⟨_, rfl⟩
          obtain ⟨capx, hcx⟩ : ∃ capx, capr = capx := ⟨_, rfl⟩
          subst hrx hcx
          have HFY : Hid (F0 ++ Ra.rest (Ra.sh s) f (X.drop 0) (qs.drop (k + 1)) left = F) := by
            have h1 := HFX.out
            unfold Ra.arr at h1
            rw [if_neg (by rw [HQ.out]; exact hql), HXE.out] at h1
            exact h1
          have HX : Hid (wr.ownsRow 0 43 5 (.slice (some ⟨r, 0, none⟩) N capr) N (flat X)) := by rw [← HXE.out]; exact row_base HROW.out (Nat.zero_le _)
          have HXP : Hid (Ra.Pos X) := fun x hx => HPOS.out x (by rw [HXE.out]; exact hx)
          have HW2 := HW
          have HO2 := HO
          go_wp2_with (at_lookup; refine wpList_lookup_run rfl _ _ 82 rfl _ _ _ rfl rfl hrun ?_)
          clear cp HROW HO HW hrun f0 f1
          go_loopw [9, 10, 41] (fun vf lf i wx => ∃ (j : Nat) (lft : Int) (F1 : List (Int × Int)), j ≤ N ∧ i = .int .i64 j ∧ lf = .int .i64 lft ∧ 0 ≤ lft ∧ lft ≤ left ∧ F1 ++ Ra.rest (Ra.sh s) f (X.drop j) (qs.drop (k + 1)) lft = F ∧ wx.ownsRow w1.heap.size 45 2 vf F1.length (fcells F1) ∧ wx.ownsRow 0 43 5 (.slice (some ⟨r, 0, none⟩) N capr) N (flat X) ∧ Below w1.heap.size w1 wx) (fun _ _ i _ => N - (intOf i).toNat)
          case atStart => exact ⟨0, left, F0, Nat.zero_le _, rfl, rfl, hl0, Int.le_refl _, HFY.out, HO2.out, HX.out, HW2.out⟩
          case round =>
            obtain ⟨j, lft, F1, hj, rfl, rfl, hf0, hf1, hFG, hown, hxr, hbw⟩ := hrel
            have HO := hide hown; have HX3 := hide hxr; have HW := hide hbw; have HFG := hide hFG
            have HXL := hide (flat_len hxr)
            clear hown hxr hbw hFG HO2 HX HW2 HFY
            by_cases hjn : j < N
            · have hji : (j : Int) < N := by omega
              obtain ⟨c0, c1, c2, c3, c4⟩ := (lots_of_row HX3.out) j (by rw [HXL.out]; exact hjn)
              have HD := hide (Ra.drop_nth (l := X) (k := j) (by rw [HXL.out]; exact hjn))
              have hxq := HXP.out _ (Cv.nth_mem (l := X) (i := j) (by rw [HXL.out]; exact hjn))
              have HDP : Hid (Ra.Pos (X.drop j)) := fun y hy => HXP.out y (List.mem_of_mem_drop hy)
              generalize Cv.nth X j = x at *
              rw [Nat.zero_add] at c0 c1 c2 c3 c4
              by_cases h0 : lft = 0
              · subst h0
                have hmin : min x.q 0 = 0 := by omega
                have HR : Hid (wr.ownsRow w.heap.size 45 2 u9 F.length (fcells F)) := by
                  have h1 := HFG.out
                  rw [Ra.rest_zero _ _ _ HDP.out, List.append_nil] at h1
                  rw [← h1]
                  exact row_base HO.out HB1.out.size
                have HB : Hid (Below w.heap.size w wr) := HB1.out.trans (HW.out.mono HB1.out.size)
                clear HO HX3 HFG HD HDP
                go_wp2
                go_ret
                exact ⟨_, rfl, HR.out.alloc _, HB.out.alloc HB.out.size _⟩
              · obtain ⟨t, ht⟩ : ∃ t, min x.q lft = t := ⟨_, rfl⟩
                have ht1 : 1 ≤ t := by omega
                have ht2 : t ≤ lft := by omega
                have htb : (t == 0) = false := by simp; omega
                have HF2 : Hid ((F1 ++ [(x.id, t)]) ++ Ra.rest (Ra.sh s) f (X.drop (j + 1)) (qs.drop (k + 1)) (lft - t) = F) := by
                  have h1 := HFG.out
                  rw [HD.out, Ra.rest_cons _ _ _ _ (by have := HDP.out; rw [HD.out] at this; exact this) _ _ (by omega), ht] at h1
                  show _ = _
                  rw [← h1]; simp
                have HLN : Hid (F1.length + 1 ≤ 1000) := by
                  have h1 := hFl.out
                  rw [← HF2.out] at h1
                  simp at h1
                  show _ ≤ _
                  omega
                clear HFG HD HDP
                go_wp2_with (at_builtin; refine wpList_append_own _ rfl _ _ 25 rfl w1.heap.size 45 i0 z0 2 16 Tryd.underlying25 Hi.out Hz0.out Hz1.out Hz2.out Hz3.out (by decide) _ _ _ rfl ((HO.out.alloc _).alloc _) ⟨wr.heap.size + 1, 0, none⟩ 1 1 [.int .i64 x.id, .int .i64 t] rfl rfl ?d1 ?d2 ?d3 ?d4 ?d5 ?_)
                case d1 => exact fun j u hj => cell_new2 _ _ _ _ _ (by simp) j u hj
                case d2 => intro u hu
                           simp only [List.mem_cons, List.not_mem_nil, or_false] at hu
                           rcases hu with rfl | rfl <;> rfl
                case d3 => have := HLN.out; unfold maxLen; omega
                case d4 => have := HLN.out; omega
                case d5 => have := HW.out.size; simp; omega
                intro v3 w3 hown' hgrow _
                have HO3 : Hid (w3.ownsRow w1.heap.size 45 2 v3 (F1 ++ [(x.id, t)]).length (fcells (F1 ++ [(x.id, t)]))) := by
                  show w3.ownsRow _ _ _ _ _ _
                  rw [fcells_snoc, List.length_append]
                  exact hown'
                have hlt3 := HO.out.lt
                have HX4 : Hid (w3.ownsRow 0 43 5 (.slice (some ⟨r, 0, none⟩) N capr) N (flat X)) := ((HX3.out.alloc _).alloc _).kept hgrow (rows_apart HX3.out HO.out (by decide))
                have HW3 : Hid (Below w1.heap.size w1 w3) := ((HW.out.alloc HW.out.size _).alloc (by have := HW.out.size; simp; omega) _).grown hgrow (by have := HW.out.size; simp; omega) (fun j hj => (hlt3 j hj).1)
                clear hown' hgrow HO HX3 HW hlt3 c0 c1 c2 c3 c4
                go_wp2
                exact ⟨⟨j + 1, lft - t, F1 ++ [(x.id, t)], by omega, by go_num, by go_num, by omega, by omega, HF2.out, HO3.out, HX4.out, HW3.out⟩, by simp [intOf]; omega⟩
            · have hji : ¬ (j : Int) < N := by omega
              have HF2 : Hid (F1 ++ Ra.sfF (Ra.sh s) f (qs.drop (k + 1)) lft = F) := by
                have h1 := HFG.out
                rw [List.drop_of_length_le (by rw [HXL.out]; omega), Ra.rest_nil _ _ _ _ hf0] at h1
                exact h1
              clear HFG HX3
              go_wp2
              exact ⟨⟨k + 1, lft, F1, by omega, by go_num, rfl, hf0, by omega, HF2.out, HO.out, HW.out⟩, by simp [intOf]; omega⟩
      · have hki : ¬ (k : Int) < m := by omega
        have HO' : Hid (wr.ownsRow w.heap.size 45 2 u9 F.length (fcells F)) := by
          have h1 := HFF.out
          rw [List.drop_of_length_le (by rw [HM.out]; omega)] at h1
          have h2 : F0 = F := by rw [← h1]; simp [Ra.sfF, Ra.rowF, Ra.fill]
          have := HO.out
          rw [h2] at this
          exact row_base this HB1.out.size
        have HB : Hid (Below w.heap.size w wr) := HB1.out.trans (HW.out.mono HB1.out.size)
        clear HO HFF
        go_wp2
        go_ret
        exact ⟨_, rfl, HO'.out, HB.out⟩
end Go.Proofs.YtbcinejhipmomaaDoor
