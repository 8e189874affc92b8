/- Levels of a book by its contract. -/
import Derived.Test.YtbcinejhipmomaaDoorBkBest
namespace Go.Proofs.YtbcinejhipmomaaDoor
open Go.RowKit Go.Maps
set_option maxRecDepth 100000

def levCells (x : Bk.Lev) : List Value := [.int .i64 x.pr, .int .i64 x.q, .int .i64 x.m]
def lflat (l : List Bk.Lev) : List Value := l.flatMap levCells
theorem lflat_snoc (l : List Bk.Lev) (x : Bk.Lev) : lflat (l ++ [x]) = lflat l ++ levCells x := by simp [lflat]
theorem lv_in {sd : Int} {t : List Cv.Lot} {x : Cv.Lot} (h : x.sd = sd) : Ra.lv (t ++ [x]) sd = grow (Ra.lv t sd) x.pr x := by
  funext p
  unfold Ra.lv grow
  rw [List.filter_append]
  by_cases hp : p = x.pr
  · subst hp
    simp [h]
  · rw [if_neg hp]
    simp [Ne.symm hp]
theorem lv_out {sd : Int} {t : List Cv.Lot} {x : Cv.Lot} (h : ¬ x.sd = sd) : Ra.lv (t ++ [x]) sd = Ra.lv t sd := by
  funext p
  unfold Ra.lv
  rw [List.filter_append]
  simp [h]
theorem info59 : ∃ i z, Tryd.prog.info? 59 = some i ∧ i.zero = some z ∧ i.size = 3 ∧ i.bytes = 24 ∧ z.cells.size = 3 := ⟨_, _, rfl, rfl, rfl, rfl, rfl⟩
theorem cell_new3 (w : World) (x y z : Value) (T : TypeId) (e : Nat) (he : e = w.heap.size) (j : Nat) (u : Value) (hj : [x, y, z][j]? = some u) : (w.alloc (.cells #[x, y, z] T)).cell? ((⟨e, 0, none⟩ : Addr).add j) = some u := by
  subst he
  have hp : (⟨w.heap.size, 0, none⟩ : Addr).add j = ⟨w.heap.size, j, none⟩ := by unfold Addr.add; split <;> simp_all
  rw [hp, World.cell?_alloc_new, ← hj]
  simp
/-- the map of a side's levels, of the first k lots -/
def LvT (w : World) (b k : Nat) (l : List Cv.Lot) (sd : Int) : Prop := ∃ D, LvM w b k (Ra.lv (l.take k) sd) D

theorem wp_levels_done (l : List Cv.Lot) (sd : Int) : (if sd = 0 then (if sd = 0 then (Bk.prs l sd).reverse else Bk.prs l sd).reverse else (if sd = 0 then (Bk.prs l sd).reverse else Bk.prs l sd)) = Bk.prs l sd := by
  split <;> simp
theorem mem_ps {l : List Cv.Lot} {sd : Int} (ho : Cv.Oks l) (p : Int) : p ∈ (if sd = 0 then (Bk.prs l sd).reverse else Bk.prs l sd) ↔ Ra.lv l sd p ≠ [] := by
  rw [← Bk.mem_prs ho]
  split <;> simp
theorem levs_take {l : List Cv.Lot} {sd : Int} {k : Nat} {ps : List Int} (hps : Bk.prs l sd = ps) (hk : k < ps.length) : (Bk.levs l sd).take (k + 1) = (Bk.levs l sd).take k ++ [Bk.lev l sd (ps.getD k 0)] := by
  unfold Bk.levs
  rw [hps]
  rw [List.take_succ_eq_append_getElem (by simpa using hk)]
  simp [hk]
theorem tot_lv {l : List Cv.Lot} (ho : Cv.Oks l) (sd p : Int) (hl : l.length ≤ 60) : 0 ≤ Ra.tot (Ra.lv l sd p) ∧ Ra.tot (Ra.lv l sd p) ≤ 60000 ∧ (Ra.lv l sd p).length ≤ 60 := by
  have h1 := tot_bounds (Ra.lv l sd p) (Cv.Oks.filter ho _)
  have h2 : (Ra.lv l sd p).length ≤ l.length := List.length_filter_le _ _
  omega

set_option maxHeartbeats 1000000 in
/-- the second loop: levels of prices -/
theorem levels_some (p base g cap n : Nat) (sd : Int) (l : List Cv.Lot) (w : World) (hb : Hid (Book w base p (.slice (some ⟨g, 0, none⟩) n cap) l)) (hn : Hid (l.length = n)) (hn' : n ≤ 60) (hok : Hid (Cv.Oks l)) (hl : Hid (LotsAt w g 0 l)) :
    Calls Tryd.prog 26 #[.pointer (some ⟨p, 0, none⟩), .int .i64 sd] w fun e w' => ∃ v, e = .returned v ∧ w'.ownsRow w.heap.size 59 3 v (Bk.levs l sd).length (lflat (Bk.levs l sd)) ∧ Below w.heap.size w w' := by
  have hmm := @run_makeMap Tryd.prog
  have hcell := cell_of_one hb.out.cell
  have hpl := hb.out.lt
  go_enter Tryd.func26, Tryd.ntmps26
  go_wp2
  go_loopw [18] (fun i wr => ∃ k : Nat, k ≤ n ∧ i = .int .i64 k ∧ LvT wr w.heap.size k l sd ∧ Below w.heap.size w wr ∧ w.heap.size < wr.heap.size) (fun i _ => n - (intOf i).toNat)
  case atStart => exact ⟨0, Nat.zero_le _, rfl, ⟨_, lvm_made w⟩, (Below.refl _ _).alloc (Nat.le_refl _) _, by simp⟩
  case round =>
    obtain ⟨k, hk, rfl, hL, hbl, hlt0⟩ := hrel
    have HL := hide hL; have HB := hide hbl; have HS := hide hlt0
    clear hL hbl hlt0
    by_cases hlt : k < n
    · have hki : (k : Int) < n := by omega
      obtain ⟨c0, c1, c2, c3, c4⟩ := (hl.out.later HB.out) k (by rw [hn.out]; exact hlt)
      simp only [Nat.zero_add] at c0 c1 c2 c3 c4
      have HT := hide (Cv.take_succ (l := l) (i := k) (by rw [hn.out]; exact hlt))
      have HK := hide (Cv.ok_bounds (hok.out _ (Cv.nth_mem (l := l) (i := k) (by rw [hn.out]; exact hlt))))
      generalize Cv.nth l k = x at *
      by_cases hs : x.sd = sd
      · obtain ⟨D, hLv⟩ := HL.out
        have hrun := (hLv.alloc (.cells #[.int .i64 x.id, .int .i64 x.ow, .int .i64 x.sd, .int .i64 x.pr, .int .i64 x.q] 43)).look (p := x.pr) (by have := HK.out; omega) (by have := HK.out; omega)
        have hqb := tot_lv (hok.out.take k) sd x.pr (by rw [List.length_take]; omega)
        obtain ⟨w4, D4, hmu, hL4, hg4⟩ := ((hLv.alloc (.cells #[.int .i64 x.id, .int .i64 x.ow, .int .i64 x.sd, .int .i64 x.pr, .int .i64 x.q] 43)).alloc (.cells #[.int .i64 (pz (Ra.lv (l.take k) sd) x.pr), .int .i64 (Ra.tot (Ra.lv (l.take k) sd x.pr)), .int .i64 ((Ra.lv (l.take k) sd x.pr).length : Nat)] 59)).store x (p := x.pr) (by have := HK.out; omega) (by have := HK.out; omega) (by unfold maxLen; omega)
        rw [← lv_in hs, ← HT.out] at hL4
        have HB4 : Hid (Below w.heap.size w w4) := by
          have b0 := (HB.out.alloc HB.out.size (.cells #[.int .i64 x.id, .int .i64 x.ow, .int .i64 x.sd, .int .i64 x.pr, .int .i64 x.q] 43)).alloc (by have := HB.out.size; simp; omega) (.cells #[.int .i64 (pz (Ra.lv (l.take k) sd) x.pr), .int .i64 (Ra.tot (Ra.lv (l.take k) sd x.pr)), .int .i64 ((Ra.lv (l.take k) sd x.pr).length : Nat)] 59)
          exact b0.grown hg4 b0.size (fun j hj => by cases hj; exact Nat.le_refl _)
        have HS4 : Hid (w.heap.size < w4.heap.size) := by
          have h2 := hg4.size; have h3 := HS.out
          simp at h2
          show _ < _
          omega
        have HL4 : Hid (LvT w4 w.heap.size (k + 1) l sd) := ⟨D4, hL4⟩
        unfold lv3 at hrun hmu
        generalize pz (Ra.lv (l.take k) sd) x.pr = a0 at *
        generalize Ra.tot (Ra.lv (l.take k) sd x.pr) = a1 at *
        generalize (Ra.lv (l.take k) sd x.pr).length = a2 at *
        have hw1 : IntKind.i64.wrap (a1 + x.q) = a1 + x.q := IntWalk.i64_in _ (by have := HK.out; omega)
        have hw2 : IntKind.i64.wrap ((a2 : Int) + 1) = (a2 : Int) + 1 := IntWalk.i64_in _ (by omega)
        have hwr : w.heap.size < wr.heap.size := HS.out
        have hsb : (x.sd == sd) = true := by simp [hs]
        clear hLv hL4 hg4 HL hs
        go_wp2_with (at_lookup; refine wpList_lookup_run rfl _ _ 96 rfl _ _ _ rfl rfl hrun ?_)
        exact ⟨⟨k + 1, by omega, by go_num, HL4.out, HB4.out, HS4.out⟩, by simp [intOf]; omega⟩
      · have HL' : Hid (LvT wr w.heap.size (k + 1) l sd) := by
          obtain ⟨D, h⟩ := HL.out
          refine ⟨D, ?_⟩
          rw [HT.out, lv_out hs]
          exact { h with own := h.own.mono (Nat.le_succ _) }
        clear HL
        have hsb : (x.sd == sd) = false := by simp [hs]
        go_wp2
        exact ⟨⟨k + 1, by omega, by go_num, by obtain ⟨D, h⟩ := HL'.out; exact ⟨D, h.alloc _⟩, HB.out.alloc HB.out.size _, by have := HS.out; simp; omega⟩, by simp [intOf]; omega⟩
    · have hki : ¬ (k : Int) < n := by omega
      obtain rfl : k = n := by omega
      obtain ⟨D, hLv⟩ := HL.out
      rw [show l.take k = l from List.take_of_length_le (by rw [hn.out]; omega)] at hLv
      have HLV := hide hLv
      clear hLv HL
      obtain ⟨ps, hps⟩ : ∃ ps, Bk.prs l sd = ps := ⟨_, rfl⟩
      have HPS := hide hps
      have HBF := hide (bestFirstB_any sd w.heap.size k (Ra.lv l sd) D (if sd = 0 then (Bk.prs l sd).reverse else Bk.prs l sd) wr HLV.out (by omega) (Bk.prs_up l sd) (mem_ps hok.out))
      rw [wp_levels_done, hps] at HBF
      have HLEN : Hid (ps.length ≤ 60) := by
        have := Bk.prs_length hok.out sd
        rw [hps, hn.out] at this
        exact Nat.le_trans this hn'
      have HMEM : Hid (∀ i, i < ps.length → Ra.lv l sd (ps.getD i 0) ≠ []) := fun i hi => by
        rw [← Bk.mem_prs hok.out, hps]
        rw [List.getD_eq_getElem?_getD, List.getElem?_eq_getElem hi]
        exact List.getElem_mem hi
      clear hps
      obtain ⟨i0, z0, hi, hz0, hz1, hz2, hz3⟩ := info59
      have Hi := hide hi; have Hz0 := hide hz0; have Hz1 := hide hz1; have Hz2 := hide hz2; have Hz3 := hide hz3
      clear hi hz0 hz1 hz2 hz3
      go_wp2_with fail
      refine HBF.out.mono ?_
      rintro e w2 ⟨v2, rfl, hpr, hb2⟩
      have HB2 : Hid (Below w.heap.size w w2) := HB.out.trans (hb2.mono HB.out.size)
      have HM2 := hide (HLV.out.later hb2)
      clear hb2 HBF
      rcases hpr with ⟨hp0, rfl⟩ | ⟨pb, pc, rfl, hpc⟩
      · have HP0 : Hid (Bk.levs l sd = []) := by show _ = _; unfold Bk.levs; rw [HPS.out, hp0]; rfl
        clear hp0
        simp only []
        go_wp2
        refine wp_loop_rounds 1 ?_
        rw [rounds_succ]
        go_wp2
        go_ret
        exact ⟨_, rfl, by rw [HP0.out]; exact World.ownsRow_nil _ _ _ _, HB2.out⟩
      · have HPC := hide hpc
        have HLL : Hid ((Bk.levs l sd).length = ps.length) := by show _ = _; unfold Bk.levs; rw [HPS.out]; simp
        obtain ⟨m, hm⟩ : ∃ m, ps.length = m := ⟨_, rfl⟩
        have HMM := hide hm
        rw [hm]
        have hm60 : m ≤ 60 := by rw [← hm]; exact HLEN.out
        have hsz : w.heap.size ≤ w2.heap.size := HB2.out.size
        clear hpc hm
        simp only []
        go_wp2
        go_loopw [9, 49] (fun v i wx => ∃ j : Nat, j ≤ m ∧ i = .int .i64 j ∧ wx.ownsRow w2.heap.size 59 3 v j (lflat ((Bk.levs l sd).take j)) ∧ Below w2.heap.size w2 wx) (fun _ i _ => m - (intOf i).toNat)
        case atStart => exact ⟨0, Nat.zero_le _, rfl, World.ownsRow_nil _ _ _ _, Below.refl _ _⟩
        case round =>
          obtain ⟨j, hj, rfl, hown, hbx⟩ := hrel
          have HO := hide hown; have HX := hide hbx
          clear hown hbx
          obtain ⟨wy, hwy⟩ : ∃ wy, wy = wr := ⟨_, rfl⟩
          subst hwy
          by_cases hjm : j < m
          · have hji : (j : Int) < m := by omega
            have c0 := cell_later HX.out (HPC.out j (by rw [HMM.out]; exact hjm))
            have hrun := fun o => ((HM2.out.later HX.out).alloc o)
            have hlk := (HM2.out.later HX.out).look (p := ps.getD j 0) (by have := Bk.mem_lv hok.out (HMEM.out j (by rw [HMM.out]; exact hjm)); omega) (by have := Bk.mem_lv hok.out (HMEM.out j (by rw [HMM.out]; exact hjm)); omega)
            have hpz : pz (Ra.lv l sd) (ps.getD j 0) = ps.getD j 0 := by
              unfold pz
              rw [if_neg (by have := HMEM.out j (by rw [HMM.out]; exact hjm); simpa using this)]
            rw [hpz] at hlk
            have HTK := hide (levs_take HPS.out (k := j) (by rw [HMM.out]; exact hjm))
            unfold Bk.lev at HTK
            unfold lv3 at hlk
            clear hpz hrun
            generalize ps.getD j 0 = pp at *
            generalize Ra.tot (Ra.lv l sd pp) = a1 at *
            obtain ⟨a2, ha2⟩ : ∃ a2 : Int, ((Ra.lv l sd pp).length : Int) = a2 := ⟨_, rfl⟩
            rw [ha2] at hlk HTK
            clear ha2
            go_wp2_with (first | (at_lookup; refine wpList_lookup_run rfl _ _ 96 rfl _ _ _ rfl rfl hlk ?_) | (at_builtin; refine wpList_append_own _ rfl _ _ 56 rfl w2.heap.size 59 i0 z0 3 24 Tryd.underlying56 Hi.out Hz0.out Hz1.out Hz2.out Hz3.out (by decide) _ _ _ rfl (HO.out.alloc _) ⟨wy.heap.size, 0, none⟩ 1 1 [.int .i64 pp, .int .i64 a1, .int .i64 a2] rfl rfl ?d1 ?d2 ?d3 ?d4 ?d5 ?_))
            case d1 => exact fun j u hj => cell_new3 _ _ _ _ _ _ (by simp) j u hj
            case d2 => intro u hu
                       simp only [List.mem_cons, List.not_mem_nil, or_false] at hu
                       rcases hu with rfl | rfl | rfl <;> rfl
            case d3 => unfold maxLen; omega
            case d4 => omega
            case d5 => have := HX.out.size; simp; omega
            intro v3 w3 hown' hgrow _
            have HO3 : Hid (w3.ownsRow w2.heap.size 59 3 v3 (j + 1) (lflat ((Bk.levs l sd).take (j + 1)))) := by
              show w3.ownsRow _ _ _ _ _ _
              rw [HTK.out, lflat_snoc]
              exact hown'
            have hlt3 := HO.out.lt
            have HX3 : Hid (Below w2.heap.size w2 w3) := (HX.out.alloc HX.out.size _).grown hgrow (by have := HX.out.size; simp; omega) (fun j hj => (hlt3 j hj).1)
            clear hown' hgrow HO HX hlt3 c0 hlk
            go_wp2
            exact ⟨⟨j + 1, by omega, by go_num, HO3.out, HX3.out⟩, by simp [intOf]; omega⟩
          · have hji : ¬ (j : Int) < m := by omega
            obtain rfl : j = m := by omega
            have hown := HO.out
            rw [List.take_of_length_le (by rw [HLL.out, HMM.out]; exact Nat.le_refl _)] at hown
            have HO' := hide hown
            clear hown HO
            go_wp2
            go_ret
            refine ⟨_, rfl, ?_, HB2.out.trans (HX.out.mono hsz)⟩
            rw [HLL.out, HMM.out]
            have := HO'.out
            refine ⟨this.1, ?_⟩
            rcases this.2 with h | ⟨g, cap, cur, h1, h2, h3⟩
            · exact .inl h
            · exact .inr ⟨g, cap, cur, h1, Nat.le_trans hsz h2, h3⟩
set_option maxHeartbeats 1000000 in
theorem levels_none (p base : Nat) (sd : Int) (w : World) (hb : Hid (Book w base p (.slice none 0 0) [])) :
    Calls Tryd.prog 26 #[.pointer (some ⟨p, 0, none⟩), .int .i64 sd] w fun e w' => ∃ v, e = .returned v ∧ w'.ownsRow w.heap.size 59 3 v (Bk.levs [] sd).length (lflat (Bk.levs [] sd)) ∧ Below w.heap.size w w' := by
  have hmm := @run_makeMap Tryd.prog
  have hcell := cell_of_one hb.out.cell
  have hpl := hb.out.lt
  have HP : Hid (Bk.levs [] sd = []) := by
    have h : Bk.prs [] sd = [] := by
      refine List.eq_nil_iff_forall_not_mem.2 fun p hp => ?_
      exact (Bk.mem_prs (l := []) (fun _ h => absurd h List.not_mem_nil)).1 hp rfl
    show _ = _
    unfold Bk.levs; rw [h]; rfl
  have HBF := hide (bestFirstB_any sd w.heap.size 0 (fun _ => []) _ [] _ (lvm_made w) (by omega) List.Pairwise.nil (fun p => by simp))
  rw [show (if sd = 0 then ([] : List Int).reverse else []) = [] by split <;> rfl] at HBF
  go_enter Tryd.func26, Tryd.ntmps26
  go_wp2
  refine wp_loop_rounds 1 ?_
  rw [rounds_succ]
  go_wp2_with fail
  refine HBF.out.mono ?_
  rintro e w2 ⟨v2, rfl, hpr, hb2⟩
  have HB2 : Hid (Below w.heap.size w w2) := ((Below.refl _ _).alloc (Nat.le_refl _) _).trans (hb2.mono (by simp))
  clear hb2 HBF
  rcases hpr with ⟨_, rfl⟩ | ⟨pb, pc, rfl, _⟩
  all_goals
    simp only [List.length_nil]
    go_wp2
    refine wp_loop_rounds 1 ?_
    rw [rounds_succ]
    go_wp2
    go_ret
    exact ⟨_, rfl, by rw [HP.out]; exact World.ownsRow_nil _ _ _ _, HB2.out⟩
theorem levels_any (p base : Nat) (v : Value) (sd : Int) (l : List Cv.Lot) (w : World) (hb : Hid (Book w base p v l)) (hg : Hid (Bk.Good l)) :
    Calls Tryd.prog 26 #[.pointer (some ⟨p, 0, none⟩), .int .i64 sd] w fun e w' => ∃ v, e = .returned v ∧ w'.ownsRow w.heap.size 59 3 v (Bk.levs l sd).length (lflat (Bk.levs l sd)) ∧ Below w.heap.size w w' := by
  rcases hb.out.form with ⟨rfl, rfl⟩ | ⟨g, cap, rfl, hle, _, hl⟩
  · exact levels_none p base sd w hb
  · exact levels_some p base g cap _ sd l w hb rfl hg.out.len hg.out.oks hl
end Go.Proofs.YtbcinejhipmomaaDoor
