/- PricesOf by its contract. -/
import Derived.Test.YtfdapfegidbijaaDoorCvRef
import Derived.Test.YtfdapfegidbijaaDoorCvPrices
namespace Go.Proofs.YtfdapfegidbijaaDoor
open Go.RowKit
set_option maxRecDepth 100000

def iV (ps : List Int) : List Value := ps.map fun z => .int .i64 z
theorem ownsRow_mono {w : World} {base base' : Nat} {e : TypeId} {v : Value} {n : Nat} {xs : List Value} (h : w.ownsRow base e 1 v n xs) (hb : base' ≤ base) : w.ownsRow base' e 1 v n xs := by
  refine ⟨h.1, ?_⟩
  rcases h.2 with hn | ⟨g, cap, cur, rfl, hb', rest⟩
  · exact .inl hn
  · exact .inr ⟨g, cap, cur, rfl, by omega, rest⟩
theorem ownsRow_below {w w' : World} {base : Nat} {e : TypeId} {v : Value} {n : Nat} {xs : List Value} (h : w.ownsRow base e 1 v n xs) (hb : Below w.heap.size w w') : w'.ownsRow base e 1 v n xs :=
  h.kept (row := none) ⟨hb.os, hb.tape, hb.output, hb.size, fun j hj _ => hb.block j hj⟩ (by cases v.ownBlock <;> simp)

theorem Cv.insert_prices {t : List Cv.Lot} {ps : List Int} {x : Cv.Lot} {j : Nat} (h : Cv.IsPrices t ps) (hj : j ≤ ps.length) (hlo : ∀ i, i < j → ps.getD i 0 < x.pr) (hhi : j = ps.length ∨ x.pr < ps.getD j 0) :
    Cv.IsPrices (t ++ [x]) (ps.take j ++ [x.pr] ++ ps.drop j) := by
  obtain ⟨h1, h2⟩ := h
  have e : ps.take j ++ ps.drop j = ps := List.take_append_drop j ps
  have hp := h1
  rw [← e] at hp
  obtain ⟨p1, p2, p3⟩ := List.pairwise_append.1 hp
  have hlo' : ∀ z ∈ ps.take j, z < x.pr := by
    intro z hz
    obtain ⟨i, hi, rfl⟩ := List.mem_iff_getElem.1 hz
    rw [List.length_take] at hi
    have := hlo i (by omega)
    rw [List.getD_eq_getElem?_getD, List.getElem?_eq_getElem (by omega)] at this
    simpa using this
  have hhi' : ∀ z ∈ ps.drop j, x.pr < z := by
    intro z hz
    rcases hhi with hh | hh
    · rw [hh, List.drop_length] at hz; cases hz
    · have hjl : j < ps.length := by
        rcases Nat.lt_or_ge j ps.length with h' | h'
        · exact h'
        · rw [List.drop_of_length_le h'] at hz; cases hz
      rw [List.drop_eq_getElem_cons hjl] at hz p2
      rw [List.getD_eq_getElem?_getD, List.getElem?_eq_getElem hjl] at hh
      have hh : x.pr < ps[j] := hh
      rcases List.mem_cons.1 hz with rfl | hz
      · exact hh
      · have := (List.pairwise_cons.1 p2).1 z hz
        omega
  refine ⟨?_, fun y => ?_⟩
  · rw [List.append_assoc]
    refine List.pairwise_append.2 ⟨p1, List.pairwise_cons.2 ⟨hhi', p2⟩, fun a ha b hb => ?_⟩
    rcases List.mem_cons.1 hb with rfl | hb
    · exact hlo' a ha
    · exact p3 a ha b hb
  · have := h2 y
    rw [← e, List.mem_append] at this
    constructor
    · intro hy
      rcases List.mem_append.1 hy with hy | hy
      · rcases List.mem_append.1 hy with hy | hy
        · obtain ⟨z, hz, hzy⟩ := this.1 (.inl hy)
          exact ⟨z, List.mem_append_left _ hz, hzy⟩
        · exact ⟨x, List.mem_append_right _ (List.mem_singleton.2 rfl), (List.mem_singleton.1 hy).symm⟩
      · obtain ⟨z, hz, hzy⟩ := this.1 (.inr hy)
        exact ⟨z, List.mem_append_left _ hz, hzy⟩
    · rintro ⟨z, hz, hzy⟩
      rcases List.mem_append.1 hz with hz | hz
      · rcases this.2 ⟨z, hz, hzy⟩ with hy | hy
        · exact List.mem_append_left _ (List.mem_append_left _ hy)
        · exact List.mem_append_right _ hy
      · rw [List.mem_singleton.1 hz] at hzy
        exact List.mem_append_left _ (List.mem_append_right _ (List.mem_singleton.2 hzy.symm))
theorem Cv.same_prices {t : List Cv.Lot} {ps : List Int} {x : Cv.Lot} (h : Cv.IsPrices t ps) (hx : x.pr ∈ ps) : Cv.IsPrices (t ++ [x]) ps := by
  refine ⟨h.1, fun y => (h.2 y).trans ?_⟩
  constructor
  · rintro ⟨z, hz, e⟩
    exact ⟨z, List.mem_append_left _ hz, e⟩
  · rintro ⟨z, hz, e⟩
    rcases List.mem_append.1 hz with hz | hz
    · exact ⟨z, hz, e⟩
    · rw [List.mem_singleton.1 hz] at e
      rw [← e]
      exact (h.2 _).1 hx
theorem iV_at {ps : List Int} {i : Nat} {u : Value} (h : (iV ps)[i]? = some u) : i < ps.length ∧ u = .int .i64 (ps.getD i 0) := by
  unfold iV at h
  rw [List.getElem?_map] at h
  cases hi : ps[i]? with
  | none => rw [hi] at h; cases h
  | some z =>
    rw [hi] at h
    refine ⟨(List.getElem?_eq_some_iff.1 hi).1, ?_⟩
    rw [List.getD_eq_getElem?_getD, hi]
    simpa using h.symm
theorem iV_one {ps : List Int} {u : Value} (h : u ∈ iV ps) : u.oneCell' = true := by
  obtain ⟨z, _, rfl⟩ := List.mem_map.1 h
  rfl
theorem add0 (g j : Nat) : (⟨g, 0, none⟩ : Addr).add j = ⟨g, j, none⟩ := by unfold Addr.add; split <;> simp_all

/-- what a call that returns prices answers -/
def Priced (w : World) (l : List Cv.Lot) (e : Ending) : Prop := ∃ v ps, e = .returned v ∧ Cv.IsPrices l ps ∧ Ints w v ps

set_option maxHeartbeats 1000000 in
theorem pricesOf_some (g0 : Addr) (n cap : Nat) (l : List Cv.Lot) (w : World) (hn : Hid (l.length = n)) (hok : Hid (Cv.Well l)) (hl : Hid (ArgAt w g0 l)) :
    Calls Tryd.prog 24 #[.slice (some g0) n cap] w fun e w' => Priced w' l e ∧ Below w.heap.size w w' := by
  obtain ⟨i0, hi, hz0, hz1, hz2⟩ := info3
  have Hi := hide hi; have Hz0 := hide hz0; have Hz1 := hide hz1; have Hz2 := hide hz2
  clear hi hz0 hz1 hz2
  have h120 := hok.out.1
  rw [hn.out] at h120
  go_enter Tryd.func24, Tryd.ntmps24
  go_wp2
  go_loopw [3, 4] (fun v i wr => ∃ (k : Nat) (ps : List Int), k ≤ n ∧ i = .int .i64 k ∧ Cv.IsPrices (l.take k) ps ∧ ps.length ≤ k ∧ wr.ownsRow w.heap.size 3 1 v ps.length (iV ps) ∧ Below w.heap.size w wr) (fun _ i _ => n - (intOf i).toNat)
  case atStart => exact ⟨0, [], Nat.zero_le _, rfl, Cv.isPrices_nil, Nat.le_refl _, World.ownsRow_nil _ _ _ _, Below.refl _ _⟩
  case round =>
    obtain ⟨k, ps, hk, rfl, hps, hpk, hown, hb⟩ := hrel
    have HB := hide hb; have HO := hide hown; have HP := hide hps
    clear hb hown hps
    by_cases hlt : k < n
    · have hki : (k : Int) < n := by omega
      obtain ⟨_, _, _, c3, _⟩ := (hl.out.later HB.out) k (by rw [hn.out]; exact hlt)
      have HT := hide (Cv.take_succ (l := l) (i := k) (by rw [hn.out]; exact hlt))
      generalize Cv.nth l k = x at *
      generalize hpr : x.pr = y at *
      have HY := hide hpr
      clear hpr
      rcases HO.out.2 with ⟨hv, h0⟩ | ⟨g, cap', cur, hv, hbg, hgg, hnc, hcm, _, _⟩
      · subst hv
        have hnil : ps = [] := List.eq_nil_of_length_eq_zero h0
        subst hnil
        go_wp2
        refine wp_loop_rounds 1 ?_
        rw [rounds_succ]
        go_wp2
        go_quiet (fail)
        have HB2 : Hid (Below w.heap.size w (wr.drewN nq)) := HB.out.trans ((blw_drew nq).mono HB.out.size)
        replace c3 : (wr.drewN nq).cell? ⟨(g0.add (k * 5)).block, (g0.add (k * 5)).off + 3, none⟩ = some (.int .i64 y) := c3
        generalize wr.drewN nq = w2 at *
        go_wp2
        go_quiet (fail)
        have HB3 : Hid (Below w.heap.size w (w2.drewN nq)) := HB2.out.trans ((blw_drew nq).mono HB2.out.size)
        replace c3 : (w2.drewN nq).cell? ⟨(g0.add (k * 5)).block, (g0.add (k * 5)).off + 3, none⟩ = some (.int .i64 y) := c3
        generalize w2.drewN nq = w3 at *
        go_wp2_with (at_builtin; refine wpList_append_own _ rfl _ _ 33 rfl w3.heap.size 3 i0 (.int .i64 0) 1 8 Tryd.underlying33 Hi.out Hz0.out Hz1.out Hz2.out rfl (by decide) _ _ _ rfl (World.ownsRow_nil _ _ _ _) ⟨w3.heap.size, 0, none⟩ 1 1 [.int .i64 y] rfl rfl ?c1 ?c2 ?c3 ?c4 ?c5 ?_)
        case c1 =>
          intro j u hj
          obtain ⟨h1, h2⟩ := iV_at (ps := [y]) hj
          have h1 : j = 0 := by simpa using h1
          subst h1
          rw [h2, add0, World.cell?_alloc_new]
          rfl
        case c2 => exact fun u hu => iV_one (ps := [y]) hu
        case c3 => unfold maxLen; omega
        case c4 => omega
        case c5 => simp
        intro v4 w4 hown4 hgrow4 _
        have HB4 : Hid (Below w.heap.size w w4) := (HB3.out.alloc HB3.out.size _).grown hgrow4 (by have := HB3.out.size; simp; omega) (fun k hk => by cases hk)
        have HO4 : Hid (w4.ownsRow w.heap.size 3 1 v4 1 (iV [y])) := ownsRow_mono hown4 HB3.out.size
        have HP4 : Hid (Cv.IsPrices (l.take (k + 1)) [y]) := by
          have := Cv.insert_prices (j := 0) (x := x) HP.out (Nat.le_refl _) (fun i hi => absurd hi (Nat.not_lt_zero i)) (.inl rfl)
          rw [HY.out] at this
          show Cv.IsPrices _ _
          rw [HT.out]
          simpa using this
        clear hown4 hgrow4
        obtain ⟨_, ⟨hv4, h1⟩ | ⟨g4, cap4, cur4, hv4, _, hg4, hn4, hm4, hs4, _⟩⟩ := id HO4.out
        · omega
        subst hv4
        go_wp2
        exact ⟨⟨k + 1, [y], by omega, by go_num, HP4.out, by simp, HO4.out, HB4.out⟩, by simp [intOf]; omega⟩
      · subst hv
        have hcell : Hid (∀ j, j < ps.length → wr.cell? ⟨g, j, none⟩ = some (.int .i64 (ps.getD j 0))) := fun j hj => by
          have hc := World.ownsRow.cells HO.out (g := g) rfl j (.int .i64 (ps.getD j 0)) (by simp [iV, hj])
          have hp : (⟨g, 0, none⟩ : Addr).add j = ⟨g, j, none⟩ := by unfold Addr.add; split <;> simp_all
          rwa [hp] at hc
        generalize hm : ps.length = m at *
        have Hm := hide hm
        clear hm
        obtain ⟨wo, hwo⟩ : ∃ wo, wo = wr := ⟨_, rfl⟩
        subst hwo
        have C3 := hide c3
        clear c3
        go_wp2
        go_loopw [5] (fun at_ wx => ∃ j : Nat, j ≤ m ∧ at_ = .int .i64 j ∧ (∀ i, i < j → ps.getD i 0 < y) ∧ Below wo.heap.size wo wx) (fun at_ _ => m - (intOf at_).toNat)
        case atStart => exact ⟨0, Nat.zero_le _, rfl, fun i hi => absurd hi (Nat.not_lt_zero i), Below.refl _ _⟩
        case round =>
          obtain ⟨j, hj, rfl, hlo, hbx⟩ := hrel
          have HLO := hide hlo; have HX := hide hbx
          have c3 := cell_later hbx C3.out
          clear hlo hbx
          by_cases hjm : j < m
          · have hji : (j : Int) < m := by omega
            have hcj := cell_later HX.out (hcell.out j hjm)
            by_cases hz : ps.getD j 0 < y
            · have HLO2 : Hid (∀ i, i < j + 1 → ps.getD i 0 < y) := fun i hi => by
                by_cases e : i = j
                · rw [e]; exact hz
                · exact HLO.out i (by omega)
              generalize ps.getD j 0 = zj at *
              go_wp2
              go_quiet (fail)
              go_wp2
              exact ⟨⟨j + 1, by omega, by go_num, HLO2.out, HX.out.trans ((blw_drew nq).mono HX.out.size)⟩, by simp [intOf]; omega⟩
            · by_cases hzz : ps.getD j 0 = y
              · have HI : Hid (Cv.IsPrices (l.take (k + 1)) ps) := by
                  show Cv.IsPrices _ _
                  rw [HT.out]
                  refine Cv.same_prices HP.out ?_
                  rw [HY.out, ← hzz, List.getD_eq_getElem?_getD, List.getElem?_eq_getElem (by rw [Hm.out]; exact hjm)]
                  exact List.getElem_mem _
                rw [hzz] at hcj hz
                clear hzz
                go_wp2
                go_quiet (fail)
                replace HX : Hid (Below wo.heap.size wo (wr.drewN nq)) := HX.out.trans ((blw_drew nq).mono HX.out.size)
                replace c3 := cell_later (blw_drew nq) c3
                replace hcj := cell_later (blw_drew nq) hcj
                generalize wr.drewN nq = w2 at *
                go_wp2
                go_quiet (fail)
                replace HX : Hid (Below wo.heap.size wo (w2.drewN nq)) := HX.out.trans ((blw_drew nq).mono HX.out.size)
                generalize w2.drewN nq = w3 at *
                go_wp2
                exact ⟨⟨k + 1, ps, by omega, by go_num, HI.out, by rw [Hm.out]; omega, by rw [Hm.out]; exact ownsRow_below HO.out HX.out, HB.out.trans (HX.out.mono HB.out.size)⟩, by simp [intOf]; omega⟩
              · have hz2 : y < ps.getD j 0 := by omega
                have HI : Hid (Cv.IsPrices (l.take (k + 1)) (ps.take j ++ [y] ++ ps.drop j)) := by
                  have := Cv.insert_prices (j := j) (x := x) HP.out (by rw [Hm.out]; exact hj) (fun i hi => by rw [HY.out]; exact HLO.out i hi) (.inr (by rw [HY.out]; exact hz2))
                  rw [HY.out] at this
                  show Cv.IsPrices _ _
                  rw [HT.out]
                  exact this
                have hjc : ¬ cap' = j := by omega
                have hjc2 : j ≤ cap' := by omega
                generalize hzj : ps.getD j 0 = zj at *
                clear hzj
                go_wp2
                go_quiet (fail)
                replace HX : Hid (Below wo.heap.size wo (wr.drewN nq)) := HX.out.trans ((blw_drew nq).mono HX.out.size)
                replace c3 := cell_later (blw_drew nq) c3
                replace hcj := cell_later (blw_drew nq) hcj
                generalize wr.drewN nq = w2 at *
                go_wp2
                go_quiet (fail)
                replace HX : Hid (Below wo.heap.size wo (w2.drewN nq)) := HX.out.trans ((blw_drew nq).mono HX.out.size)
                replace c3 := cell_later (blw_drew nq) c3
                generalize w2.drewN nq = w3 at *
                have HB3 : Hid (Below w.heap.size w w3) := HB.out.trans (HX.out.mono HB.out.size)
                have hc3 : ∀ i, i < m → w3.cell? ⟨g, i, none⟩ = some (.int .i64 (ps.getD i 0)) := fun i hi => cell_later HX.out (hcell.out i hi)
                have HC3 := hide hc3
                clear hc3
                go_wp2_with (at_builtin; refine wpList_append_own _ rfl _ _ 33 rfl w3.heap.size 3 i0 (.int .i64 0) 1 8 Tryd.underlying33 Hi.out Hz0.out Hz1.out Hz2.out rfl (by decide) _ _ _ rfl (World.ownsRow_nil _ _ _ _) ⟨g, 0, none⟩ j cap' (iV (ps.take j)) rfl ?c0 ?c1 ?c2 ?c3 ?c4 ?c5 ?_)
                case c0 => simp [iV, Hm.out]; omega
                case c1 =>
                  intro i u hu
                  obtain ⟨h1, h2⟩ := iV_at hu
                  rw [List.length_take] at h1
                  rw [h2, add0, HC3.out i (by omega), List.getD_eq_getElem?_getD, List.getD_eq_getElem?_getD, List.getElem?_take_of_lt (by omega)]
                case c2 => exact fun u hu => iV_one hu
                case c3 => unfold maxLen; omega
                case c4 => omega
                case c5 => exact Nat.le_refl _
                intro v4 w4 hown4 hgrow4 _
                have HB34 : Hid (Below w3.heap.size w3 w4) := (Below.refl _ w3).grown hgrow4 (Nat.le_refl _) (fun k hk => by cases hk)
                have HB4 : Hid (Below w.heap.size w w4) := HB3.out.trans (HB34.out.mono HB3.out.size)
                have HO4 : Hid (w4.ownsRow w3.heap.size 3 1 v4 (0 + j) ([] ++ iV (ps.take j))) := hide (by first | exact hown4 | simpa using hown4)
                have c4 := cell_later HB34.out c3
                clear hown4 hgrow4
                go_wp2_with (at_builtin; refine wpList_append_own _ rfl _ _ 33 rfl w3.heap.size 3 i0 (.int .i64 0) 1 8 Tryd.underlying33 Hi.out Hz0.out Hz1.out Hz2.out rfl (by decide) _ _ _ rfl (HO4.out.alloc _) ⟨w4.heap.size, 0, none⟩ 1 1 [.int .i64 y] rfl rfl ?c1 ?c2 ?c3 ?c4 ?c5 ?_)
                case c1 =>
                  intro i u hi
                  obtain ⟨h1, h2⟩ := iV_at (ps := [y]) hi
                  have h1 : i = 0 := by simpa using h1
                  subst h1
                  rw [h2, add0, World.cell?_alloc_new]
                  rfl
                case c2 => exact fun u hu => iV_one (ps := [y]) hu
                case c3 => unfold maxLen; omega
                case c4 => omega
                case c5 => have := HB34.out.size; simp; omega
                intro v5 w5 hown5 hgrow5 _
                have HB35 : Hid (Below w3.heap.size w3 w5) := (HB34.out.alloc HB34.out.size _).grown hgrow5 (by have := HB34.out.size; simp; omega) (fun k hk => (HO4.out.lt k hk).1)
                have HO5 : Hid (w5.ownsRow w3.heap.size 3 1 v5 (0 + j + 1) ([] ++ iV (ps.take j) ++ [.int .i64 y])) := hide (by first | exact hown5 | simpa using hown5)
                have HC5 : Hid (∀ i, i < m → w5.cell? ⟨g, i, none⟩ = some (.int .i64 (ps.getD i 0))) := fun i hi => cell_later HB35.out (HC3.out i hi)
                clear hown5 hgrow5 c3 c4 HC3
                go_wp2_with (at_builtin; refine wpList_append_own _ rfl _ _ 33 rfl w3.heap.size 3 i0 (.int .i64 0) 1 8 Tryd.underlying33 Hi.out Hz0.out Hz1.out Hz2.out rfl (by decide) _ _ _ rfl HO5.out ⟨g, j, none⟩ (m - j) (cap' - j) (iV (ps.drop j)) rfl ?c0 ?c1 ?c2 ?c3 ?c4 ?c5 ?_)
                case c0 => simp [iV, Hm.out]
                case c1 =>
                  intro i u hu
                  obtain ⟨h1, h2⟩ := iV_at hu
                  rw [List.length_drop, Hm.out] at h1
                  rw [h2, show (⟨g, j, none⟩ : Addr).add i = ⟨g, j + i, none⟩ by (unfold Addr.add; split <;> simp_all), HC5.out (j + i) (by omega), List.getD_eq_getElem?_getD, List.getD_eq_getElem?_getD, List.getElem?_drop]
                case c2 => exact fun u hu => iV_one hu
                case c3 => unfold maxLen; omega
                case c4 => omega
                case c5 => exact HB35.out.size
                intro v6 w6 hown6 hgrow6 _
                have HB6 : Hid (Below w.heap.size w w6) := (HB3.out.trans (HB35.out.mono HB3.out.size)).grown hgrow6 (Nat.le_trans HB3.out.size HB35.out.size) (fun k hk => Nat.le_trans HB3.out.size (HO5.out.lt k hk).1)
                have HO6 : Hid (w6.ownsRow w.heap.size 3 1 v6 (ps.take j ++ [y] ++ ps.drop j).length (iV (ps.take j ++ [y] ++ ps.drop j))) := by
                  have h6 := ownsRow_mono hown6 HB3.out.size
                  have e1 : (ps.take j ++ [y] ++ ps.drop j).length = m + 1 := by simp [Hm.out]; omega
                  show w6.ownsRow _ _ _ _ _ _
                  rw [e1]
                  have e2 : iV (ps.take j ++ [y] ++ ps.drop j) = iV (ps.take j) ++ [.int .i64 y] ++ iV (ps.drop j) := by simp [iV]
                  rw [e2]
                  have e3 : m + 1 = 0 + j + 1 + (m - j) := by omega
                  rw [e3]
                  first | exact h6 | simpa using h6
                have hlen : Hid ((ps.take j ++ [y] ++ ps.drop j).length ≤ k + 1) := by show _ ≤ _; simp [Hm.out]; omega
                clear hown6 hgrow6
                go_wp2
                exact ⟨⟨k + 1, ps.take j ++ [y] ++ ps.drop j, by omega, by go_num, HI.out, hlen.out, HO6.out, HB6.out⟩, by simp [intOf]; omega⟩
          · have hji : ¬ (j : Int) < m := by omega
            have hjm2 : j = m := by omega
            have HI : Hid (Cv.IsPrices (l.take (k + 1)) (ps.take j ++ [y] ++ ps.drop j)) := by
              have := Cv.insert_prices (j := j) (x := x) HP.out (by rw [Hm.out]; exact hj) (fun i hi => by rw [HY.out]; exact HLO.out i hi) (.inl (by rw [Hm.out]; exact hjm2))
              rw [HY.out] at this
              show Cv.IsPrices _ _
              rw [HT.out]
              exact this
            have HJM := hide hjm2
            clear hjm2
            by_cases hjc : cap' = j
            · have hjm2 := HJM.out
              clear HJM
              subst hjm2
              subst hjc
              go_wp2
              go_quiet (fail)
              replace HX : Hid (Below wo.heap.size wo (wr.drewN nq)) := HX.out.trans ((blw_drew nq).mono HX.out.size)
              replace c3 := cell_later (blw_drew nq) c3
              generalize wr.drewN nq = w2 at *
              go_wp2
              go_quiet (fail)
              replace HX : Hid (Below wo.heap.size wo (w2.drewN nq)) := HX.out.trans ((blw_drew nq).mono HX.out.size)
              replace c3 := cell_later (blw_drew nq) c3
              generalize w2.drewN nq = w3 at *
              have HB3 : Hid (Below w.heap.size w w3) := HB.out.trans (HX.out.mono HB.out.size)
              have hc3 : ∀ i, i < cap' → w3.cell? ⟨g, i, none⟩ = some (.int .i64 (ps.getD i 0)) := fun i hi => cell_later HX.out (hcell.out i hi)
              have HC3 := hide hc3
              clear hc3
              go_wp2_with (at_builtin; refine wpList_append_own _ rfl _ _ 33 rfl w3.heap.size 3 i0 (.int .i64 0) 1 8 Tryd.underlying33 Hi.out Hz0.out Hz1.out Hz2.out rfl (by decide) _ _ _ rfl (World.ownsRow_nil _ _ _ _) ⟨g, 0, none⟩ cap' cap' (iV (ps.take cap')) rfl ?c0 ?c1 ?c2 ?c3 ?c4 ?c5 ?_)
              case c0 => simp [iV, Hm.out]
              case c1 =>
                intro i u hu
                obtain ⟨h1, h2⟩ := iV_at hu
                rw [List.length_take] at h1
                rw [h2, add0, HC3.out i (by omega), List.getD_eq_getElem?_getD, List.getD_eq_getElem?_getD, List.getElem?_take_of_lt (by omega)]
              case c2 => exact fun u hu => iV_one hu
              case c3 => unfold maxLen; omega
              case c4 => omega
              case c5 => exact Nat.le_refl _
              intro v4 w4 hown4 hgrow4 _
              have HB34 : Hid (Below w3.heap.size w3 w4) := (Below.refl _ w3).grown hgrow4 (Nat.le_refl _) (fun k hk => by cases hk)
              have HB4 : Hid (Below w.heap.size w w4) := HB3.out.trans (HB34.out.mono HB3.out.size)
              have HO4 : Hid (w4.ownsRow w3.heap.size 3 1 v4 (0 + cap') ([] ++ iV (ps.take cap'))) := hide (by first | exact hown4 | simpa using hown4)
              have c4 := cell_later HB34.out c3
              clear hown4 hgrow4
              go_wp2_with (at_builtin; refine wpList_append_own _ rfl _ _ 33 rfl w3.heap.size 3 i0 (.int .i64 0) 1 8 Tryd.underlying33 Hi.out Hz0.out Hz1.out Hz2.out rfl (by decide) _ _ _ rfl (HO4.out.alloc _) ⟨w4.heap.size, 0, none⟩ 1 1 [.int .i64 y] rfl rfl ?c1 ?c2 ?c3 ?c4 ?c5 ?_)
              case c1 =>
                intro i u hi
                obtain ⟨h1, h2⟩ := iV_at (ps := [y]) hi
                have h1 : i = 0 := by simpa using h1
                subst h1
                rw [h2, add0, World.cell?_alloc_new]
                rfl
              case c2 => exact fun u hu => iV_one (ps := [y]) hu
              case c3 => unfold maxLen; omega
              case c4 => omega
              case c5 => have := HB34.out.size; simp; omega
              intro v5 w5 hown5 hgrow5 _
              have HB35 : Hid (Below w3.heap.size w3 w5) := (HB34.out.alloc HB34.out.size _).grown hgrow5 (by have := HB34.out.size; simp; omega) (fun k hk => (HO4.out.lt k hk).1)
              have HO5 : Hid (w5.ownsRow w3.heap.size 3 1 v5 (0 + cap' + 1) ([] ++ iV (ps.take cap') ++ [.int .i64 y])) := hide (by first | exact hown5 | simpa using hown5)
              have HC5 : Hid (∀ i, i < cap' → w5.cell? ⟨g, i, none⟩ = some (.int .i64 (ps.getD i 0))) := fun i hi => cell_later HB35.out (HC3.out i hi)
              clear hown5 hgrow5 c3 c4 HC3
              go_wp2_with (at_builtin; refine wpList_append_own _ rfl _ _ 33 rfl w3.heap.size 3 i0 (.int .i64 0) 1 8 Tryd.underlying33 Hi.out Hz0.out Hz1.out Hz2.out rfl (by decide) _ _ _ rfl HO5.out ⟨g, 0, none⟩ 0 0 (iV (ps.drop cap')) rfl ?c0 ?c1 ?c2 ?c3 ?c4 ?c5 ?_)
              case c0 => simp [iV, Hm.out]
              case c1 =>
                intro i u hu
                obtain ⟨h1, h2⟩ := iV_at hu
                rw [List.length_drop, Hm.out] at h1
                omega
              case c2 => exact fun u hu => iV_one hu
              case c3 => unfold maxLen; omega
              case c4 => omega
              case c5 => exact HB35.out.size
              intro v6 w6 hown6 hgrow6 _
              have HB6 : Hid (Below w.heap.size w w6) := (HB3.out.trans (HB35.out.mono HB3.out.size)).grown hgrow6 (Nat.le_trans HB3.out.size HB35.out.size) (fun k hk => Nat.le_trans HB3.out.size (HO5.out.lt k hk).1)
              have HO6 : Hid (w6.ownsRow w.heap.size 3 1 v6 (ps.take cap' ++ [y] ++ ps.drop cap').length (iV (ps.take cap' ++ [y] ++ ps.drop cap'))) := by
                have h6 := ownsRow_mono hown6 HB3.out.size
                have e1 : (ps.take cap' ++ [y] ++ ps.drop cap').length = cap' + 1 := by simp [Hm.out]
                show w6.ownsRow _ _ _ _ _ _
                rw [e1]
                have e2 : iV (ps.take cap' ++ [y] ++ ps.drop cap') = iV (ps.take cap') ++ [.int .i64 y] ++ iV (ps.drop cap') := by simp [iV]
                rw [e2]
                have e3 : cap' + 1 = 0 + cap' + 1 + 0 := by omega
                rw [e3]
                first | exact h6 | simpa using h6
              have hlen : Hid ((ps.take cap' ++ [y] ++ ps.drop cap').length ≤ k + 1) := by show _ ≤ _; simp [Hm.out]; omega
              clear hown6 hgrow6
              go_wp2
              exact ⟨⟨k + 1, ps.take cap' ++ [y] ++ ps.drop cap', by omega, by go_num, HI.out, hlen.out, HO6.out, HB6.out⟩, by simp [intOf]; omega⟩
            · have hjc2 : j ≤ cap' := by omega
              go_wp2
              go_quiet (fail)
              replace HX : Hid (Below wo.heap.size wo (wr.drewN nq)) := HX.out.trans ((blw_drew nq).mono HX.out.size)
              replace c3 := cell_later (blw_drew nq) c3
              generalize wr.drewN nq = w2 at *
              go_wp2
              go_quiet (fail)
              replace HX : Hid (Below wo.heap.size wo (w2.drewN nq)) := HX.out.trans ((blw_drew nq).mono HX.out.size)
              replace c3 := cell_later (blw_drew nq) c3
              generalize w2.drewN nq = w3 at *
              have HB3 : Hid (Below w.heap.size w w3) := HB.out.trans (HX.out.mono HB.out.size)
              have hc3 : ∀ i, i < m → w3.cell? ⟨g, i, none⟩ = some (.int .i64 (ps.getD i 0)) := fun i hi => cell_later HX.out (hcell.out i hi)
              have HC3 := hide hc3
              clear hc3
              go_wp2_with (at_builtin; refine wpList_append_own _ rfl _ _ 33 rfl w3.heap.size 3 i0 (.int .i64 0) 1 8 Tryd.underlying33 Hi.out Hz0.out Hz1.out Hz2.out rfl (by decide) _ _ _ rfl (World.ownsRow_nil _ _ _ _) ⟨g, 0, none⟩ j cap' (iV (ps.take j)) rfl ?c0 ?c1 ?c2 ?c3 ?c4 ?c5 ?_)
              case c0 => simp [iV, Hm.out]; omega
              case c1 =>
                intro i u hu
                obtain ⟨h1, h2⟩ := iV_at hu
                rw [List.length_take] at h1
                rw [h2, add0, HC3.out i (by omega), List.getD_eq_getElem?_getD, List.getD_eq_getElem?_getD, List.getElem?_take_of_lt (by omega)]
              case c2 => exact fun u hu => iV_one hu
              case c3 => unfold maxLen; omega
              case c4 => omega
              case c5 => exact Nat.le_refl _
              intro v4 w4 hown4 hgrow4 _
              have HB34 : Hid (Below w3.heap.size w3 w4) := (Below.refl _ w3).grown hgrow4 (Nat.le_refl _) (fun k hk => by cases hk)
              have HB4 : Hid (Below w.heap.size w w4) := HB3.out.trans (HB34.out.mono HB3.out.size)
              have HO4 : Hid (w4.ownsRow w3.heap.size 3 1 v4 (0 + j) ([] ++ iV (ps.take j))) := hide (by first | exact hown4 | simpa using hown4)
              have c4 := cell_later HB34.out c3
              clear hown4 hgrow4
              go_wp2_with (at_builtin; refine wpList_append_own _ rfl _ _ 33 rfl w3.heap.size 3 i0 (.int .i64 0) 1 8 Tryd.underlying33 Hi.out Hz0.out Hz1.out Hz2.out rfl (by decide) _ _ _ rfl (HO4.out.alloc _) ⟨w4.heap.size, 0, none⟩ 1 1 [.int .i64 y] rfl rfl ?c1 ?c2 ?c3 ?c4 ?c5 ?_)
              case c1 =>
                intro i u hi
                obtain ⟨h1, h2⟩ := iV_at (ps := [y]) hi
                have h1 : i = 0 := by simpa using h1
                subst h1
                rw [h2, add0, World.cell?_alloc_new]
                rfl
              case c2 => exact fun u hu => iV_one (ps := [y]) hu
              case c3 => unfold maxLen; omega
              case c4 => omega
              case c5 => have := HB34.out.size; simp; omega
              intro v5 w5 hown5 hgrow5 _
              have HB35 : Hid (Below w3.heap.size w3 w5) := (HB34.out.alloc HB34.out.size _).grown hgrow5 (by have := HB34.out.size; simp; omega) (fun k hk => (HO4.out.lt k hk).1)
              have HO5 : Hid (w5.ownsRow w3.heap.size 3 1 v5 (0 + j + 1) ([] ++ iV (ps.take j) ++ [.int .i64 y])) := hide (by first | exact hown5 | simpa using hown5)
              have HC5 : Hid (∀ i, i < m → w5.cell? ⟨g, i, none⟩ = some (.int .i64 (ps.getD i 0))) := fun i hi => cell_later HB35.out (HC3.out i hi)
              clear hown5 hgrow5 c3 c4 HC3
              go_wp2_with (at_builtin; refine wpList_append_own _ rfl _ _ 33 rfl w3.heap.size 3 i0 (.int .i64 0) 1 8 Tryd.underlying33 Hi.out Hz0.out Hz1.out Hz2.out rfl (by decide) _ _ _ rfl HO5.out ⟨g, j, none⟩ (m - j) (cap' - j) (iV (ps.drop j)) rfl ?c0 ?c1 ?c2 ?c3 ?c4 ?c5 ?_)
              case c0 => simp [iV, Hm.out]
              case c1 =>
                intro i u hu
                obtain ⟨h1, h2⟩ := iV_at hu
                rw [List.length_drop, Hm.out] at h1
                rw [h2, show (⟨g, j, none⟩ : Addr).add i = ⟨g, j + i, none⟩ by (unfold Addr.add; split <;> simp_all), HC5.out (j + i) (by omega), List.getD_eq_getElem?_getD, List.getD_eq_getElem?_getD, List.getElem?_drop]
              case c2 => exact fun u hu => iV_one hu
              case c3 => unfold maxLen; omega
              case c4 => omega
              case c5 => exact HB35.out.size
              intro v6 w6 hown6 hgrow6 _
              have HB6 : Hid (Below w.heap.size w w6) := (HB3.out.trans (HB35.out.mono HB3.out.size)).grown hgrow6 (Nat.le_trans HB3.out.size HB35.out.size) (fun k hk => Nat.le_trans HB3.out.size (HO5.out.lt k hk).1)
              have HO6 : Hid (w6.ownsRow w.heap.size 3 1 v6 (ps.take j ++ [y] ++ ps.drop j).length (iV (ps.take j ++ [y] ++ ps.drop j))) := by
                have h6 := ownsRow_mono hown6 HB3.out.size
                have e1 : (ps.take j ++ [y] ++ ps.drop j).length = m + 1 := by simp [Hm.out]; omega
                show w6.ownsRow _ _ _ _ _ _
                rw [e1]
                have e2 : iV (ps.take j ++ [y] ++ ps.drop j) = iV (ps.take j) ++ [.int .i64 y] ++ iV (ps.drop j) := by simp [iV]
                rw [e2]
                have e3 : m + 1 = 0 + j + 1 + (m - j) := by omega
                rw [e3]
                first | exact h6 | simpa using h6
              have hlen : Hid ((ps.take j ++ [y] ++ ps.drop j).length ≤ k + 1) := by show _ ≤ _; simp [Hm.out]; omega
              clear hown6 hgrow6
              go_wp2
              exact ⟨⟨k + 1, ps.take j ++ [y] ++ ps.drop j, by omega, by go_num, HI.out, hlen.out, HO6.out, HB6.out⟩, by simp [intOf]; omega⟩
    · have hki : ¬ (k : Int) < n := by omega
      have hkk : l.take k = l := by
        have : k = l.length := by rw [hn.out]; omega
        rw [this, List.take_length]
      rw [hkk] at HP
      clear hkk
      go_wp2
      go_ret
      refine ⟨⟨_, ps, rfl, HP.out, ?_⟩, HB.out⟩
      rcases HO.out.2 with ⟨hv, h0⟩ | ⟨g, cap', cur, hv, hbg, hgg, hnc, hcm, _, _⟩
      · exact .inl ⟨List.eq_nil_of_length_eq_zero h0, none, 0, hv⟩
      · refine .inr ⟨g, 0, cap', hv, fun j hj => ?_⟩
        have hc := World.ownsRow.cells HO.out (g := g) (by rw [hv]; rfl) j (.int .i64 (ps.getD j 0)) (by simp [iV, hj])
        have hp : (⟨g, 0, none⟩ : Addr).add j = ⟨g, j, none⟩ := by unfold Addr.add; split <;> simp_all
        rw [Nat.zero_add]
        rwa [hp] at hc

theorem pricesOf_none (a : Option Addr) (cap : Nat) (w : World) : Calls Tryd.prog 24 #[.slice a 0 cap] w fun e w' => e = .returned (.slice none 0 0) ∧ w' = w := by
  go_enter Tryd.func24, Tryd.ntmps24
  go_wp2
  refine wp_loop_rounds 1 ?_
  rw [rounds_succ]
  go_wp2
  go_ret
  exact ⟨rfl, rfl⟩
theorem pricesOf_any (v : Value) (l : List Cv.Lot) (w : World) (hv : Came w v l) (hok : Cv.Well l) : Calls Tryd.prog 24 #[v] w fun e w' => Priced w' l e ∧ Below w.heap.size w w' := by
  rcases hv with ⟨rfl, a, cap, rfl⟩ | ⟨g, cap, rfl, hl⟩
  · refine (pricesOf_none a cap w).mono ?_
    rintro e w' ⟨rfl, rfl⟩
    exact ⟨⟨_, [], rfl, Cv.isPrices_nil, .inl ⟨rfl, _, _, rfl⟩⟩, Below.refl _ _⟩
  · exact pricesOf_some g _ cap l w rfl hok hl

theorem ints_none (c1 c2 : Nat) (a1 a2 : Option Addr) (w : World) : Calls Tryd.prog 23 #[.slice a1 0 c1, .slice a2 0 c2] w fun e w' => e = .returned (.bool true) ∧ Below w.heap.size w w' := by
  go_enter Tryd.func23, Tryd.ntmps23
  go_wp2
  refine wp_loop_rounds 1 ?_
  rw [rounds_succ]
  go_wp2
  go_ret
  exact ⟨rfl, Below.refl _ _⟩
set_option maxHeartbeats 1000000 in
theorem ints_cells (b1 o1 b2 o2 c1 c2 n : Nat) (zs : List Int) (w : World) (hn : n ≤ 1000)
    (h1 : Hid (∀ i, i < n → w.cell? ⟨b1, o1 + i, none⟩ = some (.int .i64 (zs.getD i 0)))) (h2 : Hid (∀ i, i < n → w.cell? ⟨b2, o2 + i, none⟩ = some (.int .i64 (zs.getD i 0)))) :
    Calls Tryd.prog 23 #[.slice (some ⟨b1, o1, none⟩) n c1, .slice (some ⟨b2, o2, none⟩) n c2] w fun e w' => e = .returned (.bool true) ∧ Below w.heap.size w w' := by
  go_enter Tryd.func23, Tryd.ntmps23
  go_wp2
  go_loopw [5] (fun i wr => ∃ k : Nat, k ≤ n ∧ i = .int .i64 k ∧ Below w.heap.size w wr) (fun i _ => n - (intOf i).toNat)
  case atStart => exact ⟨0, by omega, rfl, Below.refl _ _⟩
  case round =>
    obtain ⟨k, hk, rfl, hb⟩ := hrel
    have HB := hide hb
    clear hb
    by_cases hlt : k < n
    · have e1 := cell_later HB.out (h1.out k hlt)
      have e2 := cell_later HB.out (h2.out k hlt)
      have hki : (k : Int) < n := by omega
      generalize zs.getD k 0 = z at *
      go_wp2
      go_quiet (fail)
      go_wp2
      exact ⟨⟨k + 1, by omega, by go_num, HB.out.trans ((blw_drew nq).mono HB.out.size)⟩, by simp [intOf]; omega⟩
    · go_wp2
      go_ret
      exact ⟨rfl, HB.out⟩
theorem ints_any (v1 v2 : Value) (zs : List Int) (w : World) (hn : zs.length ≤ 1000) (h1 : Ints w v1 zs) (h2 : Ints w v2 zs) : Calls Tryd.prog 23 #[v1, v2] w fun e w' => e = .returned (.bool true) ∧ Below w.heap.size w w' := by
  rcases h1 with ⟨rfl, a1, c1, rfl⟩ | ⟨b1, o1, c1, rfl, h1⟩
  · rcases h2 with ⟨_, a2, c2, rfl⟩ | ⟨b2, o2, c2, rfl, _⟩
    · exact ints_none c1 c2 a1 a2 w
    · exact ints_none c1 c2 a1 _ w
  · rcases h2 with ⟨rfl, a2, c2, rfl⟩ | ⟨b2, o2, c2, rfl, h2⟩
    · exact ints_none c1 c2 _ a2 w
    · exact ints_cells b1 o1 b2 o2 c1 c2 _ zs w hn h1 h2
end Go.Proofs.YtfdapfegidbijaaDoor
