/- The law CurveFalls, for all lots. -/
import Derived.Test.YtfdapfegidbijaaDoorCvAddsWalk
import Derived.Test.YtfdapfegidbijaaDoorCvPrices
namespace Go.Proofs.YtfdapfegidbijaaDoor
open Go.RowKit
set_option maxRecDepth 100000

theorem Ints.form {w : World} {v : Value} {ps : List Int} (h : Ints w v ps) : ∃ a cap, v = .slice a ps.length cap ∧ (0 < ps.length → ∃ b off, a = some ⟨b, off, none⟩ ∧ ∀ i, i < ps.length → w.cell? ⟨b, off + i, none⟩ = some (.int .i64 (ps.getD i 0))) := by
  rcases h with ⟨rfl, a, cap, rfl⟩ | ⟨b, off, cap, rfl, hc⟩
  · exact ⟨a, cap, rfl, fun h => absurd h (Nat.lt_irrefl 0)⟩
  · exact ⟨_, cap, rfl, fun _ => ⟨b, off, rfl, hc⟩⟩

def mids (p q : Int) (ps : List Int) : Bool := ps.any fun y => decide (p ≤ y) && decide (y ≤ q)
theorem mids_step (p q : Int) {ps : List Int} {k : Nat} (h : k < ps.length) : mids p q (ps.take (k + 1)) = (mids p q (ps.take k) || (decide (p ≤ ps.getD k 0) && decide (ps.getD k 0 ≤ q))) := by
  unfold mids
  rw [List.take_succ_eq_append_getElem h, List.any_append, List.getD_eq_getElem?_getD, List.getElem?_eq_getElem h]
  simp
theorem mids_none {p q : Int} {ps : List Int} {l : List Cv.Lot} (hp : Cv.IsPrices l ps) (h : mids p q ps = false) : ∀ x ∈ l, ¬ (p ≤ x.pr ∧ x.pr ≤ q) := by
  intro x hx hc
  have hm : x.pr ∈ ps := (hp.2 _).2 ⟨x, hx, rfl⟩
  unfold mids at h
  rw [List.any_eq_false] at h
  exact h _ hm (by simp [hc.1, hc.2])
theorem prices_length {l : List Cv.Lot} {ps : List Int} (hp : Cv.IsPrices l ps) (hok : Cv.Well l) : ps.length ≤ 1000 := by
  have key : ∀ (ps : List Int) (lo : Int), ps.Pairwise (· < ·) → (∀ y ∈ ps, lo < y ∧ y ≤ 1000) → lo ≤ 1000 → (ps.length : Int) ≤ 1000 - lo := by
    intro ps
    induction ps with
    | nil => intro lo _ _ h; simp; omega
    | cons y ps ih =>
      intro lo h1 h2 h3
      obtain ⟨g1, g2⟩ := List.pairwise_cons.1 h1
      have hy := h2 y List.mem_cons_self
      have := ih y g2 (fun z hz => ⟨g1 z hz, (h2 z (List.mem_cons_of_mem _ hz)).2⟩) hy.2
      simp only [List.length_cons]
      omega
  have := key ps 0 hp.1 (fun y hy => by
    obtain ⟨x, hx, rfl⟩ := (hp.2 y).1 hy
    have := (Cv.ok_bounds (hok.oks x hx)).2.2.2.1
    omega) (by omega)
  omega

set_option maxHeartbeats 400000 in
theorem falls_out (a : Option Addr) (n cap : Nat) (p q : Int) (T : TypeId) (v1 v6 v7 : Value) (w : World) (he : Hid (Er w T v1 v6 v7)) (h : (60 : Int) < n ∨ ¬ (60 : Int) < n ∧ (q < p ∨ ¬ q < p ∧ (p < 1 ∨ ¬ p < 1 ∧ 1000 < q))) :
    Calls Tryd.prog 4 #[.slice a n cap, .int .i64 p, .int .i64 q] w fun e w' => e = .returned (.bool true) ∧ Below w.heap.size w w' := by
  rcases h with h | ⟨h, h' | ⟨h', h'' | ⟨h'', h3⟩⟩⟩
  all_goals
    go_enter Tryd.func4, Tryd.ntmps4
    go_wp2_with fail
    refine (curved_any T v1 v6 v7 w he).mono ?_
    rintro e w1 ⟨rfl, hb1⟩
    have HB1 := hide hb1
    clear hb1
    simp only []
    go_wp2
    go_ret
    exact ⟨rfl, HB1.out⟩

set_option maxHeartbeats 1000000 in
theorem falls_main (a : Option Addr) (n cap : Nat) (p q : Int) (l : List Cv.Lot) (T : TypeId) (v1 v6 v7 : Value) (w : World) (he : Hid (Er w T v1 v6 v7)) (hn : Hid (l.length = n)) (hn' : n ≤ 60) (hpq : p ≤ q) (hp1 : 1 ≤ p) (hq1 : q ≤ 1000) (hl : Hid (ArgLots w a l)) :
    Calls Tryd.prog 4 #[.slice a n cap, .int .i64 p, .int .i64 q] w fun e w' => e = .returned (.bool true) ∧ Below w.heap.size w w' := by
  have h1 : ¬ (60 : Int) < n := by omega
  have h2 : ¬ q < p := by omega
  have h3 : ¬ p < 1 := by omega
  have h4 : ¬ 1000 < q := by omega
  have HO : Hid (∀ w1, Below w.heap.size w w1 → Calls Tryd.prog 10 #[.slice a n cap] w1 fun e w' => ∃ v, e = .returned v ∧ Lots w' v l ∧ (l = [] → v = .slice none 0 0) ∧ Below w1.heap.size w1 w') := fun w1 hb => by
    have := own_any a cap l w1 (by rw [hn.out]; omega) (by
      rcases hl.out with h | ⟨g, h, hc⟩
      · exact .inl h
      · exact .inr ⟨g, h, fun j u hu => cell_later hb (hc j u hu)⟩)
    rwa [hn.out] at this
  go_enter Tryd.func4, Tryd.ntmps4
  go_wp2_with fail
  refine (curved_any T v1 v6 v7 w he).mono ?_
  rintro e w1 ⟨rfl, hb1⟩
  have HB1 := hide hb1
  clear hb1
  simp only []
  go_wp2_with fail
  refine (HO.out w1 HB1.out).mono ?_
  rintro e w2 ⟨v, rfl, hlv, _, hb2⟩
  have HB2 := hide (HB1.out.trans (hb2.mono HB1.out.size)); have HL2 := hide hlv
  clear hb2 hlv HB1 HO
  by_cases hok : Cv.Well l
  · have HOK := hide hok
    clear hok
    simp only []
    go_wp2_with fail
    refine (check_well v l T v1 v6 v7 w2 HL2.out (he.out.later HB2.out) HOK.out).mono ?_
    rintro e w3 ⟨rfl, hb3⟩
    have HB3 := hide (HB2.out.trans (hb3.mono HB2.out.size)); have HL3 := hide (HL2.out.later hb3)
    clear hb3 HB2 HL2
    have CP := hide (tells_of p HL3.out (he.out.later HB3.out) HOK.out)
    have CQ := hide (tells_of q HL3.out (he.out.later HB3.out) HOK.out)
    have hd := Cv.demand_falls l HOK.out.oks hpq
    have hs := Cv.supply_rises l HOK.out.oks hpq
    have HE : Hid (∀ ps, Cv.IsPrices l ps → mids p q ps = false → Cv.demand l p = Cv.demand l q ∧ Cv.supply l p = Cv.supply l q) := fun ps h1 h2 => ⟨Cv.demand_between l hpq (mids_none h1 h2), Cv.supply_between l hpq (mids_none h1 h2)⟩
    generalize Cv.demand l p = dp at *
    generalize Cv.demand l q = dq at *
    generalize Cv.supply l p = sp at *
    generalize Cv.supply l q = sq at *
    have hd' : ¬ dp < dq := by omega
    have hs' : ¬ sq < sp := by omega
    simp only []
    go_wp2_with fail
    refine (CP.out.dem _ (Below.refl _ _)).mono ?_
    rintro e w4 ⟨rfl, hb4⟩
    have HQ := hide hb4
    clear hb4
    simp only []
    go_wp2_with fail
    refine (CQ.out.dem _ HQ.out).mono ?_
    rintro e w5 ⟨rfl, hb5⟩
    replace HQ := hide (HQ.out.trans (hb5.mono HQ.out.size))
    clear hb5
    simp only []
    go_wp2_with fail
    refine (CP.out.sup _ HQ.out).mono ?_
    rintro e w6 ⟨rfl, hb6⟩
    replace HQ := hide (HQ.out.trans (hb6.mono HQ.out.size))
    clear hb6
    simp only []
    go_wp2_with fail
    refine (CQ.out.sup _ HQ.out).mono ?_
    rintro e w7 ⟨rfl, hb7⟩
    replace HQ := hide (HQ.out.trans (hb7.mono HQ.out.size))
    clear hb7
    simp only []
    go_wp2_with fail
    refine (prices_any v l T v1 v6 v7 _ (HL3.out.later HQ.out) ((he.out.later HB3.out).later HQ.out) HOK.out).mono ?_
    rintro e w8 ⟨⟨x, ps, rfl, hps, hxs⟩, hb8⟩
    replace HQ := hide (HQ.out.trans (hb8.mono HQ.out.size))
    have HX := hide hxs; have HP := hide hps
    have hpl := prices_length hps HOK.out
    clear hb8 hxs hps
    obtain ⟨ax, cx, hx, hcx⟩ := HX.out.form
    subst hx
    have HC := hide hcx
    clear hcx
    have HM : Hid (∀ k, k < ps.length → mids p q (ps.take (k + 1)) = (mids p q (ps.take k) || (decide (p ≤ ps.getD k 0) && decide (ps.getD k 0 ≤ q)))) := fun k hk => mids_step p q hk
    generalize hm : ps.length = m at *
    have Hm := hide hm
    clear hm
    simp only []
    go_wp2
    go_loop [10, 11] (fun bt i => ∃ k : Nat, k ≤ m ∧ i = .int .i64 k ∧ bt = .bool (mids p q (ps.take k))) (fun _ i => m - (intOf i).toNat)
    case atStart => exact ⟨0, Nat.zero_le _, rfl, rfl⟩
    case round =>
      obtain ⟨k, hk, rfl, rfl⟩ := hrel
      by_cases hlt : k < m
      · have hki : (k : Int) < m := by omega
        obtain ⟨b, off, hb, hcell⟩ := HC.out (by omega)
        subst hb
        have hck := hcell k hlt
        have HMk := hide (HM.out k hlt)
        clear hcell
        generalize ps.getD k 0 = y at *
        generalize mids p q (ps.take k) = bk at *
        by_cases hy1 : p ≤ y
        · by_cases hy2 : y ≤ q
          · have HM2 : Hid (mids p q (ps.take (k + 1)) = true) := by show _ = _; rw [HMk.out]; simp [hy1, hy2]
            clear HMk
            go_wp2
            exact ⟨⟨k + 1, by omega, by go_num, by rw [HM2.out]⟩, by simp [intOf]; omega⟩
          · have HM2 : Hid (mids p q (ps.take (k + 1)) = bk) := by show _ = _; rw [HMk.out]; simp [hy2]
            clear HMk
            go_wp2
            exact ⟨⟨k + 1, by omega, by go_num, by rw [HM2.out]⟩, by simp [intOf]; omega⟩
        · have HM2 : Hid (mids p q (ps.take (k + 1)) = bk) := by show _ = _; rw [HMk.out]; simp [hy1]
          clear HMk
          go_wp2
          exact ⟨⟨k + 1, by omega, by go_num, by rw [HM2.out]⟩, by simp [intOf]; omega⟩
      · have hki : ¬ (k : Int) < m := by omega
        have hkk : ps.take k = ps := by
          have : k = ps.length := by rw [Hm.out]; omega
          rw [this, List.take_length]
        rw [hkk]
        clear hkk
        cases hmid : mids p q ps with
        | true =>
          clear hmid
          go_wp2_with fail
          refine (cross_any v l T v1 v6 v7 _ (HL3.out.later HQ.out) ((he.out.later HB3.out).later HQ.out) HOK.out).mono ?_
          rintro e wa ⟨rfl, hba⟩
          replace HQ := hide (HQ.out.trans (hba.mono HQ.out.size))
          clear hba
          simp only []
          go_wp2_with fail
          refine (best_any v l 0 T v1 v6 v7 _ (HL3.out.later HQ.out) ((he.out.later HB3.out).later HQ.out) HOK.out).mono ?_
          rintro e wb ⟨rfl, hbb⟩
          replace HQ := hide (HQ.out.trans (hbb.mono HQ.out.size))
          clear hbb
          simp only []
          go_wp2_with fail
          refine (volume_any v l (Cv.best 0 l) T v1 v6 v7 _ (HL3.out.later HQ.out) ((he.out.later HB3.out).later HQ.out) HOK.out).mono ?_
          rintro e wc ⟨rfl, hbc⟩
          replace HQ := hide (HQ.out.trans (hbc.mono HQ.out.size))
          clear hbc
          rw [Cv.cross_volume l HOK.out.oks]
          simp only []
          go_wp2
          go_ret
          exact ⟨ret_bool (by simp), HB3.out.trans (HQ.out.mono HB3.out.size)⟩
        | false =>
          obtain ⟨e1, e2⟩ := HE.out ps HP.out hmid
          subst e1 e2
          clear hmid
          go_wp2_with fail
          refine (CP.out.dem _ HQ.out).mono ?_
          rintro e wy ⟨rfl, hby⟩
          replace HQ := hide (HQ.out.trans (hby.mono HQ.out.size))
          clear hby
          simp only []
          go_wp2_with fail
          refine (CQ.out.dem _ HQ.out).mono ?_
          rintro e wy ⟨rfl, hby⟩
          replace HQ := hide (HQ.out.trans (hby.mono HQ.out.size))
          clear hby
          simp only []
          go_wp2_with fail
          refine (CP.out.sup _ HQ.out).mono ?_
          rintro e wy ⟨rfl, hby⟩
          replace HQ := hide (HQ.out.trans (hby.mono HQ.out.size))
          clear hby
          simp only []
          go_wp2_with fail
          refine (CQ.out.sup _ HQ.out).mono ?_
          rintro e wy ⟨rfl, hby⟩
          replace HQ := hide (HQ.out.trans (hby.mono HQ.out.size))
          clear hby
          simp only []
          go_wp2_with fail
          refine (cross_any v l T v1 v6 v7 _ (HL3.out.later HQ.out) ((he.out.later HB3.out).later HQ.out) HOK.out).mono ?_
          rintro e wa ⟨rfl, hba⟩
          replace HQ := hide (HQ.out.trans (hba.mono HQ.out.size))
          clear hba
          simp only []
          go_wp2_with fail
          refine (best_any v l 0 T v1 v6 v7 _ (HL3.out.later HQ.out) ((he.out.later HB3.out).later HQ.out) HOK.out).mono ?_
          rintro e wb ⟨rfl, hbb⟩
          replace HQ := hide (HQ.out.trans (hbb.mono HQ.out.size))
          clear hbb
          simp only []
          go_wp2_with fail
          refine (volume_any v l (Cv.best 0 l) T v1 v6 v7 _ (HL3.out.later HQ.out) ((he.out.later HB3.out).later HQ.out) HOK.out).mono ?_
          rintro e wc ⟨rfl, hbc⟩
          replace HQ := hide (HQ.out.trans (hbc.mono HQ.out.size))
          clear hbc
          rw [Cv.cross_volume l HOK.out.oks]
          simp only []
          go_wp2
          go_ret
          exact ⟨ret_bool (by simp), HB3.out.trans (HQ.out.mono HB3.out.size)⟩
  · have HBAD := hide hok
    clear hok
    simp only []
    go_wp2_with fail
    refine (check_ill v l T v1 v6 v7 w2 HL2.out (he.out.later HB2.out) HBAD.out).mono ?_
    rintro e w3 ⟨⟨U, x, rfl⟩, hb3⟩
    have HB3 := hide (HB2.out.trans (hb3.mono HB2.out.size))
    clear hb3
    simp only []
    go_wp2
    go_ret
    exact ⟨rfl, HB3.out⟩

theorem falls_any (a : Option Addr) (n cap : Nat) (p q : Int) (l : List Cv.Lot) (T : TypeId) (v1 v6 v7 : Value) (w : World) (he : Er w T v1 v6 v7) (hl : n ≤ 60 → l.length = n ∧ ArgLots w a l) :
    Calls Tryd.prog 4 #[.slice a n cap, .int .i64 p, .int .i64 q] w fun e w' => e = .returned (.bool true) ∧ Below w.heap.size w w' := by
  by_cases h1 : (60 : Int) < n
  · exact falls_out a n cap p q T v1 v6 v7 w he (.inl h1)
  · by_cases h2 : q < p
    · exact falls_out a n cap p q T v1 v6 v7 w he (.inr ⟨h1, .inl h2⟩)
    · by_cases h3 : p < 1
      · exact falls_out a n cap p q T v1 v6 v7 w he (.inr ⟨h1, .inr ⟨h2, .inl h3⟩⟩)
      · by_cases h4 : 1000 < q
        · exact falls_out a n cap p q T v1 v6 v7 w he (.inr ⟨h1, .inr ⟨h2, .inr ⟨h3, h4⟩⟩⟩)
        · exact falls_main a n cap p q l T v1 v6 v7 w he (hl (by omega)).1 (by omega) (by omega) (by omega) (by omega) (hl (by omega)).2
end Go.Proofs.YtfdapfegidbijaaDoor
