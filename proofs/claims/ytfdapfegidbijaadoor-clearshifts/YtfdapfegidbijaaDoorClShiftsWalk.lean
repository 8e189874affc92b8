/- The law ClearShifts, for all lots. -/
import Derived.Test.YtfdapfegidbijaaDoorClBestWalk
namespace Go.Proofs.YtfdapfegidbijaaDoor
open Go.RowKit
set_option maxRecDepth 100000

theorem Lots.slice {w : World} {v : Value} {l : List Cv.Lot} (h : Lots w v l) : ∃ a cap, v = .slice a l.length cap ∧ (0 < l.length → ∃ b off, a = some ⟨b, off, none⟩ ∧ LotsAt w b off l) := by
  rcases h with ⟨rfl, a, cap, rfl⟩ | ⟨b, off, cap, rfl, _, hl⟩
  · exact ⟨a, cap, rfl, fun h => absurd h (Nat.lt_irrefl 0)⟩
  · exact ⟨_, cap, rfl, fun _ => ⟨b, off, rfl, hl⟩⟩
theorem lots_of_owns {w : World} {base n : Nat} {v : Value} {m : List Cv.Lot} (h : w.ownsRow base 44 5 v n (flat m)) (hm : m.length = n) : Lots w v m := by
  rcases h.2 with ⟨h1, h2⟩ | ⟨g', cap', cur, h1, _, _, h2, _, _, _⟩
  · exact .inl ⟨List.eq_nil_of_length_eq_zero (by omega), none, 0, h1⟩
  · refine .inr ⟨g', 0, cap', by rw [h1, hm], by omega, lotsAt_of_flat fun j u hu => ?_⟩
    have := World.ownsRow.cells h (g := g') (by rw [h1]; rfl) j u hu
    have hp : (⟨g', 0, none⟩ : Addr).add j = ⟨g', j, none⟩ := by unfold Addr.add; split <;> simp_all
    rwa [hp] at this
theorem Cv.drop_nth {l : List Cv.Lot} {k : Nat} (h : k < l.length) : l.drop k = Cv.nth l k :: l.drop (k + 1) := by
  rw [List.drop_eq_getElem_cons h]
  congr 1
  unfold Cv.nth
  rw [List.getD_eq_getElem?_getD, List.getElem?_eq_getElem h]
  rfl
theorem Cv.up_drop (d : Int) {l : List Cv.Lot} {k : Nat} (h : k < l.length) : Cv.up d (l.drop k) = Cv.up d (l.drop (k + 1)) ++ [Cv.shift d (Cv.nth l k)] := by
  rw [Cv.drop_nth h]
  simp [Cv.up]
theorem flat_append (a b : List Cv.Lot) : flat (a ++ b) = flat a ++ flat b := by simp [flat]

set_option maxHeartbeats 400000 in
theorem cshifts_out (a : Option Addr) (n cap : Nat) (ref d : Int) (T : TypeId) (v1 v6 v7 : Value) (w : World) (he : Hid (Er w T v1 v6 v7)) (h : (60 : Int) < n ∨ ¬ (60 : Int) < n ∧ (d < 0 ∨ ¬ d < 0 ∧ ((900 : Int) < d ∨ ¬ (900 : Int) < d ∧ (ref < 1 ∨ ¬ ref < 1 ∧ 1000 - d < ref)))) :
    Calls Tryd.prog 8 #[.slice a n cap, .int .i64 ref, .int .i64 d] w fun e w' => e = .returned (.bool true) ∧ Below w.heap.size w w' := by
  rcases h with h | ⟨h, h' | ⟨h', h2 | ⟨h2, h3 | ⟨h3, h4⟩⟩⟩⟩
  all_goals
    go_enter Tryd.func8, Tryd.ntmps8
    go_wp2_with fail
    refine (cleared_any T v1 v6 v7 w he).mono ?_
    rintro e w1 ⟨rfl, hb1⟩
    have HB1 := hide hb1
    clear hb1
    simp only []
    go_wp2
    go_ret
    exact ⟨rfl, HB1.out⟩

set_option maxHeartbeats 2000000 in
theorem cshifts_main (a : Option Addr) (n cap : Nat) (ref d : Int) (l : List Cv.Lot) (T : TypeId) (v1 v6 v7 : Value) (w : World) (he : Hid (Er w T v1 v6 v7)) (hn : Hid (l.length = n)) (hn' : n ≤ 60) (hd1 : 0 ≤ d) (hd2 : d ≤ 900) (hr1 : 1 ≤ ref) (hr2 : ref ≤ 1000 - d) (hl : Hid (ArgLots w a l)) :
    Calls Tryd.prog 8 #[.slice a n cap, .int .i64 ref, .int .i64 d] w fun e w' => e = .returned (.bool true) ∧ Below w.heap.size w w' := by
  have h1 : ¬ (60 : Int) < n := by omega
  have h2 : ¬ d < 0 := by omega
  have h3 : ¬ (900 : Int) < d := by omega
  have h4 : ¬ ref < 1 := by omega
  have h5 : ¬ 1000 - d < ref := by omega
  have HO : Hid (∀ w1, Below w.heap.size w w1 → Calls Tryd.prog 10 #[.slice a n cap] w1 fun e w' => ∃ v, e = .returned v ∧ Lots w' v l ∧ (l = [] → v = .slice none 0 0) ∧ Below w1.heap.size w1 w') := fun w1 hb => by
    have := own_any a cap l w1 (by rw [hn.out]; omega) (by
      rcases hl.out with h | ⟨g, h, hc⟩
      · exact .inl h
      · exact .inr ⟨g, h, fun j u hu => cell_later hb (hc j u hu)⟩)
    rwa [hn.out] at this
  obtain ⟨i0, z0, hi, hz0, hz1, hz2, hz3⟩ := info110
  have Hi := hide hi; have Hz0 := hide hz0; have Hz1 := hide hz1; have Hz2 := hide hz2; have Hz3 := hide hz3
  clear hi hz0 hz1 hz2 hz3
  go_enter Tryd.func8, Tryd.ntmps8
  go_wp2_with fail
  refine (cleared_any T v1 v6 v7 w he).mono ?_
  rintro e w1 ⟨rfl, hb1⟩
  have HB1 := hide hb1
  clear hb1
  simp only []
  go_wp2_with fail
  refine (HO.out w1 HB1.out).mono ?_
  rintro e w2 ⟨v, rfl, hlv, hnv, hb2⟩
  have HB2 := hide (HB1.out.trans (hb2.mono HB1.out.size)); have HL2 := hide hlv
  clear hb2 hlv HB1 HO hnv
  by_cases hok : Cv.Well l
  · have HOK := hide hok
    clear hok
    simp only []
    go_wp2_with fail
    refine (check_well v l T v1 v6 v7 w2 HL2.out (he.out.later HB2.out) HOK.out).mono ?_
    rintro e w3 ⟨rfl, hb3⟩
    have HB3 := hide (HB2.out.trans (hb3.mono HB2.out.size)); have HL3 := hide (HL2.out.later hb3)
    clear hb3 HB2 HL2
    obtain ⟨a', cap', rfl, hat⟩ := HL3.out.slice
    rw [hn.out] at hat HL3 ⊢
    have HAt := hide hat
    clear hat
    simp only []
    go_wp2_with fail
    go_loopw [9, 10] (fun u i wr => ∃ k : Nat, k ≤ n ∧ i = .int .i64 ((k : Int) - 1) ∧ wr.ownsRow w3.heap.size 44 5 u (n - k) (flat (Cv.up d (l.drop k))) ∧ (∀ x ∈ l.drop k, x.pr ≤ 1000 - d) ∧ Below w3.heap.size w3 wr) (fun _ i _ => ((intOf i) + 1).toNat)
    case atStart =>
      refine ⟨n, Nat.le_refl _, rfl, ?_, ?_, Below.refl _ _⟩
      · rw [← hn.out, List.drop_length, Nat.sub_self]
        exact World.ownsRow_nil _ _ _ _
      · rw [← hn.out, List.drop_length]
        intro x hx
        simp at hx
    case round =>
      obtain ⟨k, hk, rfl, hown, hall, hb⟩ := hrel
      have HQ := hide hb; have HOw := hide hown; have HAl := hide hall
      clear hb hown hall
      cases k with
      | succ k =>
        rw [show (((k + 1 : Nat) : Int) - 1) = (k : Int) by omega]
        have hki : (0 : Int) ≤ (k : Int) := by omega
        have hkn : (k : Int) < n := by omega
        obtain ⟨b, off, rfl, hat⟩ := HAt.out (by omega)
        obtain ⟨c0, c1, c2, c3, c4⟩ := (hat.later HQ.out) k (by rw [hn.out]; omega)
        clear hat
        have HU := hide (Cv.up_drop d (l := l) (k := k) (by rw [hn.out]; omega))
        have HDn := hide (Cv.drop_nth (l := l) (k := k) (by rw [hn.out]; omega))
        have hx := (Cv.ok_bounds (HOK.out.oks _ (Cv.nth_mem (l := l) (i := k) (by rw [hn.out]; omega)))).2.2.2.1
        generalize Cv.nth l k = x at *
        obtain ⟨x1, x2⟩ := hx
        by_cases hgt : 1000 - d < x.pr
        · go_wp2
          go_ret
          exact ⟨rfl, HB3.out.trans ((HQ.out.alloc HQ.out.size _).mono HB3.out.size)⟩
        · have hgt' : x.pr ≤ 1000 - d := by omega
          go_wp2_with (at_builtin; refine wpList_append_own _ rfl _ _ 22 rfl w3.heap.size 44 i0 z0 5 40 Tryd.underlying22 Hi.out Hz0.out Hz1.out Hz2.out Hz3.out (by decide) _ _ _ rfl ((HOw.out.alloc _).alloc _) ⟨wr.heap.size + 1, 0, none⟩ 1 1 (lotCells (Cv.shift d x)) rfl rfl ?c1 ?c2 ?c3 ?c4 ?c5 ?_)
          case c1 => exact fun j u hj => hj
          case c2 =>
            intro u hu
            exact flat_one [Cv.shift d x] u (by simpa [flat] using hu)
          case c3 => unfold maxLen; omega
          case c4 => omega
          case c5 => have := HQ.out.size; simp; omega
          intro v3 w4 hown' hgrow _
          have HO3 : Hid (w4.ownsRow w3.heap.size 44 5 v3 (n - k) (flat (Cv.up d (l.drop k)))) := by
            have e : flat (Cv.up d (l.drop k)) = flat (Cv.up d (l.drop (k + 1))) ++ lotCells (Cv.shift d x) := by rw [HU.out, flat_append]; simp [flat]
            show w4.ownsRow _ _ _ _ _ _
            rw [e, show n - k = n - (k + 1) + 1 by omega]
            exact hown'
          have HQ4 : Hid (Below w3.heap.size w3 w4) := ((HQ.out.alloc HQ.out.size _).alloc (by have := HQ.out.size; simp; omega) _).grown hgrow (by have := HQ.out.size; simp; omega) (fun k hk => (HOw.out.lt k hk).1)
          have HA4 : Hid (∀ y ∈ l.drop k, y.pr ≤ 1000 - d) := fun y hy => by
            rw [HDn.out] at hy
            rcases List.mem_cons.1 hy with rfl | hy
            · exact hgt'
            · exact HAl.out y hy
          clear hown' hgrow c0 c1 c2 c3 c4
          go_wp2
          exact ⟨⟨k, by omega, rfl, HO3.out, HA4.out, HQ4.out⟩, by simp [intOf]⟩
      | zero =>
        have hki : ¬ (0 : Int) ≤ ((0 : Nat) : Int) - 1 := by omega
        have hall := HAl.out
        have hown := HOw.out
        rw [List.drop_zero] at hall hown
        have HL4 := hide (lots_of_owns hown (by simp [Cv.up, hn.out]))
        have HWu := hide (Cv.well_up HOK.out hd1 hall)
        have HOn := hide (HL3.out.later HQ.out)
        have HWon : Hid (∀ p vol, Cv.Won l ref 1000 p vol → Cv.Won (Cv.up d l) (ref + d) 1000 (if vol = 0 then 0 else p + d) vol) := fun p vol hw => Cv.won_up HOK.out hd1 hall hw
        have HBq : Hid (Below w.heap.size w wr) := HB3.out.trans (HQ.out.mono HB3.out.size)
        clear hall hown HAl HOw HAt HL3 HQ
        go_wp2_with fail
        refine (price_any _ l ref T v1 v6 v7 wr HOn.out (he.out.later HBq.out) HOK.out (by simp [Wi.withinB]; omega)).mono ?_
        rintro e w5 ⟨⟨p, vol, rfl, hwon⟩, hb5⟩
        have HB5 := hide (HBq.out.trans (hb5.mono HBq.out.size)); have HL5 := hide (HL4.out.later hb5)
        have HW5 := hide hwon
        clear hb5 hwon HBq HL4 HOn
        simp only []
        go_wp2_with fail
        refine (price_any _ (Cv.up d l) (ref + d) T v1 v6 v7 w5 HL5.out (he.out.later HB5.out) HWu.out (by simp [Wi.withinB]; omega)).mono ?_
        rintro e w6 ⟨⟨q, vol2, rfl, hwon⟩, hb6⟩
        have HB6 := hide (HB5.out.trans (hb6.mono HB5.out.size))
        obtain ⟨rfl, rfl⟩ := hwon.unique (HWon.out p vol HW5.out)
        have hr := HW5.out.range (by omega)
        have h0 : vol2 = 0 → p = 0 := fun h => by
          rcases HW5.out with ⟨e1, _, _⟩ | ⟨e1, _⟩
          · exact e1
          · omega
        clear hwon hb6 HB5 HL5 HWon HW5 HWu
        obtain ⟨g1, g2, g3⟩ := hr
        by_cases hv : vol2 = 0
        · obtain rfl := h0 hv
          rw [if_pos hv]
          subst hv
          clear h0
          simp only []
          go_wp2
          go_ret
          exact ⟨rfl, HB6.out⟩
        · rw [if_neg hv]
          clear h0
          simp only []
          go_wp2
          go_ret
          exact ⟨ret_bool (by simp), HB6.out⟩
  · have HBad := hide hok
    clear hok
    simp only []
    go_wp2_with fail
    refine (check_ill v l T v1 v6 v7 w2 HL2.out (he.out.later HB2.out) HBad.out).mono ?_
    rintro e w3 ⟨⟨U, x, rfl⟩, hb3⟩
    have HB3 := hide (HB2.out.trans (hb3.mono HB2.out.size))
    clear hb3
    simp only []
    go_wp2
    go_ret
    exact ⟨rfl, HB3.out⟩

/-- ClearShifts returns true, whatever the lots, the reference and the number -/
theorem cshifts_any (a : Option Addr) (n cap : Nat) (ref d : Int) (l : List Cv.Lot) (T : TypeId) (v1 v6 v7 : Value) (w : World) (he : Er w T v1 v6 v7) (hl : n ≤ 60 → l.length = n ∧ ArgLots w a l) :
    Calls Tryd.prog 8 #[.slice a n cap, .int .i64 ref, .int .i64 d] w fun e w' => e = .returned (.bool true) ∧ Below w.heap.size w w' := by
  by_cases h : (60 : Int) < n
  · exact cshifts_out a n cap ref d T v1 v6 v7 w he (.inl h)
  · by_cases h1 : d < 0
    · exact cshifts_out a n cap ref d T v1 v6 v7 w he (.inr ⟨h, .inl h1⟩)
    · by_cases h2 : (900 : Int) < d
      · exact cshifts_out a n cap ref d T v1 v6 v7 w he (.inr ⟨h, .inr ⟨h1, .inl h2⟩⟩)
      · by_cases h3 : ref < 1
        · exact cshifts_out a n cap ref d T v1 v6 v7 w he (.inr ⟨h, .inr ⟨h1, .inr ⟨h2, .inl h3⟩⟩⟩)
        · by_cases h4 : 1000 - d < ref
          · exact cshifts_out a n cap ref d T v1 v6 v7 w he (.inr ⟨h, .inr ⟨h1, .inr ⟨h2, .inr ⟨h3, h4⟩⟩⟩⟩)
          · obtain ⟨h5, h6⟩ := hl (by omega)
            exact cshifts_main a n cap ref d l T v1 v6 v7 w he h5 (by omega) (by omega) (by omega) (by omega) (by omega) h6
end Go.Proofs.YtfdapfegidbijaaDoor
