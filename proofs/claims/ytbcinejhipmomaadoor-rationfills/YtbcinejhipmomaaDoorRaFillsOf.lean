/- The document's fills, by their contract. -/
import Derived.Test.YtbcinejhipmomaaDoorRaSideOf1
import Derived.Test.YtbcinejhipmomaaDoorRaFine
namespace Go.Proofs.YtbcinejhipmomaaDoor
open Go.RowKit
set_option maxRecDepth 100000

set_option maxHeartbeats 1000000 in
theorem fillsOf_of (va : Value) (price vol s s1 : Int) (l : List Cv.Lot) (F0 F1 : List (Int × Int)) (w : World) (hv : Hid (Came w va l)) (hok : Hid (Cv.Oks l)) (hll : Hid (l.length ≤ 120)) (h1 : 1 ≤ price) (h2 : price ≤ 1000) (hv0 : 0 ≤ vol) (hv1 : vol ≤ 1000000) (hs : Hid (Ra.IsU s)) (hs1 : Hid (Ra.IsU s1)) (hse : (s = 4294967295 ∧ s1 = 0) ∨ (0 ≤ s ∧ s < 4294967295 ∧ s1 = s + 1))
    (hF0 : Hid (Ra.side s l 0 price vol = F0)) (hF1 : Hid (Ra.side s1 l 1 price vol = F1)) (hl0 : F0.length ≤ 120) (hl1 : F1.length ≤ 120) :
    Calls Tryd.prog 17 #[va, .int .i64 price, .int .i64 vol, .int .u32 s] w fun e w' => ∃ v', e = .returned v' ∧ Fls w' v' (F0 ++ F1) ∧ Below w.heap.size w w' := by
  obtain ⟨i0, z0, hi, hz0, hz1, hz2, hz3⟩ := info45
  have Hi := hide hi; have Hz0 := hide hz0; have Hz1 := hide hz1; have Hz2 := hide hz2; have Hz3 := hide hz3
  clear hi hz0 hz1 hz2 hz3
  have HE0 : Hid (Ra.sfF (Ra.sh s) (Ra.lv l 0) (Ra.full 0 price) vol = F0) := by rw [← hF0.out]; exact (Ra.sf_eq _ _ _ _ _).symm
  have HE1 : Hid (Ra.sfF (Ra.sh s1) (Ra.lv l 1) (Ra.full 1 price) vol = F1) := by rw [← hF1.out]; exact (Ra.sf_eq _ _ _ _ _).symm
  obtain ⟨aa, na, ca, hva⟩ := hv.out.form
  subst hva
  rcases hse with ⟨rfl, rfl⟩ | ⟨hs0, hs2, rfl⟩
  all_goals
    go_enter Tryd.func17, Tryd.ntmps17
    go_wp2_with fail
    refine (sideFills_0 _ price vol _ l F0 w hs hv0 hv1 hv hok hll h1 h2 HE0 (Nat.le_trans hl0 (by omega))).mono ?_
    rintro e w1 ⟨vb, rfl, hrb, hb1⟩
    have HRB := hide hrb; have HB1 := hide hb1
    clear hrb hb1
    simp only []
    go_wp2_with fail
    refine (sideFills_1 _ price vol _ l F1 w1 hs1 hv0 hv1 (hv.out.later HB1.out) hok hll h1 h2 HE1 (Nat.le_trans hl1 (by omega))).mono ?_
    rintro e w5 ⟨vs, rfl, hrs, hb5⟩
    have HRS := hide (row_base hrs HB1.out.size); have HB5 := hide (HB1.out.trans (hb5.mono HB1.out.size)); have HRB5 := hide (row_later HRB.out hb5)
    clear hrs hb5 HRB HB1
    simp only []
    rcases HRS.out.2 with ⟨rfl, h0⟩ | ⟨rs, cs, curs, rfl, _⟩
    · have HF1 : Hid (F1 = []) := List.eq_nil_of_length_eq_zero h0
      have HR : Hid (Fls w5 vb (F0 ++ F1)) := by
        rw [HF1.out, List.append_nil]; exact fls_of HRB5.out
      clear h0
      rcases HRB5.out.2 with ⟨rfl, _⟩ | ⟨rb, cb, curb, rfl, _, _, hcb, _⟩
      · clear HRB5 HRS
        go_wp2
        go_ret
        exact ⟨_, rfl, HR.out, HB5.out⟩
      · clear HRB5 HRS
        go_wp2
        go_ret
        exact ⟨_, rfl, HR.out, HB5.out⟩
    · have HC : Hid (∀ j u, (fcells F1)[j]? = some u → w5.cell? ((⟨rs, 0, none⟩ : Addr).add j) = some u) := fun j u hu => World.ownsRow.cells HRS.out (g := rs) rfl j u hu
      have HD3 : Hid (F0.length + F1.length ≤ maxLen) := by show _ ≤ _; unfold maxLen; omega
      have HD4 : Hid ((F0.length + F1.length) * 16 ≤ 140737488355328) := by show _ ≤ _; omega
      go_wp2_with (at_builtin; refine wpList_append_own _ rfl _ _ 25 rfl w.heap.size 45 i0 z0 2 16 Tryd.underlying25 Hi.out Hz0.out Hz1.out Hz2.out Hz3.out (by decide) _ _ _ rfl HRB5.out ⟨rs, 0, none⟩ F1.length cs (fcells F1) rfl (fcells_length F1) HC.out (fcells_one F1) HD3.out HD4.out HB5.out.size ?_)
      intro v6 w6 hown6 hgrow6 _
      have HR : Hid (Fls w6 v6 (F0 ++ F1)) := fls_of (base := w.heap.size) (by
        rw [fcells_append, List.length_append]
        exact hown6)
      have hlt := HRB5.out.lt
      have HB6 : Hid (Below w.heap.size w w6) := HB5.out.grown hgrow6 HB5.out.size (fun j hj => (hlt j hj).1)
      clear hown6 hgrow6 HRS HC HRB5 hlt
      go_wp2
      go_ret
      exact ⟨_, rfl, HR.out, HB6.out⟩
theorem fillsOf_any (va : Value) (price vol s : Int) (l : List Cv.Lot) (w : World) (hv : Came w va l) (hf : Ra.Fine l price vol) (hs : Ra.IsU s) :
    Calls Tryd.prog 17 #[va, .int .i64 price, .int .i64 vol, .int .u32 s] w fun e w' => ∃ v', e = .returned v' ∧ Fls w' v' (Ra.fills s l price vol) ∧ Below w.heap.size w w' := by
  have hl := Ra.fills_length s hf
  obtain ⟨hw, ⟨h1, h2⟩, h3, h4⟩ := hf
  have hvl := vol_le hw price
  refine fillsOf_of va price vol s (Ra.nextSeed s) l _ _ w hv hw.oks hw.1 h1 h2 h3 (by omega) hs (Ra.nextSeed_u hs) ?_ rfl rfl hl.1 hl.2
  unfold Ra.nextSeed
  by_cases e : s = 4294967295
  · exact .inl ⟨e, by rw [if_pos e]⟩
  · exact .inr ⟨hs.1, by have := hs.2; omega, by rw [if_neg e]⟩
end Go.Proofs.YtbcinejhipmomaaDoor
