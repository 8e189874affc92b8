/- The law BatchFair, for all acts. -/
import Derived.Test.YtdggddjgipgllaaGreatDoorU25
import Derived.Test.YtdggddjgipgllaaGreatDoorU20
import Derived.Test.YtdggddjgipgllaaGreatDoorU13
namespace Go.Proofs.YtdggddjgipgllaaGreatDoor
open Go.RowKit
set_option maxRecDepth 100000
theorem fits23 : Fl.Fits 20000 100 := ⟨by decide, by decide, by decide, by decide⟩
theorem neq41f (a b c : Int) (w : World) : (binOp .neq 41 (.agg #[.int .i64 a, .int .i64 b, .int .i64 c]) (.agg #[.int .i64 a, .int .i64 b, .int .i64 c])).run Tryz.prog w = .ok (.bool false) w := by
  rw [run_neq_struct, eq27 9998]
  simp
theorem row_stepf {w W W1 W2 : World} {F P : Nat} {I b : Nat → Nat} {v v' : Nat → Value} {L : Nat → List Cv.Lot} {pf n : Nat → Int} {wd h : Int} {u : Value} {m : Nat} {xs : List Value} (hF : PFl w W F P I b v L pf n wd h) (hr : W1.ownsRow W.heap.size 56 5 u m xs) (hs : FStep W1 W2 P I b v v') : W2.ownsRow W.heap.size 56 5 u m xs := by
  refine ⟨hr.1, ?_⟩
  rcases hr.2 with hn | ⟨g, cap, cur, rfl, hg, hgg, rest⟩
  · exact .inl hn
  · obtain ⟨_, h2, h3⟩ := hF.fresh hg
    exact .inr ⟨g, cap, cur, rfl, hg, by rw [hs.keep g (lt_of_block hgg) h2 h3]; exact hgg, rest⟩
/-- a floor whose bands are as they began -/
def FNew (w W : World) (F P : Nat) (I b : Nat → Nat) : Prop := ∃ v L pf, PFl w W F P I b v L pf (Fl.bands 100) 100 1 ∧ FAll L pf (Fl.bands 100) 100 1
theorem place_new {w W : World} {F P : Nat} {I b : Nat → Nat} {ev : Nat → Value} (a : Ask) (H : FNew w W F P I b) (he : AEr w ev) : Calls Tryz.prog 10 #[.pointer (some ⟨F, 0, none⟩), askV a] W fun e W' => ErrAns e ∧ FNew w W' F P I b := by
  obtain ⟨v, L, pf, h1, h2⟩ := H
  refine (place_any a h1 he h2.ok).mono ?_
  rintro e W' ⟨rfl, v', h3, _⟩
  exact ⟨⟨_, rfl⟩, v', _, _, h3, h2.ok.place a, h2.band, h2.rule⟩
theorem FNew.bl {w W : World} {F P : Nat} {I b : Nat → Nat} (H : FNew w W F P I b) : Below w.heap.size w W := by obtain ⟨_, _, _, h1, _⟩ := H; exact h1.bl
theorem prodB {p g : Int} (hp : 1 ≤ p ∧ p ≤ 1000) (h0 : 0 ≤ g) (h1 : g ≤ 1000) : 0 ≤ p * g ∧ p * g ≤ 1000000 := by
  have h2 : 0 ≤ p * g := Int.mul_nonneg (by omega) h0
  have h3 : p * g ≤ 1000 * 1000 := Int.mul_le_mul hp.2 h1 h0 (by omega)
  omega
theorem payTo_nil (p c : Int) (l : List Cv.Lot) : Fs.payTo p c [] l = 0 := by
  unfold Fs.payTo
  exact Fs.sumBy_zero fun x _ => by show Fs.pay1 p c x 0 = 0; unfold Fs.pay1; simp
section
variable {ev : Nat → Value}
set_option maxHeartbeats 4000000 in
theorem batchFair_any (a : Option Addr) (n cap : Nat) (item s : Int) (l : List DAct) (w : World) (he : Hid (AEr w ev)) (hl : Hid (ArgDos w a n l)) (hs : Hid (Ra.IsU s)) :
    Calls Tryz.prog 3 #[.slice a n cap, .int .i64 item, .int .u32 s] w fun e w' => e = .returned (.bool true) ∧ Below w.heap.size w w' := by
  have HFL := hide (floored_any w he)
  by_cases hn : n ≤ 60
  case neg =>
    have c1 : (n : Int) > 60 := by omega
    go_enter Tryz.func3, Tryz.ntmps3
    go_wp2_with fail
    refine HFL.out.mono ?_
    rintro e w1 ⟨rfl, hb1⟩
    simp only []
    go_wp2
    go_ret
    exact ⟨rfl, hb1⟩
  by_cases hi0 : 0 ≤ item
  case neg =>
    have c1 : ¬ (n : Int) > 60 := by omega
    have c2 : item < 0 := by omega
    go_enter Tryz.func3, Tryz.ntmps3
    go_wp2_with fail
    refine HFL.out.mono ?_
    rintro e w1 ⟨rfl, hb1⟩
    simp only []
    go_wp2
    go_ret
    exact ⟨rfl, hb1⟩
  by_cases hi2 : item < 3
  case neg =>
    have c1 : ¬ (n : Int) > 60 := by omega
    have c2 : ¬ item < 0 := by omega
    have c3 : item ≥ 3 := by omega
    go_enter Tryz.func3, Tryz.ntmps3
    go_wp2_with fail
    refine HFL.out.mono ?_
    rintro e w1 ⟨rfl, hb1⟩
    simp only []
    go_wp2
    go_ret
    exact ⟨rfl, hb1⟩
  obtain ⟨hargn, hargs, hargu⟩ := hl.out
  have HARGN := hide hargn; have HARGS := hide hargs; have HARGU := hide hargu
  clear hargn hargs hargu hl
  obtain ⟨i, hii⟩ : ∃ i : Nat, item = i := ⟨item.toNat, by omega⟩
  subst hii
  have hi3 : i < 3 := by omega
  have c1 : ¬ (n : Int) > 60 := by omega
  have c2 : ¬ (i : Int) < 0 := by omega
  have c3 : ¬ (i : Int) ≥ 3 := by omega
  clear hi0 hi2
  go_enter Tryz.func3, Tryz.ntmps3
  go_wp2_with fail
  refine HFL.out.mono ?_
  rintro e w1 ⟨rfl, hb1⟩
  have HB1 := hide hb1; have HE1 := hide (he.out.below hb1)
  have HN := hide (new_ok 100 1 100 20000 100 w1 HE1.out (by show _ = _; kernel_rfl) (by show _ = _; kernel_rfl) fits23)
  unfold bandV at HN
  clear hb1 HFL
  simp only []
  go_wp2_with fail
  refine HN.out.mono ?_
  rintro e w2 ⟨F, P, I, b, rfl, hf2⟩
  have HS2 : Hid (FNew w1 w2 F P I b) := ⟨_, _, _, hf2, Fl.new_all (by kernel_rfl) (by kernel_rfl) fits23⟩
  clear hf2 HN
  simp only []
  go_wp2_with fail
  go_loopw [10] (fun c wr => ∃ (k : Nat), k ≤ n ∧ c = .int .i64 k ∧ FNew w1 wr F P I b) (fun c _ => n - (intOf c).toNat)
  case atStart => exact ⟨0, Nat.zero_le _, rfl, HS2.out⟩
  case round =>
    obtain ⟨k, hk, rfl, hf⟩ := hrel
    have HF := hide hf
    clear hf HS2
    by_cases hlt : k < n
    · have hki : (k : Int) < n := by omega
      obtain ⟨g, rfl, hlg⟩ : ∃ g, a = some g ∧ DosAt w g l := by
        rcases HARGS.out with h | h
        · omega
        · exact h
      have hu := HARGU.out k hlt
      obtain ⟨k0, k1, k2, k3, k4, k5, k6, k7, k8, k9, k10, k11⟩ := (hlg.later (HB1.out.trans (HF.out.bl.mono HB1.out.size))) k (by rw [HARGN.out]; exact hlt)
      have HO := hide (hlg k (by rw [HARGN.out]; exact hlt))
      clear hlg
      generalize dnth l k = A at *
      obtain ⟨kd, ⟨ak, ac, asq, ait, asd, apr, aq, aid⟩, dc, dit, dsd⟩ := A
      simp only [] at k0 k1 k2 k3 k4 k5 k6 k7 k8 k9 k10 k11 hu
      have HU := hide hu
      clear hu
      have HP := hide (place_new ⟨ak, ac, asq, ait, asd, apr, aq, aid⟩ HF.out HE1.out)
      unfold askV askA at HP
      simp only [] at HP
      go_wp2_with fail
      refine HP.out.mono ?_
      rintro e w3 ⟨⟨er, rfl⟩, hf3⟩
      have HF3 := hide hf3
      clear hf3 HP
      simp only []
      go_wp2
      exact ⟨⟨k + 1, by omega, by go_num, HF3.out⟩, by simp [intOf]; omega⟩
    · have hki : ¬ (k : Int) < n := by omega
      obtain ⟨v, L, pf, hf, hall⟩ := HF.out
      have HF4 := hide hf; have HALL := hide hall
      clear hf hall HF
      obtain ⟨wo, hwo⟩ : ∃ wo, wo = wr := ⟨_, rfl⟩
      subst hwo
      obtain ⟨p, vol, hwon⟩ := won_exists (HALL.out.ok.bk i hi3).oks 100 1000
      have href : Fl.bands 100 (i * 2) = 100 := by unfold Fl.bands; rw [if_pos (by omega)]
      have hwon' : Cv.Won (L i) (Fl.bands 100 (i * 2)) 1000 p vol := by rw [href]; exact hwon
      have HWON := hide hwon; have HWON2 := hide hwon'
      have HGB := hide (HALL.out.ok.bk i hi3)
      clear hwon hwon' href
      have HBI := hide (book_in i hi3 HF4.out)
      have HLT := hide (lots_any (b i) w1.heap.size (v i) (L i) wo (HF4.out.bk i hi3) HGB.out.len)
      go_wp2_with fail
      refine HBI.out.mono ?_
      rintro e wo ⟨rfl, rfl⟩
      simp only []
      go_wp2_with fail
      refine HLT.out.mono ?_
      rintro e w5 ⟨vl, rfl, hrow5, hb5⟩
      have HROW5 := hide hrow5
      have HZ5 : Hid (wo.heap.size ≤ w5.heap.size) := hb5.size
      have HF5 := hide (HF4.out.later hb5)
      clear hrow5 hb5 HBI HLT
      obtain ⟨la, lc, hvl⟩ : ∃ la lc, vl = .slice la (L i).length lc := by
        rcases lots_row HROW5.out with ⟨e, a, c, rfl⟩ | ⟨g, o, c, rfl, _⟩
        · exact ⟨a, c, by rw [e]; rfl⟩
        · exact ⟨_, _, rfl⟩
      subst hvl
      obtain ⟨m, hm⟩ : ∃ m, (L i).length = m := ⟨_, rfl⟩
      rw [hm] at HROW5
      rw [hm]
      have hm60 : m ≤ 60 := by rw [← hm]; exact HGB.out.len
      have HM := hide hm
      clear hm
      have HPU := hide (purse_of HF5.out)
      have HTO := hide (total_any P pf w5 HF5.out.pu HALL.out.ok.good)
      unfold triV at HTO
      obtain ⟨t0, ht0⟩ : ∃ t0, Pu.cashes pf 6 = t0 := ⟨_, rfl⟩
      obtain ⟨t1, ht1⟩ : ∃ t1, Pu.stocks pf 0 6 = t1 := ⟨_, rfl⟩
      obtain ⟨t2, ht2⟩ : ∃ t2, Pu.stocks pf 1 6 = t2 := ⟨_, rfl⟩
      obtain ⟨t3, ht3⟩ : ∃ t3, Pu.stocks pf 2 6 = t3 := ⟨_, rfl⟩
      rw [ht0, ht1, ht2, ht3] at HTO
      have HT0 := hide ht0; have HT1 := hide ht1; have HT2 := hide ht2; have HT3 := hide ht3
      clear ht0 ht1 ht2 ht3
      simp only []
      go_wp2_with fail
      refine HPU.out.mono ?_
      rintro e w5 ⟨rfl, rfl⟩
      simp only []
      go_wp2_with fail
      refine HTO.out.mono ?_
      rintro e w6 ⟨rfl, hb6⟩
      obtain ⟨w7, hw7⟩ : ∃ w7, w6.alloc (.cells #[.int .i64 t1, .int .i64 t2, .int .i64 t3] 41) = w7 := ⟨_, rfl⟩
      obtain ⟨S, hS⟩ : ∃ S, w6.heap.size = S := ⟨_, rfl⟩
      have hb7 : Below w6.heap.size w6 w7 := by rw [← hw7]; exact (Below.refl _ _).alloc (Nat.le_refl _) _
      have hb57 : Below w5.heap.size w5 w7 := hb6.trans (hb7.mono hb6.size)
      have HS7 : Hid (w7.heap[S]? = some (.cells #[.int .i64 t1, .int .i64 t2, .int .i64 t3] 41 (0, 0))) := by show _ = _; rw [← hw7, ← hS]; exact heap_alloc_new _ _
      have HF7 := hide (HF5.out.later hb57)
      have HROW7 := hide (row_later HROW5.out hb57)
      have HZ7 : Hid (wo.heap.size ≤ w7.heap.size) := Nat.le_trans HZ5.out hb57.size
      have HW7 := hide hw7; have HSe := hide hS
      clear hb6 hb7 hb57 hw7 hS HPU HTO HF5 HROW5
      have HPU := hide (purse_of HF7.out)
      have HCP := hide (p_copy_any P pf w7 HF7.out.pu)
      simp only []
      go_wp2_with fail
      rw [HW7.out, HSe.out]
      refine HPU.out.mono ?_
      rintro e w7 ⟨rfl, rfl⟩
      simp only []
      go_wp2_with fail
      refine HCP.out.mono ?_
      rintro e w8 ⟨rfl, hp8, hb8⟩
      have HP8 := hide hp8
      have HROW8 := hide (row_later HROW7.out hb8)
      have HF8 := hide (HF7.out.later hb8)
      have HS8 : Hid (w8.heap[S]? = some (.cells #[.int .i64 t1, .int .i64 t2, .int .i64 t3] 41 (0, 0))) := by show _ = _; rw [hb8.block _ (lt_of_block HS7.out)]; exact HS7.out
      obtain ⟨C, hC⟩ : ∃ C, w7.heap.size = C := ⟨_, rfl⟩
      rw [hC] at HP8
      rw [hC]
      have HCL : Hid (wo.heap.size ≤ C) := by show _ ≤ _; rw [← hC]; exact HZ7.out
      clear hp8 hb8 hC HPU HCP HROW7 HF7 HS7 HW7 HSe
      have hpr := price_any (.slice la m lc) (L i) 100 252 (ev 1) (ev 6) (ev 7) w8 (by have := lots_row (l := L i) (v := .slice la m lc) (base := wo.heap.size) (w := w8) (by rw [HM.out]; exact HROW8.out); exact this) (HF8.out.er HE1.out).er (good_well HGB.out) (by rfl)
      have HPR : Hid (Calls Tryz.prog 16 #[.slice la m lc, .int .i64 100] w8 fun e w' => e = .returned (.tuple #[.int .i64 p, .int .i64 vol, .nilIface]) ∧ Below w8.heap.size w8 w') := by
        refine hpr.mono ?_
        rintro e w' ⟨⟨p', vol', rfl, hw'⟩, hbl⟩
        obtain ⟨e1, e2⟩ := hw'.unique HWON.out
        rw [e1, e2]
        exact ⟨rfl, hbl⟩
      clear hpr
      simp only []
      go_wp2_with fail
      refine HPR.out.mono ?_
      rintro e w9 ⟨rfl, hb9⟩
      have HP9 := hide (HP8.out.lat hb9)
      have HROW9 := hide (row_later HROW8.out hb9)
      have HF9 := hide (HF8.out.later hb9)
      have HS9 : Hid (w9.heap[S]? = some (.cells #[.int .i64 t1, .int .i64 t2, .int .i64 t3] 41 (0, 0))) := by show _ = _; rw [hb9.block _ (lt_of_block HS8.out)]; exact HS8.out
      clear hb9 HPR HP8 HROW8 HF8 HS8
      have hrun := run_any i hi3 s p vol hs.out HF9.out HE1.out HALL.out HWON2.out
      obtain ⟨no, hno⟩ : ∃ no, Fl.runO (Fl.bands 100) i 100 p vol = no := ⟨_, rfl⟩
      obtain ⟨FF, hFF⟩ : ∃ FF, Fl.runF s (L i) no p vol = FF := ⟨_, rfl⟩
      rw [hno, hFF] at hrun
      have hor : FF = [] ∨ (FF = Ra.fills s (L i) p vol ∧ 0 < vol) := by
        rw [← hFF]
        unfold Fl.runF
        split
        · rename_i hc; exact .inr ⟨rfl, hc.2⟩
        · exact .inl rfl
      have hfil : Fs.Fil (L i) p FF ∧ FF.length ≤ 200 ∧ (∀ f ∈ FF, 1 ≤ f.2 ∧ f.2 ≤ 1000) ∧ (FF = [] ∨ (1 ≤ p ∧ p ≤ 1000)) := by
        rcases hor with e | ⟨e, hv⟩
        · subst e
          refine ⟨⟨fun f hf => (by cases hf), fun x hx => ⟨Int.le_refl _, by have := (Cv.ok_bounds (HGB.out.oks x hx)).2.2.2.2.1; show (0 : Int) ≤ x.q; omega⟩, fun x hx h => absurd h (Int.lt_irrefl 0), ?_⟩, Nat.zero_le _, fun f hf => (by cases hf), .inl rfl⟩
          rw [Fs.sumBy_zero (fun x _ => by show (if x.sd = 0 then (0 : Int) else 0) = 0; split <;> rfl), Fs.sumBy_zero (fun x _ => by show (if x.sd = 1 then (0 : Int) else 0) = 0; split <;> rfl)]
        · have hfi := Fs.won_fine (good_well HGB.out) HWON.out hv
          refine ⟨by rw [e]; exact Fs.fil_of hfi s, ?_, by rw [e]; exact Ra.fills_le s hfi, .inr hfi.2.1⟩
          rw [e]
          unfold Ra.fills
          have h60 := HGB.out.len
          have h1 := Ra.side_length s HGB.out.oks 0 p vol hfi.2.1.1 hfi.2.1.2 hfi.2.2.1
          have h2 := Ra.side_length (Ra.nextSeed s) HGB.out.oks 1 p vol hfi.2.1.1 hfi.2.1.2 hfi.2.2.1
          rw [List.length_append]
          omega
      obtain ⟨hfil, hflen, hfb, hfp⟩ := hfil
      have hsums : Pu.cashes (Fs.sett pf i p (L i) FF) 6 = t0 ∧ Pu.stocks (Fs.sett pf i p (L i) FF) 0 6 = t1 ∧ Pu.stocks (Fs.sett pf i p (L i) FF) 1 6 = t2 ∧ Pu.stocks (Fs.sett pf i p (L i) FF) 2 6 = t3 := by
        rcases hfp with e | hp
        · rw [e, Fs.sett_nil]; exact ⟨HT0.out, HT1.out, HT2.out, HT3.out⟩
        · obtain ⟨h1, h2⟩ := Fs.sett_sums HALL.out.ok hi3 hp hfil
          exact ⟨by rw [h1]; exact HT0.out, by rw [h2 0 (by decide)]; exact HT1.out, by rw [h2 1 (by decide)]; exact HT2.out, by rw [h2 2 (by decide)]; exact HT3.out⟩
      have HRUN := hide hrun
      unfold resV at HRUN
      have HFIL := hide hfil; have HFB := hide hfb; have HFP := hide hfp; have HSUM := hide hsums
      clear hrun hno hFF hor hfil hfb hfp hsums HWON HWON2
      simp only []
      go_wp2_with fail
      refine HRUN.out.mono ?_
      rintro e wa ⟨vF, va, rfl, hfa, hsa, hra, halla⟩
      obtain ⟨aF, cF, hvF⟩ := hra.val
      obtain ⟨mF, hmF⟩ : ∃ mF, FF.length = mF := ⟨_, rfl⟩
      rw [hmF] at hvF hflen
      subst hvF
      have HMF := hide hmF
      obtain ⟨wb, hwb⟩ : ∃ wb, wa.alloc (.cells #[.int .i64 p, .int .i64 vol, .bool no, .slice aF mF cF] 50) = wb := ⟨_, rfl⟩
      obtain ⟨R, hR⟩ : ∃ R, wa.heap.size = R := ⟨_, rfl⟩
      have hbb : Below wa.heap.size wa wb := by rw [← hwb]; exact (Below.refl _ _).alloc (Nat.le_refl _) _
      have HRb : Hid (wb.heap[R]? = some (.cells #[.int .i64 p, .int .i64 vol, .bool no, .slice aF mF cF] 50 (0, 0))) := by show _ = _; rw [← hwb, ← hR]; exact heap_alloc_new _ _
      have HFb := hide (hfa.later hbb)
      have HALLb := hide halla
      have HROWb := hide (row_later (row_stepf HF4.out HROW9.out hsa) hbb)
      have hfr := HF4.out.fresh (q := C) HCL.out
      have HPb : Hid (Purse wb 105 C pf) := by
        refine Purse.lat ?_ hbb
        show _ = _
        rw [hsa.keep C (lt_of_block HP9.out) hfr.2.1 hfr.2.2]
        exact HP9.out
      have HSb : Hid (wb.heap[S]? = some (.cells #[.int .i64 t1, .int .i64 t2, .int .i64 t3] 41 (0, 0))) := by
        have h1 : wa.heap[S]? = some (.cells #[.int .i64 t1, .int .i64 t2, .int .i64 t3] 41 (0, 0)) := by
          rw [hsa.keep S (lt_of_block HS9.out) (blkT HS9.out HF9.out.pu (by decide)) (fun j hj => ⟨blkT HS9.out (HF9.out.it j hj) (by decide), blkT HS9.out (HF9.out.bk j hj).cell (by decide), rowT (HF9.out.bk j hj).row HS9.out (by decide)⟩)]
          exact HS9.out
        show _ = _
        rw [hbb.block _ (lt_of_block h1)]; exact h1
      have HFRb := hide (hra.later hbb)
      have HWBd := hide hwb; have HRe := hide hR
      clear hfa hsa hra halla hbb hfr hwb hR hmF HRUN HROW9 HF9 HP9 HS9
      obtain ⟨L2, hL2⟩ : ∃ L2, Fl.runL L i FF = L2 := ⟨_, rfl⟩
      obtain ⟨pf2, hpf2⟩ : ∃ pf2, Fs.sett pf i p (L i) FF = pf2 := ⟨_, rfl⟩
      rw [hL2, hpf2] at HFb HALLb
      rw [hpf2] at HSUM
      have HL2 := hide hL2; have HPF2 := hide hpf2
      clear hL2 hpf2
      have HPU := hide (purse_of HFb.out)
      have HTO := hide (total_any P pf2 wb HFb.out.pu HALLb.out.ok.good)
      unfold triV at HTO
      rw [HSUM.out.1, HSUM.out.2.1, HSUM.out.2.2.1, HSUM.out.2.2.2] at HTO
      have r0 : wb.cell? ⟨R, 0, none⟩ = some (.int .i64 p) := by rw [cell_of_row wb _ 0 _ _ _ HRb.out]; rfl
      have r1 : wb.cell? ⟨R, 1, none⟩ = some (.int .i64 vol) := by rw [cell_of_row wb _ 1 _ _ _ HRb.out]; rfl
      have hpp : (p != p) = false := by simp
      have hvv : (vol != vol) = false := by simp
      simp only []
      go_wp2_with fail
      rw [HWBd.out, HRe.out]
      refine HPU.out.mono ?_
      rintro e wb ⟨rfl, rfl⟩
      simp only []
      go_wp2_with fail
      refine HTO.out.mono ?_
      rintro e wc ⟨rfl, hbc⟩
      have s0 : wc.cell? ⟨S, 0, none⟩ = some (.int .i64 t1) := by rw [cell_of_row wc _ 0 _ _ _ (by rw [hbc.block _ (lt_of_block HSb.out)]; exact HSb.out)]; rfl
      have s1 : wc.cell? ⟨S, 1, none⟩ = some (.int .i64 t2) := by rw [cell_of_row wc _ 1 _ _ _ (by rw [hbc.block _ (lt_of_block HSb.out)]; exact HSb.out)]; rfl
      have s2 : wc.cell? ⟨S, 2, none⟩ = some (.int .i64 t3) := by rw [cell_of_row wc _ 2 _ _ _ (by rw [hbc.block _ (lt_of_block HSb.out)]; exact HSb.out)]; rfl
      have hSl : S < wc.heap.size := Nat.lt_of_lt_of_le (lt_of_block HSb.out) hbc.size
      have hSn : ¬ S = wc.heap.size := by omega
      obtain ⟨wd', hwd⟩ : ∃ x, wc.alloc (.cells #[.int .i64 t1, .int .i64 t2, .int .i64 t3] 41) = x := ⟨_, rfl⟩
      have hbd : Below wb.heap.size wb wd' := by rw [← hwd]; exact hbc.alloc hbc.size _
      have HRd : Hid (wd'.heap[R]? = some (.cells #[.int .i64 p, .int .i64 vol, .bool no, .slice aF mF cF] 50 (0, 0))) := by show _ = _; rw [hbd.block _ (lt_of_block HRb.out)]; exact HRb.out
      have HFd := hide (HFb.out.later hbd)
      have HROWd := hide (row_later HROWb.out hbd)
      have HPd := hide (HPb.out.lat hbd)
      have HFRd := hide (HFRb.out.later hbd)
      have HWD := hide hwd
      have n41 := @neq41f
      have htt : (t0 != t0) = false := by simp
      clear hbc hbd hwd HPU HTO HRb HFb HROWb HPb HSb HFRb r0 r1 HWBd HSUM HT0 HT1 HT2 HT3
      simp only []
      go_wp2
      rw [HWD.out]
      clear s0 s1 s2 hSl hSn HWD n41
      have HBW : Hid (∀ W', Below wd'.heap.size wd' W' → Below w.heap.size w W') := fun W' hb => HB1.out.trans (((HFd.out.later hb).bl).mono HB1.out.size)
      have HGIN := hide HFIL.out.le
      have HFC : Hid (∀ W', Below wd'.heap.size wd' W' → ∀ t, t < mF → ∃ gF, aF = some ⟨gF, 0, none⟩ ∧ W'.cell? ⟨gF, t * 2, none⟩ = some (.int .i64 (fnth FF t).1) ∧ W'.cell? ⟨gF, t * 2 + 1, none⟩ = some (.int .i64 (fnth FF t).2)) := fun W' hb t ht => by
        rcases (HFRd.out.later hb) with ⟨e, _⟩ | ⟨g, cap, cur, e, h2, _⟩
        · have := HMF.out; rw [e] at this; simp at this; omega
        · simp at e
          exact ⟨g, e.1, h2 t (by rw [HMF.out]; exact ht)⟩
      have HLC : Hid (∀ W', Below wd'.heap.size wd' W' → ∀ k, k < m → ∃ gl, la = some ⟨gl, 0, none⟩ ∧ W'.cell? ⟨gl, k * 5, none⟩ = some (.int .i64 (Cv.nth (L i) k).id) ∧ W'.cell? ⟨gl, k * 5 + 1, none⟩ = some (.int .i64 (Cv.nth (L i) k).ow) ∧ W'.cell? ⟨gl, k * 5 + 2, none⟩ = some (.int .i64 (Cv.nth (L i) k).sd) ∧ W'.cell? ⟨gl, k * 5 + 3, none⟩ = some (.int .i64 (Cv.nth (L i) k).pr) ∧ W'.cell? ⟨gl, k * 5 + 4, none⟩ = some (.int .i64 (Cv.nth (L i) k).q)) := fun W' hb k hk => by
        have hr := row_later HROWd.out hb
        rcases hr.2 with ⟨e, _⟩ | ⟨g, cap, cur, e, _⟩
        · simp at e; omega
        · simp at e
          obtain ⟨e1, _⟩ := e
          subst e1
          have := (lots_of_row hr) k (by rw [HM.out]; exact hk)
          rw [show 0 + k * 5 = k * 5 by omega] at this
          exact ⟨g, rfl, this⟩
      have HRC : Hid (∀ W', Below wd'.heap.size wd' W' → W'.cell? ⟨R, 3, none⟩ = some (.slice aF mF cF) ∧ R < W'.heap.size) := fun W' hb => by
        have h1 : W'.heap[R]? = some (.cells #[.int .i64 p, .int .i64 vol, .bool no, .slice aF mF cF] 50 (0, 0)) := by rw [hb.block _ (lt_of_block HRd.out)]; exact HRd.out
        exact ⟨by rw [cell_of_row W' _ 3 _ _ _ h1]; rfl, lt_of_block h1⟩
      have HGT : Hid (∀ x ∈ L i, ∀ t, 0 ≤ Ra.got x.id (FF.take t) ∧ Ra.got x.id (FF.take t) ≤ 1000) := fun x hx t => by
        have hpos : ∀ f ∈ FF, 1 ≤ f.2 := fun f hf => (HFB.out f hf).1
        have h1 := Fs.got_nonneg x.id (FF.take t) (fun f hf => hpos f (List.mem_of_mem_take hf))
        have h2 := Fs.got_take_le x.id FF hpos t
        have h3 := (HGIN.out x hx).2
        have h4 := (Cv.ok_bounds (HGB.out.oks x hx)).2.2.2.2.2
        omega
      have HGS : Hid (∀ t, t < mF → ∀ id, Ra.got id (FF.take (t + 1)) = Ra.got id (FF.take t) + if (fnth FF t).1 = id then (fnth FF t).2 else 0) := fun t ht id => by
        rw [take_fnth (by rw [HMF.out]; exact ht), Ra.got_append]
        show _ + ((if (fnth FF t).1 = id then (fnth FF t).2 else 0) + 0) = _
        omega
      have HFN : Hid (∀ t, t < mF → 1 ≤ (fnth FF t).2 ∧ (fnth FF t).2 ≤ 1000) := fun t ht => by
        have hm : fnth FF t ∈ FF := by
          unfold fnth
          rw [List.getD_eq_getElem?_getD, List.getElem?_eq_getElem (by rw [HMF.out]; exact ht)]
          exact List.getElem_mem _
        exact HFB.out _ hm
      go_loopw [21] (fun cx wx => ∃ (k : Nat), k ≤ m ∧ cx = .int .i64 k ∧ Below wd'.heap.size wd' wx) (fun cx _ => m - (intOf cx).toNat)
      case atStart => exact ⟨0, Nat.zero_le _, rfl, Below.refl _ _⟩
      case round =>
        obtain ⟨k2, hk2, rfl, hb⟩ := hrel
        obtain ⟨wx, hwx⟩ : ∃ wx, wx = wr := ⟨_, rfl⟩
        subst hwx
        have HBx := hide hb
        clear hb
        by_cases hlt2 : k2 < m
        · have hkm : (k2 : Int) < m := by omega
          have hkl : k2 < (L i).length := by rw [HM.out]; exact hlt2
          have hmem := Cv.nth_mem hkl
          have hbnd := Cv.ok_bounds (HGB.out.oks _ hmem)
          have HGX := hide (HGT.out _ hmem)
          have HGI := hide (HGIN.out _ hmem)
          have HEL := hide (HFIL.out.el _ hmem)
          have HRG := hide (Fs.rest_get HGB.out.once FF hmem)
          have HLX := hide (fun W' hb => HLC.out W' hb k2 hlt2)
          obtain ⟨⟨x0, x1, x2, x3, x4⟩, hX⟩ : ∃ X, Cv.nth (L i) k2 = X := ⟨_, rfl⟩
          rw [hX] at hbnd HGX HGI HEL HRG HLX
          simp only [] at hbnd HGX HGI HEL HRG HLX
          clear hX hmem
          go_wp2_with fail
          go_loopw [22, 23] (fun nn cy wy => ∃ (t : Nat) (g : Int), t ≤ mF ∧ cy = .int .i64 t ∧ nn = .int .i64 g ∧ g = Ra.got x0 (FF.take t) ∧ Below wd'.heap.size wd' wy) (fun _ cy _ => mF - (intOf cy).toNat)
          case atStart => exact ⟨0, 0, Nat.zero_le _, rfl, rfl, rfl, HBx.out⟩
          case round =>
            obtain ⟨t, g, ht, rfl, rfl, hg, hb⟩ := hrel
            obtain ⟨wy, hwy⟩ : ∃ wy, wy = wr := ⟨_, rfl⟩
            subst hwy
            have HBy := hide hb; have HG := hide hg
            have hgb := HGX.out t
            rw [← hg] at hgb
            clear hb hg
            obtain ⟨r3, hRl⟩ := HRC.out wy HBy.out
            by_cases hlt3 : t < mF
            · have htm : (t : Int) < mF := by omega
              obtain ⟨gF, hgF, f0, f1⟩ := HFC.out wy HBy.out t hlt3
              subst hgF
              obtain ⟨gl, hgl, c0, c1, c2, c3, c4⟩ := HLX.out wy HBy.out
              subst hgl
              have hst := HGS.out t hlt3 x0
              have hfn := HFN.out t hlt3
              obtain ⟨⟨fi, fq⟩, hfe⟩ : ∃ f, fnth FF t = f := ⟨_, rfl⟩
              rw [hfe] at f0 f1 hst hfn
              simp only [] at f0 f1 hst hfn
              clear hfe
              by_cases hid : fi = x0
              · subst hid
                rw [if_pos rfl] at hst
                have hgb2 := HGX.out (t + 1)
                have HST := hide hst
                rw [hst, ← HG.out] at hgb2
                clear hst
                go_wp2_with fail
                go_quiet (fail)
                have HBq := hide (HBy.out.trans ((blw_drew nq : Below wy.heap.size wy (wy.drewN nq)).mono HBy.out.size))
                go_wp2
                exact ⟨⟨t + 1, g + fq, by omega, by go_num, rfl, by rw [HST.out, HG.out], HBq.out⟩, by simp [intOf]; omega⟩
              · rw [if_neg hid] at hst
                have hidb : (fi == x0) = false := by simpa using hid
                have HST := hide hst
                clear hst
                go_wp2_with fail
                go_quiet (fail)
                have HBq := hide (HBy.out.trans ((blw_drew nq : Below wy.heap.size wy (wy.drewN nq)).mono HBy.out.size))
                go_wp2
                exact ⟨⟨t + 1, g, by omega, by go_num, rfl, by rw [HST.out, HG.out]; omega, HBq.out⟩, by simp [intOf]; omega⟩
            · have htm : ¬ (t : Int) < mF := by omega
              have hgg : g = Ra.got x0 FF := by rw [HG.out, List.take_of_length_le (by rw [HMF.out]; omega)]
              rw [← hgg] at HGI HEL HRG
              clear hgg HG HGX hgb
              go_wp2_with fail
              as_aux_lemma =>
                have HGL : Hid (∃ z0 z1 z2 z3 z4 is, (Cv.has (L2 i) x0 = is ∧ Bk.getX (L2 i) x0 = ⟨z0, z1, z2, z3, z4⟩) ∧ z4 + g = x4 ∧ is = decide (g < x4) ∧ 0 ≤ z4 ∧ z4 ≤ 1000) := by
                  have hL2i : L2 i = Fs.restL FF (L i) := by rw [← HL2.out]; unfold Fl.runL; rw [upd_same]
                  have hgi := HGI.out
                  show ∃ _, _
                  rw [hL2i]
                  by_cases hgq : g < x4
                  · obtain ⟨h1, h2⟩ := HRG.out.1 hgq
                    refine ⟨x0, x1, x2, x3, x4 - g, true, ⟨h1, ?_⟩, by omega, by simp [hgq], by omega, by omega⟩
                    unfold Bk.getX
                    rw [if_pos h1, h2]
                    rfl
                  · have h1 := HRG.out.2 (by omega)
                    refine ⟨0, 0, 0, 0, 0, false, ⟨h1, ?_⟩, by omega, by simp [hgq], by omega, by omega⟩
                    unfold Bk.getX
                    rw [h1]
                    rfl
                obtain ⟨z0, z1, z2, z3, z4, is, hget, hzq, his, hz0, hz1⟩ := HGL.out
                have HGV := hide hget
                clear hget HGL HRG
                have hL60 := (HALLb.out.ok.bk i hi3).len
                have HGET : Hid (∀ W', Below wd'.heap.size wd' W' → Calls Tryz.prog 18 #[.pointer (some ⟨b i, 0, none⟩), .int .i64 x0] W' fun e w' => e = .returned (.tuple #[.agg #[.int .i64 z0, .int .i64 z1, .int .i64 z2, .int .i64 z3, .int .i64 z4], .bool is]) ∧ Below W'.heap.size W' w') := fun W' hb => by
                  have := get_any (b i) w1.heap.size (va i) x0 (L2 i) W' ((HFd.out.later hb).bk i hi3) hL60
                  rw [HGV.out.1, HGV.out.2] at this
                  exact this
                clear hL60
                obtain ⟨gl, hgl, _⟩ := HLX.out wy HBy.out
                subst hgl
                have HLG : Hid (∀ W', Below wd'.heap.size wd' W' → W'.cell? ⟨gl, k2 * 5, none⟩ = some (.int .i64 x0) ∧ W'.cell? ⟨gl, k2 * 5 + 2, none⟩ = some (.int .i64 x2) ∧ W'.cell? ⟨gl, k2 * 5 + 3, none⟩ = some (.int .i64 x3) ∧ W'.cell? ⟨gl, k2 * 5 + 4, none⟩ = some (.int .i64 x4)) := fun W' hb => by
                  obtain ⟨g', e, h0, h1, h2, h3, h4⟩ := HLX.out W' hb
                  simp at e
                  subst e
                  exact ⟨h0, h2, h3, h4⟩
                obtain ⟨XT, val, hcl, hmk⟩ : ∃ (X : Type) (val : X → World), (∀ x, Below wd'.heap.size wd' (val x)) ∧ ∀ W', Below wd'.heap.size wd' W' → ∃ x, val x = W' := ⟨{ W' : World // Below wd'.heap.size wd' W' }, fun x => x.1, fun x => x.2, fun W' h => ⟨⟨W', h⟩, rfl⟩⟩
                have hbd : Below wy.heap.size wy wy.drew := ⟨rfl, rfl, rfl, Nat.le_refl _, fun _ _ => rfl⟩
                have HBs0 := hide (HBy.out.trans (hbd.mono HBy.out.size))
                obtain ⟨y0, hy0⟩ := hmk wy.drew HBs0.out
                have hnx : Nonempty XT := ⟨y0⟩
                have e0 : ∀ x, (val x).cell? ⟨gl, k2 * 5, none⟩ = some (.int .i64 x0) := fun x => (HLG.out _ (hcl x)).1
                have HMK := hide hmk
                clear hmk hcl hbd
                obtain ⟨ws, hws⟩ : ∃ ws, wy.drew = ws := ⟨_, rfl⟩
                rw [hws] at HBs0
                refine region_join1 (val := val) (fun D w6 => w6.heap[D]? = some (.cells #[.int .i64 z0, .int .i64 z1, .int .i64 z2, .int .i64 z3, .int .i64 z4] 56 (0, 0)) ∧ wd'.heap.size ≤ D ∧ Below wd'.heap.size wd' w6) (.read 0 (.read 1 (.read 3 (.read 4 (.read 5 (.read 6 (.read 7 (.two 2 (.two 8 (.read 9 (.read 10 (.read 11 (.one 12 (.one 13 (.read 14 .done)))))) 12 (.one 8 (.read 9 (.read 10 (.read 11 (.one 13 (.read 14 .done))))))) 12 (.one 2 (.one 8 (.read 9 (.read 10 (.read 11 (.one 13 (.read 14 .done))))))))))))))) (by kernel_rfl) (by kernel_rfl) y0 hy0 ?_
                apply Exists.intro
                refine ⟨?_, ?_⟩
                case' refine_1 =>
                  rw [hy0, hws]
                  refine walkP_read rfl (fun K hK => ?_)
                  refine ⟨by rfl, ?_⟩
                  unfold isRd
                  go_simp
                  refine hK _ ?_
                  clear hK K
                  refine walkP_read rfl (fun K hK => ?_)
                  refine ⟨by rfl, ?_⟩
                  unfold isRd
                  go_simp
                  refine hK _ ?_
                  clear hK K
                  refine walkP_read rfl (fun K hK => ?_)
                  refine ⟨by rfl, ?_⟩
                  unfold isRd
                  go_simp
                  refine hK _ ?_
                  clear hK K
                  refine walkP_read rfl (fun K hK => ?_)
                  refine ⟨by rfl, ?_⟩
                  unfold isRd
                  go_simp
                  refine hK _ ?_
                  clear hK K
                  refine walkP_read rfl (fun K hK => ?_)
                  refine ⟨by rfl, ?_⟩
                  unfold isRd
                  go_simp
                  refine hK _ ?_
                  clear hK K
                  refine walkP_read rfl (fun K hK => ?_)
                  refine ⟨by rfl, ?_⟩
                  unfold isRd
                  go_simp
                  refine hK _ ?_
                  clear hK K
                  refine walkP_read rfl (fun K hK => ?_)
                  refine ⟨by rfl, ?_⟩
                  unfold isRd
                  go_simp
                  refine hK _ ?_
                  clear hK K
                  have HBs := HBs0
                  refine ⟨?_, ?_⟩
                  case refine_1 =>
                    refine spec_step rfl (fun K hK => ?_)
                    refine ⟨by rfl, ?_⟩
                    unfold upM
                    go_simp
                    refine (book_in i hi3 (HFd.out.later HBs.out)).mono ?_
                    rintro e ws2 ⟨rfl, hwe⟩
                    subst ws2
                    refine ⟨_, rfl, HMK.out _ HBs.out, hK _ _ ?_⟩
                    clear hK K
                    refine ⟨?_, ?_⟩
                    case refine_1 =>
                      refine spec_step rfl (fun K hK => ?_)
                      refine ⟨by rfl, ?_⟩
                      unfold upM
                      go_simp
                      refine (HGET.out _ HBs.out).mono ?_
                      rintro e wg ⟨rfl, hbc⟩
                      have HBg := hide (HBs.out.trans (hbc.mono HBs.out.size))
                      refine ⟨_, rfl, HMK.out _ HBg.out, hK _ _ ?_⟩
                      clear hK K hbc
                      refine walkP_read rfl (fun K hK => ?_)
                      refine ⟨by rfl, ?_⟩
                      unfold isRd
                      go_simp
                      refine hK _ ?_
                      clear hK K
                      refine walkP_read rfl (fun K hK => ?_)
                      refine ⟨by rfl, ?_⟩
                      unfold isRd
                      go_simp
                      refine hK _ ?_
                      clear hK K
                      refine walkP_read rfl (fun K hK => ?_)
                      refine ⟨by rfl, ?_⟩
                      unfold isRd
                      go_simp
                      refine hK _ ?_
                      clear hK K
                      refine spec_step rfl (fun K hK => ?_)
                      refine ⟨by rfl, ?_⟩
                      unfold upM
                      go_simp
                      obtain ⟨D, hD⟩ : ∃ D, wg.heap.size = D := ⟨_, rfl⟩
                      obtain ⟨wz, hwz⟩ : ∃ wz, wg.alloc (.cells #[.int .i64 0, .int .i64 0, .int .i64 0, .int .i64 0, .int .i64 0] 56) = wz := ⟨_, rfl⟩
                      rw [hD, hwz]
                      have HBz : Hid (Below wd'.heap.size wd' wz) := by show Below _ _ _; rw [← hwz]; exact HBg.out.alloc HBg.out.size _
                      have HZ : Hid (wz.heap[D]? = some (.cells #[.int .i64 0, .int .i64 0, .int .i64 0, .int .i64 0, .int .i64 0] 56 (0, 0))) := by show _ = _; rw [← hwz, ← hD]; exact heap_alloc_new _ _
                      have HLD : Hid (wd'.heap.size ≤ D) := by have := HBg.out.size; show _ ≤ _; omega
                      refine ⟨HMK.out _ HBz.out, hK _ _ ?_⟩
                      clear hK K hwz hD
                      have c0 : wz.cell? ⟨D, 0, none⟩ = some (.int .i64 0) := by rw [cell_of_row wz _ 0 _ _ _ HZ.out]; rfl
                      have f0 : wz.frozen? ⟨D, 0, none⟩ = false := by simp [World.frozen?, HZ.out]
                      have c1 : wz.cell? ⟨D, 1, none⟩ = some (.int .i64 0) := by rw [cell_of_row wz _ 1 _ _ _ HZ.out]; rfl
                      have f1 : wz.frozen? ⟨D, 1, none⟩ = false := by simp [World.frozen?, HZ.out]
                      have c2 : wz.cell? ⟨D, 2, none⟩ = some (.int .i64 0) := by rw [cell_of_row wz _ 2 _ _ _ HZ.out]; rfl
                      have f2 : wz.frozen? ⟨D, 2, none⟩ = false := by simp [World.frozen?, HZ.out]
                      have c3 : wz.cell? ⟨D, 3, none⟩ = some (.int .i64 0) := by rw [cell_of_row wz _ 3 _ _ _ HZ.out]; rfl
                      have f3 : wz.frozen? ⟨D, 3, none⟩ = false := by simp [World.frozen?, HZ.out]
                      have c4 : wz.cell? ⟨D, 4, none⟩ = some (.int .i64 0) := by rw [cell_of_row wz _ 4 _ _ _ HZ.out]; rfl
                      have f4 : wz.frozen? ⟨D, 4, none⟩ = false := by simp [World.frozen?, HZ.out]
                      have HX := hide (set5_row HZ.out z0 z1 z2 z3 z4)
                      have HB6 := hide (below5 HBz.out HLD.out (.int .i64 z0) (.int .i64 z1) (.int .i64 z2) (.int .i64 z3) (.int .i64 z4))
                      refine spec_step rfl (fun K hK => ?_)
                      refine ⟨by rfl, ?_⟩
                      unfold upM
                      go_simp
                      refine ⟨HMK.out _ HB6.out, hK _ _ ?_⟩
                      clear hK K HZ c0 c1 c2 c3 c4 f0 f1 f2 f3 f4
                      generalize (((((wz.setCell ⟨D, 0, none⟩ (.int .i64 z0)).setCell ⟨D, 1, none⟩ (.int .i64 z1)).setCell ⟨D, 2, none⟩ (.int .i64 z2)).setCell ⟨D, 3, none⟩ (.int .i64 z3)).setCell ⟨D, 4, none⟩ (.int .i64 z4)) = w6 at *
                      refine walkP_read rfl (fun K hK => ?_)
                      refine ⟨by rfl, ?_⟩
                      unfold isRd
                      go_simp
                      refine hK _ ?_
                      clear hK K
                      refine walkP_done ?_
                      exact ⟨D, rfl, HX.out, HLD.out, HB6.out⟩
                    case refine_2 =>
                      refine spec_step rfl (fun K hK => ?_)
                      refine ⟨by rfl, ?_⟩
                      unfold upM
                      go_simp
                      obtain ⟨D, hD⟩ : ∃ D, ws.heap.size = D := ⟨_, rfl⟩
                      obtain ⟨wy2, hwz⟩ : ∃ wz, ws.alloc (.cells #[.int .i64 0, .int .i64 0, .int .i64 0, .int .i64 0, .int .i64 0] 56) = wz := ⟨_, rfl⟩
                      rw [hD, hwz]
                      have HBy2 : Hid (Below wd'.heap.size wd' wy2) := by show Below _ _ _; rw [← hwz]; exact HBs.out.alloc HBs.out.size _
                      have HZy : Hid (wy2.heap[D]? = some (.cells #[.int .i64 0, .int .i64 0, .int .i64 0, .int .i64 0, .int .i64 0] 56 (0, 0))) := by show _ = _; rw [← hwz, ← hD]; exact heap_alloc_new _ _
                      have HLD : Hid (wd'.heap.size ≤ D) := by have := HBs.out.size; show _ ≤ _; omega
                      refine ⟨HMK.out _ HBy2.out, hK _ _ ?_⟩
                      clear hK K hwz hD
                      refine spec_step rfl (fun K hK => ?_)
                      refine ⟨by rfl, ?_⟩
                      unfold upM
                      go_simp
                      refine (HGET.out _ HBy2.out).mono ?_
                      rintro e wz ⟨rfl, hbc⟩
                      have HBz := hide (HBy2.out.trans (hbc.mono HBy2.out.size))
                      have HZ : Hid (wz.heap[D]? = some (.cells #[.int .i64 0, .int .i64 0, .int .i64 0, .int .i64 0, .int .i64 0] 56 (0, 0))) := by show _ = _; rw [hbc.block _ (lt_of_block HZy.out)]; exact HZy.out
                      refine ⟨_, rfl, HMK.out _ HBz.out, hK _ _ ?_⟩
                      clear hK K hbc
                      refine walkP_read rfl (fun K hK => ?_)
                      refine ⟨by rfl, ?_⟩
                      unfold isRd
                      go_simp
                      refine hK _ ?_
                      clear hK K
                      refine walkP_read rfl (fun K hK => ?_)
                      refine ⟨by rfl, ?_⟩
                      unfold isRd
                      go_simp
                      refine hK _ ?_
                      clear hK K
                      refine walkP_read rfl (fun K hK => ?_)
                      refine ⟨by rfl, ?_⟩
                      unfold isRd
                      go_simp
                      refine hK _ ?_
                      clear hK K
                      have c0 : wz.cell? ⟨D, 0, none⟩ = some (.int .i64 0) := by rw [cell_of_row wz _ 0 _ _ _ HZ.out]; rfl
                      have f0 : wz.frozen? ⟨D, 0, none⟩ = false := by simp [World.frozen?, HZ.out]
                      have c1 : wz.cell? ⟨D, 1, none⟩ = some (.int .i64 0) := by rw [cell_of_row wz _ 1 _ _ _ HZ.out]; rfl
                      have f1 : wz.frozen? ⟨D, 1, none⟩ = false := by simp [World.frozen?, HZ.out]
                      have c2 : wz.cell? ⟨D, 2, none⟩ = some (.int .i64 0) := by rw [cell_of_row wz _ 2 _ _ _ HZ.out]; rfl
                      have f2 : wz.frozen? ⟨D, 2, none⟩ = false := by simp [World.frozen?, HZ.out]
                      have c3 : wz.cell? ⟨D, 3, none⟩ = some (.int .i64 0) := by rw [cell_of_row wz _ 3 _ _ _ HZ.out]; rfl
                      have f3 : wz.frozen? ⟨D, 3, none⟩ = false := by simp [World.frozen?, HZ.out]
                      have c4 : wz.cell? ⟨D, 4, none⟩ = some (.int .i64 0) := by rw [cell_of_row wz _ 4 _ _ _ HZ.out]; rfl
                      have f4 : wz.frozen? ⟨D, 4, none⟩ = false := by simp [World.frozen?, HZ.out]
                      have HX := hide (set5_row HZ.out z0 z1 z2 z3 z4)
                      have HB6 := hide (below5 HBz.out HLD.out (.int .i64 z0) (.int .i64 z1) (.int .i64 z2) (.int .i64 z3) (.int .i64 z4))
                      refine spec_step rfl (fun K hK => ?_)
                      refine ⟨by rfl, ?_⟩
                      unfold upM
                      go_simp
                      refine ⟨HMK.out _ HB6.out, hK _ _ ?_⟩
                      clear hK K HZ c0 c1 c2 c3 c4 f0 f1 f2 f3 f4
                      generalize (((((wz.setCell ⟨D, 0, none⟩ (.int .i64 z0)).setCell ⟨D, 1, none⟩ (.int .i64 z1)).setCell ⟨D, 2, none⟩ (.int .i64 z2)).setCell ⟨D, 3, none⟩ (.int .i64 z3)).setCell ⟨D, 4, none⟩ (.int .i64 z4)) = w6 at *
                      refine walkP_read rfl (fun K hK => ?_)
                      refine ⟨by rfl, ?_⟩
                      unfold isRd
                      go_simp
                      refine hK _ ?_
                      clear hK K
                      refine walkP_done ?_
                      exact ⟨D, rfl, HX.out, HLD.out, HB6.out⟩
                  case refine_2 =>
                    refine spec_step rfl (fun K hK => ?_)
                    refine ⟨by rfl, ?_⟩
                    unfold upM
                    go_simp
                    obtain ⟨D, hD⟩ : ∃ D, ws.heap.size = D := ⟨_, rfl⟩
                    obtain ⟨wy2, hwz⟩ : ∃ wz, ws.alloc (.cells #[.int .i64 0, .int .i64 0, .int .i64 0, .int .i64 0, .int .i64 0] 56) = wz := ⟨_, rfl⟩
                    rw [hD, hwz]
                    have HBy2 : Hid (Below wd'.heap.size wd' wy2) := by show Below _ _ _; rw [← hwz]; exact HBs.out.alloc HBs.out.size _
                    have HZy : Hid (wy2.heap[D]? = some (.cells #[.int .i64 0, .int .i64 0, .int .i64 0, .int .i64 0, .int .i64 0] 56 (0, 0))) := by show _ = _; rw [← hwz, ← hD]; exact heap_alloc_new _ _
                    have HLD : Hid (wd'.heap.size ≤ D) := by have := HBs.out.size; show _ ≤ _; omega
                    refine ⟨HMK.out _ HBy2.out, hK _ _ ?_⟩
                    clear hK K hwz hD
                    refine spec_step rfl (fun K hK => ?_)
                    refine ⟨by rfl, ?_⟩
                    unfold upM
                    go_simp
                    refine (book_in i hi3 (HFd.out.later HBy2.out)).mono ?_
                    rintro e wy3 ⟨rfl, hwe⟩
                    subst wy3
                    refine ⟨_, rfl, HMK.out _ HBy2.out, hK _ _ ?_⟩
                    clear hK K
                    refine spec_step rfl (fun K hK => ?_)
                    refine ⟨by rfl, ?_⟩
                    unfold upM
                    go_simp
                    refine (HGET.out _ HBy2.out).mono ?_
                    rintro e wz ⟨rfl, hbc⟩
                    have HBz := hide (HBy2.out.trans (hbc.mono HBy2.out.size))
                    have HZ : Hid (wz.heap[D]? = some (.cells #[.int .i64 0, .int .i64 0, .int .i64 0, .int .i64 0, .int .i64 0] 56 (0, 0))) := by show _ = _; rw [hbc.block _ (lt_of_block HZy.out)]; exact HZy.out
                    refine ⟨_, rfl, HMK.out _ HBz.out, hK _ _ ?_⟩
                    clear hK K hbc
                    refine walkP_read rfl (fun K hK => ?_)
                    refine ⟨by rfl, ?_⟩
                    unfold isRd
                    go_simp
                    refine hK _ ?_
                    clear hK K
                    refine walkP_read rfl (fun K hK => ?_)
                    refine ⟨by rfl, ?_⟩
                    unfold isRd
                    go_simp
                    refine hK _ ?_
                    clear hK K
                    refine walkP_read rfl (fun K hK => ?_)
                    refine ⟨by rfl, ?_⟩
                    unfold isRd
                    go_simp
                    refine hK _ ?_
                    clear hK K
                    have c0 : wz.cell? ⟨D, 0, none⟩ = some (.int .i64 0) := by rw [cell_of_row wz _ 0 _ _ _ HZ.out]; rfl
                    have f0 : wz.frozen? ⟨D, 0, none⟩ = false := by simp [World.frozen?, HZ.out]
                    have c1 : wz.cell? ⟨D, 1, none⟩ = some (.int .i64 0) := by rw [cell_of_row wz _ 1 _ _ _ HZ.out]; rfl
                    have f1 : wz.frozen? ⟨D, 1, none⟩ = false := by simp [World.frozen?, HZ.out]
                    have c2 : wz.cell? ⟨D, 2, none⟩ = some (.int .i64 0) := by rw [cell_of_row wz _ 2 _ _ _ HZ.out]; rfl
                    have f2 : wz.frozen? ⟨D, 2, none⟩ = false := by simp [World.frozen?, HZ.out]
                    have c3 : wz.cell? ⟨D, 3, none⟩ = some (.int .i64 0) := by rw [cell_of_row wz _ 3 _ _ _ HZ.out]; rfl
                    have f3 : wz.frozen? ⟨D, 3, none⟩ = false := by simp [World.frozen?, HZ.out]
                    have c4 : wz.cell? ⟨D, 4, none⟩ = some (.int .i64 0) := by rw [cell_of_row wz _ 4 _ _ _ HZ.out]; rfl
                    have f4 : wz.frozen? ⟨D, 4, none⟩ = false := by simp [World.frozen?, HZ.out]
                    have HX := hide (set5_row HZ.out z0 z1 z2 z3 z4)
                    have HB6 := hide (below5 HBz.out HLD.out (.int .i64 z0) (.int .i64 z1) (.int .i64 z2) (.int .i64 z3) (.int .i64 z4))
                    refine spec_step rfl (fun K hK => ?_)
                    refine ⟨by rfl, ?_⟩
                    unfold upM
                    go_simp
                    refine ⟨HMK.out _ HB6.out, hK _ _ ?_⟩
                    clear hK K HZ c0 c1 c2 c3 c4 f0 f1 f2 f3 f4
                    generalize (((((wz.setCell ⟨D, 0, none⟩ (.int .i64 z0)).setCell ⟨D, 1, none⟩ (.int .i64 z1)).setCell ⟨D, 2, none⟩ (.int .i64 z2)).setCell ⟨D, 3, none⟩ (.int .i64 z3)).setCell ⟨D, 4, none⟩ (.int .i64 z4)) = w6 at *
                    refine walkP_read rfl (fun K hK => ?_)
                    refine ⟨by rfl, ?_⟩
                    unfold isRd
                    go_simp
                    refine hK _ ?_
                    clear hK K
                    refine walkP_done ?_
                    exact ⟨D, rfl, HX.out, HLD.out, HB6.out⟩
                intro D w6 ⟨hX6, hD6, hb6⟩
                have HX := hide hX6; have HB6 := hide hb6
                have d4 : w6.cell? ⟨D, 4, none⟩ = some (.int .i64 z4) := by rw [cell_of_row w6 _ 4 _ _ _ hX6]; rfl
                clear hX6 hD6 hb6 HGET hws HBs0
                clear hy0 e0 HMK
                clear y0 hnx
                clear val
                clear XT
                obtain ⟨c0, c2, c3, c4⟩ := HLG.out w6 HB6.out
                have hgi := HGI.out
                have hz5 : (z4 + g != x4) = false := by simp [hzq]
                clear hzq
                by_cases hgq : g < x4
                · have hd : decide (g < x4) = true := by simpa using hgq
                  rw [hd] at his
                  subst his
                  go_wp2_with fail
                  go_quiet (fail)
                  have HBq := hide (HB6.out.trans ((blw_drew nq : Below w6.heap.size w6 (w6.drewN nq)).mono HB6.out.size))
                  clear d4
                  obtain ⟨c0', c2', c3', c4'⟩ := HLG.out _ HBq.out
                  by_cases hg0 : 0 < g
                  · have hg0' : g > 0 := hg0
                    obtain ⟨h1, h2⟩ := HEL.out hg0
                    have hsd : x2 = 0 ∨ x2 = 1 := by omega
                    rcases hsd with e | e
                    · subst e
                      have hnl : ¬ x3 < p := by have := h1 rfl; omega
                      clear h1 h2
                      go_wp2
                      exact ⟨⟨k2 + 1, by omega, by go_num, HBq.out⟩, by simp [intOf]; omega⟩
                    · subst e
                      have hnl : ¬ x3 > p := by have := h2 rfl; omega
                      clear h1 h2
                      go_wp2
                      exact ⟨⟨k2 + 1, by omega, by go_num, HBq.out⟩, by simp [intOf]; omega⟩
                  · have hg0' : ¬ g > 0 := hg0
                    go_wp2
                    exact ⟨⟨k2 + 1, by omega, by go_num, HBq.out⟩, by simp [intOf]; omega⟩
                · have hd : decide (g < x4) = false := by simpa using hgq
                  rw [hd] at his
                  subst his
                  go_wp2_with fail
                  go_quiet (fail)
                  have HBq := hide (HB6.out.trans ((blw_drew nq : Below w6.heap.size w6 (w6.drewN nq)).mono HB6.out.size))
                  clear d4
                  obtain ⟨c0', c2', c3', c4'⟩ := HLG.out _ HBq.out
                  by_cases hg0 : 0 < g
                  · have hg0' : g > 0 := hg0
                    obtain ⟨h1, h2⟩ := HEL.out hg0
                    have hsd : x2 = 0 ∨ x2 = 1 := by omega
                    rcases hsd with e | e
                    · subst e
                      have hnl : ¬ x3 < p := by have := h1 rfl; omega
                      clear h1 h2
                      go_wp2
                      exact ⟨⟨k2 + 1, by omega, by go_num, HBq.out⟩, by simp [intOf]; omega⟩
                    · subst e
                      have hnl : ¬ x3 > p := by have := h2 rfl; omega
                      clear h1 h2
                      go_wp2
                      exact ⟨⟨k2 + 1, by omega, by go_num, HBq.out⟩, by simp [intOf]; omega⟩
                  · have hg0' : ¬ g > 0 := hg0
                    go_wp2
                    exact ⟨⟨k2 + 1, by omega, by go_num, HBq.out⟩, by simp [intOf]; omega⟩
        · have hkm : ¬ (k2 : Int) < m := by omega
          go_wp2_with fail
          as_aux_lemma =>
            have HPB : Hid (∀ (c : Int) (k : Nat), -60000000 ≤ Fs.payTo p c FF ((L i).take k) ∧ Fs.payTo p c FF ((L i).take k) ≤ 60000000) := fun c k => by
              rcases HFP.out with e | hp
              · rw [e, payTo_nil]; omega
              · exact Fs.payTo_bound hp c HGB.out HGIN.out k
            have HGBd : Hid (∀ (c : Int) (k : Nat), -60000 ≤ Fs.getTo c FF ((L i).take k) ∧ Fs.getTo c FF ((L i).take k) ≤ 60000) := fun c k => Fs.getTo_bound c HGB.out HGIN.out k
            have HPG : Hid (∀ x ∈ L i, ∀ t, 0 ≤ p * Ra.got x.id (FF.take t) ∧ p * Ra.got x.id (FF.take t) ≤ 1000000) := fun x hx t => by
              rcases HFP.out with e | hp
              · rw [e, List.take_nil]; show 0 ≤ p * 0 ∧ p * 0 ≤ _; omega
              · have := HGT.out x hx t; exact prodB hp this.1 this.2
            have HPQ : Hid (∀ t, t < mF → 0 ≤ p * (fnth FF t).2 ∧ p * (fnth FF t).2 ≤ 1000000) := fun t ht => by
              rcases HFP.out with e | hp
              · have := HMF.out; rw [e] at this; simp at this; omega
              · have := HFN.out t ht; exact prodB hp (by omega) this.2
            have HSETC : Hid (∀ c : Nat, c < 6 → pf2 (c * 8) = pf (c * 8) - Fs.payTo p c FF (L i) ∧ pf2 (c * 8 + 2 + i) = pf (c * 8 + 2 + i) + Fs.getTo c FF (L i)) := fun c _ => by
              rw [← HPF2.out]; exact ⟨Fs.sett_cash pf i p HGB.out.oks FF c hi3, Fs.sett_stock pf i p HGB.out.oks FF c hi3⟩
            have HG1 := hide (HALL.out.ok.good); have HG2 := hide (HALLb.out.ok.good)
            have HPr : Hid (FF = [] ∨ (1 ≤ p ∧ p ≤ 1000)) := HFP.out
            go_loopw [26] (fun cx wz => ∃ (k : Nat), k ≤ 6 ∧ cx = .int .i64 k ∧ Below wd'.heap.size wd' wz) (fun cx _ => 6 - (intOf cx).toNat)
            case atStart => exact ⟨0, by omega, rfl, HBx.out⟩
            case round =>
              obtain ⟨kc, hkc, rfl, hb⟩ := hrel
              obtain ⟨wz, hwz⟩ : ∃ wz, wz = wr := ⟨_, rfl⟩
              subst hwz
              have HBz := hide hb
              clear hb HBx
              by_cases hlt6 : kc < 6
              · have hk6 : (kc : Int) < 6 := by omega
                go_wp2_with fail
                go_loopw [27, 28, 29] (fun pd gt cx wl => ∃ (k : Nat) (pdv gv : Int), k ≤ m ∧ cx = .int .i64 k ∧ pd = .int .i64 pdv ∧ gt = .int .i64 gv ∧ pdv = Fs.payTo p kc FF ((L i).take k) ∧ gv = Fs.getTo kc FF ((L i).take k) ∧ Below wd'.heap.size wd' wl) (fun _ _ cx _ => m - (intOf cx).toNat)
                case atStart => exact ⟨0, 0, 0, Nat.zero_le _, rfl, rfl, rfl, rfl, rfl, HBz.out⟩
                case round =>
                  obtain ⟨k3, pdv, gv, hk3, rfl, rfl, rfl, hpd, hgv, hb⟩ := hrel
                  obtain ⟨wl, hwl⟩ : ∃ wl, wl = wr := ⟨_, rfl⟩
                  subst hwl
                  have HBl := hide hb; have HPV := hide hpd; have HGV := hide hgv
                  have hpb := HPB.out kc k3
                  have hgb := HGBd.out kc k3
                  rw [← hpd] at hpb
                  rw [← hgv] at hgb
                  clear hb hpd hgv HBz
                  by_cases hlt3 : k3 < m
                  · have hkm3 : (k3 : Int) < m := by omega
                    have hkl : k3 < (L i).length := by rw [HM.out]; exact hlt3
                    have hmem := Cv.nth_mem hkl
                    have HPS := hide (Fs.payTo_step p kc FF hkl)
                    have HGS2 := hide (Fs.getTo_step kc FF hkl)
                    have hbnd := Cv.ok_bounds (HGB.out.oks _ hmem)
                    have HGX := hide (HGT.out _ hmem)
                    have HPX := hide (HPG.out _ hmem)
                    have HLX := hide (fun W' hb => HLC.out W' hb k3 hlt3)
                    obtain ⟨⟨x0, x1, x2, x3, x4⟩, hX⟩ : ∃ X, Cv.nth (L i) k3 = X := ⟨_, rfl⟩
                    rw [hX] at hbnd HGX HPX HLX HPS HGS2
                    simp only [] at hbnd HGX HPX HLX HPS HGS2
                    clear hX hmem hkl
                    obtain ⟨gl, hgl, c0, c1, c2, c3, c4⟩ := HLX.out wl HBl.out
                    subst hgl
                    by_cases how : x1 = kc
                    · subst how
                      have howb : ((kc : Int) != (kc : Int)) = false := by simp
                      have hsd : x2 = 0 ∨ x2 = 1 := by omega
                      rcases hsd with e | e
                      · subst e
                        as_aux_lemma =>
                          go_wp2_with fail
                          clear c0 c1 c2 c3 c4
                          go_loopw [27, 28, 30] (fun pd gt cy wy => ∃ (t : Nat) (pv qv : Int), t ≤ mF ∧ cy = .int .i64 t ∧ pd = .int .i64 pv ∧ gt = .int .i64 qv ∧ pv = pdv + p * Ra.got x0 (FF.take t) ∧ qv = gv + Ra.got x0 (FF.take t) ∧ Below wd'.heap.size wd' wy) (fun _ _ cy _ => mF - (intOf cy).toNat)
                          case atStart => exact ⟨0, pdv, gv, Nat.zero_le _, rfl, rfl, rfl, by show pdv = pdv + p * 0; omega, by show gv = gv + 0; omega, HBl.out⟩
                          case round =>
                            obtain ⟨t, pv, qv, ht, rfl, rfl, rfl, hpv, hqv, hb⟩ := hrel
                            obtain ⟨wy, hwy⟩ : ∃ wy, wy = wr := ⟨_, rfl⟩
                            subst hwy
                            have HBy := hide hb; have HPV2 := hide hpv; have HQV := hide hqv
                            have hgx := HGX.out t
                            have hpx := HPX.out t
                            have hpvb : -61000000 ≤ pv ∧ pv ≤ 61000000 := by omega
                            have hqvb : -61000 ≤ qv ∧ qv ≤ 61000 := by omega
                            clear hb hpv hqv hgx hpx
                            obtain ⟨r3, hRl⟩ := HRC.out wy HBy.out
                            by_cases hlt4 : t < mF
                            · have htm : (t : Int) < mF := by omega
                              obtain ⟨gF, hgF, f0, f1⟩ := HFC.out wy HBy.out t hlt4
                              subst hgF
                              obtain ⟨gl', hgl', c0, c1, c2, c3, c4⟩ := HLX.out wy HBy.out
                              simp at hgl'
                              subst hgl'
                              clear c1 c3 c4
                              have hst := HGS.out t hlt4 x0
                              have hfn := HFN.out t hlt4
                              have hpq := HPQ.out t hlt4
                              obtain ⟨⟨fi, fq⟩, hfe⟩ : ∃ f, fnth FF t = f := ⟨_, rfl⟩
                              rw [hfe] at f0 f1 hst hfn hpq
                              simp only [] at f0 f1 hst hfn hpq
                              clear hfe
                              by_cases hid : fi = x0
                              · subst hid
                                rw [if_pos rfl] at hst
                                have HST := hide hst
                                clear hst
                                go_wp2_with fail
                                go_quiet (fail)
                                have HBq := hide (HBy.out.trans ((blw_drew nq : Below wy.heap.size wy (wy.drewN nq)).mono HBy.out.size))
                                go_wp2
                                exact ⟨⟨t + 1, pv + p * fq, qv + fq, by omega, by go_num, rfl, rfl, by rw [HST.out, HPV2.out, Int.mul_add]; omega, by rw [HST.out, HQV.out]; omega, HBq.out⟩, by simp [intOf]; omega⟩
                              · rw [if_neg hid] at hst
                                have hidb : (fi == x0) = false := by simpa using hid
                                have HST := hide hst
                                clear hst
                                go_wp2_with fail
                                go_quiet (fail)
                                have HBq := hide (HBy.out.trans ((blw_drew nq : Below wy.heap.size wy (wy.drewN nq)).mono HBy.out.size))
                                go_wp2
                                exact ⟨⟨t + 1, pv, qv, by omega, by go_num, rfl, rfl, by rw [HST.out, HPV2.out, Int.add_zero], by rw [HST.out, HQV.out, Int.add_zero], HBq.out⟩, by simp [intOf]; omega⟩
                            · have htm : ¬ (t : Int) < mF := by omega
                              have hgg : FF.take t = FF := List.take_of_length_le (by rw [HMF.out]; omega)
                              rw [hgg] at HPV2 HQV
                              clear hgg
                              go_wp2
                              exact ⟨⟨k3 + 1, pv, qv, by omega, by go_num, rfl, rfl, by rw [HPS.out, HPV2.out, HPV.out]; simp [Fs.pay1]; try omega, by rw [HGS2.out, HQV.out, HGV.out]; simp [Fs.get1]; try omega, HBy.out⟩, by simp [intOf]; omega⟩
                      · subst e
                        as_aux_lemma =>
                          go_wp2_with fail
                          clear c0 c1 c2 c3 c4
                          go_loopw [27, 28, 30] (fun pd gt cy wy => ∃ (t : Nat) (pv qv : Int), t ≤ mF ∧ cy = .int .i64 t ∧ pd = .int .i64 pv ∧ gt = .int .i64 qv ∧ pv = pdv - p * Ra.got x0 (FF.take t) ∧ qv = gv - Ra.got x0 (FF.take t) ∧ Below wd'.heap.size wd' wy) (fun _ _ cy _ => mF - (intOf cy).toNat)
                          case atStart => exact ⟨0, pdv, gv, Nat.zero_le _, rfl, rfl, rfl, by show pdv = pdv - p * 0; omega, by show gv = gv - 0; omega, HBl.out⟩
                          case round =>
                            obtain ⟨t, pv, qv, ht, rfl, rfl, rfl, hpv, hqv, hb⟩ := hrel
                            obtain ⟨wy, hwy⟩ : ∃ wy, wy = wr := ⟨_, rfl⟩
                            subst hwy
                            have HBy := hide hb; have HPV2 := hide hpv; have HQV := hide hqv
                            have hgx := HGX.out t
                            have hpx := HPX.out t
                            have hpvb : -61000000 ≤ pv ∧ pv ≤ 61000000 := by omega
                            have hqvb : -61000 ≤ qv ∧ qv ≤ 61000 := by omega
                            clear hb hpv hqv hgx hpx
                            obtain ⟨r3, hRl⟩ := HRC.out wy HBy.out
                            by_cases hlt4 : t < mF
                            · have htm : (t : Int) < mF := by omega
                              obtain ⟨gF, hgF, f0, f1⟩ := HFC.out wy HBy.out t hlt4
                              subst hgF
                              obtain ⟨gl', hgl', c0, c1, c2, c3, c4⟩ := HLX.out wy HBy.out
                              simp at hgl'
                              subst hgl'
                              clear c1 c3 c4
                              have hst := HGS.out t hlt4 x0
                              have hfn := HFN.out t hlt4
                              have hpq := HPQ.out t hlt4
                              obtain ⟨⟨fi, fq⟩, hfe⟩ : ∃ f, fnth FF t = f := ⟨_, rfl⟩
                              rw [hfe] at f0 f1 hst hfn hpq
                              simp only [] at f0 f1 hst hfn hpq
                              clear hfe
                              by_cases hid : fi = x0
                              · subst hid
                                rw [if_pos rfl] at hst
                                have HST := hide hst
                                clear hst
                                go_wp2_with fail
                                go_quiet (fail)
                                have HBq := hide (HBy.out.trans ((blw_drew nq : Below wy.heap.size wy (wy.drewN nq)).mono HBy.out.size))
                                go_wp2
                                exact ⟨⟨t + 1, pv - p * fq, qv - fq, by omega, by go_num, rfl, rfl, by rw [HST.out, HPV2.out, Int.mul_add]; omega, by rw [HST.out, HQV.out]; omega, HBq.out⟩, by simp [intOf]; omega⟩
                              · rw [if_neg hid] at hst
                                have hidb : (fi == x0) = false := by simpa using hid
                                have HST := hide hst
                                clear hst
                                go_wp2_with fail
                                go_quiet (fail)
                                have HBq := hide (HBy.out.trans ((blw_drew nq : Below wy.heap.size wy (wy.drewN nq)).mono HBy.out.size))
                                go_wp2
                                exact ⟨⟨t + 1, pv, qv, by omega, by go_num, rfl, rfl, by rw [HST.out, HPV2.out, Int.add_zero], by rw [HST.out, HQV.out, Int.add_zero], HBq.out⟩, by simp [intOf]; omega⟩
                            · have htm : ¬ (t : Int) < mF := by omega
                              have hgg : FF.take t = FF := List.take_of_length_le (by rw [HMF.out]; omega)
                              rw [hgg] at HPV2 HQV
                              clear hgg
                              go_wp2
                              exact ⟨⟨k3 + 1, pv, qv, by omega, by go_num, rfl, rfl, by rw [HPS.out, HPV2.out, HPV.out]; simp [Fs.pay1]; try omega, by rw [HGS2.out, HQV.out, HGV.out]; simp [Fs.get1]; try omega, HBy.out⟩, by simp [intOf]; omega⟩
                    · have howb : (x1 != (kc : Int)) = true := by simpa using how
                      go_wp2
                      exact ⟨⟨k3 + 1, pdv, gv, by omega, by go_num, rfl, rfl, by rw [HPS.out, HPV.out]; simp [Fs.pay1, how], by rw [HGS2.out, HGV.out]; simp [Fs.get1, how], HBl.out⟩, by simp [intOf]; omega⟩
                  · have hkm3 : ¬ (k3 : Int) < m := by omega
                    have htk : (L i).take k3 = L i := List.take_of_length_le (by rw [HM.out]; omega)
                    rw [htk] at HPV HGV
                    clear htk
                    obtain ⟨hc1, hc2⟩ := HSETC.out kc hlt6
                    rw [← HPV.out] at hc1
                    rw [← HGV.out] at hc2
                    have hg1 := HG1.out.cash kc hlt6
                    have hg2 := HG2.out.cash kc hlt6
                    have hs1 := HG1.out.stock kc i hlt6 hi3
                    obtain ⟨hz1, hz2, hs1⟩ := hs1
                    have hs1 := And.intro (Int.le_trans hz1 hz2) hs1
                    clear hz1 hz2
                    as_aux_lemma =>
                      have HFl := hide (HFd.out.later HBl.out)
                      have ho := of_any C kc pf wl (HPd.out.lat HBl.out)
                      rw [ofV_in pf hlt6] at ho
                      unfold hasV at ho
                      have HO := hide ho
                      clear ho
                      go_wp2_with fail
                      refine HO.out.mono ?_
                      rintro e wm ⟨rfl, hbm⟩
                      have HBm := hide (HBl.out.trans (hbm.mono HBl.out.size))
                      clear hbm HO HBl HFl
                      obtain ⟨dI, gdI⟩ : ∃ x, pf (kc * 8 + 2 + i) = x := ⟨_, rfl⟩
                      rw [gdI] at hc2 hs1
                      obtain ⟨d0, gd0⟩ : ∃ x, pf (kc * 8) = x := ⟨_, rfl⟩
                      obtain ⟨d1, gd1⟩ : ∃ x, pf (kc * 8 + 1) = x := ⟨_, rfl⟩
                      obtain ⟨d2, gd2⟩ : ∃ x, pf (kc * 8 + 2) = x := ⟨_, rfl⟩
                      obtain ⟨d3, gd3⟩ : ∃ x, pf (kc * 8 + 3) = x := ⟨_, rfl⟩
                      obtain ⟨d4, gd4⟩ : ∃ x, pf (kc * 8 + 4) = x := ⟨_, rfl⟩
                      obtain ⟨d5, gd5⟩ : ∃ x, pf (kc * 8 + 5) = x := ⟨_, rfl⟩
                      obtain ⟨d6, gd6⟩ : ∃ x, pf (kc * 8 + 6) = x := ⟨_, rfl⟩
                      obtain ⟨d7, gd7⟩ : ∃ x, pf (kc * 8 + 7) = x := ⟨_, rfl⟩
                      rw [gd0, gd1, gd2, gd3, gd4, gd5, gd6, gd7]
                      rw [gd0] at hc1
                      rw [gd0, gd1] at hg1
                      obtain ⟨wn, hwn⟩ : ∃ x, wm.alloc (.cells #[.int .i64 d0, .int .i64 d1, .int .i64 d2, .int .i64 d3, .int .i64 d4, .int .i64 d5, .int .i64 d6, .int .i64 d7] 60) = x := ⟨_, rfl⟩
                      obtain ⟨A, hA⟩ : ∃ A, wm.heap.size = A := ⟨_, rfl⟩
                      have HAwn : Hid (wn.heap[A]? = some (.cells #[.int .i64 d0, .int .i64 d1, .int .i64 d2, .int .i64 d3, .int .i64 d4, .int .i64 d5, .int .i64 d6, .int .i64 d7] 60 (0, 0))) := by show _ = _; rw [← hwn, ← hA]; exact heap_alloc_new _ _
                      have HBn : Hid (Below wd'.heap.size wd' wn) := by show Below _ _ _; rw [← hwn]; exact HBm.out.alloc HBm.out.size _
                      have HLTA : Hid (wm.heap.size ≤ A) := by show _ ≤ _; omega
                      have HWwn := hide hwn; have HEA := hide hA
                      clear hwn hA
                      have HFn := hide (HFd.out.later HBn.out)
                      have HPU := hide (purse_of HFn.out)
                      have ho := of_any P kc pf2 wn HFn.out.pu
                      rw [ofV_in pf2 hlt6] at ho
                      unfold hasV at ho
                      have HO := hide ho
                      clear ho HFn
                      simp only []
                      go_wp2_with fail
                      rw [HWwn.out, HEA.out]
                      refine HPU.out.mono ?_
                      rintro e wn ⟨rfl, rfl⟩
                      simp only []
                      go_wp2_with fail
                      refine HO.out.mono ?_
                      rintro e wq ⟨rfl, hbq⟩
                      have HBq := hide (HBn.out.trans (hbq.mono HBn.out.size))
                      have HAq : Hid (wq.heap[A]? = some (.cells #[.int .i64 d0, .int .i64 d1, .int .i64 d2, .int .i64 d3, .int .i64 d4, .int .i64 d5, .int .i64 d6, .int .i64 d7] 60 (0, 0))) := by show _ = _; rw [hbq.block _ (lt_of_block HAwn.out)]; exact HAwn.out
                      clear hbq HO HPU HWwn HEA HAwn HBn HBm HLTA
                      obtain ⟨eI, geI⟩ : ∃ x, pf2 (kc * 8 + 2 + i) = x := ⟨_, rfl⟩
                      rw [geI] at hc2
                      obtain ⟨e0, ge0⟩ : ∃ x, pf2 (kc * 8) = x := ⟨_, rfl⟩
                      obtain ⟨e1, ge1⟩ : ∃ x, pf2 (kc * 8 + 1) = x := ⟨_, rfl⟩
                      obtain ⟨e2, ge2⟩ : ∃ x, pf2 (kc * 8 + 2) = x := ⟨_, rfl⟩
                      obtain ⟨e3, ge3⟩ : ∃ x, pf2 (kc * 8 + 3) = x := ⟨_, rfl⟩
                      obtain ⟨e4, ge4⟩ : ∃ x, pf2 (kc * 8 + 4) = x := ⟨_, rfl⟩
                      obtain ⟨e5, ge5⟩ : ∃ x, pf2 (kc * 8 + 5) = x := ⟨_, rfl⟩
                      obtain ⟨e6, ge6⟩ : ∃ x, pf2 (kc * 8 + 6) = x := ⟨_, rfl⟩
                      obtain ⟨e7, ge7⟩ : ∃ x, pf2 (kc * 8 + 7) = x := ⟨_, rfl⟩
                      rw [ge0, ge1, ge2, ge3, ge4, ge5, ge6, ge7]
                      rw [ge0] at hc1
                      rw [ge0, ge1] at hg2
                      obtain ⟨wt, hwn⟩ : ∃ x, wq.alloc (.cells #[.int .i64 e0, .int .i64 e1, .int .i64 e2, .int .i64 e3, .int .i64 e4, .int .i64 e5, .int .i64 e6, .int .i64 e7] 60) = x := ⟨_, rfl⟩
                      obtain ⟨B, hA⟩ : ∃ A, wq.heap.size = A := ⟨_, rfl⟩
                      have HBwt : Hid (wt.heap[B]? = some (.cells #[.int .i64 e0, .int .i64 e1, .int .i64 e2, .int .i64 e3, .int .i64 e4, .int .i64 e5, .int .i64 e6, .int .i64 e7] 60 (0, 0))) := by show _ = _; rw [← hwn, ← hA]; exact heap_alloc_new _ _
                      have HBt : Hid (Below wd'.heap.size wd' wt) := by show Below _ _ _; rw [← hwn]; exact HBq.out.alloc HBq.out.size _
                      have HLTB : Hid (wq.heap.size ≤ B) := by show _ ≤ _; omega
                      have HWwt := hide hwn; have HEB := hide hA
                      clear hwn hA
                      have HAt : Hid (wt.heap[A]? = some (.cells #[.int .i64 d0, .int .i64 d1, .int .i64 d2, .int .i64 d3, .int .i64 d4, .int .i64 d5, .int .i64 d6, .int .i64 d7] 60 (0, 0))) := by
                        show _ = _
                        rw [← HWwt.out, ((Below.refl wq.heap.size wq).alloc (Nat.le_refl _) _).block _ (lt_of_block HAq.out)]; exact HAq.out
                      have dc0 : wt.cell? ⟨A, 0, none⟩ = some (.int .i64 d0) := by rw [cell_of_row wt _ 0 _ _ _ HAt.out]; rfl
                      have dc1 : wt.cell? ⟨A, 1, none⟩ = some (.int .i64 d1) := by rw [cell_of_row wt _ 1 _ _ _ HAt.out]; rfl
                      have dci : wt.cell? ⟨A, 2 + i, none⟩ = some (.int .i64 dI) := by
                        rw [cell_of_row wt _ _ _ _ _ HAt.out]
                        have hci : i = 0 ∨ i = 1 ∨ i = 2 := by omega
                        rcases hci with rfl | rfl | rfl
                        · show some (Value.int .i64 d2) = some (.int .i64 dI); rw [← gd2, ← gdI]
                        · show some (Value.int .i64 d3) = some (.int .i64 dI); rw [← gd3, ← gdI]
                        · show some (Value.int .i64 d4) = some (.int .i64 dI); rw [← gd4, ← gdI]
                      have ec0 : wt.cell? ⟨B, 0, none⟩ = some (.int .i64 e0) := by rw [cell_of_row wt _ 0 _ _ _ HBwt.out]; rfl
                      have ec1 : wt.cell? ⟨B, 1, none⟩ = some (.int .i64 e1) := by rw [cell_of_row wt _ 1 _ _ _ HBwt.out]; rfl
                      have eci : wt.cell? ⟨B, 2 + i, none⟩ = some (.int .i64 eI) := by
                        rw [cell_of_row wt _ _ _ _ _ HBwt.out]
                        have hci : i = 0 ∨ i = 1 ∨ i = 2 := by omega
                        rcases hci with rfl | rfl | rfl
                        · show some (Value.int .i64 e2) = some (.int .i64 eI); rw [← ge2, ← geI]
                        · show some (Value.int .i64 e3) = some (.int .i64 eI); rw [← ge3, ← geI]
                        · show some (Value.int .i64 e4) = some (.int .i64 eI); rw [← ge4, ← geI]
                      have hw1 : IntKind.i64.wrap (d0 - pdv) = d0 - pdv := IntWalk.i64_in _ (by omega)
                      have hw2 : IntKind.i64.wrap (dI + gv) = dI + gv := IntWalk.i64_in _ (by omega)
                      have hcq : (e0 != d0 - pdv) = false := by simp [hc1]
                      have hsq : (eI != dI + gv) = false := by simp [hc2]
                      have hh0 : ¬ e1 < 0 := by omega
                      have hh1 : ¬ e1 > e0 := by omega
                      have hi0 : (0 : Int) ≤ (i : Int) := by omega
                      have hi3' : (i : Int) < 3 := by omega
                      clear gd0 ge0 gd1 ge1 gd2 ge2 gd3 ge3 gd4 ge4 gd5 ge5 gd6 ge6 gd7 ge7 gdI geI hc1 hc2
                      simp only []
                      go_wp2_with fail
                      rw [HWwt.out, HEB.out]
                      go_quiet (fail)
                      have HBr := hide (HBt.out.trans ((blw_drew nq : Below wt.heap.size wt (wt.drewN nq)).mono HBt.out.size))
                      go_wp2
                      exact ⟨⟨kc + 1, by omega, by go_num, HBr.out⟩, by simp [intOf]; omega⟩
              · have hk6 : ¬ (kc : Int) < 6 := by omega
                go_wp2
                go_ret
                exact ⟨rfl, HBW.out _ HBz.out⟩
end
end Go.Proofs.YtdggddjgipgllaaGreatDoor
