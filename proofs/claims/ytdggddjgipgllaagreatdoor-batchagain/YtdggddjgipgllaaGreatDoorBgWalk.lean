/- The law BatchAgain, for all acts. -/
import Derived.Test.YtdggddjgipgllaaGreatDoorU25
import Derived.Test.YtdggddjgipgllaaGreatDoorU05
namespace Go.Proofs.YtdggddjgipgllaaGreatDoor
open Go.RowKit
set_option maxRecDepth 100000
theorem fits21 : Fl.Fits 20000 100 := ⟨by decide, by decide, by decide, by decide⟩
theorem neq56 (a b c d e : Int) (w : World) : (binOp .neq 56 (.agg #[.int .i64 a, .int .i64 b, .int .i64 c, .int .i64 d, .int .i64 e]) (.agg #[.int .i64 a, .int .i64 b, .int .i64 c, .int .i64 d, .int .i64 e])).run Tryz.prog w = .ok (.bool false) w := by
  simp [go_sem]
/-- two floors that are alike -/
def Alike (w W : World) (F P : Nat) (I b : Nat → Nat) (G Q : Nat) (J c : Nat → Nat) (wd h : Int) : Prop := ∃ v u L pf n, Two w W F P I b v L pf n G Q J c u L pf n wd h ∧ FAll L pf n wd h
theorem errE_or (ev : Nat → Value) (k : Nat) : errE ev k = .nilIface ∨ ∃ y, errE ev k = .iface 252 y := by
  cases k with
  | zero => exact .inl rfl
  | succ k => exact .inr ⟨_, rfl⟩
/-- what Run does with a floor's numbers, wherever the floor lies -/
def RunTo (ev : Nat → Value) (L : Nat → List Cv.Lot) (pf n : Nat → Int) (wd h k s p vol : Int) (o : Bool) (FF : List (Int × Int)) (L' : Nat → List Cv.Lot) (pf' n' : Nat → Int) : Prop :=
  ∀ (w W : World) (F P : Nat) (I b : Nat → Nat) (v : Nat → Value), PFl w W F P I b v L pf n wd h → AEr w ev → Calls Tryz.prog 17 #[.pointer (some ⟨F, 0, none⟩), .int .i64 k, .int .u32 s] W fun e W' =>
    ∃ vF v' er, e = .returned (.tuple #[resV p vol o vF, er]) ∧ PFl w W' F P I b v' L' pf' n' wd h ∧ FStep W W' P I b v v' ∧ FRow W' vF FF ∧ FAll L' pf' n' wd h
theorem runF_len (s : Int) {l : List Cv.Lot} (hl : Bk.Good l) {ref p vol : Int} (hw : Cv.Won l ref 1000 p vol) (o : Bool) : (Fl.runF s l o p vol).length ≤ 400 := by
  unfold Fl.runF
  split
  · rename_i hc
    have hf := Fs.won_fine (good_well hl) hw hc.2
    unfold Ra.fills
    have h60 := hl.len
    have h1 := Ra.side_length s hl.oks 0 p vol hf.2.1.1 hf.2.1.2 hf.2.2.1
    have h2 := Ra.side_length (Ra.nextSeed s) hl.oks 1 p vol hf.2.1.1 hf.2.1.2 hf.2.2.1
    rw [List.length_append]
    omega
  · simp
theorem run_to {L : Nat → List Cv.Lot} {pf n : Nat → Int} {wd h : Int} (ev : Nat → Value) (k s : Int) (hs : Ra.IsU s) (H : FAll L pf n wd h) : ∃ p vol o FF L' pf' n', RunTo ev L pf n wd h k s p vol o FF L' pf' n' ∧ FF.length ≤ 400 := by
  cases hk : Wi.withinB k 0 2 with
  | false =>
    refine ⟨0, 0, false, [], L, pf, n, fun w W F P I b v hF he => ?_, Nat.zero_le _⟩
    refine (run_out k s hF he hk).mono ?_
    rintro e W' ⟨rfl, hb⟩
    exact ⟨_, v, _, rfl, hF.later hb, FStep.of_below hb P I b v, .inl ⟨rfl, none, 0, rfl⟩, H⟩
  | true =>
    simp only [Wi.withinB, Bool.and_eq_true, decide_eq_true_eq] at hk
    obtain ⟨i, rfl⟩ : ∃ i : Nat, k = i := ⟨k.toNat, by omega⟩
    have hi : i < 3 := by omega
    obtain ⟨p, vol, hw⟩ := won_exists (H.ok.bk i hi).oks (n (i * 2)) 1000
    refine ⟨p, vol, Fl.runO n i wd p vol, (Fl.runF s (L i) (Fl.runO n i wd p vol) p vol), Fl.runL L i (Fl.runF s (L i) (Fl.runO n i wd p vol) p vol), Fs.sett pf i p (L i) (Fl.runF s (L i) (Fl.runO n i wd p vol) p vol), Fl.runN n i wd h p vol, fun w W F P I b v hF he => ?_, runF_len s (H.ok.bk i hi) hw _⟩
    refine (run_any i hi s p vol hs hF he H hw).mono ?_
    rintro e W' ⟨vF, v', rfl, h1, h2, h3, h4⟩
    exact ⟨vF, v', _, rfl, h1, h2, h3, h4⟩
section
variable {ev : Nat → Value}
set_option maxHeartbeats 1000000 in
theorem batchAgain_any (a : Option Addr) (n cap : Nat) (item s : Int) (l : List DAct) (w : World) (he : Hid (AEr w ev)) (hl : Hid (ArgDos w a n l)) (hs : Hid (Ra.IsU s)) :
    Calls Tryz.prog 6 #[.slice a n cap, .int .i64 item, .int .u32 s] w fun e w' => e = .returned (.bool true) ∧ Below w.heap.size w w' := by
  have HFL := hide (floored_any w he)
  by_cases hn : n ≤ 60
  case neg =>
    have c1 : (n : Int) > 60 := by omega
    go_enter Tryz.func6, Tryz.ntmps6
    go_wp2_with fail
    refine HFL.out.mono ?_
    rintro e w1 ⟨rfl, hb1⟩
    simp only []
    go_wp2
    go_ret
    exact ⟨rfl, hb1⟩
  by_cases hi0 : 0 ≤ item
  case neg =>
    have c1 : ¬ (n : Int) > 60 := by omega
    have c2 : item < 0 := by omega
    go_enter Tryz.func6, Tryz.ntmps6
    go_wp2_with fail
    refine HFL.out.mono ?_
    rintro e w1 ⟨rfl, hb1⟩
    simp only []
    go_wp2
    go_ret
    exact ⟨rfl, hb1⟩
  by_cases hi2 : item < 3
  case neg =>
    have c1 : ¬ (n : Int) > 60 := by omega
    have c2 : ¬ item < 0 := by omega
    have c3 : item ≥ 3 := by omega
    go_enter Tryz.func6, Tryz.ntmps6
    go_wp2_with fail
    refine HFL.out.mono ?_
    rintro e w1 ⟨rfl, hb1⟩
    simp only []
    go_wp2
    go_ret
    exact ⟨rfl, hb1⟩
  obtain ⟨hargn, hargs, hargu⟩ := hl.out
  have HARGN := hide hargn; have HARGS := hide hargs; have HARGU := hide hargu
  clear hargn hargs hargu hl
  obtain ⟨i, hii⟩ : ∃ i : Nat, item = i := ⟨item.toNat, by omega⟩
  subst hii
  have hi3 : i < 3 := by omega
  have c1 : ¬ (n : Int) > 60 := by omega
  have c2 : ¬ (i : Int) < 0 := by omega
  have c3 : ¬ (i : Int) ≥ 3 := by omega
  clear hi0 hi2
  go_enter Tryz.func6, Tryz.ntmps6
  go_wp2_with fail
  refine HFL.out.mono ?_
  rintro e w1 ⟨rfl, hb1⟩
  have HB1 := hide hb1; have HE1 := hide (he.out.below hb1)
  obtain ⟨w2, hw2⟩ : ∃ w2, w1.alloc (.cells #[.int .i64 50, .int .i64 1] 31) = w2 := ⟨_, rfl⟩
  have hb2 : Below w1.heap.size w1 w2 := by rw [← hw2]; exact (Below.refl _ _).alloc (Nat.le_refl _) _
  have HRU2 : Hid (w2.heap[w1.heap.size]? = some (.cells #[.int .i64 50, .int .i64 1] 31 (0, 0))) := by show _ = _; rw [← hw2]; exact heap_alloc_new _ _
  have HB2 := hide hb2; have HE2 := hide (HE1.out.below hb2); have HW2 := hide hw2
  have HN := hide (new_ok 50 1 100 20000 100 w2 HE2.out (by show _ = _; kernel_rfl) (by show _ = _; kernel_rfl) fits21)
  unfold bandV at HN
  clear hb1 hb2 hw2 HFL
  simp only []
  go_wp2_with fail
  rw [HW2.out]
  obtain ⟨Ru, hRu⟩ : ∃ Ru, w1.heap.size = Ru := ⟨_, rfl⟩
  rw [hRu] at HRU2
  rw [hRu]
  have HRe := hide hRu
  clear hRu HW2
  refine HN.out.mono ?_
  rintro e w3 ⟨F, P, I, b, rfl, hf3⟩
  have HF3 := hide hf3
  have HRU3 : Hid (w3.heap[Ru]? = some (.cells #[.int .i64 50, .int .i64 1] 31 (0, 0))) := by show _ = _; rw [hf3.bl.block _ (lt_of_block HRU2.out)]; exact HRU2.out
  have HE3 := hide (HE2.out.below hf3.bl)
  have HN2 := hide (new_ok 50 1 100 20000 100 w3 HE3.out (by show _ = _; kernel_rfl) (by show _ = _; kernel_rfl) fits21)
  unfold bandV at HN2
  have u0 : w3.cell? ⟨Ru, 0, none⟩ = some (.int .i64 50) := by rw [cell_of_row w3 _ 0 _ _ _ HRU3.out]; rfl
  have u1 : w3.cell? ⟨Ru, 1, none⟩ = some (.int .i64 1) := by rw [cell_of_row w3 _ 1 _ _ _ HRU3.out]; rfl
  clear hf3 HN HRU2
  simp only []
  go_wp2_with fail
  refine HN2.out.mono ?_
  rintro e w4 ⟨G, Q, J, c, rfl, hg4⟩
  have HS4 : Hid (Alike w2 w4 F P I b G Q J c 50 1) := ⟨_, _, _, _, _, ⟨HF3.out.later hg4.bl, hg4.rebase HF3.out.bl, fun k h1 h2 => by
    have l1 := (HF3.out.lows h1).1
    have l2 := (hg4.lows h2).2
    omega⟩, Fl.new_all (by kernel_rfl) (by kernel_rfl) fits21⟩
  clear hg4 HN2 HF3 HRU3 u0 u1
  simp only []
  go_wp2_with fail
  go_loopw [13, 14] (fun rn cc wr => ∃ (k q : Nat), k ≤ n ∧ cc = .int .i64 k ∧ rn = .int .i64 q ∧ q ≤ k ∧ Alike w2 wr F P I b G Q J c 50 1) (fun _ cc _ => n - (intOf cc).toNat)
  case atStart => exact ⟨0, 0, Nat.zero_le _, rfl, rfl, Nat.le_refl _, HS4.out⟩
  case round =>
    obtain ⟨k, q, hk, rfl, rfl, hq, hf⟩ := hrel
    obtain ⟨v, u, L, pf, nb, hT, hall⟩ := hf
    have HT := hide hT; have HALL := hide hall
    have HBL : Hid (Below w1.heap.size w1 wr) := HB2.out.trans (hT.f.bl.mono HB2.out.size)
    clear hT hall HS4
    by_cases hlt : k < n
    · have hki : (k : Int) < n := by omega
      obtain ⟨g, rfl, hlg⟩ : ∃ g, a = some g ∧ DosAt w g l := by
        rcases HARGS.out with h | h
        · omega
        · exact h
      have hu := HARGU.out k hlt
      obtain ⟨k0, k1, k2, k3, k4, k5, k6, k7, k8, k9, k10, k11⟩ := (hlg.later (HB1.out.trans ((HBL.out).mono HB1.out.size))) k (by rw [HARGN.out]; exact hlt)
      have HO := hide (hlg k (by rw [HARGN.out]; exact hlt))
      clear hlg
      generalize dnth l k = A at *
      obtain ⟨kd, ⟨ak, ac, asq, ait, asd, apr, aq, aid⟩, dc, dit, dsd⟩ := A
      simp only [] at k0 k1 k2 k3 k4 k5 k6 k7 k8 k9 k10 k11 hu
      have HU := hide hu
      clear hu
      obtain ⟨wa, hwa⟩ : ∃ wa, wr.alloc (.cells #[.string kd, .int .u8 ak, .int .i64 ac, .int .i64 asq, .int .i64 ait, .int .i64 asd, .int .i64 apr, .int .i64 aq, .int .i64 aid, .int .i64 dc, .int .i64 dit, .int .u32 dsd] 36) = wa := ⟨_, rfl⟩
      obtain ⟨A, hA⟩ : ∃ A, wr.heap.size = A := ⟨_, rfl⟩
      have hba : Below wr.heap.size wr wa := by rw [← hwa]; exact (Below.refl _ _).alloc (Nat.le_refl _) _
      have HAa : Hid (wa.heap[A]? = some (.cells #[.string kd, .int .u8 ak, .int .i64 ac, .int .i64 asq, .int .i64 ait, .int .i64 asd, .int .i64 apr, .int .i64 aq, .int .i64 aid, .int .i64 dc, .int .i64 dit, .int .u32 dsd] 36 (0, 0))) := by show _ = _; rw [← hwa, ← hA]; exact heap_alloc_new _ _
      have HTa := hide (HT.out.later hba)
      have HWA := hide hwa; have HAe := hide hA
      clear hba hwa hA HT HBL HO
      have dcell : ∀ (W : World), W.heap[A]? = some (.cells #[.string kd, .int .u8 ak, .int .i64 ac, .int .i64 asq, .int .i64 ait, .int .i64 asd, .int .i64 apr, .int .i64 aq, .int .i64 aid, .int .i64 dc, .int .i64 dit, .int .u32 dsd] 36 (0, 0)) → (W.cell? ⟨A, 0, none⟩ = some (.string kd) ∧ W.cell? ⟨A, 1, none⟩ = some (.int .u8 ak) ∧ W.cell? ⟨A, 2, none⟩ = some (.int .i64 ac) ∧ W.cell? ⟨A, 3, none⟩ = some (.int .i64 asq) ∧ W.cell? ⟨A, 4, none⟩ = some (.int .i64 ait) ∧ W.cell? ⟨A, 5, none⟩ = some (.int .i64 asd) ∧ W.cell? ⟨A, 6, none⟩ = some (.int .i64 apr) ∧ W.cell? ⟨A, 7, none⟩ = some (.int .i64 aq) ∧ W.cell? ⟨A, 8, none⟩ = some (.int .i64 aid) ∧ W.cell? ⟨A, 10, none⟩ = some (.int .i64 dit) ∧ W.cell? ⟨A, 11, none⟩ = some (.int .u32 dsd))   := fun W hW => by
        refine ⟨?_, ?_, ?_, ?_, ?_, ?_, ?_, ?_, ?_, ?_, ?_⟩
        · rw [cell_of_row W _ 0 _ _ _ hW]; rfl
        · rw [cell_of_row W _ 1 _ _ _ hW]; rfl
        · rw [cell_of_row W _ 2 _ _ _ hW]; rfl
        · rw [cell_of_row W _ 3 _ _ _ hW]; rfl
        · rw [cell_of_row W _ 4 _ _ _ hW]; rfl
        · rw [cell_of_row W _ 5 _ _ _ hW]; rfl
        · rw [cell_of_row W _ 6 _ _ _ hW]; rfl
        · rw [cell_of_row W _ 7 _ _ _ hW]; rfl
        · rw [cell_of_row W _ 8 _ _ _ hW]; rfl
        · rw [cell_of_row W _ 10 _ _ _ hW]; rfl
        · rw [cell_of_row W _ 11 _ _ _ hW]; rfl
      have HDC := hide dcell
      clear dcell
      cases hkp : (kd.toList == [112, 108, 97, 99, 101]) with
      | true =>
        have HP := hide (place_any ⟨ak, ac, asq, ait, asd, apr, aq, aid⟩ HTa.out.f HE2.out HALL.out.ok)
        unfold askV askA at HP
        simp only [] at HP
        obtain ⟨er, her⟩ : ∃ er, errE ev (Fl.placeC L pf ⟨ak, ac, asq, ait, asd, apr, aq, aid⟩) = er := ⟨_, rfl⟩
        have her2 : er = .nilIface ∨ ∃ y, er = .iface 252 y := by rw [← her]; exact errE_or _ _
        rw [her] at HP
        have HER := hide her
        clear her
        rcases her2 with rfl | ⟨y, rfl⟩
        all_goals
          go_wp2_with fail
          rw [HWA.out, HAe.out]
          refine HP.out.mono ?_
          rintro e wb ⟨rfl, vb, hfb, hsb⟩
          have HTb := hide (HTa.out.act hfb hsb)
          have HAb : Hid (wb.heap[A]? = some (.cells #[.string kd, .int .u8 ak, .int .i64 ac, .int .i64 asq, .int .i64 ait, .int .i64 asd, .int .i64 apr, .int .i64 aq, .int .i64 aid, .int .i64 dc, .int .i64 dit, .int .u32 dsd] 36 (0, 0))) := hsb.other HTa.out.f HAa.out (by decide) (by decide) (by decide) (by decide)
          clear hfb hsb HP HTa HAa
          obtain ⟨e0, e1, e2, e3, e4, e5, e6, e7, e8, e10, e11⟩ := HDC.out _ HAb.out
          have HP2 := hide (place_any ⟨ak, ac, asq, ait, asd, apr, aq, aid⟩ HTb.out.g HE2.out HALL.out.ok)
          unfold askV askA at HP2
          simp only [] at HP2
          rw [HER.out] at HP2
          simp only []
          go_wp2_with fail
          refine HP2.out.mono ?_
          rintro e wc ⟨rfl, vc, hfc, hsc⟩
          have HTc := hide (HTb.out.symm.act hfc hsc).symm
          clear hfc hsc HP2 HTb HAb e0 e1 e2 e3 e4 e5 e6 e7 e8 e10 e11
          simp only []
          go_wp2_with fail
          go_quiet (fail)
          have HTd := hide (HTc.out.later (blw_drew nq))
          clear HTc
          generalize wc.drewN nq = wd' at *
          go_wp2
          exact ⟨⟨k + 1, q, by omega, by go_num, rfl, by omega, ⟨_, _, _, _, _, HTd.out, HALL.out.ok.place _, HALL.out.band, HALL.out.rule⟩⟩, by simp [intOf]; omega⟩
      | false =>
        cases hkc : (kd.toList == [99, 97, 110, 99, 101, 108]) with
        | true =>
          have HP := hide (fcancel_any ⟨ak, ac, asq, ait, asd, apr, aq, aid⟩ HTa.out.f HE2.out HALL.out.ok)
          unfold askV askA at HP
          simp only [] at HP
          obtain ⟨er, her⟩ : ∃ er, errE ev (Fl.canC L pf ⟨ak, ac, asq, ait, asd, apr, aq, aid⟩) = er := ⟨_, rfl⟩
          obtain ⟨⟨x0, x1, x2, x3, x4⟩, hX⟩ : ∃ X, Fl.canX L ⟨ak, ac, asq, ait, asd, apr, aq, aid⟩ = X := ⟨_, rfl⟩
          rw [her, hX] at HP
          unfold lotV at HP
          simp only [] at HP
          have HER := hide her; have HX := hide hX
          clear her hX
          go_wp2_with fail
          rw [HWA.out, HAe.out]
          refine HP.out.mono ?_
          rintro e wb ⟨rfl, vb, hfb, hsb⟩
          have HTb := hide (HTa.out.act hfb hsb)
          have HAb : Hid (wb.heap[A]? = some (.cells #[.string kd, .int .u8 ak, .int .i64 ac, .int .i64 asq, .int .i64 ait, .int .i64 asd, .int .i64 apr, .int .i64 aq, .int .i64 aid, .int .i64 dc, .int .i64 dit, .int .u32 dsd] 36 (0, 0))) := hsb.other HTa.out.f HAa.out (by decide) (by decide) (by decide) (by decide)
          clear hfb hsb HP HTa HAa
          obtain ⟨wx, hwx⟩ : ∃ wx, wb.alloc (.cells #[.int .i64 x0, .int .i64 x1, .int .i64 x2, .int .i64 x3, .int .i64 x4] 56) = wx := ⟨_, rfl⟩
          obtain ⟨B, hB⟩ : ∃ B, wb.heap.size = B := ⟨_, rfl⟩
          have hbx : Below wb.heap.size wb wx := by rw [← hwx]; exact (Below.refl _ _).alloc (Nat.le_refl _) _
          have HBx : Hid (wx.heap[B]? = some (.cells #[.int .i64 x0, .int .i64 x1, .int .i64 x2, .int .i64 x3, .int .i64 x4] 56 (0, 0))) := by show _ = _; rw [← hwx, ← hB]; exact heap_alloc_new _ _
          have HTx := hide (HTb.out.later hbx)
          have HAx : Hid (wx.heap[A]? = some (.cells #[.string kd, .int .u8 ak, .int .i64 ac, .int .i64 asq, .int .i64 ait, .int .i64 asd, .int .i64 apr, .int .i64 aq, .int .i64 aid, .int .i64 dc, .int .i64 dit, .int .u32 dsd] 36 (0, 0))) := by show _ = _; rw [hbx.block _ (lt_of_block HAb.out)]; exact HAb.out
          have HFR := hide (HTb.out.g.fresh (q := B) (by omega))
          have HWX := hide hwx; have HBe := hide hB
          obtain ⟨e0, e1, e2, e3, e4, e5, e6, e7, e8, e10, e11⟩ := HDC.out _ HAb.out
          have hAl : A < wb.heap.size := lt_of_block HAb.out
          have hAn : ¬ A = wb.heap.size := by omega
          clear hbx hwx hB HTb HAb
          have HP2 := hide (fcancel_any ⟨ak, ac, asq, ait, asd, apr, aq, aid⟩ HTx.out.g HE2.out HALL.out.ok)
          unfold askV askA at HP2
          simp only [] at HP2
          rw [HER.out, HX.out] at HP2
          unfold lotV at HP2
          simp only [] at HP2
          simp only []
          go_wp2_with fail
          rw [HWX.out, HBe.out]
          refine HP2.out.mono ?_
          rintro e wc ⟨rfl, vc, hfc, hsc⟩
          have HTc := hide (HTx.out.symm.act hfc hsc).symm
          have HBc : Hid (wc.heap[B]? = some (.cells #[.int .i64 x0, .int .i64 x1, .int .i64 x2, .int .i64 x3, .int .i64 x4] 56 (0, 0))) := by show _ = _; rw [hsc.keep B (lt_of_block HBx.out) HFR.out.2.1 HFR.out.2.2]; exact HBx.out
          clear hfc hsc HP2 HTx HAx HBx e0 e1 e2 e3 e4 e5 e6 e7 e8 e10 e11 hAl hAn
          have b0 : wc.cell? ⟨B, 0, none⟩ = some (.int .i64 x0) := by rw [cell_of_row wc _ 0 _ _ _ HBc.out]; rfl
          have b1 : wc.cell? ⟨B, 1, none⟩ = some (.int .i64 x1) := by rw [cell_of_row wc _ 1 _ _ _ HBc.out]; rfl
          have b2 : wc.cell? ⟨B, 2, none⟩ = some (.int .i64 x2) := by rw [cell_of_row wc _ 2 _ _ _ HBc.out]; rfl
          have b3 : wc.cell? ⟨B, 3, none⟩ = some (.int .i64 x3) := by rw [cell_of_row wc _ 3 _ _ _ HBc.out]; rfl
          have b4 : wc.cell? ⟨B, 4, none⟩ = some (.int .i64 x4) := by rw [cell_of_row wc _ 4 _ _ _ HBc.out]; rfl
          have hBl : B < wc.heap.size := lt_of_block HBc.out
          have hBn : ¬ B = wc.heap.size := by omega
          have HTd := hide (HTc.out.later ((Below.refl _ _).alloc (Nat.le_refl _) (.cells #[.int .i64 x0, .int .i64 x1, .int .i64 x2, .int .i64 x3, .int .i64 x4] 56)))
          have n56 := @neq56
          simp only []
          go_wp2
          exact ⟨⟨k + 1, q, by omega, by go_num, rfl, by omega, ⟨_, _, _, _, _, HTd.out, HALL.out.ok.cancel _, HALL.out.band, HALL.out.rule⟩⟩, by simp [intOf]; omega⟩
        | false =>
          cases hkr : (kd.toList == [114, 117, 110]) with
          | true =>
            by_cases hq8 : q + 1 < 8
            · have hq8' : (q : Int) + 1 < 8 := by omega
              obtain ⟨p, vol, o, FF, L', pf', n', hrt, hlen⟩ := run_to ev dit dsd HU.out HALL.out
              have HRT := hide hrt
              obtain ⟨mF, hmF⟩ : ∃ mF, FF.length = mF := ⟨_, rfl⟩
              have HMF := hide hmF
              clear hrt hmF
              have HP := hide (HRT.out _ _ _ _ _ _ _ HTa.out.f HE2.out)
              unfold resV at HP
              go_wp2_with fail
              rw [HWA.out, HAe.out]
              refine HP.out.mono ?_
              rintro e wb ⟨vF, vb, er, rfl, hfb, hsb, hrb, hallb⟩
              have HALL2 := hide hallb
              clear hallb
              obtain ⟨aF, cF, hvF⟩ := hrb.val
              rw [HMF.out] at hvF
              subst hvF
              have HTb := hide (HTa.out.act hfb hsb)
              have HAb : Hid (wb.heap[A]? = some (.cells #[.string kd, .int .u8 ak, .int .i64 ac, .int .i64 asq, .int .i64 ait, .int .i64 asd, .int .i64 apr, .int .i64 aq, .int .i64 aid, .int .i64 dc, .int .i64 dit, .int .u32 dsd] 36 (0, 0))) := hsb.other HTa.out.f HAa.out (by decide) (by decide) (by decide) (by decide)
              have HRb := hide hrb
              clear hfb hsb hrb HP HTa HAa
              obtain ⟨wx, hwx⟩ : ∃ wx, wb.alloc (.cells #[.int .i64 p, .int .i64 vol, .bool o, .slice aF mF cF] 50) = wx := ⟨_, rfl⟩
              obtain ⟨B, hB⟩ : ∃ B, wb.heap.size = B := ⟨_, rfl⟩
              have hbx : Below wb.heap.size wb wx := by rw [← hwx]; exact (Below.refl _ _).alloc (Nat.le_refl _) _
              have HBx : Hid (wx.heap[B]? = some (.cells #[.int .i64 p, .int .i64 vol, .bool o, .slice aF mF cF] 50 (0, 0))) := by show _ = _; rw [← hwx, ← hB]; exact heap_alloc_new _ _
              have HTx := hide (HTb.out.later hbx)
              have HRx := hide (HRb.out.later hbx)
              have HWX := hide hwx; have HBe := hide hB
              obtain ⟨e0, e1, e2, e3, e4, e5, e6, e7, e8, e10, e11⟩ := HDC.out _ HAb.out
              have hAl : A < wb.heap.size := lt_of_block HAb.out
              have hAn : ¬ A = wb.heap.size := by omega
              clear hbx hwx hB HTb HAb HRb
              have HP2 := hide (HRT.out _ _ _ _ _ _ _ HTx.out.g HE2.out)
              unfold resV at HP2
              simp only []
              go_wp2_with fail
              rw [HWX.out, HBe.out]
              refine HP2.out.mono ?_
              rintro e wc ⟨vG, vc, er2, rfl, hfc, hsc, hrc, _⟩
              obtain ⟨aG, cG, hvG⟩ := hrc.val
              rw [HMF.out] at hvG
              subst hvG
              have HTc := hide (HTx.out.symm.act hfc hsc).symm
              have HBc : Hid (wc.heap[B]? = some (.cells #[.int .i64 p, .int .i64 vol, .bool o, .slice aF mF cF] 50 (0, 0))) := hsc.other HTx.out.g HBx.out (by decide) (by decide) (by decide) (by decide)
              have HRc := hide (HRx.out.step HTx.out.g hsc)
              have HGc := hide hrc
              clear hfc hsc hrc HP2 HTx HBx HRx e0 e1 e2 e3 e4 e5 e6 e7 e8 e10 e11 hAl hAn HRT
              have b0 : wc.cell? ⟨B, 0, none⟩ = some (.int .i64 p) := by rw [cell_of_row wc _ 0 _ _ _ HBc.out]; rfl
              have b1 : wc.cell? ⟨B, 1, none⟩ = some (.int .i64 vol) := by rw [cell_of_row wc _ 1 _ _ _ HBc.out]; rfl
              have b3 : wc.cell? ⟨B, 3, none⟩ = some (.slice aF mF cF) := by rw [cell_of_row wc _ 3 _ _ _ HBc.out]; rfl
              have hBl : B < wc.heap.size := lt_of_block HBc.out
              have hBn : ¬ B = wc.heap.size := by omega
              obtain ⟨wy, hwy⟩ : ∃ wy, wc.alloc (.cells #[.int .i64 p, .int .i64 vol, .bool o, .slice aG mF cG] 50) = wy := ⟨_, rfl⟩
              have hby : Below wc.heap.size wc wy := by rw [← hwy]; exact (Below.refl _ _).alloc (Nat.le_refl _) _
              have HTy := hide (HTc.out.later hby)
              have HSF := hide (sameFills_any _ _ FF wy (HRc.out.later hby).fls (HGc.out.later hby).fls (by omega))
              have HWY := hide hwy
              clear hby hwy HTc HBc HRc HGc
              have hpp : (p != p) = false := by simp
              have hvv : (vol != vol) = false := by simp
              simp only []
              go_wp2_with fail
              rw [HWY.out]
              refine HSF.out.mono ?_
              rintro e wz ⟨rfl, hwz⟩
              have HTz := hide (HTy.out.later hwz)
              clear hwz HSF HTy
              simp only []
              go_wp2
              exact ⟨⟨k + 1, q + 1, by omega, by go_num, by go_num, by omega, ⟨_, _, _, _, _, HTz.out, HALL2.out⟩⟩, by simp [intOf]; omega⟩
            · have hq8' : ¬ (q : Int) + 1 < 8 := by omega
              go_wp2
              rw [HWA.out]
              exact ⟨⟨k + 1, q + 1, by omega, by go_num, by go_num, by omega, ⟨_, _, _, _, _, HTa.out, HALL.out⟩⟩, by simp [intOf]; omega⟩
          | false =>
            go_wp2
            rw [HWA.out]
            exact ⟨⟨k + 1, q, by omega, by go_num, rfl, by omega, ⟨_, _, _, _, _, HTa.out, HALL.out⟩⟩, by simp [intOf]; omega⟩
    · have hki : ¬ (k : Int) < n := by omega
      obtain ⟨p, vol, hwon⟩ := won_exists (HALL.out.ok.bk i hi3).oks (nb (i * 2)) 1000
      have hrun := run_any i hi3 s p vol hs.out HT.out.f HE2.out HALL.out hwon
      have hnc : Fl.runO nb i 50 p vol = true → Cv.cross (Fl.runL L i (Fl.runF s (L i) (Fl.runO nb i 50 p vol) p vol) i) = false := fun ho => by
        unfold Fl.runL
        rw [upd_same]
        by_cases hv : 0 < vol
        · have e : Fl.runF s (L i) (Fl.runO nb i 50 p vol) p vol = Ra.fills s (L i) p vol := by unfold Fl.runF; rw [if_pos ⟨ho, hv⟩]
          rw [e]
          exact Fs.no_cross (good_well (HALL.out.ok.bk i hi3)) hwon hv s
        · have e : Fl.runF s (L i) (Fl.runO nb i 50 p vol) p vol = [] := by unfold Fl.runF; rw [if_neg (fun h => hv h.2)]
          rw [e, Fs.rest_nil (HALL.out.ok.bk i hi3).oks, hwon.cross (HALL.out.ok.bk i hi3).oks]
          simpa using hv
      generalize Fl.runO nb i 50 p vol = o at *
      generalize Fl.runF s (L i) o p vol = FF at *
      have HNC := hide hnc
      have HRUN := hide hrun
      unfold resV at HRUN
      clear hnc hrun hwon HBL
      go_wp2_with fail
      refine HRUN.out.mono ?_
      rintro e wb ⟨vF, vb, rfl, hfb, _, hrb, hallb⟩
      obtain ⟨aF, cF, hvF⟩ := hrb.val
      obtain ⟨mF, hmF⟩ : ∃ mF, FF.length = mF := ⟨_, rfl⟩
      rw [hmF] at hvF
      subst hvF
      obtain ⟨wx, hwx⟩ : ∃ wx, wb.alloc (.cells #[.int .i64 p, .int .i64 vol, .bool o, .slice aF mF cF] 50) = wx := ⟨_, rfl⟩
      obtain ⟨B, hB⟩ : ∃ B, wb.heap.size = B := ⟨_, rfl⟩
      have hbx : Below wb.heap.size wb wx := by rw [← hwx]; exact (Below.refl _ _).alloc (Nat.le_refl _) _
      have HBx : Hid (wx.heap[B]? = some (.cells #[.int .i64 p, .int .i64 vol, .bool o, .slice aF mF cF] 50 (0, 0))) := by show _ = _; rw [← hwx, ← hB]; exact heap_alloc_new _ _
      have HFx := hide (hfb.later hbx)
      have HALLb := hide hallb
      have HWX := hide hwx; have HBe := hide hB
      clear hbx hwx hB hfb hrb hallb hmF HRUN HT
      generalize Fl.runL L i FF = L2 at *
      have HBI := hide (book_in i hi3 HFx.out)
      have HLT := hide (lots_any (b i) w2.heap.size (vb i) (L2 i) wx (HFx.out.bk i hi3) (HALLb.out.ok.bk i hi3).len)
      simp only []
      go_wp2_with fail
      rw [HWX.out, HBe.out]
      refine HBI.out.mono ?_
      rintro e wx ⟨rfl, rfl⟩
      simp only []
      go_wp2_with fail
      refine HLT.out.mono ?_
      rintro e wy ⟨vy, rfl, hrowy, hby⟩
      have HFy := hide (HFx.out.later hby)
      have HBy : Hid (wy.heap[B]? = some (.cells #[.int .i64 p, .int .i64 vol, .bool o, .slice aF mF cF] 50 (0, 0))) := by show _ = _; rw [hby.block _ (lt_of_block HBx.out)]; exact HBx.out
      have HXR := hide (cross_any vy (L2 i) 252 (ev 1) (ev 6) (ev 7) wy (lots_row hrowy) (HFy.out.er HE2.out).er (good_well (HALLb.out.ok.bk i hi3)))
      obtain ⟨la, ln, lc, hvl⟩ := (lots_row hrowy).form
      subst hvl
      clear hrowy hby HBI HLT HFx HBx HWX HBe
      simp only []
      go_wp2_with fail
      refine HXR.out.mono ?_
      rintro e wz ⟨rfl, hbz⟩
      have HFz := hide (HFy.out.later hbz)
      have HBz : Hid (wz.heap[B]? = some (.cells #[.int .i64 p, .int .i64 vol, .bool o, .slice aF mF cF] 50 (0, 0))) := by show _ = _; rw [hbz.block _ (lt_of_block HBy.out)]; exact HBy.out
      have z2 : wz.cell? ⟨B, 2, none⟩ = some (.bool o) := by rw [cell_of_row wz _ 2 _ _ _ HBz.out]; rfl
      clear hbz HXR HFy HBy
      have HBW : Hid (Below w.heap.size w wz) := HB1.out.trans ((HB2.out.trans (HFz.out.bl.mono HB2.out.size)).mono HB1.out.size)
      cases o with
      | false =>
        simp only []
        go_wp2
        go_ret
        exact ⟨rfl, HBW.out⟩
      | true =>
        rw [HNC.out rfl]
        simp only []
        go_wp2
        go_ret
        exact ⟨rfl, HBW.out⟩
end
end Go.Proofs.YtdggddjgipgllaaGreatDoor
