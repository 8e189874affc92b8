/- The law BatchHolds, for all acts. -/
import Derived.Test.YtdggddjgipgllaaGreatDoorU25
import Derived.Test.YtdggddjgipgllaaGreatDoorU24
import Derived.Test.YtdggddjgipgllaaGreatDoorU14
import Derived.Test.YtdggddjgipgllaaGreatDoorU13
namespace Go.Proofs.YtdggddjgipgllaaGreatDoor
open Go.RowKit
set_option maxRecDepth 100000
theorem fits22 : Fl.Fits 20000 100 := ⟨by decide, by decide, by decide, by decide⟩
theorem cells2_any (p q : Addr) (u v : Value) : ∃ (X : Type) (val : X → World), (∀ x, (val x).cell? p = some u ∧ (val x).cell? q = some v) ∧ ∀ W : World, W.cell? p = some u ∧ W.cell? q = some v → ∃ x, val x = W :=
  ⟨{ W : World // W.cell? p = some u ∧ W.cell? q = some v }, fun x => x.1, fun x => x.2, fun W h => ⟨⟨W, h⟩, rfl⟩⟩
theorem info66 : (Tryz.prog.info? 66).map (fun i => (i.zero, i.size)) = some (some (.agg (Array.replicate 48 (.int .i64 0))), 48) := by kernel_rfl
theorem zero66 (w : World) : (zeroValue 66).run Tryz.prog w = .ok (.agg (p_row fun _ => 0)) w := by rw [p_row_zero]; exact (zero_of_info info66).1 w
theorem neq41 (a b c : Int) (w : World) : (binOp .neq 41 (.agg #[.int .i64 a, .int .i64 b, .int .i64 c]) (.agg #[.int .i64 a, .int .i64 b, .int .i64 c])).run Tryz.prog w = .ok (.bool false) w := by
  rw [run_neq_struct, eq27 9998]
  simp
section
variable {w W : World} {F P : Nat} {I b : Nat → Nat} {v : Nat → Value} {L : Nat → List Cv.Lot} {pf n : Nat → Int} {wd h : Int} {ev : Nat → Value}
theorem drop_some (c : Int) (H : FSome w W F P I b wd h) (he : AEr w ev) : Calls Tryz.prog 21 #[.pointer (some ⟨F, 0, none⟩), .int .i64 c] W fun e W' => ErrAns e ∧ FSome w W' F P I b wd h := by
  obtain ⟨v, L, pf, n, h1, h2⟩ := H
  refine (drop_any c h1 he h2.ok).mono ?_
  rintro e W' ⟨u, v', rfl, _, h3, _, h4⟩
  exact ⟨⟨_, rfl⟩, v', _, _, n, h3, h4, h2.band, h2.rule⟩
end
section
variable {ev : Nat → Value}
set_option maxHeartbeats 1000000 in
theorem batchHolds_any (a : Option Addr) (n cap : Nat) (l : List DAct) (w : World) (he : Hid (AEr w ev)) (hl : Hid (ArgDos w a n l)) :
    Calls Tryz.prog 4 #[.slice a n cap] w fun e w' => e = .returned (.bool true) ∧ Below w.heap.size w w' := by
  have HFL := hide (floored_any w he)
  by_cases hn : n ≤ 60
  case neg =>
    have c1 : (n : Int) > 60 := by omega
    go_enter Tryz.func4, Tryz.ntmps4
    go_wp2_with fail
    refine HFL.out.mono ?_
    rintro e w1 ⟨rfl, hb1⟩
    simp only []
    go_wp2
    go_ret
    exact ⟨rfl, hb1⟩
  obtain ⟨hargn, hargs, hargu⟩ := hl.out
  have HARGN := hide hargn; have HARGS := hide hargs; have HARGU := hide hargu
  clear hargn hargs hargu hl
  have c1 : ¬ (n : Int) > 60 := by omega
  go_enter Tryz.func4, Tryz.ntmps4
  go_wp2_with fail
  refine HFL.out.mono ?_
  rintro e w1 ⟨rfl, hb1⟩
  have HB1 := hide hb1; have HE1 := hide (he.out.below hb1)
  have HN := hide (new_ok 20 2 100 20000 100 w1 HE1.out (by show _ = _; kernel_rfl) (by show _ = _; kernel_rfl) fits22)
  unfold bandV at HN
  clear hb1 HFL
  simp only []
  go_wp2_with fail
  refine HN.out.mono ?_
  rintro e w2 ⟨F, P, I, b, rfl, hf2⟩
  have HS2 : Hid (FSome w1 w2 F P I b 20 2) := ⟨_, _, _, _, hf2, Fl.new_all (by kernel_rfl) (by kernel_rfl) fits22⟩
  clear hf2 HN
  simp only []
  go_wp2_with fail
  go_loopw [6, 7] (fun rn c wr => ∃ (k q : Nat), k ≤ n ∧ c = .int .i64 k ∧ rn = .int .i64 q ∧ q ≤ k ∧ FSome w1 wr F P I b 20 2) (fun _ c _ => n - (intOf c).toNat)
  case atStart => exact ⟨0, 0, Nat.zero_le _, rfl, rfl, Nat.le_refl _, HS2.out⟩
  case round =>
    obtain ⟨k, q, hk, rfl, rfl, hq, hf⟩ := hrel
    have HF := hide hf
    clear hf HS2
    by_cases hlt : k < n
    · have hki : (k : Int) < n := by omega
      obtain ⟨g, rfl, hlg⟩ : ∃ g, a = some g ∧ DosAt w g l := by
        rcases HARGS.out with h | h
        · omega
        · exact h
      have hu := HARGU.out k hlt
      obtain ⟨k0, k1, k2, k3, k4, k5, k6, k7, k8, k9, k10, k11⟩ := (hlg.later (HB1.out.trans (HF.out.bl.mono HB1.out.size))) k (by rw [HARGN.out]; exact hlt)
      have HO := hide (hlg k (by rw [HARGN.out]; exact hlt))
      clear hlg
      generalize dnth l k = A at *
      obtain ⟨kd, ⟨ak, ac, asq, ait, asd, apr, aq, aid⟩, dc, dit, dsd⟩ := A
      simp only [] at k0 k1 k2 k3 k4 k5 k6 k7 k8 k9 k10 k11 hu
      have HU := hide hu
      clear hu
      cases hkp : (kd.toList == [112, 108, 97, 99, 101]) with
      | true =>
        have HP := hide (place_some ⟨ak, ac, asq, ait, asd, apr, aq, aid⟩ HF.out HE1.out)
        unfold askV askA at HP
        simp only [] at HP
        go_wp2_with fail
        refine HP.out.mono ?_
        rintro e w3 ⟨⟨er, rfl⟩, hf3⟩
        have HF3 := hide hf3
        clear hf3 HP
        simp only []
        go_wp2
        exact ⟨⟨k + 1, q, by omega, by go_num, rfl, by omega, HF3.out⟩, by simp [intOf]; omega⟩
      | false =>
        cases hkc : (kd.toList == [99, 97, 110, 99, 101, 108]) with
        | true =>
          have HP := hide (cancel_some ⟨ak, ac, asq, ait, asd, apr, aq, aid⟩ HF.out HE1.out)
          unfold askV askA at HP
          simp only [] at HP
          go_wp2_with fail
          refine HP.out.mono ?_
          rintro e w3 ⟨⟨r, er, rfl⟩, hf3⟩
          have HF3 := hide hf3
          clear hf3 HP
          simp only []
          go_wp2
          exact ⟨⟨k + 1, q, by omega, by go_num, rfl, by omega, HF3.out⟩, by simp [intOf]; omega⟩
        | false =>
          cases hkd : (kd.toList == [100, 114, 111, 112]) with
          | true =>
            have HP := hide (drop_some dc HF.out HE1.out)
            go_wp2_with fail
            refine HP.out.mono ?_
            rintro e w3 ⟨⟨er, rfl⟩, hf3⟩
            have HF3 := hide hf3
            clear hf3 HP
            simp only []
            go_wp2
            exact ⟨⟨k + 1, q, by omega, by go_num, rfl, by omega, HF3.out⟩, by simp [intOf]; omega⟩
          | false =>
            by_cases hq15 : q + 1 ≤ 15
            · have hq15' : ¬ (q : Int) + 1 > 15 := by omega
              go_wp2_with fail
              obtain ⟨XT, val, hcl, hmk⟩ := cells2_any ⟨(g.add (k * 12)).block, (g.add (k * 12)).off + 10, none⟩ ⟨(g.add (k * 12)).block, (g.add (k * 12)).off + 11, none⟩ (.int .i64 dit) (.int .u32 dsd)
              obtain ⟨y0, hy0⟩ := hmk wr.drew ⟨k10, k11⟩
              have hnx : Nonempty XT := ⟨y0⟩
              have e10 : ∀ x, (val x).cell? ⟨(g.add (k * 12)).block, (g.add (k * 12)).off + 10, none⟩ = some (.int .i64 dit) := fun x => (hcl x).1
              have e11 : ∀ x, (val x).cell? ⟨(g.add (k * 12)).block, (g.add (k * 12)).off + 11, none⟩ = some (.int .u32 dsd) := fun x => (hcl x).2
              have HMK : Hid (∀ W', Below w.heap.size w W' → ∃ x, val x = W') := fun W' hb => hmk W' ⟨cell_later hb HO.out.2.2.2.2.2.2.2.2.2.2.1, cell_later hb HO.out.2.2.2.2.2.2.2.2.2.2.2⟩
              have hbd : Below wr.heap.size wr wr.drew := ⟨rfl, rfl, rfl, Nat.le_refl _, fun _ _ => rfl⟩
              have HFq := hide (HF.out.later hbd)
              clear hmk hcl hbd k0 k1 k2 k3 k4 k5 k6 k7 k8 k9 k10 k11 HF
              refine region_plan (val := val) (.read 0 (.read 1 (.read 2 (.read 3 (.read 4 (.read 5 (.read 6 (.read 7 (.read 8 (.read 9 (.read 10 (.one 11 (.read 12 (.read 13 (.read 14 .done))))))))))))))) (by kernel_rfl) (by kernel_rfl) y0 hy0 ?_
              rw [hy0]
              clear hy0
              generalize wr.drew = wq at *
              refine walkP_read rfl (fun K hK => ?_)
              refine ⟨by rfl, ?_⟩
              unfold isRd
              go_simp
              refine hK _ ?_
              clear hK K
              refine walkP_read rfl (fun K hK => ?_)
              refine ⟨by rfl, ?_⟩
              unfold isRd
              go_simp
              refine hK _ ?_
              clear hK K
              refine walkP_read rfl (fun K hK => ?_)
              refine ⟨by rfl, ?_⟩
              unfold isRd
              go_simp
              refine hK _ ?_
              clear hK K
              refine walkP_read rfl (fun K hK => ?_)
              refine ⟨by rfl, ?_⟩
              unfold isRd
              go_simp
              refine hK _ ?_
              clear hK K
              refine walkP_read rfl (fun K hK => ?_)
              refine ⟨by rfl, ?_⟩
              unfold isRd
              go_simp
              refine hK _ ?_
              clear hK K
              refine walkP_read rfl (fun K hK => ?_)
              refine ⟨by rfl, ?_⟩
              unfold isRd
              go_simp
              refine hK _ ?_
              clear hK K
              refine walkP_read rfl (fun K hK => ?_)
              refine ⟨by rfl, ?_⟩
              unfold isRd
              go_simp
              refine hK _ ?_
              clear hK K
              refine walkP_read rfl (fun K hK => ?_)
              refine ⟨by rfl, ?_⟩
              unfold isRd
              go_simp
              refine hK _ ?_
              clear hK K
              refine walkP_read rfl (fun K hK => ?_)
              refine ⟨by rfl, ?_⟩
              unfold isRd
              go_simp
              refine hK _ ?_
              clear hK K
              refine walkP_read rfl (fun K hK => ?_)
              refine ⟨by rfl, ?_⟩
              unfold isRd
              go_simp
              refine hK _ ?_
              clear hK K
              refine walkP_read rfl (fun K hK => ?_)
              refine ⟨by rfl, ?_⟩
              unfold isRd
              go_simp
              refine hK _ ?_
              clear hK K
              refine spec_step rfl (fun K hK => ?_)
              refine ⟨by rfl, ?_⟩
              unfold upM
              go_simp
              refine (run_some dit dsd HU.out HFq.out HE1.out).mono ?_
              rintro e w3 ⟨⟨r, er, rfl⟩, hf3⟩
              have HF3 := hide hf3
              refine ⟨_, rfl, HMK.out _ (HB1.out.trans (HF3.out.bl.mono HB1.out.size)), hK _ _ ?_⟩
              clear hK K hf3 HFq
              refine walkP_read rfl (fun K hK => ?_)
              refine ⟨by rfl, ?_⟩
              unfold isRd
              go_simp
              refine hK _ ?_
              clear hK K
              refine walkP_read rfl (fun K hK => ?_)
              refine ⟨by rfl, ?_⟩
              unfold isRd
              go_simp
              refine hK _ ?_
              clear hK K
              refine walkP_read rfl (fun K hK => ?_)
              refine ⟨by rfl, ?_⟩
              unfold isRd
              go_simp
              refine hK _ ?_
              clear hK K
              refine walkP_done ?_
              clear e10 e11 HMK
              clear y0 hnx
              clear val
              clear XT
              go_wp2
              exact ⟨⟨k + 1, q + 1, by omega, by go_num, by go_num, by omega, HF3.out⟩, by simp [intOf]; omega⟩
            · have hq15' : (q : Int) + 1 > 15 := by omega
              go_wp2
              go_ret
              exact ⟨rfl, HB1.out.trans (HF.out.bl.mono HB1.out.size)⟩
    · have hki : ¬ (k : Int) < n := by omega
      obtain ⟨v, L, pf, nb, hf, hall⟩ := HF.out
      have HF4 := hide hf; have HALL := hide hall
      clear hf hall HF
      obtain ⟨wo, hwo⟩ : ∃ wo, wo = wr := ⟨_, rfl⟩
      subst hwo
      have z66 := zero66
      obtain ⟨WB, hWB⟩ : ∃ WB, wo.heap.size = WB := ⟨_, rfl⟩
      obtain ⟨w5, hw5⟩ : ∃ w5, wo.alloc (.cells (p_row fun _ => 0) 66) = w5 := ⟨_, rfl⟩
      have HB5 : Hid (Below wo.heap.size wo w5) := by show Below _ _ _; rw [← hw5]; exact (Below.refl _ _).alloc (Nat.le_refl _) _
      have HP5 : Hid (Purse w5 66 WB (Fl.wantTo L 0)) := by show Purse _ _ _ _; rw [← hw5, ← hWB]; exact Purse.new wo 66 _
      have HWBlo : Hid (wo.heap.size ≤ WB) := by show _ ≤ _; omega
      have HW5 := hide hw5; have HWBe := hide hWB
      clear hw5 hWB
      go_wp2
      rw [HW5.out, HWBe.out]
      clear HW5 z66
      go_loopw [9] (fun cx wl => ∃ (i : Nat), i ≤ 3 ∧ cx = .int .i64 i ∧ Purse wl 66 WB (Fl.wantTo L i) ∧ Below wo.heap.size wo wl) (fun cx _ => 3 - (intOf cx).toNat)
      case atStart => exact ⟨0, by omega, rfl, HP5.out, HB5.out⟩
      case round =>
        obtain ⟨i, hi, rfl, hp, hb⟩ := hrel
        obtain ⟨wl, hwl⟩ : ∃ wl, wl = wr := ⟨_, rfl⟩
        subst hwl
        have HPi := hide hp; have HLi := hide hb
        clear hp hb HP5 HB5
        by_cases hi3 : i < 3
        · have hki3 : (i : Int) < 3 := by omega
          have HFl := hide (HF4.out.later HLi.out)
          have HBI := hide (book_in i hi3 HFl.out)
          have HLT := hide (lots_any (b i) w1.heap.size (v i) (L i) wl (HFl.out.bk i hi3) (HALL.out.ok.bk i hi3).len)
          go_wp2_with fail
          refine HBI.out.mono ?_
          rintro e wl ⟨rfl, rfl⟩
          simp only []
          go_wp2_with fail
          refine HLT.out.mono ?_
          rintro e w6 ⟨vl, rfl, hrow, hb6⟩
          have HP6 := hide (HPi.out.lat hb6)
          have HL6 := hide (HLi.out.trans (hb6.mono HLi.out.size))
          have HR6 := hide hrow
          clear hrow hb6 HBI HLT HPi HFl
          obtain ⟨la, lc, hvl⟩ : ∃ la lc, vl = .slice la (L i).length lc := by
            rcases lots_row HR6.out with ⟨e, a, c, rfl⟩ | ⟨g, o, c, rfl, _⟩
            · exact ⟨a, c, by rw [e]; rfl⟩
            · exact ⟨_, _, rfl⟩
          subst hvl
          obtain ⟨m, hm⟩ : ∃ m, (L i).length = m := ⟨_, rfl⟩
          rw [hm] at HR6
          rw [hm]
          have hm60 : m ≤ 60 := by rw [← hm]; exact (HALL.out.ok.bk i hi3).len
          have HM := hide hm
          have HZ0 : Hid (Fl.wantAt L i 0 = Fl.wantTo L i) := Fl.want_zero L i
          clear hm
          simp only []
          go_wp2_with fail
          go_loopw [11] (fun cx wk => ∃ (k : Nat), k ≤ m ∧ cx = .int .i64 k ∧ Purse wk 66 WB (Fl.wantAt L i k) ∧ Below wo.heap.size wo wk ∧ wk.ownsRow wl.heap.size 56 5 (.slice la m lc) m (flat (L i))) (fun cx _ => m - (intOf cx).toNat)
          case atStart => exact ⟨0, Nat.zero_le _, rfl, by rw [HZ0.out]; exact HP6.out, HL6.out, HR6.out⟩
          case round =>
            obtain ⟨k, hk, rfl, hp, hb, hr⟩ := hrel
            obtain ⟨wk, hwk⟩ : ∃ wk, wk = wr := ⟨_, rfl⟩
            subst hwk
            have HPk := hide hp; have HLk := hide hb; have HRk := hide hr
            clear hp hb hr HP6 HL6 HR6 HZ0
            by_cases hlt : k < m
            · have hkm : (k : Int) < m := by omega
              have hkl : k < (L i).length := by rw [HM.out]; exact hlt
              obtain ⟨gl, hla⟩ : ∃ gl, la = some ⟨gl, 0, none⟩ := by
                rcases HRk.out.2 with ⟨e, _⟩ | ⟨g, cap, cur, e, _⟩
                · simp at e; omega
                · simp at e; exact ⟨g, e.1⟩
              subst hla
              have hbnd := Cv.ok_bounds ((HALL.out.ok.bk i hi3).oks _ (Cv.nth_mem hkl))
              have hmub := Pu.mu_bounds ((HALL.out.ok.bk i hi3).oks _ (Cv.nth_mem hkl))
              have HSTEP : Hid (∀ j, Fl.wantAt L i (k + 1) j = Pu.add (Fl.wantAt L i k) (Pu.hx i (Cv.nth (L i) k)) (Pu.mu (Cv.nth (L i) k)) j) := fun j => by rw [Fl.want_step L i hkl]
              obtain ⟨⟨x0, x1, x2, x3, x4⟩, hX⟩ : ∃ X, Cv.nth (L i) k = X := ⟨_, rfl⟩
              rw [hX] at hbnd hmub HSTEP
              simp only [] at hbnd
              obtain ⟨cc, hcc⟩ : ∃ cc : Nat, x1 = cc := ⟨x1.toNat, by omega⟩
              subst hcc
              have HXe := hide hX
              have hc6 : cc < 6 := by omega
              have hc0 : (0 : Int) ≤ (cc : Int) := by omega
              have hc6' : (cc : Int) < 6 := by omega
              obtain ⟨c0, c1, c2, c3, c4⟩ := (lots_of_row HRk.out) k hkl
              rw [show 0 + k * 5 = k * 5 by omega] at c0 c1 c2 c3 c4
              rw [hX] at c0 c1 c2 c3 c4
              simp only [] at c0 c1 c2 c3 c4
              clear hX
              obtain ⟨y0, hy0⟩ : ∃ y, Fl.wantAt L i k (cc * 8) = y := ⟨_, rfl⟩
              have p0 : wk.cell? ⟨WB, cc * 8, none⟩ = some (.int .i64 y0) := by rw [HPk.out.cell (i := cc * 8) (by omega), hy0]
              have b0 := Fl.want_bound HALL.out.ok.bk hi3 k (cc * 8)
              rw [hy0] at b0
              have HY0 := hide hy0
              obtain ⟨y1, hy1⟩ : ∃ y, Fl.wantAt L i k (cc * 8 + 1) = y := ⟨_, rfl⟩
              have p1 : wk.cell? ⟨WB, cc * 8 + 1, none⟩ = some (.int .i64 y1) := by rw [HPk.out.cell (i := cc * 8 + 1) (by omega), hy1]
              have b1 := Fl.want_bound HALL.out.ok.bk hi3 k (cc * 8 + 1)
              rw [hy1] at b1
              have HY1 := hide hy1
              obtain ⟨y2, hy2⟩ : ∃ y, Fl.wantAt L i k (cc * 8 + 2) = y := ⟨_, rfl⟩
              have p2 : wk.cell? ⟨WB, cc * 8 + 2, none⟩ = some (.int .i64 y2) := by rw [HPk.out.cell (i := cc * 8 + 2) (by omega), hy2]
              have b2 := Fl.want_bound HALL.out.ok.bk hi3 k (cc * 8 + 2)
              rw [hy2] at b2
              have HY2 := hide hy2
              obtain ⟨y3, hy3⟩ : ∃ y, Fl.wantAt L i k (cc * 8 + 3) = y := ⟨_, rfl⟩
              have p3 : wk.cell? ⟨WB, cc * 8 + 3, none⟩ = some (.int .i64 y3) := by rw [HPk.out.cell (i := cc * 8 + 3) (by omega), hy3]
              have b3 := Fl.want_bound HALL.out.ok.bk hi3 k (cc * 8 + 3)
              rw [hy3] at b3
              have HY3 := hide hy3
              obtain ⟨y4, hy4⟩ : ∃ y, Fl.wantAt L i k (cc * 8 + 4) = y := ⟨_, rfl⟩
              have p4 : wk.cell? ⟨WB, cc * 8 + 4, none⟩ = some (.int .i64 y4) := by rw [HPk.out.cell (i := cc * 8 + 4) (by omega), hy4]
              have b4 := Fl.want_bound HALL.out.ok.bk hi3 k (cc * 8 + 4)
              rw [hy4] at b4
              have HY4 := hide hy4
              obtain ⟨y5, hy5⟩ : ∃ y, Fl.wantAt L i k (cc * 8 + 5) = y := ⟨_, rfl⟩
              have p5 : wk.cell? ⟨WB, cc * 8 + 5, none⟩ = some (.int .i64 y5) := by rw [HPk.out.cell (i := cc * 8 + 5) (by omega), hy5]
              have b5 := Fl.want_bound HALL.out.ok.bk hi3 k (cc * 8 + 5)
              rw [hy5] at b5
              have HY5 := hide hy5
              obtain ⟨y6, hy6⟩ : ∃ y, Fl.wantAt L i k (cc * 8 + 6) = y := ⟨_, rfl⟩
              have p6 : wk.cell? ⟨WB, cc * 8 + 6, none⟩ = some (.int .i64 y6) := by rw [HPk.out.cell (i := cc * 8 + 6) (by omega), hy6]
              have b6 := Fl.want_bound HALL.out.ok.bk hi3 k (cc * 8 + 6)
              rw [hy6] at b6
              have HY6 := hide hy6
              obtain ⟨y7, hy7⟩ : ∃ y, Fl.wantAt L i k (cc * 8 + 7) = y := ⟨_, rfl⟩
              have p7 : wk.cell? ⟨WB, cc * 8 + 7, none⟩ = some (.int .i64 y7) := by rw [HPk.out.cell (i := cc * 8 + 7) (by omega), hy7]
              have b7 := Fl.want_bound HALL.out.ok.bk hi3 k (cc * 8 + 7)
              rw [hy7] at b7
              have HY7 := hide hy7
              clear hy0 hy1 hy2 hy3 hy4 hy5 hy6 hy7
              have hWl : WB < wk.heap.size := HPk.out.lt
              have hWn : ¬ WB = wk.heap.size := by omega
              obtain ⟨wa, hwa⟩ : ∃ wa, wk.alloc (.cells #[.int .i64 y0, .int .i64 y1, .int .i64 y2, .int .i64 y3, .int .i64 y4, .int .i64 y5, .int .i64 y6, .int .i64 y7] 60) = wa := ⟨_, rfl⟩
              obtain ⟨H, hH⟩ : ∃ H, wk.heap.size = H := ⟨_, rfl⟩
              have hba : Below wk.heap.size wk wa := by rw [← hwa]; exact (Below.refl _ _).alloc (Nat.le_refl _) _
              have HHa : Hid (wa.heap[H]? = some (.cells #[.int .i64 y0, .int .i64 y1, .int .i64 y2, .int .i64 y3, .int .i64 y4, .int .i64 y5, .int .i64 y6, .int .i64 y7] 60 (0, 0))) := by show _ = _; rw [← hwa, ← hH]; exact heap_alloc_new _ _
              have HPa := hide (HPk.out.lat hba)
              have HRa := hide (row_later HRk.out hba)
              have HLa := hide (HLk.out.trans (hba.mono HLk.out.size))
              have HHlo : Hid (wo.heap.size ≤ H) := by have := HLk.out.size; show _ ≤ _; omega
              have hgl : gl < wk.heap.size := (HRk.out.lt gl rfl).2
              have hgn : ¬ gl = wk.heap.size := by omega
              have HWA := hide hwa; have HHe := hide hH
              clear hba hwa hH HPk HLk HRk
              have hsd : x2 = 0 ∨ x2 = 1 := by omega
              rcases hsd with e | e
              · subst e
                have HHX : Hid (Pu.hx i ⟨x0, (cc : Int), 0, x3, x4⟩ = cc * 8 + 1) := by show _ = _; unfold Pu.hx; rw [if_pos rfl]; show (cc : Int).toNat * 8 + 1 = _; omega
                have HMU : Hid (Pu.mu ⟨x0, (cc : Int), 0, x3, x4⟩ = x3 * x4) := by show _ = _; unfold Pu.mu; rw [if_pos rfl]
                rw [HMU.out] at hmub
                obtain ⟨m1, m2⟩ := hmub
                go_wp2_with fail
                rw [HWA.out, HHe.out]
                have h0 : wa.cell? ⟨H, 0, none⟩ = some (.int .i64 y0) := by rw [cell_of_row wa _ 0 _ _ _ HHa.out]; rfl
                have h1 : wa.cell? ⟨H, 1, none⟩ = some (.int .i64 y1) := by rw [cell_of_row wa _ 1 _ _ _ HHa.out]; rfl
                have h2 : wa.cell? ⟨H, 2, none⟩ = some (.int .i64 y2) := by rw [cell_of_row wa _ 2 _ _ _ HHa.out]; rfl
                have h3 : wa.cell? ⟨H, 3, none⟩ = some (.int .i64 y3) := by rw [cell_of_row wa _ 3 _ _ _ HHa.out]; rfl
                have h4 : wa.cell? ⟨H, 4, none⟩ = some (.int .i64 y4) := by rw [cell_of_row wa _ 4 _ _ _ HHa.out]; rfl
                have h5 : wa.cell? ⟨H, 5, none⟩ = some (.int .i64 y5) := by rw [cell_of_row wa _ 5 _ _ _ HHa.out]; rfl
                have h6 : wa.cell? ⟨H, 6, none⟩ = some (.int .i64 y6) := by rw [cell_of_row wa _ 6 _ _ _ HHa.out]; rfl
                have h7 : wa.cell? ⟨H, 7, none⟩ = some (.int .i64 y7) := by rw [cell_of_row wa _ 7 _ _ _ HHa.out]; rfl
                clear c0 c1 c2 c3 c4
                obtain ⟨c0, c1, c2, c3, c4⟩ := (lots_of_row HRa.out) k hkl
                rw [show 0 + k * 5 = k * 5 by omega] at c0 c1 c2 c3 c4
                rw [HXe.out] at c0 c1 c2 c3 c4
                simp only [] at c0 c1 c2 c3 c4
                refine region_quiet_tail 15 (by kernel_rfl) (by kernel_rfl) ?_
                simp only [List.take_succ_cons, List.take_zero, List.drop_succ_cons, List.drop_zero]
                repeat (first | go_big_quiet_step (fail) | quiet_step (fail))
                refine wpQuiet_nil ?_
                intro _ hw'
                obtain ⟨nq, hw''⟩ := hw'
                subst hw''
                have hbq : Below wa.heap.size wa (wa.drewN nq) := blw_drew nq
                have HHb : Hid ((wa.drewN nq).heap[H]? = some (.cells #[.int .i64 y0, .int .i64 y1, .int .i64 y2, .int .i64 y3, .int .i64 y4, .int .i64 y5, .int .i64 y6, .int .i64 y7] 60 (0, 0))) := HHa.out
                have HPb := hide (HPa.out.lat hbq)
                have HRb := hide (row_later HRa.out hbq)
                have HLb := hide (HLa.out.trans (hbq.mono HLa.out.size))
                clear hbq h0 h1 h2 h3 h4 h5 h6 h7 c0 c1 c2 c3 c4 HHa HPa HRa HLa HWA
                generalize wa.drewN nq = wb at *
                have q1 : wb.frozen? ⟨H, 1, none⟩ = false := by simp [World.frozen?, HHb.out]
                have h1 : wb.cell? ⟨H, 1, none⟩ = some (.int .i64 y1) := by rw [cell_of_row wb _ 1 _ _ _ HHb.out]; rfl
                obtain ⟨wc, hwc⟩ : ∃ wc, wb.setCell ⟨H, 1, none⟩ (.int .i64 (y1 + x3 * x4)) = wc := ⟨_, rfl⟩
                have hsc : Save wb wc H := by rw [← hwc]; exact Save.setCell _ _ _ _
                have HHc : Hid (wc.heap[H]? = some (.cells #[.int .i64 y0, .int .i64 (y1 + x3 * x4), .int .i64 y2, .int .i64 y3, .int .i64 y4, .int .i64 y5, .int .i64 y6, .int .i64 y7] 60 (0, 0))) := by show _ = _; rw [← hwc, setCell_eq_setRow _ H 1 _ _ _ _ HHb.out]; exact setRow_heap _ H _ _ _ _ HHb.out
                have HPc := hide (HPb.out.save hsc (blkT HPb.out HHb.out (by decide)))
                have HRc : Hid (wc.ownsRow wl.heap.size 56 5 (.slice (some ⟨gl, 0, none⟩) m lc) m (flat (L i))) := row_only HRb.out hsc.to_only (fun g hg e => rowT HRb.out HHb.out (by decide) (by rw [hg]; exact e)) (fun _ _ => by simp)
                have HLc := hide (HLb.out.trans (hsc.below HLb.out.size HHlo.out))
                have HWC := hide hwc
                clear hsc hwc HHb HPb HRb HLb
                go_wp2_with fail
                rw [HWC.out]
                obtain ⟨c0, c1, c2, c3, c4⟩ := (lots_of_row HRc.out) k hkl
                rw [show 0 + k * 5 = k * 5 by omega] at c0 c1 c2 c3 c4
                rw [HXe.out] at c0 c1 c2 c3 c4
                simp only [] at c0 c1 c2 c3 c4
                clear q1 h1 HWC
                have h0 : wc.cell? ⟨H, 0, none⟩ = some (.int .i64 y0) := by rw [cell_of_row wc _ 0 _ _ _ HHc.out]; rfl
                have h1 : wc.cell? ⟨H, 1, none⟩ = some (.int .i64 (y1 + x3 * x4)) := by rw [cell_of_row wc _ 1 _ _ _ HHc.out]; rfl
                have h2 : wc.cell? ⟨H, 2, none⟩ = some (.int .i64 y2) := by rw [cell_of_row wc _ 2 _ _ _ HHc.out]; rfl
                have h3 : wc.cell? ⟨H, 3, none⟩ = some (.int .i64 y3) := by rw [cell_of_row wc _ 3 _ _ _ HHc.out]; rfl
                have h4 : wc.cell? ⟨H, 4, none⟩ = some (.int .i64 y4) := by rw [cell_of_row wc _ 4 _ _ _ HHc.out]; rfl
                have h5 : wc.cell? ⟨H, 5, none⟩ = some (.int .i64 y5) := by rw [cell_of_row wc _ 5 _ _ _ HHc.out]; rfl
                have h6 : wc.cell? ⟨H, 6, none⟩ = some (.int .i64 y6) := by rw [cell_of_row wc _ 6 _ _ _ HHc.out]; rfl
                have h7 : wc.cell? ⟨H, 7, none⟩ = some (.int .i64 y7) := by rw [cell_of_row wc _ 7 _ _ _ HHc.out]; rfl
                refine region_quiet_tail 7 (by kernel_rfl) (by kernel_rfl) ?_
                simp only [List.take_succ_cons, List.take_zero, List.drop_succ_cons, List.drop_zero]
                repeat (first | go_big_quiet_step (fail) | quiet_step (fail))
                refine wpQuiet_nil ?_
                intro _ hw'
                obtain ⟨nq, hw''⟩ := hw'
                subst hw''
                have hbq : Below wc.heap.size wc (wc.drewN nq) := blw_drew nq
                have HPd := hide (HPc.out.lat hbq)
                have HRd := hide (row_later HRc.out hbq)
                have HLd := hide (HLc.out.trans (hbq.mono HLc.out.size))
                clear hbq h0 h1 h2 h3 h4 h5 h6 h7 c0 c1 c2 c3 c4 HHc HPc HRc HLc p0 p1 p2 p3 p4 p5 p6 p7
                generalize wc.drewN nq = wd' at *
                have p0 : wd'.cell? ⟨WB, cc * 8, none⟩ = some (.int .i64 y0) := by rw [HPd.out.cell (i := cc * 8) (by omega), HY0.out]
                have z0 : wd'.frozen? ⟨WB, cc * 8, none⟩ = false := HPd.out.frozen _
                have p1 : wd'.cell? ⟨WB, cc * 8 + 1, none⟩ = some (.int .i64 y1) := by rw [HPd.out.cell (i := cc * 8 + 1) (by omega), HY1.out]
                have z1 : wd'.frozen? ⟨WB, cc * 8 + 1, none⟩ = false := HPd.out.frozen _
                have p2 : wd'.cell? ⟨WB, cc * 8 + 2, none⟩ = some (.int .i64 y2) := by rw [HPd.out.cell (i := cc * 8 + 2) (by omega), HY2.out]
                have z2 : wd'.frozen? ⟨WB, cc * 8 + 2, none⟩ = false := HPd.out.frozen _
                have p3 : wd'.cell? ⟨WB, cc * 8 + 3, none⟩ = some (.int .i64 y3) := by rw [HPd.out.cell (i := cc * 8 + 3) (by omega), HY3.out]
                have z3 : wd'.frozen? ⟨WB, cc * 8 + 3, none⟩ = false := HPd.out.frozen _
                have p4 : wd'.cell? ⟨WB, cc * 8 + 4, none⟩ = some (.int .i64 y4) := by rw [HPd.out.cell (i := cc * 8 + 4) (by omega), HY4.out]
                have z4 : wd'.frozen? ⟨WB, cc * 8 + 4, none⟩ = false := HPd.out.frozen _
                have p5 : wd'.cell? ⟨WB, cc * 8 + 5, none⟩ = some (.int .i64 y5) := by rw [HPd.out.cell (i := cc * 8 + 5) (by omega), HY5.out]
                have z5 : wd'.frozen? ⟨WB, cc * 8 + 5, none⟩ = false := HPd.out.frozen _
                have p6 : wd'.cell? ⟨WB, cc * 8 + 6, none⟩ = some (.int .i64 y6) := by rw [HPd.out.cell (i := cc * 8 + 6) (by omega), HY6.out]
                have z6 : wd'.frozen? ⟨WB, cc * 8 + 6, none⟩ = false := HPd.out.frozen _
                have p7 : wd'.cell? ⟨WB, cc * 8 + 7, none⟩ = some (.int .i64 y7) := by rw [HPd.out.cell (i := cc * 8 + 7) (by omega), HY7.out]
                have z7 : wd'.frozen? ⟨WB, cc * 8 + 7, none⟩ = false := HPd.out.frozen _
                have hput := HPd.out.put8 cc y0 (y1 + x3 * x4) y2 y3 y4 y5 y6 y7
                have hnx : Purse ((((((((wd'.setCell ⟨WB, cc * 8, none⟩ (.int .i64 y0)).setCell ⟨WB, cc * 8 + 1, none⟩ (.int .i64 (y1 + x3 * x4))).setCell ⟨WB, cc * 8 + 2, none⟩ (.int .i64 y2)).setCell ⟨WB, cc * 8 + 3, none⟩ (.int .i64 y3)).setCell ⟨WB, cc * 8 + 4, none⟩ (.int .i64 y4)).setCell ⟨WB, cc * 8 + 5, none⟩ (.int .i64 y5)).setCell ⟨WB, cc * 8 + 6, none⟩ (.int .i64 y6)).setCell ⟨WB, cc * 8 + 7, none⟩ (.int .i64 y7)) 66 WB (Fl.wantAt L i (k + 1)) := by
                  refine hput.congr fun j _ => ?_
                  rw [HSTEP.out, Pu.add_dl, HHX.out, HMU.out]
                  unfold Pu.dl
                  have f0 := HY0.out; have f1 := HY1.out; have f2 := HY2.out; have f3 := HY3.out; have f4 := HY4.out; have f5 := HY5.out; have f6 := HY6.out; have f7 := HY7.out
                  by_cases j7 : j = cc * 8 + 7
                  · subst j7
                    rw [if_pos rfl, f7]
                    first
                      | rw [if_pos (by omega)]; done
                      | (rw [if_pos (by omega)]; omega)
                      | (rw [if_neg (by omega)]; omega)
                      | (rw [if_neg (by omega)])
                  by_cases j6 : j = cc * 8 + 6
                  · subst j6
                    rw [if_neg j7, if_pos rfl, f6]
                    first
                      | rw [if_pos (by omega)]; done
                      | (rw [if_pos (by omega)]; omega)
                      | (rw [if_neg (by omega)]; omega)
                      | (rw [if_neg (by omega)])
                  by_cases j5 : j = cc * 8 + 5
                  · subst j5
                    rw [if_neg j7, if_neg j6, if_pos rfl, f5]
                    first
                      | rw [if_pos (by omega)]; done
                      | (rw [if_pos (by omega)]; omega)
                      | (rw [if_neg (by omega)]; omega)
                      | (rw [if_neg (by omega)])
                  by_cases j4 : j = cc * 8 + 4
                  · subst j4
                    rw [if_neg j7, if_neg j6, if_neg j5, if_pos rfl, f4]
                    first
                      | rw [if_pos (by omega)]; done
                      | (rw [if_pos (by omega)]; omega)
                      | (rw [if_neg (by omega)]; omega)
                      | (rw [if_neg (by omega)])
                  by_cases j3 : j = cc * 8 + 3
                  · subst j3
                    rw [if_neg j7, if_neg j6, if_neg j5, if_neg j4, if_pos rfl, f3]
                    first
                      | rw [if_pos (by omega)]; done
                      | (rw [if_pos (by omega)]; omega)
                      | (rw [if_neg (by omega)]; omega)
                      | (rw [if_neg (by omega)])
                  by_cases j2 : j = cc * 8 + 2
                  · subst j2
                    rw [if_neg j7, if_neg j6, if_neg j5, if_neg j4, if_neg j3, if_pos rfl, f2]
                    first
                      | rw [if_pos (by omega)]; done
                      | (rw [if_pos (by omega)]; omega)
                      | (rw [if_neg (by omega)]; omega)
                      | (rw [if_neg (by omega)])
                  by_cases j1 : j = cc * 8 + 1
                  · subst j1
                    rw [if_neg j7, if_neg j6, if_neg j5, if_neg j4, if_neg j3, if_neg j2, if_pos rfl, f1]
                    first
                      | rw [if_pos (by omega)]; done
                      | (rw [if_pos (by omega)]; omega)
                      | (rw [if_neg (by omega)]; omega)
                      | (rw [if_neg (by omega)])
                  by_cases j0 : j = cc * 8
                  · subst j0
                    rw [if_neg j7, if_neg j6, if_neg j5, if_neg j4, if_neg j3, if_neg j2, if_neg j1, if_pos rfl, f0]
                    first
                      | rw [if_pos (by omega)]; done
                      | (rw [if_pos (by omega)]; omega)
                      | (rw [if_neg (by omega)]; omega)
                      | (rw [if_neg (by omega)])
                  rw [if_neg j7, if_neg j6, if_neg j5, if_neg j4, if_neg j3, if_neg j2, if_neg j1, if_neg j0, if_neg (by omega)]
                  omega
                have hsv : Save wd' ((((((((wd'.setCell ⟨WB, cc * 8, none⟩ (.int .i64 y0)).setCell ⟨WB, cc * 8 + 1, none⟩ (.int .i64 (y1 + x3 * x4))).setCell ⟨WB, cc * 8 + 2, none⟩ (.int .i64 y2)).setCell ⟨WB, cc * 8 + 3, none⟩ (.int .i64 y3)).setCell ⟨WB, cc * 8 + 4, none⟩ (.int .i64 y4)).setCell ⟨WB, cc * 8 + 5, none⟩ (.int .i64 y5)).setCell ⟨WB, cc * 8 + 6, none⟩ (.int .i64 y6)).setCell ⟨WB, cc * 8 + 7, none⟩ (.int .i64 y7)) WB := (((((((Save.setCell _ _ _ _).put _ _).put _ _).put _ _).put _ _).put _ _).put _ _).put _ _
                have HNX := hide hnx
                have HRe : Hid (((((((((wd'.setCell ⟨WB, cc * 8, none⟩ (.int .i64 y0)).setCell ⟨WB, cc * 8 + 1, none⟩ (.int .i64 (y1 + x3 * x4))).setCell ⟨WB, cc * 8 + 2, none⟩ (.int .i64 y2)).setCell ⟨WB, cc * 8 + 3, none⟩ (.int .i64 y3)).setCell ⟨WB, cc * 8 + 4, none⟩ (.int .i64 y4)).setCell ⟨WB, cc * 8 + 5, none⟩ (.int .i64 y5)).setCell ⟨WB, cc * 8 + 6, none⟩ (.int .i64 y6)).setCell ⟨WB, cc * 8 + 7, none⟩ (.int .i64 y7)).ownsRow wl.heap.size 56 5 (.slice (some ⟨gl, 0, none⟩) m lc) m (flat (L i))) := row_only HRd.out hsv.to_only (fun g hg e => rowT HRd.out HPd.out (by decide) (by rw [hg]; exact e)) (fun _ _ => by simp)
                have HLe := hide (HLd.out.trans (hsv.below HLd.out.size HWBlo.out))
                clear hput hnx hsv HPd HRd HLd
                go_wp2
                exact ⟨⟨k + 1, by omega, by go_num, HNX.out, HLe.out, HRe.out⟩, by simp [intOf]; omega⟩
              · subst e
                have HMU : Hid (Pu.mu ⟨x0, (cc : Int), 1, x3, x4⟩ = x4) := by show _ = _; unfold Pu.mu; rw [if_neg (by show ¬ (1 : Int) = 0; decide)]
                clear hmub
                have hci : i = 0 ∨ i = 1 ∨ i = 2 := by omega
                rcases hci with rfl | rfl | rfl
                · have HHX : Hid (Pu.hx (0 : Nat) ⟨x0, (cc : Int), 1, x3, x4⟩ = cc * 8 + 5) := by show _ = _; unfold Pu.hx; rw [if_neg (by show ¬ (1 : Int) = 0; decide)]; show (cc : Int).toNat * 8 + 5 + 0 = _; omega
                  go_wp2_with fail
                  rw [HWA.out, HHe.out]
                  have h0 : wa.cell? ⟨H, 0, none⟩ = some (.int .i64 y0) := by rw [cell_of_row wa _ 0 _ _ _ HHa.out]; rfl
                  have h1 : wa.cell? ⟨H, 1, none⟩ = some (.int .i64 y1) := by rw [cell_of_row wa _ 1 _ _ _ HHa.out]; rfl
                  have h2 : wa.cell? ⟨H, 2, none⟩ = some (.int .i64 y2) := by rw [cell_of_row wa _ 2 _ _ _ HHa.out]; rfl
                  have h3 : wa.cell? ⟨H, 3, none⟩ = some (.int .i64 y3) := by rw [cell_of_row wa _ 3 _ _ _ HHa.out]; rfl
                  have h4 : wa.cell? ⟨H, 4, none⟩ = some (.int .i64 y4) := by rw [cell_of_row wa _ 4 _ _ _ HHa.out]; rfl
                  have h5 : wa.cell? ⟨H, 5, none⟩ = some (.int .i64 y5) := by rw [cell_of_row wa _ 5 _ _ _ HHa.out]; rfl
                  have h6 : wa.cell? ⟨H, 6, none⟩ = some (.int .i64 y6) := by rw [cell_of_row wa _ 6 _ _ _ HHa.out]; rfl
                  have h7 : wa.cell? ⟨H, 7, none⟩ = some (.int .i64 y7) := by rw [cell_of_row wa _ 7 _ _ _ HHa.out]; rfl
                  clear c0 c1 c2 c3 c4
                  obtain ⟨c0, c1, c2, c3, c4⟩ := (lots_of_row HRa.out) k hkl
                  rw [show 0 + k * 5 = k * 5 by omega] at c0 c1 c2 c3 c4
                  rw [HXe.out] at c0 c1 c2 c3 c4
                  simp only [] at c0 c1 c2 c3 c4
                  refine region_quiet_tail 13 (by kernel_rfl) (by kernel_rfl) ?_
                  simp only [List.take_succ_cons, List.take_zero, List.drop_succ_cons, List.drop_zero]
                  repeat (first | go_big_quiet_step (fail) | quiet_step (fail))
                  refine wpQuiet_nil ?_
                  intro _ hw'
                  obtain ⟨nq, hw''⟩ := hw'
                  subst hw''
                  have hbq : Below wa.heap.size wa (wa.drewN nq) := blw_drew nq
                  have HHb : Hid ((wa.drewN nq).heap[H]? = some (.cells #[.int .i64 y0, .int .i64 y1, .int .i64 y2, .int .i64 y3, .int .i64 y4, .int .i64 y5, .int .i64 y6, .int .i64 y7] 60 (0, 0))) := HHa.out
                  have HPb := hide (HPa.out.lat hbq)
                  have HRb := hide (row_later HRa.out hbq)
                  have HLb := hide (HLa.out.trans (hbq.mono HLa.out.size))
                  clear hbq h0 h1 h2 h3 h4 h5 h6 h7 c0 c1 c2 c3 c4 HHa HPa HRa HLa HWA
                  generalize wa.drewN nq = wb at *
                  have q1 : wb.frozen? ⟨H, 5, none⟩ = false := by simp [World.frozen?, HHb.out]
                  have h1 : wb.cell? ⟨H, 5, none⟩ = some (.int .i64 y5) := by rw [cell_of_row wb _ 5 _ _ _ HHb.out]; rfl
                  obtain ⟨wc, hwc⟩ : ∃ wc, wb.setCell ⟨H, 5, none⟩ (.int .i64 (y5 + x4)) = wc := ⟨_, rfl⟩
                  have hsc : Save wb wc H := by rw [← hwc]; exact Save.setCell _ _ _ _
                  have HHc : Hid (wc.heap[H]? = some (.cells #[.int .i64 y0, .int .i64 y1, .int .i64 y2, .int .i64 y3, .int .i64 y4, .int .i64 (y5 + x4), .int .i64 y6, .int .i64 y7] 60 (0, 0))) := by show _ = _; rw [← hwc, setCell_eq_setRow _ H 5 _ _ _ _ HHb.out]; exact setRow_heap _ H _ _ _ _ HHb.out
                  have HPc := hide (HPb.out.save hsc (blkT HPb.out HHb.out (by decide)))
                  have HRc : Hid (wc.ownsRow wl.heap.size 56 5 (.slice (some ⟨gl, 0, none⟩) m lc) m (flat (L 0))) := row_only HRb.out hsc.to_only (fun g hg e => rowT HRb.out HHb.out (by decide) (by rw [hg]; exact e)) (fun _ _ => by simp)
                  have HLc := hide (HLb.out.trans (hsc.below HLb.out.size HHlo.out))
                  have HWC := hide hwc
                  clear hsc hwc HHb HPb HRb HLb
                  go_wp2_with fail
                  rw [HWC.out]
                  obtain ⟨c0, c1, c2, c3, c4⟩ := (lots_of_row HRc.out) k hkl
                  rw [show 0 + k * 5 = k * 5 by omega] at c0 c1 c2 c3 c4
                  rw [HXe.out] at c0 c1 c2 c3 c4
                  simp only [] at c0 c1 c2 c3 c4
                  clear q1 h1 HWC
                  have h0 : wc.cell? ⟨H, 0, none⟩ = some (.int .i64 y0) := by rw [cell_of_row wc _ 0 _ _ _ HHc.out]; rfl
                  have h1 : wc.cell? ⟨H, 1, none⟩ = some (.int .i64 y1) := by rw [cell_of_row wc _ 1 _ _ _ HHc.out]; rfl
                  have h2 : wc.cell? ⟨H, 2, none⟩ = some (.int .i64 y2) := by rw [cell_of_row wc _ 2 _ _ _ HHc.out]; rfl
                  have h3 : wc.cell? ⟨H, 3, none⟩ = some (.int .i64 y3) := by rw [cell_of_row wc _ 3 _ _ _ HHc.out]; rfl
                  have h4 : wc.cell? ⟨H, 4, none⟩ = some (.int .i64 y4) := by rw [cell_of_row wc _ 4 _ _ _ HHc.out]; rfl
                  have h5 : wc.cell? ⟨H, 5, none⟩ = some (.int .i64 (y5 + x4)) := by rw [cell_of_row wc _ 5 _ _ _ HHc.out]; rfl
                  have h6 : wc.cell? ⟨H, 6, none⟩ = some (.int .i64 y6) := by rw [cell_of_row wc _ 6 _ _ _ HHc.out]; rfl
                  have h7 : wc.cell? ⟨H, 7, none⟩ = some (.int .i64 y7) := by rw [cell_of_row wc _ 7 _ _ _ HHc.out]; rfl
                  refine region_quiet_tail 7 (by kernel_rfl) (by kernel_rfl) ?_
                  simp only [List.take_succ_cons, List.take_zero, List.drop_succ_cons, List.drop_zero]
                  repeat (first | go_big_quiet_step (fail) | quiet_step (fail))
                  refine wpQuiet_nil ?_
                  intro _ hw'
                  obtain ⟨nq, hw''⟩ := hw'
                  subst hw''
                  have hbq : Below wc.heap.size wc (wc.drewN nq) := blw_drew nq
                  have HPd := hide (HPc.out.lat hbq)
                  have HRd := hide (row_later HRc.out hbq)
                  have HLd := hide (HLc.out.trans (hbq.mono HLc.out.size))
                  clear hbq h0 h1 h2 h3 h4 h5 h6 h7 c0 c1 c2 c3 c4 HHc HPc HRc HLc p0 p1 p2 p3 p4 p5 p6 p7
                  generalize wc.drewN nq = wd' at *
                  have p0 : wd'.cell? ⟨WB, cc * 8, none⟩ = some (.int .i64 y0) := by rw [HPd.out.cell (i := cc * 8) (by omega), HY0.out]
                  have z0 : wd'.frozen? ⟨WB, cc * 8, none⟩ = false := HPd.out.frozen _
                  have p1 : wd'.cell? ⟨WB, cc * 8 + 1, none⟩ = some (.int .i64 y1) := by rw [HPd.out.cell (i := cc * 8 + 1) (by omega), HY1.out]
                  have z1 : wd'.frozen? ⟨WB, cc * 8 + 1, none⟩ = false := HPd.out.frozen _
                  have p2 : wd'.cell? ⟨WB, cc * 8 + 2, none⟩ = some (.int .i64 y2) := by rw [HPd.out.cell (i := cc * 8 + 2) (by omega), HY2.out]
                  have z2 : wd'.frozen? ⟨WB, cc * 8 + 2, none⟩ = false := HPd.out.frozen _
                  have p3 : wd'.cell? ⟨WB, cc * 8 + 3, none⟩ = some (.int .i64 y3) := by rw [HPd.out.cell (i := cc * 8 + 3) (by omega), HY3.out]
                  have z3 : wd'.frozen? ⟨WB, cc * 8 + 3, none⟩ = false := HPd.out.frozen _
                  have p4 : wd'.cell? ⟨WB, cc * 8 + 4, none⟩ = some (.int .i64 y4) := by rw [HPd.out.cell (i := cc * 8 + 4) (by omega), HY4.out]
                  have z4 : wd'.frozen? ⟨WB, cc * 8 + 4, none⟩ = false := HPd.out.frozen _
                  have p5 : wd'.cell? ⟨WB, cc * 8 + 5, none⟩ = some (.int .i64 y5) := by rw [HPd.out.cell (i := cc * 8 + 5) (by omega), HY5.out]
                  have z5 : wd'.frozen? ⟨WB, cc * 8 + 5, none⟩ = false := HPd.out.frozen _
                  have p6 : wd'.cell? ⟨WB, cc * 8 + 6, none⟩ = some (.int .i64 y6) := by rw [HPd.out.cell (i := cc * 8 + 6) (by omega), HY6.out]
                  have z6 : wd'.frozen? ⟨WB, cc * 8 + 6, none⟩ = false := HPd.out.frozen _
                  have p7 : wd'.cell? ⟨WB, cc * 8 + 7, none⟩ = some (.int .i64 y7) := by rw [HPd.out.cell (i := cc * 8 + 7) (by omega), HY7.out]
                  have z7 : wd'.frozen? ⟨WB, cc * 8 + 7, none⟩ = false := HPd.out.frozen _
                  have hput := HPd.out.put8 cc y0 y1 y2 y3 y4 (y5 + x4) y6 y7
                  have hnx : Purse ((((((((wd'.setCell ⟨WB, cc * 8, none⟩ (.int .i64 y0)).setCell ⟨WB, cc * 8 + 1, none⟩ (.int .i64 y1)).setCell ⟨WB, cc * 8 + 2, none⟩ (.int .i64 y2)).setCell ⟨WB, cc * 8 + 3, none⟩ (.int .i64 y3)).setCell ⟨WB, cc * 8 + 4, none⟩ (.int .i64 y4)).setCell ⟨WB, cc * 8 + 5, none⟩ (.int .i64 (y5 + x4))).setCell ⟨WB, cc * 8 + 6, none⟩ (.int .i64 y6)).setCell ⟨WB, cc * 8 + 7, none⟩ (.int .i64 y7)) 66 WB (Fl.wantAt L 0 (k + 1)) := by
                    refine hput.congr fun j _ => ?_
                    rw [HSTEP.out, Pu.add_dl, HHX.out, HMU.out]
                    unfold Pu.dl
                    have f0 := HY0.out; have f1 := HY1.out; have f2 := HY2.out; have f3 := HY3.out; have f4 := HY4.out; have f5 := HY5.out; have f6 := HY6.out; have f7 := HY7.out
                    by_cases j7 : j = cc * 8 + 7
                    · subst j7
                      rw [if_pos rfl, f7]
                      first
                        | rw [if_pos (by omega)]; done
                        | (rw [if_pos (by omega)]; omega)
                        | (rw [if_neg (by omega)]; omega)
                        | (rw [if_neg (by omega)])
                    by_cases j6 : j = cc * 8 + 6
                    · subst j6
                      rw [if_neg j7, if_pos rfl, f6]
                      first
                        | rw [if_pos (by omega)]; done
                        | (rw [if_pos (by omega)]; omega)
                        | (rw [if_neg (by omega)]; omega)
                        | (rw [if_neg (by omega)])
                    by_cases j5 : j = cc * 8 + 5
                    · subst j5
                      rw [if_neg j7, if_neg j6, if_pos rfl, f5]
                      first
                        | rw [if_pos (by omega)]; done
                        | (rw [if_pos (by omega)]; omega)
                        | (rw [if_neg (by omega)]; omega)
                        | (rw [if_neg (by omega)])
                    by_cases j4 : j = cc * 8 + 4
                    · subst j4
                      rw [if_neg j7, if_neg j6, if_neg j5, if_pos rfl, f4]
                      first
                        | rw [if_pos (by omega)]; done
                        | (rw [if_pos (by omega)]; omega)
                        | (rw [if_neg (by omega)]; omega)
                        | (rw [if_neg (by omega)])
                    by_cases j3 : j = cc * 8 + 3
                    · subst j3
                      rw [if_neg j7, if_neg j6, if_neg j5, if_neg j4, if_pos rfl, f3]
                      first
                        | rw [if_pos (by omega)]; done
                        | (rw [if_pos (by omega)]; omega)
                        | (rw [if_neg (by omega)]; omega)
                        | (rw [if_neg (by omega)])
                    by_cases j2 : j = cc * 8 + 2
                    · subst j2
                      rw [if_neg j7, if_neg j6, if_neg j5, if_neg j4, if_neg j3, if_pos rfl, f2]
                      first
                        | rw [if_pos (by omega)]; done
                        | (rw [if_pos (by omega)]; omega)
                        | (rw [if_neg (by omega)]; omega)
                        | (rw [if_neg (by omega)])
                    by_cases j1 : j = cc * 8 + 1
                    · subst j1
                      rw [if_neg j7, if_neg j6, if_neg j5, if_neg j4, if_neg j3, if_neg j2, if_pos rfl, f1]
                      first
                        | rw [if_pos (by omega)]; done
                        | (rw [if_pos (by omega)]; omega)
                        | (rw [if_neg (by omega)]; omega)
                        | (rw [if_neg (by omega)])
                    by_cases j0 : j = cc * 8
                    · subst j0
                      rw [if_neg j7, if_neg j6, if_neg j5, if_neg j4, if_neg j3, if_neg j2, if_neg j1, if_pos rfl, f0]
                      first
                        | rw [if_pos (by omega)]; done
                        | (rw [if_pos (by omega)]; omega)
                        | (rw [if_neg (by omega)]; omega)
                        | (rw [if_neg (by omega)])
                    rw [if_neg j7, if_neg j6, if_neg j5, if_neg j4, if_neg j3, if_neg j2, if_neg j1, if_neg j0, if_neg (by omega)]
                    omega
                  have hsv : Save wd' ((((((((wd'.setCell ⟨WB, cc * 8, none⟩ (.int .i64 y0)).setCell ⟨WB, cc * 8 + 1, none⟩ (.int .i64 y1)).setCell ⟨WB, cc * 8 + 2, none⟩ (.int .i64 y2)).setCell ⟨WB, cc * 8 + 3, none⟩ (.int .i64 y3)).setCell ⟨WB, cc * 8 + 4, none⟩ (.int .i64 y4)).setCell ⟨WB, cc * 8 + 5, none⟩ (.int .i64 (y5 + x4))).setCell ⟨WB, cc * 8 + 6, none⟩ (.int .i64 y6)).setCell ⟨WB, cc * 8 + 7, none⟩ (.int .i64 y7)) WB := (((((((Save.setCell _ _ _ _).put _ _).put _ _).put _ _).put _ _).put _ _).put _ _).put _ _
                  have HNX := hide hnx
                  have HRe : Hid (((((((((wd'.setCell ⟨WB, cc * 8, none⟩ (.int .i64 y0)).setCell ⟨WB, cc * 8 + 1, none⟩ (.int .i64 y1)).setCell ⟨WB, cc * 8 + 2, none⟩ (.int .i64 y2)).setCell ⟨WB, cc * 8 + 3, none⟩ (.int .i64 y3)).setCell ⟨WB, cc * 8 + 4, none⟩ (.int .i64 y4)).setCell ⟨WB, cc * 8 + 5, none⟩ (.int .i64 (y5 + x4))).setCell ⟨WB, cc * 8 + 6, none⟩ (.int .i64 y6)).setCell ⟨WB, cc * 8 + 7, none⟩ (.int .i64 y7)).ownsRow wl.heap.size 56 5 (.slice (some ⟨gl, 0, none⟩) m lc) m (flat (L 0))) := row_only HRd.out hsv.to_only (fun g hg e => rowT HRd.out HPd.out (by decide) (by rw [hg]; exact e)) (fun _ _ => by simp)
                  have HLe := hide (HLd.out.trans (hsv.below HLd.out.size HWBlo.out))
                  clear hput hnx hsv HPd HRd HLd
                  go_wp2
                  exact ⟨⟨k + 1, by omega, by go_num, HNX.out, HLe.out, HRe.out⟩, by simp [intOf]; omega⟩
                · have HHX : Hid (Pu.hx (1 : Nat) ⟨x0, (cc : Int), 1, x3, x4⟩ = cc * 8 + 6) := by show _ = _; unfold Pu.hx; rw [if_neg (by show ¬ (1 : Int) = 0; decide)]; show (cc : Int).toNat * 8 + 5 + 1 = _; omega
                  go_wp2_with fail
                  rw [HWA.out, HHe.out]
                  have h0 : wa.cell? ⟨H, 0, none⟩ = some (.int .i64 y0) := by rw [cell_of_row wa _ 0 _ _ _ HHa.out]; rfl
                  have h1 : wa.cell? ⟨H, 1, none⟩ = some (.int .i64 y1) := by rw [cell_of_row wa _ 1 _ _ _ HHa.out]; rfl
                  have h2 : wa.cell? ⟨H, 2, none⟩ = some (.int .i64 y2) := by rw [cell_of_row wa _ 2 _ _ _ HHa.out]; rfl
                  have h3 : wa.cell? ⟨H, 3, none⟩ = some (.int .i64 y3) := by rw [cell_of_row wa _ 3 _ _ _ HHa.out]; rfl
                  have h4 : wa.cell? ⟨H, 4, none⟩ = some (.int .i64 y4) := by rw [cell_of_row wa _ 4 _ _ _ HHa.out]; rfl
                  have h5 : wa.cell? ⟨H, 5, none⟩ = some (.int .i64 y5) := by rw [cell_of_row wa _ 5 _ _ _ HHa.out]; rfl
                  have h6 : wa.cell? ⟨H, 6, none⟩ = some (.int .i64 y6) := by rw [cell_of_row wa _ 6 _ _ _ HHa.out]; rfl
                  have h7 : wa.cell? ⟨H, 7, none⟩ = some (.int .i64 y7) := by rw [cell_of_row wa _ 7 _ _ _ HHa.out]; rfl
                  clear c0 c1 c2 c3 c4
                  obtain ⟨c0, c1, c2, c3, c4⟩ := (lots_of_row HRa.out) k hkl
                  rw [show 0 + k * 5 = k * 5 by omega] at c0 c1 c2 c3 c4
                  rw [HXe.out] at c0 c1 c2 c3 c4
                  simp only [] at c0 c1 c2 c3 c4
                  refine region_quiet_tail 13 (by kernel_rfl) (by kernel_rfl) ?_
                  simp only [List.take_succ_cons, List.take_zero, List.drop_succ_cons, List.drop_zero]
                  repeat (first | go_big_quiet_step (fail) | quiet_step (fail))
                  refine wpQuiet_nil ?_
                  intro _ hw'
                  obtain ⟨nq, hw''⟩ := hw'
                  subst hw''
                  have hbq : Below wa.heap.size wa (wa.drewN nq) := blw_drew nq
                  have HHb : Hid ((wa.drewN nq).heap[H]? = some (.cells #[.int .i64 y0, .int .i64 y1, .int .i64 y2, .int .i64 y3, .int .i64 y4, .int .i64 y5, .int .i64 y6, .int .i64 y7] 60 (0, 0))) := HHa.out
                  have HPb := hide (HPa.out.lat hbq)
                  have HRb := hide (row_later HRa.out hbq)
                  have HLb := hide (HLa.out.trans (hbq.mono HLa.out.size))
                  clear hbq h0 h1 h2 h3 h4 h5 h6 h7 c0 c1 c2 c3 c4 HHa HPa HRa HLa HWA
                  generalize wa.drewN nq = wb at *
                  have q1 : wb.frozen? ⟨H, 6, none⟩ = false := by simp [World.frozen?, HHb.out]
                  have h1 : wb.cell? ⟨H, 6, none⟩ = some (.int .i64 y6) := by rw [cell_of_row wb _ 6 _ _ _ HHb.out]; rfl
                  obtain ⟨wc, hwc⟩ : ∃ wc, wb.setCell ⟨H, 6, none⟩ (.int .i64 (y6 + x4)) = wc := ⟨_, rfl⟩
                  have hsc : Save wb wc H := by rw [← hwc]; exact Save.setCell _ _ _ _
                  have HHc : Hid (wc.heap[H]? = some (.cells #[.int .i64 y0, .int .i64 y1, .int .i64 y2, .int .i64 y3, .int .i64 y4, .int .i64 y5, .int .i64 (y6 + x4), .int .i64 y7] 60 (0, 0))) := by show _ = _; rw [← hwc, setCell_eq_setRow _ H 6 _ _ _ _ HHb.out]; exact setRow_heap _ H _ _ _ _ HHb.out
                  have HPc := hide (HPb.out.save hsc (blkT HPb.out HHb.out (by decide)))
                  have HRc : Hid (wc.ownsRow wl.heap.size 56 5 (.slice (some ⟨gl, 0, none⟩) m lc) m (flat (L 1))) := row_only HRb.out hsc.to_only (fun g hg e => rowT HRb.out HHb.out (by decide) (by rw [hg]; exact e)) (fun _ _ => by simp)
                  have HLc := hide (HLb.out.trans (hsc.below HLb.out.size HHlo.out))
                  have HWC := hide hwc
                  clear hsc hwc HHb HPb HRb HLb
                  go_wp2_with fail
                  rw [HWC.out]
                  obtain ⟨c0, c1, c2, c3, c4⟩ := (lots_of_row HRc.out) k hkl
                  rw [show 0 + k * 5 = k * 5 by omega] at c0 c1 c2 c3 c4
                  rw [HXe.out] at c0 c1 c2 c3 c4
                  simp only [] at c0 c1 c2 c3 c4
                  clear q1 h1 HWC
                  have h0 : wc.cell? ⟨H, 0, none⟩ = some (.int .i64 y0) := by rw [cell_of_row wc _ 0 _ _ _ HHc.out]; rfl
                  have h1 : wc.cell? ⟨H, 1, none⟩ = some (.int .i64 y1) := by rw [cell_of_row wc _ 1 _ _ _ HHc.out]; rfl
                  have h2 : wc.cell? ⟨H, 2, none⟩ = some (.int .i64 y2) := by rw [cell_of_row wc _ 2 _ _ _ HHc.out]; rfl
                  have h3 : wc.cell? ⟨H, 3, none⟩ = some (.int .i64 y3) := by rw [cell_of_row wc _ 3 _ _ _ HHc.out]; rfl
                  have h4 : wc.cell? ⟨H, 4, none⟩ = some (.int .i64 y4) := by rw [cell_of_row wc _ 4 _ _ _ HHc.out]; rfl
                  have h5 : wc.cell? ⟨H, 5, none⟩ = some (.int .i64 y5) := by rw [cell_of_row wc _ 5 _ _ _ HHc.out]; rfl
                  have h6 : wc.cell? ⟨H, 6, none⟩ = some (.int .i64 (y6 + x4)) := by rw [cell_of_row wc _ 6 _ _ _ HHc.out]; rfl
                  have h7 : wc.cell? ⟨H, 7, none⟩ = some (.int .i64 y7) := by rw [cell_of_row wc _ 7 _ _ _ HHc.out]; rfl
                  refine region_quiet_tail 7 (by kernel_rfl) (by kernel_rfl) ?_
                  simp only [List.take_succ_cons, List.take_zero, List.drop_succ_cons, List.drop_zero]
                  repeat (first | go_big_quiet_step (fail) | quiet_step (fail))
                  refine wpQuiet_nil ?_
                  intro _ hw'
                  obtain ⟨nq, hw''⟩ := hw'
                  subst hw''
                  have hbq : Below wc.heap.size wc (wc.drewN nq) := blw_drew nq
                  have HPd := hide (HPc.out.lat hbq)
                  have HRd := hide (row_later HRc.out hbq)
                  have HLd := hide (HLc.out.trans (hbq.mono HLc.out.size))
                  clear hbq h0 h1 h2 h3 h4 h5 h6 h7 c0 c1 c2 c3 c4 HHc HPc HRc HLc p0 p1 p2 p3 p4 p5 p6 p7
                  generalize wc.drewN nq = wd' at *
                  have p0 : wd'.cell? ⟨WB, cc * 8, none⟩ = some (.int .i64 y0) := by rw [HPd.out.cell (i := cc * 8) (by omega), HY0.out]
                  have z0 : wd'.frozen? ⟨WB, cc * 8, none⟩ = false := HPd.out.frozen _
                  have p1 : wd'.cell? ⟨WB, cc * 8 + 1, none⟩ = some (.int .i64 y1) := by rw [HPd.out.cell (i := cc * 8 + 1) (by omega), HY1.out]
                  have z1 : wd'.frozen? ⟨WB, cc * 8 + 1, none⟩ = false := HPd.out.frozen _
                  have p2 : wd'.cell? ⟨WB, cc * 8 + 2, none⟩ = some (.int .i64 y2) := by rw [HPd.out.cell (i := cc * 8 + 2) (by omega), HY2.out]
                  have z2 : wd'.frozen? ⟨WB, cc * 8 + 2, none⟩ = false := HPd.out.frozen _
                  have p3 : wd'.cell? ⟨WB, cc * 8 + 3, none⟩ = some (.int .i64 y3) := by rw [HPd.out.cell (i := cc * 8 + 3) (by omega), HY3.out]
                  have z3 : wd'.frozen? ⟨WB, cc * 8 + 3, none⟩ = false := HPd.out.frozen _
                  have p4 : wd'.cell? ⟨WB, cc * 8 + 4, none⟩ = some (.int .i64 y4) := by rw [HPd.out.cell (i := cc * 8 + 4) (by omega), HY4.out]
                  have z4 : wd'.frozen? ⟨WB, cc * 8 + 4, none⟩ = false := HPd.out.frozen _
                  have p5 : wd'.cell? ⟨WB, cc * 8 + 5, none⟩ = some (.int .i64 y5) := by rw [HPd.out.cell (i := cc * 8 + 5) (by omega), HY5.out]
                  have z5 : wd'.frozen? ⟨WB, cc * 8 + 5, none⟩ = false := HPd.out.frozen _
                  have p6 : wd'.cell? ⟨WB, cc * 8 + 6, none⟩ = some (.int .i64 y6) := by rw [HPd.out.cell (i := cc * 8 + 6) (by omega), HY6.out]
                  have z6 : wd'.frozen? ⟨WB, cc * 8 + 6, none⟩ = false := HPd.out.frozen _
                  have p7 : wd'.cell? ⟨WB, cc * 8 + 7, none⟩ = some (.int .i64 y7) := by rw [HPd.out.cell (i := cc * 8 + 7) (by omega), HY7.out]
                  have z7 : wd'.frozen? ⟨WB, cc * 8 + 7, none⟩ = false := HPd.out.frozen _
                  have hput := HPd.out.put8 cc y0 y1 y2 y3 y4 y5 (y6 + x4) y7
                  have hnx : Purse ((((((((wd'.setCell ⟨WB, cc * 8, none⟩ (.int .i64 y0)).setCell ⟨WB, cc * 8 + 1, none⟩ (.int .i64 y1)).setCell ⟨WB, cc * 8 + 2, none⟩ (.int .i64 y2)).setCell ⟨WB, cc * 8 + 3, none⟩ (.int .i64 y3)).setCell ⟨WB, cc * 8 + 4, none⟩ (.int .i64 y4)).setCell ⟨WB, cc * 8 + 5, none⟩ (.int .i64 y5)).setCell ⟨WB, cc * 8 + 6, none⟩ (.int .i64 (y6 + x4))).setCell ⟨WB, cc * 8 + 7, none⟩ (.int .i64 y7)) 66 WB (Fl.wantAt L 1 (k + 1)) := by
                    refine hput.congr fun j _ => ?_
                    rw [HSTEP.out, Pu.add_dl, HHX.out, HMU.out]
                    unfold Pu.dl
                    have f0 := HY0.out; have f1 := HY1.out; have f2 := HY2.out; have f3 := HY3.out; have f4 := HY4.out; have f5 := HY5.out; have f6 := HY6.out; have f7 := HY7.out
                    by_cases j7 : j = cc * 8 + 7
                    · subst j7
                      rw [if_pos rfl, f7]
                      first
                        | rw [if_pos (by omega)]; done
                        | (rw [if_pos (by omega)]; omega)
                        | (rw [if_neg (by omega)]; omega)
                        | (rw [if_neg (by omega)])
                    by_cases j6 : j = cc * 8 + 6
                    · subst j6
                      rw [if_neg j7, if_pos rfl, f6]
                      first
                        | rw [if_pos (by omega)]; done
                        | (rw [if_pos (by omega)]; omega)
                        | (rw [if_neg (by omega)]; omega)
                        | (rw [if_neg (by omega)])
                    by_cases j5 : j = cc * 8 + 5
                    · subst j5
                      rw [if_neg j7, if_neg j6, if_pos rfl, f5]
                      first
                        | rw [if_pos (by omega)]; done
                        | (rw [if_pos (by omega)]; omega)
                        | (rw [if_neg (by omega)]; omega)
                        | (rw [if_neg (by omega)])
                    by_cases j4 : j = cc * 8 + 4
                    · subst j4
                      rw [if_neg j7, if_neg j6, if_neg j5, if_pos rfl, f4]
                      first
                        | rw [if_pos (by omega)]; done
                        | (rw [if_pos (by omega)]; omega)
                        | (rw [if_neg (by omega)]; omega)
                        | (rw [if_neg (by omega)])
                    by_cases j3 : j = cc * 8 + 3
                    · subst j3
                      rw [if_neg j7, if_neg j6, if_neg j5, if_neg j4, if_pos rfl, f3]
                      first
                        | rw [if_pos (by omega)]; done
                        | (rw [if_pos (by omega)]; omega)
                        | (rw [if_neg (by omega)]; omega)
                        | (rw [if_neg (by omega)])
                    by_cases j2 : j = cc * 8 + 2
                    · subst j2
                      rw [if_neg j7, if_neg j6, if_neg j5, if_neg j4, if_neg j3, if_pos rfl, f2]
                      first
                        | rw [if_pos (by omega)]; done
                        | (rw [if_pos (by omega)]; omega)
                        | (rw [if_neg (by omega)]; omega)
                        | (rw [if_neg (by omega)])
                    by_cases j1 : j = cc * 8 + 1
                    · subst j1
                      rw [if_neg j7, if_neg j6, if_neg j5, if_neg j4, if_neg j3, if_neg j2, if_pos rfl, f1]
                      first
                        | rw [if_pos (by omega)]; done
                        | (rw [if_pos (by omega)]; omega)
                        | (rw [if_neg (by omega)]; omega)
                        | (rw [if_neg (by omega)])
                    by_cases j0 : j = cc * 8
                    · subst j0
                      rw [if_neg j7, if_neg j6, if_neg j5, if_neg j4, if_neg j3, if_neg j2, if_neg j1, if_pos rfl, f0]
                      first
                        | rw [if_pos (by omega)]; done
                        | (rw [if_pos (by omega)]; omega)
                        | (rw [if_neg (by omega)]; omega)
                        | (rw [if_neg (by omega)])
                    rw [if_neg j7, if_neg j6, if_neg j5, if_neg j4, if_neg j3, if_neg j2, if_neg j1, if_neg j0, if_neg (by omega)]
                    omega
                  have hsv : Save wd' ((((((((wd'.setCell ⟨WB, cc * 8, none⟩ (.int .i64 y0)).setCell ⟨WB, cc * 8 + 1, none⟩ (.int .i64 y1)).setCell ⟨WB, cc * 8 + 2, none⟩ (.int .i64 y2)).setCell ⟨WB, cc * 8 + 3, none⟩ (.int .i64 y3)).setCell ⟨WB, cc * 8 + 4, none⟩ (.int .i64 y4)).setCell ⟨WB, cc * 8 + 5, none⟩ (.int .i64 y5)).setCell ⟨WB, cc * 8 + 6, none⟩ (.int .i64 (y6 + x4))).setCell ⟨WB, cc * 8 + 7, none⟩ (.int .i64 y7)) WB := (((((((Save.setCell _ _ _ _).put _ _).put _ _).put _ _).put _ _).put _ _).put _ _).put _ _
                  have HNX := hide hnx
                  have HRe : Hid (((((((((wd'.setCell ⟨WB, cc * 8, none⟩ (.int .i64 y0)).setCell ⟨WB, cc * 8 + 1, none⟩ (.int .i64 y1)).setCell ⟨WB, cc * 8 + 2, none⟩ (.int .i64 y2)).setCell ⟨WB, cc * 8 + 3, none⟩ (.int .i64 y3)).setCell ⟨WB, cc * 8 + 4, none⟩ (.int .i64 y4)).setCell ⟨WB, cc * 8 + 5, none⟩ (.int .i64 y5)).setCell ⟨WB, cc * 8 + 6, none⟩ (.int .i64 (y6 + x4))).setCell ⟨WB, cc * 8 + 7, none⟩ (.int .i64 y7)).ownsRow wl.heap.size 56 5 (.slice (some ⟨gl, 0, none⟩) m lc) m (flat (L 1))) := row_only HRd.out hsv.to_only (fun g hg e => rowT HRd.out HPd.out (by decide) (by rw [hg]; exact e)) (fun _ _ => by simp)
                  have HLe := hide (HLd.out.trans (hsv.below HLd.out.size HWBlo.out))
                  clear hput hnx hsv HPd HRd HLd
                  go_wp2
                  exact ⟨⟨k + 1, by omega, by go_num, HNX.out, HLe.out, HRe.out⟩, by simp [intOf]; omega⟩
                · have HHX : Hid (Pu.hx (2 : Nat) ⟨x0, (cc : Int), 1, x3, x4⟩ = cc * 8 + 7) := by show _ = _; unfold Pu.hx; rw [if_neg (by show ¬ (1 : Int) = 0; decide)]; show (cc : Int).toNat * 8 + 5 + 2 = _; omega
                  go_wp2_with fail
                  rw [HWA.out, HHe.out]
                  have h0 : wa.cell? ⟨H, 0, none⟩ = some (.int .i64 y0) := by rw [cell_of_row wa _ 0 _ _ _ HHa.out]; rfl
                  have h1 : wa.cell? ⟨H, 1, none⟩ = some (.int .i64 y1) := by rw [cell_of_row wa _ 1 _ _ _ HHa.out]; rfl
                  have h2 : wa.cell? ⟨H, 2, none⟩ = some (.int .i64 y2) := by rw [cell_of_row wa _ 2 _ _ _ HHa.out]; rfl
                  have h3 : wa.cell? ⟨H, 3, none⟩ = some (.int .i64 y3) := by rw [cell_of_row wa _ 3 _ _ _ HHa.out]; rfl
                  have h4 : wa.cell? ⟨H, 4, none⟩ = some (.int .i64 y4) := by rw [cell_of_row wa _ 4 _ _ _ HHa.out]; rfl
                  have h5 : wa.cell? ⟨H, 5, none⟩ = some (.int .i64 y5) := by rw [cell_of_row wa _ 5 _ _ _ HHa.out]; rfl
                  have h6 : wa.cell? ⟨H, 6, none⟩ = some (.int .i64 y6) := by rw [cell_of_row wa _ 6 _ _ _ HHa.out]; rfl
                  have h7 : wa.cell? ⟨H, 7, none⟩ = some (.int .i64 y7) := by rw [cell_of_row wa _ 7 _ _ _ HHa.out]; rfl
                  clear c0 c1 c2 c3 c4
                  obtain ⟨c0, c1, c2, c3, c4⟩ := (lots_of_row HRa.out) k hkl
                  rw [show 0 + k * 5 = k * 5 by omega] at c0 c1 c2 c3 c4
                  rw [HXe.out] at c0 c1 c2 c3 c4
                  simp only [] at c0 c1 c2 c3 c4
                  refine region_quiet_tail 13 (by kernel_rfl) (by kernel_rfl) ?_
                  simp only [List.take_succ_cons, List.take_zero, List.drop_succ_cons, List.drop_zero]
                  repeat (first | go_big_quiet_step (fail) | quiet_step (fail))
                  refine wpQuiet_nil ?_
                  intro _ hw'
                  obtain ⟨nq, hw''⟩ := hw'
                  subst hw''
                  have hbq : Below wa.heap.size wa (wa.drewN nq) := blw_drew nq
                  have HHb : Hid ((wa.drewN nq).heap[H]? = some (.cells #[.int .i64 y0, .int .i64 y1, .int .i64 y2, .int .i64 y3, .int .i64 y4, .int .i64 y5, .int .i64 y6, .int .i64 y7] 60 (0, 0))) := HHa.out
                  have HPb := hide (HPa.out.lat hbq)
                  have HRb := hide (row_later HRa.out hbq)
                  have HLb := hide (HLa.out.trans (hbq.mono HLa.out.size))
                  clear hbq h0 h1 h2 h3 h4 h5 h6 h7 c0 c1 c2 c3 c4 HHa HPa HRa HLa HWA
                  generalize wa.drewN nq = wb at *
                  have q1 : wb.frozen? ⟨H, 7, none⟩ = false := by simp [World.frozen?, HHb.out]
                  have h1 : wb.cell? ⟨H, 7, none⟩ = some (.int .i64 y7) := by rw [cell_of_row wb _ 7 _ _ _ HHb.out]; rfl
                  obtain ⟨wc, hwc⟩ : ∃ wc, wb.setCell ⟨H, 7, none⟩ (.int .i64 (y7 + x4)) = wc := ⟨_, rfl⟩
                  have hsc : Save wb wc H := by rw [← hwc]; exact Save.setCell _ _ _ _
                  have HHc : Hid (wc.heap[H]? = some (.cells #[.int .i64 y0, .int .i64 y1, .int .i64 y2, .int .i64 y3, .int .i64 y4, .int .i64 y5, .int .i64 y6, .int .i64 (y7 + x4)] 60 (0, 0))) := by show _ = _; rw [← hwc, setCell_eq_setRow _ H 7 _ _ _ _ HHb.out]; exact setRow_heap _ H _ _ _ _ HHb.out
                  have HPc := hide (HPb.out.save hsc (blkT HPb.out HHb.out (by decide)))
                  have HRc : Hid (wc.ownsRow wl.heap.size 56 5 (.slice (some ⟨gl, 0, none⟩) m lc) m (flat (L 2))) := row_only HRb.out hsc.to_only (fun g hg e => rowT HRb.out HHb.out (by decide) (by rw [hg]; exact e)) (fun _ _ => by simp)
                  have HLc := hide (HLb.out.trans (hsc.below HLb.out.size HHlo.out))
                  have HWC := hide hwc
                  clear hsc hwc HHb HPb HRb HLb
                  go_wp2_with fail
                  rw [HWC.out]
                  obtain ⟨c0, c1, c2, c3, c4⟩ := (lots_of_row HRc.out) k hkl
                  rw [show 0 + k * 5 = k * 5 by omega] at c0 c1 c2 c3 c4
                  rw [HXe.out] at c0 c1 c2 c3 c4
                  simp only [] at c0 c1 c2 c3 c4
                  clear q1 h1 HWC
                  have h0 : wc.cell? ⟨H, 0, none⟩ = some (.int .i64 y0) := by rw [cell_of_row wc _ 0 _ _ _ HHc.out]; rfl
                  have h1 : wc.cell? ⟨H, 1, none⟩ = some (.int .i64 y1) := by rw [cell_of_row wc _ 1 _ _ _ HHc.out]; rfl
                  have h2 : wc.cell? ⟨H, 2, none⟩ = some (.int .i64 y2) := by rw [cell_of_row wc _ 2 _ _ _ HHc.out]; rfl
                  have h3 : wc.cell? ⟨H, 3, none⟩ = some (.int .i64 y3) := by rw [cell_of_row wc _ 3 _ _ _ HHc.out]; rfl
                  have h4 : wc.cell? ⟨H, 4, none⟩ = some (.int .i64 y4) := by rw [cell_of_row wc _ 4 _ _ _ HHc.out]; rfl
                  have h5 : wc.cell? ⟨H, 5, none⟩ = some (.int .i64 y5) := by rw [cell_of_row wc _ 5 _ _ _ HHc.out]; rfl
                  have h6 : wc.cell? ⟨H, 6, none⟩ = some (.int .i64 y6) := by rw [cell_of_row wc _ 6 _ _ _ HHc.out]; rfl
                  have h7 : wc.cell? ⟨H, 7, none⟩ = some (.int .i64 (y7 + x4)) := by rw [cell_of_row wc _ 7 _ _ _ HHc.out]; rfl
                  refine region_quiet_tail 7 (by kernel_rfl) (by kernel_rfl) ?_
                  simp only [List.take_succ_cons, List.take_zero, List.drop_succ_cons, List.drop_zero]
                  repeat (first | go_big_quiet_step (fail) | quiet_step (fail))
                  refine wpQuiet_nil ?_
                  intro _ hw'
                  obtain ⟨nq, hw''⟩ := hw'
                  subst hw''
                  have hbq : Below wc.heap.size wc (wc.drewN nq) := blw_drew nq
                  have HPd := hide (HPc.out.lat hbq)
                  have HRd := hide (row_later HRc.out hbq)
                  have HLd := hide (HLc.out.trans (hbq.mono HLc.out.size))
                  clear hbq h0 h1 h2 h3 h4 h5 h6 h7 c0 c1 c2 c3 c4 HHc HPc HRc HLc p0 p1 p2 p3 p4 p5 p6 p7
                  generalize wc.drewN nq = wd' at *
                  have p0 : wd'.cell? ⟨WB, cc * 8, none⟩ = some (.int .i64 y0) := by rw [HPd.out.cell (i := cc * 8) (by omega), HY0.out]
                  have z0 : wd'.frozen? ⟨WB, cc * 8, none⟩ = false := HPd.out.frozen _
                  have p1 : wd'.cell? ⟨WB, cc * 8 + 1, none⟩ = some (.int .i64 y1) := by rw [HPd.out.cell (i := cc * 8 + 1) (by omega), HY1.out]
                  have z1 : wd'.frozen? ⟨WB, cc * 8 + 1, none⟩ = false := HPd.out.frozen _
                  have p2 : wd'.cell? ⟨WB, cc * 8 + 2, none⟩ = some (.int .i64 y2) := by rw [HPd.out.cell (i := cc * 8 + 2) (by omega), HY2.out]
                  have z2 : wd'.frozen? ⟨WB, cc * 8 + 2, none⟩ = false := HPd.out.frozen _
                  have p3 : wd'.cell? ⟨WB, cc * 8 + 3, none⟩ = some (.int .i64 y3) := by rw [HPd.out.cell (i := cc * 8 + 3) (by omega), HY3.out]
                  have z3 : wd'.frozen? ⟨WB, cc * 8 + 3, none⟩ = false := HPd.out.frozen _
                  have p4 : wd'.cell? ⟨WB, cc * 8 + 4, none⟩ = some (.int .i64 y4) := by rw [HPd.out.cell (i := cc * 8 + 4) (by omega), HY4.out]
                  have z4 : wd'.frozen? ⟨WB, cc * 8 + 4, none⟩ = false := HPd.out.frozen _
                  have p5 : wd'.cell? ⟨WB, cc * 8 + 5, none⟩ = some (.int .i64 y5) := by rw [HPd.out.cell (i := cc * 8 + 5) (by omega), HY5.out]
                  have z5 : wd'.frozen? ⟨WB, cc * 8 + 5, none⟩ = false := HPd.out.frozen _
                  have p6 : wd'.cell? ⟨WB, cc * 8 + 6, none⟩ = some (.int .i64 y6) := by rw [HPd.out.cell (i := cc * 8 + 6) (by omega), HY6.out]
                  have z6 : wd'.frozen? ⟨WB, cc * 8 + 6, none⟩ = false := HPd.out.frozen _
                  have p7 : wd'.cell? ⟨WB, cc * 8 + 7, none⟩ = some (.int .i64 y7) := by rw [HPd.out.cell (i := cc * 8 + 7) (by omega), HY7.out]
                  have z7 : wd'.frozen? ⟨WB, cc * 8 + 7, none⟩ = false := HPd.out.frozen _
                  have hput := HPd.out.put8 cc y0 y1 y2 y3 y4 y5 y6 (y7 + x4)
                  have hnx : Purse ((((((((wd'.setCell ⟨WB, cc * 8, none⟩ (.int .i64 y0)).setCell ⟨WB, cc * 8 + 1, none⟩ (.int .i64 y1)).setCell ⟨WB, cc * 8 + 2, none⟩ (.int .i64 y2)).setCell ⟨WB, cc * 8 + 3, none⟩ (.int .i64 y3)).setCell ⟨WB, cc * 8 + 4, none⟩ (.int .i64 y4)).setCell ⟨WB, cc * 8 + 5, none⟩ (.int .i64 y5)).setCell ⟨WB, cc * 8 + 6, none⟩ (.int .i64 y6)).setCell ⟨WB, cc * 8 + 7, none⟩ (.int .i64 (y7 + x4))) 66 WB (Fl.wantAt L 2 (k + 1)) := by
                    refine hput.congr fun j _ => ?_
                    rw [HSTEP.out, Pu.add_dl, HHX.out, HMU.out]
                    unfold Pu.dl
                    have f0 := HY0.out; have f1 := HY1.out; have f2 := HY2.out; have f3 := HY3.out; have f4 := HY4.out; have f5 := HY5.out; have f6 := HY6.out; have f7 := HY7.out
                    by_cases j7 : j = cc * 8 + 7
                    · subst j7
                      rw [if_pos rfl, f7]
                      first
                        | rw [if_pos (by omega)]; done
                        | (rw [if_pos (by omega)]; omega)
                        | (rw [if_neg (by omega)]; omega)
                        | (rw [if_neg (by omega)])
                    by_cases j6 : j = cc * 8 + 6
                    · subst j6
                      rw [if_neg j7, if_pos rfl, f6]
                      first
                        | rw [if_pos (by omega)]; done
                        | (rw [if_pos (by omega)]; omega)
                        | (rw [if_neg (by omega)]; omega)
                        | (rw [if_neg (by omega)])
                    by_cases j5 : j = cc * 8 + 5
                    · subst j5
                      rw [if_neg j7, if_neg j6, if_pos rfl, f5]
                      first
                        | rw [if_pos (by omega)]; done
                        | (rw [if_pos (by omega)]; omega)
                        | (rw [if_neg (by omega)]; omega)
                        | (rw [if_neg (by omega)])
                    by_cases j4 : j = cc * 8 + 4
                    · subst j4
                      rw [if_neg j7, if_neg j6, if_neg j5, if_pos rfl, f4]
                      first
                        | rw [if_pos (by omega)]; done
                        | (rw [if_pos (by omega)]; omega)
                        | (rw [if_neg (by omega)]; omega)
                        | (rw [if_neg (by omega)])
                    by_cases j3 : j = cc * 8 + 3
                    · subst j3
                      rw [if_neg j7, if_neg j6, if_neg j5, if_neg j4, if_pos rfl, f3]
                      first
                        | rw [if_pos (by omega)]; done
                        | (rw [if_pos (by omega)]; omega)
                        | (rw [if_neg (by omega)]; omega)
                        | (rw [if_neg (by omega)])
                    by_cases j2 : j = cc * 8 + 2
                    · subst j2
                      rw [if_neg j7, if_neg j6, if_neg j5, if_neg j4, if_neg j3, if_pos rfl, f2]
                      first
                        | rw [if_pos (by omega)]; done
                        | (rw [if_pos (by omega)]; omega)
                        | (rw [if_neg (by omega)]; omega)
                        | (rw [if_neg (by omega)])
                    by_cases j1 : j = cc * 8 + 1
                    · subst j1
                      rw [if_neg j7, if_neg j6, if_neg j5, if_neg j4, if_neg j3, if_neg j2, if_pos rfl, f1]
                      first
                        | rw [if_pos (by omega)]; done
                        | (rw [if_pos (by omega)]; omega)
                        | (rw [if_neg (by omega)]; omega)
                        | (rw [if_neg (by omega)])
                    by_cases j0 : j = cc * 8
                    · subst j0
                      rw [if_neg j7, if_neg j6, if_neg j5, if_neg j4, if_neg j3, if_neg j2, if_neg j1, if_pos rfl, f0]
                      first
                        | rw [if_pos (by omega)]; done
                        | (rw [if_pos (by omega)]; omega)
                        | (rw [if_neg (by omega)]; omega)
                        | (rw [if_neg (by omega)])
                    rw [if_neg j7, if_neg j6, if_neg j5, if_neg j4, if_neg j3, if_neg j2, if_neg j1, if_neg j0, if_neg (by omega)]
                    omega
                  have hsv : Save wd' ((((((((wd'.setCell ⟨WB, cc * 8, none⟩ (.int .i64 y0)).setCell ⟨WB, cc * 8 + 1, none⟩ (.int .i64 y1)).setCell ⟨WB, cc * 8 + 2, none⟩ (.int .i64 y2)).setCell ⟨WB, cc * 8 + 3, none⟩ (.int .i64 y3)).setCell ⟨WB, cc * 8 + 4, none⟩ (.int .i64 y4)).setCell ⟨WB, cc * 8 + 5, none⟩ (.int .i64 y5)).setCell ⟨WB, cc * 8 + 6, none⟩ (.int .i64 y6)).setCell ⟨WB, cc * 8 + 7, none⟩ (.int .i64 (y7 + x4))) WB := (((((((Save.setCell _ _ _ _).put _ _).put _ _).put _ _).put _ _).put _ _).put _ _).put _ _
                  have HNX := hide hnx
                  have HRe : Hid (((((((((wd'.setCell ⟨WB, cc * 8, none⟩ (.int .i64 y0)).setCell ⟨WB, cc * 8 + 1, none⟩ (.int .i64 y1)).setCell ⟨WB, cc * 8 + 2, none⟩ (.int .i64 y2)).setCell ⟨WB, cc * 8 + 3, none⟩ (.int .i64 y3)).setCell ⟨WB, cc * 8 + 4, none⟩ (.int .i64 y4)).setCell ⟨WB, cc * 8 + 5, none⟩ (.int .i64 y5)).setCell ⟨WB, cc * 8 + 6, none⟩ (.int .i64 y6)).setCell ⟨WB, cc * 8 + 7, none⟩ (.int .i64 (y7 + x4))).ownsRow wl.heap.size 56 5 (.slice (some ⟨gl, 0, none⟩) m lc) m (flat (L 2))) := row_only HRd.out hsv.to_only (fun g hg e => rowT HRd.out HPd.out (by decide) (by rw [hg]; exact e)) (fun _ _ => by simp)
                  have HLe := hide (HLd.out.trans (hsv.below HLd.out.size HWBlo.out))
                  clear hput hnx hsv HPd HRd HLd
                  go_wp2
                  exact ⟨⟨k + 1, by omega, by go_num, HNX.out, HLe.out, HRe.out⟩, by simp [intOf]; omega⟩
            · have hkm : ¬ (k : Int) < m := by omega
              have e : Fl.wantAt L i k = Fl.wantTo L (i + 1) := Fl.want_full L i (by rw [HM.out]; omega)
              rw [e] at HPk
              go_wp2
              exact ⟨⟨i + 1, by omega, by go_num, HPk.out, HLk.out⟩, by simp [intOf]; omega⟩
        · have hki3 : ¬ (i : Int) < 3 := by omega
          obtain rfl : i = 3 := by omega
          have HW3 : Hid (∀ j, Fu.IsHeld j → Fl.wantTo L 3 j = pf j) := fun j hj => by rw [Fl.want_all]; exact (HALL.out.ok.held j hj).symm
          go_wp2_with fail
          go_loopw [13] (fun cx wz => ∃ (k : Nat), k ≤ 6 ∧ cx = .int .i64 k ∧ Purse wz 66 WB (Fl.wantTo L 3) ∧ Below wo.heap.size wo wz) (fun cx _ => 6 - (intOf cx).toNat)
          case atStart => exact ⟨0, Nat.zero_le _, rfl, HPi.out, HLi.out⟩
          case round =>
            obtain ⟨k, hk, rfl, hp, hb⟩ := hrel
            have HPz := hide hp; have HLz := hide hb
            clear hp hb HPi HLi
            by_cases hlt : k < 6
            · have hk6 : (k : Int) < 6 := by omega
              have HFz := hide (HF4.out.later HLz.out)
              have HPU := hide (purse_of HFz.out)
              have ho1 := of_any P k pf wr HFz.out.pu
              rw [ofV_in pf hlt] at ho1
              unfold hasV at ho1
              have HO1 := hide ho1
              clear ho1
              go_wp2_with fail
              refine HPU.out.mono ?_
              rintro e wz ⟨rfl, rfl⟩
              simp only []
              go_wp2_with fail
              refine HO1.out.mono ?_
              rintro e wm ⟨rfl, hbm⟩
              have HPm := hide (HPz.out.lat hbm)
              have HLm := hide (HLz.out.trans (hbm.mono HLz.out.size))
              clear hbm HO1 HPU HFz HPz HLz
              have e1 := HW3.out (k * 8 + 1) ⟨k, hlt, .inl rfl⟩
              have e5 := HW3.out (k * 8 + 5) ⟨k, hlt, .inr ⟨0, by decide, rfl⟩⟩
              have e6 := HW3.out (k * 8 + 6) ⟨k, hlt, .inr ⟨1, by decide, rfl⟩⟩
              have e7 := HW3.out (k * 8 + 7) ⟨k, hlt, .inr ⟨2, by decide, rfl⟩⟩
              have p1 : wm.cell? ⟨WB, k * 8 + 1, none⟩ = some (.int .i64 (pf (k * 8 + 1))) := by rw [HPm.out.cell (by omega), e1]
              have p5 : wm.cell? ⟨WB, k * 8 + 5, none⟩ = some (.int .i64 (pf (k * 8 + 5))) := by rw [HPm.out.cell (by omega), e5]
              have p6 : wm.cell? ⟨WB, k * 8 + 6, none⟩ = some (.int .i64 (pf (k * 8 + 6))) := by rw [HPm.out.cell (by omega), e6]
              have p7 : wm.cell? ⟨WB, k * 8 + 7, none⟩ = some (.int .i64 (pf (k * 8 + 7))) := by rw [HPm.out.cell (by omega), e7]
              clear e1 e5 e6 e7
              have hWl : WB < wm.heap.size := HPm.out.lt
              have hWn : ¬ WB = wm.heap.size := by omega
              have n41 := @neq41
              obtain ⟨d0, g0⟩ : ∃ d0, pf (k * 8) = d0 := ⟨_, rfl⟩
              obtain ⟨d1, g1⟩ : ∃ d1, pf (k * 8 + 1) = d1 := ⟨_, rfl⟩
              obtain ⟨d2, g2⟩ : ∃ d2, pf (k * 8 + 2) = d2 := ⟨_, rfl⟩
              obtain ⟨d3, g3⟩ : ∃ d3, pf (k * 8 + 3) = d3 := ⟨_, rfl⟩
              obtain ⟨d4, g4⟩ : ∃ d4, pf (k * 8 + 4) = d4 := ⟨_, rfl⟩
              obtain ⟨d5, g5⟩ : ∃ d5, pf (k * 8 + 5) = d5 := ⟨_, rfl⟩
              obtain ⟨d6, g6⟩ : ∃ d6, pf (k * 8 + 6) = d6 := ⟨_, rfl⟩
              obtain ⟨d7, g7⟩ : ∃ d7, pf (k * 8 + 7) = d7 := ⟨_, rfl⟩
              rw [g0, g1, g2, g3, g4, g5, g6, g7]
              rw [g1] at p1
              rw [g5] at p5
              rw [g6] at p6
              rw [g7] at p7
              clear g0 g1 g2 g3 g4 g5 g6 g7
              have hdd : (d1 != d1) = false := by simp
              obtain ⟨wn, hwn⟩ : ∃ wn, wm.alloc (.cells #[.int .i64 d0, .int .i64 d1, .int .i64 d2, .int .i64 d3, .int .i64 d4, .int .i64 d5, .int .i64 d6, .int .i64 d7] 60) = wn := ⟨_, rfl⟩
              have hbn : Below wm.heap.size wm wn := by rw [← hwn]; exact (Below.refl _ _).alloc (Nat.le_refl _) _
              have HPn := hide (HPm.out.lat hbn)
              have HLn := hide (HLm.out.trans (hbn.mono HLm.out.size))
              have HWN := hide hwn
              clear hbn hwn HPm HLm
              simp only []
              go_wp2_with fail
              go_quiet (fail)
              rw [HWN.out]
              have HPq := hide (HPn.out.lat (blw_drew nq))
              have HLq := hide (HLn.out.trans ((blw_drew nq : Below wn.heap.size wn (wn.drewN nq)).mono HLn.out.size))
              go_wp2
              exact ⟨⟨k + 1, by omega, by go_num, HPq.out, HLq.out⟩, by simp [intOf]; omega⟩
            · have hk6 : ¬ (k : Int) < 6 := by omega
              go_wp2
              go_ret
              exact ⟨rfl, HB1.out.trans (((HF4.out.later HLz.out).bl).mono HB1.out.size)⟩
end
end Go.Proofs.YtdggddjgipgllaaGreatDoor
