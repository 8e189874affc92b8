/- The law RationFair, for all lots. -/
import Derived.Test.YtbcinejhipmomaaDoorRsWalk
import Derived.Test.YtbcinejhipmomaaDoorCvRef
import Derived.Deep.DeepCutAuto
import Derived.Deep.CutRange
namespace Go.Proofs.YtbcinejhipmomaaDoor
open Go.RowKit
set_option maxRecDepth 100000

set_option maxHeartbeats 400000 in
theorem rq_big (a : Option Addr) (n cap : Nat) (price vol s : Int) (T : TypeId) (v1 v2 v6 v7 : Value) (w : World) (he : Hid (Er w T v1 v6 v7)) (c2 : Hid (w.cell? ⟨4, 0, none⟩ = some (.iface T v2))) (hn : (60 : Int) < n) :
    Calls Tryd.prog 4 #[.slice a n cap, .int .i64 price, .int .i64 vol, .int .u32 s] w fun e w' => e = .returned (.bool true) ∧ Below w.heap.size w w' := by
  go_enter Tryd.func4, Tryd.ntmps4
  go_wp2_with fail
  refine (rationed_any T v1 v2 v6 v7 w he c2).mono ?_
  rintro e w1 ⟨rfl, hb1⟩
  have HB1 := hide hb1
  clear hb1
  simp only []
  go_wp2
  go_ret
  exact ⟨rfl, HB1.out⟩
set_option maxHeartbeats 1000000 in
theorem rq_bad (a : Option Addr) (n cap : Nat) (price vol s : Int) (l : List Cv.Lot) (T : TypeId) (v1 v2 v6 v7 : Value) (w : World) (he : Hid (Er w T v1 v6 v7)) (c2 : Hid (w.cell? ⟨4, 0, none⟩ = some (.iface T v2))) (hn : Hid (l.length = n)) (hn' : ¬ (60 : Int) < n) (hl : Hid (ArgLots w a l)) (hf : Hid (¬ Ra.Fine l price vol)) :
    Calls Tryd.prog 4 #[.slice a n cap, .int .i64 price, .int .i64 vol, .int .u32 s] w fun e w' => e = .returned (.bool true) ∧ Below w.heap.size w w' := by
  have HOWN : Hid (∀ W, Below w.heap.size w W → Calls Tryd.prog 11 #[.slice a n cap] W fun e w' => ∃ v, e = .returned v ∧ Lots w' v l ∧ Below W.heap.size W w') := own_of hn.out hn' hl.out
  go_enter Tryd.func4, Tryd.ntmps4
  go_wp2_with fail
  refine (rationed_any T v1 v2 v6 v7 w he c2).mono ?_
  rintro e w1 ⟨rfl, hb1⟩
  have HB1 := hide hb1
  clear hb1
  simp only []
  go_wp2_with fail
  refine (HOWN.out w1 HB1.out).mono ?_
  rintro e w2 ⟨vo, rfl, hlo, hb2⟩
  have HB2 := hide (HB1.out.trans (hb2.mono HB1.out.size)); have HLO := hide hlo
  clear hb2 hlo
  simp only []
  go_wp2_with fail
  refine (fills_bad vo l price vol s T v1 v2 v6 v7 w2 HLO.out (he.out.later HB2.out) (cell_later HB2.out c2.out) hf.out).mono ?_
  rintro e w3 ⟨U, x, rfl, hb3⟩
  have HB3 := hide (HB2.out.trans (hb3.mono HB2.out.size))
  clear hb3
  simp only []
  go_wp2
  go_ret
  exact ⟨rfl, HB3.out⟩

/-- what the walk leans on: of a lot, what it got -/
structure Gets (l : List Cv.Lot) (price : Int) (F : List (Int × Int)) : Prop where
  within : ∀ x ∈ l, 0 ≤ Ra.got x.id F ∧ Ra.got x.id F ≤ x.q
  worse : ∀ x ∈ l, Ra.el x.sd price x = false → Ra.got x.id F = 0
  first : ∀ x ∈ l, ∀ y ∈ l, y.sd = x.sd → Cv.better x.sd y.pr x.pr = true → 0 < Ra.got x.id F → Ra.got y.id F = y.q
theorem gets_of {l : List Cv.Lot} {price vol : Int} (hf : Ra.Fine l price vol) (s : Int) : Gets l price (Ra.fills s l price vol) :=
  ⟨fun _ hx => Ra.got_in hf s hx, fun _ hx h => Ra.got_worse hf s hx h, fun _ hx _ hy h1 h2 h3 => Ra.got_first hf s hx hy h1 h2 h3⟩
theorem sumG_bounds {l : List Cv.Lot} {price : Int} {F : List (Int × Int)} (h : Gets l price F) (ho : Cv.Oks l) (sd : Int) : ∀ t : List Cv.Lot, (∀ x ∈ t, x ∈ l) → 0 ≤ Ra.sumG F sd t ∧ Ra.sumG F sd t ≤ 1000 * t.length
  | [], _ => by simp [Ra.sumG]
  | x :: t, ht => by
    have ih := sumG_bounds h ho sd t (fun y hy => ht y (List.mem_cons_of_mem _ hy))
    have hx := ht x List.mem_cons_self
    have h1 := h.within x hx
    have h2 := (Cv.ok_bounds (ho x hx)).2.2.2.2
    simp only [Ra.sumG, List.length_cons]
    split <;> omega

set_option maxHeartbeats 8000000 in
theorem rq_fine (g : Addr) (n cap : Nat) (price vol s : Int) (l : List Cv.Lot) (F : List (Int × Int)) (T : TypeId) (v1 v2 v6 v7 : Value) (w : World) (he : Hid (Er w T v1 v6 v7)) (c2 : Hid (w.cell? ⟨4, 0, none⟩ = some (.iface T v2))) (hn : Hid (l.length = n)) (hn' : ¬ (60 : Int) < n) (hn0 : 0 < n) (hl : Hid (∀ j u, (flat l)[j]? = some u → w.cell? (g.add j) = some u)) (hf : Hid (Ra.Fine l price vol)) (hu : Hid (Ra.IsU s))
    (hX : Hid (Ra.fills s l price vol = F)) :
    Calls Tryd.prog 4 #[.slice (some g) n cap, .int .i64 price, .int .i64 vol, .int .u32 s] w fun e w' => e = .returned (.bool true) ∧ Below w.heap.size w w' := by
  have HOWN : Hid (∀ W, Below w.heap.size w W → Calls Tryd.prog 11 #[.slice (some g) n cap] W fun e w' => ∃ v, e = .returned v ∧ Lots w' v l ∧ Below W.heap.size W w') := own_of hn.out hn' (.inr ⟨g, rfl, hl.out⟩)
  have HAT : Hid (ArgAt w g l) := argAt_of_flat hl.out
  have HLX : Hid (F.length ≤ 1000) := by
    have := Ra.fills_length s hf.out
    rw [← hX.out]
    show (Ra.side s l 0 price vol ++ Ra.side (Ra.nextSeed s) l 1 price vol).length ≤ 1000
    rw [List.length_append]; omega
  have HQX : Hid (∀ f ∈ F, 1 ≤ f.2 ∧ f.2 ≤ 1000) := fun f hff => Ra.fills_le s hf.out f (by rw [hX.out]; exact hff)
  have HQ0 : Hid (∀ f ∈ F, 0 ≤ f.2 ∧ f.2 ≤ 1000) := fun f hff => by have := HQX.out f hff; omega
  have HG : Hid (Gets l price F) := by rw [← hX.out]; exact gets_of hf.out s
  have HS0 : Hid (Ra.sumG F 0 l = vol) := by rw [← hX.out]; exact Ra.sum_side hf.out s 0 (.inl rfl)
  have HS1 : Hid (Ra.sumG F 1 l = vol) := by rw [← hX.out]; exact Ra.sum_side hf.out s 1 (.inr rfl)
  go_enter Tryd.func4, Tryd.ntmps4
  go_wp2_with fail
  refine (rationed_any T v1 v2 v6 v7 w he c2).mono ?_
  rintro e w1 ⟨rfl, hb1⟩
  have HB1 := hide hb1
  clear hb1
  simp only []
  go_wp2_with fail
  refine (HOWN.out w1 HB1.out).mono ?_
  rintro e w2 ⟨vo, rfl, hlo, hb2⟩
  have HB2 := hide (HB1.out.trans (hb2.mono HB1.out.size)); have HLO := hide hlo
  clear hb2 hlo
  simp only []
  go_wp2_with fail
  refine (fills_fine vo l price vol s T v1 v2 v6 v7 w2 HLO.out (he.out.later HB2.out) (cell_later HB2.out c2.out) hf.out hu.out).mono ?_
  rintro e wf ⟨vx, rfl, hfx, hb3⟩
  rw [hX.out] at hfx
  have HB := hide (HB2.out.trans (hb3.mono HB2.out.size)); have HFX := hide hfx
  clear hb3 hfx HLO HB1 HB2 HOWN
  simp only []
  go_wp2
  go_loopg [13] n (fun gk i wr => ∃ (k : Nat) (P Q : Int), k ≤ n ∧ gk = n - k ∧ i = .int .i64 k ∧ Hid (P = Ra.sumG F 0 (l.take k)) ∧ Hid (Q = Ra.sumG F 1 (l.take k)) ∧ Two wr wf.heap.size P Q ∧ Below wf.heap.size wf wr)
  case atStart => exact ⟨0, 0, 0, Nat.zero_le _, rfl, rfl, rfl, rfl, two_new wf _ 0 0, (Below.refl _ _).alloc (Nat.le_refl _) _⟩
  case round =>
    obtain ⟨k, P, Q, hk, rfl, rfl, HP, HQ, h2, hbw⟩ := hrel
    have H2 := hide h2; have HW := hide hbw
    clear h2 hbw
    by_cases hlt : k < n
    · have hki : (k : Int) < n := by omega
      obtain ⟨c0, c1, c2', c3, c4⟩ := ((HAT.out.later HB.out).later HW.out) k (by rw [hn.out]; exact hlt)
      have HX : Hid (Cv.nth l k ∈ l) := Cv.nth_mem (by rw [hn.out]; exact hlt)
      have HT := hide (Cv.take_succ (l := l) (i := k) (by rw [hn.out]; exact hlt))
      have hxb := Cv.ok_bounds (hf.out.1.oks _ HX.out)
      have hgot := HG.out.within _ HX.out
      have HWS := hide (HG.out.worse _ HX.out)
      have HFS := hide (HG.out.first _ HX.out)
      obtain ⟨x, hxe⟩ : ∃ x, Cv.nth l k = x := ⟨_, rfl⟩
      rw [hxe] at c0 c1 c2' c3 c4 HX HT hxb hgot HWS HFS
      have HXE := hide hxe
      clear hxe
      go_wp2_with fail
      refine (filledOf_any vx x.id F wr (HFX.out.later HW.out) HLX.out HQ0.out).mono ?_
      rintro e wz ⟨rfl, rfl⟩
      obtain ⟨gx, hgx⟩ : ∃ gx, Ra.got x.id F = gx := ⟨_, rfl⟩
      rw [hgx] at hgot HWS HFS ⊢
      have HGX := hide hgx
      clear hgx
      have hg1 : ¬ gx < 0 := by omega
      have hg2 : ¬ x.q < gx := by omega
      simp only []
      have hsx : x.sd = 0 ∨ x.sd = 1 := by omega
      have hpr : 1 ≤ x.pr ∧ x.pr ≤ 1000 := by omega
      have hP := sumG_bounds HG.out hf.out.1.oks 0 (l.take k) (fun y hy => List.mem_of_mem_take hy)
      have hQ := sumG_bounds HG.out hf.out.1.oks 1 (l.take k) (fun y hy => List.mem_of_mem_take hy)
      rw [← HP.out, List.length_take, hn.out] at hP
      rw [← HQ.out, List.length_take, hn.out] at hQ
      have hP1 : 0 ≤ P ∧ P ≤ 60000 := by omega
      have hQ1 : 0 ≤ Q ∧ Q ≤ 60000 := by omega
      have hgq : 0 ≤ gx ∧ gx ≤ 1000 := by omega
      clear hP hQ hxb
      go_upto_region 14 with fail
      go_cut [15] (fun s15 wx => (∃ wv : Bool, s15 = .bool wv ∧ (wv = true → gx = 0)) ∧ wx = wz)
      case first =>
        as_aux_lemma =>
          rcases hsx with hs | hs
          · rw [hs] at c2'
            have HS := hide hs
            clear hs
            by_cases hp : x.pr < price
            · have HE : Hid (gx = 0) := HWS.out (by have := HS.out; simp [Ra.el, Cv.better, this, hp])
              go_wp2_with fail
              go_meet
              exact ⟨⟨_, rfl, fun _ => HE.out⟩, rfl⟩
            · go_wp2_with fail
              go_meet
              exact ⟨⟨false, rfl, fun h => by cases h⟩, rfl⟩
          · rw [hs] at c2'
            have HS := hide hs
            clear hs
            by_cases hp : price < x.pr
            · have HE : Hid (gx = 0) := HWS.out (by have := HS.out; simp [Ra.el, Cv.better, this, hp])
              go_wp2_with fail
              go_meet
              exact ⟨⟨_, rfl, fun _ => HE.out⟩, rfl⟩
            · go_wp2_with fail
              go_meet
              exact ⟨⟨false, rfl, fun h => by cases h⟩, rfl⟩
      case rest =>
      obtain ⟨⟨wv, rfl, hwv⟩, rfl⟩ := hcut
      have HWV := hide hwv
      clear hwv HWS
      go_upto_region 15 with fail
      go_cut [103] (fun s103 wx => s103 = .bool false ∧ wx = wc)
      case first =>
        as_aux_lemma =>
          cases wv
          · go_wp2_with fail
            go_meet
            exact ⟨rfl, rfl⟩
          · have hg0 := HWV.out rfl
            have hgn : ¬ 0 < gx := by omega
            clear hg0
            go_wp2_with fail
            go_meet
            exact ⟨rfl, rfl⟩
      case rest =>
      obtain ⟨rfl, rfl⟩ := hcut
      clear HWV
      obtain ⟨P', HP'⟩ : ∃ P', Hid (P' = Ra.sumG F 0 (l.take (k + 1))) := ⟨_, rfl⟩
      obtain ⟨Q', HQ'⟩ : ∃ Q', Hid (Q' = Ra.sumG F 1 (l.take (k + 1))) := ⟨_, rfl⟩
      go_upto_region 17 with fail
      go_cut [] (fun wx => Two wx wf.heap.size P' Q' ∧ Below wf.heap.size wf wx)
      case first =>
        as_aux_lemma =>
          obtain ⟨t0, t1, g0, g1⟩ := H2.out
          rcases hsx with hs | hs
          · have e1 : P' = P + gx := by
              rw [HP'.out, HT.out, Ra.sumG_append, ← HP.out]
              simp [Ra.sumG, hs, HGX.out]
            have e2 : Q' = Q := by
              rw [HQ'.out, HT.out, Ra.sumG_append, ← HQ.out]
              simp [Ra.sumG, hs]
            subst e1 e2
            rw [hs] at c2'
            have hwr : IntKind.i64.wrap (P + gx) = P + gx := IntWalk.i64_in _ (by omega)
            clear hs
            go_region
            go_wp2_with fail
            go_meet
            exact ⟨(H2.out.set0 _).drew, below_drew (HW.out.setCell (Nat.le_refl _) _)⟩
          · have e1 : P' = P := by
              rw [HP'.out, HT.out, Ra.sumG_append, ← HP.out]
              simp [Ra.sumG, hs]
            have e2 : Q' = Q + gx := by
              rw [HQ'.out, HT.out, Ra.sumG_append, ← HQ.out]
              simp [Ra.sumG, hs, HGX.out]
            subst e1 e2
            rw [hs] at c2'
            have hwr : IntKind.i64.wrap (Q + gx) = Q + gx := IntWalk.i64_in _ (by omega)
            clear hs
            go_region
            go_wp2_with fail
            go_meet
            exact ⟨(H2.out.set1 _).drew, below_drew (HW.out.setCell (Nat.le_refl _) _)⟩
      case rest =>
      obtain ⟨h2c, hbc⟩ := hcut
      have H2C := hide h2c; have HWC := hide hbc
      clear h2c hbc H2 HW c0 c1 c2' c3 c4 HP HQ hP1 hQ1 HT
      go_wp2
      go_loopg [16] n (fun gj iv wr => ∃ m : Nat, m ≤ n ∧ gj = n - m ∧ iv = .int .i64 m ∧ Two wr wf.heap.size P' Q' ∧ Below wf.heap.size wf wr)
      case atStart => exact ⟨0, Nat.zero_le _, rfl, rfl, H2C.out, HWC.out⟩
      case round =>
        obtain ⟨m, hm, rfl, rfl, h2, hbw⟩ := hrel
        have H2 := hide h2; have HW := hide hbw
        clear h2 hbw H2C HWC
        by_cases hmt : m < n
        · have hmi : (m : Int) < n := by omega
          obtain ⟨c0, c1, c2', c3, c4⟩ := ((HAT.out.later HB.out).later HW.out) k (by rw [hn.out]; exact hlt)
          obtain ⟨d0, d1, d2, d3, d4⟩ := ((HAT.out.later HB.out).later HW.out) m (by rw [hn.out]; exact hmt)
          rw [show Cv.nth l k = x from HXE.out] at c0 c1 c2' c3 c4
          have HY : Hid (Cv.nth l m ∈ l) := Cv.nth_mem (by rw [hn.out]; exact hmt)
          have hyb := (Cv.ok_bounds (hf.out.1.oks _ HY.out)).2.2.1
          have HFY := hide (HFS.out _ HY.out)
          obtain ⟨y, hye⟩ : ∃ y, Cv.nth l m = y := ⟨_, rfl⟩
          rw [hye] at d0 d1 d2 d3 d4 HY hyb HFY
          have HYE := hide hye
          clear hye
          have hsy : y.sd = 0 ∨ y.sd = 1 := by omega
          clear hyb
          go_upto_region 21 with fail
          go_cut [17] (fun s17 wx => (∃ bt : Bool, s17 = .bool bt ∧ (bt = true → y.sd = x.sd ∧ Cv.better x.sd y.pr x.pr = true)) ∧ Two wx wf.heap.size P' Q' ∧ Below wf.heap.size wf wx)
          case first =>
            as_aux_lemma =>
              clear HFS HFY
              rcases hsx with hs | hs
              · rw [hs] at c2'
                have HSX := hide hs
                clear hs
                rcases hsy with hy | hy
                · rw [hy] at d2
                  have HSY := hide hy
                  clear hy
                  by_cases hp : x.pr < y.pr
                  · have HPP := hide hp
                    go_quiet (fail)
                    have H2D : Hid (Two (wr.drewN nq) wf.heap.size P' Q') := H2.out.drewN nq
                    have HWD : Hid (Below wf.heap.size wf (wr.drewN nq)) := HW.out.trans ((blw_drew nq).mono HW.out.size)
                    clear H2 HW c0 c1 c2' c3 c4 d0 d1 d2 d3 d4
                    generalize wr.drewN nq = wq at *
                    go_wp2_with fail
                    go_meet
                    exact ⟨⟨true, rfl, fun _ => ⟨by rw [HSX.out, HSY.out], by have h1 := HSX.out; have h2 := HPP.out; simp [Cv.better, h1, h2]⟩⟩, H2D.out, HWD.out⟩
                  · have hpd : decide (x.pr < y.pr) = false := decide_eq_false hp
                    clear hp
                    go_quiet (fail)
                    have H2D : Hid (Two (wr.drewN nq) wf.heap.size P' Q') := H2.out.drewN nq
                    have HWD : Hid (Below wf.heap.size wf (wr.drewN nq)) := HW.out.trans ((blw_drew nq).mono HW.out.size)
                    clear H2 HW c0 c1 c2' c3 c4 d0 d1 d2 d3 d4
                    generalize wr.drewN nq = wq at *
                    go_wp2_with fail
                    go_meet
                    exact ⟨⟨false, rfl, fun h => by cases h⟩, H2D.out, HWD.out⟩
                · rw [hy] at d2
                  have HSY := hide hy
                  clear hy
                  go_quiet (fail)
                  have H2D : Hid (Two (wr.drewN nq) wf.heap.size P' Q') := H2.out.drewN nq
                  have HWD : Hid (Below wf.heap.size wf (wr.drewN nq)) := HW.out.trans ((blw_drew nq).mono HW.out.size)
                  clear H2 HW c0 c1 c2' c3 c4 d0 d1 d2 d3 d4
                  generalize wr.drewN nq = wq at *
                  go_wp2_with fail
                  go_meet
                  exact ⟨⟨false, rfl, fun h => by cases h⟩, H2D.out, HWD.out⟩
              · rw [hs] at c2'
                have HSX := hide hs
                clear hs
                rcases hsy with hy | hy
                · rw [hy] at d2
                  have HSY := hide hy
                  clear hy
                  go_quiet (fail)
                  have H2D : Hid (Two (wr.drewN nq) wf.heap.size P' Q') := H2.out.drewN nq
                  have HWD : Hid (Below wf.heap.size wf (wr.drewN nq)) := HW.out.trans ((blw_drew nq).mono HW.out.size)
                  clear H2 HW c0 c1 c2' c3 c4 d0 d1 d2 d3 d4
                  generalize wr.drewN nq = wq at *
                  go_wp2_with fail
                  go_meet
                  exact ⟨⟨false, rfl, fun h => by cases h⟩, H2D.out, HWD.out⟩
                · rw [hy] at d2
                  have HSY := hide hy
                  clear hy
                  by_cases hp : y.pr < x.pr
                  · have HPP := hide hp
                    go_quiet (fail)
                    have H2D : Hid (Two (wr.drewN nq) wf.heap.size P' Q') := H2.out.drewN nq
                    have HWD : Hid (Below wf.heap.size wf (wr.drewN nq)) := HW.out.trans ((blw_drew nq).mono HW.out.size)
                    clear H2 HW c0 c1 c2' c3 c4 d0 d1 d2 d3 d4
                    generalize wr.drewN nq = wq at *
                    go_wp2_with fail
                    go_meet
                    exact ⟨⟨true, rfl, fun _ => ⟨by rw [HSX.out, HSY.out], by have h1 := HSX.out; have h2 := HPP.out; simp [Cv.better, h1, h2]⟩⟩, H2D.out, HWD.out⟩
                  · have hpd : decide (y.pr < x.pr) = false := decide_eq_false hp
                    clear hp
                    go_quiet (fail)
                    have H2D : Hid (Two (wr.drewN nq) wf.heap.size P' Q') := H2.out.drewN nq
                    have HWD : Hid (Below wf.heap.size wf (wr.drewN nq)) := HW.out.trans ((blw_drew nq).mono HW.out.size)
                    clear H2 HW c0 c1 c2' c3 c4 d0 d1 d2 d3 d4
                    generalize wr.drewN nq = wq at *
                    go_wp2_with fail
                    go_meet
                    exact ⟨⟨false, rfl, fun h => by cases h⟩, H2D.out, HWD.out⟩
          case rest =>
          obtain ⟨⟨bt, rfl, hbt⟩, h2c, hbc⟩ := hcut
          have HBT := hide hbt; have H2C := hide h2c; have HWC := hide hbc
          clear hbt h2c hbc H2 HW c0 c1 c2' c3 c4 d0 d1 d2 d3 d4
          go_upto_region 22 with fail
          go_cut [199] (fun s199 wx => s199 = .bool false ∧ Two wx wf.heap.size P' Q' ∧ Below wf.heap.size wf wx)
          case first =>
            as_aux_lemma =>
              obtain ⟨d0, d1, d2, d3, d4⟩ := ((HAT.out.later HB.out).later HWC.out) m (by rw [hn.out]; exact hmt)
              rw [HYE.out] at d0 d1 d2 d3 d4
              by_cases hg : 0 < gx
              · cases bt
                · go_quiet (fail)
                  have H2D : Hid (Two (wc.drewN nq) wf.heap.size P' Q') := H2C.out.drewN nq
                  have HWD : Hid (Below wf.heap.size wf (wc.drewN nq)) := HWC.out.trans ((blw_drew nq).mono HWC.out.size)
                  clear H2C HWC d0 d1 d2 d3 d4
                  generalize wc.drewN nq = wq at *
                  go_wp2_with fail
                  go_meet
                  exact ⟨rfl, H2D.out, HWD.out⟩
                · have HGY : Hid (∀ m, Calls Tryd.prog 18 #[vx, .int .i64 y.id] (wc.drewN m) fun e w' => e = .returned (.int .i64 y.q) ∧ w' = wc.drewN m) := fun m => by
                    have h3 := HBT.out rfl
                    have h4 := filledOf_any vx y.id F (wc.drewN m) ((HFX.out.later HWC.out).later (blw_drew m)) HLX.out HQ0.out
                    rwa [HFY.out h3.1 h3.2 hg] at h4
                  go_quiet (exact Calls.quiet_of_same (HGY.out _))
                  have H2D : Hid (Two (wc.drewN nq) wf.heap.size P' Q') := H2C.out.drewN nq
                  have HWD : Hid (Below wf.heap.size wf (wc.drewN nq)) := HWC.out.trans ((blw_drew nq).mono HWC.out.size)
                  clear H2C HWC d0 d1 d2 d3 d4 HGY
                  generalize wc.drewN nq = wq at *
                  go_wp2_with fail
                  go_meet
                  exact ⟨by simp, H2D.out, HWD.out⟩
              · have hgd : decide (0 < gx) = false := decide_eq_false hg
                clear hg
                go_quiet (fail)
                have H2D : Hid (Two (wc.drewN nq) wf.heap.size P' Q') := H2C.out.drewN nq
                have HWD : Hid (Below wf.heap.size wf (wc.drewN nq)) := HWC.out.trans ((blw_drew nq).mono HWC.out.size)
                clear H2C HWC d0 d1 d2 d3 d4
                generalize wc.drewN nq = wq at *
                go_wp2_with fail
                go_meet
                exact ⟨rfl, H2D.out, HWD.out⟩
          case rest =>
          obtain ⟨rfl, h2e, hbe⟩ := hcut
          have H2E := hide h2e; have HWE := hide hbe
          clear h2e hbe H2C HWC
          go_wp2
          go_roundg (n - (m + 1))
          case measure => omega
          case rel => exact ⟨m + 1, by omega, rfl, by go_num, H2E.out, HWE.out⟩
        · have hmi : ¬ (m : Int) < n := by omega
          go_wp2
          go_roundg (n - (k + 1))
          case measure => omega
          case rel => exact ⟨k + 1, P', Q', by omega, rfl, by go_num, HP', HQ', H2.out, HW.out⟩
    · have hki : ¬ (k : Int) < n := by omega
      have H2 : Hid (Two wr wf.heap.size vol vol) := by
        have hPv : P = vol := by rw [HP.out, List.take_of_length_le (by rw [hn.out]; omega)]; exact HS0.out
        have hQv : Q = vol := by rw [HQ.out, List.take_of_length_le (by rw [hn.out]; omega)]; exact HS1.out
        have := H2.out
        rwa [hPv, hQv] at this
      have HBW := hide (HB.out.trans (HW.out.mono HB.out.size))
      obtain ⟨t0, t1, g0, g1⟩ := H2.out
      rcases (HFX.out.later HW.out) with ⟨hF0, af, cf, rfl⟩ | ⟨bf, cf, rfl, hcf⟩
      · clear hF0 HFX
        go_wp2
        refine wp_loop_rounds 1 ?_
        rw [rounds_succ]
        go_wp2
        go_ret
        exact ⟨ret_bool (by simp), HBW.out⟩
      · obtain ⟨q, HFL⟩ : ∃ q, Hid (F.length = q) := ⟨_, rfl⟩
        rw [HFL.out] at hcf ⊢
        have HCF := hide hcf
        have hq1 : q ≤ 1000 := by rw [← HFL.out]; exact HLX.out
        clear hcf HFX
        obtain ⟨wk, hwk⟩ : ∃ wk, wk = wr := ⟨_, rfl⟩
        subst hwk
        go_wp2
        go_loopw [18] (fun i wx => ∃ m : Nat, m ≤ q ∧ i = .int .i64 m ∧ wx = wk) (fun i _ => q - (intOf i).toNat)
        case atStart => exact ⟨0, Nat.zero_le _, rfl, rfl⟩
        case round =>
          obtain ⟨m, hm, rfl, hwx⟩ := hrel
          subst hwx
          by_cases hmq : m < q
          · have hmi : (m : Int) < q := by omega
            obtain ⟨e0, e1⟩ := HCF.out m hmq
            have hf1 : ¬ (fnth F m).2 < 1 := by
              have := HQX.out (fnth F m) (by
                unfold fnth
                rw [List.getD_eq_getElem?_getD, List.getElem?_eq_getElem (by rw [HFL.out]; exact hmq)]
                exact List.getElem_mem _)
              omega
            generalize fnth F m = f at *
            go_wp2
            exact ⟨⟨m + 1, by omega, by go_num, by first | rfl | trivial⟩, by simp [intOf]; omega⟩
          · have hmi : ¬ (m : Int) < q := by omega
            go_wp2
            go_ret
            exact ⟨ret_bool (by simp), HBW.out⟩

set_option maxHeartbeats 1000000 in
theorem rq_zero (a : Option Addr) (cap : Nat) (price vol s : Int) (F : List (Int × Int)) (T : TypeId) (v1 v2 v6 v7 : Value) (w : World) (he : Hid (Er w T v1 v6 v7)) (c2 : Hid (w.cell? ⟨4, 0, none⟩ = some (.iface T v2))) (hf : Hid (Ra.Fine [] price vol)) (hu : Hid (Ra.IsU s)) (hX : Hid (Ra.fills s [] price vol = F)) :
    Calls Tryd.prog 4 #[.slice a 0 cap, .int .i64 price, .int .i64 vol, .int .u32 s] w fun e w' => e = .returned (.bool true) ∧ Below w.heap.size w w' := by
  have HOWN : Hid (∀ W, Below w.heap.size w W → Calls Tryd.prog 11 #[.slice a 0 cap] W fun e w' => ∃ v, e = .returned v ∧ Lots w' v [] ∧ Below W.heap.size W w') := own_of rfl (by decide) (.inl rfl)
  have HLX : Hid (F.length ≤ 1000) := by
    have := Ra.fills_length s hf.out
    rw [← hX.out]
    show (Ra.side s [] 0 price vol ++ Ra.side (Ra.nextSeed s) [] 1 price vol).length ≤ 1000
    rw [List.length_append]; omega
  have HQX : Hid (∀ f ∈ F, 1 ≤ f.2 ∧ f.2 ≤ 1000) := fun f hff => Ra.fills_le s hf.out f (by rw [hX.out]; exact hff)
  have HV0 : Hid (vol = 0) := by
    have := Ra.sum_side hf.out s 0 (.inl rfl)
    show vol = 0
    simpa [Ra.sumG] using this.symm
  go_enter Tryd.func4, Tryd.ntmps4
  go_wp2_with fail
  refine (rationed_any T v1 v2 v6 v7 w he c2).mono ?_
  rintro e w1 ⟨rfl, hb1⟩
  have HB1 := hide hb1
  clear hb1
  simp only []
  go_wp2_with fail
  refine (HOWN.out w1 HB1.out).mono ?_
  rintro e w2 ⟨vo, rfl, hlo, hb2⟩
  have HB2 := hide (HB1.out.trans (hb2.mono HB1.out.size)); have HLO := hide hlo
  clear hb2 hlo
  simp only []
  go_wp2_with fail
  refine (fills_fine vo [] price vol s T v1 v2 v6 v7 w2 HLO.out (he.out.later HB2.out) (cell_later HB2.out c2.out) hf.out hu.out).mono ?_
  rintro e wf ⟨vx, rfl, hfx, hb3⟩
  rw [hX.out] at hfx
  have HB := hide (HB2.out.trans (hb3.mono HB2.out.size)); have HFX := hide hfx
  clear hb3 hfx HLO HB1 HB2 HOWN
  simp only []
  have hv0 := HV0.out
  subst hv0
  go_wp2
  refine wp_loop_rounds 1 ?_
  rw [rounds_succ]
  obtain ⟨wr, hwr⟩ : ∃ wr, wf.alloc (.cells #[.int .i64 0, .int .i64 0] 3) = wr := ⟨_, rfl⟩
  have H2 : Hid (Two wr wf.heap.size 0 0) := by rw [← hwr]; exact two_new wf _ 0 0
  have HW : Hid (Below wf.heap.size wf wr) := by rw [← hwr]; exact (Below.refl _ _).alloc (Nat.le_refl _) _
  have HBW := hide (HB.out.trans (HW.out.mono HB.out.size))
  rw [hwr]
  clear hwr
  obtain ⟨t0, t1, g0, g1⟩ := H2.out
  rcases (HFX.out.later HW.out) with ⟨hF0, af, cf, rfl⟩ | ⟨bf, cf, rfl, hcf⟩
  · clear hF0 HFX
    go_wp2
    refine wp_loop_rounds 1 ?_
    rw [rounds_succ]
    go_wp2
    go_ret
    exact ⟨ret_bool (by simp), HBW.out⟩
  · obtain ⟨q, HFL⟩ : ∃ q, Hid (F.length = q) := ⟨_, rfl⟩
    rw [HFL.out] at hcf ⊢
    have HCF := hide hcf
    have hq1 : q ≤ 1000 := by rw [← HFL.out]; exact HLX.out
    clear hcf HFX
    obtain ⟨wk, hwk⟩ : ∃ wk, wk = wr := ⟨_, rfl⟩
    subst hwk
    go_wp2
    go_loopw [18] (fun i wx => ∃ m : Nat, m ≤ q ∧ i = .int .i64 m ∧ wx = wk) (fun i _ => q - (intOf i).toNat)
    case atStart => exact ⟨0, Nat.zero_le _, rfl, rfl⟩
    case round =>
      obtain ⟨m, hm, rfl, hwx⟩ := hrel
      subst hwx
      by_cases hmq : m < q
      · have hmi : (m : Int) < q := by omega
        obtain ⟨e0, e1⟩ := HCF.out m hmq
        have hf1 : ¬ (fnth F m).2 < 1 := by
          have := HQX.out (fnth F m) (by
            unfold fnth
            rw [List.getD_eq_getElem?_getD, List.getElem?_eq_getElem (by rw [HFL.out]; exact hmq)]
            exact List.getElem_mem _)
          omega
        generalize fnth F m = f at *
        go_wp2
        exact ⟨⟨m + 1, by omega, by go_num, by first | rfl | trivial⟩, by simp [intOf]; omega⟩
      · have hmi : ¬ (m : Int) < q := by omega
        go_wp2
        go_ret
        exact ⟨ret_bool (by simp), HBW.out⟩

theorem rationFair_any (a : Option Addr) (n cap : Nat) (price vol s : Int) (l : List Cv.Lot) (T : TypeId) (v1 v2 v6 v7 : Value) (w : World) (he : Er w T v1 v6 v7) (c2 : w.cell? ⟨4, 0, none⟩ = some (.iface T v2)) (hl : l.length = n ∧ ArgLots w a l) (hu : Ra.IsU s) :
    Calls Tryd.prog 4 #[.slice a n cap, .int .i64 price, .int .i64 vol, .int .u32 s] w fun e w' => e = .returned (.bool true) ∧ Below w.heap.size w w' := by
  by_cases hn : (60 : Int) < n
  · exact rq_big a n cap price vol s T v1 v2 v6 v7 w he c2 hn
  by_cases hf : Ra.Fine l price vol
  · rcases hl.2 with rfl | ⟨g, rfl, hc⟩
    · obtain rfl : n = 0 := hl.1.symm
      exact rq_zero a cap price vol s _ T v1 v2 v6 v7 w he c2 hf hu rfl
    · rcases Nat.eq_zero_or_pos n with rfl | h0
      · obtain rfl : l = [] := List.eq_nil_of_length_eq_zero hl.1
        exact rq_zero (some g) cap price vol s _ T v1 v2 v6 v7 w he c2 hf hu rfl
      · exact rq_fine g n cap price vol s l _ T v1 v2 v6 v7 w he c2 hl.1 hn h0 hc hf hu rfl
  · exact rq_bad a n cap price vol s l T v1 v2 v6 v7 w he c2 hl.1 hn hl.2 hf
end Go.Proofs.YtbcinejhipmomaaDoor
