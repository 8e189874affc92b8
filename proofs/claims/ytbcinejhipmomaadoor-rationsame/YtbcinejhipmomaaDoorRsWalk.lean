/- The law RationSame, for all lots. -/
import Derived.Test.YtbcinejhipmomaaDoorRaFair
import Derived.Deep.QuietTactic
import Derived.BigQuiet
import Derived.Deep.Cut
import Derived.BigRegion
namespace Go.Proofs.YtbcinejhipmomaaDoor
open Go.RowKit
set_option maxRecDepth 100000

theorem own_of {w : World} {a : Option Addr} {n cap : Nat} {l : List Cv.Lot} (hn : l.length = n) (hn' : ¬ (60 : Int) < n) (hl : ArgLots w a l) (W : World) (hb : Below w.heap.size w W) : Calls Tryd.prog 11 #[.slice a n cap] W fun e w' => ∃ v, e = .returned v ∧ Lots w' v l ∧ Below W.heap.size W w' := by
  subst hn
  refine (own_any a cap l W (by omega) ?_).mono fun e w' ⟨v, h1, h2, _, h4⟩ => ⟨v, h1, h2, h4⟩
  rcases hl with h | ⟨g, h1, h2⟩
  · exact .inl h
  · exact .inr ⟨g, h1, fun j u hu => cell_later hb (h2 j u hu)⟩

set_option maxHeartbeats 400000 in
theorem rs_big (a : Option Addr) (n cap : Nat) (price vol s1 s2 : Int) (T : TypeId) (v1 v2 v6 v7 : Value) (w : World) (he : Hid (Er w T v1 v6 v7)) (c2 : Hid (w.cell? ⟨4, 0, none⟩ = some (.iface T v2))) (hn : (60 : Int) < n) :
    Calls Tryd.prog 5 #[.slice a n cap, .int .i64 price, .int .i64 vol, .int .u32 s1, .int .u32 s2] w fun e w' => e = .returned (.bool true) ∧ Below w.heap.size w w' := by
  go_enter Tryd.func5, Tryd.ntmps5
  go_wp2_with fail
  refine (rationed_any T v1 v2 v6 v7 w he c2).mono ?_
  rintro e w1 ⟨rfl, hb1⟩
  have HB1 := hide hb1
  clear hb1
  simp only []
  go_wp2
  go_ret
  exact ⟨rfl, HB1.out⟩
set_option maxHeartbeats 1000000 in
theorem rs_bad (a : Option Addr) (n cap : Nat) (price vol s1 s2 : Int) (l : List Cv.Lot) (T : TypeId) (v1 v2 v6 v7 : Value) (w : World) (he : Hid (Er w T v1 v6 v7)) (c2 : Hid (w.cell? ⟨4, 0, none⟩ = some (.iface T v2))) (hn : Hid (l.length = n)) (hn' : ¬ (60 : Int) < n) (hl : Hid (ArgLots w a l)) (hf : Hid (¬ Ra.Fine l price vol)) :
    Calls Tryd.prog 5 #[.slice a n cap, .int .i64 price, .int .i64 vol, .int .u32 s1, .int .u32 s2] w fun e w' => e = .returned (.bool true) ∧ Below w.heap.size w w' := by
  have HOWN : Hid (∀ W, Below w.heap.size w W → Calls Tryd.prog 11 #[.slice a n cap] W fun e w' => ∃ v, e = .returned v ∧ Lots w' v l ∧ Below W.heap.size W w') := own_of hn.out hn' hl.out
  go_enter Tryd.func5, Tryd.ntmps5
  go_wp2_with fail
  refine (rationed_any T v1 v2 v6 v7 w he c2).mono ?_
  rintro e w1 ⟨rfl, hb1⟩
  have HB1 := hide hb1
  clear hb1
  simp only []
  go_wp2_with fail
  refine (HOWN.out w1 HB1.out).mono ?_
  rintro e w2 ⟨vo, rfl, hlo, hb2⟩
  have HB2 := hide (HB1.out.trans (hb2.mono HB1.out.size)); have HLO := hide hlo
  clear hb2 hlo
  simp only []
  go_wp2_with fail
  refine (fills_bad vo l price vol s1 T v1 v2 v6 v7 w2 HLO.out (he.out.later HB2.out) (cell_later HB2.out c2.out) hf.out).mono ?_
  rintro e w3 ⟨U, x, rfl, hb3⟩
  have HB3 := hide (HB2.out.trans (hb3.mono HB2.out.size)); have HLO3 := hide (HLO.out.later hb3)
  clear hb3
  simp only []
  go_wp2_with fail
  refine (fills_bad vo l price vol s2 T v1 v2 v6 v7 w3 HLO3.out (he.out.later HB3.out) (cell_later HB3.out c2.out) hf.out).mono ?_
  rintro e w4 ⟨U', x', rfl, hb4⟩
  have HB4 := hide (HB3.out.trans (hb4.mono HB3.out.size))
  clear hb4
  simp only []
  go_wp2
  go_ret
  exact ⟨rfl, HB4.out⟩

/-- the two cells of a small slice of the call's own -/
structure Two (w : World) (B : Nat) (p q : Int) : Prop where
  c0 : w.cell? ⟨B, 0, none⟩ = some (.int .i64 p)
  c1 : w.cell? ⟨B, 1, none⟩ = some (.int .i64 q)
  f0 : w.frozen? ⟨B, 0, none⟩ = false
  f1 : w.frozen? ⟨B, 1, none⟩ = false
theorem two_new (w : World) (T : TypeId) (p q : Int) : Two (w.alloc (.cells #[.int .i64 p, .int .i64 q] T)) w.heap.size p q :=
  ⟨by rw [World.cell?_alloc_new]; rfl, by rw [World.cell?_alloc_new]; rfl, by simp, by simp⟩
theorem Two.set0 {w : World} {B : Nat} {p q : Int} (h : Two w B p q) (r : Int) : Two (w.setCell ⟨B, 0, none⟩ (.int .i64 r)) B r q :=
  ⟨World.cell?_setCell_same _ _ _ h.c0, by rw [World.cell?_setCell_other _ _ _ _ (by simp)]; exact h.c1, by rw [World.frozen?_setCell]; exact h.f0, by rw [World.frozen?_setCell]; exact h.f1⟩
theorem Two.set1 {w : World} {B : Nat} {p q : Int} (h : Two w B p q) (r : Int) : Two (w.setCell ⟨B, 1, none⟩ (.int .i64 r)) B p r :=
  ⟨by rw [World.cell?_setCell_other _ _ _ _ (by simp)]; exact h.c0, World.cell?_setCell_same _ _ _ h.c1, by rw [World.frozen?_setCell]; exact h.f0, by rw [World.frozen?_setCell]; exact h.f1⟩
theorem Two.drewN {w : World} {B : Nat} {p q : Int} (h : Two w B p q) (m : Nat) : Two (w.drewN m) B p q := ⟨h.c0, h.c1, h.f0, h.f1⟩
theorem Two.drew {w : World} {B : Nat} {p q : Int} (h : Two w B p q) : Two w.drew B p q := ⟨h.c0, h.c1, h.f0, h.f1⟩
/-- the level of a side that is parted, if one is -/
def Part (l : List Cv.Lot) (FX FY : List (Int × Int)) (sd P : Int) : Prop := P = 0 ∨ ∃ x ∈ l, x.sd = sd ∧ Ra.got x.id FX ≠ Ra.got x.id FY ∧ x.pr = P

set_option maxHeartbeats 600000 in
theorem rs_fine (a : Option Addr) (n cap : Nat) (price vol s1 s2 : Int) (l : List Cv.Lot) (FX FY : List (Int × Int)) (T : TypeId) (v1 v2 v6 v7 : Value) (w : World) (he : Hid (Er w T v1 v6 v7)) (c2 : Hid (w.cell? ⟨4, 0, none⟩ = some (.iface T v2))) (hn : Hid (l.length = n)) (hn' : ¬ (60 : Int) < n) (hl : Hid (ArgLots w a l)) (hf : Hid (Ra.Fine l price vol)) (hu1 : Hid (Ra.IsU s1)) (hu2 : Hid (Ra.IsU s2))
    (hX : Hid (Ra.fills s1 l price vol = FX)) (hY : Hid (Ra.fills s2 l price vol = FY)) :
    Calls Tryd.prog 5 #[.slice a n cap, .int .i64 price, .int .i64 vol, .int .u32 s1, .int .u32 s2] w fun e w' => e = .returned (.bool true) ∧ Below w.heap.size w w' := by
  have HOWN : Hid (∀ W, Below w.heap.size w W → Calls Tryd.prog 11 #[.slice a n cap] W fun e w' => ∃ v, e = .returned v ∧ Lots w' v l ∧ Below W.heap.size W w') := own_of hn.out hn' hl.out
  have HLX : Hid (FX.length ≤ 1000) := by
    have := Ra.fills_length s1 hf.out
    rw [← hX.out]
    show (Ra.side s1 l 0 price vol ++ Ra.side (Ra.nextSeed s1) l 1 price vol).length ≤ 1000
    rw [List.length_append]; omega
  have HLY : Hid (FY.length ≤ 1000) := by
    have := Ra.fills_length s2 hf.out
    rw [← hY.out]
    show (Ra.side s2 l 0 price vol ++ Ra.side (Ra.nextSeed s2) l 1 price vol).length ≤ 1000
    rw [List.length_append]; omega
  have HQX : Hid (∀ f ∈ FX, 0 ≤ f.2 ∧ f.2 ≤ 1000) := fun f hff => by have := Ra.fills_le s1 hf.out f (by rw [hX.out]; exact hff); omega
  have HQY : Hid (∀ f ∈ FY, 0 ≤ f.2 ∧ f.2 ≤ 1000) := fun f hff => by have := Ra.fills_le s2 hf.out f (by rw [hY.out]; exact hff); omega
  have HLV : Hid (∀ x ∈ l, ∀ y ∈ l, x.sd = y.sd → Ra.got x.id FX ≠ Ra.got x.id FY → Ra.got y.id FX ≠ Ra.got y.id FY → x.pr = y.pr) := fun x hx y hy hs dx dy => by
    rw [← hX.out, ← hY.out] at dx dy
    exact Ra.same_level hf.out s1 s2 hx hy hs dx dy
  go_enter Tryd.func5, Tryd.ntmps5
  go_wp2_with fail
  refine (rationed_any T v1 v2 v6 v7 w he c2).mono ?_
  rintro e w1 ⟨rfl, hb1⟩
  have HB1 := hide hb1
  clear hb1
  simp only []
  go_wp2_with fail
  refine (HOWN.out w1 HB1.out).mono ?_
  rintro e w2 ⟨vo, rfl, hlo, hb2⟩
  have HB2 := hide (HB1.out.trans (hb2.mono HB1.out.size)); have HLO := hide hlo
  clear hb2 hlo
  simp only []
  go_wp2_with fail
  refine (fills_fine vo l price vol s1 T v1 v2 v6 v7 w2 HLO.out (he.out.later HB2.out) (cell_later HB2.out c2.out) hf.out hu1.out).mono ?_
  rintro e w3 ⟨vx, rfl, hfx, hb3⟩
  rw [hX.out] at hfx
  have HB3 := hide (HB2.out.trans (hb3.mono HB2.out.size)); have HLO3 := hide (HLO.out.later hb3); have HFX := hide hfx
  clear hb3 hfx
  simp only []
  go_wp2_with fail
  refine (fills_fine vo l price vol s2 T v1 v2 v6 v7 w3 HLO3.out (he.out.later HB3.out) (cell_later HB3.out c2.out) hf.out hu2.out).mono ?_
  rintro e w4 ⟨vy, rfl, hfy, hb4⟩
  rw [hY.out] at hfy
  have HB4 := hide (HB3.out.trans (hb4.mono HB3.out.size)); have HLO4 := hide (HLO3.out.later hb4); have HFX4 := hide (HFX.out.later hb4); have HFY4 := hide hfy
  clear hb4 hfy HFX HLO3 HLO HB2 HB3
  simp only []
  obtain ⟨dm, hdm⟩ : ∃ dm, Cv.demand l price = dm := ⟨_, rfl⟩
  obtain ⟨sp, hsp⟩ : ∃ sp, Cv.supply l price = sp := ⟨_, rfl⟩
  have HDM := hide hdm; have HSP := hide hsp
  clear hdm hsp
  go_upto_region 9 with fail
  go_cut [75] from 58 (fun s75 wx => s75 = .bool false ∧ Below w.heap.size w wx ∧ Lots wx vo l ∧ Fls wx vx FX ∧ Fls wx vy FY)
  case first =>
    go_wp2_with fail
    refine (demand_any vo l price T v1 v6 v7 w4 HLO4.out (he.out.later HB4.out) hf.out.1).mono ?_
    rintro e w5 ⟨rfl, hb5⟩
    have HB5 := hide (HB4.out.trans (hb5.mono HB4.out.size)); have HLO5 := hide (HLO4.out.later hb5); have HFX5 := hide (HFX4.out.later hb5); have HFY5 := hide (HFY4.out.later hb5)
    clear hb5 HFX4 HFY4 HLO4
    rw [HDM.out]
    simp only []
    by_cases hd : dm = vol
    · have hdb : (dm == vol) = true := by simpa using hd
      have HD := hide hd
      clear hd
      go_wp2_with fail
      refine (supply_any vo l price T v1 v6 v7 w5 HLO5.out (he.out.later HB5.out) hf.out.1).mono ?_
      rintro e w6 ⟨rfl, hb6⟩
      have HB6 := hide (HB5.out.trans (hb6.mono HB5.out.size)); have HLO6 := hide (HLO5.out.later hb6); have HFX6 := hide (HFX5.out.later hb6); have HFY6 := hide (HFY5.out.later hb6)
      clear hb6 HFX5 HFY5 HLO5
      rw [HSP.out]
      simp only []
      by_cases hsv : sp = vol
      · have hsb : (sp == vol) = true := by simpa using hsv
        have HXY : Hid (FY = FX) := by
          show _ = _
          rw [← hX.out, ← hY.out]
          exact Ra.same_fits hf.out s2 s1 (HDM.out.trans HD.out) (HSP.out.trans hsv)
        clear hsv
        go_wp2_with fail
        refine (sameFills_any vx vy FX w6 HFX6.out (by have := HFY6.out; rwa [HXY.out] at this) HLX.out).mono ?_
        rintro e w7 ⟨rfl, hb7⟩
        have HB7 := hide (HB6.out.trans (hb7.mono HB6.out.size)); have HLO7 := hide (HLO6.out.later hb7); have HFX7 := hide (HFX6.out.later hb7); have HFY7 := hide (HFY6.out.later hb7)
        clear hb7
        simp only []
        go_wp2_with fail
        go_meet
        exact ⟨rfl, HB7.out, HLO7.out, HFX7.out, HFY7.out⟩
      · have hsb : (sp == vol) = false := by simpa using hsv
        clear hsv
        go_wp2_with fail
        go_meet
        exact ⟨rfl, HB6.out, HLO6.out, HFX6.out, HFY6.out⟩
    · have hdb : (dm == vol) = false := by simpa using hd
      clear hd
      go_wp2_with fail
      go_meet
      exact ⟨rfl, HB5.out, HLO5.out, HFX5.out, HFY5.out⟩
  case rest =>
  obtain ⟨rfl, hB, hLo, hFx, hFy⟩ := hcut
  have HB := hide hB; have HLO := hide hLo; have HFX := hide hFx; have HFY := hide hFy
  clear hB hLo hFx hFy HB4 HLO4 HFX4 HFY4 HDM HSP
  rcases HLO.out with ⟨hl0, ao, co, rfl⟩ | ⟨bo, oo, co, rfl, _, hlo⟩
  · go_wp2
    refine wp_loop_rounds 1 ?_
    rw [rounds_succ]
    go_wp2
    go_ret
    exact ⟨rfl, HB.out.alloc HB.out.size _⟩
  · have HL := hide hlo
    rw [hn.out]
    clear hlo HLO
    go_wp2
    go_loopw [18] (fun i wr => ∃ (k : Nat) (P Q : Int), k ≤ n ∧ i = .int .i64 k ∧ Part l FX FY 0 P ∧ Part l FX FY 1 Q ∧ Two wr wc.heap.size P Q ∧ Below wc.heap.size wc wr) (fun i _ => n - (intOf i).toNat)
    case atStart => exact ⟨0, 0, 0, Nat.zero_le _, rfl, .inl rfl, .inl rfl, two_new wc _ 0 0, (Below.refl _ _).alloc (Nat.le_refl _) _⟩
    case round =>
      obtain ⟨k, P, Q, hk, rfl, hP, hQ, h2, hbw⟩ := hrel
      have HP := hide hP; have HQ := hide hQ; have H2 := hide h2; have HW := hide hbw
      clear hP hQ h2 hbw
      by_cases hlt : k < n
      · have hki : (k : Int) < n := by omega
        obtain ⟨c0, c1, c2', c3, c4⟩ := (hide (HL.out.later HW.out)).out k (by rw [hn.out]; exact hlt)
        have HX : Hid (Cv.nth l k ∈ l) := Cv.nth_mem (by rw [hn.out]; exact hlt)
        have hsd := (Cv.ok_bounds (hf.out.1.oks _ HX.out)).2.2.1
        have hpr := (Cv.ok_bounds (hf.out.1.oks _ HX.out)).2.2.2.1
        generalize Cv.nth l k = x at *
        obtain ⟨t0, t1, g0, g1⟩ := H2.out
        have HGX : Hid (∀ m, Calls Tryd.prog 18 #[vx, .int .i64 x.id] (wr.drewN m) fun e w' => e = .returned (.int .i64 (Ra.got x.id FX)) ∧ w' = wr.drewN m) := fun m => filledOf_any vx x.id FX _ ((HFX.out.later HW.out).later (blw_drew m)) HLX.out HQX.out
        have HGY : Hid (∀ m, Calls Tryd.prog 18 #[vy, .int .i64 x.id] (wr.drewN m) fun e w' => e = .returned (.int .i64 (Ra.got x.id FY)) ∧ w' = wr.drewN m) := fun m => filledOf_any vy x.id FY _ ((HFY.out.later HW.out).later (blw_drew m)) HLY.out HQY.out
        go_wp2_with fail
        go_quiet (first | (go_at_call_of 18 vx; exact Calls.quiet_of_same (HGX.out _)) | (go_at_call_of 18 vy; exact Calls.quiet_of_same (HGY.out _)))
        have HWZ : Hid (Below wc.heap.size wc (wr.drewN nq)) := HW.out.trans ((blw_drew nq).mono HW.out.size)
        have H2Z : Hid (Two (wr.drewN nq) wc.heap.size P Q) := H2.out.drewN nq
        have d0 : (wr.drewN nq).cell? ⟨bo, oo + k * 5, none⟩ = some (.int .i64 x.id) := c0
        have d1 : (wr.drewN nq).cell? ⟨bo, oo + k * 5 + 1, none⟩ = some (.int .i64 x.ow) := c1
        have d2 : (wr.drewN nq).cell? ⟨bo, oo + k * 5 + 2, none⟩ = some (.int .i64 x.sd) := c2'
        have d3 : (wr.drewN nq).cell? ⟨bo, oo + k * 5 + 3, none⟩ = some (.int .i64 x.pr) := c3
        have d4 : (wr.drewN nq).cell? ⟨bo, oo + k * 5 + 4, none⟩ = some (.int .i64 x.q) := c4
        clear c0 c1 c2' c3 c4 t0 t1 g0 g1 HGX HGY H2 HW
        generalize wr.drewN nq = wz at *
        obtain ⟨t0, t1, g0, g1⟩ := H2Z.out
        obtain ⟨gx, hgx⟩ : ∃ gx, Ra.got x.id FX = gx := ⟨_, rfl⟩
        obtain ⟨gy, hgy⟩ : ∃ gy, Ra.got x.id FY = gy := ⟨_, rfl⟩
        rw [hgx, hgy]
        by_cases hne : gx = gy
        · have hnb : (gx == gy) = true := by simpa using hne
          clear hne hgx hgy
          go_wp2
          exact ⟨⟨k + 1, P, Q, by omega, by go_num, HP.out, HQ.out, H2Z.out, HWZ.out⟩, by simp [intOf]; omega⟩
        · have hnb : (gx == gy) = false := by simpa using hne
          have HNE : Hid (Ra.got x.id FX ≠ Ra.got x.id FY) := by rw [hgx, hgy]; exact hne
          clear hne hgx hgy
          rcases (show x.sd = 0 ∨ x.sd = 1 by omega) with hs | hs
          · have d2 : wz.cell? ⟨bo, oo + k * 5 + 2, none⟩ = some (.int .i64 0) := by rw [hs] at d2; exact d2
            have HPN : Hid (Part l FX FY 0 x.pr) := .inr ⟨x, HX.out, hs, HNE.out, rfl⟩
            by_cases hP0 : P = 0
            · have hPb : (P != 0) = false := by simp [hP0]
              clear hP0
              go_wp2_with fail
              go_quiet (fail)
              have HWB : Hid (Below wc.heap.size wc (wz.drewN nq)) := HWZ.out.trans ((blw_drew nq).mono HWZ.out.size)
              have H2B : Hid (Two (wz.drewN nq) wc.heap.size P Q) := H2Z.out.drewN nq
              have e0 : (wz.drewN nq).cell? ⟨bo, oo + k * 5, none⟩ = some (.int .i64 x.id) := d0
              have e1 : (wz.drewN nq).cell? ⟨bo, oo + k * 5 + 1, none⟩ = some (.int .i64 x.ow) := d1
              have e2 : (wz.drewN nq).cell? ⟨bo, oo + k * 5 + 2, none⟩ = some (.int .i64 0) := d2
              have e3 : (wz.drewN nq).cell? ⟨bo, oo + k * 5 + 3, none⟩ = some (.int .i64 x.pr) := d3
              have e4 : (wz.drewN nq).cell? ⟨bo, oo + k * 5 + 4, none⟩ = some (.int .i64 x.q) := d4
              clear d0 d1 d2 d3 d4 t0 t1 g0 g1 HWZ H2Z
              generalize wz.drewN nq = wy at *
              obtain ⟨t0, t1, g0, g1⟩ := H2B.out
              go_wp2_with fail
              go_region
              go_wp2
              exact ⟨⟨k + 1, x.pr, Q, by omega, by go_num, HPN.out, HQ.out, (Two.drew H2B.out).set0 x.pr, (below_drew HWB.out).setCell (Nat.le_refl _) _⟩, by simp [intOf]; omega⟩
            · have hPx : P = x.pr := by
                rcases HP.out with h | ⟨y, hy1, hy2, hy3, hy4⟩
                · exact absurd h hP0
                · rw [← hy4]; exact HLV.out y hy1 x HX.out (by rw [hy2, hs]) hy3 HNE.out
              have hPb : (P != 0) = true := by simp [hP0]
              have hPc : (P != x.pr) = false := by simp [hPx]
              have HVX := hide hPx
              clear hPx hP0
              go_wp2_with fail
              go_quiet (fail)
              have HWB : Hid (Below wc.heap.size wc (wz.drewN nq)) := HWZ.out.trans ((blw_drew nq).mono HWZ.out.size)
              have H2B : Hid (Two (wz.drewN nq) wc.heap.size P Q) := H2Z.out.drewN nq
              have e0 : (wz.drewN nq).cell? ⟨bo, oo + k * 5, none⟩ = some (.int .i64 x.id) := d0
              have e1 : (wz.drewN nq).cell? ⟨bo, oo + k * 5 + 1, none⟩ = some (.int .i64 x.ow) := d1
              have e2 : (wz.drewN nq).cell? ⟨bo, oo + k * 5 + 2, none⟩ = some (.int .i64 0) := d2
              have e3 : (wz.drewN nq).cell? ⟨bo, oo + k * 5 + 3, none⟩ = some (.int .i64 x.pr) := d3
              have e4 : (wz.drewN nq).cell? ⟨bo, oo + k * 5 + 4, none⟩ = some (.int .i64 x.q) := d4
              clear d0 d1 d2 d3 d4 t0 t1 g0 g1 HWZ H2Z
              generalize wz.drewN nq = wy at *
              obtain ⟨t0, t1, g0, g1⟩ := H2B.out
              go_wp2_with fail
              go_region
              go_wp2
              exact ⟨⟨k + 1, x.pr, Q, by omega, by go_num, HPN.out, HQ.out, (Two.drew H2B.out).set0 x.pr, (below_drew HWB.out).setCell (Nat.le_refl _) _⟩, by simp [intOf]; omega⟩
          · have d2 : wz.cell? ⟨bo, oo + k * 5 + 2, none⟩ = some (.int .i64 1) := by rw [hs] at d2; exact d2
            have HPN : Hid (Part l FX FY 1 x.pr) := .inr ⟨x, HX.out, hs, HNE.out, rfl⟩
            by_cases hQ0 : Q = 0
            · have hQb : (Q != 0) = false := by simp [hQ0]
              clear hQ0
              go_wp2_with fail
              go_quiet (fail)
              have HWB : Hid (Below wc.heap.size wc (wz.drewN nq)) := HWZ.out.trans ((blw_drew nq).mono HWZ.out.size)
              have H2B : Hid (Two (wz.drewN nq) wc.heap.size P Q) := H2Z.out.drewN nq
              have e0 : (wz.drewN nq).cell? ⟨bo, oo + k * 5, none⟩ = some (.int .i64 x.id) := d0
              have e1 : (wz.drewN nq).cell? ⟨bo, oo + k * 5 + 1, none⟩ = some (.int .i64 x.ow) := d1
              have e2 : (wz.drewN nq).cell? ⟨bo, oo + k * 5 + 2, none⟩ = some (.int .i64 1) := d2
              have e3 : (wz.drewN nq).cell? ⟨bo, oo + k * 5 + 3, none⟩ = some (.int .i64 x.pr) := d3
              have e4 : (wz.drewN nq).cell? ⟨bo, oo + k * 5 + 4, none⟩ = some (.int .i64 x.q) := d4
              clear d0 d1 d2 d3 d4 t0 t1 g0 g1 HWZ H2Z
              generalize wz.drewN nq = wy at *
              obtain ⟨t0, t1, g0, g1⟩ := H2B.out
              go_wp2_with fail
              go_region
              go_wp2
              exact ⟨⟨k + 1, P, x.pr, by omega, by go_num, HP.out, HPN.out, (Two.drew H2B.out).set1 x.pr, (below_drew HWB.out).setCell (Nat.le_refl _) _⟩, by simp [intOf]; omega⟩
            · have hQx : Q = x.pr := by
                rcases HQ.out with h | ⟨y, hy1, hy2, hy3, hy4⟩
                · exact absurd h hQ0
                · rw [← hy4]; exact HLV.out y hy1 x HX.out (by rw [hy2, hs]) hy3 HNE.out
              have hQb : (Q != 0) = true := by simp [hQ0]
              have hQc : (Q != x.pr) = false := by simp [hQx]
              have HVX := hide hQx
              clear hQx hQ0
              go_wp2_with fail
              go_quiet (fail)
              have HWB : Hid (Below wc.heap.size wc (wz.drewN nq)) := HWZ.out.trans ((blw_drew nq).mono HWZ.out.size)
              have H2B : Hid (Two (wz.drewN nq) wc.heap.size P Q) := H2Z.out.drewN nq
              have e0 : (wz.drewN nq).cell? ⟨bo, oo + k * 5, none⟩ = some (.int .i64 x.id) := d0
              have e1 : (wz.drewN nq).cell? ⟨bo, oo + k * 5 + 1, none⟩ = some (.int .i64 x.ow) := d1
              have e2 : (wz.drewN nq).cell? ⟨bo, oo + k * 5 + 2, none⟩ = some (.int .i64 1) := d2
              have e3 : (wz.drewN nq).cell? ⟨bo, oo + k * 5 + 3, none⟩ = some (.int .i64 x.pr) := d3
              have e4 : (wz.drewN nq).cell? ⟨bo, oo + k * 5 + 4, none⟩ = some (.int .i64 x.q) := d4
              clear d0 d1 d2 d3 d4 t0 t1 g0 g1 HWZ H2Z
              generalize wz.drewN nq = wy at *
              obtain ⟨t0, t1, g0, g1⟩ := H2B.out
              go_wp2_with fail
              go_region
              go_wp2
              exact ⟨⟨k + 1, P, x.pr, by omega, by go_num, HP.out, HPN.out, (Two.drew H2B.out).set1 x.pr, (below_drew HWB.out).setCell (Nat.le_refl _) _⟩, by simp [intOf]; omega⟩
      · have hki : ¬ (k : Int) < n := by omega
        have HB2 := hide (HB.out.trans (HW.out.mono HB.out.size))
        go_wp2
        go_ret
        exact ⟨rfl, HB2.out⟩
theorem rationSame_any (a : Option Addr) (n cap : Nat) (price vol s1 s2 : Int) (l : List Cv.Lot) (T : TypeId) (v1 v2 v6 v7 : Value) (w : World) (he : Er w T v1 v6 v7) (c2 : w.cell? ⟨4, 0, none⟩ = some (.iface T v2)) (hl : l.length = n ∧ ArgLots w a l) (hu1 : Ra.IsU s1) (hu2 : Ra.IsU s2) :
    Calls Tryd.prog 5 #[.slice a n cap, .int .i64 price, .int .i64 vol, .int .u32 s1, .int .u32 s2] w fun e w' => e = .returned (.bool true) ∧ Below w.heap.size w w' := by
  by_cases hn : (60 : Int) < n
  · exact rs_big a n cap price vol s1 s2 T v1 v2 v6 v7 w he c2 hn
  by_cases hf : Ra.Fine l price vol
  · exact rs_fine a n cap price vol s1 s2 l _ _ T v1 v2 v6 v7 w he c2 hl.1 hn hl.2 hf hu1 hu2 rfl rfl
  · exact rs_bad a n cap price vol s1 s2 l T v1 v2 v6 v7 w he c2 hl.1 hn hl.2 hf
end Go.Proofs.YtbcinejhipmomaaDoor
