/- Give of a purse by its contract. -/
import Derived.BigRegion
import Derived.Test.YtjdnahmdicamdaaGreatDoorG06
namespace Go.Proofs.YtjdnahmdicamdaaGreatDoor
open Go.RowKit
set_option maxRecDepth 100000

def giftV (g : Pu.Gift) : Value := .agg #[.int .i64 g.s0, .int .i64 g.s1, .int .i64 g.s2]
/-- eight cells of the call's own -/
def Hs (w : World) (B : Nat) (T : TypeId) (v0 v1 v2 v3 v4 v5 v6 v7 : Int) : Prop := w.heap[B]? = some (.cells #[.int .i64 v0, .int .i64 v1, .int .i64 v2, .int .i64 v3, .int .i64 v4, .int .i64 v5, .int .i64 v6, .int .i64 v7] T (0, 0))

theorem hs_lt {w : World} {B : Nat} {T : TypeId} {a : Array Value} (h : w.heap[B]? = some (.cells a T (0, 0))) : B < w.heap.size := lt_of_block h
theorem p_hs_set {w : World} {B j : Nat} {T : TypeId} {a a' : Array Value} (v : Value) (h : w.heap[B]? = some (.cells a T (0, 0))) (e : a.setIfInBounds j v = a') : (w.setCell ⟨B, j, none⟩ v).heap[B]? = some (.cells a' T (0, 0)) := by
  rw [setCell_eq_setRow w B j _ _ _ _ h, e]
  exact setRow_heap w B _ _ _ _ h
theorem p_hs_cell {w : World} {B j : Nat} {T : TypeId} {a : Array Value} {v : Value} (h : w.heap[B]? = some (.cells a T (0, 0))) (e : a[j]? = some v) : w.cell? ⟨B, j, none⟩ = some v := by
  rw [cell_of_row w B j _ _ _ h, e]
theorem hs_free {w : World} {B j : Nat} {T : TypeId} {a : Array Value} (h : w.heap[B]? = some (.cells a T (0, 0))) : w.frozen? ⟨B, j, none⟩ = false := by
  simp [World.frozen?, h]
theorem put8_give {f : Nat → Int} {c : Nat} (cash s0 s1 s2 : Int) (j : Nat) :
    (if j = c * 8 + 7 then f (c * 8 + 7) else if j = c * 8 + 6 then f (c * 8 + 6) else if j = c * 8 + 5 then f (c * 8 + 5) else if j = c * 8 + 4 then f (c * 8 + 4) + s2 else if j = c * 8 + 3 then f (c * 8 + 3) + s1 else if j = c * 8 + 2 then f (c * 8 + 2) + s0 else if j = c * 8 + 1 then f (c * 8 + 1) else if j = c * 8 then f (c * 8) + cash else f j)
      = Pu.add (Pu.add (Pu.add (Pu.add f (c * 8) cash) (c * 8 + 2) s0) (c * 8 + 3) s1) (c * 8 + 4) s2 j := by
  simp only [Pu.add]
  by_cases h7 : j = c * 8 + 7
  · subst h7; simp
  by_cases h6 : j = c * 8 + 6
  · subst h6; simp
  by_cases h5 : j = c * 8 + 5
  · subst h5; simp
  by_cases h4 : j = c * 8 + 4
  · subst h4; simp
  by_cases h3 : j = c * 8 + 3
  · subst h3; simp
  by_cases h2 : j = c * 8 + 2
  · subst h2; simp
  by_cases h1 : j = c * 8 + 1
  · subst h1; simp
  by_cases h0 : j = c * 8
  · subst h0; simp
  simp [h0, h1, h2, h3, h4, h5, h6, h7]

set_option maxHeartbeats 2000000 in
theorem give_any (p : Nat) (g : Pu.Gift) (f : Nat → Int) (v : Nat → Value) (w : World) (he : Hid (PEr w v)) (hp : Hid (Purse w 105 p f)) (hg : Hid (Pu.Good f)) :
    Calls Tryz.prog 38 #[.pointer (some ⟨p, 0, none⟩), .int .i64 g.n, .int .i64 g.cash, giftV g] w fun e w' => e = .returned (errE v (Pu.giveC f g)) ∧ Purse w' 105 p (Pu.giveF f g) ∧ Save w w' p := by
  show Calls Tryz.prog 38 #[.pointer (some ⟨p, 0, none⟩), .int .i64 g.n, .int .i64 g.cash, .agg #[.int .i64 g.s0, .int .i64 g.s1, .int .i64 g.s2]] w _
  have hbW : Below w.heap.size w (w.alloc (.cells #[.int .i64 g.s0, .int .i64 g.s1, .int .i64 g.s2] 41)) := (Below.refl _ _).alloc (Nat.le_refl _) _
  have HBW := hide hbW
  have HI := hide (isClient_any g.n (w.alloc (.cells #[.int .i64 g.s0, .int .i64 g.s1, .int .i64 g.s2] 41)))
  have HN := hide (below_any g.cash g.s0 g.s1 g.s2 (w.alloc (.cells #[.int .i64 g.s0, .int .i64 g.s1, .int .i64 g.s2] 41)))
  have HX0 : Hid ((w.alloc (.cells #[.int .i64 g.s0, .int .i64 g.s1, .int .i64 g.s2] 41)).heap[w.heap.size]? = some (.cells #[.int .i64 g.s0, .int .i64 g.s1, .int .i64 g.s2] 41 (0, 0))) := heap_alloc_new _ _
  clear hbW
  cases hin : Wi.withinB g.n 0 5 with
  | false =>
    have HA : Hid (Pu.giveC f g = 1 ∧ Pu.giveF f g = f) := by
      have e : Pu.giveC f g = 1 := by unfold Pu.giveC Pu.Gift.fine; rw [hin]; rfl
      exact ⟨e, by unfold Pu.giveF; rw [e]; rfl⟩
    have e1 := (he.out.later HBW.out).er.c1
    rw [hin] at HI
    clear hin
    go_enter Tryz.func38, Tryz.ntmps38
    go_wp2_with fail
    refine HI.out.mono ?_
    rintro e w2 ⟨rfl, rfl⟩
    simp only []
    go_wp2
    go_ret
    exact ⟨by rw [HA.out.1]; rfl, by rw [HA.out.2]; exact hp.out.lat HBW.out, Save.of_below HBW.out p⟩
  | true =>
    rw [hin] at HI
    have Hin := hide hin
    clear hin
    cases hng : g.neg with
    | true =>
      have HA : Hid (Pu.giveC f g = 1 ∧ Pu.giveF f g = f) := by
        have e : Pu.giveC f g = 1 := by unfold Pu.giveC Pu.Gift.fine; rw [hng, Hin.out]; rfl
        exact ⟨e, by unfold Pu.giveF; rw [e]; rfl⟩
      rw [show (decide (g.s0 < 0) || decide (g.s1 < 0) || decide (g.s2 < 0) || decide (g.cash < 0)) = true from hng] at HN
      clear hng
      go_enter Tryz.func38, Tryz.ntmps38
      go_wp2_with fail
      refine HI.out.mono ?_
      rintro e w2 ⟨rfl, rfl⟩
      simp only []
      go_wp2_with fail
      refine HN.out.mono ?_
      rintro e w3 ⟨rfl, hb3⟩
      have HB3 : Hid (Below w.heap.size w w3) := HBW.out.trans (hb3.mono HBW.out.size)
      have e1 := (he.out.later HB3.out).er.c1
      clear hb3
      simp only []
      go_wp2
      go_ret
      exact ⟨by rw [HA.out.1]; rfl, by rw [HA.out.2]; exact hp.out.lat HB3.out, Save.of_below HB3.out p⟩
    | false =>
      rw [show (decide (g.s0 < 0) || decide (g.s1 < 0) || decide (g.s2 < 0) || decide (g.cash < 0)) = false from hng] at HN
      have HF : Hid (g.fine = true) := by show _ = _; unfold Pu.Gift.fine; rw [Hin.out, hng]; rfl
      obtain ⟨c, hc, hc6⟩ : ∃ c : Nat, g.n = c ∧ c < 6 := by
        have := Hin.out
        simp only [Wi.withinB, Bool.and_eq_true, decide_eq_true_eq] at this
        exact ⟨g.n.toNat, by omega, by omega⟩
      have hpos : 0 ≤ g.s0 ∧ 0 ≤ g.s1 ∧ 0 ≤ g.s2 ∧ 0 ≤ g.cash := by
        simp only [Pu.Gift.neg, Bool.or_eq_false_iff, decide_eq_false_iff_not] at hng
        omega
      clear hng
      obtain ⟨p0, p1, p2, p3⟩ := hpos
      have hci : (c : Int) < 6 := by omega
      have g1 := hg.out.cash c hc6
      have g2 := hg.out.stock c 0 hc6 (by decide)
      have g3 := hg.out.stock c 1 hc6 (by decide)
      have g4 := hg.out.stock c 2 hc6 (by decide)
      simp only [Nat.add_zero, Nat.add_assoc, Nat.reduceAdd] at g1 g2 g3 g4
      have HP2 := hp.out.lat HBW.out
      rw [hc] at HI ⊢
      have i0 := @ix0
      have i1 := @ix1
      have i2 := @ix2
      go_enter Tryz.func38, Tryz.ntmps38
      go_wp2_with fail
      refine HI.out.mono ?_
      rintro e w2 ⟨rfl, rfl⟩
      simp only []
      go_wp2_with fail
      refine HN.out.mono ?_
      rintro e w3 ⟨rfl, hb3⟩
      have HB3 : Hid (Below w.heap.size w w3) := HBW.out.trans (hb3.mono HBW.out.size)
      have hX : w3.heap[w.heap.size]? = some (.cells #[.int .i64 g.s0, .int .i64 g.s1, .int .i64 g.s2] 41 (0, 0)) := by
        rw [hb3.block _ (lt_of_block HX0.out)]; exact HX0.out
      have hP3 := hp.out.lat HB3.out
      have HP3 := hide hP3
      have x0 : w3.cell? ⟨w.heap.size, 0, none⟩ = some (.int .i64 g.s0) := by simp [World.cell?, hX]
      have x1 : w3.cell? ⟨w.heap.size, 1, none⟩ = some (.int .i64 g.s1) := by simp [World.cell?, hX]
      have x2 : w3.cell? ⟨w.heap.size, 2, none⟩ = some (.int .i64 g.s2) := by simp [World.cell?, hX]
      have HX := hide (And.intro x0 (And.intro x1 x2))
      clear x0 x1 x2
      have hwl : w.heap.size < w3.heap.size := lt_of_block hX
      have hpl : p < w3.heap.size := hP3.lt
      have HPU : Hid (∀ w' a0 a2 a3 a4, Purse w' 105 p f → a0 = f (c * 8) + g.cash → a2 = f (c * 8 + 2) + g.s0 → a3 = f (c * 8 + 3) + g.s1 → a4 = f (c * 8 + 4) + g.s2 →
          Purse ((((((((w'.setCell ⟨p, c * 8, none⟩ (.int .i64 a0)).setCell ⟨p, c * 8 + 1, none⟩ (.int .i64 (f (c * 8 + 1)))).setCell ⟨p, c * 8 + 2, none⟩ (.int .i64 a2)).setCell ⟨p, c * 8 + 3, none⟩ (.int .i64 a3)).setCell ⟨p, c * 8 + 4, none⟩ (.int .i64 a4)).setCell ⟨p, c * 8 + 5, none⟩ (.int .i64 (f (c * 8 + 5)))).setCell ⟨p, c * 8 + 6, none⟩ (.int .i64 (f (c * 8 + 6)))).setCell ⟨p, c * 8 + 7, none⟩ (.int .i64 (f (c * 8 + 7)))) 105 p
            (Pu.add (Pu.add (Pu.add (Pu.add f (c * 8) g.cash) (c * 8 + 2) g.s0) (c * 8 + 3) g.s1) (c * 8 + 4) g.s2)) := by
        intro w' a0 a2 a3 a4 h e0 e2 e3 e4
        subst e0 e2 e3 e4
        exact (h.put8 c _ _ _ _ _ _ _ _).congr fun j _ => put8_give _ _ _ _ j
      have HOV : Hid (g.over f = (decide (1099511627776 - f (c * 8) < g.cash) || decide (1073741824 - f (c * 8 + 2) < g.s0) || decide (1073741824 - f (c * 8 + 3) < g.s1) || decide (1073741824 - f (c * 8 + 4) < g.s2))) := by
        show _ = _; unfold Pu.Gift.over; rw [hc, Int.toNat_natCast]
      have HFU : Hid (g.over f = true → Pu.giveC f g = 7 ∧ Pu.giveF f g = f) := fun h => by
        have e : Pu.giveC f g = 7 := by unfold Pu.giveC; rw [if_pos HF.out, if_pos h]
        exact ⟨e, by unfold Pu.giveF; rw [e]; rfl⟩
      have HZE : Hid (g.over f = false → Pu.giveC f g = 0 ∧ Pu.giveF f g = Pu.add (Pu.add (Pu.add (Pu.add f (c * 8) g.cash) (c * 8 + 2) g.s0) (c * 8 + 3) g.s1) (c * 8 + 4) g.s2) := fun h => by
        have e : Pu.giveC f g = 0 := by unfold Pu.giveC; rw [if_pos HF.out, if_neg (by rw [h]; simp)]
        exact ⟨e, by unfold Pu.giveF; rw [if_pos e, hc, Int.toNat_natCast]⟩
      have HC8 : Hid (∀ w', Below w3.heap.size w3 w' → (∀ i, i < 48 → w'.cell? ⟨p, i, none⟩ = some (.int .i64 (f i))) ∧ ∀ i, w'.frozen? ⟨p, i, none⟩ = false) := fun w' hb => ⟨fun i hi => (hP3.lat hb).cell hi, fun i => (hP3.lat hb).frozen i⟩
      have hcl := (HC8.out w3 (Below.refl _ _)).1
      have c0 := hcl (c * 8) (by omega)
      have c1 := hcl (c * 8 + 1) (by omega)
      have c2 := hcl (c * 8 + 2) (by omega)
      have c3 := hcl (c * 8 + 3) (by omega)
      have c4 := hcl (c * 8 + 4) (by omega)
      have c5 := hcl (c * 8 + 5) (by omega)
      have c6 := hcl (c * 8 + 6) (by omega)
      have c7 := hcl (c * 8 + 7) (by omega)
      clear hb3 hX hP3 HI HN HX0 HP2 hcl
      generalize f (c * 8) = u0 at *
      generalize f (c * 8 + 1) = u1 at *
      generalize f (c * 8 + 2) = u2 at *
      generalize f (c * 8 + 3) = u3 at *
      generalize f (c * 8 + 4) = u4 at *
      generalize f (c * 8 + 5) = u5 at *
      generalize f (c * 8 + 6) = u6 at *
      generalize f (c * 8 + 7) = u7 at *
      generalize hca : g.cash = ca at *
      generalize hs0 : g.s0 = s0 at *
      generalize hs1 : g.s1 = s1 at *
      generalize hs2 : g.s2 = s2 at *
      clear hca hs0 hs1 hs2
      have HH : Hid ((w3.alloc (.cells #[.int .i64 u0, .int .i64 u1, .int .i64 u2, .int .i64 u3, .int .i64 u4, .int .i64 u5, .int .i64 u6, .int .i64 u7] 60)).heap[w3.heap.size]? = some (.cells #[.int .i64 u0, .int .i64 u1, .int .i64 u2, .int .i64 u3, .int .i64 u4, .int .i64 u5, .int .i64 u6, .int .i64 u7] 60 (0, 0))) := heap_alloc_new _ _
      have HBB : Hid (Below w3.heap.size w3 (w3.alloc (.cells #[.int .i64 u0, .int .i64 u1, .int .i64 u2, .int .i64 u3, .int .i64 u4, .int .i64 u5, .int .i64 u6, .int .i64 u7] 60))) := (Below.refl _ _).alloc (Nat.le_refl _) _
      simp only []
      go_wp2_with fail
      clear c0 c1 c2 c3 c4 c5 c6 c7
      generalize w3.alloc (.cells #[.int .i64 u0, .int .i64 u1, .int .i64 u2, .int .i64 u3, .int .i64 u4, .int .i64 u5, .int .i64 u6, .int .i64 u7] 60) = w4 at *
      by_cases o0 : 1099511627776 - u0 < ca
      · have HO : Hid (g.over f = true) := by show _ = _; rw [HOV.out]; simp [o0]
        refine (grow_no w3.heap.size 0 u0 ca 1099511627776 w4 (p_hs_cell HH.out rfl) (by omega) (by omega) (by omega) o0).mono ?_
        rintro e wz ⟨rfl, rfl⟩
        have HBz : Hid (Below w.heap.size w wz) := HB3.out.trans (HBB.out.mono HB3.out.size)
        have e7 := (he.out.later HBz.out).er.c7
        simp only []
        go_wp2
        go_ret
        exact ⟨by rw [(HFU.out HO.out).1]; rfl, by rw [(HFU.out HO.out).2]; exact HP3.out.lat HBB.out, Save.of_below HBz.out p⟩
      refine (grow_yes w3.heap.size 0 u0 ca 1099511627776 w4 (p_hs_cell HH.out rfl) (hs_free HH.out) (by omega) (by omega) (by omega) (by omega) o0).mono ?_
      rintro e w5 ⟨rfl, hw5⟩
      have HH0 : Hid (w5.heap[w3.heap.size]? = some (.cells #[.int .i64 (u0 + ca), .int .i64 u1, .int .i64 u2, .int .i64 u3, .int .i64 u4, .int .i64 u5, .int .i64 u6, .int .i64 u7] 60 (0, 0))) := by rw [hw5]; exact p_hs_set _ HH.out rfl
      have HBB0 : Hid (Below w3.heap.size w3 w5) := by rw [hw5]; exact HBB.out.setCell (Nat.le_refl _) _
      clear HH HBB hw5
      rename Hid (w5.heap[w3.heap.size]? = _) => HH
      rename Hid (Below w3.heap.size w3 w5) => HBB
      simp only []
      have x0 := cell_later HBB.out HX.out.1
      have x1 := cell_later HBB.out HX.out.2.1
      have x2 := cell_later HBB.out HX.out.2.2
      go_wp2_with fail
      clear x0 x1 x2
      refine wp_loop_rounds 4 ?_
      rw [rounds_succ]
      go_wp2_with fail
      by_cases o1 : 1073741824 - u2 < s0
      · have HO : Hid (g.over f = true) := by show _ = _; rw [HOV.out]; simp [o1]
        refine (grow_no w3.heap.size 2 u2 s0 1073741824 w5 (p_hs_cell HH.out rfl) (by omega) (by omega) (by omega) o1).mono ?_
        rintro e wz ⟨rfl, rfl⟩
        have HBz : Hid (Below w.heap.size w wz) := HB3.out.trans (HBB.out.mono HB3.out.size)
        have e7 := (he.out.later HBz.out).er.c7
        simp only []
        go_wp2
        go_ret
        exact ⟨by rw [(HFU.out HO.out).1]; rfl, by rw [(HFU.out HO.out).2]; exact HP3.out.lat HBB.out, Save.of_below HBz.out p⟩
      refine (grow_yes w3.heap.size 2 u2 s0 1073741824 w5 (p_hs_cell HH.out rfl) (hs_free HH.out) (by omega) (by omega) (by omega) (by omega) o1).mono ?_
      rintro e w6 ⟨rfl, hw6⟩
      have HH1 : Hid (w6.heap[w3.heap.size]? = some (.cells #[.int .i64 (u0 + ca), .int .i64 u1, .int .i64 (u2 + s0), .int .i64 u3, .int .i64 u4, .int .i64 u5, .int .i64 u6, .int .i64 u7] 60 (0, 0))) := by rw [hw6]; exact p_hs_set _ HH.out rfl
      have HBB1 : Hid (Below w3.heap.size w3 w6) := by rw [hw6]; exact HBB.out.setCell (Nat.le_refl _) _
      clear HH HBB hw6
      rename Hid (w6.heap[w3.heap.size]? = _) => HH
      rename Hid (Below w3.heap.size w3 w6) => HBB
      simp only []
      go_wp2_with fail
      rw [rounds_succ]
      go_wp2_with fail
      by_cases o2 : 1073741824 - u3 < s1
      · have HO : Hid (g.over f = true) := by show _ = _; rw [HOV.out]; simp [o2]
        refine (grow_no w3.heap.size 3 u3 s1 1073741824 w6 (p_hs_cell HH.out rfl) (by omega) (by omega) (by omega) o2).mono ?_
        rintro e wz ⟨rfl, rfl⟩
        have HBz : Hid (Below w.heap.size w wz) := HB3.out.trans (HBB.out.mono HB3.out.size)
        have e7 := (he.out.later HBz.out).er.c7
        simp only []
        go_wp2
        go_ret
        exact ⟨by rw [(HFU.out HO.out).1]; rfl, by rw [(HFU.out HO.out).2]; exact HP3.out.lat HBB.out, Save.of_below HBz.out p⟩
      refine (grow_yes w3.heap.size 3 u3 s1 1073741824 w6 (p_hs_cell HH.out rfl) (hs_free HH.out) (by omega) (by omega) (by omega) (by omega) o2).mono ?_
      rintro e w7 ⟨rfl, hw7⟩
      have HH2 : Hid (w7.heap[w3.heap.size]? = some (.cells #[.int .i64 (u0 + ca), .int .i64 u1, .int .i64 (u2 + s0), .int .i64 (u3 + s1), .int .i64 u4, .int .i64 u5, .int .i64 u6, .int .i64 u7] 60 (0, 0))) := by rw [hw7]; exact p_hs_set _ HH.out rfl
      have HBB2 : Hid (Below w3.heap.size w3 w7) := by rw [hw7]; exact HBB.out.setCell (Nat.le_refl _) _
      clear HH HBB hw7
      rename Hid (w7.heap[w3.heap.size]? = _) => HH
      rename Hid (Below w3.heap.size w3 w7) => HBB
      simp only []
      go_wp2_with fail
      rw [rounds_succ]
      go_wp2_with fail
      by_cases o3 : 1073741824 - u4 < s2
      · have HO : Hid (g.over f = true) := by show _ = _; rw [HOV.out]; simp [o3]
        refine (grow_no w3.heap.size 4 u4 s2 1073741824 w7 (p_hs_cell HH.out rfl) (by omega) (by omega) (by omega) o3).mono ?_
        rintro e wz ⟨rfl, rfl⟩
        have HBz : Hid (Below w.heap.size w wz) := HB3.out.trans (HBB.out.mono HB3.out.size)
        have e7 := (he.out.later HBz.out).er.c7
        simp only []
        go_wp2
        go_ret
        exact ⟨by rw [(HFU.out HO.out).1]; rfl, by rw [(HFU.out HO.out).2]; exact HP3.out.lat HBB.out, Save.of_below HBz.out p⟩
      refine (grow_yes w3.heap.size 4 u4 s2 1073741824 w7 (p_hs_cell HH.out rfl) (hs_free HH.out) (by omega) (by omega) (by omega) (by omega) o3).mono ?_
      rintro e w8 ⟨rfl, hw8⟩
      have HH3 : Hid (w8.heap[w3.heap.size]? = some (.cells #[.int .i64 (u0 + ca), .int .i64 u1, .int .i64 (u2 + s0), .int .i64 (u3 + s1), .int .i64 (u4 + s2), .int .i64 u5, .int .i64 u6, .int .i64 u7] 60 (0, 0))) := by rw [hw8]; exact p_hs_set _ HH.out rfl
      have HBB3 : Hid (Below w3.heap.size w3 w8) := by rw [hw8]; exact HBB.out.setCell (Nat.le_refl _) _
      clear HH HBB hw8
      rename Hid (w8.heap[w3.heap.size]? = _) => HH
      rename Hid (Below w3.heap.size w3 w8) => HBB
      simp only []
      go_wp2_with fail
      rw [rounds_succ]
      go_wp2_with fail
      have HO : Hid (g.over f = false) := by show _ = _; rw [HOV.out]; simp [o0, o1, o2, o3]
      have d0 : w8.cell? ⟨w3.heap.size, 0, none⟩ = some (.int .i64 (u0 + ca)) := p_hs_cell HH.out rfl
      have d1 : w8.cell? ⟨w3.heap.size, 1, none⟩ = some (.int .i64 (u1)) := p_hs_cell HH.out rfl
      have d2 : w8.cell? ⟨w3.heap.size, 2, none⟩ = some (.int .i64 (u2 + s0)) := p_hs_cell HH.out rfl
      have d3 : w8.cell? ⟨w3.heap.size, 3, none⟩ = some (.int .i64 (u3 + s1)) := p_hs_cell HH.out rfl
      have d4 : w8.cell? ⟨w3.heap.size, 4, none⟩ = some (.int .i64 (u4 + s2)) := p_hs_cell HH.out rfl
      have d5 : w8.cell? ⟨w3.heap.size, 5, none⟩ = some (.int .i64 (u5)) := p_hs_cell HH.out rfl
      have d6 : w8.cell? ⟨w3.heap.size, 6, none⟩ = some (.int .i64 (u6)) := p_hs_cell HH.out rfl
      have d7 : w8.cell? ⟨w3.heap.size, 7, none⟩ = some (.int .i64 (u7)) := p_hs_cell HH.out rfl
      have hfz := fun i => (HC8.out _ HBB.out).2 i
      have hcl := (HC8.out _ HBB.out).1
      have c0 := hcl (c * 8) (by omega)
      have c1 := hcl (c * 8 + 1) (by omega)
      have c2 := hcl (c * 8 + 2) (by omega)
      have c3 := hcl (c * 8 + 3) (by omega)
      have c4 := hcl (c * 8 + 4) (by omega)
      have c5 := hcl (c * 8 + 5) (by omega)
      have c6 := hcl (c * 8 + 6) (by omega)
      have c7 := hcl (c * 8 + 7) (by omega)
      have z0 := hfz (c * 8)
      have z1 := hfz (c * 8 + 1)
      have z2 := hfz (c * 8 + 2)
      have z3 := hfz (c * 8 + 3)
      have z4 := hfz (c * 8 + 4)
      have z5 := hfz (c * 8 + 5)
      have z6 := hfz (c * 8 + 6)
      have z7 := hfz (c * 8 + 7)
      clear hfz hcl
      refine region_quiet_tail 6 (by kernel_rfl) (by kernel_rfl) ?_
      simp only [List.take_succ_cons, List.take_zero, List.drop_succ_cons, List.drop_zero]
      repeat (first | go_big_quiet_step (fail) | quiet_step (fail))
      refine wpQuiet_nil ?_
      intro _ hw'
      obtain ⟨nq, hw''⟩ := hw'
      subst hw''
      go_wp2
      go_ret
      have hb9 : Below w.heap.size w (w8.drewN nq) := (HB3.out.trans (HBB.out.mono HB3.out.size)).trans ((blw_drew nq).mono (HB3.out.trans (HBB.out.mono HB3.out.size)).size)
      refine ⟨by rw [(HZE.out HO.out).1]; rfl, by rw [(HZE.out HO.out).2]; exact HPU.out _ _ _ _ _ ((HP3.out.lat HBB.out).drew nq) rfl rfl rfl rfl, ?_⟩
      exact ((((((((Save.of_below hb9 p).trans (Save.setCell _ _ _ _)).trans (Save.setCell _ _ _ _)).trans (Save.setCell _ _ _ _)).trans (Save.setCell _ _ _ _)).trans (Save.setCell _ _ _ _)).trans (Save.setCell _ _ _ _)).trans (Save.setCell _ _ _ _)).trans (Save.setCell _ _ _ _)
end Go.Proofs.YtjdnahmdicamdaaGreatDoor
/- checkTrade of package purse by its contract. -/
namespace Go.Proofs.YtjdnahmdicamdaaGreatDoor
open Go.RowKit
set_option maxRecDepth 100000

/-- what the errors that a trade answers hold -/
structure TEr (w : World) (v : Nat → Value) : Prop where
  per : PEr w v
  c2 : w.cell? ⟨7, 0, none⟩ = some (.iface 252 (v 2))
  c11 : w.cell? ⟨11, 0, none⟩ = some (.iface 252 (v 11))
theorem TEr.later {w w' : World} {v : Nat → Value} (h : TEr w v) (hb : Below w.heap.size w w') : TEr w' v := ⟨h.per.later hb, cell_later hb h.c2, cell_later hb h.c11⟩
theorem TEr.save {w w' : World} {v : Nat → Value} {p : Nat} (h : TEr w v) (hs : Save w w' p) (hp : 12 < p) : TEr w' v :=
  ⟨h.per.save hs hp, cell_save hs h.c2 (by show 7 ≠ p; omega), cell_save hs h.c11 (by show 11 ≠ p; omega)⟩

def lotA (x : Cv.Lot) : Array Value := #[.int .i64 x.id, .int .i64 x.ow, .int .i64 x.sd, .int .i64 x.pr, .int .i64 x.q]

set_option maxHeartbeats 2000000 in
theorem check_any (item : Int) (b s : Cv.Lot) (price qty : Int) (v : Nat → Value) (w : World) (he : Hid (TEr w v)) :
    Calls Tryz.prog 137 #[.int .i64 item, lotV b, lotV s, .int .i64 price, .int .i64 qty] w fun e w' => e = .returned (errE v (Pu.tchk item b s price qty)) ∧ Below w.heap.size w w' := by
  show Calls Tryz.prog 137 #[.int .i64 item, .agg #[.int .i64 b.id, .int .i64 b.ow, .int .i64 b.sd, .int .i64 b.pr, .int .i64 b.q], .agg #[.int .i64 s.id, .int .i64 s.ow, .int .i64 s.sd, .int .i64 s.pr, .int .i64 s.q], .int .i64 price, .int .i64 qty] w _
  obtain ⟨W, hWd⟩ : ∃ W, (w.alloc (.cells #[.int .i64 b.id, .int .i64 b.ow, .int .i64 b.sd, .int .i64 b.pr, .int .i64 b.q] 56)).alloc (.cells #[.int .i64 s.id, .int .i64 s.ow, .int .i64 s.sd, .int .i64 s.pr, .int .i64 s.q] 56) = W := ⟨_, rfl⟩
  have hb1 : Below w.heap.size w (w.alloc (.cells #[.int .i64 b.id, .int .i64 b.ow, .int .i64 b.sd, .int .i64 b.pr, .int .i64 b.q] 56)) := (Below.refl _ _).alloc (Nat.le_refl _) _
  have hb2 : Below w.heap.size w W := by rw [← hWd]; exact hb1.alloc hb1.size _
  have hX0 : W.heap[w.heap.size]? = some (.cells (lotA b) 56 (0, 0)) := by
    rw [← hWd]
    exact (Below.heap_alloc _ _ _ (by simp)).trans (heap_alloc_new _ _)
  have hY0 : W.heap[w.heap.size + 1]? = some (.cells (lotA s) 56 (0, 0)) := by
    rw [← hWd]
    have := heap_alloc_new (w.alloc (.cells #[.int .i64 b.id, .int .i64 b.ow, .int .i64 b.sd, .int .i64 b.pr, .int .i64 b.q] 56)) (.cells #[.int .i64 s.id, .int .i64 s.ow, .int .i64 s.sd, .int .i64 s.pr, .int .i64 s.q] 56)
    rw [show (w.alloc (.cells #[.int .i64 b.id, .int .i64 b.ow, .int .i64 b.sd, .int .i64 b.pr, .int .i64 b.q] 56)).heap.size = w.heap.size + 1 by simp] at this
    exact this
  have HX0 := hide hX0; have HY0 := hide hY0; have HBW := hide hb2
  have HC := hide (isWell_any item b 252 _ _ _ W (he.out.later hb2).per.er)
  unfold lotV at HC
  have HWd := hide hWd
  clear hb1 hb2 hX0 hY0 hWd
  go_enter Tryz.func137, Tryz.ntmps137
  go_wp2_with fail
  rw [HWd.out]
  clear HWd
  refine HC.out.mono ?_
  rintro e w2 ⟨rfl, hb2⟩
  have HB : Hid (Below w.heap.size w w2) := HBW.out.trans (hb2.mono HBW.out.size)
  have HX : Hid (w2.heap[w.heap.size]? = some (.cells (lotA b) 56 (0, 0))) := by show _ = _; rw [hb2.block _ (lt_of_block HX0.out)]; exact HX0.out
  have HY : Hid (w2.heap[w.heap.size + 1]? = some (.cells (lotA s) 56 (0, 0))) := by show _ = _; rw [hb2.block _ (lt_of_block HY0.out)]; exact HY0.out
  clear hb2 HC HBW HX0 HY0
  cases hwb : Pu.well item b with
  | false =>
    have HA : Hid (Pu.tchk item b s price qty = 1) := by show _ = _; unfold Pu.tchk; rw [if_neg (by rw [hwb]; simp)]
    have e1 := (he.out.later HB.out).per.er.c1
    clear hwb
    simp only []
    go_wp2
    go_ret
    exact ⟨by rw [HA.out]; rfl, HB.out⟩
  | true =>
    have Hwb := hide hwb
    clear hwb
    have HC := hide (isWell_any item s 252 _ _ _ w2 (he.out.later HB.out).per.er)
    unfold lotV at HC
    have s0 : w2.cell? ⟨w.heap.size + 1, 0, none⟩ = some (.int .i64 s.id) := p_hs_cell HY.out rfl
    have s1 : w2.cell? ⟨w.heap.size + 1, 1, none⟩ = some (.int .i64 s.ow) := p_hs_cell HY.out rfl
    have s2 : w2.cell? ⟨w.heap.size + 1, 2, none⟩ = some (.int .i64 s.sd) := p_hs_cell HY.out rfl
    have s3 : w2.cell? ⟨w.heap.size + 1, 3, none⟩ = some (.int .i64 s.pr) := p_hs_cell HY.out rfl
    have s4 : w2.cell? ⟨w.heap.size + 1, 4, none⟩ = some (.int .i64 s.q) := p_hs_cell HY.out rfl
    simp only []
    go_wp2_with fail
    refine HC.out.mono ?_
    rintro e w3 ⟨rfl, hb3⟩
    have HB3 : Hid (Below w.heap.size w w3) := HB.out.trans (hb3.mono HB.out.size)
    have HX3 : Hid (w3.heap[w.heap.size]? = some (.cells (lotA b) 56 (0, 0))) := by show _ = _; rw [hb3.block _ (lt_of_block HX.out)]; exact HX.out
    have HY3 : Hid (w3.heap[w.heap.size + 1]? = some (.cells (lotA s) 56 (0, 0))) := by show _ = _; rw [hb3.block _ (lt_of_block HY.out)]; exact HY.out
    clear hb3 HC HX HY s0 s1 s2 s3 s4 HB
    have HE := hide (he.out.later HB3.out)
    cases hws : Pu.well item s with
    | false =>
      have HA : Hid (Pu.tchk item b s price qty = 1) := by show _ = _; unfold Pu.tchk; rw [if_neg (by rw [hws]; simp)]
      have e1 := HE.out.per.er.c1
      clear hws
      simp only []
      go_wp2
      go_ret
      exact ⟨by rw [HA.out]; rfl, HB3.out⟩
    | true =>
      have Hws := hide hws
      clear hws
      have HT : Hid (Pu.tchk item b s price qty = if b.sd = 0 ∧ s.sd = 1 then (if (1 ≤ price ∧ price ≤ 1000) ∧ 1 ≤ qty ∧ qty ≤ b.q ∧ qty ≤ s.q then (if s.pr ≤ price ∧ price ≤ b.pr then 0 else 11) else 1) else 2) := by show _ = _; unfold Pu.tchk; rw [if_pos ⟨Hwb.out, Hws.out⟩]
      have hbq := (Cv.ok_bounds (Pu.well_ok Hwb.out)).2.2.2.2
      have hsq := (Cv.ok_bounds (Pu.well_ok Hws.out)).2.2.2.2
      have b2 : w3.cell? ⟨w.heap.size, 2, none⟩ = some (.int .i64 b.sd) := p_hs_cell HX3.out rfl
      have b3 : w3.cell? ⟨w.heap.size, 3, none⟩ = some (.int .i64 b.pr) := p_hs_cell HX3.out rfl
      have b4 : w3.cell? ⟨w.heap.size, 4, none⟩ = some (.int .i64 b.q) := p_hs_cell HX3.out rfl
      have s2 : w3.cell? ⟨w.heap.size + 1, 2, none⟩ = some (.int .i64 s.sd) := p_hs_cell HY3.out rfl
      have s3 : w3.cell? ⟨w.heap.size + 1, 3, none⟩ = some (.int .i64 s.pr) := p_hs_cell HY3.out rfl
      have s4 : w3.cell? ⟨w.heap.size + 1, 4, none⟩ = some (.int .i64 s.q) := p_hs_cell HY3.out rfl
      obtain ⟨R, hR⟩ : ∃ R, Pu.tchk item b s price qty = R := ⟨_, rfl⟩
      have HR := hide hR
      rw [hR] at HT
      clear hR
      generalize b.sd = bsd at *
      generalize b.pr = bpr at *
      generalize b.q = bq at *
      generalize s.sd = ssd at *
      generalize s.pr = spr at *
      generalize s.q = sq at *
      have c1 := HE.out.per.er.c1
      have c2 := HE.out.c2
      have c11 := HE.out.c11
      by_cases hbs : bsd = 0
      · by_cases hss : ssd = 1
        · have HT2 : Hid (R = if (1 ≤ price ∧ price ≤ 1000) ∧ 1 ≤ qty ∧ qty ≤ bq ∧ qty ≤ sq then (if spr ≤ price ∧ price ≤ bpr then 0 else 11) else 1) := by show _ = _; rw [HT.out, if_pos ⟨hbs, hss⟩]
          subst hbs hss
          clear HT
          have HP := hide (within_any price 1 1000 w3)
          cases hpr : Wi.withinB price 1 1000 with
          | false =>
            rw [hpr] at HP
            have HA : Hid (R = 1) := by
              show _ = _
              rw [HT2.out, if_neg]
              rintro ⟨h, _⟩
              rw [show Wi.withinB price 1 1000 = true by simp [Wi.withinB, h.1, h.2]] at hpr
              cases hpr
            clear hpr
            simp only []
            go_wp2_with fail
            refine HP.out.mono ?_
            rintro e w4 ⟨rfl, rfl⟩
            simp only []
            go_wp2
            go_ret
            exact ⟨by rw [HR.out, HA.out]; rfl, HB3.out⟩
          | true =>
            rw [hpr] at HP
            have Hpr : Hid (1 ≤ price ∧ price ≤ 1000) := by
              have := hpr
              simp only [Wi.withinB, Bool.and_eq_true, decide_eq_true_eq] at this
              exact this
            clear hpr
            simp only []
            go_wp2_with fail
            refine HP.out.mono ?_
            rintro e w4 ⟨rfl, rfl⟩
            simp only []
            by_cases hmn : sq < bq
            · cases hqr : Wi.withinB qty 1 sq with
              | false =>
                have HA : Hid (R = 1) := by
                  show _ = _
                  rw [HT2.out, if_neg]
                  rintro ⟨_, h1, h2, h3⟩
                  rw [show Wi.withinB qty 1 sq = true by simp only [Wi.withinB, Bool.and_eq_true, decide_eq_true_eq]; omega] at hqr
                  cases hqr
                have HQ := hide (within_any qty 1 sq w4)
                rw [hqr] at HQ
                clear hqr
                go_wp2_with fail
                refine HQ.out.mono ?_
                rintro e w5 ⟨rfl, rfl⟩
                simp only []
                go_wp2
                go_ret
                exact ⟨by rw [HR.out, HA.out]; rfl, HB3.out⟩
              | true =>
                have HT3 : Hid (R = if spr ≤ price ∧ price ≤ bpr then 0 else 11) := by
                  have := hqr
                  simp only [Wi.withinB, Bool.and_eq_true, decide_eq_true_eq] at this
                  show _ = _
                  rw [HT2.out, if_pos ⟨Hpr.out, by omega, by omega, by omega⟩]
                have HQ := hide (within_any qty 1 sq w4)
                rw [hqr] at HQ
                clear hqr
                go_wp2_with fail
                refine HQ.out.mono ?_
                rintro e w5 ⟨rfl, rfl⟩
                simp only []
                have HO := hide (within_any price spr bpr w5)
                cases hor : Wi.withinB price spr bpr with
                | false =>
                  have HA : Hid (R = 11) := by
                    show _ = _
                    rw [HT3.out, if_neg]
                    rintro ⟨h1, h2⟩
                    rw [show Wi.withinB price spr bpr = true by simp [Wi.withinB, h1, h2]] at hor
                    cases hor
                  rw [hor] at HO
                  clear hor
                  go_wp2_with fail
                  refine HO.out.mono ?_
                  rintro e w6 ⟨rfl, rfl⟩
                  simp only []
                  go_wp2
                  go_ret
                  exact ⟨by rw [HR.out, HA.out]; rfl, HB3.out⟩
                | true =>
                  have HA : Hid (R = 0) := by
                    have := hor
                    simp only [Wi.withinB, Bool.and_eq_true, decide_eq_true_eq] at this
                    show _ = _
                    rw [HT3.out, if_pos this]
                  rw [hor] at HO
                  clear hor
                  go_wp2_with fail
                  refine HO.out.mono ?_
                  rintro e w6 ⟨rfl, rfl⟩
                  simp only []
                  go_wp2
                  go_ret
                  exact ⟨by rw [HR.out, HA.out]; rfl, HB3.out⟩
            · have hmn' : bq ≤ sq := by omega
              cases hqr : Wi.withinB qty 1 bq with
              | false =>
                have HA : Hid (R = 1) := by
                  show _ = _
                  rw [HT2.out, if_neg]
                  rintro ⟨_, h1, h2, h3⟩
                  rw [show Wi.withinB qty 1 bq = true by simp only [Wi.withinB, Bool.and_eq_true, decide_eq_true_eq]; omega] at hqr
                  cases hqr
                have HQ := hide (within_any qty 1 bq w4)
                rw [hqr] at HQ
                clear hqr
                go_wp2_with fail
                refine HQ.out.mono ?_
                rintro e w5 ⟨rfl, rfl⟩
                simp only []
                go_wp2
                go_ret
                exact ⟨by rw [HR.out, HA.out]; rfl, HB3.out⟩
              | true =>
                have HT3 : Hid (R = if spr ≤ price ∧ price ≤ bpr then 0 else 11) := by
                  have := hqr
                  simp only [Wi.withinB, Bool.and_eq_true, decide_eq_true_eq] at this
                  show _ = _
                  rw [HT2.out, if_pos ⟨Hpr.out, by omega, by omega, by omega⟩]
                have HQ := hide (within_any qty 1 bq w4)
                rw [hqr] at HQ
                clear hqr
                go_wp2_with fail
                refine HQ.out.mono ?_
                rintro e w5 ⟨rfl, rfl⟩
                simp only []
                have HO := hide (within_any price spr bpr w5)
                cases hor : Wi.withinB price spr bpr with
                | false =>
                  have HA : Hid (R = 11) := by
                    show _ = _
                    rw [HT3.out, if_neg]
                    rintro ⟨h1, h2⟩
                    rw [show Wi.withinB price spr bpr = true by simp [Wi.withinB, h1, h2]] at hor
                    cases hor
                  rw [hor] at HO
                  clear hor
                  go_wp2_with fail
                  refine HO.out.mono ?_
                  rintro e w6 ⟨rfl, rfl⟩
                  simp only []
                  go_wp2
                  go_ret
                  exact ⟨by rw [HR.out, HA.out]; rfl, HB3.out⟩
                | true =>
                  have HA : Hid (R = 0) := by
                    have := hor
                    simp only [Wi.withinB, Bool.and_eq_true, decide_eq_true_eq] at this
                    show _ = _
                    rw [HT3.out, if_pos this]
                  rw [hor] at HO
                  clear hor
                  go_wp2_with fail
                  refine HO.out.mono ?_
                  rintro e w6 ⟨rfl, rfl⟩
                  simp only []
                  go_wp2
                  go_ret
                  exact ⟨by rw [HR.out, HA.out]; rfl, HB3.out⟩
        · have HA : Hid (R = 2) := by show _ = _; rw [HT.out, if_neg (by rintro ⟨h1, h2⟩; first | exact hbs h1 | exact hss h2)]
          have hss2 : (ssd == 1) = false := by simp [hss]
          subst hbs
          simp only []
          go_wp2
          go_ret
          exact ⟨by rw [HR.out, HA.out]; rfl, HB3.out⟩
      · have HA : Hid (R = 2) := by show _ = _; rw [HT.out, if_neg (by rintro ⟨h1, h2⟩; first | exact hbs h1 | exact hss h2)]
        have hbb : (bsd == 0) = false := by simp [hbs]
        simp only []
        go_wp2
        go_ret
        exact ⟨by rw [HR.out, HA.out]; rfl, HB3.out⟩
end Go.Proofs.YtjdnahmdicamdaaGreatDoor
/- A trade of purses, one number behind the other; no program is spoken of. -/
namespace Go.Proofs.YtjdnahmdicamdaaGreatDoor
namespace Pu

def g1 (f : Nat → Int) (b : Nat) (H : Int) : Nat → Int := add f (b * 8 + 1) (-H)
def g2 (f : Nat → Int) (b s k : Nat) (H Q : Int) : Nat → Int := add (g1 f b H) (s * 8 + 5 + k) (-Q)
def g3 (f : Nat → Int) (b s k : Nat) (H Q A : Int) : Nat → Int := add (g2 f b s k H Q) (b * 8) (-A)
def g4 (f : Nat → Int) (b s k : Nat) (H Q A : Int) : Nat → Int := add (g3 f b s k H Q A) (s * 8 + 2 + k) (-Q)
def g5 (f : Nat → Int) (b s k : Nat) (H Q A : Int) : Nat → Int := add (g4 f b s k H Q A) (b * 8 + 2 + k) Q
theorem six_eq (f : Nat → Int) (b s k : Nat) (bp price qty : Int) : six f b s k bp price qty = add (g5 f b s k (bp * qty) qty (price * qty)) (s * 8) (price * qty) := rfl
theorem g1_at {f : Nat → Int} {b s k : Nat} {H : Int} : g1 f b H (s * 8 + 5 + k) = f (s * 8 + 5 + k) ∨ ¬ k < 3 := by
  by_cases h : k < 3
  · exact .inl (add_ne _ _ (by omega))
  · exact .inr h
theorem g1_kept {f : Nat → Int} {b s k : Nat} {H : Int} (hk : k < 3) : g1 f b H (s * 8 + 5 + k) = f (s * 8 + 5 + k) := add_ne _ _ (by omega)
theorem g2_cash {f : Nat → Int} {b s k : Nat} {H Q : Int} (hk : k < 3) : g2 f b s k H Q (b * 8) = f (b * 8) := by
  unfold g2 g1; rw [add_ne _ _ (by omega), add_ne _ _ (by omega)]
theorem g3_stock {f : Nat → Int} {b s k : Nat} {H Q A : Int} (hk : k < 3) : g3 f b s k H Q A (s * 8 + 2 + k) = f (s * 8 + 2 + k) := by
  unfold g3 g2 g1; rw [add_ne _ _ (by omega), add_ne _ _ (by omega), add_ne _ _ (by omega)]
theorem g4_stock {f : Nat → Int} {b s k : Nat} {H Q A : Int} (hk : k < 3) : g4 f b s k H Q A (b * 8 + 2 + k) = f (b * 8 + 2 + k) + (if b = s then -Q else 0) := by
  unfold g4
  by_cases e : b = s
  · subst e; rw [add_at, g3_stock hk, if_pos rfl]
  · unfold g3 g2 g1; rw [add_ne _ _ (by omega), add_ne _ _ (by omega), add_ne _ _ (by omega), add_ne _ _ (by omega), if_neg e]; simp
theorem g5_cash {f : Nat → Int} {b s k : Nat} {H Q A : Int} (hk : k < 3) : g5 f b s k H Q A (s * 8) = f (s * 8) + (if b = s then -A else 0) := by
  unfold g5 g4
  rw [add_ne _ _ (by omega), add_ne _ _ (by omega)]
  unfold g3
  by_cases e : b = s
  · subst e; rw [add_at, g2_cash hk, if_pos rfl]
  · unfold g2 g1; rw [add_ne _ _ (by omega), add_ne _ _ (by omega), add_ne _ _ (by omega), if_neg e]; simp
/-- what is known of the two numbers that grow last -/
theorem grows {f : Nat → Int} (hg : Good f) {b s k : Nat} {bp price qty : Int} (hb : b < 6) (hs : s < 6) (hk : k < 3) (hm : 1 ≤ price * qty ∧ price * qty ≤ bp * qty) (hq : 1 ≤ qty) (hp : poor f b s k bp qty = false) :
    (0 ≤ g4 f b s k (bp * qty) qty (price * qty) (b * 8 + 2 + k) ∧ g4 f b s k (bp * qty) qty (price * qty) (b * 8 + 2 + k) ≤ 1073741824) ∧ (0 ≤ g5 f b s k (bp * qty) qty (price * qty) (s * 8) ∧ g5 f b s k (bp * qty) qty (price * qty) (s * 8) ≤ 1099511627776) ∧
    over f b s k price qty = (decide (1073741824 - g4 f b s k (bp * qty) qty (price * qty) (b * 8 + 2 + k) < qty) || decide (1099511627776 - g5 f b s k (bp * qty) qty (price * qty) (s * 8) < price * qty)) := by
  rw [g4_stock hk, g5_cash hk]
  simp only [poor, Bool.or_eq_false_iff, decide_eq_false_iff_not] at hp
  have h1 := hg.cash b hb
  have h2 := hg.cash s hs
  have h3 := hg.stock b k hb hk
  have h4 := hg.stock s k hs hk
  unfold over
  by_cases e : b = s
  · subst e
    simp only [if_true]
    refine ⟨by omega, by omega, ?_⟩
    rw [show decide (b ≠ b) = false by simp, Bool.false_and]
    symm
    rw [Bool.or_eq_false_iff, decide_eq_false_iff_not, decide_eq_false_iff_not]
    omega
  · rw [if_neg e, if_neg e]
    refine ⟨by omega, by omega, ?_⟩
    rw [show decide (b ≠ s) = true by simpa using e, Bool.true_and]
    congr 1
    · rw [decide_eq_decide]; omega
    · rw [decide_eq_decide]; omega

/-- a lot of so many -/
def only (x : Cv.Lot) (q : Int) : Cv.Lot := ⟨x.id, x.ow, x.sd, x.pr, q⟩
theorem only_well {item : Int} {x : Cv.Lot} {q : Int} (h : well item x = true) (h1 : 1 ≤ q) (h2 : q ≤ x.q) : well item (only x q) = true := by
  show (Wi.withinB item 0 2 && (Wi.withinB x.id 1 1073741824 && Wi.withinB x.ow 0 5 && Wi.withinB x.sd 0 1 && Wi.withinB x.pr 1 1000 && Wi.withinB q 1 1000)) = true
  simp only [well, Cv.ok, Wi.withinB, Bool.and_eq_true, decide_eq_true_eq] at h ⊢
  exact ⟨h.1, h.2.1, h1, Int.le_trans h2 h.2.2.2⟩
theorem free_buy {f : Nat → Int} {item : Int} {x : Cv.Lot} {q : Int} (h : well item x = true) (h1 : 1 ≤ q) (h2 : q ≤ x.q) (hs : x.sd = 0) :
    freeC f item (only x q) = (if f (x.ow.toNat * 8 + 1) < x.pr * q then 9 else 0) ∧ (¬ f (x.ow.toNat * 8 + 1) < x.pr * q → freeF f item (only x q) = g1 f x.ow.toNat (x.pr * q)) ∧ (f (x.ow.toNat * 8 + 1) < x.pr * q → freeF f item (only x q) = f) := by
  have e1 : hx item (only x q) = x.ow.toNat * 8 + 1 := by unfold hx; rw [if_pos (by exact hs)]; rfl
  have e2 : mu (only x q) = x.pr * q := by unfold mu; rw [if_pos (by exact hs)]; rfl
  have e3 : freeC f item (only x q) = (if f (x.ow.toNat * 8 + 1) < x.pr * q then 9 else 0) := by unfold freeC; rw [if_pos (only_well h h1 h2), e1, e2]
  refine ⟨e3, fun hn => ?_, fun hn => ?_⟩
  · unfold freeF; rw [e3, if_neg hn, if_pos rfl, e1, e2]; rfl
  · unfold freeF; rw [e3, if_pos hn]; rfl
theorem free_sell {f : Nat → Int} {item : Int} {x : Cv.Lot} {q : Int} (h : well item x = true) (h1 : 1 ≤ q) (h2 : q ≤ x.q) (hs : x.sd = 1) :
    freeC f item (only x q) = (if f (x.ow.toNat * 8 + 5 + item.toNat) < q then 9 else 0) ∧ (¬ f (x.ow.toNat * 8 + 5 + item.toNat) < q → freeF f item (only x q) = add f (x.ow.toNat * 8 + 5 + item.toNat) (-q)) ∧ (f (x.ow.toNat * 8 + 5 + item.toNat) < q → freeF f item (only x q) = f) := by
  have hs' : ¬ x.sd = 0 := by omega
  have e1 : hx item (only x q) = x.ow.toNat * 8 + 5 + item.toNat := by unfold hx; rw [if_neg (by exact hs')]; rfl
  have e2 : mu (only x q) = q := by unfold mu; rw [if_neg (by exact hs')]; rfl
  have e3 : freeC f item (only x q) = (if f (x.ow.toNat * 8 + 5 + item.toNat) < q then 9 else 0) := by unfold freeC; rw [if_pos (only_well h h1 h2), e1, e2]
  refine ⟨e3, fun hn => ?_, fun hn => ?_⟩
  · unfold freeF; rw [e3, if_neg hn, if_pos rfl, e1, e2]
  · unfold freeF; rw [e3, if_pos hn]; rfl
end Pu
end Go.Proofs.YtjdnahmdicamdaaGreatDoor
