/- Give of a purse by its contract. -/
import Derived.Test.YtgmncdpjbphfhaaDoorPuOf
import Derived.BigRegion
namespace Go.Proofs.YtgmncdpjbphfhaaDoor
open Go.RowKit
set_option maxRecDepth 100000

def giftV (g : Pu.Gift) : Value := .agg #[.int .i64 g.s0, .int .i64 g.s1, .int .i64 g.s2]
/-- eight cells of the call's own -/
def Hs (w : World) (B : Nat) (T : TypeId) (v0 v1 v2 v3 v4 v5 v6 v7 : Int) : Prop := w.heap[B]? = some (.cells #[.int .i64 v0, .int .i64 v1, .int .i64 v2, .int .i64 v3, .int .i64 v4, .int .i64 v5, .int .i64 v6, .int .i64 v7] T (0, 0))

theorem hs_lt {w : World} {B : Nat} {T : TypeId} {a : Array Value} (h : w.heap[B]? = some (.cells a T (0, 0))) : B < w.heap.size := lt_of_block h
theorem hs_set {w : World} {B j : Nat} {T : TypeId} {a a' : Array Value} (v : Value) (h : w.heap[B]? = some (.cells a T (0, 0))) (e : a.setIfInBounds j v = a') : (w.setCell ⟨B, j, none⟩ v).heap[B]? = some (.cells a' T (0, 0)) := by
  rw [setCell_eq_setRow w B j _ _ _ _ h, e]
  exact setRow_heap w B _ _ _ _ h
theorem hs_cell {w : World} {B j : Nat} {T : TypeId} {a : Array Value} {v : Value} (h : w.heap[B]? = some (.cells a T (0, 0))) (e : a[j]? = some v) : w.cell? ⟨B, j, none⟩ = some v := by
  rw [cell_of_row w B j _ _ _ h, e]
theorem hs_free {w : World} {B j : Nat} {T : TypeId} {a : Array Value} (h : w.heap[B]? = some (.cells a T (0, 0))) : w.frozen? ⟨B, j, none⟩ = false := by
  simp [World.frozen?, h]
theorem put8_give {f : Nat → Int} {c : Nat} (cash s0 s1 s2 : Int) (j : Nat) :
    (if j = c * 8 + 7 then f (c * 8 + 7) else if j = c * 8 + 6 then f (c * 8 + 6) else if j = c * 8 + 5 then f (c * 8 + 5) else if j = c * 8 + 4 then f (c * 8 + 4) + s2 else if j = c * 8 + 3 then f (c * 8 + 3) + s1 else if j = c * 8 + 2 then f (c * 8 + 2) + s0 else if j = c * 8 + 1 then f (c * 8 + 1) else if j = c * 8 then f (c * 8) + cash else f j)
      = Pu.add (Pu.add (Pu.add (Pu.add f (c * 8) cash) (c * 8 + 2) s0) (c * 8 + 3) s1) (c * 8 + 4) s2 j := by
  simp only [Pu.add]
  by_cases h7 : j = c * 8 + 7
  · subst h7; simp
  by_cases h6 : j = c * 8 + 6
  · subst h6; simp
  by_cases h5 : j = c * 8 + 5
  · subst h5; simp
  by_cases h4 : j = c * 8 + 4
  · subst h4; simp
  by_cases h3 : j = c * 8 + 3
  · subst h3; simp
  by_cases h2 : j = c * 8 + 2
  · subst h2; simp
  by_cases h1 : j = c * 8 + 1
  · subst h1; simp
  by_cases h0 : j = c * 8
  · subst h0; simp
  simp [h0, h1, h2, h3, h4, h5, h6, h7]

set_option maxHeartbeats 2000000 in
theorem give_any (p : Nat) (g : Pu.Gift) (f : Nat → Int) (v : Nat → Value) (w : World) (he : Hid (PEr w v)) (hp : Hid (Purse w 55 p f)) (hg : Hid (Pu.Good f)) :
    Calls Tryd.prog 9 #[.pointer (some ⟨p, 0, none⟩), .int .i64 g.n, .int .i64 g.cash, giftV g] w fun e w' => e = .returned (errE v (Pu.giveC f g)) ∧ Purse w' 55 p (Pu.giveF f g) ∧ Save w w' p := by
  show Calls Tryd.prog 9 #[.pointer (some ⟨p, 0, none⟩), .int .i64 g.n, .int .i64 g.cash, .agg #[.int .i64 g.s0, .int .i64 g.s1, .int .i64 g.s2]] w _
  have hbW : Below w.heap.size w (w.alloc (.cells #[.int .i64 g.s0, .int .i64 g.s1, .int .i64 g.s2] 27)) := (Below.refl _ _).alloc (Nat.le_refl _) _
  have HBW := hide hbW
  have HI := hide (isClient_any g.n (w.alloc (.cells #[.int .i64 g.s0, .int .i64 g.s1, .int .i64 g.s2] 27)))
  have HN := hide (below_any g.cash g.s0 g.s1 g.s2 (w.alloc (.cells #[.int .i64 g.s0, .int .i64 g.s1, .int .i64 g.s2] 27)))
  have HX0 : Hid ((w.alloc (.cells #[.int .i64 g.s0, .int .i64 g.s1, .int .i64 g.s2] 27)).heap[w.heap.size]? = some (.cells #[.int .i64 g.s0, .int .i64 g.s1, .int .i64 g.s2] 27 (0, 0))) := heap_alloc_new _ _
  clear hbW
  cases hin : Wi.withinB g.n 0 5 with
  | false =>
    have HA : Hid (Pu.giveC f g = 1 ∧ Pu.giveF f g = f) := by
      have e : Pu.giveC f g = 1 := by unfold Pu.giveC Pu.Gift.fine; rw [hin]; rfl
      exact ⟨e, by unfold Pu.giveF; rw [e]; rfl⟩
    have e1 := (he.out.later HBW.out).er.c1
    rw [hin] at HI
    clear hin
    go_enter Tryd.func9, Tryd.ntmps9
    go_wp2_with fail
    refine HI.out.mono ?_
    rintro e w2 ⟨rfl, rfl⟩
    simp only []
    go_wp2
    go_ret
    exact ⟨by rw [HA.out.1]; rfl, by rw [HA.out.2]; exact hp.out.lat HBW.out, Save.of_below HBW.out p⟩
  | true =>
    rw [hin] at HI
    have Hin := hide hin
    clear hin
    cases hng : g.neg with
    | true =>
      have HA : Hid (Pu.giveC f g = 1 ∧ Pu.giveF f g = f) := by
        have e : Pu.giveC f g = 1 := by unfold Pu.giveC Pu.Gift.fine; rw [hng, Hin.out]; rfl
        exact ⟨e, by unfold Pu.giveF; rw [e]; rfl⟩
      rw [show (decide (g.s0 < 0) || decide (g.s1 < 0) || decide (g.s2 < 0) || decide (g.cash < 0)) = true from hng] at HN
      clear hng
      go_enter Tryd.func9, Tryd.ntmps9
      go_wp2_with fail
      refine HI.out.mono ?_
      rintro e w2 ⟨rfl, rfl⟩
      simp only []
      go_wp2_with fail
      refine HN.out.mono ?_
      rintro e w3 ⟨rfl, hb3⟩
      have HB3 : Hid (Below w.heap.size w w3) := HBW.out.trans (hb3.mono HBW.out.size)
      have e1 := (he.out.later HB3.out).er.c1
      clear hb3
      simp only []
      go_wp2
      go_ret
      exact ⟨by rw [HA.out.1]; rfl, by rw [HA.out.2]; exact hp.out.lat HB3.out, Save.of_below HB3.out p⟩
    | false =>
      rw [show (decide (g.s0 < 0) || decide (g.s1 < 0) || decide (g.s2 < 0) || decide (g.cash < 0)) = false from hng] at HN
      have HF : Hid (g.fine = true) := by show _ = _; unfold Pu.Gift.fine; rw [Hin.out, hng]; rfl
      obtain ⟨c, hc, hc6⟩ : ∃ c : Nat, g.n = c ∧ c < 6 := by
        have := Hin.out
        simp only [Wi.withinB, Bool.and_eq_true, decide_eq_true_eq] at this
        exact ⟨g.n.toNat, by omega, by omega⟩
      have hpos : 0 ≤ g.s0 ∧ 0 ≤ g.s1 ∧ 0 ≤ g.s2 ∧ 0 ≤ g.cash := by
        simp only [Pu.Gift.neg, Bool.or_eq_false_iff, decide_eq_false_iff_not] at hng
        omega
      clear hng
      obtain ⟨p0, p1, p2, p3⟩ := hpos
      have hci : (c : Int) < 6 := by omega
      have g1 := hg.out.cash c hc6
      have g2 := hg.out.stock c 0 hc6 (by decide)
      have g3 := hg.out.stock c 1 hc6 (by decide)
      have g4 := hg.out.stock c 2 hc6 (by decide)
      simp only [Nat.add_zero, Nat.add_assoc, Nat.reduceAdd] at g1 g2 g3 g4
      have HP2 := hp.out.lat HBW.out
      rw [hc] at HI ⊢
      have i0 := @ix0
      have i1 := @ix1
      have i2 := @ix2
      go_enter Tryd.func9, Tryd.ntmps9
      go_wp2_with fail
      refine HI.out.mono ?_
      rintro e w2 ⟨rfl, rfl⟩
      simp only []
      go_wp2_with fail
      refine HN.out.mono ?_
      rintro e w3 ⟨rfl, hb3⟩
      have HB3 : Hid (Below w.heap.size w w3) := HBW.out.trans (hb3.mono HBW.out.size)
      have hX : w3.heap[w.heap.size]? = some (.cells #[.int .i64 g.s0, .int .i64 g.s1, .int .i64 g.s2] 27 (0, 0)) := by
        rw [hb3.block _ (lt_of_block HX0.out)]; exact HX0.out
      have hP3 := hp.out.lat HB3.out
      have HP3 := hide hP3
      have x0 : w3.cell? ⟨w.heap.size, 0, none⟩ = some (.int .i64 g.s0) := by simp [World.cell?, hX]
      have x1 : w3.cell? ⟨w.heap.size, 1, none⟩ = some (.int .i64 g.s1) := by simp [World.cell?, hX]
      have x2 : w3.cell? ⟨w.heap.size, 2, none⟩ = some (.int .i64 g.s2) := by simp [World.cell?, hX]
      have HX := hide (And.intro x0 (And.intro x1 x2))
      clear x0 x1 x2
      have hwl : w.heap.size < w3.heap.size := lt_of_block hX
      have hpl : p < w3.heap.size := hP3.lt
      have HPU : Hid (∀ w' a0 a2 a3 a4, Purse w' 55 p f → a0 = f (c * 8) + g.cash → a2 = f (c * 8 + 2) + g.s0 → a3 = f (c * 8 + 3) + g.s1 → a4 = f (c * 8 + 4) + g.s2 →
          Purse ((((((((w'.setCell ⟨p, c * 8, none⟩ (.int .i64 a0)).setCell ⟨p, c * 8 + 1, none⟩ (.int .i64 (f (c * 8 + 1)))).setCell ⟨p, c * 8 + 2, none⟩ (.int .i64 a2)).setCell ⟨p, c * 8 + 3, none⟩ (.int .i64 a3)).setCell ⟨p, c * 8 + 4, none⟩ (.int .i64 a4)).setCell ⟨p, c * 8 + 5, none⟩ (.int .i64 (f (c * 8 + 5)))).setCell ⟨p, c * 8 + 6, none⟩ (.int .i64 (f (c * 8 + 6)))).setCell ⟨p, c * 8 + 7, none⟩ (.int .i64 (f (c * 8 + 7)))) 55 p
            (Pu.add (Pu.add (Pu.add (Pu.add f (c * 8) g.cash) (c * 8 + 2) g.s0) (c * 8 + 3) g.s1) (c * 8 + 4) g.s2)) := by
        intro w' a0 a2 a3 a4 h e0 e2 e3 e4
        subst e0 e2 e3 e4
        exact (h.put8 c _ _ _ _ _ _ _ _).congr fun j _ => put8_give _ _ _ _ j
      have HOV : Hid (g.over f = (decide (1099511627776 - f (c * 8) < g.cash) || decide (1073741824 - f (c * 8 + 2) < g.s0) || decide (1073741824 - f (c * 8 + 3) < g.s1) || decide (1073741824 - f (c * 8 + 4) < g.s2))) := by
        show _ = _; unfold Pu.Gift.over; rw [hc, Int.toNat_natCast]
      have HFU : Hid (g.over f = true → Pu.giveC f g = 7 ∧ Pu.giveF f g = f) := fun h => by
        have e : Pu.giveC f g = 7 := by unfold Pu.giveC; rw [if_pos HF.out, if_pos h]
        exact ⟨e, by unfold Pu.giveF; rw [e]; rfl⟩
      have HZE : Hid (g.over f = false → Pu.giveC f g = 0 ∧ Pu.giveF f g = Pu.add (Pu.add (Pu.add (Pu.add f (c * 8) g.cash) (c * 8 + 2) g.s0) (c * 8 + 3) g.s1) (c * 8 + 4) g.s2) := fun h => by
        have e : Pu.giveC f g = 0 := by unfold Pu.giveC; rw [if_pos HF.out, if_neg (by rw [h]; simp)]
        exact ⟨e, by unfold Pu.giveF; rw [if_pos e, hc, Int.toNat_natCast]⟩
      have HC8 : Hid (∀ w', Below w3.heap.size w3 w' → (∀ i, i < 48 → w'.cell? ⟨p, i, none⟩ = some (.int .i64 (f i))) ∧ ∀ i, w'.frozen? ⟨p, i, none⟩ = false) := fun w' hb => ⟨fun i hi => (hP3.lat hb).cell hi, fun i => (hP3.lat hb).frozen i⟩
      have hcl := (HC8.out w3 (Below.refl _ _)).1
      have c0 := hcl (c * 8) (by omega)
      have c1 := hcl (c * 8 + 1) (by omega)
      have c2 := hcl (c * 8 + 2) (by omega)
      have c3 := hcl (c * 8 + 3) (by omega)
      have c4 := hcl (c * 8 + 4) (by omega)
      have c5 := hcl (c * 8 + 5) (by omega)
      have c6 := hcl (c * 8 + 6) (by omega)
      have c7 := hcl (c * 8 + 7) (by omega)
      clear hb3 hX hP3 HI HN HX0 HP2 hcl
      generalize f (c * 8) = u0 at *
      generalize f (c * 8 + 1) = u1 at *
      generalize f (c * 8 + 2) = u2 at *
      generalize f (c * 8 + 3) = u3 at *
      generalize f (c * 8 + 4) = u4 at *
      generalize f (c * 8 + 5) = u5 at *
      generalize f (c * 8 + 6) = u6 at *
      generalize f (c * 8 + 7) = u7 at *
      generalize hca : g.cash = ca at *
      generalize hs0 : g.s0 = s0 at *
      generalize hs1 : g.s1 = s1 at *
      generalize hs2 : g.s2 = s2 at *
      clear hca hs0 hs1 hs2
      have HH : Hid ((w3.alloc (.cells #[.int .i64 u0, .int .i64 u1, .int .i64 u2, .int .i64 u3, .int .i64 u4, .int .i64 u5, .int .i64 u6, .int .i64 u7] 47)).heap[w3.heap.size]? = some (.cells #[.int .i64 u0, .int .i64 u1, .int .i64 u2, .int .i64 u3, .int .i64 u4, .int .i64 u5, .int .i64 u6, .int .i64 u7] 47 (0, 0))) := heap_alloc_new _ _
      have HBB : Hid (Below w3.heap.size w3 (w3.alloc (.cells #[.int .i64 u0, .int .i64 u1, .int .i64 u2, .int .i64 u3, .int .i64 u4, .int .i64 u5, .int .i64 u6, .int .i64 u7] 47))) := (Below.refl _ _).alloc (Nat.le_refl _) _
      simp only []
      go_wp2_with fail
      clear c0 c1 c2 c3 c4 c5 c6 c7
      generalize w3.alloc (.cells #[.int .i64 u0, .int .i64 u1, .int .i64 u2, .int .i64 u3, .int .i64 u4, .int .i64 u5, .int .i64 u6, .int .i64 u7] 47) = w4 at *
      by_cases o0 : 1099511627776 - u0 < ca
      · have HO : Hid (g.over f = true) := by show _ = _; rw [HOV.out]; simp [o0]
        refine (grow_no w3.heap.size 0 u0 ca 1099511627776 w4 (hs_cell HH.out rfl) (by omega) (by omega) (by omega) o0).mono ?_
        rintro e wz ⟨rfl, rfl⟩
        have HBz : Hid (Below w.heap.size w wz) := HB3.out.trans (HBB.out.mono HB3.out.size)
        have e7 := (he.out.later HBz.out).er.c7
        simp only []
        go_wp2
        go_ret
        exact ⟨by rw [(HFU.out HO.out).1]; rfl, by rw [(HFU.out HO.out).2]; exact HP3.out.lat HBB.out, Save.of_below HBz.out p⟩
      refine (grow_yes w3.heap.size 0 u0 ca 1099511627776 w4 (hs_cell HH.out rfl) (hs_free HH.out) (by omega) (by omega) (by omega) (by omega) o0).mono ?_
      rintro e w5 ⟨rfl, hw5⟩
      have HH0 : Hid (w5.heap[w3.heap.size]? = some (.cells #[.int .i64 (u0 + ca), .int .i64 u1, .int .i64 u2, .int .i64 u3, .int .i64 u4, .int .i64 u5, .int .i64 u6, .int .i64 u7] 47 (0, 0))) := by rw [hw5]; exact hs_set _ HH.out rfl
      have HBB0 : Hid (Below w3.heap.size w3 w5) := by rw [hw5]; exact HBB.out.setCell (Nat.le_refl _) _
      clear HH HBB hw5
      rename Hid (w5.heap[w3.heap.size]? = _) => HH
      rename Hid (Below w3.heap.size w3 w5) => HBB
      simp only []
      have x0 := cell_later HBB.out HX.out.1
      have x1 := cell_later HBB.out HX.out.2.1
      have x2 := cell_later HBB.out HX.out.2.2
      go_wp2_with fail
      clear x0 x1 x2
      refine wp_loop_rounds 4 ?_
      rw [rounds_succ]
      go_wp2_with fail
      by_cases o1 : 1073741824 - u2 < s0
      · have HO : Hid (g.over f = true) := by show _ = _; rw [HOV.out]; simp [o1]
        refine (grow_no w3.heap.size 2 u2 s0 1073741824 w5 (hs_cell HH.out rfl) (by omega) (by omega) (by omega) o1).mono ?_
        rintro e wz ⟨rfl, rfl⟩
        have HBz : Hid (Below w.heap.size w wz) := HB3.out.trans (HBB.out.mono HB3.out.size)
        have e7 := (he.out.later HBz.out).er.c7
        simp only []
        go_wp2
        go_ret
        exact ⟨by rw [(HFU.out HO.out).1]; rfl, by rw [(HFU.out HO.out).2]; exact HP3.out.lat HBB.out, Save.of_below HBz.out p⟩
      refine (grow_yes w3.heap.size 2 u2 s0 1073741824 w5 (hs_cell HH.out rfl) (hs_free HH.out) (by omega) (by omega) (by omega) (by omega) o1).mono ?_
      rintro e w6 ⟨rfl, hw6⟩
      have HH1 : Hid (w6.heap[w3.heap.size]? = some (.cells #[.int .i64 (u0 + ca), .int .i64 u1, .int .i64 (u2 + s0), .int .i64 u3, .int .i64 u4, .int .i64 u5, .int .i64 u6, .int .i64 u7] 47 (0, 0))) := by rw [hw6]; exact hs_set _ HH.out rfl
      have HBB1 : Hid (Below w3.heap.size w3 w6) := by rw [hw6]; exact HBB.out.setCell (Nat.le_refl _) _
      clear HH HBB hw6
      rename Hid (w6.heap[w3.heap.size]? = _) => HH
      rename Hid (Below w3.heap.size w3 w6) => HBB
      simp only []
      go_wp2_with fail
      rw [rounds_succ]
      go_wp2_with fail
      by_cases o2 : 1073741824 - u3 < s1
      · have HO : Hid (g.over f = true) := by show _ = _; rw [HOV.out]; simp [o2]
        refine (grow_no w3.heap.size 3 u3 s1 1073741824 w6 (hs_cell HH.out rfl) (by omega) (by omega) (by omega) o2).mono ?_
        rintro e wz ⟨rfl, rfl⟩
        have HBz : Hid (Below w.heap.size w wz) := HB3.out.trans (HBB.out.mono HB3.out.size)
        have e7 := (he.out.later HBz.out).er.c7
        simp only []
        go_wp2
        go_ret
        exact ⟨by rw [(HFU.out HO.out).1]; rfl, by rw [(HFU.out HO.out).2]; exact HP3.out.lat HBB.out, Save.of_below HBz.out p⟩
      refine (grow_yes w3.heap.size 3 u3 s1 1073741824 w6 (hs_cell HH.out rfl) (hs_free HH.out) (by omega) (by omega) (by omega) (by omega) o2).mono ?_
      rintro e w7 ⟨rfl, hw7⟩
      have HH2 : Hid (w7.heap[w3.heap.size]? = some (.cells #[.int .i64 (u0 + ca), .int .i64 u1, .int .i64 (u2 + s0), .int .i64 (u3 + s1), .int .i64 u4, .int .i64 u5, .int .i64 u6, .int .i64 u7] 47 (0, 0))) := by rw [hw7]; exact hs_set _ HH.out rfl
      have HBB2 : Hid (Below w3.heap.size w3 w7) := by rw [hw7]; exact HBB.out.setCell (Nat.le_refl _) _
      clear HH HBB hw7
      rename Hid (w7.heap[w3.heap.size]? = _) => HH
      rename Hid (Below w3.heap.size w3 w7) => HBB
      simp only []
      go_wp2_with fail
      rw [rounds_succ]
      go_wp2_with fail
      by_cases o3 : 1073741824 - u4 < s2
      · have HO : Hid (g.over f = true) := by show _ = _; rw [HOV.out]; simp [o3]
        refine (grow_no w3.heap.size 4 u4 s2 1073741824 w7 (hs_cell HH.out rfl) (by omega) (by omega) (by omega) o3).mono ?_
        rintro e wz ⟨rfl, rfl⟩
        have HBz : Hid (Below w.heap.size w wz) := HB3.out.trans (HBB.out.mono HB3.out.size)
        have e7 := (he.out.later HBz.out).er.c7
        simp only []
        go_wp2
        go_ret
        exact ⟨by rw [(HFU.out HO.out).1]; rfl, by rw [(HFU.out HO.out).2]; exact HP3.out.lat HBB.out, Save.of_below HBz.out p⟩
      refine (grow_yes w3.heap.size 4 u4 s2 1073741824 w7 (hs_cell HH.out rfl) (hs_free HH.out) (by omega) (by omega) (by omega) (by omega) o3).mono ?_
      rintro e w8 ⟨rfl, hw8⟩
      have HH3 : Hid (w8.heap[w3.heap.size]? = some (.cells #[.int .i64 (u0 + ca), .int .i64 u1, .int .i64 (u2 + s0), .int .i64 (u3 + s1), .int .i64 (u4 + s2), .int .i64 u5, .int .i64 u6, .int .i64 u7] 47 (0, 0))) := by rw [hw8]; exact hs_set _ HH.out rfl
      have HBB3 : Hid (Below w3.heap.size w3 w8) := by rw [hw8]; exact HBB.out.setCell (Nat.le_refl _) _
      clear HH HBB hw8
      rename Hid (w8.heap[w3.heap.size]? = _) => HH
      rename Hid (Below w3.heap.size w3 w8) => HBB
      simp only []
      go_wp2_with fail
      rw [rounds_succ]
      go_wp2_with fail
      have HO : Hid (g.over f = false) := by show _ = _; rw [HOV.out]; simp [o0, o1, o2, o3]
      have d0 : w8.cell? ⟨w3.heap.size, 0, none⟩ = some (.int .i64 (u0 + ca)) := hs_cell HH.out rfl
      have d1 : w8.cell? ⟨w3.heap.size, 1, none⟩ = some (.int .i64 (u1)) := hs_cell HH.out rfl
      have d2 : w8.cell? ⟨w3.heap.size, 2, none⟩ = some (.int .i64 (u2 + s0)) := hs_cell HH.out rfl
      have d3 : w8.cell? ⟨w3.heap.size, 3, none⟩ = some (.int .i64 (u3 + s1)) := hs_cell HH.out rfl
      have d4 : w8.cell? ⟨w3.heap.size, 4, none⟩ = some (.int .i64 (u4 + s2)) := hs_cell HH.out rfl
      have d5 : w8.cell? ⟨w3.heap.size, 5, none⟩ = some (.int .i64 (u5)) := hs_cell HH.out rfl
      have d6 : w8.cell? ⟨w3.heap.size, 6, none⟩ = some (.int .i64 (u6)) := hs_cell HH.out rfl
      have d7 : w8.cell? ⟨w3.heap.size, 7, none⟩ = some (.int .i64 (u7)) := hs_cell HH.out rfl
      have hfz := fun i => (HC8.out _ HBB.out).2 i
      have hcl := (HC8.out _ HBB.out).1
      have c0 := hcl (c * 8) (by omega)
      have c1 := hcl (c * 8 + 1) (by omega)
      have c2 := hcl (c * 8 + 2) (by omega)
      have c3 := hcl (c * 8 + 3) (by omega)
      have c4 := hcl (c * 8 + 4) (by omega)
      have c5 := hcl (c * 8 + 5) (by omega)
      have c6 := hcl (c * 8 + 6) (by omega)
      have c7 := hcl (c * 8 + 7) (by omega)
      have z0 := hfz (c * 8)
      have z1 := hfz (c * 8 + 1)
      have z2 := hfz (c * 8 + 2)
      have z3 := hfz (c * 8 + 3)
      have z4 := hfz (c * 8 + 4)
      have z5 := hfz (c * 8 + 5)
      have z6 := hfz (c * 8 + 6)
      have z7 := hfz (c * 8 + 7)
      clear hfz hcl
      refine region_quiet_tail 6 (by kernel_rfl) (by kernel_rfl) ?_
      simp only [List.take_succ_cons, List.take_zero, List.drop_succ_cons, List.drop_zero]
      repeat (first | go_big_quiet_step (fail) | quiet_step (fail))
      refine wpQuiet_nil ?_
      intro _ hw'
      obtain ⟨nq, hw''⟩ := hw'
      subst hw''
      go_wp2
      go_ret
      have hb9 : Below w.heap.size w (w8.drewN nq) := (HB3.out.trans (HBB.out.mono HB3.out.size)).trans ((blw_drew nq).mono (HB3.out.trans (HBB.out.mono HB3.out.size)).size)
      refine ⟨by rw [(HZE.out HO.out).1]; rfl, by rw [(HZE.out HO.out).2]; exact HPU.out _ _ _ _ _ ((HP3.out.lat HBB.out).drew nq) rfl rfl rfl rfl, ?_⟩
      exact ((((((((Save.of_below hb9 p).trans (Save.setCell _ _ _ _)).trans (Save.setCell _ _ _ _)).trans (Save.setCell _ _ _ _)).trans (Save.setCell _ _ _ _)).trans (Save.setCell _ _ _ _)).trans (Save.setCell _ _ _ _)).trans (Save.setCell _ _ _ _)).trans (Save.setCell _ _ _ _)
end Go.Proofs.YtgmncdpjbphfhaaDoor
