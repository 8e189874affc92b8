/- asked, Hold and Free of a purse by their contracts. -/
import Derived.Test.YtgmncdpjbphfhaaDoorPuSmall
namespace Go.Proofs.YtgmncdpjbphfhaaDoor
open Go.RowKit
set_option maxRecDepth 100000

/-- an error by its number -/
def errE (v : Nat → Value) : Nat → Value
  | 0 => .nilIface
  | c + 1 => .iface 110 (v (c + 1))
/-- what the errors that a purse answers hold -/
structure PEr (w : World) (v : Nat → Value) : Prop where
  er : Er w 110 (v 1) (v 6) (v 7)
  c9 : w.cell? ⟨2, 0, none⟩ = some (.iface 110 (v 9))
theorem PEr.later {w w' : World} {v : Nat → Value} (h : PEr w v) (hb : Below w.heap.size w w') : PEr w' v := ⟨h.er.later hb, cell_later hb h.c9⟩

theorem Purse.lat {w w' : World} {T : TypeId} {B : Nat} {f : Nat → Int} (h : Purse w T B f) (hb : Below w.heap.size w w') : Purse w' T B f := h.later hb h.lt

/-- of the old blocks one may have turned, no other one -/
structure Save (w w' : World) (p : Nat) : Prop where
  os : w'.os = w.os
  tape : w'.tape = w.tape
  output : w'.output = w.output
  size : w.heap.size ≤ w'.heap.size
  block : ∀ k, k < w.heap.size → k ≠ p → w'.heap[k]? = w.heap[k]?
theorem Save.of_below {w w' : World} (h : Below w.heap.size w w') (p : Nat) : Save w w' p := ⟨h.os, h.tape, h.output, h.size, fun k hk _ => h.block k hk⟩
theorem Save.trans {w w1 w2 : World} {p : Nat} (h : Save w w1 p) (h1 : Save w1 w2 p) : Save w w2 p :=
  ⟨h1.os.trans h.os, h1.tape.trans h.tape, h1.output.trans h.output, Nat.le_trans h.size h1.size, fun k hk ha => by rw [h1.block k (Nat.lt_of_lt_of_le hk h.size) ha]; exact h.block k hk ha⟩
theorem Save.below {w w' : World} {p n : Nat} (h : Save w w' p) (hn : n ≤ w.heap.size) (hp : n ≤ p) : Below n w w' := ⟨h.os, h.tape, h.output, h.size, fun k hk => h.block k (by omega) (by omega)⟩
theorem Save.setCell (w : World) (g o : Nat) (v : Value) : Save w (w.setCell ⟨g, o, none⟩ v) g := ⟨rfl, rfl, rfl, by simp, fun k _ ha => Below.heap_setCell _ _ _ _ ha⟩
theorem Purse.save {w w' : World} {T : TypeId} {B p : Nat} {f : Nat → Int} (h : Purse w T B f) (hs : Save w w' p) (hne : B ≠ p) : Purse w' T B f := (hs.block B h.lt hne).trans h
theorem cell_save {w w' : World} {p : Nat} {a : Addr} {v : Value} (hs : Save w w' p) (h : w.cell? a = some v) (hne : a.block ≠ p) : w'.cell? a = some v :=
  (World.cell?_of_block (hs.block a.block (World.block_lt_of_cell? w a h) hne)).trans h
theorem PEr.save {w w' : World} {v : Nat → Value} {p : Nat} (h : PEr w v) (hs : Save w w' p) (hp : 12 < p) : PEr w' v :=
  ⟨⟨cell_save hs h.er.c1 (by show 0 ≠ p; omega), cell_save hs h.er.c6 (by show 8 ≠ p; omega), cell_save hs h.er.c7 (by show 1 ≠ p; omega)⟩, cell_save hs h.c9 (by show 2 ≠ p; omega)⟩

set_option maxHeartbeats 1000000 in
theorem asked_any (p : Nat) (item : Int) (x : Cv.Lot) (f : Nat → Int) (w : World) (hp : Hid (Purse w 55 p f)) (hw : Hid (Pu.well item x = true)) :
    Calls Tryd.prog 27 #[.pointer (some ⟨p, 0, none⟩), .int .i64 item, lotV x] w fun e w' => e = .returned (.tuple #[.int .i64 (f (Pu.tx item x)), .pointer (some ⟨p, Pu.hx item x, none⟩), .int .i64 (Pu.mu x)]) ∧ Below w.heap.size w w' := by
  show Calls Tryd.prog 27 #[.pointer (some ⟨p, 0, none⟩), .int .i64 item, .agg #[.int .i64 x.id, .int .i64 x.ow, .int .i64 x.sd, .int .i64 x.pr, .int .i64 x.q]] w _
  obtain ⟨k, rfl, hk⟩ := Pu.well_item hw.out
  obtain ⟨c, hc, hc6⟩ := Pu.well_ow hw.out
  have hpl := hp.out.lt
  have hne : ¬ (w.heap.size = p) := by omega
  have hne' : ¬ (p = w.heap.size) := by omega
  have hbd := Cv.ok_bounds (Pu.well_ok hw.out)
  have hmu := Pu.mu_bounds (Pu.well_ok hw.out)
  have hbW : Below w.heap.size w (w.alloc (.cells #[.int .i64 x.id, .int .i64 c, .int .i64 x.sd, .int .i64 x.pr, .int .i64 x.q] 34)) := (Below.refl _ _).alloc (Nat.le_refl _) _
  have HBW := hide hbW
  clear hbW
  have hci : (c : Int) < 6 := by omega
  have hki : (k : Int) < 3 := by omega
  by_cases hs : x.sd = 0
  · have HX : Hid (Pu.tx k x = c * 8 ∧ Pu.hx k x = c * 8 + 1 ∧ Pu.mu x = x.pr * x.q) := by
      refine ⟨?_, ?_, ?_⟩
      · unfold Pu.tx; rw [if_pos hs]; omega
      · unfold Pu.hx; rw [if_pos hs]; omega
      · unfold Pu.mu; rw [if_pos hs]
    have hm : 1 ≤ x.pr * x.q ∧ x.pr * x.q ≤ 1000000 := by rw [← HX.out.2.2]; exact hmu
    obtain ⟨m1, m2⟩ := hm
    have c0 := hp.out.cell (i := c * 8) (by omega)
    have hsb : (x.sd == 0) = true := by simp [hs]
    clear hmu hbd hs
    rw [hc]
    go_enter Tryd.func27, Tryd.ntmps27
    go_wp2
    go_quiet (fail)
    go_wp2
    go_quiet (fail)
    go_wp2
    refine bodyPost_ret (v := .tuple #[.int .i64 (f (c * 8)), .pointer (some ⟨p, c * 8 + 1, none⟩), .int .i64 (x.pr * x.q)]) (by simp [results, Tryd.results27, go_sem]) rfl ⟨?_, ?_⟩
    · rw [HX.out.1, HX.out.2.1, HX.out.2.2]
    · exact (HBW.out.trans ((blw_drew _).mono HBW.out.size)).trans ((blw_drew _).mono (by simp))
  · have hs1 : x.sd = 1 := by omega
    have HX : Hid (Pu.tx k x = c * 8 + 2 + k ∧ Pu.hx k x = c * 8 + 5 + k ∧ Pu.mu x = x.q) := by
      refine ⟨?_, ?_, ?_⟩
      · unfold Pu.tx; rw [if_neg hs]; omega
      · unfold Pu.hx; rw [if_neg hs]; omega
      · unfold Pu.mu; rw [if_neg hs]
    have c0 := hp.out.cell (i := c * 8 + 2 + k) (by omega)
    have hsb : (x.sd == 0) = false := by simp [hs]
    clear hmu hbd hs hs1
    rw [hc]
    go_enter Tryd.func27, Tryd.ntmps27
    go_wp2
    go_quiet (fail)
    go_wp2
    go_quiet (fail)
    go_wp2
    refine bodyPost_ret (v := .tuple #[.int .i64 (f (c * 8 + 2 + k)), .pointer (some ⟨p, c * 8 + 5 + k, none⟩), .int .i64 x.q]) (by simp [results, Tryd.results27, go_sem]) rfl ⟨?_, ?_⟩
    · rw [HX.out.1, HX.out.2.1, HX.out.2.2]
    · exact (HBW.out.trans ((blw_drew _).mono HBW.out.size)).trans ((blw_drew _).mono (by simp))

set_option maxHeartbeats 1000000 in
theorem hold_any (p : Nat) (item : Int) (x : Cv.Lot) (f : Nat → Int) (v : Nat → Value) (w : World) (he : Hid (PEr w v)) (hp : Hid (Purse w 55 p f)) (hg : Hid (Pu.Good f)) :
    Calls Tryd.prog 11 #[.pointer (some ⟨p, 0, none⟩), .int .i64 item, lotV x] w fun e w' => e = .returned (errE v (Pu.holdC f item x)) ∧ Purse w' 55 p (Pu.holdF f item x) ∧ Save w w' p := by
  show Calls Tryd.prog 11 #[.pointer (some ⟨p, 0, none⟩), .int .i64 item, .agg #[.int .i64 x.id, .int .i64 x.ow, .int .i64 x.sd, .int .i64 x.pr, .int .i64 x.q]] w _
  have hbW : Below w.heap.size w (w.alloc (.cells #[.int .i64 x.id, .int .i64 x.ow, .int .i64 x.sd, .int .i64 x.pr, .int .i64 x.q] 34)) := (Below.refl _ _).alloc (Nat.le_refl _) _
  have HBW := hide hbW
  have HC := hide (isWell_any item x 110 _ _ _ _ (he.out.later hbW).er)
  have HX0 : Hid ((w.alloc (.cells #[.int .i64 x.id, .int .i64 x.ow, .int .i64 x.sd, .int .i64 x.pr, .int .i64 x.q] 34)).heap[w.heap.size]? = some (.cells #[.int .i64 x.id, .int .i64 x.ow, .int .i64 x.sd, .int .i64 x.pr, .int .i64 x.q] 34 (0, 0))) := heap_alloc_new _ _
  unfold lotV at HC
  clear hbW
  go_enter Tryd.func11, Tryd.ntmps11
  go_wp2_with fail
  refine HC.out.mono ?_
  rintro e w2 ⟨rfl, hb2⟩
  have HB : Hid (Below w.heap.size w w2) := HBW.out.trans (hb2.mono HBW.out.size)
  have hX : w2.heap[w.heap.size]? = some (.cells #[.int .i64 x.id, .int .i64 x.ow, .int .i64 x.sd, .int .i64 x.pr, .int .i64 x.q] 34 (0, 0)) := by
    rw [hb2.block _ (lt_of_block HX0.out)]; exact HX0.out
  have HX3 := hide hX
  have HP2 := hide (hp.out.lat HB.out)
  clear hb2 HC HBW HX0
  cases hok : Pu.well item x with
  | false =>
    have HA : Hid (Pu.holdC f item x = 1 ∧ Pu.holdF f item x = f) := by
      have e : Pu.holdC f item x = 1 := by unfold Pu.holdC; rw [hok]; rfl
      exact ⟨e, by unfold Pu.holdF; rw [e]; rfl⟩
    have e1 := (he.out.later HB.out).er.c1
    clear hok hX
    simp only []
    go_wp2
    go_ret
    exact ⟨by rw [HA.out.1]; rfl, by rw [HA.out.2]; exact HP2.out, Save.of_below HB.out p⟩
  | true =>
    have HOK := hide hok
    clear hok
    have HQ := hide (asked_any p item x f w2 HP2.out HOK.out)
    unfold lotV at HQ
    have b0 : w2.cell? ⟨w.heap.size, 0, none⟩ = some (.int .i64 x.id) := by simp [World.cell?, hX]
    have b1 : w2.cell? ⟨w.heap.size, 1, none⟩ = some (.int .i64 x.ow) := by simp [World.cell?, hX]
    have b2 : w2.cell? ⟨w.heap.size, 2, none⟩ = some (.int .i64 x.sd) := by simp [World.cell?, hX]
    have b3 : w2.cell? ⟨w.heap.size, 3, none⟩ = some (.int .i64 x.pr) := by simp [World.cell?, hX]
    have b4 : w2.cell? ⟨w.heap.size, 4, none⟩ = some (.int .i64 x.q) := by simp [World.cell?, hX]
    clear hX
    simp only []
    go_wp2_with fail
    refine HQ.out.mono ?_
    rintro e w3 ⟨rfl, hb3⟩
    have HB3 : Hid (Below w.heap.size w w3) := HB.out.trans (hb3.mono HB.out.size)
    have HP3 := hide (HP2.out.lat hb3)
    clear hb3 HQ b0 b1 b2 b3 b4
    have hga := Pu.good_at hg.out HOK.out
    have hmu := Pu.mu_bounds (Pu.well_ok HOK.out)
    have hlt := Pu.place_lt HOK.out
    have ch := HP3.out.cell hlt.1
    have fh := HP3.out.frozen (Pu.hx item x)
    have HCD : Hid (Pu.holdC f item x = if f (Pu.tx item x) - f (Pu.hx item x) < Pu.mu x then 9 else 0) := by show _ = _; unfold Pu.holdC; rw [if_pos HOK.out]
    have HFD : Hid (Pu.holdF f item x = if Pu.holdC f item x = 0 then Pu.add f (Pu.hx item x) (Pu.mu x) else f) := rfl
    generalize Pu.hx item x = ih at *
    generalize hft : f (Pu.tx item x) = ft at *
    generalize hfh : f ih = fi at *
    generalize Pu.mu x = m at *
    have Hfh := hide hfh
    clear hft hfh
    obtain ⟨g0, g1, g2⟩ := hga
    obtain ⟨m0, m1⟩ := hmu
    by_cases hpo : ft - fi < m
    · have HA : Hid (Pu.holdC f item x = 9 ∧ Pu.holdF f item x = f) := by
        have e : Pu.holdC f item x = 9 := by rw [HCD.out, if_pos hpo]
        exact ⟨e, by rw [HFD.out, e]; rfl⟩
      have e9 := (he.out.later HB3.out).c9
      simp only []
      go_wp2
      go_ret
      exact ⟨by rw [HA.out.1]; rfl, by rw [HA.out.2]; exact HP3.out, Save.of_below HB3.out p⟩
    · have HA : Hid (Pu.holdC f item x = 0 ∧ Pu.holdF f item x = Pu.add f ih m) := by
        have e : Pu.holdC f item x = 0 := by rw [HCD.out, if_neg hpo]
        exact ⟨e, by rw [HFD.out, e]; rfl⟩
      simp only []
      go_wp2
      go_ret
      exact ⟨by rw [HA.out.1]; rfl, by rw [HA.out.2]; exact HP3.out.add _ _ _ (by rw [Hfh.out]), (Save.of_below HB3.out p).trans (Save.setCell _ _ _ _)⟩
set_option maxHeartbeats 1000000 in
theorem free_any (p : Nat) (item : Int) (x : Cv.Lot) (f : Nat → Int) (v : Nat → Value) (w : World) (he : Hid (PEr w v)) (hp : Hid (Purse w 55 p f)) (hg : Hid (Pu.Good f)) :
    Calls Tryd.prog 13 #[.pointer (some ⟨p, 0, none⟩), .int .i64 item, lotV x] w fun e w' => e = .returned (errE v (Pu.freeC f item x)) ∧ Purse w' 55 p (Pu.freeF f item x) ∧ Save w w' p := by
  show Calls Tryd.prog 13 #[.pointer (some ⟨p, 0, none⟩), .int .i64 item, .agg #[.int .i64 x.id, .int .i64 x.ow, .int .i64 x.sd, .int .i64 x.pr, .int .i64 x.q]] w _
  have hbW : Below w.heap.size w (w.alloc (.cells #[.int .i64 x.id, .int .i64 x.ow, .int .i64 x.sd, .int .i64 x.pr, .int .i64 x.q] 34)) := (Below.refl _ _).alloc (Nat.le_refl _) _
  have HBW := hide hbW
  have HC := hide (isWell_any item x 110 _ _ _ _ (he.out.later hbW).er)
  have HX0 : Hid ((w.alloc (.cells #[.int .i64 x.id, .int .i64 x.ow, .int .i64 x.sd, .int .i64 x.pr, .int .i64 x.q] 34)).heap[w.heap.size]? = some (.cells #[.int .i64 x.id, .int .i64 x.ow, .int .i64 x.sd, .int .i64 x.pr, .int .i64 x.q] 34 (0, 0))) := heap_alloc_new _ _
  unfold lotV at HC
  clear hbW
  go_enter Tryd.func13, Tryd.ntmps13
  go_wp2_with fail
  refine HC.out.mono ?_
  rintro e w2 ⟨rfl, hb2⟩
  have HB : Hid (Below w.heap.size w w2) := HBW.out.trans (hb2.mono HBW.out.size)
  have hX : w2.heap[w.heap.size]? = some (.cells #[.int .i64 x.id, .int .i64 x.ow, .int .i64 x.sd, .int .i64 x.pr, .int .i64 x.q] 34 (0, 0)) := by
    rw [hb2.block _ (lt_of_block HX0.out)]; exact HX0.out
  have HX3 := hide hX
  have HP2 := hide (hp.out.lat HB.out)
  clear hb2 HC HBW HX0
  cases hok : Pu.well item x with
  | false =>
    have HA : Hid (Pu.freeC f item x = 1 ∧ Pu.freeF f item x = f) := by
      have e : Pu.freeC f item x = 1 := by unfold Pu.freeC; rw [hok]; rfl
      exact ⟨e, by unfold Pu.freeF; rw [e]; rfl⟩
    have e1 := (he.out.later HB.out).er.c1
    clear hok hX
    simp only []
    go_wp2
    go_ret
    exact ⟨by rw [HA.out.1]; rfl, by rw [HA.out.2]; exact HP2.out, Save.of_below HB.out p⟩
  | true =>
    have HOK := hide hok
    clear hok
    have HQ := hide (asked_any p item x f w2 HP2.out HOK.out)
    unfold lotV at HQ
    have b0 : w2.cell? ⟨w.heap.size, 0, none⟩ = some (.int .i64 x.id) := by simp [World.cell?, hX]
    have b1 : w2.cell? ⟨w.heap.size, 1, none⟩ = some (.int .i64 x.ow) := by simp [World.cell?, hX]
    have b2 : w2.cell? ⟨w.heap.size, 2, none⟩ = some (.int .i64 x.sd) := by simp [World.cell?, hX]
    have b3 : w2.cell? ⟨w.heap.size, 3, none⟩ = some (.int .i64 x.pr) := by simp [World.cell?, hX]
    have b4 : w2.cell? ⟨w.heap.size, 4, none⟩ = some (.int .i64 x.q) := by simp [World.cell?, hX]
    clear hX
    simp only []
    go_wp2_with fail
    refine HQ.out.mono ?_
    rintro e w3 ⟨rfl, hb3⟩
    have HB3 : Hid (Below w.heap.size w w3) := HB.out.trans (hb3.mono HB.out.size)
    have HP3 := hide (HP2.out.lat hb3)
    clear hb3 HQ b0 b1 b2 b3 b4
    have hga := Pu.good_at hg.out HOK.out
    have hmu := Pu.mu_bounds (Pu.well_ok HOK.out)
    have hlt := Pu.place_lt HOK.out
    have ch := HP3.out.cell hlt.1
    have fh := HP3.out.frozen (Pu.hx item x)
    have HCD : Hid (Pu.freeC f item x = if f (Pu.hx item x) < Pu.mu x then 9 else 0) := by show _ = _; unfold Pu.freeC; rw [if_pos HOK.out]
    have HFD : Hid (Pu.freeF f item x = if Pu.freeC f item x = 0 then Pu.add f (Pu.hx item x) (-(Pu.mu x)) else f) := rfl
    generalize Pu.hx item x = ih at *
    generalize hft : f (Pu.tx item x) = ft at *
    generalize hfh : f ih = fi at *
    generalize Pu.mu x = m at *
    have Hfh := hide hfh
    clear hft hfh
    obtain ⟨g0, g1, g2⟩ := hga
    obtain ⟨m0, m1⟩ := hmu
    by_cases hpo : fi < m
    · have HA : Hid (Pu.freeC f item x = 9 ∧ Pu.freeF f item x = f) := by
        have e : Pu.freeC f item x = 9 := by rw [HCD.out, if_pos hpo]
        exact ⟨e, by rw [HFD.out, e]; rfl⟩
      have e9 := (he.out.later HB3.out).c9
      simp only []
      go_wp2
      go_ret
      exact ⟨by rw [HA.out.1]; rfl, by rw [HA.out.2]; exact HP3.out, Save.of_below HB3.out p⟩
    · have HA : Hid (Pu.freeC f item x = 0 ∧ Pu.freeF f item x = Pu.add f ih (-m)) := by
        have e : Pu.freeC f item x = 0 := by rw [HCD.out, if_neg hpo]
        exact ⟨e, by rw [HFD.out, e]; rfl⟩
      simp only []
      go_wp2
      go_ret
      exact ⟨by rw [HA.out.1]; rfl, by rw [HA.out.2]; exact HP3.out.add _ _ _ (by rw [Hfh.out]; omega), (Save.of_below HB3.out p).trans (Save.setCell _ _ _ _)⟩
end Go.Proofs.YtgmncdpjbphfhaaDoor
