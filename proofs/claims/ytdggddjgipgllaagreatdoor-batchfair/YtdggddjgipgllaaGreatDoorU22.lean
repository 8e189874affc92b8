/- quantities, demands and supplies by their contracts: tables of what lots ask for, by price. -/
import Derived.Test.YtdggddjgipgllaaGreatDoorU13
import Derived.Test.YtdggddjgipgllaaGreatDoorU14
import Derived.Laws.ResultCell
import Derived.Deep.RegionLaw
import Derived.Test.YtdggddjgipgllaaGreatDoorU04
import Derived.OwnWalk
import Derived.Test.YtdggddjgipgllaaGreatDoorU05
namespace Go.Proofs.YtdggddjgipgllaaGreatDoor
open Go.RowKit
set_option maxRecDepth 100000

theorem results_one_cell {fn : Func} {p : Tmp} {ty : TypeId} (h : fn.results = #[.cell p ty]) (tmps : Array Value) (P : Program) (w : World) :
    (results fn tmps).run P w = ((asAddr (tmps.getD p undef)).run P w).andThen fun a w₁ => (loadVar ty a).run P w₁ := by
  simp only [results, h]
  simp [Sem.run_bind, Result.andThen]

/-- a table as a value -/
def totV (f : Nat → Int) : Value := .agg (row f)

set_option maxHeartbeats 1000000 in
theorem quantities_some (b off cap n : Nat) (side : Int) (l : List Cv.Lot) (w : World) (hn : Hid (l.length = n)) (hl : Hid (LotsAt w b off l)) (hok : Hid (Cv.Well l)) :
    Calls Tryz.prog 82 #[.slice (some ⟨b, off, none⟩) n cap, .int .i64 side] w fun e w' => e = .returned (totV fun i => Cv.at_ l side i) ∧ Below w.heap.size w w' := by
  have h120 := hok.out.1
  rw [hn.out] at h120
  have z60 := zero60
  go_enter Tryz.func82, Tryz.ntmps82
  go_wp2_with fail
  go_loopw [10] (fun i wr => ∃ k : Nat, k ≤ n ∧ i = .int .i64 k ∧ Tot wr w.heap.size (fun _ => 0) ∧ Tot wr (w.heap.size + 1) (fun j => Cv.at_ (l.take k) side j) ∧ Below w.heap.size w wr) (fun i _ => n - (intOf i).toNat)
  case atStart =>
    refine ⟨0, Nat.zero_le _, rfl, (Tot.new w _).alloc _, ?_, ((Below.refl _ _).alloc (Nat.le_refl _) _).alloc (by simp) _⟩
    have := Tot.new (w.alloc (.cells (row fun _ => 0) 108)) (fun _ => 0)
    rw [show (w.alloc (.cells (row fun _ => 0) 108)).heap.size = w.heap.size + 1 by simp] at this
    exact this
  case round =>
    obtain ⟨k, hk, rfl, ht0, ht1, hb⟩ := hrel
    have HT0 := hide ht0; have HT1 := hide ht1; have HB := hide hb
    clear ht0 ht1 hb
    by_cases hlt : k < n
    · have hki : (k : Int) < n := by omega
      obtain ⟨c0, c1, c2, c3, c4⟩ := (hl.out.later HB.out) k (by rw [hn.out]; exact hlt)
      have HS := hide (fun j => Cv.sumIf_step (Cv.atB side j) (l := l) (k := k) (by rw [hn.out]; exact hlt))
      have HX := hide (Cv.ok_bounds (hok.out.oks _ (Cv.nth_mem (l := l) (i := k) (by rw [hn.out]; exact hlt))))
      generalize Cv.nth l k = x at *
      have hbx : Below w.heap.size w (wr.alloc (.cells #[.int .i64 x.id, .int .i64 x.ow, .int .i64 x.sd, .int .i64 x.pr, .int .i64 x.q] 56)) := HB.out.alloc HB.out.size _
      have HBX := hide hbx
      have HX0 : Hid (Tot (wr.alloc (.cells #[.int .i64 x.id, .int .i64 x.ow, .int .i64 x.sd, .int .i64 x.pr, .int .i64 x.q] 56)) w.heap.size (fun _ => 0)) := HT0.out.alloc _
      have HX1 : Hid (Tot (wr.alloc (.cells #[.int .i64 x.id, .int .i64 x.ow, .int .i64 x.sd, .int .i64 x.pr, .int .i64 x.q] 56)) (w.heap.size + 1) (fun j => Cv.at_ (l.take k) side j)) := HT1.out.alloc _
      clear hbx
      by_cases hsd : x.sd = side
      · have hsb : (x.sd == side) = true := by simpa using hsd
        clear hsd
        obtain ⟨pn, hpn⟩ : ∃ pn : Nat, x.pr = (pn : Int) := ⟨x.pr.toNat, by have := HX.out.2.2.2.1; omega⟩
        have hp1 : pn < 1001 := by have := HX.out.2.2.2.1; omega
        have Hpn := hide hpn
        rw [hpn] at c3
        clear hpn
        have hsum : 0 ≤ Cv.at_ (l.take k) side pn ∧ Cv.at_ (l.take k) side pn ≤ 120000 := by
          have := Cv.sumIf_bounds (Cv.atB side pn) (l.take k) (hok.out.oks.take k)
          have h2 : (l.take k).length ≤ 120 := by rw [List.length_take, hn.out]; omega
          unfold Cv.at_
          omega
        obtain ⟨r1, r2⟩ := hsum
        have hq := HX.out.2.2.2.2
        obtain ⟨q1, q2⟩ := hq
        rw [Hpn.out] at HBX HX0 HX1
        go_wp2_with fail
        have d3 : (wr.alloc (.cells #[.int .i64 x.id, .int .i64 x.ow, .int .i64 x.sd, .int .i64 pn, .int .i64 x.q] 56)).cell? ⟨wr.heap.size, 3, none⟩ = some (.int .i64 pn) := by simp
        have d4 : (wr.alloc (.cells #[.int .i64 x.id, .int .i64 x.ow, .int .i64 x.sd, .int .i64 pn, .int .i64 x.q] 56)).cell? ⟨wr.heap.size, 4, none⟩ = some (.int .i64 x.q) := by simp
        clear c0 c1 c2 c3 c4
        generalize wr.alloc (.cells #[.int .i64 x.id, .int .i64 x.ow, .int .i64 x.sd, .int .i64 pn, .int .i64 x.q] 56) = w1 at *
        have d5 := HX1.out.cell hp1
        generalize hat : Cv.at_ (l.take k) side pn = at0 at *
        have Hat := hide hat
        clear hat
        have hpi : (pn : Int) < 1001 := by omega
        refine region_quiet_tail 8 (by kernel_rfl) (by kernel_rfl) ?_
        simp only [List.take_succ_cons, List.take_zero, List.drop_succ_cons, List.drop_zero]
        repeat (first | go_big_quiet_step (fail) | quiet_step (fail))
        refine wpQuiet_nil ?_
        intro _ hw'
        obtain ⟨nq, hw''⟩ := hw'
        subst hw''
        have HB3 : Hid (Below w.heap.size w (w1.drewN nq)) := HBX.out.trans ((blw_drew nq).mono HBX.out.size)
        have e0 := HX0.out.drew nq
        have e1 := HX1.out.drew nq
        have E0 := hide e0; have E1 := hide e1
        clear e0 e1 d3 d4 d5 HX0 HX1 HBX
        generalize w1.drewN nq = w3 at *
        have d5 := E1.out.cell hp1
        have d6 := E1.out.frozen pn
        rw [Hat.out] at d5
        go_wp2_with fail
        refine ⟨⟨k + 1, by omega, by go_num, E0.out.other (by simp) _, (E1.out.set pn (at0 + x.q)).congr fun j _ => ?_, HB3.out.setCell (by simp) _⟩, by simp [intOf]; omega⟩
        have := HS.out j
        unfold Cv.at_
        rw [this]
        by_cases hj : j = pn
        · subst hj
          rw [show Cv.atB side j x = true by simp [Cv.atB, hsb, Hpn.out]]
          rw [← Hat.out]
          simp [Cv.at_]
        · have hne : ¬ (pn : Int) = (j : Int) := fun h => hj (by omega)
          rw [show Cv.atB side j x = false by simp [Cv.atB, Hpn.out, hne]]
          simp [hj]
      · have hsb : (x.sd == side) = false := by simpa using hsd
        have Hsd := hide hsd
        clear hsd
        go_wp2_with fail
        refine ⟨⟨k + 1, by omega, by go_num, HX0.out, HX1.out.congr fun j _ => ?_, HBX.out⟩, by simp [intOf]; omega⟩
        have := HS.out j
        rw [show Cv.atB side j x = false by simp [Cv.atB, hsb]] at this
        unfold Cv.at_
        rw [this]
        simp
    · have hki : ¬ (k : Int) < n := by omega
      have hkk : l.take k = l := by
        have : k = l.length := by rw [hn.out]; omega
        rw [this, List.take_length]
      have ht1 := HT1.out
      rw [hkk] at ht1
      have H1 := hide ht1
      clear hkk ht1 HT1
      have HS2 := hide (HT0.out.stored (fun i => Cv.at_ l side i))
      have HB2 := hide (below_setRow HB.out (Nat.le_refl w.heap.size) (row fun i => Cv.at_ l side i))
      go_wp2_with (first | (refine wpList_load60 H1.out rfl _ rfl rfl ?_) | (refine wpList_store60 (fun i => Cv.at_ l side i) HT0.out rfl _ _ rfl rfl rfl ?_))
      refine bodyPost_ret (v := totV fun i => Cv.at_ l side i) ?_ rfl ⟨rfl, HB2.out⟩
      rw [results_one_cell rfl]
      simp [asAddr, Result.andThen, load60 HS2.out, totV]

theorem quantities_none (cap : Nat) (a : Option Addr) (side : Int) (w : World) :
    Calls Tryz.prog 82 #[.slice a 0 cap, .int .i64 side] w fun e w' => e = .returned (totV fun _ => 0) ∧ Below w.heap.size w w' := by
  have z60 := zero60
  go_enter Tryz.func82, Tryz.ntmps82
  go_wp2
  refine wp_loop_rounds 1 ?_
  rw [rounds_succ]
  have hh : Hid (Tot ((w.alloc (.cells (row fun _ => 0) 108)).alloc (.cells (row fun _ => 0) 108)) w.heap.size (fun _ => 0)) := (Tot.new w _).alloc _
  have h2 : Hid (Tot ((w.alloc (.cells (row fun _ => 0) 108)).alloc (.cells (row fun _ => 0) 108)) (w.heap.size + 1) (fun _ => 0)) := by
    have := Tot.new (w.alloc (.cells (row fun _ => 0) 108)) (fun _ => 0)
    rw [show (w.alloc (.cells (row fun _ => 0) 108)).heap.size = w.heap.size + 1 by simp] at this
    exact this
  have hb : Hid (Below w.heap.size w ((w.alloc (.cells (row fun _ => 0) 108)).alloc (.cells (row fun _ => 0) 108))) := ((Below.refl _ _).alloc (Nat.le_refl _) _).alloc (by simp) _
  generalize (w.alloc (.cells (row fun _ => 0) 108)).alloc (.cells (row fun _ => 0) 108) = wr at *
  have HS2 := hide (hh.out.stored (fun _ => 0))
  have HB2 := hide (below_setRow hb.out (Nat.le_refl w.heap.size) (row fun _ => 0))
  go_wp2_with (first | (refine wpList_load60 h2.out rfl _ rfl rfl ?_) | (refine wpList_store60 (fun _ => 0) hh.out rfl _ _ rfl rfl rfl ?_))
  refine bodyPost_ret (v := totV fun _ => 0) ?_ rfl ⟨rfl, HB2.out⟩
  rw [results_one_cell rfl]
  simp [Act.put, asAddr, Result.andThen, load60 HS2.out, totV]

/-- quantities of one side, by price -/
theorem quantities_any (v : Value) (l : List Cv.Lot) (side : Int) (w : World) (hv : Lots w v l) (hok : Cv.Well l) :
    Calls Tryz.prog 82 #[v, .int .i64 side] w fun e w' => e = .returned (totV fun i => Cv.at_ l side i) ∧ Below w.heap.size w w' := by
  rcases hv with ⟨rfl, a, cap, rfl⟩ | ⟨b, off, cap, rfl, hcap, hl⟩
  · exact quantities_none cap a side w
  · exact quantities_some b off cap _ side l w rfl hl hok

/-- what the table of demands holds while it is being made: from p + 1 on demand, below quantities -/
def dem (l : List Cv.Lot) (p i : Nat) : Int := if p < i then Cv.demand l i else Cv.at_ l 0 i
theorem dem_start {l : List Cv.Lot} (h : Cv.Oks l) (i : Nat) (hi : i < 1001) : Cv.at_ l 0 i = dem l 999 i := by
  unfold dem
  by_cases e : 999 < i
  · obtain rfl : i = 1000 := by omega
    rw [if_pos e]
    have := Cv.demand_step ((1000 : Nat) : Int) l
    rw [Cv.demand_top l h (by omega)] at this
    omega
  · rw [if_neg e]
theorem dem_step {l : List Cv.Lot} {p : Nat} (h1 : 1 ≤ p) (i : Nat) : (if i = p then dem l p p + dem l p (p + 1) else dem l p i) = dem l (p - 1) i := by
  unfold dem
  by_cases e : i = p
  · subst e
    rw [if_pos rfl, if_neg (by omega), if_pos (by omega), if_pos (by omega)]
    have := Cv.demand_step (i : Int) l
    rw [show ((i + 1 : Nat) : Int) = (i : Int) + 1 by omega]
    omega
  · rw [if_neg e]
    by_cases e2 : p < i
    · rw [if_pos e2, if_pos (by omega)]
    · rw [if_neg e2, if_neg (by omega)]
theorem dem_bounds {l : List Cv.Lot} (h : Cv.Well l) (p i : Nat) : 0 ≤ dem l p i ∧ dem l p i ≤ 120000 := by
  have h1 := Cv.sumIf_bounds (Cv.dB i) l h.oks
  have h2 := Cv.sumIf_bounds (Cv.atB 0 i) l h.oks
  have := h.1
  unfold dem Cv.demand Cv.at_
  split <;> omega

set_option maxHeartbeats 1000000 in
/-- demand at all prices -/
theorem demands_any (v : Value) (l : List Cv.Lot) (w : World) (hv : Hid (Lots w v l)) (hok : Hid (Cv.Well l)) :
    Calls Tryz.prog 46 #[v] w fun e w' => e = .returned (totV (dem l 0)) ∧ Below w.heap.size w w' := by
  have z60 := zero60
  have HQ := hide (quantities_any v l 0 (w.alloc (.cells (row fun _ => 0) 108)) (hv.out.later ((Below.refl _ _).alloc (Nat.le_refl _) _)) hok.out)
  go_enter Tryz.func46, Tryz.ntmps46
  go_wp2_with fail
  refine HQ.out.mono ?_
  rintro e w1 ⟨rfl, hb1⟩
  have HB1 : Hid (Below w.heap.size w w1) := ((Below.refl _ _).alloc (Nat.le_refl _) _).trans (hb1.mono (by simp))
  have HR : Hid (Tot w1 w.heap.size (fun _ => 0)) := (Tot.new w _).later hb1 (by simp)
  have HZ : Hid (w.heap.size < w1.heap.size) := by have := hb1.size; simp at this; exact this
  clear hb1 HQ
  simp only [totV]
  have HA : Hid (Tot (w1.alloc (.cells (row fun _ => 0) 108)) w1.heap.size (fun _ => 0)) := Tot.new w1 _
  go_wp2_with (refine wpList_store60 (fun i => Cv.at_ l 0 i) HA.out rfl _ _ rfl rfl rfl ?_)
  have HS : Hid (Tot ((w1.alloc (.cells (row fun _ => 0) 108)).setRow w1.heap.size (row fun i => Cv.at_ l 0 i)) w1.heap.size (dem l 999)) := (HA.out.stored _).congr (dem_start hok.out.oks)
  have HR2 : Hid (Tot ((w1.alloc (.cells (row fun _ => 0) 108)).setRow w1.heap.size (row fun i => Cv.at_ l 0 i)) w.heap.size (fun _ => 0)) := (HR.out.alloc _).beside _ (by have := HZ.out; omega)
  have HB2 : Hid (Below w.heap.size w ((w1.alloc (.cells (row fun _ => 0) 108)).setRow w1.heap.size (row fun i => Cv.at_ l 0 i))) := below_setRow (HB1.out.alloc HB1.out.size _) HB1.out.size _
  clear HR HA HB1
  generalize (w1.alloc (.cells (row fun _ => 0) 108)).setRow w1.heap.size (row fun i => Cv.at_ l 0 i) = w2 at *
  go_loopw [4] (fun i wr => ∃ p : Nat, p ≤ 999 ∧ i = .int .i64 p ∧ Tot wr w.heap.size (fun _ => 0) ∧ Tot wr w1.heap.size (dem l p) ∧ Below w.heap.size w wr) (fun i _ => (intOf i).toNat)
  case atStart => exact ⟨999, by omega, rfl, HR2.out, HS.out, HB2.out⟩
  case round =>
    obtain ⟨p, hp, rfl, ht0, ht1, hb⟩ := hrel
    have HT0 := hide ht0; have HT1 := hide ht1; have HB := hide hb
    clear ht0 ht1 hb HS HR2 HB2
    by_cases hlt : 1 ≤ p
    · have hki : (1 : Int) ≤ (p : Int) := by omega
      have hp1 : p < 1001 := by omega
      have hpi : (p : Int) < 1001 := by omega
      have hpj : (p : Int) + 1 < 1001 := by omega
      have d5 := HT1.out.cell hp1
      have d6 := HT1.out.cell (i := p + 1) (by omega)
      have hb1 := dem_bounds hok.out p p
      have hb2 := dem_bounds hok.out p (p + 1)
      have HX := hide (fun i => dem_step (l := l) (p := p) (by omega) i)
      generalize ha : dem l p p = x at *
      generalize hb : dem l p (p + 1) = y at *
      have Hx := hide ha; have Hy := hide hb
      clear ha hb
      obtain ⟨r1, r2⟩ := hb1
      obtain ⟨r3, r4⟩ := hb2
      go_wp2_with fail
      refine region_quiet_tail 9 (by kernel_rfl) (by kernel_rfl) ?_
      simp only [List.take_succ_cons, List.take_zero, List.drop_succ_cons, List.drop_zero]
      repeat (first | go_big_quiet_step (fail) | quiet_step (fail))
      refine wpQuiet_nil ?_
      intro _ hw'
      obtain ⟨nq, hw''⟩ := hw'
      subst hw''
      have HB3 : Hid (Below w.heap.size w (wr.drewN nq)) := HB.out.trans ((blw_drew nq).mono HB.out.size)
      have e0 := HT0.out.drew nq
      have e1 := HT1.out.drew nq
      have E0 := hide e0; have E1 := hide e1
      clear e0 e1 d5 d6 HT0 HT1 HB
      generalize wr.drewN nq = w3 at *
      have d5 := E1.out.cell hp1
      have d6 := E1.out.frozen p
      go_wp2_with fail
      have E2 := hide ((E1.out.set p (x + y)).congr fun i _ => HX.out i)
      exact ⟨⟨p - 1, by omega, by go_num, E0.out.other (by have := HZ.out; simp; omega) _, E2.out, HB3.out.setCell (by have := HZ.out; simp; omega) _⟩, by simp [intOf]; omega⟩
    · have hki : ¬ (1 : Int) ≤ (p : Int) := by omega
      obtain rfl : p = 0 := by omega
      have HS2 := hide (HT0.out.stored (dem l 0))
      have HB2 := hide (below_setRow HB.out (Nat.le_refl w.heap.size) (row (dem l 0)))
      go_wp2_with (first | (refine wpList_load60 HT1.out rfl _ rfl rfl ?_) | (refine wpList_store60 (dem l 0) HT0.out rfl _ _ rfl rfl rfl ?_))
      refine bodyPost_ret (v := totV (dem l 0)) ?_ rfl ⟨rfl, HB2.out⟩
      rw [results_one_cell rfl]
      simp [asAddr, Result.andThen, load60 HS2.out, totV]

/-- what the table of supplies holds while it is being made: below p supply, from p on quantities -/
def sup (l : List Cv.Lot) (p i : Nat) : Int := if i < p then Cv.supply l i else Cv.at_ l 1 i
theorem sup_start {l : List Cv.Lot} (h : Cv.Oks l) (i : Nat) (hi : i < 1001) : Cv.at_ l 1 i = sup l 2 i := by
  unfold sup
  by_cases e : i < 2
  · rw [if_pos e]
    have := Cv.supply_step ((i : Int) - 1) l
    rw [Cv.supply_low l h (p := (i : Int) - 1) (by omega), show (i : Int) - 1 + 1 = i by omega] at this
    omega
  · rw [if_neg e]
theorem sup_step {l : List Cv.Lot} {p : Nat} (h1 : 1 ≤ p) (i : Nat) : (if i = p then sup l p p + sup l p (p - 1) else sup l p i) = sup l (p + 1) i := by
  unfold sup
  by_cases e : i = p
  · subst e
    rw [if_pos rfl, if_neg (by omega), if_pos (by omega), if_pos (by omega)]
    have := Cv.supply_step ((i : Int) - 1) l
    rw [show (i : Int) - 1 + 1 = i by omega] at this
    rw [show ((i - 1 : Nat) : Int) = (i : Int) - 1 by omega]
    omega
  · rw [if_neg e]
    by_cases e2 : i < p
    · rw [if_pos e2, if_pos (by omega)]
    · rw [if_neg e2, if_neg (by omega)]
theorem sup_bounds {l : List Cv.Lot} (h : Cv.Well l) (p i : Nat) : 0 ≤ sup l p i ∧ sup l p i ≤ 120000 := by
  have h1 := Cv.sumIf_bounds (Cv.sB i) l h.oks
  have h2 := Cv.sumIf_bounds (Cv.atB 1 i) l h.oks
  have := h.1
  unfold sup Cv.supply Cv.at_
  split <;> omega

set_option maxHeartbeats 1000000 in
/-- supply at all prices -/
theorem supplies_any (v : Value) (l : List Cv.Lot) (w : World) (hv : Hid (Lots w v l)) (hok : Hid (Cv.Well l)) :
    Calls Tryz.prog 47 #[v] w fun e w' => e = .returned (totV (sup l 1001)) ∧ Below w.heap.size w w' := by
  have z60 := zero60
  have HQ := hide (quantities_any v l 1 (w.alloc (.cells (row fun _ => 0) 108)) (hv.out.later ((Below.refl _ _).alloc (Nat.le_refl _) _)) hok.out)
  go_enter Tryz.func47, Tryz.ntmps47
  go_wp2_with fail
  refine HQ.out.mono ?_
  rintro e w1 ⟨rfl, hb1⟩
  have HB1 : Hid (Below w.heap.size w w1) := ((Below.refl _ _).alloc (Nat.le_refl _) _).trans (hb1.mono (by simp))
  have HR : Hid (Tot w1 w.heap.size (fun _ => 0)) := (Tot.new w _).later hb1 (by simp)
  have HZ : Hid (w.heap.size < w1.heap.size) := by have := hb1.size; simp at this; exact this
  clear hb1 HQ
  simp only [totV]
  have HA : Hid (Tot (w1.alloc (.cells (row fun _ => 0) 108)) w1.heap.size (fun _ => 0)) := Tot.new w1 _
  go_wp2_with (refine wpList_store60 (fun i => Cv.at_ l 1 i) HA.out rfl _ _ rfl rfl rfl ?_)
  have HS : Hid (Tot ((w1.alloc (.cells (row fun _ => 0) 108)).setRow w1.heap.size (row fun i => Cv.at_ l 1 i)) w1.heap.size (sup l 2)) := (HA.out.stored _).congr (sup_start hok.out.oks)
  have HR2 : Hid (Tot ((w1.alloc (.cells (row fun _ => 0) 108)).setRow w1.heap.size (row fun i => Cv.at_ l 1 i)) w.heap.size (fun _ => 0)) := (HR.out.alloc _).beside _ (by have := HZ.out; omega)
  have HB2 : Hid (Below w.heap.size w ((w1.alloc (.cells (row fun _ => 0) 108)).setRow w1.heap.size (row fun i => Cv.at_ l 1 i))) := below_setRow (HB1.out.alloc HB1.out.size _) HB1.out.size _
  clear HR HA HB1
  generalize (w1.alloc (.cells (row fun _ => 0) 108)).setRow w1.heap.size (row fun i => Cv.at_ l 1 i) = w2 at *
  go_loopw [4] (fun i wr => ∃ p : Nat, (2 ≤ p ∧ p ≤ 1001) ∧ i = .int .i64 p ∧ Tot wr w.heap.size (fun _ => 0) ∧ Tot wr w1.heap.size (sup l p) ∧ Below w.heap.size w wr) (fun i _ => 1001 - (intOf i).toNat)
  case atStart => exact ⟨2, by omega, rfl, HR2.out, HS.out, HB2.out⟩
  case round =>
    obtain ⟨p, hp, rfl, ht0, ht1, hb⟩ := hrel
    have HT0 := hide ht0; have HT1 := hide ht1; have HB := hide hb
    clear ht0 ht1 hb HS HR2 HB2
    by_cases hlt : p ≤ 1000
    · have hki : (p : Int) ≤ 1000 := by omega
      have hp1 : p < 1001 := by omega
      have hpi : (p : Int) < 1001 := by omega
      have hpj : (0 : Int) ≤ (p : Int) - 1 := by omega
      have d5 := HT1.out.cell hp1
      have d6 := HT1.out.cell (i := p - 1) (by omega)
      have hb1 := sup_bounds hok.out p p
      have hb2 := sup_bounds hok.out p (p - 1)
      have HX := hide (fun i => sup_step (l := l) (p := p) (by omega) i)
      generalize ha : sup l p p = x at *
      generalize hb : sup l p (p - 1) = y at *
      have Hx := hide ha; have Hy := hide hb
      clear ha hb
      obtain ⟨r1, r2⟩ := hb1
      obtain ⟨r3, r4⟩ := hb2
      go_wp2_with fail
      refine region_quiet_tail 9 (by kernel_rfl) (by kernel_rfl) ?_
      simp only [List.take_succ_cons, List.take_zero, List.drop_succ_cons, List.drop_zero]
      repeat (first | go_big_quiet_step (fail) | quiet_step (fail))
      refine wpQuiet_nil ?_
      intro _ hw'
      obtain ⟨nq, hw''⟩ := hw'
      subst hw''
      have HB3 : Hid (Below w.heap.size w (wr.drewN nq)) := HB.out.trans ((blw_drew nq).mono HB.out.size)
      have e0 := HT0.out.drew nq
      have e1 := HT1.out.drew nq
      have E0 := hide e0; have E1 := hide e1
      clear e0 e1 d5 d6 HT0 HT1 HB
      generalize wr.drewN nq = w3 at *
      have d5 := E1.out.cell hp1
      have d6 := E1.out.frozen p
      go_wp2_with fail
      have E2 := hide ((E1.out.set p (x + y)).congr fun i _ => HX.out i)
      exact ⟨⟨p + 1, by omega, by go_num, E0.out.other (by have := HZ.out; simp; omega) _, E2.out, HB3.out.setCell (by have := HZ.out; simp; omega) _⟩, by simp [intOf]; omega⟩
    · have hki : ¬ (p : Int) ≤ 1000 := by omega
      obtain rfl : p = 1001 := by omega
      have HS2 := hide (HT0.out.stored (sup l 1001))
      have HB2 := hide (below_setRow HB.out (Nat.le_refl w.heap.size) (row (sup l 1001)))
      go_wp2_with (first | (refine wpList_load60 HT1.out rfl _ rfl rfl ?_) | (refine wpList_store60 (sup l 1001) HT0.out rfl _ _ rfl rfl rfl ?_))
      refine bodyPost_ret (v := totV (sup l 1001)) ?_ rfl ⟨rfl, HB2.out⟩
      rw [results_one_cell rfl]
      simp [asAddr, Result.andThen, load60 HS2.out, totV]
end Go.Proofs.YtdggddjgipgllaaGreatDoor
/- Price by its contracts: the one price of lots that are well; 0, 0 and an error of others. -/
namespace Go.Proofs.YtdggddjgipgllaaGreatDoor
open Go.RowKit
set_option maxRecDepth 100000

theorem apart_any (a b : Int) (w : World) (h1 : -1000000 ≤ a) (h2 : a ≤ 1000000) (h3 : -1000000 ≤ b) (h4 : b ≤ 1000000) : Calls Tryz.prog 48 #[.int .i64 a, .int .i64 b] w fun e w' => e = .returned (.int .i64 (Cv.size (a - b))) ∧ w' = w := by
  go_enter Tryz.func48, Tryz.ntmps48
  go_wp2
  all_goals go_ret
  all_goals exact ⟨ret_int (by unfold Cv.size; omega), rfl⟩

def worthV (v s a : Int) : Value := .agg #[.int .i64 v, .int .i64 s, .int .i64 a]
theorem isBetter_any (v s a v' s' a' : Int) (w : World) : Calls Tryz.prog 49 #[worthV v s a, worthV v' s' a'] w fun e w' => e = .returned (.bool (Cv.worthB v s a v' s' a')) ∧ Below w.heap.size w w' := by
  show Calls Tryz.prog 49 #[.agg #[.int .i64 v, .int .i64 s, .int .i64 a], .agg #[.int .i64 v', .int .i64 s', .int .i64 a']] w _
  go_enter Tryz.func49, Tryz.ntmps49
  go_wp2
  all_goals go_ret
  all_goals
    refine ⟨ret_bool ?_, ((Below.refl _ _).alloc (Nat.le_refl _) _).alloc (by simp) _⟩
    simp_all [Cv.worthB]

theorem price_err (v : Value) (ref : Int) (R : World → Value → Prop) (w : World)
    (HC : Hid (Calls Tryz.prog 45 #[v] w fun e w' => (∃ U x, e = .returned (.iface U x) ∧ R w' (.iface U x)) ∧ Below w.heap.size w w')) :
    Calls Tryz.prog 16 #[v, .int .i64 ref] w fun e w' => (∃ U x, e = .returned (.tuple #[.int .i64 0, .int .i64 0, .iface U x]) ∧ R w' (.iface U x)) ∧ Below w.heap.size w w' := by
  go_enter Tryz.func16, Tryz.ntmps16
  go_wp2_with fail
  refine HC.out.mono ?_
  rintro e w1 ⟨⟨U, x, rfl, hr⟩, hb1⟩
  have HB1 := hide hb1; have HR := hide hr
  clear hb1 hr
  simp only []
  go_wp2
  go_ret3
  exact ⟨⟨U, x, rfl, HR.out⟩, HB1.out⟩

theorem price_ref (v : Value) (ref : Int) (T : TypeId) (v1 v6 v7 : Value) (w : World) (he : Hid (Er w T v1 v6 v7)) (hr : Wi.withinB ref 1 1000 = false)
    (HC : Hid (Calls Tryz.prog 45 #[v] w fun e w' => e = .returned .nilIface ∧ Below w.heap.size w w')) :
    Calls Tryz.prog 16 #[v, .int .i64 ref] w fun e w' => e = .returned (.tuple #[.int .i64 0, .int .i64 0, .iface T v1]) ∧ Below w.heap.size w w' := by
  go_enter Tryz.func16, Tryz.ntmps16
  go_wp2_with fail
  refine HC.out.mono ?_
  rintro e w1 ⟨rfl, hb1⟩
  have HB1 := hide hb1
  have e1 := (he.out.later hb1).c1
  clear hb1
  simp only []
  go_wp2_with fail
  refine (within_any _ _ _ _).mono ?_
  rintro e w1 ⟨rfl, rfl⟩
  rw [hr]
  simp only []
  go_wp2_with fail
  go_quiet (fail)
  have HB2 : Hid (Below w.heap.size w (w1.drewN nq)) := HB1.out.trans ((blw_drew nq).mono HB1.out.size)
  generalize w1.drewN nq = w2 at *
  go_wp2_with fail
  go_ret3
  exact ⟨rfl, HB2.out⟩

/-- three numbers of the call's own, at a block -/
def Wor (w : World) (B : Nat) (v s a : Int) : Prop := w.heap[B]? = some (.cells #[.int .i64 v, .int .i64 s, .int .i64 a] 111 (0, 0))
theorem Wor.later {w w' : World} {B n : Nat} {v s a : Int} (h : Wor w B v s a) (hb : Below n w w') (hn : B < n) : Wor w' B v s a := (hb.block B hn).trans h
theorem Wor.lt {w : World} {B : Nat} {v s a : Int} (h : Wor w B v s a) : B < w.heap.size := (Array.getElem?_eq_some_iff.1 h).1
theorem Wor.cells {w : World} {B : Nat} {v s a : Int} (h : Wor w B v s a) : w.cell? ⟨B, 0, none⟩ = some (.int .i64 v) ∧ w.cell? ⟨B, 1, none⟩ = some (.int .i64 s) ∧ w.cell? ⟨B, 2, none⟩ = some (.int .i64 a) := by
  refine ⟨?_, ?_, ?_⟩ <;> (rw [cell_of_row w B _ _ _ _ h]; rfl)
theorem Wor.frozen {w : World} {B : Nat} {v s a : Int} (h : Wor w B v s a) (i : Nat) : w.frozen? ⟨B, i, none⟩ = false := by
  simp [World.frozen?, show w.heap[B]? = _ from h]

theorem Wor.set {w : World} {B : Nat} {v s a : Int} (h : Wor w B v s a) (v' s' a' : Int) : Wor (((w.setCell ⟨B, 0, none⟩ (.int .i64 v')).setCell ⟨B, 1, none⟩ (.int .i64 s')).setCell ⟨B, 2, none⟩ (.int .i64 a')) B v' s' a' := by
  unfold Wor at h ⊢
  have h1 : (w.setCell ⟨B, 0, none⟩ (.int .i64 v')).heap[B]? = some (.cells #[.int .i64 v', .int .i64 s, .int .i64 a] 111 (0, 0)) := by
    rw [setCell_eq_setRow w B 0 _ _ _ _ h]; exact setRow_heap w B _ _ _ _ h
  have h2 : ((w.setCell ⟨B, 0, none⟩ (.int .i64 v')).setCell ⟨B, 1, none⟩ (.int .i64 s')).heap[B]? = some (.cells #[.int .i64 v', .int .i64 s', .int .i64 a] 111 (0, 0)) := by
    rw [setCell_eq_setRow _ B 1 _ _ _ _ h1]; exact setRow_heap _ B _ _ _ _ h1
  rw [setCell_eq_setRow _ B 2 _ _ _ _ h2]; exact setRow_heap _ B _ _ _ _ h2

set_option maxHeartbeats 2000000 in
/-- the one price of lots that are well -/
theorem price_well (v : Value) (l : List Cv.Lot) (ref : Int) (w : World) (hv : Hid (Lots w v l)) (hok : Hid (Cv.Well l)) (hr : Wi.withinB ref 1 1000 = true)
    (HC : Hid (Calls Tryz.prog 45 #[v] w fun e w' => e = .returned .nilIface ∧ Below w.heap.size w w')) :
    Calls Tryz.prog 16 #[v, .int .i64 ref] w fun e w' => (∃ p vol, e = .returned (.tuple #[.int .i64 p, .int .i64 vol, .nilIface]) ∧ Cv.Won l ref 1000 p vol) ∧ Below w.heap.size w w' := by
  have z60 := zero60
  have HD : Hid (∀ W, Below w.heap.size w W → Calls Tryz.prog 46 #[v] W fun e w' => e = .returned (totV (dem l 0)) ∧ Below W.heap.size W w') := fun W hb => demands_any v l W (hv.out.later hb) hok
  have HSu : Hid (∀ W, Below w.heap.size w W → Calls Tryz.prog 47 #[v] W fun e w' => e = .returned (totV (sup l 1001)) ∧ Below W.heap.size W w') := fun W hb => supplies_any v l W (hv.out.later hb) hok
  have hrr : 1 ≤ ref ∧ ref ≤ 1000 := by simpa [Wi.withinB] using hr
  obtain ⟨rf1, rf2⟩ := hrr
  go_enter Tryz.func16, Tryz.ntmps16
  go_wp2_with fail
  refine HC.out.mono ?_
  rintro e w1 ⟨rfl, hb1⟩
  have HB1 := hide hb1
  clear hb1 HC
  simp only []
  go_wp2_with fail
  refine (within_any _ _ _ _).mono ?_
  rintro e w1 ⟨rfl, rfl⟩
  rw [hr]
  simp only []
  clear hr
  go_wp2_with fail
  refine (HD.out w1 HB1.out).mono ?_
  rintro e w2 ⟨rfl, hb2⟩
  have HB2 := hide (HB1.out.trans (hb2.mono HB1.out.size))
  clear hb2 HD HB1
  simp only []
  go_wp2_with fail
  refine (HSu.out w2 HB2.out).mono ?_
  rintro e w3 ⟨rfl, hb3⟩
  have HB3 := hide (HB2.out.trans (hb3.mono HB2.out.size))
  clear hb3 HSu HB2
  simp only [totV]
  have HA : Hid (Tot ((w3.alloc (.cells (row fun _ => 0) 108)).alloc (.cells (row fun _ => 0) 108)) w3.heap.size (fun _ => 0)) := (Tot.new w3 _).alloc _
  have HA2 : Hid (Tot (((w3.alloc (.cells (row fun _ => 0) 108)).alloc (.cells (row fun _ => 0) 108)).setRow w3.heap.size (row (dem l 0))) (w3.heap.size + 1) (fun _ => 0)) := by
    have := Tot.new (w3.alloc (.cells (row fun _ => 0) 108)) (fun _ => 0)
    rw [show (w3.alloc (.cells (row fun _ => 0) 108)).heap.size = w3.heap.size + 1 by simp] at this
    exact this.beside _ (by omega)
  go_wp2_with (first | (refine wpList_store60 (dem l 0) HA.out rfl _ _ rfl rfl rfl ?_) | (refine wpList_store60 (sup l 1001) HA2.out rfl _ _ rfl rfl rfl ?_))
  have TD : Hid (Tot ((((w3.alloc (.cells (row fun _ => 0) 108)).alloc (.cells (row fun _ => 0) 108)).setRow w3.heap.size (row (dem l 0))).setRow (w3.heap.size + 1) (row (sup l 1001))) w3.heap.size (dem l 0)) := (HA.out.stored _).beside _ (by omega)
  have TS : Hid (Tot ((((w3.alloc (.cells (row fun _ => 0) 108)).alloc (.cells (row fun _ => 0) 108)).setRow w3.heap.size (row (dem l 0))).setRow (w3.heap.size + 1) (row (sup l 1001))) (w3.heap.size + 1) (sup l 1001)) := HA2.out.stored _
  have HB4 : Hid (Below w.heap.size w ((((w3.alloc (.cells (row fun _ => 0) 108)).alloc (.cells (row fun _ => 0) 108)).setRow w3.heap.size (row (dem l 0))).setRow (w3.heap.size + 1) (row (sup l 1001)))) :=
    below_setRow (below_setRow ((HB3.out.alloc HB3.out.size _).alloc (by have := HB3.out.size; simp; omega) _) HB3.out.size _) (by have := HB3.out.size; omega) _
  have hz4 : Hid (((((w3.alloc (.cells (row fun _ => 0) 108)).alloc (.cells (row fun _ => 0) 108)).setRow w3.heap.size (row (dem l 0))).setRow (w3.heap.size + 1) (row (sup l 1001))).heap.size = w3.heap.size + 1 + 1) := by show _ = _; simp
  clear HA HA2
  generalize (((w3.alloc (.cells (row fun _ => 0) 108)).alloc (.cells (row fun _ => 0) 108)).setRow w3.heap.size (row (dem l 0))).setRow (w3.heap.size + 1) (row (sup l 1001)) = w4 at *
  have TD5 := hide (TD.out.alloc (.cells #[.int .i64 0, .int .i64 0, .int .i64 0] 111))
  have TS5 := hide (TS.out.alloc (.cells #[.int .i64 0, .int .i64 0, .int .i64 0] 111))
  have HB5 := hide (HB4.out.alloc HB4.out.size (.cells #[.int .i64 0, .int .i64 0, .int .i64 0] 111))
  have WB5 : Hid (Wor (w4.alloc (.cells #[.int .i64 0, .int .i64 0, .int .i64 0] 111)) (w3.heap.size + 1 + 1) 0 0 0) := by
    have := heap_alloc_last w4 (.cells #[.int .i64 0, .int .i64 0, .int .i64 0] 111)
    rw [hz4.out] at this
    exact this
  have hz5 : Hid ((w4.alloc (.cells #[.int .i64 0, .int .i64 0, .int .i64 0] 111)).heap.size = w3.heap.size + 3) := by show _ = _; simp [hz4.out]
  have HZ : Hid (w.heap.size ≤ w3.heap.size) := HB3.out.size
  clear TD TS HB4 hz4 HB3
  generalize w4.alloc (.cells #[.int .i64 0, .int .i64 0, .int .i64 0] 111) = w5 at *
  generalize w3.heap.size = N at *
  go_loopw [4, 11] (fun pr i wr => ∃ (q : Nat) (p vol : Int), (1 ≤ q ∧ q ≤ 1001) ∧ i = .int .i64 q ∧ pr = .int .i64 p ∧ Cv.Won l ref ((q : Int) - 1) p vol ∧ Tot wr N (dem l 0) ∧ Tot wr (N + 1) (sup l 1001) ∧ Wor wr (N + 1 + 1) vol (Cv.wl l p) (Cv.wa ref p) ∧ Below w.heap.size w wr) (fun _ i _ => 1001 - (intOf i).toNat)
  case atStart => exact ⟨1, 0, 0, by omega, rfl, rfl, Cv.Won.start l ref, TD5.out, TS5.out, WB5.out, HB5.out⟩
  case round =>
    obtain ⟨q, p, vol, hq, rfl, rfl, hwon, hd, hs, hw, hb⟩ := hrel
    obtain ⟨hq1, hq2⟩ := hq
    have HW := hide hwon; have HTD := hide hd; have HTS := hide hs; have HWo := hide hw; have HB := hide hb
    clear hwon hd hs hw hb TD5 TS5 WB5 HB5
    by_cases hlt : q ≤ 1000
    · have hki : (q : Int) ≤ 1000 := by omega
      have hqi : (q : Int) < 1001 := by omega
      have d1 := HTD.out.cell (i := q) (by omega)
      have d2 := HTS.out.cell (i := q) (by omega)
      rw [show dem l 0 q = Cv.demand l q by unfold dem; rw [if_pos (by omega)]] at d1
      rw [show sup l 1001 q = Cv.supply l q by unfold sup; rw [if_pos (by omega)]] at d2
      have b1 : 0 ≤ Cv.demand l q ∧ Cv.demand l q ≤ 120000 := by
        have := Cv.sumIf_bounds (Cv.dB q) l hok.out.oks; have h2 := hok.out.1; unfold Cv.demand; omega
      have b2 : 0 ≤ Cv.supply l q ∧ Cv.supply l q ≤ 120000 := by
        have := Cv.sumIf_bounds (Cv.sB q) l hok.out.oks; have h2 := hok.out.1; unfold Cv.supply; omega
      have HV : Hid (Cv.volume l q = min (Cv.demand l q) (Cv.supply l q)) := rfl
      have HL : Hid (Cv.left l q = Cv.size (Cv.demand l q - Cv.supply l q)) := rfl
      have HAw : Hid (Cv.away ref q = Cv.size ((q : Int) - ref)) := rfl
      generalize Cv.demand l q = dm at *
      generalize Cv.supply l q = sp at *
      obtain ⟨b11, b12⟩ := b1
      obtain ⟨b21, b22⟩ := b2
      go_wp2_with fail
      obtain ⟨val, hvF, hvT⟩ : ∃ val : Bool → Nat → World, (∀ n, val false n = wr.drewN n) ∧ (∀ n, val true n = (wr.drewN n).alloc (.cells #[.int .i64 0, .int .i64 0, .int .i64 0] 111)) := ⟨fun b n => bif b then (wr.drewN n).alloc (.cells #[.int .i64 0, .int .i64 0, .int .i64 0] 111) else wr.drewN n, fun _ => rfl, fun _ => rfl⟩
      have f1 : ∀ n, (val false n).cell? ⟨N, q, none⟩ = some (.int .i64 dm) := fun n => by rw [hvF]; exact d1
      have f2 : ∀ n, (val false n).cell? ⟨N + 1, q, none⟩ = some (.int .i64 sp) := fun n => by rw [hvF]; exact d2
      have t1 : ∀ n, (val true n).cell? ⟨N, q, none⟩ = some (.int .i64 dm) := fun n => by
        rw [hvT, ((Below.refl (wr.drewN n).heap.size _).alloc (Nat.le_refl _) _).cell (p := ⟨N, q, none⟩) (World.block_lt_of_cell? _ _ (show (wr.drewN n).cell? ⟨N, q, none⟩ = _ from d1))]; exact d1
      have t2 : ∀ n, (val true n).cell? ⟨N + 1, q, none⟩ = some (.int .i64 sp) := fun n => by
        rw [hvT, ((Below.refl (wr.drewN n).heap.size _).alloc (Nat.le_refl _) _).cell (p := ⟨N + 1, q, none⟩) (World.block_lt_of_cell? _ _ (show (wr.drewN n).cell? ⟨N + 1, q, none⟩ = _ from d2))]; exact d2
      have HvF := hide hvF; have HvT := hide hvT
      have hal : ∀ (a : Act) n, (execOp a.eval { dst := some 12, op := Op.alloc 111, type := 0, pos := "clear.go:22", after := #[], guard := none }).run Tryz.prog (val false n) = .ok (.value (.pointer (some ⟨wr.heap.size, 0, none⟩))) (val true n) := by
        intro a n
        rw [hvF, hvT]
        kernel_rfl
      clear hvF hvT
      refine region_free_alloc_lit (val := val) (p := .pointer (some ⟨wr.heap.size, 0, none⟩)) 18 rfl (by kernel_rfl) (by kernel_rfl) (by kernel_rfl) rfl (by rw [HvF.out]; rfl) hal ?_
      clear hal d1 d2
      have wr1 : IntKind.i64.wrap (dm - sp) = dm - sp := IntWalk.i64_in _ (by omega)
      have wr2 : IntKind.i64.wrap ((q : Int) - ref) = (q : Int) - ref := IntWalk.i64_in _ (by omega)
      simp only [List.take_succ_cons, List.take_zero]
      repeat (refine walkF_step (fun K hK => ?_); refine ⟨by rfl, ?_⟩; unfold quietF; go_simp; first | (refine hK _ ?_; clear hK K) | (refine ⟨_, ⟨fun n => (apart_any _ _ _ (by omega) (by omega) (by omega) (by omega)).mono (fun e w' ⟨he, hw⟩ => ⟨he, n, hw⟩), fun n => (apart_any _ _ _ (by omega) (by omega) (by omega) (by omega)).mono (fun e w' ⟨he, hw⟩ => ⟨he, n, hw⟩)⟩, hK _ ?_⟩; clear hK K))
      rw [show (if sp < dm then sp else dm) = Cv.volume l q by rw [HV.out]; split <;> omega, ← HL.out, ← HAw.out]
      refine walkF_nil ?_
      intro n
      rw [HvT.out]
      have HTD2 := hide (HTD.out.drew n)
      have HTS2 := hide (HTS.out.drew n)
      have HWo2 : Hid (Wor (wr.drewN n) (N + 1 + 1) vol (Cv.wl l p) (Cv.wa ref p)) := HWo.out
      have HB2 : Hid (Below w.heap.size w (wr.drewN n)) := HB.out.trans ((blw_drew n).mono HB.out.size)
      rw [show wr.heap.size = (wr.drewN n).heap.size from rfl]
      clear HvF HvT f1 f2 t1 t2 HTD HTS HWo HB wr1 wr2 HV HL HAw
      generalize wr.drewN n = W at *
      have HNz : Hid (N + 1 + 1 < W.heap.size) := HWo2.out.lt
      have HBa : Hid (Below W.heap.size W (W.alloc (.cells #[.int .i64 (Cv.volume l q), .int .i64 (Cv.left l q), .int .i64 (Cv.away ref q)] 111))) := (Below.refl _ _).alloc (Nat.le_refl _) _
      obtain ⟨o0, o1, o2⟩ := (HWo2.out.later HBa.out HNz.out).cells
      have HIB := hide (isBetter_any (Cv.volume l q) (Cv.left l q) (Cv.away ref q) vol (Cv.wl l p) (Cv.wa ref p) (W.alloc (.cells #[.int .i64 (Cv.volume l q), .int .i64 (Cv.left l q), .int .i64 (Cv.away ref q)] 111)))
      go_wp2_with fail
      refine HIB.out.mono ?_
      rintro e w6 ⟨rfl, hb6⟩
      have HT6 : Hid (Wor w6 W.heap.size (Cv.volume l q) (Cv.left l q) (Cv.away ref q)) := (heap_alloc_last W _ |> fun h => (show Wor _ _ _ _ _ from h)).later hb6 (by simp)
      have HB6 : Hid (Below W.heap.size W w6) := HBa.out.trans (hb6.mono HBa.out.size)
      have HTD6 : Hid (Tot w6 N (dem l 0)) := HTD2.out.later HB6.out HTD2.out.lt
      have HTS6 : Hid (Tot w6 (N + 1) (sup l 1001)) := HTS2.out.later HB6.out HTS2.out.lt
      have HWo6 : Hid (Wor w6 (N + 1 + 1) vol (Cv.wl l p) (Cv.wa ref p)) := HWo2.out.later HB6.out HNz.out
      have HBB : Hid (Below w.heap.size w w6) := HB2.out.trans (HB6.out.mono HB2.out.size)
      clear hb6 HBa o0 o1 o2 HIB HTD2 HTS2 HWo2 HB2 HB6
      have HN2 : Hid (N + 1 + 1 ≠ W.heap.size) := by show _ ≠ _; have := HNz.out; omega
      clear HNz
      cases hwb : Cv.worthB (Cv.volume l q) (Cv.left l q) (Cv.away ref q) vol (Cv.wl l p) (Cv.wa ref p) with
      | false =>
        have Hwb := hide hwb
        clear hwb
        simp only []
        go_wp2_with fail
        have hk := HW.out.keep hok.out.oks (by rw [show (q : Int) - 1 + 1 = q by omega]; exact Hwb.out)
        rw [show (q : Int) - 1 + 1 = ((q + 1 : Nat) : Int) - 1 by omega] at hk
        exact ⟨⟨q + 1, p, vol, by omega, by go_num, rfl, hk, HTD6.out, HTS6.out, HWo6.out, HBB.out⟩, by simp [intOf]; omega⟩
      | true =>
        have Hwb := hide hwb
        clear hwb
        simp only []
        obtain ⟨g0, g1, g2⟩ := HT6.out.cells
        have h0 := HWo6.out.frozen 0
        have h1 := HWo6.out.frozen 1
        have h2 := HWo6.out.frozen 2
        obtain ⟨o0, o1, o2⟩ := HWo6.out.cells
        go_wp2_with fail
        refine region_quiet_tail 3 (by kernel_rfl) (by kernel_rfl) ?_
        simp only [List.take_succ_cons, List.take_zero, List.drop_succ_cons, List.drop_zero]
        repeat (first | go_big_quiet_step (fail) | quiet_step (fail))
        refine wpQuiet_nil ?_
        intro _ hw'
        obtain ⟨nq, hw''⟩ := hw'
        subst hw''
        have HBd : Hid (Below w.heap.size w (w6.drewN nq)) := HBB.out.trans ((blw_drew nq).mono HBB.out.size)
        have HTDd := hide (HTD6.out.drew nq)
        have HTSd := hide (HTS6.out.drew nq)
        have HWd : Hid (Wor (w6.drewN nq) (N + 1 + 1) vol (Cv.wl l p) (Cv.wa ref p)) := HWo6.out
        clear g0 g1 g2 h0 h1 h2 o0 o1 o2 HT6 HTD6 HTS6 HWo6 HBB
        generalize w6.drewN nq = w7 at *
        have h0 := HWd.out.frozen 0
        have h1 := HWd.out.frozen 1
        have h2 := HWd.out.frozen 2
        obtain ⟨o0, o1, o2⟩ := HWd.out.cells
        go_wp2_with fail
        have hk := HW.out.take hok.out.oks (by omega) (by rw [show (q : Int) - 1 + 1 = q by omega]; exact Hwb.out)
        rw [show (q : Int) - 1 + 1 = q by omega, show (q : Int) = ((q + 1 : Nat) : Int) - 1 by omega] at hk
        have hq0 : ((q + 1 : Nat) : Int) - 1 = q := by omega
        rw [hq0] at hk
        have hw7 := HWd.out.set (Cv.volume l q) (Cv.left l q) (Cv.away ref q)
        refine ⟨⟨q + 1, q, Cv.volume l q, by omega, by go_num, rfl, by rw [hq0]; exact hk, ?_, ?_, ?_, ?_⟩, by simp [intOf]; omega⟩
        · exact ((HTDd.out.other (by simp; omega) _).other (by simp; omega) _).other (by simp; omega) _
        · exact ((HTSd.out.other (by simp) _).other (by simp) _).other (by simp) _
        · rw [show Cv.wl l q = Cv.left l q by unfold Cv.wl; rw [if_neg (by omega)], show Cv.wa ref q = Cv.away ref q by unfold Cv.wa; rw [if_neg (by omega)]]
          exact hw7
        · have := HZ.out
          exact ((HBd.out.setCell (by simp; omega) _).setCell (by simp; omega) _).setCell (by simp; omega) _
    · have hki : ¬ (q : Int) ≤ 1000 := by omega
      obtain rfl : q = 1001 := by omega
      obtain ⟨o0, o1, o2⟩ := HWo.out.cells
      go_wp2_with fail
      go_quiet (fail)
      have HBd : Hid (Below w.heap.size w (wr.drewN nq)) := HB.out.trans ((blw_drew nq).mono HB.out.size)
      generalize wr.drewN nq = w7 at *
      go_wp2_with fail
      go_ret3
      exact ⟨⟨p, vol, rfl, HW.out⟩, HBd.out⟩
end Go.Proofs.YtdggddjgipgllaaGreatDoor
/- Short and Strict by their contracts; Price of lots that are well, and of others; cleared: a closed fact. -/
namespace Go.Proofs.YtdggddjgipgllaaGreatDoor
open Go.RowKit
set_option maxRecDepth 100000

theorem two_boxes (w : World) (x y : Value) : Below w.heap.size w ((w.alloc (.cells #[x] 3)).alloc (.cells #[y] 3)) := ((Below.refl _ _).alloc (Nat.le_refl _) _).alloc (by simp) _
/-- who is short, by demand and supply -/
def shortOf (d s : Int) : Int := if d < s then 0 else if s < d then 1 else -1
/-- the price of lots that are well -/
theorem price_any (v : Value) (l : List Cv.Lot) (ref : Int) (T : TypeId) (v1 v6 v7 : Value) (w : World) (hv : Lots w v l) (he : Hid (Er w T v1 v6 v7)) (hok : Cv.Well l) (hr : Wi.withinB ref 1 1000 = true) :
    Calls Tryz.prog 16 #[v, .int .i64 ref] w fun e w' => (∃ p vol, e = .returned (.tuple #[.int .i64 p, .int .i64 vol, .nilIface]) ∧ Cv.Won l ref 1000 p vol) ∧ Below w.heap.size w w' :=
  price_well v l ref w hv hok hr (check_well v l T v1 v6 v7 w hv he hok)
/-- else 0, 0 and an error -/
theorem price_bad (v : Value) (l : List Cv.Lot) (ref : Int) (T : TypeId) (v1 v6 v7 : Value) (w : World) (hv : Lots w v l) (he : Hid (Er w T v1 v6 v7)) (hbad : ¬ (Cv.Well l ∧ Wi.withinB ref 1 1000 = true)) :
    Calls Tryz.prog 16 #[v, .int .i64 ref] w fun e w' => (∃ U x, e = .returned (.tuple #[.int .i64 0, .int .i64 0, .iface U x])) ∧ Below w.heap.size w w' := by
  by_cases hok : Cv.Well l
  · have hr : Wi.withinB ref 1 1000 = false := by
      cases h : Wi.withinB ref 1 1000 with
      | true => exact absurd ⟨hok, h⟩ hbad
      | false => rfl
    refine (price_ref v ref T v1 v6 v7 w he hr (check_well v l T v1 v6 v7 w hv he hok)).mono ?_
    rintro e w' ⟨rfl, hb⟩
    exact ⟨⟨_, _, rfl⟩, hb⟩
  · have h := check_ill v l T v1 v6 v7 w hv he hok
    refine (price_err v ref (fun _ _ => True) w (h.mono ?_)).mono ?_
    · rintro e w' ⟨⟨U, x, rfl⟩, hb⟩
      exact ⟨⟨U, x, rfl, trivial⟩, hb⟩
    · rintro e w' ⟨⟨U, x, rfl, _⟩, hb⟩
      exact ⟨⟨U, x, rfl⟩, hb⟩

def twoLots : List Cv.Lot := [⟨1, 0, 0, 10, 5⟩, ⟨2, 0, 1, 8, 4⟩]
end Go.Proofs.YtdggddjgipgllaaGreatDoor
