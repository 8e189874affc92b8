/- Add of a book by its contract. -/
import Derived.Test.YtdggddjgipgllaaGreatDoorG03
import Derived.Test.YtdggddjgipgllaaGreatDoorG08
import Derived.Test.YtdggddjgipgllaaGreatDoorG06
import Derived.Test.YtdggddjgipgllaaGreatDoorG10
namespace Go.Proofs.YtdggddjgipgllaaGreatDoor
open Go.RowKit Go.Maps
set_option maxRecDepth 100000

theorem well_one {x : Cv.Lot} : Cv.Well [x] ↔ Cv.ok x = true := by
 constructor
 ·intro h
  exact h.oks x (by simp)
 ·intro h
  refine ⟨by simp, fun i hi => ?_⟩
  have : i = 0 := by simp at hi; omega
  subst this
  simp [Cv.okAt, Cv.nth, h, Cv.has]
theorem lotsAt_new (w : World) (x : Cv.Lot) : Lots (w.alloc (.cells #[.int .i64 x.id, .int .i64 x.ow, .int .i64 x.sd, .int .i64 x.pr, .int .i64 x.q] 56)) (.slice (some ⟨w.heap.size, 0, none⟩) 1 1) [x] := by
 refine .inr ⟨_, 0, 1, rfl, Nat.le_refl _, ?_⟩
 refine lotsAt_of_flat fun j u hj => ?_
 have hj' : (lotCells x)[j]? = some u := by simpa [flat] using hj
 have := cell_new5 w x 56 _ rfl j u hj'
 have hp : (⟨w.heap.size, 0, none⟩ : Addr).add j = ⟨w.heap.size, j, none⟩ := by unfold Addr.add; split <;> simp_all
 rwa [hp] at this

set_option maxHeartbeats 1000000 in
theorem add_any (p base : Nat) (v : Value) (x : Cv.Lot) (l : List Cv.Lot) (T : TypeId) (v1 v5 v6 v7 : Value) (w : World) (he : Hid (Er4 w T v1 v5 v6 v7)) (hb : Hid (Book w base p v l)) (hn : Hid (l.length ≤ 60)) :
  Calls Tryz.prog 40 #[.pointer (some ⟨p, 0, none⟩), lotV x] w fun e w' => e = .returned (errOf T v1 v5 v6 v7 (Bk.addC l x)) ∧ ∃ v', Book w' base p v' (Bk.addL l x) ∧ Step w w' p v v' := by
 show Calls Tryz.prog 40 #[.pointer (some ⟨p, 0, none⟩), .agg #[.int .i64 x.id, .int .i64 x.ow, .int .i64 x.sd, .int .i64 x.pr, .int .i64 x.q]] w _
 have hbW : Below w.heap.size w ((w.alloc (.cells #[.int .i64 x.id, .int .i64 x.ow, .int .i64 x.sd, .int .i64 x.pr, .int .i64 x.q] 56)).alloc (.cells #[.int .i64 x.id, .int .i64 x.ow, .int .i64 x.sd, .int .i64 x.pr, .int .i64 x.q] 56)) := (bal).alloc (by simp) _
 have hLot := lotsAt_new (w.alloc (.cells #[.int .i64 x.id, .int .i64 x.ow, .int .i64 x.sd, .int .i64 x.pr, .int .i64 x.q] 56)) x
 rw [show (w.alloc (.cells #[.int .i64 x.id, .int .i64 x.ow, .int .i64 x.sd, .int .i64 x.pr, .int .i64 x.q] 56)).heap.size = w.heap.size + 1 by simp] at hLot
 cases hok : Cv.ok x with
 | false =>
  have HC := hide (check_ill _ [x] T v1 v6 v7 _ hLot (he.out.er.later hbW) (fun h => by rw [well_one.1 h] at hok; cases hok))
  have HA : Hid (Bk.addC l x = 1 ∧ Bk.addL l x = l) := by
   have e : Bk.addC l x = 1 := by unfold Bk.addC; rw [hok]; rfl
   exact ⟨e, by unfold Bk.addL; rw [e]; rfl⟩
  have HBW := hide hbW
  clear hok hLot hbW
  go_enter Tryz.func40, Tryz.ntmps40
  go_wp2_with fail
  refine HC.out.mono ?_
  rintro e w2 ⟨⟨U, y, rfl⟩, hb2⟩
  have HB : Hid (Below w.heap.size w w2) := HBW.out.trans (hb2.mono HBW.out.size)
  have c1 := (he.out.er.later HB.out).c1
  clear hb2 HC HBW
  simp only []
  go_wp2
  go_ret
  exact ⟨by rw [HA.out.1]; rfl, v, by rw [HA.out.2]; exact hb.out.later HB.out, Step.of_below HB.out p v⟩
 | true =>
  have HC := hide (check_well _ [x] T v1 v6 v7 _ hLot (he.out.er.later hbW) (well_one.2 hok))
  have HOK := hide hok
  have HBW := hide hbW
  clear hok hLot hbW
  go_enter Tryz.func40, Tryz.ntmps40
  go_wp2_with fail
  refine HC.out.mono ?_
  rintro e w2 ⟨rfl, hb2⟩
  have HB : Hid (Below w.heap.size w w2) := HBW.out.trans (hb2.mono HBW.out.size)
  have hX : w2.heap[w.heap.size]? = some (.cells #[.int .i64 x.id, .int .i64 x.ow, .int .i64 x.sd, .int .i64 x.pr, .int .i64 x.q] 56 (0, 0)) := by
   rw [hb2.block _ (by simp; omega), heap_alloc_old _ _ (by simp), heap_alloc_new]
  have HX := hide hX
  have a0 : w2.cell? ⟨w.heap.size, 0, none⟩ = some (.int .i64 x.id) := by simp [World.cell?, hX]
  clear hb2 HC HBW hX
  simp only []
  go_wp2_with fail
  refine (find_any p base v x.id l w2 (hb.out.later HB.out) hn).mono ?_
  rintro e w3 ⟨rfl, hb3⟩
  have HB3 : Hid (Below w.heap.size w w3) := HB.out.trans (hb3.mono HB.out.size)
  have hX : w3.heap[w.heap.size]? = some (.cells #[.int .i64 x.id, .int .i64 x.ow, .int .i64 x.sd, .int .i64 x.pr, .int .i64 x.q] 56 (0, 0)) := by
   rw [hb3.block _ (lt_of_block HX.out)]; exact HX.out
  have HX3 := hide hX
  have HK3 := hide (hb.out.later HB3.out)
  have HE3 := hide (he.out.later HB3.out)
  clear hb3 HX a0 HB hX
  cases hh : Cv.has l x.id with
  | true =>
   rw [Bk.posI_some hh]
   have HA : Hid (Bk.addC l x = 2 ∧ Bk.addL l x = l) := by
    have e : Bk.addC l x = 2 := by unfold Bk.addC; rw [if_pos HOK.out, if_pos hh]
    exact ⟨e, by unfold Bk.addL; rw [e]; rfl⟩
   have h0 : ¬ ((Bk.pos l x.id : Nat) : Int) < 0 := by omega
   have h0' : (0 : Int) ≤ ((Bk.pos l x.id : Nat) : Int) := by omega
   have c6 := HE3.out.er.c6
   clear hh
   generalize Bk.pos l x.id = k at *
   simp only []
   go_wp2
   go_ret
   exact ⟨by rw [HA.out.1]; rfl, v, by rw [HA.out.2]; exact HK3.out, Step.of_below HB3.out p v⟩
  | false =>
   rw [Bk.posI_none hh]
   have Hh := hide hh
   clear hh
   have hcell := cell_of_one HK3.out.cell
   obtain ⟨a, m, c, rfl⟩ : ∃ a m c, v = .slice a m c := by
    rcases HK3.out.form with ⟨e, _⟩ | ⟨g, cap, e, _⟩
    ·exact ⟨_, _, _, e⟩
    ·exact ⟨_, _, _, e⟩
   have hm : m = l.length := by
    rcases HK3.out.form with ⟨e, e2⟩ | ⟨g, cap, e, _⟩
    ·simp at e; rw [e2]; exact e.2.1
    ·simp at e; exact e.2.1
   have HM := hide hm
   have hm60 : m ≤ 60 := by rw [hm]; exact hn.out
   clear hm
   by_cases hf : 60 ≤ m
   ·have hf' : (60 : Int) ≤ m := by omega
    have HA : Hid (Bk.addC l x = 3 ∧ Bk.addL l x = l) := by
     have e : Bk.addC l x = 3 := by unfold Bk.addC; rw [if_pos HOK.out, if_neg (by rw [Hh.out]; simp), if_pos (by rw [← HM.out]; exact hf)]
     exact ⟨e, by unfold Bk.addL; rw [e]; rfl⟩
    have c7 := HE3.out.er.c7
    simp only []
    go_wp2
    go_ret
    exact ⟨by rw [HA.out.1]; rfl, _, by rw [HA.out.2]; exact HK3.out, Step.of_below HB3.out p _⟩
   ·have hf' : ¬ (60 : Int) ≤ m := by omega
    have HA : Hid (Bk.addC l x = 0 ∧ Bk.addL l x = l ++ [x]) := by
     have e : Bk.addC l x = 0 := by unfold Bk.addC; rw [if_pos HOK.out, if_neg (by rw [Hh.out]; simp), if_neg (by rw [← HM.out]; exact hf)]
     exact ⟨e, by unfold Bk.addL; rw [if_pos e]⟩
    have hX := HX3.out
    have b0 : w3.cell? ⟨w.heap.size, 0, none⟩ = some (.int .i64 x.id) := by simp [World.cell?, hX]
    have b1 : w3.cell? ⟨w.heap.size, 1, none⟩ = some (.int .i64 x.ow) := by simp [World.cell?, hX]
    have b2 : w3.cell? ⟨w.heap.size, 2, none⟩ = some (.int .i64 x.sd) := by simp [World.cell?, hX]
    have b3 : w3.cell? ⟨w.heap.size, 3, none⟩ = some (.int .i64 x.pr) := by simp [World.cell?, hX]
    have b4 : w3.cell? ⟨w.heap.size, 4, none⟩ = some (.int .i64 x.q) := by simp [World.cell?, hX]
    clear hX
    have hbA : Below w3.heap.size w3 (w3.drew.alloc (.cells #[.int .i64 x.id, .int .i64 x.ow, .int .i64 x.sd, .int .i64 x.pr, .int .i64 x.q] 56)) := (below_drew (Below.refl _ _)).alloc (Nat.le_refl _) _
    have hKA := HK3.out.later hbA
    obtain ⟨i0, z0, hi, hz0, hz1, hz2, hz3⟩ := info43
    obtain ⟨v4, w4, hap, hrow, hg, _, hloc⟩ := run_append_own_at (P := Tryz.prog) (w3.drew.alloc (.cells #[.int .i64 x.id, .int .i64 x.ow, .int .i64 x.sd, .int .i64 x.pr, .int .i64 x.q] 56)) base 37 37 56 i0 z0 5 40 Tryz.underlying37 hi hz0 hz1 hz2 hz3 (by decide) _ _ _ hKA.row ⟨w3.heap.size, 0, none⟩ 1 1 (lotCells x) rfl
     (fun j u hj => cell_new5 _ x 56 _ rfl j u hj)
     (fun u hu => by
      simp only [lotCells, List.mem_cons, List.not_mem_nil, or_false] at hu
      rcases hu with rfl | rfl | rfl | rfl | rfl <;> rfl) (by unfold maxLen; have := hn.out; omega) (by have := hn.out; omega) (by have h1 := hKA.lo; have h2 := hKA.lt; omega)
    obtain ⟨k1, k2⟩ := hKA.openAt hg
    obtain ⟨a4, m4, c4, rfl⟩ : ∃ a m c, v4 = .slice a m c := by
     rcases hrow.2 with ⟨e, _⟩ | ⟨g, cap, cur, e, _⟩
     ·exact ⟨_, _, _, e⟩
     ·exact ⟨_, _, _, e⟩
    have hset := hKA.set (l' := l ++ [x]) hg (by rw [List.length_append, flat_append]; simpa [flat] using hrow) (fun k hk => by
     rcases hloc with h | h
     ·rw [h] at hk; exact .inl hk
     ·rw [h] at hk; exact .inr (Nat.le_of_eq (Option.some.inj hk)))
    have HSET := hide hset
    have HAP := hide hap
    have HBA := hide hbA
    clear hset hap hrow hg hloc hi hz0 hz1 hz2 hz3 hKA hbA
    have hpl : p < w3.heap.size := HK3.out.lt
    have hwl : w.heap.size < w3.heap.size := lt_of_block HX3.out
    simp only []
    go_wp2
    go_region_law (refine step_append_run rfl _ _ 37 rfl _ _ _ rfl rfl HAP.out ?_)
    all_goals go_wp2
    all_goals go_ret
    all_goals exact ⟨by rw [HA.out.1]; rfl, _, by rw [HA.out.2]; exact HSET.out.1, (Step.of_below (HB3.out.trans (HBA.out.mono HB3.out.size)) p _).trans HSET.out.2⟩
set_option maxHeartbeats 1000000 in
theorem mfind_some (p base g cap n : Nat) (id : Int) (l : List Cv.Lot) (w : World) (hb : Hid (MBook w base p (.slice (some ⟨g, 0, none⟩) n cap) l)) (hn : Hid (l.length = n)) (hn' : n ≤ 60) (hl : Hid (LotsAt w g 0 l)) :
  Calls Tryz.prog 62 #[.pointer (some ⟨p, 0, none⟩), .int .i64 id] w fun e w' => e = .returned (.int .i64 (Bk.posI l id)) ∧ w' = w := by
 have hcell := cell_of_one hb.out.cell
 go_enter Tryz.func62, Tryz.ntmps62
 go_wp2
 go_loopw [5] (fun i wr => ∃ k : Nat, k ≤ n ∧ i = .int .i64 k ∧ Cv.has (l.take k) id = false ∧ wr = w) (fun i _ => n - (intOf i).toNat)
 case atStart => exact ⟨0, Nat.zero_le _, rfl, rfl, rfl⟩
 case round =>
  obtain ⟨k, hk, rfl, hno, rfl⟩ := hrel
  have HN := hide hno
  clear hno
  by_cases hlt : k < n
  ·have hki : (k : Int) < n := by omega
   obtain ⟨c0, c1, c2, c3, c4⟩ := hl.out k (by rw [hn.out]; exact hlt)
   simp only [Nat.zero_add] at c0 c1 c2 c3 c4
   have HT := hide (Cv.take_succ (l := l) (i := k) (by rw [hn.out]; exact hlt))
   obtain ⟨x, hxx⟩ : ∃ x, Cv.nth l k = x := ⟨_, rfl⟩
   rw [hxx] at HT c0 c1 c2 c3 c4
   have HX := hide hxx
   clear hxx
   by_cases hx : x.id = id
   ·have hxb : (x.id == id) = true := by simpa using hx
    have Hx := hide hx
    clear hx
    go_wp2
    go_ret
    refine ⟨?_, rfl⟩
    rw [Bk.posI_at (by rw [hn.out]; exact hlt) HN.out (by rw [HX.out]; exact Hx.out)]
    rfl
   ·have hxb : (x.id == id) = false := by simpa using hx
    have hno' : Cv.has (l.take (k + 1)) id = false := by
     have hh := HN.out
     rw [HT.out]
     unfold Cv.has at hh ⊢
     rw [List.any_append, hh]
     simp [hx]
    have Hno := hide hno'
    clear hx hno'
    go_wp2
    exact ⟨⟨k + 1, by omega, by go_num, Hno.out, trivial⟩, by simp [intOf]; omega⟩
  ·have hki : ¬ (k : Int) < n := by omega
   have hno := HN.out
   rw [List.take_of_length_le (by rw [hn.out]; omega)] at hno
   have Hno := hide hno
   clear hno
   go_wp2
   go_ret
   exact ⟨by rw [Bk.posI_none Hno.out]; rfl, rfl⟩
theorem mfind_none (p base : Nat) (id : Int) (w : World) (hb : Hid (MBook w base p (.slice none 0 0) [])) :
  Calls Tryz.prog 62 #[.pointer (some ⟨p, 0, none⟩), .int .i64 id] w fun e w' => e = .returned (.int .i64 (-1)) ∧ w' = w := by
 have hcell := cell_of_one hb.out.cell
 go_enter Tryz.func62, Tryz.ntmps62
 go_wp2
 refine wp_loop_rounds 1 ?_
 rw [rounds_succ]
 go_wp2
 go_ret
 exact ⟨rfl, rfl⟩
theorem mfind_any (p base : Nat) (v : Value) (id : Int) (l : List Cv.Lot) (w : World) (hb : Hid (MBook w base p v l)) (hn : Hid (l.length ≤ 60)) :
  Calls Tryz.prog 62 #[.pointer (some ⟨p, 0, none⟩), .int .i64 id] w fun e w' => e = .returned (.int .i64 (Bk.posI l id)) ∧ w' = w := by
 rcases hb.out.form with ⟨rfl, rfl⟩ | ⟨g, cap, rfl, hle, _, hl⟩
 ·exact mfind_none p base id w hb
 ·exact mfind_some p base g cap _ id l w hb rfl hn.out hl
theorem row_lower {w : World} {b b' : Nat} {e : TypeId} {s : Nat} {v : Value} {n : Nat} {xs : List Value} (h : w.ownsRow b e s v n xs) (hb : b' ≤ b) : w.ownsRow b' e s v n xs := by
 refine ⟨h.1, ?_⟩
 rcases h.2 with h | ⟨g, cap, cur, h1, h2, h3⟩
 ·exact .inl h
 ·exact .inr ⟨g, cap, cur, h1, Nat.le_trans hb h2, h3⟩
theorem MBook.anew {w w2 : World} {base p : Nat} {v v' : Value} {l l' : List Cv.Lot} (h : MBook w base p v l) (hg : Below w.heap.size w w2) (hr : w2.ownsRow w.heap.size 56 5 v' l'.length (flat l')) :
  MBook (w2.setCell ⟨p, 0, none⟩ v') base p v' l' ∧ Step w (w2.setCell ⟨p, 0, none⟩ v') p v v' :=
 h.set ⟨hg.os, hg.tape, hg.output, hg.size, fun k hk _ => hg.block k hk⟩ (row_lower hr (by have h1 := h.lo; have h2 := h.lt; omega)) (fun k hk => .inr (hr.lt k hk).1)
theorem MBook.openB {w w2 : World} {base p : Nat} {v : Value} {l : List Cv.Lot} (h : MBook w base p v l) (hg : Below w.heap.size w w2) : w2.cell? ⟨p, 0, none⟩ = some v ∧ w2.frozen? ⟨p, 0, none⟩ = false :=
 h.openAt ⟨hg.os, hg.tape, hg.output, hg.size, fun k hk _ => hg.block k hk⟩

set_option maxHeartbeats 1000000 in
theorem off_any (p base k : Nat) (v : Value) (l : List Cv.Lot) (w : World) (hb : Hid (MBook w base p v l)) (hk : k < l.length) (hn : Hid (l.length ≤ 60)) :
  Calls Tryz.prog 103 #[.pointer (some ⟨p, 0, none⟩), .int .i64 k] w fun e w' => e = .returned (.tuple #[]) ∧ ∃ v', MBook w' base p v' (Bk.del l k) ∧ Step w w' p v v' := by
 have hcell := cell_of_one hb.out.cell
 rcases hb.out.form with ⟨_, hl⟩ | ⟨g, cap, rfl, hle, _, hl⟩
 ·rw [hl] at hk; exact absurd hk (Nat.not_lt_zero _)
 have hrow := hb.out.row
 obtain ⟨n, hnn⟩ : ∃ n, l.length = n := ⟨_, rfl⟩
 have Hl := hide hnn
 have h60 : n ≤ 60 := by rw [← hnn]; exact hn.out
 rw [hnn] at hk hle hcell hrow
 rw [hnn]
 obtain ⟨i0, z0, hi, hz0, hz1, hz2, hz3⟩ := info110
 have Hi := hide hi; have Hz0 := hide hz0; have Hz1 := hide hz1; have Hz2 := hide hz2; have Hz3 := hide hz3
 clear hi hz0 hz1 hz2 hz3
 have HC1 : Hid (∀ j u, (flat (l.take k))[j]? = some u → w.cell? ((⟨g, 0, none⟩ : Addr).add j) = some u) := fun j u hj => by
  rw [← flat_take l k (by rw [hnn]; omega)] at hj
  have hj' := List.getElem?_eq_some_iff.1 hj
  have hlt : j < k * 5 := by have := hj'.1; rw [List.length_take] at this; omega
  rw [List.getElem?_take_of_lt hlt] at hj
  rw [Addr.add_lit, Nat.zero_add, (row_open hrow j (by omega)).2.2]; exact hj
 have hC2 : ∀ j u, (flat (l.drop (k + 1)))[j]? = some u → w.cell? ⟨g, (k + 1) * 5 + j, none⟩ = some u := fun j u hj => by
  rw [← flat_drop l (k + 1) (by rw [hnn]; omega), List.getElem?_drop] at hj
  have hj' := (List.getElem?_eq_some_iff.1 hj).1
  rw [flat_length, hnn] at hj'
  rw [(row_open hrow _ hj').2.2]; exact hj
 have hlen2 : (flat (l.drop (k + 1))).length = (n - (k + 1)) * 5 := by rw [flat_length, List.length_drop, hnn]
 obtain ⟨A, hA, hsrc⟩ : ∃ A : Addr, (if cap = k + 1 then some (⟨g, 0, none⟩ : Addr) else some ⟨g, (k + 1) * 5, none⟩) = some A ∧ Hid (∀ j u, (flat (l.drop (k + 1)))[j]? = some u → w.cell? (A.add j) = some u) := by
  by_cases h : cap = k + 1
  ·refine ⟨⟨g, 0, none⟩, by simp [h], fun t u hu => ?_⟩
   have h0 : (flat (l.drop (k + 1))).length = 0 := by rw [hlen2]; omega
   rw [List.length_eq_zero_iff.1 h0] at hu
   simp at hu
  ·refine ⟨⟨g, (k + 1) * 5, none⟩, by simp [h], fun t u hu => ?_⟩
   rw [Addr.add_lit]
   exact hC2 t u hu
 have HL2 := hide hlen2
 have HTK : Hid ((flat (l.take k)).length = k * 5) := by show _ = _; rw [flat_length, List.length_take, hnn]; congr 1; omega
 have hk1 : k + 1 ≤ cap := by omega
 have hkc : k ≤ cap := by omega
 clear hnn hC2 hlen2 hl hrow
 go_enter Tryz.func103, Tryz.ntmps103
 go_wp2_with (at_builtin; refine wpList_append_own _ rfl _ _ 37 rfl w.heap.size 56 i0 z0 5 40 Tryz.underlying37 Hi.out Hz0.out Hz1.out Hz2.out Hz3.out (by decide) _ _ _ rfl (World.ownsRow_nil _ _ _ _) ⟨g, 0, none⟩ k cap (flat (l.take k)) rfl HTK.out HC1.out (flat_one _) (by unfold maxLen; omega) (by omega) (Nat.le_refl _) ?_)
 intro v3 w3 hown hgrow _
 have hb3 : Below w.heap.size w w3 := (Below.refl _ _).grown hgrow (Nat.le_refl _) (fun j hj => by cases hj)
 obtain ⟨k1, k2⟩ := hb.out.openB hb3
 rw [Hl.out] at k1
 have HO3 : Hid (w3.ownsRow w.heap.size 56 5 v3 k (flat (l.take k))) := by show World.ownsRow _ _ _ _ _ _ _; simpa using hown
 have HB3 := hide hb3
 obtain ⟨a3, m3, c3, rfl⟩ : ∃ a m c, v3 = .slice a m c := by
  rcases hown.2 with ⟨e, _⟩ | ⟨g, cap, cur, e, _⟩
  ·exact ⟨_, _, _, e⟩
  ·exact ⟨_, _, _, e⟩
 clear hown hgrow hb3 hcell
 go_wp2_with (at_builtin; refine wpList_append_own _ rfl _ _ 37 rfl w.heap.size 56 i0 z0 5 40 Tryz.underlying37 Hi.out Hz0.out Hz1.out Hz2.out Hz3.out (by decide) _ _ _ rfl HO3.out A (n - (k + 1)) (cap - (k + 1)) (flat (l.drop (k + 1))) rfl HL2.out (fun j u hj => cell_later HB3.out (hsrc.out j u hj)) (flat_one _) (by unfold maxLen; omega) (by omega) HB3.out.size ?_)
 intro v4 w4 hown hgrow _
 have hb4 : Below w.heap.size w w4 := HB3.out.grown hgrow HB3.out.size (fun j hj => (HO3.out.lt j hj).1)
 obtain ⟨k3, k4⟩ := hb.out.openB hb4
 rw [Hl.out] at k3
 have hd : (Bk.del l k).length = k + (n - (k + 1)) := by rw [Bk.del_length (by rw [Hl.out]; exact hk), Hl.out]; omega
 have hrow4 : w4.ownsRow w.heap.size 56 5 v4 (Bk.del l k).length (flat (Bk.del l k)) := by
  rw [hd]
  unfold Bk.del
  rw [flat_append]
  exact hown
 have HAN := hide (hb.out.anew hb4 hrow4)
 rw [Hl.out] at HAN
 obtain ⟨a4, m4, c4, rfl⟩ : ∃ a m c, v4 = .slice a m c := by
  rcases hown.2 with ⟨e, _⟩ | ⟨g, cap, cur, e, _⟩
  ·exact ⟨_, _, _, e⟩
  ·exact ⟨_, _, _, e⟩
 clear hown hgrow hb4 k1 k2 hrow4 hd
 go_wp2
 go_end0
 exact ⟨rfl, _, HAN.out⟩

def errNo : Nat → Int
 | 0 => 0
 | 1 => 2
 | 2 => 7
 | 3 => 8
 | _ => 6
set_option maxHeartbeats 1000000 in
theorem mcancel_any (p base : Nat) (v : Value) (id : Int) (l : List Cv.Lot) (w : World) (hb : Hid (MBook w base p v l)) (hn : Hid (l.length ≤ 60)) :
  Calls Tryz.prog 65 #[.pointer (some ⟨p, 0, none⟩), .int .i64 id] w fun e w' => e = .returned (.tuple #[lotV (Bk.canX l id), .int .i64 (errNo (Bk.canC l id))]) ∧ ∃ v', MBook w' base p v' (Bk.canL l id) ∧ Step w w' p v v' := by
 have hB2 : Below w.heap.size w (w.alloc (.cells #[.int .i64 0, .int .i64 0, .int .i64 0, .int .i64 0, .int .i64 0] 56)) := bal
 have HB := hide hB2
 have HK := hide (hb.out.later hB2)
 have HF := hide (mfind_any p base v id l _ HK.out hn)
 have H43 : Hid ((w.alloc (.cells #[.int .i64 0, .int .i64 0, .int .i64 0, .int .i64 0, .int .i64 0] 56)).heap[w.heap.size]? = some (.cells #[.int .i64 0, .int .i64 0, .int .i64 0, .int .i64 0, .int .i64 0] 56 (0, 0))) := heap_alloc_new _ _
 clear hB2
 go_enter Tryz.func65, Tryz.ntmps65
 go_wp2_with fail
 refine HF.out.mono ?_
 rintro e w2 ⟨rfl, rfl⟩
 clear HF
 generalize w.alloc (.cells #[.int .i64 0, .int .i64 0, .int .i64 0, .int .i64 0, .int .i64 0] 56) = w2 at *
 cases hh : Cv.has l id with
 | false =>
  have Hh := hide hh
  rw [Bk.posI_none hh]
  have HC : Hid (Bk.canC l id = 4 ∧ Bk.canL l id = l ∧ Bk.canX l id = Cv.z) := by
   have e : Bk.canC l id = 4 := by unfold Bk.canC; rw [hh]; rfl
   exact ⟨e, by unfold Bk.canL; rw [e]; rfl, by unfold Bk.canX; rw [e]; rfl⟩
  clear hh
  have cs : ∀ j, j < 5 → w2.cell? ⟨w.heap.size, j, none⟩ = some (.int .i64 0) ∧ w2.frozen? ⟨w.heap.size, j, none⟩ = false := fun j hj => by
   refine ⟨?_, fof H43.out⟩
   simp only [World.cell?, H43.out]
   have : j = 0 ∨ j = 1 ∨ j = 2 ∨ j = 3 ∨ j = 4 := by omega
   rcases this with rfl | rfl | rfl | rfl | rfl <;> rfl
  have ⟨a0, f0⟩ := cs 0 (by decide); have ⟨a1, f1⟩ := cs 1 (by decide); have ⟨a2, f2⟩ := cs 2 (by decide); have ⟨a3, f3⟩ := cs 3 (by decide); have ⟨a4, f4⟩ := cs 4 (by decide)
  clear cs
  simp only []
  go_wp2
  refine bodyPost_ret (v := .tuple #[lotV Cv.z, .int .i64 6]) (by simp [results, Tryz.results65, go_sem, lotV, Cv.z, a0, a1, a2, a3, a4]) rfl ⟨?_, ?_⟩
  ·rw [HC.out.1, HC.out.2.2]; rfl
  ·have hb5 : Below w.heap.size w (((((w2.setCell ⟨w.heap.size, 0, none⟩ (.int .i64 0)).setCell ⟨w.heap.size, 1, none⟩ (.int .i64 0)).setCell ⟨w.heap.size, 2, none⟩ (.int .i64 0)).setCell ⟨w.heap.size, 3, none⟩ (.int .i64 0)).setCell ⟨w.heap.size, 4, none⟩ (.int .i64 0)) :=
    (((((HB.out.setCell (Nat.le_refl _) _).setCell (Nat.le_refl _) _).setCell (Nat.le_refl _) _).setCell (Nat.le_refl _) _).setCell (Nat.le_refl _) _)
   exact ⟨v, by rw [HC.out.2.1]; exact hb.out.later hb5, Step.of_below hb5 p v⟩
 | true =>
  have Hh := hide hh
  rw [Bk.posI_some hh]
  have hk := Bk.posI_lt hh
  have HC : Hid (Bk.canC l id = 0 ∧ Bk.canL l id = Bk.del l (Bk.pos l id) ∧ Bk.canX l id = Cv.nth l (Bk.pos l id)) := by
   have e : Bk.canC l id = 0 := by unfold Bk.canC; rw [hh]; rfl
   exact ⟨e, by unfold Bk.canL; rw [if_pos e], by unfold Bk.canX; rw [if_pos e]⟩
  clear hh
  have hcell := cell_of_one HK.out.cell
  rcases HK.out.form with ⟨_, hl⟩ | ⟨g, cap, rfl, hle, _, hl⟩
  ·rw [hl] at hk; exact absurd hk (Nat.not_lt_zero _)
  obtain ⟨c0, c1, c2, c3, c4⟩ := hl _ hk
  have h60 : l.length ≤ 60 := hn.out
  have HRM := fun X => off_any p base (Bk.pos l id) _ l (w2.alloc (.cells X 56)) (HK.out.later (bal)) hk hn
  have HRM := hide HRM
  obtain ⟨x, hx⟩ : ∃ x, Cv.nth l (Bk.pos l id) = x := ⟨_, rfl⟩
  rw [hx] at HC c0 c1 c2 c3 c4
  clear hx
  generalize Bk.pos l id = k at *
  have Hgp : Hid (p < w.heap.size ∧ g < w.heap.size) := ⟨hb.out.lt, (hb.out.rowLt g rfl).2⟩
  have hg : g < w2.heap.size := World.block_lt_of_cell? _ _ c0
  obtain ⟨n, hnn⟩ : ∃ n, l.length = n := ⟨_, rfl⟩
  rw [hnn] at hk hcell h60
  have hki : (k : Int) < n := by omega
  simp only [Nat.zero_add] at c0 c1 c2 c3 c4
  have Hnn := hide hnn
  clear hl hle hnn
  simp only []
  go_wp2_with fail
  refine (HRM.out _).mono ?_
  rintro e w3 ⟨rfl, v3, hk3, hs3⟩
  have hsz := HB.out.size
  have h43' : w3.heap[w.heap.size]? = some (.cells #[.int .i64 0, .int .i64 0, .int .i64 0, .int .i64 0, .int .i64 0] 56 (0, 0)) := by
   rw [hs3.only.block _ (by have := lt_of_block H43.out; simp; omega) (fun e => by have := Hgp.out.1; simp at e; omega) (fun e => by have := Hgp.out.2; simp [Value.ownBlock] at e; omega), heap_alloc_old _ _ (lt_of_block H43.out)]
   exact H43.out
  have h7 : w3.heap[w2.heap.size]? = some (.cells #[.int .i64 x.id, .int .i64 x.ow, .int .i64 x.sd, .int .i64 x.pr, .int .i64 x.q] 56 (0, 0)) := by
   rw [hs3.only.block _ (by simp) (fun e => by have := Hgp.out.1; simp at e; omega) (fun e => by have := Hgp.out.2; simp [Value.ownBlock] at e; omega), heap_alloc_new]
  have cs : ∀ j, j < 5 → w3.cell? ⟨w.heap.size, j, none⟩ = some (.int .i64 0) ∧ w3.frozen? ⟨w.heap.size, j, none⟩ = false := fun j hj => by
   refine ⟨?_, by simp [World.frozen?, h43']⟩
   simp only [World.cell?, h43']
   have : j = 0 ∨ j = 1 ∨ j = 2 ∨ j = 3 ∨ j = 4 := by omega
   rcases this with rfl | rfl | rfl | rfl | rfl <;> rfl
  have ⟨a0, f0⟩ := cs 0 (by decide); have ⟨a1, f1⟩ := cs 1 (by decide); have ⟨a2, f2⟩ := cs 2 (by decide); have ⟨a3, f3⟩ := cs 3 (by decide); have ⟨a4, f4⟩ := cs 4 (by decide)
  have b0 : w3.cell? ⟨w2.heap.size, 0, none⟩ = some (.int .i64 x.id) := by simp [World.cell?, h7]
  have b1 : w3.cell? ⟨w2.heap.size, 1, none⟩ = some (.int .i64 x.ow) := by simp [World.cell?, h7]
  have b2 : w3.cell? ⟨w2.heap.size, 2, none⟩ = some (.int .i64 x.sd) := by simp [World.cell?, h7]
  have b3 : w3.cell? ⟨w2.heap.size, 3, none⟩ = some (.int .i64 x.pr) := by simp [World.cell?, h7]
  have b4 : w3.cell? ⟨w2.heap.size, 4, none⟩ = some (.int .i64 x.q) := by simp [World.cell?, h7]
  have HS3 := hide hs3; have HK3 := hide hk3
  have HLT := hide (lt_of_block h43')
  clear cs hs3 hk3 h7 h43' hcell c0 c1 c2 c3 c4 hsz
  simp only []
  go_wp2
  refine bodyPost_ret (v := .tuple #[lotV x, .int .i64 0]) (by simp [results, Tryz.results65, go_sem, lotV, a0, a1, a2, a3, a4]) rfl ⟨?_, ?_⟩
  ·rw [HC.out.1, HC.out.2.2]; rfl
  ·have hst := (Step.of_below ((HB.out.alloc HB.out.size (.cells #[.int .i64 x.id, .int .i64 x.ow, .int .i64 x.sd, .int .i64 x.pr, .int .i64 x.q] 56))) p _).trans HS3.out
   have hne : v3.ownBlock ≠ some w.heap.size := fun e => by
    rcases HS3.out.new _ e with h | h
    ·have := Hgp.out.2; simp [Value.ownBlock] at h; omega
    ·have := lt_of_block H43.out; simp at h; omega
   have hnp : w.heap.size ≠ p := by have := Hgp.out.1; omega
   refine ⟨v3, ?_, ((((hst.setNew (Nat.le_refl _) _ _).setNew (Nat.le_refl _) _ _).setNew (Nat.le_refl _) _ _).setNew (Nat.le_refl _) _ _).setNew (Nat.le_refl _) _ _⟩
   rw [HC.out.2.1]
   exact ((((HK3.out.setOther hnp hne _ _).setOther hnp hne _ _).setOther hnp hne _ _).setOther hnp hne _ _).setOther hnp hne _ _
end Go.Proofs.YtdggddjgipgllaaGreatDoor
namespace Go.Proofs.YtdggddjgipgllaaGreatDoor
open Go.RowKit
set_option maxRecDepth 100000

def iV (zs : List Int) : List Value := zs.map (Value.int .i64)
theorem info3 : ∃ i, Tryz.prog.info? 3 = some i ∧ i.zero = some (.int .i64 0) ∧ i.size = 1 ∧ i.bytes = 8 := ⟨_, rfl, rfl, rfl, rfl⟩
def Bk.ids (l : List Cv.Lot) (n : Int) : List Int := (l.filter fun x => x.ow == n).map (·.id)
theorem Bk.ids_snoc (l : List Cv.Lot) (x : Cv.Lot) (n : Int) : Bk.ids (l ++ [x]) n = Bk.ids l n ++ (if x.ow = n then [x.id] else []) := by
 unfold Bk.ids
 by_cases h : x.ow = n
 ·simp [h]
 ·simp [h]
theorem Bk.ids_length (l : List Cv.Lot) (n : Int) : (Bk.ids l n).length ≤ l.length := by
 unfold Bk.ids; rw [List.length_map]; exact List.length_filter_le _ _

def x0 : Cv.Lot := ⟨7, 2, 0, 5, 3⟩
def x1 : Cv.Lot := ⟨7, 2, 0, 5, 2⟩
end Go.Proofs.YtdggddjgipgllaaGreatDoor
