/- The document's book: Add and Take; coded: an error's number. -/
import Derived.Test.YtdggddjgipgllaaGreatDoorG03
import Derived.Test.YtdggddjgipgllaaGreatDoorG11
import Derived.Test.YtdggddjgipgllaaGreatDoorG17
import Derived.Test.YtdggddjgipgllaaGreatDoorG24
namespace Go.Proofs.YtdggddjgipgllaaGreatDoor
open Go.RowKit Go.Maps
set_option maxRecDepth 100000

set_option maxHeartbeats 1000000 in
theorem madd_any (p base : Nat) (v : Value) (x : Cv.Lot) (l : List Cv.Lot) (w : World) (hb : Hid (MBook w base p v l)) (hn : Hid (l.length ≤ 60)) :
  Calls Tryz.prog 64 #[.pointer (some ⟨p, 0, none⟩), lotV x] w fun e w' => e = .returned (.int .i64 (errNo (Bk.addC l x))) ∧ ∃ v', MBook w' base p v' (Bk.addL l x) ∧ Step w w' p v v' := by
 show Calls Tryz.prog 64 #[.pointer (some ⟨p, 0, none⟩), .agg #[.int .i64 x.id, .int .i64 x.ow, .int .i64 x.sd, .int .i64 x.pr, .int .i64 x.q]] w _
 have hbW : Below w.heap.size w (w.alloc (.cells #[.int .i64 x.id, .int .i64 x.ow, .int .i64 x.sd, .int .i64 x.pr, .int .i64 x.q] 56)) := bal
 have HBW := hide hbW
 have HC := hide (lotError_any x (w.alloc (.cells #[.int .i64 x.id, .int .i64 x.ow, .int .i64 x.sd, .int .i64 x.pr, .int .i64 x.q] 56)))
 have HX0 : Hid ((w.alloc (.cells #[.int .i64 x.id, .int .i64 x.ow, .int .i64 x.sd, .int .i64 x.pr, .int .i64 x.q] 56)).heap[w.heap.size]? = some (.cells #[.int .i64 x.id, .int .i64 x.ow, .int .i64 x.sd, .int .i64 x.pr, .int .i64 x.q] 56 (0, 0))) := heap_alloc_new _ _
 unfold lotV at HC
 clear hbW
 go_enter Tryz.func64, Tryz.ntmps64
 go_wp2_with fail
 refine HC.out.mono ?_
 rintro e w2 ⟨rfl, hb2⟩
 have HB : Hid (Below w.heap.size w w2) := HBW.out.trans (hb2.mono HBW.out.size)
 have hX : w2.heap[w.heap.size]? = some (.cells #[.int .i64 x.id, .int .i64 x.ow, .int .i64 x.sd, .int .i64 x.pr, .int .i64 x.q] 56 (0, 0)) := by
  rw [hb2.block _ (lt_of_block HX0.out)]; exact HX0.out
 have HX3 := hide hX
 have HK3 := hide (hb.out.later HB.out)
 clear hb2 HC HBW HX0
 cases hok : Cv.ok x with
 | false =>
  have HA : Hid (Bk.addC l x = 1 ∧ Bk.addL l x = l) := by
   have e : Bk.addC l x = 1 := by unfold Bk.addC; rw [hok]; rfl
   exact ⟨e, by unfold Bk.addL; rw [e]; rfl⟩
  rw [show lotE x = 2 by unfold lotE; rw [hok]; rfl]
  clear hok
  simp only []
  go_wp2
  go_ret
  exact ⟨by rw [HA.out.1]; rfl, v, by rw [HA.out.2]; exact HK3.out, Step.of_below HB.out p v⟩
 | true =>
  have HOK := hide hok
  rw [show lotE x = 0 by unfold lotE; rw [hok]; rfl]
  clear hok
  have a0 : w2.cell? ⟨w.heap.size, 0, none⟩ = some (.int .i64 x.id) := by simp [World.cell?, hX]
  clear hX
  simp only []
  go_wp2_with fail
  refine (mfind_any p base v x.id l w2 HK3.out hn).mono ?_
  rintro e w3 ⟨rfl, rfl⟩
  cases hh : Cv.has l x.id with
  | true =>
   rw [Bk.posI_some hh]
   have HA : Hid (Bk.addC l x = 2 ∧ Bk.addL l x = l) := by
    have e : Bk.addC l x = 2 := by unfold Bk.addC; rw [if_pos HOK.out, if_pos hh]
    exact ⟨e, by unfold Bk.addL; rw [e]; rfl⟩
   have h0' : (0 : Int) ≤ ((Bk.pos l x.id : Nat) : Int) := by omega
   clear hh
   generalize Bk.pos l x.id = k at *
   simp only []
   go_wp2
   go_ret
   exact ⟨by rw [HA.out.1]; rfl, v, by rw [HA.out.2]; exact HK3.out, Step.of_below HB.out p v⟩
  | false =>
   rw [Bk.posI_none hh]
   have Hh := hide hh
   clear hh
   have hcell := cell_of_one HK3.out.cell
   obtain ⟨a, m, c, rfl⟩ : ∃ a m c, v = .slice a m c := by
    rcases HK3.out.form with ⟨e, _⟩ | ⟨g, cap, e, _⟩
    ·exact ⟨_, _, _, e⟩
    ·exact ⟨_, _, _, e⟩
   have hm : m = l.length := by
    rcases HK3.out.form with ⟨e, e2⟩ | ⟨g, cap, e, _⟩
    ·simp at e; rw [e2]; exact e.2.1
    ·simp at e; exact e.2.1
   have HM := hide hm
   have hm60 : m ≤ 60 := by rw [hm]; exact hn.out
   clear hm
   by_cases hf : 60 ≤ m
   ·have hf' : (60 : Int) ≤ m := by omega
    have HA : Hid (Bk.addC l x = 3 ∧ Bk.addL l x = l) := by
     have e : Bk.addC l x = 3 := by unfold Bk.addC; rw [if_pos HOK.out, if_neg (by rw [Hh.out]; simp), if_pos (by rw [← HM.out]; exact hf)]
     exact ⟨e, by unfold Bk.addL; rw [e]; rfl⟩
    simp only []
    go_wp2
    go_ret
    exact ⟨by rw [HA.out.1]; rfl, _, by rw [HA.out.2]; exact HK3.out, Step.of_below HB.out p _⟩
   ·have hf' : ¬ (60 : Int) ≤ m := by omega
    have HA : Hid (Bk.addC l x = 0 ∧ Bk.addL l x = l ++ [x]) := by
     have e : Bk.addC l x = 0 := by unfold Bk.addC; rw [if_pos HOK.out, if_neg (by rw [Hh.out]; simp), if_neg (by rw [← HM.out]; exact hf)]
     exact ⟨e, by unfold Bk.addL; rw [if_pos e]⟩
    have hX := HX3.out
    have b1 : w3.cell? ⟨w.heap.size, 1, none⟩ = some (.int .i64 x.ow) := by simp [World.cell?, hX]
    have b2 : w3.cell? ⟨w.heap.size, 2, none⟩ = some (.int .i64 x.sd) := by simp [World.cell?, hX]
    have b3 : w3.cell? ⟨w.heap.size, 3, none⟩ = some (.int .i64 x.pr) := by simp [World.cell?, hX]
    have b4 : w3.cell? ⟨w.heap.size, 4, none⟩ = some (.int .i64 x.q) := by simp [World.cell?, hX]
    clear hX
    have hbA : Below w3.heap.size w3 (w3.drew.alloc (.cells #[.int .i64 x.id, .int .i64 x.ow, .int .i64 x.sd, .int .i64 x.pr, .int .i64 x.q] 56)) := (below_drew (Below.refl _ _)).alloc (Nat.le_refl _) _
    have hKA := HK3.out.later hbA
    obtain ⟨i0, z0, hi, hz0, hz1, hz2, hz3⟩ := info43
    obtain ⟨v4, w4, hap, hrow, hg, _, hloc⟩ := run_append_own_at (P := Tryz.prog) (w3.drew.alloc (.cells #[.int .i64 x.id, .int .i64 x.ow, .int .i64 x.sd, .int .i64 x.pr, .int .i64 x.q] 56)) base 37 37 56 i0 z0 5 40 Tryz.underlying37 hi hz0 hz1 hz2 hz3 (by decide) _ _ _ hKA.row ⟨w3.heap.size, 0, none⟩ 1 1 (lotCells x) rfl
     (fun j u hj => cell_new5 _ x 56 _ rfl j u hj)
     (fun u hu => by
      simp only [lotCells, List.mem_cons, List.not_mem_nil, or_false] at hu
      rcases hu with rfl | rfl | rfl | rfl | rfl <;> rfl) (by unfold maxLen; have := hn.out; omega) (by have := hn.out; omega) (by have h1 := hKA.lo; have h2 := hKA.lt; omega)
    obtain ⟨k1, k2⟩ := hKA.openAt hg
    obtain ⟨a4, m4, c4, rfl⟩ : ∃ a m c, v4 = .slice a m c := by
     rcases hrow.2 with ⟨e, _⟩ | ⟨g, cap, cur, e, _⟩
     ·exact ⟨_, _, _, e⟩
     ·exact ⟨_, _, _, e⟩
    have hset := hKA.set (l' := l ++ [x]) hg (by rw [List.length_append, flat_append]; simpa [flat] using hrow) (fun k hk => by
     rcases hloc with h | h
     ·rw [h] at hk; exact .inl hk
     ·rw [h] at hk; exact .inr (Nat.le_of_eq (Option.some.inj hk)))
    have HSET := hide hset
    have HAP := hide hap
    have HBA := hide hbA
    clear hset hap hrow hg hloc hi hz0 hz1 hz2 hz3 hKA hbA
    have hpl : p < w3.heap.size := HK3.out.lt
    have hwl : w.heap.size < w3.heap.size := lt_of_block HX3.out
    simp only []
    go_wp2
    go_region_law (refine step_append_run rfl _ _ 37 rfl _ _ _ rfl rfl HAP.out ?_)
    all_goals go_wp2
    all_goals go_ret
    all_goals exact ⟨by rw [HA.out.1]; rfl, _, by rw [HA.out.2]; exact HSET.out.1, (Step.of_below (HB.out.trans (HBA.out.mono HB.out.size)) p _).trans HSET.out.2⟩

theorem row_put {w : World} {base g n cap : Nat} {l : List Cv.Lot} {k : Nat} {x : Cv.Lot} (h : w.ownsRow base 56 5 (.slice (some ⟨g, 0, none⟩) n cap) n (flat l)) (hn : l.length = n) (hk : k < n) :
  (w.setCells g (k * 5) (lotCells x)).ownsRow base 56 5 (.slice (some ⟨g, 0, none⟩) n cap) n (flat (Bk.put l k x)) := by
 refine row_setCells h (k * 5) (lotCells x) n (by
  rcases h.2 with ⟨e, _⟩ | ⟨g', cap', cur, e, _, _, hc, _⟩
  ·cases e
  ·obtain ⟨_, rfl⟩ : g = g' ∧ cap = cap' := by simpa using e
   exact hc) (by show k * 5 + 5 ≤ _; omega) _ (by rw [flat_length, Bk.put_length (by omega), hn]) (Nat.le_refl _) ?_
 rw [flat_put (by omega)]
 have hl : (lotCells x).length = 5 := rfl
 exact List.take_of_length_le (by simp only [List.length_append, List.length_take, List.length_drop, flat_length, hl, hn]; omega)

theorem store43 {w : World} {b o : Nat} (x : Cv.Lot) (hc : ∀ j, j < 5 → (w.cell? ⟨b, o + j, none⟩).isSome = true) (hf : ∀ j, j < 5 → w.frozen? ⟨b, o + j, none⟩ = false) : (storeVar 56 ⟨b, o, none⟩ (.agg #[.int .i64 x.id, .int .i64 x.ow, .int .i64 x.sd, .int .i64 x.pr, .int .i64 x.q])).run Tryz.prog w = .ok () (w.setCells b o (lotCells x)) := by
 have hst := run_storeCells_cells (P := Tryz.prog) b o (lotCells x) 0 w (fun j hj => by simpa using hc j hj) (fun j hj => by simpa using hf j hj) (by
  intro v hv
  simp only [lotCells, List.mem_cons, List.not_mem_nil, or_false] at hv
  rcases hv with rfl | rfl | rfl | rfl | rfl <;> rfl)
 simp only [Nat.add_zero] at hst
 have hcs : (Value.agg #[.int .i64 x.id, .int .i64 x.ow, .int .i64 x.sd, .int .i64 x.pr, .int .i64 x.q]).cells = #[.int .i64 x.id, .int .i64 x.ow, .int .i64 x.sd, .int .i64 x.pr, .int .i64 x.q] := by simp [Value.cells]
 unfold storeVar
 simp only [hcs, Sem.run_bind, Tryz.sizeOf56, Result.andThen_ok]
 simp
 exact hst
theorem wpList_store43 {ops : Array Oper} {rest : List Oper} {op : Oper} {a : Act} {w : World} {Q : Exit → Act → World → Prop} {b o : Nat} (z : Cv.Lot) (hc : ∀ j, j < 5 → (w.cell? ⟨b, o + j, none⟩).isSome = true) (hf : ∀ j, j < 5 → w.frozen? ⟨b, o + j, none⟩ = false) (hgd : op.guard = none) (x y : Operand) (ho : op.op = .store 56 x y)
  (hx : a.eval x = .pointer (some ⟨b, o, none⟩)) (hy : a.eval y = .agg #[.int .i64 z.id, .int .i64 z.ow, .int .i64 z.sd, .int .i64 z.pr, .int .i64 z.q]) (k : wpList Tryz.prog ops Q rest (a.put op.dst undef) (w.setCells b o (lotCells z))) : wpList Tryz.prog ops Q (op :: rest) a w :=
 wpList_plain hgd fun _ hK => by
  unfold Oper.wp execOp
  simp only [ho, hx, hy, Instr.storeAt, Instr.sureAddr, Sem.run_bind, Sem.run_pure, Result.andThen_ok, store43 z hc hf]
  exact hK _ _ k

set_option maxHeartbeats 1000000 in
theorem mtake_any (p base : Nat) (v : Value) (id q : Int) (l : List Cv.Lot) (w : World) (hb : Hid (MBook w base p v l)) (hgood : Hid (Bk.Good l)) :
  Calls Tryz.prog 72 #[.pointer (some ⟨p, 0, none⟩), .int .i64 id, .int .i64 q] w fun e w' => e = .returned (.int .i64 (errNo (Bk.takC l id q))) ∧ ∃ v', MBook w' base p v' (Bk.takL l id q) ∧ Step w w' p v v' := by
 have hn : Hid (l.length ≤ 60) := hgood.out.len
 go_enter Tryz.func72, Tryz.ntmps72
 go_wp2_with fail
 refine (mfind_any p base v id l w hb hn).mono ?_
 rintro e w2 ⟨rfl, rfl⟩
 cases hh : Cv.has l id with
 | false =>
  rw [Bk.posI_none hh]
  have HC : Hid (Bk.takC l id q = 4 ∧ Bk.takL l id q = l) := by
   have e : Bk.takC l id q = 4 := by unfold Bk.takC; rw [hh]; rfl
   exact ⟨e, by unfold Bk.takL; rw [e]; rfl⟩
  clear hh
  simp only []
  go_wp2
  go_ret
  exact ⟨by rw [HC.out.1]; rfl, v, by rw [HC.out.2]; exact hb.out, Step.refl _ p v⟩
 | true =>
  have Hh := hide hh
  rw [Bk.posI_some hh]
  have hk := Bk.posI_lt hh
  have HK0 := hide hk
  clear hh
  have hcell := cell_of_one hb.out.cell
  rcases hb.out.form with ⟨_, hl⟩ | ⟨g, cap, rfl, hle, _, hl⟩
  ·rw [hl] at hk; exact absurd hk (Nat.not_lt_zero _)
  have HX : Hid (Cv.ok (Cv.nth l (Bk.pos l id)) = true) := hgood.out.oks _ (Cv.nth_mem hk)
  obtain ⟨c0, c1, c2, c3, c4⟩ := hl _ hk
  have h60 : l.length ≤ 60 := hn.out
  have hrow := hb.out.row
  have hpl := hb.out.lt
  obtain ⟨n, hnn⟩ : ∃ n, l.length = n := ⟨_, rfl⟩
  have Hnn := hide hnn
  rw [hnn] at hk hcell h60 hrow
  have hki : (Bk.pos l id : Int) < n := by omega
  simp only [Nat.zero_add] at c0 c1 c2 c3 c4
  have hxb := (Cv.ok_bounds HX.out).2.2.2.2
  obtain ⟨x, hxe⟩ : ∃ x, Cv.nth l (Bk.pos l id) = x := ⟨_, rfl⟩
  obtain ⟨k, hkk⟩ : ∃ k, Bk.pos l id = k := ⟨_, rfl⟩
  have HXE := hide hxe; have HKK := hide hkk
  rw [hxe] at c0 c1 c2 c3 c4 hxb
  rw [hkk] at hk hki c0 c1 c2 c3 c4 ⊢
  have hg : g < w2.heap.size := World.block_lt_of_cell? _ _ c0
  have hbA : Below w2.heap.size w2 (w2.alloc (.cells #[.int .i64 x.id, .int .i64 x.ow, .int .i64 x.sd, .int .i64 x.pr, .int .i64 x.q] 56)) := bal
  have HBA := hide hbA
  have HKA := hide (hb.out.later hbA)
  have HRW := hide hrow
  clear hxe hkk hnn hl hle HX hbA hrow
  have hTC : Bk.takC l id q = if Wi.withinB q 1 x.q = true then 0 else 1 := by unfold Bk.takC; rw [if_pos Hh.out, HXE.out]
  by_cases hq1 : q < 1
  ·have HC : Hid (Bk.takC l id q = 1 ∧ Bk.takL l id q = l) := by
    have e : Bk.takC l id q = 1 := by rw [hTC, if_neg (by simp [Wi.withinB]; omega)]
    exact ⟨e, by unfold Bk.takL; rw [e]; rfl⟩
   clear hTC
   simp only []
   go_wp2
   go_ret
   exact ⟨by rw [HC.out.1]; rfl, _, by rw [HC.out.2]; exact HKA.out, Step.of_below HBA.out p _⟩
  ·by_cases hq2 : x.q < q
   ·have HC : Hid (Bk.takC l id q = 1 ∧ Bk.takL l id q = l) := by
     have e : Bk.takC l id q = 1 := by rw [hTC, if_neg (by simp [Wi.withinB]; omega)]
     exact ⟨e, by unfold Bk.takL; rw [e]; rfl⟩
    clear hTC
    simp only []
    go_wp2
    go_ret
    exact ⟨by rw [HC.out.1]; rfl, _, by rw [HC.out.2]; exact HKA.out, Step.of_below HBA.out p _⟩
   ·have HC0 : Hid (Bk.takC l id q = 0) := by show _ = _; rw [hTC, if_pos (by simp [Wi.withinB]; omega)]
    clear hTC
    by_cases hq : q = x.q
    ·have HL1 : Hid (Bk.takL l id q = Bk.del l k) := by show _ = _; unfold Bk.takL; rw [if_pos HC0.out, HXE.out, if_pos hq, HKK.out]
     have HRM := hide (off_any p base k _ l _ HKA.out (by rw [Hnn.out]; exact hk) hn)
     have hqb : (q == x.q) = true := by simpa using hq
     clear hq
     simp only []
     go_wp2_with fail
     refine HRM.out.mono ?_
     rintro e w4 ⟨rfl, v4, hk4, hs4⟩
     have HK4 := hide hk4; have HS4 := hide hs4
     clear hk4 hs4 HRM
     simp only []
     go_wp2
     go_ret
     refine ⟨by rw [HC0.out]; rfl, v4, by rw [HL1.out]; exact HK4.out, (Step.of_below HBA.out p _).trans HS4.out⟩
    ·have HL1 : Hid (Bk.takL l id q = Bk.put l k (Bk.less x q)) := by show _ = _; unfold Bk.takL; rw [if_pos HC0.out, HXE.out, if_neg hq, HKK.out]
     have hqb : (q == x.q) = false := by simpa using hq
     have hsub : IntKind.i64.wrap (x.q - q) = x.q - q := IntWalk.i64_in _ (by omega)
     clear hq
     have HBS : Hid (Below w2.heap.size w2 (w2.alloc (.cells #[.int .i64 x.id, .int .i64 x.ow, .int .i64 x.sd, .int .i64 x.pr, .int .i64 (x.q - q)] 56))) := bal
     have H5 := hide (heap_alloc_new w2 (.cells #[.int .i64 x.id, .int .i64 x.ow, .int .i64 x.sd, .int .i64 x.pr, .int .i64 (x.q - q)] 56))
     obtain ⟨i0, z0, hi, hz0, hz1, hz2, hz3⟩ := info110
     have Hi := hide hi; have Hz0 := hide hz0; have Hz1 := hide hz1; have Hz2 := hide hz2; have Hz3 := hide hz3
     clear hi hz0 hz1 hz2 hz3
     simp only []
     go_wp2_with (at_builtin; refine wpList_append_own _ rfl _ _ 37 rfl w2.heap.size 56 i0 z0 5 40 Tryz.underlying37 Hi.out Hz0.out Hz1.out Hz2.out Hz3.out (by decide) _ _ _ rfl (World.ownsRow_nil _ _ _ _) ⟨g, 0, none⟩ n cap (flat l) rfl ?e1 ?e2 ?e3 ?e4 ?e5 ?e6 ?_)
     case e1 => rw [flat_length, Hnn.out]
     case e2 =>
      intro j u hj
      have h := World.ownsRow.cells HRW.out (g := g) rfl j u hj
      rw [Addr.add_lit, Nat.zero_add] at h
      exact h
     case e3 => exact flat_one _
     case e4 => unfold maxLen; omega
     case e5 => omega
     intro v3 w3 hown hgrow _
     have hb3 : Below w2.heap.size w2 w3 := HBS.out.grown hgrow HBS.out.size (fun j hj => by cases hj)
     obtain ⟨k1, k2⟩ := hb.out.openB hb3
     rw [Hnn.out] at k1
     have hO3 : w3.ownsRow w2.heap.size 56 5 v3 n (flat l) := by simpa using hown
     have h53 := hgrow.block w2.heap.size (lt_of_block H5.out) (by simp [Value.ownBlock])
     rw [H5.out] at h53
     obtain ⟨gN, cN, rfl⟩ : ∃ g c, v3 = .slice (some ⟨g, 0, none⟩) n c := by
      rcases hO3.2 with ⟨_, h0⟩ | ⟨g, cap, cur, e, _⟩
      ·omega
      ·exact ⟨g, cap, e⟩
     have hgN : w2.heap.size ≤ gN := (hO3.lt gN rfl).1
     have HS : Hid ((∀ j, j < 5 → (w3.cell? ⟨gN, k * 5 + j, none⟩).isSome = true) ∧ ∀ j, j < 5 → w3.frozen? ⟨gN, k * 5 + j, none⟩ = false) := ⟨fun j hj => (row_open hO3 _ (by omega)).1, fun j hj => (row_open hO3 _ (by omega)).2.1⟩
     have b0 : w3.cell? ⟨w2.heap.size, 0, none⟩ = some (.int .i64 x.id) := by simp [World.cell?, h53]
     have b1 : w3.cell? ⟨w2.heap.size, 1, none⟩ = some (.int .i64 x.ow) := by simp [World.cell?, h53]
     have b2 : w3.cell? ⟨w2.heap.size, 2, none⟩ = some (.int .i64 x.sd) := by simp [World.cell?, h53]
     have b3 : w3.cell? ⟨w2.heap.size, 3, none⟩ = some (.int .i64 x.pr) := by simp [World.cell?, h53]
     have b4 : w3.cell? ⟨w2.heap.size, 4, none⟩ = some (.int .i64 (x.q - q)) := by simp [World.cell?, h53]
     have hB5 : Below w2.heap.size w2 (w3.setCells gN (k * 5) (lotCells (Bk.less x q))) := hb3.trans ((Only.setCells w3 gN (lotCells (Bk.less x q)) (k * 5) none).below hb3.size (fun _ h => by cases h) (fun j h => by cases h; exact hgN))
     have hrow5 := row_put (x := Bk.less x q) hO3 Hnn.out hk
     have HAN := hide (hb.out.anew hB5 (l' := Bk.put l k (Bk.less x q)) (by rw [Bk.put_length (by rw [Hnn.out]; exact hk), Hnn.out]; exact hrow5))
     have hgp : ¬ (gN = p) := by omega
     obtain ⟨k3, k4⟩ := hb.out.openB hB5
     rw [Hnn.out] at k3
     clear hown hgrow hb3 hrow5 hB5 hO3 h53
     go_wp2_with (refine wpList_store43 (b := gN) (o := k * 5) (Bk.less x q) ?sc ?sf rfl (.tmp 51) (.tmp 50) rfl rfl rfl ?_)
     case sc => exact HS.out.1
     case sf => exact HS.out.2
     go_wp2
     go_ret
     refine ⟨by rw [HC0.out]; rfl, _, by rw [HL1.out]; exact HAN.out.1, HAN.out.2⟩
end Go.Proofs.YtdggddjgipgllaaGreatDoor
