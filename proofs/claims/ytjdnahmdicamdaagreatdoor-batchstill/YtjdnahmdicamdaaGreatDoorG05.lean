/- levelsOf by its contract: the levels of a side, without those that are worse than a price, in a map. -/
import Derived.Deep.RegionHeld3
import Derived.Test.YtjdnahmdicamdaaGreatDoorG04
namespace Go.Proofs.YtjdnahmdicamdaaGreatDoor
open Go.RowKit Go.Maps
set_option maxRecDepth 100000

theorem wpList_lookup_run {P : Program} {w : World} {ops : Array Oper} {rest : List Oper} {o : Oper} {a : Act} {Q : Exit → Act → World → Prop}
    (hg : o.guard = none) (m x : Operand) (t : TypeId) (hop : o.op = Op.lookup t m x false) (mv key v : Value) (hm : a.eval m = mv) (hx : a.eval x = key)
    (hrun : (Instr.lookup t mv key false).run P w = .ok v w) (hK : wpList P ops Q rest (a.put o.dst v) w) : wpList P ops Q (o :: rest) a w := by
  refine wpList_plain hg fun K' hK' => ?_
  unfold Oper.wp
  simp [execOp, hop, hm, hx, hrun, Result.andThen]
  exact hK' _ _ hK
theorem step_append_run {P : Program} {ops : Array Oper} {o : Oper} {a : Act} {w w' : World} {K : Act → World → Prop} {Q : Exit → Act → World → Prop} {E : Prop}
    (hg : o.guard = none) (s x : Operand) (t : TypeId) (hop : o.op = Op.call { callee := Callee.builtin Builtin.append, args := #[s, x], argTypes := #[t, t] }) (vs vx v' : Value) (hs : a.eval s = vs) (hx : a.eval x = vx)
    (hrun : (Builtin.append_ #[t, t] o.type #[vs, vx]).run P w = .ok v' w') (hK : K (a.put o.dst v') w') :
    if Region.wanted o (yielded ops a.tmps) = true then Oper.wp P o a w K Q else E := by
  have hw : Region.wanted o (yielded ops a.tmps) = true := by simp [Region.wanted, hg]
  rw [if_pos hw]
  unfold Oper.wp
  simp [execOp, hop, resolve, invoke, builtin, hs, hx, hrun, Result.andThen]
  exact hK

/-- the level of a price -/
def lf (sd price : Int) (t : List Cv.Lot) : Int → List Cv.Lot := fun p => t.filter fun x => Ra.el sd price x && x.pr == p
theorem lf_nil (sd price : Int) : lf sd price [] = fun _ => [] := rfl
theorem lf_in {sd price : Int} {t : List Cv.Lot} {x : Cv.Lot} (h : Ra.el sd price x = true) : lf sd price (t ++ [x]) = grow (lf sd price t) x.pr x := by
  funext p
  unfold lf grow
  rw [List.filter_append]
  by_cases hp : p = x.pr
  · subst hp
    simp [h]
  · rw [if_neg hp]
    simp [h, Ne.symm hp]
theorem lf_out {sd price : Int} {t : List Cv.Lot} {x : Cv.Lot} (h : Ra.el sd price x = false) : lf sd price (t ++ [x]) = lf sd price t := by
  funext p
  unfold lf
  rw [List.filter_append]
  simp [h]
theorem lvls_made (w : World) : Lvls (w.alloc (.map #[] 0)) w.heap.size w.heap.size 0 (fun _ => []) (.map []) (fun _ => .slice none 0 0) :=
  ⟨World.ownsMap_made w _ _ _, fun _ => rfl, fun _ => rfl, fun _ => World.ownsRow_nil _ _ _ _, fun _ _ _ _ h => by cases h⟩
def Levels (w : World) (base b n : Nat) (f : Int → List Cv.Lot) : Prop := ∃ D g, Lvls w base b n f D g
theorem Levels.alloc {w : World} {base b n : Nat} {f : Int → List Cv.Lot} (h : Levels w base b n f) (o : Obj) : Levels (w.alloc o) base b n f := by
  obtain ⟨D, g, h⟩ := h; exact ⟨D, g, h.alloc o⟩
theorem Levels.later {w w' : World} {base b n : Nat} {f : Int → List Cv.Lot} (h : Levels w base b n f) (hb : Below w.heap.size w w') : Levels w' base b n f := by
  obtain ⟨D, g, h⟩ := h; exact ⟨D, g, h.later hb⟩

theorem info43 : ∃ i z, Tryz.prog.info? 56 = some i ∧ i.zero = some z ∧ i.size = 5 ∧ i.bytes = 40 ∧ z.cells.size = 5 := ⟨_, _, rfl, rfl, rfl, rfl, rfl⟩
theorem tot_bounds : ∀ l : List Cv.Lot, Cv.Oks l → 0 ≤ Ra.tot l ∧ Ra.tot l ≤ 1000 * l.length
  | [], _ => by simp [Ra.tot]
  | x :: l, h => by
    have ih := tot_bounds l (fun y hy => h y (List.mem_cons_of_mem _ hy))
    have hx := (Cv.ok_bounds (h x List.mem_cons_self)).2.2.2.2
    simp only [Ra.tot, List.length_cons]
    omega
theorem Cv.Oks.filter {l : List Cv.Lot} (h : Cv.Oks l) (f : Cv.Lot → Bool) : Cv.Oks (l.filter f) := fun x hx => h x (List.mem_filter.1 hx).1
theorem cell_new5 (w : World) (x : Cv.Lot) (T : TypeId) (e : Nat) (he : e = w.heap.size) (j : Nat) (u : Value) (hj : (lotCells x)[j]? = some u) : (w.alloc (.cells #[.int .i64 x.id, .int .i64 x.ow, .int .i64 x.sd, .int .i64 x.pr, .int .i64 x.q] T)).cell? ((⟨e, 0, none⟩ : Addr).add j) = some u := by
  subst he
  have hp : (⟨w.heap.size, 0, none⟩ : Addr).add j = ⟨w.heap.size, j, none⟩ := by unfold Addr.add; split <;> simp_all
  rw [hp, World.cell?_alloc_new, ← hj]
  simp [lotCells]
/-- a lot's cells, and a level's -/
def XV (w : World) (B C : Nat) (x : Cv.Lot) (v : Value) (q : Int) : Prop :=
  w.cell? ⟨B, 0, none⟩ = some (.int .i64 x.id) ∧ w.cell? ⟨B, 1, none⟩ = some (.int .i64 x.ow) ∧ w.cell? ⟨B, 2, none⟩ = some (.int .i64 x.sd) ∧ w.cell? ⟨B, 3, none⟩ = some (.int .i64 x.pr) ∧ w.cell? ⟨B, 4, none⟩ = some (.int .i64 x.q) ∧ w.cell? ⟨C, 0, none⟩ = some v ∧ w.cell? ⟨C, 1, none⟩ = some (.int .i64 q)
theorem XV.grown {w w' : World} {B C : Nat} {x : Cv.Lot} {v : Value} {q : Int} {row : Option Nat} (h : XV w B C x v q) (hg : w.grownBy w' row) (hB : some B ≠ row) (hC : some C ≠ row) : XV w' B C x v q :=
  ⟨hg.cell h.1 hB, hg.cell h.2.1 hB, hg.cell h.2.2.1 hB, hg.cell h.2.2.2.1 hB, hg.cell h.2.2.2.2.1 hB, hg.cell h.2.2.2.2.2.1 hC, hg.cell h.2.2.2.2.2.2 hC⟩
theorem below_drew {B : Nat} {w w' : World} (h : Below B w w') : Below B w w'.drew := ⟨h.os, h.tape, h.output, h.size, h.block⟩
theorem XV.drew {w : World} {B C : Nat} {x : Cv.Lot} {v : Value} {q : Int} (h : XV w B C x v q) : XV w.drew B C x v q := h
theorem xv_new (w : World) (x : Cv.Lot) (v : Value) (q : Int) (T U : TypeId) : XV ((w.alloc (.cells #[.int .i64 x.id, .int .i64 x.ow, .int .i64 x.sd, .int .i64 x.pr, .int .i64 x.q] T)).alloc (.cells #[v, .int .i64 q] U)) w.heap.size (w.heap.size + 1) x v q := by
  have e1 : ∀ j, ((w.alloc (.cells #[.int .i64 x.id, .int .i64 x.ow, .int .i64 x.sd, .int .i64 x.pr, .int .i64 x.q] T)).alloc (.cells #[v, .int .i64 q] U)).cell? ⟨w.heap.size, j, none⟩ = (#[.int .i64 x.id, .int .i64 x.ow, .int .i64 x.sd, .int .i64 x.pr, .int .i64 x.q] : Array Value)[j]? := fun j => by
    rw [World.cell?_alloc_lt _ _ _ (by simp), World.cell?_alloc_new]
  have e2 : ∀ j, ((w.alloc (.cells #[.int .i64 x.id, .int .i64 x.ow, .int .i64 x.sd, .int .i64 x.pr, .int .i64 x.q] T)).alloc (.cells #[v, .int .i64 q] U)).cell? ⟨w.heap.size + 1, j, none⟩ = (#[v, .int .i64 q] : Array Value)[j]? := fun j => by
    rw [show w.heap.size + 1 = (w.alloc (.cells #[.int .i64 x.id, .int .i64 x.ow, .int .i64 x.sd, .int .i64 x.pr, .int .i64 x.q] T)).heap.size by simp, World.cell?_alloc_new]
  exact ⟨e1 0, e1 1, e1 2, e1 3, e1 4, e2 0, e2 1⟩
/-- one lot more: the append, and the store -/
theorem lvls_step {w : World} {base b n : Nat} (e : Nat) {f : Int → List Cv.Lot} {D : DataW Value} {g : Int → Value} (h : Lvls w base b n f D g) (x : Cv.Lot) (ty : TypeId) (h1 : 1 ≤ x.pr) (h2 : x.pr ≤ 1000) (hn : n < 1000) (hl : (f x.pr).length < 1000) (hb : base ≤ w.heap.size)
    (hx : ∀ j u, (lotCells x)[j]? = some u → w.cell? ((⟨e, 0, none⟩ : Addr).add j) = some u) :
    ∃ r cap k w3 w4, (Builtin.append_ #[37, 37] ty #[g x.pr, .slice (some ⟨e, 0, none⟩) 1 1]).run Tryz.prog w = .ok (.slice (some ⟨r, 0, none⟩) k cap) w3 ∧ w.grownBy w3 (g x.pr).ownBlock ∧
      (Instr.mapUpdate 170 (.map (some b)) (.int .i64 x.pr) (.agg #[.slice (some ⟨r, 0, none⟩) k cap, .int .i64 (Ra.tot (f x.pr) + x.q)])).run Tryz.prog w3 = .ok () w4 ∧ w3.grownBy w4 (some b) ∧ Levels w4 base b (n + 1) (grow f x.pr x) := by
  obtain ⟨i0, z0, hi, hz0, hz1, hz2, hz3⟩ := info43
  obtain ⟨v3, w3, hr, hrow, hg, _, hloc⟩ := run_append_own_at (P := Tryz.prog) w base 37 ty 56 i0 z0 5 40 Tryz.underlying37 hi hz0 hz1 hz2 hz3 (by decide) (g x.pr) _ _ (h.row x.pr) ⟨e, 0, none⟩ 1 1 (lotCells x) rfl hx
    (fun u hu => by
      simp only [lotCells, List.mem_cons, List.not_mem_nil, or_false] at hu
      rcases hu with rfl | rfl | rfl | rfl | rfl <;> rfl) (by unfold maxLen; omega) (by omega) hb
  obtain ⟨w4, D', g', hrun, h4, hg4⟩ := h.store x (by omega) (by omega) (by unfold maxLen; omega) hrow hg hloc
  rcases hrow.2 with ⟨_, e⟩ | ⟨r, cap, cur, rfl, _⟩
  · omega
  · exact ⟨r, cap, _, w3, w4, hr, hg, hrun, hg4, D', g', h4⟩

set_option maxHeartbeats 1000000 in
theorem levelsOf_some (b off cap n : Nat) (sd price : Int) (l : List Cv.Lot) (w : World) (hn : Hid (l.length = n)) (hn' : n ≤ 200) (hok : Hid (Cv.Oks l)) (hl : Hid (LotsAt w b off l)) :
    Calls Tryz.prog 87 #[.slice (some ⟨b, off, none⟩) n cap, .int .i64 sd, .int .i64 price] w fun e w' => e = .returned (.map (some w.heap.size)) ∧ Levels w' w.heap.size w.heap.size n (lf sd price l) ∧ Below w.heap.size w w' := by
  have hmm := @run_makeMap Tryz.prog
  go_enter Tryz.func87, Tryz.ntmps87
  go_wp2
  go_loopw [14] (fun i wr => ∃ k : Nat, k ≤ n ∧ i = .int .i64 k ∧ Levels wr w.heap.size w.heap.size k (lf sd price (l.take k)) ∧ Below w.heap.size w wr ∧ w.heap.size < wr.heap.size) (fun i _ => n - (intOf i).toNat)
  case atStart => exact ⟨0, Nat.zero_le _, rfl, ⟨_, _, lvls_made w⟩, (Below.refl _ _).alloc (Nat.le_refl _) _, by simp⟩
  case round =>
    obtain ⟨k, hk, rfl, hL, hb, hlt0⟩ := hrel
    have HL := hide hL; have HB := hide hb; have HS := hide hlt0
    clear hL hb hlt0
    by_cases hlt : k < n
    · have hki : (k : Int) < n := by omega
      obtain ⟨c0, c1, c2, c3, c4⟩ := (hl.out.later HB.out) k (by rw [hn.out]; exact hlt)
      have HT := hide (Cv.take_succ (l := l) (i := k) (by rw [hn.out]; exact hlt))
      have HK := hide (Cv.ok_bounds (hok.out _ (Cv.nth_mem (l := l) (i := k) (by rw [hn.out]; exact hlt))))
      generalize Cv.nth l k = x at *
      have skip : Ra.el sd price x = false → Hid (Levels wr w.heap.size w.heap.size (k + 1) (lf sd price (l.take (k + 1)))) := fun he => by
        obtain ⟨D, g, h⟩ := HL.out
        refine ⟨D, g, ?_⟩
        rw [HT.out, lf_out he]
        exact { h with own := h.own.mono (Nat.le_succ _) }
      by_cases hs : x.sd = sd
      · have hsb : (x.sd != sd) = false := by simp [hs]
        cases hbt : Cv.better sd price x.pr with
        | true =>
          have HL' := skip (by simp [Ra.el, hbt])
          have Hbt := hide hbt
          clear hs skip HL hbt
          go_wp2_with fail
          refine (better_any sd price x.pr _).mono ?_
          rintro e w2 ⟨rfl, rfl⟩
          rw [Hbt.out]
          simp only []
          go_wp2
          exact ⟨⟨k + 1, by omega, by go_num, HL'.out.alloc _, HB.out.alloc HB.out.size _, by have := HS.out; simp; omega⟩, by simp [intOf]; omega⟩
        | false =>
          have Hel : Hid (Ra.el sd price x = true) := by show _ = _; simp [Ra.el, hbt, hs]
          have Hbt := hide hbt
          clear hs skip hbt
          go_wp2_with fail
          refine (better_any sd price x.pr _).mono ?_
          rintro e w2 ⟨rfl, rfl⟩
          rw [Hbt.out]
          simp only []
          obtain ⟨D, g, hLv⟩ := HL.out
          obtain ⟨a0, m0, c0', hg0⟩ : ∃ a m c, g x.pr = .slice a m c := by
            rcases (hLv.row x.pr).2 with ⟨e, _⟩ | ⟨r, cap, cur, e, _⟩
            · exact ⟨_, _, _, e⟩
            · exact ⟨_, _, _, e⟩
          have hrun := (hLv.alloc (.cells #[.int .i64 x.id, .int .i64 x.ow, .int .i64 x.sd, .int .i64 x.pr, .int .i64 x.q] 56)).look (p := x.pr) (by have := HK.out; omega) (by have := HK.out; omega)
          rw [hg0] at hrun
          obtain ⟨q, hq⟩ : ∃ q, Ra.tot (lf sd price (l.take k) x.pr) = q := ⟨_, rfl⟩
          have hlen : (lf sd price (l.take k) x.pr).length < 1000 := by
            have h1 := List.length_filter_le (fun y => Ra.el sd price y && y.pr == x.pr) (l.take k)
            have h2 := List.length_take_le k l
            show (List.filter _ _).length < _
            omega
          have hqb : 0 ≤ q ∧ q ≤ 1000000 := by
            have h3 := tot_bounds (lf sd price (l.take k) x.pr) ((hok.out.take k).filter _)
            rw [hq] at h3
            omega
          rw [hq] at hrun
          unfold lvV at hrun
          obtain ⟨r, cap3, k3, w3, w4, hap, hg3, hmu, hg4, hL4⟩ := lvls_step (wr.heap.size + 1 + 1) ((((hLv.alloc (.cells #[.int .i64 x.id, .int .i64 x.ow, .int .i64 x.sd, .int .i64 x.pr, .int .i64 x.q] 56)).alloc (.cells #[.slice a0 m0 c0', .int .i64 q] 188)).drew).alloc (.cells #[.int .i64 x.id, .int .i64 x.ow, .int .i64 x.sd, .int .i64 x.pr, .int .i64 x.q] 56)) x 22
            (by have := HK.out; omega) (by have := HK.out; omega) (by omega) hlen (by have := HB.out.size; simp; omega) (fun j u hj => cell_new5 _ x 56 _ (by simp) j u hj)
          have hrow := (hLv.row x.pr).lt
          rw [hg0] at hap hg3 hrow
          rw [hq] at hmu
          have hqw : q + x.q ≤ 10000000 ∧ 0 ≤ q + x.q := by have := HK.out; omega
          have hS0 := xv_new wr x (.slice a0 m0 c0') q 56 188
          have hS1 := hS0.drew.grown (World.grownBy_alloc (((wr.alloc (.cells #[.int .i64 x.id, .int .i64 x.ow, .int .i64 x.sd, .int .i64 x.pr, .int .i64 x.q] 56)).alloc (.cells #[.slice a0 m0 c0', .int .i64 q] 188)).drew) (.cells #[.int .i64 x.id, .int .i64 x.ow, .int .i64 x.sd, .int .i64 x.pr, .int .i64 x.q] 56) none) (by simp) (by simp)
          have hS3 := hS1.grown hg3 (fun e => by have := (hrow _ e.symm).2; omega) (fun e => by have := (hrow _ e.symm).2; omega)
          have hS4 := hS3.grown hg4 (fun e => by have := HS.out; simp at e; omega) (fun e => by have := HS.out; simp at e; omega)
          have HB4 : Hid (Below w.heap.size w w4) := by
            have b0 := (HB.out.alloc HB.out.size (.cells #[.int .i64 x.id, .int .i64 x.ow, .int .i64 x.sd, .int .i64 x.pr, .int .i64 x.q] 56)).alloc (by have := HB.out.size; simp; omega) (.cells #[.slice a0 m0 c0', .int .i64 q] 188)
            have b1 := (below_drew b0).alloc (by have := HB.out.size; simp; omega) (.cells #[.int .i64 x.id, .int .i64 x.ow, .int .i64 x.sd, .int .i64 x.pr, .int .i64 x.q] 56)
            have b3 := b1.grown hg3 (by have := HB.out.size; simp; omega) (fun j hj => (hrow j hj).1)
            exact b3.grown hg4 b3.size (fun j hj => by cases hj; exact Nat.le_refl _)
          have HS4 : Hid (w.heap.size < w4.heap.size) := by
            have h1 := hg3.size; have h2 := hg4.size; have h3 := HS.out
            simp at h1
            show _ < _
            omega
          have HL4 : Hid (Levels w4 w.heap.size w.heap.size (k + 1) (lf sd price (l.take (k + 1)))) := by
            show Levels _ _ _ _ _
            rw [HT.out, lf_in Hel.out]
            exact hL4
          have HAP := hide hap; have HMU := hide hmu; have H0 := hide hS0; have H1 := hide hS1; have H3 := hide hS3; have H4 := hide hS4
          clear hap hg3 hmu hg4 hL4 hLv hS0 hS1 hS3 hS4 hrow
          go_wp2_with (at_lookup; refine wpList_lookup_run rfl _ _ 170 rfl _ _ _ rfl rfl hrun ?_)
          have hmu := HMU.out
          have hwr : IntKind.i64.wrap (q + x.q) = q + x.q := IntWalk.i64_in _ (by omega)
          go_region_held3 (fun w' => w'.cell? ⟨wr.heap.size, 0, none⟩ = some (.int .i64 x.id) ∧ w'.cell? ⟨wr.heap.size, 1, none⟩ = some (.int .i64 x.ow) ∧ w'.cell? ⟨wr.heap.size, 2, none⟩ = some (.int .i64 x.sd) ∧ w'.cell? ⟨wr.heap.size, 3, none⟩ = some (.int .i64 x.pr) ∧ w'.cell? ⟨wr.heap.size, 4, none⟩ = some (.int .i64 x.q) ∧ w'.cell? ⟨wr.heap.size + 1, 0, none⟩ = some (.slice a0 m0 c0') ∧ w'.cell? ⟨wr.heap.size + 1, 1, none⟩ = some (.int .i64 q)) (first | exact H0.out | exact H1.out | exact H3.out | exact H4.out) (refine step_append_run rfl _ _ 37 rfl _ _ _ rfl rfl HAP.out ?_)
          go_wp2
          exact ⟨⟨k + 1, by omega, by go_num, HL4.out, HB4.out, HS4.out⟩, by simp [intOf]; omega⟩
      · have hsb : (x.sd != sd) = true := by simp [hs]
        have HL' := skip (by simp [Ra.el, hs])
        clear hs skip HL
        go_wp2
        exact ⟨⟨k + 1, by omega, by go_num, HL'.out.alloc _, HB.out.alloc HB.out.size _, by have := HS.out; simp; omega⟩, by simp [intOf]; omega⟩
    · have hki : ¬ (k : Int) < n := by omega
      obtain rfl : k = n := by omega
      have HL' : Hid (Levels wr w.heap.size w.heap.size k (lf sd price l)) := by
        have := HL.out
        rwa [show l.take k = l from List.take_of_length_le (by rw [hn.out]; omega)] at this
      clear HL
      go_wp2
      go_ret
      exact ⟨rfl, HL'.out, HB.out⟩
theorem levelsOf_none (a : Option Addr) (cap : Nat) (sd price : Int) (w : World) :
    Calls Tryz.prog 87 #[.slice a 0 cap, .int .i64 sd, .int .i64 price] w fun e w' => e = .returned (.map (some w.heap.size)) ∧ Levels w' w.heap.size w.heap.size 0 (lf sd price []) ∧ Below w.heap.size w w' := by
  have hmm := @run_makeMap Tryz.prog
  go_enter Tryz.func87, Tryz.ntmps87
  go_wp2
  refine wp_loop_rounds 1 ?_
  rw [rounds_succ]
  go_wp2
  go_ret
  exact ⟨rfl, ⟨_, _, lvls_made w⟩, (Below.refl _ _).alloc (Nat.le_refl _) _⟩
theorem levelsOf_any (v : Value) (sd price : Int) (l : List Cv.Lot) (w : World) (hv : Lots w v l) (hok : Cv.Well l) :
    Calls Tryz.prog 87 #[v, .int .i64 sd, .int .i64 price] w fun e w' => e = .returned (.map (some w.heap.size)) ∧ Levels w' w.heap.size w.heap.size l.length (lf sd price l) ∧ Below w.heap.size w w' := by
  rcases hv with ⟨rfl, a, cap, rfl⟩ | ⟨b, off, cap, rfl, _, hl⟩
  · exact levelsOf_none a cap sd price w
  · exact levelsOf_some b off cap _ sd price l w rfl (by have := hok.1; omega) hok.oks hl
end Go.Proofs.YtjdnahmdicamdaaGreatDoor
/- Add of a book by its contract. -/
namespace Go.Proofs.YtjdnahmdicamdaaGreatDoor
open Go.RowKit Go.Maps
set_option maxRecDepth 100000

theorem well_one {x : Cv.Lot} : Cv.Well [x] ↔ Cv.ok x = true := by
  constructor
  · intro h
    exact h.oks x (by simp)
  · intro h
    refine ⟨by simp, fun i hi => ?_⟩
    have : i = 0 := by simp at hi; omega
    subst this
    simp [Cv.okAt, Cv.nth, h, Cv.has]
def lotArr (x : Cv.Lot) : Array Value := #[.int .i64 x.id, .int .i64 x.ow, .int .i64 x.sd, .int .i64 x.pr, .int .i64 x.q]
theorem lotsAt_new (w : World) (x : Cv.Lot) : Lots (w.alloc (.cells #[.int .i64 x.id, .int .i64 x.ow, .int .i64 x.sd, .int .i64 x.pr, .int .i64 x.q] 56)) (.slice (some ⟨w.heap.size, 0, none⟩) 1 1) [x] := by
  refine .inr ⟨_, 0, 1, rfl, Nat.le_refl _, ?_⟩
  refine lotsAt_of_flat fun j u hj => ?_
  have hj' : (lotCells x)[j]? = some u := by simpa [flat] using hj
  have := cell_new5 w x 56 _ rfl j u hj'
  have hp : (⟨w.heap.size, 0, none⟩ : Addr).add j = ⟨w.heap.size, j, none⟩ := by unfold Addr.add; split <;> simp_all
  rwa [hp] at this

set_option maxHeartbeats 1000000 in
theorem add_any (p base : Nat) (v : Value) (x : Cv.Lot) (l : List Cv.Lot) (T : TypeId) (v1 v5 v6 v7 : Value) (w : World) (he : Hid (Er4 w T v1 v5 v6 v7)) (hb : Hid (Book w base p v l)) (hn : Hid (l.length ≤ 60)) :
    Calls Tryz.prog 40 #[.pointer (some ⟨p, 0, none⟩), lotV x] w fun e w' => e = .returned (errOf T v1 v5 v6 v7 (Bk.addC l x)) ∧ ∃ v', Book w' base p v' (Bk.addL l x) ∧ Step w w' p v v' := by
  show Calls Tryz.prog 40 #[.pointer (some ⟨p, 0, none⟩), .agg #[.int .i64 x.id, .int .i64 x.ow, .int .i64 x.sd, .int .i64 x.pr, .int .i64 x.q]] w _
  have hbW : Below w.heap.size w ((w.alloc (.cells #[.int .i64 x.id, .int .i64 x.ow, .int .i64 x.sd, .int .i64 x.pr, .int .i64 x.q] 56)).alloc (.cells #[.int .i64 x.id, .int .i64 x.ow, .int .i64 x.sd, .int .i64 x.pr, .int .i64 x.q] 56)) := ((Below.refl _ _).alloc (Nat.le_refl _) _).alloc (by simp) _
  have hLot := lotsAt_new (w.alloc (.cells #[.int .i64 x.id, .int .i64 x.ow, .int .i64 x.sd, .int .i64 x.pr, .int .i64 x.q] 56)) x
  rw [show (w.alloc (.cells #[.int .i64 x.id, .int .i64 x.ow, .int .i64 x.sd, .int .i64 x.pr, .int .i64 x.q] 56)).heap.size = w.heap.size + 1 by simp] at hLot
  cases hok : Cv.ok x with
  | false =>
    have HC := hide (check_ill _ [x] T v1 v6 v7 _ hLot (he.out.er.later hbW) (fun h => by rw [well_one.1 h] at hok; cases hok))
    have HA : Hid (Bk.addC l x = 1 ∧ Bk.addL l x = l) := by
      have e : Bk.addC l x = 1 := by unfold Bk.addC; rw [hok]; rfl
      exact ⟨e, by unfold Bk.addL; rw [e]; rfl⟩
    have HBW := hide hbW
    clear hok hLot hbW
    go_enter Tryz.func40, Tryz.ntmps40
    go_wp2_with fail
    refine HC.out.mono ?_
    rintro e w2 ⟨⟨U, y, rfl⟩, hb2⟩
    have HB : Hid (Below w.heap.size w w2) := HBW.out.trans (hb2.mono HBW.out.size)
    have c1 := (he.out.er.later HB.out).c1
    clear hb2 HC HBW
    simp only []
    go_wp2
    go_ret
    exact ⟨by rw [HA.out.1]; rfl, v, by rw [HA.out.2]; exact hb.out.later HB.out, Step.of_below HB.out p v⟩
  | true =>
    have HC := hide (check_well _ [x] T v1 v6 v7 _ hLot (he.out.er.later hbW) (well_one.2 hok))
    have HOK := hide hok
    have HBW := hide hbW
    clear hok hLot hbW
    go_enter Tryz.func40, Tryz.ntmps40
    go_wp2_with fail
    refine HC.out.mono ?_
    rintro e w2 ⟨rfl, hb2⟩
    have HB : Hid (Below w.heap.size w w2) := HBW.out.trans (hb2.mono HBW.out.size)
    have hX : w2.heap[w.heap.size]? = some (.cells #[.int .i64 x.id, .int .i64 x.ow, .int .i64 x.sd, .int .i64 x.pr, .int .i64 x.q] 56 (0, 0)) := by
      rw [hb2.block _ (by simp; omega), heap_alloc_old _ _ (by simp), heap_alloc_new]
    have HX := hide hX
    have a0 : w2.cell? ⟨w.heap.size, 0, none⟩ = some (.int .i64 x.id) := by simp [World.cell?, hX]
    clear hb2 HC HBW hX
    simp only []
    go_wp2_with fail
    refine (find_any p base v x.id l w2 (hb.out.later HB.out) hn).mono ?_
    rintro e w3 ⟨rfl, hb3⟩
    have HB3 : Hid (Below w.heap.size w w3) := HB.out.trans (hb3.mono HB.out.size)
    have hX : w3.heap[w.heap.size]? = some (.cells #[.int .i64 x.id, .int .i64 x.ow, .int .i64 x.sd, .int .i64 x.pr, .int .i64 x.q] 56 (0, 0)) := by
      rw [hb3.block _ (lt_of_block HX.out)]; exact HX.out
    have HX3 := hide hX
    have HK3 := hide (hb.out.later HB3.out)
    have HE3 := hide (he.out.later HB3.out)
    clear hb3 HX a0 HB hX
    cases hh : Cv.has l x.id with
    | true =>
      rw [Bk.posI_some hh]
      have HA : Hid (Bk.addC l x = 2 ∧ Bk.addL l x = l) := by
        have e : Bk.addC l x = 2 := by unfold Bk.addC; rw [if_pos HOK.out, if_pos hh]
        exact ⟨e, by unfold Bk.addL; rw [e]; rfl⟩
      have h0 : ¬ ((Bk.pos l x.id : Nat) : Int) < 0 := by omega
      have h0' : (0 : Int) ≤ ((Bk.pos l x.id : Nat) : Int) := by omega
      have c6 := HE3.out.er.c6
      clear hh
      generalize Bk.pos l x.id = k at *
      simp only []
      go_wp2
      go_ret
      exact ⟨by rw [HA.out.1]; rfl, v, by rw [HA.out.2]; exact HK3.out, Step.of_below HB3.out p v⟩
    | false =>
      rw [Bk.posI_none hh]
      have Hh := hide hh
      clear hh
      have hcell := cell_of_one HK3.out.cell
      obtain ⟨a, m, c, rfl⟩ : ∃ a m c, v = .slice a m c := by
        rcases HK3.out.form with ⟨e, _⟩ | ⟨g, cap, e, _⟩
        · exact ⟨_, _, _, e⟩
        · exact ⟨_, _, _, e⟩
      have hm : m = l.length := by
        rcases HK3.out.form with ⟨e, e2⟩ | ⟨g, cap, e, _⟩
        · simp at e; rw [e2]; exact e.2.1
        · simp at e; exact e.2.1
      have HM := hide hm
      have hm60 : m ≤ 60 := by rw [hm]; exact hn.out
      clear hm
      by_cases hf : 60 ≤ m
      · have hf' : (60 : Int) ≤ m := by omega
        have HA : Hid (Bk.addC l x = 3 ∧ Bk.addL l x = l) := by
          have e : Bk.addC l x = 3 := by unfold Bk.addC; rw [if_pos HOK.out, if_neg (by rw [Hh.out]; simp), if_pos (by rw [← HM.out]; exact hf)]
          exact ⟨e, by unfold Bk.addL; rw [e]; rfl⟩
        have c7 := HE3.out.er.c7
        simp only []
        go_wp2
        go_ret
        exact ⟨by rw [HA.out.1]; rfl, _, by rw [HA.out.2]; exact HK3.out, Step.of_below HB3.out p _⟩
      · have hf' : ¬ (60 : Int) ≤ m := by omega
        have HA : Hid (Bk.addC l x = 0 ∧ Bk.addL l x = l ++ [x]) := by
          have e : Bk.addC l x = 0 := by unfold Bk.addC; rw [if_pos HOK.out, if_neg (by rw [Hh.out]; simp), if_neg (by rw [← HM.out]; exact hf)]
          exact ⟨e, by unfold Bk.addL; rw [if_pos e]⟩
        have hX := HX3.out
        have b0 : w3.cell? ⟨w.heap.size, 0, none⟩ = some (.int .i64 x.id) := by simp [World.cell?, hX]
        have b1 : w3.cell? ⟨w.heap.size, 1, none⟩ = some (.int .i64 x.ow) := by simp [World.cell?, hX]
        have b2 : w3.cell? ⟨w.heap.size, 2, none⟩ = some (.int .i64 x.sd) := by simp [World.cell?, hX]
        have b3 : w3.cell? ⟨w.heap.size, 3, none⟩ = some (.int .i64 x.pr) := by simp [World.cell?, hX]
        have b4 : w3.cell? ⟨w.heap.size, 4, none⟩ = some (.int .i64 x.q) := by simp [World.cell?, hX]
        clear hX
        have hbA : Below w3.heap.size w3 (w3.drew.alloc (.cells #[.int .i64 x.id, .int .i64 x.ow, .int .i64 x.sd, .int .i64 x.pr, .int .i64 x.q] 56)) := (below_drew (Below.refl _ _)).alloc (Nat.le_refl _) _
        have hKA := HK3.out.later hbA
        obtain ⟨i0, z0, hi, hz0, hz1, hz2, hz3⟩ := info43
        obtain ⟨v4, w4, hap, hrow, hg, _, hloc⟩ := run_append_own_at (P := Tryz.prog) (w3.drew.alloc (.cells #[.int .i64 x.id, .int .i64 x.ow, .int .i64 x.sd, .int .i64 x.pr, .int .i64 x.q] 56)) base 37 37 56 i0 z0 5 40 Tryz.underlying37 hi hz0 hz1 hz2 hz3 (by decide) _ _ _ hKA.row ⟨w3.heap.size, 0, none⟩ 1 1 (lotCells x) rfl
          (fun j u hj => cell_new5 _ x 56 _ rfl j u hj)
          (fun u hu => by
            simp only [lotCells, List.mem_cons, List.not_mem_nil, or_false] at hu
            rcases hu with rfl | rfl | rfl | rfl | rfl <;> rfl) (by unfold maxLen; have := hn.out; omega) (by have := hn.out; omega) (by have h1 := hKA.lo; have h2 := hKA.lt; omega)
        obtain ⟨k1, k2⟩ := hKA.openAt hg
        obtain ⟨a4, m4, c4, rfl⟩ : ∃ a m c, v4 = .slice a m c := by
          rcases hrow.2 with ⟨e, _⟩ | ⟨g, cap, cur, e, _⟩
          · exact ⟨_, _, _, e⟩
          · exact ⟨_, _, _, e⟩
        have hset := hKA.set (l' := l ++ [x]) hg (by rw [List.length_append, flat_append]; simpa [flat] using hrow) (fun k hk => by
          rcases hloc with h | h
          · rw [h] at hk; exact .inl hk
          · rw [h] at hk; exact .inr (Nat.le_of_eq (Option.some.inj hk)))
        have HSET := hide hset
        have HAP := hide hap
        have HBA := hide hbA
        clear hset hap hrow hg hloc hi hz0 hz1 hz2 hz3 hKA hbA
        have hpl : p < w3.heap.size := HK3.out.lt
        have hwl : w.heap.size < w3.heap.size := lt_of_block HX3.out
        simp only []
        go_wp2
        go_region_law (refine step_append_run rfl _ _ 37 rfl _ _ _ rfl rfl HAP.out ?_)
        all_goals go_wp2
        all_goals go_ret
        all_goals exact ⟨by rw [HA.out.1]; rfl, _, by rw [HA.out.2]; exact HSET.out.1, (Step.of_below (HB3.out.trans (HBA.out.mono HB3.out.size)) p _).trans HSET.out.2⟩
end Go.Proofs.YtjdnahmdicamdaaGreatDoor
/- Purses as numbers: what each act answers and leaves, and what is always so; no program is spoken of. -/
namespace Go.Proofs.YtjdnahmdicamdaaGreatDoor
namespace Pu

/-- so much more at one place -/
def add (f : Nat → Int) (i : Nat) (v : Int) : Nat → Int := fun j => if j = i then f j + v else f j
def dl (i : Nat) (v : Int) (j : Nat) : Int := if j = i then v else 0
theorem add_dl (f : Nat → Int) (i : Nat) (v : Int) (j : Nat) : add f i v j = f j + dl i v j := by
  unfold add dl; split <;> simp
theorem add_at (f : Nat → Int) (i : Nat) (v : Int) : add f i v i = f i + v := by simp [add]
theorem add_ne (f : Nat → Int) {i j : Nat} (v : Int) (h : j ≠ i) : add f i v j = f j := by simp [add, h]

/-- client c: cash at c * 8, held behind it, three stocks, three that are kept -/
structure Good (f : Nat → Int) : Prop where
  cash : ∀ c, c < 6 → 0 ≤ f (c * 8 + 1) ∧ f (c * 8 + 1) ≤ f (c * 8) ∧ f (c * 8) ≤ 1099511627776
  stock : ∀ c k, c < 6 → k < 3 → 0 ≤ f (c * 8 + 5 + k) ∧ f (c * 8 + 5 + k) ≤ f (c * 8 + 2 + k) ∧ f (c * 8 + 2 + k) ≤ 1073741824
theorem good_zero : Good (fun _ => 0) := ⟨fun _ _ => by omega, fun _ _ _ _ => by omega⟩

def well (item : Int) (x : Cv.Lot) : Bool := Wi.withinB item 0 2 && Cv.ok x
theorem well_item {item : Int} {x : Cv.Lot} (h : well item x = true) : ∃ k : Nat, item = k ∧ k < 3 := by
  simp only [well, Wi.withinB, Bool.and_eq_true, decide_eq_true_eq] at h
  exact ⟨item.toNat, by omega, by omega⟩
theorem well_ok {item : Int} {x : Cv.Lot} (h : well item x = true) : Cv.ok x = true := by
  simp only [well, Bool.and_eq_true] at h; exact h.2
theorem well_ow {item : Int} {x : Cv.Lot} (h : well item x = true) : ∃ c : Nat, x.ow = c ∧ c < 6 := by
  have := Cv.ok_bounds (well_ok h)
  exact ⟨x.ow.toNat, by omega, by omega⟩

/-- where a lot's hold stands, and of what it is held; how much -/
def hx (item : Int) (x : Cv.Lot) : Nat := if x.sd = 0 then x.ow.toNat * 8 + 1 else x.ow.toNat * 8 + 5 + item.toNat
def tx (item : Int) (x : Cv.Lot) : Nat := if x.sd = 0 then x.ow.toNat * 8 else x.ow.toNat * 8 + 2 + item.toNat
def mu (x : Cv.Lot) : Int := if x.sd = 0 then x.pr * x.q else x.q
theorem mul_bounds {a b : Int} {n m : Int} (h1 : 1 ≤ a) (h2 : a ≤ n) (h3 : 1 ≤ b) (h4 : b ≤ m) : 1 ≤ a * b ∧ a * b ≤ n * m := by
  refine ⟨?_, ?_⟩
  · have := Int.mul_le_mul h1 h3 (by omega) (by omega); simpa using this
  · exact Int.mul_le_mul h2 h4 (by omega) (by omega)
theorem mu_bounds {x : Cv.Lot} (h : Cv.ok x = true) : 1 ≤ mu x ∧ mu x ≤ 1000000 := by
  obtain ⟨_, _, _, h4, h5⟩ := Cv.ok_bounds h
  unfold mu
  split
  · have := mul_bounds h4.1 h4.2 h5.1 h5.2; omega
  · omega
theorem places {item : Int} {x : Cv.Lot} (h : well item x = true) : (∃ c : Nat, c < 6 ∧ hx item x = c * 8 + 1 ∧ tx item x = c * 8) ∨ ∃ c k : Nat, c < 6 ∧ k < 3 ∧ hx item x = c * 8 + 5 + k ∧ tx item x = c * 8 + 2 + k := by
  obtain ⟨k, hk, hk3⟩ := well_item h
  obtain ⟨c, hc, hc6⟩ := well_ow h
  unfold hx tx
  split
  · exact .inl ⟨c, hc6, by omega, by omega⟩
  · exact .inr ⟨c, k, hc6, hk3, by omega, by omega⟩
theorem place_lt {item : Int} {x : Cv.Lot} (h : well item x = true) : hx item x < 48 ∧ tx item x < 48 := by
  rcases places h with ⟨c, h1, h2, h3⟩ | ⟨c, k, h1, h4, h2, h3⟩ <;> omega
theorem good_at {f : Nat → Int} (hg : Good f) {item : Int} {x : Cv.Lot} (h : well item x = true) : 0 ≤ f (hx item x) ∧ f (hx item x) ≤ f (tx item x) ∧ f (tx item x) ≤ 1099511627776 := by
  rcases places h with ⟨c, h1, h2, h3⟩ | ⟨c, k, h1, h4, h2, h3⟩
  · rw [h2, h3]; exact hg.cash c h1
  · rw [h2, h3]; have := hg.stock c k h1 h4; omega
/-- more or less that is held, between its bounds -/
theorem good_held {f : Nat → Int} (hg : Good f) {item : Int} {x : Cv.Lot} (h : well item x = true) (v : Int) (h0 : 0 ≤ f (hx item x) + v) (h1 : f (hx item x) + v ≤ f (tx item x)) : Good (add f (hx item x) v) := by
  rcases places h with ⟨c, c1, e1, e2⟩ | ⟨c, k, c1, k1, e1, e2⟩
  · rw [e1] at h0 h1 ⊢
    rw [e2] at h1
    refine ⟨fun c' hc' => ?_, fun c' k' hc' hk' => ?_⟩
    · have := hg.cash c' hc'
      by_cases e : c' = c
      · subst e; rw [add_at, add_ne _ _ (by omega)]; omega
      · rw [add_ne _ _ (by omega), add_ne _ _ (by omega)]; exact this
    · rw [add_ne _ _ (by omega), add_ne _ _ (by omega)]; exact hg.stock c' k' hc' hk'
  · rw [e1] at h0 h1 ⊢
    rw [e2] at h1
    refine ⟨fun c' hc' => ?_, fun c' k' hc' hk' => ?_⟩
    · rw [add_ne _ _ (by omega), add_ne _ _ (by omega)]; exact hg.cash c' hc'
    · have := hg.stock c' k' hc' hk'
      by_cases e : c' = c ∧ k' = k
      · obtain ⟨rfl, rfl⟩ := e; rw [add_at, add_ne _ _ (by omega)]; omega
      · rw [add_ne _ _ (by omega), add_ne _ _ (by omega)]; exact this

def holdC (f : Nat → Int) (item : Int) (x : Cv.Lot) : Nat := if well item x = true then (if f (tx item x) - f (hx item x) < mu x then 9 else 0) else 1
def holdF (f : Nat → Int) (item : Int) (x : Cv.Lot) : Nat → Int := if holdC f item x = 0 then add f (hx item x) (mu x) else f
def freeC (f : Nat → Int) (item : Int) (x : Cv.Lot) : Nat := if well item x = true then (if f (hx item x) < mu x then 9 else 0) else 1
def freeF (f : Nat → Int) (item : Int) (x : Cv.Lot) : Nat → Int := if freeC f item x = 0 then add f (hx item x) (-(mu x)) else f
theorem hold_zero {f : Nat → Int} {item : Int} {x : Cv.Lot} (h : holdC f item x = 0) : well item x = true ∧ ¬ f (tx item x) - f (hx item x) < mu x := by
  unfold holdC at h
  split at h
  · split at h
    · exact absurd h (by decide)
    · exact ⟨by assumption, by assumption⟩
  · exact absurd h (by decide)
theorem free_zero {f : Nat → Int} {item : Int} {x : Cv.Lot} (h : freeC f item x = 0) : well item x = true ∧ ¬ f (hx item x) < mu x := by
  unfold freeC at h
  split at h
  · split at h
    · exact absurd h (by decide)
    · exact ⟨by assumption, by assumption⟩
  · exact absurd h (by decide)
theorem good_hold {f : Nat → Int} (hg : Good f) (item : Int) (x : Cv.Lot) : Good (holdF f item x) := by
  unfold holdF
  split
  · rename_i h
    obtain ⟨h1, h2⟩ := hold_zero h
    have := good_at hg h1
    have := mu_bounds (well_ok h1)
    exact good_held hg h1 _ (by omega) (by omega)
  · exact hg
theorem good_free {f : Nat → Int} (hg : Good f) (item : Int) (x : Cv.Lot) : Good (freeF f item x) := by
  unfold freeF
  split
  · rename_i h
    obtain ⟨h1, h2⟩ := free_zero h
    have := good_at hg h1
    have := mu_bounds (well_ok h1)
    exact good_held hg h1 _ (by omega) (by omega)
  · exact hg

/-- what is given -/
structure Gift where
  n : Int
  cash : Int
  s0 : Int
  s1 : Int
  s2 : Int
def Gift.neg (g : Gift) : Bool := decide (g.s0 < 0) || decide (g.s1 < 0) || decide (g.s2 < 0) || decide (g.cash < 0)
def Gift.fine (g : Gift) : Bool := Wi.withinB g.n 0 5 && !g.neg
def Gift.over (f : Nat → Int) (g : Gift) : Bool := decide (1099511627776 - f (g.n.toNat * 8) < g.cash) || decide (1073741824 - f (g.n.toNat * 8 + 2) < g.s0) || decide (1073741824 - f (g.n.toNat * 8 + 3) < g.s1) || decide (1073741824 - f (g.n.toNat * 8 + 4) < g.s2)
def giveC (f : Nat → Int) (g : Gift) : Nat := if g.fine = true then (if g.over f = true then 7 else 0) else 1
def giveF (f : Nat → Int) (g : Gift) : Nat → Int := if giveC f g = 0 then add (add (add (add f (g.n.toNat * 8) g.cash) (g.n.toNat * 8 + 2) g.s0) (g.n.toNat * 8 + 3) g.s1) (g.n.toNat * 8 + 4) g.s2 else f
theorem give_zero {f : Nat → Int} {g : Gift} (h : giveC f g = 0) : (∃ c : Nat, g.n = c ∧ c < 6 ∧ g.cash ≤ 1099511627776 - f (c * 8) ∧ g.s0 ≤ 1073741824 - f (c * 8 + 2) ∧ g.s1 ≤ 1073741824 - f (c * 8 + 3) ∧ g.s2 ≤ 1073741824 - f (c * 8 + 4)) ∧ 0 ≤ g.cash ∧ 0 ≤ g.s0 ∧ 0 ≤ g.s1 ∧ 0 ≤ g.s2 := by
  unfold giveC at h
  split at h
  · rename_i h1
    split at h
    · exact absurd h (by decide)
    · rename_i h2
      simp only [Gift.over, Gift.fine, Gift.neg, Wi.withinB, Bool.or_eq_true, Bool.and_eq_true, Bool.not_eq_true', Bool.or_eq_false_iff, decide_eq_true_eq, decide_eq_false_iff_not, not_or] at h1 h2
      refine ⟨⟨g.n.toNat, by omega, by omega, ?_, ?_, ?_, ?_⟩, by omega, by omega, by omega, by omega⟩ <;> omega
  · exact absurd h (by decide)
theorem good_give {f : Nat → Int} (hg : Good f) (g : Gift) : Good (giveF f g) := by
  unfold giveF
  split
  · rename_i h
    obtain ⟨⟨c, hc, c6, b0, b1, b2, b3⟩, p0, p1, p2, p3⟩ := give_zero h
    rw [hc, Int.toNat_natCast]
    refine ⟨fun c' hc' => ?_, fun c' k' hc' hk' => ?_⟩
    · have := hg.cash c' hc'
      simp only [add_dl, dl]
      by_cases e : c' = c
      · subst e
        simp only [if_true, if_neg (show ¬ c' * 8 + 1 = c' * 8 by omega), if_neg (show ¬ c' * 8 + 1 = c' * 8 + 2 by omega), if_neg (show ¬ c' * 8 + 1 = c' * 8 + 3 by omega), if_neg (show ¬ c' * 8 + 1 = c' * 8 + 4 by omega), if_neg (show ¬ c' * 8 = c' * 8 + 2 by omega), if_neg (show ¬ c' * 8 = c' * 8 + 3 by omega), if_neg (show ¬ c' * 8 = c' * 8 + 4 by omega)]
        omega
      · repeat rw [if_neg (by omega)]
        omega
    · have hst := hg.stock c' k' hc' hk'
      simp only [add_dl, dl]
      by_cases e : c' = c
      · subst e
        have : k' = 0 ∨ k' = 1 ∨ k' = 2 := by omega
        rcases this with rfl | rfl | rfl
        all_goals
          repeat (first | rw [if_neg (by omega)] | rw [if_pos (by omega)])
          simp only [Nat.add_zero, Nat.add_assoc, Nat.reduceAdd] at hst ⊢
          omega
      · repeat rw [if_neg (by omega)]
        omega
  · exact hg

/-- what is wrong with a trade, whatever its owners have -/
def tchk (item : Int) (b s : Cv.Lot) (price qty : Int) : Nat :=
  if well item b = true ∧ well item s = true then
    if b.sd = 0 ∧ s.sd = 1 then
      if (1 ≤ price ∧ price ≤ 1000) ∧ 1 ≤ qty ∧ qty ≤ b.q ∧ qty ≤ s.q then
        if s.pr ≤ price ∧ price ≤ b.pr then 0 else 11
      else 1
    else 2
  else 1
def six (f : Nat → Int) (b s item : Nat) (bp price qty : Int) : Nat → Int :=
  add (add (add (add (add (add f (b * 8 + 1) (-(bp * qty))) (s * 8 + 5 + item) (-qty)) (b * 8) (-(price * qty))) (s * 8 + 2 + item) (-qty)) (b * 8 + 2 + item) qty) (s * 8) (price * qty)
def poor (f : Nat → Int) (b s item : Nat) (bp qty : Int) : Bool := decide (f (b * 8 + 1) < bp * qty) || decide (f (s * 8 + 5 + item) < qty)
def over (f : Nat → Int) (b s item : Nat) (price qty : Int) : Bool := decide (b ≠ s) && (decide (1073741824 < f (b * 8 + 2 + item) + qty) || decide (1099511627776 < f (s * 8) + price * qty))
def tradeC (f : Nat → Int) (item : Int) (b s : Cv.Lot) (price qty : Int) : Nat :=
  if tchk item b s price qty = 0 then
    if poor f b.ow.toNat s.ow.toNat item.toNat b.pr qty = true then 9
    else if over f b.ow.toNat s.ow.toNat item.toNat price qty = true then 7 else 0
  else tchk item b s price qty
def tradeF (f : Nat → Int) (item : Int) (b s : Cv.Lot) (price qty : Int) : Nat → Int :=
  if tradeC f item b s price qty = 0 then six f b.ow.toNat s.ow.toNat item.toNat b.pr price qty else f

/-- a trade that is right -/
structure Right (item : Int) (b s : Cv.Lot) (price qty : Int) : Prop where
  wb : well item b = true
  ws : well item s = true
  sb : b.sd = 0
  ss : s.sd = 1
  p : 1 ≤ price ∧ price ≤ 1000
  q : 1 ≤ qty ∧ qty ≤ b.q ∧ qty ≤ s.q
  o : s.pr ≤ price ∧ price ≤ b.pr
theorem right_of {item : Int} {b s : Cv.Lot} {price qty : Int} (h : tchk item b s price qty = 0) : Right item b s price qty := by
  unfold tchk at h
  split at h
  · rename_i h1
    split at h
    · rename_i h2
      split at h
      · rename_i h3
        split at h
        · rename_i h4
          exact ⟨h1.1, h1.2, h2.1, h2.2, h3.1, h3.2, h4⟩
        · exact absurd h (by decide)
      · exact absurd h (by decide)
    · exact absurd h (by decide)
  · exact absurd h (by decide)
theorem Right.muls {item : Int} {b s : Cv.Lot} {price qty : Int} (h : Right item b s price qty) : (1 ≤ price * qty ∧ price * qty ≤ 1000000) ∧ (1 ≤ b.pr * qty ∧ b.pr * qty ≤ 1000000) ∧ price * qty ≤ b.pr * qty ∧ qty ≤ 1000 := by
  have h1 := Cv.ok_bounds (well_ok h.wb)
  have h2 := h.q
  have h3 := mul_bounds h.p.1 h.p.2 h2.1 (show qty ≤ 1000 by omega)
  have h4 := mul_bounds h1.2.2.2.1.1 h1.2.2.2.1.2 h2.1 (show qty ≤ 1000 by omega)
  have h5 := Int.mul_le_mul_of_nonneg_right h.o.2 (show 0 ≤ qty by omega)
  omega

theorem six_dl (f : Nat → Int) (b s item : Nat) (bp price qty : Int) (j : Nat) : six f b s item bp price qty j = f j + dl (b * 8 + 1) (-(bp * qty)) j + dl (s * 8 + 5 + item) (-qty) j + dl (b * 8) (-(price * qty)) j + dl (s * 8 + 2 + item) (-qty) j + dl (b * 8 + 2 + item) qty j + dl (s * 8) (price * qty) j := by
  simp only [six, add_dl]
theorem dl_ne {i j : Nat} {v : Int} (h : j ≠ i) : dl i v j = 0 := by simp [dl, h]
theorem dl_at {i : Nat} {v : Int} : dl i v i = v := by simp [dl]
theorem good_six {f : Nat → Int} (hg : Good f) {b s k : Nat} {bp price qty : Int} (hb : b < 6) (hs : s < 6) (hk : k < 3) (hm : 1 ≤ price * qty ∧ price * qty ≤ bp * qty) (hq : 1 ≤ qty) (hp : poor f b s k bp qty = false) (ho : over f b s k price qty = false) : Good (six f b s k bp price qty) := by
  simp only [poor, over, Bool.or_eq_false_iff, Bool.and_eq_false_iff, decide_eq_false_iff_not, Decidable.not_not] at hp ho
  refine ⟨fun c hc => ?_, fun c k' hc hk' => ?_⟩
  · have h1 := hg.cash c hc
    have h2 := hg.cash b hb
    have h3 := hg.cash s hs
    rw [six_dl, six_dl]
    rw [dl_ne (i := s * 8 + 5 + k) (by omega), dl_ne (i := s * 8 + 5 + k) (by omega), dl_ne (i := s * 8 + 2 + k) (by omega), dl_ne (i := s * 8 + 2 + k) (by omega), dl_ne (i := b * 8 + 2 + k) (by omega), dl_ne (i := b * 8 + 2 + k) (by omega), dl_ne (i := b * 8) (j := c * 8 + 1) (by omega), dl_ne (i := s * 8) (j := c * 8 + 1) (by omega), dl_ne (i := b * 8 + 1) (j := c * 8) (by omega)]
    by_cases e1 : c = b
    · subst e1
      rw [dl_at, dl_at]
      by_cases e2 : c = s
      · subst e2; rw [dl_at]; omega
      · rw [dl_ne (by omega)]; omega
    · rw [dl_ne (i := b * 8 + 1) (by omega), dl_ne (i := b * 8) (by omega)]
      by_cases e2 : c = s
      · subst e2; rw [dl_at]; omega
      · rw [dl_ne (by omega)]; omega
  · have h1 := hg.stock c k' hc hk'
    have h2 := hg.stock b k hb hk
    have h3 := hg.stock s k hs hk
    rw [six_dl, six_dl]
    rw [dl_ne (i := b * 8 + 1) (by omega), dl_ne (i := b * 8 + 1) (by omega), dl_ne (i := b * 8) (by omega), dl_ne (i := b * 8) (by omega), dl_ne (i := s * 8) (by omega), dl_ne (i := s * 8) (by omega), dl_ne (i := s * 8 + 2 + k) (j := c * 8 + 5 + k') (by omega), dl_ne (i := b * 8 + 2 + k) (j := c * 8 + 5 + k') (by omega), dl_ne (i := s * 8 + 5 + k) (j := c * 8 + 2 + k') (by omega)]
    by_cases e0 : k' = k
    · subst e0
      by_cases e1 : c = b
      · subst e1
        rw [dl_at]
        by_cases e2 : c = s
        · subst e2; rw [dl_at, dl_at]; omega
        · rw [dl_ne (by omega), dl_ne (by omega)]; omega
      · rw [dl_ne (i := b * 8 + 2 + k') (by omega)]
        by_cases e2 : c = s
        · subst e2; rw [dl_at, dl_at]; omega
        · rw [dl_ne (by omega), dl_ne (by omega)]; omega
    · rw [dl_ne (by omega), dl_ne (by omega), dl_ne (by omega)]; omega
theorem trade_zero {f : Nat → Int} {item : Int} {b s : Cv.Lot} {price qty : Int} (h : tradeC f item b s price qty = 0) : Right item b s price qty ∧ poor f b.ow.toNat s.ow.toNat item.toNat b.pr qty = false ∧ over f b.ow.toNat s.ow.toNat item.toNat price qty = false := by
  unfold tradeC at h
  split at h
  · rename_i h1
    split at h
    · exact absurd h (by decide)
    · rename_i h2
      split at h
      · exact absurd h (by decide)
      · rename_i h3
        exact ⟨right_of h1, by simpa using h2, by simpa using h3⟩
  · rename_i h1; exact absurd h h1
theorem good_trade {f : Nat → Int} (hg : Good f) (item : Int) (b s : Cv.Lot) (price qty : Int) : Good (tradeF f item b s price qty) := by
  unfold tradeF
  split
  · rename_i h
    obtain ⟨hr, hp, ho⟩ := trade_zero h
    have hm := hr.muls
    obtain ⟨k, hk, hk3⟩ := well_item hr.wb
    obtain ⟨c, hc, hc6⟩ := well_ow hr.wb
    obtain ⟨c', hc', hc6'⟩ := well_ow hr.ws
    exact good_six hg (by omega) (by omega) (by omega) ⟨hm.1.1, hm.2.2.1⟩ hr.q.1 hp ho
  · exact hg
end Pu
end Go.Proofs.YtjdnahmdicamdaaGreatDoor
