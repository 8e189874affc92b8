/- A record's bytes, and how a disk is written: record and write. -/
import Derived.Test.YtnnbbdfocnjhpaaDoorTapeOps
import Derived.Test.YtnnbbdfocnjhpaaDoorFields
import Derived.Laws.MakeOwn
import Derived.Deep.RegionLaw
namespace Go.Proofs.YtnnbbdfocnjhpaaDoor
open Go.RowKit
set_option maxRecDepth 100000

theorem rec_ints (s : List UInt8) : ints (Tp.rec s) = ((ints (Tp.four s.length) ++ ints (Tp.four (4294967295 - s.length))) ++ ints s) ++ ints (Tp.low (Wi.sum s)) := by simp [Tp.rec, ints_append, List.append_assoc]
theorem not32 (n : Nat) (h : n < 4294967296) : 4294967295 ^^^ n = 4294967295 - n := by
  have h1 : (BitVec.allOnes 32 ^^^ BitVec.ofNat 32 n).toNat = 4294967295 - n := by
    rw [BitVec.allOnes_xor, BitVec.toNat_not, BitVec.toNat_ofNat, Nat.mod_eq_of_lt (by omega)]
  rw [BitVec.toNat_xor, BitVec.toNat_ofNat, Nat.mod_eq_of_lt (by omega)] at h1
  exact h1

set_option maxHeartbeats 400000 in
theorem record_any (s : ByteArray) (w : World) (hs : s.size ≤ 10000) :
    Calls Tryd.prog 74 #[.string s] w fun e w' => ∃ v, e = .returned v ∧ Row w' w.heap.size v (ints (Tp.rec s.data.toList)) ∧ Below w.heap.size w w' := by
  obtain ⟨i5, hi, hz0, hz1, hz2⟩ := info5
  have HRS := hide (recordSize_any s w (by omega))
  generalize hn : 12 + s.size = n at HRS
  have hn2 : n ≤ 10012 := by omega
  obtain ⟨M, hM⟩ : ∃ M, M = madeCells (Value.int .u8 0).cells ((n : Int).toNat * i5.size) := ⟨_, rfl⟩
  have hMs : M.size = n := by rw [hM, size_madeCells, hz1]; simp
  have hmk : ∀ W : World, (Instr.makeSlice 50 (.int .i64 0) (.int .i64 (n : Int))).run Tryd.prog W = .ok (.slice (some ⟨W.heap.size, 0, none⟩) 0 n) (W.alloc (.cells M 5)) := fun W => by
    have h := run_make (P := Tryd.prog) W 50 5 i5 (.int .u8 0) Tryd.underlying50 hi hz0 .i64 .i64 (0 : Int) (n : Int) (by omega) (by omega) (by rw [hz2]; omega) (by omega)
    rw [← hM] at h
    simpa using h
  have HR0 : Hid (Row (w.alloc (.cells M 5)) w.heap.size (.slice (some ⟨w.heap.size, 0, none⟩) 0 n) []) := World.ownsRow_made w M n (Nat.le_refl _) (by unfold maxLen; omega) (by omega)
  have Hi := hide hi; have Hz0 := hide hz0; have Hz1 := hide hz1; have Hz2 := hide hz2; have Hn := hide hn
  clear hM hi hz0 hz1 hz2 hn hMs
  go_enter Tryd.func74, Tryd.ntmps74
  go_wp2_with fail
  refine HRS.out.mono ?_
  rintro e w1 ⟨rfl, rfl⟩
  go_wp2_with fail
  refine (putHigh32 _ [] _ w1.heap.size _ HR0.out (by simp) (by simp)).mono ?_
  rintro e w2 ⟨v2, rfl, hr2, hb2⟩
  have HR2 : Hid (Row w2 w1.heap.size v2 (ints (Tp.four s.size))) := by rw [ints_four]; exact hr2
  have HB2 : Hid (Below w1.heap.size w1 w2) := ((Below.refl _ _).alloc (Nat.le_refl _) _).trans hb2
  clear hr2 hb2 HR0 HRS
  go_wp2_with fail
  rw [show bits .xor .u32 IntKind.u32.max (s.size : Int) = ((4294967295 - s.size : Nat) : Int) by rw [show IntKind.u32.max = ((4294967295 : Nat) : Int) from rfl, u32_xor_nat _ _ (by decide) (by omega), not32 _ (by omega)]]
  refine (putHigh32 _ _ _ w1.heap.size _ HR2.out (by rw [ints_length]; simp [Tp.four]) HB2.out.size).mono ?_
  rintro e w3 ⟨v3, rfl, hr3, hb3⟩
  have HR3 : Hid (Row w3 w1.heap.size v3 (ints (Tp.four s.size) ++ ints (Tp.four (4294967295 - s.size)))) := by rw [ints_four (4294967295 - s.size)]; exact hr3
  have HB3 : Hid (Below w1.heap.size w1 w3) := HB2.out.trans hb3
  clear hr3 hb3 HR2 HB2 hmk
  have hL8 : (ints (Tp.four s.size) ++ ints (Tp.four (4294967295 - s.size))).length = 8 := by rw [List.length_append, ints_length, ints_length]; rfl
  have HL8 := hide hL8
  clear hL8
  go_wp2_with (at_builtin; refine Lib.wpList_append_own_string _ rfl _ _ 50 9 rfl w1.heap.size 5 i5 Tryd.underlying50 Tryd.underlying9 Hi.out Hz0.out Hz1.out Hz2.out _ _ _ rfl HR3.out s rfl ?c3 ?c4 ?c5 ?_)
  case c3 => rw [HL8.out]; unfold maxLen; omega
  case c4 => rw [HL8.out]; omega
  case c5 => exact HB3.out.size
  intro v4 w4 hown' hgrow _
  have HR4 : Hid (Row w4 w1.heap.size v4 ((ints (Tp.four s.size) ++ ints (Tp.four (4294967295 - s.size))) ++ ints s.data.toList)) := by
    rw [strCells_ints, ← List.map_append] at hown'
    unfold Row
    rw [List.length_append, ints_length s.data.toList, size_list]
    exact hown'
  have HB4 : Hid (Below w1.heap.size w1 w4) := HB3.out.grown hgrow HB3.out.size (fun k hk => (World.ownsRow.lt HR3.out k hk).1)
  clear hown' hgrow HR3 HB3
  go_wp2_with fail
  refine (sum_any s _ (by unfold maxLen; omega)).mono ?_
  rintro e w5 ⟨rfl, rfl⟩
  go_wp2_with fail
  refine (putLow v4 _ _ w1.heap.size _ HR4.out (by rw [List.length_append, HL8.out, ints_length, size_list]; omega) HB4.out.size).mono ?_
  rintro e w6 ⟨v6, rfl, hr6, hb6⟩
  have HR6 : Hid (Row w6 w1.heap.size v6 (ints (Tp.rec s.data.toList))) := by rw [rec_ints, ints_low, size_list]; exact hr6
  have HB6 : Hid (Below w1.heap.size w1 w6) := HB4.out.trans hb6
  clear hr6 hb6
  go_wp2
  go_ret
  exact ⟨v6, rfl, HR6.out, HB6.out⟩

theorem Disk.grown {w w' : World} {base p : Nat} {l ys : List UInt8} {v v' : Value} {cut : Bool} {left : Int} (hb : base ≤ p) (hp : w.heap[p]? = some (.cells #[v, .bool cut, .int .i64 left] 104 (0, 0))) (hr : RowM w base v (ints l))
    (hr' : RowM w' base v' (ints l ++ ints ys)) (hg : w.grownBy w' v.ownBlock) : Disk (w'.setCell ⟨p, 0, none⟩ v') base p (l ++ ys) cut left ∧ Keeps w (w'.setCell ⟨p, 0, none⟩ v') ∧ (base ≤ w.heap.size → Below base w (w'.setCell ⟨p, 0, none⟩ v')) := by
  have hp' : w'.heap[p]? = some (.cells #[v, .bool cut, .int .i64 left] 104 (0, 0)) := by
    rw [hg.block p (Array.getElem?_eq_some_iff.1 hp).1 (hr.other hp)]; exact hp
  refine ⟨⟨hb, v', ?_, ?_⟩, (Keeps.grown hr hg).setCell hp' _, fun hbs => ?_⟩
  · rw [heap_setCell_same w' p 0 _ 104 v' hp']; rfl
  · rw [ints_append]; exact hr'.setCell hp' _
  · exact ((Below.refl base w).grown hg hbs (fun k hk => (hr.lt k hk).1)).setCell hb _

/-- at a step of a region that draws its order -/
theorem step_append_mark {w : World} {ops : Array Oper} {o : Oper} {a : Act} {K : Act → World → Prop} {Q : Exit → Act → World → Prop} {E : Prop} (hgd : o.guard = none) (s x : Operand)
    (ho : o.op = .call { callee := .builtin .append, args := #[s, x], argTypes := #[50, 50] })
    (base : Nat) (v : Value) (xs : List Int) (hs : a.eval s = v) (hown : RowM w base v xs)
    (ad : Addr) (m c : Nat) (ys : List Int) (hx : a.eval x = .slice (some ad) m c) (hl : ys.length = m) (hnews : ∀ j u, (ys.map (Value.int .u8))[j]? = some u → w.cell? (ad.add j) = some u)
    (hsz : xs.length + m ≤ 10000000) (hbase : base ≤ w.heap.size)
    (h : ∀ g' cap' w', RowM w' base (.slice (some ⟨g', 0, none⟩) (xs.length + m) cap') (xs ++ ys) → w.grownBy w' v.ownBlock → K (a.put o.dst (.slice (some ⟨g', 0, none⟩) (xs.length + m) cap')) w') :
    if Region.wanted o (yielded ops a.tmps) = true then Oper.wp Tryd.prog o a w K Q else E := by
  have hw : Region.wanted o (yielded ops a.tmps) = true := by simp [Region.wanted, hgd]
  rw [if_pos hw]
  obtain ⟨v', w', hr, h2, h3⟩ := run_append_mark w base o.type v xs hown ad m c ys hl hnews hsz hbase
  unfold Oper.wp execOp
  simp only [ho, resolve, invoke, builtin, Sem.run_bind, Sem.run_pure, Result.andThen_ok, List.map_toArray, List.map_cons, List.map_nil, hs, hx, hr]
  obtain ⟨g', cap', hv, _⟩ := h2.form
  rw [List.length_append, hl] at hv
  subst hv
  exact h g' cap' w' h2 h3

theorem row_cells {w : World} {base g len cap : Nat} {xs : List Int} (h : Row w base (.slice (some ⟨g, 0, none⟩) len cap) xs) : ∀ j u, (xs.map (Value.int .u8))[j]? = some u → w.cell? ((⟨g, 0, none⟩ : Addr).add j) = some u :=
  fun j u hj => World.ownsRow.cells h (g := g) rfl j u hj
theorem grown_frozen {w w' : World} {row : Option Nat} {p j : Nat} (hg : w.grownBy w' row) (hp : p < w.heap.size) (hne : some p ≠ row) (h : w.frozen? ⟨p, j, none⟩ = false) : w'.frozen? ⟨p, j, none⟩ = false :=
  (World.frozen?_of_block (hg.block p hp hne)).trans h

set_option maxHeartbeats 400000 in
theorem write_free (base p g cap : Nat) (l ys : List UInt8) (w : World) (left : Int) (hd : Disk w base p l false left) (hrow : Row w base (.slice (some ⟨g, 0, none⟩) ys.length cap) (ints ys)) (hsz : l.length + ys.length ≤ 10000000) (hbs : base ≤ w.heap.size) :
    Calls Tryd.prog 73 #[.pointer (some ⟨p, 0, none⟩), .slice (some ⟨g, 0, none⟩) ys.length cap] w fun e w' => e = .returned (.bool true) ∧ Disk w' base p (l ++ ys) false left ∧ Keeps w w' ∧ Below base w w' := by
  obtain ⟨hb, v, hp, hr⟩ := hd
  obtain ⟨c0, c1, c2, fz, hpl⟩ := disk_cells hp
  have Hp := hide hp; have HR := hide hr; have HY := hide hrow
  have hcap : ys.length ≤ cap := by
    rcases hrow.2 with ⟨h, _⟩ | ⟨g', cap', cur, h, _, _, hc, _⟩
    · cases h
    · simp only [Value.slice.injEq, Option.some.injEq, Addr.mk.injEq, and_true] at h
      rw [ints_length] at hc
      omega
  clear hp hr hrow
  go_enter Tryd.func73, Tryd.ntmps73
  go_wp2
  have hne := HR.out.other Hp.out
  go_region_law ((refine step_append_mark rfl _ _ rfl base v (ints l) rfl HR.out ⟨g, 0, none⟩ ys.length cap (ints ys) rfl (ints_length ys) (row_cells HY.out) (by rw [ints_length]; exact hsz) hbs ?_; intro g1 cap1 w1 hrow1 hgrow; obtain ⟨k1, k2⟩ : w1.cell? ⟨p, 0, none⟩ = some v ∧ w1.frozen? ⟨p, 0, none⟩ = false := ⟨hgrow.cell c0 hne, grown_frozen hgrow hpl hne (fz 0)⟩))
  have HG := hide hgrow; have HR1 := hide hrow1
  clear hgrow hrow1 k1 k2
  go_wp2
  go_ret
  obtain ⟨D1, D2, D3⟩ := Disk.grown (w := w.drew) hb Hp.out HR.out HR1.out HG.out
  exact ⟨rfl, D1, ⟨D2.size, D2.block⟩, ⟨(D3 hbs).os, (D3 hbs).tape, (D3 hbs).output, (D3 hbs).size, (D3 hbs).block⟩⟩

theorem take_cells {ys : List UInt8} {n j : Nat} {u : Value} (h : ((ints (ys.take n)).map (Value.int .u8))[j]? = some u) : ((ints ys).map (Value.int .u8))[j]? = some u := by
  rw [ints_take, List.map_take, List.getElem?_take] at h
  split at h
  · exact h
  · cases h
theorem row_setCell {w : World} {base p j : Nat} {v : Value} {xs : List Int} {cs : Array Value} {f : Nat × Nat} (h : Row w base v xs) (hp : w.heap[p]? = some (.cells cs 104 f)) (u : Value) : Row (w.setCell ⟨p, j, none⟩ u) base v xs := by
  refine ⟨h.1, ?_⟩
  rcases h.2 with hn | ⟨g, cap, cur, rfl, hb', hg, rest⟩
  · exact .inl hn
  · refine .inr ⟨g, cap, cur, rfl, hb', ?_, rest⟩
    rw [heap_setCell_other _ _ g _ ?_]
    · exact hg
    · intro hk
      have hk : g = p := hk
      rw [hk, hp] at hg
      simp at hg

set_option maxHeartbeats 400000 in
theorem write_cut (base p g cap : Nat) (l ys : List UInt8) (w : World) (left : Nat) (hd : Disk w base p l true left) (hrow : Row w base (.slice (some ⟨g, 0, none⟩) ys.length cap) (ints ys)) (hsz : l.length + ys.length ≤ 10000000) (hbs : base ≤ w.heap.size) (hleft : left ≤ 9223372036854775807) :
    Calls Tryd.prog 73 #[.pointer (some ⟨p, 0, none⟩), .slice (some ⟨g, 0, none⟩) ys.length cap] w fun e w' => e = .returned (.bool (decide (ys.length ≤ left))) ∧ Disk w' base p (l ++ ys.take left) true (left - ys.length : Nat) ∧ Keeps w w' ∧ Below base w w' := by
  obtain ⟨hb, v, hp, hr⟩ := hd
  obtain ⟨c0, c1, c2, fz, hpl⟩ := disk_cells hp
  have Hp := hide hp; have HR := hide hr; have HY := hide hrow
  have hcap : ys.length ≤ cap := by
    rcases hrow.2 with ⟨h, _⟩ | ⟨g', cap', cur, h, _, _, hc, _⟩
    · cases h
    · simp only [Value.slice.injEq, Option.some.injEq, Addr.mk.injEq, and_true] at h
      rw [ints_length] at hc
      omega
  have hne := HR.out.other Hp.out
  clear hp hr hrow
  by_cases hle : ys.length ≤ left
  · go_enter Tryd.func73, Tryd.ntmps73
    go_wp2
    have HP0 : Hid ((w.setCell ⟨p, 2, none⟩ (.int .i64 ((left : Int) - ys.length))).heap[p]? = some (.cells #[v, .bool true, .int .i64 ((left : Int) - ys.length)] 104 (0, 0))) := heap_setCell_same w p 2 _ 104 _ Hp.out
    have HR0 : Hid (RowM (w.setCell ⟨p, 2, none⟩ (.int .i64 ((left : Int) - ys.length))) base v (ints l)) := HR.out.setCell Hp.out _
    have HY0 : Hid (Row (w.setCell ⟨p, 2, none⟩ (.int .i64 ((left : Int) - ys.length))) base (.slice (some ⟨g, 0, none⟩) ys.length cap) (ints ys)) := row_setCell HY.out Hp.out _
    have HB0 : Hid (Below base w (w.setCell ⟨p, 2, none⟩ (.int .i64 ((left : Int) - ys.length)))) := (Below.refl base w).setCell hb _
    have HK0 : Hid (Keeps w (w.setCell ⟨p, 2, none⟩ (.int .i64 ((left : Int) - ys.length)))) := (Keeps.refl w).setCell Hp.out _
    generalize w.setCell ⟨p, 2, none⟩ (.int .i64 ((left : Int) - ys.length)) = w0 at *
    obtain ⟨c0, c1, c2, fz, hpl⟩ := disk_cells HP0.out
    have hbs0 : base ≤ w0.heap.size := Nat.le_trans hbs HB0.out.size
    go_region_law ((refine step_append_mark rfl _ _ rfl base v (ints l) rfl HR0.out ⟨g, 0, none⟩ ys.length cap (ints ys) rfl (ints_length ys) (row_cells HY0.out) (by rw [ints_length]; omega) hbs0 ?_; intro g1 cap1 w1 hrow1 hgrow; obtain ⟨k1, k2⟩ : w1.cell? ⟨p, 0, none⟩ = some v ∧ w1.frozen? ⟨p, 0, none⟩ = false := ⟨hgrow.cell c0 hne, grown_frozen hgrow hpl hne (fz 0)⟩))
    have HG := hide hgrow; have HR1 := hide hrow1
    clear hgrow hrow1 k1 k2
    go_wp2
    go_ret
    obtain ⟨D1, D2, D3⟩ := Disk.grown (w := w0.drew) hb HP0.out HR0.out HR1.out HG.out
    have D3' : Below base w0 _ := ⟨(D3 hbs0).os, (D3 hbs0).tape, (D3 hbs0).output, (D3 hbs0).size, (D3 hbs0).block⟩
    have D2' : Keeps w0 _ := ⟨D2.size, D2.block⟩
    have e : ((left : Int) - ys.length) = ((left - ys.length : Nat) : Int) := by omega
    rw [e] at D1
    refine ⟨by simp [hle], ?_, HK0.out.trans D2', HB0.out.trans D3'⟩
    rw [List.take_of_length_le hle]
    exact D1
  · go_enter Tryd.func73, Tryd.ntmps73
    go_wp2
    have HP0 : Hid ((w.setCell ⟨p, 2, none⟩ (.int .i64 0)).heap[p]? = some (.cells #[v, .bool true, .int .i64 0] 104 (0, 0))) := heap_setCell_same w p 2 _ 104 _ Hp.out
    have HR0 : Hid (RowM (w.setCell ⟨p, 2, none⟩ (.int .i64 0)) base v (ints l)) := HR.out.setCell Hp.out _
    have HY0 : Hid (Row (w.setCell ⟨p, 2, none⟩ (.int .i64 0)) base (.slice (some ⟨g, 0, none⟩) ys.length cap) (ints ys)) := row_setCell HY.out Hp.out _
    have HB0 : Hid (Below base w (w.setCell ⟨p, 2, none⟩ (.int .i64 0))) := (Below.refl base w).setCell hb _
    have HK0 : Hid (Keeps w (w.setCell ⟨p, 2, none⟩ (.int .i64 0))) := (Keeps.refl w).setCell Hp.out _
    generalize w.setCell ⟨p, 2, none⟩ (.int .i64 0) = w0 at *
    obtain ⟨c0, c1, c2, fz, hpl⟩ := disk_cells HP0.out
    have hlc : left ≤ cap := by omega
    have hbs0 : base ≤ w0.heap.size := Nat.le_trans hbs HB0.out.size
    go_region_law ((refine step_append_mark rfl _ _ rfl base v (ints l) rfl HR0.out ⟨g, 0, none⟩ left cap (ints (ys.take left)) rfl (by rw [ints_length, List.length_take]; omega) (fun j u hj => row_cells HY0.out j u (take_cells hj)) (by rw [ints_length]; omega) hbs0 ?_; intro g1 cap1 w1 hrow1 hgrow; obtain ⟨k1, k2⟩ : w1.cell? ⟨p, 0, none⟩ = some v ∧ w1.frozen? ⟨p, 0, none⟩ = false := ⟨hgrow.cell c0 hne, grown_frozen hgrow hpl hne (fz 0)⟩))
    have HG := hide hgrow; have HR1 := hide hrow1
    clear hgrow hrow1 k1 k2
    go_wp2
    go_ret
    obtain ⟨D1, D2, D3⟩ := Disk.grown (w := w0.drew) hb HP0.out HR0.out HR1.out HG.out
    have D3' : Below base w0 _ := ⟨(D3 hbs0).os, (D3 hbs0).tape, (D3 hbs0).output, (D3 hbs0).size, (D3 hbs0).block⟩
    have D2' : Keeps w0 _ := ⟨D2.size, D2.block⟩
    have e : (0 : Int) = ((left - ys.length : Nat) : Int) := by omega
    rw [e] at D1
    exact ⟨ret_bool (by rw [decide_eq_false hle, beq_eq_false_iff_ne]; omega), D1, HK0.out.trans D2', HB0.out.trans D3'⟩
end Go.Proofs.YtnnbbdfocnjhpaaDoor
