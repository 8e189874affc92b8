/- The document's intake in memory: one list of all requests and a turn; its Wait, Put and Clear by their contracts; coded. -/
import Derived.Test.YtfifmigmdiegdaaDoorIaFacts
import Derived.Test.YtfifmigmdiegdaaDoorIkArg
import Derived.Test.YtfifmigmdiegdaaDoorCode
namespace Go.Proofs.YtfifmigmdiegdaaDoor
open Go.RowKit
set_option maxRecDepth 100000
def adT (ad : Nat → Addr) : Nat → Value := fun j => .pointer (some (ad j))
theorem ier_sent {w : World} {ad : Nat → Addr} (h : Sent w ad) : IEr w (adT ad) := ⟨h.cell 3 (by decide), h.cell 1 (by decide), h.cell 7 (by decide)⟩
theorem coded_any (ad : Nat → Addr) (c : Nat) (w : World) (hs : Hid (Sent w ad)) (hc : c ≤ 12) :
    Calls Tryd.prog 12 #[errC (adT ad) c, .int .i64 c] w fun e w' => e = .returned (.bool true) ∧ Below w.heap.size w w' := by
  have HC : Hid (Calls Tryd.prog 22 #[errC (adT ad) c] w fun e w' => e = .returned (.tuple #[.int .i64 c, .int .i64 (-1)]) ∧ Below w.heap.size w w') := by
    show Calls _ _ _ _ _
    match c, hc with
    | 0, _ =>
      refine (code_nil w).mono ?_
      rintro e w' ⟨rfl, rfl⟩
      exact ⟨rfl, Below.refl _ _⟩
    | d + 1, hd =>
      refine (code_sent d (by omega) ad w hs.out).mono ?_
      rintro e w' ⟨rfl, hb⟩
      exact ⟨rfl, hb⟩
  generalize errC (adT ad) c = ev at *
  generalize (c : Int) = en at *
  go_enter Tryd.func12, Tryd.ntmps12
  go_wp2_with fail
  refine HC.out.mono ?_
  rintro e w2 ⟨rfl, hb2⟩
  have HB := hide hb2
  clear hb2 HC
  simp only []
  go_wp2
  go_ret
  exact ⟨rfl, HB.out⟩
structure Doc (w : World) (base q : Nat) (v : Value) (t : Nat) (M : List Ask) : Prop where
  cell : w.heap[q]? = some (.cells #[v, .int .i64 (t : Int)] 42 (0, 0))
  lo : base ≤ q
  turn : t < 6
  row : w.ownsRow base 30 8 v M.length (aflat M)
  few : M.length ≤ 36
def kv (v : Value) : Nat → Value := fun _ => v
section
variable {w w' w2 : World} {base q t : Nat} {v v' : Value} {M M' : List Ask}
theorem qown_kv {k : Nat} : qown q (kv v) k ↔ k = q ∨ v.ownBlock = some k := by
  constructor
  · rintro (h | ⟨c, _, h⟩)
    · exact .inl h
    · exact .inr h
  · rintro (h | h)
    · exact .inl h
    · exact .inr ⟨0, by decide, h⟩
theorem Doc.lt (h : Doc w base q v t M) : q < w.heap.size := lt_of_block h.cell
theorem Doc.own_lt (h : Doc w base q v t M) {k : Nat} (hk : qown q (kv v) k) : base ≤ k ∧ k < w.heap.size := by
  rcases qown_kv.1 hk with rfl | hk
  · exact ⟨h.lo, h.lt⟩
  · exact h.row.lt k hk
theorem Doc.ne (h : Doc w base q v t M) : v.ownBlock ≠ some q := row_ne_type h.row h.cell (by decide)
theorem Doc.turned {S : Nat → Prop} (h : Doc w base q v t M) (ho : Turned w w' S) (hs : ∀ k, qown q (kv v) k → ¬ S k) : Doc w' base q v t M :=
  ⟨by rw [ho.block q h.lt (hs q (.inl rfl))]; exact h.cell, h.lo, h.turn, row_turned h.row ho (fun k hk => hs k (qown_kv.2 (.inr hk))), h.few⟩
theorem Doc.later (h : Doc w base q v t M) (hb : Below w.heap.size w w') : Doc w' base q v t M := h.turned (Turned.of_below hb (fun _ => False)) (fun _ _ h => h)
theorem Doc.at (h : Doc w base q v t M) : w.cell? ⟨q, 0, none⟩ = some v ∧ w.cell? ⟨q, 1, none⟩ = some (.int .i64 (t : Int)) := ⟨by rw [cell_of_row _ _ _ _ _ _ h.cell]; rfl, by rw [cell_of_row _ _ _ _ _ _ h.cell]; rfl⟩
theorem Doc.free (h : Doc w base q v t M) (c : Nat) : w.frozen? ⟨q, c, none⟩ = false := by simp [World.frozen?, h.cell]
theorem Doc.set (h : Doc w base q v t M) (hg : w.grownBy w2 v.ownBlock) (hr : w2.ownsRow base 30 8 v' M'.length (aflat M')) (hf : M'.length ≤ 36) (hn : ∀ k, v'.ownBlock = some k → v.ownBlock = some k ∨ w.heap.size ≤ k) :
    Doc (w2.setCell ⟨q, 0, none⟩ v') base q v' t M' ∧ QStep w (w2.setCell ⟨q, 0, none⟩ v') q (kv v) (kv v') := by
  have hcell : w2.heap[q]? = some (.cells #[v, .int .i64 (t : Int)] 42 (0, 0)) := by rw [hg.block q h.lt (fun e => h.ne e.symm)]; exact h.cell
  have hp' : v'.ownBlock ≠ some q := row_ne_type hr hcell (by decide)
  have hsc := Turned.setCell w2 q 0 v'
  refine ⟨⟨?_, h.lo, h.turn, row_turned hr hsc (fun k hk e => hp' (by rw [hk, e])), hf⟩, ⟨?_, ?_⟩⟩
  · rw [block_setCell hcell]; rfl
  · exact ((Turned.of_grown hg).mono (fun k hk => qown_kv.2 (.inr hk.symm))).trans hsc (fun k hk => .inl (.inl hk))
  · intro k hk
    rcases qown_kv.1 hk with rfl | hk
    · exact .inl (.inl rfl)
    · rcases hn k hk with h4 | h4
      · exact .inl (qown_kv.2 (.inr h4))
      · exact .inr h4
theorem Doc.next (h : Doc w base q v t M) {t' : Nat} (ht : t' < 6) : Doc (w.setCell ⟨q, 1, none⟩ (.int .i64 (t' : Int))) base q v t' M ∧ QStep w (w.setCell ⟨q, 1, none⟩ (.int .i64 (t' : Int))) q (kv v) (kv v) := by
  have hsc := Turned.setCell w q 1 (.int .i64 (t' : Int))
  refine ⟨⟨?_, h.lo, ht, row_turned h.row hsc (fun k hk e => h.ne (by rw [hk, e])), h.few⟩, ⟨hsc.mono (fun k hk => .inl hk), fun _ h => .inl h⟩⟩
  rw [block_setCell h.cell]; rfl
/-- the list's slice, and its cells -/
theorem Doc.form (h : Doc w base q v t M) : ∃ a m c, v = .slice a m c ∧ M.length = m ∧ ∀ j, j < m → ∃ g, a = some ⟨g, 0, none⟩ ∧ ∀ i, i < 8 → w.cell? ⟨g, j * 8 + i, none⟩ = (askC (anth M j))[i]? := by
  rcases h.row.2 with ⟨rfl, h0⟩ | ⟨g, cap, cur, rfl, _, _, hle, _⟩
  · exact ⟨none, 0, 0, rfl, h0, fun j hj => absurd hj (Nat.not_lt_zero j)⟩
  · exact ⟨_, _, _, rfl, rfl, fun j hj => ⟨g, rfl, fun i hi => row_cells h.row hj i hi⟩⟩
theorem Doc.cells {a : Option Addr} {m c : Nat} (h : Doc w base q (.slice a m c) t M) {j : Nat} (hj : j < M.length) : ∃ g, a = some ⟨g, 0, none⟩ ∧ ∀ i, i < 8 → w.cell? ⟨g, j * 8 + i, none⟩ = (askC (anth M j))[i]? := by
  obtain ⟨a', m', c', e, hm, hc⟩ := h.form
  simp at e
  obtain ⟨g, hg, h2⟩ := hc j (by omega)
  exact ⟨g, by rw [e.1]; exact hg, h2⟩
theorem Doc.form3 (h : Doc w base q v t M) : ∃ a m c, v = .slice a m c ∧ M.length = m := by
  obtain ⟨a, m, c, h1, h2, _⟩ := h.form
  exact ⟨a, m, c, h1, h2⟩
end
theorem World.heap_size_alloc' (w : World) (o : Obj) : (w.alloc o).heap.size = w.heap.size + 1 := by simp
/-- append of one request that has just been built -/
theorem append_one (W0 : World) (base : Nat) (d : Value) (xs : List Ask) (hd : W0.ownsRow base 30 8 d xs.length (aflat xs)) (x : Ask) (hx : xs.length ≤ 1000) (hb : base ≤ W0.heap.size) :
    ∃ v' w', (Builtin.append_ #[33, 33] 33 #[d, .slice (some ⟨W0.heap.size, 0, none⟩) 1 1]).run Tryd.prog (W0.alloc (.cells (askA x) 30)) = .ok v' w' ∧ w'.ownsRow base 30 8 v' (xs ++ [x]).length (aflat (xs ++ [x])) ∧ (W0.alloc (.cells (askA x) 30)).grownBy w' d.ownBlock ∧ ∀ k, v'.ownBlock = some k → d.ownBlock = some k ∨ W0.heap.size < k := by
  obtain ⟨i0, z0, hi0, hz0, hz1, hz2, hz3⟩ := info30
  have hbA : Below W0.heap.size W0 (W0.alloc (.cells (askA x) 30)) := (Below.refl _ _).alloc (Nat.le_refl _) _
  have hdA : (W0.alloc (.cells (askA x) 30)).ownsRow base 30 8 d xs.length (aflat xs) := row_turned hd (Turned.of_below hbA (fun _ => False)) (fun _ _ h => h)
  obtain ⟨v4, w4, hap, hrow, hg, _, hloc⟩ := run_append_own_at (P := Tryd.prog) (W0.alloc (.cells (askA x) 30)) base 33 33 30 i0 z0 8 64 Tryd.underlying33 hi0 hz0 hz1 hz2 hz3 (by decide) _ _ _ hdA ⟨W0.heap.size, 0, none⟩ 1 1 (askC x) rfl
    (fun j u hj => cell_new8 W0 x 30 _ rfl j u hj)
    (fun u hu => aflat_one [x] u (by simpa [aflat] using hu)) (by unfold maxLen; omega) (by omega) (by simp; omega)
  refine ⟨v4, w4, hap, by rw [List.length_append, aflat_append]; simpa [aflat] using hrow, hg, fun k hk => ?_⟩
  rcases hloc with h | h
  · rw [h] at hk; exact .inl hk
  · rw [h] at hk; have := Option.some.inj hk; simp at this; exact .inr (by omega)
section
variable {base q t : Nat} {v : Value} {M : List Ask}
set_option maxHeartbeats 1000000 in
theorem mwait_any (n : Int) (w : World) (hd : Hid (Doc w base q v t M)) : Calls Tryd.prog 18 #[.pointer (some ⟨q, 0, none⟩), .int .i64 n] w fun e w' => e = .returned (.int .i64 ((Ik.fi n M).length : Nat)) ∧ w' = w := by
  obtain ⟨a, m, c, rfl, hm, hcs⟩ := hd.out.form
  have HM := hide hm; have HCS := hide hcs
  have hat := hd.out.at.1
  have hm36 : m ≤ 36 := by rw [← hm]; exact hd.out.few
  clear hm hcs
  go_enter Tryd.func18, Tryd.ntmps18
  go_wp2_with fail
  go_loopw [5, 6] (fun kk c wr => ∃ (j k : Nat), j ≤ m ∧ k ≤ j ∧ c = .int .i64 j ∧ kk = .int .i64 k ∧ k = (Ik.fi n (M.take j)).length ∧ wr = w) (fun _ c _ => m - (intOf c).toNat)
  case atStart => exact ⟨0, 0, Nat.zero_le _, Nat.le_refl _, rfl, rfl, rfl, rfl⟩
  case round =>
    obtain ⟨j, k, hj, hkj, rfl, rfl, hk, hw⟩ := hrel
    subst wr
    have HK := hide hk
    clear hk
    by_cases hlt : j < m
    · have hji : (j : Int) < m := by omega
      obtain ⟨g, rfl, hg⟩ := HCS.out j hlt
      have hjx : j < M.length := by rw [HM.out]; exact hlt
      have y1 := hg 1 (by decide)
      rw [show (askC (anth M j))[1]? = some (.int .i64 (anth M j).c) from rfl] at y1
      clear hg
      by_cases hc : (anth M j).c = n
      · have HK2 : Hid (k + 1 = (Ik.fi n (M.take (j + 1))).length) := by show _ = _; rw [Ik.fi_in hjx hc, List.length_append, ← HK.out]; rfl
        rw [hc] at y1
        clear hc
        go_wp2
        exact ⟨⟨j + 1, k + 1, by omega, by omega, by go_num, by go_num, HK2.out, by first | rfl | trivial⟩, by simp [intOf]; omega⟩
      · have HK2 : Hid (k = (Ik.fi n (M.take (j + 1))).length) := by show _ = _; rw [Ik.fi_off hjx hc]; exact HK.out
        have hcb : ((anth M j).c == n) = false := by simpa using hc
        generalize (anth M j).c = xc at *
        go_wp2
        exact ⟨⟨j + 1, k, by omega, by omega, by go_num, rfl, HK2.out, by first | rfl | trivial⟩, by simp [intOf]; omega⟩
    · have hji : ¬ (j : Int) < m := by omega
      have HE : Hid (k = (Ik.fi n M).length) := by show _ = _; rw [HK.out, List.take_of_length_le (by rw [HM.out]; omega)]
      go_wp2
      go_ret
      exact ⟨by rw [← HE.out]; rfl, rfl⟩
set_option maxHeartbeats 1000000 in
theorem mclear_any (n : Int) (w : World) (hd : Hid (Doc w base q v t M)) : Calls Tryd.prog 14 #[.pointer (some ⟨q, 0, none⟩), .int .i64 n] w fun e w' => e = .returned (.int .i64 ((Ik.fi n M).length : Nat)) ∧ ∃ v', Doc w' base q v' t (Ik.off n M) ∧ QStep w w' q (kv v) (kv v') := by
  obtain ⟨a, m, c, rfl, hm⟩ := hd.out.form3
  have HM := hide hm
  have hm36 : m ≤ 36 := by rw [← hm]; exact hd.out.few
  clear hm
  go_enter Tryd.func14, Tryd.ntmps14
  go_wp2_with fail
  go_loopw [5, 6] (fun d c wr => ∃ (j : Nat), j ≤ m ∧ c = .int .i64 j ∧ wr.ownsRow w.heap.size 30 8 d (Ik.off n (M.take j)).length (aflat (Ik.off n (M.take j))) ∧ Below w.heap.size w wr) (fun _ c _ => m - (intOf c).toNat)
  case atStart => exact ⟨0, Nat.zero_le _, rfl, World.ownsRow_nil _ _ _ _, Below.refl _ _⟩
  case round =>
    obtain ⟨j, hj, rfl, hr, hb⟩ := hrel
    have HR := hide hr; have HB := hide hb
    clear hr hb
    have HDr := hide (hd.out.later HB.out)
    have hat := HDr.out.at.1
    by_cases hlt : j < m
    · have hji : (j : Int) < m := by omega
      have hjx : j < M.length := by rw [HM.out]; exact hlt
      obtain ⟨g, rfl, hg⟩ := HDr.out.cells hjx
      have y0 := hg 0 (by decide); have y1 := hg 1 (by decide); have y2 := hg 2 (by decide); have y3 := hg 3 (by decide)
      have y4 := hg 4 (by decide); have y5 := hg 5 (by decide); have y6 := hg 6 (by decide); have y7 := hg 7 (by decide)
      simp only [askC, Nat.add_zero, List.getElem?_cons_zero, List.getElem?_cons_succ] at y0 y1 y2 y3 y4 y5 y6 y7
      clear hg
      by_cases hc : (anth M j).c = n
      · have HR2 : Hid (wr.ownsRow w.heap.size 30 8 u5 (Ik.off n (M.take (j + 1))).length (aflat (Ik.off n (M.take (j + 1))))) := by
          rw [Ik.off_in hjx hc]; exact HR.out
        rw [hc] at y1
        have hcb : (n != n) = false := by simp
        clear hc
        go_wp2
        exact ⟨⟨j + 1, by omega, by go_num, HR2.out, HB.out⟩, by simp [intOf]; omega⟩
      · have hcb : ((anth M j).c != n) = true := by simpa using hc
        obtain ⟨v4, w4, hap, hrow, hg4, hloc⟩ := append_one wr w.heap.size u5 (Ik.off n (M.take j)) HR.out (anth M j) (by
          have h1 := Ik.len_off n (M.take j)
          rw [List.length_take] at h1
          omega) HB.out.size
        rw [← Ik.off_off hjx hc] at hrow
        have HB4 : Hid (Below w.heap.size w w4) := (HB.out.alloc HB.out.size _).grown hg4 (by have := HB.out.size; simp; omega) (fun k hk => (HR.out.lt k hk).1)
        obtain ⟨a4, n4, c4, hf4⟩ : ∃ a n c, v4 = .slice a n c := by
          obtain ⟨a, c, h⟩ := row_form hrow
          exact ⟨_, _, _, h⟩
        rw [hf4] at hap hrow
        have HAP := hide hap; have HR4 := hide hrow
        clear hap hrow hg4 hloc hc hf4
        generalize anth M j = ax at *
        obtain ⟨bk, bc, bsq, bit, bsd, bpr, bq, bid⟩ := ax
        simp only [askA] at HAP y0 y1 y2 y3 y4 y5 y6 y7 hcb
        go_wp2_with (at_builtin; refine wpList_append_run rfl _ _ 33 rfl _ _ _ rfl rfl HAP.out ?_)
        exact ⟨⟨j + 1, by omega, by go_num, HR4.out, HB4.out⟩, by simp [intOf]; omega⟩
    · have hji : ¬ (j : Int) < m := by omega
      have he : M.take j = M := List.take_of_length_le (by rw [HM.out]; omega)
      rw [he] at HR
      have hl := Ik.len_off n M
      rw [HM.out] at hl
      have hlo : base ≤ w.heap.size := by have := hd.out.lo; have := hd.out.lt; omega
      have HSET := hide (hd.out.set (w2 := wr) ⟨HB.out.os, HB.out.tape, HB.out.output, HB.out.size, fun k hk _ => HB.out.block k hk⟩ (row_base HR.out hlo) (by omega) (fun k hk => .inr (HR.out.lt k hk).1))
      have hfr := HDr.out.free 0
      obtain ⟨a5, c5, hf5⟩ := row_form HR.out
      rw [hf5] at HSET
      generalize (Ik.off n M).length = oo at *
      obtain ⟨ff, hff⟩ : ∃ ff, (Ik.fi n M).length = ff := ⟨_, rfl⟩
      have HFF := hide hff
      rw [hff] at hl
      clear hff
      have hsub : IntKind.i64.wrap ((m : Int) - oo) = (ff : Int) := by rw [show (m : Int) - oo = ff by omega]; exact IntWalk.i64_in _ (by omega)
      go_wp2
      go_ret
      exact ⟨by rw [HFF.out]; exact ret_int (by omega), _, HSET.out.1, HSET.out.2⟩
set_option maxHeartbeats 1000000 in
theorem mput_any (a : Ask) (w : World) (hd : Hid (Doc w base q v t M)) (h36 : Hid (Ik.mputC M a = 0 → M.length + 1 ≤ 36)) :
    Calls Tryd.prog 13 #[.pointer (some ⟨q, 0, none⟩), askV a] w fun e w' => e = .returned (.int .i64 (Ik.mputC M a : Nat)) ∧ ∃ v', Doc w' base q v' t (Ik.mputL M a) ∧ QStep w w' q (kv v) (kv v') := by
  obtain ⟨ak, ac, asq, ait, asd, apr, aq, aid⟩ := a
  have HB : Hid (Below w.heap.size w (w.alloc (.cells #[.int .u8 ak, .int .i64 ac, .int .i64 asq, .int .i64 ait, .int .i64 asd, .int .i64 apr, .int .i64 aq, .int .i64 aid] 30))) := (Below.refl _ _).alloc (Nat.le_refl _) _
  have HD1 := hide (hd.out.later HB.out)
  have HSK := hide (QStep.of_below (V := kv v) HB.out q)
  show Calls Tryd.prog 13 #[.pointer (some ⟨q, 0, none⟩), .agg #[.int .u8 ak, .int .i64 ac, .int .i64 asq, .int .i64 ait, .int .i64 asd, .int .i64 apr, .int .i64 aq, .int .i64 aid]] w _
  cases hk : Ik.isK ⟨ak, ac, asq, ait, asd, apr, aq, aid⟩ with
  | false =>
    have HA : Hid (Ik.mputC M ⟨ak, ac, asq, ait, asd, apr, aq, aid⟩ = 4 ∧ Ik.mputL M ⟨ak, ac, asq, ait, asd, apr, aq, aid⟩ = M) := by
      have e : Ik.mputC M ⟨ak, ac, asq, ait, asd, apr, aq, aid⟩ = 4 := by unfold Ik.mputC; rw [hk]; rfl
      exact ⟨e, by unfold Ik.mputL; rw [e]; rfl⟩
    have hk1 : (ak != 111) = true := by simp [Ik.isK] at hk; simp [hk.1]
    have hk2 : (ak != 99) = true := by simp [Ik.isK] at hk; simp [hk.2]
    clear hk
    go_enter Tryd.func13, Tryd.ntmps13
    go_wp2
    go_ret
    exact ⟨by rw [HA.out.1]; rfl, v, by rw [HA.out.2]; exact HD1.out, HSK.out⟩
  | true =>
    have HK := hide hk
    have hk' : ak = 111 ∨ ak = 99 := by simpa [Ik.isK] using hk
    clear hk
    cases hc : Ik.isC ac with
    | false =>
      have HA : Hid (Ik.mputC M ⟨ak, ac, asq, ait, asd, apr, aq, aid⟩ = 2 ∧ Ik.mputL M ⟨ak, ac, asq, ait, asd, apr, aq, aid⟩ = M) := by
        have e : Ik.mputC M ⟨ak, ac, asq, ait, asd, apr, aq, aid⟩ = 2 := by unfold Ik.mputC; rw [HK.out, if_pos rfl]; simp [hc]
        exact ⟨e, by unfold Ik.mputL; rw [e]; rfl⟩
      have hcc : ac < 0 ∨ (¬ ac < 0 ∧ 6 ≤ ac) := by simp [Ik.isC] at hc; omega
      clear hc
      rcases hcc with h0 | ⟨h0, h6⟩
      all_goals
        rcases hk' with rfl | rfl
        all_goals
          go_enter Tryd.func13, Tryd.ntmps13
          go_wp2
          go_ret
          exact ⟨by rw [HA.out.1]; rfl, v, by rw [HA.out.2]; exact HD1.out, HSK.out⟩
    | true =>
      have hc0 : ¬ ac < 0 := by simp [Ik.isC] at hc; omega
      have hc6 : ¬ 6 ≤ ac := by simp [Ik.isC] at hc; omega
      have HWT := hide (mwait_any ac _ HD1)
      by_cases hf : 6 ≤ (Ik.fi ac M).length
      · have HA : Hid (Ik.mputC M ⟨ak, ac, asq, ait, asd, apr, aq, aid⟩ = 8 ∧ Ik.mputL M ⟨ak, ac, asq, ait, asd, apr, aq, aid⟩ = M) := by
          have e : Ik.mputC M ⟨ak, ac, asq, ait, asd, apr, aq, aid⟩ = 8 := by unfold Ik.mputC; rw [HK.out, if_pos rfl]; simp [hc, hf]
          exact ⟨e, by unfold Ik.mputL; rw [e]; rfl⟩
        clear hc
        generalize (Ik.fi ac M).length = m at *
        have hf' : (6 : Int) ≤ m := by omega
        rcases hk' with rfl | rfl
        all_goals
          go_enter Tryd.func13, Tryd.ntmps13
          go_wp2_with fail
          refine HWT.out.mono ?_
          rintro e w2 ⟨rfl, rfl⟩
          simp only []
          go_wp2
          go_ret
          exact ⟨by rw [HA.out.1]; rfl, v, by rw [HA.out.2]; exact HD1.out, HSK.out⟩
      · have HA : Hid (Ik.mputC M ⟨ak, ac, asq, ait, asd, apr, aq, aid⟩ = 0 ∧ Ik.mputL M ⟨ak, ac, asq, ait, asd, apr, aq, aid⟩ = M ++ [⟨ak, ac, asq, ait, asd, apr, aq, aid⟩]) := by
          have e : Ik.mputC M ⟨ak, ac, asq, ait, asd, apr, aq, aid⟩ = 0 := by unfold Ik.mputC; rw [HK.out, if_pos rfl]; simp [hc, hf]
          exact ⟨e, by unfold Ik.mputL; rw [if_pos e]⟩
        clear hc
        have h37 := h36.out HA.out.1
        have hbD : Below w.heap.size w (w.alloc (.cells #[.int .u8 ak, .int .i64 ac, .int .i64 asq, .int .i64 ait, .int .i64 asd, .int .i64 apr, .int .i64 aq, .int .i64 aid] 30)).drew := HB.out.trans ((drew_below _).mono (by simp))
        have hDD := hd.out.later hbD
        have hszD : (w.alloc (.cells #[.int .u8 ak, .int .i64 ac, .int .i64 asq, .int .i64 ait, .int .i64 asd, .int .i64 apr, .int .i64 aq, .int .i64 aid] 30)).drew.heap.size = w.heap.size + 1 := by simp [World.drew]
        obtain ⟨v4, w4, hap, hrow, hg, hloc⟩ := append_one ((w.alloc (.cells #[.int .u8 ak, .int .i64 ac, .int .i64 asq, .int .i64 ait, .int .i64 asd, .int .i64 apr, .int .i64 aq, .int .i64 aid] 30)).drew) base v M hDD.row ⟨ak, ac, asq, ait, asd, apr, aq, aid⟩ (by omega) (by have h1 := hDD.lo; have h2 := hDD.lt; omega)
        have hbA : Below w.heap.size w ((w.alloc (.cells #[.int .u8 ak, .int .i64 ac, .int .i64 asq, .int .i64 ait, .int .i64 asd, .int .i64 apr, .int .i64 aq, .int .i64 aid] 30)).drew.alloc (.cells #[.int .u8 ak, .int .i64 ac, .int .i64 asq, .int .i64 ait, .int .i64 asd, .int .i64 apr, .int .i64 aq, .int .i64 aid] 30)) := hbD.alloc (by rw [hszD]; omega) _
        have hDA := hd.out.later hbA
        have hset := hDA.set (w2 := w4) hg hrow (by rw [List.length_append]; simpa using h37) (fun k hk => by
          rcases hloc k hk with h | h
          · exact .inl h
          · refine .inr ?_
            rw [World.heap_size_alloc']
            exact h)
        have x0 : (World.drew (w.alloc (.cells #[.int .u8 ak, .int .i64 ac, .int .i64 asq, .int .i64 ait, .int .i64 asd, .int .i64 apr, .int .i64 aq, .int .i64 aid] 30))).heap[w.heap.size]? = some (.cells #[.int .u8 ak, .int .i64 ac, .int .i64 asq, .int .i64 ait, .int .i64 asd, .int .i64 apr, .int .i64 aq, .int .i64 aid] 30 (0, 0)) := heap_alloc_new w _
        have x1 := (heap_alloc_old (World.drew (w.alloc (.cells #[.int .u8 ak, .int .i64 ac, .int .i64 asq, .int .i64 ait, .int .i64 asd, .int .i64 apr, .int .i64 aq, .int .i64 aid] 30))) (.cells #[.int .u8 ak, .int .i64 ac, .int .i64 asq, .int .i64 ait, .int .i64 asd, .int .i64 apr, .int .i64 aq, .int .i64 aid] 30) (lt_of_block x0)).trans x0
        have x4 := (hg.block w.heap.size (lt_of_block x1) (fun e => by have := (hd.out.row.lt w.heap.size e.symm).2; omega)).trans x1
        have X0 := hide x0; have X1 := hide x1; have X4 := hide x4
        have Z0 := hide hDD.at.1; have Z1 := hide hDA.at.1
        have hcell4 : w4.heap[q]? = _ := (hg.block q hDA.lt (fun e => hDA.ne e.symm)).trans hDA.cell
        have Z4 : Hid (w4.cell? ⟨q, 0, none⟩ = some v) := by show _ = _; rw [cell_of_row _ _ _ _ _ _ hcell4]; rfl
        have fz4 : w4.frozen? ⟨q, 0, none⟩ = false := by simp [World.frozen?, hcell4]
        obtain ⟨a0, n0, c0, hv0, _⟩ := hd.out.form3
        obtain ⟨a4, n4, c4, hf4⟩ : ∃ a n c, v4 = .slice a n c := by
          obtain ⟨a, c, h⟩ := row_form hrow
          exact ⟨_, _, _, h⟩
        rw [hf4] at hap hset
        rw [show (World.drew (w.alloc (.cells #[.int .u8 ak, .int .i64 ac, .int .i64 asq, .int .i64 ait, .int .i64 asd, .int .i64 apr, .int .i64 aq, .int .i64 aid] 30))).heap.size = w.heap.size + 1 from hszD] at hap
        simp only [askA] at hap
        subst hv0
        have HSET := hide hset; have HAP := hide hap; have HBA := hide hbA
        clear hset hap hrow hg hloc hDA hDD hbA hbD x0 x1 x4 hcell4 hf4 hszD
        generalize (Ik.fi ac M).length = m at *
        have hf' : ¬ (6 : Int) ≤ m := by omega
        rcases hk' with rfl | rfl
        · go_enter Tryd.func13, Tryd.ntmps13
          go_wp2_with fail
          refine HWT.out.mono ?_
          rintro e w2 ⟨rfl, rfl⟩
          simp only []
          go_wp2_with fail
          obtain ⟨XT, val, hcl, hmk⟩ := class_all (fun W' => W'.heap[w.heap.size]? = some (.cells #[.int .u8 111, .int .i64 ac, .int .i64 asq, .int .i64 ait, .int .i64 asd, .int .i64 apr, .int .i64 aq, .int .i64 aid] 30 (0, 0)) ∧ W'.cell? ⟨q, 0, none⟩ = some (.slice a0 n0 c0))
          obtain ⟨x0, hx0⟩ := hmk (World.drew (w.alloc (.cells #[.int .u8 111, .int .i64 ac, .int .i64 asq, .int .i64 ait, .int .i64 asd, .int .i64 apr, .int .i64 aq, .int .i64 aid] 30))) ⟨X0.out, Z0.out⟩
          have hnx : Nonempty XT := ⟨x0⟩
          have s0 : ∀ x, (val x).cell? ⟨w.heap.size, 0, none⟩ = some (.int .u8 111) := fun x => (box8 (hcl x).1).1
          have s1 : ∀ x, (val x).cell? ⟨w.heap.size, 1, none⟩ = some (.int .i64 ac) := fun x => (box8 (hcl x).1).2.1
          have s2 : ∀ x, (val x).cell? ⟨w.heap.size, 2, none⟩ = some (.int .i64 asq) := fun x => (box8 (hcl x).1).2.2.1
          have s3 : ∀ x, (val x).cell? ⟨w.heap.size, 3, none⟩ = some (.int .i64 ait) := fun x => (box8 (hcl x).1).2.2.2.1
          have s4 : ∀ x, (val x).cell? ⟨w.heap.size, 4, none⟩ = some (.int .i64 asd) := fun x => (box8 (hcl x).1).2.2.2.2.1
          have s5 : ∀ x, (val x).cell? ⟨w.heap.size, 5, none⟩ = some (.int .i64 apr) := fun x => (box8 (hcl x).1).2.2.2.2.2.1
          have s6 : ∀ x, (val x).cell? ⟨w.heap.size, 6, none⟩ = some (.int .i64 aq) := fun x => (box8 (hcl x).1).2.2.2.2.2.2.1
          have s7 : ∀ x, (val x).cell? ⟨w.heap.size, 7, none⟩ = some (.int .i64 aid) := fun x => (box8 (hcl x).1).2.2.2.2.2.2.2
          have s9 : ∀ x, (val x).cell? ⟨q, 0, none⟩ = some (.slice a0 n0 c0) := fun x => (hcl x).2
          have M1 := hide (hmk _ ⟨X1.out, Z1.out⟩)
          have M4 := hide (hmk _ ⟨X4.out, Z4.out⟩)
          clear hmk hcl
          refine region_many_calls (val := val) [5, 6] [0, 1, 2, 3, 4, 5, 6, 7] (by kernel_rfl) (by kernel_rfl) x0 hx0 ?_
          rw [hx0]
          clear hx0
          refine walkM_read rfl rfl (fun K hK => ?_)
          refine ⟨by rfl, ?_⟩
          unfold isRd
          go_simp
          refine hK _ ?_
          clear hK K
          refine walkM_read rfl rfl (fun K hK => ?_)
          refine ⟨by rfl, ?_⟩
          unfold isRd
          go_simp
          refine hK _ ?_
          clear hK K
          refine walkM_read rfl rfl (fun K hK => ?_)
          refine ⟨by rfl, ?_⟩
          unfold isRd
          go_simp
          refine hK _ ?_
          clear hK K
          refine walkM_read rfl rfl (fun K hK => ?_)
          refine ⟨by rfl, ?_⟩
          unfold isRd
          go_simp
          refine hK _ ?_
          clear hK K
          refine walkM_read rfl rfl (fun K hK => ?_)
          refine ⟨by rfl, ?_⟩
          unfold isRd
          go_simp
          refine hK _ ?_
          clear hK K
          refine walkM_call rfl rfl (fun K hK => ?_)
          refine ⟨by rfl, ?_⟩
          unfold upM
          go_simp
          refine ⟨M1.out, hK _ _ ?_⟩
          clear hK K
          refine walkM_call rfl rfl (fun K hK => ?_)
          refine ⟨by rfl, ?_⟩
          refine upM_append _ _ 33 rfl _ _ _ rfl rfl HAP.out ?_
          refine ⟨M4.out, hK _ _ ?_⟩
          clear hK K
          refine walkM_read rfl rfl (fun K hK => ?_)
          refine ⟨by rfl, ?_⟩
          unfold isRd
          go_simp
          refine hK _ ?_
          clear hK K
          refine walkM_nil ?_
          have z4 := Z4.out
          go_wp2
          go_ret
          exact ⟨by rw [HA.out.1]; rfl, _, by rw [HA.out.2]; exact HSET.out.1, (QStep.of_below HBA.out q _).trans HSET.out.2⟩
        · go_enter Tryd.func13, Tryd.ntmps13
          go_wp2_with fail
          refine HWT.out.mono ?_
          rintro e w2 ⟨rfl, rfl⟩
          simp only []
          go_wp2_with fail
          obtain ⟨XT, val, hcl, hmk⟩ := class_all (fun W' => W'.heap[w.heap.size]? = some (.cells #[.int .u8 99, .int .i64 ac, .int .i64 asq, .int .i64 ait, .int .i64 asd, .int .i64 apr, .int .i64 aq, .int .i64 aid] 30 (0, 0)) ∧ W'.cell? ⟨q, 0, none⟩ = some (.slice a0 n0 c0))
          obtain ⟨x0, hx0⟩ := hmk (World.drew (w.alloc (.cells #[.int .u8 99, .int .i64 ac, .int .i64 asq, .int .i64 ait, .int .i64 asd, .int .i64 apr, .int .i64 aq, .int .i64 aid] 30))) ⟨X0.out, Z0.out⟩
          have hnx : Nonempty XT := ⟨x0⟩
          have s0 : ∀ x, (val x).cell? ⟨w.heap.size, 0, none⟩ = some (.int .u8 99) := fun x => (box8 (hcl x).1).1
          have s1 : ∀ x, (val x).cell? ⟨w.heap.size, 1, none⟩ = some (.int .i64 ac) := fun x => (box8 (hcl x).1).2.1
          have s2 : ∀ x, (val x).cell? ⟨w.heap.size, 2, none⟩ = some (.int .i64 asq) := fun x => (box8 (hcl x).1).2.2.1
          have s3 : ∀ x, (val x).cell? ⟨w.heap.size, 3, none⟩ = some (.int .i64 ait) := fun x => (box8 (hcl x).1).2.2.2.1
          have s4 : ∀ x, (val x).cell? ⟨w.heap.size, 4, none⟩ = some (.int .i64 asd) := fun x => (box8 (hcl x).1).2.2.2.2.1
          have s5 : ∀ x, (val x).cell? ⟨w.heap.size, 5, none⟩ = some (.int .i64 apr) := fun x => (box8 (hcl x).1).2.2.2.2.2.1
          have s6 : ∀ x, (val x).cell? ⟨w.heap.size, 6, none⟩ = some (.int .i64 aq) := fun x => (box8 (hcl x).1).2.2.2.2.2.2.1
          have s7 : ∀ x, (val x).cell? ⟨w.heap.size, 7, none⟩ = some (.int .i64 aid) := fun x => (box8 (hcl x).1).2.2.2.2.2.2.2
          have s9 : ∀ x, (val x).cell? ⟨q, 0, none⟩ = some (.slice a0 n0 c0) := fun x => (hcl x).2
          have M1 := hide (hmk _ ⟨X1.out, Z1.out⟩)
          have M4 := hide (hmk _ ⟨X4.out, Z4.out⟩)
          clear hmk hcl
          refine region_many_calls (val := val) [5, 6] [0, 1, 2, 3, 4, 5, 6, 7] (by kernel_rfl) (by kernel_rfl) x0 hx0 ?_
          rw [hx0]
          clear hx0
          refine walkM_read rfl rfl (fun K hK => ?_)
          refine ⟨by rfl, ?_⟩
          unfold isRd
          go_simp
          refine hK _ ?_
          clear hK K
          refine walkM_read rfl rfl (fun K hK => ?_)
          refine ⟨by rfl, ?_⟩
          unfold isRd
          go_simp
          refine hK _ ?_
          clear hK K
          refine walkM_read rfl rfl (fun K hK => ?_)
          refine ⟨by rfl, ?_⟩
          unfold isRd
          go_simp
          refine hK _ ?_
          clear hK K
          refine walkM_read rfl rfl (fun K hK => ?_)
          refine ⟨by rfl, ?_⟩
          unfold isRd
          go_simp
          refine hK _ ?_
          clear hK K
          refine walkM_read rfl rfl (fun K hK => ?_)
          refine ⟨by rfl, ?_⟩
          unfold isRd
          go_simp
          refine hK _ ?_
          clear hK K
          refine walkM_call rfl rfl (fun K hK => ?_)
          refine ⟨by rfl, ?_⟩
          unfold upM
          go_simp
          refine ⟨M1.out, hK _ _ ?_⟩
          clear hK K
          refine walkM_call rfl rfl (fun K hK => ?_)
          refine ⟨by rfl, ?_⟩
          refine upM_append _ _ 33 rfl _ _ _ rfl rfl HAP.out ?_
          refine ⟨M4.out, hK _ _ ?_⟩
          clear hK K
          refine walkM_read rfl rfl (fun K hK => ?_)
          refine ⟨by rfl, ?_⟩
          unfold isRd
          go_simp
          refine hK _ ?_
          clear hK K
          refine walkM_nil ?_
          have z4 := Z4.out
          go_wp2
          go_ret
          exact ⟨by rw [HA.out.1]; rfl, _, by rw [HA.out.2]; exact HSET.out.1, (QStep.of_below HBA.out q _).trans HSET.out.2⟩
end
end Go.Proofs.YtfifmigmdiegdaaDoor
