/- The document's Drain, and sameAsks, by their contracts. -/
import Derived.Test.YtfifmigmdiegdaaDoorIaMem
import Derived.Laws.OwnMore
namespace Go.Proofs.YtfifmigmdiegdaaDoor
open Go.RowKit
set_option maxRecDepth 100000
section
set_option maxHeartbeats 1000000 in
theorem same_any (v1 v2 : Value) (b1 b2 : Nat) (l : List Ask) (w : World) (h1 : Hid (w.ownsRow b1 30 8 v1 l.length (aflat l))) (h2 : Hid (w.ownsRow b2 30 8 v2 l.length (aflat l))) (hl : l.length ≤ 1000) :
    Calls Tryd.prog 15 #[v1, v2] w fun e w' => e = .returned (.bool true) ∧ Below w.heap.size w w' := by
  obtain ⟨a1, c1, rfl⟩ := row_form h1.out
  obtain ⟨a2, c2, rfl⟩ := row_form h2.out
  obtain ⟨m, hm⟩ : ∃ m, l.length = m := ⟨_, rfl⟩
  have HM := hide hm
  rw [hm] at h1 h2 hl ⊢
  clear hm
  have hne : ((m : Int) != (m : Int)) = false := by simp
  go_enter Tryd.func15, Tryd.ntmps15
  go_wp2_with fail
  go_loopw [5] (fun c wr => ∃ (j : Nat), j ≤ m ∧ c = .int .i64 j ∧ Below w.heap.size w wr) (fun c _ => m - (intOf c).toNat)
  case atStart => exact ⟨0, Nat.zero_le _, rfl, Below.refl _ _⟩
  case round =>
    obtain ⟨j, hj, rfl, hb⟩ := hrel
    have HB := hide hb
    clear hb
    by_cases hlt : j < m
    · have hji : (j : Int) < m := by omega
      have hjx : j < l.length := by rw [HM.out]; exact hlt
      obtain ⟨g1, cap1, e1, _⟩ := row_some (l := l) (by rw [HM.out]; exact h1.out) (by omega)
      obtain ⟨g2, cap2, e2, _⟩ := row_some (l := l) (by rw [HM.out]; exact h2.out) (by omega)
      obtain ⟨rfl, _, rfl⟩ : a1 = some ⟨g1, 0, none⟩ ∧ m = l.length ∧ c1 = cap1 := by simpa using e1
      obtain ⟨rfl, _, rfl⟩ : a2 = some ⟨g2, 0, none⟩ ∧ m = l.length ∧ c2 = cap2 := by simpa using e2
      have r1 := row_turned h1.out (Turned.of_below HB.out (fun _ => False)) (fun _ _ h => h)
      have r2 := row_turned h2.out (Turned.of_below HB.out (fun _ => False)) (fun _ _ h => h)
      have y0 := row_cells r1 (i := j) hjx 0 (by decide); have y1 := row_cells r1 (i := j) hjx 1 (by decide); have y2 := row_cells r1 (i := j) hjx 2 (by decide); have y3 := row_cells r1 (i := j) hjx 3 (by decide)
      have y4 := row_cells r1 (i := j) hjx 4 (by decide); have y5 := row_cells r1 (i := j) hjx 5 (by decide); have y6 := row_cells r1 (i := j) hjx 6 (by decide); have y7 := row_cells r1 (i := j) hjx 7 (by decide)
      have z0 := row_cells r2 (i := j) hjx 0 (by decide); have z1 := row_cells r2 (i := j) hjx 1 (by decide); have z2 := row_cells r2 (i := j) hjx 2 (by decide); have z3 := row_cells r2 (i := j) hjx 3 (by decide)
      have z4 := row_cells r2 (i := j) hjx 4 (by decide); have z5 := row_cells r2 (i := j) hjx 5 (by decide); have z6 := row_cells r2 (i := j) hjx 6 (by decide); have z7 := row_cells r2 (i := j) hjx 7 (by decide)
      simp only [askC, Nat.add_zero, List.getElem?_cons_zero, List.getElem?_cons_succ] at y0 y1 y2 y3 y4 y5 y6 y7 z0 z1 z2 z3 z4 z5 z6 z7
      clear r1 r2 e1 e2 h1 h2
      generalize anth l j = ax at *
      obtain ⟨bk, bc, bsq, bit, bsd, bpr, bq, bid⟩ := ax
      simp only [] at y0 y1 y2 y3 y4 y5 y6 y7 z0 z1 z2 z3 z4 z5 z6 z7
      go_wp2_with fail
      go_quiet (fail)
      go_wp2
      exact ⟨⟨j + 1, by omega, by go_num, HB.out.trans ((blw _ _).mono HB.out.size)⟩, by simp [intOf]; omega⟩
    · have hji : ¬ (j : Int) < m := by omega
      go_wp2
      go_ret
      exact ⟨rfl, HB.out⟩
end
/-- so many bools in a row -/
def garr (f : Nat → Bool) (m : Nat) : Array Value := ((List.range m).map fun i => Value.bool (f i)).toArray
theorem garr_get (f : Nat → Bool) {m i : Nat} (h : i < m) : (garr f m)[i]? = some (.bool (f i)) := by simp [garr, h]
theorem garr_set (f : Nat → Bool) {m i : Nat} (b : Bool) : (garr f m).setIfInBounds i (.bool b) = garr (Ik.upd f i b) m := by
  unfold garr
  apply Array.ext
  · simp
  · intro k h1 h2
    simp at h2
    simp only [List.setIfInBounds_toArray, List.getElem_toArray, List.getElem_set, List.getElem_map, List.getElem_range]
    by_cases e : i = k
    · subst e; simp [Ik.upd]
    · rw [if_neg e, Ik.upd_other _ _ (Ne.symm e)]
theorem garr_congr {f g : Nat → Bool} {m : Nat} (h : ∀ i, i < m → f i = g i) : garr f m = garr g m := by
  unfold garr
  congr 1
  apply List.map_congr_left
  intro i hi
  rw [h i (List.mem_range.1 hi)]
theorem mkgone (m : Nat) (hm : m ≤ 36) (w : World) : (Instr.makeSlice 54 (.int .i64 (m : Int)) (.int .i64 (m : Int))).run Tryd.prog w = .ok (.slice (some ⟨w.heap.size, 0, none⟩) m m) (w.alloc (.cells (garr (fun _ => false) m) 4)) := by
  obtain ⟨i, hi, hz, hs, hb⟩ : ∃ i, Tryd.prog.info? 4 = some i ∧ i.zero = some (.bool false) ∧ i.size = 1 ∧ i.bytes = 1 := ⟨_, rfl, rfl, rfl, rfl⟩
  have h := run_makeSlice (P := Tryd.prog) w 54 4 i (.bool false) Tryd.underlying54 hi hz .i64 .i64 m m (by omega) (by omega) (by rw [hs, Int.toNat_natCast]; omega) (by rw [hb]; omega) (by omega)
  rw [hs] at h
  have e : madeCells (Value.bool false).cells ((m : Int).toNat * 1) = garr (fun _ => false) m := by
    apply Array.ext'
    rw [show (Value.bool false).cells = #[.bool false] from rfl, toList_madeCells_one]
    unfold garr
    simp [List.map_const']
  rw [e, Int.toNat_natCast] at h
  exact h
theorem rem_who (t k : Nat) (ht : t < 6) (hk : k ≤ 6) : IntKind.i64.wrap ((t : Int) + k) = (t : Int) + k ∧ ((t : Int) + k).tmod 6 = (Ik.who t k : Nat) ∧ IntKind.i64.wrap ((Ik.who t k : Nat) : Int) = (Ik.who t k : Nat) := by
  have h2 : ((Ik.who t k : Nat) : Int) = ((t : Int) + k).tmod 6 := by
    unfold Ik.who
    rw [Int.tmod_eq_emod_of_nonneg (by omega)]
    omega
  exact ⟨IntWalk.i64_in _ (by omega), h2.symm, IntWalk.i64_in _ (by have := Ik.who_lt t k; omega)⟩
theorem take2_grow (A : List Ask) (x : Ask) (h : A.length < 2) : (A ++ [x]).take 2 = A.take 2 ++ [x] := by
  rw [List.take_of_length_le (by simp; omega), List.take_of_length_le (by omega)]
theorem take2_full (A : List Ask) (x : Ask) (h : ¬ A.length < 2) : (A ++ [x]).take 2 = A.take 2 := List.take_append_of_le_length (by omega)
section
variable {base q t : Nat} {v : Value} {M : List Ask} {L : Nat → List Ask}
set_option maxHeartbeats 2000000 in
theorem mdrain_any (w : World) (hd : Hid (Doc w base q v t M)) (hR : Hid (Ik.Rel L M)) : Calls Tryd.prog 16 #[.pointer (some ⟨q, 0, none⟩)] w fun e w' => ∃ d v', e = .returned d ∧ w'.ownsRow w.heap.size 30 8 d (Ik.out L t).length (aflat (Ik.out L t)) ∧ Doc w' base q v' (Ik.who t 1) (Ik.leftN M M.length) ∧ QStep w w' q (kv v) (kv v') := by
  obtain ⟨a, m, c, rfl, hm⟩ := hd.out.form3
  have HM := hide hm
  have hm36 : m ≤ 36 := by rw [← hm]; exact hd.out.few
  clear hm
  have ht := hd.out.turn
  have hat0 := hd.out.at.1
  have hmk := mkgone m hm36
  go_enter Tryd.func16, Tryd.ntmps16
  go_wp2_with fail
  have HG0 := hide (heap_alloc_new w (.cells (garr (fun _ => false) m) 4))
  have HB0 : Hid (Below w.heap.size w (w.alloc (.cells (garr (fun _ => false) m) 4))) := (Below.refl _ _).alloc (Nat.le_refl _) _
  have hGlo : w.heap.size ≤ w.heap.size := Nat.le_refl _
  generalize w.alloc (.cells (garr (fun _ => false) m) 4) = w1 at *
  obtain ⟨G, hG⟩ : ∃ G, w.heap.size = G := ⟨_, rfl⟩
  rw [hG] at HG0 ⊢
  have HGG := hide hG
  clear hmk hat0 hGlo hG
  go_loopw [3, 5] (fun d c wr => ∃ (k : Nat), k ≤ 6 ∧ c = .int .i64 k ∧ wr.ownsRow w.heap.size 30 8 d (Ik.ouN L t k).length (aflat (Ik.ouN L t k)) ∧ wr.heap[G]? = some (.cells (garr (Ik.gone t M k) m) 4 (0, 0)) ∧ Below w.heap.size w wr) (fun _ c _ => 6 - (intOf c).toNat)
  case atStart => exact ⟨0, by decide, rfl, World.ownsRow_nil _ _ _ _, by rw [garr_congr (g := fun _ => false) (fun i _ => Ik.gone_zero t M i)]; exact HG0.out, HB0.out⟩
  case round =>
    obtain ⟨k, hk, rfl, hr, hg, hb⟩ := hrel
    have HR := hide hr; have HG := hide hg; have HB := hide hb
    clear hr hg hb HG0 HB0
    obtain ⟨wv, hwv⟩ : ∃ wv, wv = wr := ⟨_, rfl⟩
    subst hwv
    have HDv := hide (hd.out.later HB.out)
    obtain ⟨hat0, hat1⟩ := HDv.out.at
    by_cases hk6 : k < 6
    · have hki : (k : Int) < 6 := by omega
      obtain ⟨r1, r2, r3⟩ := rem_who t k ht (by omega)
      have hcl := Ik.who_lt t k
      have HLC : Hid (Ik.ouN L t (k + 1) = Ik.ouN L t k ++ (Ik.fi ((Ik.who t k : Nat) : Int) M).take 2) := by show _ = _; rw [Ik.ouN_succ L ht hk6, hR.out.of _ hcl]
      obtain ⟨cl, hcle⟩ : ∃ cl, Ik.who t k = cl := ⟨_, rfl⟩
      have HCL := hide hcle
      rw [hcle] at r2 r3 hcl HLC
      clear hcle
      go_wp2_with fail
      obtain ⟨du, hdu⟩ : ∃ du, du = u3 := ⟨_, rfl⟩
      have hou : (Ik.ouN L t k).length ≤ 12 := by have := Ik.ouN_len L t k; omega
      clear hat0 hat1
      go_loopw [3, 7, 8] (fun d nv c wr => ∃ (j nn : Nat), j ≤ m ∧ nn ≤ 2 ∧ c = .int .i64 j ∧ nv = .int .i64 nn ∧ nn = ((Ik.fi (cl : Int) (M.take j)).take 2).length ∧ wr.ownsRow w.heap.size 30 8 d (Ik.ouN L t k ++ (Ik.fi (cl : Int) (M.take j)).take 2).length (aflat (Ik.ouN L t k ++ (Ik.fi (cl : Int) (M.take j)).take 2)) ∧ wr.heap[G]? = some (.cells (garr (fun i => if i < j then Ik.gone t M (k + 1) i else Ik.gone t M k i) m) 4 (0, 0)) ∧ Below w.heap.size w wr) (fun _ _ c _ => m - (intOf c).toNat)
      case atStart => exact ⟨0, 0, Nat.zero_le _, by decide, rfl, rfl, rfl, by simpa [Ik.fi] using HR.out, HG.out, HB.out⟩
      case round =>
        obtain ⟨j, nn, hj, hn2, rfl, rfl, hnn, hr, hg, hb⟩ := hrel
        have HNN := hide hnn; have HRr := hide hr; have HGr := hide hg; have HBr := hide hb
        clear hnn hr hg hb
        have HDr := hide (hd.out.later HBr.out)
        have hat0 := HDr.out.at.1
        by_cases hlt : j < m
        · have hji : (j : Int) < m := by omega
          have hjx : j < M.length := by rw [HM.out]; exact hlt
          obtain ⟨g, rfl, hg⟩ := HDr.out.cells hjx
          have y0 := hg 0 (by decide); have y1 := hg 1 (by decide); have y2 := hg 2 (by decide); have y3 := hg 3 (by decide)
          have y4 := hg 4 (by decide); have y5 := hg 5 (by decide); have y6 := hg 6 (by decide); have y7 := hg 7 (by decide)
          simp only [askC, Nat.add_zero, List.getElem?_cons_zero, List.getElem?_cons_succ] at y0 y1 y2 y3 y4 y5 y6 y7
          clear hg
          obtain ⟨cj, hcj, hje⟩ := hR.out.client hjx
          by_cases hc : cj = cl
          · subst hc
            by_cases hn : nn < 2
            · -- it is taken
              have hlen2 : (Ik.fi (cj : Int) (M.take j)).length < 2 := by have := HNN.out; rw [List.length_take] at this; omega
              have HT : Hid ((Ik.fi (cj : Int) (M.take (j + 1))).take 2 = (Ik.fi (cj : Int) (M.take j)).take 2 ++ [anth M j]) := by show _ = _; rw [Ik.fi_in hjx hje, take2_grow _ _ hlen2]
              have HGN : Hid (Ik.gone t M (k + 1) j = true) := Ik.gone_now ht hk6 (by rw [hje, HCL.out]) (by rw [hje]; exact hlen2)
              have hni : (nn : Int) < 2 := by omega
              obtain ⟨v4, w4, hap, hrow, hg4, hloc⟩ := append_one wr w.heap.size u3 (Ik.ouN L t k ++ (Ik.fi (cj : Int) (M.take j)).take 2) HRr.out (anth M j) (by rw [List.length_append, List.length_take]; omega) HBr.out.size
              rw [List.append_assoc, ← HT.out] at hrow
              have HB4 : Hid (Below w.heap.size w w4) := (HBr.out.alloc HBr.out.size _).grown hg4 (by have := HBr.out.size; simp; omega) (fun k hk => (HRr.out.lt k hk).1)
              have hGne : ¬ some G = u3.ownBlock := fun e => row_ne_type HRr.out HGr.out (by decide) e.symm
              have hG1 := (heap_alloc_old wr (.cells (askA (anth M j)) 30) (lt_of_block HGr.out)).trans HGr.out
              have HG4 := hide ((hg4.block G (lt_of_block hG1) hGne).trans hG1)
              have HBS : Hid (Below w.heap.size w (w4.setCell ⟨G, j, none⟩ (.bool true))) := HB4.out.setCell (by rw [← HGG.out]; exact Nat.le_refl _) _
              obtain ⟨a4, n4, c4, hf4⟩ : ∃ a n c, v4 = .slice a n c := by
                obtain ⟨a, c, h⟩ := row_form hrow
                exact ⟨_, _, _, h⟩
              rw [hf4] at hap hrow
              have HAP := hide hap
              have HR4 : Hid ((w4.setCell ⟨G, j, none⟩ (.bool true)).ownsRow w.heap.size 30 8 (.slice a4 n4 c4) (Ik.ouN L t k ++ (Ik.fi (cj : Int) (M.take (j + 1))).take 2).length (aflat (Ik.ouN L t k ++ (Ik.fi (cj : Int) (M.take (j + 1))).take 2))) :=
                row_turned hrow (Turned.setCell _ G j _) (fun k' hk' e => row_ne_type hrow HG4.out (by decide) (by rw [hk', e]))
              have HGS : Hid ((w4.setCell ⟨G, j, none⟩ (.bool true)).heap[G]? = some (.cells (garr (fun i => if i < j + 1 then Ik.gone t M (k + 1) i else Ik.gone t M k i) m) 4 (0, 0))) := by
                show _ = _
                rw [block_setCell HG4.out, garr_set]
                congr 2
                refine garr_congr (fun i hi => ?_)
                by_cases e : i = j
                · subst e
                  rw [Ik.upd_same, if_pos (by omega), HGN.out]
                · rw [Ik.upd_other _ _ e]
                  by_cases h : i < j
                  · rw [if_pos h, if_pos (by omega)]
                  · rw [if_neg h, if_neg (by omega)]
              have HN1 : Hid (nn + 1 = ((Ik.fi (cj : Int) (M.take (j + 1))).take 2).length) := by show _ = _; rw [HT.out, List.length_append, ← HNN.out]; rfl
              have gc : w4.cell? ⟨G, j, none⟩ = some (.bool (if j < j then Ik.gone t M (k + 1) j else Ik.gone t M k j)) := by rw [cell_of_row _ _ _ _ _ _ HG4.out, garr_get _ hlt]
              have gf : w4.frozen? ⟨G, j, none⟩ = false := by simp [World.frozen?, HG4.out]
              generalize Value.bool (if j < j then Ik.gone t M (k + 1) j else Ik.gone t M k j) = gv at *
              rw [hje] at y1
              simp only [askA, hje] at HAP
              clear hap hrow hg4 hloc hf4 hG1 hGne hje HT HGN hlen2
              go_wp2_with (at_builtin; refine wpList_append_run rfl _ _ 33 rfl _ _ _ rfl rfl HAP.out ?_)
              exact ⟨⟨j + 1, nn + 1, by omega, by omega, by go_num, by go_num, HN1.out, HR4.out, HGS.out, HBS.out⟩, by simp [intOf]; omega⟩
            · have hni : ¬ (nn : Int) < 2 := by omega
              have hlen2 : ¬ (Ik.fi (cj : Int) (M.take j)).length < 2 := by have := HNN.out; rw [List.length_take] at this; omega
              have HT : Hid ((Ik.fi (cj : Int) (M.take (j + 1))).take 2 = (Ik.fi (cj : Int) (M.take j)).take 2) := by show _ = _; rw [Ik.fi_in hjx hje, take2_full _ _ hlen2]
              have HGK : Hid (Ik.gone t M (k + 1) j = Ik.gone t M k j) := Ik.gone_late (by rw [hje]; exact hlen2)
              have HR4 : Hid (wr.ownsRow w.heap.size 30 8 u3 (Ik.ouN L t k ++ (Ik.fi (cj : Int) (M.take (j + 1))).take 2).length (aflat (Ik.ouN L t k ++ (Ik.fi (cj : Int) (M.take (j + 1))).take 2))) := by rw [HT.out]; exact HRr.out
              have HGS : Hid (wr.heap[G]? = some (.cells (garr (fun i => if i < j + 1 then Ik.gone t M (k + 1) i else Ik.gone t M k i) m) 4 (0, 0))) := by
                show _ = _
                rw [HGr.out]
                congr 2
                refine garr_congr (fun i hi => ?_)
                by_cases e : i = j
                · subst e
                  rw [if_neg (by omega), if_pos (by omega), HGK.out]
                · by_cases h : i < j
                  · rw [if_pos h, if_pos (by omega)]
                  · rw [if_neg h, if_neg (by omega)]
              have HN1 : Hid (nn = ((Ik.fi (cj : Int) (M.take (j + 1))).take 2).length) := by show _ = _; rw [HT.out]; exact HNN.out
              rw [hje] at y1
              clear hje hlen2
              clear HT HGK
              go_wp2
              exact ⟨⟨j + 1, nn, by omega, hn2, by go_num, rfl, HN1.out, HR4.out, HGS.out, HBr.out⟩, by simp [intOf]; omega⟩
          · have hne : ¬ (cj : Int) = (cl : Int) := by omega
            have hneb : ((cj : Int) == (cl : Int)) = false := by simpa using hne
            have hcne : (anth M j).c ≠ (cl : Int) := by rw [hje]; exact hne
            have HT : Hid ((Ik.fi (cl : Int) (M.take (j + 1))).take 2 = (Ik.fi (cl : Int) (M.take j)).take 2) := by show _ = _; rw [Ik.fi_off hjx hcne]
            have HGK : Hid (Ik.gone t M (k + 1) j = Ik.gone t M k j) := Ik.gone_other ht hk6 hcj hje (by rw [HCL.out]; exact hc)
            have HR4 : Hid (wr.ownsRow w.heap.size 30 8 u3 (Ik.ouN L t k ++ (Ik.fi (cl : Int) (M.take (j + 1))).take 2).length (aflat (Ik.ouN L t k ++ (Ik.fi (cl : Int) (M.take (j + 1))).take 2))) := by rw [HT.out]; exact HRr.out
            have HGS : Hid (wr.heap[G]? = some (.cells (garr (fun i => if i < j + 1 then Ik.gone t M (k + 1) i else Ik.gone t M k i) m) 4 (0, 0))) := by
              show _ = _
              rw [HGr.out]
              congr 2
              refine garr_congr (fun i hi => ?_)
              by_cases e : i = j
              · subst e
                rw [if_neg (by omega), if_pos (by omega), HGK.out]
              · by_cases h : i < j
                · rw [if_pos h, if_pos (by omega)]
                · rw [if_neg h, if_neg (by omega)]
            have HN1 : Hid (nn = ((Ik.fi (cl : Int) (M.take (j + 1))).take 2).length) := by show _ = _; rw [HT.out]; exact HNN.out
            rw [hje] at y1
            clear hje hcne
            clear HT HGK
            go_wp2
            exact ⟨⟨j + 1, nn, by omega, hn2, by go_num, rfl, HN1.out, HR4.out, HGS.out, HBr.out⟩, by simp [intOf]; omega⟩
        · have hji : ¬ (j : Int) < m := by omega
          have he : M.take j = M := List.take_of_length_le (by rw [HM.out]; omega)
          rw [he, ← HLC.out] at HRr
          have HG2 : Hid (wr.heap[G]? = some (.cells (garr (Ik.gone t M (k + 1)) m) 4 (0, 0))) := by
            show _ = _
            rw [HGr.out]
            congr 2
            exact garr_congr (fun i hi => by rw [if_pos (by omega)])
          go_wp2
          exact ⟨⟨k + 1, by omega, by go_num, HRr.out, HG2.out, HBr.out⟩, by simp [intOf]; omega⟩
    · have hki : ¬ (k : Int) < 6 := by omega
      obtain rfl : k = 6 := by omega
      obtain ⟨ad, nd, cd, hdf⟩ := row_form3 HR.out
      obtain ⟨dd, hdd⟩ : ∃ dd, dd = u3 := ⟨_, rfl⟩
      have HDD := hide hdd
      rw [← hdd] at HR
      rw [← hdd] at hdf
      go_wp2_with fail
      rw [← HDD.out]
      rw [hdf]
      rw [hdf] at HR
      clear hat0 hat1
      go_loopw [9, 10] (fun lv c wr => ∃ (j : Nat), j ≤ m ∧ c = .int .i64 j ∧ wr.ownsRow w.heap.size 30 8 lv (Ik.leftN M j).length (aflat (Ik.leftN M j)) ∧ wr.ownsRow w.heap.size 30 8 (.slice ad nd cd) (Ik.ouN L t 6).length (aflat (Ik.ouN L t 6)) ∧ (∀ k, (Value.slice ad nd cd).ownBlock = some k → lv.ownBlock ≠ some k) ∧ wr.heap[G]? = some (.cells (garr (Ik.gone t M 6) m) 4 (0, 0)) ∧ Below w.heap.size w wr) (fun _ c _ => m - (intOf c).toNat)
      case atStart => exact ⟨0, Nat.zero_le _, rfl, World.ownsRow_nil _ _ _ _, HR.out, fun _ _ h => by simp [Value.ownBlock] at h, HG.out, HB.out⟩
      case round =>
        obtain ⟨j, hj, rfl, hr, hrd, hap, hg, hb⟩ := hrel
        have HRl := hide hr; have HRd := hide hrd; have HGr := hide hg; have HBr := hide hb; have HAT := hide hap
        clear hr hrd hg hb hap
        have HDr := hide (hd.out.later HBr.out)
        have hat0 := HDr.out.at.1
        by_cases hlt : j < m
        · have hji : (j : Int) < m := by omega
          have hjx : j < M.length := by rw [HM.out]; exact hlt
          have gc : wr.cell? ⟨G, j, none⟩ = some (.bool (Ik.early M j)) := by rw [cell_of_row _ _ _ _ _ _ HGr.out, garr_get _ hlt, Ik.gone_six]
          have HLN : Hid (Ik.leftN M (j + 1) = Ik.leftN M j ++ if Ik.early M j = true then [] else [anth M j]) := rfl
          cases hea : Ik.early M j with
          | true =>
            rw [hea] at gc HLN
            simp only [if_true, List.append_nil] at HLN
            rw [← HLN.out] at HRl
            go_wp2
            exact ⟨⟨j + 1, by omega, by go_num, HRl.out, HRd.out, HAT.out, HGr.out, HBr.out⟩, by simp [intOf]; omega⟩
          | false =>
            rw [hea] at gc HLN
            simp only [Bool.false_eq_true, if_false] at HLN
            clear hea
            obtain ⟨g, rfl, hg⟩ := HDr.out.cells hjx
            have y0 := hg 0 (by decide); have y1 := hg 1 (by decide); have y2 := hg 2 (by decide); have y3 := hg 3 (by decide)
            have y4 := hg 4 (by decide); have y5 := hg 5 (by decide); have y6 := hg 6 (by decide); have y7 := hg 7 (by decide)
            simp only [askC, Nat.add_zero, List.getElem?_cons_zero, List.getElem?_cons_succ] at y0 y1 y2 y3 y4 y5 y6 y7
            clear hg
            obtain ⟨v4, w4, hap, hrow, hg4, hloc⟩ := append_one wr w.heap.size u9 (Ik.leftN M j) HRl.out (anth M j) (by have := Ik.leftN_len M j; omega) HBr.out.size
            rw [← HLN.out] at hrow
            have HB4 : Hid (Below w.heap.size w w4) := (HBr.out.alloc HBr.out.size _).grown hg4 (by have := HBr.out.size; simp; omega) (fun k hk => (HRl.out.lt k hk).1)
            have hGne : ¬ some G = u9.ownBlock := fun e => row_ne_type HRl.out HGr.out (by decide) e.symm
            have hG1 := (heap_alloc_old wr (.cells (askA (anth M j)) 30) (lt_of_block HGr.out)).trans HGr.out
            have HG4 := hide ((hg4.block G (lt_of_block hG1) hGne).trans hG1)
            have hd1 : (wr.alloc (.cells (askA (anth M j)) 30)).ownsRow w.heap.size 30 8 (.slice ad nd cd) (Ik.ouN L t 6).length (aflat (Ik.ouN L t 6)) := HRd.out.alloc _
            have HRd4 := hide (row_turned hd1 (Turned.of_grown hg4) (fun k' hk' e => HAT.out k' hk' e.symm))
            have HAT4 : Hid (∀ k, (Value.slice ad nd cd).ownBlock = some k → v4.ownBlock ≠ some k) := fun k' hk' e => by
              rcases hloc k' e with h | h
              · exact HAT.out k' hk' h
              · have := (HRd.out.lt k' hk').2
                omega
            obtain ⟨a4, n4, c4, hf4⟩ : ∃ a n c, v4 = .slice a n c := by
              obtain ⟨a, c, h⟩ := row_form hrow
              exact ⟨_, _, _, h⟩
            rw [hf4] at hap hrow HAT4
            have HAP := hide hap; have HR4 := hide hrow
            simp only [askA] at HAP
            clear hap hrow hg4 hloc hf4 hG1 hGne hd1 HAT HRd HRl HGr
            generalize anth M j = ax at *
            go_wp2_with (at_builtin; refine wpList_append_run rfl _ _ 33 rfl _ _ _ rfl rfl HAP.out ?_)
            exact ⟨⟨j + 1, by omega, by go_num, HR4.out, HRd4.out, HAT4.out, HG4.out, HB4.out⟩, by simp [intOf]; omega⟩
        · have hji : ¬ (j : Int) < m := by omega
          obtain rfl : j = m := by omega
          have hlo : base ≤ w.heap.size := by have := hd.out.lo; have := hd.out.lt; omega
          have hll := Ik.leftN_len M j
          obtain ⟨HS1, HS2⟩ := hd.out.set (w2 := wr) ⟨HBr.out.os, HBr.out.tape, HBr.out.output, HBr.out.size, fun k hk _ => HBr.out.block k hk⟩ (row_base HRl.out hlo) (by omega) (fun k hk => .inr (HRl.out.lt k hk).1)
          obtain ⟨HN1, HN2⟩ := HS1.next (Ik.who_lt t 1)
          have f0 := HDr.out.free 0
          have f1 := HDr.out.free 1
          have hat1 := HDr.out.at.2
          obtain ⟨r1, r2, r3⟩ := rem_who t 1 ht (by decide)
          have r1' : IntKind.i64.wrap ((t : Int) + 1) = (t : Int) + 1 := r1
          have r2' : ((t : Int) + 1).tmod 6 = (Ik.who t 1 : Nat) := r2
          obtain ⟨a5, n5, c5, hf5⟩ := row_form3 HRl.out
          have HRd2 : Hid (((wr.setCell ⟨q, 0, none⟩ u9).setCell ⟨q, 1, none⟩ (.int .i64 (Ik.who t 1 : Nat))).ownsRow w.heap.size 30 8 (.slice ad nd cd) (Ik.ouN L t 6).length (aflat (Ik.ouN L t 6))) :=
            row_turned (row_turned HRd.out (Turned.setCell _ q 0 _) (fun k' hk' e => by
              have h1 := (HRd.out.lt k' hk').1
              have h2 := hd.out.lt
              omega)) (Turned.setCell _ q 1 _) (fun k' hk' e => by
              have h1 := (HRd.out.lt k' hk').1
              have h2 := hd.out.lt
              omega)
          rw [hf5] at HN1 HN2 HS2 HRd2
          have HF1 := hide HN1; have HF2 := hide (HS2.trans HN2)
          have HM2 : Hid (M.length = j) := HM.out
          clear HN1 HN2 HS1 HS2 r1 r2
          go_wp2
          go_ret
          exact ⟨_, rfl, HRd2.out, _, by rw [HM2.out]; exact HF1.out, HF2.out⟩
end
end Go.Proofs.YtfifmigmdiegdaaDoor
