/- The document's book: Find, off, Add, Cancel and Take by their contracts. -/
import Derived.Test.YtbcinejhipmomaaDoorBmMem
import Derived.Test.YtbcinejhipmomaaDoorBkAdd
import Derived.Test.YtbcinejhipmomaaDoorCvFault
namespace Go.Proofs.YtbcinejhipmomaaDoor
open Go.RowKit Go.Maps
set_option maxRecDepth 100000

set_option maxHeartbeats 1000000 in
theorem mfind_some (p base g cap n : Nat) (id : Int) (l : List Cv.Lot) (w : World) (hb : Hid (MBook w base p (.slice (some ⟨g, 0, none⟩) n cap) l)) (hn : Hid (l.length = n)) (hn' : n ≤ 60) (hl : Hid (LotsAt w g 0 l)) :
    Calls Tryd.prog 33 #[.pointer (some ⟨p, 0, none⟩), .int .i64 id] w fun e w' => e = .returned (.int .i64 (Bk.posI l id)) ∧ w' = w := by
  have hcell := cell_of_one hb.out.cell
  go_enter Tryd.func33, Tryd.ntmps33
  go_wp2
  go_loopw [5] (fun i wr => ∃ k : Nat, k ≤ n ∧ i = .int .i64 k ∧ Cv.has (l.take k) id = false ∧ wr = w) (fun i _ => n - (intOf i).toNat)
  case atStart => exact ⟨0, Nat.zero_le _, rfl, rfl, rfl⟩
  case round =>
    obtain ⟨k, hk, rfl, hno, rfl⟩ := hrel
    have HN := hide hno
    clear hno
    by_cases hlt : k < n
    · have hki : (k : Int) < n := by omega
      obtain ⟨c0, c1, c2, c3, c4⟩ := hl.out k (by rw [hn.out]; exact hlt)
      simp only [Nat.zero_add] at c0 c1 c2 c3 c4
      have HT := hide (Cv.take_succ (l := l) (i := k) (by rw [hn.out]; exact hlt))
      obtain ⟨x, hxx⟩ : ∃ x, Cv.nth l k = x := ⟨_, rfl⟩
      rw [hxx] at HT c0 c1 c2 c3 c4
      have HX := hide hxx
      clear hxx
      by_cases hx : x.id = id
      · have hxb : (x.id == id) = true := by simpa using hx
        have Hx := hide hx
        clear hx
        go_wp2
        go_ret
        refine ⟨?_, rfl⟩
        rw [Bk.posI_at (by rw [hn.out]; exact hlt) HN.out (by rw [HX.out]; exact Hx.out)]
        rfl
      · have hxb : (x.id == id) = false := by simpa using hx
        have hno' : Cv.has (l.take (k + 1)) id = false := by
          have hh := HN.out
          rw [HT.out]
          unfold Cv.has at hh ⊢
          rw [List.any_append, hh]
          simp [hx]
        have Hno := hide hno'
        clear hx hno'
        go_wp2
        exact ⟨⟨k + 1, by omega, by go_num, Hno.out, trivial⟩, by simp [intOf]; omega⟩
    · have hki : ¬ (k : Int) < n := by omega
      have hno := HN.out
      rw [List.take_of_length_le (by rw [hn.out]; omega)] at hno
      have Hno := hide hno
      clear hno
      go_wp2
      go_ret
      exact ⟨by rw [Bk.posI_none Hno.out]; rfl, rfl⟩
theorem mfind_none (p base : Nat) (id : Int) (w : World) (hb : Hid (MBook w base p (.slice none 0 0) [])) :
    Calls Tryd.prog 33 #[.pointer (some ⟨p, 0, none⟩), .int .i64 id] w fun e w' => e = .returned (.int .i64 (-1)) ∧ w' = w := by
  have hcell := cell_of_one hb.out.cell
  go_enter Tryd.func33, Tryd.ntmps33
  go_wp2
  refine wp_loop_rounds 1 ?_
  rw [rounds_succ]
  go_wp2
  go_ret
  exact ⟨rfl, rfl⟩
theorem mfind_any (p base : Nat) (v : Value) (id : Int) (l : List Cv.Lot) (w : World) (hb : Hid (MBook w base p v l)) (hn : Hid (l.length ≤ 60)) :
    Calls Tryd.prog 33 #[.pointer (some ⟨p, 0, none⟩), .int .i64 id] w fun e w' => e = .returned (.int .i64 (Bk.posI l id)) ∧ w' = w := by
  rcases hb.out.form with ⟨rfl, rfl⟩ | ⟨g, cap, rfl, hle, _, hl⟩
  · exact mfind_none p base id w hb
  · exact mfind_some p base g cap _ id l w hb rfl hn.out hl
theorem row_lower {w : World} {b b' : Nat} {e : TypeId} {s : Nat} {v : Value} {n : Nat} {xs : List Value} (h : w.ownsRow b e s v n xs) (hb : b' ≤ b) : w.ownsRow b' e s v n xs := by
  refine ⟨h.1, ?_⟩
  rcases h.2 with h | ⟨g, cap, cur, h1, h2, h3⟩
  · exact .inl h
  · exact .inr ⟨g, cap, cur, h1, Nat.le_trans hb h2, h3⟩
/-- a book whose list is made anew -/
theorem MBook.anew {w w2 : World} {base p : Nat} {v v' : Value} {l l' : List Cv.Lot} (h : MBook w base p v l) (hg : Below w.heap.size w w2) (hr : w2.ownsRow w.heap.size 43 5 v' l'.length (flat l')) :
    MBook (w2.setCell ⟨p, 0, none⟩ v') base p v' l' ∧ Step w (w2.setCell ⟨p, 0, none⟩ v') p v v' :=
  h.set ⟨hg.os, hg.tape, hg.output, hg.size, fun k hk _ => hg.block k hk⟩ (row_lower hr (by have h1 := h.lo; have h2 := h.lt; omega)) (fun k hk => .inr (hr.lt k hk).1)
theorem MBook.openB {w w2 : World} {base p : Nat} {v : Value} {l : List Cv.Lot} (h : MBook w base p v l) (hg : Below w.heap.size w w2) : w2.cell? ⟨p, 0, none⟩ = some v ∧ w2.frozen? ⟨p, 0, none⟩ = false :=
  h.openAt ⟨hg.os, hg.tape, hg.output, hg.size, fun k hk _ => hg.block k hk⟩

set_option maxHeartbeats 1000000 in
theorem off_any (p base k : Nat) (v : Value) (l : List Cv.Lot) (w : World) (hb : Hid (MBook w base p v l)) (hk : k < l.length) (hn : Hid (l.length ≤ 60)) :
    Calls Tryd.prog 59 #[.pointer (some ⟨p, 0, none⟩), .int .i64 k] w fun e w' => e = .returned (.tuple #[]) ∧ ∃ v', MBook w' base p v' (Bk.del l k) ∧ Step w w' p v v' := by
  have hcell := cell_of_one hb.out.cell
  rcases hb.out.form with ⟨_, hl⟩ | ⟨g, cap, rfl, hle, _, hl⟩
  · rw [hl] at hk; exact absurd hk (Nat.not_lt_zero _)
  have hrow := hb.out.row
  obtain ⟨n, hnn⟩ : ∃ n, l.length = n := ⟨_, rfl⟩
  have Hl := hide hnn
  have h60 : n ≤ 60 := by rw [← hnn]; exact hn.out
  rw [hnn] at hk hle hcell hrow
  rw [hnn]
  obtain ⟨i0, z0, hi, hz0, hz1, hz2, hz3⟩ := info110
  have Hi := hide hi; have Hz0 := hide hz0; have Hz1 := hide hz1; have Hz2 := hide hz2; have Hz3 := hide hz3
  clear hi hz0 hz1 hz2 hz3
  have HC1 : Hid (∀ j u, (flat (l.take k))[j]? = some u → w.cell? ((⟨g, 0, none⟩ : Addr).add j) = some u) := fun j u hj => by
    rw [← flat_take l k (by rw [hnn]; omega)] at hj
    have hj' := List.getElem?_eq_some_iff.1 hj
    have hlt : j < k * 5 := by have := hj'.1; rw [List.length_take] at this; omega
    rw [List.getElem?_take_of_lt hlt] at hj
    rw [Addr.add_lit, Nat.zero_add, (row_open hrow j (by omega)).2.2]; exact hj
  have hC2 : ∀ j u, (flat (l.drop (k + 1)))[j]? = some u → w.cell? ⟨g, (k + 1) * 5 + j, none⟩ = some u := fun j u hj => by
    rw [← flat_drop l (k + 1) (by rw [hnn]; omega), List.getElem?_drop] at hj
    have hj' := (List.getElem?_eq_some_iff.1 hj).1
    rw [flat_length, hnn] at hj'
    rw [(row_open hrow _ hj').2.2]; exact hj
  have hlen2 : (flat (l.drop (k + 1))).length = (n - (k + 1)) * 5 := by rw [flat_length, List.length_drop, hnn]
  obtain ⟨A, hA, hsrc⟩ : ∃ A : Addr, (if cap = k + 1 then some (⟨g, 0, none⟩ : Addr) else some ⟨g, (k + 1) * 5, none⟩) = some A ∧ Hid (∀ j u, (flat (l.drop (k + 1)))[j]? = some u → w.cell? (A.add j) = some u) := by
    by_cases h : cap = k + 1
    · refine ⟨⟨g, 0, none⟩, by simp [h], fun t u hu => ?_⟩
      have h0 : (flat (l.drop (k + 1))).length = 0 := by rw [hlen2]; omega
      rw [List.length_eq_zero_iff.1 h0] at hu
      simp at hu
    · refine ⟨⟨g, (k + 1) * 5, none⟩, by simp [h], fun t u hu => ?_⟩
      rw [Addr.add_lit]
      exact hC2 t u hu
  have HL2 := hide hlen2
  have HTK : Hid ((flat (l.take k)).length = k * 5) := by show _ = _; rw [flat_length, List.length_take, hnn]; congr 1; omega
  have hk1 : k + 1 ≤ cap := by omega
  have hkc : k ≤ cap := by omega
  clear hnn hC2 hlen2 hl hrow
  go_enter Tryd.func59, Tryd.ntmps59
  go_wp2_with (at_builtin; refine wpList_append_own _ rfl _ _ 22 rfl w.heap.size 43 i0 z0 5 40 Tryd.underlying22 Hi.out Hz0.out Hz1.out Hz2.out Hz3.out (by decide) _ _ _ rfl (World.ownsRow_nil _ _ _ _) ⟨g, 0, none⟩ k cap (flat (l.take k)) rfl HTK.out HC1.out (flat_one _) (by unfold maxLen; omega) (by omega) (Nat.le_refl _) ?_)
  intro v3 w3 hown hgrow _
  have hb3 : Below w.heap.size w w3 := (Below.refl _ _).grown hgrow (Nat.le_refl _) (fun j hj => by cases hj)
  obtain ⟨k1, k2⟩ := hb.out.openB hb3
  rw [Hl.out] at k1
  have HO3 : Hid (w3.ownsRow w.heap.size 43 5 v3 k (flat (l.take k))) := by show World.ownsRow _ _ _ _ _ _ _; simpa using hown
  have HB3 := hide hb3
  obtain ⟨a3, m3, c3, rfl⟩ : ∃ a m c, v3 = .slice a m c := by
    rcases hown.2 with ⟨e, _⟩ | ⟨g, cap, cur, e, _⟩
    · exact ⟨_, _, _, e⟩
    · exact ⟨_, _, _, e⟩
  clear hown hgrow hb3 hcell
  go_wp2_with (at_builtin; refine wpList_append_own _ rfl _ _ 22 rfl w.heap.size 43 i0 z0 5 40 Tryd.underlying22 Hi.out Hz0.out Hz1.out Hz2.out Hz3.out (by decide) _ _ _ rfl HO3.out A (n - (k + 1)) (cap - (k + 1)) (flat (l.drop (k + 1))) rfl HL2.out (fun j u hj => cell_later HB3.out (hsrc.out j u hj)) (flat_one _) (by unfold maxLen; omega) (by omega) HB3.out.size ?_)
  intro v4 w4 hown hgrow _
  have hb4 : Below w.heap.size w w4 := HB3.out.grown hgrow HB3.out.size (fun j hj => (HO3.out.lt j hj).1)
  obtain ⟨k3, k4⟩ := hb.out.openB hb4
  rw [Hl.out] at k3
  have hd : (Bk.del l k).length = k + (n - (k + 1)) := by rw [Bk.del_length (by rw [Hl.out]; exact hk), Hl.out]; omega
  have hrow4 : w4.ownsRow w.heap.size 43 5 v4 (Bk.del l k).length (flat (Bk.del l k)) := by
    rw [hd]
    unfold Bk.del
    rw [flat_append]
    exact hown
  have HAN := hide (hb.out.anew hb4 hrow4)
  rw [Hl.out] at HAN
  obtain ⟨a4, m4, c4, rfl⟩ : ∃ a m c, v4 = .slice a m c := by
    rcases hown.2 with ⟨e, _⟩ | ⟨g, cap, cur, e, _⟩
    · exact ⟨_, _, _, e⟩
    · exact ⟨_, _, _, e⟩
  clear hown hgrow hb4 k1 k2 hrow4 hd
  go_wp2
  go_end0
  exact ⟨rfl, _, HAN.out⟩

/-- an error's number as the document has it, of ours -/
def errNo : Nat → Int
  | 0 => 0
  | 1 => 2
  | 2 => 7
  | 3 => 8
  | _ => 6
set_option maxHeartbeats 1000000 in
theorem mcancel_any (p base : Nat) (v : Value) (id : Int) (l : List Cv.Lot) (w : World) (hb : Hid (MBook w base p v l)) (hn : Hid (l.length ≤ 60)) :
    Calls Tryd.prog 30 #[.pointer (some ⟨p, 0, none⟩), .int .i64 id] w fun e w' => e = .returned (.tuple #[lotV (Bk.canX l id), .int .i64 (errNo (Bk.canC l id))]) ∧ ∃ v', MBook w' base p v' (Bk.canL l id) ∧ Step w w' p v v' := by
  have hB2 : Below w.heap.size w (w.alloc (.cells #[.int .i64 0, .int .i64 0, .int .i64 0, .int .i64 0, .int .i64 0] 43)) := (Below.refl _ _).alloc (Nat.le_refl _) _
  have HB := hide hB2
  have HK := hide (hb.out.later hB2)
  have HF := hide (mfind_any p base v id l _ HK.out hn)
  have H43 : Hid ((w.alloc (.cells #[.int .i64 0, .int .i64 0, .int .i64 0, .int .i64 0, .int .i64 0] 43)).heap[w.heap.size]? = some (.cells #[.int .i64 0, .int .i64 0, .int .i64 0, .int .i64 0, .int .i64 0] 43 (0, 0))) := heap_alloc_new _ _
  clear hB2
  go_enter Tryd.func30, Tryd.ntmps30
  go_wp2_with fail
  refine HF.out.mono ?_
  rintro e w2 ⟨rfl, rfl⟩
  clear HF
  generalize w.alloc (.cells #[.int .i64 0, .int .i64 0, .int .i64 0, .int .i64 0, .int .i64 0] 43) = w2 at *
  cases hh : Cv.has l id with
  | false =>
    have Hh := hide hh
    rw [Bk.posI_none hh]
    have HC : Hid (Bk.canC l id = 4 ∧ Bk.canL l id = l ∧ Bk.canX l id = Cv.z) := by
      have e : Bk.canC l id = 4 := by unfold Bk.canC; rw [hh]; rfl
      exact ⟨e, by unfold Bk.canL; rw [e]; rfl, by unfold Bk.canX; rw [e]; rfl⟩
    clear hh
    have cs : ∀ j, j < 5 → w2.cell? ⟨w.heap.size, j, none⟩ = some (.int .i64 0) ∧ w2.frozen? ⟨w.heap.size, j, none⟩ = false := fun j hj => by
      refine ⟨?_, by simp [World.frozen?, H43.out]⟩
      simp only [World.cell?, H43.out]
      have : j = 0 ∨ j = 1 ∨ j = 2 ∨ j = 3 ∨ j = 4 := by omega
      rcases this with rfl | rfl | rfl | rfl | rfl <;> rfl
    have ⟨a0, f0⟩ := cs 0 (by decide); have ⟨a1, f1⟩ := cs 1 (by decide); have ⟨a2, f2⟩ := cs 2 (by decide); have ⟨a3, f3⟩ := cs 3 (by decide); have ⟨a4, f4⟩ := cs 4 (by decide)
    clear cs
    simp only []
    go_wp2
    refine bodyPost_ret (v := .tuple #[lotV Cv.z, .int .i64 6]) (by simp [results, Tryd.results30, go_sem, lotV, Cv.z, a0, a1, a2, a3, a4]) rfl ⟨?_, ?_⟩
    · rw [HC.out.1, HC.out.2.2]; rfl
    · have hb5 : Below w.heap.size w (((((w2.setCell ⟨w.heap.size, 0, none⟩ (.int .i64 0)).setCell ⟨w.heap.size, 1, none⟩ (.int .i64 0)).setCell ⟨w.heap.size, 2, none⟩ (.int .i64 0)).setCell ⟨w.heap.size, 3, none⟩ (.int .i64 0)).setCell ⟨w.heap.size, 4, none⟩ (.int .i64 0)) :=
        (((((HB.out.setCell (Nat.le_refl _) _).setCell (Nat.le_refl _) _).setCell (Nat.le_refl _) _).setCell (Nat.le_refl _) _).setCell (Nat.le_refl _) _)
      exact ⟨v, by rw [HC.out.2.1]; exact hb.out.later hb5, Step.of_below hb5 p v⟩
  | true =>
    have Hh := hide hh
    rw [Bk.posI_some hh]
    have hk := Bk.posI_lt hh
    have HC : Hid (Bk.canC l id = 0 ∧ Bk.canL l id = Bk.del l (Bk.pos l id) ∧ Bk.canX l id = Cv.nth l (Bk.pos l id)) := by
      have e : Bk.canC l id = 0 := by unfold Bk.canC; rw [hh]; rfl
      exact ⟨e, by unfold Bk.canL; rw [if_pos e], by unfold Bk.canX; rw [if_pos e]⟩
    clear hh
    have hcell := cell_of_one HK.out.cell
    rcases HK.out.form with ⟨_, hl⟩ | ⟨g, cap, rfl, hle, _, hl⟩
    · rw [hl] at hk; exact absurd hk (Nat.not_lt_zero _)
    obtain ⟨c0, c1, c2, c3, c4⟩ := hl _ hk
    have h60 : l.length ≤ 60 := hn.out
    have HRM := fun X => off_any p base (Bk.pos l id) _ l (w2.alloc (.cells X 43)) (HK.out.later ((Below.refl _ _).alloc (Nat.le_refl _) _)) hk hn
    have HRM := hide HRM
    obtain ⟨x, hx⟩ : ∃ x, Cv.nth l (Bk.pos l id) = x := ⟨_, rfl⟩
    rw [hx] at HC c0 c1 c2 c3 c4
    clear hx
    generalize Bk.pos l id = k at *
    have Hgp : Hid (p < w.heap.size ∧ g < w.heap.size) := ⟨hb.out.lt, (hb.out.rowLt g rfl).2⟩
    have hg : g < w2.heap.size := World.block_lt_of_cell? _ _ c0
    obtain ⟨n, hnn⟩ : ∃ n, l.length = n := ⟨_, rfl⟩
    rw [hnn] at hk hcell h60
    have hki : (k : Int) < n := by omega
    simp only [Nat.zero_add] at c0 c1 c2 c3 c4
    have Hnn := hide hnn
    clear hl hle hnn
    simp only []
    go_wp2_with fail
    refine (HRM.out _).mono ?_
    rintro e w3 ⟨rfl, v3, hk3, hs3⟩
    have hsz := HB.out.size
    have h43' : w3.heap[w.heap.size]? = some (.cells #[.int .i64 0, .int .i64 0, .int .i64 0, .int .i64 0, .int .i64 0] 43 (0, 0)) := by
      rw [hs3.only.block _ (by have := lt_of_block H43.out; simp; omega) (fun e => by have := Hgp.out.1; simp at e; omega) (fun e => by have := Hgp.out.2; simp [Value.ownBlock] at e; omega), heap_alloc_old _ _ (lt_of_block H43.out)]
      exact H43.out
    have h7 : w3.heap[w2.heap.size]? = some (.cells #[.int .i64 x.id, .int .i64 x.ow, .int .i64 x.sd, .int .i64 x.pr, .int .i64 x.q] 43 (0, 0)) := by
      rw [hs3.only.block _ (by simp) (fun e => by have := Hgp.out.1; simp at e; omega) (fun e => by have := Hgp.out.2; simp [Value.ownBlock] at e; omega), heap_alloc_new]
    have cs : ∀ j, j < 5 → w3.cell? ⟨w.heap.size, j, none⟩ = some (.int .i64 0) ∧ w3.frozen? ⟨w.heap.size, j, none⟩ = false := fun j hj => by
      refine ⟨?_, by simp [World.frozen?, h43']⟩
      simp only [World.cell?, h43']
      have : j = 0 ∨ j = 1 ∨ j = 2 ∨ j = 3 ∨ j = 4 := by omega
      rcases this with rfl | rfl | rfl | rfl | rfl <;> rfl
    have ⟨a0, f0⟩ := cs 0 (by decide); have ⟨a1, f1⟩ := cs 1 (by decide); have ⟨a2, f2⟩ := cs 2 (by decide); have ⟨a3, f3⟩ := cs 3 (by decide); have ⟨a4, f4⟩ := cs 4 (by decide)
    have b0 : w3.cell? ⟨w2.heap.size, 0, none⟩ = some (.int .i64 x.id) := by simp [World.cell?, h7]
    have b1 : w3.cell? ⟨w2.heap.size, 1, none⟩ = some (.int .i64 x.ow) := by simp [World.cell?, h7]
    have b2 : w3.cell? ⟨w2.heap.size, 2, none⟩ = some (.int .i64 x.sd) := by simp [World.cell?, h7]
    have b3 : w3.cell? ⟨w2.heap.size, 3, none⟩ = some (.int .i64 x.pr) := by simp [World.cell?, h7]
    have b4 : w3.cell? ⟨w2.heap.size, 4, none⟩ = some (.int .i64 x.q) := by simp [World.cell?, h7]
    have HS3 := hide hs3; have HK3 := hide hk3
    have HLT := hide (lt_of_block h43')
    clear cs hs3 hk3 h7 h43' hcell c0 c1 c2 c3 c4 hsz
    simp only []
    go_wp2
    refine bodyPost_ret (v := .tuple #[lotV x, .int .i64 0]) (by simp [results, Tryd.results30, go_sem, lotV, a0, a1, a2, a3, a4]) rfl ⟨?_, ?_⟩
    · rw [HC.out.1, HC.out.2.2]; rfl
    · have hst := (Step.of_below ((HB.out.alloc HB.out.size (.cells #[.int .i64 x.id, .int .i64 x.ow, .int .i64 x.sd, .int .i64 x.pr, .int .i64 x.q] 43))) p _).trans HS3.out
      have hne : v3.ownBlock ≠ some w.heap.size := fun e => by
        rcases HS3.out.new _ e with h | h
        · have := Hgp.out.2; simp [Value.ownBlock] at h; omega
        · have := lt_of_block H43.out; simp at h; omega
      have hnp : w.heap.size ≠ p := by have := Hgp.out.1; omega
      refine ⟨v3, ?_, ((((hst.setNew (Nat.le_refl _) _ _).setNew (Nat.le_refl _) _ _).setNew (Nat.le_refl _) _ _).setNew (Nat.le_refl _) _ _).setNew (Nat.le_refl _) _ _⟩
      rw [HC.out.2.1]
      exact ((((HK3.out.setOther hnp hne _ _).setOther hnp hne _ _).setOther hnp hne _ _).setOther hnp hne _ _).setOther hnp hne _ _
end Go.Proofs.YtbcinejhipmomaaDoor
