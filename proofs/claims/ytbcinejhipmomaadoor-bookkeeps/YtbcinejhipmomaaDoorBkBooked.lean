/- Owner of a book, SameInts, and the closed fact 'booked' by their contracts. -/
import Derived.Test.YtbcinejhipmomaaDoorBkAdd
namespace Go.Proofs.YtbcinejhipmomaaDoor
open Go.RowKit
set_option maxRecDepth 100000

/-- a slice that holds numbers -/
def Ints (w : World) (v : Value) (ps : List Int) : Prop :=
  (ps = [] ∧ ∃ a cap, v = .slice a 0 cap) ∨ ∃ b off cap, v = .slice (some ⟨b, off, none⟩) ps.length cap ∧ ∀ i, i < ps.length → w.cell? ⟨b, off + i, none⟩ = some (.int .i64 (ps.getD i 0))
theorem Ints.later {w w' : World} {v : Value} {ps : List Int} (h : Ints w v ps) (hb : Below w.heap.size w w') : Ints w' v ps := by
  rcases h with h | ⟨b, off, cap, h1, h2⟩
  · exact .inl h
  · exact .inr ⟨b, off, cap, h1, fun i hi => cell_later hb (h2 i hi)⟩
theorem ints_none (c1 c2 : Nat) (a1 a2 : Option Addr) (w : World) : Calls Tryd.prog 36 #[.slice a1 0 c1, .slice a2 0 c2] w fun e w' => e = .returned (.bool true) ∧ Below w.heap.size w w' := by
  go_enter Tryd.func36, Tryd.ntmps36
  go_wp2
  refine wp_loop_rounds 1 ?_
  rw [rounds_succ]
  go_wp2
  go_ret
  exact ⟨rfl, Below.refl _ _⟩
set_option maxHeartbeats 1000000 in
theorem ints_cells (b1 o1 b2 o2 c1 c2 n : Nat) (zs : List Int) (w : World) (hn : n ≤ 1000)
    (h1 : Hid (∀ i, i < n → w.cell? ⟨b1, o1 + i, none⟩ = some (.int .i64 (zs.getD i 0)))) (h2 : Hid (∀ i, i < n → w.cell? ⟨b2, o2 + i, none⟩ = some (.int .i64 (zs.getD i 0)))) :
    Calls Tryd.prog 36 #[.slice (some ⟨b1, o1, none⟩) n c1, .slice (some ⟨b2, o2, none⟩) n c2] w fun e w' => e = .returned (.bool true) ∧ Below w.heap.size w w' := by
  go_enter Tryd.func36, Tryd.ntmps36
  go_wp2
  go_loopw [5] (fun i wr => ∃ k : Nat, k ≤ n ∧ i = .int .i64 k ∧ Below w.heap.size w wr) (fun i _ => n - (intOf i).toNat)
  case atStart => exact ⟨0, by omega, rfl, Below.refl _ _⟩
  case round =>
    obtain ⟨k, hk, rfl, hb⟩ := hrel
    have HB := hide hb
    clear hb
    by_cases hlt : k < n
    · have e1 := cell_later HB.out (h1.out k hlt)
      have e2 := cell_later HB.out (h2.out k hlt)
      have hki : (k : Int) < n := by omega
      generalize zs.getD k 0 = z at *
      go_wp2
      go_quiet (fail)
      go_wp2
      exact ⟨⟨k + 1, by omega, by go_num, HB.out.trans ((blw_drew nq).mono HB.out.size)⟩, by simp [intOf]; omega⟩
    · go_wp2
      go_ret
      exact ⟨rfl, HB.out⟩
theorem ints_any (v1 v2 : Value) (zs : List Int) (w : World) (hn : zs.length ≤ 1000) (h1 : Ints w v1 zs) (h2 : Ints w v2 zs) : Calls Tryd.prog 36 #[v1, v2] w fun e w' => e = .returned (.bool true) ∧ Below w.heap.size w w' := by
  rcases h1 with ⟨rfl, a1, c1, rfl⟩ | ⟨b1, o1, c1, rfl, h1⟩
  · rcases h2 with ⟨_, a2, c2, rfl⟩ | ⟨b2, o2, c2, rfl, _⟩
    · exact ints_none c1 c2 a1 a2 w
    · exact ints_none c1 c2 a1 _ w
  · rcases h2 with ⟨rfl, a2, c2, rfl⟩ | ⟨b2, o2, c2, rfl, h2⟩
    · exact ints_none c1 c2 _ a2 w
    · exact ints_cells b1 o1 b2 o2 c1 c2 _ zs w hn h1 h2
def iV (zs : List Int) : List Value := zs.map (Value.int .i64)
theorem ints_of {w : World} {base n : Nat} {v : Value} {ps : List Int} (hn : n = ps.length) (h : w.ownsRow base 3 1 v n (iV ps)) : Ints w v ps := by
  subst hn
  rcases h.2 with ⟨hv, h0⟩ | ⟨g, cap', cur, hv, hbg, hgg, hnc, hcm, _, _⟩
  · exact .inl ⟨List.eq_nil_of_length_eq_zero h0, none, 0, hv⟩
  · refine .inr ⟨g, 0, cap', hv, fun j hj => ?_⟩
    have hc := World.ownsRow.cells h (g := g) (by rw [hv]; rfl) j (.int .i64 (ps.getD j 0)) (by simp [iV, hj])
    have hp : (⟨g, 0, none⟩ : Addr).add j = ⟨g, j, none⟩ := by unfold Addr.add; split <;> simp_all
    rw [Nat.zero_add]
    rwa [hp] at hc
theorem info3 : ∃ i, Tryd.prog.info? 3 = some i ∧ i.zero = some (.int .i64 0) ∧ i.size = 1 ∧ i.bytes = 8 := ⟨_, rfl, rfl, rfl, rfl⟩
def Bk.ids (l : List Cv.Lot) (n : Int) : List Int := (l.filter fun x => x.ow == n).map (·.id)
theorem Bk.ids_snoc (l : List Cv.Lot) (x : Cv.Lot) (n : Int) : Bk.ids (l ++ [x]) n = Bk.ids l n ++ (if x.ow = n then [x.id] else []) := by
  unfold Bk.ids
  by_cases h : x.ow = n
  · simp [h]
  · simp [h]
theorem Bk.ids_length (l : List Cv.Lot) (n : Int) : (Bk.ids l n).length ≤ l.length := by
  unfold Bk.ids; rw [List.length_map]; exact List.length_filter_le _ _

set_option maxHeartbeats 1000000 in
theorem owner_some (p base g cap n : Nat) (ow : Int) (l : List Cv.Lot) (w : World) (hb : Hid (Book w base p (.slice (some ⟨g, 0, none⟩) n cap) l)) (hn : Hid (l.length = n)) (hn' : n ≤ 60) (hl : Hid (LotsAt w g 0 l)) :
    Calls Tryd.prog 37 #[.pointer (some ⟨p, 0, none⟩), .int .i64 ow] w fun e w' => ∃ v, e = .returned v ∧ Ints w' v (Bk.ids l ow) ∧ Below w.heap.size w w' := by
  have hcell := cell_of_one hb.out.cell
  have hpl := hb.out.lt
  obtain ⟨i0, hi, hz0, hz1, hz2⟩ := info3
  have Hi := hide hi; have Hz0 := hide hz0; have Hz1 := hide hz1; have Hz2 := hide hz2
  clear hi hz0 hz1 hz2
  go_enter Tryd.func37, Tryd.ntmps37
  go_wp2
  go_loopw [5, 13] (fun v i wr => ∃ (k : Nat) (zs : List Int), k ≤ n ∧ i = .int .i64 k ∧ zs = Bk.ids (l.take k) ow ∧ wr.ownsRow w.heap.size 3 1 v zs.length (iV zs) ∧ Below w.heap.size w wr) (fun _ i _ => n - (intOf i).toNat)
  case atStart => exact ⟨0, [], Nat.zero_le _, rfl, rfl, World.ownsRow_nil _ _ _ _, Below.refl _ _⟩
  case round =>
    obtain ⟨k, zs, hk, rfl, hzs, hown, hbl⟩ := hrel
    have HZ := hide hzs; have HB := hide hbl; have HO := hide hown
    clear hzs hown hbl
    by_cases hlt : k < n
    · have hki : (k : Int) < n := by omega
      obtain ⟨c0, c1, c2, c3, c4⟩ := (hl.out.later HB.out) k (by rw [hn.out]; exact hlt)
      simp only [Nat.zero_add] at c0 c1 c2 c3 c4
      have HT := hide (Cv.take_succ (l := l) (i := k) (by rw [hn.out]; exact hlt))
      generalize Cv.nth l k = x at *
      have HLZ : Hid (zs.length ≤ 60) := by
        have := Bk.ids_length (l.take k) ow
        rw [← HZ.out, List.length_take] at this
        show _ ≤ _
        omega
      by_cases hs : x.ow = ow
      · have hsb : (x.ow == ow) = true := by simp [hs]
        have HZ' : Hid (zs ++ [x.id] = Bk.ids (l.take (k + 1)) ow) := by show _ = _; rw [HT.out, Bk.ids_snoc, if_pos hs, HZ.out]
        clear hs
        go_wp2_with (at_builtin; refine wpList_append_own _ rfl _ _ 40 rfl w.heap.size 3 i0 (.int .i64 0) 1 8 Tryd.underlying40 Hi.out Hz0.out Hz1.out Hz2.out rfl (by decide) _ _ _ rfl ((HO.out.alloc _).alloc _) ⟨wr.heap.size + 1, 0, none⟩ 1 1 [.int .i64 x.id] rfl rfl ?c1 ?c2 ?c3 ?c4 ?c5 ?_)
        case c1 =>
          intro j u hj
          have h := cell_new1 (wr.alloc (.cells #[.int .i64 x.id, .int .i64 x.ow, .int .i64 x.sd, .int .i64 x.pr, .int .i64 x.q] 43)) #[.int .i64 x.id] 3 u j _ rfl hj
          rw [show (wr.alloc (.cells #[.int .i64 x.id, .int .i64 x.ow, .int .i64 x.sd, .int .i64 x.pr, .int .i64 x.q] 43)).heap.size = wr.heap.size + 1 by simp] at h
          exact h
        case c2 => intro u hu; have hu : u = .int .i64 x.id := by simpa using hu
                   rw [hu]; rfl
        case c3 => have := HLZ.out; unfold maxLen; omega
        case c4 => have := HLZ.out; omega
        case c5 => have := HB.out.size; simp; omega
        intro v3 w3 hown' hgrow _
        have HO3 : Hid (w3.ownsRow w.heap.size 3 1 v3 (zs ++ [x.id]).length (iV (zs ++ [x.id]))) := by
          show w3.ownsRow _ _ _ _ _ _
          rw [List.length_append]
          simpa [iV] using hown'
        have hlt3 := HO.out.lt
        have HB3 : Hid (Below w.heap.size w w3) := ((HB.out.alloc HB.out.size _).alloc (by have := HB.out.size; simp; omega) _).grown hgrow (by have := HB.out.size; simp; omega) (fun j hj => (hlt3 j hj).1)
        clear hown' hgrow HO hlt3
        go_wp2
        exact ⟨⟨k + 1, zs ++ [x.id], by omega, by go_num, HZ'.out, HO3.out, HB3.out⟩, by simp [intOf]; omega⟩
      · have hsb : (x.ow == ow) = false := by simp [hs]
        have HZ' : Hid (zs = Bk.ids (l.take (k + 1)) ow) := by show _ = _; rw [HT.out, Bk.ids_snoc, if_neg hs, List.append_nil, HZ.out]
        clear hs
        go_wp2
        exact ⟨⟨k + 1, zs, by omega, by go_num, HZ'.out, HO.out.alloc _, HB.out.alloc HB.out.size _⟩, by simp [intOf]; omega⟩
    · have hki : ¬ (k : Int) < n := by omega
      have hz := HZ.out
      rw [List.take_of_length_le (by rw [hn.out]; omega)] at hz
      have HZ' := hide hz
      clear hz
      go_wp2
      go_ret
      exact ⟨_, rfl, by rw [← HZ'.out]; exact ints_of rfl HO.out, HB.out⟩
theorem owner_none (p base : Nat) (ow : Int) (w : World) (hb : Hid (Book w base p (.slice none 0 0) [])) :
    Calls Tryd.prog 37 #[.pointer (some ⟨p, 0, none⟩), .int .i64 ow] w fun e w' => ∃ v, e = .returned v ∧ Ints w' v (Bk.ids [] ow) ∧ Below w.heap.size w w' := by
  have hcell := cell_of_one hb.out.cell
  go_enter Tryd.func37, Tryd.ntmps37
  go_wp2
  refine wp_loop_rounds 1 ?_
  rw [rounds_succ]
  go_wp2
  go_ret
  exact ⟨_, rfl, .inl ⟨rfl, _, _, rfl⟩, Below.refl _ _⟩
theorem owner_any (p base : Nat) (v : Value) (ow : Int) (l : List Cv.Lot) (w : World) (hb : Hid (Book w base p v l)) (hn : Hid (l.length ≤ 60)) :
    Calls Tryd.prog 37 #[.pointer (some ⟨p, 0, none⟩), .int .i64 ow] w fun e w' => ∃ v, e = .returned v ∧ Ints w' v (Bk.ids l ow) ∧ Below w.heap.size w w' := by
  rcases hb.out.form with ⟨rfl, rfl⟩ | ⟨g, cap, rfl, hle, _, hl⟩
  · exact owner_none p base ow w hb
  · exact owner_some p base g cap _ ow l w hb rfl hn.out hl

def x0 : Cv.Lot := ⟨7, 2, 0, 5, 3⟩
def x1 : Cv.Lot := ⟨7, 2, 0, 5, 2⟩
set_option maxHeartbeats 1000000 in
theorem booked_any (T : TypeId) (v1 v5 v6 v7 : Value) (w : World) (he : Hid (Er4 w T v1 v5 v6 v7)) :
    Calls Tryd.prog 21 #[] w fun e w' => e = .returned (.bool true) ∧ Below w.heap.size w w' := by
  have HBN := hide (book_new w w.heap.size (Nat.le_refl _))
  have HB0 : Hid (Below w.heap.size w (w.alloc (.cells #[.slice none 0 0] 92))) := (Below.refl _ _).alloc (Nat.le_refl _) _
  have HA := hide (add_any w.heap.size w.heap.size _ x0 [] T v1 v5 v6 v7 _ (he.out.later HB0.out) HBN.out (Nat.zero_le _))
  have eA : Bk.addC [] x0 = 0 := by decide
  have eL : Bk.addL [] x0 = [x0] := by unfold Bk.addL; rw [if_pos eA]; rfl
  rw [eA, eL] at HA
  clear eA eL
  unfold lotV x0 at HA
  go_enter Tryd.func21, Tryd.ntmps21
  go_wp2_with fail
  refine (newBook_any w).mono ?_
  rintro e w0 ⟨rfl, rfl⟩
  simp only []
  go_wp2_with fail
  refine HA.out.mono ?_
  rintro e w1 ⟨rfl, v, hk1, hs1⟩
  have HB1 : Hid (Below w.heap.size w w1) := HB0.out.trans (hs1.below HBN.out _ (Nat.le_refl _))
  have HK1 := hide hk1
  have HT := hide (take_any w.heap.size w.heap.size v 7 1 [x0] T v1 v5 v6 v7 w1 (he.out.later HB1.out) hk1 ⟨fun x hx => by rw [List.mem_singleton.1 hx]; decide, by decide, by simp [Ra.Once]⟩)
  have eA : Bk.takC [x0] 7 1 = 0 := by decide
  have eL : Bk.takL [x0] 7 1 = [x1] := by rfl
  rw [eA, eL] at HT
  clear eA eL hk1 hs1 HA
  unfold errOf
  simp only []
  go_wp2_with fail
  refine HT.out.mono ?_
  rintro e w2 ⟨rfl, v2, hk2, hs2⟩
  have HB2 : Hid (Below w.heap.size w w2) := HB1.out.trans (hs2.below HK1.out _ (Nat.le_refl _))
  have HK2 := hide hk2
  clear hk2 hs2 HT
  have HG := hide (get_any w.heap.size w.heap.size v2 7 [x1] w2 HK2.out (by show _ ≤ _; decide))
  have eG : Bk.getX [x1] 7 = x1 := by rfl
  have eH : Cv.has [x1] 7 = true := by decide
  rw [eG, eH] at HG
  unfold lotV x1 at HG
  clear eG eH
  unfold errOf
  simp only []
  go_wp2_with fail
  refine HG.out.mono ?_
  rintro e w3 ⟨rfl, hb3⟩
  have HB3 : Hid (Below w.heap.size w (w3.alloc (.cells #[.int .i64 7, .int .i64 2, .int .i64 0, .int .i64 5, .int .i64 2] 43))) := (HB2.out.trans (hb3.mono HB2.out.size)).alloc (HB2.out.trans (hb3.mono HB2.out.size)).size _
  have HK3 : Hid (Book (w3.alloc (.cells #[.int .i64 7, .int .i64 2, .int .i64 0, .int .i64 5, .int .i64 2] 43)) w.heap.size w.heap.size v2 [x1]) := HK2.out.later (hb3.alloc hb3.size _)
  clear hb3 HG
  simp only []
  go_wp2_with fail
  refine (owner_any w.heap.size w.heap.size v2 2 [x1] _ HK3.out (by show _ ≤ _; decide)).mono ?_
  rintro e w4 ⟨v4, rfl, hi4, hb4⟩
  have HB4 : Hid (Below w.heap.size w (w4.alloc (.cells #[.int .i64 7] 3))) := (HB3.out.trans (hb4.mono HB3.out.size)).alloc (HB3.out.trans (hb4.mono HB3.out.size)).size _
  have HS := hide (ints_any v4 (.slice (some ⟨w4.heap.size, 0, none⟩) 1 1) [7] (w4.alloc (.cells #[.int .i64 7] 3)) (by decide) (hi4.later ((Below.refl _ _).alloc (Nat.le_refl _) _)) (.inr ⟨_, 0, 1, rfl, fun i hi => by
    have : i = 0 := by simp at hi; omega
    subst this
    simp⟩))
  clear hi4 hb4
  simp only []
  go_wp2_with fail
  refine HS.out.mono ?_
  rintro e w5 ⟨rfl, hb5⟩
  have HB5 : Hid (Below w.heap.size w w5) := HB4.out.trans (hb5.mono HB4.out.size)
  clear hb5 HS
  simp only []
  go_wp2
  go_ret
  exact ⟨rfl, HB5.out⟩
end Go.Proofs.YtbcinejhipmomaaDoor
