/- The law RationFills, for all lots. -/
import Derived.Test.YtbcinejhipmomaaDoorRaFillsOf
import Derived.Test.YtbcinejhipmomaaDoorCvFaulted
namespace Go.Proofs.YtbcinejhipmomaaDoor
open Go.RowKit
set_option maxRecDepth 100000

theorem sent_c2 {w : World} {ad : Nat → Addr} (h : Sent w ad) : w.cell? ⟨4, 0, none⟩ = some (.iface 177 (.pointer (some (ad 2)))) := h.cell 2 (by decide)
theorem rationed_sent {ad : Nat → Addr} {w : World} (h : Sent w ad) : Calls Tryd.prog 9 #[] w fun e w' => e = .returned (.bool true) ∧ Below w.heap.size w w' :=
  rationed_any 177 _ _ _ _ w (sent_er h) (sent_c2 h)

set_option maxHeartbeats 400000 in
theorem rf_big (a : Option Addr) (n cap : Nat) (price vol s : Int) (ad : Nat → Addr) (w : World) (hs : Hid (Sent w ad)) (hn : (130 : Int) < n) :
    Calls Tryd.prog 3 #[.slice a n cap, .int .i64 price, .int .i64 vol, .int .u32 s] w fun e w' => e = .returned (.bool true) ∧ Below w.heap.size w w' := by
  go_enter Tryd.func3, Tryd.ntmps3
  go_wp2_with fail
  refine (rationed_sent hs.out).mono ?_
  rintro e w1 ⟨rfl, hb1⟩
  have HB1 := hide hb1
  clear hb1
  simp only []
  go_wp2
  go_ret
  exact ⟨rfl, HB1.out⟩

theorem ErrIs.later {w w' : World} {ad : Nat → Addr} {l : List Cv.Lot} {e : Value} {c at_ : Int} (h : ErrIs w ad l e c at_) (hb : Below w.heap.size w w') : ErrIs w' ad l e c at_ := by
  rcases h with h | h | ⟨h0, i, B, j, h1, h2, h3, h4, h5, h6, h7, h8, h9, h10⟩
  · exact .inl h
  · exact .inr (.inl h)
  · exact .inr (.inr ⟨h0, i, B, j, h1, h2, h3, h4, h5, h6, h7, h8, cell_later hb h9, cell_later hb h10⟩)
/-- Fills of lots that are not well -/
theorem fills_ill (v : Value) (l : List Cv.Lot) (price vol s : Int) (ad : Nat → Addr) (w : World) (hv : Lots w v l) (hs : Sent w ad) (hbad : ¬ Cv.Well l) :
    Calls Tryd.prog 10 #[v, .int .i64 price, .int .i64 vol, .int .u32 s] w fun e w' => ∃ U x, e = .returned (.tuple #[.slice none 0 0, .iface U x]) ∧ (∃ c at_, ErrIs w' ad l (.iface U x) c at_ ∧ 0 < c) ∧ Below w.heap.size w w' := by
  obtain ⟨a, n, cap, rfl⟩ := hv.form
  refine fills_err a n cap price vol s w (fun U x w' => (∃ c at_, ErrIs w' ad l (.iface U x) c at_ ∧ 0 < c) ∧ Below w.heap.size w w') ?_
  refine rcheck_err a n cap price vol w (fun U x w' => (∃ c at_, ErrIs w' ad l (.iface U x) c at_ ∧ 0 < c) ∧ Below w.heap.size w w') ?_
  refine (check_tells _ l ad w hv hs).mono ?_
  rintro e w' ⟨⟨x, c, at_, rfl, he⟩, hb⟩
  have he' := he
  rcases he' with ⟨_, rfl, rfl, _⟩ | ⟨h, _⟩ | ⟨_, i, B, j, _, _, _, _, rfl, _, _, rfl, _⟩
  · exact ⟨_, _, rfl, ⟨_, _, he, by omega⟩, hb⟩
  · exact absurd h hbad
  · exact ⟨_, _, rfl, ⟨_, _, he, by omega⟩, hb⟩

theorem own_later {w : World} {a : Option Addr} {n cap : Nat} {l : List Cv.Lot} (hn : l.length = n) (hn' : ¬ (130 : Int) < n) (hl : ArgLots w a l) (W : World) (hb : Below w.heap.size w W) : Calls Tryd.prog 11 #[.slice a n cap] W fun e w' => ∃ v, e = .returned v ∧ Lots w' v l ∧ Below W.heap.size W w' := by
  subst hn
  refine (own_any a cap l W (by omega) ?_).mono fun e w' ⟨v, h1, h2, _, h4⟩ => ⟨v, h1, h2, h4⟩
  rcases hl with h | ⟨g, h1, h2⟩
  · exact .inl h
  · exact .inr ⟨g, h1, fun j u hu => cell_later hb (h2 j u hu)⟩

set_option maxHeartbeats 1000000 in
theorem rf_ill (a : Option Addr) (n cap : Nat) (price vol s : Int) (l : List Cv.Lot) (ad : Nat → Addr) (w : World) (hs : Hid (Sent w ad)) (hn : Hid (l.length = n)) (hn' : ¬ (130 : Int) < n) (hl : Hid (ArgLots w a l)) (hbad : Hid (¬ Cv.Well l)) :
    Calls Tryd.prog 3 #[.slice a n cap, .int .i64 price, .int .i64 vol, .int .u32 s] w fun e w' => e = .returned (.bool true) ∧ Below w.heap.size w w' := by
  have HCA : Hid (Came w (.slice a n cap) l) := by rw [← hn.out]; exact came_of hl.out
  have HOWN : Hid (∀ W, Below w.heap.size w W → Calls Tryd.prog 11 #[.slice a n cap] W fun e w' => ∃ v, e = .returned v ∧ Lots w' v l ∧ Below W.heap.size W w') := own_later hn.out hn' hl.out
  go_enter Tryd.func3, Tryd.ntmps3
  go_wp2_with fail
  refine (rationed_sent hs.out).mono ?_
  rintro e w1 ⟨rfl, hb1⟩
  have HB1 := hide hb1
  clear hb1
  simp only []
  go_wp2_with fail
  refine (HOWN.out w1 HB1.out).mono ?_
  rintro e w2 ⟨v2, rfl, hlo, hb2⟩
  have HB2 := hide (HB1.out.trans (hb2.mono HB1.out.size)); have HLO := hide hlo
  clear hb2 hlo
  simp only []
  go_wp2_with fail
  refine (fills_ill v2 l price vol s ad w2 HLO.out (hs.out.later HB2.out) hbad.out).mono ?_
  rintro e w3 ⟨U, x, rfl, ⟨c, at_, hei, hc⟩, hb3⟩
  have HB3 := hide (HB2.out.trans (hb3.mono HB2.out.size)); have HEI := hide hei
  clear hb3 hei
  simp only []
  go_wp2_with fail
  refine (lotsFault_tells _ l w3 (HCA.out.later HB3.out)).mono ?_
  rintro e w4 ⟨⟨c', at', rfl, hsame⟩, hb4⟩
  obtain ⟨rfl, rfl⟩ := hsame w3 ad _ _ _ HEI.out
  have HB4 := hide (HB3.out.trans (hb4.mono HB3.out.size))
  have HE4 := hide (HEI.out.later hb4)
  clear hb4 hsame HEI
  have hcb : (c == 0) = false := by simp; omega
  simp only []
  go_wp2_with fail
  have hb5 : Below w4.heap.size w4 (w4.alloc (.cells #[.int .i64 c, .int .i64 at_] 32)) := (Below.refl _ _).alloc (Nat.le_refl _) _
  refine (faulted_tells _ l c at_ ad _ (hs.out.later (HB4.out.trans (hb5.mono HB4.out.size))) (HE4.out.later hb5)).mono ?_
  rintro e w6 ⟨rfl, hb6⟩
  have HB6 := hide (HB4.out.trans ((hb5.trans (hb6.mono hb5.size)).mono HB4.out.size))
  clear hb5 hb6 HE4
  simp only []
  go_wp2
  go_ret
  exact ⟨rfl, HB6.out⟩

/-- Fills at a price, or of a volume, that is out of bounds; or of more than there is -/
theorem fills_bnd (v : Value) (l : List Cv.Lot) (price vol s : Int) (ad : Nat → Addr) (w : World) (hv : Lots w v l) (hs : Sent w ad) (hw : Cv.Well l) (hb : ¬ (1 ≤ price ∧ price ≤ 1000) ∨ vol < 0) :
    Calls Tryd.prog 10 #[v, .int .i64 price, .int .i64 vol, .int .u32 s] w fun e w' => ∃ U x, e = .returned (.tuple #[.slice none 0 0, .iface U x]) ∧ (U = 177 ∧ x = .pointer (some (ad 1))) ∧ Below w.heap.size w w' := by
  obtain ⟨a, n, cap, rfl⟩ := hv.form
  refine fills_err a n cap price vol s w (fun U x w' => (U = 177 ∧ x = .pointer (some (ad 1))) ∧ Below w.heap.size w w') ?_
  exact (rcheck_bound a n cap price vol 177 _ w (check_well _ l 177 _ _ _ w hv (sent_er hs) hw) (sent_er hs).c1 hb).mono fun e w' ⟨h1, h2⟩ => ⟨177, _, h1, ⟨rfl, rfl⟩, h2⟩
theorem fills_shp (v : Value) (l : List Cv.Lot) (price vol s : Int) (ad : Nat → Addr) (w : World) (hv : Lots w v l) (hs : Sent w ad) (hw : Cv.Well l) (hp : 1 ≤ price ∧ price ≤ 1000) (h0 : ¬ vol < 0) (hm : Cv.volume l price < vol) :
    Calls Tryd.prog 10 #[v, .int .i64 price, .int .i64 vol, .int .u32 s] w fun e w' => ∃ U x, e = .returned (.tuple #[.slice none 0 0, .iface U x]) ∧ (U = 177 ∧ x = .pointer (some (ad 2))) ∧ Below w.heap.size w w' := by
  obtain ⟨a, n, cap, rfl⟩ := hv.form
  refine fills_err a n cap price vol s w (fun U x w' => (U = 177 ∧ x = .pointer (some (ad 2))) ∧ Below w.heap.size w w') ?_
  have := rcheck_more a n cap price vol (Cv.volume l price) 177 _ w (check_well _ l 177 _ _ _ w hv (sent_er hs) hw) (sent_c2 hs) (by show Wi.withinB price 1 1000 = true; simp [Wi.withinB, hp]) h0 (fun w1 hb => volume_any _ l price 177 _ _ _ w1 (hv.later hb) (sent_er (hs.later hb)) hw)
  rw [if_pos hm] at this
  exact this.mono fun e w' ⟨h1, h2⟩ => ⟨177, _, h1, ⟨rfl, rfl⟩, h2⟩
theorem fault_well {l : List Cv.Lot} (v : Value) (w : World) (hv : Came w v l) (hw : Cv.Well l) : Calls Tryd.prog 12 #[v] w fun e w' => e = .returned (.agg #[.int .i64 0, .int .i64 (-1)]) ∧ Below w.heap.size w w' := by
  refine (lotsFault_tells v l w hv).mono ?_
  rintro e w' ⟨⟨c, at_, rfl, h⟩, hb⟩
  obtain ⟨rfl, rfl⟩ := h w (fun _ => ⟨0, 0, none⟩) .nilIface 0 (-1) (.inr (.inl ⟨hw, rfl, rfl, rfl⟩))
  exact ⟨rfl, hb⟩

set_option maxHeartbeats 1000000 in
theorem rf_bnd (a : Option Addr) (n cap : Nat) (price vol s : Int) (l : List Cv.Lot) (ad : Nat → Addr) (w : World) (hs : Hid (Sent w ad)) (hn : Hid (l.length = n)) (hn' : ¬ (130 : Int) < n) (hl : Hid (ArgLots w a l)) (hw : Hid (Cv.Well l)) (hb : price < 1 ∨ (¬ price < 1 ∧ 1000 < price) ∨ (¬ price < 1 ∧ ¬ 1000 < price ∧ vol < 0)) :
    Calls Tryd.prog 3 #[.slice a n cap, .int .i64 price, .int .i64 vol, .int .u32 s] w fun e w' => e = .returned (.bool true) ∧ Below w.heap.size w w' := by
  have HBD : Hid (¬ (1 ≤ price ∧ price ≤ 1000) ∨ vol < 0) := by
    rcases hb with h | h | h
    · exact .inl (by omega)
    · exact .inl (by omega)
    · exact .inr (by omega)
  have HCA : Hid (Came w (.slice a n cap) l) := by rw [← hn.out]; exact came_of hl.out
  have HOWN : Hid (∀ W, Below w.heap.size w W → Calls Tryd.prog 11 #[.slice a n cap] W fun e w' => ∃ v, e = .returned v ∧ Lots w' v l ∧ Below W.heap.size W w') := own_later hn.out hn' hl.out
  go_enter Tryd.func3, Tryd.ntmps3
  go_wp2_with fail
  refine (rationed_sent hs.out).mono ?_
  rintro e w1 ⟨rfl, hb1⟩
  have HB1 := hide hb1
  clear hb1
  simp only []
  go_wp2_with fail
  refine (HOWN.out w1 HB1.out).mono ?_
  rintro e w2 ⟨v2, rfl, hlo, hb2⟩
  have HB2 := hide (HB1.out.trans (hb2.mono HB1.out.size)); have HLO := hide hlo
  clear hb2 hlo
  simp only []
  go_wp2_with fail
  refine (fills_bnd v2 l price vol s ad w2 HLO.out (hs.out.later HB2.out) hw.out HBD.out).mono ?_
  rintro e w3 ⟨U, x, rfl, ⟨rfl, rfl⟩, hb3⟩
  have HB3 := hide (HB2.out.trans (hb3.mono HB2.out.size))
  clear hb3
  simp only []
  go_wp2_with fail
  refine (fault_well _ w3 (HCA.out.later HB3.out) hw.out).mono ?_
  rintro e w4 ⟨rfl, hb4⟩
  have HB4 := hide (HB3.out.trans (hb4.mono HB3.out.size))
  clear hb4
  simp only []
  rcases hb with hb | ⟨hb1, hb⟩ | ⟨hb1, hb2, hb⟩
  all_goals
    go_wp2_with fail
    refine (bare_any 2 _).mono ?_
    rintro e w5 ⟨rfl, hb5⟩
    have HB5 : Hid (Below w.heap.size w w5) := (HB4.out.alloc HB4.out.size _).trans (hb5.mono (by have := HB4.out.size; simp; omega))
    have d0 : w5.cell? ⟨w4.heap.size, 0, none⟩ = some (.int .i64 0) := by rw [hb5.cell (p := ⟨w4.heap.size, 0, none⟩) (by simp)]; simp
    have d1 : w5.cell? ⟨w4.heap.size, 1, none⟩ = some (.int .i64 (-1)) := by rw [hb5.cell (p := ⟨w4.heap.size, 1, none⟩) (by simp)]; simp
    have e0 : w5.frozen? ⟨w4.heap.size, 0, none⟩ = false := by rw [hb5.frozen (p := ⟨w4.heap.size, 0, none⟩) (by simp)]; simp
    have e1 : w5.frozen? ⟨w4.heap.size, 1, none⟩ = false := by rw [hb5.frozen (p := ⟨w4.heap.size, 1, none⟩) (by simp)]; simp
    clear hb5
    simp only []
    go_wp2_with fail
    have HB6 : Hid (Below w.heap.size w ((w5.setCell ⟨w4.heap.size, 0, none⟩ (.int .i64 2)).setCell ⟨w4.heap.size, 1, none⟩ (.int .i64 (-1)))) := (HB5.out.setCell HB4.out.size _).setCell HB4.out.size _
    refine (faulted_of (.iface 177 (.pointer (some (ad 1)))) 2 (-1) _ fun W hW => code_sent 1 (by decide) ad W (hs.out.later (HB6.out.trans (hW.mono HB6.out.size)))).mono ?_
    rintro e w7 ⟨rfl, hb7⟩
    have HB7 := hide (HB6.out.trans (hb7.mono HB6.out.size))
    clear hb7 HB6
    simp only []
    go_wp2
    go_ret
    exact ⟨rfl, HB7.out⟩

set_option maxHeartbeats 1000000 in
theorem rf_shp (a : Option Addr) (n cap : Nat) (price vol s : Int) (l : List Cv.Lot) (ad : Nat → Addr) (w : World) (hs : Hid (Sent w ad)) (hn : Hid (l.length = n)) (hn' : ¬ (130 : Int) < n) (hl : Hid (ArgLots w a l)) (hw : Hid (Cv.Well l)) (h1 : ¬ price < 1) (h2 : ¬ 1000 < price) (h3 : ¬ vol < 0) (hm : Cv.volume l price < vol) :
    Calls Tryd.prog 3 #[.slice a n cap, .int .i64 price, .int .i64 vol, .int .u32 s] w fun e w' => e = .returned (.bool true) ∧ Below w.heap.size w w' := by
  have HP : Hid (1 ≤ price ∧ price ≤ 1000) := by show _ ∧ _; omega
  have HM := hide hm; have H3 := hide h3
  obtain ⟨most, hmost⟩ : ∃ most, Cv.volume l price = most := ⟨_, rfl⟩
  rw [hmost] at hm
  have HMO := hide hmost
  clear hmost
  have HCA : Hid (Came w (.slice a n cap) l) := by rw [← hn.out]; exact came_of hl.out
  have HOWN : Hid (∀ W, Below w.heap.size w W → Calls Tryd.prog 11 #[.slice a n cap] W fun e w' => ∃ v, e = .returned v ∧ Lots w' v l ∧ Below W.heap.size W w') := own_later hn.out hn' hl.out
  go_enter Tryd.func3, Tryd.ntmps3
  go_wp2_with fail
  refine (rationed_sent hs.out).mono ?_
  rintro e w1 ⟨rfl, hb1⟩
  have HB1 := hide hb1
  clear hb1
  simp only []
  go_wp2_with fail
  refine (HOWN.out w1 HB1.out).mono ?_
  rintro e w2 ⟨v2, rfl, hlo, hb2⟩
  have HB2 := hide (HB1.out.trans (hb2.mono HB1.out.size)); have HLO := hide hlo
  clear hb2 hlo
  simp only []
  go_wp2_with fail
  refine (fills_shp v2 l price vol s ad w2 HLO.out (hs.out.later HB2.out) hw.out HP.out (by have := H3.out; omega) HM.out).mono ?_
  rintro e w3 ⟨U, x, rfl, ⟨rfl, rfl⟩, hb3⟩
  have HB3 := hide (HB2.out.trans (hb3.mono HB2.out.size))
  clear hb3
  simp only []
  go_wp2_with fail
  refine (fault_well _ w3 (HCA.out.later HB3.out) hw.out).mono ?_
  rintro e w4 ⟨rfl, hb4⟩
  have HB4 := hide (HB3.out.trans (hb4.mono HB3.out.size))
  clear hb4
  simp only []
  go_wp2_with fail
  have HBA : Hid (Below w.heap.size w (w4.alloc (.cells #[.int .i64 0, .int .i64 (-1)] 32))) := HB4.out.alloc HB4.out.size _
  refine (volumeOf_any _ l price _ (HCA.out.later HBA.out) hw.out).mono ?_
  rintro e w5 ⟨rfl, rfl⟩
  rw [HMO.out]
  simp only []
  all_goals
    go_wp2_with fail
    refine (bare_any 3 _).mono ?_
    rintro e w5 ⟨rfl, hb5⟩
    have HB5 : Hid (Below w.heap.size w w5) := (HB4.out.alloc HB4.out.size _).trans (hb5.mono (by have := HB4.out.size; simp; omega))
    have d0 : w5.cell? ⟨w4.heap.size, 0, none⟩ = some (.int .i64 0) := by rw [hb5.cell (p := ⟨w4.heap.size, 0, none⟩) (by simp)]; simp
    have d1 : w5.cell? ⟨w4.heap.size, 1, none⟩ = some (.int .i64 (-1)) := by rw [hb5.cell (p := ⟨w4.heap.size, 1, none⟩) (by simp)]; simp
    have e0 : w5.frozen? ⟨w4.heap.size, 0, none⟩ = false := by rw [hb5.frozen (p := ⟨w4.heap.size, 0, none⟩) (by simp)]; simp
    have e1 : w5.frozen? ⟨w4.heap.size, 1, none⟩ = false := by rw [hb5.frozen (p := ⟨w4.heap.size, 1, none⟩) (by simp)]; simp
    clear hb5
    simp only []
    go_wp2_with fail
    have HB6 : Hid (Below w.heap.size w ((w5.setCell ⟨w4.heap.size, 0, none⟩ (.int .i64 3)).setCell ⟨w4.heap.size, 1, none⟩ (.int .i64 (-1)))) := (HB5.out.setCell HB4.out.size _).setCell HB4.out.size _
    refine (faulted_of (.iface 177 (.pointer (some (ad 2)))) 3 (-1) _ fun W hW => code_sent 2 (by decide) ad W (hs.out.later (HB6.out.trans (hW.mono HB6.out.size)))).mono ?_
    rintro e w7 ⟨rfl, hb7⟩
    have HB7 := hide (HB6.out.trans (hb7.mono HB6.out.size))
    clear hb7 HB6
    simp only []
    go_wp2
    go_ret
    exact ⟨rfl, HB7.out⟩

set_option maxHeartbeats 1000000 in
theorem rf_fine (a : Option Addr) (n cap : Nat) (price vol s : Int) (l : List Cv.Lot) (ad : Nat → Addr) (w : World) (hs : Hid (Sent w ad)) (hn : Hid (l.length = n)) (hn' : ¬ (130 : Int) < n) (hl : Hid (ArgLots w a l)) (hf : Hid (Ra.Fine l price vol)) (hu : Hid (Ra.IsU s)) :
    Calls Tryd.prog 3 #[.slice a n cap, .int .i64 price, .int .i64 vol, .int .u32 s] w fun e w' => e = .returned (.bool true) ∧ Below w.heap.size w w' := by
  have h1 : ¬ price < 1 := by have := hf.out.2.1; omega
  have h2 : ¬ 1000 < price := by have := hf.out.2.1; omega
  have h3 : ¬ vol < 0 := by have := hf.out.2.2.1; omega
  have hm := hf.out.2.2.2
  obtain ⟨most, hmost⟩ : ∃ most, Cv.volume l price = most := ⟨_, rfl⟩
  rw [hmost] at hm
  have hm' : ¬ most < vol := by omega
  have HMO := hide hmost
  clear hmost hm
  have HLEN : Hid ((Ra.fills s l price vol).length ≤ 1000) := by
    have := Ra.fills_length s hf.out
    show (Ra.side s l 0 price vol ++ Ra.side (Ra.nextSeed s) l 1 price vol).length ≤ 1000
    rw [List.length_append]; omega
  have HCA : Hid (Came w (.slice a n cap) l) := by rw [← hn.out]; exact came_of hl.out
  have HOWN : Hid (∀ W, Below w.heap.size w W → Calls Tryd.prog 11 #[.slice a n cap] W fun e w' => ∃ v, e = .returned v ∧ Lots w' v l ∧ Below W.heap.size W w') := own_later hn.out hn' hl.out
  go_enter Tryd.func3, Tryd.ntmps3
  go_wp2_with fail
  refine (rationed_sent hs.out).mono ?_
  rintro e w1 ⟨rfl, hb1⟩
  have HB1 := hide hb1
  clear hb1
  simp only []
  go_wp2_with fail
  refine (HOWN.out w1 HB1.out).mono ?_
  rintro e w2 ⟨v2, rfl, hlo, hb2⟩
  have HB2 := hide (HB1.out.trans (hb2.mono HB1.out.size)); have HLO := hide hlo
  clear hb2 hlo
  simp only []
  go_wp2_with fail
  refine (fills_fine v2 l price vol s 177 _ _ _ _ w2 HLO.out (sent_er (hs.out.later HB2.out)) (sent_c2 (hs.out.later HB2.out)) hf.out hu.out).mono ?_
  rintro e w3 ⟨vx, rfl, hfx, hb3⟩
  have HB3 := hide (HB2.out.trans (hb3.mono HB2.out.size)); have HFX := hide hfx
  clear hb3 hfx
  simp only []
  go_wp2_with fail
  refine (fault_well _ w3 (HCA.out.later HB3.out) hf.out.1).mono ?_
  rintro e w4 ⟨rfl, hb4⟩
  have HB4 := hide (HB3.out.trans (hb4.mono HB3.out.size)); have HF4 := hide (HFX.out.later hb4)
  clear hb4 HFX
  simp only []
  go_wp2_with fail
  have hba : Below w4.heap.size w4 (w4.alloc (.cells #[.int .i64 0, .int .i64 (-1)] 32)) := (Below.refl _ _).alloc (Nat.le_refl _) _
  have HBA := hide (HB4.out.trans (hba.mono HB4.out.size)); have HFA := hide (HF4.out.later hba)
  refine (volumeOf_any _ l price _ (HCA.out.later HBA.out) hf.out.1).mono ?_
  rintro e w5 ⟨rfl, rfl⟩
  rw [HMO.out]
  clear hba HF4
  simp only []
  go_wp2_with fail
  refine (fillsOf_any _ price vol s l _ (HCA.out.later HBA.out) hf.out hu.out).mono ?_
  rintro e w6 ⟨vy, rfl, hfy, hb6⟩
  have HB6 := hide (HBA.out.trans (hb6.mono HBA.out.size)); have HFY := hide hfy; have HF6 := hide (HFA.out.later hb6)
  clear hfy hb6 HFA HBA
  simp only []
  go_wp2_with fail
  refine (sameFills_any _ _ _ w6 HF6.out HFY.out HLEN.out).mono ?_
  rintro e w7 ⟨rfl, hb7⟩
  have HB7 := hide (HB6.out.trans (hb7.mono HB6.out.size))
  clear hb7 HB6
  simp only []
  go_wp2
  go_ret
  exact ⟨rfl, HB7.out⟩

theorem rationFills_any (a : Option Addr) (n cap : Nat) (price vol s : Int) (l : List Cv.Lot) (ad : Nat → Addr) (w : World) (hs : Sent w ad) (hl : l.length = n ∧ ArgLots w a l) (hu : Ra.IsU s) :
    Calls Tryd.prog 3 #[.slice a n cap, .int .i64 price, .int .i64 vol, .int .u32 s] w fun e w' => e = .returned (.bool true) ∧ Below w.heap.size w w' := by
  by_cases hn : (130 : Int) < n
  · exact rf_big a n cap price vol s ad w hs hn
  by_cases hw : Cv.Well l
  · by_cases h1 : price < 1
    · exact rf_bnd a n cap price vol s l ad w hs hl.1 hn hl.2 hw (.inl h1)
    by_cases h2 : 1000 < price
    · exact rf_bnd a n cap price vol s l ad w hs hl.1 hn hl.2 hw (.inr (.inl ⟨h1, h2⟩))
    by_cases h3 : vol < 0
    · exact rf_bnd a n cap price vol s l ad w hs hl.1 hn hl.2 hw (.inr (.inr ⟨h1, h2, h3⟩))
    by_cases h4 : Cv.volume l price < vol
    · exact rf_shp a n cap price vol s l ad w hs hl.1 hn hl.2 hw h1 h2 h3 h4
    · exact rf_fine a n cap price vol s l ad w hs hl.1 hn hl.2 ⟨hw, by omega, by omega, by omega⟩ hu
  · exact rf_ill a n cap price vol s l ad w hs hl.1 hn hl.2 hw
end Go.Proofs.YtbcinejhipmomaaDoor
