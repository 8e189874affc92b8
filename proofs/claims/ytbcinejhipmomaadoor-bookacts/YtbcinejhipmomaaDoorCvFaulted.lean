/- What Check answers is what LotsFault says: faulted. -/
import Derived.Test.YtbcinejhipmomaaDoorCvFault
import Derived.Test.YtbcinejhipmomaaDoorCoded
namespace Go.Proofs.YtbcinejhipmomaaDoor
open Go.RowKit
set_option maxRecDepth 100000

set_option maxHeartbeats 400000 in
theorem faulted_of (err : Value) (c at_ : Int) (w : World) (HC : Hid (∀ W, Below w.heap.size w W → Calls Tryd.prog 48 #[err] W fun e w' => e = .returned (.tuple #[.int .i64 c, .int .i64 at_]) ∧ Below W.heap.size W w')) :
    Calls Tryd.prog 15 #[err, .agg #[.int .i64 c, .int .i64 at_]] w fun e w' => e = .returned (.bool true) ∧ Below w.heap.size w w' := by
  go_enter Tryd.func15, Tryd.ntmps15
  go_wp2_with fail
  refine (HC.out _ ((Below.refl _ w).alloc (Nat.le_refl _) _)).mono ?_
  rintro e w2 ⟨rfl, hb2⟩
  have HB2 : Hid (Below w.heap.size w w2) := ((Below.refl _ w).alloc (Nat.le_refl _) _).trans (hb2.mono (by simp))
  have d0 : w2.cell? ⟨w.heap.size, 0, none⟩ = some (.int .i64 c) := by rw [hb2.cell (p := ⟨w.heap.size, 0, none⟩) (by simp)]; simp
  have d1 : w2.cell? ⟨w.heap.size, 1, none⟩ = some (.int .i64 at_) := by rw [hb2.cell (p := ⟨w.heap.size, 1, none⟩) (by simp)]; simp
  clear hb2
  simp only []
  go_wp2
  all_goals go_ret
  all_goals exact ⟨ret_bool (by simp), HB2.out⟩

/-- the error of lots that are not well: its value -/
def ErrIs (w : World) (ad : Nat → Addr) (l : List Cv.Lot) (e : Value) (c : Int) (at_ : Int) : Prop :=
  (120 < l.length ∧ e = .iface 177 (.pointer (some (ad 7))) ∧ c = 8 ∧ at_ = -1) ∨ (Cv.Well l ∧ e = .nilIface ∧ c = 0 ∧ at_ = -1) ∨
  (l.length ≤ 120 ∧ ∃ i B j : Nat, i < l.length ∧ Cv.WellTo l i ∧ Cv.okAt l i = false ∧ j < 12 ∧ c = (j : Int) + 1 ∧ badE (Cv.nth l i) = c ∧ at_ = i ∧ e = .iface 103 (.pointer (some ⟨B, 0, none⟩)) ∧ w.cell? ⟨B, 0, none⟩ = some (.int .i64 i) ∧ w.cell? ⟨B, 1, none⟩ = some (.iface 177 (.pointer (some (ad j)))))

theorem bad_unique {l : List Cv.Lot} {i j : Nat} (hi : Cv.WellTo l i) (hi' : Cv.okAt l i = false) (hj : Cv.WellTo l j) (hj' : Cv.okAt l j = false) : i = j := by
  rcases Nat.lt_trichotomy i j with h | h | h
  · rw [hj i h] at hi'; cases hi'
  · exact h
  · rw [hi j h] at hj'; cases hj'
theorem sent_er {w : World} {ad : Nat → Addr} (h : Sent w ad) : Er w 177 (.pointer (some (ad 1))) (.pointer (some (ad 6))) (.pointer (some (ad 7))) :=
  ⟨h.cell 1 (by decide), h.cell 6 (by decide), h.cell 7 (by decide)⟩

theorem check_tells (v : Value) (l : List Cv.Lot) (ad : Nat → Addr) (w : World) (hv : Lots w v l) (hs : Sent w ad) :
    Calls Tryd.prog 53 #[v] w fun e w' => (∃ x c at_, e = .returned x ∧ ErrIs w' ad l x c at_) ∧ Below w.heap.size w w' := by
  rcases hv with ⟨rfl, a, cap, rfl⟩ | ⟨b, off, cap, rfl, hcap, hl⟩
  · refine (check_none cap a w).mono ?_
    rintro e w' ⟨rfl, rfl⟩
    exact ⟨⟨_, 0, -1, rfl, .inr (.inl ⟨Cv.well_nil, rfl, rfl, rfl⟩)⟩, Below.refl _ _⟩
  · by_cases h : 120 < l.length
    · refine (check_full _ cap _ 177 _ _ _ w (sent_er hs) h).mono ?_
      rintro e w' ⟨rfl, rfl⟩
      exact ⟨⟨_, 8, -1, rfl, .inl ⟨h, rfl, rfl, rfl⟩⟩, Below.refl _ _⟩
    · refine (check_some b off cap _ l 177 _ _ _ w rfl (by omega) hcap hl (sent_er hs)).mono ?_
      rintro e w' ⟨h1 | ⟨i, B, hi, hw, hno, rfl, c0, c1⟩, hb⟩
      · exact ⟨⟨_, 0, -1, h1.2, .inr (.inl ⟨⟨by omega, h1.1⟩, rfl, rfl, rfl⟩)⟩, hb⟩
      · cases hok : Cv.ok (Cv.nth l i) with
        | true => exact ⟨⟨_, 7, i, rfl, .inr (.inr ⟨by omega, i, B, 6, hi, hw, hno, by decide, rfl, by unfold badE; rw [hok]; rfl, rfl, rfl, c0, by rw [c1, hok]; rfl⟩)⟩, hb⟩
        | false => exact ⟨⟨_, 2, i, rfl, .inr (.inr ⟨by omega, i, B, 1, hi, hw, hno, by decide, rfl, by unfold badE; rw [hok]; rfl, rfl, rfl, c0, by rw [c1, hok]; rfl⟩)⟩, hb⟩

/-- LotsFault says the same -/
theorem lotsFault_tells (v : Value) (l : List Cv.Lot) (w : World) (hv : Came w v l) :
    Calls Tryd.prog 12 #[v] w fun e w' => (∃ c at_ : Int, e = .returned (.agg #[.int .i64 c, .int .i64 at_]) ∧ ∀ W ad x c' at', ErrIs W ad l x c' at' → c' = c ∧ at' = at_) ∧ Below w.heap.size w w' := by
  have full : 120 < l.length → ∀ W ad x c' at', ErrIs W ad l x c' at' → c' = 8 ∧ at' = -1 := by
    rintro h W ad x c' at' (⟨_, _, h1, h2⟩ | ⟨hw, _⟩ | ⟨h1, _⟩)
    · exact ⟨h1, h2⟩
    · have := hw.1; omega
    · omega
  have fine : Cv.Well l → ∀ W ad x c' at', ErrIs W ad l x c' at' → c' = 0 ∧ at' = -1 := by
    rintro h W ad x c' at' (⟨h1, _⟩ | ⟨_, _, h1, h2⟩ | ⟨_, i, B, j, hi, _, hno, _⟩)
    · have := h.1; omega
    · exact ⟨h1, h2⟩
    · rw [h.2 i hi] at hno; cases hno
  have bad : l.length ≤ 120 → ∀ i, i < l.length → Cv.WellTo l i → Cv.okAt l i = false → ∀ W ad x c' at', ErrIs W ad l x c' at' → c' = badE (Cv.nth l i) ∧ at' = i := by
    rintro h i hi hw hno W ad x c' at' (⟨h1, _⟩ | ⟨h1, _⟩ | ⟨_, i', B, j, hi', hw', hno', _, _, he, ha, _⟩)
    · omega
    · rw [h1.2 i hi] at hno; cases hno
    · obtain rfl := bad_unique hw hno hw' hno'
      exact ⟨he.symm, ha⟩
  rcases hv with ⟨rfl, a, cap, rfl⟩ | ⟨g, cap, rfl, hl⟩
  · refine (lotsFault_none a cap w).mono ?_
    rintro e w' ⟨rfl, hb⟩
    exact ⟨⟨0, -1, rfl, fine Cv.well_nil⟩, hb⟩
  · by_cases h : 120 < l.length
    · refine (lotsFault_full _ _ cap w h).mono ?_
      rintro e w' ⟨rfl, hb⟩
      exact ⟨⟨8, -1, rfl, full h⟩, hb⟩
    · refine (lotsFault_some g _ cap l w rfl (by omega) hl).mono ?_
      rintro e w' ⟨h1 | ⟨i, hi, hw, hno, rfl⟩, hb⟩
      · exact ⟨⟨0, -1, h1.2, fine ⟨by omega, h1.1⟩⟩, hb⟩
      · exact ⟨⟨_, i, rfl, bad (by omega) i hi hw hno⟩, hb⟩

theorem faulted_tells (x : Value) (l : List Cv.Lot) (c at_ : Int) (ad : Nat → Addr) (w : World) (hs : Sent w ad) (hx : ErrIs w ad l x c at_) :
    Calls Tryd.prog 15 #[x, .agg #[.int .i64 c, .int .i64 at_]] w fun e w' => e = .returned (.bool true) ∧ Below w.heap.size w w' := by
  refine faulted_of x c at_ w fun W hb => ?_
  rcases hx with ⟨_, rfl, rfl, rfl⟩ | ⟨_, rfl, rfl, rfl⟩ | ⟨_, i, B, j, _, _, _, hj, rfl, _, rfl, rfl, c0, c1⟩
  · exact code_sent 7 (by decide) ad W (hs.later hb)
  · refine (code_nil W).mono ?_
    rintro e w' ⟨rfl, rfl⟩
    exact ⟨rfl, Below.refl _ _⟩
  · exact code_fault B 0 i j hj ad W (hs.later hb) (cell_later hb c0) (cell_later hb c1)
end Go.Proofs.YtbcinejhipmomaaDoor
