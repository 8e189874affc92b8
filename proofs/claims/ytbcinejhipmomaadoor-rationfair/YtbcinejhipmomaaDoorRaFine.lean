/- Fills by its contracts, of any lots; a closed fact. -/
import Derived.Test.YtbcinejhipmomaaDoorRaFills
import Derived.Test.YtbcinejhipmomaaDoorRaSame
namespace Go.Proofs.YtbcinejhipmomaaDoor
open Go.RowKit
set_option maxRecDepth 100000
namespace Ra
/-- what is asked of lots, a price and a volume -/
def Fine (l : List Cv.Lot) (price vol : Int) : Prop := Cv.Well l ∧ (1 ≤ price ∧ price ≤ 1000) ∧ 0 ≤ vol ∧ vol ≤ Cv.volume l price
def nextSeed (s : Int) : Int := if s = 4294967295 then 0 else s + 1
def fills (s : Int) (l : List Cv.Lot) (price vol : Int) : List (Int × Int) := side s l 0 price vol ++ side (nextSeed s) l 1 price vol
theorem nextSeed_u {s : Int} (h : IsU s) : IsU (nextSeed s) := by
  unfold nextSeed; split
  · exact ⟨by omega, by omega⟩
  · exact ⟨by have := h.1; omega, by have := h.2; omega⟩
theorem fills_length (s : Int) {l : List Cv.Lot} {price vol : Int} (h : Fine l price vol) : (side s l 0 price vol).length ≤ 120 ∧ (side (nextSeed s) l 1 price vol).length ≤ 120 := by
  obtain ⟨h1, ⟨h2, h3⟩, h4, _⟩ := h
  have := h1.1
  exact ⟨Nat.le_trans (side_length _ h1.oks 0 price vol h2 h3 h4) this, Nat.le_trans (side_length _ h1.oks 1 price vol h2 h3 h4) this⟩
theorem fill_le : ∀ (l : List Cv.Lot) (v : Int), Cv.Oks l → 0 ≤ v → ∀ f ∈ fill l v, 1 ≤ f.2 ∧ f.2 ≤ 1000
  | [], v, _, _, f, hf => by simp [fill] at hf
  | x :: l, v, h, hv, f, hf => by
    have hx := (Cv.ok_bounds (h x List.mem_cons_self)).2.2.2.2
    rw [fill] at hf
    split at hf
    · cases hf
    · rcases List.mem_cons.1 hf with rfl | hf
      · simp only []; omega
      · exact fill_le l _ (fun y hy => h y (List.mem_cons_of_mem _ hy)) (by omega) f hf
theorem fills_le (s : Int) {l : List Cv.Lot} {price vol : Int} (h : Fine l price vol) : ∀ f ∈ fills s l price vol, 1 ≤ f.2 ∧ f.2 ≤ 1000 := by
  obtain ⟨h1, ⟨h2, h3⟩, h4, _⟩ := h
  have key : ∀ s sd, ∀ f ∈ side s l sd price vol, 1 ≤ f.2 ∧ f.2 ≤ 1000 := fun s sd f hf => by
    rw [side_is s h1.oks sd price vol h4] at hf
    exact fill_le _ vol (fun x hx => h1.oks x (List.mem_filter.1 ((order_perm s h1.oks sd price vol h2 h3).mem_iff.1 hx)).1) h4 f hf
  intro f hf
  rcases List.mem_append.1 hf with hf | hf
  · exact key _ _ f hf
  · exact key _ _ f hf
end Ra

theorem vol_le {l : List Cv.Lot} (h : Cv.Well l) (p : Int) : Cv.volume l p ≤ 120000 := by
  have := Cv.demand_range l p h
  unfold Cv.volume
  omega
theorem fills_fine (v : Value) (l : List Cv.Lot) (price vol s : Int) (T : TypeId) (v1 v2 v6 v7 : Value) (w : World) (hv : Lots w v l) (he : Er w T v1 v6 v7) (c2 : w.cell? ⟨4, 0, none⟩ = some (.iface T v2)) (hf : Ra.Fine l price vol) (hs : Ra.IsU s) :
    Calls Tryd.prog 10 #[v, .int .i64 price, .int .i64 vol, .int .u32 s] w fun e w' => ∃ v', e = .returned (.tuple #[v', .nilIface]) ∧ Fls w' v' (Ra.fills s l price vol) ∧ Below w.heap.size w w' := by
  obtain ⟨hw, ⟨h1, h2⟩, h3, h4⟩ := hf
  have hvl := vol_le hw price
  obtain ⟨a, n, cap, rfl⟩ := hv.form
  have hck := rcheck_more a n cap price vol (Cv.volume l price) T v2 w (check_well _ l T v1 v6 v7 w hv he hw) c2 (by show Wi.withinB price 1 1000 = true; simp [Wi.withinB, h1, h2]) (by omega) (fun w1 hb => volume_any _ l price T v1 v6 v7 w1 (hv.later hb) (he.later hb) hw)
  rw [if_neg (by omega)] at hck
  have hl := Ra.fills_length s (l := l) (price := price) (vol := vol) ⟨hw, ⟨h1, h2⟩, h3, h4⟩
  refine (fills_of a n cap price vol s (Ra.nextSeed s) l _ _ w hck hv hw h1 h2 h3 (by omega) hs (Ra.nextSeed_u hs) ?_ rfl rfl hl.1 hl.2).mono ?_
  · unfold Ra.nextSeed
    by_cases e : s = 4294967295
    · exact .inl ⟨e, by rw [if_pos e]⟩
    · exact .inr ⟨hs.1, by have := hs.2; omega, by rw [if_neg e]⟩
  · rintro e w' ⟨v', rfl, hr, hb⟩
    exact ⟨v', rfl, fls_of hr, hb⟩
theorem fills_bad (v : Value) (l : List Cv.Lot) (price vol s : Int) (T : TypeId) (v1 v2 v6 v7 : Value) (w : World) (hv : Lots w v l) (he : Er w T v1 v6 v7) (c2 : w.cell? ⟨4, 0, none⟩ = some (.iface T v2)) (hf : ¬ Ra.Fine l price vol) :
    Calls Tryd.prog 10 #[v, .int .i64 price, .int .i64 vol, .int .u32 s] w fun e w' => ∃ U x, e = .returned (.tuple #[.slice none 0 0, .iface U x]) ∧ Below w.heap.size w w' := by
  obtain ⟨a, n, cap, rfl⟩ := hv.form
  refine fills_err a n cap price vol s w (fun _ _ w' => Below w.heap.size w w') ?_
  by_cases hw : Cv.Well l
  · have hck := check_well _ l T v1 v6 v7 w hv he hw
    by_cases hb : ¬ (1 ≤ price ∧ price ≤ 1000) ∨ vol < 0
    · exact (rcheck_bound a n cap price vol T v1 w hck he.c1 hb).mono fun e w' ⟨h1, h2⟩ => ⟨T, v1, h1, h2⟩
    · have h1 : 1 ≤ price ∧ price ≤ 1000 := Classical.not_not.1 fun h => hb (.inl h)
      have h3 : ¬ vol < 0 := fun h => hb (.inr h)
      have := rcheck_more a n cap price vol (Cv.volume l price) T v2 w hck c2 (by show Wi.withinB price 1 1000 = true; simp [Wi.withinB, h1]) h3 (fun w1 hb => volume_any _ l price T v1 v6 v7 w1 (hv.later hb) (he.later hb) hw)
      rw [if_pos (Int.not_le.1 fun h => hf ⟨hw, h1, by omega, h⟩)] at this
      exact this.mono fun e w' ⟨h1, h2⟩ => ⟨T, v2, h1, h2⟩
  · refine rcheck_err a n cap price vol w (fun _ _ w' => Below w.heap.size w w') ?_
    exact (check_ill _ l T v1 v6 v7 w hv he hw).mono fun e w' ⟨⟨U, x, h1⟩, h2⟩ => ⟨U, x, h1, h2⟩

/-! the closed fact -/
def two : List Cv.Lot := [⟨1, 0, 0, 10, 5⟩, ⟨2, 0, 1, 8, 4⟩]
theorem two_well : Cv.Well two := by
  refine ⟨by decide, fun i hi => ?_⟩
  match i, hi with
  | 0, _ => rfl
  | 1, _ => rfl
theorem two_fine : Ra.Fine two 9 4 := ⟨two_well, ⟨by decide, by decide⟩, by decide, by decide⟩
theorem two_fills : Ra.fills 7 two 9 4 = [(1, 4), (2, 4)] := by kernel_rfl

theorem fls_two (w : World) (T : TypeId) : Fls (w.alloc (.cells #[.int .i64 1, .int .i64 4, .int .i64 2, .int .i64 4] T)) (.slice (some ⟨w.heap.size, 0, none⟩) 2 2) [(1, 4), (2, 4)] := by
  refine .inr ⟨w.heap.size, 2, rfl, fun i hi => ?_⟩
  match i, hi with
  | 0, _ => exact ⟨by rw [World.cell?_alloc_new]; rfl, by rw [World.cell?_alloc_new]; rfl⟩
  | 1, _ => exact ⟨by rw [World.cell?_alloc_new]; rfl, by rw [World.cell?_alloc_new]; rfl⟩
theorem lots_two (w : World) (T : TypeId) : Lots (w.alloc (.cells #[.int .i64 1, .int .i64 0, .int .i64 0, .int .i64 10, .int .i64 5, .int .i64 2, .int .i64 0, .int .i64 1, .int .i64 8, .int .i64 4] T)) (.slice (some ⟨w.heap.size, 0, none⟩) 2 2) two := by
  refine .inr ⟨w.heap.size, 0, 2, rfl, by decide, fun i hi => ?_⟩
  match i, hi with
  | 0, _ => exact ⟨by rw [World.cell?_alloc_new]; rfl, by rw [World.cell?_alloc_new]; rfl, by rw [World.cell?_alloc_new]; rfl, by rw [World.cell?_alloc_new]; rfl, by rw [World.cell?_alloc_new]; rfl⟩
  | 1, _ => exact ⟨by rw [World.cell?_alloc_new]; rfl, by rw [World.cell?_alloc_new]; rfl, by rw [World.cell?_alloc_new]; rfl, by rw [World.cell?_alloc_new]; rfl, by rw [World.cell?_alloc_new]; rfl⟩

set_option maxHeartbeats 400000 in
theorem rationed_any (T : TypeId) (v1 v2 v6 v7 : Value) (w : World) (he : Hid (Er w T v1 v6 v7)) (c2 : Hid (w.cell? ⟨4, 0, none⟩ = some (.iface T v2))) :
    Calls Tryd.prog 9 #[] w fun e w' => e = .returned (.bool true) ∧ Below w.heap.size w w' := by
  go_enter Tryd.func9, Tryd.ntmps9
  go_wp2_with fail
  have hb0 : Below w.heap.size w (w.alloc (.cells #[.int .i64 1, .int .i64 0, .int .i64 0, .int .i64 10, .int .i64 5, .int .i64 2, .int .i64 0, .int .i64 1, .int .i64 8, .int .i64 4] 43)) := (Below.refl _ _).alloc (Nat.le_refl _) _
  refine (fills_fine _ two 9 4 7 T v1 v2 v6 v7 _ (lots_two w 43) (he.out.later hb0) (cell_later hb0 c2.out) two_fine ⟨by decide, by decide⟩).mono ?_
  rintro e w1 ⟨vf, rfl, hf, hb1⟩
  rw [two_fills] at hf
  have HB1 := hide (hb0.trans (hb1.mono (by simp))); have HF := hide hf
  clear hb1 hf hb0
  simp only []
  go_wp2_with fail
  refine (sameFills_any _ _ [(1, 4), (2, 4)] _ (HF.out.later ((Below.refl _ _).alloc (Nat.le_refl _) _)) (fls_two w1 45) (by decide)).mono ?_
  rintro e w2 ⟨rfl, hb2⟩
  have HB2 := hide (HB1.out.trans (((Below.refl _ w1).alloc (Nat.le_refl _) _).trans (hb2.mono (by simp)) |>.mono HB1.out.size))
  clear hb2
  simp only []
  go_wp2
  go_ret
  exact ⟨rfl, HB2.out⟩
end Go.Proofs.YtbcinejhipmomaaDoor
