/- BestFirst at a book's levels by its contract: the prices of the levels, the best one first; a map of levels by price. -/
import Derived.Test.YtbcinejhipmomaaDoorRaBest
import Derived.Test.YtbcinejhipmomaaDoorBkMem
namespace Go.Proofs.YtbcinejhipmomaaDoor
open Go.RowKit Go.Maps Go.Shelf
set_option maxRecDepth 100000

/-- a level as a value -/
def lv3 (p q m : Int) : Value := .agg #[.int .i64 p, .int .i64 q, .int .i64 m]
def z3 : Value := lv3 0 0 0
def pz (f : Int → List Cv.Lot) (p : Int) : Int := if (f p).isEmpty = true then 0 else p
theorem zero59 (w : World) : (zeroValue 59).run Tryd.prog w = .ok z3 w := by kernel_rfl
/-- a map of levels by price -/
structure LvM (w : World) (b n : Nat) (f : Int → List Cv.Lot) (D : DataW Value) : Prop where
  own : w.ownsMap Tryd.prog 3 RV b n D
  at_ : ∀ p, D.atKey (.int .i64 p) (.held z3) = .held (lv3 (pz f p) (Ra.tot (f p)) (f p).length)
  has_ : ∀ p, Maps.has D (.int .i64 p) = !(f p).isEmpty
theorem LvM.kept {w w' : World} {b n : Nat} {f : Int → List Cv.Lot} {D : DataW Value} {row : Option Nat} (h : LvM w b n f D) (hg : w.grownBy w' row) (hb : some b ≠ row) : LvM w' b n f D := ⟨h.own.kept hg hb, h.at_, h.has_⟩
theorem LvM.alloc {w : World} {b n : Nat} {f : Int → List Cv.Lot} {D : DataW Value} (h : LvM w b n f D) (o : Obj) : LvM (w.alloc o) b n f D := ⟨h.own.alloc o, h.at_, h.has_⟩
theorem LvM.later {w w' : World} {b n : Nat} {f : Int → List Cv.Lot} {D : DataW Value} (h : LvM w b n f D) (hb : Below w.heap.size w w') : LvM w' b n f D :=
  h.kept (row := none) ⟨hb.os, hb.tape, hb.output, hb.size, fun i hi _ => hb.block i hi⟩ (by simp)
theorem LvM.look {w : World} {b n : Nat} {f : Int → List Cv.Lot} {D : DataW Value} (h : LvM w b n f D) {p : Int} (h1 : -9223372036854775808 ≤ p) (h2 : p ≤ 9223372036854775807) :
    (Instr.lookup 96 (.map (some b)) (.int .i64 p) false).run Tryd.prog w = .ok (lv3 (pz f p) (Ra.tot (f p)) (f p).length) w := by
  obtain ⟨v, ps, hrun, hv⟩ := h.own.lookup keyed3 Tryd.underlying96 (zero59 w) (zd := .held z3) (zp := []) rfl (key3 h1 h2)
  rw [h.at_] at hv
  have : v = lv3 (pz f p) (Ra.tot (f p)) (f p).length := (by simpa [RV] using hv : _ ∧ ps = []).1
  rw [hrun, this]
theorem LvM.store {w : World} {b n : Nat} {f : Int → List Cv.Lot} {D : DataW Value} (h : LvM w b n f D) {p : Int} (x : Cv.Lot) (h1 : -9223372036854775808 ≤ p) (h2 : p ≤ 9223372036854775807) (hn : n < maxLen) :
    ∃ w4 D', (Instr.mapUpdate 96 (.map (some b)) (.int .i64 p) (lv3 p (Ra.tot (f p) + x.q) ((f p).length + 1))).run Tryd.prog w = .ok () w4 ∧ LvM w4 b (n + 1) (grow f p x) D' ∧ w.grownBy w4 (some b) := by
  obtain ⟨w4, hrun, hown4, hg4⟩ := h.own.update keyed3 Tryd.underlying96 hn (key3 h1 h2) (val := lv3 p (Ra.tot (f p) + x.q) ((f p).length + 1)) (d := .held (lv3 p (Ra.tot (f p) + x.q) ((f p).length + 1))) (ps := []) rfl
  have hne : ∀ q : Int, q ≠ p → (Lit.int .i64 q) ≠ (Lit.int .i64 p) := fun q hq e => hq (by simpa using e)
  have hD : IsMap D := by obtain ⟨es, clock, _, _, _, e⟩ := h.own; exact ⟨_, e⟩
  refine ⟨w4, _, hrun, ⟨hown4, fun q => ?_, fun q => ?_⟩, hg4⟩
  · by_cases hq : q = p
    · subst hq
      rw [atKey_put_same hD (by trivial)]
      simp [grow, pz, Ra.tot_append, Ra.tot]
    · rw [atKey_put_other (hne q hq), h.at_]
      simp [grow, hq, pz]
  · by_cases hq : q = p
    · subst hq
      rw [has_put_same hD (by trivial)]
      simp [grow]
    · rw [has_put_other (hne q hq), h.has_]
      simp [grow, hq]
theorem lvm_made (w : World) : LvM (w.alloc (.map #[] 0)) w.heap.size 0 (fun _ => []) (.map []) :=
  ⟨World.ownsMap_made w _ _ _, fun _ => rfl, fun _ => rfl⟩

theorem keysB_any (mb : Option Nat) (W : World) : Calls Tryd.prog 76 #[.map mb] W fun e w' => e = .returned (.func (.func 93) #[] #[.pointer (some ⟨W.heap.size, 0, none⟩)]) ∧ w' = W.alloc (.cells #[.map mb] 96) :=
  (callsIn_wide (n := 5)).1 (AnyZI.keys_in keysB Fence.wide 5 trivial rfl mb W)
theorem sortedB_any (b nn : Nat) (D0 : DataW Value) (w : World) (hown : w.ownsMap Tryd.prog 3 RV b nn D0) (hnn : nn ≤ 1000) :
    Calls Tryd.prog 75 #[.func (.func 93) #[] #[.pointer (some ⟨w.heap.size, 0, none⟩)]] (w.alloc (.cells #[.map (some b)] 96)) fun e w' => ∃ (v : Value) (ss : List Int), e = .returned v ∧ ss.Perm (intKeys D0) ∧
      w'.ownsRow (w.alloc (.cells #[.map (some b)] 96)).heap.size 3 1 v ss.length ((ss.mergeSort (fun x y => decide (x ≤ y))).map encZ) ∧ (v = .slice none 0 0 ↔ ss = []) ∧ Below (w.alloc (.cells #[.map (some b)] 96)).heap.size (w.alloc (.cells #[.map (some b)] 96)) w' := by
  have hseq : SeqGives Fence.wide 2 Tryd.prog 93 #[.pointer (some ⟨w.heap.size, 0, none⟩)] encZ (fun ss => ss.Perm (intKeys D0)) (Maps.size D0) (w.alloc (.cells #[.map (some b)] 96)) :=
    AnyZI.keys_gives (ρ := keysB_ren) { keysB with } Fence.wide _ trivial rfl (by omega) w.heap.size b nn D0 _ (by simp) (by simp) (hown.alloc _)
  have hsz := hown.size_le
  have cS := AnyZI.sorted_in sortedA Fence.wide 5 trivial trivial trivial trivial rfl (by omega) (sortsA _) (enters_of Tryd.func92 (by kernel_rfl) rfl) 93 #[.pointer (some ⟨w.heap.size, 0, none⟩)] trivial (enters_of Tryd.func93 (by kernel_rfl) rfl) _ _ (by unfold maxLen; omega) (by omega) _ hseq
  change CallsIn _ _ Tryd.prog 75 _ _ _ at cS
  exact (callsIn_wide (n := 5)).1 cS

set_option maxHeartbeats 400000 in
theorem bestFirstB_any (sd : Int) (B n : Nat) (f : Int → List Cv.Lot) (D : DataW Value) (ps : List Int) (w : World) (hL : Hid (LvM w B n f D)) (hn : n ≤ 1000) (hp : Hid (ps.Pairwise (· < ·))) (hm : Hid (∀ p, p ∈ ps ↔ f p ≠ [])) :
    Calls Tryd.prog 57 #[.map (some B), .int .i64 sd] w fun e w' => ∃ v, e = .returned v ∧ Prs w' v (if sd = 0 then ps.reverse else ps) ∧ Below w.heap.size w w' := by
  have hLv := hL.out
  have HO := hide hLv.own
  have HM : Hid (∀ p, p ∈ ps ↔ Maps.has D (.int .i64 p) = true) := fun p => by
    rw [hm.out p, hLv.has_ p]; simp
  clear hLv
  by_cases hs : sd = 0
  · subst hs
    rw [if_pos rfl]
    go_enter Tryd.func57, Tryd.ntmps57
    go_wp2_with fail
    refine (keysB_any (some B) _).mono ?_
    rintro e w1 ⟨rfl, rfl⟩
    simp only []
    go_wp2_with fail
    refine (sortedB_any B n D w HO.out hn).mono ?_
    rintro e w2 ⟨v, ss, rfl, hss, hrow, hnil, hb⟩
    obtain ⟨e1, e2, e3⟩ := sorted_is HO.out hp.out HM.out hss
    rw [e1, e2] at hrow
    have HB2 : Hid (Below w.heap.size w w2) := ((Below.refl _ w).alloc (Nat.le_refl _) _).trans (hb.mono (by simp))
    have hbase : w.heap.size ≤ (w.alloc (.cells #[.map (some B)] 96)).heap.size := by simp
    have HLEN : Hid (ps.length ≤ 9223372036854775807) := Nat.le_trans e3 (by omega)
    clear hnil hb e1 e2 e3 hss
    rcases hrow.2 with ⟨rfl, h0⟩ | ⟨r, cap, cur, rfl, hr1, hr2, _⟩
    · have HP : Hid (ps = []) := List.eq_nil_of_length_eq_zero h0
      clear hrow h0
      simp only []
      go_wp2_with fail
      refine (slices_Reverse_int_empty none 0 w2).mono ?_
      rintro e w3 ⟨rfl, rfl⟩
      simp only []
      go_wp2
      go_ret
      exact ⟨_, rfl, .inl ⟨by rw [HP.out]; rfl, rfl⟩, HB2.out⟩
    · have HH : Hid (Sort.Holds (Value.int .i64) w2 r 0 ps.toArray) := holds_of_row (zs := ps) hrow
      have HR : Hid (w.heap.size ≤ r) := Nat.le_trans hbase hr1
      clear hrow hr1 hr2 hbase
      simp only []
      go_wp2_with fail
      refine (slices_Reverse_int r 0 cap ps w2 HH.out HLEN.out).mono ?_
      rintro e w3 ⟨rfl, q, rfl⟩
      simp only []
      go_wp2
      go_ret
      refine ⟨_, rfl, .inr ⟨r, cap, by simp, fun i hi => ?_⟩, HB2.out.trans (putRow_below (n := q) HR.out)⟩
      have := (Sort.holds_putRow (Value.int .i64) w2 r 0 ps.toArray ps.reverse.toArray HH.out (by simp) i (by simpa using hi)).1
      rw [Nat.zero_add] at this
      refine Eq.trans this ?_
      simp at hi
      simp [hi]
  · rw [if_neg hs]
    go_enter Tryd.func57, Tryd.ntmps57
    go_wp2_with fail
    refine (keysB_any (some B) _).mono ?_
    rintro e w1 ⟨rfl, rfl⟩
    simp only []
    go_wp2_with fail
    refine (sortedB_any B n D w HO.out hn).mono ?_
    rintro e w2 ⟨v, ss, rfl, hss, hrow, hnil, hb⟩
    obtain ⟨e1, e2, e3⟩ := sorted_is HO.out hp.out HM.out hss
    rw [e1, e2] at hrow
    have HP := hide (prs_of rfl hrow)
    have HB2 : Hid (Below w.heap.size w w2) := ((Below.refl _ w).alloc (Nat.le_refl _) _).trans (hb.mono (by simp))
    clear hnil hb e1 e2 e3 hss hrow
    simp only []
    go_wp2
    go_ret
    exact ⟨_, rfl, HP.out, HB2.out⟩
end Go.Proofs.YtbcinejhipmomaaDoor
