/- bestFirst by its contract: the prices of the levels, the best one first. -/
import Derived.Test.YtbcinejhipmomaaDoorRaLevels
import Derived.Test.YtbcinejhipmomaaDoorRaShuffle
import Derived.Test.YtbcinejhipmomaaDoorShelf
import Derived.Maps.OwnSet
namespace Go.Proofs.YtbcinejhipmomaaDoor
open Go.RowKit Go.Maps Go.Shelf
set_option maxRecDepth 100000

/-- slices.Sort's two contracts, at the fence that asks nothing. -/
theorem sortsA (m : Nat) : AnyZI.SortsIn Tryd.prog sortedA_ren Fence.wide m :=
  ⟨fun blk off cap ss W hH hblk hsz => callsIn_wide.2 (slices_Sort_int blk off cap ss W hH hblk hsz), fun p cap W => callsIn_wide.2 (slices_Sort_int_none p cap W)⟩
theorem keys_any (mb : Option Nat) (W : World) : Calls Tryd.prog 78 #[.map mb] W fun e w' => e = .returned (.func (.func 94) #[] #[.pointer (some ⟨W.heap.size, 0, none⟩)]) ∧ w' = W.alloc (.cells #[.map mb] 81) :=
  (callsIn_wide (n := 5)).1 (AnyZI.keys_in keysA Fence.wide 5 trivial rfl mb W)
theorem sorted_any (b nn : Nat) (D0 : DataW Value) (w : World) (hown : w.ownsMap Tryd.prog 3 RV b nn D0) (hnn : nn ≤ 1000) :
    Calls Tryd.prog 75 #[.func (.func 94) #[] #[.pointer (some ⟨w.heap.size, 0, none⟩)]] (w.alloc (.cells #[.map (some b)] 81)) fun e w' => ∃ (v : Value) (ss : List Int), e = .returned v ∧ ss.Perm (intKeys D0) ∧
      w'.ownsRow (w.alloc (.cells #[.map (some b)] 81)).heap.size 3 1 v ss.length ((ss.mergeSort (fun x y => decide (x ≤ y))).map encZ) ∧ (v = .slice none 0 0 ↔ ss = []) ∧ Below (w.alloc (.cells #[.map (some b)] 81)).heap.size (w.alloc (.cells #[.map (some b)] 81)) w' := by
  have hseq : SeqGives Fence.wide 2 Tryd.prog 94 #[.pointer (some ⟨w.heap.size, 0, none⟩)] encZ (fun ss => ss.Perm (intKeys D0)) (Maps.size D0) (w.alloc (.cells #[.map (some b)] 81)) :=
    AnyZI.keys_gives (ρ := keysA_ren) { keysA with } Fence.wide _ trivial rfl (by omega) w.heap.size b nn D0 _ (by simp) (by simp) (hown.alloc _)
  have hsz := hown.size_le
  have cS := AnyZI.sorted_in sortedA Fence.wide 5 trivial trivial trivial trivial rfl (by omega) (sortsA _) (enters_of Tryd.func92 (by kernel_rfl) rfl) 94 #[.pointer (some ⟨w.heap.size, 0, none⟩)] trivial (enters_of Tryd.func94 (by kernel_rfl) rfl) _ _ (by unfold maxLen; omega) (by omega) _ hseq
  change CallsIn _ _ Tryd.prog 75 _ _ _ at cS
  exact (callsIn_wide (n := 5)).1 cS

/-- a slice that holds prices -/
def Prs (w : World) (v : Value) (ps : List Int) : Prop :=
  (ps = [] ∧ v = .slice none 0 0) ∨ ∃ b cap, v = .slice (some ⟨b, 0, none⟩) ps.length cap ∧ ∀ i, i < ps.length → w.cell? ⟨b, i, none⟩ = some (.int .i64 (ps.getD i 0))
theorem Prs.later {w w' : World} {v : Value} {ps : List Int} (h : Prs w v ps) (hb : Below w.heap.size w w') : Prs w' v ps := by
  rcases h with h | ⟨b, cap, h1, h2⟩
  · exact .inl h
  · exact .inr ⟨b, cap, h1, fun i hi => cell_later hb (h2 i hi)⟩
theorem prs_of {w : World} {base n : Nat} {v : Value} {ps : List Int} (hn : n = ps.length) (h : w.ownsRow base 3 1 v n (ps.map encZ)) : Prs w v ps := by
  subst hn
  rcases h.2 with ⟨h1, h2⟩ | ⟨g, cap, cur, h1, _⟩
  · exact .inl ⟨List.eq_nil_of_length_eq_zero h2, h1⟩
  · refine .inr ⟨g, cap, h1, fun i hi => ?_⟩
    have := World.ownsRow.cells h (g := g) (by rw [h1]; rfl) i (.int .i64 (ps.getD i 0)) (by simp [hi, encZ])
    have hp : (⟨g, 0, none⟩ : Addr).add i = ⟨g, i, none⟩ := by unfold Addr.add; split <;> simp_all
    rwa [hp] at this
theorem sorted_is {w : World} {b n : Nat} {D : DataW Value} (hown : w.ownsMap Tryd.prog 3 RV b n D) {ps ss : List Int} (hp : ps.Pairwise (· < ·)) (hm : ∀ p, p ∈ ps ↔ Maps.has D (.int .i64 p) = true) (hs : ss.Perm (intKeys D)) :
    ss.mergeSort (fun x y => decide (x ≤ y)) = ps ∧ ss.length = ps.length ∧ ps.length ≤ n := by
  have hle := hown.size_le
  obtain ⟨es, hD, hpw, _⟩ := hown.entries keyed3
  obtain ⟨es', hD', hko⟩ := hown.keysOf
  obtain rfl : es = es' := by rw [hD] at hD'; simpa using hD'
  subst hD
  have hperm := perm_intKeys hpw (fun p hp => by obtain ⟨v, hv⟩ := hko p hp; obtain ⟨x, _, hx, _⟩ := Maps.keyOf_i64 Tryd.underlying3 hv; exact ⟨x, hx⟩) (hp.imp fun h e => by omega) hm
  have h2 := hs.trans hperm.symm
  refine ⟨?_, h2.length_eq, ?_⟩
  rotate_left
  · rw [← h2.length_eq, hs.length_eq]
    simpa [intKeys, Maps.size] using hle
  have h3 := mergeSort_of_perm_i h2
  rw [show ss.mergeSort (fun x y => decide (x ≤ y)) = ps.mergeSort leI from h3]
  exact List.mergeSort_of_pairwise (hp.imp fun h => by simp [leI]; omega)

set_option maxHeartbeats 400000 in
theorem bestFirst_any (sd : Int) (B base n : Nat) (f : Int → List Cv.Lot) (ps : List Int) (w : World) (hL : Hid (Levels w base B n f)) (hn : n ≤ 1000) (hp : Hid (ps.Pairwise (· < ·))) (hm : Hid (∀ p, p ∈ ps ↔ f p ≠ [])) :
    Calls Tryd.prog 62 #[.map (some B), .int .i64 sd] w fun e w' => ∃ v, e = .returned v ∧ Prs w' v (if sd = 0 then ps.reverse else ps) ∧ Below w.heap.size w w' := by
  obtain ⟨D, g, hLv⟩ := hL.out
  have HO := hide hLv.own
  have HM : Hid (∀ p, p ∈ ps ↔ Maps.has D (.int .i64 p) = true) := fun p => by
    rw [hm.out p, hLv.has_ p]; simp
  clear hLv
  by_cases hs : sd = 0
  · subst hs
    rw [if_pos rfl]
    go_enter Tryd.func62, Tryd.ntmps62
    go_wp2_with fail
    refine (keys_any (some B) _).mono ?_
    rintro e w1 ⟨rfl, rfl⟩
    simp only []
    go_wp2_with fail
    refine (sorted_any B n D w HO.out hn).mono ?_
    rintro e w2 ⟨v, ss, rfl, hss, hrow, hnil, hb⟩
    obtain ⟨e1, e2, e3⟩ := sorted_is HO.out hp.out HM.out hss
    rw [e1, e2] at hrow
    have HB2 : Hid (Below w.heap.size w w2) := ((Below.refl _ w).alloc (Nat.le_refl _) _).trans (hb.mono (by simp))
    have hbase : w.heap.size ≤ (w.alloc (.cells #[.map (some B)] 81)).heap.size := by simp
    have HLEN : Hid (ps.length ≤ 9223372036854775807) := Nat.le_trans e3 (by omega)
    clear hnil hb e1 e2 e3 hss
    rcases hrow.2 with ⟨rfl, h0⟩ | ⟨r, cap, cur, rfl, hr1, hr2, _⟩
    · have HP : Hid (ps = []) := List.eq_nil_of_length_eq_zero h0
      clear hrow h0
      simp only []
      go_wp2_with fail
      refine (slices_Reverse_int_empty none 0 w2).mono ?_
      rintro e w3 ⟨rfl, rfl⟩
      simp only []
      go_wp2
      go_ret
      exact ⟨_, rfl, .inl ⟨by rw [HP.out]; rfl, rfl⟩, HB2.out⟩
    · have HH : Hid (Sort.Holds (Value.int .i64) w2 r 0 ps.toArray) := holds_of_row (zs := ps) hrow
      have HR : Hid (w.heap.size ≤ r) := Nat.le_trans hbase hr1
      clear hrow hr1 hr2 hbase
      simp only []
      go_wp2_with fail
      refine (slices_Reverse_int r 0 cap ps w2 HH.out HLEN.out).mono ?_
      rintro e w3 ⟨rfl, q, rfl⟩
      simp only []
      go_wp2
      go_ret
      refine ⟨_, rfl, .inr ⟨r, cap, by simp, fun i hi => ?_⟩, HB2.out.trans (putRow_below (n := q) HR.out)⟩
      have := (Sort.holds_putRow (Value.int .i64) w2 r 0 ps.toArray ps.reverse.toArray HH.out (by simp) i (by simpa using hi)).1
      rw [Nat.zero_add] at this
      refine Eq.trans this ?_
      simp at hi
      simp [hi]
  · rw [if_neg hs]
    go_enter Tryd.func62, Tryd.ntmps62
    go_wp2_with fail
    refine (keys_any (some B) _).mono ?_
    rintro e w1 ⟨rfl, rfl⟩
    simp only []
    go_wp2_with fail
    refine (sorted_any B n D w HO.out hn).mono ?_
    rintro e w2 ⟨v, ss, rfl, hss, hrow, hnil, hb⟩
    obtain ⟨e1, e2, e3⟩ := sorted_is HO.out hp.out HM.out hss
    rw [e1, e2] at hrow
    have HP := hide (prs_of rfl hrow)
    have HB2 : Hid (Below w.heap.size w w2) := ((Below.refl _ w).alloc (Nat.le_refl _) _).trans (hb.mono (by simp))
    clear hnil hb e1 e2 e3 hss hrow
    simp only []
    go_wp2
    go_ret
    exact ⟨_, rfl, HP.out, HB2.out⟩
end Go.Proofs.YtbcinejhipmomaaDoor
