/- The document's answers on lots, by their contracts. -/
import Derived.Test.YtbcinejhipmomaaDoorCvAddsWalk
namespace Go.Proofs.YtbcinejhipmomaaDoor
open Go.RowKit
set_option maxRecDepth 100000

/-- the cells of a slice of lots that came in -/
def ArgAt (w : World) (g : Addr) (l : List Cv.Lot) : Prop :=
  ∀ i, i < l.length → w.cell? (g.add (i * 5)) = some (.int .i64 (Cv.nth l i).id) ∧ w.cell? ⟨(g.add (i * 5)).block, (g.add (i * 5)).off + 1, none⟩ = some (.int .i64 (Cv.nth l i).ow) ∧ w.cell? ⟨(g.add (i * 5)).block, (g.add (i * 5)).off + 2, none⟩ = some (.int .i64 (Cv.nth l i).sd) ∧
    w.cell? ⟨(g.add (i * 5)).block, (g.add (i * 5)).off + 3, none⟩ = some (.int .i64 (Cv.nth l i).pr) ∧ w.cell? ⟨(g.add (i * 5)).block, (g.add (i * 5)).off + 4, none⟩ = some (.int .i64 (Cv.nth l i).q)
theorem ArgAt.later {w w' : World} {g : Addr} {l : List Cv.Lot} (h : ArgAt w g l) (hb : Below w.heap.size w w') : ArgAt w' g l :=
  fun i hi => ⟨cell_later hb (h i hi).1, cell_later hb (h i hi).2.1, cell_later hb (h i hi).2.2.1, cell_later hb (h i hi).2.2.2.1, cell_later hb (h i hi).2.2.2.2⟩
theorem argAt_of_flat {w : World} {g : Addr} {l : List Cv.Lot} (h : ∀ j u, (flat l)[j]? = some u → w.cell? (g.add j) = some u) : ArgAt w g l := by
  intro i hi
  have key : ∀ j u, j < 5 → (lotCells (Cv.nth l i))[j]? = some u → w.cell? (g.add (i * 5 + j)) = some u := fun j u hj hu => h _ u (by rw [flat_at l i j hi hj]; exact hu)
  have e : ∀ j, 0 < j → g.add (i * 5 + j) = ⟨(g.add (i * 5)).block, (g.add (i * 5)).off + j, none⟩ := by
    intro j hj
    unfold Addr.add
    rw [if_neg (by omega)]
    split
    · simp_all
    · simp; omega
  exact ⟨key 0 _ (by decide) rfl, by rw [← e 1 (by decide)]; exact key 1 _ (by decide) rfl, by rw [← e 2 (by decide)]; exact key 2 _ (by decide) rfl, by rw [← e 3 (by decide)]; exact key 3 _ (by decide) rfl, by rw [← e 4 (by decide)]; exact key 4 _ (by decide) rfl⟩

set_option maxHeartbeats 400000 in
theorem demandOf_some (g : Addr) (n cap : Nat) (p : Int) (l : List Cv.Lot) (w : World) (hn : Hid (l.length = n)) (hok : Hid (Cv.Well l)) (hl : Hid (ArgAt w g l)) :
    Calls Tryd.prog 46 #[.slice (some g) n cap, .int .i64 p] w fun e w' => e = .returned (.int .i64 (Cv.demand l p)) ∧ w' = w := by
  have h120 := hok.out.1
  rw [hn.out] at h120
  have HR : Hid (∀ k, 0 ≤ Cv.sumIf (Cv.dB p) (l.take k) ∧ Cv.sumIf (Cv.dB p) (l.take k) ≤ 120000) := fun k => by
    have := Cv.sumIf_bounds (Cv.dB p) (l.take k) (hok.out.oks.take k)
    have h2 : (l.take k).length ≤ 120 := by rw [List.length_take, hn.out]; omega
    omega
  go_enter Tryd.func46, Tryd.ntmps46
  go_wp2
  go_loop [5, 6] (fun s i => ∃ k : Nat, k ≤ n ∧ i = .int .i64 k ∧ s = .int .i64 (Cv.sumIf (Cv.dB p) (l.take k))) (fun _ i => n - (intOf i).toNat)
  case atStart => exact ⟨0, Nat.zero_le _, rfl, rfl⟩
  case round =>
    obtain ⟨k, hk, rfl, rfl⟩ := hrel
    by_cases hlt : k < n
    · have hki : (k : Int) < n := by omega
      obtain ⟨c0, c1, c2, c3, c4⟩ := hl.out k (by rw [hn.out]; exact hlt)
      have HS := hide (Cv.sumIf_step (Cv.dB p) (l := l) (k := k) (by rw [hn.out]; exact hlt))
      obtain ⟨r1, r2⟩ := HR.out k
      have HR2 := hide (HR.out (k + 1))
      rw [HS.out] at HR2
      generalize Cv.sumIf (Cv.dB p) (l.take k) = sk at *
      generalize Cv.nth l k = x at *
      have hdB : Cv.dB p x = (x.sd == 0 && decide (p ≤ x.pr)) := rfl
      by_cases hs : x.sd = 0
      · by_cases hp : p ≤ x.pr
        · have hd : Cv.dB p x = true := by rw [hdB]; simp [hs, hp]
          have HS2 := hide (show Cv.sumIf (Cv.dB p) (l.take (k + 1)) = sk + x.q by have := HS.out; rw [hd] at this; simpa using this)
          have hr2 : 0 ≤ sk + x.q ∧ sk + x.q ≤ 120000 := by have := HR2.out; rw [hd] at this; simpa using this
          clear HS HR2 hd hdB
          obtain ⟨r3, r4⟩ := hr2
          go_wp2
          exact ⟨⟨k + 1, by omega, by go_num, by rw [HS2.out]⟩, by simp [intOf]; omega⟩
        · have hd : Cv.dB p x = false := by rw [hdB]; simp [hp]
          have HS2 := hide (show Cv.sumIf (Cv.dB p) (l.take (k + 1)) = sk by have := HS.out; rw [hd] at this; simpa using this)
          clear HS HR2 hd hdB
          go_wp2
          exact ⟨⟨k + 1, by omega, by go_num, by rw [HS2.out]⟩, by simp [intOf]; omega⟩
      · have hd : Cv.dB p x = false := by rw [hdB]; simp [hs]
        have HS2 := hide (show Cv.sumIf (Cv.dB p) (l.take (k + 1)) = sk by have := HS.out; rw [hd] at this; simpa using this)
        clear HS HR2 hd hdB
        go_wp2
        exact ⟨⟨k + 1, by omega, by go_num, by rw [HS2.out]⟩, by simp [intOf]; omega⟩
    · have hki : ¬ (k : Int) < n := by omega
      have hkk : l.take k = l := by
        have : k = l.length := by rw [hn.out]; omega
        rw [this, List.take_length]
      have Hkk := hide hkk
      clear hkk
      go_wp2
      go_ret
      exact ⟨by rw [Hkk.out]; rfl, rfl⟩
theorem demandOf_none (a : Option Addr) (cap : Nat) (p : Int) (w : World) : Calls Tryd.prog 46 #[.slice a 0 cap, .int .i64 p] w fun e w' => e = .returned (.int .i64 0) ∧ w' = w := by
  go_enter Tryd.func46, Tryd.ntmps46
  go_wp2
  refine wp_loop_rounds 1 ?_
  rw [rounds_succ]
  go_wp2
  go_ret
  exact ⟨rfl, rfl⟩

set_option maxHeartbeats 400000 in
theorem supplyOf_some (g : Addr) (n cap : Nat) (p : Int) (l : List Cv.Lot) (w : World) (hn : Hid (l.length = n)) (hok : Hid (Cv.Well l)) (hl : Hid (ArgAt w g l)) :
    Calls Tryd.prog 47 #[.slice (some g) n cap, .int .i64 p] w fun e w' => e = .returned (.int .i64 (Cv.supply l p)) ∧ w' = w := by
  have h120 := hok.out.1
  rw [hn.out] at h120
  have HR : Hid (∀ k, 0 ≤ Cv.sumIf (Cv.sB p) (l.take k) ∧ Cv.sumIf (Cv.sB p) (l.take k) ≤ 120000) := fun k => by
    have := Cv.sumIf_bounds (Cv.sB p) (l.take k) (hok.out.oks.take k)
    have h2 : (l.take k).length ≤ 120 := by rw [List.length_take, hn.out]; omega
    omega
  go_enter Tryd.func47, Tryd.ntmps47
  go_wp2
  go_loop [5, 6] (fun s i => ∃ k : Nat, k ≤ n ∧ i = .int .i64 k ∧ s = .int .i64 (Cv.sumIf (Cv.sB p) (l.take k))) (fun _ i => n - (intOf i).toNat)
  case atStart => exact ⟨0, Nat.zero_le _, rfl, rfl⟩
  case round =>
    obtain ⟨k, hk, rfl, rfl⟩ := hrel
    by_cases hlt : k < n
    · have hki : (k : Int) < n := by omega
      obtain ⟨c0, c1, c2, c3, c4⟩ := hl.out k (by rw [hn.out]; exact hlt)
      have HS := hide (Cv.sumIf_step (Cv.sB p) (l := l) (k := k) (by rw [hn.out]; exact hlt))
      obtain ⟨r1, r2⟩ := HR.out k
      have HR2 := hide (HR.out (k + 1))
      rw [HS.out] at HR2
      generalize Cv.sumIf (Cv.sB p) (l.take k) = sk at *
      generalize Cv.nth l k = x at *
      have hdB : Cv.sB p x = (x.sd == 1 && decide (x.pr ≤ p)) := rfl
      by_cases hs : x.sd = 1
      · by_cases hp : x.pr ≤ p
        · have hd : Cv.sB p x = true := by rw [hdB]; simp [hs, hp]
          have HS2 := hide (show Cv.sumIf (Cv.sB p) (l.take (k + 1)) = sk + x.q by have := HS.out; rw [hd] at this; simpa using this)
          have hr2 : 0 ≤ sk + x.q ∧ sk + x.q ≤ 120000 := by have := HR2.out; rw [hd] at this; simpa using this
          clear HS HR2 hd hdB
          obtain ⟨r3, r4⟩ := hr2
          go_wp2
          exact ⟨⟨k + 1, by omega, by go_num, by rw [HS2.out]⟩, by simp [intOf]; omega⟩
        · have hd : Cv.sB p x = false := by rw [hdB]; simp [hp]
          have HS2 := hide (show Cv.sumIf (Cv.sB p) (l.take (k + 1)) = sk by have := HS.out; rw [hd] at this; simpa using this)
          clear HS HR2 hd hdB
          go_wp2
          exact ⟨⟨k + 1, by omega, by go_num, by rw [HS2.out]⟩, by simp [intOf]; omega⟩
      · have hd : Cv.sB p x = false := by rw [hdB]; simp [hs]
        have HS2 := hide (show Cv.sumIf (Cv.sB p) (l.take (k + 1)) = sk by have := HS.out; rw [hd] at this; simpa using this)
        clear HS HR2 hd hdB
        go_wp2
        exact ⟨⟨k + 1, by omega, by go_num, by rw [HS2.out]⟩, by simp [intOf]; omega⟩
    · have hki : ¬ (k : Int) < n := by omega
      have hkk : l.take k = l := by
        have : k = l.length := by rw [hn.out]; omega
        rw [this, List.take_length]
      have Hkk := hide hkk
      clear hkk
      go_wp2
      go_ret
      exact ⟨by rw [Hkk.out]; rfl, rfl⟩
theorem supplyOf_none (a : Option Addr) (cap : Nat) (p : Int) (w : World) : Calls Tryd.prog 47 #[.slice a 0 cap, .int .i64 p] w fun e w' => e = .returned (.int .i64 0) ∧ w' = w := by
  go_enter Tryd.func47, Tryd.ntmps47
  go_wp2
  refine wp_loop_rounds 1 ?_
  rw [rounds_succ]
  go_wp2
  go_ret
  exact ⟨rfl, rfl⟩

/-- a slice of lots that came in -/
def Came (w : World) (v : Value) (l : List Cv.Lot) : Prop := (l = [] ∧ ∃ a cap, v = .slice a 0 cap) ∨ ∃ g cap, v = .slice (some g) l.length cap ∧ ArgAt w g l
theorem Came.later {w w' : World} {v : Value} {l : List Cv.Lot} (h : Came w v l) (hb : Below w.heap.size w w') : Came w' v l := by
  rcases h with h | ⟨g, cap, h1, h2⟩
  · exact .inl h
  · exact .inr ⟨g, cap, h1, h2.later hb⟩
theorem came_of {w : World} {a : Option Addr} {cap : Nat} {l : List Cv.Lot} (h : ArgLots w a l) : Came w (.slice a l.length cap) l := by
  rcases h with rfl | ⟨g, rfl, hc⟩
  · exact .inl ⟨rfl, _, _, rfl⟩
  · exact .inr ⟨g, cap, rfl, argAt_of_flat hc⟩
theorem demandOf_any (v : Value) (l : List Cv.Lot) (p : Int) (w : World) (hv : Came w v l) (hok : Cv.Well l) : Calls Tryd.prog 46 #[v, .int .i64 p] w fun e w' => e = .returned (.int .i64 (Cv.demand l p)) ∧ w' = w := by
  rcases hv with ⟨rfl, a, cap, rfl⟩ | ⟨g, cap, rfl, hl⟩
  · exact demandOf_none a cap p w
  · exact demandOf_some g _ cap p l w rfl hok hl
theorem supplyOf_any (v : Value) (l : List Cv.Lot) (p : Int) (w : World) (hv : Came w v l) (hok : Cv.Well l) : Calls Tryd.prog 47 #[v, .int .i64 p] w fun e w' => e = .returned (.int .i64 (Cv.supply l p)) ∧ w' = w := by
  rcases hv with ⟨rfl, a, cap, rfl⟩ | ⟨g, cap, rfl, hl⟩
  · exact supplyOf_none a cap p w
  · exact supplyOf_some g _ cap p l w rfl hok hl
theorem Came.form {w : World} {v : Value} {l : List Cv.Lot} (h : Came w v l) : ∃ a n cap, v = .slice a n cap := by
  rcases h with ⟨_, a, cap, rfl⟩ | ⟨g, cap, rfl, _⟩
  · exact ⟨_, _, _, rfl⟩
  · exact ⟨_, _, _, rfl⟩
theorem volumeOf_any (v : Value) (l : List Cv.Lot) (p : Int) (w : World) (hv : Came w v l) (hok : Cv.Well l) : Calls Tryd.prog 14 #[v, .int .i64 p] w fun e w' => e = .returned (.int .i64 (Cv.volume l p)) ∧ w' = w := by
  obtain ⟨a, n, cap, rfl⟩ := hv.form
  have HD := hide (demandOf_any _ l p w hv hok)
  have HS := hide (supplyOf_any _ l p w hv hok)
  have hvol : Cv.volume l p = min (Cv.demand l p) (Cv.supply l p) := rfl
  have Hvol := hide hvol
  clear hvol hv
  generalize Cv.demand l p = d at *
  generalize Cv.supply l p = s at *
  go_enter Tryd.func14, Tryd.ntmps14
  go_wp2_with fail
  refine HD.out.mono ?_
  rintro e w1 ⟨rfl, rfl⟩
  simp only []
  go_wp2_with fail
  refine HS.out.mono ?_
  rintro e w1 ⟨rfl, rfl⟩
  simp only []
  go_wp2
  all_goals go_ret
  all_goals exact ⟨ret_int (by rw [Hvol.out]; omega), rfl⟩
end Go.Proofs.YtbcinejhipmomaaDoor
