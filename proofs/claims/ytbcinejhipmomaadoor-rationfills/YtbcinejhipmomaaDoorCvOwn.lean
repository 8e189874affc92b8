/- Lots as cells; OwnLots by its contract. -/
import Derived.Test.YtbcinejhipmomaaDoorCvBest
namespace Go.Proofs.YtbcinejhipmomaaDoor
open Go.RowKit
set_option maxRecDepth 100000

def lotCells (x : Cv.Lot) : List Value := [.int .i64 x.id, .int .i64 x.ow, .int .i64 x.sd, .int .i64 x.pr, .int .i64 x.q]
def flat (l : List Cv.Lot) : List Value := l.flatMap lotCells
theorem flat_length : ∀ l : List Cv.Lot, (flat l).length = l.length * 5
  | [] => rfl
  | x :: l => by
    have := flat_length l
    simp only [flat, List.flatMap_cons, List.length_append, List.length_cons] at this ⊢
    rw [this, show (lotCells x).length = 5 from rfl]
    omega
theorem flat_at : ∀ (l : List Cv.Lot) (i j : Nat), i < l.length → j < 5 → (flat l)[i * 5 + j]? = (lotCells (Cv.nth l i))[j]?
  | [], i, j, h, _ => absurd h (Nat.not_lt_zero i)
  | x :: l, 0, j, _, hj => by
    show (lotCells x ++ flat l)[0 * 5 + j]? = _
    rw [Nat.zero_mul, Nat.zero_add, List.getElem?_append_left (by show j < 5; exact hj)]
    rfl
  | x :: l, i + 1, j, h, hj => by
    show (lotCells x ++ flat l)[(i + 1) * 5 + j]? = _
    rw [List.getElem?_append_right (by show 5 ≤ _; omega), show (i + 1) * 5 + j - (lotCells x).length = i * 5 + j by show _ - 5 = _; omega, flat_at l i j (by simpa using h) hj]
    rfl
theorem flat_one (l : List Cv.Lot) (u : Value) (h : u ∈ flat l) : u.oneCell' = true := by
  obtain ⟨x, _, hx⟩ := List.mem_flatMap.1 h
  simp only [lotCells, List.mem_cons, List.not_mem_nil, or_false] at hx
  rcases hx with rfl | rfl | rfl | rfl | rfl <;> rfl
theorem lotsAt_of_flat {w : World} {b : Nat} {l : List Cv.Lot} (h : ∀ j u, (flat l)[j]? = some u → w.cell? ⟨b, j, none⟩ = some u) : LotsAt w b 0 l := by
  intro i hi
  have key : ∀ j u, j < 5 → (lotCells (Cv.nth l i))[j]? = some u → w.cell? ⟨b, i * 5 + j, none⟩ = some u := fun j u hj hu => h _ u (by rw [flat_at l i j hi hj]; exact hu)
  rw [Nat.zero_add]
  exact ⟨key 0 _ (by decide) rfl, key 1 _ (by decide) rfl, key 2 _ (by decide) rfl, key 3 _ (by decide) rfl, key 4 _ (by decide) rfl⟩

/-- a slice that came in, as a list of lots -/
def ArgLots (w : World) (a : Option Addr) (l : List Cv.Lot) : Prop := l = [] ∨ ∃ g, a = some g ∧ ∀ j u, (flat l)[j]? = some u → w.cell? (g.add j) = some u

theorem info110 : ∃ i z, Tryd.prog.info? 43 = some i ∧ i.zero = some z ∧ i.size = 5 ∧ i.bytes = 40 ∧ z.cells.size = 5 := ⟨_, _, rfl, rfl, rfl, rfl, rfl⟩

set_option maxHeartbeats 400000 in
theorem own_some (g : Addr) (n cap : Nat) (l : List Cv.Lot) (w : World) (hn : Hid (l.length = n)) (hn' : n ≤ 1000) (hc : Hid (∀ j u, (flat l)[j]? = some u → w.cell? (g.add j) = some u)) :
    Calls Tryd.prog 11 #[.slice (some g) n cap] w fun e w' => ∃ v, e = .returned v ∧ Lots w' v l ∧ (l = [] → v = .slice none 0 0) ∧ Below w.heap.size w w' := by
  obtain ⟨i0, z0, hi, hz0, hz1, hz2, hz3⟩ := info110
  have Hi := hide hi; have Hz0 := hide hz0; have Hz1 := hide hz1; have Hz2 := hide hz2; have Hz3 := hide hz3
  clear hi hz0 hz1 hz2 hz3
  go_enter Tryd.func11, Tryd.ntmps11
  go_wp2_with (at_builtin; refine wpList_append_own _ rfl _ _ 22 rfl w.heap.size 43 i0 z0 5 40 Tryd.underlying22 Hi.out Hz0.out Hz1.out Hz2.out Hz3.out (by decide) _ _ _ rfl (World.ownsRow_nil _ _ _ _) g n cap (flat l) rfl (by rw [flat_length, hn.out]) hc.out (flat_one l) (by unfold maxLen; omega) (by omega) (Nat.le_refl _) ?_)
  intro v3 w3 hown hgrow hnil
  have HN : Hid (l = [] → v3 = .slice none 0 0) := fun e => hnil.2 (by rw [← hn.out, e]; rfl)
  have HB3 : Hid (Below w.heap.size w w3) := (Below.refl _ _).grown hgrow (Nat.le_refl _) (fun k hk => by cases hk)
  have HL : Hid (Lots w3 v3 l) := by
    rcases hown.2 with ⟨h1, h2⟩ | ⟨g', cap', cur, h1, _, _, h2, _, _, _⟩
    · exact .inl ⟨List.eq_nil_of_length_eq_zero (by rw [hn.out]; omega), none, 0, h1⟩
    · refine .inr ⟨g', 0, cap', by rw [h1, hn.out], by rw [hn.out]; omega, lotsAt_of_flat fun j u hu => ?_⟩
      have := World.ownsRow.cells hown (g := g') (by rw [h1]; rfl) j u (by simpa using hu)
      have hp : (⟨g', 0, none⟩ : Addr).add j = ⟨g', j, none⟩ := by unfold Addr.add; split <;> simp_all
      rwa [hp] at this
  clear hown hgrow hnil
  go_wp2
  go_ret
  exact ⟨v3, rfl, HL.out, HN.out, HB3.out⟩

theorem own_none (cap : Nat) (w : World) : Calls Tryd.prog 11 #[.slice none 0 cap] w fun e w' => ∃ v, e = .returned v ∧ Lots w' v [] ∧ (([] : List Cv.Lot) = [] → v = .slice none 0 0) ∧ Below w.heap.size w w' := by
  go_enter Tryd.func11, Tryd.ntmps11
  go_wp2
  go_ret
  exact ⟨.slice none 0 0, rfl, .inl ⟨rfl, none, 0, rfl⟩, fun _ => rfl, Below.refl _ _⟩
theorem own_any (a : Option Addr) (cap : Nat) (l : List Cv.Lot) (w : World) (hn' : l.length ≤ 1000) (hc : ArgLots w a l) :
    Calls Tryd.prog 11 #[.slice a l.length cap] w fun e w' => ∃ v, e = .returned v ∧ Lots w' v l ∧ (l = [] → v = .slice none 0 0) ∧ Below w.heap.size w w' := by
  rcases hc with rfl | ⟨g, rfl, hc⟩
  · cases a with
    | none => exact own_none cap w
    | some g => exact own_some g 0 cap [] w rfl (by omega) (fun j u h => by simp [flat] at h)
  · exact own_some g _ cap l w rfl hn' hc
end Go.Proofs.YtbcinejhipmomaaDoor
