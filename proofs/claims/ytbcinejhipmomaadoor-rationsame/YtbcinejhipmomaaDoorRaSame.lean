/- SameFills and filledOf by their contracts. -/
import Derived.Test.YtbcinejhipmomaaDoorRaShare
namespace Go.Proofs.YtbcinejhipmomaaDoor
open Go.RowKit
set_option maxRecDepth 100000

def fnth (F : List (Int × Int)) (i : Nat) : Int × Int := F.getD i (0, 0)
/-- a slice that holds fills -/
def Fls (w : World) (v : Value) (F : List (Int × Int)) : Prop :=
  (F = [] ∧ ∃ a cap, v = .slice a 0 cap) ∨ ∃ b cap, v = .slice (some ⟨b, 0, none⟩) F.length cap ∧ ∀ i, i < F.length → w.cell? ⟨b, i * 2, none⟩ = some (.int .i64 (fnth F i).1) ∧ w.cell? ⟨b, i * 2 + 1, none⟩ = some (.int .i64 (fnth F i).2)
theorem Fls.later {w w' : World} {v : Value} {F : List (Int × Int)} (h : Fls w v F) (hb : Below w.heap.size w w') : Fls w' v F := by
  rcases h with h | ⟨b, cap, h1, h2⟩
  · exact .inl h
  · exact .inr ⟨b, cap, h1, fun i hi => ⟨cell_later hb (h2 i hi).1, cell_later hb (h2 i hi).2⟩⟩
theorem fcells_at : ∀ (F : List (Int × Int)) (i : Nat), i < F.length → (fcells F)[i * 2]? = some (.int .i64 (fnth F i).1) ∧ (fcells F)[i * 2 + 1]? = some (.int .i64 (fnth F i).2)
  | [], i, h => absurd h (Nat.not_lt_zero i)
  | f :: F, 0, _ => by simp [fcells, fnth]
  | f :: F, i + 1, h => by
    have ih := fcells_at F i (by simpa using h)
    have e : fcells (f :: F) = .int .i64 f.1 :: .int .i64 f.2 :: fcells F := rfl
    rw [e, show (i + 1) * 2 = i * 2 + 1 + 1 by omega]
    refine ⟨?_, ?_⟩
    · rw [List.getElem?_cons_succ, List.getElem?_cons_succ, ih.1]; rfl
    · rw [List.getElem?_cons_succ, List.getElem?_cons_succ, ih.2]; rfl
theorem fls_of {w : World} {base : Nat} {v : Value} {F : List (Int × Int)} (h : w.ownsRow base 45 2 v F.length (fcells F)) : Fls w v F := by
  rcases h.2 with ⟨h1, h2⟩ | ⟨g, cap, cur, h1, _⟩
  · exact .inl ⟨List.eq_nil_of_length_eq_zero h2, none, 0, h1⟩
  · refine .inr ⟨g, cap, h1, fun i hi => ?_⟩
    have key : ∀ j u, (fcells F)[j]? = some u → w.cell? ⟨g, j, none⟩ = some u := fun j u hu => by
      have := World.ownsRow.cells h (g := g) (by rw [h1]; rfl) j u hu
      have hp : (⟨g, 0, none⟩ : Addr).add j = ⟨g, j, none⟩ := by unfold Addr.add; split <;> simp_all
      rwa [hp] at this
    exact ⟨key _ _ (fcells_at F i hi).1, key _ _ (fcells_at F i hi).2⟩
theorem take_fnth {F : List (Int × Int)} {k : Nat} (h : k < F.length) : F.take (k + 1) = F.take k ++ [fnth F k] := by
  unfold fnth; rw [List.take_succ_eq_append_getElem h, List.getD_eq_getElem?_getD, List.getElem?_eq_getElem h]; rfl

theorem filledOf_none (a : Option Addr) (cap : Nat) (id : Int) (w : World) : Calls Tryd.prog 18 #[.slice a 0 cap, .int .i64 id] w fun e w' => e = .returned (.int .i64 0) ∧ w' = w := by
  go_enter Tryd.func18, Tryd.ntmps18
  go_wp2
  refine wp_loop_rounds 1 ?_
  rw [rounds_succ]
  go_wp2
  go_ret
  exact ⟨rfl, rfl⟩
theorem got_bounds (id : Int) : ∀ F : List (Int × Int), (∀ f ∈ F, 0 ≤ f.2 ∧ f.2 ≤ 1000) → 0 ≤ Ra.got id F ∧ Ra.got id F ≤ 1000 * F.length
  | [], _ => by simp [Ra.got]
  | f :: F, h => by
    have ih := got_bounds id F (fun g hg => h g (List.mem_cons_of_mem _ hg))
    have hf := h f List.mem_cons_self
    simp only [Ra.got, List.length_cons]
    split <;> omega
set_option maxHeartbeats 400000 in
theorem filledOf_some (b n cap : Nat) (id : Int) (F : List (Int × Int)) (w : World) (hn : Hid (F.length = n)) (hn' : n ≤ 1000) (hq : Hid (∀ f ∈ F, 0 ≤ f.2 ∧ f.2 ≤ 1000))
    (hc : Hid (∀ i, i < n → w.cell? ⟨b, i * 2, none⟩ = some (.int .i64 (fnth F i).1) ∧ w.cell? ⟨b, i * 2 + 1, none⟩ = some (.int .i64 (fnth F i).2))) :
    Calls Tryd.prog 18 #[.slice (some ⟨b, 0, none⟩) n cap, .int .i64 id] w fun e w' => e = .returned (.int .i64 (Ra.got id F)) ∧ w' = w := by
  go_enter Tryd.func18, Tryd.ntmps18
  go_wp2
  go_loopw [5, 6] (fun s i wr => ∃ k : Nat, k ≤ n ∧ i = .int .i64 k ∧ s = .int .i64 (Ra.got id (F.take k)) ∧ wr = w) (fun _ i _ => n - (intOf i).toNat)
  case atStart => exact ⟨0, Nat.zero_le _, rfl, rfl, rfl⟩
  case round =>
    obtain ⟨k, hk, rfl, rfl, rfl⟩ := hrel
    by_cases hlt : k < n
    · have hki : (k : Int) < n := by omega
      obtain ⟨c0, c1⟩ := hc.out k hlt
      have HT := hide (take_fnth (F := F) (k := k) (by rw [hn.out]; exact hlt))
      have hg := got_bounds id (F.take k) (fun f hf => hq.out f (List.mem_of_mem_take hf))
      rw [List.length_take, hn.out] at hg
      have hf : 0 ≤ (fnth F k).2 ∧ (fnth F k).2 ≤ 1000 := hq.out _ (by
        unfold fnth; rw [List.getD_eq_getElem?_getD, List.getElem?_eq_getElem (by rw [hn.out]; exact hlt)]; exact List.getElem_mem _)
      generalize fnth F k = f at *
      obtain ⟨s, hs⟩ : ∃ s, Ra.got id (F.take k) = s := ⟨_, rfl⟩
      rw [hs] at hg ⊢
      have HS := hide hs
      clear hs
      have hg2 : s ≤ 1000000 := by omega
      by_cases hx : f.1 = id
      · have HN : Hid (Ra.got id (F.take (k + 1)) = s + f.2) := by
          show _ = _
          rw [HT.out, Ra.got_append, HS.out]; simp [Ra.got, hx]
        clear HT HS
        go_wp2
        exact ⟨⟨k + 1, by omega, by go_num, by first | (rw [HN.out]; done) | (rw [HN.out]; go_num), by first | rfl | trivial⟩, by simp [intOf]; omega⟩
      · have HN : Hid (Ra.got id (F.take (k + 1)) = s) := by
          show _ = _
          rw [HT.out, Ra.got_append, HS.out]; simp [Ra.got, hx]
        clear HT HS
        go_wp2
        exact ⟨⟨k + 1, by omega, by go_num, by rw [HN.out], by first | rfl | trivial⟩, by simp [intOf]; omega⟩
    · have hki : ¬ (k : Int) < n := by omega
      rw [show F.take k = F from List.take_of_length_le (by rw [hn.out]; omega)]
      go_wp2
      go_ret
      exact ⟨rfl, by first | rfl | trivial⟩
theorem filledOf_any (v : Value) (id : Int) (F : List (Int × Int)) (w : World) (hv : Fls w v F) (hn : F.length ≤ 1000) (hq : ∀ f ∈ F, 0 ≤ f.2 ∧ f.2 ≤ 1000) :
    Calls Tryd.prog 18 #[v, .int .i64 id] w fun e w' => e = .returned (.int .i64 (Ra.got id F)) ∧ w' = w := by
  rcases hv with ⟨rfl, a, cap, rfl⟩ | ⟨b, cap, rfl, hc⟩
  · exact filledOf_none a cap id w
  · exact filledOf_some b _ cap id F w rfl hn hq hc

theorem sameFills_none (a a' : Option Addr) (cap cap' : Nat) (w : World) : Calls Tryd.prog 16 #[.slice a 0 cap, .slice a' 0 cap'] w fun e w' => e = .returned (.bool true) ∧ w' = w := by
  go_enter Tryd.func16, Tryd.ntmps16
  go_wp2
  refine wp_loop_rounds 1 ?_
  rw [rounds_succ]
  go_wp2
  go_ret
  exact ⟨rfl, rfl⟩
set_option maxHeartbeats 400000 in
theorem sameFills_some (b b' n cap cap' : Nat) (F : List (Int × Int)) (w : World) (hn' : n ≤ 1000)
    (hc : Hid (∀ i, i < n → w.cell? ⟨b, i * 2, none⟩ = some (.int .i64 (fnth F i).1) ∧ w.cell? ⟨b, i * 2 + 1, none⟩ = some (.int .i64 (fnth F i).2)))
    (hc' : Hid (∀ i, i < n → w.cell? ⟨b', i * 2, none⟩ = some (.int .i64 (fnth F i).1) ∧ w.cell? ⟨b', i * 2 + 1, none⟩ = some (.int .i64 (fnth F i).2))) :
    Calls Tryd.prog 16 #[.slice (some ⟨b, 0, none⟩) n cap, .slice (some ⟨b', 0, none⟩) n cap'] w fun e w' => e = .returned (.bool true) ∧ Below w.heap.size w w' := by
  go_enter Tryd.func16, Tryd.ntmps16
  go_wp2
  go_loopw [5] (fun i wr => ∃ k : Nat, k ≤ n ∧ i = .int .i64 k ∧ Below w.heap.size w wr) (fun i _ => n - (intOf i).toNat)
  case atStart => exact ⟨0, Nat.zero_le _, rfl, Below.refl _ _⟩
  case round =>
    obtain ⟨k, hk, rfl, hb⟩ := hrel
    have HB := hide hb
    clear hb
    by_cases hlt : k < n
    · have hki : (k : Int) < n := by omega
      obtain ⟨c0, c1⟩ := hc.out k hlt
      obtain ⟨d0, d1⟩ := hc'.out k hlt
      have c0 := cell_later HB.out c0
      have c1 := cell_later HB.out c1
      have d0 := cell_later HB.out d0
      have d1 := cell_later HB.out d1
      generalize fnth F k = f at *
      go_wp2_with fail
      go_region
      go_wp2
      exact ⟨⟨k + 1, by omega, by go_num, below_drew HB.out⟩, by simp [intOf]; omega⟩
    · have hki : ¬ (k : Int) < n := by omega
      go_wp2
      go_ret
      exact ⟨rfl, HB.out⟩
theorem sameFills_any (v v' : Value) (F : List (Int × Int)) (w : World) (hv : Fls w v F) (hv' : Fls w v' F) (hn : F.length ≤ 1000) :
    Calls Tryd.prog 16 #[v, v'] w fun e w' => e = .returned (.bool true) ∧ Below w.heap.size w w' := by
  rcases hv with ⟨rfl, a, cap, rfl⟩ | ⟨b, cap, rfl, hc⟩
  · rcases hv' with ⟨_, a', cap', rfl⟩ | ⟨b', cap', rfl, _⟩
    · exact (sameFills_none a a' cap cap' w).mono fun e w' ⟨h1, h2⟩ => ⟨h1, h2 ▸ Below.refl _ _⟩
    · exact (sameFills_none a _ cap cap' w).mono fun e w' ⟨h1, h2⟩ => ⟨h1, h2 ▸ Below.refl _ _⟩
  · rcases hv' with ⟨rfl, a', cap', rfl⟩ | ⟨b', cap', rfl, hc'⟩
    · exact (sameFills_none _ a' cap cap' w).mono fun e w' ⟨h1, h2⟩ => ⟨h1, h2 ▸ Below.refl _ _⟩
    · exact sameFills_some b b' _ cap cap' F w hn hc hc'
end Go.Proofs.YtbcinejhipmomaaDoor
