/- sameGots of two lists with the same cells. -/
import Derived.Test.YtibdemdhbpkeeaaDoorFeed
namespace Go.Proofs.YtibdemdhbpkeeaaDoor
open Go.RowKit
set_option maxRecDepth 100000

theorem gots_nil (c1 c2 : Nat) (a1 a2 : Option Addr) (w : World) :
    Calls Tryd.prog 18 #[.slice a1 0 c1, .slice a2 0 c2] w fun e w' => e = .returned (.bool true) ∧ ∃ m, w' = w.drewN m := by
  go_enter Tryd.func18, Tryd.ntmps18
  go_wp2
  refine wp_loop_rounds 1 ?_
  rw [rounds_succ]
  go_wp2
  go_ret
  exact ⟨rfl, 0, rfl⟩

/-- the cells of one element -/
def GotAt (w : World) (g : Nat) (t : ByteArray) (i : Nat) : Prop :=
  ∃ x0 x1 x2 x3 x4 x5 x6 x7 dc : Nat, gotCells (fr t i) = [.int .u8 x0, .int .i64 x1, .int .i64 x2, .int .i64 x3, .int .i64 x4, .int .i64 x5, .int .i64 x6, .int .i64 x7, .int .i64 dc] ∧
    w.cell? ⟨g, i * 9, none⟩ = some (.int .u8 x0) ∧ w.cell? ⟨g, i * 9 + 1, none⟩ = some (.int .i64 x1) ∧ w.cell? ⟨g, i * 9 + 2, none⟩ = some (.int .i64 x2) ∧ w.cell? ⟨g, i * 9 + 3, none⟩ = some (.int .i64 x3) ∧ w.cell? ⟨g, i * 9 + 4, none⟩ = some (.int .i64 x4) ∧
    w.cell? ⟨g, i * 9 + 5, none⟩ = some (.int .i64 x5) ∧ w.cell? ⟨g, i * 9 + 6, none⟩ = some (.int .i64 x6) ∧ w.cell? ⟨g, i * 9 + 7, none⟩ = some (.int .i64 x7) ∧ w.cell? ⟨g, i * 9 + 8, none⟩ = some (.int .i64 dc)
theorem Gots.at {w : World} {base g len cap n : Nat} {t : ByteArray} (h : Gots w base (.slice (some ⟨g, 0, none⟩) len cap) t n) (i : Nat) (hi : i < n) : GotAt w g t i := by
  have key : ∀ j, j < 9 → ∀ u, (gotCells (fr t i))[j]? = some u → w.cell? ⟨g, i * 9 + j, none⟩ = some u := by
    intro j hj u hu
    have := World.ownsRow.cells h (g := g) rfl (i * 9 + j) u (by rw [Nat.mul_comm i 9, gots_at t n i j hi hj]; exact hu)
    have hp : (⟨g, 0, none⟩ : Addr).add (i * 9 + j) = ⟨g, i * 9 + j, none⟩ := by unfold Addr.add; split <;> simp_all
    rwa [hp] at this
  exact ⟨_, _, _, _, _, _, _, _, _, rfl, key 0 (by decide) _ rfl, key 1 (by decide) _ rfl, key 2 (by decide) _ rfl, key 3 (by decide) _ rfl, key 4 (by decide) _ rfl, key 5 (by decide) _ rfl, key 6 (by decide) _ rfl, key 7 (by decide) _ rfl, key 8 (by decide) _ rfl⟩

set_option maxHeartbeats 1000000 in
theorem gots_cells (b1 b2 c1 c2 n : Nat) (t : ByteArray) (w : World) (hn : n ≤ 100000) (h1 : Hid (∀ i, i < n → GotAt w b1 t i)) (h2 : Hid (∀ i, i < n → GotAt w b2 t i)) :
    Calls Tryd.prog 18 #[.slice (some ⟨b1, 0, none⟩) n c1, .slice (some ⟨b2, 0, none⟩) n c2] w fun e w' => e = .returned (.bool true) ∧ ∃ m, w' = w.drewN m := by
  go_enter Tryd.func18, Tryd.ntmps18
  go_wp2
  go_loopw [5] (fun i wr => ∃ k m : Nat, k ≤ n ∧ i = .int .i64 k ∧ wr = w.drewN m) (fun i _ => n - (intOf i).toNat)
  case atStart => exact ⟨0, 0, by omega, rfl, rfl⟩
  case round =>
    obtain ⟨k, m, hk, rfl, rfl⟩ := hrel
    by_cases hlt : k < n
    · obtain ⟨x0, x1, x2, x3, x4, x5, x6, x7, dc, hg1, p0, p1, p2, p3, p4, p5, p6, p7, p8⟩ := h1.out k hlt
      obtain ⟨y0, y1, y2, y3, y4, y5, y6, y7, dd, hg2, q0, q1, q2, q3, q4, q5, q6, q7, q8⟩ := h2.out k hlt
      rw [hg1] at hg2
      simp only [List.cons.injEq, Value.int.injEq, true_and, and_true] at hg2
      obtain ⟨e0, e1, e2, e3, e4, e5, e6, e7, e8⟩ := hg2
      rw [← e0] at q0; rw [← e1] at q1; rw [← e2] at q2; rw [← e3] at q3; rw [← e4] at q4; rw [← e5] at q5; rw [← e6] at q6; rw [← e7] at q7; rw [← e8] at q8
      clear hg1 e0 e1 e2 e3 e4 e5 e6 e7 e8
      have hki : (k : Int) < n := by omega
      go_wp2
      go_quiet (fail)
      go_wp2
      exact ⟨⟨k + 1, m + nq, by omega, by go_num, rfl⟩, by simp [intOf]; omega⟩
    · go_wp2
      go_ret
      exact ⟨rfl, m, rfl⟩

theorem Gots.form {w : World} {base : Nat} {v : Value} {t : ByteArray} {n : Nat} (h : Gots w base v t n) : ∃ a cap, v = .slice a n cap ∧ (0 < n → ∃ g, a = some ⟨g, 0, none⟩) := by
  rcases h.2 with ⟨rfl, rfl⟩ | ⟨g, cap, cur, rfl, _⟩
  · exact ⟨none, 0, rfl, fun h => absurd h (Nat.lt_irrefl 0)⟩
  · exact ⟨_, _, rfl, fun _ => ⟨g, rfl⟩⟩
theorem gots_same (v1 v2 : Value) (base1 base2 n : Nat) (t : ByteArray) (w : World) (hn : n ≤ 100000) (h1 : Gots w base1 v1 t n) (h2 : Gots w base2 v2 t n) :
    Calls Tryd.prog 18 #[v1, v2] w fun e w' => e = .returned (.bool true) ∧ ∃ m, w' = w.drewN m := by
  obtain ⟨a1, c1, rfl, f1⟩ := h1.form
  obtain ⟨a2, c2, rfl, f2⟩ := h2.form
  by_cases h0 : n = 0
  · subst h0
    exact gots_nil c1 c2 a1 a2 w
  · obtain ⟨g1, rfl⟩ := f1 (by omega)
    obtain ⟨g2, rfl⟩ := f2 (by omega)
    exact gots_cells g1 g2 c1 c2 n t w hn (fun i hi => h1.at i hi) (fun i hi => h2.at i hi)

/-- lists of gots, and what leaves them as they are -/
theorem Gots.below {w w' : World} {base : Nat} {v : Value} {t : ByteArray} {n : Nat} (h : Gots w base v t n) (hb : Below w.heap.size w w') : Gots w' base v t n :=
  h.kept (row := none) ⟨hb.os, hb.tape, hb.output, hb.size, fun j hj _ => hb.block j hj⟩ (by cases v.ownBlock <;> simp)
theorem Gots.mono {w : World} {base base' : Nat} {v : Value} {t : ByteArray} {n : Nat} (h : Gots w base v t n) (hb : base' ≤ base) : Gots w base' v t n := by
  refine ⟨h.1, ?_⟩
  rcases h.2 with hn | ⟨g, cap, cur, rfl, hb', rest⟩
  · exact .inl hn
  · exact .inr ⟨g, cap, cur, rfl, by omega, rest⟩
/-- a Reader's cell is written: its block is none of a list's -/
theorem Gots.setCell {w : World} {base p j : Nat} {v : Value} {t : ByteArray} {n : Nat} {cs : Array Value} {f : Nat × Nat} (h : Gots w base v t n) (hp : w.heap[p]? = some (.cells cs 47 f)) (u : Value) : Gots (w.setCell ⟨p, j, none⟩ u) base v t n := by
  refine ⟨h.1, ?_⟩
  rcases h.2 with hn | ⟨g, cap, cur, rfl, hb', hg, rest⟩
  · exact .inl hn
  · refine .inr ⟨g, cap, cur, rfl, hb', ?_, rest⟩
    rw [heap_setCell_other _ _ g _ ?_]
    · exact hg
    · intro hk
      have hk : g = p := hk
      rw [hk, hp] at hg
      simp at hg
end Go.Proofs.YtibdemdhbpkeeaaDoor
