/- The small calls of an intake by their contracts: New, Wait, Clear, Turn. -/
import Derived.Test.YtfifmigmdiegdaaDoorIkMem
namespace Go.Proofs.YtfifmigmdiegdaaDoor
open Go.RowKit
set_option maxRecDepth 100000
section
variable {w : World} {base p t : Nat} {V : Nat → Value} {L : Nat → List Ask}
theorem isClient_any (x : Int) (w : World) : Calls Tryd.prog 19 #[.int .i64 x] w fun e w' => e = .returned (.bool (Ik.isC x)) ∧ w' = w := by
  have HW := hide (within_any x 0 5 w)
  go_enter Tryd.func19, Tryd.ntmps19
  go_wp2_with fail
  refine HW.out.mono ?_
  rintro e w2 ⟨rfl, rfl⟩
  simp only []
  go_wp2
  go_ret
  exact ⟨rfl, rfl⟩
theorem after_any (n k : Nat) (w : World) (hn : n < 6) (hk : k ≤ 6) : Calls Tryd.prog 20 #[.int .i64 n, .int .i64 k] w fun e w' => e = .returned (.int .i64 (Ik.who n k : Nat)) ∧ w' = w := by
  have h1 : IntKind.i64.wrap ((n : Int) + k) = (n : Int) + k := IntWalk.i64_in _ (by omega)
  have h2 : ((Ik.who n k : Nat) : Int) = ((n : Int) + k).tmod 6 := by
    unfold Ik.who
    rw [Int.tmod_eq_emod_of_nonneg (by omega)]
    omega
  have h3 : IntKind.i64.wrap (((n : Int) + k).tmod 6) = ((n : Int) + k).tmod 6 := IntWalk.i64_in _ (by rw [← h2]; have := Ik.who_lt n k; omega)
  rw [h2]
  go_enter Tryd.func20, Tryd.ntmps20
  go_wp2
  go_ret
  exact ⟨rfl, rfl⟩
theorem new_any (w : World) : Calls Tryd.prog 7 #[] w fun e w' => e = .returned (.pointer (some ⟨w.heap.size, 0, none⟩)) ∧ Itk w' w.heap.size w.heap.size (fun _ => .slice none 0 0) 0 (fun _ => []) ∧ Below w.heap.size w w' := by
  go_enter Tryd.func7, Tryd.ntmps7
  go_wp2
  go_ret
  refine ⟨rfl, ⟨?_, Nat.le_refl _, by decide, fun c _ => World.ownsRow_nil _ _ _ _, fun c _ => by simp, fun c d _ _ _ k h => by simp [Value.ownBlock] at h⟩, (Below.refl _ _).alloc (Nat.le_refl _) _⟩
  exact heap_alloc_new _ _
set_option maxHeartbeats 1000000 in
theorem wait_any (n : Int) (w : World) (hi : Hid (Itk w base p V t L)) : Calls Tryd.prog 10 #[.pointer (some ⟨p, 0, none⟩), .int .i64 n] w fun e w' => e = .returned (.int .i64 (Ik.waitN L n : Nat)) ∧ w' = w := by
  have HC := hide (isClient_any n w)
  unfold Ik.waitN
  cases h : Ik.isC n with
  | false =>
    rw [h] at HC
    clear h
    go_enter Tryd.func10, Tryd.ntmps10
    go_wp2_with fail
    refine HC.out.mono ?_
    rintro e w2 ⟨rfl, rfl⟩
    simp only []
    go_wp2
    go_ret
    exact ⟨rfl, rfl⟩
  | true =>
    rw [h] at HC
    obtain ⟨c, hc, rfl⟩ := Ik.isC_lt h
    clear h
    have hat := hi.out.at hc
    obtain ⟨a, k, hV⟩ := hi.out.form hc
    rw [hV] at hat
    have hf := hi.out.few c hc
    simp only [Int.toNat_natCast, if_true]
    generalize (L c).length = m at *
    go_enter Tryd.func10, Tryd.ntmps10
    go_wp2_with fail
    refine HC.out.mono ?_
    rintro e w2 ⟨rfl, rfl⟩
    simp only []
    go_wp2
    go_ret
    exact ⟨rfl, rfl⟩
theorem turn_any (w : World) (hi : Hid (Itk w base p V t L)) : Calls Tryd.prog 17 #[.pointer (some ⟨p, 0, none⟩)] w fun e w' => e = .returned (.int .i64 (t : Int)) ∧ w' = w := by
  have hat := hi.out.atTurn
  go_enter Tryd.func17, Tryd.ntmps17
  go_wp2
  go_ret
  exact ⟨rfl, rfl⟩
end
end Go.Proofs.YtfifmigmdiegdaaDoor
