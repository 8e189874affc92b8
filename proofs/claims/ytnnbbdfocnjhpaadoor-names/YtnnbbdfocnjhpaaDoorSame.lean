/- SameInts at two slices that hold the same numbers: true. -/
import Derived.Test.YtnnbbdfocnjhpaaDoorSumWalks
import Derived.Deep.QuietTactic
import Derived.BigQuiet
namespace Go.Proofs.YtnnbbdfocnjhpaaDoor
open Go.RowKit
set_option maxRecDepth 100000

set_option maxHeartbeats 1000000 in
theorem ints_same (b1 b2 c1 c2 : Nat) (zs : List Int) (w : World) (hn : zs.length ≤ 1000)
    (h1 : Hid (∀ i, i < zs.length → w.cell? ⟨b1, i, none⟩ = some (.int .i64 (zs.getD i 0)))) (h2 : Hid (∀ i, i < zs.length → w.cell? ⟨b2, i, none⟩ = some (.int .i64 (zs.getD i 0)))) :
    Calls Tryd.prog 13 #[.slice (some ⟨b1, 0, none⟩) zs.length c1, .slice (some ⟨b2, 0, none⟩) zs.length c2] w fun e w' => e = .returned (.bool true) ∧ ∃ m, w' = w.drewN m := by
  generalize hl : zs.length = n at *
  have Hl := hide hl
  clear hl
  go_enter Tryd.func13, Tryd.ntmps13
  go_wp2
  go_loopw [5] (fun i wr => ∃ k m : Nat, k ≤ n ∧ i = .int .i64 k ∧ wr = w.drewN m) (fun i _ => n - (intOf i).toNat)
  case atStart => exact ⟨0, 0, by omega, rfl, rfl⟩
  case round =>
    obtain ⟨k, m, hk, rfl, rfl⟩ := hrel
    by_cases hlt : k < n
    · have e1 := h1.out k hlt
      have e2 := h2.out k hlt
      have hki : (k : Int) < n := by omega
      generalize zs.getD k 0 = z at *
      go_wp2
      go_quiet (fail)
      go_wp2
      exact ⟨⟨k + 1, m + nq, by omega, by go_num, rfl⟩, by simp [intOf]; omega⟩
    · go_wp2
      go_ret
      exact ⟨rfl, m, rfl⟩

end Go.Proofs.YtnnbbdfocnjhpaaDoor
