/- New of package batch, by its contract. -/
import Derived.Test.YtjdnahmdicamdaaGreatDoorG20
namespace Go.Proofs.YtjdnahmdicamdaaGreatDoor
open Go.RowKit
set_option maxRecDepth 100000
section
variable {ev : Nat → Value}
set_option maxHeartbeats 1000000 in
theorem new_bad (wd h ref cash stock : Int) (w : World) (he : Hid (AEr w ev)) (hbad : (Bd.rOk wd h && (Wi.withinB ref 1 1000 && (Wi.withinB cash 0 1073741824 && Wi.withinB stock 0 100000))) = false) :
    Calls Tryz.prog 9 #[bandV wd h, .int .i64 ref, .int .i64 cash, .int .i64 stock] w fun e w' => e = .returned (.tuple #[.pointer none, .iface 252 (ev 1)]) ∧ Below w.heap.size w w' := by
  have hb0 : Below w.heap.size w (w.alloc (.cells #[.int .i64 wd, .int .i64 h] 31)) := (Below.refl _ _).alloc (Nat.le_refl _) _
  have HCK := hide (rcheck_any wd h 252 (ev 1) (w.alloc (.cells #[.int .i64 wd, .int .i64 h] 31)) (he.out.below hb0).ber)
  have HB0 := hide hb0
  clear hb0
  unfold bandV at HCK ⊢
  cases hr : Bd.rOk wd h with
  | false =>
    rw [hr, show okE 252 (ev 1) false = .iface 252 (ev 1) from rfl] at HCK
    go_enter Tryz.func9, Tryz.ntmps9
    go_wp2_with fail
    refine HCK.out.mono ?_
    rintro e w2 ⟨rfl, hb2⟩
    have HB2 := hide (HB0.out.trans (hb2.mono HB0.out.size))
    clear hb2
    simp only []
    go_wp2
    go_ret2
    exact ⟨rfl, HB2.out⟩
  | true =>
    rw [hr, show okE 252 (ev 1) true = .nilIface from rfl] at HCK
    rw [hr, Bool.true_and] at hbad
    have HW1 := hide (fun W => within_any ref 1 1000 W)
    have HW2 := hide (fun W => within_any cash 0 1073741824 W)
    have HW3 := hide (fun W => within_any stock 0 100000 W)
    have hthree : Wi.withinB ref 1 1000 = false ∨ (Wi.withinB ref 1 1000 = true ∧ Wi.withinB cash 0 1073741824 = false) ∨ (Wi.withinB ref 1 1000 = true ∧ Wi.withinB cash 0 1073741824 = true ∧ Wi.withinB stock 0 100000 = false) := by
      cases h1 : Wi.withinB ref 1 1000 <;> cases h2 : Wi.withinB cash 0 1073741824 <;> cases h3 : Wi.withinB stock 0 100000 <;> simp_all
    rcases hthree with h1 | ⟨h1, h2⟩ | ⟨h1, h2, h3⟩
    · rw [h1] at HW1
      go_enter Tryz.func9, Tryz.ntmps9
      go_wp2_with fail
      refine HCK.out.mono ?_
      rintro e w2 ⟨rfl, hb2⟩
      have HB2 := hide (HB0.out.trans (hb2.mono HB0.out.size))
      have c1 := (he.out.below HB2.out).c1
      clear hb2
      simp only []
      go_wp2_with fail
      refine (HW1.out _).mono ?_
      rintro e w2 ⟨rfl, rfl⟩
      simp only []
      go_wp2_with fail
      go_quiet (fail)
      have HB3 := hide (HB2.out.trans ((blw_drew nq : Below w2.heap.size w2 (w2.drewN nq)).mono HB2.out.size))
      go_wp2
      go_ret2
      exact ⟨rfl, HB3.out⟩
    · rw [h1] at HW1; rw [h2] at HW2
      go_enter Tryz.func9, Tryz.ntmps9
      go_wp2_with fail
      refine HCK.out.mono ?_
      rintro e w2 ⟨rfl, hb2⟩
      have HB2 := hide (HB0.out.trans (hb2.mono HB0.out.size))
      have c1 := (he.out.below HB2.out).c1
      clear hb2
      simp only []
      go_wp2_with fail
      refine (HW1.out _).mono ?_
      rintro e w2 ⟨rfl, rfl⟩
      simp only []
      go_wp2_with fail
      refine (HW2.out _).mono ?_
      rintro e w2 ⟨rfl, rfl⟩
      simp only []
      go_wp2_with fail
      go_quiet (fail)
      have HB3 := hide (HB2.out.trans ((blw_drew nq : Below w2.heap.size w2 (w2.drewN nq)).mono HB2.out.size))
      go_wp2
      go_ret2
      exact ⟨rfl, HB3.out⟩
    · rw [h1] at HW1; rw [h2] at HW2; rw [h3] at HW3
      go_enter Tryz.func9, Tryz.ntmps9
      go_wp2_with fail
      refine HCK.out.mono ?_
      rintro e w2 ⟨rfl, hb2⟩
      have HB2 := hide (HB0.out.trans (hb2.mono HB0.out.size))
      have c1 := (he.out.below HB2.out).c1
      clear hb2
      simp only []
      go_wp2_with fail
      refine (HW1.out _).mono ?_
      rintro e w2 ⟨rfl, rfl⟩
      simp only []
      go_wp2_with fail
      refine (HW2.out _).mono ?_
      rintro e w2 ⟨rfl, rfl⟩
      simp only []
      go_wp2_with fail
      refine (HW3.out _).mono ?_
      rintro e w2 ⟨rfl, rfl⟩
      simp only []
      go_wp2_with fail
      go_quiet (fail)
      have HB3 := hide (HB2.out.trans ((blw_drew nq : Below w2.heap.size w2 (w2.drewN nq)).mono HB2.out.size))
      go_wp2
      go_ret2
      exact ⟨rfl, HB3.out⟩
end
end Go.Proofs.YtjdnahmdicamdaaGreatDoor
