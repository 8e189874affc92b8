/- New, Of and Copy of a purse by their contracts. -/
import Derived.Test.YtgmncdpjbphfhaaDoorPuHold
namespace Go.Proofs.YtgmncdpjbphfhaaDoor
open Go.RowKit
set_option maxRecDepth 100000

theorem Save.setRow (w : World) (g : Nat) (c : Array Value) : Save w (w.setRow g c) g := ⟨rfl, rfl, rfl, by simp [World.setRow], fun k _ ha => setRow_other w g k c ha⟩
theorem new_any (w : World) : Calls Tryd.prog 7 #[] w fun e w' => e = .returned (.pointer (some ⟨w.heap.size, 0, none⟩)) ∧ w' = w.alloc (.cells (row fun _ => 0) 55) := by
  have z55 := zero55
  go_enter Tryd.func7, Tryd.ntmps7
  go_wp2
  go_ret
  exact ⟨rfl, rfl⟩

/-- what a client has, as a value -/
def hasV (f : Nat → Int) (c : Nat) : Value := .agg #[.int .i64 (f (c * 8)), .int .i64 (f (c * 8 + 1)), .int .i64 (f (c * 8 + 2)), .int .i64 (f (c * 8 + 3)), .int .i64 (f (c * 8 + 4)), .int .i64 (f (c * 8 + 5)), .int .i64 (f (c * 8 + 6)), .int .i64 (f (c * 8 + 7))]
def ofV (f : Nat → Int) (n : Int) : Value := if Wi.withinB n 0 5 = true then hasV f n.toNat else hasV (fun _ => 0) 0
theorem ofV_in (f : Nat → Int) {c : Nat} (h : c < 6) : ofV f c = hasV f c := by
  unfold ofV
  rw [if_pos (by simp [Wi.withinB]; omega), Int.toNat_natCast]
set_option maxHeartbeats 1000000 in
theorem of_any (p : Nat) (n : Int) (f : Nat → Int) (w : World) (hp : Hid (Purse w 55 p f)) :
    Calls Tryd.prog 19 #[.pointer (some ⟨p, 0, none⟩), .int .i64 n] w fun e w' => e = .returned (ofV f n) ∧ Below w.heap.size w w' := by
  have hbW : Below w.heap.size w (w.alloc (.cells #[.int .i64 0, .int .i64 0, .int .i64 0, .int .i64 0, .int .i64 0, .int .i64 0, .int .i64 0, .int .i64 0] 47)) := (Below.refl _ _).alloc (Nat.le_refl _) _
  have HBW := hide hbW
  have HI := hide (isClient_any n (w.alloc (.cells #[.int .i64 0, .int .i64 0, .int .i64 0, .int .i64 0, .int .i64 0, .int .i64 0, .int .i64 0, .int .i64 0] 47)))
  clear hbW
  have hpl := hp.out.lt
  cases hin : Wi.withinB n 0 5 with
  | false =>
    have HO : Hid (ofV f n = hasV (fun _ => 0) 0) := by show _ = _; unfold ofV; rw [if_neg (by rw [hin]; simp)]
    rw [hin] at HI
    clear hin
    go_enter Tryd.func19, Tryd.ntmps19
    go_wp2_with fail
    refine HI.out.mono ?_
    rintro e w2 ⟨rfl, rfl⟩
    simp only []
    go_wp2
    refine bodyPost_ret (v := hasV (fun _ => 0) 0) (by simp [results, Tryd.results19, go_sem, hasV]) rfl ⟨by rw [HO.out], ?_⟩
    exact HBW.out
  | true =>
    obtain ⟨c, rfl, hc6⟩ : ∃ c : Nat, n = c ∧ c < 6 := by
      simp only [Wi.withinB, Bool.and_eq_true, decide_eq_true_eq] at hin
      exact ⟨n.toNat, by omega, by omega⟩
    have HO : Hid (ofV f c = hasV f c) := ofV_in f hc6
    rw [hin] at HI
    clear hin
    have hci : (c : Int) < 6 := by omega
    have c0 := hp.out.cell (i := c * 8) (by omega)
    have c1 := hp.out.cell (i := c * 8 + 1) (by omega)
    have c2 := hp.out.cell (i := c * 8 + 2) (by omega)
    have c3 := hp.out.cell (i := c * 8 + 3) (by omega)
    have c4 := hp.out.cell (i := c * 8 + 4) (by omega)
    have c5 := hp.out.cell (i := c * 8 + 5) (by omega)
    have c6 := hp.out.cell (i := c * 8 + 6) (by omega)
    have c7 := hp.out.cell (i := c * 8 + 7) (by omega)
    have hne : ¬ (w.heap.size = p) := by omega
    have hne' : ¬ (p = w.heap.size) := by omega
    go_enter Tryd.func19, Tryd.ntmps19
    go_wp2_with fail
    refine HI.out.mono ?_
    rintro e w2 ⟨rfl, rfl⟩
    simp only []
    go_wp2
    refine bodyPost_ret (v := hasV f c) (by simp [results, Tryd.results19, go_sem, hasV]) rfl ⟨by rw [HO.out], ?_⟩
    exact (Below.refl _ _).alloc (Nat.le_refl _) _

set_option maxHeartbeats 1000000 in
theorem copy_any (p : Nat) (f : Nat → Int) (w : World) (hp : Hid (Purse w 55 p f)) :
    Calls Tryd.prog 17 #[.pointer (some ⟨p, 0, none⟩)] w fun e w' => e = .returned (.pointer (some ⟨w.heap.size, 0, none⟩)) ∧ Purse w' 55 w.heap.size f ∧ Below w.heap.size w w' := by
  have z55 := zero55
  have HN : Hid (Purse (w.alloc (.cells (row fun _ => 0) 55)) 55 w.heap.size (fun _ => 0)) := Purse.new w 55 _
  go_enter Tryd.func17, Tryd.ntmps17
  go_wp2_with (first | refine wpList_load55 (B := p) (f := f) hp.out rfl (.tmp 5) rfl rfl ?_ | refine wpList_store55 (B := w.heap.size) f (f := fun _ => 0) HN.out rfl (.tmp 3) (.tmp 6) rfl rfl rfl ?_)
  go_ret
  exact ⟨rfl, HN.out.stored f, Save.below ((Save.of_below ((Below.refl _ _).alloc (Nat.le_refl _) _) _).trans (Save.setRow _ _ _)) (Nat.le_refl _) (Nat.le_refl _)⟩
end Go.Proofs.YtgmncdpjbphfhaaDoor
