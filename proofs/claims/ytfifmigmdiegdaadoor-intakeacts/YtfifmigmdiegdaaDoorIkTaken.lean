/- taken: one is drained. -/
import Derived.Test.YtfifmigmdiegdaaDoorIkDrain
namespace Go.Proofs.YtfifmigmdiegdaaDoor
open Go.RowKit
set_option maxRecDepth 100000
section
variable {T : Nat → Value}
theorem blw (w : World) (nq : Nat) : Below w.heap.size w (w.drewN nq) := ⟨rfl, rfl, rfl, Nat.le_refl _, fun _ _ => rfl⟩
def one : Ask := ⟨99, 2, 0, 0, 0, 0, 0, 5⟩
def L0 : Nat → List Ask := fun _ => []
theorem one_c : Ik.putC L0 one = 0 := by decide
theorem one_out : Ik.out (Ik.putL L0 one) 0 = [one] := by decide
theorem one_wait : Ik.waitN (Ik.putL L0 one) 2 = 1 := by decide
theorem one_left : Ik.waitN (Ik.drL (Ik.putL L0 one) 0) 2 = 0 := by decide
theorem row_cells {w : World} {base : Nat} {g n cap : Nat} {l : List Ask} (h : w.ownsRow base 30 8 (.slice (some ⟨g, 0, none⟩) n cap) n (aflat l)) {i : Nat} (hi : i < l.length) (j : Nat) (hj : j < 8) : w.cell? ⟨g, i * 8 + j, none⟩ = (askC (anth l i))[j]? := by
  have hl : (aflat l).length = n * 8 := h.1
  rw [aflat_length] at hl
  rw [(row_open h (i * 8 + j) (by omega)).2.2, aflat_get l i j hi hj]
theorem row_some {w : World} {base : Nat} {v : Value} {l : List Ask} (h : w.ownsRow base 30 8 v l.length (aflat l)) (h0 : 0 < l.length) : ∃ g cap, v = .slice (some ⟨g, 0, none⟩) l.length cap ∧ l.length ≤ cap := by
  rcases h.2 with ⟨_, e⟩ | ⟨g, cap, cur, e, _, _, h, _⟩
  · omega
  · exact ⟨g, cap, e, h⟩
set_option maxHeartbeats 1000000 in
theorem taken_any (w : World) (he : Hid (IEr w T)) : Calls Tryd.prog 6 #[] w fun e w' => e = .returned (.bool true) ∧ Below w.heap.size w w' := by
  go_enter Tryd.func6, Tryd.ntmps6
  go_wp2_with fail
  refine (new_any w).mono ?_
  rintro e w1 ⟨rfl, hI, hb⟩
  obtain ⟨p, hp⟩ : ∃ p, w.heap.size = p := ⟨_, rfl⟩
  rw [hp] at hI
  have HI := hide hI; have HB := hide hb
  have HP := hide hp
  rw [hp]
  clear hI hb hp
  simp only []
  go_wp2_with fail
  have HB2 : Hid (Below w.heap.size w (w1.alloc (.cells #[.int .u8 99, .int .i64 2, .int .i64 0, .int .i64 0, .int .i64 0, .int .i64 0, .int .i64 0, .int .i64 5] 30))) := HB.out.alloc HB.out.size _
  have HI2 := hide (HI.out.later ((Below.refl _ w1).alloc (Nat.le_refl _) (.cells #[.int .u8 99, .int .i64 2, .int .i64 0, .int .i64 0, .int .i64 0, .int .i64 0, .int .i64 0, .int .i64 5] 30)))
  have HX2 := hide (heap_alloc_new w1 (.cells #[.int .u8 99, .int .i64 2, .int .i64 0, .int .i64 0, .int .i64 0, .int .i64 0, .int .i64 0, .int .i64 5] 30))
  have hpb : p < w1.heap.size := HI.out.lt
  generalize w1.alloc (.cells #[.int .u8 99, .int .i64 2, .int .i64 0, .int .i64 0, .int .i64 0, .int .i64 0, .int .i64 0, .int .i64 5] 30) = w2 at *
  obtain ⟨b, hbb⟩ : ∃ b, w1.heap.size = b := ⟨_, rfl⟩
  rw [hbb] at HX2 hpb ⊢
  clear hbb
  refine (put_any (T := T) one w2 (hide (he.out.later HB2.out)) HI2).mono ?_
  rintro e w3 ⟨rfl, V3, hI3, hs3⟩
  rw [show Ik.putC (fun _ => []) one = 0 from one_c]
  have HI3 : Hid (Itk w3 p p V3 0 (Ik.putL L0 one)) := hI3
  have HB3 : Hid (Below w.heap.size w w3) := HB2.out.trans (hs3.below HI2.out (by rw [HP.out]; exact Nat.le_refl _))
  have HX3 : Hid (w3.heap[b]? = some (.cells #[.int .u8 99, .int .i64 2, .int .i64 0, .int .i64 0, .int .i64 0, .int .i64 0, .int .i64 0, .int .i64 5] 30 (0, 0))) := by
    show _ = _
    rw [hs3.turned.block b (lt_of_block HX2.out) (fun h => ?_)]
    · exact HX2.out
    · rcases h with h | ⟨c, hc, h⟩
      · omega
      · simp [Value.ownBlock] at h
  have HN3 : Hid (¬ qown p V3 b) := fun h => by
    rcases hs3.new b h with h | h
    · rcases h with h | ⟨c, hc, h⟩
      · omega
      · simp [Value.ownBlock] at h
    · have := lt_of_block HX2.out
      omega
  clear hI3 hs3
  simp only [errC]
  go_wp2_with fail
  refine (wait_any 2 w3 HI3).mono ?_
  rintro e w4 ⟨rfl, rfl⟩
  rw [one_wait]
  simp only []
  go_wp2_with fail
  refine (drain_any w4 HI3).mono ?_
  rintro e w5 ⟨d, V5, rfl, hr5, hI5, hs5, ho5⟩
  rw [one_out] at hr5
  obtain ⟨g, cap, rfl, _⟩ := row_some hr5 (by decide)
  have HB5 : Hid (Below w.heap.size w w5) := HB3.out.trans (hs5.below HI3.out (by rw [HP.out]; exact Nat.le_refl _))
  have hX5 : w5.heap[b]? = some (.cells #[.int .u8 99, .int .i64 2, .int .i64 0, .int .i64 0, .int .i64 0, .int .i64 0, .int .i64 0, .int .i64 5] 30 (0, 0)) := by
    rw [hs5.turned.block b (lt_of_block HX3.out) (fun h => ?_)]
    · exact HX3.out
    · exact HN3.out h
  have HR5 := hide hr5
  have HQT : Hid (∀ q, Calls Tryd.prog 17 #[.pointer (some ⟨p, 0, none⟩)] (w5.drewN q) fun e w' => e = .returned (.int .i64 1) ∧ w' = w5.drewN q) := fun q => turn_any (w5.drewN q) (hide (hI5.later (blw w5 q)))
  have HQW : Hid (∀ q, Calls Tryd.prog 10 #[.pointer (some ⟨p, 0, none⟩), .int .i64 2] (w5.drewN q) fun e w' => e = .returned (.int .i64 0) ∧ w' = w5.drewN q) := fun q => by
    have := wait_any 2 (w5.drewN q) (hide (hI5.later (blw w5 q)))
    rw [one_left] at this
    exact this
  have ⟨x0, x1, x2, x3, x4, x5, x6, x7⟩ := box8 hX5
  have y0 := row_cells hr5 (i := 0) (by decide) 0 (by decide); have y1 := row_cells hr5 (i := 0) (by decide) 1 (by decide)
  have y2 := row_cells hr5 (i := 0) (by decide) 2 (by decide); have y3 := row_cells hr5 (i := 0) (by decide) 3 (by decide)
  have y4 := row_cells hr5 (i := 0) (by decide) 4 (by decide); have y5 := row_cells hr5 (i := 0) (by decide) 5 (by decide)
  have y6 := row_cells hr5 (i := 0) (by decide) 6 (by decide); have y7 := row_cells hr5 (i := 0) (by decide) 7 (by decide)
  simp only [askC, anth, one, Nat.zero_mul, Nat.zero_add, List.getElem?_cons_zero, List.getElem?_cons_succ, List.getD_cons_zero] at y0 y1 y2 y3 y4 y5 y6 y7
  clear hr5 hI5 hs5 ho5 hX5
  simp only [List.length_singleton]
  go_wp2_with fail
  go_quiet (first | (go_at_call 17; exact Calls.quiet_of_same (HQT.out _)) | (go_at_call 10; exact Calls.quiet_of_same (HQW.out _)))
  go_wp2
  go_ret
  exact ⟨rfl, HB5.out.trans ((blw _ _).mono HB5.out.size)⟩
end
end Go.Proofs.YtfifmigmdiegdaaDoor
