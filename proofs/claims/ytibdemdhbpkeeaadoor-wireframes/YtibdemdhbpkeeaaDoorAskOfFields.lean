/- The document's answer for a text as a frame: AskOf is what Decode gives. -/
import Derived.Test.YtibdemdhbpkeeaaDoorFrame
import Derived.Test.YtibdemdhbpkeeaaDoorAskError
import Derived.Test.YtibdemdhbpkeeaaDoorDecode
import Derived.Test.YtibdemdhbpkeeaaDoorAskOfWalks
import Derived.Test.YtibdemdhbpkeeaaDoorFree
namespace Go.Proofs.YtibdemdhbpkeeaaDoor
open Go.RowKit
set_option maxRecDepth 100000

theorem numHigh_at (s : ByteArray) (a : Nat) (h : a + 4 ≤ s.data.toList.length) : numHigh (List.take 4 (List.drop a s.data.toList)) = highAt s a := by
  have e : List.take 4 (List.drop a s.data.toList) = [s.data.toList.getD a 0, s.data.toList.getD (a + 1) 0, s.data.toList.getD (a + 2) 0, s.data.toList.getD (a + 3) 0] := by
    have h0 : s.data.toList.drop a = s.data.toList[a] :: s.data.toList[a + 1] :: s.data.toList[a + 2] :: s.data.toList[a + 3] :: s.data.toList.drop (a + 4) := by
      rw [List.drop_eq_getElem_cons (by omega), List.drop_eq_getElem_cons (by omega), List.drop_eq_getElem_cons (by omega), List.drop_eq_getElem_cons (by omega)]
    rw [h0]
    have d : ∀ j (hj : j < s.data.toList.length), s.data.toList.getD j 0 = s.data.toList[j] := fun j hj => by
      rw [List.getD_eq_getElem?_getD, List.getElem?_eq_getElem hj]; rfl
    rw [d a (by omega), d (a + 1) (by omega), d (a + 2) (by omega), d (a + 3) (by omega)]
    rfl
  rw [e]
  unfold numHigh highAt bAt
  simp only [List.foldl_cons, List.foldl_nil]
  omega

set_option maxHeartbeats 2000000 in
theorem askOf_ok (s : ByteArray) (w : World) (hs : ((s.size : Int) != 30) = false) (hne : ((strOfNums (Wi.low (Wi.sum (s.data.toList.take 26)))).toList == (s.extract 26 s.size).toList) = true) (h1 : numHigh (s.extract 20 23).data.toList = 0) (h2 : numHigh (s.extract 23 26).data.toList = 0) (hc : Hid (Wi.code (bAt s 0) (bAt s 1) (highAt s 2) (bAt s 6) (bAt s 7) (highAt s 8) (highAt s 12) (highAt s 16) = 0)) :
    Calls Tryd.prog 14 #[.string s] w fun e w' => e = .returned (.tuple #[fieldsAsk s, .int .i64 0]) ∧ Below w.heap.size w w' := by
  have H1 := hide h1; have H2 := hide h2
  clear h1 h2
  have hs' : s.size = 30 := by have := hs; simp at this; omega
  have e6 : 6 ≤ s.size := by omega
  have f6 : (6 : Int) ≤ s.size := by omega
  have e12 : 12 ≤ s.size := by omega
  have f12 : (12 : Int) ≤ s.size := by omega
  have e16 : 16 ≤ s.size := by omega
  have f16 : (16 : Int) ≤ s.size := by omega
  have e20 : 20 ≤ s.size := by omega
  have f20 : (20 : Int) ≤ s.size := by omega
  have e23 : 23 ≤ s.size := by omega
  have f23 : (23 : Int) ≤ s.size := by omega
  have e26 : 26 ≤ s.size := by omega
  have f26 : (26 : Int) ≤ s.size := by omega
  have hm : (s.extract 0 26).size ≤ maxLen := by simp [maxLen]; omega
  have ht : (s.extract 0 26).data.toList = s.data.toList.take 26 := by simp
  have Hs := hide hs'
  clear hs'
  go_enter Tryd.func14, Tryd.ntmps14
  go_wp2
  have hb0 : Below w.heap.size w (w.alloc (.cells #[.int .u8 0, .int .i64 0, .int .i64 0, .int .i64 0, .int .i64 0, .int .i64 0, .int .i64 0, .int .i64 0] 23)) := (Below.refl _ _).alloc (Nat.le_refl _) _
  have p0 : (w.alloc (.cells #[.int .u8 0, .int .i64 0, .int .i64 0, .int .i64 0, .int .i64 0, .int .i64 0, .int .i64 0, .int .i64 0] 23)).cell? ⟨w.heap.size, 0, none⟩ = some (.int .u8 0) := by simp
  have g0 : (w.alloc (.cells #[.int .u8 0, .int .i64 0, .int .i64 0, .int .i64 0, .int .i64 0, .int .i64 0, .int .i64 0, .int .i64 0] 23)).frozen? ⟨w.heap.size, 0, none⟩ = false := by simp
  have p1 : (w.alloc (.cells #[.int .u8 0, .int .i64 0, .int .i64 0, .int .i64 0, .int .i64 0, .int .i64 0, .int .i64 0, .int .i64 0] 23)).cell? ⟨w.heap.size, 1, none⟩ = some (.int .i64 0) := by simp
  have g1 : (w.alloc (.cells #[.int .u8 0, .int .i64 0, .int .i64 0, .int .i64 0, .int .i64 0, .int .i64 0, .int .i64 0, .int .i64 0] 23)).frozen? ⟨w.heap.size, 1, none⟩ = false := by simp
  have p2 : (w.alloc (.cells #[.int .u8 0, .int .i64 0, .int .i64 0, .int .i64 0, .int .i64 0, .int .i64 0, .int .i64 0, .int .i64 0] 23)).cell? ⟨w.heap.size, 2, none⟩ = some (.int .i64 0) := by simp
  have g2 : (w.alloc (.cells #[.int .u8 0, .int .i64 0, .int .i64 0, .int .i64 0, .int .i64 0, .int .i64 0, .int .i64 0, .int .i64 0] 23)).frozen? ⟨w.heap.size, 2, none⟩ = false := by simp
  have p3 : (w.alloc (.cells #[.int .u8 0, .int .i64 0, .int .i64 0, .int .i64 0, .int .i64 0, .int .i64 0, .int .i64 0, .int .i64 0] 23)).cell? ⟨w.heap.size, 3, none⟩ = some (.int .i64 0) := by simp
  have g3 : (w.alloc (.cells #[.int .u8 0, .int .i64 0, .int .i64 0, .int .i64 0, .int .i64 0, .int .i64 0, .int .i64 0, .int .i64 0] 23)).frozen? ⟨w.heap.size, 3, none⟩ = false := by simp
  have p4 : (w.alloc (.cells #[.int .u8 0, .int .i64 0, .int .i64 0, .int .i64 0, .int .i64 0, .int .i64 0, .int .i64 0, .int .i64 0] 23)).cell? ⟨w.heap.size, 4, none⟩ = some (.int .i64 0) := by simp
  have g4 : (w.alloc (.cells #[.int .u8 0, .int .i64 0, .int .i64 0, .int .i64 0, .int .i64 0, .int .i64 0, .int .i64 0, .int .i64 0] 23)).frozen? ⟨w.heap.size, 4, none⟩ = false := by simp
  have p5 : (w.alloc (.cells #[.int .u8 0, .int .i64 0, .int .i64 0, .int .i64 0, .int .i64 0, .int .i64 0, .int .i64 0, .int .i64 0] 23)).cell? ⟨w.heap.size, 5, none⟩ = some (.int .i64 0) := by simp
  have g5 : (w.alloc (.cells #[.int .u8 0, .int .i64 0, .int .i64 0, .int .i64 0, .int .i64 0, .int .i64 0, .int .i64 0, .int .i64 0] 23)).frozen? ⟨w.heap.size, 5, none⟩ = false := by simp
  have p6 : (w.alloc (.cells #[.int .u8 0, .int .i64 0, .int .i64 0, .int .i64 0, .int .i64 0, .int .i64 0, .int .i64 0, .int .i64 0] 23)).cell? ⟨w.heap.size, 6, none⟩ = some (.int .i64 0) := by simp
  have g6 : (w.alloc (.cells #[.int .u8 0, .int .i64 0, .int .i64 0, .int .i64 0, .int .i64 0, .int .i64 0, .int .i64 0, .int .i64 0] 23)).frozen? ⟨w.heap.size, 6, none⟩ = false := by simp
  have p7 : (w.alloc (.cells #[.int .u8 0, .int .i64 0, .int .i64 0, .int .i64 0, .int .i64 0, .int .i64 0, .int .i64 0, .int .i64 0] 23)).cell? ⟨w.heap.size, 7, none⟩ = some (.int .i64 0) := by simp
  have g7 : (w.alloc (.cells #[.int .u8 0, .int .i64 0, .int .i64 0, .int .i64 0, .int .i64 0, .int .i64 0, .int .i64 0, .int .i64 0] 23)).frozen? ⟨w.heap.size, 7, none⟩ = false := by simp
  have hz0 : w.heap.size < (w.alloc (.cells #[.int .u8 0, .int .i64 0, .int .i64 0, .int .i64 0, .int .i64 0, .int .i64 0, .int .i64 0, .int .i64 0] 23)).heap.size := by simp
  generalize w.alloc (.cells #[.int .u8 0, .int .i64 0, .int .i64 0, .int .i64 0, .int .i64 0, .int .i64 0, .int .i64 0, .int .i64 0] 23) = w0 at *
  have hne' : Nonempty (Later w0) := ⟨⟨w0, Below.refl _ _⟩⟩
  refine region_quiet_class (X := Later w0) Later.val (by kernel_rfl) (by kernel_rfl) ⟨_, (Below.refl _ _).drew⟩ rfl ?_
  repeat quiet_step ((first | (go_at_call 16; exact crc_later _ hm _) | (go_at_call 31; exact low_later _ (Wi.sum_lt _) _)))
  refine wpQuiet_nil ?_
  intro x
  have P0 : x.val.cell? ⟨w.heap.size, 0, none⟩ = some (.int .u8 0) := by rw [x.low.cell (p := ⟨w.heap.size, 0, none⟩) hz0]; exact p0
  have G0 : x.val.frozen? ⟨w.heap.size, 0, none⟩ = false := by rw [x.low.frozen (p := ⟨w.heap.size, 0, none⟩) hz0]; exact g0
  have P1 : x.val.cell? ⟨w.heap.size, 1, none⟩ = some (.int .i64 0) := by rw [x.low.cell (p := ⟨w.heap.size, 1, none⟩) hz0]; exact p1
  have G1 : x.val.frozen? ⟨w.heap.size, 1, none⟩ = false := by rw [x.low.frozen (p := ⟨w.heap.size, 1, none⟩) hz0]; exact g1
  have P2 : x.val.cell? ⟨w.heap.size, 2, none⟩ = some (.int .i64 0) := by rw [x.low.cell (p := ⟨w.heap.size, 2, none⟩) hz0]; exact p2
  have G2 : x.val.frozen? ⟨w.heap.size, 2, none⟩ = false := by rw [x.low.frozen (p := ⟨w.heap.size, 2, none⟩) hz0]; exact g2
  have P3 : x.val.cell? ⟨w.heap.size, 3, none⟩ = some (.int .i64 0) := by rw [x.low.cell (p := ⟨w.heap.size, 3, none⟩) hz0]; exact p3
  have G3 : x.val.frozen? ⟨w.heap.size, 3, none⟩ = false := by rw [x.low.frozen (p := ⟨w.heap.size, 3, none⟩) hz0]; exact g3
  have P4 : x.val.cell? ⟨w.heap.size, 4, none⟩ = some (.int .i64 0) := by rw [x.low.cell (p := ⟨w.heap.size, 4, none⟩) hz0]; exact p4
  have G4 : x.val.frozen? ⟨w.heap.size, 4, none⟩ = false := by rw [x.low.frozen (p := ⟨w.heap.size, 4, none⟩) hz0]; exact g4
  have P5 : x.val.cell? ⟨w.heap.size, 5, none⟩ = some (.int .i64 0) := by rw [x.low.cell (p := ⟨w.heap.size, 5, none⟩) hz0]; exact p5
  have G5 : x.val.frozen? ⟨w.heap.size, 5, none⟩ = false := by rw [x.low.frozen (p := ⟨w.heap.size, 5, none⟩) hz0]; exact g5
  have P6 : x.val.cell? ⟨w.heap.size, 6, none⟩ = some (.int .i64 0) := by rw [x.low.cell (p := ⟨w.heap.size, 6, none⟩) hz0]; exact p6
  have G6 : x.val.frozen? ⟨w.heap.size, 6, none⟩ = false := by rw [x.low.frozen (p := ⟨w.heap.size, 6, none⟩) hz0]; exact g6
  have P7 : x.val.cell? ⟨w.heap.size, 7, none⟩ = some (.int .i64 0) := by rw [x.low.cell (p := ⟨w.heap.size, 7, none⟩) hz0]; exact p7
  have G7 : x.val.frozen? ⟨w.heap.size, 7, none⟩ = false := by rw [x.low.frozen (p := ⟨w.heap.size, 7, none⟩) hz0]; exact g7
  have HB1 : Hid (Below w.heap.size w x.val) := hb0.trans (x.low.mono hb0.size)
  have hz1 : w.heap.size < x.val.heap.size := Nat.lt_of_lt_of_le hz0 x.low.size
  clear p0 p1 p2 p3 p4 p5 p6 p7 g0 g1 g2 g3 g4 g5 g6 g7 hb0 hz0
  generalize x.val = w1 at *
  clear x hne' hm
  go_wp2_with fail
  refine (number_any _ _ (by simp; omega)).mono ?_
  rintro e w2 ⟨rfl, rfl⟩
  rw [H1.out]
  go_wp2_with fail
  refine (number_any _ _ (by simp; omega)).mono ?_
  rintro e w2 ⟨rfl, rfl⟩
  rw [H2.out]
  have gg0 : 0 < s.size := by omega
  have gg1 : 1 < s.size := by omega
  have gg6 : 6 < s.size := by omega
  have gg7 : 7 < s.size := by omega
  have hh1 : (1 : Int) < s.size := by omega
  have hh6 : (6 : Int) < s.size := by have := Hs.out; omega
  have hh7 : (7 : Int) < s.size := by have := Hs.out; omega
  go_wp2_with fail
  obtain ⟨val, hvF, hvT⟩ : ∃ val : Bool → Nat → World, (∀ n, val false n = w2.drewN n) ∧ (∀ n, val true n = (w2.drewN n).alloc (.cells #[.int .u8 0, .int .i64 0, .int .i64 0, .int .i64 0, .int .i64 0, .int .i64 0, .int .i64 0, .int .i64 0] 23)) := ⟨fun b n => bif b then (w2.drewN n).alloc (.cells #[.int .u8 0, .int .i64 0, .int .i64 0, .int .i64 0, .int .i64 0, .int .i64 0, .int .i64 0, .int .i64 0] 23) else w2.drewN n, fun _ => rfl, fun _ => rfl⟩
  have HvF := hide hvF; have HvT := hide hvT
  have hal : ∀ (a : Act) n, (execOp a.eval { dst := some 4, op := Op.alloc 23, type := 0, pos := "base.go:169", after := #[], guard := none }).run Tryd.prog (val false n) = .ok (.value (.pointer (some ⟨w2.heap.size, 0, none⟩))) (val true n) := by
    intro a n
    rw [hvF, hvT]
    kernel_rfl
  clear hvF hvT
  refine region_free_alloc_lit (val := val) (p := .pointer (some ⟨w2.heap.size, 0, none⟩)) 15 rfl (by kernel_rfl) (by kernel_rfl) (by kernel_rfl) rfl (by rw [HvF.out]; rfl) hal ?_
  clear hal
  simp only [List.take_succ_cons, List.take_zero]
  repeat (refine walkF_step (fun K hK => ?_); refine ⟨by rfl, ?_⟩; unfold quietF; go_simp; first | (refine hK _ ?_; clear hK K) | (refine ⟨_, ⟨fun n => (number_any _ _ (by simp; omega)).mono (fun e w' ⟨he, hw⟩ => ⟨he, n, hw⟩), fun n => (number_any _ _ (by simp; omega)).mono (fun e w' ⟨he, hw⟩ => ⟨he, n, hw⟩)⟩, hK _ ?_⟩; clear hK K))
  refine walkF_nil ?_
  intro n
  rw [HvT.out]
  have Q0 : (w2.drewN n).cell? ⟨w.heap.size, 0, none⟩ = some (.int .u8 0) := by simpa using P0
  have F0 : (w2.drewN n).frozen? ⟨w.heap.size, 0, none⟩ = false := by simpa using G0
  have Q1 : (w2.drewN n).cell? ⟨w.heap.size, 1, none⟩ = some (.int .i64 0) := by simpa using P1
  have F1 : (w2.drewN n).frozen? ⟨w.heap.size, 1, none⟩ = false := by simpa using G1
  have Q2 : (w2.drewN n).cell? ⟨w.heap.size, 2, none⟩ = some (.int .i64 0) := by simpa using P2
  have F2 : (w2.drewN n).frozen? ⟨w.heap.size, 2, none⟩ = false := by simpa using G2
  have Q3 : (w2.drewN n).cell? ⟨w.heap.size, 3, none⟩ = some (.int .i64 0) := by simpa using P3
  have F3 : (w2.drewN n).frozen? ⟨w.heap.size, 3, none⟩ = false := by simpa using G3
  have Q4 : (w2.drewN n).cell? ⟨w.heap.size, 4, none⟩ = some (.int .i64 0) := by simpa using P4
  have F4 : (w2.drewN n).frozen? ⟨w.heap.size, 4, none⟩ = false := by simpa using G4
  have Q5 : (w2.drewN n).cell? ⟨w.heap.size, 5, none⟩ = some (.int .i64 0) := by simpa using P5
  have F5 : (w2.drewN n).frozen? ⟨w.heap.size, 5, none⟩ = false := by simpa using G5
  have Q6 : (w2.drewN n).cell? ⟨w.heap.size, 6, none⟩ = some (.int .i64 0) := by simpa using P6
  have F6 : (w2.drewN n).frozen? ⟨w.heap.size, 6, none⟩ = false := by simpa using G6
  have Q7 : (w2.drewN n).cell? ⟨w.heap.size, 7, none⟩ = some (.int .i64 0) := by simpa using P7
  have F7 : (w2.drewN n).frozen? ⟨w.heap.size, 7, none⟩ = false := by simpa using G7
  have HB2 : Hid (Below w.heap.size w (w2.drewN n)) := HB1.out.trans ((below_drewN n).mono HB1.out.size)
  have hz2 : w.heap.size < (w2.drewN n).heap.size := by simpa using hz1
  have hsz : w2.heap.size = (w2.drewN n).heap.size := by simp
  rw [hsz]
  clear P0 P1 P2 P3 P4 P5 P6 P7 G0 G1 G2 G3 G4 G5 G6 G7 HB1 hz1 HvF HvT hsz
  generalize w2.drewN n = W at *
  go_wp2_with (go_at_call 32; refine (number_any _ _ (by simp; omega)).mono ?_; rintro e w' ⟨rfl, rfl⟩)
  have r0 : ((s[0]).toNat : Int) = (bAt s 0 : Int) := by rw [bAt_eq s 0 gg0]
  have r1 : wrap64 ((s[1]).toNat : Int) = (bAt s 1 : Int) := by rw [bAt_eq s 1 gg1, wrap64_small _ (by have := bAt_lt s 1; omega)]
  have r6 : wrap64 ((s[6]).toNat : Int) = (bAt s 6 : Int) := by rw [bAt_eq s 6 gg6, wrap64_small _ (by have := bAt_lt s 6; omega)]
  have r7 : wrap64 ((s[7]).toNat : Int) = (bAt s 7 : Int) := by rw [bAt_eq s 7 gg7, wrap64_small _ (by have := bAt_lt s 7; omega)]
  have hlen : s.data.toList.length = 30 := by simpa using Hs.out
  have n2 : numHigh (List.take 4 (List.drop 2 s.data.toList)) = highAt s 2 := numHigh_at s 2 (by omega)
  have n8 : numHigh (List.take 4 (List.drop 8 s.data.toList)) = highAt s 8 := numHigh_at s 8 (by omega)
  have n12 : numHigh (List.take 4 (List.drop 12 s.data.toList)) = highAt s 12 := numHigh_at s 12 (by omega)
  have n16 : numHigh (List.take 4 (List.drop 16 s.data.toList)) = highAt s 16 := numHigh_at s 16 (by omega)
  rw [r0, r1, r6, r7, n2, n8, n12, n16]
  clear r0 r1 r6 r7 n2 n8 n12 n16 hlen
  have HBz : Hid (Below w.heap.size w (W.alloc (.cells #[.int .u8 (bAt s 0), .int .i64 (bAt s 1), .int .i64 (highAt s 2), .int .i64 (bAt s 6), .int .i64 (bAt s 7), .int .i64 (highAt s 8), .int .i64 (highAt s 12), .int .i64 (highAt s 16)] 23))) := HB2.out.alloc HB2.out.size _
  refine (askError_any _ _ _ _ _ _ _ _ _).mono ?_
  rintro e w3 ⟨rfl, hb3⟩
  have HB3 : Hid (Below w.heap.size w w3) := HBz.out.trans (hb3.mono HBz.out.size)
  have hz3 : W.heap.size < w3.heap.size := by have := hb3.size; simp at this; omega
  have R0 : w3.cell? ⟨w.heap.size, 0, none⟩ = some (.int .u8 0) := by rw [hb3.cell (p := ⟨w.heap.size, 0, none⟩) (by simp; omega), World.cell?_alloc_lt _ _ ⟨w.heap.size, 0, none⟩ hz2]; exact Q0
  have Z0 : w3.frozen? ⟨w.heap.size, 0, none⟩ = false := by rw [hb3.frozen (p := ⟨w.heap.size, 0, none⟩) (by simp; omega), World.frozen?_alloc_old _ _ ⟨w.heap.size, 0, none⟩ (Nat.ne_of_lt hz2)]; exact F0
  have A0 : w3.cell? ⟨W.heap.size, 0, none⟩ = some (.int .u8 (bAt s 0)) := by rw [hb3.cell (p := ⟨W.heap.size, 0, none⟩) (by simp)]; simp
  have R1 : w3.cell? ⟨w.heap.size, 1, none⟩ = some (.int .i64 0) := by rw [hb3.cell (p := ⟨w.heap.size, 1, none⟩) (by simp; omega), World.cell?_alloc_lt _ _ ⟨w.heap.size, 1, none⟩ hz2]; exact Q1
  have Z1 : w3.frozen? ⟨w.heap.size, 1, none⟩ = false := by rw [hb3.frozen (p := ⟨w.heap.size, 1, none⟩) (by simp; omega), World.frozen?_alloc_old _ _ ⟨w.heap.size, 1, none⟩ (Nat.ne_of_lt hz2)]; exact F1
  have A1 : w3.cell? ⟨W.heap.size, 1, none⟩ = some (.int .i64 (bAt s 1)) := by rw [hb3.cell (p := ⟨W.heap.size, 1, none⟩) (by simp)]; simp
  have R2 : w3.cell? ⟨w.heap.size, 2, none⟩ = some (.int .i64 0) := by rw [hb3.cell (p := ⟨w.heap.size, 2, none⟩) (by simp; omega), World.cell?_alloc_lt _ _ ⟨w.heap.size, 2, none⟩ hz2]; exact Q2
  have Z2 : w3.frozen? ⟨w.heap.size, 2, none⟩ = false := by rw [hb3.frozen (p := ⟨w.heap.size, 2, none⟩) (by simp; omega), World.frozen?_alloc_old _ _ ⟨w.heap.size, 2, none⟩ (Nat.ne_of_lt hz2)]; exact F2
  have A2 : w3.cell? ⟨W.heap.size, 2, none⟩ = some (.int .i64 (highAt s 2)) := by rw [hb3.cell (p := ⟨W.heap.size, 2, none⟩) (by simp)]; simp
  have R3 : w3.cell? ⟨w.heap.size, 3, none⟩ = some (.int .i64 0) := by rw [hb3.cell (p := ⟨w.heap.size, 3, none⟩) (by simp; omega), World.cell?_alloc_lt _ _ ⟨w.heap.size, 3, none⟩ hz2]; exact Q3
  have Z3 : w3.frozen? ⟨w.heap.size, 3, none⟩ = false := by rw [hb3.frozen (p := ⟨w.heap.size, 3, none⟩) (by simp; omega), World.frozen?_alloc_old _ _ ⟨w.heap.size, 3, none⟩ (Nat.ne_of_lt hz2)]; exact F3
  have A3 : w3.cell? ⟨W.heap.size, 3, none⟩ = some (.int .i64 (bAt s 6)) := by rw [hb3.cell (p := ⟨W.heap.size, 3, none⟩) (by simp)]; simp
  have R4 : w3.cell? ⟨w.heap.size, 4, none⟩ = some (.int .i64 0) := by rw [hb3.cell (p := ⟨w.heap.size, 4, none⟩) (by simp; omega), World.cell?_alloc_lt _ _ ⟨w.heap.size, 4, none⟩ hz2]; exact Q4
  have Z4 : w3.frozen? ⟨w.heap.size, 4, none⟩ = false := by rw [hb3.frozen (p := ⟨w.heap.size, 4, none⟩) (by simp; omega), World.frozen?_alloc_old _ _ ⟨w.heap.size, 4, none⟩ (Nat.ne_of_lt hz2)]; exact F4
  have A4 : w3.cell? ⟨W.heap.size, 4, none⟩ = some (.int .i64 (bAt s 7)) := by rw [hb3.cell (p := ⟨W.heap.size, 4, none⟩) (by simp)]; simp
  have R5 : w3.cell? ⟨w.heap.size, 5, none⟩ = some (.int .i64 0) := by rw [hb3.cell (p := ⟨w.heap.size, 5, none⟩) (by simp; omega), World.cell?_alloc_lt _ _ ⟨w.heap.size, 5, none⟩ hz2]; exact Q5
  have Z5 : w3.frozen? ⟨w.heap.size, 5, none⟩ = false := by rw [hb3.frozen (p := ⟨w.heap.size, 5, none⟩) (by simp; omega), World.frozen?_alloc_old _ _ ⟨w.heap.size, 5, none⟩ (Nat.ne_of_lt hz2)]; exact F5
  have A5 : w3.cell? ⟨W.heap.size, 5, none⟩ = some (.int .i64 (highAt s 8)) := by rw [hb3.cell (p := ⟨W.heap.size, 5, none⟩) (by simp)]; simp
  have R6 : w3.cell? ⟨w.heap.size, 6, none⟩ = some (.int .i64 0) := by rw [hb3.cell (p := ⟨w.heap.size, 6, none⟩) (by simp; omega), World.cell?_alloc_lt _ _ ⟨w.heap.size, 6, none⟩ hz2]; exact Q6
  have Z6 : w3.frozen? ⟨w.heap.size, 6, none⟩ = false := by rw [hb3.frozen (p := ⟨w.heap.size, 6, none⟩) (by simp; omega), World.frozen?_alloc_old _ _ ⟨w.heap.size, 6, none⟩ (Nat.ne_of_lt hz2)]; exact F6
  have A6 : w3.cell? ⟨W.heap.size, 6, none⟩ = some (.int .i64 (highAt s 12)) := by rw [hb3.cell (p := ⟨W.heap.size, 6, none⟩) (by simp)]; simp
  have R7 : w3.cell? ⟨w.heap.size, 7, none⟩ = some (.int .i64 0) := by rw [hb3.cell (p := ⟨w.heap.size, 7, none⟩) (by simp; omega), World.cell?_alloc_lt _ _ ⟨w.heap.size, 7, none⟩ hz2]; exact Q7
  have Z7 : w3.frozen? ⟨w.heap.size, 7, none⟩ = false := by rw [hb3.frozen (p := ⟨w.heap.size, 7, none⟩) (by simp; omega), World.frozen?_alloc_old _ _ ⟨w.heap.size, 7, none⟩ (Nat.ne_of_lt hz2)]; exact F7
  have A7 : w3.cell? ⟨W.heap.size, 7, none⟩ = some (.int .i64 (highAt s 16)) := by rw [hb3.cell (p := ⟨W.heap.size, 7, none⟩) (by simp)]; simp
  clear hb3 Q0 Q1 Q2 Q3 Q4 Q5 Q6 Q7 F0 F1 F2 F3 F4 F5 F6 F7
  rw [hc.out]
  go_wp2
  refine bodyPost_ret (v := .tuple #[fieldsAsk s, .int .i64 0]) (by simp [results, Tryd.results14, go_sem, fieldsAsk, R0, R1, R2, R3, R4, R5, R6, R7]) rfl ⟨rfl, ?_⟩
  iterate 8 refine Below.setCell (p := ⟨w.heap.size, _, none⟩) ?_ (Nat.le_refl w.heap.size) _
  exact HB3.out

set_option maxHeartbeats 2000000 in
theorem askOf_bad (s : ByteArray) (w : World) (hs : ((s.size : Int) != 30) = false) (hne : ((strOfNums (Wi.low (Wi.sum (s.data.toList.take 26)))).toList == (s.extract 26 s.size).toList) = true) (h1 : numHigh (s.extract 20 23).data.toList = 0) (h2 : numHigh (s.extract 23 26).data.toList = 0) (e0 : Nat) (he0 : (0 : Int) < e0) (hc : Hid (Wi.code (bAt s 0) (bAt s 1) (highAt s 2) (bAt s 6) (bAt s 7) (highAt s 8) (highAt s 12) (highAt s 16) = e0)) :
    Calls Tryd.prog 14 #[.string s] w fun e w' => e = .returned (.tuple #[zeroAsk, .int .i64 e0]) ∧ Below w.heap.size w w' := by
  have H1 := hide h1; have H2 := hide h2
  clear h1 h2
  have hs' : s.size = 30 := by have := hs; simp at this; omega
  have e6 : 6 ≤ s.size := by omega
  have f6 : (6 : Int) ≤ s.size := by omega
  have e12 : 12 ≤ s.size := by omega
  have f12 : (12 : Int) ≤ s.size := by omega
  have e16 : 16 ≤ s.size := by omega
  have f16 : (16 : Int) ≤ s.size := by omega
  have e20 : 20 ≤ s.size := by omega
  have f20 : (20 : Int) ≤ s.size := by omega
  have e23 : 23 ≤ s.size := by omega
  have f23 : (23 : Int) ≤ s.size := by omega
  have e26 : 26 ≤ s.size := by omega
  have f26 : (26 : Int) ≤ s.size := by omega
  have hm : (s.extract 0 26).size ≤ maxLen := by simp [maxLen]; omega
  have ht : (s.extract 0 26).data.toList = s.data.toList.take 26 := by simp
  have Hs := hide hs'
  clear hs'
  go_enter Tryd.func14, Tryd.ntmps14
  go_wp2
  have hb0 : Below w.heap.size w (w.alloc (.cells #[.int .u8 0, .int .i64 0, .int .i64 0, .int .i64 0, .int .i64 0, .int .i64 0, .int .i64 0, .int .i64 0] 23)) := (Below.refl _ _).alloc (Nat.le_refl _) _
  have p0 : (w.alloc (.cells #[.int .u8 0, .int .i64 0, .int .i64 0, .int .i64 0, .int .i64 0, .int .i64 0, .int .i64 0, .int .i64 0] 23)).cell? ⟨w.heap.size, 0, none⟩ = some (.int .u8 0) := by simp
  have g0 : (w.alloc (.cells #[.int .u8 0, .int .i64 0, .int .i64 0, .int .i64 0, .int .i64 0, .int .i64 0, .int .i64 0, .int .i64 0] 23)).frozen? ⟨w.heap.size, 0, none⟩ = false := by simp
  have p1 : (w.alloc (.cells #[.int .u8 0, .int .i64 0, .int .i64 0, .int .i64 0, .int .i64 0, .int .i64 0, .int .i64 0, .int .i64 0] 23)).cell? ⟨w.heap.size, 1, none⟩ = some (.int .i64 0) := by simp
  have g1 : (w.alloc (.cells #[.int .u8 0, .int .i64 0, .int .i64 0, .int .i64 0, .int .i64 0, .int .i64 0, .int .i64 0, .int .i64 0] 23)).frozen? ⟨w.heap.size, 1, none⟩ = false := by simp
  have p2 : (w.alloc (.cells #[.int .u8 0, .int .i64 0, .int .i64 0, .int .i64 0, .int .i64 0, .int .i64 0, .int .i64 0, .int .i64 0] 23)).cell? ⟨w.heap.size, 2, none⟩ = some (.int .i64 0) := by simp
  have g2 : (w.alloc (.cells #[.int .u8 0, .int .i64 0, .int .i64 0, .int .i64 0, .int .i64 0, .int .i64 0, .int .i64 0, .int .i64 0] 23)).frozen? ⟨w.heap.size, 2, none⟩ = false := by simp
  have p3 : (w.alloc (.cells #[.int .u8 0, .int .i64 0, .int .i64 0, .int .i64 0, .int .i64 0, .int .i64 0, .int .i64 0, .int .i64 0] 23)).cell? ⟨w.heap.size, 3, none⟩ = some (.int .i64 0) := by simp
  have g3 : (w.alloc (.cells #[.int .u8 0, .int .i64 0, .int .i64 0, .int .i64 0, .int .i64 0, .int .i64 0, .int .i64 0, .int .i64 0] 23)).frozen? ⟨w.heap.size, 3, none⟩ = false := by simp
  have p4 : (w.alloc (.cells #[.int .u8 0, .int .i64 0, .int .i64 0, .int .i64 0, .int .i64 0, .int .i64 0, .int .i64 0, .int .i64 0] 23)).cell? ⟨w.heap.size, 4, none⟩ = some (.int .i64 0) := by simp
  have g4 : (w.alloc (.cells #[.int .u8 0, .int .i64 0, .int .i64 0, .int .i64 0, .int .i64 0, .int .i64 0, .int .i64 0, .int .i64 0] 23)).frozen? ⟨w.heap.size, 4, none⟩ = false := by simp
  have p5 : (w.alloc (.cells #[.int .u8 0, .int .i64 0, .int .i64 0, .int .i64 0, .int .i64 0, .int .i64 0, .int .i64 0, .int .i64 0] 23)).cell? ⟨w.heap.size, 5, none⟩ = some (.int .i64 0) := by simp
  have g5 : (w.alloc (.cells #[.int .u8 0, .int .i64 0, .int .i64 0, .int .i64 0, .int .i64 0, .int .i64 0, .int .i64 0, .int .i64 0] 23)).frozen? ⟨w.heap.size, 5, none⟩ = false := by simp
  have p6 : (w.alloc (.cells #[.int .u8 0, .int .i64 0, .int .i64 0, .int .i64 0, .int .i64 0, .int .i64 0, .int .i64 0, .int .i64 0] 23)).cell? ⟨w.heap.size, 6, none⟩ = some (.int .i64 0) := by simp
  have g6 : (w.alloc (.cells #[.int .u8 0, .int .i64 0, .int .i64 0, .int .i64 0, .int .i64 0, .int .i64 0, .int .i64 0, .int .i64 0] 23)).frozen? ⟨w.heap.size, 6, none⟩ = false := by simp
  have p7 : (w.alloc (.cells #[.int .u8 0, .int .i64 0, .int .i64 0, .int .i64 0, .int .i64 0, .int .i64 0, .int .i64 0, .int .i64 0] 23)).cell? ⟨w.heap.size, 7, none⟩ = some (.int .i64 0) := by simp
  have g7 : (w.alloc (.cells #[.int .u8 0, .int .i64 0, .int .i64 0, .int .i64 0, .int .i64 0, .int .i64 0, .int .i64 0, .int .i64 0] 23)).frozen? ⟨w.heap.size, 7, none⟩ = false := by simp
  have hz0 : w.heap.size < (w.alloc (.cells #[.int .u8 0, .int .i64 0, .int .i64 0, .int .i64 0, .int .i64 0, .int .i64 0, .int .i64 0, .int .i64 0] 23)).heap.size := by simp
  generalize w.alloc (.cells #[.int .u8 0, .int .i64 0, .int .i64 0, .int .i64 0, .int .i64 0, .int .i64 0, .int .i64 0, .int .i64 0] 23) = w0 at *
  have hne' : Nonempty (Later w0) := ⟨⟨w0, Below.refl _ _⟩⟩
  refine region_quiet_class (X := Later w0) Later.val (by kernel_rfl) (by kernel_rfl) ⟨_, (Below.refl _ _).drew⟩ rfl ?_
  repeat quiet_step ((first | (go_at_call 16; exact crc_later _ hm _) | (go_at_call 31; exact low_later _ (Wi.sum_lt _) _)))
  refine wpQuiet_nil ?_
  intro x
  have P0 : x.val.cell? ⟨w.heap.size, 0, none⟩ = some (.int .u8 0) := by rw [x.low.cell (p := ⟨w.heap.size, 0, none⟩) hz0]; exact p0
  have G0 : x.val.frozen? ⟨w.heap.size, 0, none⟩ = false := by rw [x.low.frozen (p := ⟨w.heap.size, 0, none⟩) hz0]; exact g0
  have P1 : x.val.cell? ⟨w.heap.size, 1, none⟩ = some (.int .i64 0) := by rw [x.low.cell (p := ⟨w.heap.size, 1, none⟩) hz0]; exact p1
  have G1 : x.val.frozen? ⟨w.heap.size, 1, none⟩ = false := by rw [x.low.frozen (p := ⟨w.heap.size, 1, none⟩) hz0]; exact g1
  have P2 : x.val.cell? ⟨w.heap.size, 2, none⟩ = some (.int .i64 0) := by rw [x.low.cell (p := ⟨w.heap.size, 2, none⟩) hz0]; exact p2
  have G2 : x.val.frozen? ⟨w.heap.size, 2, none⟩ = false := by rw [x.low.frozen (p := ⟨w.heap.size, 2, none⟩) hz0]; exact g2
  have P3 : x.val.cell? ⟨w.heap.size, 3, none⟩ = some (.int .i64 0) := by rw [x.low.cell (p := ⟨w.heap.size, 3, none⟩) hz0]; exact p3
  have G3 : x.val.frozen? ⟨w.heap.size, 3, none⟩ = false := by rw [x.low.frozen (p := ⟨w.heap.size, 3, none⟩) hz0]; exact g3
  have P4 : x.val.cell? ⟨w.heap.size, 4, none⟩ = some (.int .i64 0) := by rw [x.low.cell (p := ⟨w.heap.size, 4, none⟩) hz0]; exact p4
  have G4 : x.val.frozen? ⟨w.heap.size, 4, none⟩ = false := by rw [x.low.frozen (p := ⟨w.heap.size, 4, none⟩) hz0]; exact g4
  have P5 : x.val.cell? ⟨w.heap.size, 5, none⟩ = some (.int .i64 0) := by rw [x.low.cell (p := ⟨w.heap.size, 5, none⟩) hz0]; exact p5
  have G5 : x.val.frozen? ⟨w.heap.size, 5, none⟩ = false := by rw [x.low.frozen (p := ⟨w.heap.size, 5, none⟩) hz0]; exact g5
  have P6 : x.val.cell? ⟨w.heap.size, 6, none⟩ = some (.int .i64 0) := by rw [x.low.cell (p := ⟨w.heap.size, 6, none⟩) hz0]; exact p6
  have G6 : x.val.frozen? ⟨w.heap.size, 6, none⟩ = false := by rw [x.low.frozen (p := ⟨w.heap.size, 6, none⟩) hz0]; exact g6
  have P7 : x.val.cell? ⟨w.heap.size, 7, none⟩ = some (.int .i64 0) := by rw [x.low.cell (p := ⟨w.heap.size, 7, none⟩) hz0]; exact p7
  have G7 : x.val.frozen? ⟨w.heap.size, 7, none⟩ = false := by rw [x.low.frozen (p := ⟨w.heap.size, 7, none⟩) hz0]; exact g7
  have HB1 : Hid (Below w.heap.size w x.val) := hb0.trans (x.low.mono hb0.size)
  have hz1 : w.heap.size < x.val.heap.size := Nat.lt_of_lt_of_le hz0 x.low.size
  clear p0 p1 p2 p3 p4 p5 p6 p7 g0 g1 g2 g3 g4 g5 g6 g7 hb0 hz0
  generalize x.val = w1 at *
  clear x hne' hm
  go_wp2_with fail
  refine (number_any _ _ (by simp; omega)).mono ?_
  rintro e w2 ⟨rfl, rfl⟩
  rw [H1.out]
  go_wp2_with fail
  refine (number_any _ _ (by simp; omega)).mono ?_
  rintro e w2 ⟨rfl, rfl⟩
  rw [H2.out]
  have gg0 : 0 < s.size := by omega
  have gg1 : 1 < s.size := by omega
  have gg6 : 6 < s.size := by omega
  have gg7 : 7 < s.size := by omega
  have hh1 : (1 : Int) < s.size := by omega
  have hh6 : (6 : Int) < s.size := by have := Hs.out; omega
  have hh7 : (7 : Int) < s.size := by have := Hs.out; omega
  go_wp2_with fail
  obtain ⟨val, hvF, hvT⟩ : ∃ val : Bool → Nat → World, (∀ n, val false n = w2.drewN n) ∧ (∀ n, val true n = (w2.drewN n).alloc (.cells #[.int .u8 0, .int .i64 0, .int .i64 0, .int .i64 0, .int .i64 0, .int .i64 0, .int .i64 0, .int .i64 0] 23)) := ⟨fun b n => bif b then (w2.drewN n).alloc (.cells #[.int .u8 0, .int .i64 0, .int .i64 0, .int .i64 0, .int .i64 0, .int .i64 0, .int .i64 0, .int .i64 0] 23) else w2.drewN n, fun _ => rfl, fun _ => rfl⟩
  have HvF := hide hvF; have HvT := hide hvT
  have hal : ∀ (a : Act) n, (execOp a.eval { dst := some 4, op := Op.alloc 23, type := 0, pos := "base.go:169", after := #[], guard := none }).run Tryd.prog (val false n) = .ok (.value (.pointer (some ⟨w2.heap.size, 0, none⟩))) (val true n) := by
    intro a n
    rw [hvF, hvT]
    kernel_rfl
  clear hvF hvT
  refine region_free_alloc_lit (val := val) (p := .pointer (some ⟨w2.heap.size, 0, none⟩)) 15 rfl (by kernel_rfl) (by kernel_rfl) (by kernel_rfl) rfl (by rw [HvF.out]; rfl) hal ?_
  clear hal
  simp only [List.take_succ_cons, List.take_zero]
  repeat (refine walkF_step (fun K hK => ?_); refine ⟨by rfl, ?_⟩; unfold quietF; go_simp; first | (refine hK _ ?_; clear hK K) | (refine ⟨_, ⟨fun n => (number_any _ _ (by simp; omega)).mono (fun e w' ⟨he, hw⟩ => ⟨he, n, hw⟩), fun n => (number_any _ _ (by simp; omega)).mono (fun e w' ⟨he, hw⟩ => ⟨he, n, hw⟩)⟩, hK _ ?_⟩; clear hK K))
  refine walkF_nil ?_
  intro n
  rw [HvT.out]
  have Q0 : (w2.drewN n).cell? ⟨w.heap.size, 0, none⟩ = some (.int .u8 0) := by simpa using P0
  have F0 : (w2.drewN n).frozen? ⟨w.heap.size, 0, none⟩ = false := by simpa using G0
  have Q1 : (w2.drewN n).cell? ⟨w.heap.size, 1, none⟩ = some (.int .i64 0) := by simpa using P1
  have F1 : (w2.drewN n).frozen? ⟨w.heap.size, 1, none⟩ = false := by simpa using G1
  have Q2 : (w2.drewN n).cell? ⟨w.heap.size, 2, none⟩ = some (.int .i64 0) := by simpa using P2
  have F2 : (w2.drewN n).frozen? ⟨w.heap.size, 2, none⟩ = false := by simpa using G2
  have Q3 : (w2.drewN n).cell? ⟨w.heap.size, 3, none⟩ = some (.int .i64 0) := by simpa using P3
  have F3 : (w2.drewN n).frozen? ⟨w.heap.size, 3, none⟩ = false := by simpa using G3
  have Q4 : (w2.drewN n).cell? ⟨w.heap.size, 4, none⟩ = some (.int .i64 0) := by simpa using P4
  have F4 : (w2.drewN n).frozen? ⟨w.heap.size, 4, none⟩ = false := by simpa using G4
  have Q5 : (w2.drewN n).cell? ⟨w.heap.size, 5, none⟩ = some (.int .i64 0) := by simpa using P5
  have F5 : (w2.drewN n).frozen? ⟨w.heap.size, 5, none⟩ = false := by simpa using G5
  have Q6 : (w2.drewN n).cell? ⟨w.heap.size, 6, none⟩ = some (.int .i64 0) := by simpa using P6
  have F6 : (w2.drewN n).frozen? ⟨w.heap.size, 6, none⟩ = false := by simpa using G6
  have Q7 : (w2.drewN n).cell? ⟨w.heap.size, 7, none⟩ = some (.int .i64 0) := by simpa using P7
  have F7 : (w2.drewN n).frozen? ⟨w.heap.size, 7, none⟩ = false := by simpa using G7
  have HB2 : Hid (Below w.heap.size w (w2.drewN n)) := HB1.out.trans ((below_drewN n).mono HB1.out.size)
  have hz2 : w.heap.size < (w2.drewN n).heap.size := by simpa using hz1
  have hsz : w2.heap.size = (w2.drewN n).heap.size := by simp
  rw [hsz]
  clear P0 P1 P2 P3 P4 P5 P6 P7 G0 G1 G2 G3 G4 G5 G6 G7 HB1 hz1 HvF HvT hsz
  generalize w2.drewN n = W at *
  go_wp2_with (go_at_call 32; refine (number_any _ _ (by simp; omega)).mono ?_; rintro e w' ⟨rfl, rfl⟩)
  have r0 : ((s[0]).toNat : Int) = (bAt s 0 : Int) := by rw [bAt_eq s 0 gg0]
  have r1 : wrap64 ((s[1]).toNat : Int) = (bAt s 1 : Int) := by rw [bAt_eq s 1 gg1, wrap64_small _ (by have := bAt_lt s 1; omega)]
  have r6 : wrap64 ((s[6]).toNat : Int) = (bAt s 6 : Int) := by rw [bAt_eq s 6 gg6, wrap64_small _ (by have := bAt_lt s 6; omega)]
  have r7 : wrap64 ((s[7]).toNat : Int) = (bAt s 7 : Int) := by rw [bAt_eq s 7 gg7, wrap64_small _ (by have := bAt_lt s 7; omega)]
  have hlen : s.data.toList.length = 30 := by simpa using Hs.out
  have n2 : numHigh (List.take 4 (List.drop 2 s.data.toList)) = highAt s 2 := numHigh_at s 2 (by omega)
  have n8 : numHigh (List.take 4 (List.drop 8 s.data.toList)) = highAt s 8 := numHigh_at s 8 (by omega)
  have n12 : numHigh (List.take 4 (List.drop 12 s.data.toList)) = highAt s 12 := numHigh_at s 12 (by omega)
  have n16 : numHigh (List.take 4 (List.drop 16 s.data.toList)) = highAt s 16 := numHigh_at s 16 (by omega)
  rw [r0, r1, r6, r7, n2, n8, n12, n16]
  clear r0 r1 r6 r7 n2 n8 n12 n16 hlen
  have HBz : Hid (Below w.heap.size w (W.alloc (.cells #[.int .u8 (bAt s 0), .int .i64 (bAt s 1), .int .i64 (highAt s 2), .int .i64 (bAt s 6), .int .i64 (bAt s 7), .int .i64 (highAt s 8), .int .i64 (highAt s 12), .int .i64 (highAt s 16)] 23))) := HB2.out.alloc HB2.out.size _
  refine (askError_any _ _ _ _ _ _ _ _ _).mono ?_
  rintro e w3 ⟨rfl, hb3⟩
  have HB3 : Hid (Below w.heap.size w w3) := HBz.out.trans (hb3.mono HBz.out.size)
  have hz3 : W.heap.size < w3.heap.size := by have := hb3.size; simp at this; omega
  have R0 : w3.cell? ⟨w.heap.size, 0, none⟩ = some (.int .u8 0) := by rw [hb3.cell (p := ⟨w.heap.size, 0, none⟩) (by simp; omega), World.cell?_alloc_lt _ _ ⟨w.heap.size, 0, none⟩ hz2]; exact Q0
  have Z0 : w3.frozen? ⟨w.heap.size, 0, none⟩ = false := by rw [hb3.frozen (p := ⟨w.heap.size, 0, none⟩) (by simp; omega), World.frozen?_alloc_old _ _ ⟨w.heap.size, 0, none⟩ (Nat.ne_of_lt hz2)]; exact F0
  have A0 : w3.cell? ⟨W.heap.size, 0, none⟩ = some (.int .u8 (bAt s 0)) := by rw [hb3.cell (p := ⟨W.heap.size, 0, none⟩) (by simp)]; simp
  have R1 : w3.cell? ⟨w.heap.size, 1, none⟩ = some (.int .i64 0) := by rw [hb3.cell (p := ⟨w.heap.size, 1, none⟩) (by simp; omega), World.cell?_alloc_lt _ _ ⟨w.heap.size, 1, none⟩ hz2]; exact Q1
  have Z1 : w3.frozen? ⟨w.heap.size, 1, none⟩ = false := by rw [hb3.frozen (p := ⟨w.heap.size, 1, none⟩) (by simp; omega), World.frozen?_alloc_old _ _ ⟨w.heap.size, 1, none⟩ (Nat.ne_of_lt hz2)]; exact F1
  have A1 : w3.cell? ⟨W.heap.size, 1, none⟩ = some (.int .i64 (bAt s 1)) := by rw [hb3.cell (p := ⟨W.heap.size, 1, none⟩) (by simp)]; simp
  have R2 : w3.cell? ⟨w.heap.size, 2, none⟩ = some (.int .i64 0) := by rw [hb3.cell (p := ⟨w.heap.size, 2, none⟩) (by simp; omega), World.cell?_alloc_lt _ _ ⟨w.heap.size, 2, none⟩ hz2]; exact Q2
  have Z2 : w3.frozen? ⟨w.heap.size, 2, none⟩ = false := by rw [hb3.frozen (p := ⟨w.heap.size, 2, none⟩) (by simp; omega), World.frozen?_alloc_old _ _ ⟨w.heap.size, 2, none⟩ (Nat.ne_of_lt hz2)]; exact F2
  have A2 : w3.cell? ⟨W.heap.size, 2, none⟩ = some (.int .i64 (highAt s 2)) := by rw [hb3.cell (p := ⟨W.heap.size, 2, none⟩) (by simp)]; simp
  have R3 : w3.cell? ⟨w.heap.size, 3, none⟩ = some (.int .i64 0) := by rw [hb3.cell (p := ⟨w.heap.size, 3, none⟩) (by simp; omega), World.cell?_alloc_lt _ _ ⟨w.heap.size, 3, none⟩ hz2]; exact Q3
  have Z3 : w3.frozen? ⟨w.heap.size, 3, none⟩ = false := by rw [hb3.frozen (p := ⟨w.heap.size, 3, none⟩) (by simp; omega), World.frozen?_alloc_old _ _ ⟨w.heap.size, 3, none⟩ (Nat.ne_of_lt hz2)]; exact F3
  have A3 : w3.cell? ⟨W.heap.size, 3, none⟩ = some (.int .i64 (bAt s 6)) := by rw [hb3.cell (p := ⟨W.heap.size, 3, none⟩) (by simp)]; simp
  have R4 : w3.cell? ⟨w.heap.size, 4, none⟩ = some (.int .i64 0) := by rw [hb3.cell (p := ⟨w.heap.size, 4, none⟩) (by simp; omega), World.cell?_alloc_lt _ _ ⟨w.heap.size, 4, none⟩ hz2]; exact Q4
  have Z4 : w3.frozen? ⟨w.heap.size, 4, none⟩ = false := by rw [hb3.frozen (p := ⟨w.heap.size, 4, none⟩) (by simp; omega), World.frozen?_alloc_old _ _ ⟨w.heap.size, 4, none⟩ (Nat.ne_of_lt hz2)]; exact F4
  have A4 : w3.cell? ⟨W.heap.size, 4, none⟩ = some (.int .i64 (bAt s 7)) := by rw [hb3.cell (p := ⟨W.heap.size, 4, none⟩) (by simp)]; simp
  have R5 : w3.cell? ⟨w.heap.size, 5, none⟩ = some (.int .i64 0) := by rw [hb3.cell (p := ⟨w.heap.size, 5, none⟩) (by simp; omega), World.cell?_alloc_lt _ _ ⟨w.heap.size, 5, none⟩ hz2]; exact Q5
  have Z5 : w3.frozen? ⟨w.heap.size, 5, none⟩ = false := by rw [hb3.frozen (p := ⟨w.heap.size, 5, none⟩) (by simp; omega), World.frozen?_alloc_old _ _ ⟨w.heap.size, 5, none⟩ (Nat.ne_of_lt hz2)]; exact F5
  have A5 : w3.cell? ⟨W.heap.size, 5, none⟩ = some (.int .i64 (highAt s 8)) := by rw [hb3.cell (p := ⟨W.heap.size, 5, none⟩) (by simp)]; simp
  have R6 : w3.cell? ⟨w.heap.size, 6, none⟩ = some (.int .i64 0) := by rw [hb3.cell (p := ⟨w.heap.size, 6, none⟩) (by simp; omega), World.cell?_alloc_lt _ _ ⟨w.heap.size, 6, none⟩ hz2]; exact Q6
  have Z6 : w3.frozen? ⟨w.heap.size, 6, none⟩ = false := by rw [hb3.frozen (p := ⟨w.heap.size, 6, none⟩) (by simp; omega), World.frozen?_alloc_old _ _ ⟨w.heap.size, 6, none⟩ (Nat.ne_of_lt hz2)]; exact F6
  have A6 : w3.cell? ⟨W.heap.size, 6, none⟩ = some (.int .i64 (highAt s 12)) := by rw [hb3.cell (p := ⟨W.heap.size, 6, none⟩) (by simp)]; simp
  have R7 : w3.cell? ⟨w.heap.size, 7, none⟩ = some (.int .i64 0) := by rw [hb3.cell (p := ⟨w.heap.size, 7, none⟩) (by simp; omega), World.cell?_alloc_lt _ _ ⟨w.heap.size, 7, none⟩ hz2]; exact Q7
  have Z7 : w3.frozen? ⟨w.heap.size, 7, none⟩ = false := by rw [hb3.frozen (p := ⟨w.heap.size, 7, none⟩) (by simp; omega), World.frozen?_alloc_old _ _ ⟨w.heap.size, 7, none⟩ (Nat.ne_of_lt hz2)]; exact F7
  have A7 : w3.cell? ⟨W.heap.size, 7, none⟩ = some (.int .i64 (highAt s 16)) := by rw [hb3.cell (p := ⟨W.heap.size, 7, none⟩) (by simp)]; simp
  clear hb3 Q0 Q1 Q2 Q3 Q4 Q5 Q6 Q7 F0 F1 F2 F3 F4 F5 F6 F7
  rw [hc.out]
  go_wp2
  refine bodyPost_ret (v := .tuple #[zeroAsk, .int .i64 e0]) (by simp [results, Tryd.results14, go_sem, zeroAsk, R0, R1, R2, R3, R4, R5, R6, R7]) rfl ⟨rfl, ?_⟩
  iterate 8 refine Below.setCell (p := ⟨w.heap.size, _, none⟩) ?_ (Nat.le_refl w.heap.size) _
  exact HB3.out

end Go.Proofs.YtibdemdhbpkeeaaDoor
