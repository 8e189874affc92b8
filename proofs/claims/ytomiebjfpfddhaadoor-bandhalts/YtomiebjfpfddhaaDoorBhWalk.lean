/- The law BandHalts, for all numbers and all prices. -/
import Derived.Test.YtomiebjfpfddhaaDoorBdRef
namespace Go.Proofs.YtomiebjfpfddhaaDoor
open Go.RowKit
set_option maxRecDepth 100000

theorem inB_self (wd r : Int) (h1 : 0 ≤ wd) (h2 : 1 ≤ r) : Bd.inB wd r r = true := by
  have := Int.mul_nonneg (by omega : 0 ≤ r) h1
  simp [Bd.inB, Cv.size]
  omega
theorem hrow_later {w w' : World} {b : Nat} {x : Obj} (hb : Below w.heap.size w w') (h : w.heap[b]? = some x) : w'.heap[b]? = some x := by
  rw [hb.block _ (Array.getElem?_eq_some_iff.1 h).1]; exact h
theorem hrow_cell {w : World} {B j : Nat} {T : TypeId} {a : Array Value} {v : Value} (h : w.heap[B]? = some (.cells a T (0, 0))) (e : a[j]? = some v) : w.cell? ⟨B, j, none⟩ = some v := by
  rw [cell_of_row w B j _ _ _ h, e]

/-- what is so ahead of each batch: the rule at B, the band behind it -/
structure HInv (w W : World) (B : Nat) (wd h R L last : Int) : Prop where
  rule : W.heap[B]? = some (.cells #[.int .i64 wd, .int .i64 h] 47 (0, 0))
  band : W.heap[B + 1]? = some (.cells #[.int .i64 R, .int .i64 L] 45 (0, 0))
  bl : Below w.heap.size w W
  lo : w.heap.size ≤ B
  ok : (1 ≤ R ∧ R ≤ 1000) ∧ 0 ≤ L ∧ L ≤ 1000
  la : last = 0 ∨ last = R
theorem HInv.later {w W W' : World} {B : Nat} {wd h R L last : Int} (hi : HInv w W B wd h R L last) (hb : Below W.heap.size W W') : HInv w W' B wd h R L last :=
  ⟨hrow_later hb hi.rule, hrow_later hb hi.band, hi.bl.trans (hb.mono hi.bl.size), hi.lo, hi.ok, hi.la⟩
theorem HInv.last {w W : World} {B : Nat} {wd h R L last : Int} (hi : HInv w W B wd h R L last) (la : Int) (h1 : la = 0 ∨ la = R) : HInv w W B wd h R L la := ⟨hi.rule, hi.band, hi.bl, hi.lo, hi.ok, h1⟩
theorem HInv.set {w W : World} {B : Nat} {wd h R L last : Int} (hi : HInv w W B wd h R L last) (R' L' la : Int) (hok : (1 ≤ R' ∧ R' ≤ 1000) ∧ 0 ≤ L' ∧ L' ≤ 1000) (hla : la = 0 ∨ la = R') :
    HInv w ((W.setCell ⟨B + 1, 0, none⟩ (.int .i64 R')).setCell ⟨B + 1, 1, none⟩ (.int .i64 L')) B wd h R' L' la := by
  have h1 : (W.setCell ⟨B + 1, 0, none⟩ (.int .i64 R')).heap[B + 1]? = some (.cells #[.int .i64 R', .int .i64 L] 45 (0, 0)) := by
    rw [setCell_eq_setRow W (B + 1) 0 _ _ _ _ hi.band]; exact setRow_heap W (B + 1) _ _ _ _ hi.band
  have h2 : ((W.setCell ⟨B + 1, 0, none⟩ (.int .i64 R')).setCell ⟨B + 1, 1, none⟩ (.int .i64 L')).heap[B + 1]? = some (.cells #[.int .i64 R', .int .i64 L'] 45 (0, 0)) := by
    rw [setCell_eq_setRow _ (B + 1) 1 _ _ _ _ h1]; exact setRow_heap _ (B + 1) _ _ _ _ h1
  refine ⟨?_, h2, (hi.bl.setCell (by have := hi.lo; simp; omega) _).setCell (by have := hi.lo; simp; omega) _, hi.lo, hok, hla⟩
  have hb : Below (B + 1) W ((W.setCell ⟨B + 1, 0, none⟩ (.int .i64 R')).setCell ⟨B + 1, 1, none⟩ (.int .i64 L')) := ((Below.refl _ _).setCell (by simp) _).setCell (by simp) _
  rw [hb.block B (by omega)]
  exact hi.rule

set_option maxHeartbeats 1000000 in
theorem bh_out (r wd h : Int) (a : Option Addr) (n cap : Nat) (T : TypeId) (v1 : Value) (w : World) (he : Hid (BEr w T v1)) (ho : 60 < n ∨ r < 1 ∨ 1000 < r) :
    Calls Tryd.prog 7 #[.int .i64 r, .int .i64 wd, .int .i64 h, .slice a n cap] w fun e w' => e = .returned (.bool true) ∧ Below w.heap.size w w' := by
  have ho' : (60 : Int) < n ∨ (¬ (60 : Int) < n ∧ r < 1) ∨ (¬ (60 : Int) < n ∧ ¬ r < 1 ∧ 1000 < r) := by omega
  clear ho
  go_enter Tryd.func7, Tryd.ntmps7
  go_wp2_with fail
  refine (banded_any T v1 w he).mono ?_
  rintro e w1 ⟨rfl, hb1⟩
  have HB := hide hb1
  clear hb1
  simp only []
  rcases ho' with h1 | ⟨h1, h2⟩ | ⟨h1, h2, h3⟩
  all_goals
    go_wp2
    go_ret
    exact ⟨rfl, HB.out⟩

set_option maxHeartbeats 1000000 in
theorem bh_rule (r wd h : Int) (a : Option Addr) (n cap : Nat) (T : TypeId) (v1 : Value) (w : World) (he : Hid (BEr w T v1)) (hn : n ≤ 60) (h1 : 1 ≤ r) (h2 : r ≤ 1000) (hr : Bd.rOk wd h = false) :
    Calls Tryd.prog 7 #[.int .i64 r, .int .i64 wd, .int .i64 h, .slice a n cap] w fun e w' => e = .returned (.bool true) ∧ Below w.heap.size w w' := by
  have n1 : ¬ (60 : Int) < n := by omega
  have n2 : ¬ r < 1 := by omega
  have n3 : ¬ 1000 < r := by omega
  go_enter Tryd.func7, Tryd.ntmps7
  go_wp2_with fail
  refine (banded_any T v1 w he).mono ?_
  rintro e w1 ⟨rfl, hb1⟩
  have hb2 : Below w.heap.size w ((w1.alloc (.cells #[.int .i64 wd, .int .i64 h] 47)).alloc (.cells #[.int .i64 r, .int .i64 0] 45)) := (hb1.alloc hb1.size _).alloc (by have := hb1.size; simp; omega) _
  have HC := hide (rcheck_any wd h T v1 _ (he.out.later hb2))
  rw [hr] at HC
  unfold bandV at HC
  have HB := hide hb2
  clear hb1 hb2 hr
  simp only []
  go_wp2_with fail
  refine HC.out.mono ?_
  rintro e w2 ⟨rfl, hb3⟩
  replace HB := hide (HB.out.trans (hb3.mono HB.out.size))
  clear hb3 HC
  simp only [okE, if_neg Bool.false_ne_true]
  go_wp2
  go_ret
  exact ⟨rfl, HB.out⟩

set_option maxHeartbeats 4000000 in
theorem bh_main (r wd h : Int) (a : Option Addr) (n cap : Nat) (zs : List Int) (T : TypeId) (v1 : Value) (w : World) (he : Hid (BEr w T v1)) (hn : n ≤ 60) (h1 : 1 ≤ r) (h2 : r ≤ 1000) (hr : Bd.rOk wd h = true)
    (hcells : Hid (∀ i, i < n → ∃ g, a = some g ∧ w.cell? (g.add i) = some (.int .i64 (zs.getD i 0)))) :
    Calls Tryd.prog 7 #[.int .i64 r, .int .i64 wd, .int .i64 h, .slice a n cap] w fun e w' => e = .returned (.bool true) ∧ Below w.heap.size w w' := by
  have n1 : ¬ (60 : Int) < n := by omega
  have n2 : ¬ r < 1 := by omega
  have n3 : ¬ 1000 < r := by omega
  have hr' : (0 ≤ wd ∧ wd ≤ 100) ∧ 1 ≤ h ∧ h ≤ 1000 := by simpa [Bd.rOk, Wi.withinB] using hr
  obtain ⟨⟨wd1, wd2⟩, hh1, hh2⟩ := hr'
  have HRO := hide hr
  clear hr
  go_enter Tryd.func7, Tryd.ntmps7
  go_wp2_with fail
  refine (banded_any T v1 w he).mono ?_
  rintro e w1 ⟨rfl, hb1⟩
  obtain ⟨B, hBe⟩ : ∃ B, w1.heap.size = B := ⟨_, rfl⟩
  obtain ⟨W, hWe⟩ : ∃ W, (w1.alloc (.cells #[.int .i64 wd, .int .i64 h] 47)).alloc (.cells #[.int .i64 r, .int .i64 0] 45) = W := ⟨_, rfl⟩
  have hi0 : HInv w W B wd h r 0 0 := by
    refine ⟨?_, ?_, ?_, by rw [← hBe]; exact hb1.size, by omega, .inl rfl⟩
    · rw [← hWe, ← hBe]; exact (Below.heap_alloc _ _ _ (by simp)).trans (heap_alloc_new _ _)
    · rw [← hWe, ← hBe]
      have := heap_alloc_new (w1.alloc (.cells #[.int .i64 wd, .int .i64 h] 47)) (.cells #[.int .i64 r, .int .i64 0] 45)
      rw [show (w1.alloc (.cells #[.int .i64 wd, .int .i64 h] 47)).heap.size = w1.heap.size + 1 by simp] at this
      exact this
    · rw [← hWe]; exact (hb1.alloc hb1.size _).alloc (by have := hb1.size; simp; omega) _
  have HC := hide (rcheck_any wd h T v1 W (he.out.later hi0.bl))
  rw [HRO.out] at HC
  unfold bandV at HC
  have HI0 := hide hi0; have HWe := hide hWe; have HBe := hide hBe
  clear hb1 hi0 hWe hBe
  simp only []
  go_wp2_with fail
  rw [HWe.out, HBe.out]
  clear HWe HBe
  refine HC.out.mono ?_
  rintro e w2 ⟨rfl, hb3⟩
  have HI := hide (HI0.out.later hb3)
  clear hb3 HC HI0
  simp only [okE, if_pos]
  go_wp2_with fail
  go_loopw [12, 13, 14] (fun c la i wr => ∃ (k : Nat) (R L last : Int), k ≤ n ∧ i = .int .i64 k ∧ c = .int .i64 L ∧ la = .int .i64 last ∧ HInv w wr B wd h R L last) (fun _ _ i _ => n - (intOf i).toNat)
  case atStart => exact ⟨0, r, 0, 0, Nat.zero_le _, rfl, rfl, rfl, HI.out⟩
  case round =>
    obtain ⟨k, R, L, last, hk, rfl, rfl, rfl, hi⟩ := hrel
    have HIR := hide hi
    clear hi HI
    by_cases hlt : k < n
    · have hki : (k : Int) < n := by omega
      obtain ⟨g, rfl, hc⟩ := hcells.out k hlt
      have hcr : wr.cell? (g.add k) = some (.int .i64 (zs.getD k 0)) := by rw [HIR.out.bl.cell (p := g.add k) (World.block_lt_of_cell? _ _ hc)]; exact hc
      clear hc
      generalize zs.getD k 0 = p at *
      obtain ⟨⟨R1, R2⟩, L1, L2⟩ := HIR.out.ok
      have hbW : Below wr.heap.size wr (wr.alloc (.cells #[.int .i64 R, .int .i64 L] 45)) := (Below.refl _ _).alloc (Nat.le_refl _) _
      have HNX : Hid (∀ vol, Bd.vOk p vol = true → Calls Tryd.prog 26 #[bandV R L, bandV wd h, .int .i64 p, .int .i64 vol] (wr.alloc (.cells #[.int .i64 R, .int .i64 L] 45)) fun e w' => e = .returned (nextV R L wd h p vol) ∧ Below (wr.alloc (.cells #[.int .i64 R, .int .i64 L] 45)).heap.size (wr.alloc (.cells #[.int .i64 R, .int .i64 L] 45)) w') := fun vol hv =>
        next_ok R L wd h p vol T v1 _ (he.out.later (HIR.out.bl.trans (hbW.mono HIR.out.bl.size))) (by rw [HRO.out, hv]; simp [Bd.bOk, Wi.withinB, R1, R2, L1, L2])
      have HIW := hide (HIR.out.later hbW)
      have HWR : Hid ((wr.alloc (.cells #[.int .i64 R, .int .i64 L] 45)).heap[wr.heap.size]? = some (.cells #[.int .i64 R, .int .i64 L] 45 (0, 0))) := heap_alloc_new _ _
      have b0 : wr.cell? ⟨B + 1, 0, none⟩ = some (.int .i64 R) := hrow_cell HIR.out.band rfl
      have b1 : wr.cell? ⟨B + 1, 1, none⟩ = some (.int .i64 L) := hrow_cell HIR.out.band rfl
      have u0 : wr.cell? ⟨B, 0, none⟩ = some (.int .i64 wd) := hrow_cell HIR.out.rule rfl
      have u1 : wr.cell? ⟨B, 1, none⟩ = some (.int .i64 h) := hrow_cell HIR.out.rule rfl
      have hBl : B + 1 < wr.heap.size := (Array.getElem?_eq_some_iff.1 HIR.out.band).1
      have hBl0 : B < wr.heap.size := by omega
      have HLA := hide HIR.out.la
      clear hbW HIR
      by_cases hL : 0 < L
      · have hL0 : ¬ L = 0 := by omega
        by_cases hp : 1 ≤ p ∧ p ≤ 1000
        · obtain ⟨p1, p2⟩ := hp
          have p3 : ¬ p < 1 := by omega
          have p4 : ¬ 1000 < p := by omega
          have HN := hide (HNX.out 1 (by simp [Bd.vOk, Wi.withinB, p1, p2]))
          by_cases hL1 : L = 1
          · subst hL1
            have hans : nextV R 1 wd h p 1 = .tuple #[.agg #[.int .i64 p, .int .i64 0], .bool false, .nilIface] := by
              simp [nextV, bandV, Bd.nR, Bd.nL, Bd.nO]
            rw [hans] at HN
            unfold bandV at HN
            clear hans HNX
            go_wp2_with fail
            refine HN.out.mono ?_
            rintro e w3 ⟨rfl, hb3⟩
            have HI3 := hide (HIW.out.later hb3)
            have hW3 : w3.heap[wr.heap.size]? = some (.cells #[.int .i64 R, .int .i64 1] 45 (0, 0)) := hrow_later hb3 HWR.out
            have hbn : Below w3.heap.size w3 (w3.alloc (.cells #[.int .i64 p, .int .i64 0] 45)) := (Below.refl _ _).alloc (Nat.le_refl _) _
            have HI4 := hide ((HI3.out.set p 0 p (by omega) (by first | exact HLA.out | (left; rfl) | (right; rfl))).later ((Below.refl _ _).alloc (Nat.le_refl _) (.cells #[.int .i64 p, .int .i64 0] 45)))
            have c0 : w3.cell? ⟨B + 1, 0, none⟩ = some (.int .i64 R) := hrow_cell HI3.out.band rfl
            have c1 : w3.cell? ⟨B + 1, 1, none⟩ = some (.int .i64 1) := hrow_cell HI3.out.band rfl
            have f0 : w3.frozen? ⟨B + 1, 0, none⟩ = false := by simp [World.frozen?, HI3.out.band]
            have f1 : w3.frozen? ⟨B + 1, 1, none⟩ = false := by simp [World.frozen?, HI3.out.band]
            have d0 : w3.cell? ⟨wr.heap.size, 0, none⟩ = some (.int .i64 R) := hrow_cell hW3 rfl
            have q0 : w3.cell? ⟨B, 0, none⟩ = some (.int .i64 wd) := hrow_cell HI3.out.rule rfl
            have q1 : w3.cell? ⟨B, 1, none⟩ = some (.int .i64 h) := hrow_cell HI3.out.rule rfl
            have hl3 : wr.heap.size < w3.heap.size := (Array.getElem?_eq_some_iff.1 hW3).1
            obtain ⟨N, hN⟩ : ∃ N, wr.heap.size = N := ⟨_, rfl⟩
            rw [hN] at hl3 d0 hBl hBl0 ⊢
            have hl4 : B + 1 < w3.heap.size := by omega
            have hl5 : B < w3.heap.size := by omega
            clear hb3 hbn HN HIW HWR HI3 hW3 b0 b1 u0 u1 hcr hN
            simp only []
            go_wp2
            exact ⟨⟨k + 1, p, 0, p, by omega, by go_num, by first | rfl | go_num, rfl, HI4.out⟩, by simp [intOf]; omega⟩
          · have hL2 : ¬ L - 1 = 0 := by omega
            have hans : nextV R L wd h p 1 = .tuple #[.agg #[.int .i64 R, .int .i64 (L - 1)], .bool false, .nilIface] := by
              simp [nextV, bandV, Bd.nR, Bd.nL, Bd.nO, hL, hL1]
            rw [hans] at HN
            unfold bandV at HN
            clear hans HNX
            go_wp2_with fail
            refine HN.out.mono ?_
            rintro e w3 ⟨rfl, hb3⟩
            have HI3 := hide (HIW.out.later hb3)
            have hW3 : w3.heap[wr.heap.size]? = some (.cells #[.int .i64 R, .int .i64 L] 45 (0, 0)) := hrow_later hb3 HWR.out
            have hbn : Below w3.heap.size w3 (w3.alloc (.cells #[.int .i64 R, .int .i64 (L - 1)] 45)) := (Below.refl _ _).alloc (Nat.le_refl _) _
            have HI4 := hide ((HI3.out.set R (L - 1) 0 (by omega) (by first | exact HLA.out | (left; rfl) | (right; rfl))).later ((Below.refl _ _).alloc (Nat.le_refl _) (.cells #[.int .i64 R, .int .i64 (L - 1)] 45)))
            have c0 : w3.cell? ⟨B + 1, 0, none⟩ = some (.int .i64 R) := hrow_cell HI3.out.band rfl
            have c1 : w3.cell? ⟨B + 1, 1, none⟩ = some (.int .i64 L) := hrow_cell HI3.out.band rfl
            have f0 : w3.frozen? ⟨B + 1, 0, none⟩ = false := by simp [World.frozen?, HI3.out.band]
            have f1 : w3.frozen? ⟨B + 1, 1, none⟩ = false := by simp [World.frozen?, HI3.out.band]
            have d0 : w3.cell? ⟨wr.heap.size, 0, none⟩ = some (.int .i64 R) := hrow_cell hW3 rfl
            have q0 : w3.cell? ⟨B, 0, none⟩ = some (.int .i64 wd) := hrow_cell HI3.out.rule rfl
            have q1 : w3.cell? ⟨B, 1, none⟩ = some (.int .i64 h) := hrow_cell HI3.out.rule rfl
            have hl3 : wr.heap.size < w3.heap.size := (Array.getElem?_eq_some_iff.1 hW3).1
            obtain ⟨N, hN⟩ : ∃ N, wr.heap.size = N := ⟨_, rfl⟩
            rw [hN] at hl3 d0 hBl hBl0 ⊢
            have hl4 : B + 1 < w3.heap.size := by omega
            have hl5 : B < w3.heap.size := by omega
            clear hb3 hbn HN HIW HWR HI3 hW3 b0 b1 u0 u1 hcr hN
            simp only []
            go_wp2
            exact ⟨⟨k + 1, R, (L - 1), 0, by omega, by go_num, by first | rfl | go_num, rfl, HI4.out⟩, by simp [intOf]; omega⟩
        · have hp' : p < 1 ∨ (¬ p < 1 ∧ 1000 < p) := by omega
          have HN := hide (HNX.out 0 (by simp [Bd.vOk]))
          by_cases hL1 : L = 1
          · subst hL1
            rcases hp' with p1 | ⟨p1, p2⟩
            all_goals
              have hans : nextV R 1 wd h p 0 = .tuple #[.agg #[.int .i64 R, .int .i64 0], .bool false, .nilIface] := by
                simp [nextV, bandV, Bd.nR, Bd.nL, Bd.nO]
              rw [hans] at HN
              unfold bandV at HN
              clear hans HNX
              go_wp2_with fail
              refine HN.out.mono ?_
              rintro e w3 ⟨rfl, hb3⟩
              have HI3 := hide (HIW.out.later hb3)
              have hW3 : w3.heap[wr.heap.size]? = some (.cells #[.int .i64 R, .int .i64 1] 45 (0, 0)) := hrow_later hb3 HWR.out
              have hbn : Below w3.heap.size w3 (w3.alloc (.cells #[.int .i64 R, .int .i64 0] 45)) := (Below.refl _ _).alloc (Nat.le_refl _) _
              have HI4 := hide ((HI3.out.set R 0 0 (by omega) (by first | exact HLA.out | (left; rfl) | (right; rfl))).later ((Below.refl _ _).alloc (Nat.le_refl _) (.cells #[.int .i64 R, .int .i64 0] 45)))
              have c0 : w3.cell? ⟨B + 1, 0, none⟩ = some (.int .i64 R) := hrow_cell HI3.out.band rfl
              have c1 : w3.cell? ⟨B + 1, 1, none⟩ = some (.int .i64 1) := hrow_cell HI3.out.band rfl
              have f0 : w3.frozen? ⟨B + 1, 0, none⟩ = false := by simp [World.frozen?, HI3.out.band]
              have f1 : w3.frozen? ⟨B + 1, 1, none⟩ = false := by simp [World.frozen?, HI3.out.band]
              have d0 : w3.cell? ⟨wr.heap.size, 0, none⟩ = some (.int .i64 R) := hrow_cell hW3 rfl
              have q0 : w3.cell? ⟨B, 0, none⟩ = some (.int .i64 wd) := hrow_cell HI3.out.rule rfl
              have q1 : w3.cell? ⟨B, 1, none⟩ = some (.int .i64 h) := hrow_cell HI3.out.rule rfl
              have hl3 : wr.heap.size < w3.heap.size := (Array.getElem?_eq_some_iff.1 hW3).1
              obtain ⟨N, hN⟩ : ∃ N, wr.heap.size = N := ⟨_, rfl⟩
              rw [hN] at hl3 d0 hBl hBl0 ⊢
              have hl4 : B + 1 < w3.heap.size := by omega
              have hl5 : B < w3.heap.size := by omega
              clear hb3 hbn HN HIW HWR HI3 hW3 b0 b1 u0 u1 hcr hN
              simp only []
              go_wp2
              exact ⟨⟨k + 1, R, 0, 0, by omega, by go_num, by first | rfl | go_num, rfl, HI4.out⟩, by simp [intOf]; omega⟩
          · have hL2 : ¬ L - 1 = 0 := by omega
            rcases hp' with p1 | ⟨p1, p2⟩
            all_goals
              have hans : nextV R L wd h p 0 = .tuple #[.agg #[.int .i64 R, .int .i64 (L - 1)], .bool false, .nilIface] := by
                simp [nextV, bandV, Bd.nR, Bd.nL, Bd.nO, hL, hL1]
              rw [hans] at HN
              unfold bandV at HN
              clear hans HNX
              go_wp2_with fail
              refine HN.out.mono ?_
              rintro e w3 ⟨rfl, hb3⟩
              have HI3 := hide (HIW.out.later hb3)
              have hW3 : w3.heap[wr.heap.size]? = some (.cells #[.int .i64 R, .int .i64 L] 45 (0, 0)) := hrow_later hb3 HWR.out
              have hbn : Below w3.heap.size w3 (w3.alloc (.cells #[.int .i64 R, .int .i64 (L - 1)] 45)) := (Below.refl _ _).alloc (Nat.le_refl _) _
              have HI4 := hide ((HI3.out.set R (L - 1) 0 (by omega) (by first | exact HLA.out | (left; rfl) | (right; rfl))).later ((Below.refl _ _).alloc (Nat.le_refl _) (.cells #[.int .i64 R, .int .i64 (L - 1)] 45)))
              have c0 : w3.cell? ⟨B + 1, 0, none⟩ = some (.int .i64 R) := hrow_cell HI3.out.band rfl
              have c1 : w3.cell? ⟨B + 1, 1, none⟩ = some (.int .i64 L) := hrow_cell HI3.out.band rfl
              have f0 : w3.frozen? ⟨B + 1, 0, none⟩ = false := by simp [World.frozen?, HI3.out.band]
              have f1 : w3.frozen? ⟨B + 1, 1, none⟩ = false := by simp [World.frozen?, HI3.out.band]
              have d0 : w3.cell? ⟨wr.heap.size, 0, none⟩ = some (.int .i64 R) := hrow_cell hW3 rfl
              have q0 : w3.cell? ⟨B, 0, none⟩ = some (.int .i64 wd) := hrow_cell HI3.out.rule rfl
              have q1 : w3.cell? ⟨B, 1, none⟩ = some (.int .i64 h) := hrow_cell HI3.out.rule rfl
              have hl3 : wr.heap.size < w3.heap.size := (Array.getElem?_eq_some_iff.1 hW3).1
              obtain ⟨N, hN⟩ : ∃ N, wr.heap.size = N := ⟨_, rfl⟩
              rw [hN] at hl3 d0 hBl hBl0 ⊢
              have hl4 : B + 1 < w3.heap.size := by omega
              have hl5 : B < w3.heap.size := by omega
              clear hb3 hbn HN HIW HWR HI3 hW3 b0 b1 u0 u1 hcr hN
              simp only []
              go_wp2
              exact ⟨⟨k + 1, R, (L - 1), 0, by omega, by go_num, by first | rfl | go_num, rfl, HI4.out⟩, by simp [intOf]; omega⟩
      · obtain rfl : L = 0 := by omega
        by_cases hp : 1 ≤ p ∧ p ≤ 1000
        · obtain ⟨p1, p2⟩ := hp
          have p3 : ¬ p < 1 := by omega
          have p4 : ¬ 1000 < p := by omega
          have HN := hide (HNX.out 1 (by simp [Bd.vOk, Wi.withinB, p1, p2]))
          have HIN := hide (fun W => ruleIn_any wd h R p W R1 R2 wd1 wd2 p1 p2)
          unfold bandV at HIN
          cases hin : Bd.inB wd R p with
          | false =>
            have hlp : ¬ last = p := by
              intro e
              subst e
              rcases HLA.out with e | e
              · omega
              · rw [e, inB_self wd R wd1 R1] at hin; cases hin
            have hlpb : (last == p) = false := by simpa using hlp
            rw [hin] at HIN
            have hans : nextV R 0 wd h p 1 = .tuple #[.agg #[.int .i64 R, .int .i64 h], .bool false, .nilIface] := by
              simp [nextV, bandV, Bd.nR, Bd.nL, Bd.nO, hin]
            rw [hans] at HN
            unfold bandV at HN
            clear hans HNX hin
            go_wp2_with fail
            refine HN.out.mono ?_
            rintro e w3 ⟨rfl, hb3⟩
            have HI3 := hide (HIW.out.later hb3)
            have hW3 : w3.heap[wr.heap.size]? = some (.cells #[.int .i64 R, .int .i64 0] 45 (0, 0)) := hrow_later hb3 HWR.out
            have hbn : Below w3.heap.size w3 (w3.alloc (.cells #[.int .i64 R, .int .i64 h] 45)) := (Below.refl _ _).alloc (Nat.le_refl _) _
            have HI4 := hide ((HI3.out.set R h last (by omega) (by first | exact HLA.out | (left; rfl) | (right; rfl))).later ((Below.refl _ _).alloc (Nat.le_refl _) (.cells #[.int .i64 R, .int .i64 h] 45)))
            have c0 : w3.cell? ⟨B + 1, 0, none⟩ = some (.int .i64 R) := hrow_cell HI3.out.band rfl
            have c1 : w3.cell? ⟨B + 1, 1, none⟩ = some (.int .i64 0) := hrow_cell HI3.out.band rfl
            have f0 : w3.frozen? ⟨B + 1, 0, none⟩ = false := by simp [World.frozen?, HI3.out.band]
            have f1 : w3.frozen? ⟨B + 1, 1, none⟩ = false := by simp [World.frozen?, HI3.out.band]
            have d0 : w3.cell? ⟨wr.heap.size, 0, none⟩ = some (.int .i64 R) := hrow_cell hW3 rfl
            have q0 : w3.cell? ⟨B, 0, none⟩ = some (.int .i64 wd) := hrow_cell HI3.out.rule rfl
            have q1 : w3.cell? ⟨B, 1, none⟩ = some (.int .i64 h) := hrow_cell HI3.out.rule rfl
            have hl3 : wr.heap.size < w3.heap.size := (Array.getElem?_eq_some_iff.1 hW3).1
            obtain ⟨N, hN⟩ : ∃ N, wr.heap.size = N := ⟨_, rfl⟩
            rw [hN] at hl3 d0 hBl hBl0 ⊢
            have hl4 : B + 1 < w3.heap.size := by omega
            have hl5 : B < w3.heap.size := by omega
            clear hb3 hbn HN HIW HWR HI3 hW3 b0 b1 u0 u1 hcr hN
            simp only []
            go_wp2_with fail
            refine (HIN.out _).mono ?_
            rintro e w5 ⟨rfl, hb5⟩
            have HI5 := hide (HI4.out.later hb5)
            clear hb5 HI4 HIN c0 c1 f0 f1 d0 q0 q1
            have c0 : w5.cell? ⟨B + 1, 0, none⟩ = some (.int .i64 R) := hrow_cell HI5.out.band rfl
            have c1 : w5.cell? ⟨B + 1, 1, none⟩ = some (.int .i64 h) := hrow_cell HI5.out.band rfl
            simp only []
            go_wp2
            exact ⟨⟨k + 1, R, h, last, by omega, by go_num, rfl, rfl, HI5.out⟩, by simp [intOf]; omega⟩
          | true =>
            rw [hin] at HIN
            have hans : nextV R 0 wd h p 1 = .tuple #[.agg #[.int .i64 p, .int .i64 0], .bool true, .nilIface] := by
              simp [nextV, bandV, Bd.nR, Bd.nL, Bd.nO, hin]
            rw [hans] at HN
            unfold bandV at HN
            clear hans HNX hin
            go_wp2_with fail
            refine HN.out.mono ?_
            rintro e w3 ⟨rfl, hb3⟩
            have HI3 := hide (HIW.out.later hb3)
            have hW3 : w3.heap[wr.heap.size]? = some (.cells #[.int .i64 R, .int .i64 0] 45 (0, 0)) := hrow_later hb3 HWR.out
            have hbn : Below w3.heap.size w3 (w3.alloc (.cells #[.int .i64 p, .int .i64 0] 45)) := (Below.refl _ _).alloc (Nat.le_refl _) _
            have HI4 := hide ((HI3.out.set p 0 0 (by omega) (by first | exact HLA.out | (left; rfl) | (right; rfl))).later ((Below.refl _ _).alloc (Nat.le_refl _) (.cells #[.int .i64 p, .int .i64 0] 45)))
            have c0 : w3.cell? ⟨B + 1, 0, none⟩ = some (.int .i64 R) := hrow_cell HI3.out.band rfl
            have c1 : w3.cell? ⟨B + 1, 1, none⟩ = some (.int .i64 0) := hrow_cell HI3.out.band rfl
            have f0 : w3.frozen? ⟨B + 1, 0, none⟩ = false := by simp [World.frozen?, HI3.out.band]
            have f1 : w3.frozen? ⟨B + 1, 1, none⟩ = false := by simp [World.frozen?, HI3.out.band]
            have d0 : w3.cell? ⟨wr.heap.size, 0, none⟩ = some (.int .i64 R) := hrow_cell hW3 rfl
            have q0 : w3.cell? ⟨B, 0, none⟩ = some (.int .i64 wd) := hrow_cell HI3.out.rule rfl
            have q1 : w3.cell? ⟨B, 1, none⟩ = some (.int .i64 h) := hrow_cell HI3.out.rule rfl
            have hl3 : wr.heap.size < w3.heap.size := (Array.getElem?_eq_some_iff.1 hW3).1
            obtain ⟨N, hN⟩ : ∃ N, wr.heap.size = N := ⟨_, rfl⟩
            rw [hN] at hl3 d0 hBl hBl0 ⊢
            have hl4 : B + 1 < w3.heap.size := by omega
            have hl5 : B < w3.heap.size := by omega
            clear hb3 hbn HN HIW HWR HI3 hW3 b0 b1 u0 u1 hcr hN
            simp only []
            go_wp2_with fail
            refine (HIN.out _).mono ?_
            rintro e w5 ⟨rfl, hb5⟩
            have HI5 := hide (HI4.out.later hb5)
            clear hb5 HI4 HIN c0 c1 f0 f1 d0 q0 q1
            have c0 : w5.cell? ⟨B + 1, 0, none⟩ = some (.int .i64 p) := hrow_cell HI5.out.band rfl
            have c1 : w5.cell? ⟨B + 1, 1, none⟩ = some (.int .i64 0) := hrow_cell HI5.out.band rfl
            simp only []
            go_wp2
            exact ⟨⟨k + 1, p, 0, 0, by omega, by go_num, rfl, rfl, HI5.out⟩, by simp [intOf]; omega⟩
        · have hp' : p < 1 ∨ (¬ p < 1 ∧ 1000 < p) := by omega
          have HN := hide (HNX.out 0 (by simp [Bd.vOk]))
          rcases hp' with p1 | ⟨p1, p2⟩
          all_goals
            have hans : nextV R 0 wd h p 0 = .tuple #[.agg #[.int .i64 R, .int .i64 0], .bool true, .nilIface] := by
              simp [nextV, bandV, Bd.nR, Bd.nL, Bd.nO]
            rw [hans] at HN
            unfold bandV at HN
            clear hans HNX
            go_wp2_with fail
            refine HN.out.mono ?_
            rintro e w3 ⟨rfl, hb3⟩
            have HI3 := hide (HIW.out.later hb3)
            have hW3 : w3.heap[wr.heap.size]? = some (.cells #[.int .i64 R, .int .i64 0] 45 (0, 0)) := hrow_later hb3 HWR.out
            have hbn : Below w3.heap.size w3 (w3.alloc (.cells #[.int .i64 R, .int .i64 0] 45)) := (Below.refl _ _).alloc (Nat.le_refl _) _
            have HI4 := hide ((HI3.out.set R 0 0 (by omega) (by first | exact HLA.out | (left; rfl) | (right; rfl))).later ((Below.refl _ _).alloc (Nat.le_refl _) (.cells #[.int .i64 R, .int .i64 0] 45)))
            have c0 : w3.cell? ⟨B + 1, 0, none⟩ = some (.int .i64 R) := hrow_cell HI3.out.band rfl
            have c1 : w3.cell? ⟨B + 1, 1, none⟩ = some (.int .i64 0) := hrow_cell HI3.out.band rfl
            have f0 : w3.frozen? ⟨B + 1, 0, none⟩ = false := by simp [World.frozen?, HI3.out.band]
            have f1 : w3.frozen? ⟨B + 1, 1, none⟩ = false := by simp [World.frozen?, HI3.out.band]
            have d0 : w3.cell? ⟨wr.heap.size, 0, none⟩ = some (.int .i64 R) := hrow_cell hW3 rfl
            have q0 : w3.cell? ⟨B, 0, none⟩ = some (.int .i64 wd) := hrow_cell HI3.out.rule rfl
            have q1 : w3.cell? ⟨B, 1, none⟩ = some (.int .i64 h) := hrow_cell HI3.out.rule rfl
            have hl3 : wr.heap.size < w3.heap.size := (Array.getElem?_eq_some_iff.1 hW3).1
            obtain ⟨N, hN⟩ : ∃ N, wr.heap.size = N := ⟨_, rfl⟩
            rw [hN] at hl3 d0 hBl hBl0 ⊢
            have hl4 : B + 1 < w3.heap.size := by omega
            have hl5 : B < w3.heap.size := by omega
            clear hb3 hbn HN HIW HWR HI3 hW3 b0 b1 u0 u1 hcr hN
            simp only []
            go_wp2
            exact ⟨⟨k + 1, R, 0, 0, by omega, by go_num, by first | rfl | go_num, rfl, HI4.out⟩, by simp [intOf]; omega⟩
    · have hki : ¬ (k : Int) < n := by omega
      go_wp2_with fail
      go_ret
      exact ⟨rfl, HIR.out.bl⟩
theorem bandHalts_any (r wd h : Int) (a : Option Addr) (n cap : Nat) (zs : List Int) (T : TypeId) (v1 : Value) (w : World) (he : BEr w T v1)
    (hcells : ∀ i, i < n → ∃ g, a = some g ∧ w.cell? (g.add i) = some (.int .i64 (zs.getD i 0))) :
    Calls Tryd.prog 7 #[.int .i64 r, .int .i64 wd, .int .i64 h, .slice a n cap] w fun e w' => e = .returned (.bool true) ∧ Below w.heap.size w w' := by
  by_cases ho : 60 < n ∨ r < 1 ∨ 1000 < r
  · exact bh_out r wd h a n cap T v1 w he ho
  · cases hr : Bd.rOk wd h
    · exact bh_rule r wd h a n cap T v1 w he (by omega) (by omega) (by omega) hr
    · exact bh_main r wd h a n cap zs T v1 w he (by omega) (by omega) (by omega) hr hcells
end Go.Proofs.YtomiebjfpfddhaaDoor
