/- SessionRises: what is taken between a login and a logout has numbers that rise by one. -/
import Derived.Test.YtccjlddikinkiaaDoorSeArg
import Derived.Test.YtccjlddikinkiaaDoorJoin
namespace Go.Proofs.YtccjlddikinkiaaDoor
open Go.RowKit
set_option maxRecDepth 100000
section
variable {T : Nat → Value}
theorem Se.parts (on : Bool) (nx la now : Int) (a : Ask) :
    (∃ d, Se.tc on nx a = d + 1 ∧ Se.tO on nx a = on ∧ Se.tN on nx a = nx ∧ Se.tL on nx la a now = la) ∨
    (Se.tc on nx a = 0 ∧ a.k = 108 ∧ on = false ∧ a.sq = 1 ∧ Se.tO on nx a = true ∧ Se.tN on nx a = 2 ∧ Se.tL on nx la a now = now) ∨
    (Se.tc on nx a = 0 ∧ a.k = 113 ∧ on = true ∧ a.sq = nx ∧ Se.tO on nx a = false ∧ Se.tN on nx a = 0 ∧ Se.tL on nx la a now = 0) ∨
    (Se.tc on nx a = 0 ∧ a.k ≠ 108 ∧ a.k ≠ 113 ∧ on = true ∧ a.sq = nx ∧ Se.tO on nx a = true ∧ Se.tN on nx a = nx + 1 ∧ Se.tL on nx la a now = now) := by
  by_cases h0 : Se.tc on nx a = 0
  · have h1 := h0
    unfold Se.tc at h1
    rw [if_pos (Se.tc_ac h0)] at h1
    by_cases hk : (a.k == 108) = on
    · rw [if_pos hk] at h1; cases h1
    · rw [if_neg hk] at h1
      by_cases hs : a.sq = Se.aw on nx
      · unfold Se.tO Se.tN Se.tL
        simp only [if_pos h0]
        unfold Se.aw at hs
        cases on with
        | false =>
          have hk1 : a.k = 108 := by simpa using hk
          have hs1 : a.sq = 1 := by simpa using hs
          exact .inr (.inl ⟨h0, hk1, rfl, hs1, by simp [hk1], by simp [hk1, hs1], by simp [hk1]⟩)
        | true =>
          have hk1 : a.k ≠ 108 := by simpa using hk
          have hs1 : a.sq = nx := by simpa using hs
          by_cases hq : a.k = 113
          · exact .inr (.inr (.inl ⟨h0, hq, rfl, hs1, by simp [hq], by simp [hq], by simp [hq]⟩))
          · exact .inr (.inr (.inr ⟨h0, hk1, hq, rfl, hs1, by simp [hq], by simp [hq, hs1], by simp [hq]⟩))
      · rw [if_neg hs] at h1; cases h1
  · obtain ⟨d, hd⟩ : ∃ d, Se.tc on nx a = d + 1 := ⟨Se.tc on nx a - 1, by omega⟩
    refine .inl ⟨d, hd, ?_, ?_, ?_⟩
    · unfold Se.tO; rw [if_neg h0]
    · unfold Se.tN; rw [if_neg h0]
    · unfold Se.tL; rw [if_neg h0]
theorem blw {w6 : World} (nq : Nat) : Below w6.heap.size w6 (w6.drewN nq) := ⟨rfl, rfl, rfl, Nat.le_refl _, fun _ _ => rfl⟩
set_option maxHeartbeats 4000000 in
theorem sessionRises_any (a : Option Addr) (n cap : Nat) (l : List Ask) (w : World) (he : Hid (SEr w T)) (ha : Hid (ArgAsks w a n l)) :
    Calls Tryd.prog 4 #[.slice a n cap] w fun e w' => e = .returned (.bool true) ∧ Below w.heap.size w w' := by
  have HLG := hide (logged_any w he)
  by_cases hn : n ≤ 100
  · have hn' : ¬ (100 : Int) < n := by omega
    go_enter Tryd.func4, Tryd.ntmps4
    go_wp2_with fail
    refine HLG.out.mono ?_
    rintro e w1 ⟨rfl, hb1⟩
    have HB1 := hide hb1
    clear hb1 HLG
    simp only []
    go_wp2_with fail
    obtain ⟨B, hB⟩ : ∃ B, w1.heap.size = B := ⟨_, rfl⟩
    obtain ⟨w2, hw2⟩ : ∃ w2, w1.alloc (.cells #[.bool false, .int .i64 0, .int .i64 0] 26) = w2 := ⟨_, rfl⟩
    have HR2 : Hid (w2.heap[B]? = some (.cells #[.bool false, .int .i64 0, .int .i64 0] 26 (0, 0))) := by show _ = _; rw [← hw2, ← hB]; exact heap_alloc_new _ _
    have HB2 : Hid (Below w.heap.size w w2) := by rw [← hw2]; exact HB1.out.alloc HB1.out.size _
    have HBl : Hid (w.heap.size ≤ B) := by rw [← hB]; exact HB1.out.size
    rw [hw2, hB]
    clear hw2 hB HB1
    go_loopw [5, 6] (fun m c wr => ∃ (k q : Nat) (on : Bool) (nx la : Int), k ≤ n ∧ c = .int .i64 k ∧ m = .int .i64 q ∧ q ≤ k ∧ (on = true → nx = (q : Int) + 1) ∧ (on = false → nx = 0 ∧ la = 0) ∧ wr.heap[B]? = some (.cells #[.bool on, .int .i64 nx, .int .i64 la] 26 (0, 0)) ∧ Below w.heap.size w wr) (fun _ c _ => n - (intOf c).toNat)
    case atStart => exact ⟨0, 0, false, 0, 0, Nat.zero_le _, rfl, rfl, Nat.le_refl _, fun h => (by cases h), fun _ => ⟨rfl, rfl⟩, HR2.out, HB2.out⟩
    case round =>
      obtain ⟨k, q, on, nx, la, hk, rfl, rfl, hq, hi1, hi2, hr, hb⟩ := hrel
      have HRr := hide hr; have HBr := hide hb; have HI1 := hide hi1; have HI2 := hide hi2
      clear hr hb HR2 HB2 hi1 hi2
      by_cases hlt : k < n
      · have hki : (k : Int) < n := by omega
        obtain ⟨g, rfl, hlg⟩ : ∃ g, a = some g ∧ AsksAt w g l := by
          rcases ha.out.2 with h | h
          · omega
          · exact h
        obtain ⟨k0, k1, k2, k3, k4, k5, k6, k7⟩ := (hlg.later HBr.out) k (by rw [ha.out.1]; exact hlt)
        clear hlg
        generalize anth l k = A at *
        obtain ⟨ak, ac, asq, ait, asd, apr, aq, aid⟩ := A
        simp only [] at k0 k1 k2 k3 k4 k5 k6 k7
        have HTK := hide (fun W (h : Below wr.heap.size wr W) => take_any (T := T) on nx la (k : Int) ⟨ak, ac, asq, ait, asd, apr, aq, aid⟩ W (hide ((he.out.later HBr.out).later h)))
        rcases Se.parts on nx la (k : Int) ⟨ak, ac, asq, ait, asd, apr, aq, aid⟩ with ⟨d, h1, h2, h3, h4⟩ | ⟨h1, hk1, ho, hs1, h2, h3, h4⟩ | ⟨h1, hk1, ho, hs1, h2, h3, h4⟩ | ⟨h1, hk1, hk2, ho, hs1, h2, h3, h4⟩
        · rw [h1, h2, h3, h4] at HTK
          unfold sV askV askA at HTK
          simp only [] at HTK
          rw [show errC T (d + 1) = .iface 85 (T d) from rfl] at HTK
          clear h1 h2 h3 h4
          go_wp2_with fail
          obtain ⟨XT, val, hcl, hmk⟩ := class_all (fun W' => W'.heap[B]? = some (.cells #[.bool on, .int .i64 nx, .int .i64 la] 26 (0, 0)) ∧ W'.cell? (g.add (k * 8)) = some (.int .u8 ak) ∧ W'.cell? ⟨(g.add (k * 8)).block, (g.add (k * 8)).off + 1, none⟩ = some (.int .i64 ac) ∧ W'.cell? ⟨(g.add (k * 8)).block, (g.add (k * 8)).off + 2, none⟩ = some (.int .i64 asq) ∧ W'.cell? ⟨(g.add (k * 8)).block, (g.add (k * 8)).off + 3, none⟩ = some (.int .i64 ait) ∧ W'.cell? ⟨(g.add (k * 8)).block, (g.add (k * 8)).off + 4, none⟩ = some (.int .i64 asd) ∧ W'.cell? ⟨(g.add (k * 8)).block, (g.add (k * 8)).off + 5, none⟩ = some (.int .i64 apr) ∧ W'.cell? ⟨(g.add (k * 8)).block, (g.add (k * 8)).off + 6, none⟩ = some (.int .i64 aq) ∧ W'.cell? ⟨(g.add (k * 8)).block, (g.add (k * 8)).off + 7, none⟩ = some (.int .i64 aid))
          obtain ⟨x0, hx0⟩ := hmk wr.drew ⟨HRr.out, k0, k1, k2, k3, k4, k5, k6, k7⟩
          have hnx : Nonempty XT := ⟨x0⟩
          have s0 : ∀ x, (val x).cell? ⟨B, 0, none⟩ = some (.bool on) := fun x => by rw [cell_of_row _ _ 0 _ _ _ (hcl x).1]; rfl
          have s1 : ∀ x, (val x).cell? ⟨B, 1, none⟩ = some (.int .i64 nx) := fun x => by rw [cell_of_row _ _ 1 _ _ _ (hcl x).1]; rfl
          have s2 : ∀ x, (val x).cell? ⟨B, 2, none⟩ = some (.int .i64 la) := fun x => by rw [cell_of_row _ _ 2 _ _ _ (hcl x).1]; rfl
          have e0 : ∀ x, (val x).cell? (g.add (k * 8)) = some (.int .u8 ak) := fun x => (hcl x).2.1
          have e1 : ∀ x, (val x).cell? ⟨(g.add (k * 8)).block, (g.add (k * 8)).off + 1, none⟩ = some (.int .i64 ac) := fun x => (hcl x).2.2.1
          have e2 : ∀ x, (val x).cell? ⟨(g.add (k * 8)).block, (g.add (k * 8)).off + 2, none⟩ = some (.int .i64 asq) := fun x => (hcl x).2.2.2.1
          have e3 : ∀ x, (val x).cell? ⟨(g.add (k * 8)).block, (g.add (k * 8)).off + 3, none⟩ = some (.int .i64 ait) := fun x => (hcl x).2.2.2.2.1
          have e4 : ∀ x, (val x).cell? ⟨(g.add (k * 8)).block, (g.add (k * 8)).off + 4, none⟩ = some (.int .i64 asd) := fun x => (hcl x).2.2.2.2.2.1
          have e5 : ∀ x, (val x).cell? ⟨(g.add (k * 8)).block, (g.add (k * 8)).off + 5, none⟩ = some (.int .i64 apr) := fun x => (hcl x).2.2.2.2.2.2.1
          have e6 : ∀ x, (val x).cell? ⟨(g.add (k * 8)).block, (g.add (k * 8)).off + 6, none⟩ = some (.int .i64 aq) := fun x => (hcl x).2.2.2.2.2.2.2.1
          have e7 : ∀ x, (val x).cell? ⟨(g.add (k * 8)).block, (g.add (k * 8)).off + 7, none⟩ = some (.int .i64 aid) := fun x => (hcl x).2.2.2.2.2.2.2.2
          have HMK : Hid (∀ W', Below wr.heap.size wr W' → ∃ x, val x = W') := fun W' hb => hmk W' ⟨row_later hb HRr.out, cell_later hb k0, cell_later hb k1, cell_later hb k2, cell_later hb k3, cell_later hb k4, cell_later hb k5, cell_later hb k6, cell_later hb k7⟩
          obtain ⟨w4, hw4⟩ : ∃ w4, wr.drew = w4 := ⟨_, rfl⟩
          have HBD : Hid (Below wr.heap.size wr w4) := by rw [← hw4]; exact ⟨rfl, rfl, rfl, Nat.le_refl _, fun _ _ => rfl⟩
          clear hmk hcl
          refine region_join1 (val := val) (fun D w6 => w6.heap[D]? = some (.cells #[.bool on, .int .i64 nx, .int .i64 la] 26 (0, 0)) ∧ Below wr.heap.size wr w6) (.read 0 (.read 1 (.read 2 (.read 3 (.read 4 (.read 5 (.two 6 (.read 7 (.read 8 (.read 9 (.one 10 (.one 11 (.read 12 .done)))))) 10 (.one 6 (.read 7 (.read 8 (.read 9 (.one 11 (.read 12 .done))))))))))))) (by kernel_rfl) (by kernel_rfl) x0 hx0 ?_
          apply Exists.intro
          refine ⟨?_, ?_⟩
          case' refine_1 =>
            rw [hx0, hw4]
            refine walkP_read rfl (fun K hK => ?_)
            refine ⟨by rfl, ?_⟩
            unfold isRd
            go_simp
            refine hK _ ?_
            clear hK K
            refine walkP_read rfl (fun K hK => ?_)
            refine ⟨by rfl, ?_⟩
            unfold isRd
            go_simp
            refine hK _ ?_
            clear hK K
            refine walkP_read rfl (fun K hK => ?_)
            refine ⟨by rfl, ?_⟩
            unfold isRd
            go_simp
            refine hK _ ?_
            clear hK K
            refine walkP_read rfl (fun K hK => ?_)
            refine ⟨by rfl, ?_⟩
            unfold isRd
            go_simp
            refine hK _ ?_
            clear hK K
            refine walkP_read rfl (fun K hK => ?_)
            refine ⟨by rfl, ?_⟩
            unfold isRd
            go_simp
            refine hK _ ?_
            clear hK K
            refine walkP_read rfl (fun K hK => ?_)
            refine ⟨by rfl, ?_⟩
            unfold isRd
            go_simp
            refine hK _ ?_
            clear hK K
            refine ⟨?_, ?_⟩
            case refine_1 =>
              refine spec_step rfl (fun K hK => ?_)
              refine ⟨by rfl, ?_⟩
              unfold upM
              go_simp
              refine (HTK.out _ HBD.out).mono ?_
              rintro e wc ⟨rfl, hbc⟩
              have HBc : Hid (Below wr.heap.size wr wc) := HBD.out.trans (hbc.mono HBD.out.size)
              refine ⟨_, rfl, HMK.out _ HBc.out, hK _ _ ?_⟩
              clear hK K hbc
              refine walkP_read rfl (fun K hK => ?_)
              refine ⟨by rfl, ?_⟩
              unfold isRd
              go_simp
              refine hK _ ?_
              clear hK K
              refine walkP_read rfl (fun K hK => ?_)
              refine ⟨by rfl, ?_⟩
              unfold isRd
              go_simp
              refine hK _ ?_
              clear hK K
              refine walkP_read rfl (fun K hK => ?_)
              refine ⟨by rfl, ?_⟩
              unfold isRd
              go_simp
              refine hK _ ?_
              clear hK K
              refine spec_step rfl (fun K hK => ?_)
              refine ⟨by rfl, ?_⟩
              unfold upM
              go_simp
              have HZ := hide (heap_alloc_new wc (.cells #[.bool false, .int .i64 0, .int .i64 0] 26))
              have HBz : Hid (Below wr.heap.size wr (wc.alloc (.cells #[.bool false, .int .i64 0, .int .i64 0] 26))) := HBc.out.alloc HBc.out.size _
              have HLz : Hid (wr.heap.size ≤ wc.heap.size) := HBc.out.size
              refine ⟨HMK.out _ HBz.out, hK _ _ ?_⟩
              clear hK K
              generalize wc.alloc (.cells #[.bool false, .int .i64 0, .int .i64 0] 26) = wz at *
              generalize wc.heap.size = Dz at *
              have c0 : wz.cell? ⟨Dz, 0, none⟩ = some (.bool false) := by rw [cell_of_row _ _ 0 _ _ _ HZ.out]; rfl
              have c1 : wz.cell? ⟨Dz, 1, none⟩ = some (.int .i64 0) := by rw [cell_of_row _ _ 1 _ _ _ HZ.out]; rfl
              have c2 : wz.cell? ⟨Dz, 2, none⟩ = some (.int .i64 0) := by rw [cell_of_row _ _ 2 _ _ _ HZ.out]; rfl
              have f0 : wz.frozen? ⟨Dz, 0, none⟩ = false := by simp [World.frozen?, HZ.out]
              have f1 : wz.frozen? ⟨Dz, 1, none⟩ = false := by simp [World.frozen?, HZ.out]
              have f2 : wz.frozen? ⟨Dz, 2, none⟩ = false := by simp [World.frozen?, HZ.out]
              have HX := hide (set3_row HZ.out (.bool on) (.int .i64 nx) (.int .i64 la))
              have HBx := hide (below3 HBz.out HLz.out (.bool on) (.int .i64 nx) (.int .i64 la))
              refine spec_step rfl (fun K hK => ?_)
              refine ⟨by rfl, ?_⟩
              unfold upM
              go_simp
              refine ⟨HMK.out _ HBx.out, hK _ _ ?_⟩
              clear hK K c0 c1 c2 f0 f1 f2
              generalize ((wz.setCell ⟨Dz, 0, none⟩ (.bool on)).setCell ⟨Dz, 1, none⟩ (.int .i64 nx)).setCell ⟨Dz, 2, none⟩ (.int .i64 la) = wx at *
              refine walkP_read rfl (fun K hK => ?_)
              refine ⟨by rfl, ?_⟩
              unfold isRd
              go_simp
              refine hK _ ?_
              clear hK K
              refine walkP_done ?_
              exact ⟨Dz, rfl, HX.out, HBx.out⟩
            case refine_2 =>
              refine spec_step rfl (fun K hK => ?_)
              refine ⟨by rfl, ?_⟩
              unfold upM
              go_simp
              have HZ0 := hide (heap_alloc_new w4 (.cells #[.bool false, .int .i64 0, .int .i64 0] 26))
              have HBy : Hid (Below wr.heap.size wr (w4.alloc (.cells #[.bool false, .int .i64 0, .int .i64 0] 26))) := HBD.out.alloc HBD.out.size _
              have HLz : Hid (wr.heap.size ≤ w4.heap.size) := HBD.out.size
              refine ⟨HMK.out _ HBy.out, hK _ _ ?_⟩
              clear hK K
              generalize w4.alloc (.cells #[.bool false, .int .i64 0, .int .i64 0] 26) = wy at *
              generalize w4.heap.size = Dz at *
              refine spec_step rfl (fun K hK => ?_)
              refine ⟨by rfl, ?_⟩
              unfold upM
              go_simp
              refine (HTK.out _ HBy.out).mono ?_
              rintro e wz ⟨rfl, hbz⟩
              have HZ := hide (row_later hbz HZ0.out)
              have HBz : Hid (Below wr.heap.size wr wz) := HBy.out.trans (hbz.mono HBy.out.size)
              refine ⟨_, rfl, HMK.out _ HBz.out, hK _ _ ?_⟩
              clear hK K hbz HZ0 HBy
              refine walkP_read rfl (fun K hK => ?_)
              refine ⟨by rfl, ?_⟩
              unfold isRd
              go_simp
              refine hK _ ?_
              clear hK K
              refine walkP_read rfl (fun K hK => ?_)
              refine ⟨by rfl, ?_⟩
              unfold isRd
              go_simp
              refine hK _ ?_
              clear hK K
              refine walkP_read rfl (fun K hK => ?_)
              refine ⟨by rfl, ?_⟩
              unfold isRd
              go_simp
              refine hK _ ?_
              clear hK K
              have c0 : wz.cell? ⟨Dz, 0, none⟩ = some (.bool false) := by rw [cell_of_row _ _ 0 _ _ _ HZ.out]; rfl
              have c1 : wz.cell? ⟨Dz, 1, none⟩ = some (.int .i64 0) := by rw [cell_of_row _ _ 1 _ _ _ HZ.out]; rfl
              have c2 : wz.cell? ⟨Dz, 2, none⟩ = some (.int .i64 0) := by rw [cell_of_row _ _ 2 _ _ _ HZ.out]; rfl
              have f0 : wz.frozen? ⟨Dz, 0, none⟩ = false := by simp [World.frozen?, HZ.out]
              have f1 : wz.frozen? ⟨Dz, 1, none⟩ = false := by simp [World.frozen?, HZ.out]
              have f2 : wz.frozen? ⟨Dz, 2, none⟩ = false := by simp [World.frozen?, HZ.out]
              have HX := hide (set3_row HZ.out (.bool on) (.int .i64 nx) (.int .i64 la))
              have HBx := hide (below3 HBz.out HLz.out (.bool on) (.int .i64 nx) (.int .i64 la))
              refine spec_step rfl (fun K hK => ?_)
              refine ⟨by rfl, ?_⟩
              unfold upM
              go_simp
              refine ⟨HMK.out _ HBx.out, hK _ _ ?_⟩
              clear hK K c0 c1 c2 f0 f1 f2
              generalize ((wz.setCell ⟨Dz, 0, none⟩ (.bool on)).setCell ⟨Dz, 1, none⟩ (.int .i64 nx)).setCell ⟨Dz, 2, none⟩ (.int .i64 la) = wx at *
              refine walkP_read rfl (fun K hK => ?_)
              refine ⟨by rfl, ?_⟩
              unfold isRd
              go_simp
              refine hK _ ?_
              clear hK K
              refine walkP_done ?_
              exact ⟨Dz, rfl, HX.out, HBx.out⟩
          intro D w6 ⟨hrD, hb6⟩
          clear hx0 hw4 s0 s1 s2 e0 e1 e2 e3 e4 e5 e6 e7 HMK HBD
          clear x0 hnx
          clear val
          clear XT
          have d0 : w6.cell? ⟨D, 0, none⟩ = some (.bool on) := by rw [cell_of_row _ _ 0 _ _ _ hrD]; rfl
          have d1 : w6.cell? ⟨D, 1, none⟩ = some (.int .i64 nx) := by rw [cell_of_row _ _ 1 _ _ _ hrD]; rfl
          have d2 : w6.cell? ⟨D, 2, none⟩ = some (.int .i64 la) := by rw [cell_of_row _ _ 2 _ _ _ hrD]; rfl
          have HR6 := hide (row_later hb6 HRr.out)
          have HB6 := hide (HBr.out.trans (hb6.mono HBr.out.size))
          have b0 : w6.cell? ⟨B, 0, none⟩ = some (.bool on) := by rw [cell_of_row _ _ 0 _ _ _ HR6.out]; rfl
          have b1 : w6.cell? ⟨B, 1, none⟩ = some (.int .i64 nx) := by rw [cell_of_row _ _ 1 _ _ _ HR6.out]; rfl
          have b2 : w6.cell? ⟨B, 2, none⟩ = some (.int .i64 la) := by rw [cell_of_row _ _ 2 _ _ _ HR6.out]; rfl
          have j0 := cell_later hb6 k0
          have j2 := cell_later hb6 k2
          clear hrD hb6 HTK HRr HBr k0 k1 k2 k3 k4 k5 k6 k7
          go_wp2
          exact ⟨⟨k + 1, q, on, nx, la, by omega, by go_num, rfl, by omega, HI1.out, HI2.out, HR6.out, HB6.out⟩, by simp [intOf]; omega⟩
        · rw [h1, h2, h3, h4] at HTK
          simp only [] at hk1 hs1
          subst hk1 hs1 ho
          unfold sV askV askA at HTK
          simp only [] at HTK
          rw [show errC T 0 = .nilIface from rfl] at HTK
          clear h1 h2 h3 h4
          go_wp2_with fail
          obtain ⟨XT, val, hcl, hmk⟩ := class_all (fun W' => W'.heap[B]? = some (.cells #[.bool false, .int .i64 nx, .int .i64 la] 26 (0, 0)) ∧ W'.cell? (g.add (k * 8)) = some (.int .u8 108) ∧ W'.cell? ⟨(g.add (k * 8)).block, (g.add (k * 8)).off + 1, none⟩ = some (.int .i64 ac) ∧ W'.cell? ⟨(g.add (k * 8)).block, (g.add (k * 8)).off + 2, none⟩ = some (.int .i64 1) ∧ W'.cell? ⟨(g.add (k * 8)).block, (g.add (k * 8)).off + 3, none⟩ = some (.int .i64 ait) ∧ W'.cell? ⟨(g.add (k * 8)).block, (g.add (k * 8)).off + 4, none⟩ = some (.int .i64 asd) ∧ W'.cell? ⟨(g.add (k * 8)).block, (g.add (k * 8)).off + 5, none⟩ = some (.int .i64 apr) ∧ W'.cell? ⟨(g.add (k * 8)).block, (g.add (k * 8)).off + 6, none⟩ = some (.int .i64 aq) ∧ W'.cell? ⟨(g.add (k * 8)).block, (g.add (k * 8)).off + 7, none⟩ = some (.int .i64 aid))
          obtain ⟨x0, hx0⟩ := hmk wr.drew ⟨HRr.out, k0, k1, k2, k3, k4, k5, k6, k7⟩
          have hnx : Nonempty XT := ⟨x0⟩
          have s0 : ∀ x, (val x).cell? ⟨B, 0, none⟩ = some (.bool false) := fun x => by rw [cell_of_row _ _ 0 _ _ _ (hcl x).1]; rfl
          have s1 : ∀ x, (val x).cell? ⟨B, 1, none⟩ = some (.int .i64 nx) := fun x => by rw [cell_of_row _ _ 1 _ _ _ (hcl x).1]; rfl
          have s2 : ∀ x, (val x).cell? ⟨B, 2, none⟩ = some (.int .i64 la) := fun x => by rw [cell_of_row _ _ 2 _ _ _ (hcl x).1]; rfl
          have e0 : ∀ x, (val x).cell? (g.add (k * 8)) = some (.int .u8 108) := fun x => (hcl x).2.1
          have e1 : ∀ x, (val x).cell? ⟨(g.add (k * 8)).block, (g.add (k * 8)).off + 1, none⟩ = some (.int .i64 ac) := fun x => (hcl x).2.2.1
          have e2 : ∀ x, (val x).cell? ⟨(g.add (k * 8)).block, (g.add (k * 8)).off + 2, none⟩ = some (.int .i64 1) := fun x => (hcl x).2.2.2.1
          have e3 : ∀ x, (val x).cell? ⟨(g.add (k * 8)).block, (g.add (k * 8)).off + 3, none⟩ = some (.int .i64 ait) := fun x => (hcl x).2.2.2.2.1
          have e4 : ∀ x, (val x).cell? ⟨(g.add (k * 8)).block, (g.add (k * 8)).off + 4, none⟩ = some (.int .i64 asd) := fun x => (hcl x).2.2.2.2.2.1
          have e5 : ∀ x, (val x).cell? ⟨(g.add (k * 8)).block, (g.add (k * 8)).off + 5, none⟩ = some (.int .i64 apr) := fun x => (hcl x).2.2.2.2.2.2.1
          have e6 : ∀ x, (val x).cell? ⟨(g.add (k * 8)).block, (g.add (k * 8)).off + 6, none⟩ = some (.int .i64 aq) := fun x => (hcl x).2.2.2.2.2.2.2.1
          have e7 : ∀ x, (val x).cell? ⟨(g.add (k * 8)).block, (g.add (k * 8)).off + 7, none⟩ = some (.int .i64 aid) := fun x => (hcl x).2.2.2.2.2.2.2.2
          have HMK : Hid (∀ W', Below wr.heap.size wr W' → ∃ x, val x = W') := fun W' hb => hmk W' ⟨row_later hb HRr.out, cell_later hb k0, cell_later hb k1, cell_later hb k2, cell_later hb k3, cell_later hb k4, cell_later hb k5, cell_later hb k6, cell_later hb k7⟩
          obtain ⟨w4, hw4⟩ : ∃ w4, wr.drew = w4 := ⟨_, rfl⟩
          have HBD : Hid (Below wr.heap.size wr w4) := by rw [← hw4]; exact ⟨rfl, rfl, rfl, Nat.le_refl _, fun _ _ => rfl⟩
          clear hmk hcl
          refine region_join1 (val := val) (fun D w6 => w6.heap[D]? = some (.cells #[.bool true, .int .i64 2, .int .i64 k] 26 (0, 0)) ∧ Below wr.heap.size wr w6) (.read 0 (.read 1 (.read 2 (.read 3 (.read 4 (.read 5 (.two 6 (.read 7 (.read 8 (.read 9 (.one 10 (.one 11 (.read 12 .done)))))) 10 (.one 6 (.read 7 (.read 8 (.read 9 (.one 11 (.read 12 .done))))))))))))) (by kernel_rfl) (by kernel_rfl) x0 hx0 ?_
          apply Exists.intro
          refine ⟨?_, ?_⟩
          case' refine_1 =>
            rw [hx0, hw4]
            refine walkP_read rfl (fun K hK => ?_)
            refine ⟨by rfl, ?_⟩
            unfold isRd
            go_simp
            refine hK _ ?_
            clear hK K
            refine walkP_read rfl (fun K hK => ?_)
            refine ⟨by rfl, ?_⟩
            unfold isRd
            go_simp
            refine hK _ ?_
            clear hK K
            refine walkP_read rfl (fun K hK => ?_)
            refine ⟨by rfl, ?_⟩
            unfold isRd
            go_simp
            refine hK _ ?_
            clear hK K
            refine walkP_read rfl (fun K hK => ?_)
            refine ⟨by rfl, ?_⟩
            unfold isRd
            go_simp
            refine hK _ ?_
            clear hK K
            refine walkP_read rfl (fun K hK => ?_)
            refine ⟨by rfl, ?_⟩
            unfold isRd
            go_simp
            refine hK _ ?_
            clear hK K
            refine walkP_read rfl (fun K hK => ?_)
            refine ⟨by rfl, ?_⟩
            unfold isRd
            go_simp
            refine hK _ ?_
            clear hK K
            refine ⟨?_, ?_⟩
            case refine_1 =>
              refine spec_step rfl (fun K hK => ?_)
              refine ⟨by rfl, ?_⟩
              unfold upM
              go_simp
              refine (HTK.out _ HBD.out).mono ?_
              rintro e wc ⟨rfl, hbc⟩
              have HBc : Hid (Below wr.heap.size wr wc) := HBD.out.trans (hbc.mono HBD.out.size)
              refine ⟨_, rfl, HMK.out _ HBc.out, hK _ _ ?_⟩
              clear hK K hbc
              refine walkP_read rfl (fun K hK => ?_)
              refine ⟨by rfl, ?_⟩
              unfold isRd
              go_simp
              refine hK _ ?_
              clear hK K
              refine walkP_read rfl (fun K hK => ?_)
              refine ⟨by rfl, ?_⟩
              unfold isRd
              go_simp
              refine hK _ ?_
              clear hK K
              refine walkP_read rfl (fun K hK => ?_)
              refine ⟨by rfl, ?_⟩
              unfold isRd
              go_simp
              refine hK _ ?_
              clear hK K
              refine spec_step rfl (fun K hK => ?_)
              refine ⟨by rfl, ?_⟩
              unfold upM
              go_simp
              have HZ := hide (heap_alloc_new wc (.cells #[.bool false, .int .i64 0, .int .i64 0] 26))
              have HBz : Hid (Below wr.heap.size wr (wc.alloc (.cells #[.bool false, .int .i64 0, .int .i64 0] 26))) := HBc.out.alloc HBc.out.size _
              have HLz : Hid (wr.heap.size ≤ wc.heap.size) := HBc.out.size
              refine ⟨HMK.out _ HBz.out, hK _ _ ?_⟩
              clear hK K
              generalize wc.alloc (.cells #[.bool false, .int .i64 0, .int .i64 0] 26) = wz at *
              generalize wc.heap.size = Dz at *
              have c0 : wz.cell? ⟨Dz, 0, none⟩ = some (.bool false) := by rw [cell_of_row _ _ 0 _ _ _ HZ.out]; rfl
              have c1 : wz.cell? ⟨Dz, 1, none⟩ = some (.int .i64 0) := by rw [cell_of_row _ _ 1 _ _ _ HZ.out]; rfl
              have c2 : wz.cell? ⟨Dz, 2, none⟩ = some (.int .i64 0) := by rw [cell_of_row _ _ 2 _ _ _ HZ.out]; rfl
              have f0 : wz.frozen? ⟨Dz, 0, none⟩ = false := by simp [World.frozen?, HZ.out]
              have f1 : wz.frozen? ⟨Dz, 1, none⟩ = false := by simp [World.frozen?, HZ.out]
              have f2 : wz.frozen? ⟨Dz, 2, none⟩ = false := by simp [World.frozen?, HZ.out]
              have HX := hide (set3_row HZ.out (.bool true) (.int .i64 2) (.int .i64 k))
              have HBx := hide (below3 HBz.out HLz.out (.bool true) (.int .i64 2) (.int .i64 k))
              refine spec_step rfl (fun K hK => ?_)
              refine ⟨by rfl, ?_⟩
              unfold upM
              go_simp
              refine ⟨HMK.out _ HBx.out, hK _ _ ?_⟩
              clear hK K c0 c1 c2 f0 f1 f2
              generalize ((wz.setCell ⟨Dz, 0, none⟩ (.bool true)).setCell ⟨Dz, 1, none⟩ (.int .i64 2)).setCell ⟨Dz, 2, none⟩ (.int .i64 k) = wx at *
              refine walkP_read rfl (fun K hK => ?_)
              refine ⟨by rfl, ?_⟩
              unfold isRd
              go_simp
              refine hK _ ?_
              clear hK K
              refine walkP_done ?_
              exact ⟨Dz, rfl, HX.out, HBx.out⟩
            case refine_2 =>
              refine spec_step rfl (fun K hK => ?_)
              refine ⟨by rfl, ?_⟩
              unfold upM
              go_simp
              have HZ0 := hide (heap_alloc_new w4 (.cells #[.bool false, .int .i64 0, .int .i64 0] 26))
              have HBy : Hid (Below wr.heap.size wr (w4.alloc (.cells #[.bool false, .int .i64 0, .int .i64 0] 26))) := HBD.out.alloc HBD.out.size _
              have HLz : Hid (wr.heap.size ≤ w4.heap.size) := HBD.out.size
              refine ⟨HMK.out _ HBy.out, hK _ _ ?_⟩
              clear hK K
              generalize w4.alloc (.cells #[.bool false, .int .i64 0, .int .i64 0] 26) = wy at *
              generalize w4.heap.size = Dz at *
              refine spec_step rfl (fun K hK => ?_)
              refine ⟨by rfl, ?_⟩
              unfold upM
              go_simp
              refine (HTK.out _ HBy.out).mono ?_
              rintro e wz ⟨rfl, hbz⟩
              have HZ := hide (row_later hbz HZ0.out)
              have HBz : Hid (Below wr.heap.size wr wz) := HBy.out.trans (hbz.mono HBy.out.size)
              refine ⟨_, rfl, HMK.out _ HBz.out, hK _ _ ?_⟩
              clear hK K hbz HZ0 HBy
              refine walkP_read rfl (fun K hK => ?_)
              refine ⟨by rfl, ?_⟩
              unfold isRd
              go_simp
              refine hK _ ?_
              clear hK K
              refine walkP_read rfl (fun K hK => ?_)
              refine ⟨by rfl, ?_⟩
              unfold isRd
              go_simp
              refine hK _ ?_
              clear hK K
              refine walkP_read rfl (fun K hK => ?_)
              refine ⟨by rfl, ?_⟩
              unfold isRd
              go_simp
              refine hK _ ?_
              clear hK K
              have c0 : wz.cell? ⟨Dz, 0, none⟩ = some (.bool false) := by rw [cell_of_row _ _ 0 _ _ _ HZ.out]; rfl
              have c1 : wz.cell? ⟨Dz, 1, none⟩ = some (.int .i64 0) := by rw [cell_of_row _ _ 1 _ _ _ HZ.out]; rfl
              have c2 : wz.cell? ⟨Dz, 2, none⟩ = some (.int .i64 0) := by rw [cell_of_row _ _ 2 _ _ _ HZ.out]; rfl
              have f0 : wz.frozen? ⟨Dz, 0, none⟩ = false := by simp [World.frozen?, HZ.out]
              have f1 : wz.frozen? ⟨Dz, 1, none⟩ = false := by simp [World.frozen?, HZ.out]
              have f2 : wz.frozen? ⟨Dz, 2, none⟩ = false := by simp [World.frozen?, HZ.out]
              have HX := hide (set3_row HZ.out (.bool true) (.int .i64 2) (.int .i64 k))
              have HBx := hide (below3 HBz.out HLz.out (.bool true) (.int .i64 2) (.int .i64 k))
              refine spec_step rfl (fun K hK => ?_)
              refine ⟨by rfl, ?_⟩
              unfold upM
              go_simp
              refine ⟨HMK.out _ HBx.out, hK _ _ ?_⟩
              clear hK K c0 c1 c2 f0 f1 f2
              generalize ((wz.setCell ⟨Dz, 0, none⟩ (.bool true)).setCell ⟨Dz, 1, none⟩ (.int .i64 2)).setCell ⟨Dz, 2, none⟩ (.int .i64 k) = wx at *
              refine walkP_read rfl (fun K hK => ?_)
              refine ⟨by rfl, ?_⟩
              unfold isRd
              go_simp
              refine hK _ ?_
              clear hK K
              refine walkP_done ?_
              exact ⟨Dz, rfl, HX.out, HBx.out⟩
          intro D w6 ⟨hrD, hb6⟩
          clear hx0 hw4 s0 s1 s2 e0 e1 e2 e3 e4 e5 e6 e7 HMK HBD
          clear x0 hnx
          clear val
          clear XT
          have d0 : w6.cell? ⟨D, 0, none⟩ = some (.bool true) := by rw [cell_of_row _ _ 0 _ _ _ hrD]; rfl
          have d1 : w6.cell? ⟨D, 1, none⟩ = some (.int .i64 2) := by rw [cell_of_row _ _ 1 _ _ _ hrD]; rfl
          have d2 : w6.cell? ⟨D, 2, none⟩ = some (.int .i64 k) := by rw [cell_of_row _ _ 2 _ _ _ hrD]; rfl
          have HR6 := hide (row_later hb6 HRr.out)
          have HB6 := hide (HBr.out.trans (hb6.mono HBr.out.size))
          have b0 : w6.cell? ⟨B, 0, none⟩ = some (.bool false) := by rw [cell_of_row _ _ 0 _ _ _ HR6.out]; rfl
          have b1 : w6.cell? ⟨B, 1, none⟩ = some (.int .i64 nx) := by rw [cell_of_row _ _ 1 _ _ _ HR6.out]; rfl
          have b2 : w6.cell? ⟨B, 2, none⟩ = some (.int .i64 la) := by rw [cell_of_row _ _ 2 _ _ _ HR6.out]; rfl
          have j0 := cell_later hb6 k0
          have j2 := cell_later hb6 k2
          clear hrD hb6 HTK HRr HBr k0 k1 k2 k3 k4 k5 k6 k7
          have f0 : w6.frozen? ⟨B, 0, none⟩ = false := by simp [World.frozen?, HR6.out]
          have f1 : w6.frozen? ⟨B, 1, none⟩ = false := by simp [World.frozen?, HR6.out]
          have f2 : w6.frozen? ⟨B, 2, none⟩ = false := by simp [World.frozen?, HR6.out]
          go_wp2_with fail
          go_quiet (fail)
          go_wp2
          refine ⟨⟨k + 1, 1, true, 2, k, by omega, by go_num, by go_num, by omega, (fun _ => rfl), (fun h => (by cases h)), set3_row HR6.out _ _ _, below3 (HB6.out.trans ((blw nq).mono HB6.out.size)) HBl.out _ _ _⟩, by simp [intOf]; omega⟩
        · rw [h1, h2, h3, h4] at HTK
          have hnx := HI1.out ho
          simp only [] at hk1 hs1
          subst ho hnx hk1 hs1
          unfold sV askV askA at HTK
          simp only [] at HTK
          rw [show errC T 0 = .nilIface from rfl] at HTK
          clear h1 h2 h3 h4
          go_wp2_with fail
          obtain ⟨XT, val, hcl, hmk⟩ := class_all (fun W' => W'.heap[B]? = some (.cells #[.bool true, .int .i64 ((q : Int) + 1), .int .i64 la] 26 (0, 0)) ∧ W'.cell? (g.add (k * 8)) = some (.int .u8 113) ∧ W'.cell? ⟨(g.add (k * 8)).block, (g.add (k * 8)).off + 1, none⟩ = some (.int .i64 ac) ∧ W'.cell? ⟨(g.add (k * 8)).block, (g.add (k * 8)).off + 2, none⟩ = some (.int .i64 ((q : Int) + 1)) ∧ W'.cell? ⟨(g.add (k * 8)).block, (g.add (k * 8)).off + 3, none⟩ = some (.int .i64 ait) ∧ W'.cell? ⟨(g.add (k * 8)).block, (g.add (k * 8)).off + 4, none⟩ = some (.int .i64 asd) ∧ W'.cell? ⟨(g.add (k * 8)).block, (g.add (k * 8)).off + 5, none⟩ = some (.int .i64 apr) ∧ W'.cell? ⟨(g.add (k * 8)).block, (g.add (k * 8)).off + 6, none⟩ = some (.int .i64 aq) ∧ W'.cell? ⟨(g.add (k * 8)).block, (g.add (k * 8)).off + 7, none⟩ = some (.int .i64 aid))
          obtain ⟨x0, hx0⟩ := hmk wr.drew ⟨HRr.out, k0, k1, k2, k3, k4, k5, k6, k7⟩
          have hnx : Nonempty XT := ⟨x0⟩
          have s0 : ∀ x, (val x).cell? ⟨B, 0, none⟩ = some (.bool true) := fun x => by rw [cell_of_row _ _ 0 _ _ _ (hcl x).1]; rfl
          have s1 : ∀ x, (val x).cell? ⟨B, 1, none⟩ = some (.int .i64 ((q : Int) + 1)) := fun x => by rw [cell_of_row _ _ 1 _ _ _ (hcl x).1]; rfl
          have s2 : ∀ x, (val x).cell? ⟨B, 2, none⟩ = some (.int .i64 la) := fun x => by rw [cell_of_row _ _ 2 _ _ _ (hcl x).1]; rfl
          have e0 : ∀ x, (val x).cell? (g.add (k * 8)) = some (.int .u8 113) := fun x => (hcl x).2.1
          have e1 : ∀ x, (val x).cell? ⟨(g.add (k * 8)).block, (g.add (k * 8)).off + 1, none⟩ = some (.int .i64 ac) := fun x => (hcl x).2.2.1
          have e2 : ∀ x, (val x).cell? ⟨(g.add (k * 8)).block, (g.add (k * 8)).off + 2, none⟩ = some (.int .i64 ((q : Int) + 1)) := fun x => (hcl x).2.2.2.1
          have e3 : ∀ x, (val x).cell? ⟨(g.add (k * 8)).block, (g.add (k * 8)).off + 3, none⟩ = some (.int .i64 ait) := fun x => (hcl x).2.2.2.2.1
          have e4 : ∀ x, (val x).cell? ⟨(g.add (k * 8)).block, (g.add (k * 8)).off + 4, none⟩ = some (.int .i64 asd) := fun x => (hcl x).2.2.2.2.2.1
          have e5 : ∀ x, (val x).cell? ⟨(g.add (k * 8)).block, (g.add (k * 8)).off + 5, none⟩ = some (.int .i64 apr) := fun x => (hcl x).2.2.2.2.2.2.1
          have e6 : ∀ x, (val x).cell? ⟨(g.add (k * 8)).block, (g.add (k * 8)).off + 6, none⟩ = some (.int .i64 aq) := fun x => (hcl x).2.2.2.2.2.2.2.1
          have e7 : ∀ x, (val x).cell? ⟨(g.add (k * 8)).block, (g.add (k * 8)).off + 7, none⟩ = some (.int .i64 aid) := fun x => (hcl x).2.2.2.2.2.2.2.2
          have HMK : Hid (∀ W', Below wr.heap.size wr W' → ∃ x, val x = W') := fun W' hb => hmk W' ⟨row_later hb HRr.out, cell_later hb k0, cell_later hb k1, cell_later hb k2, cell_later hb k3, cell_later hb k4, cell_later hb k5, cell_later hb k6, cell_later hb k7⟩
          obtain ⟨w4, hw4⟩ : ∃ w4, wr.drew = w4 := ⟨_, rfl⟩
          have HBD : Hid (Below wr.heap.size wr w4) := by rw [← hw4]; exact ⟨rfl, rfl, rfl, Nat.le_refl _, fun _ _ => rfl⟩
          clear hmk hcl
          refine region_join1 (val := val) (fun D w6 => w6.heap[D]? = some (.cells #[.bool false, .int .i64 0, .int .i64 0] 26 (0, 0)) ∧ Below wr.heap.size wr w6) (.read 0 (.read 1 (.read 2 (.read 3 (.read 4 (.read 5 (.two 6 (.read 7 (.read 8 (.read 9 (.one 10 (.one 11 (.read 12 .done)))))) 10 (.one 6 (.read 7 (.read 8 (.read 9 (.one 11 (.read 12 .done))))))))))))) (by kernel_rfl) (by kernel_rfl) x0 hx0 ?_
          apply Exists.intro
          refine ⟨?_, ?_⟩
          case' refine_1 =>
            rw [hx0, hw4]
            refine walkP_read rfl (fun K hK => ?_)
            refine ⟨by rfl, ?_⟩
            unfold isRd
            go_simp
            refine hK _ ?_
            clear hK K
            refine walkP_read rfl (fun K hK => ?_)
            refine ⟨by rfl, ?_⟩
            unfold isRd
            go_simp
            refine hK _ ?_
            clear hK K
            refine walkP_read rfl (fun K hK => ?_)
            refine ⟨by rfl, ?_⟩
            unfold isRd
            go_simp
            refine hK _ ?_
            clear hK K
            refine walkP_read rfl (fun K hK => ?_)
            refine ⟨by rfl, ?_⟩
            unfold isRd
            go_simp
            refine hK _ ?_
            clear hK K
            refine walkP_read rfl (fun K hK => ?_)
            refine ⟨by rfl, ?_⟩
            unfold isRd
            go_simp
            refine hK _ ?_
            clear hK K
            refine walkP_read rfl (fun K hK => ?_)
            refine ⟨by rfl, ?_⟩
            unfold isRd
            go_simp
            refine hK _ ?_
            clear hK K
            refine ⟨?_, ?_⟩
            case refine_1 =>
              refine spec_step rfl (fun K hK => ?_)
              refine ⟨by rfl, ?_⟩
              unfold upM
              go_simp
              refine (HTK.out _ HBD.out).mono ?_
              rintro e wc ⟨rfl, hbc⟩
              have HBc : Hid (Below wr.heap.size wr wc) := HBD.out.trans (hbc.mono HBD.out.size)
              refine ⟨_, rfl, HMK.out _ HBc.out, hK _ _ ?_⟩
              clear hK K hbc
              refine walkP_read rfl (fun K hK => ?_)
              refine ⟨by rfl, ?_⟩
              unfold isRd
              go_simp
              refine hK _ ?_
              clear hK K
              refine walkP_read rfl (fun K hK => ?_)
              refine ⟨by rfl, ?_⟩
              unfold isRd
              go_simp
              refine hK _ ?_
              clear hK K
              refine walkP_read rfl (fun K hK => ?_)
              refine ⟨by rfl, ?_⟩
              unfold isRd
              go_simp
              refine hK _ ?_
              clear hK K
              refine spec_step rfl (fun K hK => ?_)
              refine ⟨by rfl, ?_⟩
              unfold upM
              go_simp
              have HZ := hide (heap_alloc_new wc (.cells #[.bool false, .int .i64 0, .int .i64 0] 26))
              have HBz : Hid (Below wr.heap.size wr (wc.alloc (.cells #[.bool false, .int .i64 0, .int .i64 0] 26))) := HBc.out.alloc HBc.out.size _
              have HLz : Hid (wr.heap.size ≤ wc.heap.size) := HBc.out.size
              refine ⟨HMK.out _ HBz.out, hK _ _ ?_⟩
              clear hK K
              generalize wc.alloc (.cells #[.bool false, .int .i64 0, .int .i64 0] 26) = wz at *
              generalize wc.heap.size = Dz at *
              have c0 : wz.cell? ⟨Dz, 0, none⟩ = some (.bool false) := by rw [cell_of_row _ _ 0 _ _ _ HZ.out]; rfl
              have c1 : wz.cell? ⟨Dz, 1, none⟩ = some (.int .i64 0) := by rw [cell_of_row _ _ 1 _ _ _ HZ.out]; rfl
              have c2 : wz.cell? ⟨Dz, 2, none⟩ = some (.int .i64 0) := by rw [cell_of_row _ _ 2 _ _ _ HZ.out]; rfl
              have f0 : wz.frozen? ⟨Dz, 0, none⟩ = false := by simp [World.frozen?, HZ.out]
              have f1 : wz.frozen? ⟨Dz, 1, none⟩ = false := by simp [World.frozen?, HZ.out]
              have f2 : wz.frozen? ⟨Dz, 2, none⟩ = false := by simp [World.frozen?, HZ.out]
              have HX := hide (set3_row HZ.out (.bool false) (.int .i64 0) (.int .i64 0))
              have HBx := hide (below3 HBz.out HLz.out (.bool false) (.int .i64 0) (.int .i64 0))
              refine spec_step rfl (fun K hK => ?_)
              refine ⟨by rfl, ?_⟩
              unfold upM
              go_simp
              refine ⟨HMK.out _ HBx.out, hK _ _ ?_⟩
              clear hK K c0 c1 c2 f0 f1 f2
              generalize ((wz.setCell ⟨Dz, 0, none⟩ (.bool false)).setCell ⟨Dz, 1, none⟩ (.int .i64 0)).setCell ⟨Dz, 2, none⟩ (.int .i64 0) = wx at *
              refine walkP_read rfl (fun K hK => ?_)
              refine ⟨by rfl, ?_⟩
              unfold isRd
              go_simp
              refine hK _ ?_
              clear hK K
              refine walkP_done ?_
              exact ⟨Dz, rfl, HX.out, HBx.out⟩
            case refine_2 =>
              refine spec_step rfl (fun K hK => ?_)
              refine ⟨by rfl, ?_⟩
              unfold upM
              go_simp
              have HZ0 := hide (heap_alloc_new w4 (.cells #[.bool false, .int .i64 0, .int .i64 0] 26))
              have HBy : Hid (Below wr.heap.size wr (w4.alloc (.cells #[.bool false, .int .i64 0, .int .i64 0] 26))) := HBD.out.alloc HBD.out.size _
              have HLz : Hid (wr.heap.size ≤ w4.heap.size) := HBD.out.size
              refine ⟨HMK.out _ HBy.out, hK _ _ ?_⟩
              clear hK K
              generalize w4.alloc (.cells #[.bool false, .int .i64 0, .int .i64 0] 26) = wy at *
              generalize w4.heap.size = Dz at *
              refine spec_step rfl (fun K hK => ?_)
              refine ⟨by rfl, ?_⟩
              unfold upM
              go_simp
              refine (HTK.out _ HBy.out).mono ?_
              rintro e wz ⟨rfl, hbz⟩
              have HZ := hide (row_later hbz HZ0.out)
              have HBz : Hid (Below wr.heap.size wr wz) := HBy.out.trans (hbz.mono HBy.out.size)
              refine ⟨_, rfl, HMK.out _ HBz.out, hK _ _ ?_⟩
              clear hK K hbz HZ0 HBy
              refine walkP_read rfl (fun K hK => ?_)
              refine ⟨by rfl, ?_⟩
              unfold isRd
              go_simp
              refine hK _ ?_
              clear hK K
              refine walkP_read rfl (fun K hK => ?_)
              refine ⟨by rfl, ?_⟩
              unfold isRd
              go_simp
              refine hK _ ?_
              clear hK K
              refine walkP_read rfl (fun K hK => ?_)
              refine ⟨by rfl, ?_⟩
              unfold isRd
              go_simp
              refine hK _ ?_
              clear hK K
              have c0 : wz.cell? ⟨Dz, 0, none⟩ = some (.bool false) := by rw [cell_of_row _ _ 0 _ _ _ HZ.out]; rfl
              have c1 : wz.cell? ⟨Dz, 1, none⟩ = some (.int .i64 0) := by rw [cell_of_row _ _ 1 _ _ _ HZ.out]; rfl
              have c2 : wz.cell? ⟨Dz, 2, none⟩ = some (.int .i64 0) := by rw [cell_of_row _ _ 2 _ _ _ HZ.out]; rfl
              have f0 : wz.frozen? ⟨Dz, 0, none⟩ = false := by simp [World.frozen?, HZ.out]
              have f1 : wz.frozen? ⟨Dz, 1, none⟩ = false := by simp [World.frozen?, HZ.out]
              have f2 : wz.frozen? ⟨Dz, 2, none⟩ = false := by simp [World.frozen?, HZ.out]
              have HX := hide (set3_row HZ.out (.bool false) (.int .i64 0) (.int .i64 0))
              have HBx := hide (below3 HBz.out HLz.out (.bool false) (.int .i64 0) (.int .i64 0))
              refine spec_step rfl (fun K hK => ?_)
              refine ⟨by rfl, ?_⟩
              unfold upM
              go_simp
              refine ⟨HMK.out _ HBx.out, hK _ _ ?_⟩
              clear hK K c0 c1 c2 f0 f1 f2
              generalize ((wz.setCell ⟨Dz, 0, none⟩ (.bool false)).setCell ⟨Dz, 1, none⟩ (.int .i64 0)).setCell ⟨Dz, 2, none⟩ (.int .i64 0) = wx at *
              refine walkP_read rfl (fun K hK => ?_)
              refine ⟨by rfl, ?_⟩
              unfold isRd
              go_simp
              refine hK _ ?_
              clear hK K
              refine walkP_done ?_
              exact ⟨Dz, rfl, HX.out, HBx.out⟩
          intro D w6 ⟨hrD, hb6⟩
          clear hx0 hw4 s0 s1 s2 e0 e1 e2 e3 e4 e5 e6 e7 HMK HBD
          clear x0 hnx
          clear val
          clear XT
          have d0 : w6.cell? ⟨D, 0, none⟩ = some (.bool false) := by rw [cell_of_row _ _ 0 _ _ _ hrD]; rfl
          have d1 : w6.cell? ⟨D, 1, none⟩ = some (.int .i64 0) := by rw [cell_of_row _ _ 1 _ _ _ hrD]; rfl
          have d2 : w6.cell? ⟨D, 2, none⟩ = some (.int .i64 0) := by rw [cell_of_row _ _ 2 _ _ _ hrD]; rfl
          have HR6 := hide (row_later hb6 HRr.out)
          have HB6 := hide (HBr.out.trans (hb6.mono HBr.out.size))
          have b0 : w6.cell? ⟨B, 0, none⟩ = some (.bool true) := by rw [cell_of_row _ _ 0 _ _ _ HR6.out]; rfl
          have b1 : w6.cell? ⟨B, 1, none⟩ = some (.int .i64 ((q : Int) + 1)) := by rw [cell_of_row _ _ 1 _ _ _ HR6.out]; rfl
          have b2 : w6.cell? ⟨B, 2, none⟩ = some (.int .i64 la) := by rw [cell_of_row _ _ 2 _ _ _ HR6.out]; rfl
          have j0 := cell_later hb6 k0
          have j2 := cell_later hb6 k2
          clear hrD hb6 HTK HRr HBr k0 k1 k2 k3 k4 k5 k6 k7
          have f0 : w6.frozen? ⟨B, 0, none⟩ = false := by simp [World.frozen?, HR6.out]
          have f1 : w6.frozen? ⟨B, 1, none⟩ = false := by simp [World.frozen?, HR6.out]
          have f2 : w6.frozen? ⟨B, 2, none⟩ = false := by simp [World.frozen?, HR6.out]
          have hqw : IntKind.i64.wrap ((q : Int) + 1) = (q : Int) + 1 := IntWalk.i64_in _ (by omega)
          have hne : ((q : Int) + 1 != (q : Int) + 1) = false := by simp
          go_wp2_with fail
          go_quiet (fail)
          go_wp2
          refine ⟨⟨k + 1, (q + 1), false, 0, 0, by omega, by go_num, by go_num, by omega, (fun h => (by cases h)), (fun _ => ⟨rfl, rfl⟩), set3_row HR6.out _ _ _, below3 (HB6.out.trans ((blw nq).mono HB6.out.size)) HBl.out _ _ _⟩, by simp [intOf]; omega⟩
        · rw [h1, h2, h3, h4] at HTK
          have hnx := HI1.out ho
          simp only [] at hk1 hk2 hs1
          subst ho hnx hs1
          unfold sV askV askA at HTK
          simp only [] at HTK
          rw [show errC T 0 = .nilIface from rfl] at HTK
          have hk3 : (ak == 108) = false := by simp [hk1]
          have hk4 : (ak == 113) = false := by simp [hk2]
          clear h1 h2 h3 h4
          go_wp2_with fail
          obtain ⟨XT, val, hcl, hmk⟩ := class_all (fun W' => W'.heap[B]? = some (.cells #[.bool true, .int .i64 ((q : Int) + 1), .int .i64 la] 26 (0, 0)) ∧ W'.cell? (g.add (k * 8)) = some (.int .u8 ak) ∧ W'.cell? ⟨(g.add (k * 8)).block, (g.add (k * 8)).off + 1, none⟩ = some (.int .i64 ac) ∧ W'.cell? ⟨(g.add (k * 8)).block, (g.add (k * 8)).off + 2, none⟩ = some (.int .i64 ((q : Int) + 1)) ∧ W'.cell? ⟨(g.add (k * 8)).block, (g.add (k * 8)).off + 3, none⟩ = some (.int .i64 ait) ∧ W'.cell? ⟨(g.add (k * 8)).block, (g.add (k * 8)).off + 4, none⟩ = some (.int .i64 asd) ∧ W'.cell? ⟨(g.add (k * 8)).block, (g.add (k * 8)).off + 5, none⟩ = some (.int .i64 apr) ∧ W'.cell? ⟨(g.add (k * 8)).block, (g.add (k * 8)).off + 6, none⟩ = some (.int .i64 aq) ∧ W'.cell? ⟨(g.add (k * 8)).block, (g.add (k * 8)).off + 7, none⟩ = some (.int .i64 aid))
          obtain ⟨x0, hx0⟩ := hmk wr.drew ⟨HRr.out, k0, k1, k2, k3, k4, k5, k6, k7⟩
          have hnx : Nonempty XT := ⟨x0⟩
          have s0 : ∀ x, (val x).cell? ⟨B, 0, none⟩ = some (.bool true) := fun x => by rw [cell_of_row _ _ 0 _ _ _ (hcl x).1]; rfl
          have s1 : ∀ x, (val x).cell? ⟨B, 1, none⟩ = some (.int .i64 ((q : Int) + 1)) := fun x => by rw [cell_of_row _ _ 1 _ _ _ (hcl x).1]; rfl
          have s2 : ∀ x, (val x).cell? ⟨B, 2, none⟩ = some (.int .i64 la) := fun x => by rw [cell_of_row _ _ 2 _ _ _ (hcl x).1]; rfl
          have e0 : ∀ x, (val x).cell? (g.add (k * 8)) = some (.int .u8 ak) := fun x => (hcl x).2.1
          have e1 : ∀ x, (val x).cell? ⟨(g.add (k * 8)).block, (g.add (k * 8)).off + 1, none⟩ = some (.int .i64 ac) := fun x => (hcl x).2.2.1
          have e2 : ∀ x, (val x).cell? ⟨(g.add (k * 8)).block, (g.add (k * 8)).off + 2, none⟩ = some (.int .i64 ((q : Int) + 1)) := fun x => (hcl x).2.2.2.1
          have e3 : ∀ x, (val x).cell? ⟨(g.add (k * 8)).block, (g.add (k * 8)).off + 3, none⟩ = some (.int .i64 ait) := fun x => (hcl x).2.2.2.2.1
          have e4 : ∀ x, (val x).cell? ⟨(g.add (k * 8)).block, (g.add (k * 8)).off + 4, none⟩ = some (.int .i64 asd) := fun x => (hcl x).2.2.2.2.2.1
          have e5 : ∀ x, (val x).cell? ⟨(g.add (k * 8)).block, (g.add (k * 8)).off + 5, none⟩ = some (.int .i64 apr) := fun x => (hcl x).2.2.2.2.2.2.1
          have e6 : ∀ x, (val x).cell? ⟨(g.add (k * 8)).block, (g.add (k * 8)).off + 6, none⟩ = some (.int .i64 aq) := fun x => (hcl x).2.2.2.2.2.2.2.1
          have e7 : ∀ x, (val x).cell? ⟨(g.add (k * 8)).block, (g.add (k * 8)).off + 7, none⟩ = some (.int .i64 aid) := fun x => (hcl x).2.2.2.2.2.2.2.2
          have HMK : Hid (∀ W', Below wr.heap.size wr W' → ∃ x, val x = W') := fun W' hb => hmk W' ⟨row_later hb HRr.out, cell_later hb k0, cell_later hb k1, cell_later hb k2, cell_later hb k3, cell_later hb k4, cell_later hb k5, cell_later hb k6, cell_later hb k7⟩
          obtain ⟨w4, hw4⟩ : ∃ w4, wr.drew = w4 := ⟨_, rfl⟩
          have HBD : Hid (Below wr.heap.size wr w4) := by rw [← hw4]; exact ⟨rfl, rfl, rfl, Nat.le_refl _, fun _ _ => rfl⟩
          clear hmk hcl
          refine region_join1 (val := val) (fun D w6 => w6.heap[D]? = some (.cells #[.bool true, .int .i64 ((q : Int) + 1 + 1), .int .i64 k] 26 (0, 0)) ∧ Below wr.heap.size wr w6) (.read 0 (.read 1 (.read 2 (.read 3 (.read 4 (.read 5 (.two 6 (.read 7 (.read 8 (.read 9 (.one 10 (.one 11 (.read 12 .done)))))) 10 (.one 6 (.read 7 (.read 8 (.read 9 (.one 11 (.read 12 .done))))))))))))) (by kernel_rfl) (by kernel_rfl) x0 hx0 ?_
          apply Exists.intro
          refine ⟨?_, ?_⟩
          case' refine_1 =>
            rw [hx0, hw4]
            refine walkP_read rfl (fun K hK => ?_)
            refine ⟨by rfl, ?_⟩
            unfold isRd
            go_simp
            refine hK _ ?_
            clear hK K
            refine walkP_read rfl (fun K hK => ?_)
            refine ⟨by rfl, ?_⟩
            unfold isRd
            go_simp
            refine hK _ ?_
            clear hK K
            refine walkP_read rfl (fun K hK => ?_)
            refine ⟨by rfl, ?_⟩
            unfold isRd
            go_simp
            refine hK _ ?_
            clear hK K
            refine walkP_read rfl (fun K hK => ?_)
            refine ⟨by rfl, ?_⟩
            unfold isRd
            go_simp
            refine hK _ ?_
            clear hK K
            refine walkP_read rfl (fun K hK => ?_)
            refine ⟨by rfl, ?_⟩
            unfold isRd
            go_simp
            refine hK _ ?_
            clear hK K
            refine walkP_read rfl (fun K hK => ?_)
            refine ⟨by rfl, ?_⟩
            unfold isRd
            go_simp
            refine hK _ ?_
            clear hK K
            refine ⟨?_, ?_⟩
            case refine_1 =>
              refine spec_step rfl (fun K hK => ?_)
              refine ⟨by rfl, ?_⟩
              unfold upM
              go_simp
              refine (HTK.out _ HBD.out).mono ?_
              rintro e wc ⟨rfl, hbc⟩
              have HBc : Hid (Below wr.heap.size wr wc) := HBD.out.trans (hbc.mono HBD.out.size)
              refine ⟨_, rfl, HMK.out _ HBc.out, hK _ _ ?_⟩
              clear hK K hbc
              refine walkP_read rfl (fun K hK => ?_)
              refine ⟨by rfl, ?_⟩
              unfold isRd
              go_simp
              refine hK _ ?_
              clear hK K
              refine walkP_read rfl (fun K hK => ?_)
              refine ⟨by rfl, ?_⟩
              unfold isRd
              go_simp
              refine hK _ ?_
              clear hK K
              refine walkP_read rfl (fun K hK => ?_)
              refine ⟨by rfl, ?_⟩
              unfold isRd
              go_simp
              refine hK _ ?_
              clear hK K
              refine spec_step rfl (fun K hK => ?_)
              refine ⟨by rfl, ?_⟩
              unfold upM
              go_simp
              have HZ := hide (heap_alloc_new wc (.cells #[.bool false, .int .i64 0, .int .i64 0] 26))
              have HBz : Hid (Below wr.heap.size wr (wc.alloc (.cells #[.bool false, .int .i64 0, .int .i64 0] 26))) := HBc.out.alloc HBc.out.size _
              have HLz : Hid (wr.heap.size ≤ wc.heap.size) := HBc.out.size
              refine ⟨HMK.out _ HBz.out, hK _ _ ?_⟩
              clear hK K
              generalize wc.alloc (.cells #[.bool false, .int .i64 0, .int .i64 0] 26) = wz at *
              generalize wc.heap.size = Dz at *
              have c0 : wz.cell? ⟨Dz, 0, none⟩ = some (.bool false) := by rw [cell_of_row _ _ 0 _ _ _ HZ.out]; rfl
              have c1 : wz.cell? ⟨Dz, 1, none⟩ = some (.int .i64 0) := by rw [cell_of_row _ _ 1 _ _ _ HZ.out]; rfl
              have c2 : wz.cell? ⟨Dz, 2, none⟩ = some (.int .i64 0) := by rw [cell_of_row _ _ 2 _ _ _ HZ.out]; rfl
              have f0 : wz.frozen? ⟨Dz, 0, none⟩ = false := by simp [World.frozen?, HZ.out]
              have f1 : wz.frozen? ⟨Dz, 1, none⟩ = false := by simp [World.frozen?, HZ.out]
              have f2 : wz.frozen? ⟨Dz, 2, none⟩ = false := by simp [World.frozen?, HZ.out]
              have HX := hide (set3_row HZ.out (.bool true) (.int .i64 ((q : Int) + 1 + 1)) (.int .i64 k))
              have HBx := hide (below3 HBz.out HLz.out (.bool true) (.int .i64 ((q : Int) + 1 + 1)) (.int .i64 k))
              refine spec_step rfl (fun K hK => ?_)
              refine ⟨by rfl, ?_⟩
              unfold upM
              go_simp
              refine ⟨HMK.out _ HBx.out, hK _ _ ?_⟩
              clear hK K c0 c1 c2 f0 f1 f2
              generalize ((wz.setCell ⟨Dz, 0, none⟩ (.bool true)).setCell ⟨Dz, 1, none⟩ (.int .i64 ((q : Int) + 1 + 1))).setCell ⟨Dz, 2, none⟩ (.int .i64 k) = wx at *
              refine walkP_read rfl (fun K hK => ?_)
              refine ⟨by rfl, ?_⟩
              unfold isRd
              go_simp
              refine hK _ ?_
              clear hK K
              refine walkP_done ?_
              exact ⟨Dz, rfl, HX.out, HBx.out⟩
            case refine_2 =>
              refine spec_step rfl (fun K hK => ?_)
              refine ⟨by rfl, ?_⟩
              unfold upM
              go_simp
              have HZ0 := hide (heap_alloc_new w4 (.cells #[.bool false, .int .i64 0, .int .i64 0] 26))
              have HBy : Hid (Below wr.heap.size wr (w4.alloc (.cells #[.bool false, .int .i64 0, .int .i64 0] 26))) := HBD.out.alloc HBD.out.size _
              have HLz : Hid (wr.heap.size ≤ w4.heap.size) := HBD.out.size
              refine ⟨HMK.out _ HBy.out, hK _ _ ?_⟩
              clear hK K
              generalize w4.alloc (.cells #[.bool false, .int .i64 0, .int .i64 0] 26) = wy at *
              generalize w4.heap.size = Dz at *
              refine spec_step rfl (fun K hK => ?_)
              refine ⟨by rfl, ?_⟩
              unfold upM
              go_simp
              refine (HTK.out _ HBy.out).mono ?_
              rintro e wz ⟨rfl, hbz⟩
              have HZ := hide (row_later hbz HZ0.out)
              have HBz : Hid (Below wr.heap.size wr wz) := HBy.out.trans (hbz.mono HBy.out.size)
              refine ⟨_, rfl, HMK.out _ HBz.out, hK _ _ ?_⟩
              clear hK K hbz HZ0 HBy
              refine walkP_read rfl (fun K hK => ?_)
              refine ⟨by rfl, ?_⟩
              unfold isRd
              go_simp
              refine hK _ ?_
              clear hK K
              refine walkP_read rfl (fun K hK => ?_)
              refine ⟨by rfl, ?_⟩
              unfold isRd
              go_simp
              refine hK _ ?_
              clear hK K
              refine walkP_read rfl (fun K hK => ?_)
              refine ⟨by rfl, ?_⟩
              unfold isRd
              go_simp
              refine hK _ ?_
              clear hK K
              have c0 : wz.cell? ⟨Dz, 0, none⟩ = some (.bool false) := by rw [cell_of_row _ _ 0 _ _ _ HZ.out]; rfl
              have c1 : wz.cell? ⟨Dz, 1, none⟩ = some (.int .i64 0) := by rw [cell_of_row _ _ 1 _ _ _ HZ.out]; rfl
              have c2 : wz.cell? ⟨Dz, 2, none⟩ = some (.int .i64 0) := by rw [cell_of_row _ _ 2 _ _ _ HZ.out]; rfl
              have f0 : wz.frozen? ⟨Dz, 0, none⟩ = false := by simp [World.frozen?, HZ.out]
              have f1 : wz.frozen? ⟨Dz, 1, none⟩ = false := by simp [World.frozen?, HZ.out]
              have f2 : wz.frozen? ⟨Dz, 2, none⟩ = false := by simp [World.frozen?, HZ.out]
              have HX := hide (set3_row HZ.out (.bool true) (.int .i64 ((q : Int) + 1 + 1)) (.int .i64 k))
              have HBx := hide (below3 HBz.out HLz.out (.bool true) (.int .i64 ((q : Int) + 1 + 1)) (.int .i64 k))
              refine spec_step rfl (fun K hK => ?_)
              refine ⟨by rfl, ?_⟩
              unfold upM
              go_simp
              refine ⟨HMK.out _ HBx.out, hK _ _ ?_⟩
              clear hK K c0 c1 c2 f0 f1 f2
              generalize ((wz.setCell ⟨Dz, 0, none⟩ (.bool true)).setCell ⟨Dz, 1, none⟩ (.int .i64 ((q : Int) + 1 + 1))).setCell ⟨Dz, 2, none⟩ (.int .i64 k) = wx at *
              refine walkP_read rfl (fun K hK => ?_)
              refine ⟨by rfl, ?_⟩
              unfold isRd
              go_simp
              refine hK _ ?_
              clear hK K
              refine walkP_done ?_
              exact ⟨Dz, rfl, HX.out, HBx.out⟩
          intro D w6 ⟨hrD, hb6⟩
          clear hx0 hw4 s0 s1 s2 e0 e1 e2 e3 e4 e5 e6 e7 HMK HBD
          clear x0 hnx
          clear val
          clear XT
          have d0 : w6.cell? ⟨D, 0, none⟩ = some (.bool true) := by rw [cell_of_row _ _ 0 _ _ _ hrD]; rfl
          have d1 : w6.cell? ⟨D, 1, none⟩ = some (.int .i64 ((q : Int) + 1 + 1)) := by rw [cell_of_row _ _ 1 _ _ _ hrD]; rfl
          have d2 : w6.cell? ⟨D, 2, none⟩ = some (.int .i64 k) := by rw [cell_of_row _ _ 2 _ _ _ hrD]; rfl
          have HR6 := hide (row_later hb6 HRr.out)
          have HB6 := hide (HBr.out.trans (hb6.mono HBr.out.size))
          have b0 : w6.cell? ⟨B, 0, none⟩ = some (.bool true) := by rw [cell_of_row _ _ 0 _ _ _ HR6.out]; rfl
          have b1 : w6.cell? ⟨B, 1, none⟩ = some (.int .i64 ((q : Int) + 1)) := by rw [cell_of_row _ _ 1 _ _ _ HR6.out]; rfl
          have b2 : w6.cell? ⟨B, 2, none⟩ = some (.int .i64 la) := by rw [cell_of_row _ _ 2 _ _ _ HR6.out]; rfl
          have j0 := cell_later hb6 k0
          have j2 := cell_later hb6 k2
          clear hrD hb6 HTK HRr HBr k0 k1 k2 k3 k4 k5 k6 k7
          have f0 : w6.frozen? ⟨B, 0, none⟩ = false := by simp [World.frozen?, HR6.out]
          have f1 : w6.frozen? ⟨B, 1, none⟩ = false := by simp [World.frozen?, HR6.out]
          have f2 : w6.frozen? ⟨B, 2, none⟩ = false := by simp [World.frozen?, HR6.out]
          have hqw : IntKind.i64.wrap ((q : Int) + 1) = (q : Int) + 1 := IntWalk.i64_in _ (by omega)
          have hne : ((q : Int) + 1 != (q : Int) + 1) = false := by simp
          go_wp2_with fail
          go_quiet (fail)
          go_wp2
          refine ⟨⟨k + 1, (q + 1), true, ((q : Int) + 1 + 1), k, by omega, by go_num, by go_num, by omega, (fun _ => (by omega)), (fun h => (by cases h)), set3_row HR6.out _ _ _, below3 (HB6.out.trans ((blw nq).mono HB6.out.size)) HBl.out _ _ _⟩, by simp [intOf]; omega⟩
      · have hki : ¬ (k : Int) < n := by omega
        have b0 : wr.cell? ⟨B, 0, none⟩ = some (.bool on) := by rw [cell_of_row _ _ 0 _ _ _ HRr.out]; rfl
        have b1 : wr.cell? ⟨B, 1, none⟩ = some (.int .i64 nx) := by rw [cell_of_row _ _ 1 _ _ _ HRr.out]; rfl
        have b2 : wr.cell? ⟨B, 2, none⟩ = some (.int .i64 la) := by rw [cell_of_row _ _ 2 _ _ _ HRr.out]; rfl
        cases on with
        | false =>
          obtain ⟨rfl, rfl⟩ := HI2.out rfl
          go_wp2
          go_ret
          exact ⟨rfl, HBr.out⟩
        | true =>
          go_wp2
          go_ret
          exact ⟨rfl, HBr.out⟩
  · have hn' : (100 : Int) < n := by omega
    go_enter Tryd.func4, Tryd.ntmps4
    go_wp2_with fail
    refine HLG.out.mono ?_
    rintro e w1 ⟨rfl, hb1⟩
    have HB1 := hide hb1
    clear hb1 HLG
    simp only []
    go_wp2
    go_ret
    exact ⟨rfl, HB1.out⟩
end
end Go.Proofs.YtccjlddikinkiaaDoor
