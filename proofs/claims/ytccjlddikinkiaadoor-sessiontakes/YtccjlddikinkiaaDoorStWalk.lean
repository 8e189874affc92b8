/- SessionTakes: any requests in any session. -/
import Derived.Test.YtccjlddikinkiaaDoorSeArg
import Derived.Test.YtccjlddikinkiaaDoorSeTake3
import Derived.Test.YtccjlddikinkiaaDoorJoin
import Derived.Test.YtccjlddikinkiaaDoorMany
import Derived.Test.YtccjlddikinkiaaDoorCode
namespace Go.Proofs.YtccjlddikinkiaaDoor
open Go.RowKit
set_option maxRecDepth 100000
def adT (ad : Nat → Addr) (j : Nat) : Value := .pointer (some (ad j))
theorem ser_sent {w : World} {ad : Nat → Addr} (h : Sent w ad) : SEr w (adT ad) := ⟨h.cell 10 (by decide), h.cell 11 (by decide), h.cell 1 (by decide), h.cell 2 (by decide), h.cell 3 (by decide)⟩
set_option maxHeartbeats 1000000 in
theorem coded_any (ad : Nat → Addr) (c : Nat) (w : World) (hs : Hid (Sent w ad)) (hc : c ≤ 12) :
    Calls Tryd.prog 10 #[errC (adT ad) c, .int .i64 c] w fun e w' => e = .returned (.bool true) ∧ Below w.heap.size w w' := by
  have HC : Hid (Calls Tryd.prog 13 #[errC (adT ad) c] w fun e w' => e = .returned (.tuple #[.int .i64 c, .int .i64 (-1)]) ∧ Below w.heap.size w w') := by
    show Calls _ _ _ _ _
    match c, hc with
    | 0, _ =>
      refine (code_nil w).mono ?_
      rintro e w' ⟨rfl, rfl⟩
      exact ⟨rfl, Below.refl _ _⟩
    | d + 1, hd =>
      refine (code_sent d (by omega) ad w hs.out).mono ?_
      rintro e w' ⟨rfl, hb⟩
      exact ⟨rfl, hb⟩
  generalize errC (adT ad) c = ev at *
  generalize (c : Int) = en at *
  go_enter Tryd.func10, Tryd.ntmps10
  go_wp2_with fail
  refine HC.out.mono ?_
  rintro e w2 ⟨rfl, hb2⟩
  have HB := hide hb2
  clear hb2 HC
  simp only []
  go_wp2
  go_ret
  exact ⟨rfl, HB.out⟩
theorem Se.tL_in {on : Bool} {nx la now : Int} {a : Ask} (hl : 0 ≤ la ∧ la ≤ 1099511627776) (hn : 0 ≤ now ∧ now ≤ 1099511627776) : 0 ≤ Se.tL on nx la a now ∧ Se.tL on nx la a now ≤ 1099511627776 := by
  unfold Se.tL
  split
  · split <;> omega
  · omega
theorem blw {w6 : World} (nq : Nat) : Below w6.heap.size w6 (w6.drewN nq) := ⟨rfl, rfl, rfl, Nat.le_refl _, fun _ _ => rfl⟩
theorem save_row {W : World} {R Q : Nat} {o : Obj} (h : W.heap[Q]? = some o) (hne : Q ≠ R) (v0 v1 v2 : Value) : (((W.setCell ⟨R, 0, none⟩ v0).setCell ⟨R, 1, none⟩ v1).setCell ⟨R, 2, none⟩ v2).heap[Q]? = some o := by
  have step : ∀ (W : World) (j : Nat) (v : Value), W.heap[Q]? = some o → (W.setCell ⟨R, j, none⟩ v).heap[Q]? = some o := fun W j v h => by
    rw [Below.heap_setCell W ⟨R, j, none⟩ v Q hne]; exact h
  exact step _ _ _ (step _ _ _ (step _ _ _ h))

set_option maxHeartbeats 4000000 in
theorem takes_loop (on0 : Bool) (nx0 la0 : Int) (a a2 : Option Addr) (n cap m cap2 : Nat) (l : List Ask) (zs : List Int) (ad : Nat → Addr) (w : World) (hs : Hid (Sent w ad)) (ha : Hid (ArgAsks w a n l)) (hz : Hid (∀ i, i < m → ∃ g, a2 = some g ∧ w.cell? (g.add i) = some (.int .i64 (zs.getD i 0))))
    (hn : n ≤ 60) (hm : n ≤ m) (h1 : ¬ nx0 < 0) (h2 : ¬ (1099511627776 : Int) < nx0) (h3 : ¬ la0 < 0) (h4 : ¬ (1099511627776 : Int) < la0) :
    Calls Tryd.prog 3 #[.bool on0, .int .i64 nx0, .int .i64 la0, .slice a n cap, .slice a2 m cap2] w fun e w' => e = .returned (.bool true) ∧ Below w.heap.size w w' := by
  have HLG := hide (logged_any (T := adT ad) w (hide (ser_sent hs.out)))
  have hn' : ¬ (60 : Int) < n := by omega
  have hm' : ¬ (m : Int) < n := by omega
  have HLA : Hid (0 ≤ la0 ∧ la0 ≤ 1099511627776) := ⟨by omega, by omega⟩
  go_enter Tryd.func3, Tryd.ntmps3
  go_wp2_with fail
  refine HLG.out.mono ?_
  rintro e w1 ⟨rfl, hb1⟩
  have HB1 := hide hb1
  clear hb1 HLG
  simp only []
  go_wp2_with fail
  obtain ⟨B, hB⟩ : ∃ B, w1.heap.size = B := ⟨_, rfl⟩
  obtain ⟨w2, hw2⟩ : ∃ w2, (w1.alloc (.cells #[.bool on0, .int .i64 nx0, .int .i64 la0] 26)).alloc (.cells #[.bool on0, .int .i64 nx0, .int .i64 la0] 27) = w2 := ⟨_, rfl⟩
  have HR2 : Hid (w2.heap[B]? = some (.cells #[.bool on0, .int .i64 nx0, .int .i64 la0] 26 (0, 0))) := by show _ = _; rw [← hw2, ← hB]; exact (Below.heap_alloc _ _ _ (by simp)).trans (heap_alloc_new _ _)
  have HM2 : Hid (w2.heap[B + 1]? = some (.cells #[.bool on0, .int .i64 nx0, .int .i64 la0] 27 (0, 0))) := by
    have h := heap_alloc_new (w1.alloc (.cells #[.bool on0, .int .i64 nx0, .int .i64 la0] 26)) (.cells #[.bool on0, .int .i64 nx0, .int .i64 la0] 27)
    have e : (w1.alloc (.cells #[.bool on0, .int .i64 nx0, .int .i64 la0] 26)).heap.size = w1.heap.size + 1 := by simp
    show _ = _
    rw [← hw2, ← hB]
    rw [e] at h
    exact h
  have HB2 : Hid (Below w.heap.size w w2) := by rw [← hw2]; exact (HB1.out.alloc HB1.out.size _).alloc (by have := HB1.out.size; simp; omega) _
  have HBl : Hid (w.heap.size ≤ B) := by rw [← hB]; exact HB1.out.size
  rw [hw2, hB]
  clear hw2 hB HB1
  obtain ⟨M, hM⟩ : ∃ M, B + 1 = M := ⟨_, rfl⟩
  rw [hM] at HM2 ⊢
  have HMl : Hid (w.heap.size ≤ M) := by show _ ≤ _; have := HBl.out; omega
  have HNE : Hid (B ≠ M) := by show _ ≠ _; omega
  clear hM
  go_loopw [14] (fun c wr => ∃ (k : Nat) (on : Bool) (nx la : Int), k ≤ n ∧ c = .int .i64 k ∧ (0 ≤ la ∧ la ≤ 1099511627776) ∧ wr.heap[B]? = some (.cells #[.bool on, .int .i64 nx, .int .i64 la] 26 (0, 0)) ∧ wr.heap[M]? = some (.cells #[.bool on, .int .i64 nx, .int .i64 la] 27 (0, 0)) ∧ Below w.heap.size w wr) (fun c _ => n - (intOf c).toNat)
  case atStart => exact ⟨0, on0, nx0, la0, Nat.zero_le _, rfl, HLA.out, HR2.out, HM2.out, HB2.out⟩
  case round =>
    obtain ⟨k, on, nx, la, hk, rfl, hla, hr, hm0, hb⟩ := hrel
    have HRr := hide hr; have HMr := hide hm0; have HBr := hide hb; have HLa := hide hla
    clear hr hm0 hb hla HR2 HM2 HB2 HLA
    by_cases hlt : k < n
    · have hki : (k : Int) < n := by omega
      have hkm : (k : Int) < m := by omega
      obtain ⟨g, rfl, hlg⟩ : ∃ g, a = some g ∧ AsksAt w g l := by
        rcases ha.out.2 with h | h
        · omega
        · exact h
      obtain ⟨g2, rfl, ht0⟩ := hz.out k (by omega)
      have HLG := hide hlg
      have ht := cell_later HBr.out ht0
      clear hlg ht0
      generalize zs.getD k 0 = now at *
      by_cases t1 : now < 0
      · go_wp2
        go_ret
        exact ⟨rfl, HBr.out⟩
      · by_cases t2 : (1099511627776 : Int) < now
        · go_wp2
          go_ret
          exact ⟨rfl, HBr.out⟩
        · have HNow : Hid (0 ≤ now ∧ now ≤ 1099511627776) := ⟨by omega, by omega⟩
          have HL1 := hide (fun W => late_any on nx la now W HLa.out)
          have HL2 := hide (fun W => isLate_any on nx la now W HLa.out HNow.out)
          generalize Se.late on la now = lt at *
          unfold sV at HL1 HL2
          go_wp2_with fail
          obtain ⟨XT, val, hcl, hmk⟩ := class_all (fun W' => W'.heap[B]? = some (.cells #[.bool on, .int .i64 nx, .int .i64 la] 26 (0, 0)) ∧ W'.heap[M]? = some (.cells #[.bool on, .int .i64 nx, .int .i64 la] 27 (0, 0)))
          obtain ⟨x0, hx0⟩ := hmk wr.drew ⟨HRr.out, HMr.out⟩
          have hnx : Nonempty XT := ⟨x0⟩
          have s0 : ∀ x, (val x).cell? ⟨B, 0, none⟩ = some (.bool on) := fun x => by rw [cell_of_row _ _ 0 _ _ _ (hcl x).1]; rfl
          have s1 : ∀ x, (val x).cell? ⟨B, 1, none⟩ = some (.int .i64 nx) := fun x => by rw [cell_of_row _ _ 1 _ _ _ (hcl x).1]; rfl
          have s2 : ∀ x, (val x).cell? ⟨B, 2, none⟩ = some (.int .i64 la) := fun x => by rw [cell_of_row _ _ 2 _ _ _ (hcl x).1]; rfl
          have m0 : ∀ x, (val x).cell? ⟨M, 0, none⟩ = some (.bool on) := fun x => by rw [cell_of_row _ _ 0 _ _ _ (hcl x).2]; rfl
          have m1 : ∀ x, (val x).cell? ⟨M, 1, none⟩ = some (.int .i64 nx) := fun x => by rw [cell_of_row _ _ 1 _ _ _ (hcl x).2]; rfl
          have m2 : ∀ x, (val x).cell? ⟨M, 2, none⟩ = some (.int .i64 la) := fun x => by rw [cell_of_row _ _ 2 _ _ _ (hcl x).2]; rfl
          have HMK : Hid (∀ W', Below wr.heap.size wr W' → ∃ x, val x = W') := fun W' hb => hmk W' ⟨row_later hb HRr.out, row_later hb HMr.out⟩
          obtain ⟨w4, hw4⟩ : ∃ w4, wr.drew = w4 := ⟨_, rfl⟩
          have HB4 : Hid (Below wr.heap.size wr w4) := by rw [← hw4]; exact ⟨rfl, rfl, rfl, Nat.le_refl _, fun _ _ => rfl⟩
          clear hmk hcl
          refine region_many_calls (val := val) [2, 5] [0, 1, 3, 4, 2, 5, 6] (by kernel_rfl) (by kernel_rfl) x0 hx0 ?_
          rw [hx0, hw4]
          clear hx0 hw4
          refine walkM_read rfl rfl (fun K hK => ?_)
          refine ⟨by rfl, ?_⟩
          unfold isRd
          go_simp
          refine hK _ ?_
          clear hK K
          refine walkM_read rfl rfl (fun K hK => ?_)
          refine ⟨by rfl, ?_⟩
          unfold isRd
          go_simp
          refine hK _ ?_
          clear hK K
          refine walkM_read rfl rfl (fun K hK => ?_)
          refine ⟨by rfl, ?_⟩
          unfold isRd
          go_simp
          refine hK _ ?_
          clear hK K
          refine walkM_read rfl rfl (fun K hK => ?_)
          refine ⟨by rfl, ?_⟩
          unfold isRd
          go_simp
          refine hK _ ?_
          clear hK K
          refine walkM_call rfl rfl (fun K hK => ?_)
          refine ⟨by rfl, ?_⟩
          unfold upM
          go_simp
          refine (HL1.out _).mono ?_
          rintro e w4b ⟨rfl, hb4b⟩
          have HB4b : Hid (Below wr.heap.size wr w4b) := HB4.out.trans (hb4b.mono HB4.out.size)
          refine ⟨_, rfl, HMK.out _ HB4b.out, hK _ _ ?_⟩
          clear hK K hb4b HB4
          refine walkM_call rfl rfl (fun K hK => ?_)
          refine ⟨by rfl, ?_⟩
          unfold upM
          go_simp
          refine (HL2.out _).mono ?_
          rintro e w5 ⟨rfl, hb5⟩
          have HB5 : Hid (Below wr.heap.size wr w5) := HB4b.out.trans (hb5.mono HB4b.out.size)
          refine ⟨_, rfl, HMK.out _ HB5.out, hK _ _ ?_⟩
          clear hK K hb5 HB4b
          refine walkM_read rfl rfl (fun K hK => ?_)
          refine ⟨by rfl, ?_⟩
          unfold isRd
          go_simp
          refine hK _ ?_
          clear hK K
          refine walkM_nil ?_
          clear s0 s1 s2 m0 m1 m2 HMK HL1 HL2
          clear x0 hnx
          clear val
          clear XT
          have HRr5 := hide (row_later HB5.out HRr.out); have HMr5 := hide (row_later HB5.out HMr.out)
          have HBr5 := hide (HBr.out.trans (HB5.out.mono HBr.out.size))
          clear HRr HMr HBr HB5 ht
          have HRr := HRr5; have HMr := HMr5; have HBr := HBr5
          clear HRr5 HMr5 HBr5
          obtain ⟨k0, k1, k2, k3, k4, k5, k6, k7⟩ := (HLG.out.later HBr.out) k (by rw [ha.out.1]; exact hlt)
          clear HLG
          generalize anth l k = A at *
          obtain ⟨ak, ac, asq, ait, asd, apr, aq, aid⟩ := A
          simp only [] at k0 k1 k2 k3 k4 k5 k6 k7
          have HTK := hide (fun W (h : Below w5.heap.size w5 W) => take_any (T := adT ad) on nx la now ⟨ak, ac, asq, ait, asd, apr, aq, aid⟩ W (hide (((ser_sent hs.out).later HBr.out).later h)))
          have HTO := hide (fun W => takeOf_any on nx la now ⟨ak, ac, asq, ait, asd, apr, aq, aid⟩ W)
          have HTL := hide (Se.tL_in (on := on) (nx := nx) (a := ⟨ak, ac, asq, ait, asd, apr, aq, aid⟩) HLa.out HNow.out)
          have HCD := hide (fun W (h : Below w.heap.size w W) => coded_any ad (Se.tc on nx ⟨ak, ac, asq, ait, asd, apr, aq, aid⟩) W (hide (hs.out.later h)) (Se.tc_le _ _ _))
          generalize errC (adT ad) (Se.tc on nx ⟨ak, ac, asq, ait, asd, apr, aq, aid⟩) = ev at *
          generalize (Se.tc on nx ⟨ak, ac, asq, ait, asd, apr, aq, aid⟩ : Int) = ec at *
          generalize Se.tO on nx ⟨ak, ac, asq, ait, asd, apr, aq, aid⟩ = tO at *
          generalize Se.tN on nx ⟨ak, ac, asq, ait, asd, apr, aq, aid⟩ = tN at *
          generalize Se.tL on nx la ⟨ak, ac, asq, ait, asd, apr, aq, aid⟩ now = tL at *
          unfold sV askV askA at HTK HTO
          simp only [] at HTK HTO
          have hll : (lt != lt) = false := by simp
          go_wp2_with fail
          obtain ⟨XT, val, hcl, hmk⟩ := class_all (fun W' => W'.heap[B]? = some (.cells #[.bool on, .int .i64 nx, .int .i64 la] 26 (0, 0)) ∧ W'.cell? (g.add (k * 8)) = some (.int .u8 ak) ∧ W'.cell? ⟨(g.add (k * 8)).block, (g.add (k * 8)).off + 1, none⟩ = some (.int .i64 ac) ∧ W'.cell? ⟨(g.add (k * 8)).block, (g.add (k * 8)).off + 2, none⟩ = some (.int .i64 asq) ∧ W'.cell? ⟨(g.add (k * 8)).block, (g.add (k * 8)).off + 3, none⟩ = some (.int .i64 ait) ∧ W'.cell? ⟨(g.add (k * 8)).block, (g.add (k * 8)).off + 4, none⟩ = some (.int .i64 asd) ∧ W'.cell? ⟨(g.add (k * 8)).block, (g.add (k * 8)).off + 5, none⟩ = some (.int .i64 apr) ∧ W'.cell? ⟨(g.add (k * 8)).block, (g.add (k * 8)).off + 6, none⟩ = some (.int .i64 aq) ∧ W'.cell? ⟨(g.add (k * 8)).block, (g.add (k * 8)).off + 7, none⟩ = some (.int .i64 aid))
          obtain ⟨x0, hx0⟩ := hmk w5.drew ⟨HRr.out, k0, k1, k2, k3, k4, k5, k6, k7⟩
          have hnx : Nonempty XT := ⟨x0⟩
          have s0 : ∀ x, (val x).cell? ⟨B, 0, none⟩ = some (.bool on) := fun x => by rw [cell_of_row _ _ 0 _ _ _ (hcl x).1]; rfl
          have s1 : ∀ x, (val x).cell? ⟨B, 1, none⟩ = some (.int .i64 nx) := fun x => by rw [cell_of_row _ _ 1 _ _ _ (hcl x).1]; rfl
          have s2 : ∀ x, (val x).cell? ⟨B, 2, none⟩ = some (.int .i64 la) := fun x => by rw [cell_of_row _ _ 2 _ _ _ (hcl x).1]; rfl
          have e0 : ∀ x, (val x).cell? (g.add (k * 8)) = some (.int .u8 ak) := fun x => (hcl x).2.1
          have e1 : ∀ x, (val x).cell? ⟨(g.add (k * 8)).block, (g.add (k * 8)).off + 1, none⟩ = some (.int .i64 ac) := fun x => (hcl x).2.2.1
          have e2 : ∀ x, (val x).cell? ⟨(g.add (k * 8)).block, (g.add (k * 8)).off + 2, none⟩ = some (.int .i64 asq) := fun x => (hcl x).2.2.2.1
          have e3 : ∀ x, (val x).cell? ⟨(g.add (k * 8)).block, (g.add (k * 8)).off + 3, none⟩ = some (.int .i64 ait) := fun x => (hcl x).2.2.2.2.1
          have e4 : ∀ x, (val x).cell? ⟨(g.add (k * 8)).block, (g.add (k * 8)).off + 4, none⟩ = some (.int .i64 asd) := fun x => (hcl x).2.2.2.2.2.1
          have e5 : ∀ x, (val x).cell? ⟨(g.add (k * 8)).block, (g.add (k * 8)).off + 5, none⟩ = some (.int .i64 apr) := fun x => (hcl x).2.2.2.2.2.2.1
          have e6 : ∀ x, (val x).cell? ⟨(g.add (k * 8)).block, (g.add (k * 8)).off + 6, none⟩ = some (.int .i64 aq) := fun x => (hcl x).2.2.2.2.2.2.2.1
          have e7 : ∀ x, (val x).cell? ⟨(g.add (k * 8)).block, (g.add (k * 8)).off + 7, none⟩ = some (.int .i64 aid) := fun x => (hcl x).2.2.2.2.2.2.2.2
          have HMK : Hid (∀ W', Below w5.heap.size w5 W' → ∃ x, val x = W') := fun W' hb => hmk W' ⟨row_later hb HRr.out, cell_later hb k0, cell_later hb k1, cell_later hb k2, cell_later hb k3, cell_later hb k4, cell_later hb k5, cell_later hb k6, cell_later hb k7⟩
          obtain ⟨w4, hw4⟩ : ∃ w4, w5.drew = w4 := ⟨_, rfl⟩
          have HBD : Hid (Below w5.heap.size w5 w4) := by rw [← hw4]; exact ⟨rfl, rfl, rfl, Nat.le_refl _, fun _ _ => rfl⟩
          clear hmk hcl
          refine region_join1 (val := val) (fun D w6 => w6.heap[D]? = some (.cells #[.bool tO, .int .i64 tN, .int .i64 tL] 26 (0, 0)) ∧ Below w5.heap.size w5 w6) (.read 0 (.read 1 (.read 2 (.read 3 (.read 4 (.read 5 (.two 6 (.read 7 (.read 8 (.read 9 (.one 10 (.one 11 (.read 12 .done)))))) 10 (.one 6 (.read 7 (.read 8 (.read 9 (.one 11 (.read 12 .done))))))))))))) (by kernel_rfl) (by kernel_rfl) x0 hx0 ?_
          apply Exists.intro
          refine ⟨?_, ?_⟩
          case' refine_1 =>
            rw [hx0, hw4]
            refine walkP_read rfl (fun K hK => ?_)
            refine ⟨by rfl, ?_⟩
            unfold isRd
            go_simp
            refine hK _ ?_
            clear hK K
            refine walkP_read rfl (fun K hK => ?_)
            refine ⟨by rfl, ?_⟩
            unfold isRd
            go_simp
            refine hK _ ?_
            clear hK K
            refine walkP_read rfl (fun K hK => ?_)
            refine ⟨by rfl, ?_⟩
            unfold isRd
            go_simp
            refine hK _ ?_
            clear hK K
            refine walkP_read rfl (fun K hK => ?_)
            refine ⟨by rfl, ?_⟩
            unfold isRd
            go_simp
            refine hK _ ?_
            clear hK K
            refine walkP_read rfl (fun K hK => ?_)
            refine ⟨by rfl, ?_⟩
            unfold isRd
            go_simp
            refine hK _ ?_
            clear hK K
            refine walkP_read rfl (fun K hK => ?_)
            refine ⟨by rfl, ?_⟩
            unfold isRd
            go_simp
            refine hK _ ?_
            clear hK K
            refine ⟨?_, ?_⟩
            case refine_1 =>
              refine spec_step rfl (fun K hK => ?_)
              refine ⟨by rfl, ?_⟩
              unfold upM
              go_simp
              refine (HTK.out _ HBD.out).mono ?_
              rintro e wc ⟨rfl, hbc⟩
              have HBc : Hid (Below w5.heap.size w5 wc) := HBD.out.trans (hbc.mono HBD.out.size)
              refine ⟨_, rfl, HMK.out _ HBc.out, hK _ _ ?_⟩
              clear hK K hbc
              refine walkP_read rfl (fun K hK => ?_)
              refine ⟨by rfl, ?_⟩
              unfold isRd
              go_simp
              refine hK _ ?_
              clear hK K
              refine walkP_read rfl (fun K hK => ?_)
              refine ⟨by rfl, ?_⟩
              unfold isRd
              go_simp
              refine hK _ ?_
              clear hK K
              refine walkP_read rfl (fun K hK => ?_)
              refine ⟨by rfl, ?_⟩
              unfold isRd
              go_simp
              refine hK _ ?_
              clear hK K
              refine spec_step rfl (fun K hK => ?_)
              refine ⟨by rfl, ?_⟩
              unfold upM
              go_simp
              have HZ := hide (heap_alloc_new wc (.cells #[.bool false, .int .i64 0, .int .i64 0] 26))
              have HBz : Hid (Below w5.heap.size w5 (wc.alloc (.cells #[.bool false, .int .i64 0, .int .i64 0] 26))) := HBc.out.alloc HBc.out.size _
              have HLz : Hid (w5.heap.size ≤ wc.heap.size) := HBc.out.size
              refine ⟨HMK.out _ HBz.out, hK _ _ ?_⟩
              clear hK K
              generalize wc.alloc (.cells #[.bool false, .int .i64 0, .int .i64 0] 26) = wz at *
              generalize wc.heap.size = Dz at *
              have c0 : wz.cell? ⟨Dz, 0, none⟩ = some (.bool false) := by rw [cell_of_row _ _ 0 _ _ _ HZ.out]; rfl
              have c1 : wz.cell? ⟨Dz, 1, none⟩ = some (.int .i64 0) := by rw [cell_of_row _ _ 1 _ _ _ HZ.out]; rfl
              have c2 : wz.cell? ⟨Dz, 2, none⟩ = some (.int .i64 0) := by rw [cell_of_row _ _ 2 _ _ _ HZ.out]; rfl
              have f0 : wz.frozen? ⟨Dz, 0, none⟩ = false := by simp [World.frozen?, HZ.out]
              have f1 : wz.frozen? ⟨Dz, 1, none⟩ = false := by simp [World.frozen?, HZ.out]
              have f2 : wz.frozen? ⟨Dz, 2, none⟩ = false := by simp [World.frozen?, HZ.out]
              have HX := hide (set3_row HZ.out (.bool tO) (.int .i64 tN) (.int .i64 tL))
              have HBx := hide (below3 HBz.out HLz.out (.bool tO) (.int .i64 tN) (.int .i64 tL))
              refine spec_step rfl (fun K hK => ?_)
              refine ⟨by rfl, ?_⟩
              unfold upM
              go_simp
              refine ⟨HMK.out _ HBx.out, hK _ _ ?_⟩
              clear hK K c0 c1 c2 f0 f1 f2
              generalize ((wz.setCell ⟨Dz, 0, none⟩ (.bool tO)).setCell ⟨Dz, 1, none⟩ (.int .i64 tN)).setCell ⟨Dz, 2, none⟩ (.int .i64 tL) = wx at *
              refine walkP_read rfl (fun K hK => ?_)
              refine ⟨by rfl, ?_⟩
              unfold isRd
              go_simp
              refine hK _ ?_
              clear hK K
              refine walkP_done ?_
              exact ⟨Dz, rfl, HX.out, HBx.out⟩
            case refine_2 =>
              refine spec_step rfl (fun K hK => ?_)
              refine ⟨by rfl, ?_⟩
              unfold upM
              go_simp
              have HZ0 := hide (heap_alloc_new w4 (.cells #[.bool false, .int .i64 0, .int .i64 0] 26))
              have HBy : Hid (Below w5.heap.size w5 (w4.alloc (.cells #[.bool false, .int .i64 0, .int .i64 0] 26))) := HBD.out.alloc HBD.out.size _
              have HLz : Hid (w5.heap.size ≤ w4.heap.size) := HBD.out.size
              refine ⟨HMK.out _ HBy.out, hK _ _ ?_⟩
              clear hK K
              generalize w4.alloc (.cells #[.bool false, .int .i64 0, .int .i64 0] 26) = wy at *
              generalize w4.heap.size = Dz at *
              refine spec_step rfl (fun K hK => ?_)
              refine ⟨by rfl, ?_⟩
              unfold upM
              go_simp
              refine (HTK.out _ HBy.out).mono ?_
              rintro e wz ⟨rfl, hbz⟩
              have HZ := hide (row_later hbz HZ0.out)
              have HBz : Hid (Below w5.heap.size w5 wz) := HBy.out.trans (hbz.mono HBy.out.size)
              refine ⟨_, rfl, HMK.out _ HBz.out, hK _ _ ?_⟩
              clear hK K hbz HZ0 HBy
              refine walkP_read rfl (fun K hK => ?_)
              refine ⟨by rfl, ?_⟩
              unfold isRd
              go_simp
              refine hK _ ?_
              clear hK K
              refine walkP_read rfl (fun K hK => ?_)
              refine ⟨by rfl, ?_⟩
              unfold isRd
              go_simp
              refine hK _ ?_
              clear hK K
              refine walkP_read rfl (fun K hK => ?_)
              refine ⟨by rfl, ?_⟩
              unfold isRd
              go_simp
              refine hK _ ?_
              clear hK K
              have c0 : wz.cell? ⟨Dz, 0, none⟩ = some (.bool false) := by rw [cell_of_row _ _ 0 _ _ _ HZ.out]; rfl
              have c1 : wz.cell? ⟨Dz, 1, none⟩ = some (.int .i64 0) := by rw [cell_of_row _ _ 1 _ _ _ HZ.out]; rfl
              have c2 : wz.cell? ⟨Dz, 2, none⟩ = some (.int .i64 0) := by rw [cell_of_row _ _ 2 _ _ _ HZ.out]; rfl
              have f0 : wz.frozen? ⟨Dz, 0, none⟩ = false := by simp [World.frozen?, HZ.out]
              have f1 : wz.frozen? ⟨Dz, 1, none⟩ = false := by simp [World.frozen?, HZ.out]
              have f2 : wz.frozen? ⟨Dz, 2, none⟩ = false := by simp [World.frozen?, HZ.out]
              have HX := hide (set3_row HZ.out (.bool tO) (.int .i64 tN) (.int .i64 tL))
              have HBx := hide (below3 HBz.out HLz.out (.bool tO) (.int .i64 tN) (.int .i64 tL))
              refine spec_step rfl (fun K hK => ?_)
              refine ⟨by rfl, ?_⟩
              unfold upM
              go_simp
              refine ⟨HMK.out _ HBx.out, hK _ _ ?_⟩
              clear hK K c0 c1 c2 f0 f1 f2
              generalize ((wz.setCell ⟨Dz, 0, none⟩ (.bool tO)).setCell ⟨Dz, 1, none⟩ (.int .i64 tN)).setCell ⟨Dz, 2, none⟩ (.int .i64 tL) = wx at *
              refine walkP_read rfl (fun K hK => ?_)
              refine ⟨by rfl, ?_⟩
              unfold isRd
              go_simp
              refine hK _ ?_
              clear hK K
              refine walkP_done ?_
              exact ⟨Dz, rfl, HX.out, HBx.out⟩
          intro D w6 ⟨hrD, hb6⟩
          clear hx0 hw4 s0 s1 s2 e0 e1 e2 e3 e4 e5 e6 e7 HMK HBD
          clear x0 hnx
          clear val
          clear XT
          clear HTK hll
          have HD6 := hide hrD
          have HR6 := hide (row_later hb6 HRr.out); have HM6 := hide (row_later hb6 HMr.out); have HB6 := hide (HBr.out.trans (hb6.mono HBr.out.size))
          have k0' := cell_later hb6 k0; have k1' := cell_later hb6 k1; have k2' := cell_later hb6 k2; have k3' := cell_later hb6 k3; have k4' := cell_later hb6 k4; have k5' := cell_later hb6 k5; have k6' := cell_later hb6 k6; have k7' := cell_later hb6 k7
          clear HRr HMr HBr hb6 hrD k0 k1 k2 k3 k4 k5 k6 k7
          have k0 := k0'; have k1 := k1'; have k2 := k2'; have k3 := k3'; have k4 := k4'; have k5 := k5'; have k6 := k6'; have k7 := k7'
          clear k0' k1' k2' k3' k4' k5' k6' k7'
          have HMr := HM6
          have HTO2 : Hid (∀ W, Below w6.heap.size w6 W → _) := fun W _ => HTO.out W
          clear HTO
          have HTO := HTO2
          clear HTO2
          go_wp2_with fail
          obtain ⟨XT, val, hcl, hmk⟩ := class_all (fun W' => W'.heap[M]? = some (.cells #[.bool on, .int .i64 nx, .int .i64 la] 27 (0, 0)) ∧ W'.cell? (g.add (k * 8)) = some (.int .u8 ak) ∧ W'.cell? ⟨(g.add (k * 8)).block, (g.add (k * 8)).off + 1, none⟩ = some (.int .i64 ac) ∧ W'.cell? ⟨(g.add (k * 8)).block, (g.add (k * 8)).off + 2, none⟩ = some (.int .i64 asq) ∧ W'.cell? ⟨(g.add (k * 8)).block, (g.add (k * 8)).off + 3, none⟩ = some (.int .i64 ait) ∧ W'.cell? ⟨(g.add (k * 8)).block, (g.add (k * 8)).off + 4, none⟩ = some (.int .i64 asd) ∧ W'.cell? ⟨(g.add (k * 8)).block, (g.add (k * 8)).off + 5, none⟩ = some (.int .i64 apr) ∧ W'.cell? ⟨(g.add (k * 8)).block, (g.add (k * 8)).off + 6, none⟩ = some (.int .i64 aq) ∧ W'.cell? ⟨(g.add (k * 8)).block, (g.add (k * 8)).off + 7, none⟩ = some (.int .i64 aid))
          obtain ⟨x0, hx0⟩ := hmk w6.drew ⟨HMr.out, k0, k1, k2, k3, k4, k5, k6, k7⟩
          have hnx : Nonempty XT := ⟨x0⟩
          have s0 : ∀ x, (val x).cell? ⟨M, 0, none⟩ = some (.bool on) := fun x => by rw [cell_of_row _ _ 0 _ _ _ (hcl x).1]; rfl
          have s1 : ∀ x, (val x).cell? ⟨M, 1, none⟩ = some (.int .i64 nx) := fun x => by rw [cell_of_row _ _ 1 _ _ _ (hcl x).1]; rfl
          have s2 : ∀ x, (val x).cell? ⟨M, 2, none⟩ = some (.int .i64 la) := fun x => by rw [cell_of_row _ _ 2 _ _ _ (hcl x).1]; rfl
          have e0 : ∀ x, (val x).cell? (g.add (k * 8)) = some (.int .u8 ak) := fun x => (hcl x).2.1
          have e1 : ∀ x, (val x).cell? ⟨(g.add (k * 8)).block, (g.add (k * 8)).off + 1, none⟩ = some (.int .i64 ac) := fun x => (hcl x).2.2.1
          have e2 : ∀ x, (val x).cell? ⟨(g.add (k * 8)).block, (g.add (k * 8)).off + 2, none⟩ = some (.int .i64 asq) := fun x => (hcl x).2.2.2.1
          have e3 : ∀ x, (val x).cell? ⟨(g.add (k * 8)).block, (g.add (k * 8)).off + 3, none⟩ = some (.int .i64 ait) := fun x => (hcl x).2.2.2.2.1
          have e4 : ∀ x, (val x).cell? ⟨(g.add (k * 8)).block, (g.add (k * 8)).off + 4, none⟩ = some (.int .i64 asd) := fun x => (hcl x).2.2.2.2.2.1
          have e5 : ∀ x, (val x).cell? ⟨(g.add (k * 8)).block, (g.add (k * 8)).off + 5, none⟩ = some (.int .i64 apr) := fun x => (hcl x).2.2.2.2.2.2.1
          have e6 : ∀ x, (val x).cell? ⟨(g.add (k * 8)).block, (g.add (k * 8)).off + 6, none⟩ = some (.int .i64 aq) := fun x => (hcl x).2.2.2.2.2.2.2.1
          have e7 : ∀ x, (val x).cell? ⟨(g.add (k * 8)).block, (g.add (k * 8)).off + 7, none⟩ = some (.int .i64 aid) := fun x => (hcl x).2.2.2.2.2.2.2.2
          have HMK : Hid (∀ W', Below w6.heap.size w6 W' → ∃ x, val x = W') := fun W' hb => hmk W' ⟨row_later hb HMr.out, cell_later hb k0, cell_later hb k1, cell_later hb k2, cell_later hb k3, cell_later hb k4, cell_later hb k5, cell_later hb k6, cell_later hb k7⟩
          obtain ⟨w4, hw4⟩ : ∃ w4, w6.drew = w4 := ⟨_, rfl⟩
          have HBD : Hid (Below w6.heap.size w6 w4) := by rw [← hw4]; exact ⟨rfl, rfl, rfl, Nat.le_refl _, fun _ _ => rfl⟩
          clear hmk hcl
          refine region_join1 (val := val) (fun D w8 => w8.heap[D]? = some (.cells #[.bool tO, .int .i64 tN, .int .i64 tL] 27 (0, 0)) ∧ Below w6.heap.size w6 w8) (.read 0 (.read 1 (.read 2 (.read 3 (.read 4 (.read 5 (.two 6 (.read 7 (.read 8 (.read 9 (.one 10 (.one 11 (.read 12 .done)))))) 10 (.one 6 (.read 7 (.read 8 (.read 9 (.one 11 (.read 12 .done))))))))))))) (by kernel_rfl) (by kernel_rfl) x0 hx0 ?_
          apply Exists.intro
          refine ⟨?_, ?_⟩
          case' refine_1 =>
            rw [hx0, hw4]
            refine walkP_read rfl (fun K hK => ?_)
            refine ⟨by rfl, ?_⟩
            unfold isRd
            go_simp
            refine hK _ ?_
            clear hK K
            refine walkP_read rfl (fun K hK => ?_)
            refine ⟨by rfl, ?_⟩
            unfold isRd
            go_simp
            refine hK _ ?_
            clear hK K
            refine walkP_read rfl (fun K hK => ?_)
            refine ⟨by rfl, ?_⟩
            unfold isRd
            go_simp
            refine hK _ ?_
            clear hK K
            refine walkP_read rfl (fun K hK => ?_)
            refine ⟨by rfl, ?_⟩
            unfold isRd
            go_simp
            refine hK _ ?_
            clear hK K
            refine walkP_read rfl (fun K hK => ?_)
            refine ⟨by rfl, ?_⟩
            unfold isRd
            go_simp
            refine hK _ ?_
            clear hK K
            refine walkP_read rfl (fun K hK => ?_)
            refine ⟨by rfl, ?_⟩
            unfold isRd
            go_simp
            refine hK _ ?_
            clear hK K
            refine ⟨?_, ?_⟩
            case refine_1 =>
              refine spec_step rfl (fun K hK => ?_)
              refine ⟨by rfl, ?_⟩
              unfold upM
              go_simp
              refine (HTO.out _ HBD.out).mono ?_
              rintro e wc ⟨rfl, hbc⟩
              have HBc : Hid (Below w6.heap.size w6 wc) := HBD.out.trans (hbc.mono HBD.out.size)
              refine ⟨_, rfl, HMK.out _ HBc.out, hK _ _ ?_⟩
              clear hK K hbc
              refine walkP_read rfl (fun K hK => ?_)
              refine ⟨by rfl, ?_⟩
              unfold isRd
              go_simp
              refine hK _ ?_
              clear hK K
              refine walkP_read rfl (fun K hK => ?_)
              refine ⟨by rfl, ?_⟩
              unfold isRd
              go_simp
              refine hK _ ?_
              clear hK K
              refine walkP_read rfl (fun K hK => ?_)
              refine ⟨by rfl, ?_⟩
              unfold isRd
              go_simp
              refine hK _ ?_
              clear hK K
              refine spec_step rfl (fun K hK => ?_)
              refine ⟨by rfl, ?_⟩
              unfold upM
              go_simp
              have HZ := hide (heap_alloc_new wc (.cells #[.bool false, .int .i64 0, .int .i64 0] 27))
              have HBz : Hid (Below w6.heap.size w6 (wc.alloc (.cells #[.bool false, .int .i64 0, .int .i64 0] 27))) := HBc.out.alloc HBc.out.size _
              have HLz : Hid (w6.heap.size ≤ wc.heap.size) := HBc.out.size
              refine ⟨HMK.out _ HBz.out, hK _ _ ?_⟩
              clear hK K
              generalize wc.alloc (.cells #[.bool false, .int .i64 0, .int .i64 0] 27) = wz at *
              generalize wc.heap.size = Dz at *
              have c0 : wz.cell? ⟨Dz, 0, none⟩ = some (.bool false) := by rw [cell_of_row _ _ 0 _ _ _ HZ.out]; rfl
              have c1 : wz.cell? ⟨Dz, 1, none⟩ = some (.int .i64 0) := by rw [cell_of_row _ _ 1 _ _ _ HZ.out]; rfl
              have c2 : wz.cell? ⟨Dz, 2, none⟩ = some (.int .i64 0) := by rw [cell_of_row _ _ 2 _ _ _ HZ.out]; rfl
              have f0 : wz.frozen? ⟨Dz, 0, none⟩ = false := by simp [World.frozen?, HZ.out]
              have f1 : wz.frozen? ⟨Dz, 1, none⟩ = false := by simp [World.frozen?, HZ.out]
              have f2 : wz.frozen? ⟨Dz, 2, none⟩ = false := by simp [World.frozen?, HZ.out]
              have HX := hide (set3_row HZ.out (.bool tO) (.int .i64 tN) (.int .i64 tL))
              have HBx := hide (below3 HBz.out HLz.out (.bool tO) (.int .i64 tN) (.int .i64 tL))
              refine spec_step rfl (fun K hK => ?_)
              refine ⟨by rfl, ?_⟩
              unfold upM
              go_simp
              refine ⟨HMK.out _ HBx.out, hK _ _ ?_⟩
              clear hK K c0 c1 c2 f0 f1 f2
              generalize ((wz.setCell ⟨Dz, 0, none⟩ (.bool tO)).setCell ⟨Dz, 1, none⟩ (.int .i64 tN)).setCell ⟨Dz, 2, none⟩ (.int .i64 tL) = wx at *
              refine walkP_read rfl (fun K hK => ?_)
              refine ⟨by rfl, ?_⟩
              unfold isRd
              go_simp
              refine hK _ ?_
              clear hK K
              refine walkP_done ?_
              exact ⟨Dz, rfl, HX.out, HBx.out⟩
            case refine_2 =>
              refine spec_step rfl (fun K hK => ?_)
              refine ⟨by rfl, ?_⟩
              unfold upM
              go_simp
              have HZ0 := hide (heap_alloc_new w4 (.cells #[.bool false, .int .i64 0, .int .i64 0] 27))
              have HBy : Hid (Below w6.heap.size w6 (w4.alloc (.cells #[.bool false, .int .i64 0, .int .i64 0] 27))) := HBD.out.alloc HBD.out.size _
              have HLz : Hid (w6.heap.size ≤ w4.heap.size) := HBD.out.size
              refine ⟨HMK.out _ HBy.out, hK _ _ ?_⟩
              clear hK K
              generalize w4.alloc (.cells #[.bool false, .int .i64 0, .int .i64 0] 27) = wy at *
              generalize w4.heap.size = Dz at *
              refine spec_step rfl (fun K hK => ?_)
              refine ⟨by rfl, ?_⟩
              unfold upM
              go_simp
              refine (HTO.out _ HBy.out).mono ?_
              rintro e wz ⟨rfl, hbz⟩
              have HZ := hide (row_later hbz HZ0.out)
              have HBz : Hid (Below w6.heap.size w6 wz) := HBy.out.trans (hbz.mono HBy.out.size)
              refine ⟨_, rfl, HMK.out _ HBz.out, hK _ _ ?_⟩
              clear hK K hbz HZ0 HBy
              refine walkP_read rfl (fun K hK => ?_)
              refine ⟨by rfl, ?_⟩
              unfold isRd
              go_simp
              refine hK _ ?_
              clear hK K
              refine walkP_read rfl (fun K hK => ?_)
              refine ⟨by rfl, ?_⟩
              unfold isRd
              go_simp
              refine hK _ ?_
              clear hK K
              refine walkP_read rfl (fun K hK => ?_)
              refine ⟨by rfl, ?_⟩
              unfold isRd
              go_simp
              refine hK _ ?_
              clear hK K
              have c0 : wz.cell? ⟨Dz, 0, none⟩ = some (.bool false) := by rw [cell_of_row _ _ 0 _ _ _ HZ.out]; rfl
              have c1 : wz.cell? ⟨Dz, 1, none⟩ = some (.int .i64 0) := by rw [cell_of_row _ _ 1 _ _ _ HZ.out]; rfl
              have c2 : wz.cell? ⟨Dz, 2, none⟩ = some (.int .i64 0) := by rw [cell_of_row _ _ 2 _ _ _ HZ.out]; rfl
              have f0 : wz.frozen? ⟨Dz, 0, none⟩ = false := by simp [World.frozen?, HZ.out]
              have f1 : wz.frozen? ⟨Dz, 1, none⟩ = false := by simp [World.frozen?, HZ.out]
              have f2 : wz.frozen? ⟨Dz, 2, none⟩ = false := by simp [World.frozen?, HZ.out]
              have HX := hide (set3_row HZ.out (.bool tO) (.int .i64 tN) (.int .i64 tL))
              have HBx := hide (below3 HBz.out HLz.out (.bool tO) (.int .i64 tN) (.int .i64 tL))
              refine spec_step rfl (fun K hK => ?_)
              refine ⟨by rfl, ?_⟩
              unfold upM
              go_simp
              refine ⟨HMK.out _ HBx.out, hK _ _ ?_⟩
              clear hK K c0 c1 c2 f0 f1 f2
              generalize ((wz.setCell ⟨Dz, 0, none⟩ (.bool tO)).setCell ⟨Dz, 1, none⟩ (.int .i64 tN)).setCell ⟨Dz, 2, none⟩ (.int .i64 tL) = wx at *
              refine walkP_read rfl (fun K hK => ?_)
              refine ⟨by rfl, ?_⟩
              unfold isRd
              go_simp
              refine hK _ ?_
              clear hK K
              refine walkP_done ?_
              exact ⟨Dz, rfl, HX.out, HBx.out⟩
          intro E w8 ⟨hrE, hb8⟩
          clear hx0 hw4 s0 s1 s2 e0 e1 e2 e3 e4 e5 e6 e7 HMK HBD
          clear x0 hnx
          clear val
          clear XT
          clear HTO HMr
          have HE8 := hide hrE
          have HD8 := hide (row_later hb8 HD6.out); have HR8 := hide (row_later hb8 HR6.out); have HM8 := hide (row_later hb8 HM6.out); have HB8 := hide (HB6.out.trans (hb8.mono HB6.out.size))
          clear hrE hb8 HD6 HR6 HM6 HB6 k0 k1 k2 k3 k4 k5 k6 k7
          go_wp2_with fail
          refine (HCD.out _ HB8.out).mono ?_
          rintro e w9 ⟨rfl, hb9⟩
          have HE := hide (row_later hb9 HE8.out); have HD := hide (row_later hb9 HD8.out); have HR := hide (row_later hb9 HR8.out); have HM := hide (row_later hb9 HM8.out); have HB := hide (HB8.out.trans (hb9.mono HB8.out.size))
          clear hb9 HE8 HD8 HR8 HM8 HB8 HCD
          simp only []
          have d0 : w9.cell? ⟨D, 0, none⟩ = some (.bool tO) := by rw [cell_of_row _ _ 0 _ _ _ HD.out]; rfl
          have d1 : w9.cell? ⟨D, 1, none⟩ = some (.int .i64 tN) := by rw [cell_of_row _ _ 1 _ _ _ HD.out]; rfl
          have d2 : w9.cell? ⟨D, 2, none⟩ = some (.int .i64 tL) := by rw [cell_of_row _ _ 2 _ _ _ HD.out]; rfl
          have e0 : w9.cell? ⟨E, 0, none⟩ = some (.bool tO) := by rw [cell_of_row _ _ 0 _ _ _ HE.out]; rfl
          have e1 : w9.cell? ⟨E, 1, none⟩ = some (.int .i64 tN) := by rw [cell_of_row _ _ 1 _ _ _ HE.out]; rfl
          have e2 : w9.cell? ⟨E, 2, none⟩ = some (.int .i64 tL) := by rw [cell_of_row _ _ 2 _ _ _ HE.out]; rfl
          have b0 : w9.cell? ⟨B, 0, none⟩ = some (.bool on) := by rw [cell_of_row _ _ 0 _ _ _ HR.out]; rfl
          have b1 : w9.cell? ⟨B, 1, none⟩ = some (.int .i64 nx) := by rw [cell_of_row _ _ 1 _ _ _ HR.out]; rfl
          have b2 : w9.cell? ⟨B, 2, none⟩ = some (.int .i64 la) := by rw [cell_of_row _ _ 2 _ _ _ HR.out]; rfl
          have f0 : w9.frozen? ⟨B, 0, none⟩ = false := by simp [World.frozen?, HR.out]
          have f1 : w9.frozen? ⟨B, 1, none⟩ = false := by simp [World.frozen?, HR.out]
          have f2 : w9.frozen? ⟨B, 2, none⟩ = false := by simp [World.frozen?, HR.out]
          have n1 : (tO != tO) = false := by simp
          have n2 : (tN != tN) = false := by simp
          have n3 : (tL != tL) = false := by simp
          have g0 : w9.frozen? ⟨M, 0, none⟩ = false := by simp [World.frozen?, HM.out]
          have g1 : w9.frozen? ⟨M, 1, none⟩ = false := by simp [World.frozen?, HM.out]
          have g2 : w9.frozen? ⟨M, 2, none⟩ = false := by simp [World.frozen?, HM.out]
          have l0 : w9.cell? ⟨M, 0, none⟩ = some (.bool on) := by rw [cell_of_row _ _ 0 _ _ _ HM.out]; rfl
          have l1 : w9.cell? ⟨M, 1, none⟩ = some (.int .i64 nx) := by rw [cell_of_row _ _ 1 _ _ _ HM.out]; rfl
          have l2 : w9.cell? ⟨M, 2, none⟩ = some (.int .i64 la) := by rw [cell_of_row _ _ 2 _ _ _ HM.out]; rfl
          have hEB : ¬ E = B := fun h => by
            have h1 := HE.out
            rw [h, HR.out] at h1
            simp at h1
          have hMB : ¬ M = B := fun h => HNE.out h.symm
          go_wp2
          refine ⟨⟨k + 1, tO, tN, tL, by omega, by go_num, HTL.out, save_row (set3_row HR.out _ _ _) HNE.out _ _ _, set3_row (save_row HM.out hMB _ _ _) _ _ _, below3 (below3 HB.out HBl.out _ _ _) HMl.out _ _ _⟩, by simp [intOf]; omega⟩
    · have hki : ¬ (k : Int) < n := by omega
      go_wp2
      go_ret
      exact ⟨rfl, HBr.out⟩
set_option maxHeartbeats 2000000 in
theorem sessionTakes_any (on0 : Bool) (nx0 la0 : Int) (a a2 : Option Addr) (n cap m cap2 : Nat) (l : List Ask) (zs : List Int) (ad : Nat → Addr) (w : World) (hs : Hid (Sent w ad)) (ha : Hid (ArgAsks w a n l)) (hz : Hid (∀ i, i < m → ∃ g, a2 = some g ∧ w.cell? (g.add i) = some (.int .i64 (zs.getD i 0)))) :
    Calls Tryd.prog 3 #[.bool on0, .int .i64 nx0, .int .i64 la0, .slice a n cap, .slice a2 m cap2] w fun e w' => e = .returned (.bool true) ∧ Below w.heap.size w w' := by
  have HLG := hide (logged_any (T := adT ad) w (hide (ser_sent hs.out)))
  by_cases hn : n ≤ 60
  · have hn' : ¬ (60 : Int) < n := by omega
    by_cases hm : n ≤ m
    · have hm' : ¬ (m : Int) < n := by omega
      by_cases h1 : nx0 < 0
      · go_enter Tryd.func3, Tryd.ntmps3
        go_wp2_with fail
        refine HLG.out.mono ?_
        rintro e w1 ⟨rfl, hb1⟩
        have HB1 := hide hb1
        clear hb1 HLG
        simp only []
        go_wp2
        go_ret
        exact ⟨rfl, HB1.out⟩
      · by_cases h2 : (1099511627776 : Int) < nx0
        · go_enter Tryd.func3, Tryd.ntmps3
          go_wp2_with fail
          refine HLG.out.mono ?_
          rintro e w1 ⟨rfl, hb1⟩
          have HB1 := hide hb1
          clear hb1 HLG
          simp only []
          go_wp2
          go_ret
          exact ⟨rfl, HB1.out⟩
        · by_cases h3 : la0 < 0
          · go_enter Tryd.func3, Tryd.ntmps3
            go_wp2_with fail
            refine HLG.out.mono ?_
            rintro e w1 ⟨rfl, hb1⟩
            have HB1 := hide hb1
            clear hb1 HLG
            simp only []
            go_wp2
            go_ret
            exact ⟨rfl, HB1.out⟩
          · by_cases h4 : (1099511627776 : Int) < la0
            · go_enter Tryd.func3, Tryd.ntmps3
              go_wp2_with fail
              refine HLG.out.mono ?_
              rintro e w1 ⟨rfl, hb1⟩
              have HB1 := hide hb1
              clear hb1 HLG
              simp only []
              go_wp2
              go_ret
              exact ⟨rfl, HB1.out⟩
            · exact takes_loop on0 nx0 la0 a a2 n cap m cap2 l zs ad w hs ha hz hn hm h1 h2 h3 h4
    · have hm' : (m : Int) < n := by omega
      go_enter Tryd.func3, Tryd.ntmps3
      go_wp2_with fail
      refine HLG.out.mono ?_
      rintro e w1 ⟨rfl, hb1⟩
      have HB1 := hide hb1
      clear hb1 HLG
      simp only []
      go_wp2
      go_ret
      exact ⟨rfl, HB1.out⟩
  · have hn' : (60 : Int) < n := by omega
    go_enter Tryd.func3, Tryd.ntmps3
    go_wp2_with fail
    refine HLG.out.mono ?_
    rintro e w1 ⟨rfl, hb1⟩
    have HB1 := hide hb1
    clear hb1 HLG
    simp only []
    go_wp2
    go_ret
    exact ⟨rfl, HB1.out⟩
end Go.Proofs.YtccjlddikinkiaaDoor
