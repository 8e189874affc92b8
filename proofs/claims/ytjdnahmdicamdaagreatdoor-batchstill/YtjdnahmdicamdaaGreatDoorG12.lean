/- Function trade of package batch: it never fails where all that is traded is held. -/
import Derived.BigRegion
import Derived.BigQuiet
import Derived.Sort.WalkC
import Derived.Lib.RowBridge
import Derived.Test.YtjdnahmdicamdaaGreatDoorG11
namespace Go.Proofs.YtjdnahmdicamdaaGreatDoor
open Go.RowKit
set_option maxRecDepth 100000

def lenV : Value → Nat
  | .slice _ n _ => n
  | _ => 0
theorem OwnL.len {w : World} {g : Nat} {v : Value} {l : List Cv.Lot} (h : OwnL w g v l) : lenV v = l.length := by
  rcases h with ⟨rfl, a, cap, rfl⟩ | ⟨o, cap, cur, rfl, _⟩ <;> rfl
theorem OwnL.val {w : World} {g : Nat} {v : Value} {l : List Cv.Lot} (h : OwnL w g v l) : ∃ a cap, v = .slice a l.length cap := by
  rcases h with ⟨rfl, a, cap, rfl⟩ | ⟨o, cap, cur, rfl, _⟩
  · exact ⟨a, cap, rfl⟩
  · exact ⟨_, _, rfl⟩
theorem wo_len {x : Cv.Lot} {l : List Cv.Lot} {q : Int} : (Fs.wo (x :: l) q).length = if x.q - q = 0 then l.length else l.length + 1 := by
  rw [Fs.wo_cons]; split <;> simp

structure TR (w : World) (B p gb gs i : Nat) (price : Int) (G f0 : Nat → Int) (vb vs : Value) (wr : World) : Prop where
  ex : ∃ f bs ss, OwnL wr gb vb bs ∧ OwnL wr gs vs ss ∧ Purse wr 105 p f ∧ Fs.TI i price G f bs ss ∧ bs.length ≤ 200 ∧ ss.length ≤ 200 ∧ Pu.cashes f 6 = Pu.cashes f0 6 ∧ ∀ k, k < 3 → Pu.stocks f k 6 = Pu.stocks f0 k 6
  bl : Below B w wr
theorem OwnL.blk {w : World} {g : Nat} {v : Value} {x : Cv.Lot} {l : List Cv.Lot} (h : OwnL w g v (x :: l)) {p : Nat} {f : Nat → Int} (hp : Purse w 105 p f) : g ≠ p := by
  obtain ⟨o, cap, cur, _, _, _, hg⟩ := h.head
  exact blkT hg hp (by decide)

set_option maxHeartbeats 1000000 in
theorem trades_any (p i B gb gs : Nat) (price : Int) (vb vs : Value) (bs ss : List Cv.Lot) (f G : Nat → Int) (ev : Nat → Value) (w : World) (hi : i < 3) (hp1 : 1 ≤ price) (hp2 : price ≤ 1000) (he : Hid (∀ W, Below B w W → AEr W ev))
    (hB : Hid (B ≤ w.heap.size ∧ B ≤ p ∧ B ≤ gb ∧ B ≤ gs)) (hne : Hid (gb ≠ gs)) (hob : Hid (OwnL w gb vb bs)) (hos : Hid (OwnL w gs vs ss)) (hpu : Hid (Purse w 105 p f)) (hti : Hid (Fs.TI i price G f bs ss)) (hlb : Hid (bs.length ≤ 200)) (hls : Hid (ss.length ≤ 200)) :
    Calls Tryz.prog 89 #[.pointer (some ⟨p, 0, none⟩), .int .i64 i, .int .i64 price, vb, vs] w fun e w' => e = .returned .nilIface ∧ (Purse w' 105 p G ∧ Pu.Good G ∧ Pu.cashes G 6 = Pu.cashes f 6 ∧ ∀ k, k < 3 → Pu.stocks G k 6 = Pu.stocks f k 6) ∧ Below B w w' := by
  have HR : Hid (TR w B p gb gs i price G f vb vs w) := ⟨⟨f, bs, ss, hob.out, hos.out, hpu.out, hti.out, hlb.out, hls.out, rfl, fun _ _ => rfl⟩, Below.refl _ _⟩
  clear hob hos hpu hti hlb hls
  go_enter Tryz.func89, Tryz.ntmps89
  go_wp2
  go_loopw [3, 4] (fun u x wr => TR w B p gb gs i price G f u x wr) (fun u x _ => lenV u + lenV x)
  case atStart => exact HR.out
  case round =>
    rename_i ub us wr
    obtain ⟨⟨f1, b1, s1, hb1, hs1, hpu1, hti1, hlb1, hls1, hca1, hst1⟩, hbl⟩ := hrel
    have HB1 := hide hb1; have HS1 := hide hs1; have HP1 := hide hpu1; have HT1 := hide hti1; have HLB := hide hlb1; have HLS := hide hls1; have HCA := hide hca1; have HST := hide hst1; have HBL := hide hbl
    clear hb1 hs1 hpu1 hti1 hlb1 hls1 hca1 hst1 hbl HR
    have done : (b1 = [] ∨ s1 = []) → f1 = G := fun h => funext (HT1.out.done h)
    have HD := hide done
    clear done
    cases b1 with
    | nil =>
      obtain ⟨ab, cb, rfl⟩ := HB1.out.val
      obtain ⟨as', cs, rfl⟩ := HS1.out.val
      have e := HD.out (.inl rfl)
      subst e
      rw [show ([] : List Cv.Lot).length = 0 from rfl]
      go_wp2
      go_ret
      exact ⟨rfl, ⟨HP1.out, HT1.out.good, HCA.out, HST.out⟩, HBL.out⟩
    | cons x bt =>
      cases s1 with
      | nil =>
        obtain ⟨ob, cb, curb, rfl, hcb, hLb, hgb⟩ := HB1.out.head
        obtain ⟨as', cs, rfl⟩ := HS1.out.val
        have e := HD.out (.inr rfl)
        subst e
        rw [show ([] : List Cv.Lot).length = 0 from rfl]
        have hpos : (0 : Int) < ((bt.length + 1 : Nat) : Int) := by omega
        generalize bt.length = m at *
        go_wp2
        go_ret
        exact ⟨rfl, ⟨HP1.out, HT1.out.good, HCA.out, HST.out⟩, HBL.out⟩
      | cons y st =>
        obtain ⟨ob, cb, curb, rfl, hcb, hLb, hgb⟩ := HB1.out.head
        obtain ⟨os, cs, curs, rfl, hcs, hLs, hgs⟩ := HS1.out.head
        obtain ⟨xb0, xb1, xb2, xb3, xb4⟩ := lotsAt_head hLb
        obtain ⟨ys0, ys1, ys2, ys3, ys4⟩ := lotsAt_head hLs
        have hposb : (0 : Int) < ((bt.length + 1 : Nat) : Int) := by omega
        have hposs : (0 : Int) < ((st.length + 1 : Nat) : Int) := by omega
        have hxq := Cv.ok_bounds (Pu.well_ok (HT1.out.wb x (List.mem_cons_self ..)).1)
        have hyq := Cv.ok_bounds (Pu.well_ok (HT1.out.ws y (List.mem_cons_self ..)).1)
        obtain ⟨qx1, qx2⟩ := hxq.2.2.2.2
        obtain ⟨qy1, qy2⟩ := hyq.2.2.2.2
        clear hxq hyq hLb hLs hgb hgs HD
        obtain ⟨mb, hmb⟩ : ∃ mb, bt.length = mb := ⟨_, rfl⟩
        obtain ⟨ms, hms⟩ : ∃ ms, st.length = ms := ⟨_, rfl⟩
        rw [hmb] at hposb hcb HB1 ⊢
        rw [hms] at hposs hcs HS1 ⊢
        have HMB := hide hmb; have HMS := hide hms
        clear hmb hms
        rcases Int.lt_or_le y.q x.q with hlt | hle
        · have HQ : Hid (y.q = min x.q y.q) := by show _ = _; omega
          go_wp2_with fail
          refine region_quiet_tail 8 (by kernel_rfl) (by kernel_rfl) ?_
          simp only [List.take_succ_cons, List.take_zero, List.drop_succ_cons, List.drop_zero]
          repeat (first | go_big_quiet_step (fail) | quiet_step (fail))
          refine wpQuiet_nil ?_
          intro _ hw'
          obtain ⟨nq, hw''⟩ := hw'
          subst hw''
          have HBq := hide (HBL.out.trans ((blw_drew nq : Below wr.heap.size wr (wr.drewN nq)).mono (Nat.le_trans hB.out.1 HBL.out.size)))
          have HB2 : Hid (OwnL (wr.drewN nq) gb (.slice (some ⟨gb, ob, none⟩) (mb + 1) cb) (x :: bt)) := HB1.out
          have HS2 : Hid (OwnL (wr.drewN nq) gs (.slice (some ⟨gs, os, none⟩) (ms + 1) cs) (y :: st)) := HS1.out
          have HP2 : Hid (Purse (wr.drewN nq) 105 p f1) := HP1.out
          have xb0' : (wr.drewN nq).cell? ⟨gb, ob, none⟩ = some (.int .i64 x.id) := xb0
          have xb1' : (wr.drewN nq).cell? ⟨gb, ob + 1, none⟩ = some (.int .i64 x.ow) := xb1
          have xb2' : (wr.drewN nq).cell? ⟨gb, ob + 2, none⟩ = some (.int .i64 x.sd) := xb2
          have xb3' : (wr.drewN nq).cell? ⟨gb, ob + 3, none⟩ = some (.int .i64 x.pr) := xb3
          have xb4' : (wr.drewN nq).cell? ⟨gb, ob + 4, none⟩ = some (.int .i64 x.q) := xb4
          have ys0' : (wr.drewN nq).cell? ⟨gs, os, none⟩ = some (.int .i64 y.id) := ys0
          have ys1' : (wr.drewN nq).cell? ⟨gs, os + 1, none⟩ = some (.int .i64 y.ow) := ys1
          have ys2' : (wr.drewN nq).cell? ⟨gs, os + 2, none⟩ = some (.int .i64 y.sd) := ys2
          have ys3' : (wr.drewN nq).cell? ⟨gs, os + 3, none⟩ = some (.int .i64 y.pr) := ys3
          have ys4' : (wr.drewN nq).cell? ⟨gs, os + 4, none⟩ = some (.int .i64 y.q) := ys4
          clear HBL HB1 HS1 HP1 xb0 xb1 xb2 xb3 xb4 ys0 ys1 ys2 ys3 ys4
          generalize wr.drewN nq = w1 at *
          go_wp2_with fail
          refine region_quiet_tail 10 (by kernel_rfl) (by kernel_rfl) ?_
          simp only [List.take_succ_cons, List.take_zero, List.drop_succ_cons, List.drop_zero]
          repeat (first | go_big_quiet_step (fail) | quiet_step (fail))
          refine wpQuiet_nil ?_
          intro _ hw'
          obtain ⟨nq, hw''⟩ := hw'
          subst hw''
          have HBL := hide (HBq.out.trans ((blw_drew nq : Below w1.heap.size w1 (w1.drewN nq)).mono (Nat.le_trans hB.out.1 HBq.out.size)))
          have HB3 : Hid (OwnL (w1.drewN nq) gb (.slice (some ⟨gb, ob, none⟩) (mb + 1) cb) (x :: bt)) := HB2.out
          have HS3 : Hid (OwnL (w1.drewN nq) gs (.slice (some ⟨gs, os, none⟩) (ms + 1) cs) (y :: st)) := HS2.out
          have HP3 : Hid (Purse (w1.drewN nq) 105 p f1) := HP2.out
          clear HBq HB2 HS2 HP2 xb0' xb1' xb2' xb3' xb4' ys0' ys1' ys2' ys3' ys4'
          generalize w1.drewN nq = w2 at *
          obtain ⟨hC, hTI⟩ := HT1.out.step hi ⟨hp1, hp2⟩ HQ.out
          have hTR := trade_any p i x y price y.q f1 ev w2 (he.out _ HBL.out).ter HP3.out HT1.out.good
          rw [hC] at hTR
          rw [show errE ev 0 = .nilIface from rfl] at hTR
          have hsum := Pu.trade_sums f1 i x y price y.q
          have HTI := hide hTI; have HTR := hide hTR; have HSUM := hide hsum
          have hgbp := HB3.out.blk HP3.out
          have hgsp := HS3.out.blk HP3.out
          have HGB := hide hgbp; have HGS := hide hgsp
          clear hC hTI hTR hsum hgbp hgsp
          unfold lotV at HTR
          go_wp2_with fail
          refine HTR.out.mono ?_
          rintro e w3 ⟨rfl, hp3, hs3⟩
          have HBL3 := hide (HBL.out.trans (hs3.below (Nat.le_trans hB.out.1 HBL.out.size) hB.out.2.1))
          have HP4 := hide hp3
          have HB4 := hide (HB3.out.save hs3 HGB.out)
          have HS4 := hide (HS3.out.save hs3 HGS.out)
          clear hp3 hs3 HTR HBL HB3 HS3 HP3
          generalize Pu.tradeF f1 i x y price y.q = f2 at *
          simp only []
          have hlb := HLB.out
          have hls := HLS.out
          simp only [List.length_cons] at hlb hls
          have HWb := hide (without_any gb _ x bt y.q w3 HB4.out qx1 qx2 (by omega) (by omega) (by omega))
          go_wp2_with fail
          refine HWb.out.mono ?_
          rintro e w4 ⟨vb4, rfl, hb4, hs4⟩
          have HBL4 := hide (HBL3.out.trans (hs4.below (Nat.le_trans hB.out.1 HBL3.out.size) hB.out.2.2.1))
          have HP5 := hide (HP4.out.save hs4 (Ne.symm HGB.out))
          have HS5 := hide (HS4.out.save hs4 (Ne.symm hne.out))
          have HB5 := hide hb4
          clear hb4 hs4 HWb HBL3 HP4 HB4 HS4
          simp only []
          have HWs := hide (without_any gs _ y st y.q w4 HS5.out qy1 qy2 (by omega) (by omega) (by omega))
          go_wp2_with fail
          refine HWs.out.mono ?_
          rintro e w5 ⟨vs5, rfl, hb5, hs5⟩
          have HBL5 := hide (HBL4.out.trans (hs5.below (Nat.le_trans hB.out.1 HBL4.out.size) hB.out.2.2.2))
          have HP6 := hide (HP5.out.save hs5 (Ne.symm HGS.out))
          have HB6 := hide (HB5.out.save hs5 hne.out)
          have HS6 := hide hb5
          clear hb5 hs5 HWs HBL4 HP5 HB5 HS5
          simp only []
          have hl1 := HB6.out.len
          have hl2 := HS6.out.len
          rw [wo_len] at hl1 hl2
          go_wp2_with fail
          refine ⟨⟨⟨f2, _, _, HB6.out, HS6.out, HP6.out, HTI.out, ?_, ?_, ?_, ?_⟩, HBL5.out⟩, ?_⟩
          · rw [wo_len]; split <;> omega
          · rw [wo_len]; split <;> omega
          · rw [HSUM.out.1]; exact HCA.out
          · intro k hk; rw [HSUM.out.2 k hk]; exact HST.out k hk
          · have hqq := HQ.out
            show lenV vb4 + lenV vs5 < (mb + 1) + (ms + 1)
            rw [hl1, hl2, HMB.out, HMS.out]
            split <;> split <;> omega
        · have HQ : Hid (x.q = min x.q y.q) := by show _ = _; omega
          go_wp2_with fail
          refine region_quiet_tail 8 (by kernel_rfl) (by kernel_rfl) ?_
          simp only [List.take_succ_cons, List.take_zero, List.drop_succ_cons, List.drop_zero]
          repeat (first | go_big_quiet_step (fail) | quiet_step (fail))
          refine wpQuiet_nil ?_
          intro _ hw'
          obtain ⟨nq, hw''⟩ := hw'
          subst hw''
          have HBq := hide (HBL.out.trans ((blw_drew nq : Below wr.heap.size wr (wr.drewN nq)).mono (Nat.le_trans hB.out.1 HBL.out.size)))
          have HB2 : Hid (OwnL (wr.drewN nq) gb (.slice (some ⟨gb, ob, none⟩) (mb + 1) cb) (x :: bt)) := HB1.out
          have HS2 : Hid (OwnL (wr.drewN nq) gs (.slice (some ⟨gs, os, none⟩) (ms + 1) cs) (y :: st)) := HS1.out
          have HP2 : Hid (Purse (wr.drewN nq) 105 p f1) := HP1.out
          have xb0' : (wr.drewN nq).cell? ⟨gb, ob, none⟩ = some (.int .i64 x.id) := xb0
          have xb1' : (wr.drewN nq).cell? ⟨gb, ob + 1, none⟩ = some (.int .i64 x.ow) := xb1
          have xb2' : (wr.drewN nq).cell? ⟨gb, ob + 2, none⟩ = some (.int .i64 x.sd) := xb2
          have xb3' : (wr.drewN nq).cell? ⟨gb, ob + 3, none⟩ = some (.int .i64 x.pr) := xb3
          have xb4' : (wr.drewN nq).cell? ⟨gb, ob + 4, none⟩ = some (.int .i64 x.q) := xb4
          have ys0' : (wr.drewN nq).cell? ⟨gs, os, none⟩ = some (.int .i64 y.id) := ys0
          have ys1' : (wr.drewN nq).cell? ⟨gs, os + 1, none⟩ = some (.int .i64 y.ow) := ys1
          have ys2' : (wr.drewN nq).cell? ⟨gs, os + 2, none⟩ = some (.int .i64 y.sd) := ys2
          have ys3' : (wr.drewN nq).cell? ⟨gs, os + 3, none⟩ = some (.int .i64 y.pr) := ys3
          have ys4' : (wr.drewN nq).cell? ⟨gs, os + 4, none⟩ = some (.int .i64 y.q) := ys4
          clear HBL HB1 HS1 HP1 xb0 xb1 xb2 xb3 xb4 ys0 ys1 ys2 ys3 ys4
          generalize wr.drewN nq = w1 at *
          go_wp2_with fail
          refine region_quiet_tail 10 (by kernel_rfl) (by kernel_rfl) ?_
          simp only [List.take_succ_cons, List.take_zero, List.drop_succ_cons, List.drop_zero]
          repeat (first | go_big_quiet_step (fail) | quiet_step (fail))
          refine wpQuiet_nil ?_
          intro _ hw'
          obtain ⟨nq, hw''⟩ := hw'
          subst hw''
          have HBL := hide (HBq.out.trans ((blw_drew nq : Below w1.heap.size w1 (w1.drewN nq)).mono (Nat.le_trans hB.out.1 HBq.out.size)))
          have HB3 : Hid (OwnL (w1.drewN nq) gb (.slice (some ⟨gb, ob, none⟩) (mb + 1) cb) (x :: bt)) := HB2.out
          have HS3 : Hid (OwnL (w1.drewN nq) gs (.slice (some ⟨gs, os, none⟩) (ms + 1) cs) (y :: st)) := HS2.out
          have HP3 : Hid (Purse (w1.drewN nq) 105 p f1) := HP2.out
          clear HBq HB2 HS2 HP2 xb0' xb1' xb2' xb3' xb4' ys0' ys1' ys2' ys3' ys4'
          generalize w1.drewN nq = w2 at *
          obtain ⟨hC, hTI⟩ := HT1.out.step hi ⟨hp1, hp2⟩ HQ.out
          have hTR := trade_any p i x y price x.q f1 ev w2 (he.out _ HBL.out).ter HP3.out HT1.out.good
          rw [hC] at hTR
          rw [show errE ev 0 = .nilIface from rfl] at hTR
          have hsum := Pu.trade_sums f1 i x y price x.q
          have HTI := hide hTI; have HTR := hide hTR; have HSUM := hide hsum
          have hgbp := HB3.out.blk HP3.out
          have hgsp := HS3.out.blk HP3.out
          have HGB := hide hgbp; have HGS := hide hgsp
          clear hC hTI hTR hsum hgbp hgsp
          unfold lotV at HTR
          go_wp2_with fail
          refine HTR.out.mono ?_
          rintro e w3 ⟨rfl, hp3, hs3⟩
          have HBL3 := hide (HBL.out.trans (hs3.below (Nat.le_trans hB.out.1 HBL.out.size) hB.out.2.1))
          have HP4 := hide hp3
          have HB4 := hide (HB3.out.save hs3 HGB.out)
          have HS4 := hide (HS3.out.save hs3 HGS.out)
          clear hp3 hs3 HTR HBL HB3 HS3 HP3
          generalize Pu.tradeF f1 i x y price x.q = f2 at *
          simp only []
          have hlb := HLB.out
          have hls := HLS.out
          simp only [List.length_cons] at hlb hls
          have HWb := hide (without_any gb _ x bt x.q w3 HB4.out qx1 qx2 (by omega) (by omega) (by omega))
          go_wp2_with fail
          refine HWb.out.mono ?_
          rintro e w4 ⟨vb4, rfl, hb4, hs4⟩
          have HBL4 := hide (HBL3.out.trans (hs4.below (Nat.le_trans hB.out.1 HBL3.out.size) hB.out.2.2.1))
          have HP5 := hide (HP4.out.save hs4 (Ne.symm HGB.out))
          have HS5 := hide (HS4.out.save hs4 (Ne.symm hne.out))
          have HB5 := hide hb4
          clear hb4 hs4 HWb HBL3 HP4 HB4 HS4
          simp only []
          have HWs := hide (without_any gs _ y st x.q w4 HS5.out qy1 qy2 (by omega) (by omega) (by omega))
          go_wp2_with fail
          refine HWs.out.mono ?_
          rintro e w5 ⟨vs5, rfl, hb5, hs5⟩
          have HBL5 := hide (HBL4.out.trans (hs5.below (Nat.le_trans hB.out.1 HBL4.out.size) hB.out.2.2.2))
          have HP6 := hide (HP5.out.save hs5 (Ne.symm HGS.out))
          have HB6 := hide (HB5.out.save hs5 hne.out)
          have HS6 := hide hb5
          clear hb5 hs5 HWs HBL4 HP5 HB5 HS5
          simp only []
          have hl1 := HB6.out.len
          have hl2 := HS6.out.len
          rw [wo_len] at hl1 hl2
          go_wp2_with fail
          refine ⟨⟨⟨f2, _, _, HB6.out, HS6.out, HP6.out, HTI.out, ?_, ?_, ?_, ?_⟩, HBL5.out⟩, ?_⟩
          · rw [wo_len]; split <;> omega
          · rw [wo_len]; split <;> omega
          · rw [HSUM.out.1]; exact HCA.out
          · intro k hk; rw [HSUM.out.2 k hk]; exact HST.out k hk
          · have hqq := HQ.out
            show lenV vb4 + lenV vs5 < (mb + 1) + (ms + 1)
            rw [hl1, hl2, HMB.out, HMS.out]
            split <;> split <;> omega
end Go.Proofs.YtjdnahmdicamdaaGreatDoor
/- Shuffle by its contract: so many in another order. -/
namespace Go.Proofs.YtjdnahmdicamdaaGreatDoor
open Go.RowKit
set_option maxRecDepth 100000

theorem info3 : ∃ i, Tryz.prog.info? 3 = some i ∧ i.zero = some (.int .i64 0) ∧ i.size = 1 ∧ i.bytes = 8 := ⟨_, rfl, rfl, rfl, rfl⟩
def upto (k : Nat) : List Value := (List.range k).map fun i => .int .i64 (Int.ofNat i)
theorem upto_succ (k : Nat) : upto (k + 1) = upto k ++ [.int .i64 (k : Int)] := by simp [upto, List.range_succ]
theorem holds_of_row {w : World} {base g n cap : Nat} {zs : List Int} (h : w.ownsRow base 3 1 (.slice (some ⟨g, 0, none⟩) n cap) n (zs.map fun z => .int .i64 z)) : Sort.Holds (Value.int .i64) w g 0 zs.toArray := by
  intro j hj
  have hj : j < zs.length := by simpa using hj
  have hc := World.ownsRow.cells h (g := g) rfl j (.int .i64 zs[j]) (by simp [hj])
  have hp : (⟨g, 0, none⟩ : Addr).add j = ⟨g, j, none⟩ := by unfold Addr.add; split <;> simp_all
  rw [hp] at hc
  rw [Nat.zero_add]
  refine ⟨by rw [hc]; simp [hj], ?_⟩
  rcases h.2 with ⟨e, _⟩ | ⟨g', cap', cur, e, _, hg, _⟩
  · cases e
  · simp only [Value.slice.injEq, Option.some.injEq, Addr.mk.injEq, and_true, true_and] at e
    rw [e.1]
    exact frozen_of_row w g' j cur 3 hg
theorem holds_later {w w' : World} {blk : Nat} {d : Array Int} (h : Sort.Holds (Value.int .i64) w blk 0 d) (hb : Below w.heap.size w w') (hl : blk < w.heap.size) : Sort.Holds (Value.int .i64) w' blk 0 d := by
  intro j hj
  exact ⟨cell_later hb (h j hj).1, by rw [hb.frozen (p := ⟨blk, 0 + j, none⟩) hl]; exact (h j hj).2⟩
theorem putRow_below {w : World} {B : Nat} {blk n : Nat} {d : Array Int} (hB : B ≤ blk) : Below B w ((Sort.putRow (Value.int .i64) w blk 0 d).drewN n) := by
  refine ⟨rfl, rfl, rfl, ?_, fun k hk => ?_⟩
  · show w.heap.size ≤ (Sort.putRow (Value.int .i64) w blk 0 d).heap.size
    rw [Sort.size_putRow]; exact Nat.le_refl _
  · show (w.heap.modify blk _)[k]? = w.heap[k]?
    rw [Array.getElem?_modify, if_neg (by omega)]
/-- a slice of the call's own that holds an order -/
def Order (w : World) (base : Nat) (v : Value) (d : Array Int) : Prop :=
  (d.size = 0 ∧ v = .slice none 0 0) ∨ ∃ g cap, v = .slice (some ⟨g, 0, none⟩) d.size cap ∧ base ≤ g ∧ g < w.heap.size ∧ ∀ i, i < d.size → w.cell? ⟨g, i, none⟩ = some (.int .i64 d[i]!)
theorem Order.later {w w' : World} {base : Nat} {v : Value} {d : Array Int} (h : Order w base v d) (hb : Below w.heap.size w w') : Order w' base v d := by
  rcases h with h | ⟨g, cap, h1, h2, h3, h4⟩
  · exact .inl h
  · exact .inr ⟨g, cap, h1, h2, Nat.lt_of_lt_of_le h3 hb.size, fun i hi => cell_later hb (h4 i hi)⟩

set_option maxHeartbeats 1000000 in
theorem shuffle_any (s : Int) (n m : Nat) (hs : Hid (Ra.IsU s)) (hn' : n ≤ 1000) (hm : (n : Int) - 1 = m) (w : World) :
    Calls Tryz.prog 136 #[.int .i64 (n : Int), .int .u32 s] w fun e w' => ∃ v, e = .returned v ∧ Order w' w.heap.size v (Ra.shuf s n m) ∧ Below w.heap.size w w' := by
  obtain ⟨i0, hi, hz0, hz1, hz2⟩ := info3
  have Hi := hide hi; have Hz0 := hide hz0; have Hz1 := hide hz1; have Hz2 := hide hz2
  clear hi hz0 hz1 hz2
  have hmin : (n : Int) ≤ 1000 := by omega
  have hmn : n = m + 1 := by omega
  have HMN := hide hmn
  clear hmn
  go_enter Tryz.func136, Tryz.ntmps136
  go_wp2
  go_loopw [5, 14] (fun v i wr => ∃ k : Nat, k ≤ n ∧ i = .int .i64 k ∧ wr.ownsRow w.heap.size 3 1 v k (upto k) ∧ Below w.heap.size w wr) (fun _ i _ => n - (intOf i).toNat)
  case atStart => exact ⟨0, Nat.zero_le _, rfl, World.ownsRow_nil _ _ _ _, Below.refl _ _⟩
  case round =>
    obtain ⟨k, hk, rfl, hown, hb⟩ := hrel
    have HB := hide hb; have HO := hide hown
    clear hb hown
    by_cases hlt : k < n
    · have hki : (k : Int) < n := by omega
      go_wp2_with (at_builtin; refine wpList_append_own _ rfl _ _ 144 rfl w.heap.size 3 i0 (.int .i64 0) 1 8 Tryz.underlying144 Hi.out Hz0.out Hz1.out Hz2.out rfl (by decide) _ _ _ rfl (HO.out.alloc _) ⟨wr.heap.size, 0, none⟩ 1 1 [.int .i64 (k : Int)] rfl rfl ?c1 ?c2 ?c3 ?c4 ?c5 ?_)
      case c1 => exact fun j u hj => cell_new1 wr _ _ u j _ rfl hj
      case c2 => intro u hu; have hu : u = .int .i64 (k : Int) := by simpa using hu
                 rw [hu]; rfl
      case c3 => unfold maxLen; omega
      case c4 => omega
      case c5 => have := HB.out.size; simp; omega
      intro v3 w3 hown' hgrow _
      have HO3 : Hid (w3.ownsRow w.heap.size 3 1 v3 (k + 1) (upto (k + 1))) := by
        show w3.ownsRow _ _ _ _ _ _
        rw [upto_succ]
        exact hown'
      have HB3 : Hid (Below w.heap.size w w3) := (HB.out.alloc HB.out.size _).grown hgrow (by have := HB.out.size; simp; omega) (fun j hj => by
        rcases HO.out.2 with ⟨e, _⟩ | ⟨g, cap, cur, e, hg, _⟩
        · rw [e] at hj; cases hj
        · rw [e] at hj; cases hj; exact hg)
      clear hown' hgrow HO HB
      go_wp2
      exact ⟨⟨k + 1, by omega, by go_num, HO3.out, HB3.out⟩, by simp [intOf]; omega⟩
    · have hki : ¬ (k : Int) < n := by omega
      obtain rfl : k = n := by omega
      have hown := HO.out
      rcases hown.2 with ⟨_, e2⟩ | ⟨g, cap, cur, rfl, hg1, hg2, _⟩
      · have := HMN.out; omega
      have hgl : g < wr.heap.size := (Array.getElem?_eq_some_iff.1 hg2).1
      have HH : Hid (Sort.Holds (Value.int .i64) wr g 0 (Ra.shuf s k 0)) := holds_of_row (zs := (List.range k).map Int.ofNat) (by simpa [upto, Function.comp_def] using hown)
      have HG : Hid (w.heap.size ≤ g ∧ g < wr.heap.size) := ⟨hg1, hgl⟩
      clear HO hown hg1 hg2 hgl
      go_wp2_with fail
      refine (stream_any s m hs.out (by have := HMN.out; omega) wr).mono ?_
      rintro e w1 ⟨v1, rfl, hw1, hb1⟩
      have HW1 := hide hw1
      have HB1 := hide (HB.out.trans (hb1.mono HB.out.size))
      have HH1 : Hid (Sort.Holds (Value.int .i64) w1 g 0 (Ra.shuf s k 0)) := holds_later HH.out hb1 HG.out.2
      have HS : Hid (wr.heap.size ≤ w1.heap.size) := hb1.size
      clear hw1 hb1 HH HB
      have HD : Hid ((Ra.shuf s k m).size = k) := Ra.shuf_size s k m
      rcases HW1.out with ⟨hm0, a1, cap1, rfl⟩ | ⟨b, cap1, rfl, hb1, hb2, hcs⟩
      · have HM0 := hide hm0
        obtain ⟨v, hv⟩ : ∃ v : Value, v = .slice (some ⟨g, 0, none⟩) k cap := ⟨_, rfl⟩
        have HR : Hid (Order w1 w.heap.size (.slice (some ⟨g, 0, none⟩) k cap) (Ra.shuf s k m)) := by
          refine .inr ⟨g, cap, by rw [HD.out], HG.out.1, Nat.lt_of_lt_of_le HG.out.2 HS.out, fun i hi => ?_⟩
          rw [hm0] at hi ⊢
          have := (HH1.out i hi).1
          rwa [Nat.zero_add] at this
        clear hm0 hv HW1 HH1
        simp only []
        go_wp2
        refine wp_loop_rounds 1 ?_
        rw [rounds_succ]
        go_wp2
        go_ret
        exact ⟨_, rfl, HR.out, HB1.out⟩
      · have HC := hide hcs; have HBB : Hid (wr.heap.size ≤ b ∧ b < w1.heap.size) := ⟨hb1, hb2⟩
        clear hcs hb1 hb2 HW1
        simp only []
        go_wp2
        go_loopw [29] (fun i wx => ∃ q j : Nat, j ≤ m ∧ i = .int .i64 j ∧ wx = (Sort.putRow (Value.int .i64) w1 g 0 (Ra.shuf s k j)).drewN q) (fun i _ => m - (intOf i).toNat)
        case atStart => exact ⟨0, 0, Nat.zero_le _, rfl, (Sort.putRow_self _ _ _ _ _ HH1.out).symm⟩
        case round =>
          obtain ⟨q, j, hj, rfl, hwx⟩ := hrel
          have HX := hide hwx
          by_cases hlt : j < m
          · have hji : (j : Int) < m := by omega
            obtain ⟨i, hi⟩ : ∃ i : Nat, (m : Int) - (j : Int) = i := ⟨m - j, by omega⟩
            obtain ⟨x, hx⟩ : ∃ x, Ra.num s (j + 1) = x := ⟨_, rfl⟩
            obtain ⟨hx0, hx1⟩ : Ra.IsU x := by rw [← hx]; exact Ra.num_u hs.out _
            have hil : i < 1000 := by have := HMN.out; omega
            have cw : wr.cell? ⟨b, j, none⟩ = some (.int .u32 x) := by
              rw [hwx, ← hx, ← HC.out j hlt]
              exact Sort.cell?_putRow_other _ _ _ _ _ _ (.inl (by have := HBB.out.1; have := HG.out.2; show b ≠ g; omega))
            obtain ⟨t, ht⟩ : ∃ t : Nat, x % ((i : Int) + 1) = t := ⟨(x % ((i : Int) + 1)).toNat, by have := Int.emod_nonneg x (b := (i : Int) + 1) (by omega); omega⟩
            have htl : t ≤ i := by have := Int.emod_lt_of_pos x (b := (i : Int) + 1) (by omega); omega
            have hik : (i : Int) < k := by have := HMN.out; omega
            have htk : (t : Int) < k := by have := HMN.out; omega
            have Hsz := Ra.shuf_size s k j
            have hH := Sort.holds_putRow (Value.int .i64) w1 g 0 (Ra.shuf s k 0) (Ra.shuf s k j) HH1.out (by rw [Ra.shuf_size, Ra.shuf_size])
            obtain ⟨ci, fi⟩ := hH i (by rw [Hsz]; omega)
            obtain ⟨ct, ft⟩ := hH t (by rw [Hsz]; omega)
            obtain ⟨xi, hxi⟩ : ∃ y, (Ra.shuf s k j)[i]! = y := ⟨_, rfl⟩
            obtain ⟨xt, hxt⟩ : ∃ y, (Ra.shuf s k j)[t]! = y := ⟨_, rfl⟩
            rw [Nat.zero_add, hxi] at ci
            rw [Nat.zero_add, hxt] at ct
            rw [Nat.zero_add] at fi ft
            have ci' : wr.cell? ⟨g, i, none⟩ = some (.int .i64 xi) := by rw [hwx]; exact ci
            have ct' : wr.cell? ⟨g, t, none⟩ = some (.int .i64 xt) := by rw [hwx]; exact ct
            have fi' : wr.frozen? ⟨g, i, none⟩ = false := by rw [hwx]; exact fi
            have ft' : wr.frozen? ⟨g, t, none⟩ = false := by rw [hwx]; exact ft
            have HXE := hide hx; have HT := hide ht; have HXI := hide hxi; have HXT := hide hxt; have HSZ := hide Hsz
            clear hwx hx ci ct fi ft hxi hxt Hsz hH
            have HS2 : Hid (((wr.setCell ⟨g, i, none⟩ (.int .i64 xt)).setCell ⟨g, t, none⟩ (.int .i64 xi)).drew = (Sort.putRow (Value.int .i64) w1 g 0 (Ra.shuf s k (j + 1))).drewN (q + 1)) := by
              show _ = _
              have e1 : Ra.shuf s k (j + 1) = Sort.swp (Ra.shuf s k j) i t := by
                have h1 : k - 1 - j = i := by have := HMN.out; omega
                have h2 : ((k - j : Nat) : Int) = (i : Int) + 1 := by have := HMN.out; omega
                rw [Ra.shuf, h1, h2, HXE.out, HT.out, Int.toNat_natCast]
              rw [e1, ← swap_worldC (Value.int .i64) w1 g 0 (Ra.shuf s k j) q i t (by rw [HSZ.out]; omega) (by rw [HSZ.out]; omega), HXI.out, HXT.out, ← HX.out, Nat.zero_add, Nat.zero_add]
            by_cases hit : t = i
            · subst hit
              have hxx : xi = xt := by rw [← HXI.out, ← HXT.out]
              subst hxx
              have cs : (wr.setCell ⟨g, t, none⟩ (.int .i64 xi)).cell? ⟨g, t, none⟩ = some (.int .i64 xi) := World.cell?_setCell_same _ _ _ ct'
              go_wp2_with fail
              go_region
              go_wp2
              exact ⟨⟨q + 1, j + 1, by omega, by go_num, HS2.out⟩, by simp [intOf]; omega⟩
            · have cs : (wr.setCell ⟨g, i, none⟩ (.int .i64 xt)).cell? ⟨g, t, none⟩ = some (.int .i64 xt) := by
                rw [World.cell?_setCell_other _ _ _ _ (by intro e; injection e with _ e2; exact hit e2.symm)]; exact ct'
              go_wp2_with fail
              go_region
              go_wp2
              exact ⟨⟨q + 1, j + 1, by omega, by go_num, HS2.out⟩, by simp [intOf]; omega⟩
          · have hji : ¬ (j : Int) < m := by omega
            obtain rfl : j = m := by omega
            have hH := Sort.holds_putRow (Value.int .i64) w1 g 0 (Ra.shuf s k 0) (Ra.shuf s k j) HH1.out (by rw [Ra.shuf_size, Ra.shuf_size])
            have HB2 : Hid (Below w.heap.size w wr) := HB1.out.trans (by rw [hwx]; exact putRow_below HG.out.1)
            have HR : Hid (Order wr w.heap.size (.slice (some ⟨g, 0, none⟩) k cap) (Ra.shuf s k j)) := by
              refine .inr ⟨g, cap, by rw [HD.out], HG.out.1, Nat.lt_of_lt_of_le HG.out.2 (Nat.le_trans HS.out ?_), fun i hi => ?_⟩
              · rw [hwx]; exact (putRow_below (B := 0) (Nat.zero_le _)).size
              · have := (hH i hi).1
                rw [Nat.zero_add] at this
                rw [hwx]; exact this
            clear hwx hH
            go_wp2
            go_ret
            exact ⟨_, rfl, HR.out, HB2.out⟩
end Go.Proofs.YtjdnahmdicamdaaGreatDoor
/- drawn by its contract: lots in the order of a seed; that order holds each of them once. -/
namespace Go.Proofs.YtjdnahmdicamdaaGreatDoor
open Go.RowKit
set_option maxRecDepth 100000
namespace Ra
theorem swp_perm (d : Array Int) (i j : Nat) (hi : i < d.size) (hj : j < d.size) : (Sort.swp d i j).toList.Perm d.toList := by
  have h := (Sort.swp_permIn d 0 d.size i j (Nat.zero_le _) hi (Nat.zero_le _) hj (Nat.le_refl _)).2.2
  have e1 : (Sort.swp d i j).extract 0 d.size = Sort.swp d i j := by
    have := Sort.size_swp d i j
    rw [← this]; simp
  rw [e1] at h
  simpa using h
theorem shuf_perm (s : Int) (n : Nat) : ∀ k, k ≤ n - 1 → (shuf s n k).toList.Perm ((List.range n).map Int.ofNat)
  | 0, _ => by simp [shuf]
  | k + 1, h => by
    have hsz := shuf_size s n k
    have h1 := Int.emod_nonneg (num s (k + 1)) (b := ((n - k : Nat) : Int)) (by omega)
    have h2 := Int.emod_lt_of_pos (num s (k + 1)) (b := ((n - k : Nat) : Int)) (by omega)
    rw [shuf]
    exact (swp_perm _ _ _ (by omega) (by omega)).trans (shuf_perm s n k (by omega))
/-- lots in the order of a seed -/
def sh (s : Int) (l : List Cv.Lot) : List Cv.Lot := (shuf s l.length (l.length - 1)).toList.map fun i => Cv.nth l i.toNat
theorem range_nth : ∀ l : List Cv.Lot, (List.range l.length).map (Cv.nth l) = l := fun l => by
  apply List.ext_getElem?
  intro i
  rw [List.getElem?_map]
  by_cases hi : i < l.length
  · simp [Cv.nth, hi]
  · simp [hi]
theorem mix_sh (s : Int) : Mix (sh s) := fun l => by
  have h := (shuf_perm s l.length (l.length - 1) (Nat.le_refl _)).map fun i : Int => Cv.nth l i.toNat
  refine h.trans ?_
  rw [List.map_map]
  have e : (fun i : Int => Cv.nth l i.toNat) ∘ Int.ofNat = Cv.nth l := by funext i; simp
  rw [e, range_nth]
theorem sh_length (s : Int) (l : List Cv.Lot) : (sh s l).length = l.length := (mix_sh s l).length_eq
theorem sh_nth (s : Int) (l : List Cv.Lot) (k : Nat) (hk : k < l.length) : ∃ j : Nat, j < l.length ∧ (shuf s l.length (l.length - 1))[k]! = (j : Int) ∧ Cv.nth (sh s l) k = Cv.nth l j := by
  have hsz := shuf_size s l.length (l.length - 1)
  have hm : (shuf s l.length (l.length - 1))[k]! ∈ (shuf s l.length (l.length - 1)).toList := by
    rw [getElem!_pos _ k (by omega)]
    exact Array.getElem_mem_toList _
  have hm2 := (shuf_perm s l.length (l.length - 1) (Nat.le_refl _)).mem_iff.1 hm
  obtain ⟨j, hj, e⟩ := List.mem_map.1 hm2
  refine ⟨j, List.mem_range.1 hj, e.symm, ?_⟩
  have : Cv.nth (sh s l) k = Cv.nth l ((shuf s l.length (l.length - 1))[k]!).toNat := by
    unfold sh
    conv => lhs; unfold Cv.nth
    rw [List.getD_eq_getElem?_getD, List.getElem?_map]
    rw [getElem!_pos _ k (by omega)]
    simp [hsz, hk, Cv.nth]
  rw [this, ← e]; rfl
end Ra

theorem row_base {w : World} {a b : Nat} {e : TypeId} {size : Nat} {v : Value} {n : Nat} {xs : List Value} (h : w.ownsRow a e size v n xs) (hb : b ≤ a) : w.ownsRow b e size v n xs :=
  ⟨h.1, h.2.imp id fun ⟨g, cap, cur, h1, h2, h3⟩ => ⟨g, cap, cur, h1, Nat.le_trans hb h2, h3⟩⟩
theorem flat_snoc (l : List Cv.Lot) (x : Cv.Lot) : flat (l ++ [x]) = flat l ++ lotCells x := by simp [flat]
theorem lotCells_one (x : Cv.Lot) : ∀ u ∈ lotCells x, u.oneCell' = true := fun u hu => by
  simp only [lotCells, List.mem_cons, List.not_mem_nil, or_false] at hu
  rcases hu with rfl | rfl | rfl | rfl | rfl <;> rfl

set_option maxHeartbeats 1000000 in
theorem drawn_some (b off cap n m : Nat) (s : Int) (l : List Cv.Lot) (w : World) (hs : Hid (Ra.IsU s)) (hn : Hid (l.length = n)) (hn' : n ≤ 200) (hm : (n : Int) - 1 = m) (hl : Hid (LotsAt w b off l)) :
    Calls Tryz.prog 119 #[.slice (some ⟨b, off, none⟩) n cap, .int .u32 s] w fun e w' => ∃ v, e = .returned v ∧ w'.ownsRow w.heap.size 56 5 v n (flat (Ra.sh s l)) ∧ Below w.heap.size w w' := by
  obtain ⟨i0, z0, hi, hz0, hz1, hz2, hz3⟩ := info43
  have Hi := hide hi; have Hz0 := hide hz0; have Hz1 := hide hz1; have Hz2 := hide hz2; have Hz3 := hide hz3
  clear hi hz0 hz1 hz2 hz3
  go_enter Tryz.func119, Tryz.ntmps119
  go_wp2_with fail
  refine (shuffle_any s n m hs (by omega) hm w).mono ?_
  rintro e w1 ⟨v1, rfl, ho, hb1⟩
  have HB1 := hide hb1
  have hsz : (Ra.shuf s n m).size = n := Ra.shuf_size s n m
  rcases ho with ⟨h0, _⟩ | ⟨g, cap1, rfl, _, hg2, hc⟩
  · omega
  rw [hsz] at hc ⊢
  have HC := hide hc; have HG := hide hg2
  clear hb1 hc hg2 hsz
  have HD : Hid (l.length - 1 = m) := by show _ = _; rw [hn.out]; omega
  simp only []
  go_wp2
  go_loopw [5, 13] (fun v i wr => ∃ k : Nat, k ≤ n ∧ i = .int .i64 k ∧ wr.ownsRow w1.heap.size 56 5 v k (flat ((Ra.sh s l).take k)) ∧ Below w1.heap.size w1 wr) (fun _ i _ => n - (intOf i).toNat)
  case atStart => exact ⟨0, Nat.zero_le _, rfl, World.ownsRow_nil _ _ _ _, Below.refl _ _⟩
  case round =>
    obtain ⟨k, hk, rfl, hown, hbw⟩ := hrel
    have HB := hide (HB1.out.trans (hbw.mono HB1.out.size)); have HO := hide hown; have HW := hide hbw
    clear hown hbw
    by_cases hlt : k < n
    · have hki : (k : Int) < n := by omega
      obtain ⟨j, hj, ej, enth⟩ := Ra.sh_nth s l k (by rw [hn.out]; exact hlt)
      rw [HD.out, hn.out] at ej
      rw [hn.out] at hj
      have hji : (j : Int) < n := by omega
      have cg : wr.cell? ⟨g, k, none⟩ = some (.int .i64 (j : Int)) := by rw [← ej]; exact cell_later HW.out (HC.out k hlt)
      obtain ⟨c0, c1, c2, c3, c4⟩ := (hl.out.later HB.out) j (by rw [hn.out]; exact hj)
      have HT : Hid ((Ra.sh s l).take (k + 1) = (Ra.sh s l).take k ++ [Cv.nth l j]) := by
        show _ = _
        rw [Cv.take_succ (by rw [Ra.sh_length, hn.out]; exact hlt), enth]
      clear ej enth
      generalize Cv.nth l j = x at *
      go_wp2_with (at_builtin; refine wpList_append_own _ rfl _ _ 37 rfl w1.heap.size 56 i0 z0 5 40 Tryz.underlying37 Hi.out Hz0.out Hz1.out Hz2.out Hz3.out (by decide) _ _ _ rfl (HO.out.alloc _) ⟨wr.heap.size, 0, none⟩ 1 1 (lotCells x) rfl rfl ?c1 ?c2 ?c3 ?c4 ?c5 ?_)
      case c1 => exact fun j u hj => cell_new5 wr x _ _ rfl j u hj
      case c2 => exact lotCells_one x
      case c3 => unfold maxLen; omega
      case c4 => omega
      case c5 => have := HW.out.size; simp; omega
      intro v3 w3 hown' hgrow _
      have HO3 : Hid (w3.ownsRow w1.heap.size 56 5 v3 (k + 1) (flat ((Ra.sh s l).take (k + 1)))) := by
        show w3.ownsRow _ _ _ _ _ _
        rw [HT.out, flat_snoc]
        exact hown'
      have hrow := HO.out.lt
      have HW3 : Hid (Below w1.heap.size w1 w3) := (HW.out.alloc HW.out.size _).grown hgrow (by have := HW.out.size; simp; omega) (fun j hj => (hrow j hj).1)
      clear hown' hgrow HO HB hrow HW
      go_wp2
      exact ⟨⟨k + 1, by omega, by go_num, HO3.out, HW3.out⟩, by simp [intOf]; omega⟩
    · have hki : ¬ (k : Int) < n := by omega
      obtain rfl : k = n := by omega
      have HO' : Hid (wr.ownsRow w.heap.size 56 5 u5 k (flat (Ra.sh s l))) := by
        have := HO.out
        rw [List.take_of_length_le (by rw [Ra.sh_length, hn.out]; omega)] at this
        exact row_base this HB1.out.size
      clear HO
      go_wp2
      go_ret
      exact ⟨_, rfl, HO'.out, HB.out⟩
end Go.Proofs.YtjdnahmdicamdaaGreatDoor
