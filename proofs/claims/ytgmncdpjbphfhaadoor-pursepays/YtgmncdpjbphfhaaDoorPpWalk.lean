/- The law PursePays, for all acts. -/
import Derived.Test.YtgmncdpjbphfhaaDoorPuPay
import Derived.Test.YtgmncdpjbphfhaaDoorPuTotal
import Derived.Test.YtgmncdpjbphfhaaDoorPuTrade
import Derived.Test.YtgmncdpjbphfhaaDoorPmTrade
import Derived.Test.YtgmncdpjbphfhaaDoorOneCall
import Derived.Test.YtgmncdpjbphfhaaDoorClass
namespace Go.Proofs.YtgmncdpjbphfhaaDoor
open Go.RowKit
set_option maxRecDepth 100000

theorem pays_big (a : Option Addr) (n cap : Nat) (ad : Nat → Addr) (w : World) (he : Hid (Sent w ad)) (hn : 60 < n) :
    Calls Tryd.prog 3 #[.slice a n cap] w fun e w' => e = .returned (.bool true) ∧ Below w.heap.size w w' := by
  have hn' : (60 : Int) < n := by omega
  go_enter Tryd.func3, Tryd.ntmps3
  go_wp2_with fail
  refine (pursed_any (adV ad) w (ter_sent he.out).per).mono ?_
  rintro e w1 ⟨rfl, hb1⟩
  have HB1 := hide hb1
  clear hb1
  simp only []
  go_wp2
  go_ret
  exact ⟨rfl, HB1.out⟩

/-- what is so in a region of two acts, ahead of the first (F = f) and behind it -/
def Cls (w : World) (p pm B : Nat) (A : PAct) (f F : Nat → Int) (b : Bool) (W : World) : Prop :=
  Purse W 55 p (if b = true then F else f) ∧ Purse W 32 pm f ∧ W.heap[B]? = some (.cells (payA A) 36 (0, 0)) ∧ Below w.heap.size w W
theorem Cls.below {w : World} {p pm B : Nat} {A : PAct} {f F : Nat → Int} {b : Bool} {W W' : World} (h : Cls w p pm B A f F b W) (hb : Below W.heap.size W W') : Cls w p pm B A f F b W' :=
  ⟨h.1.lat hb, h.2.1.lat hb, (hb.block B (lt_of_block h.2.2.1)).trans h.2.2.1, h.2.2.2.trans (hb.mono h.2.2.2.size)⟩
theorem Cls.done {w : World} {p pm B : Nat} {A : PAct} {f F : Nat → Int} {W W' : World} (h : Cls w p pm B A f F false W) (hp : Purse W' 55 p F) (hs : Save W W' p) (hpw : w.heap.size ≤ p) (h1 : pm ≠ p) (h2 : B ≠ p) : Cls w p pm B A f F true W' :=
  ⟨hp, h.2.1.save hs h1, (hs.block B (lt_of_block h.2.2.1) h2).trans h.2.2.1, h.2.2.2.trans (hs.below h.2.2.2.size hpw)⟩
theorem cls_all (w : World) (p pm B : Nat) (A : PAct) (f F : Nat → Int) : ∃ (X : Type) (val : X → World) (fl : X → Bool), (∀ x, Cls w p pm B A f F (fl x) (val x)) ∧ ∀ b W, Cls w p pm B A f F b W → ∃ x, val x = W ∧ fl x = b :=
  ⟨{ t : Bool × World // Cls w p pm B A f F t.1 t.2 }, fun x => x.1.2, fun x => x.1.1, fun x => x.2, fun b W h => ⟨⟨(b, W), h⟩, rfl, rfl⟩⟩

theorem tradeC_lt (f : Nat → Int) (item : Int) (b s : Cv.Lot) (price qty : Int) : Pu.tradeC f item b s price qty < 12 := by
  unfold Pu.tradeC
  split
  · split
    · decide
    · split <;> decide
  · unfold Pu.tchk
    split
    · split
      · split
        · split <;> decide
        · decide
      · decide
    · decide
theorem ofV_low (f : Nat → Int) : ofV f (-1) = .agg #[.int .i64 0, .int .i64 0, .int .i64 0, .int .i64 0, .int .i64 0, .int .i64 0, .int .i64 0, .int .i64 0] := rfl
theorem ofV_high (f : Nat → Int) : ofV f 6 = .agg #[.int .i64 0, .int .i64 0, .int .i64 0, .int .i64 0, .int .i64 0, .int .i64 0, .int .i64 0, .int .i64 0] := rfl
theorem later_all (W : World) : ∃ (X : Type) (val : X → World), (∀ x, Below W.heap.size W (val x)) ∧ ∀ W', Below W.heap.size W W' → ∃ x, W' = val x :=
  ⟨{ W' : World // Below W.heap.size W W' }, fun x => x.1, fun x => x.2, fun W' h => ⟨⟨W', h⟩, rfl⟩⟩
/-- what is so behind some acts -/
def PInv (w wr : World) (p pm : Nat) (f : Nat → Int) : Prop := Pu.Good f ∧ Purse wr 55 p f ∧ Purse wr 32 pm f ∧ Below w.heap.size w wr

set_option maxHeartbeats 8000000 in
theorem pays_some (a : Option Addr) (n cap : Nat) (l : List PAct) (ad : Nat → Addr) (w : World) (he : Hid (Sent w ad)) (hn : Hid (l.length = n)) (hn' : n ≤ 60) (hl : Hid (n = 0 ∨ ∃ g, a = some g ∧ PaysAt w g l)) :
    Calls Tryd.prog 3 #[.slice a n cap] w fun e w' => e = .returned (.bool true) ∧ Below w.heap.size w w' := by
  have hni : ¬ (60 : Int) < n := by omega
  have z32 := zero32
  go_enter Tryd.func3, Tryd.ntmps3
  go_wp2_with fail
  refine (pursed_any (adV ad) w (ter_sent he.out).per).mono ?_
  rintro e w1 ⟨rfl, hb1⟩
  have HB1 := hide hb1
  clear hb1
  simp only []
  go_wp2_with fail
  refine (new_any w1).mono ?_
  rintro e w2 ⟨rfl, rfl⟩
  have hB2 : Below w.heap.size w (w1.alloc (.cells (row fun _ => 0) 55)) := HB1.out.alloc HB1.out.size _
  have HPN : Hid (Purse ((w1.alloc (.cells (row fun _ => 0) 55)).alloc (.cells (row fun _ => 0) 32)) 55 w1.heap.size (fun _ => 0)) := (Purse.new w1 55 (fun _ => 0)).alloc _
  have HMN : Hid (Purse ((w1.alloc (.cells (row fun _ => 0) 55)).alloc (.cells (row fun _ => 0) 32)) 32 (w1.heap.size + 1) (fun _ => 0)) := by
    show Purse _ _ _ _
    have := Purse.new (w1.alloc (.cells (row fun _ => 0) 55)) 32 (fun _ => 0)
    rw [show (w1.alloc (.cells (row fun _ => 0) 55)).heap.size = w1.heap.size + 1 by simp] at this
    exact this
  have HB2 : Hid (Below w.heap.size w ((w1.alloc (.cells (row fun _ => 0) 55)).alloc (.cells (row fun _ => 0) 32))) := hB2.alloc hB2.size _
  have hwp : w.heap.size ≤ w1.heap.size := HB1.out.size
  clear hB2
  simp only []
  go_wp2
  generalize (w1.alloc (.cells (row fun _ => 0) 55)).alloc (.cells (row fun _ => 0) 32) = w2 at *
  obtain ⟨p, hp⟩ : ∃ p, w1.heap.size = p := ⟨_, rfl⟩
  obtain ⟨pm, hpm⟩ : ∃ pm, p + 1 = pm := ⟨_, rfl⟩
  rw [hp] at HPN HMN hwp ⊢
  rw [hpm] at HMN ⊢
  have hpp : p < pm := by omega
  clear hp hpm z32
  go_loopw [6] (fun i wr => ∃ (k : Nat) (f : Nat → Int), k ≤ n ∧ i = .int .i64 k ∧ PInv w wr p pm f) (fun i _ => n - (intOf i).toNat)
  case atStart => exact ⟨0, _, Nat.zero_le _, rfl, Pu.good_zero, HPN.out, HMN.out, HB2.out⟩
  case round =>
    obtain ⟨k, f, hk, rfl, hG, hPu, hMu, hbl⟩ := hrel
    have HG := hide hG; have HK := hide hPu; have HB := hide hbl; have HM := hide hMu
    clear hG hPu hbl hMu HPN HB2 HMN HB1
    by_cases hlt : k < n
    · have hki : (k : Int) < n := by omega
      obtain ⟨g, rfl, hlg⟩ : ∃ g, a = some g ∧ PaysAt w g l := by
        rcases hl.out with h | h
        · omega
        · exact h
      have HPA : Hid (PayAt wr (g.add (k * 19)) (pnth l k)) := (hlg.later HB.out) k (by rw [hn.out]; exact hlt)
      generalize pnth l k = A at *
      clear hlg
      obtain ⟨WA, hWA⟩ : ∃ WA, wr.alloc (.cells (payA A) 36) = WA := ⟨_, rfl⟩
      have hnA : Below wr.heap.size wr WA := by rw [← hWA]; exact (Below.refl _ _).alloc (Nat.le_refl _) _
      have hRA : WA.heap[wr.heap.size]? = some (.cells (payA A) 36 (0, 0)) := by rw [← hWA]; exact heap_alloc_new _ _
      have HBA : Hid (Below w.heap.size w WA) := HB.out.trans (hnA.mono HB.out.size)
      have HKA := hide (HK.out.lat hnA)
      have HMA := hide (HM.out.lat hnA)
      have HRA := hide hRA
      have hBl : pm < wr.heap.size := HM.out.lt
      have HWA := hide hWA
      have z36 := zero36
      obtain ⟨B, hB⟩ : ∃ B, wr.heap.size = B := ⟨_, rfl⟩
      have HBe := hide hB
      obtain ⟨kd, an, ac, s0, s1, s2, it, ⟨xi, xo, xs, xp, xq⟩, ⟨yi, yo, ys, yp, yq⟩, pr, qt⟩ := A
      have d0 : WA.cell? ⟨wr.heap.size, 0, none⟩ = some (.string kd) := hs_cell hRA rfl
      clear hnA hWA hRA HB HM HK hB
      cases hka : (kd.toList == [103, 105, 118, 101]) with
      | true =>
        go_wp2_with (first | (guard_target =~ wpList _ _ _ ({ dst := _, op := Op.load 36 _, type := _, pos := _, after := _, guard := _ } :: _) _ _; refine wpList_load36 (G := g.add (k * 19)) HPA.out rfl (.tmp 35) rfl rfl ?_) | (guard_target =~ wpList _ _ _ ({ dst := _, op := Op.store 36 _ _, type := _, pos := _, after := _, guard := _ } :: _) _ _; refine wpList_store36 WA HWA.out rfl (.tmp 7) (.tmp 36) rfl rfl rfl ?_))
        rw [HBe.out] at HRA hBl ⊢
        obtain ⟨X, val, fl, hcl, hmk⟩ := cls_all w p pm B ⟨kd, an, ac, s0, s1, s2, it, ⟨xi, xo, xs, xp, xq⟩, ⟨yi, yo, ys, yp, yq⟩, pr, qt⟩ f (Pu.giveF f ⟨an, ac, s0, s1, s2⟩)
        have HCL := hide hcl; have HMK := hide hmk
        have e1 : ∀ x, (val x).cell? ⟨B, 1, none⟩ = some (.int .i64 an) := fun x => hs_cell (HCL.out x).2.2.1 rfl
        have e2 : ∀ x, (val x).cell? ⟨B, 2, none⟩ = some (.int .i64 ac) := fun x => hs_cell (HCL.out x).2.2.1 rfl
        have e3 : ∀ x, (val x).cell? ⟨B, 3, none⟩ = some (.int .i64 s0) := fun x => hs_cell (HCL.out x).2.2.1 rfl
        have e4 : ∀ x, (val x).cell? ⟨B, 4, none⟩ = some (.int .i64 s1) := fun x => hs_cell (HCL.out x).2.2.1 rfl
        have e5 : ∀ x, (val x).cell? ⟨B, 5, none⟩ = some (.int .i64 s2) := fun x => hs_cell (HCL.out x).2.2.1 rfl
        obtain ⟨x0, hx0, hf0⟩ := HMK.out false WA.drew ⟨HKA.out, HMA.out, HRA.out, bd1 HBA.out⟩
        have HPC : Hid (∀ x, fl x = false → Calls Tryd.prog 9 #[.pointer (some ⟨p, 0, none⟩), .int .i64 an, .int .i64 ac, giftV ⟨an, ac, s0, s1, s2⟩] (val x) fun e w' => e = .returned (errE (adV ad) (Pu.giveC f ⟨an, ac, s0, s1, s2⟩)) ∧ ∃ x', val x' = w' ∧ fl x' = true) := fun x hx => by
          have hc := HCL.out x
          rw [hx] at hc
          exact (give_any p ⟨an, ac, s0, s1, s2⟩ f (adV ad) (val x) (ter_sent (he.out.later hc.2.2.2)).per hc.1 HG.out).mono fun e w' ⟨h1, h2, h3⟩ => ⟨h1, HMK.out true w' (hc.done h2 h3 hwp (by omega) (by omega))⟩
        have HMC : Hid (∀ x, fl x = true → Calls Tryd.prog 10 #[.pointer (some ⟨pm, 0, none⟩), .int .i64 an, .int .i64 ac, giftV ⟨an, ac, s0, s1, s2⟩] (val x) fun e w' => e = .returned (.int .i64 (errNo (Pu.giveC f ⟨an, ac, s0, s1, s2⟩))) ∧ PInv w w' p pm (Pu.giveF f ⟨an, ac, s0, s1, s2⟩)) := fun x hx => by
          have hc := HCL.out x
          rw [hx] at hc
          exact (mgive_any pm ⟨an, ac, s0, s1, s2⟩ f (val x) hc.2.1 HG.out).mono fun e w' ⟨h1, h2, h3⟩ => ⟨h1, Pu.good_give HG.out ⟨an, ac, s0, s1, s2⟩, hc.1.save h3 (by omega), h2, hc.2.2.2.trans (h3.below hc.2.2.2.size (by omega))⟩
        have hcd : Pu.giveC f ⟨an, ac, s0, s1, s2⟩ < 12 := by unfold Pu.giveC; split <;> (try split) <;> decide
        unfold giftV at HPC HMC
        simp only [] at HPC HMC
        clear d0 hcl hmk HWA HPA HRA HKA HMA HBA
        generalize Pu.giveC f ⟨an, ac, s0, s1, s2⟩ = cd at *
        generalize Pu.giveF f ⟨an, ac, s0, s1, s2⟩ = F at *
        refine region_one_call (val := val) (fl := fl) 7 15 (by kernel_rfl) (by kernel_rfl) (by decide) x0 hx0 hf0 ?_
        simp only [List.take_succ_cons, List.take_zero, List.drop_succ_cons, List.drop_zero]
        refine walkS_step (fun K hK => ?_)
        refine ⟨by rfl, ?_⟩
        apply Exists.intro
        refine ⟨fun x hxz => ?_, hK _ ?_⟩
        · go_simp
          exact ⟨rfl, rfl, by decide⟩
        clear hK K
        refine walkS_step (fun K hK => ?_)
        refine ⟨by rfl, ?_⟩
        apply Exists.intro
        refine ⟨fun x hxz => ?_, hK _ ?_⟩
        · go_simp
          exact ⟨rfl, rfl, by decide⟩
        clear hK K
        refine walkS_step (fun K hK => ?_)
        refine ⟨by rfl, ?_⟩
        apply Exists.intro
        refine ⟨fun x hxz => ?_, hK _ ?_⟩
        · go_simp
          exact ⟨rfl, rfl, by decide⟩
        clear hK K
        refine walkS_step (fun K hK => ?_)
        refine ⟨by rfl, ?_⟩
        apply Exists.intro
        refine ⟨fun x hxz => ?_, hK _ ?_⟩
        · go_simp
          exact ⟨rfl, rfl, by decide⟩
        clear hK K
        refine walkS_step (fun K hK => ?_)
        refine ⟨by rfl, ?_⟩
        apply Exists.intro
        refine ⟨fun x hxz => ?_, hK _ ?_⟩
        · go_simp
          exact ⟨rfl, rfl, by decide⟩
        clear hK K
        refine walkS_step (fun K hK => ?_)
        refine ⟨by rfl, ?_⟩
        apply Exists.intro
        refine ⟨fun x hxz => ?_, hK _ ?_⟩
        · go_simp
          exact ⟨rfl, rfl, by decide⟩
        clear hK K
        refine walkS_step (fun K hK => ?_)
        refine ⟨by rfl, ?_⟩
        apply Exists.intro
        refine ⟨fun x hxz => ?_, hK _ ?_⟩
        · go_simp
          exact ⟨rfl, rfl, by decide⟩
        clear hK K
        refine walkS_step (fun K hK => ?_)
        refine ⟨by rfl, ?_⟩
        apply Exists.intro
        refine ⟨fun x hxz => ?_, hK _ ?_⟩
        · go_simp
          exact ⟨rfl, (HPC.out x (hxz rfl)).mono fun e w' ⟨h1, x', hx', hf'⟩ => ⟨h1, x', hx', by simp [hf']⟩⟩
        clear hK K
        refine walkS_step (fun K hK => ?_)
        refine ⟨by rfl, ?_⟩
        apply Exists.intro
        refine ⟨fun x hxz => ?_, hK _ ?_⟩
        · go_simp
          exact ⟨rfl, rfl, by decide⟩
        clear hK K
        refine walkS_step (fun K hK => ?_)
        refine ⟨by rfl, ?_⟩
        apply Exists.intro
        refine ⟨fun x hxz => ?_, hK _ ?_⟩
        · go_simp
          exact ⟨rfl, rfl, by decide⟩
        clear hK K
        refine walkS_step (fun K hK => ?_)
        refine ⟨by rfl, ?_⟩
        apply Exists.intro
        refine ⟨fun x hxz => ?_, hK _ ?_⟩
        · go_simp
          exact ⟨rfl, rfl, by decide⟩
        clear hK K
        refine walkS_step (fun K hK => ?_)
        refine ⟨by rfl, ?_⟩
        apply Exists.intro
        refine ⟨fun x hxz => ?_, hK _ ?_⟩
        · go_simp
          exact ⟨rfl, rfl, by decide⟩
        clear hK K
        refine walkS_step (fun K hK => ?_)
        refine ⟨by rfl, ?_⟩
        apply Exists.intro
        refine ⟨fun x hxz => ?_, hK _ ?_⟩
        · go_simp
          exact ⟨rfl, rfl, by decide⟩
        clear hK K
        refine walkS_step (fun K hK => ?_)
        refine ⟨by rfl, ?_⟩
        apply Exists.intro
        refine ⟨fun x hxz => ?_, hK _ ?_⟩
        · go_simp
          exact ⟨rfl, rfl, by decide⟩
        clear hK K
        refine walkS_step (fun K hK => ?_)
        refine ⟨by rfl, ?_⟩
        apply Exists.intro
        refine ⟨fun x hxz => ?_, hK _ ?_⟩
        · go_simp
          exact ⟨rfl, rfl, by decide⟩
        clear hK K
        refine walkS_nil ?_
        intro x hx
        have HM2 := hide (HMC.out x hx)
        clear HPC HMC e1 e2 e3 e4 e5
        go_wp2_with fail
        refine HM2.out.mono ?_
        rintro e w4 ⟨rfl, hinv⟩
        have HIN := hide hinv
        have HCO := hide (coded_any ad cd w4 (he.out.later hinv.2.2.2) hcd)
        clear hinv HM2
        simp only []
        go_wp2_with fail
        refine HCO.out.mono ?_
        rintro e w5 ⟨rfl, hb5⟩
        have HI5 : Hid (PInv w w5 p pm F) := ⟨HIN.out.1, HIN.out.2.1.lat hb5, HIN.out.2.2.1.lat hb5, HIN.out.2.2.2.trans (hb5.mono HIN.out.2.2.2.size)⟩
        clear hb5 HIN HCO
        simp only []
        go_wp2
        exact ⟨⟨k + 1, F, by omega, by go_num, HI5.out⟩, by simp [intOf]; omega⟩
      | false =>
        cases hkh : (kd.toList == [104, 111, 108, 100]) with
        | true =>
          go_wp2_with (first | (guard_target =~ wpList _ _ _ ({ dst := _, op := Op.load 36 _, type := _, pos := _, after := _, guard := _ } :: _) _ _; refine wpList_load36 (G := g.add (k * 19)) HPA.out rfl (.tmp 35) rfl rfl ?_) | (guard_target =~ wpList _ _ _ ({ dst := _, op := Op.store 36 _ _, type := _, pos := _, after := _, guard := _ } :: _) _ _; refine wpList_store36 WA HWA.out rfl (.tmp 7) (.tmp 36) rfl rfl rfl ?_))
          rw [HBe.out] at HRA hBl ⊢
          obtain ⟨X, val, fl, hcl, hmk⟩ := cls_all w p pm B ⟨kd, an, ac, s0, s1, s2, it, ⟨xi, xo, xs, xp, xq⟩, ⟨yi, yo, ys, yp, yq⟩, pr, qt⟩ f (Pu.holdF f it ⟨xi, xo, xs, xp, xq⟩)
          have HCL := hide hcl; have HMK := hide hmk
          have e6 : ∀ x, (val x).cell? ⟨B, 6, none⟩ = some (.int .i64 it) := fun x => hs_cell (HCL.out x).2.2.1 rfl
          have e7 : ∀ x, (val x).cell? ⟨B, 7, none⟩ = some (.int .i64 xi) := fun x => hs_cell (HCL.out x).2.2.1 rfl
          have e8 : ∀ x, (val x).cell? ⟨B, 8, none⟩ = some (.int .i64 xo) := fun x => hs_cell (HCL.out x).2.2.1 rfl
          have e9 : ∀ x, (val x).cell? ⟨B, 9, none⟩ = some (.int .i64 xs) := fun x => hs_cell (HCL.out x).2.2.1 rfl
          have e10 : ∀ x, (val x).cell? ⟨B, 10, none⟩ = some (.int .i64 xp) := fun x => hs_cell (HCL.out x).2.2.1 rfl
          have e11 : ∀ x, (val x).cell? ⟨B, 11, none⟩ = some (.int .i64 xq) := fun x => hs_cell (HCL.out x).2.2.1 rfl
          obtain ⟨x0, hx0, hf0⟩ := HMK.out false WA.drew ⟨HKA.out, HMA.out, HRA.out, bd1 HBA.out⟩
          have HPC : Hid (∀ x, fl x = false → Calls Tryd.prog 11 #[.pointer (some ⟨p, 0, none⟩), .int .i64 it, lotV ⟨xi, xo, xs, xp, xq⟩] (val x) fun e w' => e = .returned (errE (adV ad) (Pu.holdC f it ⟨xi, xo, xs, xp, xq⟩)) ∧ ∃ x', val x' = w' ∧ fl x' = true) := fun x hx => by
            have hc := HCL.out x
            rw [hx] at hc
            exact (hold_any p it ⟨xi, xo, xs, xp, xq⟩ f (adV ad) (val x) (ter_sent (he.out.later hc.2.2.2)).per hc.1 HG.out).mono fun e w' ⟨h1, h2, h3⟩ => ⟨h1, HMK.out true w' (hc.done h2 h3 hwp (by omega) (by omega))⟩
          have HMC : Hid (∀ x, fl x = true → Calls Tryd.prog 12 #[.pointer (some ⟨pm, 0, none⟩), .int .i64 it, lotV ⟨xi, xo, xs, xp, xq⟩] (val x) fun e w' => e = .returned (.int .i64 (errNo (Pu.holdC f it ⟨xi, xo, xs, xp, xq⟩))) ∧ PInv w w' p pm (Pu.holdF f it ⟨xi, xo, xs, xp, xq⟩)) := fun x hx => by
            have hc := HCL.out x
            rw [hx] at hc
            exact (mhold_any pm it ⟨xi, xo, xs, xp, xq⟩ f (val x) hc.2.1 HG.out).mono fun e w' ⟨h1, h2, h3⟩ => ⟨h1, Pu.good_hold HG.out it ⟨xi, xo, xs, xp, xq⟩, hc.1.save h3 (by omega), h2, hc.2.2.2.trans (h3.below hc.2.2.2.size (by omega))⟩
          have hcd : Pu.holdC f it ⟨xi, xo, xs, xp, xq⟩ < 12 := by unfold Pu.holdC; split <;> (try split) <;> decide
          unfold lotV at HPC HMC
          simp only [] at HPC HMC
          clear d0 hcl hmk HWA HPA HRA HKA HMA HBA
          generalize Pu.holdC f it ⟨xi, xo, xs, xp, xq⟩ = cd at *
          generalize Pu.holdF f it ⟨xi, xo, xs, xp, xq⟩ = F at *
          refine region_one_call (val := val) (fl := fl) 5 11 (by kernel_rfl) (by kernel_rfl) (by decide) x0 hx0 hf0 ?_
          simp only [List.take_succ_cons, List.take_zero, List.drop_succ_cons, List.drop_zero]
          refine walkS_step (fun K hK => ?_)
          refine ⟨by rfl, ?_⟩
          apply Exists.intro
          refine ⟨fun x hxz => ?_, hK _ ?_⟩
          · go_simp
            exact ⟨rfl, rfl, by decide⟩
          clear hK K
          refine walkS_step (fun K hK => ?_)
          refine ⟨by rfl, ?_⟩
          apply Exists.intro
          refine ⟨fun x hxz => ?_, hK _ ?_⟩
          · go_simp
            exact ⟨rfl, rfl, by decide⟩
          clear hK K
          refine walkS_step (fun K hK => ?_)
          refine ⟨by rfl, ?_⟩
          apply Exists.intro
          refine ⟨fun x hxz => ?_, hK _ ?_⟩
          · go_simp
            exact ⟨rfl, rfl, by decide⟩
          clear hK K
          refine walkS_step (fun K hK => ?_)
          refine ⟨by rfl, ?_⟩
          apply Exists.intro
          refine ⟨fun x hxz => ?_, hK _ ?_⟩
          · go_simp
            exact ⟨rfl, rfl, by decide⟩
          clear hK K
          refine walkS_step (fun K hK => ?_)
          refine ⟨by rfl, ?_⟩
          apply Exists.intro
          refine ⟨fun x hxz => ?_, hK _ ?_⟩
          · go_simp
            exact ⟨rfl, rfl, by decide⟩
          clear hK K
          refine walkS_step (fun K hK => ?_)
          refine ⟨by rfl, ?_⟩
          apply Exists.intro
          refine ⟨fun x hxz => ?_, hK _ ?_⟩
          · go_simp
            exact ⟨rfl, (HPC.out x (hxz rfl)).mono fun e w' ⟨h1, x', hx', hf'⟩ => ⟨h1, x', hx', by simp [hf']⟩⟩
          clear hK K
          refine walkS_step (fun K hK => ?_)
          refine ⟨by rfl, ?_⟩
          apply Exists.intro
          refine ⟨fun x hxz => ?_, hK _ ?_⟩
          · go_simp
            exact ⟨rfl, rfl, by decide⟩
          clear hK K
          refine walkS_step (fun K hK => ?_)
          refine ⟨by rfl, ?_⟩
          apply Exists.intro
          refine ⟨fun x hxz => ?_, hK _ ?_⟩
          · go_simp
            exact ⟨rfl, rfl, by decide⟩
          clear hK K
          refine walkS_step (fun K hK => ?_)
          refine ⟨by rfl, ?_⟩
          apply Exists.intro
          refine ⟨fun x hxz => ?_, hK _ ?_⟩
          · go_simp
            exact ⟨rfl, rfl, by decide⟩
          clear hK K
          refine walkS_step (fun K hK => ?_)
          refine ⟨by rfl, ?_⟩
          apply Exists.intro
          refine ⟨fun x hxz => ?_, hK _ ?_⟩
          · go_simp
            exact ⟨rfl, rfl, by decide⟩
          clear hK K
          refine walkS_step (fun K hK => ?_)
          refine ⟨by rfl, ?_⟩
          apply Exists.intro
          refine ⟨fun x hxz => ?_, hK _ ?_⟩
          · go_simp
            exact ⟨rfl, rfl, by decide⟩
          clear hK K
          refine walkS_nil ?_
          intro x hx
          have HM2 := hide (HMC.out x hx)
          clear HPC HMC e6 e7 e8 e9 e10 e11
          go_wp2_with fail
          refine HM2.out.mono ?_
          rintro e w4 ⟨rfl, hinv⟩
          have HIN := hide hinv
          have HCO := hide (coded_any ad cd w4 (he.out.later hinv.2.2.2) hcd)
          clear hinv HM2
          simp only []
          go_wp2_with fail
          refine HCO.out.mono ?_
          rintro e w5 ⟨rfl, hb5⟩
          have HI5 : Hid (PInv w w5 p pm F) := ⟨HIN.out.1, HIN.out.2.1.lat hb5, HIN.out.2.2.1.lat hb5, HIN.out.2.2.2.trans (hb5.mono HIN.out.2.2.2.size)⟩
          clear hb5 HIN HCO
          simp only []
          go_wp2
          exact ⟨⟨k + 1, F, by omega, by go_num, HI5.out⟩, by simp [intOf]; omega⟩
        | false =>
          cases hkf : (kd.toList == [102, 114, 101, 101]) with
          | true =>
            go_wp2_with (first | (guard_target =~ wpList _ _ _ ({ dst := _, op := Op.load 36 _, type := _, pos := _, after := _, guard := _ } :: _) _ _; refine wpList_load36 (G := g.add (k * 19)) HPA.out rfl (.tmp 35) rfl rfl ?_) | (guard_target =~ wpList _ _ _ ({ dst := _, op := Op.store 36 _ _, type := _, pos := _, after := _, guard := _ } :: _) _ _; refine wpList_store36 WA HWA.out rfl (.tmp 7) (.tmp 36) rfl rfl rfl ?_))
            rw [HBe.out] at HRA hBl ⊢
            obtain ⟨X, val, fl, hcl, hmk⟩ := cls_all w p pm B ⟨kd, an, ac, s0, s1, s2, it, ⟨xi, xo, xs, xp, xq⟩, ⟨yi, yo, ys, yp, yq⟩, pr, qt⟩ f (Pu.freeF f it ⟨xi, xo, xs, xp, xq⟩)
            have HCL := hide hcl; have HMK := hide hmk
            have e6 : ∀ x, (val x).cell? ⟨B, 6, none⟩ = some (.int .i64 it) := fun x => hs_cell (HCL.out x).2.2.1 rfl
            have e7 : ∀ x, (val x).cell? ⟨B, 7, none⟩ = some (.int .i64 xi) := fun x => hs_cell (HCL.out x).2.2.1 rfl
            have e8 : ∀ x, (val x).cell? ⟨B, 8, none⟩ = some (.int .i64 xo) := fun x => hs_cell (HCL.out x).2.2.1 rfl
            have e9 : ∀ x, (val x).cell? ⟨B, 9, none⟩ = some (.int .i64 xs) := fun x => hs_cell (HCL.out x).2.2.1 rfl
            have e10 : ∀ x, (val x).cell? ⟨B, 10, none⟩ = some (.int .i64 xp) := fun x => hs_cell (HCL.out x).2.2.1 rfl
            have e11 : ∀ x, (val x).cell? ⟨B, 11, none⟩ = some (.int .i64 xq) := fun x => hs_cell (HCL.out x).2.2.1 rfl
            obtain ⟨x0, hx0, hf0⟩ := HMK.out false WA.drew ⟨HKA.out, HMA.out, HRA.out, bd1 HBA.out⟩
            have HPC : Hid (∀ x, fl x = false → Calls Tryd.prog 13 #[.pointer (some ⟨p, 0, none⟩), .int .i64 it, lotV ⟨xi, xo, xs, xp, xq⟩] (val x) fun e w' => e = .returned (errE (adV ad) (Pu.freeC f it ⟨xi, xo, xs, xp, xq⟩)) ∧ ∃ x', val x' = w' ∧ fl x' = true) := fun x hx => by
              have hc := HCL.out x
              rw [hx] at hc
              exact (free_any p it ⟨xi, xo, xs, xp, xq⟩ f (adV ad) (val x) (ter_sent (he.out.later hc.2.2.2)).per hc.1 HG.out).mono fun e w' ⟨h1, h2, h3⟩ => ⟨h1, HMK.out true w' (hc.done h2 h3 hwp (by omega) (by omega))⟩
            have HMC : Hid (∀ x, fl x = true → Calls Tryd.prog 14 #[.pointer (some ⟨pm, 0, none⟩), .int .i64 it, lotV ⟨xi, xo, xs, xp, xq⟩] (val x) fun e w' => e = .returned (.int .i64 (errNo (Pu.freeC f it ⟨xi, xo, xs, xp, xq⟩))) ∧ PInv w w' p pm (Pu.freeF f it ⟨xi, xo, xs, xp, xq⟩)) := fun x hx => by
              have hc := HCL.out x
              rw [hx] at hc
              exact (mfree_any pm it ⟨xi, xo, xs, xp, xq⟩ f (val x) hc.2.1 HG.out).mono fun e w' ⟨h1, h2, h3⟩ => ⟨h1, Pu.good_free HG.out it ⟨xi, xo, xs, xp, xq⟩, hc.1.save h3 (by omega), h2, hc.2.2.2.trans (h3.below hc.2.2.2.size (by omega))⟩
            have hcd : Pu.freeC f it ⟨xi, xo, xs, xp, xq⟩ < 12 := by unfold Pu.freeC; split <;> (try split) <;> decide
            unfold lotV at HPC HMC
            simp only [] at HPC HMC
            clear d0 hcl hmk HWA HPA HRA HKA HMA HBA
            generalize Pu.freeC f it ⟨xi, xo, xs, xp, xq⟩ = cd at *
            generalize Pu.freeF f it ⟨xi, xo, xs, xp, xq⟩ = F at *
            refine region_one_call (val := val) (fl := fl) 5 11 (by kernel_rfl) (by kernel_rfl) (by decide) x0 hx0 hf0 ?_
            simp only [List.take_succ_cons, List.take_zero, List.drop_succ_cons, List.drop_zero]
            refine walkS_step (fun K hK => ?_)
            refine ⟨by rfl, ?_⟩
            apply Exists.intro
            refine ⟨fun x hxz => ?_, hK _ ?_⟩
            · go_simp
              exact ⟨rfl, rfl, by decide⟩
            clear hK K
            refine walkS_step (fun K hK => ?_)
            refine ⟨by rfl, ?_⟩
            apply Exists.intro
            refine ⟨fun x hxz => ?_, hK _ ?_⟩
            · go_simp
              exact ⟨rfl, rfl, by decide⟩
            clear hK K
            refine walkS_step (fun K hK => ?_)
            refine ⟨by rfl, ?_⟩
            apply Exists.intro
            refine ⟨fun x hxz => ?_, hK _ ?_⟩
            · go_simp
              exact ⟨rfl, rfl, by decide⟩
            clear hK K
            refine walkS_step (fun K hK => ?_)
            refine ⟨by rfl, ?_⟩
            apply Exists.intro
            refine ⟨fun x hxz => ?_, hK _ ?_⟩
            · go_simp
              exact ⟨rfl, rfl, by decide⟩
            clear hK K
            refine walkS_step (fun K hK => ?_)
            refine ⟨by rfl, ?_⟩
            apply Exists.intro
            refine ⟨fun x hxz => ?_, hK _ ?_⟩
            · go_simp
              exact ⟨rfl, rfl, by decide⟩
            clear hK K
            refine walkS_step (fun K hK => ?_)
            refine ⟨by rfl, ?_⟩
            apply Exists.intro
            refine ⟨fun x hxz => ?_, hK _ ?_⟩
            · go_simp
              exact ⟨rfl, (HPC.out x (hxz rfl)).mono fun e w' ⟨h1, x', hx', hf'⟩ => ⟨h1, x', hx', by simp [hf']⟩⟩
            clear hK K
            refine walkS_step (fun K hK => ?_)
            refine ⟨by rfl, ?_⟩
            apply Exists.intro
            refine ⟨fun x hxz => ?_, hK _ ?_⟩
            · go_simp
              exact ⟨rfl, rfl, by decide⟩
            clear hK K
            refine walkS_step (fun K hK => ?_)
            refine ⟨by rfl, ?_⟩
            apply Exists.intro
            refine ⟨fun x hxz => ?_, hK _ ?_⟩
            · go_simp
              exact ⟨rfl, rfl, by decide⟩
            clear hK K
            refine walkS_step (fun K hK => ?_)
            refine ⟨by rfl, ?_⟩
            apply Exists.intro
            refine ⟨fun x hxz => ?_, hK _ ?_⟩
            · go_simp
              exact ⟨rfl, rfl, by decide⟩
            clear hK K
            refine walkS_step (fun K hK => ?_)
            refine ⟨by rfl, ?_⟩
            apply Exists.intro
            refine ⟨fun x hxz => ?_, hK _ ?_⟩
            · go_simp
              exact ⟨rfl, rfl, by decide⟩
            clear hK K
            refine walkS_step (fun K hK => ?_)
            refine ⟨by rfl, ?_⟩
            apply Exists.intro
            refine ⟨fun x hxz => ?_, hK _ ?_⟩
            · go_simp
              exact ⟨rfl, rfl, by decide⟩
            clear hK K
            refine walkS_nil ?_
            intro x hx
            have HM2 := hide (HMC.out x hx)
            clear HPC HMC e6 e7 e8 e9 e10 e11
            go_wp2_with fail
            refine HM2.out.mono ?_
            rintro e w4 ⟨rfl, hinv⟩
            have HIN := hide hinv
            have HCO := hide (coded_any ad cd w4 (he.out.later hinv.2.2.2) hcd)
            clear hinv HM2
            simp only []
            go_wp2_with fail
            refine HCO.out.mono ?_
            rintro e w5 ⟨rfl, hb5⟩
            have HI5 : Hid (PInv w w5 p pm F) := ⟨HIN.out.1, HIN.out.2.1.lat hb5, HIN.out.2.2.1.lat hb5, HIN.out.2.2.2.trans (hb5.mono HIN.out.2.2.2.size)⟩
            clear hb5 HIN HCO
            simp only []
            go_wp2
            exact ⟨⟨k + 1, F, by omega, by go_num, HI5.out⟩, by simp [intOf]; omega⟩
          | false =>
            go_wp2_with (first | (guard_target =~ wpList _ _ _ ({ dst := _, op := Op.load 36 _, type := _, pos := _, after := _, guard := _ } :: _) _ _; refine wpList_load36 (G := g.add (k * 19)) HPA.out rfl (.tmp 35) rfl rfl ?_) | (guard_target =~ wpList _ _ _ ({ dst := _, op := Op.store 36 _ _, type := _, pos := _, after := _, guard := _ } :: _) _ _; refine wpList_store36 WA HWA.out rfl (.tmp 7) (.tmp 36) rfl rfl rfl ?_))
            rw [HBe.out] at HRA hBl ⊢
            obtain ⟨X, val, fl, hcl, hmk⟩ := cls_all w p pm B ⟨kd, an, ac, s0, s1, s2, it, ⟨xi, xo, xs, xp, xq⟩, ⟨yi, yo, ys, yp, yq⟩, pr, qt⟩ f (Pu.tradeF f it ⟨xi, xo, xs, xp, xq⟩ ⟨yi, yo, ys, yp, yq⟩ pr qt)
            have HCL := hide hcl; have HMK := hide hmk
            have e6 : ∀ x, (val x).cell? ⟨B, 6, none⟩ = some (.int .i64 it) := fun x => hs_cell (HCL.out x).2.2.1 rfl
            have e7 : ∀ x, (val x).cell? ⟨B, 7, none⟩ = some (.int .i64 xi) := fun x => hs_cell (HCL.out x).2.2.1 rfl
            have e8 : ∀ x, (val x).cell? ⟨B, 8, none⟩ = some (.int .i64 xo) := fun x => hs_cell (HCL.out x).2.2.1 rfl
            have e9 : ∀ x, (val x).cell? ⟨B, 9, none⟩ = some (.int .i64 xs) := fun x => hs_cell (HCL.out x).2.2.1 rfl
            have e10 : ∀ x, (val x).cell? ⟨B, 10, none⟩ = some (.int .i64 xp) := fun x => hs_cell (HCL.out x).2.2.1 rfl
            have e11 : ∀ x, (val x).cell? ⟨B, 11, none⟩ = some (.int .i64 xq) := fun x => hs_cell (HCL.out x).2.2.1 rfl
            have e12 : ∀ x, (val x).cell? ⟨B, 12, none⟩ = some (.int .i64 yi) := fun x => hs_cell (HCL.out x).2.2.1 rfl
            have e13 : ∀ x, (val x).cell? ⟨B, 13, none⟩ = some (.int .i64 yo) := fun x => hs_cell (HCL.out x).2.2.1 rfl
            have e14 : ∀ x, (val x).cell? ⟨B, 14, none⟩ = some (.int .i64 ys) := fun x => hs_cell (HCL.out x).2.2.1 rfl
            have e15 : ∀ x, (val x).cell? ⟨B, 15, none⟩ = some (.int .i64 yp) := fun x => hs_cell (HCL.out x).2.2.1 rfl
            have e16 : ∀ x, (val x).cell? ⟨B, 16, none⟩ = some (.int .i64 yq) := fun x => hs_cell (HCL.out x).2.2.1 rfl
            have e17 : ∀ x, (val x).cell? ⟨B, 17, none⟩ = some (.int .i64 pr) := fun x => hs_cell (HCL.out x).2.2.1 rfl
            have e18 : ∀ x, (val x).cell? ⟨B, 18, none⟩ = some (.int .i64 qt) := fun x => hs_cell (HCL.out x).2.2.1 rfl
            obtain ⟨x0, hx0, hf0⟩ := HMK.out false WA.drew ⟨HKA.out, HMA.out, HRA.out, bd1 HBA.out⟩
            have HPC : Hid (∀ x, fl x = false → Calls Tryd.prog 15 #[.pointer (some ⟨p, 0, none⟩), .int .i64 it, lotV ⟨xi, xo, xs, xp, xq⟩, lotV ⟨yi, yo, ys, yp, yq⟩, .int .i64 pr, .int .i64 qt] (val x) fun e w' => e = .returned (errE (adV ad) (Pu.tradeC f it ⟨xi, xo, xs, xp, xq⟩ ⟨yi, yo, ys, yp, yq⟩ pr qt)) ∧ ∃ x', val x' = w' ∧ fl x' = true) := fun x hx => by
              have hc := HCL.out x
              rw [hx] at hc
              exact (trade_any p it ⟨xi, xo, xs, xp, xq⟩ ⟨yi, yo, ys, yp, yq⟩ pr qt f (adV ad) (val x) (ter_sent (he.out.later hc.2.2.2)) hc.1 HG.out).mono fun e w' ⟨h1, h2, h3⟩ => ⟨h1, HMK.out true w' (hc.done h2 h3 hwp (by omega) (by omega))⟩
            have HMC : Hid (∀ x, fl x = true → Calls Tryd.prog 16 #[.pointer (some ⟨pm, 0, none⟩), .int .i64 it, lotV ⟨xi, xo, xs, xp, xq⟩, lotV ⟨yi, yo, ys, yp, yq⟩, .int .i64 pr, .int .i64 qt] (val x) fun e w' => e = .returned (.int .i64 (errNo (Pu.tradeC f it ⟨xi, xo, xs, xp, xq⟩ ⟨yi, yo, ys, yp, yq⟩ pr qt))) ∧ PInv w w' p pm (Pu.tradeF f it ⟨xi, xo, xs, xp, xq⟩ ⟨yi, yo, ys, yp, yq⟩ pr qt)) := fun x hx => by
              have hc := HCL.out x
              rw [hx] at hc
              exact (mtrade_any pm it ⟨xi, xo, xs, xp, xq⟩ ⟨yi, yo, ys, yp, yq⟩ pr qt f (val x) hc.2.1 HG.out).mono fun e w' ⟨h1, h2, h3⟩ => ⟨h1, Pu.good_trade HG.out it ⟨xi, xo, xs, xp, xq⟩ ⟨yi, yo, ys, yp, yq⟩ pr qt, hc.1.save h3 (by omega), h2, hc.2.2.2.trans (h3.below hc.2.2.2.size (by omega))⟩
            have hcd : Pu.tradeC f it ⟨xi, xo, xs, xp, xq⟩ ⟨yi, yo, ys, yp, yq⟩ pr qt < 12 := tradeC_lt _ _ _ _ _ _
            unfold lotV at HPC HMC
            simp only [] at HPC HMC
            clear d0 hcl hmk HWA HPA HRA HKA HMA HBA
            generalize Pu.tradeC f it ⟨xi, xo, xs, xp, xq⟩ ⟨yi, yo, ys, yp, yq⟩ pr qt = cd at *
            generalize Pu.tradeF f it ⟨xi, xo, xs, xp, xq⟩ ⟨yi, yo, ys, yp, yq⟩ pr qt = F at *
            refine region_one_call (val := val) (fl := fl) 11 23 (by kernel_rfl) (by kernel_rfl) (by decide) x0 hx0 hf0 ?_
            simp only [List.take_succ_cons, List.take_zero, List.drop_succ_cons, List.drop_zero]
            refine walkS_step (fun K hK => ?_)
            refine ⟨by rfl, ?_⟩
            apply Exists.intro
            refine ⟨fun x hxz => ?_, hK _ ?_⟩
            · go_simp
              exact ⟨rfl, rfl, by decide⟩
            clear hK K
            refine walkS_step (fun K hK => ?_)
            refine ⟨by rfl, ?_⟩
            apply Exists.intro
            refine ⟨fun x hxz => ?_, hK _ ?_⟩
            · go_simp
              exact ⟨rfl, rfl, by decide⟩
            clear hK K
            refine walkS_step (fun K hK => ?_)
            refine ⟨by rfl, ?_⟩
            apply Exists.intro
            refine ⟨fun x hxz => ?_, hK _ ?_⟩
            · go_simp
              exact ⟨rfl, rfl, by decide⟩
            clear hK K
            refine walkS_step (fun K hK => ?_)
            refine ⟨by rfl, ?_⟩
            apply Exists.intro
            refine ⟨fun x hxz => ?_, hK _ ?_⟩
            · go_simp
              exact ⟨rfl, rfl, by decide⟩
            clear hK K
            refine walkS_step (fun K hK => ?_)
            refine ⟨by rfl, ?_⟩
            apply Exists.intro
            refine ⟨fun x hxz => ?_, hK _ ?_⟩
            · go_simp
              exact ⟨rfl, rfl, by decide⟩
            clear hK K
            refine walkS_step (fun K hK => ?_)
            refine ⟨by rfl, ?_⟩
            apply Exists.intro
            refine ⟨fun x hxz => ?_, hK _ ?_⟩
            · go_simp
              exact ⟨rfl, rfl, by decide⟩
            clear hK K
            refine walkS_step (fun K hK => ?_)
            refine ⟨by rfl, ?_⟩
            apply Exists.intro
            refine ⟨fun x hxz => ?_, hK _ ?_⟩
            · go_simp
              exact ⟨rfl, rfl, by decide⟩
            clear hK K
            refine walkS_step (fun K hK => ?_)
            refine ⟨by rfl, ?_⟩
            apply Exists.intro
            refine ⟨fun x hxz => ?_, hK _ ?_⟩
            · go_simp
              exact ⟨rfl, rfl, by decide⟩
            clear hK K
            refine walkS_step (fun K hK => ?_)
            refine ⟨by rfl, ?_⟩
            apply Exists.intro
            refine ⟨fun x hxz => ?_, hK _ ?_⟩
            · go_simp
              exact ⟨rfl, rfl, by decide⟩
            clear hK K
            refine walkS_step (fun K hK => ?_)
            refine ⟨by rfl, ?_⟩
            apply Exists.intro
            refine ⟨fun x hxz => ?_, hK _ ?_⟩
            · go_simp
              exact ⟨rfl, rfl, by decide⟩
            clear hK K
            refine walkS_step (fun K hK => ?_)
            refine ⟨by rfl, ?_⟩
            apply Exists.intro
            refine ⟨fun x hxz => ?_, hK _ ?_⟩
            · go_simp
              exact ⟨rfl, rfl, by decide⟩
            clear hK K
            refine walkS_step (fun K hK => ?_)
            refine ⟨by rfl, ?_⟩
            apply Exists.intro
            refine ⟨fun x hxz => ?_, hK _ ?_⟩
            · go_simp
              exact ⟨rfl, (HPC.out x (hxz rfl)).mono fun e w' ⟨h1, x', hx', hf'⟩ => ⟨h1, x', hx', by simp [hf']⟩⟩
            clear hK K
            refine walkS_step (fun K hK => ?_)
            refine ⟨by rfl, ?_⟩
            apply Exists.intro
            refine ⟨fun x hxz => ?_, hK _ ?_⟩
            · go_simp
              exact ⟨rfl, rfl, by decide⟩
            clear hK K
            refine walkS_step (fun K hK => ?_)
            refine ⟨by rfl, ?_⟩
            apply Exists.intro
            refine ⟨fun x hxz => ?_, hK _ ?_⟩
            · go_simp
              exact ⟨rfl, rfl, by decide⟩
            clear hK K
            refine walkS_step (fun K hK => ?_)
            refine ⟨by rfl, ?_⟩
            apply Exists.intro
            refine ⟨fun x hxz => ?_, hK _ ?_⟩
            · go_simp
              exact ⟨rfl, rfl, by decide⟩
            clear hK K
            refine walkS_step (fun K hK => ?_)
            refine ⟨by rfl, ?_⟩
            apply Exists.intro
            refine ⟨fun x hxz => ?_, hK _ ?_⟩
            · go_simp
              exact ⟨rfl, rfl, by decide⟩
            clear hK K
            refine walkS_step (fun K hK => ?_)
            refine ⟨by rfl, ?_⟩
            apply Exists.intro
            refine ⟨fun x hxz => ?_, hK _ ?_⟩
            · go_simp
              exact ⟨rfl, rfl, by decide⟩
            clear hK K
            refine walkS_step (fun K hK => ?_)
            refine ⟨by rfl, ?_⟩
            apply Exists.intro
            refine ⟨fun x hxz => ?_, hK _ ?_⟩
            · go_simp
              exact ⟨rfl, rfl, by decide⟩
            clear hK K
            refine walkS_step (fun K hK => ?_)
            refine ⟨by rfl, ?_⟩
            apply Exists.intro
            refine ⟨fun x hxz => ?_, hK _ ?_⟩
            · go_simp
              exact ⟨rfl, rfl, by decide⟩
            clear hK K
            refine walkS_step (fun K hK => ?_)
            refine ⟨by rfl, ?_⟩
            apply Exists.intro
            refine ⟨fun x hxz => ?_, hK _ ?_⟩
            · go_simp
              exact ⟨rfl, rfl, by decide⟩
            clear hK K
            refine walkS_step (fun K hK => ?_)
            refine ⟨by rfl, ?_⟩
            apply Exists.intro
            refine ⟨fun x hxz => ?_, hK _ ?_⟩
            · go_simp
              exact ⟨rfl, rfl, by decide⟩
            clear hK K
            refine walkS_step (fun K hK => ?_)
            refine ⟨by rfl, ?_⟩
            apply Exists.intro
            refine ⟨fun x hxz => ?_, hK _ ?_⟩
            · go_simp
              exact ⟨rfl, rfl, by decide⟩
            clear hK K
            refine walkS_step (fun K hK => ?_)
            refine ⟨by rfl, ?_⟩
            apply Exists.intro
            refine ⟨fun x hxz => ?_, hK _ ?_⟩
            · go_simp
              exact ⟨rfl, rfl, by decide⟩
            clear hK K
            refine walkS_nil ?_
            intro x hx
            have HM2 := hide (HMC.out x hx)
            clear HPC HMC e6 e7 e8 e9 e10 e11 e12 e13 e14 e15 e16 e17 e18
            go_wp2_with fail
            refine HM2.out.mono ?_
            rintro e w4 ⟨rfl, hinv⟩
            have HIN := hide hinv
            have HCO := hide (coded_any ad cd w4 (he.out.later hinv.2.2.2) hcd)
            clear hinv HM2
            simp only []
            go_wp2_with fail
            refine HCO.out.mono ?_
            rintro e w5 ⟨rfl, hb5⟩
            have HI5 : Hid (PInv w w5 p pm F) := ⟨HIN.out.1, HIN.out.2.1.lat hb5, HIN.out.2.2.1.lat hb5, HIN.out.2.2.2.trans (hb5.mono HIN.out.2.2.2.size)⟩
            clear hb5 HIN HCO
            simp only []
            go_wp2
            exact ⟨⟨k + 1, F, by omega, by go_num, HI5.out⟩, by simp [intOf]; omega⟩
    · have hki : ¬ (k : Int) < n := by omega
      have hpw : pm < wr.heap.size := HM.out.lt
      go_wp2_with fail
      refine (copy_any p f wr HK.out).mono ?_
      rintro e w3 ⟨rfl, hq3, hb3⟩
      have HB3 : Hid (Below w.heap.size w w3) := HB.out.trans (hb3.mono HB.out.size)
      have HP3 := hide (HK.out.lat hb3)
      have HM3 := hide (HM.out.lat hb3)
      obtain ⟨q, hqe⟩ : ∃ q, wr.heap.size = q := ⟨_, rfl⟩
      rw [hqe] at hq3 hpw ⊢
      have HQ3 := hide hq3
      clear hqe hq3 hb3 HB HK HM
      simp only []
      go_wp2
      go_loopw [9, 10] (fun cs i wz => ∃ (m : Nat), m ≤ 6 ∧ i = .int .i64 m ∧ cs = .int .i64 (Pu.cashes f m) ∧ Purse wz 55 p f ∧ Purse wz 55 q f ∧ Purse wz 32 pm f ∧ Below w.heap.size w wz) (fun _ i _ => 6 - (intOf i).toNat)
      case atStart => exact ⟨0, by decide, rfl, rfl, HP3.out, HQ3.out, HM3.out, HB3.out⟩
      case round =>
        obtain ⟨m, hm, rfl, rfl, hp1, hq1, hm1, hbl⟩ := hrel
        have HP1 := hide hp1; have HQ1 := hide hq1; have HM1 := hide hm1; have HB1 := hide hbl
        clear hp1 hq1 hm1 hbl HP3 HQ3 HM3 HB3
        by_cases hm6 : m < 6
        · have hmi : (m : Int) < 6 := by omega
          have b1 := Pu.cashes_bound HG.out m hm
          have g1 := HG.out.cash m hm6
          have HS : Hid (Pu.cashes f (m + 1) = Pu.cashes f m + f (m * 8)) := rfl
          obtain ⟨X, val, hval, hmk⟩ := later_all wr
          have HV := hide hval; have HMK := hide hmk
          have HOP : Hid (∀ x, Calls Tryd.prog 19 #[.pointer (some ⟨p, 0, none⟩), .int .i64 m] (val x) fun e w' => e = .returned (hasV f m) ∧ ∃ x', w' = val x') := fun x => by
            have := of_any p m f (val x) (HP1.out.lat (HV.out x))
            rw [ofV_in f hm6] at this
            exact this.mono fun e w' ⟨h1, h2⟩ => ⟨h1, HMK.out w' ((HV.out x).trans (h2.mono (HV.out x).size))⟩
          have HOQ : Hid (∀ x, Calls Tryd.prog 19 #[.pointer (some ⟨q, 0, none⟩), .int .i64 m] (val x) fun e w' => e = .returned (hasV f m) ∧ ∃ x', w' = val x') := fun x => by
            have := of_any q m f (val x) (HQ1.out.lat (HV.out x))
            rw [ofV_in f hm6] at this
            exact this.mono fun e w' ⟨h1, h2⟩ => ⟨h1, HMK.out w' ((HV.out x).trans (h2.mono (HV.out x).size))⟩
          have HSM : Hid (∀ x, Calls Tryd.prog 18 #[hasV f m, hasV f m] (val x) fun e w' => e = .returned (.bool true) ∧ ∃ x', w' = val x') := fun x =>
            (same_any _ _ _ _ _ _ _ _ (val x)).mono fun e w' ⟨h1, h2⟩ => ⟨h1, HMK.out w' ((HV.out x).trans (h2.mono (HV.out x).size))⟩
          unfold hasV at HOP HOQ HSM
          have e0 : ∀ x, (val x).cell? ⟨pm, m * 8, none⟩ = some (.int .i64 (f (m * 8))) := fun x => (HM1.out.lat (HV.out x)).cell (by omega)
          have e1 : ∀ x, (val x).cell? ⟨pm, m * 8 + 1, none⟩ = some (.int .i64 (f (m * 8 + 1))) := fun x => (HM1.out.lat (HV.out x)).cell (by omega)
          have e2 : ∀ x, (val x).cell? ⟨pm, m * 8 + 2, none⟩ = some (.int .i64 (f (m * 8 + 2))) := fun x => (HM1.out.lat (HV.out x)).cell (by omega)
          have e3 : ∀ x, (val x).cell? ⟨pm, m * 8 + 3, none⟩ = some (.int .i64 (f (m * 8 + 3))) := fun x => (HM1.out.lat (HV.out x)).cell (by omega)
          have e4 : ∀ x, (val x).cell? ⟨pm, m * 8 + 4, none⟩ = some (.int .i64 (f (m * 8 + 4))) := fun x => (HM1.out.lat (HV.out x)).cell (by omega)
          have e5 : ∀ x, (val x).cell? ⟨pm, m * 8 + 5, none⟩ = some (.int .i64 (f (m * 8 + 5))) := fun x => (HM1.out.lat (HV.out x)).cell (by omega)
          have e6 : ∀ x, (val x).cell? ⟨pm, m * 8 + 6, none⟩ = some (.int .i64 (f (m * 8 + 6))) := fun x => (HM1.out.lat (HV.out x)).cell (by omega)
          have e7 : ∀ x, (val x).cell? ⟨pm, m * 8 + 7, none⟩ = some (.int .i64 (f (m * 8 + 7))) := fun x => (HM1.out.lat (HV.out x)).cell (by omega)
          obtain ⟨x0, hx0⟩ := HMK.out wr.drew (bd1 (Below.refl _ _))
          generalize Pu.cashes f m = C at *
          generalize f (m * 8) = u0 at *
          generalize f (m * 8 + 1) = u1 at *
          generalize f (m * 8 + 2) = u2 at *
          generalize f (m * 8 + 3) = u3 at *
          generalize f (m * 8 + 4) = u4 at *
          generalize f (m * 8 + 5) = u5 at *
          generalize f (m * 8 + 6) = u6 at *
          generalize f (m * 8 + 7) = u7 at *
          clear hval hmk
          go_wp2
          refine region_quiet_class val (by kernel_rfl) (by kernel_rfl) x0 hx0.symm ?_
          clear hx0
          have hne : Nonempty X := ⟨x0⟩
          repeat (quiet_step (first | (go_at_call_of 19 (Value.pointer (some ⟨p, 0, none⟩)); exact HOP.out _) | (go_at_call_of 19 (Value.pointer (some ⟨q, 0, none⟩)); exact HOQ.out _) | (go_at_call 18; exact HSM.out _)))
          refine wpQuiet_nil ?_
          intro x
          have HPx := hide (HP1.out.lat (HV.out x))
          have HQx := hide (HQ1.out.lat (HV.out x))
          have HMx := hide (HM1.out.lat (HV.out x))
          have HBx : Hid (Below w.heap.size w (val x)) := HB1.out.trans ((HV.out x).mono HB1.out.size)
          have c0 := e0 x
          clear HOP HOQ HSM e0 e1 e2 e3 e4 e5 e6 e7 HV HMK
          generalize val x = wx at *
          go_wp2
          exact ⟨⟨m + 1, by omega, by go_num, by rw [HS.out], HPx.out, HQx.out, HMx.out, HBx.out⟩, by simp [intOf]; omega⟩
        · have hmi : ¬ (m : Int) < 6 := by omega
          have hme : m = 6 := by omega
          subst hme
          have HTT := hide (total_any p f wr HP1.out HG.out)
          unfold triV at HTT
          generalize Pu.cashes f 6 = C at *
          generalize Pu.stocks f 0 6 = y0 at *
          generalize Pu.stocks f 1 6 = y1 at *
          generalize Pu.stocks f 2 6 = y2 at *
          go_wp2_with fail
          refine HTT.out.mono ?_
          rintro e w4 ⟨rfl, hb4⟩
          have hb5 : Below wr.heap.size wr (w4.alloc (.cells #[.int .i64 y0, .int .i64 y1, .int .i64 y2] 27)) := hb4.alloc hb4.size _
          have HB5 : Hid (Below w.heap.size w (w4.alloc (.cells #[.int .i64 y0, .int .i64 y1, .int .i64 y2] 27))) := HB1.out.trans (hb5.mono HB1.out.size)
          have HP5 := hide (HP1.out.lat hb5)
          have HO := hide (of_any p (-1) f _ HP5.out)
          rw [ofV_low] at HO
          clear hb4 hb5 HTT
          simp only []
          go_wp2_with fail
          refine HO.out.mono ?_
          rintro e w6 ⟨rfl, hb6⟩
          have HB6 : Hid (Below w.heap.size w w6) := HB5.out.trans (hb6.mono HB5.out.size)
          have HP6 := hide (HP5.out.lat hb6)
          clear hb6 HO HP5 HB5
          simp only []
          go_wp2_with fail
          refine (same_any 0 0 0 0 0 0 0 0 w6).mono ?_
          rintro e w7 ⟨rfl, hb7⟩
          have HB7 : Hid (Below w.heap.size w w7) := HB6.out.trans (hb7.mono HB6.out.size)
          have HP7 := hide (HP6.out.lat hb7)
          have HO := hide (of_any p 6 f w7 HP7.out)
          rw [ofV_high] at HO
          clear hb7 HP6 HB6
          simp only []
          go_wp2_with fail
          refine HO.out.mono ?_
          rintro e w8 ⟨rfl, hb8⟩
          have HB8 : Hid (Below w.heap.size w w8) := HB7.out.trans (hb8.mono HB7.out.size)
          clear hb8 HO HP7 HB7
          simp only []
          go_wp2_with fail
          refine (same_any 0 0 0 0 0 0 0 0 w8).mono ?_
          rintro e w9 ⟨rfl, hb9⟩
          have HB9 : Hid (Below w.heap.size w w9) := HB8.out.trans (hb9.mono HB8.out.size)
          clear hb9
          simp only []
          go_wp2
          go_ret
          exact ⟨rfl, HB9.out⟩
theorem pays_any (a : Option Addr) (n cap : Nat) (l : List PAct) (ad : Nat → Addr) (w : World) (he : Sent w ad) (hl : ArgPays w a n l) :
    Calls Tryd.prog 3 #[.slice a n cap] w fun e w' => e = .returned (.bool true) ∧ Below w.heap.size w w' := by
  by_cases h : 60 < n
  · exact pays_big a n cap ad w he h
  · exact pays_some a n cap l ad w he hl.1 (by omega) hl.2
end Go.Proofs.YtgmncdpjbphfhaaDoor
