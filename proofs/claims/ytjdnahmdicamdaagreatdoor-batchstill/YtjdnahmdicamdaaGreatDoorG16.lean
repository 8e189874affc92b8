/- The small functions of package batch: check, find, Book, Purse, Band. -/
import Derived.Test.YtjdnahmdicamdaaGreatDoorG15
namespace Go.Proofs.YtjdnahmdicamdaaGreatDoor
open Go.RowKit
set_option maxRecDepth 100000

namespace Fl
/-- the error, by our number, of a request that should be of one kind -/
def kindE (a : Ask) (k : Int) : Nat := (kindN a k - 1).toNat
theorem kindE_zero {a : Ask} {k : Int} (h : kindN a k = 0) : kindE a k = 0 := by unfold kindE; rw [h]; rfl
end Fl

section
variable {ev : Nat → Value}
set_option maxHeartbeats 1000000 in
theorem wcheck_any (a : Ask) (w : World) (he : AEr w ev) (hz : 11 < w.heap.size) : Calls Tryz.prog 76 #[askV a] w fun e w' => e = .returned (errE ev (Wi.code a.k a.c a.sq a.it a.sd a.pr a.q a.id - 1)) ∧ Below w.heap.size w w' := by
  obtain ⟨ak, ac, asq, ait, asd, apr, aq, aid⟩ := a
  show Calls Tryz.prog 76 #[.agg #[.int .u8 ak, .int .i64 ac, .int .i64 asq, .int .i64 ait, .int .i64 asd, .int .i64 apr, .int .i64 aq, .int .i64 aid]] w fun e w' => e = .returned (errE ev (Wi.code ak ac asq ait asd apr aq aid - 1)) ∧ _
  unfold Wi.code
  cases hk : Wi.kindB ak with
  | false => exact check_kind ak ac asq ait asd apr aq aid _ w (by omega) he.c3 hk
  | true =>
    cases hb : Wi.boundB ak ac asq ait asd apr aq aid with
    | false => exact check_bound ak ac asq ait asd apr aq aid _ w (by omega) he.c1 hk hb
    | true =>
      cases hs : Wi.shapeB ak ait asd apr aq aid with
      | false => exact check_shape ak ac asq ait asd apr aq aid _ w (by omega) he.c2 hk hb hs
      | true => exact check_fine ak ac asq ait asd apr aq aid w hk hb hs

theorem AEr.size {w : World} (h : AEr w ev) : 11 < w.heap.size := World.block_lt_of_cell? w _ h.c11

set_option maxHeartbeats 1000000 in
theorem fcheck_any (a : Ask) (k : Int) (w : World) (he : Hid (AEr w ev)) (hk : 0 ≤ k ∧ k < 256) : Calls Tryz.prog 39 #[askV a, .int .u8 k] w fun e w' => e = .returned (errE ev (Fl.kindE a k)) ∧ Below w.heap.size w w' := by
  have HA := hide (fun W (hb : Below w.heap.size w W) => wcheck_any a W (he.out.below hb) (he.out.below hb).size)
  have HK : Hid (Fl.kindE a k = ((if Wi.code a.k a.c a.sq a.it a.sd a.pr a.q a.id = 0 ∧ a.k ≠ k then (4 : Int) else ((Wi.code a.k a.c a.sq a.it a.sd a.pr a.q a.id : Nat) : Int)) - 1).toNat) := rfl
  generalize Fl.kindE a k = KE at *
  obtain ⟨ak, ac, asq, ait, asd, apr, aq, aid⟩ := a
  unfold askV askA at HA ⊢
  simp only [] at HA HK ⊢
  have h1 : Wi.code ak ac asq ait asd apr aq aid ≠ 1 := by
    unfold Wi.code; split <;> (try split) <;> (try split) <;> decide
  generalize Wi.code ak ac asq ait asd apr aq aid = cd at *
  have hb0 : Below w.heap.size w (w.alloc (.cells #[.int .u8 ak, .int .i64 ac, .int .i64 asq, .int .i64 ait, .int .i64 asd, .int .i64 apr, .int .i64 aq, .int .i64 aid] 34)) := (Below.refl _ _).alloc (Nat.le_refl _) _
  have hr0 : (w.alloc (.cells #[.int .u8 ak, .int .i64 ac, .int .i64 asq, .int .i64 ait, .int .i64 asd, .int .i64 apr, .int .i64 aq, .int .i64 aid] 34)).heap[w.heap.size]? = some (.cells #[.int .u8 ak, .int .i64 ac, .int .i64 asq, .int .i64 ait, .int .i64 asd, .int .i64 apr, .int .i64 aq, .int .i64 aid] 34 (0, 0)) := heap_alloc_new _ _
  have HB0 := hide hb0; have HR0 := hide hr0
  clear hb0 hr0
  go_enter Tryz.func39, Tryz.ntmps39
  go_wp2_with fail
  refine (HA.out _ HB0.out).mono ?_
  rintro e w2 ⟨rfl, hb2⟩
  have HB2 := hide (HB0.out.trans (hb2.mono HB0.out.size))
  have c0 : w2.cell? ⟨w.heap.size, 0, none⟩ = some (.int .u8 ak) := by rw [cell_of_row w2 _ 0 _ _ _ (by rw [hb2.block _ (lt_of_block HR0.out)]; exact HR0.out)]; rfl
  have c3 := (he.out.below HB2.out).c3
  clear hb2 HA HB0 HR0
  simp only []
  by_cases hc : cd = 0
  · subst hc
    rw [show errE ev (0 - 1) = .nilIface from rfl]
    by_cases hk2 : ak = k
    · subst hk2
      have : (ak != ak) = false := by simp
      go_wp2
      go_ret
      exact ⟨by rw [HK.out]; simp [errE], HB2.out⟩
    · have hk' : (ak != k) = true := by simpa using hk2
      have hz := (he.out.below HB2.out).size
      go_wp2
      try go_quiet (fail)
      go_ret
      exact ⟨by rw [HK.out]; simp [errE, hk2], HB2.out⟩
  · obtain ⟨d, rfl⟩ : ∃ d, cd = d + 1 + 1 := ⟨cd - 2, by omega⟩
    have hne : ¬ (d + 1 + 1 = 0 ∧ ak ≠ k) := fun h => by omega
    have hKE : KE = d + 1 := by rw [HK.out, if_neg hne]; omega
    subst hKE
    rw [show errE ev (d + 1 + 1 - 1) = .iface 252 (ev (d + 1)) from rfl]
    clear HK hne hc h1
    go_wp2
    go_ret
    exact ⟨rfl, HB2.out⟩

section
variable {w W : World} {F P : Nat} {I b : Nat → Nat} {v : Nat → Value} {L : Nat → List Cv.Lot} {pf n : Nat → Int} {wd h : Int}
def itemV (I : Nat → Nat) (k : Int) : Value := if Wi.withinB k 0 2 = true then .pointer (some ⟨I k.toNat, 0, none⟩) else .pointer none
def bookV (b : Nat → Nat) (k : Int) : Value := if Wi.withinB k 0 2 = true then .pointer (some ⟨b k.toNat, 0, none⟩) else .pointer none
def bandOf (n : Nat → Int) (k : Int) : Value := if Wi.withinB k 0 2 = true then bandV (n (k.toNat * 2)) (n (k.toNat * 2 + 1)) else bandV 0 0
theorem find_out (k : Int) (hF : Hid (PFl w W F P I b v L pf n wd h)) (hk : Wi.withinB k 0 2 = false) : Calls Tryz.prog 43 #[.pointer (some ⟨F, 0, none⟩), .int .i64 k] W fun e w' => e = .returned (.pointer none) ∧ w' = W := by
  have HW := hide (fun W => within_any k 0 2 W)
  rw [hk] at HW
  go_enter Tryz.func43, Tryz.ntmps43
  go_wp2_with fail
  refine (HW.out _).mono ?_
  rintro e w2 ⟨rfl, rfl⟩
  simp only []
  go_wp2
  go_ret
  exact ⟨rfl, rfl⟩
theorem find_in (i : Nat) (hi : i < 3) (hF : Hid (PFl w W F P I b v L pf n wd h)) : Calls Tryz.prog 43 #[.pointer (some ⟨F, 0, none⟩), .int .i64 i] W fun e w' => e = .returned (.pointer (some ⟨I i, 0, none⟩)) ∧ w' = W := by
  have HW := hide (fun W => within_any (i : Int) 0 2 W)
  rw [show Wi.withinB (i : Int) 0 2 = true by simp [Wi.withinB]; omega] at HW
  have ci := hF.out.cellI hi
  have h0 : (0 : Int) ≤ (i : Int) := by omega
  have h3 : (i : Int) < 3 := by omega
  go_enter Tryz.func43, Tryz.ntmps43
  go_wp2_with fail
  refine (HW.out _).mono ?_
  rintro e w2 ⟨rfl, rfl⟩
  simp only []
  go_wp2
  go_ret
  exact ⟨rfl, rfl⟩
theorem book_in (i : Nat) (hi : i < 3) (hF : Hid (PFl w W F P I b v L pf n wd h)) : Calls Tryz.prog 11 #[.pointer (some ⟨F, 0, none⟩), .int .i64 i] W fun e w' => e = .returned (.pointer (some ⟨b i, 0, none⟩)) ∧ w' = W := by
  have HW := hide (find_in i hi hF)
  have ci := hF.out.cellB hi
  go_enter Tryz.func11, Tryz.ntmps11
  go_wp2_with fail
  refine (HW.out).mono ?_
  rintro e w2 ⟨rfl, rfl⟩
  simp only []
  go_wp2
  go_ret
  exact ⟨rfl, rfl⟩
theorem book_out (k : Int) (hF : Hid (PFl w W F P I b v L pf n wd h)) (hk : Wi.withinB k 0 2 = false) : Calls Tryz.prog 11 #[.pointer (some ⟨F, 0, none⟩), .int .i64 k] W fun e w' => e = .returned (.pointer none) ∧ w' = W := by
  have HW := hide (find_out k hF hk)
  go_enter Tryz.func11, Tryz.ntmps11
  go_wp2_with fail
  refine (HW.out).mono ?_
  rintro e w2 ⟨rfl, rfl⟩
  simp only []
  go_wp2
  go_ret
  exact ⟨rfl, rfl⟩
theorem purse_of (hF : Hid (PFl w W F P I b v L pf n wd h)) : Calls Tryz.prog 13 #[.pointer (some ⟨F, 0, none⟩)] W fun e w' => e = .returned (.pointer (some ⟨P, 0, none⟩)) ∧ w' = W := by
  have ci := hF.out.cellP
  go_enter Tryz.func13, Tryz.ntmps13
  go_wp2
  go_ret
  exact ⟨rfl, rfl⟩
theorem size69 : (Tryz.prog.info? 69).map (·.size) = some 2 := by kernel_rfl
theorem load69 {w : World} {B : Nat} {r l : Int} (h : w.heap[B]? = some (.cells #[.int .i64 r, .int .i64 l] 69 (0, 0))) : (loadVar 69 ⟨B, 0, none⟩).run Tryz.prog w = .ok (.agg #[.int .i64 r, .int .i64 l]) w :=
  run_loadVar_row w B 69 69 _ (0, 0) _ h Tryz.underlying69 rfl size69
set_option maxHeartbeats 1000000 in
theorem band_in (i : Nat) (hi : i < 3) (hF : Hid (PFl w W F P I b v L pf n wd h)) : Calls Tryz.prog 22 #[.pointer (some ⟨F, 0, none⟩), .int .i64 i] W fun e w' => e = .returned (bandV (n (i * 2)) (n (i * 2 + 1))) ∧ Below W.heap.size W w' := by
  have hb0 : Below W.heap.size W (W.alloc (.cells #[.int .i64 0, .int .i64 0] 69)) := (Below.refl _ _).alloc (Nat.le_refl _) _
  have HW := hide (find_in (W := W.alloc (.cells #[.int .i64 0, .int .i64 0] 69)) i hi (hF.out.later hb0))
  have c1 := (hF.out.later hb0).cellR hi
  have c2 := (hF.out.later hb0).cellL hi
  have HB0 := hide hb0
  clear hb0
  unfold bandV
  go_enter Tryz.func22, Tryz.ntmps22
  go_wp2_with fail
  refine (HW.out).mono ?_
  rintro e w2 ⟨rfl, rfl⟩
  simp only []
  go_wp2
  refine bodyPost_ret (v := .agg #[.int .i64 (n (i * 2)), .int .i64 (n (i * 2 + 1))]) ?_ rfl ⟨rfl, (Below.refl _ _).alloc (Nat.le_refl _) _⟩
  rw [results_one_cell rfl]
  simp [asAddr, Result.andThen, load69 (heap_alloc_new W _)]
end
end
end Go.Proofs.YtjdnahmdicamdaaGreatDoor
/- Function settle of package batch: fills are traded, and taken out of the book. -/
namespace Go.Proofs.YtjdnahmdicamdaaGreatDoor
open Go.RowKit
set_option maxRecDepth 100000

theorem rest_take {l : List Cv.Lot} {price : Int} {FF : List (Int × Int)} (hok : Bk.Good l) (hF : Fs.Fil l price FF) {k : Nat} (hk : k < FF.length) :
    Bk.takC (Fs.restL (FF.take k) l) (fnth FF k).1 (fnth FF k).2 = 0 ∧ Bk.takL (Fs.restL (FF.take k) l) (fnth FF k).1 (fnth FF k).2 = Fs.restL (FF.take (k + 1)) l ∧ Bk.Good (Fs.restL (FF.take k) l) := by
  have he : fnth FF k = FF[k] := by unfold fnth; rw [List.getD_eq_getElem?_getD, List.getElem?_eq_getElem hk]; rfl
  have hpos : ∀ f ∈ FF, 1 ≤ f.2 := fun f hf => (hF.pos f hf).1
  obtain ⟨hq, x, hx, hid⟩ := hF.pos _ (List.getElem_mem hk)
  have h1 := congrFun (Fs.got_take FF hk) (FF[k]).1
  simp only [Fu.more, if_true] at h1
  have h2 := Fs.got_take_le (FF[k]).1 FF hpos (k + 1)
  have h3 := (hF.le x hx).2
  rw [hid] at h3
  have h4 : Ra.got x.id (FF.take k) + (FF[k]).2 ≤ x.q := by rw [hid]; omega
  have hc : Ra.got x.id (FF.take k) < x.q := by omega
  have hg : Bk.Good (Fs.restL (FF.take k) l) := Fs.good_rem hok fun y _ => Fs.got_nonneg _ _ fun f hf => hpos f (List.mem_of_mem_take hf)
  rw [he, ← hid]
  refine ⟨?_, ?_, hg⟩
  · have hh : Cv.has (Fs.restL (FF.take k) l) x.id = true := Fu.rem_has.2 ⟨x, hx, rfl, hc⟩
    have hn : Cv.nth (Fs.restL (FF.take k) l) (Bk.pos (Fs.restL (FF.take k) l) x.id) = Bk.less x (Ra.got x.id (FF.take k)) := Fu.rem_nth (c := fun id => Ra.got id (FF.take k)) hok.once hx hc
    unfold Bk.takC
    rw [if_pos hh, if_pos]
    rw [hn]
    have e5 : (FF[k]).2 ≤ (Bk.less x (Ra.got x.id (FF.take k))).q := by show (FF[k]).2 ≤ x.q - Ra.got x.id (FF.take k); omega
    unfold Wi.withinB
    rw [Bool.and_eq_true]
    exact ⟨decide_eq_true hq, decide_eq_true e5⟩
  · have := Fu.takL_rem (c := fun id => Ra.got id (FF.take k)) hok.once hx hq h4
    unfold Fs.restL
    rw [Fs.got_take FF hk, this, hid]

section
variable {w W : World} {F P : Nat} {I b : Nat → Nat} {v : Nat → Value} {L : Nat → List Cv.Lot} {pf n : Nat → Int} {wd h : Int} {ev : Nat → Value}
theorem quiet_load55 {wr : World} {B : Nat} {f : Nat → Int} {o : Oper} {a : Act} {K : Act → Prop} (hp : Purse wr 105 B f) (x : Operand) (ho : o.op = .load 105 x) (hx : a.eval x = .pointer (some ⟨B, 0, none⟩)) (hk : K (a.put o.dst (.agg (p_row f)))) : o.quiet Tryz.prog a (fun w' => ∃ m, w' = wr.drewN m) K :=
  ⟨_, fun w ⟨m, hm⟩ => by
    subst hm
    unfold Oper.quietAt execOp
    simp only [ho, hx, Instr.loadAt, Instr.sureAddr, Sem.run_bind, Sem.run_pure, Result.andThen_ok, load55 (hp.drew m)]
    exact ⟨rfl, rfl⟩, hk⟩
theorem errOf_nil (T : TypeId) (v1 v5 v6 v7 : Value) : errOf T v1 v5 v6 v7 0 = .nilIface := rfl

set_option maxHeartbeats 1000000 in
theorem settle_any (i : Nat) (hi : i < 3) (price : Int) (vF : Value) (FF : List (Int × Int)) (hF : Hid (PFl w W F P I b v L pf n wd h)) (he : Hid (AEr w ev)) (hok : Hid (Fs.FOk L pf)) (hFil : Hid (Fs.Fil (L i) price FF)) (hp1 : 1 ≤ price) (hp2 : price ≤ 1000) (hrow : Hid (FRow W vF FF)) (hlen : FF.length ≤ 200) (hnil : FF ≠ []) :
    Calls Tryz.prog 52 #[.pointer (some ⟨F, 0, none⟩), .int .i64 i, .int .i64 price, vF] W fun e W' => e = .returned .nilIface ∧ ∃ v', PFl w W' F P I b v' (upd L i (Fs.restL FF (L i))) (Fs.sett pf i price (L i) FF) n wd h ∧ FStep W W' P I b v v' ∧ FRow W' vF FF ∧ Fs.FOk (upd L i (Fs.restL FF (L i))) (Fs.sett pf i price (L i) FF) := by
  have ci := hF.out.cellI hi
  have cb := hF.out.cellB hi
  have cp := hF.out.cellP
  have h0 : (0 : Int) ≤ (i : Int) := by omega
  have h3 : (i : Int) < 3 := by omega
  have HCP := hide (p_copy_any P pf W hF.out.pu)
  obtain ⟨gF, capF, hvF⟩ : ∃ gF capF, vF = .slice (some ⟨gF, 0, none⟩) FF.length capF := by
    rcases hrow.out with ⟨h, _⟩ | ⟨g, cap, cur, h1, _⟩
    · exact absurd h hnil
    · exact ⟨g, cap, h1⟩
  subst hvF
  obtain ⟨m, hm⟩ : ∃ m, FF.length = m := ⟨_, rfl⟩
  obtain ⟨G, hG⟩ : ∃ G, Fs.sett pf i price (L i) FF = G := ⟨_, rfl⟩
  rw [hG]
  have HM := hide hm; have HG := hide hG
  rw [hm] at hlen hrow
  rw [hm]
  clear hm hG
  go_enter Tryz.func52, Tryz.ntmps52
  go_wp2_with fail
  refine HCP.out.mono ?_
  rintro e w1 ⟨rfl, hp1', hb1⟩
  have HP1 := hide hp1'; have HB1 := hide hb1
  clear hp1' hb1 HCP ci cb cp
  obtain ⟨NX, hNX⟩ : ∃ NX, W.heap.size = NX := ⟨_, rfl⟩
  rw [hNX] at HP1
  rw [hNX]
  have HNX := hide hNX
  clear hNX
  have HR1 := hide (hrow.out.later HB1.out)
  have HBk1 := hide ((hF.out.bk i hi).later HB1.out)
  have HFA := hide (filled_any (b i) w.heap.size (v i) _ 0 (L i) FF w1 HBk1.out (hok.out.bk i hi).len (by rw [HM.out]; omega) HR1.out.fls)
  simp only []
  go_wp2_with fail
  refine HFA.out.mono ?_
  rintro e w2 ⟨vb, rfl, hob, hb2⟩
  have HOB := hide hob; have HB12 := hide hb2
  clear hob hb2 HFA
  have HFB := hide (filled_any (b i) w.heap.size (v i) _ 1 (L i) FF w2 (HBk1.out.later HB12.out) (hok.out.bk i hi).len (by rw [HM.out]; omega) (HR1.out.later HB12.out).fls)
  simp only []
  go_wp2_with fail
  refine HFB.out.mono ?_
  rintro e w3 ⟨vs, rfl, hos, hb3⟩
  have HOS := hide hos; have HB23 := hide hb3
  clear hos hb3 HFB
  have hb13 : Below w1.heap.size w1 w3 := HB12.out.trans (HB23.out.mono HB12.out.size)
  have hbW3 : Below W.heap.size W w3 := HB1.out.trans (hb13.mono HB1.out.size)
  obtain ⟨gb, gs, hob, hos, hne, hgb, hgs⟩ := own_pair (B := W.heap.size) HOB.out HB23.out HOS.out HB1.out.size (Nat.le_refl _) (Nat.le_trans HB1.out.size HB12.out.size)
  have hti := hok.out.start hi hFil.out
  have hl1 := filled_len (L i) 0 FF
  have hl2 := filled_len (L i) 1 FF
  rw [HM.out] at hl1 hl2
  have HTR := hide (trades_any NX i W.heap.size gb gs price vb vs _ _ pf _ ev w3 hi hp1 hp2 (fun W' hb => (hF.out.er he.out).below (hbW3.trans hb)) ⟨hbW3.size, by rw [HNX.out]; exact Nat.le_refl _, hgb, hgs⟩ hne hob hos (HP1.out.lat hb13) hti (by show _ ≤ _; omega) (by show _ ≤ _; omega))
  have HBW3 := hide hbW3
  clear hb13 hbW3 hob hos hne hgb hgs hti hl1 hl2 HOB HOS HB12 HB23 HB1 HP1 HR1 HBk1
  simp only []
  go_wp2_with fail
  refine HTR.out.mono ?_
  rintro e w4 ⟨rfl, ⟨hp4, hg4, hc4, hs4⟩, hb4⟩
  have hbW4 : Below W.heap.size W w4 := HBW3.out.trans hb4
  have hset := hok.out.settled hi hFil.out hg4 hc4 hs4
  have HSET := hide hset; have HP4 := hide hp4; have HBW4 := hide hbW4
  clear hp4 hg4 hc4 hs4 hb4 hbW4 hset HTR HBW3
  rw [HG.out] at HSET HP4
  have HF4 := hide (hF.out.later HBW4.out)
  have HS4 := hide (FStep.of_below HBW4.out P I b v)
  have HR4 := hide (hrow.out.later HBW4.out)
  clear HBW4 HG
  have HRT := hide (fun k (hk : k < FF.length) => rest_take (hok.out.bk i hi) hFil.out hk)
  have HST : Hid (upd L i (Fs.restL (FF.take 0) (L i)) = L) := by
    show _ = _
    rw [List.take_zero, show Fs.restL [] (L i) = L i from Fu.rem_zero (hok.out.bk i hi).oks, upd_self]
  have HNlo : Hid (w.heap.size ≤ NX) := by show _ ≤ _; rw [← HNX.out]; exact hF.out.bl.size
  simp only []
  go_wp2_with fail
  go_loopw [44] (fun c wr => ∃ (k : Nat) (vv : Nat → Value), k ≤ m ∧ c = .int .i64 k ∧ PFl w wr F P I b vv (upd L i (Fs.restL (FF.take k) (L i))) pf n wd h ∧ FStep W wr P I b v vv ∧ FRow wr (.slice (some ⟨gF, 0, none⟩) m capF) FF ∧ Purse wr 105 NX G) (fun c _ => m - (intOf c).toNat)
  case atStart => exact ⟨0, v, Nat.zero_le _, rfl, by rw [HST.out]; exact HF4.out, HS4.out, HR4.out, HP4.out⟩
  case round =>
    obtain ⟨k, vv, hk, rfl, hf, hs, hr, hp⟩ := hrel
    have HFk := hide hf; have HSk := hide hs; have HRk := hide hr; have HPk := hide hp
    clear hf hs hr hp HF4 HS4 HR4 HP4
    by_cases hlt : k < m
    · have hki : (k : Int) < m := by omega
      have hcell : wr.cell? ⟨gF, k * 2, none⟩ = some (.int .i64 (fnth FF k).1) ∧ wr.cell? ⟨gF, k * 2 + 1, none⟩ = some (.int .i64 (fnth FF k).2) := by
        rcases HRk.out with ⟨h, _⟩ | ⟨g, cap, cur, h1, h2, _⟩
        · exact absurd h hnil
        · simp only [Value.slice.injEq, Option.some.injEq, Addr.mk.injEq] at h1
          obtain ⟨⟨rfl, _, _⟩, _, _⟩ := h1
          exact h2 k (by rw [HM.out]; exact hlt)
      obtain ⟨c0, c1⟩ := hcell
      obtain ⟨hC, hL, hG⟩ := HRT.out k (by rw [HM.out]; exact hlt)
      obtain ⟨⟨id, q⟩, hfe⟩ : ∃ f, fnth FF k = f := ⟨_, rfl⟩
      rw [hfe] at c0 c1 hC hL
      simp only [] at c0 c1 hC hL
      have hb1 : Below wr.heap.size wr (wr.alloc (.cells #[.int .i64 id, .int .i64 q] 54)) := (Below.refl _ _).alloc (Nat.le_refl _) _
      have HF5 := hide (HFk.out.later hb1)
      have HS5 := hide (HSk.out.below hb1)
      have HR5 := hide (HRk.out.later hb1)
      have HP5 := hide (HPk.out.lat hb1)
      have hbook := HF5.out.bk i hi
      rw [upd_same] at hbook
      have HBk := hide hbook
      have htk := take_any (b i) w.heap.size (vv i) id q (Fs.restL (FF.take k) (L i)) 252 (ev 1) (ev 5) (ev 6) (ev 7) (wr.alloc (.cells #[.int .i64 id, .int .i64 q] 54)) (HF5.out.er he.out).er4 hbook hG
      rw [hC, hL, errOf_nil] at htk
      have HTK := hide htk
      clear hb1 hbook htk hC hL hG hfe HFk HSk HRk HPk
      go_wp2_with fail
      refine HTK.out.mono ?_
      rintro e w6 ⟨rfl, v6, hb6, hs6⟩
      have hf6 := HF5.out.book hi hb6 hs6
      rw [upd_upd] at hf6
      have HF6 := hide hf6
      have HS6 := hide (HS5.out.trans (FStep.of_book hi hs6 P I))
      have HR6 := hide (HR5.out.book HBk.out hs6)
      have HP6 : Hid (Purse w6 105 NX G) := by
        have hpu := HP5.out
        show _ = _
        rw [hs6.only.block NX (lt_of_block hpu) (fun e => by
          have : NX = b i := by simpa using e
          exact blkT hpu HBk.out.cell (by decide) this) (fun e => rowT HBk.out.row hpu (by decide) e.symm)]
        exact hpu
      clear hb6 hs6 hf6 HTK HF5 HS5 HR5 HP5 HBk
      simp only []
      go_wp2
      refine ⟨⟨k + 1, _, by omega, by go_num, HF6.out, HS6.out, HR6.out, HP6.out⟩, by simp [intOf]; omega⟩
    · have hki : ¬ (k : Int) < m := by omega
      have hkk : FF.take k = FF := List.take_of_length_le (by rw [HM.out]; omega)
      rw [hkk] at HFk
      clear hkk HRT HST
      have cp := HFk.out.cellP
      have hld : ∀ q, (loadVar 105 ⟨NX, 0, none⟩).run Tryz.prog (wr.drewN q) = .ok (.agg (p_row G)) (wr.drewN q) := fun q => load55 (HPk.out.drew q)
      go_wp2_with fail
      refine region_quiet_tail 8 (by kernel_rfl) (by kernel_rfl) ?_
      simp only [List.take_succ_cons, List.take_zero, List.drop_succ_cons, List.drop_zero]
      iterate 6 (first | go_big_quiet_step (fail) | quiet_step (fail))
      refine BigFrame.wpQuiet_want rfl (fun K hK => quiet_load55 HPk.out (.tmp 63) rfl rfl (hK _ ?_))
      simp only [Act.put]
      repeat (first | go_big_quiet_step (fail) | quiet_step (fail))
      refine wpQuiet_nil ?_
      intro _ hw'
      obtain ⟨nq, hw''⟩ := hw'
      subst hw''
      have HF7 := hide (HFk.out.later (blw_drew nq))
      have HS7 := hide (HSk.out.below (blw_drew nq))
      have HR7 := hide (HRk.out.later (blw_drew nq))
      clear HFk HSk HRk HPk cp hld hK
      generalize wr.drewN nq = w7 at *
      go_wp2_with (refine wpList_store55 (B := P) G (f := pf) HF7.out.pu rfl (.tmp 65) (.tmp 64) rfl rfl rfl ?_)
      go_ret
      refine ⟨rfl, vv, HF7.out.purse (HF7.out.pu.stored G) (Save.setRow _ _ _), HS7.out.trans (FStep.of_purse (Save.setRow _ _ _) I b vv), HR7.out.save (Save.setRow _ _ _) HF7.out.pu (by decide), HSET.out⟩
end
end Go.Proofs.YtjdnahmdicamdaaGreatDoor
/- Fills are fair, and a seed parts one level of a side at most: plain facts on lots; no walk. -/
namespace Go.Proofs.YtjdnahmdicamdaaGreatDoor
namespace Ra
open Cv
theorem once_of_well {l : List Lot} (h : Well l) : Once l := by
  unfold Once
  rw [List.nodup_iff_pairwise_ne, List.pairwise_iff_getElem]
  intro i j hi hj hij
  rw [List.length_map] at hi hj
  rw [List.getElem_map, List.getElem_map]
  intro e
  have h2 := h.2 j hj
  simp only [okAt, Bool.and_eq_true, Bool.not_eq_true'] at h2
  have h3 := h2.2
  unfold has at h3
  rw [List.any_eq_false] at h3
  refine h3 l[i] (List.mem_take_iff_getElem.2 ⟨i, by omega, rfl⟩) ?_
  have e2 : nth l j = l[j] := by unfold nth; rw [List.getD_eq_getElem?_getD, List.getElem?_eq_getElem hj]; rfl
  rw [e2, e]; simp
theorem once_eq {l : List Lot} (h : Once l) {x y : Lot} (hx : x ∈ l) (hy : y ∈ l) (e : x.id = y.id) : x = y := by
  obtain ⟨a, b, rfl⟩ := List.append_of_mem hx
  unfold Once at h
  rw [List.map_append, List.map_cons, List.nodup_append] at h
  obtain ⟨_, h2, h3⟩ := h
  obtain ⟨h4, _⟩ := List.nodup_cons.1 h2
  rcases List.mem_append.1 hy with hy | hy
  · exact absurd e.symm (h3 _ (List.mem_map.2 ⟨y, hy, rfl⟩) _ List.mem_cons_self)
  · rcases List.mem_cons.1 hy with hy | hy
    · exact hy.symm
    · exact absurd (List.mem_map.2 ⟨y, hy, e.symm⟩) h4
theorem once_filter {l : List Lot} (h : Once l) (f : Lot → Bool) : Once (l.filter f) := by
  unfold Once at *
  exact List.Nodup.sublist (List.Sublist.map _ List.filter_sublist) h

def seedFor (s sd : Int) : Int := if sd = 0 then s else nextSeed s
/-- the order in which a side is filled -/
def ord (s : Int) (l : List Lot) (sd price vol : Int) : List Lot := row (sh (seedFor s sd)) l sd (qsOf l sd price) vol
theorem ord_perm {l : List Lot} {price vol : Int} (hf : Fine l price vol) (s : Int) (sd : Int) : (ord s l sd price vol).Perm (l.filter (el sd price)) := order_perm _ hf.1.oks sd price vol hf.2.1.1 hf.2.1.2
theorem ord_mem {l : List Lot} {price vol : Int} (hf : Fine l price vol) (s : Int) {sd : Int} {x : Lot} : x ∈ ord s l sd price vol ↔ x ∈ l ∧ el sd price x = true := by
  rw [(ord_perm hf s sd).mem_iff, List.mem_filter]
theorem ord_pos {l : List Lot} {price vol : Int} (hf : Fine l price vol) (s : Int) (sd : Int) : Pos (ord s l sd price vol) := fun x hx => pos_of_oks hf.1.oks x ((ord_mem hf s).1 hx).1
theorem ord_once {l : List Lot} {price vol : Int} (hf : Fine l price vol) (s : Int) (sd : Int) : Once (ord s l sd price vol) := (once_filter (once_of_well hf.1) _).perm (ord_perm hf s sd).symm
theorem ord_falls {l : List Lot} {price vol : Int} (s : Int) (sd : Int) : (ord s l sd price vol).Pairwise fun x y => better sd y.pr x.pr = false := order_falls _ l sd price vol
theorem fills_eq {l : List Lot} {price vol : Int} (hf : Fine l price vol) (s : Int) : fills s l price vol = fill (ord s l 0 price vol) vol ++ fill (ord s l 1 price vol) vol := by
  unfold fills
  rw [side_is s hf.1.oks 0 price vol hf.2.2.1, side_is (nextSeed s) hf.1.oks 1 price vol hf.2.2.1]
  rfl
theorem got_side {l : List Lot} {price vol : Int} (hf : Fine l price vol) (s : Int) {x : Lot} (hx : x ∈ l) : got x.id (fills s l price vol) = got x.id (fill (ord s l x.sd price vol) vol) := by
  have hz : ∀ sd, x.sd ≠ sd → got x.id (fill (ord s l sd price vol) vol) = 0 := fun sd hne => got_out _ _ _ (ord_pos hf s sd) hf.2.2.1 fun y hy e => by
    obtain ⟨hy1, hy2⟩ := (ord_mem hf s).1 hy
    have := once_eq (once_of_well hf.1) hy1 hx e
    subst this
    simp only [el, Bool.and_eq_true, beq_iff_eq] at hy2
    exact hne hy2.1
  have hsd := (ok_bounds (hf.1.oks x hx)).2.2.1
  rw [fills_eq hf s, got_append]
  by_cases h : x.sd = 0
  · rw [hz 1 (by omega), h]; omega
  · have : x.sd = 1 := by omega
    rw [hz 0 h, this]; omega
theorem got_worse {l : List Lot} {price vol : Int} (hf : Fine l price vol) (s : Int) {x : Lot} (hx : x ∈ l) (h : el x.sd price x = false) : got x.id (fills s l price vol) = 0 := by
  rw [got_side hf s hx]
  refine got_out _ _ _ (ord_pos hf s _) hf.2.2.1 fun y hy e => ?_
  obtain ⟨hy1, hy2⟩ := (ord_mem hf s).1 hy
  have := once_eq (once_of_well hf.1) hy1 hx e
  subst this
  rw [h] at hy2; cases hy2
theorem got_in {l : List Lot} {price vol : Int} (hf : Fine l price vol) (s : Int) {x : Lot} (hx : x ∈ l) : 0 ≤ got x.id (fills s l price vol) ∧ got x.id (fills s l price vol) ≤ x.q := by
  have hq := pos_of_oks hf.1.oks x hx
  cases h : el x.sd price x with
  | false => rw [got_worse hf s hx h]; omega
  | true =>
    rw [got_side hf s hx]
    exact got_within (ord_pos hf s _) hf.2.2.1 (ord_once hf s _) ((ord_mem hf s).2 ⟨hx, h⟩)
theorem got_first {l : List Lot} {price vol : Int} (hf : Fine l price vol) (s : Int) {x y : Lot} (hx : x ∈ l) (hy : y ∈ l) (hsd : y.sd = x.sd) (hb : better x.sd y.pr x.pr = true) (hg : 0 < got x.id (fills s l price vol)) : got y.id (fills s l price vol) = y.q := by
  have hex : el x.sd price x = true := by
    cases h : el x.sd price x with
    | true => rfl
    | false => rw [got_worse hf s hx h] at hg; omega
  have hey : el x.sd price y = true := by
    simp only [el, Bool.and_eq_true, beq_iff_eq, Bool.not_eq_true'] at hex ⊢
    refine ⟨hsd, ?_⟩
    have h2 := hex.2
    unfold better at hb h2 ⊢
    split at hb <;> simp_all <;> omega
  rw [got_side hf s hx] at hg
  rw [got_side hf s hy, hsd]
  exact got_ahead (ord_pos hf s _) hf.2.2.1 (ord_once hf s _) (ord_falls s _) ((ord_mem hf s).2 ⟨hx, hex⟩) ((ord_mem hf s).2 ⟨hy, hey⟩) hb hg
/-- what the lots of a side got, of the first ones of a list -/
def sumG (F : List (Int × Int)) (sd : Int) : List Lot → Int
  | [] => 0
  | x :: l => (if x.sd = sd then got x.id F else 0) + sumG F sd l
theorem sumG_append (F : List (Int × Int)) (sd : Int) : ∀ a b : List Lot, sumG F sd (a ++ b) = sumG F sd a + sumG F sd b
  | [], b => by simp [sumG]
  | x :: a, b => by simp [sumG, sumG_append F sd a b]; omega
theorem sumG_gots (F : List (Int × Int)) (sd : Int) : ∀ l : List Lot, sumG F sd l = gots F (l.filter fun x => x.sd == sd)
  | [] => rfl
  | x :: l => by
    have ih := sumG_gots F sd l
    rw [List.filter_cons]
    by_cases h : x.sd = sd
    · simp [sumG, gots, h, ih]
    · simp [sumG, h, ih]
theorem gots_congr {F G : List (Int × Int)} : ∀ l : List Lot, (∀ x ∈ l, got x.id F = got x.id G) → gots F l = gots G l
  | [], _ => rfl
  | x :: l, h => by
    simp only [gots]
    rw [h x List.mem_cons_self, gots_congr l (fun y hy => h y (List.mem_cons_of_mem _ hy))]
theorem sum_side {l : List Lot} {price vol : Int} (hf : Fine l price vol) (s sd : Int) (hsd : sd = 0 ∨ sd = 1) : sumG (fills s l price vol) sd l = vol := by
  rw [sumG_gots]
  rw [gots_congr (G := fill (ord s l sd price vol) vol) _ fun x hx => ?_]
  · rw [gots_sum _ (once_filter (once_of_well hf.1) _) _ fun f hf' => ?_]
    · rw [fill_sum _ _ (ord_pos hf s sd) hf.2.2.1, tot_perm (ord_perm hf s sd)]
      have h1 := tot_el l price
      have h2 := hf.2.2.2
      unfold volume at h2
      rcases hsd with rfl | rfl
      · rw [h1.1]; omega
      · rw [h1.2]; omega
    · obtain ⟨_, x, hx, e⟩ := fill_mem _ _ (ord_pos hf s sd) hf.2.2.1 f hf'
      obtain ⟨hx1, hx2⟩ := (ord_mem hf s).1 hx
      simp only [el, Bool.and_eq_true] at hx2
      exact ⟨x, List.mem_filter.2 ⟨hx1, hx2.1⟩, e⟩
  · obtain ⟨hx1, hx2⟩ := List.mem_filter.1 hx
    have : x.sd = sd := by simpa using hx2
    rw [got_side hf s hx1, this]
theorem same_level {l : List Lot} {price vol : Int} (hf : Fine l price vol) (a b : Int) {x y : Lot} (hx : x ∈ l) (hy : y ∈ l) (hs : x.sd = y.sd) (dx : got x.id (fills a l price vol) ≠ got x.id (fills b l price vol)) (dy : got y.id (fills a l price vol) ≠ got y.id (fills b l price vol)) : x.pr = y.pr := by
  have mem : ∀ z ∈ l, got z.id (fills a l price vol) ≠ got z.id (fills b l price vol) → z ∈ ord a l z.sd price vol := fun z hz dz => by
    refine (ord_mem hf a).2 ⟨hz, ?_⟩
    cases h : el z.sd price z with
    | true => rfl
    | false => rw [got_worse hf a hz h, got_worse hf b hz h] at dz; exact absurd rfl dz
  have mx := mem x hx dx
  have my := mem y hy dy
  rw [got_side hf a hx, got_side hf b hx] at dx
  rw [got_side hf a hy, got_side hf b hy] at dy
  rw [← hs] at my dy
  exact one_level ((ord_perm hf a _).trans (ord_perm hf b _).symm) (ord_pos hf a _) hf.2.2.1 (ord_once hf a _) (ord_falls a _) (ord_falls b _) mx my dx dy
theorem same_fits {l : List Lot} {price vol : Int} (hf : Fine l price vol) (a b : Int) (hd : demand l price = vol) (hs : supply l price = vol) : fills a l price vol = fills b l price vol := by
  have key : ∀ s sd, tot (l.filter (el sd price)) ≤ vol → ord s l sd price vol = (qsOf l sd price).flatMap (lv l sd) := fun s sd h => by
    unfold ord
    refine row_fits _ (pos_of_oks hf.1.oks) sd _ _ ?_
    rw [← tot_perm (row_perm (mix_sh 0) l sd (qsOf l sd price) vol), tot_perm (order_perm 0 hf.1.oks sd price vol hf.2.1.1 hf.2.1.2)]
    exact h
  have h1 := tot_el l price
  rw [fills_eq hf a, fills_eq hf b, key a 0 (by omega), key b 0 (by omega), key a 1 (by omega), key b 1 (by omega)]
end Ra
end Go.Proofs.YtjdnahmdicamdaaGreatDoor
/- Fills of a price: they are right for lots; behind them no buy is at a sell's price; no walk. -/
namespace Go.Proofs.YtjdnahmdicamdaaGreatDoor
namespace Fs
open Cv Bk Ra Pu Fu

theorem fills_mem {l : List Lot} {price vol : Int} (hf : Fine l price vol) (s : Int) : ∀ f ∈ fills s l price vol, 1 ≤ f.2 ∧ ∃ x ∈ l, x.id = f.1 := by
  intro f hm
  rw [fills_eq hf s] at hm
  rcases List.mem_append.1 hm with h | h
  · obtain ⟨h1, x, hx, he⟩ := fill_mem _ _ (ord_pos hf s 0) hf.2.2.1 f h
    exact ⟨h1, x, ((ord_mem hf s).1 hx).1, he⟩
  · obtain ⟨h1, x, hx, he⟩ := fill_mem _ _ (ord_pos hf s 1) hf.2.2.1 f h
    exact ⟨h1, x, ((ord_mem hf s).1 hx).1, he⟩
theorem sumG_by (F : List (Int × Int)) (sd : Int) : ∀ l : List Lot, sumG F sd l = sumBy (fun x => if x.sd = sd then got x.id F else 0) l
  | [] => rfl
  | x :: l => by rw [sumG, sumBy, sumG_by F sd l]
theorem fil_of {l : List Lot} {price vol : Int} (hf : Fine l price vol) (s : Int) : Fil l price (fills s l price vol) := by
  refine ⟨fills_mem hf s, fun x hx => got_in hf s hx, fun x hx hg => ?_, ?_⟩
  · have he : el x.sd price x ≠ false := fun e => by rw [got_worse hf s hx e] at hg; omega
    have he' : better x.sd price x.pr = false := by
      unfold el at he
      simp only [beq_self_eq_true, Bool.true_and, ne_eq, Bool.not_eq_false, Bool.not_eq_true'] at he
      exact he
    unfold better at he'
    constructor
    · intro h0; rw [if_pos h0] at he'; simpa using he'
    · intro h1; rw [if_neg (by omega)] at he'; simpa using he'
  · rw [← sumG_by, ← sumG_by, sum_side hf s 0 (.inl rfl), sum_side hf s 1 (.inr rfl)]
theorem sumIf_by (f : Lot → Bool) : ∀ l : List Lot, sumIf f l = sumBy (fun x => if f x = true then x.q else 0) l
  | [] => rfl
  | x :: l => by rw [sumIf, sumBy, sumIf_by f l]
theorem sumBy_lt {g h : Lot → Int} : ∀ {l : List Lot}, (∀ x ∈ l, g x ≤ h x) → ∀ {x : Lot}, x ∈ l → g x < h x → sumBy g l < sumBy h l
  | [], _, x, hx, _ => by cases hx
  | y :: l, H, x, hx, hlt => by
    have h1 := H y (List.mem_cons_self ..)
    have h2 := sumBy_le fun z hz => H z (List.mem_cons_of_mem y hz)
    rw [sumBy, sumBy]
    rcases List.mem_cons.1 hx with rfl | hx
    · omega
    · have := sumBy_lt (fun z hz => H z (List.mem_cons_of_mem y hz)) hx hlt
      omega
/-- who is not filled stands behind what is traded -/
theorem left_demand {l : List Lot} {price vol : Int} (hf : Fine l price vol) (s : Int) {x : Lot} (hx : x ∈ l) (h0 : x.sd = 0) (hg : got x.id (fills s l price vol) < x.q) : vol < demand l x.pr := by
  have e : sumBy (fun y => if y.sd = 0 then got y.id (fills s l price vol) else 0) l = vol := by rw [← sumG_by]; exact sum_side hf s 0 (.inl rfl)
  unfold demand
  rw [sumIf_by, ← e]
  refine sumBy_lt (fun y hy => ?_) hx ?_
  · have hb := got_in hf s hy
    have hq := (ok_bounds (hf.1.oks y hy)).2.2.2.2.1
    by_cases hs : y.sd = 0
    · rw [if_pos hs]
      by_cases hp : x.pr ≤ y.pr
      · rw [if_pos (by simp [dB, hs, hp])]; exact hb.2
      · rw [if_neg (by simp [dB, hs, hp])]
        apply Int.not_lt.1
        intro hpos
        have := got_first hf s hy hx (by rw [h0, hs]) (by unfold better; rw [if_pos hs]; simp; omega) hpos
        omega
    · rw [if_neg hs]; split <;> omega
  · show (if x.sd = 0 then _ else _) < _
    rw [if_pos h0, if_pos (by simp [dB, h0])]; exact hg
theorem left_supply {l : List Lot} {price vol : Int} (hf : Fine l price vol) (s : Int) {x : Lot} (hx : x ∈ l) (h1 : x.sd = 1) (hg : got x.id (fills s l price vol) < x.q) : vol < supply l x.pr := by
  have e : sumBy (fun y => if y.sd = 1 then got y.id (fills s l price vol) else 0) l = vol := by rw [← sumG_by]; exact sum_side hf s 1 (.inr rfl)
  unfold supply
  rw [sumIf_by, ← e]
  refine sumBy_lt (fun y hy => ?_) hx ?_
  · have hb := got_in hf s hy
    have hq := (ok_bounds (hf.1.oks y hy)).2.2.2.2.1
    by_cases hs : y.sd = 1
    · rw [if_pos hs]
      by_cases hp : y.pr ≤ x.pr
      · rw [if_pos (by simp [sB, hs, hp])]; exact hb.2
      · rw [if_neg (by simp [sB, hs, hp])]
        apply Int.not_lt.1
        intro hpos
        have := got_first hf s hy hx (by rw [h1, hs]) (by unfold better; rw [if_neg (by omega)]; simp; omega) hpos
        omega
    · rw [if_neg hs]; split <;> omega
  · show (if x.sd = 1 then _ else _) < _
    rw [if_pos h1, if_pos (by simp [sB, h1])]; exact hg
theorem won_fine {l : List Lot} {ref p v : Int} (hl : Well l) (hw : Won l ref 1000 p v) (hv : 0 < v) : Fine l p v := by
  rcases hw with ⟨_, h2, _⟩ | ⟨_, h2, h3, h4, _⟩
  · omega
  · exact ⟨hl, ⟨h2, h3⟩, by omega, by omega⟩
theorem no_cross {l : List Lot} {ref p v : Int} (hl : Well l) (hw : Won l ref 1000 p v) (hv : 0 < v) (s : Int) : cross (restL (fills s l p v) l) = false := by
  have hf := won_fine hl hw hv
  have hmax : ∀ q, 1 ≤ q → q ≤ 1000 → volume l q ≤ v := fun q h1 h2 => by
    rcases hw with ⟨_, h3, _⟩ | ⟨_, _, _, _, h5⟩
    · omega
    · have := h5 q h1 h2; omega
  have hok : Oks (restL (fills s l p v) l) := fun y hy => by
    obtain ⟨x, hx, hlt, rfl⟩ := rem_mem.1 hy
    have h0 := got_in hf s hx
    by_cases e : got x.id (fills s l p v) = 0
    · rw [e]
      have : less x 0 = x := by unfold less; simp
      rw [this]; exact hl.oks x hx
    · exact ok_less (hl.oks x hx) (by omega) hlt
  cases hc : cross (restL (fills s l p v) l) with
  | false => rfl
  | true =>
    exfalso
    unfold cross at hc
    simp only [Bool.and_eq_true, bne_iff_ne, ne_eq, decide_eq_true_eq] at hc
    obtain ⟨hc1, hc2⟩ := hc
    rcases best_sell _ hok with ⟨h1, _⟩ | ⟨⟨y, hy, hys, hyp⟩, _⟩
    · exact hc1 h1
    rcases best_buy _ hok with ⟨h1, _⟩ | ⟨⟨x, hx, hxs, hxp⟩, _⟩
    · have := (ok_bounds (hok y hy)).2.2.2.1.1
      omega
    obtain ⟨x', hx', hxlt, rfl⟩ := rem_mem.1 hx
    obtain ⟨y', hy', hylt, rfl⟩ := rem_mem.1 hy
    have d1 := left_demand hf s hx' hxs hxlt
    have d2 := left_supply hf s hy' hys hylt
    have exp : x'.pr = best 0 (restL (fills s l p v) l) := hxp
    have eyp : y'.pr = best 1 (restL (fills s l p v) l) := hyp
    have d3 := demand_falls l hl.oks (show y'.pr ≤ x'.pr by omega)
    have hb := (ok_bounds (hl.oks y' hy')).2.2.2.1
    have := hmax y'.pr hb.1 hb.2
    unfold volume at this
    omega
theorem rest_nil {l : List Lot} (h : Oks l) : restL [] l = l := rem_zero h
theorem sett_nil (f : Nat → Int) (i : Nat) (price : Int) (l : List Lot) : sett f i price l [] = f := by
  funext j
  unfold sett
  have : sumBy (fun x => eff i price j x (got x.id [])) l = 0 := sumBy_zero fun x _ => eff_zero i price j x
  omega
end Fs
end Go.Proofs.YtjdnahmdicamdaaGreatDoor
