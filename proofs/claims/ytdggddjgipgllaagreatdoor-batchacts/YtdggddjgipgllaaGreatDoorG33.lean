/- Run of the document's floor: what is so while it trades. -/
import Derived.Test.YtdggddjgipgllaaGreatDoorG31
import Derived.Test.YtdggddjgipgllaaGreatDoorG22
import Derived.Test.YtdggddjgipgllaaGreatDoorG32
import Derived.Test.YtdggddjgipgllaaGreatDoorG05
import Derived.Test.YtdggddjgipgllaaGreatDoorG03
namespace Go.Proofs.YtdggddjgipgllaaGreatDoor
open Go.RowKit
set_option maxRecDepth 100000

structure RInv (w W0 W : World) (F P : Nat) (b : Nat → Nat) (v : Nat → Value) (L : Nat → List Cv.Lot) (pf n : Nat → Int) (wd h : Int) (R B1 : Nat) (p vol : Int) (vF : Value) (FF : List (Int × Int)) (bv sv : Value) (bu se : List Int) : Prop where
 fl : MFl w W F P b v L pf n wd h
 res : W.heap[R]? = some (.cells #[.int .i64 0, .int .i64 0, .bool false, .slice none 0 0] 82 (0, 0))
 r : W.heap[B1]? = some (.cells #[.int .i64 p, .int .i64 vol, .bool true, vF] 82 (0, 0))
 fr : W.ownsRow W0.heap.size 54 2 vF FF.length (fcells FF)
 br : W.ownsRow W0.heap.size 3 1 bv bu.length (iV bu)
 sr : W.ownsRow W0.heap.size 3 1 sv se.length (iV se)
 ap : ∀ k, bv.ownBlock = some k → sv.ownBlock ≠ some k
 sz : W0.heap.size ≤ W.heap.size
 lo : w.heap.size ≤ W0.heap.size
section
variable {w W0 W W' : World} {F P : Nat} {b : Nat → Nat} {v : Nat → Value} {L : Nat → List Cv.Lot} {pf n : Nat → Int} {wd h : Int} {R B1 : Nat} {p vol : Int} {vF : Value} {FF : List (Int × Int)} {bv sv : Value} {bu se : List Int}
theorem RInv.later (hr : RInv w W0 W F P b v L pf n wd h R B1 p vol vF FF bv sv bu se) (hb : Below W.heap.size W W') : RInv w W0 W' F P b v L pf n wd h R B1 p vol vF FF bv sv bu se :=
 ⟨hr.fl.later hb, by rw [hb.block _ (lt_of_block hr.res)]; exact hr.res, by rw [hb.block _ (lt_of_block hr.r)]; exact hr.r, row_below hr.fr hb, row_below hr.br hb, row_below hr.sr hb, hr.ap, Nat.le_trans hr.sz hb.size, hr.lo⟩
theorem RInv.turn (hr : RInv w W0 W F P b v L pf n wd h R B1 p vol vF FF bv sv bu se) {q : Option Nat} {q2 : Option Nat} (ho : Only W W' q q2) {v' : Nat → Value} {L' : Nat → List Cv.Lot} {pf' : Nat → Int} (hf : MFl w W' F P b v' L' pf' n wd h)
  (h1 : ∀ {k : Nat} {a : Array Value} {T : TypeId}, W.heap[k]? = some (.cells a T (0, 0)) → T = 82 ∨ T = 54 ∨ T = 3 → some k ≠ q ∧ some k ≠ q2) : RInv w W0 W' F P b v' L' pf' n wd h R B1 p vol vF FF bv sv bu se := by
 have hrow : ∀ {e : TypeId} {s m : Nat} {u : Value} {xs : List Value}, W.ownsRow W0.heap.size e s u m xs → e = 82 ∨ e = 54 ∨ e = 3 → W'.ownsRow W0.heap.size e s u m xs := fun {e s m u xs} hw he => by
  refine row_only hw ho (fun k hk => ?_) (fun k hk => ?_)
  ·rcases hw.2 with ⟨e1, _⟩ | ⟨g, cap, cur, e1, _, hg, _⟩
   ·rw [e1] at hk; cases hk
   ·rw [e1] at hk
    have : g = k := by simpa [Value.ownBlock] using hk
    subst this
    exact (h1 hg he).1
  ·rcases hw.2 with ⟨e1, _⟩ | ⟨g, cap, cur, e1, _, hg, _⟩
   ·rw [e1] at hk; cases hk
   ·rw [e1] at hk
    have : g = k := by simpa [Value.ownBlock] using hk
    subst this
    exact (h1 hg he).2
 refine ⟨hf, ?_, ?_, hrow hr.fr (.inr (.inl rfl)), hrow hr.br (.inr (.inr rfl)), hrow hr.sr (.inr (.inr rfl)), hr.ap, Nat.le_trans hr.sz ho.size, hr.lo⟩
 ·have := h1 hr.res (.inl rfl)
  rw [ho.block R (lt_of_block hr.res) this.1 this.2]; exact hr.res
 ·have := h1 hr.r (.inl rfl)
  rw [ho.block B1 (lt_of_block hr.r) this.1 this.2]; exact hr.r
theorem RInv.book (hr : RInv w W0 W F P b v L pf n wd h R B1 p vol vF FF bv sv bu se) {i : Nat} (hi : i < 3) {v' : Value} {L' : List Cv.Lot} (hb : MBook W' 0 (b i) v' L') (hs : Step W W' (b i) (v i) v') : RInv w W0 W' F P b (upd v i v') (upd L i L') pf n wd h R B1 p vol vF FF bv sv bu se := by
 refine hr.turn hs.only (hr.fl.book hi hb hs) (fun {k a T} hk hT => ⟨fun e => ?_, fun e => rowTT (hr.fl.bk i hi).row hk (by rcases hT with rfl | rfl | rfl <;> decide) e.symm⟩)
 have : k = b i := by simpa using e
 rw [this, (hr.fl.bk i hi).cell] at hk
 simp only [Option.some.injEq, Obj.cells.injEq] at hk
 rcases hT with rfl | rfl | rfl <;> simp at hk
theorem RInv.purse (hr : RInv w W0 W F P b v L pf n wd h R B1 p vol vF FF bv sv bu se) {f' : Nat → Int} (hp : Purse W' 131 P f') (hs : Save W W' P) : RInv w W0 W' F P b v L f' n wd h R B1 p vol vF FF bv sv bu se := by
 refine hr.turn (q := some P) (q2 := none) ⟨hs.os, hs.tape, hs.output, hs.size, fun k hk h1 _ => hs.block k hk (fun e => h1 (by rw [e]))⟩ (hr.fl.purse hp hs) (fun {k a T} hk hT => ⟨fun e => ?_, by simp⟩)
 have : k = P := by simpa using e
 rw [this, show W.heap[P]? = _ from hr.fl.pu] at hk
 simp only [Option.some.injEq, Obj.cells.injEq] at hk
 rcases hT with rfl | rfl | rfl <;> simp at hk
theorem MFl.grow3 (hf : MFl w W F P b v L pf n wd h) {base m : Nat} {u : Value} {xs : List Value} (hu : W.ownsRow base 3 1 u m xs) (hlo : w.heap.size ≤ base) (hg : W.grownBy W' u.ownBlock) : MFl w W' F P b v L pf n wd h := by
 have ho : Only W W' none u.ownBlock := Only.of_grown hg none
 have hk : ∀ {q : Nat} {a : Array Value} {T : TypeId}, W.heap[q]? = some (.cells a T (0, 0)) → T ≠ 3 → W'.heap[q]? = some (.cells a T (0, 0)) := fun {q a T} hq hT => by
  rw [ho.block q (lt_of_block hq) (by simp) (fun e => rowTT hu hq hT e.symm)]; exact hq
 refine ⟨hk hf.blk (by decide), fun i hi => ?_, hf.ne, hf.ap, hk hf.pu (by decide), hf.bl.step ho.os ho.tape ho.output ho.size (fun k hk5 _ _ _ => ho.block k (Nat.lt_of_lt_of_le hk5 hf.bl.size) (by simp) (fun e => by have := (hu.lt k e.symm).1; omega)) (fun _ _ _ e => .inl e)⟩
 refine (hf.bk i hi).only ho (by simp) (fun e => rowTT hu (hf.bk i hi).cell (by decide) e.symm) (fun _ _ => by simp) (fun k hk e => ?_)
 rcases (hf.bk i hi).row.2 with ⟨e1, _⟩ | ⟨g, cap, cur, e1, _, hgg, _⟩
 ·rw [e1] at hk; cases hk
 ·rw [e1] at hk
  have : g = k := by simpa [Value.ownBlock] using hk
  subst this
  exact rowTT hu hgg (by decide) e.symm
theorem RInv.growB (hr : RInv w W0 W F P b v L pf n wd h R B1 p vol vF FF bv sv bu se) {bv' : Value} {bu' : List Int} (hrow : W'.ownsRow W0.heap.size 3 1 bv' bu'.length (iV bu')) (hg : W.grownBy W' bv.ownBlock) (hl : bv'.ownBlock = bv.ownBlock ∨ bv'.ownBlock = some W.heap.size) : RInv w W0 W' F P b v L pf n wd h R B1 p vol vF FF bv' sv bu' se := by
 have ho : Only W W' none bv.ownBlock := Only.of_grown hg none
 have hk : ∀ {q : Nat} {a : Array Value} {T : TypeId}, W.heap[q]? = some (.cells a T (0, 0)) → T ≠ 3 → W'.heap[q]? = some (.cells a T (0, 0)) := fun {q a T} hq hT => by
  rw [ho.block q (lt_of_block hq) (by simp) (fun e => rowTT hr.br hq hT e.symm)]; exact hq
 refine ⟨hr.fl.grow3 hr.br hr.lo hg, hk hr.res (by decide), hk hr.r (by decide), row_only hr.fr ho (fun _ _ => by simp) (fun k hk' e => ?_), hrow, row_only hr.sr ho (fun _ _ => by simp) (fun k hk' e => hr.ap k e.symm hk'), fun k hk' => ?_, Nat.le_trans hr.sz hg.size, hr.lo⟩
 ·rcases hr.fr.2 with ⟨e1, _⟩ | ⟨g, cap, cur, e1, _, hgg, _⟩
  ·rw [e1] at hk'; cases hk'
  ·rw [e1] at hk'
   have : g = k := by simpa [Value.ownBlock] using hk'
   subst this
   exact rowTT hr.br hgg (by decide) e.symm
 ·rcases hl with h1 | h1
  ·rw [h1] at hk'; exact hr.ap k hk'
  ·rw [h1] at hk'
   have : W.heap.size = k := by simpa using hk'
   intro e
   have := (hr.sr.lt k e).2
   omega
theorem RInv.growS (hr : RInv w W0 W F P b v L pf n wd h R B1 p vol vF FF bv sv bu se) {sv' : Value} {se' : List Int} (hrow : W'.ownsRow W0.heap.size 3 1 sv' se'.length (iV se')) (hg : W.grownBy W' sv.ownBlock) (hl : sv'.ownBlock = sv.ownBlock ∨ sv'.ownBlock = some W.heap.size) : RInv w W0 W' F P b v L pf n wd h R B1 p vol vF FF bv sv' bu se' := by
 have ho : Only W W' none sv.ownBlock := Only.of_grown hg none
 have hk : ∀ {q : Nat} {a : Array Value} {T : TypeId}, W.heap[q]? = some (.cells a T (0, 0)) → T ≠ 3 → W'.heap[q]? = some (.cells a T (0, 0)) := fun {q a T} hq hT => by
  rw [ho.block q (lt_of_block hq) (by simp) (fun e => rowTT hr.sr hq hT e.symm)]; exact hq
 refine ⟨hr.fl.grow3 hr.sr hr.lo hg, hk hr.res (by decide), hk hr.r (by decide), row_only hr.fr ho (fun _ _ => by simp) (fun k hk' e => ?_), row_only hr.br ho (fun _ _ => by simp) (fun k hk' e => hr.ap k hk' e.symm), hrow, fun k hk' => ?_, Nat.le_trans hr.sz hg.size, hr.lo⟩
 ·rcases hr.fr.2 with ⟨e1, _⟩ | ⟨g, cap, cur, e1, _, hgg, _⟩
  ·rw [e1] at hk'; cases hk'
  ·rw [e1] at hk'
   have : g = k := by simpa [Value.ownBlock] using hk'
   subst this
   exact rowTT hr.sr hgg (by decide) e.symm
 ·intro e
  rcases hl with h1 | h1
  ·rw [h1] at e; exact hr.ap k hk' e
  ·rw [h1] at e
   have : W.heap.size = k := by simpa using e
   have := (hr.br.lt k hk').2
   omega
end
def MRan (w : World) (base F P : Nat) (b : Nat → Nat) (L' : Nat → List Cv.Lot) (pf' n' : Nat → Int) (wd h p vol : Int) (FF : List (Int × Int)) (e : Ending) (W' : World) : Prop :=
 ∃ vF v', e = .returned (.agg #[.int .i64 p, .int .i64 vol, .bool true, vF]) ∧ W'.ownsRow base 54 2 vF FF.length (fcells FF) ∧ MFl w W' F P b v' L' pf' n' wd h
def upn (n : Nat → Int) (i : Nat) (nr nl : Int) : Nat → Int := upd (upd n (i * 2) nr) (i * 2 + 1) nl
theorem MBook.ats {w : World} {base p g m cap : Nat} {l : List Cv.Lot} (h : MBook w base p (.slice (some ⟨g, 0, none⟩) m cap) l) : m = l.length ∧ LotsAt w g 0 l := by
 rcases h.form with ⟨e, _⟩ | ⟨g', cap', e, _, _, hl⟩
 ·cases e
 ·simp only [Value.slice.injEq, Option.some.injEq, Addr.mk.injEq] at e
  obtain ⟨⟨e1, _⟩, e2, _⟩ := e
  subst e1
  exact ⟨e2, hl⟩
theorem row_int {w : World} {base g m cap : Nat} {zs : List Int} (h : w.ownsRow base 3 1 (.slice (some ⟨g, 0, none⟩) m cap) zs.length (iV zs)) {t : Nat} (ht : t < zs.length) : m = zs.length ∧ w.cell? ⟨g, t, none⟩ = some (.int .i64 (zs.getD t 0)) := by
 have h1 := World.ownsRow.cells h (g := g) rfl t (.int .i64 (zs.getD t 0)) (by unfold iV; rw [List.getElem?_map, List.getElem?_eq_getElem ht, List.getD_eq_getElem?_getD, List.getElem?_eq_getElem ht]; rfl)
 have hp : (⟨g, 0, none⟩ : Addr).add t = ⟨g, t, none⟩ := by unfold Addr.add; split <;> simp_all
 rw [hp] at h1
 refine ⟨?_, h1⟩
 rcases h.2 with ⟨e, _⟩ | ⟨_, _, _, e, _⟩
 ·cases e
 ·simp only [Value.slice.injEq] at e
  exact e.2.1
theorem row_form {w : World} {base : Nat} {v : Value} {zs : List Int} (h : w.ownsRow base 3 1 v zs.length (iV zs)) : (v = .slice none 0 0 ∧ zs = []) ∨ ∃ g cap, v = .slice (some ⟨g, 0, none⟩) zs.length cap := by
 rcases h.2 with ⟨e, e2⟩ | ⟨g, cap, _, e, _⟩
 ·exact .inl ⟨e, List.eq_nil_of_length_eq_zero e2⟩
 ·exact .inr ⟨g, cap, e⟩
section
variable {w W0 W W' : World} {F P : Nat} {b : Nat → Nat} {v : Nat → Value} {L : Nat → List Cv.Lot} {pf n : Nat → Int} {wd h : Int} {R B1 : Nat} {p vol : Int} {vF : Value} {FF : List (Int × Int)} {bv sv : Value} {bu se : List Int}
theorem RInv.b3 (hr : RInv w W0 W F P b v L pf n wd h R B1 p vol vF FF bv sv bu se) : W.cell? ⟨B1, 3, none⟩ = some vF := by
 rw [cell_of_row _ _ 3 _ _ _ hr.r]; rfl
theorem RInv.fcell {g m cap : Nat} (hr : RInv w W0 W F P b v L pf n wd h R B1 p vol (.slice (some ⟨g, 0, none⟩) m cap) FF bv sv bu se) {k : Nat} (hk : k < FF.length) : W.cell? ⟨g, k * 2, none⟩ = some (.int .i64 (fnth FF k).1) ∧ W.cell? ⟨g, k * 2 + 1, none⟩ = some (.int .i64 (fnth FF k).2) := by
 have hc := fcells_at FF k hk
 have hp : ∀ t, (⟨g, 0, none⟩ : Addr).add t = ⟨g, t, none⟩ := fun t => by unfold Addr.add; split <;> simp_all
 have h1 := World.ownsRow.cells hr.fr (g := g) rfl _ _ hc.1
 have h2 := World.ownsRow.cells hr.fr (g := g) rfl _ _ hc.2
 rw [hp] at h1 h2
 exact ⟨h1, h2⟩
theorem RInv.start {w9 w10 : World} (hF : MFl w w9 F P b v L pf n wd h) (hR : w9.heap[R]? = some (.cells #[.int .i64 0, .int .i64 0, .bool false, .slice none 0 0] 82 (0, 0))) (hS : w9.heap[B1]? = some (.cells #[.int .i64 p, .int .i64 vol, .bool true, .slice none 0 0] 82 (0, 0))) (hne : R ≠ B1) (hlo : w.heap.size ≤ B1)
  (hfr : w10.ownsRow w9.heap.size 54 2 vF FF.length (fcells FF)) (hb : Below w9.heap.size w9 w10) : RInv w w9 (w10.setCell ⟨B1, 3, none⟩ vF) F P b v L pf n wd h R B1 p vol vF FF (.slice none 0 0) (.slice none 0 0) [] [] := by
 have hs := Save.setCell w10 B1 3 vF
 have ho : Only w10 (w10.setCell ⟨B1, 3, none⟩ vF) (some B1) none := ⟨hs.os, hs.tape, hs.output, hs.size, fun k hk h1 _ => hs.block k hk (fun e => h1 (by rw [e]))⟩
 have hS10 : w10.heap[B1]? = _ := rof hb hS
 have hR10 : w10.heap[R]? = _ := rof hb hR
 have hown : ∀ j, j < 3 → (v j).ownBlock ≠ some B1 := fun j hj e => rowT (hF.bk j hj).row hS (by decide) e
 refine ⟨(hF.later hb).aside hS10 (by decide) (by decide) (by decide) hown hlo hs, ?_, ?_, ?_, World.ownsRow_nil _ _ _ _, World.ownsRow_nil _ _ _ _, fun k hk => (by cases hk), ?_, ?_⟩
 ·rw [hs.block R (lt_of_block hR10) hne]; exact hR10
 ·rw [setCell_eq_setRow w10 B1 3 _ _ _ _ hS10]; exact setRow_heap w10 B1 _ _ _ _ hS10
 ·refine row_only hfr ho (fun k hk e => ?_) (fun _ _ => by simp)
  have h1 := (hfr.lt k hk).1
  have h2 := lt_of_block hS
  have : k = B1 := by simpa using e
  omega
 ·exact Nat.le_trans hb.size hs.size
 ·have := hF.bl.size; omega
end
namespace Fu
open Cv Bk Ra
theorem take_snoc' (F : List (Int × Int)) {k : Nat} (hk : k < F.length) : F.take (k + 1) = F.take k ++ [fnth F k] := by
 rw [List.take_add_one, List.getElem?_eq_getElem hk]
 unfold fnth
 rw [List.getD_eq_getElem?_getD, List.getElem?_eq_getElem hk]
 rfl
theorem fnth_mem {F : List (Int × Int)} {k : Nat} (hk : k < F.length) : fnth F k ∈ F := by
 unfold fnth
 rw [List.getD_eq_getElem?_getD, List.getElem?_eq_getElem hk]
 exact List.getElem_mem hk
theorem units_bound {l : List Lot} {price vol : Int} (hf : Fine l price vol) (s : Int) (z : Bool) {k : Nat} (hk : k < (fills s l price vol).length) {j : Nat} (hj : (j : Int) ≤ (fnth (fills s l price vol) k).2) : (units l z ((fills s l price vol).take k)).length + j ≤ 240000 := by
 have hnn : ∀ f ∈ fills s l price vol, 0 ≤ f.2 := fun f hm => by have := (fills_mem hf s f hm).1; omega
 have h1 := units_len l z ((fills s l price vol).take k) (fun f hm => hnn f (List.mem_of_mem_take hm))
 have h2 := qs_take hnn hk
 have h3 := qs_fills hf s
 have h4 := vol_le hf.1 price
 have h5 := hf.2.2.2
 have h6 : ((fills s l price vol).getD k (0, 0)).2 = (fnth (fills s l price vol) k).2 := rfl
 omega
end Fu
end Go.Proofs.YtdggddjgipgllaaGreatDoor
namespace Go.Proofs.YtdggddjgipgllaaGreatDoor
open Go.RowKit
namespace Fs
open Cv Bk Ra Pu Fu
theorem unit_turn {L : Nat → List Lot} {f : Nat → Int} (h : FOk L f) {i : Nat} (hi : i < 3) {price vol : Int} (hf : Fine (L i) price vol) (s : Int) {t : Nat} (ht : (t : Int) < vol) {bu se : List Int} (hbu : bu = units (L i) true (fills s (L i) price vol)) (hse : se = units (L i) false (fills s (L i) price vol)) :
  ∃ (LT : List Lot) (x y : Lot), LT = rem (taken bu se t) (L i) ∧ Bk.Good LT ∧ Pu.Good (settC f i price (L i) (taken bu se t)) ∧ has LT (bu.getD t 0) = true ∧ has LT (se.getD t 0) = true ∧ x = nth LT (pos LT (bu.getD t 0)) ∧ y = nth LT (pos LT (se.getD t 0)) ∧ x.id = bu.getD t 0 ∧ y.id = se.getD t 0 ∧
   tradeF (settC f i price (L i) (taken bu se t)) i x y price 1 = settC f i price (L i) (taken bu se (t + 1)) ∧ takL (takL LT (bu.getD t 0) 1) (se.getD t 0) 1 = rem (taken bu se (t + 1)) (L i) := by
 have hb : t < (units (L i) true (fills s (L i) price vol)).length := by have := units_vol hf s true; omega
 have hs : t < (units (L i) false (fills s (L i) price vol)).length := by have := units_vol hf s false; omega
 have hok := h.part hi hf s (t := t) (by omega)
 have hst := unit_step hf s hb hs
 rw [← hbu, ← hse] at hok hst
 obtain ⟨h1, h2, _, h4⟩ := unit_trade h hi hf s ht hbu hse
 have hg := hok.bk i hi
 rw [upd_same] at hg
 exact ⟨_, _, _, rfl, hg, hok.good, h1, h2, rfl, rfl, pos_id (pos_has.1 h1), pos_id (pos_has.1 h2), h4, hst⟩
theorem taken_zero (bu se : List Int) : taken bu se 0 = fun _ => 0 := by
 funext id
 unfold taken
 rw [List.take_zero, List.take_zero, Fu.cnt_nil]
 rfl
end Fs
theorem lot_step {W W' : World} {q D base : Nat} {vv vv' : Value} {l : List Cv.Lot} {a : Array Value} (hs : Step W W' q vv vv') (hb : MBook W base q vv l) (hD : W.heap[D]? = some (.cells a 56 (0, 0))) (hDo : vv.ownBlock ≠ some D) : W'.heap[D]? = some (.cells a 56 (0, 0)) := by
 rw [hs.only.block D (lt_of_block hD) (fun e => ?_) (fun e => hDo e.symm)]
 ·exact hD
 ·have : D = q := by simpa using e
  rw [this, hb.cell] at hD
  simp at hD
theorem save_row {W W' : World} {P D : Nat} {f : Nat → Int} {a : Array Value} {T : TypeId} (hs : Save W W' P) (hp : Purse W 131 P f) (hD : W.heap[D]? = some (.cells a T (0, 0))) (hT : T ≠ 131) : W'.heap[D]? = some (.cells a T (0, 0)) := by
 rw [hs.block D (lt_of_block hD) (fun e => ?_)]
 ·exact hD
 ·rw [e, show W.heap[P]? = _ from hp] at hD
  simp only [Option.some.injEq, Obj.cells.injEq] at hD
  exact hT hD.2.1.symm
theorem mset4_rowv {W : World} {R : Nat} (hz : W.heap[R]? = some (.cells #[.int .i64 0, .int .i64 0, .bool false, .slice none 0 0] 82 (0, 0))) (p vol : Int) (o : Bool) (u : Value) :
  ((((W.setCell ⟨R, 0, none⟩ (.int .i64 p)).setCell ⟨R, 1, none⟩ (.int .i64 vol)).setCell ⟨R, 2, none⟩ (.bool o)).setCell ⟨R, 3, none⟩ u).heap[R]? = some (.cells #[.int .i64 p, .int .i64 vol, .bool o, u] 82 (0, 0)) := by
 have h0 : (W.setCell ⟨R, 0, none⟩ (.int .i64 p)).heap[R]? = some (.cells #[.int .i64 p, .int .i64 0, .bool false, .slice none 0 0] 82 (0, 0)) := by
  rw [setCell_eq_setRow W R 0 _ _ _ _ hz]; exact setRow_heap W R _ _ _ _ hz
 have h1 : ((W.setCell ⟨R, 0, none⟩ (.int .i64 p)).setCell ⟨R, 1, none⟩ (.int .i64 vol)).heap[R]? = some (.cells #[.int .i64 p, .int .i64 vol, .bool false, .slice none 0 0] 82 (0, 0)) := by
  rw [setCell_eq_setRow _ R 1 _ _ _ _ h0]; exact setRow_heap _ R _ _ _ _ h0
 have h2 : (((W.setCell ⟨R, 0, none⟩ (.int .i64 p)).setCell ⟨R, 1, none⟩ (.int .i64 vol)).setCell ⟨R, 2, none⟩ (.bool o)).heap[R]? = some (.cells #[.int .i64 p, .int .i64 vol, .bool o, .slice none 0 0] 82 (0, 0)) := by
  rw [setCell_eq_setRow _ R 2 _ _ _ _ h1]; exact setRow_heap _ R _ _ _ _ h1
 rw [setCell_eq_setRow _ R 3 _ _ _ _ h2]; exact setRow_heap _ R _ _ _ _ h2
theorem class_all (R : World → Prop) : ∃ (X : Type) (val : X → World), (∀ x, R (val x)) ∧ ∀ W, R W → ∃ x, val x = W :=
 ⟨{ W : World // R W }, fun x => x.1, fun x => x.2, fun W h => ⟨⟨W, h⟩, rfl⟩⟩
section
variable {w W0 W : World} {F P : Nat} {b : Nat → Nat} {v : Nat → Value} {L : Nat → List Cv.Lot} {pf n : Nat → Int} {wd h : Int} {R B1 : Nat} {p vol : Int} {vF : Value} {FF : List (Int × Int)} {bv sv : Value} {bu se : List Int}
theorem RInv.done (hr : RInv w W0 W F P b v L pf n wd h R B1 p vol vF FF bv sv bu se) {base : Nat} (hbase : base ≤ W0.heap.size) (hR : R < W0.heap.size) (hlo : w.heap.size ≤ R) (v0 v1 v2 v3 : Value) :
  ((((W.setCell ⟨R, 0, none⟩ v0).setCell ⟨R, 1, none⟩ v1).setCell ⟨R, 2, none⟩ v2).setCell ⟨R, 3, none⟩ v3).ownsRow base 54 2 vF FF.length (fcells FF) ∧ MFl w ((((W.setCell ⟨R, 0, none⟩ v0).setCell ⟨R, 1, none⟩ v1).setCell ⟨R, 2, none⟩ v2).setCell ⟨R, 3, none⟩ v3) F P b v L pf n wd h := by
 have hs : Save W ((((W.setCell ⟨R, 0, none⟩ v0).setCell ⟨R, 1, none⟩ v1).setCell ⟨R, 2, none⟩ v2).setCell ⟨R, 3, none⟩ v3) R := (((Save.setCell _ _ _ _).set _ _).set _ _).set _ _
 have ho : Only W ((((W.setCell ⟨R, 0, none⟩ v0).setCell ⟨R, 1, none⟩ v1).setCell ⟨R, 2, none⟩ v2).setCell ⟨R, 3, none⟩ v3) (some R) none := ⟨hs.os, hs.tape, hs.output, hs.size, fun k hk h1 _ => hs.block k hk (fun e => h1 (by rw [e]))⟩
 refine ⟨row_base (row_only hr.fr ho (fun k hk e => ?_) (fun _ _ => by simp)) hbase, hr.fl.aside hr.res (by decide) (by decide) (by decide) (fun j hj e => rowT (hr.fl.bk j hj).row hr.res (by decide) e) hlo hs⟩
 have h1 := (hr.fr.lt k hk).1
 have : k = R := by simpa using e
 omega
end
end Go.Proofs.YtdggddjgipgllaaGreatDoor
namespace Go.Proofs.YtdggddjgipgllaaGreatDoor
open Go.RowKit
set_option maxRecDepth 100000
section
variable {w W : World} {F P : Nat} {b : Nat → Nat} {v : Nat → Value} {L : Nat → List Cv.Lot} {pf n : Nat → Int} {wd h : Int}
set_option maxHeartbeats 4000000 in
theorem mrun_open (i : Nat) (hi3 : i < 3) (s p vol : Int) (hF : Hid (MFl w W F P b v L pf n wd h)) (hok : Hid (Fs.FOk L pf)) (hband : Hid (Bd.bOk (n (i * 2)) (n (i * 2 + 1)) = true)) (hrule : Hid (Bd.rOk wd h = true)) (hwon : Hid (Cv.Won (L i) (n (i * 2)) 1000 p vol))
  (hopen : Bd.nO (n (i * 2)) (n (i * 2 + 1)) wd p vol = true) (hvol : 0 < vol) (hfine : Hid (Ra.Fine (L i) p vol)) (hs : Hid (Ra.IsU s)) :
  Calls Tryz.prog 32 #[.pointer (some ⟨F, 0, none⟩), .int .i64 i, .int .u32 s] W (MRan w W.heap.size F P b (upd L i (Fs.restL (Ra.fills s (L i) p vol) (L i))) (Fs.sett pf i p (L i) (Ra.fills s (L i) p vol)) (upn n i (Bd.nR (n (i * 2)) (n (i * 2 + 1)) wd p vol) (Bd.nL (n (i * 2)) (n (i * 2 + 1)) wd h p vol)) wd h p vol (Ra.fills s (L i) p vol)) := by
 have hgd : Hid (Bk.Good (L i)) := hok.out.bk i hi3
 obtain ⟨FF, hFF⟩ : ∃ FF, FF = Ra.fills s (L i) p vol := ⟨_, rfl⟩
 have HFF := hide hFF
 rw [← hFF]
 clear hFF
 have hgw := good_well hgd.out
 have HBK := hide (hF.out.bk i hi3)
 obtain ⟨hr1, hr2⟩ : 1 ≤ n (i * 2) ∧ n (i * 2) ≤ 1000 := by
  have := hband.out
  simp [Bd.bOk, Wi.withinB] at this
  omega
 have HPR : Hid (∀ W', MBook W' 0 (b i) (v i) (L i) → Calls Tryz.prog 68 #[v i, .int .i64 (n (i * 2))] W' fun e w' => e = .returned (.tuple #[.int .i64 p, .int .i64 vol]) ∧ Below W'.heap.size W' w') := fun W' hb => by
  refine (priceOf_any (v i) (L i) (n (i * 2)) W' (came_book hb) hgw hr1 hr2).mono ?_
  rintro e w' ⟨⟨p', vol', rfl, hw'⟩, hbl⟩
  obtain ⟨e1, e2⟩ := hw'.unique hwon.out
  rw [e1, e2]
  exact ⟨rfl, hbl⟩
 have hvok : Bd.vOk p vol = true := by
  rcases hwon.out with ⟨e1, e2, _⟩ | ⟨e1, e2, e3, _⟩
  ·rw [e2]; simp [Bd.vOk]
  ·simp [Bd.vOk, Wi.withinB, e2, e3]; omega
 have HNB := hide (fun W' => nextBand_any (n (i * 2)) (n (i * 2 + 1)) wd h p vol W' (by rw [hband.out, hrule.out, hvok]; rfl))
 unfold bandV at HNB
 obtain ⟨sa, sm, sc, hvs⟩ : ∃ a m c, v i = .slice a m c := by
  rcases HBK.out.form with ⟨e, _⟩ | ⟨g, cap, e, _⟩
  ·exact ⟨_, _, _, e⟩
  ·exact ⟨_, _, _, e⟩
 have HPR2 : Hid (∀ W', MBook W' 0 (b i) (v i) (L i) → Calls Tryz.prog 68 #[.slice sa sm sc, .int .i64 (n (i * 2))] W' fun e w' => e = .returned (.tuple #[.int .i64 p, .int .i64 vol]) ∧ Below W'.heap.size W' w') := fun W' hb => by
  have := HPR.out W' hb
  rwa [hvs] at this
 clear HPR
 have HPR := HPR2
 clear HPR2
 have HVS := hide hvs
 clear hvs hgw hvok hr1 hr2
 generalize hnr : Bd.nR (n (i * 2)) (n (i * 2 + 1)) wd p vol = nr at *
 generalize hnl : Bd.nL (n (i * 2)) (n (i * 2 + 1)) wd h p vol = nl at *
 generalize hno : Bd.nO (n (i * 2)) (n (i * 2 + 1)) wd p vol = no at *
 clear hnr hnl hno
 have hii : (0 : Int) ≤ (i : Int) := by omega
 have hi3' : (i : Int) < 3 := by omega
 have fi := hF.out.cell hi3
 have hFl := hF.out.lt
 go_enter Tryz.func32, Tryz.ntmps32
 go_wp2_with fail
 obtain ⟨R, hR⟩ : ∃ R, W.heap.size = R := ⟨_, rfl⟩
 obtain ⟨w1, hw1⟩ : ∃ w1, W.alloc (.cells #[.int .i64 0, .int .i64 0, .bool false, .slice none 0 0] 82) = w1 := ⟨_, rfl⟩
 have hb1 : Below W.heap.size W w1 := by rw [← hw1]; exact bal
 have HR1 : Hid (w1.heap[R]? = some (.cells #[.int .i64 0, .int .i64 0, .bool false, .slice none 0 0] 82 (0, 0))) := by show _ = _; rw [← hw1, ← hR]; exact heap_alloc_new _ _
 have HF1 := hide (hF.out.later hb1)
 rw [hw1, hR]
 have HRe := hide hR
 clear hb1 hw1 hR fi hFl HBK
 obtain ⟨XT, val, hcl, hmk⟩ := rows3_all F (b i) F (.cells (floorA b n P wd h) 136 (0, 0)) (.cells #[v i] 138 (0, 0)) (.cells (floorA b n P wd h) 136 (0, 0))
 obtain ⟨x0, hx0⟩ := hmk w1.drew ⟨HF1.out.blk, (HF1.out.bk i hi3).cell, HF1.out.blk⟩
 have hnx : Nonempty XT := ⟨x0⟩
 have ev : ∀ x, (val x).cell? ⟨b i, 0, none⟩ = some (.slice sa sm sc) := fun x => by rw [cell_of_row _ _ 0 _ _ _ (hcl x).2.1, HVS.out]; rfl
 have en : ∀ x, (val x).cell? ⟨F, 3 + i * 2, none⟩ = some (.int .i64 (n (i * 2))) := fun x => by
  rw [cell_of_row _ _ _ _ _ _ (hcl x).1]
  have : i = 0 ∨ i = 1 ∨ i = 2 := by omega
  rcases this with rfl | rfl | rfl <;> rfl
 have HMK := hide hmk
 have HF2 : Hid (MFl w w1.drew F P b v L pf n wd h) := HF1.out.later ⟨rfl, rfl, rfl, Nat.le_refl _, fun _ _ => rfl⟩
 have HR2 : Hid (w1.drew.heap[R]? = some (.cells #[.int .i64 0, .int .i64 0, .bool false, .slice none 0 0] 82 (0, 0))) := HR1.out
 clear hmk hcl HF1 HR1
 refine region_many_calls (val := val) [11] [0, 1, 2, 3, 4, 5, 6, 7, 8, 9, 10, 11, 12, 13, 14, 15, 16] (by kernel_rfl) (by kernel_rfl) x0 hx0 ?_
 rw [hx0]
 clear hx0
 generalize w1.drew = w2 at *
 iterate 11 (refine walkM_read rfl rfl (fun K hK => ?_); refine ⟨by rfl, ?_⟩; unfold isRd; go_simp; refine hK _ ?_; clear hK K)
 refine walkM_call rfl rfl (fun K hK => ?_)
 refine ⟨by rfl, ?_⟩
 unfold upM
 go_simp
 refine (HPR.out _ (HF2.out.bk i hi3)).mono ?_
 rintro e w3 ⟨rfl, hb3⟩
 have HF3 := hide (HF2.out.later hb3)
 have HR3 : Hid (w3.heap[R]? = some (.cells #[.int .i64 0, .int .i64 0, .bool false, .slice none 0 0] 82 (0, 0))) := rof hb3 HR2.out
 refine ⟨_, rfl, HMK.out _ ⟨HF3.out.blk, (HF3.out.bk i hi3).cell, HF3.out.blk⟩, hK _ _ ?_⟩
 clear hK K hb3 HF2 HR2 HPR
 iterate 5 (refine walkM_read rfl rfl (fun K hK => ?_); refine ⟨by rfl, ?_⟩; unfold isRd; go_simp; refine hK _ ?_; clear hK K)
 refine walkM_nil ?_
 clear ev en HMK
 clear x0 hnx
 clear val
 clear XT
 go_wp2_with fail
 obtain ⟨XT, val, hcl, hmk⟩ := rows3_all F F F (.cells (floorA b n P wd h) 136 (0, 0)) (.cells (floorA b n P wd h) 136 (0, 0)) (.cells (floorA b n P wd h) 136 (0, 0))
 obtain ⟨x0, hx0⟩ := hmk w3.drew ⟨HF3.out.blk, HF3.out.blk, HF3.out.blk⟩
 have hnx : Nonempty XT := ⟨x0⟩
 have en : ∀ x, (val x).cell? ⟨F, 3 + i * 2, none⟩ = some (.int .i64 (n (i * 2))) := fun x => by
  rw [cell_of_row _ _ _ _ _ _ (hcl x).1]
  have : i = 0 ∨ i = 1 ∨ i = 2 := by omega
  rcases this with rfl | rfl | rfl <;> rfl
 have em : ∀ x, (val x).cell? ⟨F, 3 + i * 2 + 1, none⟩ = some (.int .i64 (n (i * 2 + 1))) := fun x => by
  rw [cell_of_row _ _ _ _ _ _ (hcl x).1]
  have : i = 0 ∨ i = 1 ∨ i = 2 := by omega
  rcases this with rfl | rfl | rfl <;> rfl
 have ew : ∀ x, (val x).cell? ⟨F, 10, none⟩ = some (.int .i64 wd) := fun x => cof (hcl x).1 rfl
 have eh : ∀ x, (val x).cell? ⟨F, 11, none⟩ = some (.int .i64 h) := fun x => cof (hcl x).1 rfl
 have HMK := hide hmk
 have HF4 : Hid (MFl w w3.drew F P b v L pf n wd h) := HF3.out.later ⟨rfl, rfl, rfl, Nat.le_refl _, fun _ _ => rfl⟩
 have HR4 : Hid (w3.drew.heap[R]? = some (.cells #[.int .i64 0, .int .i64 0, .bool false, .slice none 0 0] 82 (0, 0))) := HR3.out
 clear hmk hcl HF3 HR3
 obtain ⟨w4, hw4⟩ : ∃ w4, w3.drew = w4 := ⟨_, rfl⟩
 rw [hw4] at HF4 HR4
 refine region_join1 (val := val) (fun D w6 => w6.heap[D]? = some (.cells #[.int .i64 nr, .int .i64 nl] 124 (0, 0)) ∧ MFl w w6 F P b v L pf n wd h ∧ w6.heap[R]? = some (.cells #[.int .i64 0, .int .i64 0, .bool false, .slice none 0 0] 82 (0, 0))) (.read 0 (.read 1 (.read 2 (.read 3 (.read 4 (.read 5 (.read 6 (.read 7 (.read 8 (.read 9 (.read 10 (.read 11 (.read 12 (.read 13 (.read 14 (.read 15 (.two 16 (.read 17 (.read 18 (.read 19 (.one 20 (.one 21 (.read 22 .done)))))) 20 (.one 16 (.read 17 (.read 18 (.read 19 (.one 21 (.read 22 .done))))))))))))))))))))))) (by kernel_rfl) (by kernel_rfl) x0 hx0 ?_
 apply Exists.intro
 refine ⟨?_, ?_⟩
 case' refine_1 =>
  rw [hx0, hw4]
  iterate 16 (refine walkP_read rfl (fun K hK => ?_); refine ⟨by rfl, ?_⟩; unfold isRd; go_simp; refine hK _ ?_; clear hK K)
  refine ⟨?_, ?_⟩
  case refine_1 =>
   refine spec_step rfl (fun K hK => ?_)
   refine ⟨by rfl, ?_⟩
   unfold upM
   go_simp
   refine (HNB.out _).mono ?_
   rintro e wc ⟨rfl, hbc⟩
   have HFc := hide (HF4.out.later hbc)
   have HRc : Hid (wc.heap[R]? = some (.cells #[.int .i64 0, .int .i64 0, .bool false, .slice none 0 0] 82 (0, 0))) := rof hbc HR4.out
   refine ⟨_, rfl, HMK.out _ ⟨HFc.out.blk, HFc.out.blk, HFc.out.blk⟩, hK _ _ ?_⟩
   clear hK K hbc
   iterate 3 (refine walkP_read rfl (fun K hK => ?_); refine ⟨by rfl, ?_⟩; unfold isRd; go_simp; refine hK _ ?_; clear hK K)
   refine spec_step rfl (fun K hK => ?_)
   refine ⟨by rfl, ?_⟩
   unfold upM
   go_simp
   obtain ⟨D, hD⟩ : ∃ D, wc.heap.size = D := ⟨_, rfl⟩
   obtain ⟨wz, hwz⟩ : ∃ wz, wc.alloc (.cells #[.int .i64 0, .int .i64 0] 124) = wz := ⟨_, rfl⟩
   rw [hD, hwz]
   have hbz : Below wc.heap.size wc wz := by rw [← hwz]; exact bal
   have HF5 := hide (HFc.out.later hbz)
   have HR5 : Hid (wz.heap[R]? = some (.cells #[.int .i64 0, .int .i64 0, .bool false, .slice none 0 0] 82 (0, 0))) := rof hbz HRc.out
   have HZ : Hid (wz.heap[D]? = some (.cells #[.int .i64 0, .int .i64 0] 124 (0, 0))) := by show _ = _; rw [← hwz, ← hD]; exact heap_alloc_new _ _
   have HLD : Hid (w.heap.size ≤ D) := by have := HFc.out.bl.size; show _ ≤ _; omega
   have HOD : Hid (∀ j, j < 3 → (v j).ownBlock ≠ some D) := fun j hj e => by have := ((HFc.out.bk j hj).rowLt _ e).2; omega
   refine ⟨HMK.out _ ⟨HF5.out.blk, HF5.out.blk, HF5.out.blk⟩, hK _ _ ?_⟩
   clear hK K hbz hwz hD
   have c0 : wz.cell? ⟨D, 0, none⟩ = some (.int .i64 0) := cof HZ.out rfl
   have c1 : wz.cell? ⟨D, 1, none⟩ = some (.int .i64 0) := cof HZ.out rfl
   have f0 : wz.frozen? ⟨D, 0, none⟩ = false := fof HZ.out
   have f1 : wz.frozen? ⟨D, 1, none⟩ = false := fof HZ.out
   have HSV : Hid (Save wz ((wz.setCell ⟨D, 0, none⟩ (.int .i64 nr)).setCell ⟨D, 1, none⟩ (.int .i64 nl)) D) := (Save.setCell _ _ _ _).set _ _
   have HX : Hid (((wz.setCell ⟨D, 0, none⟩ (.int .i64 nr)).setCell ⟨D, 1, none⟩ (.int .i64 nl)).heap[D]? = some (.cells #[.int .i64 nr, .int .i64 nl] 124 (0, 0))) := by
    have h0 : (wz.setCell ⟨D, 0, none⟩ (.int .i64 nr)).heap[D]? = some (.cells #[.int .i64 nr, .int .i64 0] 124 (0, 0)) := by
     rw [setCell_eq_setRow wz D 0 _ _ _ _ HZ.out]; exact setRow_heap wz D _ _ _ _ HZ.out
    show _ = _
    rw [setCell_eq_setRow _ D 1 _ _ _ _ h0]; exact setRow_heap _ D _ _ _ _ h0
   have HF6 := hide (HF5.out.aside HZ.out (by decide) (by decide) (by decide) HOD.out HLD.out HSV.out)
   have HR6 : Hid (((wz.setCell ⟨D, 0, none⟩ (.int .i64 nr)).setCell ⟨D, 1, none⟩ (.int .i64 nl)).heap[R]? = some (.cells #[.int .i64 0, .int .i64 0, .bool false, .slice none 0 0] 82 (0, 0))) := by
    show _ = _
    rw [HSV.out.block R (lt_of_block HR5.out) (fun e => ?_)]
    ·exact HR5.out
    ·have := HR5.out
     rw [e, HZ.out] at this
     simp at this
   refine spec_step rfl (fun K hK => ?_)
   refine ⟨by rfl, ?_⟩
   unfold upM
   go_simp
   refine ⟨HMK.out _ ⟨HF6.out.blk, HF6.out.blk, HF6.out.blk⟩, hK _ _ ?_⟩
   clear hK K HF5 HR5 HSV HZ HOD HLD c0 c1 f0 f1
   generalize (wz.setCell ⟨D, 0, none⟩ (.int .i64 nr)).setCell ⟨D, 1, none⟩ (.int .i64 nl) = w6 at *
   refine walkP_read rfl (fun K hK => ?_); refine ⟨by rfl, ?_⟩; unfold isRd; go_simp; refine hK _ ?_; clear hK K
   refine walkP_done ?_
   exact ⟨D, rfl, HX.out, HF6.out, HR6.out⟩
  case refine_2 =>
   refine spec_step rfl (fun K hK => ?_)
   refine ⟨by rfl, ?_⟩
   unfold upM
   go_simp
   obtain ⟨D, hD⟩ : ∃ D, w4.heap.size = D := ⟨_, rfl⟩
   obtain ⟨wy, hwz⟩ : ∃ wz, w4.alloc (.cells #[.int .i64 0, .int .i64 0] 124) = wz := ⟨_, rfl⟩
   rw [hD, hwz]
   have hbz : Below w4.heap.size w4 wy := by rw [← hwz]; exact bal
   have HFy := hide (HF4.out.later hbz)
   have HRy : Hid (wy.heap[R]? = some (.cells #[.int .i64 0, .int .i64 0, .bool false, .slice none 0 0] 82 (0, 0))) := rof hbz HR4.out
   have HZy : Hid (wy.heap[D]? = some (.cells #[.int .i64 0, .int .i64 0] 124 (0, 0))) := by show _ = _; rw [← hwz, ← hD]; exact heap_alloc_new _ _
   have HLD : Hid (w.heap.size ≤ D) := by have := HF4.out.bl.size; show _ ≤ _; omega
   have HOD : Hid (∀ j, j < 3 → (v j).ownBlock ≠ some D) := fun j hj e => by have := ((HF4.out.bk j hj).rowLt _ e).2; omega
   refine ⟨HMK.out _ ⟨HFy.out.blk, HFy.out.blk, HFy.out.blk⟩, hK _ _ ?_⟩
   clear hK K hbz hwz hD
   refine spec_step rfl (fun K hK => ?_)
   refine ⟨by rfl, ?_⟩
   unfold upM
   go_simp
   refine (HNB.out _).mono ?_
   rintro e wz ⟨rfl, hbc⟩
   have HF5 := hide (HFy.out.later hbc)
   have HR5 : Hid (wz.heap[R]? = some (.cells #[.int .i64 0, .int .i64 0, .bool false, .slice none 0 0] 82 (0, 0))) := rof hbc HRy.out
   have HZ : Hid (wz.heap[D]? = some (.cells #[.int .i64 0, .int .i64 0] 124 (0, 0))) := rof hbc HZy.out
   refine ⟨_, rfl, HMK.out _ ⟨HF5.out.blk, HF5.out.blk, HF5.out.blk⟩, hK _ _ ?_⟩
   clear hK K hbc
   iterate 3 (refine walkP_read rfl (fun K hK => ?_); refine ⟨by rfl, ?_⟩; unfold isRd; go_simp; refine hK _ ?_; clear hK K)
   have c0 : wz.cell? ⟨D, 0, none⟩ = some (.int .i64 0) := cof HZ.out rfl
   have c1 : wz.cell? ⟨D, 1, none⟩ = some (.int .i64 0) := cof HZ.out rfl
   have f0 : wz.frozen? ⟨D, 0, none⟩ = false := fof HZ.out
   have f1 : wz.frozen? ⟨D, 1, none⟩ = false := fof HZ.out
   have HSV : Hid (Save wz ((wz.setCell ⟨D, 0, none⟩ (.int .i64 nr)).setCell ⟨D, 1, none⟩ (.int .i64 nl)) D) := (Save.setCell _ _ _ _).set _ _
   have HX : Hid (((wz.setCell ⟨D, 0, none⟩ (.int .i64 nr)).setCell ⟨D, 1, none⟩ (.int .i64 nl)).heap[D]? = some (.cells #[.int .i64 nr, .int .i64 nl] 124 (0, 0))) := by
    have h0 : (wz.setCell ⟨D, 0, none⟩ (.int .i64 nr)).heap[D]? = some (.cells #[.int .i64 nr, .int .i64 0] 124 (0, 0)) := by
     rw [setCell_eq_setRow wz D 0 _ _ _ _ HZ.out]; exact setRow_heap wz D _ _ _ _ HZ.out
    show _ = _
    rw [setCell_eq_setRow _ D 1 _ _ _ _ h0]; exact setRow_heap _ D _ _ _ _ h0
   have HF6 := hide (HF5.out.aside HZ.out (by decide) (by decide) (by decide) HOD.out HLD.out HSV.out)
   have HR6 : Hid (((wz.setCell ⟨D, 0, none⟩ (.int .i64 nr)).setCell ⟨D, 1, none⟩ (.int .i64 nl)).heap[R]? = some (.cells #[.int .i64 0, .int .i64 0, .bool false, .slice none 0 0] 82 (0, 0))) := by
    show _ = _
    rw [HSV.out.block R (lt_of_block HR5.out) (fun e => ?_)]
    ·exact HR5.out
    ·have := HR5.out
     rw [e, HZ.out] at this
     simp at this
   refine spec_step rfl (fun K hK => ?_)
   refine ⟨by rfl, ?_⟩
   unfold upM
   go_simp
   refine ⟨HMK.out _ ⟨HF6.out.blk, HF6.out.blk, HF6.out.blk⟩, hK _ _ ?_⟩
   clear hK K HF5 HR5 HSV HZ HOD HLD c0 c1 f0 f1
   generalize (wz.setCell ⟨D, 0, none⟩ (.int .i64 nr)).setCell ⟨D, 1, none⟩ (.int .i64 nl) = w6 at *
   refine walkP_read rfl (fun K hK => ?_); refine ⟨by rfl, ?_⟩; unfold isRd; go_simp; refine hK _ ?_; clear hK K
   refine walkP_done ?_
   exact ⟨D, rfl, HX.out, HF6.out, HR6.out⟩
 intro D w6 ⟨hX6, hF6, hR6⟩
 have HX := hide hX6; have HF6 := hide hF6; have HR6 := hide hR6
 clear hX6 hF6 hR6 HF4 HR4 HNB hw4
 clear hx0 en em ew eh HMK
 clear x0 hnx
 clear val
 clear XT
 have d0 : w6.cell? ⟨D, 0, none⟩ = some (.int .i64 nr) := cof HX.out rfl
 have d1 : w6.cell? ⟨D, 1, none⟩ = some (.int .i64 nl) := cof HX.out rfl
 go_wp2_with fail
 refine region_quiet_tail 6 (by kernel_rfl) (by kernel_rfl) ?_
 simp only [List.take_succ_cons, List.take_zero, List.drop_succ_cons, List.drop_zero]
 repeat (first | go_big_quiet_step (fail) | quiet_step (fail))
 refine wpQuiet_nil ?_
 intro _ hw'
 obtain ⟨nq, hw''⟩ := hw'
 subst hw''
 have HR7 : Hid ((w6.drewN nq).heap[R]? = some (.cells #[.int .i64 0, .int .i64 0, .bool false, .slice none 0 0] 82 (0, 0))) := HR6.out
 have HF7 := hide (HF6.out.later (blw_drew nq))
 clear d0 d1 HX HR6 HF6
 generalize w6.drewN nq = w7 at *
 have n0 : w7.cell? ⟨F, 3 + i * 2, none⟩ = some (.int .i64 (n (i * 2))) := by
  rw [cell_of_row _ _ _ _ _ _ HF7.out.blk]
  have : i = 0 ∨ i = 1 ∨ i = 2 := by omega
  rcases this with rfl | rfl | rfl <;> rfl
 have n1 : w7.cell? ⟨F, 3 + i * 2 + 1, none⟩ = some (.int .i64 (n (i * 2 + 1))) := by
  rw [cell_of_row _ _ _ _ _ _ HF7.out.blk]
  have : i = 0 ∨ i = 1 ∨ i = 2 := by omega
  rcases this with rfl | rfl | rfl <;> rfl
 have g0 : w7.frozen? ⟨F, 3 + i * 2, none⟩ = false := fof HF7.out.blk
 have g1 : w7.frozen? ⟨F, 3 + i * 2 + 1, none⟩ = false := fof HF7.out.blk
 have HF8 := hide (HF7.out.band hi3 nr nl)
 have hRF : R ≠ F := fun e => by
  have := HR7.out
  rw [e, HF7.out.blk] at this
  simp at this
 have HR8 : Hid (((w7.setCell ⟨F, 3 + i * 2, none⟩ (.int .i64 nr)).setCell ⟨F, 3 + i * 2 + 1, none⟩ (.int .i64 nl)).heap[R]? = some (.cells #[.int .i64 0, .int .i64 0, .bool false, .slice none 0 0] 82 (0, 0))) := by
  show _ = _
  rw [((Save.setCell w7 F (3 + i * 2) (.int .i64 nr)).set _ _).block R (lt_of_block HR7.out) hRF]; exact HR7.out
 subst hopen
 obtain ⟨w8, hw8⟩ : ∃ w8, ((w7.setCell ⟨F, 3 + i * 2, none⟩ (.int .i64 nr)).setCell ⟨F, 3 + i * 2 + 1, none⟩ (.int .i64 nl)) = w8 := ⟨_, rfl⟩
 rw [hw8] at HF8 HR8
 have hz8 : w8.heap.size = w7.heap.size := by rw [← hw8]; simp
 obtain ⟨B1, hB1⟩ : ∃ B1, w7.heap.size = B1 := ⟨_, rfl⟩
 obtain ⟨w9, hw9⟩ : ∃ w9, w8.alloc (.cells #[.int .i64 p, .int .i64 vol, .bool true, .slice none 0 0] 82) = w9 := ⟨_, rfl⟩
 have hb9 : Below w8.heap.size w8 w9 := by rw [← hw9]; exact bal
 have HF9 := hide (HF8.out.later hb9)
 have HR9 : Hid (w9.heap[R]? = some (.cells #[.int .i64 0, .int .i64 0, .bool false, .slice none 0 0] 82 (0, 0))) := rof hb9 HR8.out
 have HS9 : Hid (w9.heap[B1]? = some (.cells #[.int .i64 p, .int .i64 vol, .bool true, .slice none 0 0] 82 (0, 0))) := by show _ = _; rw [← hw9, ← hB1, ← hz8]; exact heap_alloc_new _ _
 have HLB : Hid (w8.heap.size = B1) := by show _ = _; rw [hz8, hB1]
 have HLR : Hid (W.heap.size ≤ R) := by have := HRe.out; show _ ≤ _; omega
 have HRl9 : Hid (R < w9.heap.size) := lt_of_block HR9.out
 have HWs : Hid (W.heap.size ≤ w9.heap.size) := by have := HLR.out; have := lt_of_block HR9.out; show _ ≤ _; omega
 have cb7 : w7.cell? ⟨b i, 0, none⟩ = some (.slice sa sm sc) := by rw [cell_of_row _ _ 0 _ _ _ (HF7.out.bk i hi3).cell, HVS.out]; rfl
 have hbl7 : b i < w7.heap.size := lt_of_block (HF7.out.bk i hi3).cell
 have hbF : ¬ b i = F := fun e => by
  have := HF7.out.blk
  rw [← e, (HF7.out.bk i hi3).cell] at this
  simp at this
 have hFl : F < w7.heap.size := HF7.out.lt
 have hFf := fillsOfR_any (.slice sa sm sc) p vol s (L i) w9 (by have := came_book (HF9.out.bk i hi3); rwa [HVS.out] at this) hfine.out hs.out
 rw [← HFF.out] at hFf
 have HFO := hide hFf
 have HW8 := hide hw8; have HW9 := hide hw9; have HB1 := hide hB1
 have hv0 : (vol == 0) = false := by simp; omega
 clear hFf hb9 hz8 HF8 HR8 hw8 hw9 hB1
 go_wp2_with fail
 rw [HW8.out, HW9.out]
 refine HFO.out.mono ?_
 rintro e w10 ⟨vF, rfl, hfr, hb10⟩
 rw [HB1.out]
 have HU := hide (Fs.units_vol hfine.out s)
 rw [← HFF.out] at HU
 have hlen0 : FF.length ≠ 0 := fun e => by
  have h1 := HU.out true
  rw [List.eq_nil_of_length_eq_zero e] at h1
  simp [Fu.units] at h1
  omega
 obtain ⟨gF, capF, hvF⟩ : ∃ g cap, vF = .slice (some ⟨g, 0, none⟩) FF.length cap := by
  rcases hfr.2 with ⟨_, e2⟩ | ⟨g, cap, cur, e, _⟩
  ·exact absurd e2 hlen0
  ·exact ⟨g, cap, e⟩
 subst hvF
 have hRB : R ≠ B1 := by
  have h1 := lt_of_block HR7.out
  have h2 := HB1.out
  omega
 have HI0 := hide (RInv.start HF9.out HR9.out HS9.out hRB (by have := HLR.out; have := hF.out.bl.size; have := lt_of_block HR7.out; have := HB1.out; omega) hfr hb10)
 rw [show (upd (upd n (i * 2) nr) (i * 2 + 1) nl) = upn n i nr nl from rfl] at HI0
 have s3 : w10.cell? ⟨B1, 3, none⟩ = some (.slice none 0 0) := cof (rof hb10 HS9.out) rfl
 have s3f : w10.frozen? ⟨B1, 3, none⟩ = false := by simp [World.frozen?, rof hb10 HS9.out]
 generalize upn n i nr nl = NN at *
 clear hfr hb10 HS9 HR9 HF9 HFO HR7 HF7 n0 n1 g0 g1 cb7 hbl7 hbF hFl HW8 HW9 hv0 hRF hRB
 have hlenF : FF.length ≤ 240 := by
  have := Ra.fills_length s hfine.out
  rw [HFF.out]
  unfold Ra.fills
  rw [List.length_append]
  omega
 obtain ⟨gb, capb, hvb⟩ : ∃ g cap, v i = .slice (some ⟨g, 0, none⟩) (L i).length cap := by
  rcases (HI0.out.fl.bk i hi3).form with ⟨_, e⟩ | ⟨g, cap, e, _⟩
  ·obtain ⟨_, x, hx, _⟩ := Fu.fills_mem hfine.out s (fnth FF 0) (by rw [← HFF.out]; exact Fu.fnth_mem (by omega))
   rw [e] at hx
   cases hx
  ·exact ⟨g, cap, e⟩
 simp only []
 go_wp2_with fail
 obtain ⟨i0, hi, hz0, hz1, hz2⟩ := info3
 have Hi := hide hi; have Hz0 := hide hz0; have Hz1 := hide hz1; have Hz2 := hide hz2
 clear hi hz0 hz1 hz2
 have HVB := hide hvb
 clear hvb
 go_loopw [13, 14, 15] (fun x y c wl => ∃ (k : Nat), k ≤ FF.length ∧ c = .int .i64 k ∧ RInv w w9 wl F P b v L pf NN wd h R B1 p vol (.slice (some ⟨gF, 0, none⟩) FF.length capF) FF x y (Fu.units (L i) true (FF.take k)) (Fu.units (L i) false (FF.take k))) (fun _ _ c _ => FF.length - (intOf c).toNat)
 case atStart => exact ⟨0, Nat.zero_le _, rfl, HI0.out⟩
 case' round =>
  obtain ⟨k, hk, rfl, hr⟩ := hrel
  have HI := hide hr
  clear hr HI0
  have cB3 := HI.out.b3
  by_cases hlt : k < FF.length
  case' pos =>
   have hki : (k : Int) < FF.length := by omega
   obtain ⟨f0, f1⟩ := HI.out.fcell hlt
   have hmem := Fu.fills_mem hfine.out s (fnth FF k) (by rw [← HFF.out]; exact Fu.fnth_mem hlt)
   obtain ⟨hf1, xx, hxx, hxe⟩ := hmem
   have hhas : Cv.has (L i) (fnth FF k).1 = true := List.any_eq_true.2 ⟨xx, hxx, by simpa using hxe⟩
   have HPl := hide (Bk.posI_lt hhas)
   have HFD := hide (mfind_any (b i) 0 (v i) (fnth FF k).1 (L i) wr (HI.out.fl.bk i hi3) (hide hgd.out.len))
   rw [Bk.posI_some hhas] at HFD
   have HLN : Hid (∀ j : Nat, (j : Int) ≤ (fnth FF k).2 → ∀ z, (Fu.units (L i) z (FF.take k)).length + j ≤ 240000) := fun j hj z => by
    have := Fu.units_bound hfine.out s z (k := k) (by rw [← HFF.out]; exact hlt) (j := j) (by rw [← HFF.out]; exact hj)
    rw [← HFF.out] at this
    exact this
   obtain ⟨f, hf⟩ : ∃ f, fnth FF k = f := ⟨_, rfl⟩
   have HFk := hide hf
   rw [hf] at f0 f1 hf1 hhas HPl HFD HLN
   clear hf hxe hxx
   clear xx
   go_wp2_with fail
   refine HFD.out.mono ?_
   rintro e wo ⟨rfl, rfl⟩
   clear HFD
   simp only []
   obtain ⟨uB, hUB⟩ : ∃ uB, Fu.units (L i) true (FF.take k) = uB := ⟨_, rfl⟩
   obtain ⟨uS, hUS⟩ : ∃ uS, Fu.units (L i) false (FF.take k) = uS := ⟨_, rfl⟩
   have HUB := hide hUB; have HUS := hide hUS
   rw [hUB, hUS] at HI
   have HLB2 : Hid (∀ j : Nat, (j : Int) ≤ f.2 → uB.length + j ≤ 240000 ∧ uS.length + j ≤ 240000) := fun j hj => by
    have h1 := HLN.out j hj true
    have h2 := HLN.out j hj false
    rw [hUB] at h1
    rw [hUS] at h2
    exact ⟨h1, h2⟩
   have hf2 : f.2 ≤ 240000 := by
    have := (HLB2.out f.2.toNat (by omega)).1
    omega
   clear hUB hUS HLN
   go_wp2_with fail
   cases hsb : Fu.buyB (L i) f.1
   case false => as_aux_lemma =>
    have HSB := hide hsb
    have HSD : Hid (((Cv.nth (L i) (Bk.pos (L i) f.1)).sd == 0) = false) := hsb
    clear hsb
    go_loopw [13, 14, 17] (fun x y c wl => ∃ (j : Nat), (j : Int) ≤ f.2 ∧ c = .int .i64 j ∧ RInv w w9 wl F P b v L pf NN wd h R B1 p vol (.slice (some ⟨gF, 0, none⟩) FF.length capF) FF x y uB (uS ++ List.replicate j f.1)) (fun _ _ c _ => f.2.toNat - (intOf c).toNat)
    case atStart => exact ⟨0, by omega, rfl, by simpa using HI.out⟩
    case round =>
     obtain ⟨j, hj, rfl, hrj⟩ := hrel
     have HJ := hide hrj
     clear hrj HI
     have cB3 := HJ.out.b3
     obtain ⟨f0, f1⟩ := HJ.out.fcell hlt
     rw [HFk.out] at f0 f1
     by_cases hjl : (j : Int) < f.2
     ·have hbk := HJ.out.fl.bk i hi3
      rw [HVB.out] at hbk
      have cbk := cell_of_one hbk.cell
      obtain ⟨_, _, sd2, _, _⟩ := hbk.ats.2 (Bk.pos (L i) f.1) HPl.out
      simp only [Nat.zero_add] at sd2
      have HLJ := hide (HLB2.out j (by omega))
      have hposl : ((Bk.pos (L i) f.1 : Nat) : Int) < ((L i).length : Nat) := by have := HPl.out; omega
      have hsd : ((Cv.nth (L i) (Bk.pos (L i) f.1)).sd == 0) = false := HSD.out
      clear hbk
      generalize Cv.nth (L i) (Bk.pos (L i) f.1) = xl at *
      generalize Bk.pos (L i) f.1 = pk at *
      have HA := hide (HJ.out.sr.alloc (.cells #[.int .i64 f.1] 3))
      go_wp2_with (at_builtin; refine wpList_append_own_at _ rfl _ _ 144 rfl w9.heap.size 3 i0 (.int .i64 0) 1 8 Tryz.underlying144 Hi.out Hz0.out Hz1.out Hz2.out rfl (by decide) _ _ _ rfl HA.out ⟨wr.heap.size, 0, none⟩ 1 1 [.int .i64 f.1] rfl rfl ?c1 ?c2 ?c3 ?c4 ?c5 ?_)
      case c1 => exact fun t u hu => cell_new1 wr #[.int .i64 f.1] 3 u t _ rfl hu
      case c2 => intro u hu; have hu : u = .int .i64 f.1 := (by simpa using hu); rw [hu]; rfl
      case c3 => have := HLJ.out; unfold maxLen; simp only [List.length_append, List.length_replicate]; omega
      case c4 => have := HLJ.out; simp only [List.length_append, List.length_replicate]; omega
      case c5 => have := HJ.out.sz; simp; omega
      intro v3 w3 hown' hgrow _ hloc
      have HO3 : Hid (w3.ownsRow w9.heap.size 3 1 v3 (uS ++ List.replicate (j + 1) f.1).length (iV (uS ++ List.replicate (j + 1) f.1))) := by
       have e1 : uS ++ List.replicate (j + 1) f.1 = (uS ++ List.replicate j f.1) ++ [f.1] := by rw [List.replicate_succ', List.append_assoc]
       show w3.ownsRow _ _ _ _ _ _
       rw [e1, List.length_append]
       simpa [iV] using hown'
      have HJ3 := hide ((HJ.out.later ((Below.refl _ _).alloc (Nat.le_refl _) (.cells #[.int .i64 f.1] 3))).growS HO3.out hgrow (by simpa using hloc))
      clear hown' hgrow hloc HA HJ HO3 cB3 f0 f1 cbk sd2
      go_wp2
      exact ⟨⟨j + 1, by omega, by go_num, HJ3.out⟩, by simp [intOf]; omega⟩
     ·have hjf : j = f.2.toNat := by omega
      subst hjf
      go_wp2
      refine ⟨⟨k + 1, by omega, by go_num, ?_⟩, by simp [intOf]; omega⟩
      have e1 : Fu.units (L i) false (FF.take (k + 1)) = uS ++ List.replicate f.2.toNat f.1 := by rw [Fu.take_snoc' FF hlt, HFk.out, Fu.units_snoc, HUS.out, if_pos HSB.out]
      have e2 : Fu.units (L i) true (FF.take (k + 1)) = uB := by rw [Fu.take_snoc' FF hlt, HFk.out, Fu.units_snoc, HUB.out, if_neg (by rw [HSB.out]; decide), List.append_nil]
      rw [e1, e2]
      exact HJ.out
   case true => as_aux_lemma =>
    have HSB := hide hsb
    have HSD : Hid (((Cv.nth (L i) (Bk.pos (L i) f.1)).sd == 0) = true) := hsb
    clear hsb
    go_loopw [13, 14, 17] (fun x y c wl => ∃ (j : Nat), (j : Int) ≤ f.2 ∧ c = .int .i64 j ∧ RInv w w9 wl F P b v L pf NN wd h R B1 p vol (.slice (some ⟨gF, 0, none⟩) FF.length capF) FF x y (uB ++ List.replicate j f.1) uS) (fun _ _ c _ => f.2.toNat - (intOf c).toNat)
    case atStart => exact ⟨0, by omega, rfl, by simpa using HI.out⟩
    case round =>
     obtain ⟨j, hj, rfl, hrj⟩ := hrel
     have HJ := hide hrj
     clear hrj HI
     have cB3 := HJ.out.b3
     obtain ⟨f0, f1⟩ := HJ.out.fcell hlt
     rw [HFk.out] at f0 f1
     by_cases hjl : (j : Int) < f.2
     ·have hbk := HJ.out.fl.bk i hi3
      rw [HVB.out] at hbk
      have cbk := cell_of_one hbk.cell
      obtain ⟨_, _, sd2, _, _⟩ := hbk.ats.2 (Bk.pos (L i) f.1) HPl.out
      simp only [Nat.zero_add] at sd2
      have HLJ := hide (HLB2.out j (by omega))
      have hposl : ((Bk.pos (L i) f.1 : Nat) : Int) < ((L i).length : Nat) := by have := HPl.out; omega
      have hsd : ((Cv.nth (L i) (Bk.pos (L i) f.1)).sd == 0) = true := HSD.out
      clear hbk
      generalize Cv.nth (L i) (Bk.pos (L i) f.1) = xl at *
      generalize Bk.pos (L i) f.1 = pk at *
      have HA := hide (HJ.out.br.alloc (.cells #[.int .i64 f.1] 3))
      go_wp2_with (at_builtin; refine wpList_append_own_at _ rfl _ _ 144 rfl w9.heap.size 3 i0 (.int .i64 0) 1 8 Tryz.underlying144 Hi.out Hz0.out Hz1.out Hz2.out rfl (by decide) _ _ _ rfl HA.out ⟨wr.heap.size, 0, none⟩ 1 1 [.int .i64 f.1] rfl rfl ?c1 ?c2 ?c3 ?c4 ?c5 ?_)
      case c1 => exact fun t u hu => cell_new1 wr #[.int .i64 f.1] 3 u t _ rfl hu
      case c2 => intro u hu; have hu : u = .int .i64 f.1 := (by simpa using hu); rw [hu]; rfl
      case c3 => have := HLJ.out; unfold maxLen; simp only [List.length_append, List.length_replicate]; omega
      case c4 => have := HLJ.out; simp only [List.length_append, List.length_replicate]; omega
      case c5 => have := HJ.out.sz; simp; omega
      intro v3 w3 hown' hgrow _ hloc
      have HO3 : Hid (w3.ownsRow w9.heap.size 3 1 v3 (uB ++ List.replicate (j + 1) f.1).length (iV (uB ++ List.replicate (j + 1) f.1))) := by
       have e1 : uB ++ List.replicate (j + 1) f.1 = (uB ++ List.replicate j f.1) ++ [f.1] := by rw [List.replicate_succ', List.append_assoc]
       show w3.ownsRow _ _ _ _ _ _
       rw [e1, List.length_append]
       simpa [iV] using hown'
      have HJ3 := hide ((HJ.out.later ((Below.refl _ _).alloc (Nat.le_refl _) (.cells #[.int .i64 f.1] 3))).growB HO3.out hgrow (by simpa using hloc))
      clear hown' hgrow hloc HA HJ HO3 cB3 f0 f1 cbk sd2
      go_wp2
      exact ⟨⟨j + 1, by omega, by go_num, HJ3.out⟩, by simp [intOf]; omega⟩
     ·have hjf : j = f.2.toNat := by omega
      subst hjf
      go_wp2
      refine ⟨⟨k + 1, by omega, by go_num, ?_⟩, by simp [intOf]; omega⟩
      have e1 : Fu.units (L i) true (FF.take (k + 1)) = uB ++ List.replicate f.2.toNat f.1 := by rw [Fu.take_snoc' FF hlt, HFk.out, Fu.units_snoc, HUB.out, if_pos HSB.out]
      have e2 : Fu.units (L i) false (FF.take (k + 1)) = uS := by rw [Fu.take_snoc' FF hlt, HFk.out, Fu.units_snoc, HUS.out, if_neg (by rw [HSB.out]; decide), List.append_nil]
      rw [e1, e2]
      exact HJ.out
  case' neg =>
   have hkf : k = FF.length := by omega
   subst hkf
   rw [List.take_length] at HI
   obtain ⟨bu, hbu⟩ : ∃ bu, bu = Fu.units (L i) true FF := ⟨_, rfl⟩
   obtain ⟨se, hse⟩ : ∃ se, se = Fu.units (L i) false FF := ⟨_, rfl⟩
   rw [← hbu, ← hse] at HI
   have hub : (bu.length : Int) = vol := by rw [hbu]; exact HU.out true
   have hus : (se.length : Int) = vol := by rw [hse]; exact HU.out false
   obtain ⟨gB, capB, hvB⟩ : ∃ g cap, u13 = .slice (some ⟨g, 0, none⟩) bu.length cap := by
    rcases row_form HI.out.br with ⟨_, e⟩ | h
    ·rw [e] at hub; simp at hub; omega
    ·exact h
   obtain ⟨gS, capS, hvS⟩ : ∃ g cap, u14 = .slice (some ⟨g, 0, none⟩) se.length cap := by
    rcases row_form HI.out.sr with ⟨_, e⟩ | h
    ·rw [e] at hus; simp at hus; omega
    ·exact h
   subst hvB hvS
   have HBU : Hid (bu = Fu.units (L i) true (Ra.fills s (L i) p vol)) := by show _ = _; rw [← HFF.out]; exact hbu
   have HSE : Hid (se = Fu.units (L i) false (Ra.fills s (L i) p vol)) := by show _ = _; rw [← HFF.out]; exact hse
   have hvol2 : vol ≤ 120000 := by
    have h1 := hfine.out.2.2.2
    have h2 := vol_le hfine.out.1 p
    omega
   have HUb := hide hub; have HUs := hide hus
   clear hbu hse HU
   have HI3 : Hid (RInv w w9 wr F P b (upd v i (v i)) (upd L i (Fu.rem (Fu.taken bu se 0) (L i))) (Fs.settC pf i p (L i) (Fu.taken bu se 0)) NN wd h R B1 p vol (.slice (some ⟨gF, 0, none⟩) FF.length capF) FF (.slice (some ⟨gB, 0, none⟩) bu.length capB) (.slice (some ⟨gS, 0, none⟩) se.length capS) bu se) := by
    show RInv _ _ _ _ _ _ _ _ _ _ _ _ _ _ _ _ _ _ _ _ _ _
    rw [Fs.taken_zero, Fs.settC_zero, Fu.rem_zero (fun x hx => (hgd.out.oks x hx)), upd_self, upd_self]
    exact HI.out
   clear HI
   have hki : ¬ ((FF.length : Nat) : Int) < FF.length := by omega
   go_wp2_with fail
   go_loopw [18] (fun c wl => ∃ (t : Nat) (vv : Value), (t : Int) ≤ vol ∧ c = .int .i64 t ∧ RInv w w9 wl F P b (upd v i vv) (upd L i (Fu.rem (Fu.taken bu se t) (L i))) (Fs.settC pf i p (L i) (Fu.taken bu se t)) NN wd h R B1 p vol (.slice (some ⟨gF, 0, none⟩) FF.length capF) FF (.slice (some ⟨gB, 0, none⟩) bu.length capB) (.slice (some ⟨gS, 0, none⟩) se.length capS) bu se) (fun c _ => vol.toNat - (intOf c).toNat)
   case atStart => exact ⟨0, v i, by omega, rfl, HI3.out⟩
   case' round =>
    obtain ⟨t, vv, ht, rfl, hr⟩ := hrel
    have HT := hide hr
    clear hr HI3 cB3
    by_cases htl : (t : Int) < vol
    case' pos =>
     obtain ⟨LT, x, y, hLT, hgLT, hgf, hhb, hhs, hx, hy, hxi, hyi, htf, htk⟩ := Fs.unit_turn hok.out hi3 hfine.out s htl HBU.out HSE.out
     rw [← hLT] at HT
     have hbk := HT.out.fl.bk i hi3
     rw [upd_same, upd_same] at hbk
     obtain ⟨gl, capl, hvl⟩ : ∃ g cap, vv = .slice (some ⟨g, 0, none⟩) LT.length cap := by
      rcases hbk.form with ⟨_, e⟩ | ⟨g, cap, e, _⟩
      ·rw [e] at hhb; cases hhb
      ·exact ⟨g, cap, e⟩
     subst hvl
     have HBK := hide hbk
     have hub := HUb.out
     have hus := HUs.out
     have htb : (t : Int) < bu.length := by omega
     have hts : (t : Int) < se.length := by omega
     have cub := (row_int HT.out.br (t := t) (by omega)).2
     have cus := (row_int HT.out.sr (t := t) (by omega)).2
     have HP1 := hide (Bk.posI_lt hhb); have HP2 := hide (Bk.posI_lt hhs)
     have HF1 := hide (fun W' (hb : MBook W' 0 (b i) (.slice (some ⟨gl, 0, none⟩) LT.length capl) LT) => mfind_any (b i) 0 _ (bu.getD t 0) LT W' hb (hide hgLT.len))
     have HF2 := hide (fun W' (hb : MBook W' 0 (b i) (.slice (some ⟨gl, 0, none⟩) LT.length capl) LT) => mfind_any (b i) 0 _ (se.getD t 0) LT W' hb (hide hgLT.len))
     rw [Bk.posI_some hhb] at HF1
     rw [Bk.posI_some hhs] at HF2
     have HN1 := hide hx.symm; have HN2 := hide hy.symm
     have HXI := hide hxi; have HYI := hide hyi; have HTF := hide htf; have HTKL := hide htk; have HGL := hide hgLT; have HGF := hide hgf; have HLT := hide hLT
     have hp1 : ((Bk.pos LT (bu.getD t 0) : Nat) : Int) < (LT.length : Nat) := by have := HP1.out; omega
     have hp2 : ((Bk.pos LT (se.getD t 0) : Nat) : Int) < (LT.length : Nat) := by have := HP2.out; omega
     clear hbk hxi hyi htf htk hgLT hgf hLT hhb hhs hx hy hub hus
     generalize bu.getD t 0 = idb at *
     generalize se.getD t 0 = ids at *
     generalize Bk.pos LT idb = kb at *
     generalize Bk.pos LT ids = ks at *
     obtain ⟨x0, x1, x2, x3, x4⟩ := x
     obtain ⟨y0, y1, y2, y3, y4⟩ := y
     go_wp2_with fail
     obtain ⟨XT, val, hcl, hmk⟩ := class_all (fun W' => MBook W' 0 (b i) (.slice (some ⟨gl, 0, none⟩) LT.length capl) LT ∧ W'.cell? ⟨gB, t, none⟩ = some (.int .i64 idb))
     obtain ⟨z0, hz0⟩ := hmk wr.drew ⟨HBK.out.later ⟨rfl, rfl, rfl, Nat.le_refl _, fun _ _ => rfl⟩, cub⟩
     have hnx : Nonempty XT := ⟨z0⟩
     have ev : ∀ x, (val x).cell? ⟨b i, 0, none⟩ = some (.slice (some ⟨gl, 0, none⟩) LT.length capl) := fun x => cell_of_one (hcl x).1.cell
     have eu : ∀ x, (val x).cell? ⟨gB, t, none⟩ = some (.int .i64 idb) := fun x => (hcl x).2
     have l0 : ∀ x, (val x).cell? ⟨gl, kb * 5, none⟩ = some (.int .i64 x0) := fun x => by have hq := ((hcl x).1.ats.2 kb HP1.out).1; rw [HN1.out] at hq; simpa using hq
     have l1 : ∀ x, (val x).cell? ⟨gl, kb * 5 + 1, none⟩ = some (.int .i64 x1) := fun x => by have hq := ((hcl x).1.ats.2 kb HP1.out).2.1; rw [HN1.out] at hq; simpa using hq
     have l2 : ∀ x, (val x).cell? ⟨gl, kb * 5 + 2, none⟩ = some (.int .i64 x2) := fun x => by have hq := ((hcl x).1.ats.2 kb HP1.out).2.2.1; rw [HN1.out] at hq; simpa using hq
     have l3 : ∀ x, (val x).cell? ⟨gl, kb * 5 + 3, none⟩ = some (.int .i64 x3) := fun x => by have hq := ((hcl x).1.ats.2 kb HP1.out).2.2.2.1; rw [HN1.out] at hq; simpa using hq
     have l4 : ∀ x, (val x).cell? ⟨gl, kb * 5 + 4, none⟩ = some (.int .i64 x4) := fun x => by have hq := ((hcl x).1.ats.2 kb HP1.out).2.2.2.2; rw [HN1.out] at hq; simpa using hq
     have HMK : Hid (∀ W', Below wr.heap.size wr W' → ∃ x, val x = W') := fun W' hb => hmk W' ⟨HBK.out.later hb, cell_later hb cub⟩
     obtain ⟨w4, hw4⟩ : ∃ w4, wr.drew = w4 := ⟨_, rfl⟩
     have HBD : Hid (Below wr.heap.size wr w4) := by rw [← hw4]; exact ⟨rfl, rfl, rfl, Nat.le_refl _, fun _ _ => rfl⟩
     clear hmk hcl
     refine region_join1 (val := val) (fun Dq wq => wq.heap[Dq]? = some (.cells #[.int .i64 x0, .int .i64 x1, .int .i64 x2, .int .i64 x3, .int .i64 x4] 56 (0, 0)) ∧ Below wr.heap.size wr wq ∧ wr.heap.size ≤ Dq) (.read 0 (.read 1 (.read 2 (.read 3 (.read 4 (.read 5 (.read 6 (.read 7 (.read 8 (.two 9 (.read 10 (.read 11 (.one 12 (.one 13 .done)))) 12 (.one 9 (.read 10 (.read 11 (.one 13 .done)))))))))))))) (by kernel_rfl) (by kernel_rfl) z0 hz0 ?_
     apply Exists.intro
     refine ⟨?_, ?_⟩
     case' refine_1 =>
      rw [hz0, hw4]
      iterate 9 (refine walkP_read rfl (fun K hK => ?_); refine ⟨by rfl, ?_⟩; unfold isRd; go_simp; refine hK _ ?_; clear hK K)
      refine ⟨?_, ?_⟩
      case refine_1 =>
       refine spec_step rfl (fun K hK => ?_)
       refine ⟨by rfl, ?_⟩
       unfold upM
       go_simp
       refine (HF1.out w4 (HBK.out.later HBD.out)).mono ?_
       rintro e wc ⟨rfl, hwc⟩
       rw [hwc]
       refine ⟨_, rfl, HMK.out _ HBD.out, hK _ _ ?_⟩
       clear hK K hwc
       iterate 2 (refine walkP_read rfl (fun K hK => ?_); refine ⟨by rfl, ?_⟩; unfold isRd; go_simp; refine hK _ ?_; clear hK K)
       refine spec_step rfl (fun K hK => ?_)
       refine ⟨by rfl, ?_⟩
       unfold upM
       go_simp
       have HZ := hide (heap_alloc_new w4 (.cells #[.int .i64 0, .int .i64 0, .int .i64 0, .int .i64 0, .int .i64 0] 56))
       have HBz : Hid (Below wr.heap.size wr (w4.alloc (.cells #[.int .i64 0, .int .i64 0, .int .i64 0, .int .i64 0, .int .i64 0] 56))) := HBD.out.alloc HBD.out.size _
       have HLz : Hid (wr.heap.size ≤ w4.heap.size) := HBD.out.size
       refine ⟨HMK.out _ HBz.out, hK _ _ ?_⟩
       clear hK K
       generalize w4.alloc (.cells #[.int .i64 0, .int .i64 0, .int .i64 0, .int .i64 0, .int .i64 0] 56) = wz at *
       generalize w4.heap.size = Dz at *
       have c0 : wz.cell? ⟨Dz, 0, none⟩ = some (.int .i64 0) := cof HZ.out rfl
       have f0 : wz.frozen? ⟨Dz, 0, none⟩ = false := fof HZ.out
       have c1 : wz.cell? ⟨Dz, 1, none⟩ = some (.int .i64 0) := cof HZ.out rfl
       have f1 : wz.frozen? ⟨Dz, 1, none⟩ = false := fof HZ.out
       have c2 : wz.cell? ⟨Dz, 2, none⟩ = some (.int .i64 0) := cof HZ.out rfl
       have f2 : wz.frozen? ⟨Dz, 2, none⟩ = false := fof HZ.out
       have c3 : wz.cell? ⟨Dz, 3, none⟩ = some (.int .i64 0) := cof HZ.out rfl
       have f3 : wz.frozen? ⟨Dz, 3, none⟩ = false := fof HZ.out
       have c4 : wz.cell? ⟨Dz, 4, none⟩ = some (.int .i64 0) := cof HZ.out rfl
       have f4 : wz.frozen? ⟨Dz, 4, none⟩ = false := fof HZ.out
       have HX := hide (set5_row HZ.out x0 x1 x2 x3 x4)
       have HBx := hide (below5 HBz.out HLz.out (.int .i64 x0) (.int .i64 x1) (.int .i64 x2) (.int .i64 x3) (.int .i64 x4))
       refine spec_step rfl (fun K hK => ?_)
       refine ⟨by rfl, ?_⟩
       unfold upM
       go_simp
       refine ⟨HMK.out _ HBx.out, hK _ _ ?_⟩
       clear hK K
       refine walkP_done ?_
       exact ⟨Dz, rfl, HX.out, HBx.out, HLz.out⟩
      case refine_2 =>
       refine spec_step rfl (fun K hK => ?_)
       refine ⟨by rfl, ?_⟩
       unfold upM
       go_simp
       have HZ := hide (heap_alloc_new w4 (.cells #[.int .i64 0, .int .i64 0, .int .i64 0, .int .i64 0, .int .i64 0] 56))
       have HBz : Hid (Below wr.heap.size wr (w4.alloc (.cells #[.int .i64 0, .int .i64 0, .int .i64 0, .int .i64 0, .int .i64 0] 56))) := HBD.out.alloc HBD.out.size _
       have HLz : Hid (wr.heap.size ≤ w4.heap.size) := HBD.out.size
       refine ⟨HMK.out _ HBz.out, hK _ _ ?_⟩
       clear hK K
       generalize w4.alloc (.cells #[.int .i64 0, .int .i64 0, .int .i64 0, .int .i64 0, .int .i64 0] 56) = wz at *
       generalize w4.heap.size = Dz at *
       refine spec_step rfl (fun K hK => ?_)
       refine ⟨by rfl, ?_⟩
       unfold upM
       go_simp
       refine (HF1.out wz (HBK.out.later HBz.out)).mono ?_
       rintro e wc ⟨rfl, hwc⟩
       rw [hwc]
       refine ⟨_, rfl, HMK.out _ HBz.out, hK _ _ ?_⟩
       clear hK K hwc
       iterate 2 (refine walkP_read rfl (fun K hK => ?_); refine ⟨by rfl, ?_⟩; unfold isRd; go_simp; refine hK _ ?_; clear hK K)
       have c0 : wz.cell? ⟨Dz, 0, none⟩ = some (.int .i64 0) := cof HZ.out rfl
       have f0 : wz.frozen? ⟨Dz, 0, none⟩ = false := fof HZ.out
       have c1 : wz.cell? ⟨Dz, 1, none⟩ = some (.int .i64 0) := cof HZ.out rfl
       have f1 : wz.frozen? ⟨Dz, 1, none⟩ = false := fof HZ.out
       have c2 : wz.cell? ⟨Dz, 2, none⟩ = some (.int .i64 0) := cof HZ.out rfl
       have f2 : wz.frozen? ⟨Dz, 2, none⟩ = false := fof HZ.out
       have c3 : wz.cell? ⟨Dz, 3, none⟩ = some (.int .i64 0) := cof HZ.out rfl
       have f3 : wz.frozen? ⟨Dz, 3, none⟩ = false := fof HZ.out
       have c4 : wz.cell? ⟨Dz, 4, none⟩ = some (.int .i64 0) := cof HZ.out rfl
       have f4 : wz.frozen? ⟨Dz, 4, none⟩ = false := fof HZ.out
       have HX := hide (set5_row HZ.out x0 x1 x2 x3 x4)
       have HBx := hide (below5 HBz.out HLz.out (.int .i64 x0) (.int .i64 x1) (.int .i64 x2) (.int .i64 x3) (.int .i64 x4))
       refine spec_step rfl (fun K hK => ?_)
       refine ⟨by rfl, ?_⟩
       unfold upM
       go_simp
       refine ⟨HMK.out _ HBx.out, hK _ _ ?_⟩
       clear hK K
       refine walkP_done ?_
       exact ⟨Dz, rfl, HX.out, HBx.out, HLz.out⟩
     intro D w6 ⟨hrD, hbN, hlD⟩
     clear hz0 hw4 ev eu l0 l1 l2 l3 l4 HMK HBD
     clear z0 hnx
     clear val
     clear XT
     have HD6 := hide hrD; have HLD := hide hlD
     have HBK6 := hide (HBK.out.later hbN); have HT6 := hide (HT.out.later hbN)
     have cus6 := cell_later hbN cus
     have HSZ : Hid (wr.heap.size ≤ w6.heap.size) := hbN.size
     have HVL : Hid (gl < wr.heap.size) := (HBK.out.rowLt gl rfl).2
     clear hrD hbN hlD HBK HT cub cus HF1 HN1 HP1
     go_wp2_with fail
     obtain ⟨XT, val, hcl, hmk⟩ := class_all (fun W' => MBook W' 0 (b i) (.slice (some ⟨gl, 0, none⟩) LT.length capl) LT ∧ W'.cell? ⟨gS, t, none⟩ = some (.int .i64 ids))
     obtain ⟨z0, hz0⟩ := hmk w6.drew ⟨HBK6.out.later ⟨rfl, rfl, rfl, Nat.le_refl _, fun _ _ => rfl⟩, cus6⟩
     have hnx : Nonempty XT := ⟨z0⟩
     have ev : ∀ x, (val x).cell? ⟨b i, 0, none⟩ = some (.slice (some ⟨gl, 0, none⟩) LT.length capl) := fun x => cell_of_one (hcl x).1.cell
     have eu : ∀ x, (val x).cell? ⟨gS, t, none⟩ = some (.int .i64 ids) := fun x => (hcl x).2
     have l0 : ∀ x, (val x).cell? ⟨gl, ks * 5, none⟩ = some (.int .i64 y0) := fun x => by have hq := ((hcl x).1.ats.2 ks HP2.out).1; rw [HN2.out] at hq; simpa using hq
     have l1 : ∀ x, (val x).cell? ⟨gl, ks * 5 + 1, none⟩ = some (.int .i64 y1) := fun x => by have hq := ((hcl x).1.ats.2 ks HP2.out).2.1; rw [HN2.out] at hq; simpa using hq
     have l2 : ∀ x, (val x).cell? ⟨gl, ks * 5 + 2, none⟩ = some (.int .i64 y2) := fun x => by have hq := ((hcl x).1.ats.2 ks HP2.out).2.2.1; rw [HN2.out] at hq; simpa using hq
     have l3 : ∀ x, (val x).cell? ⟨gl, ks * 5 + 3, none⟩ = some (.int .i64 y3) := fun x => by have hq := ((hcl x).1.ats.2 ks HP2.out).2.2.2.1; rw [HN2.out] at hq; simpa using hq
     have l4 : ∀ x, (val x).cell? ⟨gl, ks * 5 + 4, none⟩ = some (.int .i64 y4) := fun x => by have hq := ((hcl x).1.ats.2 ks HP2.out).2.2.2.2; rw [HN2.out] at hq; simpa using hq
     have HMK : Hid (∀ W', Below w6.heap.size w6 W' → ∃ x, val x = W') := fun W' hb => hmk W' ⟨HBK6.out.later hb, cell_later hb cus6⟩
     obtain ⟨w4, hw4⟩ : ∃ w4, w6.drew = w4 := ⟨_, rfl⟩
     have HBD : Hid (Below w6.heap.size w6 w4) := by rw [← hw4]; exact ⟨rfl, rfl, rfl, Nat.le_refl _, fun _ _ => rfl⟩
     clear hmk hcl
     refine region_join1 (val := val) (fun Dq wq => wq.heap[Dq]? = some (.cells #[.int .i64 y0, .int .i64 y1, .int .i64 y2, .int .i64 y3, .int .i64 y4] 56 (0, 0)) ∧ Below w6.heap.size w6 wq ∧ w6.heap.size ≤ Dq) (.read 0 (.read 1 (.read 2 (.read 3 (.read 4 (.read 5 (.read 6 (.read 7 (.read 8 (.two 9 (.read 10 (.read 11 (.one 12 (.one 13 .done)))) 12 (.one 9 (.read 10 (.read 11 (.one 13 .done)))))))))))))) (by kernel_rfl) (by kernel_rfl) z0 hz0 ?_
     apply Exists.intro
     refine ⟨?_, ?_⟩
     case' refine_1 =>
      rw [hz0, hw4]
      iterate 9 (refine walkP_read rfl (fun K hK => ?_); refine ⟨by rfl, ?_⟩; unfold isRd; go_simp; refine hK _ ?_; clear hK K)
      refine ⟨?_, ?_⟩
      case refine_1 =>
       refine spec_step rfl (fun K hK => ?_)
       refine ⟨by rfl, ?_⟩
       unfold upM
       go_simp
       refine (HF2.out w4 (HBK6.out.later HBD.out)).mono ?_
       rintro e wc ⟨rfl, hwc⟩
       rw [hwc]
       refine ⟨_, rfl, HMK.out _ HBD.out, hK _ _ ?_⟩
       clear hK K hwc
       iterate 2 (refine walkP_read rfl (fun K hK => ?_); refine ⟨by rfl, ?_⟩; unfold isRd; go_simp; refine hK _ ?_; clear hK K)
       refine spec_step rfl (fun K hK => ?_)
       refine ⟨by rfl, ?_⟩
       unfold upM
       go_simp
       have HZ := hide (heap_alloc_new w4 (.cells #[.int .i64 0, .int .i64 0, .int .i64 0, .int .i64 0, .int .i64 0] 56))
       have HBz : Hid (Below w6.heap.size w6 (w4.alloc (.cells #[.int .i64 0, .int .i64 0, .int .i64 0, .int .i64 0, .int .i64 0] 56))) := HBD.out.alloc HBD.out.size _
       have HLz : Hid (w6.heap.size ≤ w4.heap.size) := HBD.out.size
       refine ⟨HMK.out _ HBz.out, hK _ _ ?_⟩
       clear hK K
       generalize w4.alloc (.cells #[.int .i64 0, .int .i64 0, .int .i64 0, .int .i64 0, .int .i64 0] 56) = wz at *
       generalize w4.heap.size = Dz at *
       have c0 : wz.cell? ⟨Dz, 0, none⟩ = some (.int .i64 0) := cof HZ.out rfl
       have f0 : wz.frozen? ⟨Dz, 0, none⟩ = false := fof HZ.out
       have c1 : wz.cell? ⟨Dz, 1, none⟩ = some (.int .i64 0) := cof HZ.out rfl
       have f1 : wz.frozen? ⟨Dz, 1, none⟩ = false := fof HZ.out
       have c2 : wz.cell? ⟨Dz, 2, none⟩ = some (.int .i64 0) := cof HZ.out rfl
       have f2 : wz.frozen? ⟨Dz, 2, none⟩ = false := fof HZ.out
       have c3 : wz.cell? ⟨Dz, 3, none⟩ = some (.int .i64 0) := cof HZ.out rfl
       have f3 : wz.frozen? ⟨Dz, 3, none⟩ = false := fof HZ.out
       have c4 : wz.cell? ⟨Dz, 4, none⟩ = some (.int .i64 0) := cof HZ.out rfl
       have f4 : wz.frozen? ⟨Dz, 4, none⟩ = false := fof HZ.out
       have HX := hide (set5_row HZ.out y0 y1 y2 y3 y4)
       have HBx := hide (below5 HBz.out HLz.out (.int .i64 y0) (.int .i64 y1) (.int .i64 y2) (.int .i64 y3) (.int .i64 y4))
       refine spec_step rfl (fun K hK => ?_)
       refine ⟨by rfl, ?_⟩
       unfold upM
       go_simp
       refine ⟨HMK.out _ HBx.out, hK _ _ ?_⟩
       clear hK K
       refine walkP_done ?_
       exact ⟨Dz, rfl, HX.out, HBx.out, HLz.out⟩
      case refine_2 =>
       refine spec_step rfl (fun K hK => ?_)
       refine ⟨by rfl, ?_⟩
       unfold upM
       go_simp
       have HZ := hide (heap_alloc_new w4 (.cells #[.int .i64 0, .int .i64 0, .int .i64 0, .int .i64 0, .int .i64 0] 56))
       have HBz : Hid (Below w6.heap.size w6 (w4.alloc (.cells #[.int .i64 0, .int .i64 0, .int .i64 0, .int .i64 0, .int .i64 0] 56))) := HBD.out.alloc HBD.out.size _
       have HLz : Hid (w6.heap.size ≤ w4.heap.size) := HBD.out.size
       refine ⟨HMK.out _ HBz.out, hK _ _ ?_⟩
       clear hK K
       generalize w4.alloc (.cells #[.int .i64 0, .int .i64 0, .int .i64 0, .int .i64 0, .int .i64 0] 56) = wz at *
       generalize w4.heap.size = Dz at *
       refine spec_step rfl (fun K hK => ?_)
       refine ⟨by rfl, ?_⟩
       unfold upM
       go_simp
       refine (HF2.out wz (HBK6.out.later HBz.out)).mono ?_
       rintro e wc ⟨rfl, hwc⟩
       rw [hwc]
       refine ⟨_, rfl, HMK.out _ HBz.out, hK _ _ ?_⟩
       clear hK K hwc
       iterate 2 (refine walkP_read rfl (fun K hK => ?_); refine ⟨by rfl, ?_⟩; unfold isRd; go_simp; refine hK _ ?_; clear hK K)
       have c0 : wz.cell? ⟨Dz, 0, none⟩ = some (.int .i64 0) := cof HZ.out rfl
       have f0 : wz.frozen? ⟨Dz, 0, none⟩ = false := fof HZ.out
       have c1 : wz.cell? ⟨Dz, 1, none⟩ = some (.int .i64 0) := cof HZ.out rfl
       have f1 : wz.frozen? ⟨Dz, 1, none⟩ = false := fof HZ.out
       have c2 : wz.cell? ⟨Dz, 2, none⟩ = some (.int .i64 0) := cof HZ.out rfl
       have f2 : wz.frozen? ⟨Dz, 2, none⟩ = false := fof HZ.out
       have c3 : wz.cell? ⟨Dz, 3, none⟩ = some (.int .i64 0) := cof HZ.out rfl
       have f3 : wz.frozen? ⟨Dz, 3, none⟩ = false := fof HZ.out
       have c4 : wz.cell? ⟨Dz, 4, none⟩ = some (.int .i64 0) := cof HZ.out rfl
       have f4 : wz.frozen? ⟨Dz, 4, none⟩ = false := fof HZ.out
       have HX := hide (set5_row HZ.out y0 y1 y2 y3 y4)
       have HBx := hide (below5 HBz.out HLz.out (.int .i64 y0) (.int .i64 y1) (.int .i64 y2) (.int .i64 y3) (.int .i64 y4))
       refine spec_step rfl (fun K hK => ?_)
       refine ⟨by rfl, ?_⟩
       unfold upM
       go_simp
       refine ⟨HMK.out _ HBx.out, hK _ _ ?_⟩
       clear hK K
       refine walkP_done ?_
       exact ⟨Dz, rfl, HX.out, HBx.out, HLz.out⟩
     intro E w8 ⟨hrD, hbN, hlD⟩
     clear hz0 hw4 ev eu l0 l1 l2 l3 l4 HMK HBD
     clear z0 hnx
     clear val
     clear XT
     have HE8 := hide hrD; have HLE := hide hlD
     have HD8 : Hid (w8.heap[D]? = some (.cells #[.int .i64 x0, .int .i64 x1, .int .i64 x2, .int .i64 x3, .int .i64 x4] 56 (0, 0))) := rof hbN HD6.out
     have HBK8 := hide (HBK6.out.later hbN); have HT8 := hide (HT6.out.later hbN)
     clear hrD hbN hlD HBK6 HT6 HD6 cus6 HF2 HN2 HP2
     have HTR := hide (fun W' (hp : Purse W' 131 P (Fs.settC pf i p (L i) (Fu.taken bu se t))) => mtrade_any P (i : Int) ⟨x0, x1, x2, x3, x4⟩ ⟨y0, y1, y2, y3, y4⟩ p 1 _ W' hp HGF)
     rw [HTF.out] at HTR
     unfold lotV at HTR
     simp only [] at HTR
     go_wp2_with fail
     obtain ⟨XT, val, hcl, hmk⟩ := class_all (fun W' => W'.heap[F]? = some (.cells (floorA b NN P wd h) 136 (0, 0)) ∧ W'.heap[D]? = some (.cells #[.int .i64 x0, .int .i64 x1, .int .i64 x2, .int .i64 x3, .int .i64 x4] 56 (0, 0)) ∧ W'.heap[E]? = some (.cells #[.int .i64 y0, .int .i64 y1, .int .i64 y2, .int .i64 y3, .int .i64 y4] 56 (0, 0)))
     obtain ⟨z0, hz0⟩ := hmk w8.drew ⟨HT8.out.fl.blk, HD8.out, HE8.out⟩
     have hnx : Nonempty XT := ⟨z0⟩
     have ep : ∀ x, (val x).cell? ⟨F, 9, none⟩ = some (.pointer (some ⟨P, 0, none⟩)) := fun x => cof (hcl x).1 rfl
     have d0 : ∀ x, (val x).cell? ⟨D, 0, none⟩ = some (.int .i64 x0) := fun x => cof (hcl x).2.1 rfl
     have d1 : ∀ x, (val x).cell? ⟨D, 1, none⟩ = some (.int .i64 x1) := fun x => cof (hcl x).2.1 rfl
     have d2 : ∀ x, (val x).cell? ⟨D, 2, none⟩ = some (.int .i64 x2) := fun x => cof (hcl x).2.1 rfl
     have d3 : ∀ x, (val x).cell? ⟨D, 3, none⟩ = some (.int .i64 x3) := fun x => cof (hcl x).2.1 rfl
     have d4 : ∀ x, (val x).cell? ⟨D, 4, none⟩ = some (.int .i64 x4) := fun x => cof (hcl x).2.1 rfl
     have e0 : ∀ x, (val x).cell? ⟨E, 0, none⟩ = some (.int .i64 y0) := fun x => cof (hcl x).2.2 rfl
     have e1 : ∀ x, (val x).cell? ⟨E, 1, none⟩ = some (.int .i64 y1) := fun x => cof (hcl x).2.2 rfl
     have e2 : ∀ x, (val x).cell? ⟨E, 2, none⟩ = some (.int .i64 y2) := fun x => cof (hcl x).2.2 rfl
     have e3 : ∀ x, (val x).cell? ⟨E, 3, none⟩ = some (.int .i64 y3) := fun x => cof (hcl x).2.2 rfl
     have e4 : ∀ x, (val x).cell? ⟨E, 4, none⟩ = some (.int .i64 y4) := fun x => cof (hcl x).2.2 rfl
     have HMK := hide hmk
     obtain ⟨w9d, hw9d⟩ : ∃ w9d, w8.drew = w9d := ⟨_, rfl⟩
     have hb9d : Below w8.heap.size w8 w9d := by rw [← hw9d]; exact ⟨rfl, rfl, rfl, Nat.le_refl _, fun _ _ => rfl⟩
     have HT9 := hide (HT8.out.later hb9d); have HBK9 := hide (HBK8.out.later hb9d)
     have HD9 : Hid (w9d.heap[D]? = some (.cells #[.int .i64 x0, .int .i64 x1, .int .i64 x2, .int .i64 x3, .int .i64 x4] 56 (0, 0))) := rof hb9d HD8.out
     have HE9 : Hid (w9d.heap[E]? = some (.cells #[.int .i64 y0, .int .i64 y1, .int .i64 y2, .int .i64 y3, .int .i64 y4] 56 (0, 0))) := rof hb9d HE8.out
     clear hmk hcl hb9d HT8 HBK8 HD8 HE8
     refine region_many_calls (val := val) [8] [0, 1, 2, 3, 4, 5, 6, 7, 8] (by kernel_rfl) (by kernel_rfl) z0 hz0 ?_
     rw [hz0, hw9d]
     clear hz0 hw9d
     iterate 8 (refine walkM_read rfl rfl (fun K hK => ?_); refine ⟨by rfl, ?_⟩; unfold isRd; go_simp; refine hK _ ?_; clear hK K)
     refine walkM_call rfl rfl (fun K hK => ?_)
     refine ⟨by rfl, ?_⟩
     unfold upM
     go_simp
     refine (HTR.out _ HT9.out.fl.pu).mono ?_
     rintro e wa ⟨rfl, hpa, hsa⟩
     have HTa := hide (HT9.out.purse hpa hsa)
     have HDa := hide (save_row hsa HT9.out.fl.pu HD9.out (by decide)); have HEa := hide (save_row hsa HT9.out.fl.pu HE9.out (by decide))
     refine ⟨_, rfl, HMK.out _ ⟨HTa.out.fl.blk, HDa.out, HEa.out⟩, hK _ _ ?_⟩
     clear hK K hpa hsa HT9 HBK9 HD9 HE9 HTR
     refine walkM_nil ?_
     clear ep d0 d1 d2 d3 d4 e0 e1 e2 e3 e4 HMK
     clear z0 hnx
     clear val
     clear XT
     have hbka := HTa.out.fl.bk i hi3
     rw [upd_same, upd_same] at hbka
     have HT1 := hide (mtake_any (b i) 0 _ x0 1 LT wa hbka HGL)
     have d0 : wa.cell? ⟨D, 0, none⟩ = some (.int .i64 x0) := cof HDa.out rfl
     go_wp2_with fail
     refine HT1.out.mono ?_
     rintro e wb ⟨rfl, v1, hb1, hs1⟩
     have HEb := hide (lot_step hs1 hbka HEa.out (fun e => by
      have e1 : gl = E := by simpa [Value.ownBlock] using e
      have h1 := HVL.out
      have h2 := HLE.out
      have h3 := HSZ.out
      omega))
     have HEn : Hid (v1.ownBlock ≠ some E) := fun e => by
      rcases hs1.new E e with e | e
      ·have e1 : gl = E := by simpa [Value.ownBlock] using e
       have h1 := HVL.out
       have h2 := HLE.out
       have h3 := HSZ.out
       omega
      ·have := lt_of_block HEa.out
       omega
     have HTb := hide (HTa.out.book hi3 hb1 (by rw [upd_same]; exact hs1))
     rw [upd_upd, upd_upd] at HTb
     clear hb1 hs1 HT1 hbka HTa HDa HEa d0
     simp only []
     have hbkb := HTb.out.fl.bk i hi3
     rw [upd_same, upd_same] at hbkb
     have HT2 := hide (mtake_any (b i) 0 _ y0 1 (Bk.takL LT x0 1) wb hbkb (hide (Bk.good_takL HGL.out x0 1)))
     have e0 : wb.cell? ⟨E, 0, none⟩ = some (.int .i64 y0) := cof HEb.out rfl
     go_wp2_with fail
     refine HT2.out.mono ?_
     rintro e wc ⟨rfl, v2, hb2, hs2⟩
     have HTc := hide (HTb.out.book hi3 hb2 (by rw [upd_same]; exact hs2))
     rw [upd_upd, upd_upd] at HTc
     have hx0 : x0 = idb := HXI.out
     have hy0 : y0 = ids := HYI.out
     rw [hx0, hy0, HTKL.out] at HTc
     clear hb2 hs2 HT2 hbkb HTb HEb e0 hx0 hy0
     simp only []
     go_wp2
     exact ⟨⟨t + 1, v2, by omega, by go_num, HTc.out⟩, by simp [intOf]; omega⟩
    case' neg =>
     have hte : (t : Int) = vol := by omega
     have hub := HUb.out
     have hus := HUs.out
     have r0 : wr.cell? ⟨R, 0, none⟩ = some (.int .i64 0) := cof HT.out.res rfl
     have r1 : wr.cell? ⟨R, 1, none⟩ = some (.int .i64 0) := cof HT.out.res rfl
     have r2 : wr.cell? ⟨R, 2, none⟩ = some (.bool false) := cof HT.out.res rfl
     have r3 : wr.cell? ⟨R, 3, none⟩ = some (.slice none 0 0) := cof HT.out.res rfl
     have q0 : wr.frozen? ⟨R, 0, none⟩ = false := fof HT.out.res
     have q1 : wr.frozen? ⟨R, 1, none⟩ = false := fof HT.out.res
     have q2 : wr.frozen? ⟨R, 2, none⟩ = false := fof HT.out.res
     have q3 : wr.frozen? ⟨R, 3, none⟩ = false := fof HT.out.res
     have s0 : wr.cell? ⟨B1, 0, none⟩ = some (.int .i64 p) := cof HT.out.r rfl
     have s1 : wr.cell? ⟨B1, 1, none⟩ = some (.int .i64 vol) := cof HT.out.r rfl
     have s2 : wr.cell? ⟨B1, 2, none⟩ = some (.bool true) := cof HT.out.r rfl
     have s3 := HT.out.b3
     have HDN := hide (HT.out.done HWs.out HRl9.out (by have h1 := HLR.out; have h2 := hF.out.bl.size; omega) (.int .i64 p) (.int .i64 vol) (.bool true) (.slice (some ⟨gF, 0, none⟩) FF.length capF))
     have HZ9 := hide (mset4_rowv HT.out.res p vol true (.slice (some ⟨gF, 0, none⟩) FF.length capF))
     have hnn : ∀ f ∈ FF, 0 ≤ f.2 := fun f hm => by have := (Fu.fills_mem hfine.out s f (by rw [← HFF.out]; exact hm)).1; omega
     have h1 : (Fu.units (L i) true FF).length ≤ t := by rw [HFF.out, ← HBU.out]; omega
     have h2 : (Fu.units (L i) false FF).length ≤ t := by rw [HFF.out, ← HSE.out]; omega
     have eC : Fs.settC pf i p (L i) (Fu.taken bu se t) = Fs.sett pf i p (L i) FF := by rw [HBU.out, HSE.out, ← HFF.out]; exact Fs.settC_full pf i p hnn h1 h2
     have eL : Fu.rem (Fu.taken bu se t) (L i) = Fs.restL FF (L i) := by
      unfold Fs.restL
      congr 1
      funext id
      rw [HBU.out, HSE.out, ← HFF.out]
      exact Fs.taken_full hnn h1 h2 id
     rw [eC, eL] at HDN
     have HTe := hide hte
     clear hnn h1 h2 eC eL hte HT
     go_wp2
     generalize (((wr.setCell ⟨R, 0, none⟩ (.int .i64 p)).setCell ⟨R, 1, none⟩ (.int .i64 vol)).setCell ⟨R, 2, none⟩ (.bool true)).setCell ⟨R, 3, none⟩ (.slice (some ⟨gF, 0, none⟩) FF.length capF) = Wf at *
     have z0 : Wf.cell? ⟨R, 0, none⟩ = some (.int .i64 p) := cof HZ9.out rfl
     have z1 : Wf.cell? ⟨R, 1, none⟩ = some (.int .i64 vol) := cof HZ9.out rfl
     have z2 : Wf.cell? ⟨R, 2, none⟩ = some (.bool true) := cof HZ9.out rfl
     have z3 : Wf.cell? ⟨R, 3, none⟩ = some (.slice (some ⟨gF, 0, none⟩) FF.length capF) := cof HZ9.out rfl
     exact bodyPost_ret (v := .agg #[.int .i64 p, .int .i64 vol, .bool true, .slice (some ⟨gF, 0, none⟩) FF.length capF]) (by simp [results, Tryz.results32, go_sem, z0, z1, z2, z3]) rfl ⟨_, _, rfl, HDN.out.1, HDN.out.2⟩
end
namespace Fl
end Fl

def newW (w : World) (wd h ref stock : Int) : World :=
 (((((w.alloc (.cells (p_row fun _ => 0) 131)).alloc
  (.cells #[.pointer (some ⟨w.heap.size + 1 + 1 + 1, 0, none⟩), .pointer (some ⟨w.heap.size + 1 + 1 + 1 + 1, 0, none⟩), .pointer (some ⟨w.heap.size + 1 + 1 + 1 + 1 + 1, 0, none⟩), .int .i64 ref, .int .i64 0, .int .i64 ref, .int .i64 0, .int .i64 ref, .int .i64 0, .pointer (some ⟨w.heap.size, 0, none⟩), .int .i64 wd, .int .i64 h] 136)).alloc
  (.cells #[.int .i64 stock, .int .i64 stock, .int .i64 stock] 41)).alloc
  (.cells #[.slice none 0 0] 138)).alloc (.cells #[.slice none 0 0] 138)).alloc (.cells #[.slice none 0 0] 138)

theorem newW_fl (w : World) (wd h ref stock : Int) :
  MFl w (newW w wd h ref stock) (w.heap.size + 1) w.heap.size (fun j => w.heap.size + 3 + j) (fun _ => .slice none 0 0) (fun _ => []) (fun _ => 0) (Fl.bands ref) wd h ∧
  (newW w wd h ref stock).heap[w.heap.size + 1 + 1]? = some (.cells #[.int .i64 stock, .int .i64 stock, .int .i64 stock] 41 (0, 0)) := by
 unfold newW
 obtain ⟨w1, h1⟩ : ∃ w1, w.alloc (.cells (p_row fun _ => 0) 131) = w1 := ⟨_, rfl⟩
 have s1 : w1.heap.size = w.heap.size + 1 := by rw [← h1]; simp
 have r1 : w1.heap[w.heap.size]? = some (.cells (p_row fun _ => 0) 131 (0, 0)) := by rw [← h1]; exact heap_alloc_new _ _
 rw [h1]
 obtain ⟨w2, h2⟩ : ∃ w2, w1.alloc (.cells #[.pointer (some ⟨w.heap.size + 1 + 1 + 1, 0, none⟩), .pointer (some ⟨w.heap.size + 1 + 1 + 1 + 1, 0, none⟩), .pointer (some ⟨w.heap.size + 1 + 1 + 1 + 1 + 1, 0, none⟩), .int .i64 ref, .int .i64 0, .int .i64 ref, .int .i64 0, .int .i64 ref, .int .i64 0, .pointer (some ⟨w.heap.size, 0, none⟩), .int .i64 wd, .int .i64 h] 136) = w2 := ⟨_, rfl⟩
 have s2 : w2.heap.size = w.heap.size + 2 := by rw [← h2]; simp [s1]
 have k2 : Below w1.heap.size w1 w2 := by rw [← h2]; exact bal
 have r2 : w2.heap[w.heap.size + 1]? = some (.cells #[.pointer (some ⟨w.heap.size + 1 + 1 + 1, 0, none⟩), .pointer (some ⟨w.heap.size + 1 + 1 + 1 + 1, 0, none⟩), .pointer (some ⟨w.heap.size + 1 + 1 + 1 + 1 + 1, 0, none⟩), .int .i64 ref, .int .i64 0, .int .i64 ref, .int .i64 0, .int .i64 ref, .int .i64 0, .pointer (some ⟨w.heap.size, 0, none⟩), .int .i64 wd, .int .i64 h] 136 (0, 0)) := by rw [← h2, ← s1]; exact heap_alloc_new _ _
 rw [h2]
 obtain ⟨w3, h3⟩ : ∃ w3, w2.alloc (.cells #[.int .i64 stock, .int .i64 stock, .int .i64 stock] 41) = w3 := ⟨_, rfl⟩
 have s3 : w3.heap.size = w.heap.size + 3 := by rw [← h3]; simp [s2]
 have k3 : Below w2.heap.size w2 w3 := by rw [← h3]; exact bal
 have r3 : w3.heap[w.heap.size + 2]? = some (.cells #[.int .i64 stock, .int .i64 stock, .int .i64 stock] 41 (0, 0)) := by rw [← h3, ← s2]; exact heap_alloc_new _ _
 rw [h3]
 obtain ⟨w4, h4⟩ : ∃ w4, w3.alloc (.cells #[.slice none 0 0] 138) = w4 := ⟨_, rfl⟩
 have s4 : w4.heap.size = w.heap.size + 4 := by rw [← h4]; simp [s3]
 have k4 : Below w3.heap.size w3 w4 := by rw [← h4]; exact bal
 have r4 : w4.heap[w.heap.size + 3]? = some (.cells #[.slice none 0 0] 138 (0, 0)) := by rw [← h4, ← s3]; exact heap_alloc_new _ _
 rw [h4]
 obtain ⟨w5, h5⟩ : ∃ w5, w4.alloc (.cells #[.slice none 0 0] 138) = w5 := ⟨_, rfl⟩
 have s5 : w5.heap.size = w.heap.size + 5 := by rw [← h5]; simp [s4]
 have k5 : Below w4.heap.size w4 w5 := by rw [← h5]; exact bal
 have r5 : w5.heap[w.heap.size + 4]? = some (.cells #[.slice none 0 0] 138 (0, 0)) := by rw [← h5, ← s4]; exact heap_alloc_new _ _
 rw [h5]
 obtain ⟨w6, h6⟩ : ∃ w6, w5.alloc (.cells #[.slice none 0 0] 138) = w6 := ⟨_, rfl⟩
 have k6 : Below w5.heap.size w5 w6 := by rw [← h6]; exact bal
 have r6 : w6.heap[w.heap.size + 5]? = some (.cells #[.slice none 0 0] 138 (0, 0)) := by rw [← h6, ← s5]; exact heap_alloc_new _ _
 rw [h6]
 have b1 : Below w.heap.size w w1 := by rw [← h1]; exact bal
 have b2 := b1.trans (k2.mono (by omega))
 have b3 := b2.trans (k3.mono (by omega))
 have b4 := b3.trans (k4.mono (by omega))
 have b5 := b4.trans (k5.mono (by omega))
 have b6 := b5.trans (k6.mono (by omega))
 refine ⟨⟨?_, fun i hi => ?_, fun i j _ _ hij e => hij (by omega), fun _ _ _ _ _ _ e => (by cases e), ?_, b6.os, b6.tape, b6.output, b6.size, fun k hk _ _ _ => b6.block k hk, fun _ _ _ e => (by cases e)⟩, ?_⟩
 ·rw [k6.block _ (by omega), k5.block _ (by omega), k4.block _ (by omega), k3.block _ (by omega), r2]
  rfl
 ·refine ⟨?_, by omega, World.ownsRow_nil _ _ _ _⟩
  have : i = 0 ∨ i = 1 ∨ i = 2 := by omega
  rcases this with rfl | rfl | rfl
  ·show w6.heap[w.heap.size + 3]? = _
   rw [k6.block _ (by omega), k5.block _ (by omega), r4]
  ·show w6.heap[w.heap.size + 4]? = _
   rw [k6.block _ (by omega), r5]
  ·exact r6
 ·show w6.heap[w.heap.size]? = _
  rw [k6.block _ (by omega), k5.block _ (by omega), k4.block _ (by omega), k3.block _ (by omega), k2.block _ (by omega), r1]
 ·rw [show w.heap.size + 1 + 1 = w.heap.size + 2 from rfl, k6.block _ (by omega), k5.block _ (by omega), k4.block _ (by omega), r3]

set_option maxHeartbeats 2000000 in
theorem mnew_any (wd h ref cash stock : Int) (w : World) :
  Calls Tryz.prog 28 #[.int .i64 wd, .int .i64 h, .int .i64 ref, .int .i64 cash, .int .i64 stock] w fun e w' => e = .returned (.pointer (some ⟨w.heap.size + 1, 0, none⟩)) ∧ MFl w w' (w.heap.size + 1) w.heap.size (fun j => w.heap.size + 3 + j) (fun _ => .slice none 0 0) (fun _ => []) (Fl.gift cash stock 6) (Fl.bands ref) wd h := by
 have z32 := zero32
 obtain ⟨hfl, hall⟩ := newW_fl w wd h ref stock
 obtain ⟨W1, hW1⟩ : ∃ W1, newW w wd h ref stock = W1 := ⟨_, rfl⟩
 rw [hW1] at hfl hall
 have HFL := hide hfl; have HALL := hide hall
 unfold newW at hW1
 have HW1 := hide hW1
 clear hfl hall hW1
 go_enter Tryz.func28, Tryz.ntmps28
 go_wp2
 refine wp_loop_rounds 4 ?_
 rw [rounds_succ]
 go_wp2
 rw [rounds_succ]
 go_wp2
 rw [rounds_succ]
 go_wp2
 rw [rounds_succ]
 go_wp2
 rw [HW1.out]
 clear HW1 z32
 obtain ⟨bb, hbb⟩ : ∃ bb, (fun j => w.heap.size + 3 + j) = bb := ⟨_, rfl⟩
 rw [hbb] at HFL
 have HBB := hide hbb
 clear hbb
 go_loopw [14] (fun i wr => ∃ (k : Nat), k ≤ 6 ∧ i = .int .i64 k ∧ MFl w wr (w.heap.size + 1) w.heap.size bb (fun _ => .slice none 0 0) (fun _ => []) (Fl.gift cash stock k) (Fl.bands ref) wd h ∧ wr.heap[w.heap.size + 1 + 1]? = some (.cells #[.int .i64 stock, .int .i64 stock, .int .i64 stock] 41 (0, 0))) (fun i _ => 6 - (intOf i).toNat)
 case atStart => exact ⟨0, by omega, rfl, HFL.out, HALL.out⟩
 case round =>
  obtain ⟨k, hk, rfl, hf, ha⟩ := hrel
  have HF := hide hf; have HA := hide ha
  clear hf ha HFL HALL
  by_cases hlt : k < 6
  ·have hki : (k : Int) < 6 := by omega
   have fp := HF.out.cellP
   have a0 : wr.cell? ⟨w.heap.size + 1 + 1, 0, none⟩ = some (.int .i64 stock) := cof HA.out rfl
   have a1 : wr.cell? ⟨w.heap.size + 1 + 1, 1, none⟩ = some (.int .i64 stock) := cof HA.out rfl
   have a2 : wr.cell? ⟨w.heap.size + 1 + 1, 2, none⟩ = some (.int .i64 stock) := cof HA.out rfl
   go_wp2_with fail
   refine region_quiet_tail 7 (by kernel_rfl) (by kernel_rfl) ?_
   simp only [List.take_succ_cons, List.take_zero, List.drop_succ_cons, List.drop_zero]
   repeat (first | go_big_quiet_step (fail) | quiet_step (fail))
   refine wpQuiet_nil ?_
   intro _ hw'
   obtain ⟨nq, hw''⟩ := hw'
   subst hw''
   have HA2 : Hid ((wr.drewN nq).heap[w.heap.size + 1 + 1]? = some (.cells #[.int .i64 stock, .int .i64 stock, .int .i64 stock] 41 (0, 0))) := HA.out
   have HF2 := hide (HF.out.later (blw_drew nq))
   clear fp a0 a1 a2 HA HF
   generalize wr.drewN nq = w2 at *
   have HG := hide (mgive_any w.heap.size ⟨k, cash, stock, stock, stock⟩ (Fl.gift cash stock k) w2 HF2.out.pu (Fl.good_gift cash stock k))
   unfold giftV at HG
   simp only [] at HG
   go_wp2_with fail
   refine HG.out.mono ?_
   rintro e w3 ⟨rfl, hp, hs⟩
   have HF3 : Hid (MFl w w3 (w.heap.size + 1) w.heap.size bb (fun _ => .slice none 0 0) (fun _ => []) (Fl.gift cash stock (k + 1)) (Fl.bands ref) wd h) := HF2.out.purse hp hs
   have HA3 : Hid (w3.heap[w.heap.size + 1 + 1]? = some (.cells #[.int .i64 stock, .int .i64 stock, .int .i64 stock] 41 (0, 0))) := by
    show _ = _
    rw [hs.block _ (lt_of_block HA2.out) (by omega)]; exact HA2.out
   clear hp hs HG HA2 HF2
   simp only []
   go_wp2
   exact ⟨⟨k + 1, by omega, by go_num, HF3.out, HA3.out⟩, by simp [intOf]; omega⟩
  ·have hki : ¬ (k : Int) < 6 := by omega
   obtain rfl : k = 6 := by omega
   go_wp2
   go_ret
   exact ⟨rfl, by rw [HBB.out]; exact HF.out⟩
end Go.Proofs.YtdggddjgipgllaaGreatDoor
