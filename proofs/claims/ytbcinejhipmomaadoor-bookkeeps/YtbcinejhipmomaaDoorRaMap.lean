/- Levels in a map by price: what a map of levels holds, how a level is looked up, how one is written. -/
import Derived.Test.YtbcinejhipmomaaDoorRaNums
import Derived.Maps.OwnOps
import Derived.Maps.AppendAt
import Derived.Maps.Views
namespace Go.Proofs.YtbcinejhipmomaaDoor
open Go.RowKit Go.Maps
set_option maxRecDepth 100000

/-- a level's value reads as itself -/
def RV (v : Value) : Option (DataW Value × List MemPlace) := some (.held v, [])
def lvV (g : Value) (q : Int) : Value := .agg #[g, .int .i64 q]
def zl : Value := lvV (.slice none 0 0) 0
theorem lvV_inj {g g' : Value} {q q' : Int} (h : lvV g q = lvV g' q') : g = g' ∧ q = q' := by
  simpa [lvV] using h
theorem keyed3 : Keyed Tryd.prog 3 := int_keyed Tryd.underlying3
theorem zero62 (w : World) : (zeroValue 100).run Tryd.prog w = .ok zl w := by kernel_rfl
theorem key3 {p : Int} (h1 : -9223372036854775808 ≤ p) (h2 : p ≤ 9223372036854775807) : keyOf Tryd.prog 3 (.int .i64 p) = some (.int .i64 p) := keyOf_int_mk Tryd.underlying3 (WalkArith.wf_i64 (by omega))

structure Lvls (w : World) (base b n : Nat) (f : Int → List Cv.Lot) (D : DataW Value) (g : Int → Value) : Prop where
  own : w.ownsMap Tryd.prog 3 RV b n D
  at_ : ∀ p, D.atKey (.int .i64 p) (.held zl) = .held (lvV (g p) (Ra.tot (f p)))
  has_ : ∀ p, Maps.has D (.int .i64 p) = !(f p).isEmpty
  row : ∀ p, w.ownsRow base 43 5 (g p) (f p).length (flat (f p))
  apart : ∀ p q r, p ≠ q → (g p).ownBlock = some r → (g q).ownBlock ≠ some r

theorem Lvls.notMap {w : World} {base b n : Nat} {f : Int → List Cv.Lot} {D : DataW Value} {g : Int → Value} (h : Lvls w base b n f D g) (p : Int) : (g p).ownBlock ≠ some b := by
  intro e
  obtain ⟨es, clock, hb, _⟩ := h.own
  rcases (h.row p).2 with ⟨e1, _⟩ | ⟨r, cap, cur, e1, _, hr, _⟩
  · rw [e1] at e; cases e
  · rw [e1] at e
    have : r = b := by simpa [Value.ownBlock] using e
    rw [this, hb] at hr
    cases hr
theorem Lvls.kept {w w' : World} {base b n : Nat} {f : Int → List Cv.Lot} {D : DataW Value} {g : Int → Value} {row : Option Nat} (h : Lvls w base b n f D g) (hg : w.grownBy w' row) (hb : some b ≠ row) (hr : ∀ p, (g p).ownBlock = none ∨ (g p).ownBlock ≠ row) : Lvls w' base b n f D g :=
  ⟨h.own.kept hg hb, h.at_, h.has_, fun p => (h.row p).kept hg (hr p), h.apart⟩
theorem Lvls.alloc {w : World} {base b n : Nat} {f : Int → List Cv.Lot} {D : DataW Value} {g : Int → Value} (h : Lvls w base b n f D g) (o : Obj) : Lvls (w.alloc o) base b n f D g :=
  ⟨h.own.alloc o, h.at_, h.has_, fun p => (h.row p).alloc o, h.apart⟩
theorem Lvls.drew {w : World} {base b n : Nat} {f : Int → List Cv.Lot} {D : DataW Value} {g : Int → Value} (h : Lvls w base b n f D g) : Lvls w.drew base b n f D g :=
  ⟨h.own.drew, h.at_, h.has_, fun p => (h.row p).drew, h.apart⟩
theorem Lvls.later {w w' : World} {base b n : Nat} {f : Int → List Cv.Lot} {D : DataW Value} {g : Int → Value} (h : Lvls w base b n f D g) (hb : Below w.heap.size w w') : Lvls w' base b n f D g :=
  h.kept (row := none) ⟨hb.os, hb.tape, hb.output, hb.size, fun i hi _ => hb.block i hi⟩ (by simp) (fun p => by
    cases e : (g p).ownBlock with
    | none => exact .inl rfl
    | some r => exact .inr (by simp))

theorem Lvls.look {w : World} {base b n : Nat} {f : Int → List Cv.Lot} {D : DataW Value} {g : Int → Value} (h : Lvls w base b n f D g) {p : Int} (h1 : -9223372036854775808 ≤ p) (h2 : p ≤ 9223372036854775807) :
    (Instr.lookup 82 (.map (some b)) (.int .i64 p) false).run Tryd.prog w = .ok (lvV (g p) (Ra.tot (f p))) w := by
  obtain ⟨v, ps, hrun, hv⟩ := h.own.lookup keyed3 Tryd.underlying82 (zero62 w) (zd := .held zl) (zp := []) rfl (key3 h1 h2)
  rw [h.at_] at hv
  have : v = lvV (g p) (Ra.tot (f p)) := (by simpa [RV] using hv : _ ∧ ps = []).1
  rw [hrun, this]

/-- a level that grows by one lot -/
def grow (f : Int → List Cv.Lot) (p : Int) (x : Cv.Lot) : Int → List Cv.Lot := fun q => if q = p then f p ++ [x] else f q
theorem Lvls.store {w w3 : World} {base b n : Nat} {f : Int → List Cv.Lot} {D : DataW Value} {g : Int → Value} (h : Lvls w base b n f D g) {p : Int} (x : Cv.Lot) (h1 : -9223372036854775808 ≤ p) (h2 : p ≤ 9223372036854775807) (hn : n < maxLen) {v3 : Value}
    (hrow : w3.ownsRow base 43 5 v3 ((f p).length + 1) (flat (f p) ++ lotCells x)) (hg : w.grownBy w3 (g p).ownBlock) (hloc : v3.ownBlock = (g p).ownBlock ∨ v3.ownBlock = some w.heap.size) :
    ∃ w4 D' g', (Instr.mapUpdate 82 (.map (some b)) (.int .i64 p) (lvV v3 (Ra.tot (f p) + x.q))).run Tryd.prog w3 = .ok () w4 ∧ Lvls w4 base b (n + 1) (grow f p x) D' g' ∧ w3.grownBy w4 (some b) := by
  have hown3 : w3.ownsMap Tryd.prog 3 RV b n D := h.own.kept hg (fun e => h.notMap p e.symm)
  obtain ⟨w4, hrun, hown4, hg4⟩ := hown3.update keyed3 Tryd.underlying82 hn (key3 h1 h2) (val := lvV v3 (Ra.tot (f p) + x.q)) (d := .held (lvV v3 (Ra.tot (f p) + x.q))) (ps := []) rfl
  have hne : ∀ q : Int, q ≠ p → (Lit.int .i64 q) ≠ (Lit.int .i64 p) := fun q hq e => hq (by simpa using e)
  have hD : IsMap D := by obtain ⟨es, clock, _, _, _, e⟩ := h.own; exact ⟨_, e⟩
  refine ⟨w4, _, fun q => if q = p then v3 else g q, hrun, ⟨hown4, fun q => ?_, fun q => ?_, fun q => ?_, fun q r k hqr hq => ?_⟩, hg4⟩
  · by_cases hq : q = p
    · subst hq
      rw [atKey_put_same hD (by trivial)]
      simp [grow, Ra.tot_append, Ra.tot]
    · rw [atKey_put_other (hne q hq), h.at_]
      simp [grow, hq]
  · by_cases hq : q = p
    · subst hq
      rw [has_put_same hD (by trivial)]
      simp [grow]
    · rw [has_put_other (hne q hq), h.has_]
      simp [grow, hq]
  · have hfl : flat (f p ++ [x]) = flat (f p) ++ lotCells x := by simp [flat]
    have h4 : ∀ {v : Value} {m : Nat} {xs : List Value}, w3.ownsRow base 43 5 v m xs → w4.ownsRow base 43 5 v m xs := fun {v m xs} hv => hv.kept hg4 (by
      cases e : v.ownBlock with
      | none => exact .inl rfl
      | some r =>
        refine .inr fun e2 => ?_
        have hrb : r = b := by simpa using e2
        obtain ⟨es, clock, hb, _⟩ := hown3
        rcases hv.2 with ⟨e1, _⟩ | ⟨r', cap, cur, e1, _, hr, _⟩
        · rw [e1] at e; cases e
        · rw [e1] at e
          have : r' = r := by simpa [Value.ownBlock] using e
          rw [this, hrb, hb] at hr
          cases hr)
    by_cases hq : q = p
    · subst hq
      simp only [grow, if_true]
      rw [hfl, List.length_append]
      exact h4 hrow
    · simp only [grow, hq, if_false]
      refine h4 ((h.row q).kept hg ?_)
      cases e : (g q).ownBlock with
      | none => exact .inl rfl
      | some r => exact .inr fun e2 => h.apart p q r (Ne.symm hq) e2.symm e
  · have hlt : ∀ (q : Int) k, (g q).ownBlock = some k → k < w.heap.size := fun q k hk => ((h.row q).lt k hk).2
    by_cases hqp : q = p
    · have hrp : r ≠ p := fun e => hqr (hqp.trans e.symm)
      simp only [hqp, if_true] at hq
      simp only [hrp, if_false]
      intro e
      rcases hloc with hl | hl
      · exact h.apart p r k (fun e => hrp e.symm) (hl ▸ hq) e
      · rw [hl] at hq
        have := hlt r k e
        have : w.heap.size = k := by simpa using hq
        omega
    · simp only [hqp, if_false] at hq
      by_cases hrp : r = p
      · simp only [hrp, if_true]
        intro e
        rcases hloc with hl | hl
        · exact h.apart q p k hqp hq (hl ▸ e)
        · rw [hl] at e
          have := hlt q k hq
          have : w.heap.size = k := by simpa using e
          omega
      · simp only [hrp, if_false]
        exact h.apart q r k hqr hq
end Go.Proofs.YtbcinejhipmomaaDoor
