/- A floor of package batch in memory: three items with their books and bands, a purse; what an act may turn. -/
import Derived.Test.YtdggddjgipgllaaGreatDoorU11
import Derived.Test.YtdggddjgipgllaaGreatDoorU13
import Derived.Test.YtdggddjgipgllaaGreatDoorU05
import Derived.Test.YtdggddjgipgllaaGreatDoorU14
import Derived.Test.YtdggddjgipgllaaGreatDoorU04
import Derived.BigRegion
import Derived.BigQuiet
namespace Go.Proofs.YtdggddjgipgllaaGreatDoor
open Go.RowKit
set_option maxRecDepth 100000

def askA (a : Ask) : Array Value := #[.int .u8 a.k, .int .i64 a.c, .int .i64 a.sq, .int .i64 a.it, .int .i64 a.sd, .int .i64 a.pr, .int .i64 a.q, .int .i64 a.id]
def askV (a : Ask) : Value := .agg (askA a)

/-- what the errors' variables hold, by our numbers -/
structure AEr (w : World) (ev : Nat → Value) : Prop where
  c1 : w.cell? ⟨0, 0, none⟩ = some (.iface 252 (ev 1))
  c2 : w.cell? ⟨7, 0, none⟩ = some (.iface 252 (ev 2))
  c3 : w.cell? ⟨3, 0, none⟩ = some (.iface 252 (ev 3))
  c5 : w.cell? ⟨1, 0, none⟩ = some (.iface 252 (ev 5))
  c6 : w.cell? ⟨4, 0, none⟩ = some (.iface 252 (ev 6))
  c7 : w.cell? ⟨2, 0, none⟩ = some (.iface 252 (ev 7))
  c9 : w.cell? ⟨5, 0, none⟩ = some (.iface 252 (ev 9))
  c11 : w.cell? ⟨11, 0, none⟩ = some (.iface 252 (ev 11))
section
variable {w w' : World} {ev : Nat → Value}
theorem AEr.below (h : AEr w ev) (hb : Below w.heap.size w w') : AEr w' ev := ⟨cell_later hb h.c1, cell_later hb h.c2, cell_later hb h.c3, cell_later hb h.c5, cell_later hb h.c6, cell_later hb h.c7, cell_later hb h.c9, cell_later hb h.c11⟩
theorem AEr.er (h : AEr w ev) : Er w 252 (ev 1) (ev 6) (ev 7) := ⟨h.c1, h.c6, h.c7⟩
theorem AEr.er4 (h : AEr w ev) : Er4 w 252 (ev 1) (ev 5) (ev 6) (ev 7) := ⟨h.er, h.c5⟩
theorem AEr.per (h : AEr w ev) : PEr w ev := ⟨h.er, h.c9⟩
theorem AEr.ter (h : AEr w ev) : TEr w ev := ⟨h.per, h.c2, h.c11⟩
theorem AEr.ber (h : AEr w ev) : BEr w 252 (ev 1) := ⟨h.c1⟩
end

def pfloorA (I : Nat → Nat) (P : Nat) (wd h : Int) : Array Value :=
  #[.int .i64 wd, .int .i64 h, .pointer (some ⟨I 0, 0, none⟩), .pointer (some ⟨I 1, 0, none⟩), .pointer (some ⟨I 2, 0, none⟩), .pointer (some ⟨P, 0, none⟩)]
def itemA (b : Nat) (r l : Int) : Array Value := #[.pointer (some ⟨b, 0, none⟩), .int .i64 r, .int .i64 l]

structure PFl (w W : World) (F P : Nat) (I b : Nat → Nat) (v : Nat → Value) (L : Nat → List Cv.Lot) (pf n : Nat → Int) (wd h : Int) : Prop where
  blk : W.heap[F]? = some (.cells (pfloorA I P wd h) 91 (0, 0))
  it : ∀ i, i < 3 → W.heap[I i]? = some (.cells (itemA (b i) (n (i * 2)) (n (i * 2 + 1))) 94 (0, 0))
  bk : ∀ i, i < 3 → Book W w.heap.size (b i) (v i) (L i)
  neI : ∀ i j, i < 3 → j < 3 → i ≠ j → I i ≠ I j
  ne : ∀ i j, i < 3 → j < 3 → i ≠ j → b i ≠ b j
  ap : ∀ i j, i < 3 → j < 3 → i ≠ j → ∀ k, (v i).ownBlock = some k → (v j).ownBlock ≠ some k
  pu : Purse W 105 P pf
  lo : w.heap.size ≤ F
  lop : w.heap.size ≤ P
  loI : ∀ i, i < 3 → w.heap.size ≤ I i
  bl : Below w.heap.size w W

/-- what an act on a floor may turn: its purse, its items, its books and their rows -/
structure FStep (W W' : World) (P : Nat) (I b : Nat → Nat) (v v' : Nat → Value) : Prop where
  os : W'.os = W.os
  tape : W'.tape = W.tape
  output : W'.output = W.output
  size : W.heap.size ≤ W'.heap.size
  keep : ∀ k, k < W.heap.size → k ≠ P → (∀ i, i < 3 → k ≠ I i ∧ k ≠ b i ∧ (v i).ownBlock ≠ some k) → W'.heap[k]? = W.heap[k]?
  new : ∀ i, i < 3 → ∀ k, (v' i).ownBlock = some k → (v i).ownBlock = some k ∨ W.heap.size ≤ k
section
variable {W W' W1 W2 : World} {P : Nat} {I b : Nat → Nat} {v v' v1 v2 : Nat → Value}
theorem FStep.refl (W : World) (P : Nat) (I b : Nat → Nat) (v : Nat → Value) : FStep W W P I b v v := ⟨rfl, rfl, rfl, Nat.le_refl _, fun _ _ _ _ => rfl, fun _ _ _ h => .inl h⟩
theorem FStep.trans (h : FStep W W1 P I b v v1) (h1 : FStep W1 W2 P I b v1 v2) : FStep W W2 P I b v v2 :=
  ⟨h1.os.trans h.os, h1.tape.trans h.tape, h1.output.trans h.output, Nat.le_trans h.size h1.size,
   fun k hk hP hi => by
    rw [h1.keep k (Nat.lt_of_lt_of_le hk h.size) hP fun i hi3 => ⟨(hi i hi3).1, (hi i hi3).2.1, fun e => ?_⟩]
    · exact h.keep k hk hP hi
    · rcases h.new i hi3 k e with h2 | h2
      · exact (hi i hi3).2.2 h2
      · omega,
   fun i hi k e => by
    rcases h1.new i hi k e with h2 | h2
    · exact h.new i hi k h2
    · exact .inr (Nat.le_trans h.size h2)⟩
theorem FStep.of_below (hb : Below W.heap.size W W') (P : Nat) (I b : Nat → Nat) (v : Nat → Value) : FStep W W' P I b v v := ⟨hb.os, hb.tape, hb.output, hb.size, fun k hk _ _ => hb.block k hk, fun _ _ _ h => .inl h⟩
theorem FStep.below (h : FStep W W1 P I b v v1) (hb : Below W1.heap.size W1 W2) : FStep W W2 P I b v v1 := h.trans (FStep.of_below hb P I b v1)
theorem FStep.of_book {i : Nat} (hi : i < 3) {x : Value} (hs : Step W W' (b i) (v i) x) (P : Nat) (I : Nat → Nat) : FStep W W' P I b v (upd v i x) :=
  ⟨hs.only.os, hs.only.tape, hs.only.output, hs.only.size,
   fun k hk _ hk2 => hs.only.block k hk (fun e => (hk2 i hi).2.1 (by simpa using e)) (fun e => (hk2 i hi).2.2 e.symm),
   fun j hj k e => by
    by_cases hji : j = i
    · subst hji; rw [upd_same] at e; exact hs.new k e
    · rw [upd_ne _ _ hji] at e; exact .inl e⟩
theorem FStep.of_purse (hs : Save W W' P) (I b : Nat → Nat) (v : Nat → Value) : FStep W W' P I b v v := ⟨hs.os, hs.tape, hs.output, hs.size, fun k hk hP _ => hs.block k hk hP, fun _ _ _ h => .inl h⟩
theorem FStep.of_item {i : Nat} (hi : i < 3) (hs : Save W W' (I i)) (P : Nat) (b : Nat → Nat) (v : Nat → Value) : FStep W W' P I b v v := ⟨hs.os, hs.tape, hs.output, hs.size, fun k hk _ h2 => hs.block k hk (h2 i hi).1, fun _ _ _ h => .inl h⟩
end

section
variable {w W W' : World} {F P : Nat} {I b : Nat → Nat} {v : Nat → Value} {L : Nat → List Cv.Lot} {pf n : Nat → Int} {wd h : Int}

theorem rowT {W : World} {base : Nat} {v : Value} {n : Nat} {xs : List Value} {q : Nat} {a : Array Value} {T : TypeId} {fz : Nat × Nat} (h : W.ownsRow base 56 5 v n xs) (hq : W.heap[q]? = some (.cells a T fz)) (hT : T ≠ 56) : v.ownBlock ≠ some q := by
  intro e
  rcases h.2 with ⟨e1, _⟩ | ⟨r, cap, cur, e1, _, hr, _⟩
  · rw [e1] at e; cases e
  · rw [e1] at e
    have : r = q := by simpa [Value.ownBlock] using e
    rw [this, hq] at hr
    simp only [Option.some.injEq, Obj.cells.injEq] at hr
    exact hT hr.2.1
theorem blkT {W : World} {p q : Nat} {a c : Array Value} {T U : TypeId} {fz fy : Nat × Nat} (hp : W.heap[p]? = some (.cells a T fz)) (hq : W.heap[q]? = some (.cells c U fy)) (hT : T ≠ U) : p ≠ q := by
  intro e
  rw [e, hq] at hp
  simp only [Option.some.injEq, Obj.cells.injEq] at hp
  exact hT hp.2.1.symm
theorem PFl.later (hf : PFl w W F P I b v L pf n wd h) (hb : Below W.heap.size W W') : PFl w W' F P I b v L pf n wd h :=
  ⟨by rw [hb.block F (lt_of_block hf.blk)]; exact hf.blk, fun i hi => by rw [hb.block _ (lt_of_block (hf.it i hi))]; exact hf.it i hi, fun i hi => (hf.bk i hi).later hb, hf.neI, hf.ne, hf.ap, hf.pu.lat hb, hf.lo, hf.lop, hf.loI, hf.bl.trans (hb.mono hf.bl.size)⟩
theorem PFl.cellI (hf : PFl w W F P I b v L pf n wd h) {i : Nat} (hi : i < 3) : W.cell? ⟨F, 2 + i, none⟩ = some (.pointer (some ⟨I i, 0, none⟩)) := by
  rw [cell_of_row W F (2 + i) _ _ _ hf.blk]
  have : i = 0 ∨ i = 1 ∨ i = 2 := by omega
  rcases this with rfl | rfl | rfl <;> rfl
theorem PFl.cellP (hf : PFl w W F P I b v L pf n wd h) : W.cell? ⟨F, 5, none⟩ = some (.pointer (some ⟨P, 0, none⟩)) := by
  rw [cell_of_row W F 5 _ _ _ hf.blk]; rfl
theorem PFl.cell0 (hf : PFl w W F P I b v L pf n wd h) : W.cell? ⟨F, 0, none⟩ = some (.int .i64 wd) := by
  rw [cell_of_row W F 0 _ _ _ hf.blk]; rfl
theorem PFl.cell1 (hf : PFl w W F P I b v L pf n wd h) : W.cell? ⟨F, 1, none⟩ = some (.int .i64 h) := by
  rw [cell_of_row W F 1 _ _ _ hf.blk]; rfl
theorem PFl.cellB (hf : PFl w W F P I b v L pf n wd h) {i : Nat} (hi : i < 3) : W.cell? ⟨I i, 0, none⟩ = some (.pointer (some ⟨b i, 0, none⟩)) := by
  rw [cell_of_row W (I i) 0 _ _ _ (hf.it i hi)]; rfl
theorem PFl.cellR (hf : PFl w W F P I b v L pf n wd h) {i : Nat} (hi : i < 3) : W.cell? ⟨I i, 1, none⟩ = some (.int .i64 (n (i * 2))) := by
  rw [cell_of_row W (I i) 1 _ _ _ (hf.it i hi)]; rfl
theorem PFl.cellL (hf : PFl w W F P I b v L pf n wd h) {i : Nat} (hi : i < 3) : W.cell? ⟨I i, 2, none⟩ = some (.int .i64 (n (i * 2 + 1))) := by
  rw [cell_of_row W (I i) 2 _ _ _ (hf.it i hi)]; rfl
theorem PFl.lt (hf : PFl w W F P I b v L pf n wd h) : F < W.heap.size := lt_of_block hf.blk
theorem PFl.er (hf : PFl w W F P I b v L pf n wd h) {ev : Nat → Value} (he : AEr w ev) : AEr W ev := he.below hf.bl
/-- an act on one book -/
theorem PFl.book (hf : PFl w W F P I b v L pf n wd h) {i : Nat} (hi : i < 3) {v' : Value} {L' : List Cv.Lot} (hb : Book W' w.heap.size (b i) v' L') (hs : Step W W' (b i) (v i) v') : PFl w W' F P I b (upd v i v') (upd L i L') pf n wd h := by
  have hbi := hf.bk i hi
  have other : ∀ {q : Nat} {a : Array Value} {T : TypeId}, W.heap[q]? = some (.cells a T (0, 0)) → T ≠ 56 → T ≠ 103 → W'.heap[q]? = some (.cells a T (0, 0)) := fun {q a T} hq h1 h2 => by
    rw [hs.only.block q (lt_of_block hq) (fun e => ?_) (fun e => rowT hbi.row hq h1 e.symm)]
    · exact hq
    · have : q = b i := by simpa using e
      exact blkT hq hbi.cell h2 this
  refine ⟨other hf.blk (by decide) (by decide), fun j hj => other (hf.it j hj) (by decide) (by decide), fun j hj => ?_, hf.neI, hf.ne, fun j k hj hk hjk m hm => ?_, other hf.pu (by decide) (by decide), hf.lo, hf.lop, hf.loI, hf.bl.trans (hs.below hbi _ (Nat.le_refl _))⟩
  · by_cases hji : j = i
    · subst hji; rw [upd_same, upd_same]; exact hb
    · rw [upd_ne _ _ hji, upd_ne _ _ hji]
      refine (hf.bk j hj).only hs.only (by simp; exact hf.ne j i hj hi hji) (fun e => rowT hbi.row (hf.bk j hj).cell (by decide) e.symm) (fun k hk e => ?_) (fun k hk e => hf.ap j i hj hi hji k hk e.symm)
      have : k = b i := by simpa using e
      subst this
      exact rowT (hf.bk j hj).row hbi.cell (by decide) hk
  · by_cases hji : j = i
    · subst hji
      rw [upd_same] at hm
      rw [upd_ne _ _ (Ne.symm hjk)]
      rcases hs.new m hm with h1 | h1
      · exact hf.ap j k hj hk hjk m h1
      · intro e
        have := ((hf.bk k hk).rowLt m e).2
        omega
    · rw [upd_ne _ _ hji] at hm
      by_cases hki : k = i
      · subst hki
        rw [upd_same]
        intro e
        rcases hs.new m e with h1 | h1
        · exact hf.ap j k hj hk hjk m hm h1
        · have := ((hf.bk j hj).rowLt m hm).2
          omega
      · rw [upd_ne _ _ hki]; exact hf.ap j k hj hk hjk m hm
theorem Save.to_only {W W' : World} {q : Nat} (hs : Save W W' q) : Only W W' (some q) none := ⟨hs.os, hs.tape, hs.output, hs.size, fun k hk h1 _ => hs.block k hk (fun e => h1 (by rw [e]))⟩
/-- an act on the purse -/
theorem PFl.purse (hf : PFl w W F P I b v L pf n wd h) {f' : Nat → Int} (hp : Purse W' 105 P f') (hs : Save W W' P) : PFl w W' F P I b v L f' n wd h := by
  refine ⟨by rw [hs.block F (lt_of_block hf.blk) (blkT hf.blk hf.pu (by decide))]; exact hf.blk, fun i hi => by rw [hs.block _ (lt_of_block (hf.it i hi)) (blkT (hf.it i hi) hf.pu (by decide))]; exact hf.it i hi, fun i hi => ?_, hf.neI, hf.ne, hf.ap, hp, hf.lo, hf.lop, hf.loI, hf.bl.trans (hs.below hf.bl.size hf.lop)⟩
  exact (hf.bk i hi).only hs.to_only (by simp; exact blkT (hf.bk i hi).cell hf.pu (by decide)) (by simp) (fun k hk e => by
    have : k = P := by simpa using e
    subst this
    exact rowT (hf.bk i hi).row hf.pu (by decide) hk) (fun _ _ => by simp)
/-- an item's band -/
theorem PFl.band (hf : PFl w W F P I b v L pf n wd h) {i : Nat} (hi : i < 3) {r l : Int} (hit : W'.heap[I i]? = some (.cells (itemA (b i) r l) 94 (0, 0))) (hs : Save W W' (I i)) : PFl w W' F P I b v L pf (upd (upd n (i * 2) r) (i * 2 + 1) l) wd h := by
  refine ⟨by rw [hs.block F (lt_of_block hf.blk) (blkT hf.blk (hf.it i hi) (by decide))]; exact hf.blk, fun j hj => ?_, fun j hj => ?_, hf.neI, hf.ne, hf.ap, hf.pu.save hs (blkT hf.pu (hf.it i hi) (by decide)), hf.lo, hf.lop, hf.loI, hf.bl.trans (hs.below hf.bl.size (hf.loI i hi))⟩
  · by_cases e : j = i
    · subst e
      rw [upd_same, upd_ne _ _ (by omega), upd_same]; exact hit
    · rw [upd_ne _ _ (by omega), upd_ne _ _ (by omega), upd_ne _ _ (by omega), upd_ne _ _ (by omega), hs.block _ (lt_of_block (hf.it j hj)) (hf.neI j i hj hi e)]
      exact hf.it j hj
  · exact (hf.bk j hj).only hs.to_only (by simp; exact blkT (hf.bk j hj).cell (hf.it i hi) (by decide)) (by simp) (fun k hk e => by
      have : k = I i := by simpa using e
      subst this
      exact rowT (hf.bk j hj).row (hf.it i hi) (by decide) hk) (fun _ _ => by simp)
/-- a block beside the floor turns -/
theorem PFl.aside (hf : PFl w W F P I b v L pf n wd h) {q : Nat} (h1 : q ≠ F) (h2 : q ≠ P) (h3 : ∀ i, i < 3 → q ≠ I i ∧ q ≠ b i ∧ (v i).ownBlock ≠ some q) (hlo : w.heap.size ≤ q) (hs : Save W W' q) : PFl w W' F P I b v L pf n wd h := by
  refine ⟨by rw [hs.block F (lt_of_block hf.blk) (Ne.symm h1)]; exact hf.blk, fun i hi => by rw [hs.block _ (lt_of_block (hf.it i hi)) (Ne.symm (h3 i hi).1)]; exact hf.it i hi, fun i hi => ?_, hf.neI, hf.ne, hf.ap, hf.pu.save hs (Ne.symm h2), hf.lo, hf.lop, hf.loI, hf.bl.trans (hs.below hf.bl.size hlo)⟩
  exact (hf.bk i hi).only hs.to_only (by simp; exact Ne.symm (h3 i hi).2.1) (by simp) (fun k hk e => by
    have : k = q := by simpa using e
    subst this
    exact (h3 i hi).2.2 hk) (fun _ _ => by simp)
end
end Go.Proofs.YtdggddjgipgllaaGreatDoor
/- Acts on a floor as they come in. -/
namespace Go.Proofs.YtdggddjgipgllaaGreatDoor
open Go.RowKit
set_option maxRecDepth 100000
structure DAct where
  kind : ByteArray
  a : Ask
  c : Int
  it : Int
  s : Int
def dz : DAct := ⟨ByteArray.empty, ⟨0, 0, 0, 0, 0, 0, 0, 0⟩, 0, 0, 0⟩
def dnth (l : List DAct) (i : Nat) : DAct := l.getD i dz
def doCells (x : DAct) : List Value := [.string x.kind, .int .u8 x.a.k, .int .i64 x.a.c, .int .i64 x.a.sq, .int .i64 x.a.it, .int .i64 x.a.sd, .int .i64 x.a.pr, .int .i64 x.a.q, .int .i64 x.a.id, .int .i64 x.c, .int .i64 x.it, .int .u32 x.s]
/-- the cells of a slice of acts that came in -/
def DosAt (w : World) (g : Addr) (l : List DAct) : Prop := ∀ i, i < l.length → w.cell? (g.add (i * 12)) = some (.string (dnth l i).kind) ∧ w.cell? ⟨(g.add (i * 12)).block, (g.add (i * 12)).off + 1, none⟩ = some (.int .u8 (dnth l i).a.k) ∧ w.cell? ⟨(g.add (i * 12)).block, (g.add (i * 12)).off + 2, none⟩ = some (.int .i64 (dnth l i).a.c) ∧ w.cell? ⟨(g.add (i * 12)).block, (g.add (i * 12)).off + 3, none⟩ = some (.int .i64 (dnth l i).a.sq) ∧ w.cell? ⟨(g.add (i * 12)).block, (g.add (i * 12)).off + 4, none⟩ = some (.int .i64 (dnth l i).a.it) ∧ w.cell? ⟨(g.add (i * 12)).block, (g.add (i * 12)).off + 5, none⟩ = some (.int .i64 (dnth l i).a.sd) ∧ w.cell? ⟨(g.add (i * 12)).block, (g.add (i * 12)).off + 6, none⟩ = some (.int .i64 (dnth l i).a.pr) ∧ w.cell? ⟨(g.add (i * 12)).block, (g.add (i * 12)).off + 7, none⟩ = some (.int .i64 (dnth l i).a.q) ∧ w.cell? ⟨(g.add (i * 12)).block, (g.add (i * 12)).off + 8, none⟩ = some (.int .i64 (dnth l i).a.id) ∧ w.cell? ⟨(g.add (i * 12)).block, (g.add (i * 12)).off + 9, none⟩ = some (.int .i64 (dnth l i).c) ∧ w.cell? ⟨(g.add (i * 12)).block, (g.add (i * 12)).off + 10, none⟩ = some (.int .i64 (dnth l i).it) ∧ w.cell? ⟨(g.add (i * 12)).block, (g.add (i * 12)).off + 11, none⟩ = some (.int .u32 (dnth l i).s)
theorem DosAt.later {w w' : World} {g : Addr} {l : List DAct} (h : DosAt w g l) (hb : Below w.heap.size w w') : DosAt w' g l :=
  fun i hi => ⟨cell_later hb (h i hi).1, cell_later hb (h i hi).2.1, cell_later hb (h i hi).2.2.1, cell_later hb (h i hi).2.2.2.1, cell_later hb (h i hi).2.2.2.2.1, cell_later hb (h i hi).2.2.2.2.2.1, cell_later hb (h i hi).2.2.2.2.2.2.1, cell_later hb (h i hi).2.2.2.2.2.2.2.1, cell_later hb (h i hi).2.2.2.2.2.2.2.2.1, cell_later hb (h i hi).2.2.2.2.2.2.2.2.2.1, cell_later hb (h i hi).2.2.2.2.2.2.2.2.2.2.1, cell_later hb (h i hi).2.2.2.2.2.2.2.2.2.2.2⟩
/-- a slice of acts that came in -/
def ArgDos (w : World) (a : Option Addr) (n : Nat) (l : List DAct) : Prop := l.length = n ∧ (n = 0 ∨ ∃ g, a = some g ∧ DosAt w g l) ∧ ∀ i, i < n → Ra.IsU (dnth l i).s
end Go.Proofs.YtdggddjgipgllaaGreatDoor
/- A slice of lots of the call's own: what is left of it behind so much of the first; function without. -/
namespace Go.Proofs.YtdggddjgipgllaaGreatDoor
open Go.RowKit
set_option maxRecDepth 100000

/-- a slice of lots in one block -/
def OwnL (w : World) (g : Nat) (v : Value) (l : List Cv.Lot) : Prop :=
  (l = [] ∧ ∃ a cap, v = .slice a 0 cap) ∨ ∃ o cap cur, v = .slice (some ⟨g, o, none⟩) l.length cap ∧ l.length ≤ cap ∧ LotsAt w g o l ∧ w.heap[g]? = some (.cells cur 56 (0, 0))
theorem OwnL.save {w w' : World} {g p : Nat} {v : Value} {l : List Cv.Lot} (h : OwnL w g v l) (hs : Save w w' p) (hne : g ≠ p) : OwnL w' g v l := by
  rcases h with h | ⟨o, cap, cur, h1, h2, h3, h4⟩
  · exact .inl h
  · refine .inr ⟨o, cap, cur, h1, h2, fun i hi => ?_, by rw [hs.block g (lt_of_block h4) hne]; exact h4⟩
    obtain ⟨c0, c1, c2, c3, c4⟩ := h3 i hi
    exact ⟨cell_save hs c0 hne, cell_save hs c1 hne, cell_save hs c2 hne, cell_save hs c3 hne, cell_save hs c4 hne⟩
theorem OwnL.of_row {w : World} {base : Nat} {v : Value} {l : List Cv.Lot} (h : w.ownsRow base 56 5 v l.length (flat l)) : ∃ g, OwnL w g v l ∧ (l = [] ∨ (base ≤ g ∧ v.ownBlock = some g)) := by
  rcases h.2 with ⟨e, e2⟩ | ⟨g, cap, cur, e, hg, hgg, hle, _, _, _⟩
  · exact ⟨0, .inl ⟨List.eq_nil_of_length_eq_zero e2, none, 0, e⟩, .inl (List.eq_nil_of_length_eq_zero e2)⟩
  · refine ⟨g, .inr ⟨0, cap, cur, e, hle, lotsAt_of_flat fun j u hu => ?_, hgg⟩, .inr ⟨hg, by rw [e]; rfl⟩⟩
    have := World.ownsRow.cells h (g := g) (by rw [e]; rfl) j u hu
    have hp : (⟨g, 0, none⟩ : Addr).add j = ⟨g, j, none⟩ := by unfold Addr.add; split <;> simp_all
    rwa [hp] at this
theorem nth_cons_zero (x : Cv.Lot) (l : List Cv.Lot) : Cv.nth (x :: l) 0 = x := rfl
theorem nth_cons_succ (x : Cv.Lot) (l : List Cv.Lot) (i : Nat) : Cv.nth (x :: l) (i + 1) = Cv.nth l i := rfl
theorem OwnL.head {w : World} {g : Nat} {v : Value} {x : Cv.Lot} {l : List Cv.Lot} (h : OwnL w g v (x :: l)) : ∃ o cap cur, v = .slice (some ⟨g, o, none⟩) (l.length + 1) cap ∧ l.length + 1 ≤ cap ∧ LotsAt w g o (x :: l) ∧ w.heap[g]? = some (.cells cur 56 (0, 0)) := by
  rcases h with ⟨h, _⟩ | ⟨o, cap, cur, h1, h2, h3, h4⟩
  · cases h
  · exact ⟨o, cap, cur, h1, h2, h3, h4⟩
theorem lotsAt_head {w : World} {g o : Nat} {x : Cv.Lot} {l : List Cv.Lot} (h : LotsAt w g o (x :: l)) : w.cell? ⟨g, o, none⟩ = some (.int .i64 x.id) ∧ w.cell? ⟨g, o + 1, none⟩ = some (.int .i64 x.ow) ∧ w.cell? ⟨g, o + 2, none⟩ = some (.int .i64 x.sd) ∧ w.cell? ⟨g, o + 3, none⟩ = some (.int .i64 x.pr) ∧ w.cell? ⟨g, o + 4, none⟩ = some (.int .i64 x.q) := by
  have := h 0 (by simp)
  simpa [nth_cons_zero] using this
/-- the first lot's quantity is another one -/
theorem lotsAt_set {w : World} {g o : Nat} {x : Cv.Lot} {l : List Cv.Lot} {cur : Array Value} (h : LotsAt w g o (x :: l)) (hg : w.heap[g]? = some (.cells cur 56 (0, 0))) (q : Int) :
    LotsAt (w.setCell ⟨g, o + 4, none⟩ (.int .i64 (x.q - q))) g o (Bk.less x q :: l) ∧ LotsAt (w.setCell ⟨g, o + 4, none⟩ (.int .i64 (x.q - q))) g (o + 5) l ∧ ∃ cur', (w.setCell ⟨g, o + 4, none⟩ (.int .i64 (x.q - q))).heap[g]? = some (.cells cur' 56 (0, 0)) := by
  have he : ∀ j, j ≠ o + 4 → (w.setCell ⟨g, o + 4, none⟩ (.int .i64 (x.q - q))).cell? ⟨g, j, none⟩ = w.cell? ⟨g, j, none⟩ := fun j hj => by
    rw [setCell_eq_setRow w g (o + 4) _ _ _ _ hg, cell_of_row _ g j _ _ _ (setRow_heap w g _ _ _ _ hg), cell_of_row w g j _ _ _ hg, Array.getElem?_setIfInBounds_ne (by omega)]
  have hs : (w.setCell ⟨g, o + 4, none⟩ (.int .i64 (x.q - q))).cell? ⟨g, o + 4, none⟩ = some (.int .i64 (x.q - q)) := by
    have hc := (lotsAt_head h).2.2.2.2
    rw [cell_of_row w g (o + 4) _ _ _ hg] at hc
    have hlt : o + 4 < cur.size := by
      rcases Nat.lt_or_ge (o + 4) cur.size with h' | h'
      · exact h'
      · rw [Array.getElem?_eq_none h'] at hc; cases hc
    rw [setCell_eq_setRow w g (o + 4) _ _ _ _ hg, cell_of_row _ g (o + 4) _ _ _ (setRow_heap w g _ _ _ _ hg), Array.getElem?_setIfInBounds_self_of_lt hlt]
  have htail : ∀ i, i < l.length → w.cell? ⟨g, o + (i + 1) * 5, none⟩ = some (.int .i64 (Cv.nth l i).id) ∧ w.cell? ⟨g, o + (i + 1) * 5 + 1, none⟩ = some (.int .i64 (Cv.nth l i).ow) ∧ w.cell? ⟨g, o + (i + 1) * 5 + 2, none⟩ = some (.int .i64 (Cv.nth l i).sd) ∧ w.cell? ⟨g, o + (i + 1) * 5 + 3, none⟩ = some (.int .i64 (Cv.nth l i).pr) ∧ w.cell? ⟨g, o + (i + 1) * 5 + 4, none⟩ = some (.int .i64 (Cv.nth l i).q) := fun i hi => h (i + 1) (by simp; omega)
  refine ⟨fun i hi => ?_, fun i hi => ?_, ?_⟩
  · cases i with
    | zero =>
      obtain ⟨c0, c1, c2, c3, c4⟩ := lotsAt_head h
      rw [nth_cons_zero]
      refine ⟨?_, ?_, ?_, ?_, ?_⟩
      · rw [show o + 0 * 5 = o by omega, he _ (by omega)]; exact c0
      · rw [show o + 0 * 5 + 1 = o + 1 by omega, he _ (by omega)]; exact c1
      · rw [show o + 0 * 5 + 2 = o + 2 by omega, he _ (by omega)]; exact c2
      · rw [show o + 0 * 5 + 3 = o + 3 by omega, he _ (by omega)]; exact c3
      · rw [show o + 0 * 5 + 4 = o + 4 by omega]; exact hs
    | succ i =>
      obtain ⟨c0, c1, c2, c3, c4⟩ := htail i (by simp at hi; omega)
      rw [nth_cons_succ, he _ (by omega), he _ (by omega), he _ (by omega), he _ (by omega), he _ (by omega)]
      exact ⟨c0, c1, c2, c3, c4⟩
  · obtain ⟨c0, c1, c2, c3, c4⟩ := htail i hi
    rw [show o + 5 + i * 5 = o + (i + 1) * 5 by omega, he _ (by omega), he _ (by omega), he _ (by omega), he _ (by omega), he _ (by omega)]
    exact ⟨c0, c1, c2, c3, c4⟩
  · exact ⟨_, by rw [setCell_eq_setRow w g (o + 4) _ _ _ _ hg]; exact setRow_heap w g _ _ _ _ hg⟩

set_option maxHeartbeats 1000000 in
theorem without_any (g : Nat) (v : Value) (x : Cv.Lot) (l : List Cv.Lot) (q : Int) (w : World) (hv : Hid (OwnL w g v (x :: l))) (h1 : 1 ≤ x.q) (h2 : x.q ≤ 1000) (h3 : 1 ≤ q) (h4 : q ≤ 1000) (hn : l.length ≤ 1000) :
    Calls Tryz.prog 121 #[v, .int .i64 q] w fun e w' => ∃ v', e = .returned v' ∧ OwnL w' g v' (Fs.wo (x :: l) q) ∧ Save w w' g := by
  obtain ⟨o, cap, cur, rfl, hcap, hl, hg⟩ := hv.out.head
  have hc := (lotsAt_head hl).2.2.2.2
  obtain ⟨hL1, hL2, cur', hg'⟩ := lotsAt_set hl hg q
  have hfr : w.frozen? ⟨g, o + 4, none⟩ = false := by simp [World.frozen?, hg]
  have hc' : (w.setCell ⟨g, o + 4, none⟩ (.int .i64 (x.q - q))).cell? ⟨g, o + 4, none⟩ = some (.int .i64 (x.q - q)) := by
    have := (lotsAt_head hL1).2.2.2.2
    exact this
  have HSV : Hid (Save w (w.setCell ⟨g, o + 4, none⟩ (.int .i64 (x.q - q))) g) := Save.setCell _ _ _ _
  have HL1 := hide hL1; have HL2 := hide hL2; have HG := hide hg'
  clear hl hg hL1 hL2 hg' hv
  generalize hW : w.setCell ⟨g, o + 4, none⟩ (.int .i64 (x.q - q)) = W at *
  have HW := hide hW
  clear hW
  have hpos : (0 : Int) < ((l.length + 1 : Nat) : Int) := by omega
  generalize hm : l.length = m at *
  have Hm := hide hm
  clear hm
  by_cases he : x.q - q = 0
  · have HWO : Hid (Fs.wo (x :: l) q = l) := by show _ = _; rw [Fs.wo_cons, if_pos he]
    rw [he] at HW
    by_cases hcp : cap = 1
    · subst hcp
      have hm0 : m = 0 := by omega
      subst hm0
      go_enter Tryz.func121, Tryz.ntmps121
      go_wp2
      go_ret
      rw [HW.out]
      refine ⟨_, rfl, ?_, HSV.out⟩
      rw [HWO.out]
      exact .inl ⟨List.eq_nil_of_length_eq_zero Hm.out, _, _, rfl⟩
    · have h1m : (1 : Int) ≤ ((m + 1 : Nat) : Int) := by omega
      go_enter Tryz.func121, Tryz.ntmps121
      go_wp2
      go_ret
      rw [HW.out]
      refine ⟨_, rfl, ?_, HSV.out⟩
      rw [HWO.out]
      refine .inr ⟨o + 5, cap - 1, cur', ?_, by rw [Hm.out]; omega, HL2.out, HG.out⟩
      rw [Hm.out]
      rfl
  · have HWO : Hid (Fs.wo (x :: l) q = Bk.less x q :: l) := by show _ = _; rw [Fs.wo_cons, if_neg he]
    go_enter Tryz.func121, Tryz.ntmps121
    go_wp2
    go_ret
    rw [HW.out]
    refine ⟨_, rfl, ?_, HSV.out⟩
    rw [HWO.out]
    exact .inr ⟨o, cap, cur', by simp [Hm.out], by simp [Hm.out]; omega, HL1.out, HG.out⟩
end Go.Proofs.YtdggddjgipgllaaGreatDoor
/- Function trade of package batch: it never fails where all that is traded is held. -/
namespace Go.Proofs.YtdggddjgipgllaaGreatDoor
open Go.RowKit
set_option maxRecDepth 100000

def lenV : Value → Nat
  | .slice _ n _ => n
  | _ => 0
theorem OwnL.len {w : World} {g : Nat} {v : Value} {l : List Cv.Lot} (h : OwnL w g v l) : lenV v = l.length := by
  rcases h with ⟨rfl, a, cap, rfl⟩ | ⟨o, cap, cur, rfl, _⟩ <;> rfl
theorem OwnL.val {w : World} {g : Nat} {v : Value} {l : List Cv.Lot} (h : OwnL w g v l) : ∃ a cap, v = .slice a l.length cap := by
  rcases h with ⟨rfl, a, cap, rfl⟩ | ⟨o, cap, cur, rfl, _⟩
  · exact ⟨a, cap, rfl⟩
  · exact ⟨_, _, rfl⟩
theorem wo_len {x : Cv.Lot} {l : List Cv.Lot} {q : Int} : (Fs.wo (x :: l) q).length = if x.q - q = 0 then l.length else l.length + 1 := by
  rw [Fs.wo_cons]; split <;> simp

structure TR (w : World) (B p gb gs i : Nat) (price : Int) (G f0 : Nat → Int) (vb vs : Value) (wr : World) : Prop where
  ex : ∃ f bs ss, OwnL wr gb vb bs ∧ OwnL wr gs vs ss ∧ Purse wr 105 p f ∧ Fs.TI i price G f bs ss ∧ bs.length ≤ 200 ∧ ss.length ≤ 200 ∧ Pu.cashes f 6 = Pu.cashes f0 6 ∧ ∀ k, k < 3 → Pu.stocks f k 6 = Pu.stocks f0 k 6
  bl : Below B w wr
theorem OwnL.blk {w : World} {g : Nat} {v : Value} {x : Cv.Lot} {l : List Cv.Lot} (h : OwnL w g v (x :: l)) {p : Nat} {f : Nat → Int} (hp : Purse w 105 p f) : g ≠ p := by
  obtain ⟨o, cap, cur, _, _, _, hg⟩ := h.head
  exact blkT hg hp (by decide)

set_option maxHeartbeats 1000000 in
theorem trades_any (p i B gb gs : Nat) (price : Int) (vb vs : Value) (bs ss : List Cv.Lot) (f G : Nat → Int) (ev : Nat → Value) (w : World) (hi : i < 3) (hp1 : 1 ≤ price) (hp2 : price ≤ 1000) (he : Hid (∀ W, Below B w W → AEr W ev))
    (hB : Hid (B ≤ w.heap.size ∧ B ≤ p ∧ B ≤ gb ∧ B ≤ gs)) (hne : Hid (gb ≠ gs)) (hob : Hid (OwnL w gb vb bs)) (hos : Hid (OwnL w gs vs ss)) (hpu : Hid (Purse w 105 p f)) (hti : Hid (Fs.TI i price G f bs ss)) (hlb : Hid (bs.length ≤ 200)) (hls : Hid (ss.length ≤ 200)) :
    Calls Tryz.prog 89 #[.pointer (some ⟨p, 0, none⟩), .int .i64 i, .int .i64 price, vb, vs] w fun e w' => e = .returned .nilIface ∧ (Purse w' 105 p G ∧ Pu.Good G ∧ Pu.cashes G 6 = Pu.cashes f 6 ∧ ∀ k, k < 3 → Pu.stocks G k 6 = Pu.stocks f k 6) ∧ Below B w w' := by
  have HR : Hid (TR w B p gb gs i price G f vb vs w) := ⟨⟨f, bs, ss, hob.out, hos.out, hpu.out, hti.out, hlb.out, hls.out, rfl, fun _ _ => rfl⟩, Below.refl _ _⟩
  clear hob hos hpu hti hlb hls
  go_enter Tryz.func89, Tryz.ntmps89
  go_wp2
  go_loopw [3, 4] (fun u x wr => TR w B p gb gs i price G f u x wr) (fun u x _ => lenV u + lenV x)
  case atStart => exact HR.out
  case round =>
    rename_i ub us wr
    obtain ⟨⟨f1, b1, s1, hb1, hs1, hpu1, hti1, hlb1, hls1, hca1, hst1⟩, hbl⟩ := hrel
    have HB1 := hide hb1; have HS1 := hide hs1; have HP1 := hide hpu1; have HT1 := hide hti1; have HLB := hide hlb1; have HLS := hide hls1; have HCA := hide hca1; have HST := hide hst1; have HBL := hide hbl
    clear hb1 hs1 hpu1 hti1 hlb1 hls1 hca1 hst1 hbl HR
    have done : (b1 = [] ∨ s1 = []) → f1 = G := fun h => funext (HT1.out.done h)
    have HD := hide done
    clear done
    cases b1 with
    | nil =>
      obtain ⟨ab, cb, rfl⟩ := HB1.out.val
      obtain ⟨as', cs, rfl⟩ := HS1.out.val
      have e := HD.out (.inl rfl)
      subst e
      rw [show ([] : List Cv.Lot).length = 0 from rfl]
      go_wp2
      go_ret
      exact ⟨rfl, ⟨HP1.out, HT1.out.good, HCA.out, HST.out⟩, HBL.out⟩
    | cons x bt =>
      cases s1 with
      | nil =>
        obtain ⟨ob, cb, curb, rfl, hcb, hLb, hgb⟩ := HB1.out.head
        obtain ⟨as', cs, rfl⟩ := HS1.out.val
        have e := HD.out (.inr rfl)
        subst e
        rw [show ([] : List Cv.Lot).length = 0 from rfl]
        have hpos : (0 : Int) < ((bt.length + 1 : Nat) : Int) := by omega
        generalize bt.length = m at *
        go_wp2
        go_ret
        exact ⟨rfl, ⟨HP1.out, HT1.out.good, HCA.out, HST.out⟩, HBL.out⟩
      | cons y st =>
        obtain ⟨ob, cb, curb, rfl, hcb, hLb, hgb⟩ := HB1.out.head
        obtain ⟨os, cs, curs, rfl, hcs, hLs, hgs⟩ := HS1.out.head
        obtain ⟨xb0, xb1, xb2, xb3, xb4⟩ := lotsAt_head hLb
        obtain ⟨ys0, ys1, ys2, ys3, ys4⟩ := lotsAt_head hLs
        have hposb : (0 : Int) < ((bt.length + 1 : Nat) : Int) := by omega
        have hposs : (0 : Int) < ((st.length + 1 : Nat) : Int) := by omega
        have hxq := Cv.ok_bounds (Pu.well_ok (HT1.out.wb x (List.mem_cons_self ..)).1)
        have hyq := Cv.ok_bounds (Pu.well_ok (HT1.out.ws y (List.mem_cons_self ..)).1)
        obtain ⟨qx1, qx2⟩ := hxq.2.2.2.2
        obtain ⟨qy1, qy2⟩ := hyq.2.2.2.2
        clear hxq hyq hLb hLs hgb hgs HD
        obtain ⟨mb, hmb⟩ : ∃ mb, bt.length = mb := ⟨_, rfl⟩
        obtain ⟨ms, hms⟩ : ∃ ms, st.length = ms := ⟨_, rfl⟩
        rw [hmb] at hposb hcb HB1 ⊢
        rw [hms] at hposs hcs HS1 ⊢
        have HMB := hide hmb; have HMS := hide hms
        clear hmb hms
        rcases Int.lt_or_le y.q x.q with hlt | hle
        · have HQ : Hid (y.q = min x.q y.q) := by show _ = _; omega
          go_wp2_with fail
          refine region_quiet_tail 8 (by kernel_rfl) (by kernel_rfl) ?_
          simp only [List.take_succ_cons, List.take_zero, List.drop_succ_cons, List.drop_zero]
          repeat (first | go_big_quiet_step (fail) | quiet_step (fail))
          refine wpQuiet_nil ?_
          intro _ hw'
          obtain ⟨nq, hw''⟩ := hw'
          subst hw''
          have HBq := hide (HBL.out.trans ((blw_drew nq : Below wr.heap.size wr (wr.drewN nq)).mono (Nat.le_trans hB.out.1 HBL.out.size)))
          have HB2 : Hid (OwnL (wr.drewN nq) gb (.slice (some ⟨gb, ob, none⟩) (mb + 1) cb) (x :: bt)) := HB1.out
          have HS2 : Hid (OwnL (wr.drewN nq) gs (.slice (some ⟨gs, os, none⟩) (ms + 1) cs) (y :: st)) := HS1.out
          have HP2 : Hid (Purse (wr.drewN nq) 105 p f1) := HP1.out
          have xb0' : (wr.drewN nq).cell? ⟨gb, ob, none⟩ = some (.int .i64 x.id) := xb0
          have xb1' : (wr.drewN nq).cell? ⟨gb, ob + 1, none⟩ = some (.int .i64 x.ow) := xb1
          have xb2' : (wr.drewN nq).cell? ⟨gb, ob + 2, none⟩ = some (.int .i64 x.sd) := xb2
          have xb3' : (wr.drewN nq).cell? ⟨gb, ob + 3, none⟩ = some (.int .i64 x.pr) := xb3
          have xb4' : (wr.drewN nq).cell? ⟨gb, ob + 4, none⟩ = some (.int .i64 x.q) := xb4
          have ys0' : (wr.drewN nq).cell? ⟨gs, os, none⟩ = some (.int .i64 y.id) := ys0
          have ys1' : (wr.drewN nq).cell? ⟨gs, os + 1, none⟩ = some (.int .i64 y.ow) := ys1
          have ys2' : (wr.drewN nq).cell? ⟨gs, os + 2, none⟩ = some (.int .i64 y.sd) := ys2
          have ys3' : (wr.drewN nq).cell? ⟨gs, os + 3, none⟩ = some (.int .i64 y.pr) := ys3
          have ys4' : (wr.drewN nq).cell? ⟨gs, os + 4, none⟩ = some (.int .i64 y.q) := ys4
          clear HBL HB1 HS1 HP1 xb0 xb1 xb2 xb3 xb4 ys0 ys1 ys2 ys3 ys4
          generalize wr.drewN nq = w1 at *
          go_wp2_with fail
          refine region_quiet_tail 10 (by kernel_rfl) (by kernel_rfl) ?_
          simp only [List.take_succ_cons, List.take_zero, List.drop_succ_cons, List.drop_zero]
          repeat (first | go_big_quiet_step (fail) | quiet_step (fail))
          refine wpQuiet_nil ?_
          intro _ hw'
          obtain ⟨nq, hw''⟩ := hw'
          subst hw''
          have HBL := hide (HBq.out.trans ((blw_drew nq : Below w1.heap.size w1 (w1.drewN nq)).mono (Nat.le_trans hB.out.1 HBq.out.size)))
          have HB3 : Hid (OwnL (w1.drewN nq) gb (.slice (some ⟨gb, ob, none⟩) (mb + 1) cb) (x :: bt)) := HB2.out
          have HS3 : Hid (OwnL (w1.drewN nq) gs (.slice (some ⟨gs, os, none⟩) (ms + 1) cs) (y :: st)) := HS2.out
          have HP3 : Hid (Purse (w1.drewN nq) 105 p f1) := HP2.out
          clear HBq HB2 HS2 HP2 xb0' xb1' xb2' xb3' xb4' ys0' ys1' ys2' ys3' ys4'
          generalize w1.drewN nq = w2 at *
          obtain ⟨hC, hTI⟩ := HT1.out.step hi ⟨hp1, hp2⟩ HQ.out
          have hTR := trade_any p i x y price y.q f1 ev w2 (he.out _ HBL.out).ter HP3.out HT1.out.good
          rw [hC] at hTR
          rw [show errE ev 0 = .nilIface from rfl] at hTR
          have hsum := Pu.trade_sums f1 i x y price y.q
          have HTI := hide hTI; have HTR := hide hTR; have HSUM := hide hsum
          have hgbp := HB3.out.blk HP3.out
          have hgsp := HS3.out.blk HP3.out
          have HGB := hide hgbp; have HGS := hide hgsp
          clear hC hTI hTR hsum hgbp hgsp
          unfold lotV at HTR
          go_wp2_with fail
          refine HTR.out.mono ?_
          rintro e w3 ⟨rfl, hp3, hs3⟩
          have HBL3 := hide (HBL.out.trans (hs3.below (Nat.le_trans hB.out.1 HBL.out.size) hB.out.2.1))
          have HP4 := hide hp3
          have HB4 := hide (HB3.out.save hs3 HGB.out)
          have HS4 := hide (HS3.out.save hs3 HGS.out)
          clear hp3 hs3 HTR HBL HB3 HS3 HP3
          generalize Pu.tradeF f1 i x y price y.q = f2 at *
          simp only []
          have hlb := HLB.out
          have hls := HLS.out
          simp only [List.length_cons] at hlb hls
          have HWb := hide (without_any gb _ x bt y.q w3 HB4.out qx1 qx2 (by omega) (by omega) (by omega))
          go_wp2_with fail
          refine HWb.out.mono ?_
          rintro e w4 ⟨vb4, rfl, hb4, hs4⟩
          have HBL4 := hide (HBL3.out.trans (hs4.below (Nat.le_trans hB.out.1 HBL3.out.size) hB.out.2.2.1))
          have HP5 := hide (HP4.out.save hs4 (Ne.symm HGB.out))
          have HS5 := hide (HS4.out.save hs4 (Ne.symm hne.out))
          have HB5 := hide hb4
          clear hb4 hs4 HWb HBL3 HP4 HB4 HS4
          simp only []
          have HWs := hide (without_any gs _ y st y.q w4 HS5.out qy1 qy2 (by omega) (by omega) (by omega))
          go_wp2_with fail
          refine HWs.out.mono ?_
          rintro e w5 ⟨vs5, rfl, hb5, hs5⟩
          have HBL5 := hide (HBL4.out.trans (hs5.below (Nat.le_trans hB.out.1 HBL4.out.size) hB.out.2.2.2))
          have HP6 := hide (HP5.out.save hs5 (Ne.symm HGS.out))
          have HB6 := hide (HB5.out.save hs5 hne.out)
          have HS6 := hide hb5
          clear hb5 hs5 HWs HBL4 HP5 HB5 HS5
          simp only []
          have hl1 := HB6.out.len
          have hl2 := HS6.out.len
          rw [wo_len] at hl1 hl2
          go_wp2_with fail
          refine ⟨⟨⟨f2, _, _, HB6.out, HS6.out, HP6.out, HTI.out, ?_, ?_, ?_, ?_⟩, HBL5.out⟩, ?_⟩
          · rw [wo_len]; split <;> omega
          · rw [wo_len]; split <;> omega
          · rw [HSUM.out.1]; exact HCA.out
          · intro k hk; rw [HSUM.out.2 k hk]; exact HST.out k hk
          · have hqq := HQ.out
            show lenV vb4 + lenV vs5 < (mb + 1) + (ms + 1)
            rw [hl1, hl2, HMB.out, HMS.out]
            split <;> split <;> omega
        · have HQ : Hid (x.q = min x.q y.q) := by show _ = _; omega
          go_wp2_with fail
          refine region_quiet_tail 8 (by kernel_rfl) (by kernel_rfl) ?_
          simp only [List.take_succ_cons, List.take_zero, List.drop_succ_cons, List.drop_zero]
          repeat (first | go_big_quiet_step (fail) | quiet_step (fail))
          refine wpQuiet_nil ?_
          intro _ hw'
          obtain ⟨nq, hw''⟩ := hw'
          subst hw''
          have HBq := hide (HBL.out.trans ((blw_drew nq : Below wr.heap.size wr (wr.drewN nq)).mono (Nat.le_trans hB.out.1 HBL.out.size)))
          have HB2 : Hid (OwnL (wr.drewN nq) gb (.slice (some ⟨gb, ob, none⟩) (mb + 1) cb) (x :: bt)) := HB1.out
          have HS2 : Hid (OwnL (wr.drewN nq) gs (.slice (some ⟨gs, os, none⟩) (ms + 1) cs) (y :: st)) := HS1.out
          have HP2 : Hid (Purse (wr.drewN nq) 105 p f1) := HP1.out
          have xb0' : (wr.drewN nq).cell? ⟨gb, ob, none⟩ = some (.int .i64 x.id) := xb0
          have xb1' : (wr.drewN nq).cell? ⟨gb, ob + 1, none⟩ = some (.int .i64 x.ow) := xb1
          have xb2' : (wr.drewN nq).cell? ⟨gb, ob + 2, none⟩ = some (.int .i64 x.sd) := xb2
          have xb3' : (wr.drewN nq).cell? ⟨gb, ob + 3, none⟩ = some (.int .i64 x.pr) := xb3
          have xb4' : (wr.drewN nq).cell? ⟨gb, ob + 4, none⟩ = some (.int .i64 x.q) := xb4
          have ys0' : (wr.drewN nq).cell? ⟨gs, os, none⟩ = some (.int .i64 y.id) := ys0
          have ys1' : (wr.drewN nq).cell? ⟨gs, os + 1, none⟩ = some (.int .i64 y.ow) := ys1
          have ys2' : (wr.drewN nq).cell? ⟨gs, os + 2, none⟩ = some (.int .i64 y.sd) := ys2
          have ys3' : (wr.drewN nq).cell? ⟨gs, os + 3, none⟩ = some (.int .i64 y.pr) := ys3
          have ys4' : (wr.drewN nq).cell? ⟨gs, os + 4, none⟩ = some (.int .i64 y.q) := ys4
          clear HBL HB1 HS1 HP1 xb0 xb1 xb2 xb3 xb4 ys0 ys1 ys2 ys3 ys4
          generalize wr.drewN nq = w1 at *
          go_wp2_with fail
          refine region_quiet_tail 10 (by kernel_rfl) (by kernel_rfl) ?_
          simp only [List.take_succ_cons, List.take_zero, List.drop_succ_cons, List.drop_zero]
          repeat (first | go_big_quiet_step (fail) | quiet_step (fail))
          refine wpQuiet_nil ?_
          intro _ hw'
          obtain ⟨nq, hw''⟩ := hw'
          subst hw''
          have HBL := hide (HBq.out.trans ((blw_drew nq : Below w1.heap.size w1 (w1.drewN nq)).mono (Nat.le_trans hB.out.1 HBq.out.size)))
          have HB3 : Hid (OwnL (w1.drewN nq) gb (.slice (some ⟨gb, ob, none⟩) (mb + 1) cb) (x :: bt)) := HB2.out
          have HS3 : Hid (OwnL (w1.drewN nq) gs (.slice (some ⟨gs, os, none⟩) (ms + 1) cs) (y :: st)) := HS2.out
          have HP3 : Hid (Purse (w1.drewN nq) 105 p f1) := HP2.out
          clear HBq HB2 HS2 HP2 xb0' xb1' xb2' xb3' xb4' ys0' ys1' ys2' ys3' ys4'
          generalize w1.drewN nq = w2 at *
          obtain ⟨hC, hTI⟩ := HT1.out.step hi ⟨hp1, hp2⟩ HQ.out
          have hTR := trade_any p i x y price x.q f1 ev w2 (he.out _ HBL.out).ter HP3.out HT1.out.good
          rw [hC] at hTR
          rw [show errE ev 0 = .nilIface from rfl] at hTR
          have hsum := Pu.trade_sums f1 i x y price x.q
          have HTI := hide hTI; have HTR := hide hTR; have HSUM := hide hsum
          have hgbp := HB3.out.blk HP3.out
          have hgsp := HS3.out.blk HP3.out
          have HGB := hide hgbp; have HGS := hide hgsp
          clear hC hTI hTR hsum hgbp hgsp
          unfold lotV at HTR
          go_wp2_with fail
          refine HTR.out.mono ?_
          rintro e w3 ⟨rfl, hp3, hs3⟩
          have HBL3 := hide (HBL.out.trans (hs3.below (Nat.le_trans hB.out.1 HBL.out.size) hB.out.2.1))
          have HP4 := hide hp3
          have HB4 := hide (HB3.out.save hs3 HGB.out)
          have HS4 := hide (HS3.out.save hs3 HGS.out)
          clear hp3 hs3 HTR HBL HB3 HS3 HP3
          generalize Pu.tradeF f1 i x y price x.q = f2 at *
          simp only []
          have hlb := HLB.out
          have hls := HLS.out
          simp only [List.length_cons] at hlb hls
          have HWb := hide (without_any gb _ x bt x.q w3 HB4.out qx1 qx2 (by omega) (by omega) (by omega))
          go_wp2_with fail
          refine HWb.out.mono ?_
          rintro e w4 ⟨vb4, rfl, hb4, hs4⟩
          have HBL4 := hide (HBL3.out.trans (hs4.below (Nat.le_trans hB.out.1 HBL3.out.size) hB.out.2.2.1))
          have HP5 := hide (HP4.out.save hs4 (Ne.symm HGB.out))
          have HS5 := hide (HS4.out.save hs4 (Ne.symm hne.out))
          have HB5 := hide hb4
          clear hb4 hs4 HWb HBL3 HP4 HB4 HS4
          simp only []
          have HWs := hide (without_any gs _ y st x.q w4 HS5.out qy1 qy2 (by omega) (by omega) (by omega))
          go_wp2_with fail
          refine HWs.out.mono ?_
          rintro e w5 ⟨vs5, rfl, hb5, hs5⟩
          have HBL5 := hide (HBL4.out.trans (hs5.below (Nat.le_trans hB.out.1 HBL4.out.size) hB.out.2.2.2))
          have HP6 := hide (HP5.out.save hs5 (Ne.symm HGS.out))
          have HB6 := hide (HB5.out.save hs5 hne.out)
          have HS6 := hide hb5
          clear hb5 hs5 HWs HBL4 HP5 HB5 HS5
          simp only []
          have hl1 := HB6.out.len
          have hl2 := HS6.out.len
          rw [wo_len] at hl1 hl2
          go_wp2_with fail
          refine ⟨⟨⟨f2, _, _, HB6.out, HS6.out, HP6.out, HTI.out, ?_, ?_, ?_, ?_⟩, HBL5.out⟩, ?_⟩
          · rw [wo_len]; split <;> omega
          · rw [wo_len]; split <;> omega
          · rw [HSUM.out.1]; exact HCA.out
          · intro k hk; rw [HSUM.out.2 k hk]; exact HST.out k hk
          · have hqq := HQ.out
            show lenV vb4 + lenV vs5 < (mb + 1) + (ms + 1)
            rw [hl1, hl2, HMB.out, HMS.out]
            split <;> split <;> omega
end Go.Proofs.YtdggddjgipgllaaGreatDoor
