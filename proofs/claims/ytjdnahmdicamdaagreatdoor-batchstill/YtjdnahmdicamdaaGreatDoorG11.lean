/- A floor of package batch in memory: three items with their books and bands, a purse; what an act may turn. -/
import Derived.Test.YtjdnahmdicamdaaGreatDoorG10
namespace Go.Proofs.YtjdnahmdicamdaaGreatDoor
open Go.RowKit
set_option maxRecDepth 100000

def askA (a : Ask) : Array Value := #[.int .u8 a.k, .int .i64 a.c, .int .i64 a.sq, .int .i64 a.it, .int .i64 a.sd, .int .i64 a.pr, .int .i64 a.q, .int .i64 a.id]
def askV (a : Ask) : Value := .agg (askA a)

/-- what the errors' variables hold, by our numbers -/
structure AEr (w : World) (ev : Nat → Value) : Prop where
  c1 : w.cell? ⟨0, 0, none⟩ = some (.iface 252 (ev 1))
  c2 : w.cell? ⟨7, 0, none⟩ = some (.iface 252 (ev 2))
  c3 : w.cell? ⟨3, 0, none⟩ = some (.iface 252 (ev 3))
  c5 : w.cell? ⟨1, 0, none⟩ = some (.iface 252 (ev 5))
  c6 : w.cell? ⟨4, 0, none⟩ = some (.iface 252 (ev 6))
  c7 : w.cell? ⟨2, 0, none⟩ = some (.iface 252 (ev 7))
  c9 : w.cell? ⟨5, 0, none⟩ = some (.iface 252 (ev 9))
  c11 : w.cell? ⟨11, 0, none⟩ = some (.iface 252 (ev 11))
section
variable {w w' : World} {ev : Nat → Value}
theorem AEr.below (h : AEr w ev) (hb : Below w.heap.size w w') : AEr w' ev := ⟨cell_later hb h.c1, cell_later hb h.c2, cell_later hb h.c3, cell_later hb h.c5, cell_later hb h.c6, cell_later hb h.c7, cell_later hb h.c9, cell_later hb h.c11⟩
theorem AEr.er (h : AEr w ev) : Er w 252 (ev 1) (ev 6) (ev 7) := ⟨h.c1, h.c6, h.c7⟩
theorem AEr.er4 (h : AEr w ev) : Er4 w 252 (ev 1) (ev 5) (ev 6) (ev 7) := ⟨h.er, h.c5⟩
theorem AEr.per (h : AEr w ev) : PEr w ev := ⟨h.er, h.c9⟩
theorem AEr.ter (h : AEr w ev) : TEr w ev := ⟨h.per, h.c2, h.c11⟩
theorem AEr.ber (h : AEr w ev) : BEr w 252 (ev 1) := ⟨h.c1⟩
end

def pfloorA (I : Nat → Nat) (P : Nat) (wd h : Int) : Array Value :=
  #[.int .i64 wd, .int .i64 h, .pointer (some ⟨I 0, 0, none⟩), .pointer (some ⟨I 1, 0, none⟩), .pointer (some ⟨I 2, 0, none⟩), .pointer (some ⟨P, 0, none⟩)]
def itemA (b : Nat) (r l : Int) : Array Value := #[.pointer (some ⟨b, 0, none⟩), .int .i64 r, .int .i64 l]

structure PFl (w W : World) (F P : Nat) (I b : Nat → Nat) (v : Nat → Value) (L : Nat → List Cv.Lot) (pf n : Nat → Int) (wd h : Int) : Prop where
  blk : W.heap[F]? = some (.cells (pfloorA I P wd h) 91 (0, 0))
  it : ∀ i, i < 3 → W.heap[I i]? = some (.cells (itemA (b i) (n (i * 2)) (n (i * 2 + 1))) 94 (0, 0))
  bk : ∀ i, i < 3 → Book W w.heap.size (b i) (v i) (L i)
  neI : ∀ i j, i < 3 → j < 3 → i ≠ j → I i ≠ I j
  ne : ∀ i j, i < 3 → j < 3 → i ≠ j → b i ≠ b j
  ap : ∀ i j, i < 3 → j < 3 → i ≠ j → ∀ k, (v i).ownBlock = some k → (v j).ownBlock ≠ some k
  pu : Purse W 105 P pf
  lo : w.heap.size ≤ F
  lop : w.heap.size ≤ P
  loI : ∀ i, i < 3 → w.heap.size ≤ I i
  bl : Below w.heap.size w W

/-- what an act on a floor may turn: its purse, its items, its books and their rows -/
structure FStep (W W' : World) (P : Nat) (I b : Nat → Nat) (v v' : Nat → Value) : Prop where
  os : W'.os = W.os
  tape : W'.tape = W.tape
  output : W'.output = W.output
  size : W.heap.size ≤ W'.heap.size
  keep : ∀ k, k < W.heap.size → k ≠ P → (∀ i, i < 3 → k ≠ I i ∧ k ≠ b i ∧ (v i).ownBlock ≠ some k) → W'.heap[k]? = W.heap[k]?
  new : ∀ i, i < 3 → ∀ k, (v' i).ownBlock = some k → (v i).ownBlock = some k ∨ W.heap.size ≤ k
section
variable {W W' W1 W2 : World} {P : Nat} {I b : Nat → Nat} {v v' v1 v2 : Nat → Value}
theorem FStep.refl (W : World) (P : Nat) (I b : Nat → Nat) (v : Nat → Value) : FStep W W P I b v v := ⟨rfl, rfl, rfl, Nat.le_refl _, fun _ _ _ _ => rfl, fun _ _ _ h => .inl h⟩
theorem FStep.trans (h : FStep W W1 P I b v v1) (h1 : FStep W1 W2 P I b v1 v2) : FStep W W2 P I b v v2 :=
  ⟨h1.os.trans h.os, h1.tape.trans h.tape, h1.output.trans h.output, Nat.le_trans h.size h1.size,
   fun k hk hP hi => by
    rw [h1.keep k (Nat.lt_of_lt_of_le hk h.size) hP fun i hi3 => ⟨(hi i hi3).1, (hi i hi3).2.1, fun e => ?_⟩]
    · exact h.keep k hk hP hi
    · rcases h.new i hi3 k e with h2 | h2
      · exact (hi i hi3).2.2 h2
      · omega,
   fun i hi k e => by
    rcases h1.new i hi k e with h2 | h2
    · exact h.new i hi k h2
    · exact .inr (Nat.le_trans h.size h2)⟩
theorem FStep.of_below (hb : Below W.heap.size W W') (P : Nat) (I b : Nat → Nat) (v : Nat → Value) : FStep W W' P I b v v := ⟨hb.os, hb.tape, hb.output, hb.size, fun k hk _ _ => hb.block k hk, fun _ _ _ h => .inl h⟩
theorem FStep.below (h : FStep W W1 P I b v v1) (hb : Below W1.heap.size W1 W2) : FStep W W2 P I b v v1 := h.trans (FStep.of_below hb P I b v1)
theorem FStep.of_book {i : Nat} (hi : i < 3) {x : Value} (hs : Step W W' (b i) (v i) x) (P : Nat) (I : Nat → Nat) : FStep W W' P I b v (upd v i x) :=
  ⟨hs.only.os, hs.only.tape, hs.only.output, hs.only.size,
   fun k hk _ hk2 => hs.only.block k hk (fun e => (hk2 i hi).2.1 (by simpa using e)) (fun e => (hk2 i hi).2.2 e.symm),
   fun j hj k e => by
    by_cases hji : j = i
    · subst hji; rw [upd_same] at e; exact hs.new k e
    · rw [upd_ne _ _ hji] at e; exact .inl e⟩
theorem FStep.of_purse (hs : Save W W' P) (I b : Nat → Nat) (v : Nat → Value) : FStep W W' P I b v v := ⟨hs.os, hs.tape, hs.output, hs.size, fun k hk hP _ => hs.block k hk hP, fun _ _ _ h => .inl h⟩
theorem FStep.of_item {i : Nat} (hi : i < 3) (hs : Save W W' (I i)) (P : Nat) (b : Nat → Nat) (v : Nat → Value) : FStep W W' P I b v v := ⟨hs.os, hs.tape, hs.output, hs.size, fun k hk _ h2 => hs.block k hk (h2 i hi).1, fun _ _ _ h => .inl h⟩
end

section
variable {w W W' : World} {F P : Nat} {I b : Nat → Nat} {v : Nat → Value} {L : Nat → List Cv.Lot} {pf n : Nat → Int} {wd h : Int}

theorem rowT {W : World} {base : Nat} {v : Value} {n : Nat} {xs : List Value} {q : Nat} {a : Array Value} {T : TypeId} {fz : Nat × Nat} (h : W.ownsRow base 56 5 v n xs) (hq : W.heap[q]? = some (.cells a T fz)) (hT : T ≠ 56) : v.ownBlock ≠ some q := by
  intro e
  rcases h.2 with ⟨e1, _⟩ | ⟨r, cap, cur, e1, _, hr, _⟩
  · rw [e1] at e; cases e
  · rw [e1] at e
    have : r = q := by simpa [Value.ownBlock] using e
    rw [this, hq] at hr
    simp only [Option.some.injEq, Obj.cells.injEq] at hr
    exact hT hr.2.1
theorem blkT {W : World} {p q : Nat} {a c : Array Value} {T U : TypeId} {fz fy : Nat × Nat} (hp : W.heap[p]? = some (.cells a T fz)) (hq : W.heap[q]? = some (.cells c U fy)) (hT : T ≠ U) : p ≠ q := by
  intro e
  rw [e, hq] at hp
  simp only [Option.some.injEq, Obj.cells.injEq] at hp
  exact hT hp.2.1.symm
theorem PFl.later (hf : PFl w W F P I b v L pf n wd h) (hb : Below W.heap.size W W') : PFl w W' F P I b v L pf n wd h :=
  ⟨by rw [hb.block F (lt_of_block hf.blk)]; exact hf.blk, fun i hi => by rw [hb.block _ (lt_of_block (hf.it i hi))]; exact hf.it i hi, fun i hi => (hf.bk i hi).later hb, hf.neI, hf.ne, hf.ap, hf.pu.lat hb, hf.lo, hf.lop, hf.loI, hf.bl.trans (hb.mono hf.bl.size)⟩
theorem PFl.cellI (hf : PFl w W F P I b v L pf n wd h) {i : Nat} (hi : i < 3) : W.cell? ⟨F, 2 + i, none⟩ = some (.pointer (some ⟨I i, 0, none⟩)) := by
  rw [cell_of_row W F (2 + i) _ _ _ hf.blk]
  have : i = 0 ∨ i = 1 ∨ i = 2 := by omega
  rcases this with rfl | rfl | rfl <;> rfl
theorem PFl.cellP (hf : PFl w W F P I b v L pf n wd h) : W.cell? ⟨F, 5, none⟩ = some (.pointer (some ⟨P, 0, none⟩)) := by
  rw [cell_of_row W F 5 _ _ _ hf.blk]; rfl
theorem PFl.cell0 (hf : PFl w W F P I b v L pf n wd h) : W.cell? ⟨F, 0, none⟩ = some (.int .i64 wd) := by
  rw [cell_of_row W F 0 _ _ _ hf.blk]; rfl
theorem PFl.cell1 (hf : PFl w W F P I b v L pf n wd h) : W.cell? ⟨F, 1, none⟩ = some (.int .i64 h) := by
  rw [cell_of_row W F 1 _ _ _ hf.blk]; rfl
theorem PFl.cellB (hf : PFl w W F P I b v L pf n wd h) {i : Nat} (hi : i < 3) : W.cell? ⟨I i, 0, none⟩ = some (.pointer (some ⟨b i, 0, none⟩)) := by
  rw [cell_of_row W (I i) 0 _ _ _ (hf.it i hi)]; rfl
theorem PFl.cellR (hf : PFl w W F P I b v L pf n wd h) {i : Nat} (hi : i < 3) : W.cell? ⟨I i, 1, none⟩ = some (.int .i64 (n (i * 2))) := by
  rw [cell_of_row W (I i) 1 _ _ _ (hf.it i hi)]; rfl
theorem PFl.cellL (hf : PFl w W F P I b v L pf n wd h) {i : Nat} (hi : i < 3) : W.cell? ⟨I i, 2, none⟩ = some (.int .i64 (n (i * 2 + 1))) := by
  rw [cell_of_row W (I i) 2 _ _ _ (hf.it i hi)]; rfl
theorem PFl.lt (hf : PFl w W F P I b v L pf n wd h) : F < W.heap.size := lt_of_block hf.blk
theorem PFl.er (hf : PFl w W F P I b v L pf n wd h) {ev : Nat → Value} (he : AEr w ev) : AEr W ev := he.below hf.bl
/-- an act on one book -/
theorem PFl.book (hf : PFl w W F P I b v L pf n wd h) {i : Nat} (hi : i < 3) {v' : Value} {L' : List Cv.Lot} (hb : Book W' w.heap.size (b i) v' L') (hs : Step W W' (b i) (v i) v') : PFl w W' F P I b (upd v i v') (upd L i L') pf n wd h := by
  have hbi := hf.bk i hi
  have other : ∀ {q : Nat} {a : Array Value} {T : TypeId}, W.heap[q]? = some (.cells a T (0, 0)) → T ≠ 56 → T ≠ 103 → W'.heap[q]? = some (.cells a T (0, 0)) := fun {q a T} hq h1 h2 => by
    rw [hs.only.block q (lt_of_block hq) (fun e => ?_) (fun e => rowT hbi.row hq h1 e.symm)]
    · exact hq
    · have : q = b i := by simpa using e
      exact blkT hq hbi.cell h2 this
  refine ⟨other hf.blk (by decide) (by decide), fun j hj => other (hf.it j hj) (by decide) (by decide), fun j hj => ?_, hf.neI, hf.ne, fun j k hj hk hjk m hm => ?_, other hf.pu (by decide) (by decide), hf.lo, hf.lop, hf.loI, hf.bl.trans (hs.below hbi _ (Nat.le_refl _))⟩
  · by_cases hji : j = i
    · subst hji; rw [upd_same, upd_same]; exact hb
    · rw [upd_ne _ _ hji, upd_ne _ _ hji]
      refine (hf.bk j hj).only hs.only (by simp; exact hf.ne j i hj hi hji) (fun e => rowT hbi.row (hf.bk j hj).cell (by decide) e.symm) (fun k hk e => ?_) (fun k hk e => hf.ap j i hj hi hji k hk e.symm)
      have : k = b i := by simpa using e
      subst this
      exact rowT (hf.bk j hj).row hbi.cell (by decide) hk
  · by_cases hji : j = i
    · subst hji
      rw [upd_same] at hm
      rw [upd_ne _ _ (Ne.symm hjk)]
      rcases hs.new m hm with h1 | h1
      · exact hf.ap j k hj hk hjk m h1
      · intro e
        have := ((hf.bk k hk).rowLt m e).2
        omega
    · rw [upd_ne _ _ hji] at hm
      by_cases hki : k = i
      · subst hki
        rw [upd_same]
        intro e
        rcases hs.new m e with h1 | h1
        · exact hf.ap j k hj hk hjk m hm h1
        · have := ((hf.bk j hj).rowLt m hm).2
          omega
      · rw [upd_ne _ _ hki]; exact hf.ap j k hj hk hjk m hm
theorem Save.to_only {W W' : World} {q : Nat} (hs : Save W W' q) : Only W W' (some q) none := ⟨hs.os, hs.tape, hs.output, hs.size, fun k hk h1 _ => hs.block k hk (fun e => h1 (by rw [e]))⟩
/-- an act on the purse -/
theorem PFl.purse (hf : PFl w W F P I b v L pf n wd h) {f' : Nat → Int} (hp : Purse W' 105 P f') (hs : Save W W' P) : PFl w W' F P I b v L f' n wd h := by
  refine ⟨by rw [hs.block F (lt_of_block hf.blk) (blkT hf.blk hf.pu (by decide))]; exact hf.blk, fun i hi => by rw [hs.block _ (lt_of_block (hf.it i hi)) (blkT (hf.it i hi) hf.pu (by decide))]; exact hf.it i hi, fun i hi => ?_, hf.neI, hf.ne, hf.ap, hp, hf.lo, hf.lop, hf.loI, hf.bl.trans (hs.below hf.bl.size hf.lop)⟩
  exact (hf.bk i hi).only hs.to_only (by simp; exact blkT (hf.bk i hi).cell hf.pu (by decide)) (by simp) (fun k hk e => by
    have : k = P := by simpa using e
    subst this
    exact rowT (hf.bk i hi).row hf.pu (by decide) hk) (fun _ _ => by simp)
/-- an item's band -/
theorem PFl.band (hf : PFl w W F P I b v L pf n wd h) {i : Nat} (hi : i < 3) {r l : Int} (hit : W'.heap[I i]? = some (.cells (itemA (b i) r l) 94 (0, 0))) (hs : Save W W' (I i)) : PFl w W' F P I b v L pf (upd (upd n (i * 2) r) (i * 2 + 1) l) wd h := by
  refine ⟨by rw [hs.block F (lt_of_block hf.blk) (blkT hf.blk (hf.it i hi) (by decide))]; exact hf.blk, fun j hj => ?_, fun j hj => ?_, hf.neI, hf.ne, hf.ap, hf.pu.save hs (blkT hf.pu (hf.it i hi) (by decide)), hf.lo, hf.lop, hf.loI, hf.bl.trans (hs.below hf.bl.size (hf.loI i hi))⟩
  · by_cases e : j = i
    · subst e
      rw [upd_same, upd_ne _ _ (by omega), upd_same]; exact hit
    · rw [upd_ne _ _ (by omega), upd_ne _ _ (by omega), upd_ne _ _ (by omega), upd_ne _ _ (by omega), hs.block _ (lt_of_block (hf.it j hj)) (hf.neI j i hj hi e)]
      exact hf.it j hj
  · exact (hf.bk j hj).only hs.to_only (by simp; exact blkT (hf.bk j hj).cell (hf.it i hi) (by decide)) (by simp) (fun k hk e => by
      have : k = I i := by simpa using e
      subst this
      exact rowT (hf.bk j hj).row (hf.it i hi) (by decide) hk) (fun _ _ => by simp)
/-- a block beside the floor turns -/
theorem PFl.aside (hf : PFl w W F P I b v L pf n wd h) {q : Nat} (h1 : q ≠ F) (h2 : q ≠ P) (h3 : ∀ i, i < 3 → q ≠ I i ∧ q ≠ b i ∧ (v i).ownBlock ≠ some q) (hlo : w.heap.size ≤ q) (hs : Save W W' q) : PFl w W' F P I b v L pf n wd h := by
  refine ⟨by rw [hs.block F (lt_of_block hf.blk) (Ne.symm h1)]; exact hf.blk, fun i hi => by rw [hs.block _ (lt_of_block (hf.it i hi)) (Ne.symm (h3 i hi).1)]; exact hf.it i hi, fun i hi => ?_, hf.neI, hf.ne, hf.ap, hf.pu.save hs (Ne.symm h2), hf.lo, hf.lop, hf.loI, hf.bl.trans (hs.below hf.bl.size hlo)⟩
  exact (hf.bk i hi).only hs.to_only (by simp; exact Ne.symm (h3 i hi).2.1) (by simp) (fun k hk e => by
    have : k = q := by simpa using e
    subst this
    exact (h3 i hi).2.2 hk) (fun _ _ => by simp)
end
end Go.Proofs.YtjdnahmdicamdaaGreatDoor
/- Acts on a floor as they come in. -/
namespace Go.Proofs.YtjdnahmdicamdaaGreatDoor
open Go.RowKit
set_option maxRecDepth 100000
structure DAct where
  kind : ByteArray
  a : Ask
  c : Int
  it : Int
  s : Int
def dz : DAct := ⟨ByteArray.empty, ⟨0, 0, 0, 0, 0, 0, 0, 0⟩, 0, 0, 0⟩
def dnth (l : List DAct) (i : Nat) : DAct := l.getD i dz
def doCells (x : DAct) : List Value := [.string x.kind, .int .u8 x.a.k, .int .i64 x.a.c, .int .i64 x.a.sq, .int .i64 x.a.it, .int .i64 x.a.sd, .int .i64 x.a.pr, .int .i64 x.a.q, .int .i64 x.a.id, .int .i64 x.c, .int .i64 x.it, .int .u32 x.s]
/-- the cells of a slice of acts that came in -/
def DosAt (w : World) (g : Addr) (l : List DAct) : Prop := ∀ i, i < l.length → w.cell? (g.add (i * 12)) = some (.string (dnth l i).kind) ∧ w.cell? ⟨(g.add (i * 12)).block, (g.add (i * 12)).off + 1, none⟩ = some (.int .u8 (dnth l i).a.k) ∧ w.cell? ⟨(g.add (i * 12)).block, (g.add (i * 12)).off + 2, none⟩ = some (.int .i64 (dnth l i).a.c) ∧ w.cell? ⟨(g.add (i * 12)).block, (g.add (i * 12)).off + 3, none⟩ = some (.int .i64 (dnth l i).a.sq) ∧ w.cell? ⟨(g.add (i * 12)).block, (g.add (i * 12)).off + 4, none⟩ = some (.int .i64 (dnth l i).a.it) ∧ w.cell? ⟨(g.add (i * 12)).block, (g.add (i * 12)).off + 5, none⟩ = some (.int .i64 (dnth l i).a.sd) ∧ w.cell? ⟨(g.add (i * 12)).block, (g.add (i * 12)).off + 6, none⟩ = some (.int .i64 (dnth l i).a.pr) ∧ w.cell? ⟨(g.add (i * 12)).block, (g.add (i * 12)).off + 7, none⟩ = some (.int .i64 (dnth l i).a.q) ∧ w.cell? ⟨(g.add (i * 12)).block, (g.add (i * 12)).off + 8, none⟩ = some (.int .i64 (dnth l i).a.id) ∧ w.cell? ⟨(g.add (i * 12)).block, (g.add (i * 12)).off + 9, none⟩ = some (.int .i64 (dnth l i).c) ∧ w.cell? ⟨(g.add (i * 12)).block, (g.add (i * 12)).off + 10, none⟩ = some (.int .i64 (dnth l i).it) ∧ w.cell? ⟨(g.add (i * 12)).block, (g.add (i * 12)).off + 11, none⟩ = some (.int .u32 (dnth l i).s)
theorem DosAt.later {w w' : World} {g : Addr} {l : List DAct} (h : DosAt w g l) (hb : Below w.heap.size w w') : DosAt w' g l :=
  fun i hi => ⟨cell_later hb (h i hi).1, cell_later hb (h i hi).2.1, cell_later hb (h i hi).2.2.1, cell_later hb (h i hi).2.2.2.1, cell_later hb (h i hi).2.2.2.2.1, cell_later hb (h i hi).2.2.2.2.2.1, cell_later hb (h i hi).2.2.2.2.2.2.1, cell_later hb (h i hi).2.2.2.2.2.2.2.1, cell_later hb (h i hi).2.2.2.2.2.2.2.2.1, cell_later hb (h i hi).2.2.2.2.2.2.2.2.2.1, cell_later hb (h i hi).2.2.2.2.2.2.2.2.2.2.1, cell_later hb (h i hi).2.2.2.2.2.2.2.2.2.2.2⟩
/-- a slice of acts that came in -/
def ArgDos (w : World) (a : Option Addr) (n : Nat) (l : List DAct) : Prop := l.length = n ∧ (n = 0 ∨ ∃ g, a = some g ∧ DosAt w g l) ∧ ∀ i, i < n → Ra.IsU (dnth l i).s
end Go.Proofs.YtjdnahmdicamdaaGreatDoor
/- How a slice of acts on a floor that came in is opened, and what the listed errors give. -/
namespace Go.Proofs.YtjdnahmdicamdaaGreatDoor
open Go.ChangeShapes Go.WideShapes Go.ChangeAt Go.RowKit

theorem cellsAsk : Tryz.prog.cellsOf 34 = 8 := by kernel_rfl
theorem cellsDo : Tryz.prog.cellsOf 36 = 12 := by kernel_rfl
theorem cellsStr : Tryz.prog.cellsOf 9 = 1 := by kernel_rfl
theorem cellsU32 : Tryz.prog.cellsOf 23 = 1 := by kernel_rfl
theorem cellsU8 : Tryz.prog.cellsOf 5 = 1 := by kernel_rfl

set_option maxRecDepth 100000 in
theorem open_dos {H : Type} {enc : TypeId × Value → H} {w : World} {v : Value} {d : DataW H} {p : List MemPlace} (hv : ∃ a len cap, v = .slice a len cap)
    (h : DataW.Trod enc Tryz.prog w 0 (fun _ => true) true 22 v d p) : ∃ a n cap l, v = .slice a n cap ∧ ArgDos w a n l := by
  obtain ⟨a0, len0, cap0, rfl⟩ := hv
  obtain ⟨fuel, hf⟩ := h
  rcases Go.Deep.open_slice Tryz.underlying22 hf with ⟨hcs, _⟩ | ⟨a, len, cap, m, n, D, Pl, hcs, _, hl, _, hm, _, hx⟩
  · simp [Value.cells] at hcs
    obtain ⟨rfl, rfl, rfl⟩ := hcs
    exact ⟨none, 0, 0, [], rfl, rfl, .inl rfl, fun i hi => absurd hi (Nat.not_lt_zero i)⟩
  · simp [Value.cells] at hcs
    obtain ⟨rfl, rfl, rfl⟩ := hcs
    simp only [if_true] at hm
    have each : ∀ i, i < len0 → ∃ x : DAct, (∀ j, j < 12 → w.cell? (a.add (i * 12 + j)) = (doCells x)[j]?) ∧ Ra.IsU x.s := by
      intro i hi
      obtain ⟨cs', h1, h2⟩ := hx i (by omega)
      rw [cellsDo] at h1
      obtain ⟨_, hlen, hcell⟩ := World.cells?_some h1
      obtain ⟨xs, k, _, _, _, hxl, hf⟩ := DataW.trod_struct Tryz.underlying36 h2
      match xs, hxl, cs', hlen with
      | [y0, y1, y2, y3, y4], _, [c0, c1, c2, c3, c4, c5, c6, c7, c8, c9, c10, c11], _ =>
        have g0 := hf 0 _ rfl
        have g1 := hf 1 _ rfl
        have g2 := hf 2 _ rfl
        have g3 := hf 3 _ rfl
        have g4 := hf 4 _ rfl
        simp [cells3, cellsAsk, cellsStr, cellsU32] at g0 g1 g2 g3 g4
        obtain ⟨x0, e0, _, _⟩ := DataW.trod_string Tryz.underlying9 g0
        obtain ⟨ys, k1, _, _, _, hyl, hf1⟩ := DataW.trod_struct Tryz.underlying34 g1
        obtain ⟨x9, e9, _, _⟩ := DataW.trod_int Tryz.underlying3 g2
        obtain ⟨x10, e10, _, _⟩ := DataW.trod_int Tryz.underlying3 g3
        obtain ⟨x11, e11, _, wf⟩ := DataW.trod_int Tryz.underlying23 g4
        match ys, hyl with
        | [z0, z1, z2, z3, z4, z5, z6, z7], _ =>
          have k0 := hf1 0 _ rfl
          have k1 := hf1 1 _ rfl
          have k2 := hf1 2 _ rfl
          have k3 := hf1 3 _ rfl
          have k4 := hf1 4 _ rfl
          have k5 := hf1 5 _ rfl
          have k6 := hf1 6 _ rfl
          have k7 := hf1 7 _ rfl
          simp [cells3, cellsU8] at k0 k1 k2 k3 k4 k5 k6 k7
          obtain ⟨x1, e1, _, _⟩ := DataW.trod_int Tryz.underlying5 k0
          obtain ⟨x2, e2, _, _⟩ := DataW.trod_int Tryz.underlying3 k1
          obtain ⟨x3, e3, _, _⟩ := DataW.trod_int Tryz.underlying3 k2
          obtain ⟨x4, e4, _, _⟩ := DataW.trod_int Tryz.underlying3 k3
          obtain ⟨x5, e5, _, _⟩ := DataW.trod_int Tryz.underlying3 k4
          obtain ⟨x6, e6, _, _⟩ := DataW.trod_int Tryz.underlying3 k5
          obtain ⟨x7, e7, _, _⟩ := DataW.trod_int Tryz.underlying3 k6
          obtain ⟨x8, e8, _, _⟩ := DataW.trod_int Tryz.underlying3 k7
          simp at e0 e1 e2 e3 e4 e5 e6 e7 e8 e9 e10 e11
          subst e0 e1 e2 e3 e4 e5 e6 e7 e8 e9 e10 e11
          refine ⟨⟨x0, ⟨x1, x2, x3, x4, x5, x6, x7, x8⟩, x9, x10, x11⟩, fun j hj => ?_, ?_⟩
          · have := hcell j hj
            rw [Go.Deep.add_add] at this
            rw [this]
            rfl
          · have hh := wf
            simp [Lit.wf] at hh
            have e1 : IntKind.u32.min = 0 := rfl
            have e2 : IntKind.u32.max = 4294967295 := rfl
            show 0 ≤ x11 ∧ x11 < 4294967296
            exact ⟨by omega, by omega⟩
    have inh : Inhabited DAct := ⟨dz⟩
    obtain ⟨q, hq⟩ := Go.Deep.choose_lt each
    have hnth : ∀ i, i < len0 → dnth ((List.range len0).map q) i = q i := fun i hi => by
      unfold dnth
      rw [List.getD_eq_getElem?_getD, List.getElem?_map, List.getElem?_range hi]
      rfl
    refine ⟨some a, len0, cap0, (List.range len0).map q, rfl, by simp, .inr ⟨a, rfl, fun i hi => ?_⟩, fun i hi => by rw [hnth i hi]; exact (hq i hi).2⟩
    have hi' : i < len0 := by simpa using hi
    rw [hnth i hi']
    have e : ∀ j, 0 < j → a.add (i * 12 + j) = ⟨(a.add (i * 12)).block, (a.add (i * 12)).off + j, none⟩ := by
      intro j hj
      unfold Addr.add
      rw [if_neg (by omega)]
      split
      · simp_all
      · simp; omega
    exact ⟨(hq i hi').1 0 (by decide), by rw [← e 1 (by decide)]; exact (hq i hi').1 1 (by decide), by rw [← e 2 (by decide)]; exact (hq i hi').1 2 (by decide), by rw [← e 3 (by decide)]; exact (hq i hi').1 3 (by decide), by rw [← e 4 (by decide)]; exact (hq i hi').1 4 (by decide), by rw [← e 5 (by decide)]; exact (hq i hi').1 5 (by decide), by rw [← e 6 (by decide)]; exact (hq i hi').1 6 (by decide), by rw [← e 7 (by decide)]; exact (hq i hi').1 7 (by decide), by rw [← e 8 (by decide)]; exact (hq i hi').1 8 (by decide), by rw [← e 9 (by decide)]; exact (hq i hi').1 9 (by decide), by rw [← e 10 (by decide)]; exact (hq i hi').1 10 (by decide), by rw [← e 11 (by decide)]; exact (hq i hi').1 11 (by decide)⟩

theorem aer_of {W : World} (h : laidMet Tryz.prog [("gavelhouse/api.ErrBound", Rows.laid_gavelhouse_api_ErrBound), ("gavelhouse/api.ErrShape", Rows.laid_gavelhouse_api_ErrShape), ("gavelhouse/api.ErrKind", Rows.laid_gavelhouse_api_ErrKind), ("gavelhouse/api.ErrNone", Rows.laid_gavelhouse_api_ErrNone), ("gavelhouse/api.ErrExist", Rows.laid_gavelhouse_api_ErrExist), ("gavelhouse/api.ErrFull", Rows.laid_gavelhouse_api_ErrFull), ("gavelhouse/api.ErrPoor", Rows.laid_gavelhouse_api_ErrPoor), ("gavelhouse/api.ErrOrder", Rows.laid_gavelhouse_api_ErrOrder)] W) :
    ∃ ev, AEr W ev := by
  obtain ⟨a1, _, h1, _⟩ := one_sentinel h (g := 0) (by kernel_rfl) (by kernel_rfl)
  obtain ⟨a2, _, h2, _⟩ := one_sentinel h.tail (g := 7) (by kernel_rfl) (by kernel_rfl)
  obtain ⟨a3, _, h3, _⟩ := one_sentinel h.tail.tail (g := 3) (by kernel_rfl) (by kernel_rfl)
  obtain ⟨a5, _, h5, _⟩ := one_sentinel h.tail.tail.tail (g := 1) (by kernel_rfl) (by kernel_rfl)
  obtain ⟨a6, _, h6, _⟩ := one_sentinel h.tail.tail.tail.tail (g := 4) (by kernel_rfl) (by kernel_rfl)
  obtain ⟨a7, _, h7, _⟩ := one_sentinel h.tail.tail.tail.tail.tail (g := 2) (by kernel_rfl) (by kernel_rfl)
  obtain ⟨a9, _, h9, _⟩ := one_sentinel h.tail.tail.tail.tail.tail.tail (g := 5) (by kernel_rfl) (by kernel_rfl)
  obtain ⟨a11, _, h11, _⟩ := one_sentinel h.tail.tail.tail.tail.tail.tail.tail (g := 11) (by kernel_rfl) (by kernel_rfl)
  refine ⟨fun g => if g = 1 then .pointer (some a1) else if g = 2 then .pointer (some a2) else if g = 3 then .pointer (some a3) else if g = 5 then .pointer (some a5) else if g = 6 then .pointer (some a6) else if g = 7 then .pointer (some a7) else if g = 9 then .pointer (some a9) else .pointer (some a11), ⟨h1, h2, h3, h5, h6, h7, h9, h11⟩⟩
end Go.Proofs.YtjdnahmdicamdaaGreatDoor
/- A slice of lots of the call's own: what is left of it behind so much of the first; function without. -/
namespace Go.Proofs.YtjdnahmdicamdaaGreatDoor
open Go.RowKit
set_option maxRecDepth 100000

/-- a slice of lots in one block -/
def OwnL (w : World) (g : Nat) (v : Value) (l : List Cv.Lot) : Prop :=
  (l = [] ∧ ∃ a cap, v = .slice a 0 cap) ∨ ∃ o cap cur, v = .slice (some ⟨g, o, none⟩) l.length cap ∧ l.length ≤ cap ∧ LotsAt w g o l ∧ w.heap[g]? = some (.cells cur 56 (0, 0))
theorem OwnL.save {w w' : World} {g p : Nat} {v : Value} {l : List Cv.Lot} (h : OwnL w g v l) (hs : Save w w' p) (hne : g ≠ p) : OwnL w' g v l := by
  rcases h with h | ⟨o, cap, cur, h1, h2, h3, h4⟩
  · exact .inl h
  · refine .inr ⟨o, cap, cur, h1, h2, fun i hi => ?_, by rw [hs.block g (lt_of_block h4) hne]; exact h4⟩
    obtain ⟨c0, c1, c2, c3, c4⟩ := h3 i hi
    exact ⟨cell_save hs c0 hne, cell_save hs c1 hne, cell_save hs c2 hne, cell_save hs c3 hne, cell_save hs c4 hne⟩
theorem OwnL.of_row {w : World} {base : Nat} {v : Value} {l : List Cv.Lot} (h : w.ownsRow base 56 5 v l.length (flat l)) : ∃ g, OwnL w g v l ∧ (l = [] ∨ (base ≤ g ∧ v.ownBlock = some g)) := by
  rcases h.2 with ⟨e, e2⟩ | ⟨g, cap, cur, e, hg, hgg, hle, _, _, _⟩
  · exact ⟨0, .inl ⟨List.eq_nil_of_length_eq_zero e2, none, 0, e⟩, .inl (List.eq_nil_of_length_eq_zero e2)⟩
  · refine ⟨g, .inr ⟨0, cap, cur, e, hle, lotsAt_of_flat fun j u hu => ?_, hgg⟩, .inr ⟨hg, by rw [e]; rfl⟩⟩
    have := World.ownsRow.cells h (g := g) (by rw [e]; rfl) j u hu
    have hp : (⟨g, 0, none⟩ : Addr).add j = ⟨g, j, none⟩ := by unfold Addr.add; split <;> simp_all
    rwa [hp] at this
theorem nth_cons_zero (x : Cv.Lot) (l : List Cv.Lot) : Cv.nth (x :: l) 0 = x := rfl
theorem nth_cons_succ (x : Cv.Lot) (l : List Cv.Lot) (i : Nat) : Cv.nth (x :: l) (i + 1) = Cv.nth l i := rfl
theorem OwnL.head {w : World} {g : Nat} {v : Value} {x : Cv.Lot} {l : List Cv.Lot} (h : OwnL w g v (x :: l)) : ∃ o cap cur, v = .slice (some ⟨g, o, none⟩) (l.length + 1) cap ∧ l.length + 1 ≤ cap ∧ LotsAt w g o (x :: l) ∧ w.heap[g]? = some (.cells cur 56 (0, 0)) := by
  rcases h with ⟨h, _⟩ | ⟨o, cap, cur, h1, h2, h3, h4⟩
  · cases h
  · exact ⟨o, cap, cur, h1, h2, h3, h4⟩
theorem lotsAt_head {w : World} {g o : Nat} {x : Cv.Lot} {l : List Cv.Lot} (h : LotsAt w g o (x :: l)) : w.cell? ⟨g, o, none⟩ = some (.int .i64 x.id) ∧ w.cell? ⟨g, o + 1, none⟩ = some (.int .i64 x.ow) ∧ w.cell? ⟨g, o + 2, none⟩ = some (.int .i64 x.sd) ∧ w.cell? ⟨g, o + 3, none⟩ = some (.int .i64 x.pr) ∧ w.cell? ⟨g, o + 4, none⟩ = some (.int .i64 x.q) := by
  have := h 0 (by simp)
  simpa [nth_cons_zero] using this
/-- the first lot's quantity is another one -/
theorem lotsAt_set {w : World} {g o : Nat} {x : Cv.Lot} {l : List Cv.Lot} {cur : Array Value} (h : LotsAt w g o (x :: l)) (hg : w.heap[g]? = some (.cells cur 56 (0, 0))) (q : Int) :
    LotsAt (w.setCell ⟨g, o + 4, none⟩ (.int .i64 (x.q - q))) g o (Bk.less x q :: l) ∧ LotsAt (w.setCell ⟨g, o + 4, none⟩ (.int .i64 (x.q - q))) g (o + 5) l ∧ ∃ cur', (w.setCell ⟨g, o + 4, none⟩ (.int .i64 (x.q - q))).heap[g]? = some (.cells cur' 56 (0, 0)) := by
  have he : ∀ j, j ≠ o + 4 → (w.setCell ⟨g, o + 4, none⟩ (.int .i64 (x.q - q))).cell? ⟨g, j, none⟩ = w.cell? ⟨g, j, none⟩ := fun j hj => by
    rw [setCell_eq_setRow w g (o + 4) _ _ _ _ hg, cell_of_row _ g j _ _ _ (setRow_heap w g _ _ _ _ hg), cell_of_row w g j _ _ _ hg, Array.getElem?_setIfInBounds_ne (by omega)]
  have hs : (w.setCell ⟨g, o + 4, none⟩ (.int .i64 (x.q - q))).cell? ⟨g, o + 4, none⟩ = some (.int .i64 (x.q - q)) := by
    have hc := (lotsAt_head h).2.2.2.2
    rw [cell_of_row w g (o + 4) _ _ _ hg] at hc
    have hlt : o + 4 < cur.size := by
      rcases Nat.lt_or_ge (o + 4) cur.size with h' | h'
      · exact h'
      · rw [Array.getElem?_eq_none h'] at hc; cases hc
    rw [setCell_eq_setRow w g (o + 4) _ _ _ _ hg, cell_of_row _ g (o + 4) _ _ _ (setRow_heap w g _ _ _ _ hg), Array.getElem?_setIfInBounds_self_of_lt hlt]
  have htail : ∀ i, i < l.length → w.cell? ⟨g, o + (i + 1) * 5, none⟩ = some (.int .i64 (Cv.nth l i).id) ∧ w.cell? ⟨g, o + (i + 1) * 5 + 1, none⟩ = some (.int .i64 (Cv.nth l i).ow) ∧ w.cell? ⟨g, o + (i + 1) * 5 + 2, none⟩ = some (.int .i64 (Cv.nth l i).sd) ∧ w.cell? ⟨g, o + (i + 1) * 5 + 3, none⟩ = some (.int .i64 (Cv.nth l i).pr) ∧ w.cell? ⟨g, o + (i + 1) * 5 + 4, none⟩ = some (.int .i64 (Cv.nth l i).q) := fun i hi => h (i + 1) (by simp; omega)
  refine ⟨fun i hi => ?_, fun i hi => ?_, ?_⟩
  · cases i with
    | zero =>
      obtain ⟨c0, c1, c2, c3, c4⟩ := lotsAt_head h
      rw [nth_cons_zero]
      refine ⟨?_, ?_, ?_, ?_, ?_⟩
      · rw [show o + 0 * 5 = o by omega, he _ (by omega)]; exact c0
      · rw [show o + 0 * 5 + 1 = o + 1 by omega, he _ (by omega)]; exact c1
      · rw [show o + 0 * 5 + 2 = o + 2 by omega, he _ (by omega)]; exact c2
      · rw [show o + 0 * 5 + 3 = o + 3 by omega, he _ (by omega)]; exact c3
      · rw [show o + 0 * 5 + 4 = o + 4 by omega]; exact hs
    | succ i =>
      obtain ⟨c0, c1, c2, c3, c4⟩ := htail i (by simp at hi; omega)
      rw [nth_cons_succ, he _ (by omega), he _ (by omega), he _ (by omega), he _ (by omega), he _ (by omega)]
      exact ⟨c0, c1, c2, c3, c4⟩
  · obtain ⟨c0, c1, c2, c3, c4⟩ := htail i hi
    rw [show o + 5 + i * 5 = o + (i + 1) * 5 by omega, he _ (by omega), he _ (by omega), he _ (by omega), he _ (by omega), he _ (by omega)]
    exact ⟨c0, c1, c2, c3, c4⟩
  · exact ⟨_, by rw [setCell_eq_setRow w g (o + 4) _ _ _ _ hg]; exact setRow_heap w g _ _ _ _ hg⟩

set_option maxHeartbeats 1000000 in
theorem without_any (g : Nat) (v : Value) (x : Cv.Lot) (l : List Cv.Lot) (q : Int) (w : World) (hv : Hid (OwnL w g v (x :: l))) (h1 : 1 ≤ x.q) (h2 : x.q ≤ 1000) (h3 : 1 ≤ q) (h4 : q ≤ 1000) (hn : l.length ≤ 1000) :
    Calls Tryz.prog 121 #[v, .int .i64 q] w fun e w' => ∃ v', e = .returned v' ∧ OwnL w' g v' (Fs.wo (x :: l) q) ∧ Save w w' g := by
  obtain ⟨o, cap, cur, rfl, hcap, hl, hg⟩ := hv.out.head
  have hc := (lotsAt_head hl).2.2.2.2
  obtain ⟨hL1, hL2, cur', hg'⟩ := lotsAt_set hl hg q
  have hfr : w.frozen? ⟨g, o + 4, none⟩ = false := by simp [World.frozen?, hg]
  have hc' : (w.setCell ⟨g, o + 4, none⟩ (.int .i64 (x.q - q))).cell? ⟨g, o + 4, none⟩ = some (.int .i64 (x.q - q)) := by
    have := (lotsAt_head hL1).2.2.2.2
    exact this
  have HSV : Hid (Save w (w.setCell ⟨g, o + 4, none⟩ (.int .i64 (x.q - q))) g) := Save.setCell _ _ _ _
  have HL1 := hide hL1; have HL2 := hide hL2; have HG := hide hg'
  clear hl hg hL1 hL2 hg' hv
  generalize hW : w.setCell ⟨g, o + 4, none⟩ (.int .i64 (x.q - q)) = W at *
  have HW := hide hW
  clear hW
  have hpos : (0 : Int) < ((l.length + 1 : Nat) : Int) := by omega
  generalize hm : l.length = m at *
  have Hm := hide hm
  clear hm
  by_cases he : x.q - q = 0
  · have HWO : Hid (Fs.wo (x :: l) q = l) := by show _ = _; rw [Fs.wo_cons, if_pos he]
    rw [he] at HW
    by_cases hcp : cap = 1
    · subst hcp
      have hm0 : m = 0 := by omega
      subst hm0
      go_enter Tryz.func121, Tryz.ntmps121
      go_wp2
      go_ret
      rw [HW.out]
      refine ⟨_, rfl, ?_, HSV.out⟩
      rw [HWO.out]
      exact .inl ⟨List.eq_nil_of_length_eq_zero Hm.out, _, _, rfl⟩
    · have h1m : (1 : Int) ≤ ((m + 1 : Nat) : Int) := by omega
      go_enter Tryz.func121, Tryz.ntmps121
      go_wp2
      go_ret
      rw [HW.out]
      refine ⟨_, rfl, ?_, HSV.out⟩
      rw [HWO.out]
      refine .inr ⟨o + 5, cap - 1, cur', ?_, by rw [Hm.out]; omega, HL2.out, HG.out⟩
      rw [Hm.out]
      rfl
  · have HWO : Hid (Fs.wo (x :: l) q = Bk.less x q :: l) := by show _ = _; rw [Fs.wo_cons, if_neg he]
    go_enter Tryz.func121, Tryz.ntmps121
    go_wp2
    go_ret
    rw [HW.out]
    refine ⟨_, rfl, ?_, HSV.out⟩
    rw [HWO.out]
    exact .inr ⟨o, cap, cur', by simp [Hm.out], by simp [Hm.out]; omega, HL1.out, HG.out⟩
end Go.Proofs.YtjdnahmdicamdaaGreatDoor
