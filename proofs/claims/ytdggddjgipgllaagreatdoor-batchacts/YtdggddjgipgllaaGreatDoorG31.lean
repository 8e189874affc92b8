/- The document's floor in memory: three books, three bands, a purse. -/
import Derived.Test.YtdggddjgipgllaaGreatDoorG03
import Derived.Test.YtdggddjgipgllaaGreatDoorG23
import Derived.Test.YtdggddjgipgllaaGreatDoorG25
import Derived.Test.YtdggddjgipgllaaGreatDoorG27
import Derived.Test.YtdggddjgipgllaaGreatDoorG30
import Derived.Test.YtdggddjgipgllaaGreatDoorG06
import Derived.Test.YtdggddjgipgllaaGreatDoorG05
import Derived.Test.YtdggddjgipgllaaGreatDoorG28
namespace Go.Proofs.YtdggddjgipgllaaGreatDoor
open Go.RowKit
set_option maxRecDepth 100000

def floorA (b : Nat → Nat) (n : Nat → Int) (P : Nat) (wd h : Int) : Array Value :=
 #[.pointer (some ⟨b 0, 0, none⟩), .pointer (some ⟨b 1, 0, none⟩), .pointer (some ⟨b 2, 0, none⟩), .int .i64 (n 0), .int .i64 (n 1), .int .i64 (n 2), .int .i64 (n 3), .int .i64 (n 4), .int .i64 (n 5), .pointer (some ⟨P, 0, none⟩), .int .i64 wd, .int .i64 h]

def rowAt (w : World) (p : Nat) : Option Nat := match w.heap[p]? with
 | some (.cells a _ _) => (a[0]?).bind Value.ownBlock
 | _ => none
structure MFr (w W : World) (F P : Nat) (b : Nat → Nat) (v : Nat → Value) : Prop where
 os : W.os = w.os
 tape : W.tape = w.tape
 output : W.output = w.output
 size : w.heap.size ≤ W.heap.size
 keep : ∀ k, k < w.heap.size → k ≠ F → k ≠ P → (∀ i, i < 3 → k ≠ b i ∧ rowAt w (b i) ≠ some k) → W.heap[k]? = w.heap[k]?
 new : ∀ i, i < 3 → ∀ k, (v i).ownBlock = some k → rowAt w (b i) = some k ∨ w.heap.size ≤ k
theorem MFr.step {w W W' : World} {F P : Nat} {b : Nat → Nat} {v v' : Nat → Value} (h : MFr w W F P b v) (h1 : W'.os = W.os) (h2 : W'.tape = W.tape) (h3 : W'.output = W.output) (h4 : W.heap.size ≤ W'.heap.size)
  (hk : ∀ k, k < w.heap.size → k ≠ F → k ≠ P → (∀ i, i < 3 → k ≠ b i ∧ (v i).ownBlock ≠ some k) → W'.heap[k]? = W.heap[k]?) (hn : ∀ i, i < 3 → ∀ k, (v' i).ownBlock = some k → (v i).ownBlock = some k ∨ W.heap.size ≤ k) : MFr w W' F P b v' := by
 refine ⟨h1.trans h.os, h2.trans h.tape, h3.trans h.output, Nat.le_trans h.size h4, fun k hw hF hP hb => ?_, fun i hi k e => ?_⟩
 ·rw [hk k hw hF hP (fun i hi => ⟨(hb i hi).1, fun e => ?_⟩)]
  ·exact h.keep k hw hF hP hb
  ·rcases h.new i hi k e with h5 | h5
   ·exact (hb i hi).2 h5
   ·omega
 ·rcases hn i hi k e with h5 | h5
  ·exact h.new i hi k h5
  ·exact .inr (Nat.le_trans h.size h5)
structure MFl (w W : World) (F P : Nat) (b : Nat → Nat) (v : Nat → Value) (L : Nat → List Cv.Lot) (pf n : Nat → Int) (wd h : Int) : Prop where
 blk : W.heap[F]? = some (.cells (floorA b n P wd h) 136 (0, 0))
 bk : ∀ i, i < 3 → MBook W 0 (b i) (v i) (L i)
 ne : ∀ i j, i < 3 → j < 3 → i ≠ j → b i ≠ b j
 ap : ∀ i j, i < 3 → j < 3 → i ≠ j → ∀ k, (v i).ownBlock = some k → (v j).ownBlock ≠ some k
 pu : Purse W 131 P pf
 bl : MFr w W F P b v

section
variable {w W W' : World} {F P : Nat} {b : Nat → Nat} {v : Nat → Value} {L : Nat → List Cv.Lot} {pf n : Nat → Int} {wd h : Int}

theorem MFl.later (hf : MFl w W F P b v L pf n wd h) (hb : Below W.heap.size W W') : MFl w W' F P b v L pf n wd h :=
 ⟨by rw [hb.block F (lt_of_block hf.blk)]; exact hf.blk, fun i hi => (hf.bk i hi).later hb, hf.ne, hf.ap, hf.pu.lat hb, hf.bl.step hb.os hb.tape hb.output hb.size (fun k hk _ _ _ => hb.block k (Nat.lt_of_lt_of_le hk hf.bl.size)) (fun _ _ _ e => .inl e)⟩
theorem MFl.cell (hf : MFl w W F P b v L pf n wd h) {i : Nat} (hi : i < 3) : W.cell? ⟨F, i, none⟩ = some (.pointer (some ⟨b i, 0, none⟩)) := by
 rw [cell_of_row W F i _ _ _ hf.blk]
 have : i = 0 ∨ i = 1 ∨ i = 2 := by omega
 rcases this with rfl | rfl | rfl <;> rfl
theorem MFl.cellP (hf : MFl w W F P b v L pf n wd h) : W.cell? ⟨F, 9, none⟩ = some (.pointer (some ⟨P, 0, none⟩)) := by
 rw [cell_of_row W F 9 _ _ _ hf.blk]; rfl
theorem MFl.lt (hf : MFl w W F P b v L pf n wd h) : F < W.heap.size := lt_of_block hf.blk
theorem MFl.book (hf : MFl w W F P b v L pf n wd h) {i : Nat} (hi : i < 3) {v' : Value} {L' : List Cv.Lot} (hb : MBook W' 0 (b i) v' L') (hs : Step W W' (b i) (v i) v') : MFl w W' F P b (upd v i v') (upd L i L') pf n wd h := by
 have hbi := hf.bk i hi
 have other : ∀ {q : Nat} {a : Array Value} {T : TypeId}, W.heap[q]? = some (.cells a T (0, 0)) → T ≠ 56 → T ≠ 138 → W'.heap[q]? = some (.cells a T (0, 0)) := fun {q a T} hq h1 h2 => by
  rw [hs.only.block q (lt_of_block hq) (fun e => ?_) (fun e => rowT hbi.row hq h1 e.symm)]
  ·exact hq
  ·have : q = b i := by simpa using e
   rw [this, hbi.cell] at hq
   simp only [Option.some.injEq, Obj.cells.injEq] at hq
   exact h2 hq.2.1.symm
 refine ⟨other hf.blk (by decide) (by decide), fun j hj => ?_, hf.ne, fun j k hj hk hjk m hm => ?_, other hf.pu (by decide) (by decide), hf.bl.step hs.only.os hs.only.tape hs.only.output hs.only.size (fun k hk _ _ h5 => hs.only.block k (Nat.lt_of_lt_of_le hk hf.bl.size) (fun e => (h5 i hi).1 (by simpa using e)) (fun e => (h5 i hi).2 e.symm)) (fun j hj k e => ?_)⟩
 ·by_cases hji : j = i
  ·subst hji; rw [upd_same, upd_same]; exact hb
  ·rw [upd_ne _ _ hji, upd_ne _ _ hji]
   refine (hf.bk j hj).only hs.only (by simp; exact hf.ne j i hj hi hji) (fun e => rowT hbi.row (hf.bk j hj).cell (by decide) e.symm) (fun k hk e => ?_) (fun k hk e => hf.ap j i hj hi hji k hk e.symm)
   have : k = b i := by simpa using e
   subst this
   exact rowT (hf.bk j hj).row hbi.cell (by decide) hk
 ·by_cases hji : j = i
  ·subst hji
   rw [upd_same] at hm
   rw [upd_ne _ _ (Ne.symm hjk)]
   rcases hs.new m hm with h1 | h1
   ·exact hf.ap j k hj hk hjk m h1
   ·intro e
    have := ((hf.bk k hk).rowLt m e).2
    omega
  ·rw [upd_ne _ _ hji] at hm
   by_cases hki : k = i
   ·subst hki
    rw [upd_same]
    intro e
    rcases hs.new m e with h1 | h1
    ·exact hf.ap j k hj hk hjk m hm h1
    ·have := ((hf.bk j hj).rowLt m hm).2
     omega
   ·rw [upd_ne _ _ hki]; exact hf.ap j k hj hk hjk m hm
 ·by_cases hji : j = i
  ·subst hji; rw [upd_same] at e; exact hs.new k e
  ·rw [upd_ne _ _ hji] at e; exact .inl e
theorem MFl.purse (hf : MFl w W F P b v L pf n wd h) {f' : Nat → Int} (hp : Purse W' 131 P f') (hs : Save W W' P) : MFl w W' F P b v L f' n wd h := by
 have hpt : ∀ {q : Nat} {a : Array Value} {T : TypeId}, W.heap[q]? = some (.cells a T (0, 0)) → T ≠ 131 → q ≠ P := fun {q a T} hq hT e => by
  rw [e, show W.heap[P]? = _ from hf.pu] at hq
  simp only [Option.some.injEq, Obj.cells.injEq] at hq
  exact hT hq.2.1.symm
 have ho : Only W W' (some P) none := ⟨hs.os, hs.tape, hs.output, hs.size, fun k hk h1 _ => hs.block k hk (fun e => h1 (by rw [e]))⟩
 refine ⟨by rw [hs.block F (lt_of_block hf.blk) (hpt hf.blk (by decide))]; exact hf.blk, fun i hi => ?_, hf.ne, hf.ap, hp, hf.bl.step hs.os hs.tape hs.output hs.size (fun k hk _ h4 _ => hs.block k (Nat.lt_of_lt_of_le hk hf.bl.size) h4) (fun _ _ _ e => .inl e)⟩
 exact (hf.bk i hi).only ho (by simp; exact hpt (hf.bk i hi).cell (by decide)) (by simp) (fun k hk e => by
  have : k = P := by simpa using e
  subst this
  exact rowT (hf.bk i hi).row hf.pu (by decide) hk) (fun _ _ => by simp)
theorem MFl.aside (hf : MFl w W F P b v L pf n wd h) {q : Nat} {a : Array Value} {T : TypeId} (hq : W.heap[q]? = some (.cells a T (0, 0))) (h1 : T ≠ 136) (h2 : T ≠ 138) (h3 : T ≠ 131) (h4 : ∀ i, i < 3 → (v i).ownBlock ≠ some q) (hlo : w.heap.size ≤ q) (hs : Save W W' q) : MFl w W' F P b v L pf n wd h := by
 have hne : ∀ {r : Nat} {c : Array Value} {U : TypeId}, W.heap[r]? = some (.cells c U (0, 0)) → T ≠ U → r ≠ q := fun {r c U} hr hT e => by
  rw [e, hq] at hr
  simp only [Option.some.injEq, Obj.cells.injEq] at hr
  exact hT hr.2.1
 have ho : Only W W' (some q) none := ⟨hs.os, hs.tape, hs.output, hs.size, fun k hk h1 _ => hs.block k hk (fun e => h1 (by rw [e]))⟩
 refine ⟨by rw [hs.block F (lt_of_block hf.blk) (hne hf.blk h1)]; exact hf.blk, fun i hi => ?_, hf.ne, hf.ap, hf.pu.save hs (hne hf.pu h3), hf.bl.step hs.os hs.tape hs.output hs.size (fun k hk _ _ _ => hs.block k (Nat.lt_of_lt_of_le hk hf.bl.size) (by omega)) (fun _ _ _ e => .inl e)⟩
 exact (hf.bk i hi).only ho (by simp; exact hne (hf.bk i hi).cell h2) (by simp) (fun k hk e => by
  have : k = q := by simpa using e
  subst this
  exact h4 i hi hk) (fun _ _ => by simp)
theorem MFl.start (hf : MFl w W F P b v L pf n wd h) : MFl W W F P b v L pf n wd h := by
 refine ⟨hf.blk, hf.bk, hf.ne, hf.ap, hf.pu, rfl, rfl, rfl, Nat.le_refl _, fun _ _ _ _ _ => rfl, fun i hi k e => .inl ?_⟩
 unfold rowAt
 rw [(hf.bk i hi).cell]
 exact e
theorem MFl.rowAt (hf : MFl w W F P b v L pf n wd h) {i : Nat} (hi : i < 3) : rowAt W (b i) = (v i).ownBlock := by
 unfold Go.Proofs.YtdggddjgipgllaaGreatDoor.rowAt
 rw [(hf.bk i hi).cell]
 rfl
end

namespace Fl
end Fl
set_option maxHeartbeats 1000000 in
theorem kindError_any (a : Ask) (k : Int) (w : World) (hk : 0 ≤ k ∧ k < 256) : Calls Tryz.prog 60 #[askV a, .int .u8 k] w fun e w' => e = .returned (.int .i64 (Fl.kindN a k)) ∧ Below w.heap.size w w' := by
 obtain ⟨ak, ac, asq, ait, asd, apr, aq, aid⟩ := a
 show Calls Tryz.prog 60 #[.agg #[.int .u8 ak, .int .i64 ac, .int .i64 asq, .int .i64 ait, .int .i64 asd, .int .i64 apr, .int .i64 aq, .int .i64 aid], .int .u8 k] w _
 have HA := hide (fun W => askError_any ak ac asq ait asd apr aq aid W)
 have hb0 : Below w.heap.size w (w.alloc (.cells #[.int .u8 ak, .int .i64 ac, .int .i64 asq, .int .i64 ait, .int .i64 asd, .int .i64 apr, .int .i64 aq, .int .i64 aid] 34)) := bal
 have hr0 : (w.alloc (.cells #[.int .u8 ak, .int .i64 ac, .int .i64 asq, .int .i64 ait, .int .i64 asd, .int .i64 apr, .int .i64 aq, .int .i64 aid] 34)).heap[w.heap.size]? = some (.cells #[.int .u8 ak, .int .i64 ac, .int .i64 asq, .int .i64 ait, .int .i64 asd, .int .i64 apr, .int .i64 aq, .int .i64 aid] 34 (0, 0)) := heap_alloc_new _ _
 have HB0 := hide hb0; have HR0 := hide hr0
 clear hb0 hr0
 have HK : Hid (Fl.kindN ⟨ak, ac, asq, ait, asd, apr, aq, aid⟩ k = if Wi.code ak ac asq ait asd apr aq aid = 0 ∧ ak ≠ k then (4 : Int) else ((Wi.code ak ac asq ait asd apr aq aid : Nat) : Int)) := rfl
 generalize Fl.kindN ⟨ak, ac, asq, ait, asd, apr, aq, aid⟩ k = KN at *
 generalize Wi.code ak ac asq ait asd apr aq aid = cd at *
 go_enter Tryz.func60, Tryz.ntmps60
 go_wp2_with fail
 refine (HA.out _).mono ?_
 rintro e w2 ⟨rfl, hb2⟩
 have HB2 := hide (HB0.out.trans (hb2.mono HB0.out.size))
 have c0 : w2.cell? ⟨w.heap.size, 0, none⟩ = some (.int .u8 ak) := by rw [cell_of_row w2 _ 0 _ _ _ (by rw [hb2.block _ (lt_of_block HR0.out)]; exact HR0.out)]; rfl
 clear hb2 HA HB0 HR0
 simp only []
 by_cases hc : cd = 0
 ·subst hc
  by_cases he : ak = k
  ·subst he
   go_wp2
   go_ret
   exact ⟨by rw [HK.out]; simp, HB2.out⟩
  ·have he' : (ak != k) = true := by simpa using he
   go_wp2
   go_ret
   exact ⟨by rw [HK.out]; simp [he], HB2.out⟩
 ·have hc' : ¬ ((cd : Nat) : Int) = 0 := by omega
  go_wp2
  go_ret
  exact ⟨by rw [HK.out]; simp [hc], HB2.out⟩
namespace Fl
end Fl

section
variable {w W : World} {F P : Nat} {b : Nat → Nat} {v : Nat → Value} {L : Nat → List Cv.Lot} {pf n : Nat → Int} {wd h : Int}

theorem mplace_kind (a : Ask) (hF : Hid (MFl w W F P b v L pf n wd h)) (hk : Hid (Fl.kindN a 111 ≠ 0)) :
  Calls Tryz.prog 29 #[.pointer (some ⟨F, 0, none⟩), askV a] W fun e W' => e = .returned (.int .i64 (p_errNo (Fl.placeC L pf a))) ∧ ∃ v', MFl w W' F P b v' (Fl.placeL L pf a) (Fl.placeF L pf a) n wd h := by
 have hpos := Fl.kindN_pos hk.out
 have hC : Fl.placeC L pf a = (Fl.kindN a 111 - 1).toNat := by unfold Fl.placeC; rw [if_neg hk.out]
 have hne : Fl.placeC L pf a ≠ 0 := by omega
 rw [show Fl.placeL L pf a = L by unfold Fl.placeL; rw [if_neg hne], show Fl.placeF L pf a = pf by unfold Fl.placeF; rw [if_neg hne], show p_errNo (Fl.placeC L pf a) = Fl.kindN a 111 by unfold p_errNo; rw [if_neg hne, hC]; omega]
 have HK := hide (fun W => kindError_any a 111 W (by decide))
 generalize Fl.kindN a 111 = kn at *
 clear hC hne
 obtain ⟨ak, ac, asq, ait, asd, apr, aq, aid⟩ := a
 unfold askV askA at HK ⊢
 simp only [] at HK ⊢
 have hb0 : Below W.heap.size W (W.alloc (.cells #[.int .u8 ak, .int .i64 ac, .int .i64 asq, .int .i64 ait, .int .i64 asd, .int .i64 apr, .int .i64 aq, .int .i64 aid] 34)) := bal
 have HB0 := hide hb0
 clear hb0
 have hp : 0 < kn := by omega
 go_enter Tryz.func29, Tryz.ntmps29
 go_wp2_with fail
 refine (HK.out _).mono ?_
 rintro e w2 ⟨rfl, hb2⟩
 have HB2 := hide (HB0.out.trans (hb2.mono HB0.out.size))
 clear hb2 HK HB0
 simp only []
 go_wp2
 go_ret
 exact ⟨rfl, v, hF.out.later HB2.out⟩

set_option maxHeartbeats 2000000 in
theorem mplace_fine (a : Ask) (hF : Hid (MFl w W F P b v L pf n wd h)) (hg : Hid (Pu.Good pf)) (hl : Hid (∀ i, i < 3 → (L i).length ≤ 60)) (hk : Hid (Fl.kindN a 111 = 0)) :
  Calls Tryz.prog 29 #[.pointer (some ⟨F, 0, none⟩), askV a] W fun e W' => e = .returned (.int .i64 (p_errNo (Fl.placeC L pf a))) ∧ ∃ v', MFl w W' F P b v' (Fl.placeL L pf a) (Fl.placeF L pf a) n wd h := by
 have hit := Fl.place_item hk.out
 obtain ⟨i, hi⟩ : ∃ i : Nat, a.it = i := ⟨a.it.toNat, by omega⟩
 have hi3 : i < 3 := by omega
 have hC0 : Fl.placeC L pf a = if Cv.ok (Fl.lot a) = true then (if Cv.has (L i) a.id = true then 6 else if 60 ≤ (L i).length then 7 else Pu.holdC pf a.it (Fl.lot a)) else 1 := by
  unfold Fl.placeC; rw [if_pos hk.out, show a.it.toNat = i by omega]
 have hC1 : Cv.ok (Fl.lot a) = false → Fl.placeC L pf a = 1 := fun h => by rw [hC0, if_neg (by rw [h]; simp)]
 have hC2 : Cv.ok (Fl.lot a) = true → Cv.has (L i) a.id = true → Fl.placeC L pf a = 6 := fun h h2 => by rw [hC0, if_pos h, if_pos h2]
 have hC3 : Cv.ok (Fl.lot a) = true → Cv.has (L i) a.id = false → 60 ≤ (L i).length → Fl.placeC L pf a = 7 := fun h h2 h3 => by rw [hC0, if_pos h, if_neg (by rw [h2]; simp), if_pos h3]
 have hC4 : Cv.ok (Fl.lot a) = true → Cv.has (L i) a.id = false → ¬ 60 ≤ (L i).length → Fl.placeC L pf a = Pu.holdC pf a.it (Fl.lot a) := fun h h2 h3 => by rw [hC0, if_pos h, if_neg (by rw [h2]; simp), if_neg h3]
 clear hC0
 have hL0 : Fl.placeC L pf a = 0 → Fl.placeL L pf a = upd L i (L i ++ [Fl.lot a]) := fun h => by unfold Fl.placeL; rw [if_pos h, show a.it.toNat = i by omega]
 have hL1 : Fl.placeC L pf a ≠ 0 → Fl.placeL L pf a = L := fun h => by unfold Fl.placeL; rw [if_neg h]
 have hF0 : Fl.placeC L pf a = 0 → Fl.placeF L pf a = Pu.holdF pf a.it (Fl.lot a) := fun h => by unfold Fl.placeF; rw [if_pos h]
 have hF1 : Fl.placeC L pf a ≠ 0 → Fl.placeF L pf a = pf := fun h => by unfold Fl.placeF; rw [if_neg h]
 have HK := hide (fun W => kindError_any a 111 W (by decide))
 rw [hk.out] at HK
 have HLE := hide (fun W => lotError_any (Fl.lot a) W)
 generalize Fl.placeC L pf a = pc at *
 generalize Fl.placeL L pf a = Lf at *
 generalize Fl.placeF L pf a = Ff at *
 obtain ⟨ak, ac, asq, ait, asd, apr, aq, aid⟩ := a
 simp only [] at hi
 subst hi
 unfold askV askA at HK ⊢
 unfold lotV Fl.lot at HLE
 simp only [Fl.lot] at HK HLE hC1 hC2 hC3 hC4 hL0 hF0
 simp only []
 have HC1 := hide hC1; have HC2 := hide hC2; have HC3 := hide hC3; have HC4 := hide hC4
 have HL0 := hide hL0; have HL1 := hide hL1; have HF0 := hide hF0; have HF1 := hide hF1
 clear hC1 hC2 hC3 hC4 hL0 hL1 hF0 hF1 hit hk
 have hb0 : Below W.heap.size W (W.alloc (.cells #[.int .u8 ak, .int .i64 ac, .int .i64 asq, .int .i64 i, .int .i64 asd, .int .i64 apr, .int .i64 aq, .int .i64 aid] 34)) := bal
 have hr0 : (W.alloc (.cells #[.int .u8 ak, .int .i64 ac, .int .i64 asq, .int .i64 i, .int .i64 asd, .int .i64 apr, .int .i64 aq, .int .i64 aid] 34)).heap[W.heap.size]? = some (.cells #[.int .u8 ak, .int .i64 ac, .int .i64 asq, .int .i64 i, .int .i64 asd, .int .i64 apr, .int .i64 aq, .int .i64 aid] 34 (0, 0)) := heap_alloc_new _ _
 have HB0 := hide hb0; have HR0 := hide hr0
 clear hb0 hr0
 obtain ⟨A, hA⟩ : ∃ A, W.heap.size = A := ⟨_, rfl⟩
 have HAe := hide hA
 clear hA
 go_enter Tryz.func29, Tryz.ntmps29
 go_wp2_with fail
 refine (HK.out _).mono ?_
 rintro e w2 ⟨rfl, hb2⟩
 have HB2 := hide (HB0.out.trans (hb2.mono HB0.out.size))
 have HR2 : Hid (w2.heap[A]? = some (.cells #[.int .u8 ak, .int .i64 ac, .int .i64 asq, .int .i64 i, .int .i64 asd, .int .i64 apr, .int .i64 aq, .int .i64 aid] 34 (0, 0))) := by show _ = _; rw [← HAe.out, hb2.block _ (lt_of_block HR0.out)]; exact HR0.out
 have HF2 := hide (hF.out.later HB2.out)
 rw [HAe.out]
 clear hb2 HK HB0 HR0 HB2 HAe
 have k1 : w2.cell? ⟨A, 1, none⟩ = some (.int .i64 ac) := cof HR2.out rfl
 have k4 : w2.cell? ⟨A, 4, none⟩ = some (.int .i64 asd) := cof HR2.out rfl
 have k5 : w2.cell? ⟨A, 5, none⟩ = some (.int .i64 apr) := cof HR2.out rfl
 have k6 : w2.cell? ⟨A, 6, none⟩ = some (.int .i64 aq) := cof HR2.out rfl
 have k7 : w2.cell? ⟨A, 7, none⟩ = some (.int .i64 aid) := cof HR2.out rfl
 have hAl : A < w2.heap.size := lt_of_block HR2.out
 obtain ⟨w3, hw3⟩ : ∃ w3, w2.alloc (.cells #[.int .i64 aid, .int .i64 ac, .int .i64 asd, .int .i64 apr, .int .i64 aq] 56) = w3 := ⟨_, rfl⟩
 obtain ⟨B, hB⟩ : ∃ B, w2.heap.size = B := ⟨_, rfl⟩
 have hb3 : Below w2.heap.size w2 w3 := by rw [← hw3]; exact bal
 have HX3 : Hid (w3.heap[B]? = some (.cells #[.int .i64 aid, .int .i64 ac, .int .i64 asd, .int .i64 apr, .int .i64 aq] 56 (0, 0))) := by show _ = _; rw [← hw3, ← hB]; exact heap_alloc_new _ _
 have HR3 : Hid (w3.heap[A]? = some (.cells #[.int .u8 ak, .int .i64 ac, .int .i64 asq, .int .i64 i, .int .i64 asd, .int .i64 apr, .int .i64 aq, .int .i64 aid] 34 (0, 0))) := by show _ = _; rw [hb3.block _ hAl]; exact HR2.out
 have HF3 := hide (HF2.out.later hb3)
 have HW3 := hide hw3; have HBe := hide hB
 clear hb3 hw3 hB
 simp only []
 go_wp2_with fail
 rw [HW3.out, HBe.out]
 refine (HLE.out _).mono ?_
 rintro e w4 ⟨rfl, hb4⟩
 have HX4 : Hid (w4.heap[B]? = some (.cells #[.int .i64 aid, .int .i64 ac, .int .i64 asd, .int .i64 apr, .int .i64 aq] 56 (0, 0))) := rof hb4 HX3.out
 have HR4 : Hid (w4.heap[A]? = some (.cells #[.int .u8 ak, .int .i64 ac, .int .i64 asq, .int .i64 i, .int .i64 asd, .int .i64 apr, .int .i64 aq, .int .i64 aid] 34 (0, 0))) := rof hb4 HR3.out
 have HF4 := hide (HF3.out.later hb4)
 clear hb4 HLE HX3 HR3 HF3 HF2 HR2 HW3 HBe k1 k4 k5 k6 k7 hAl
 have a3 : w4.cell? ⟨A, 3, none⟩ = some (.int .i64 i) := cof HR4.out rfl
 have fi := HF4.out.cell hi3
 have hii : (0 : Int) ≤ (i : Int) := by omega
 have hi3' : (i : Int) < 3 := by omega
 simp only []
 go_wp2_with fail
 go_quiet (fail)
 have hbq : Below w4.heap.size w4 (w4.drewN nq) := blw_drew nq
 have HX5 : Hid ((w4.drewN nq).heap[B]? = some (.cells #[.int .i64 aid, .int .i64 ac, .int .i64 asd, .int .i64 apr, .int .i64 aq] 56 (0, 0))) := HX4.out
 have HR5 : Hid ((w4.drewN nq).heap[A]? = some (.cells #[.int .u8 ak, .int .i64 ac, .int .i64 asq, .int .i64 i, .int .i64 asd, .int .i64 apr, .int .i64 aq, .int .i64 aid] 34 (0, 0))) := HR4.out
 have HF5 := hide (HF4.out.later hbq)
 clear hbq HX4 HR4 HF4 a3 fi
 generalize w4.drewN nq = w5 at *
 cases hok : Cv.ok ⟨aid, ac, asd, apr, aq⟩ with
 | false =>
  have hpc : pc = 1 := HC1.out hok
  rw [show lotE ⟨aid, ac, asd, apr, aq⟩ = 2 by unfold lotE; rw [hok]; rfl]
  clear hok
  go_wp2
  go_ret
  exact ⟨by rw [hpc]; rfl, v, by rw [HL1.out (by omega), HF1.out (by omega)]; exact HF5.out⟩
 | true =>
  rw [show lotE ⟨aid, ac, asd, apr, aq⟩ = 0 by unfold lotE; rw [hok]; rfl]
  have HFi := hide (mfind_any (b i) 0 (v i) aid (L i) w5 (HF5.out.bk i hi3) (hl.out i hi3))
  have x0 : w5.cell? ⟨B, 0, none⟩ = some (.int .i64 aid) := cof HX5.out rfl
  cases hh : Cv.has (L i) aid with
  | true =>
   have hpc : pc = 6 := HC2.out hok hh
   rw [Bk.posI_some hh] at HFi
   clear hh hok
   generalize Bk.pos (L i) aid = ps at *
   have hps : (0 : Int) ≤ (ps : Int) := by omega
   go_wp2_with fail
   refine HFi.out.mono ?_
   rintro e w5 ⟨rfl, rfl⟩
   simp only []
   go_wp2
   go_ret
   exact ⟨by rw [hpc]; rfl, v, by rw [HL1.out (by omega), HF1.out (by omega)]; exact HF5.out⟩
  | false =>
   rw [Bk.posI_none hh] at HFi
   have hmc := cell_of_one (HF5.out.bk i hi3).cell
   obtain ⟨am, cm, hvm⟩ : ∃ am cm, v i = .slice am (L i).length cm := by
    rcases (HF5.out.bk i hi3).form with ⟨e1, e2⟩ | ⟨g, cap, e1, _⟩
    ·exact ⟨none, 0, by rw [e1, e2]; rfl⟩
    ·exact ⟨_, _, e1⟩
   rw [hvm] at hmc
   go_wp2_with fail
   refine HFi.out.mono ?_
   rintro e w5 ⟨rfl, rfl⟩
   clear HFi
   simp only []
   by_cases hfull : 60 ≤ (L i).length
   ·have hpc : pc = 7 := HC3.out hok hh hfull
    obtain ⟨m, hm⟩ : ∃ m, (L i).length = m := ⟨_, rfl⟩
    rw [hm] at hmc hfull
    have hfi : (60 : Int) ≤ (m : Int) := by omega
    clear hh hok hvm hm
    go_wp2
    go_ret
    exact ⟨by rw [hpc]; rfl, v, by rw [HL1.out (by omega), HF1.out (by omega)]; exact HF5.out⟩
   ·have hpc : pc = Pu.holdC pf i ⟨aid, ac, asd, apr, aq⟩ := HC4.out hok hh hfull
    have HAD : Hid (Bk.addC (L i) ⟨aid, ac, asd, apr, aq⟩ = 0) := by show _ = _; unfold Bk.addC; rw [if_pos hok, if_neg (by rw [hh]; simp), if_neg hfull]
    obtain ⟨m, hm⟩ : ∃ m, (L i).length = m := ⟨_, rfl⟩
    rw [hm] at hmc hfull
    have hfi : ¬ (60 : Int) ≤ (m : Int) := by omega
    have HPC := hide hpc
    clear hh hok hvm hm hpc hfull HC1 HC2 HC3 HC4
    have x1 : w5.cell? ⟨B, 1, none⟩ = some (.int .i64 ac) := cof HX5.out rfl
    have x2 : w5.cell? ⟨B, 2, none⟩ = some (.int .i64 asd) := cof HX5.out rfl
    have x3 : w5.cell? ⟨B, 3, none⟩ = some (.int .i64 apr) := cof HX5.out rfl
    have x4 : w5.cell? ⟨B, 4, none⟩ = some (.int .i64 aq) := cof HX5.out rfl
    have a3 : w5.cell? ⟨A, 3, none⟩ = some (.int .i64 i) := cof HR5.out rfl
    have fp := HF5.out.cellP
    go_wp2_with fail
    refine region_quiet_tail 7 (by kernel_rfl) (by kernel_rfl) ?_
    simp only [List.take_succ_cons, List.take_zero, List.drop_succ_cons, List.drop_zero]
    repeat (first | go_big_quiet_step (fail) | quiet_step (fail))
    refine wpQuiet_nil ?_
    intro _ hw'
    obtain ⟨nq, hw''⟩ := hw'
    subst hw''
    have HX6 : Hid ((w5.drewN nq).heap[B]? = some (.cells #[.int .i64 aid, .int .i64 ac, .int .i64 asd, .int .i64 apr, .int .i64 aq] 56 (0, 0))) := HX5.out
    have HF6 := hide (HF5.out.later (blw_drew nq))
    clear x0 x1 x2 x3 x4 a3 fp hmc HX5 HR5 HF5
    generalize w5.drewN nq = w6 at *
    have HH := hide (mhold_any P i ⟨aid, ac, asd, apr, aq⟩ pf w6 HF6.out.pu hg.out)
    unfold lotV at HH
    simp only [] at HH
    go_wp2_with fail
    refine HH.out.mono ?_
    rintro e w7 ⟨rfl, hp7, hs7⟩
    have HF7 := hide (HF6.out.purse hp7 hs7)
    have HX7 : Hid (w7.heap[B]? = some (.cells #[.int .i64 aid, .int .i64 ac, .int .i64 asd, .int .i64 apr, .int .i64 aq] 56 (0, 0))) := by
     show _ = _
     rw [hs7.block _ (lt_of_block HX6.out) (fun e => ?_)]
     ·exact HX6.out
     ·have := HF6.out.pu
      unfold Purse at this
      rw [← e, HX6.out] at this
      simp at this
    clear hp7 hs7 HH HX6 HF6
    rw [← HPC.out]
    simp only []
    by_cases h0 : pc = 0
    ·subst h0
     rw [show p_errNo 0 = 0 from rfl]
     have HMA := hide (madd_any (b i) 0 (v i) ⟨aid, ac, asd, apr, aq⟩ (L i) w7 (HF7.out.bk i hi3) (hl.out i hi3))
     rw [HAD.out, show errNo 0 = 0 from rfl, show Bk.addL (L i) ⟨aid, ac, asd, apr, aq⟩ = L i ++ [⟨aid, ac, asd, apr, aq⟩] by unfold Bk.addL; rw [if_pos HAD.out]] at HMA
     unfold lotV at HMA
     simp only [] at HMA
     have x0 : w7.cell? ⟨B, 0, none⟩ = some (.int .i64 aid) := cof HX7.out rfl
     have x1 : w7.cell? ⟨B, 1, none⟩ = some (.int .i64 ac) := cof HX7.out rfl
     have x2 : w7.cell? ⟨B, 2, none⟩ = some (.int .i64 asd) := cof HX7.out rfl
     have x3 : w7.cell? ⟨B, 3, none⟩ = some (.int .i64 apr) := cof HX7.out rfl
     have x4 : w7.cell? ⟨B, 4, none⟩ = some (.int .i64 aq) := cof HX7.out rfl
     go_wp2_with fail
     refine HMA.out.mono ?_
     rintro e w8 ⟨rfl, v8, hb8, hs8⟩
     have HF8 := hide (HF7.out.book hi3 hb8 hs8)
     clear hb8 hs8 HMA
     simp only []
     go_wp2
     go_ret
     exact ⟨rfl, _, by rw [HL0.out (by trivial), HF0.out (by trivial)]; exact HF8.out⟩
    ·have hen : 0 < p_errNo pc := by unfold p_errNo; rw [if_neg h0]; omega
     have HF7' : Hid (MFl w w7 F P b v L pf n wd h) := by
      have := HF7.out
      unfold Pu.holdF at this
      rw [if_neg (by rw [← HPC.out]; exact h0)] at this
      exact this
     obtain ⟨en, hen1⟩ : ∃ en, p_errNo pc = en := ⟨_, rfl⟩
     rw [hen1] at hen ⊢
     have HEN := hide hen1
     clear hen1
     go_wp2
     go_ret
     exact ⟨by rw [HEN.out]; rfl, v, by rw [HL1.out h0, HF1.out h0]; exact HF7'.out⟩
theorem mplace_any (a : Ask) (hF : Hid (MFl w W F P b v L pf n wd h)) (hg : Hid (Pu.Good pf)) (hl : Hid (∀ i, i < 3 → (L i).length ≤ 60)) :
  Calls Tryz.prog 29 #[.pointer (some ⟨F, 0, none⟩), askV a] W fun e W' => e = .returned (.int .i64 (p_errNo (Fl.placeC L pf a))) ∧ ∃ v', MFl w W' F P b v' (Fl.placeL L pf a) (Fl.placeF L pf a) n wd h := by
 by_cases hk : Fl.kindN a 111 = 0
 ·exact mplace_fine a hF hg hl hk
 ·exact mplace_kind a hF hk
end
namespace Fl
end Fl

section
variable {w W : World} {F P : Nat} {b : Nat → Nat} {v : Nat → Value} {L : Nat → List Cv.Lot} {pf n : Nat → Int} {wd h : Int}

theorem mfcancel_kind (a : Ask) (hF : Hid (MFl w W F P b v L pf n wd h)) (hk : Hid (Fl.kindN a 99 ≠ 0)) :
  Calls Tryz.prog 30 #[.pointer (some ⟨F, 0, none⟩), askV a] W fun e W' => e = .returned (.tuple #[lotV (Fl.canX L a), .int .i64 (p_errNo (Fl.canC L pf a))]) ∧ ∃ v', MFl w W' F P b v' (Fl.canL L a) (Fl.canF L pf a) n wd h := by
 have hpos := Fl.kindN_pos hk.out
 have hC : Fl.canC L pf a = (Fl.kindN a 99 - 1).toNat := by unfold Fl.canC; rw [if_neg hk.out]
 have hne : Fl.canC L pf a ≠ 0 := by omega
 have hno : ¬ (Fl.kindN a 99 = 0 ∧ Fl.mine L a = true) := fun e => hk.out e.1
 rw [show Fl.canL L a = L by unfold Fl.canL; rw [if_neg hno], show Fl.canF L pf a = pf by unfold Fl.canF; rw [if_neg hno], show Fl.canX L a = Cv.z by unfold Fl.canX; rw [if_neg hno], show p_errNo (Fl.canC L pf a) = Fl.kindN a 99 by unfold p_errNo; rw [if_neg hne, hC]; omega]
 have HK := hide (fun W => kindError_any a 99 W (by decide))
 generalize Fl.kindN a 99 = kn at *
 clear hC hne hno
 obtain ⟨ak, ac, asq, i, asd, apr, aq, aid⟩ := a
 unfold askV askA at HK ⊢
 unfold lotV Cv.z
 simp only [] at HK ⊢
 have hb0 : Below W.heap.size W ((W.alloc (.cells #[.int .u8 ak, .int .i64 ac, .int .i64 asq, .int .i64 i, .int .i64 asd, .int .i64 apr, .int .i64 aq, .int .i64 aid] 34)).alloc (.cells #[.int .i64 0, .int .i64 0, .int .i64 0, .int .i64 0, .int .i64 0] 56)) := (bal).alloc (by simp) _
 have hR : ((W.alloc (.cells #[.int .u8 ak, .int .i64 ac, .int .i64 asq, .int .i64 i, .int .i64 asd, .int .i64 apr, .int .i64 aq, .int .i64 aid] 34)).alloc (.cells #[.int .i64 0, .int .i64 0, .int .i64 0, .int .i64 0, .int .i64 0] 56)).heap[W.heap.size + 1]? = some (.cells #[.int .i64 0, .int .i64 0, .int .i64 0, .int .i64 0, .int .i64 0] 56 (0, 0)) := by
  have := heap_alloc_new (W.alloc (.cells #[.int .u8 ak, .int .i64 ac, .int .i64 asq, .int .i64 i, .int .i64 asd, .int .i64 apr, .int .i64 aq, .int .i64 aid] 34)) (.cells #[.int .i64 0, .int .i64 0, .int .i64 0, .int .i64 0, .int .i64 0] 56)
  rw [show (W.alloc (.cells #[.int .u8 ak, .int .i64 ac, .int .i64 asq, .int .i64 i, .int .i64 asd, .int .i64 apr, .int .i64 aq, .int .i64 aid] 34)).heap.size = W.heap.size + 1 by simp] at this
  exact this
 have HB0 := hide hb0; have HR0 := hide hR
 clear hb0 hR
 have hp : 0 < kn := by omega
 go_enter Tryz.func30, Tryz.ntmps30
 go_wp2_with fail
 refine (HK.out _).mono ?_
 rintro e w2 ⟨rfl, hb2⟩
 have HB2 := hide (HB0.out.trans (hb2.mono HB0.out.size))
 have hR2 : w2.heap[W.heap.size + 1]? = some (.cells #[.int .i64 0, .int .i64 0, .int .i64 0, .int .i64 0, .int .i64 0] 56 (0, 0)) := by rw [hb2.block _ (lt_of_block HR0.out)]; exact HR0.out
 have cs : ∀ j, j < 5 → w2.cell? ⟨W.heap.size + 1, j, none⟩ = some (.int .i64 0) ∧ w2.frozen? ⟨W.heap.size + 1, j, none⟩ = false := fun j hj => by
  refine ⟨?_, fof hR2⟩
  simp only [World.cell?, hR2]
  have : j = 0 ∨ j = 1 ∨ j = 2 ∨ j = 3 ∨ j = 4 := by omega
  rcases this with rfl | rfl | rfl | rfl | rfl <;> rfl
 have ⟨a0, f0⟩ := cs 0 (by decide); have ⟨a1, f1⟩ := cs 1 (by decide); have ⟨a2, f2⟩ := cs 2 (by decide); have ⟨a3, f3⟩ := cs 3 (by decide); have ⟨a4, f4⟩ := cs 4 (by decide)
 clear hb2 HK HB0 HR0 hR2 cs
 simp only []
 go_wp2
 refine bodyPost_ret (v := .tuple #[.agg #[.int .i64 0, .int .i64 0, .int .i64 0, .int .i64 0, .int .i64 0], .int .i64 kn]) (by simp [results, Tryz.results30, go_sem, a0, a1, a2, a3, a4]) rfl ⟨rfl, v, hF.out.later ?_⟩
 exact ((((HB2.out.setCell (by simp) _).setCell (by simp) _).setCell (by simp) _).setCell (by simp) _).setCell (by simp) _

set_option maxHeartbeats 2000000 in
theorem mfcancel_none (a : Ask) (hF : Hid (MFl w W F P b v L pf n wd h)) (hl : Hid (∀ i, i < 3 → (L i).length ≤ 60)) (hk : Hid (Fl.kindN a 99 = 0)) (hm : Hid (Fl.mine L a = false)) :
  Calls Tryz.prog 30 #[.pointer (some ⟨F, 0, none⟩), askV a] W fun e W' => e = .returned (.tuple #[lotV (Fl.canX L a), .int .i64 (p_errNo (Fl.canC L pf a))]) ∧ ∃ v', MFl w W' F P b v' (Fl.canL L a) (Fl.canF L pf a) n wd h := by
 have hit := Fl.cancel_item hk.out
 obtain ⟨i, hi⟩ : ∃ i : Nat, a.it = i := ⟨a.it.toNat, by omega⟩
 have hi3 : i < 3 := by omega
 have hin : a.it.toNat = i := by omega
 have hm0 : Fl.mine L a = (Cv.has (L i) a.id && ((Cv.nth (L i) (Bk.pos (L i) a.id)).ow == a.c)) := by unfold Fl.mine; rw [hin]
 have hno : ¬ (Fl.kindN a 99 = 0 ∧ Fl.mine L a = true) := fun e => by rw [hm.out] at e; cases e.2
 rw [show Fl.canL L a = L by unfold Fl.canL; rw [if_neg hno], show Fl.canF L pf a = pf by unfold Fl.canF; rw [if_neg hno], show Fl.canX L a = Cv.z by unfold Fl.canX; rw [if_neg hno], show Fl.canC L pf a = 5 by unfold Fl.canC; rw [if_pos hk.out, if_neg (by rw [hm.out]; simp)]]
 rw [hm.out] at hm0
 have HK := hide (fun W => kindError_any a 99 W (by decide))
 rw [hk.out] at HK
 clear hno hk hin hm
 obtain ⟨ak, ac, asq, ait, asd, apr, aq, aid⟩ := a
 simp only [] at hi hm0 hit
 subst hi
 unfold askV askA at HK ⊢
 unfold lotV Cv.z
 simp only [] at HK ⊢
 have HM0 := hide hm0
 clear hm0 hit
 have hb0 : Below W.heap.size W ((W.alloc (.cells #[.int .u8 ak, .int .i64 ac, .int .i64 asq, .int .i64 i, .int .i64 asd, .int .i64 apr, .int .i64 aq, .int .i64 aid] 34)).alloc (.cells #[.int .i64 0, .int .i64 0, .int .i64 0, .int .i64 0, .int .i64 0] 56)) := (bal).alloc (by simp) _
 have hR : ((W.alloc (.cells #[.int .u8 ak, .int .i64 ac, .int .i64 asq, .int .i64 i, .int .i64 asd, .int .i64 apr, .int .i64 aq, .int .i64 aid] 34)).alloc (.cells #[.int .i64 0, .int .i64 0, .int .i64 0, .int .i64 0, .int .i64 0] 56)).heap[W.heap.size + 1]? = some (.cells #[.int .i64 0, .int .i64 0, .int .i64 0, .int .i64 0, .int .i64 0] 56 (0, 0)) := by
  have := heap_alloc_new (W.alloc (.cells #[.int .u8 ak, .int .i64 ac, .int .i64 asq, .int .i64 i, .int .i64 asd, .int .i64 apr, .int .i64 aq, .int .i64 aid] 34)) (.cells #[.int .i64 0, .int .i64 0, .int .i64 0, .int .i64 0, .int .i64 0] 56)
  rw [show (W.alloc (.cells #[.int .u8 ak, .int .i64 ac, .int .i64 asq, .int .i64 i, .int .i64 asd, .int .i64 apr, .int .i64 aq, .int .i64 aid] 34)).heap.size = W.heap.size + 1 by simp] at this
  exact this
 have hA : ((W.alloc (.cells #[.int .u8 ak, .int .i64 ac, .int .i64 asq, .int .i64 i, .int .i64 asd, .int .i64 apr, .int .i64 aq, .int .i64 aid] 34)).alloc (.cells #[.int .i64 0, .int .i64 0, .int .i64 0, .int .i64 0, .int .i64 0] 56)).heap[W.heap.size]? = some (.cells #[.int .u8 ak, .int .i64 ac, .int .i64 asq, .int .i64 i, .int .i64 asd, .int .i64 apr, .int .i64 aq, .int .i64 aid] 34 (0, 0)) := (Below.heap_alloc _ _ _ (by simp)).trans (heap_alloc_new _ _)
 have HB0 := hide hb0; have HR0 := hide hR; have HA0 := hide hA
 clear hb0 hR hA
 go_enter Tryz.func30, Tryz.ntmps30
 go_wp2_with fail
 refine (HK.out _).mono ?_
 rintro e w2 ⟨rfl, hb2⟩
 have HB2 := hide (HB0.out.trans (hb2.mono HB0.out.size))
 have HR2 : Hid (w2.heap[W.heap.size + 1]? = some (.cells #[.int .i64 0, .int .i64 0, .int .i64 0, .int .i64 0, .int .i64 0] 56 (0, 0))) := rof hb2 HR0.out
 have HA2 : Hid (w2.heap[W.heap.size]? = some (.cells #[.int .u8 ak, .int .i64 ac, .int .i64 asq, .int .i64 i, .int .i64 asd, .int .i64 apr, .int .i64 aq, .int .i64 aid] 34 (0, 0))) := rof hb2 HA0.out
 have HF2 := hide (hF.out.later HB2.out)
 have k3 : w2.cell? ⟨W.heap.size, 3, none⟩ = some (.int .i64 i) := cof HA2.out rfl
 have fi := HF2.out.cell hi3
 have hii : (0 : Int) ≤ (i : Int) := by omega
 have hi3' : (i : Int) < 3 := by omega
 clear hb2 HK HB0 HR0 HA0
 obtain ⟨A, hA⟩ : ∃ A, W.heap.size = A := ⟨_, rfl⟩
 rw [hA] at HR2 HA2 k3 ⊢
 have HAe := hide hA
 clear hA
 simp only []
 go_wp2_with fail
 go_quiet (fail)
 have HR5 : Hid ((w2.drewN nq).heap[A + 1]? = some (.cells #[.int .i64 0, .int .i64 0, .int .i64 0, .int .i64 0, .int .i64 0] 56 (0, 0))) := HR2.out
 have HA5 : Hid ((w2.drewN nq).heap[A]? = some (.cells #[.int .u8 ak, .int .i64 ac, .int .i64 asq, .int .i64 i, .int .i64 asd, .int .i64 apr, .int .i64 aq, .int .i64 aid] 34 (0, 0))) := HA2.out
 have HB5 : Hid (Below W.heap.size W (w2.drewN nq)) := HB2.out.trans ((blw_drew nq).mono HB2.out.size)
 have HF5 := hide (HF2.out.later (blw_drew nq))
 clear HR2 HA2 HB2 HF2 k3 fi
 generalize w2.drewN nq = w5 at *
 have k7 : w5.cell? ⟨A, 7, none⟩ = some (.int .i64 aid) := cof HA5.out rfl
 have k1 : w5.cell? ⟨A, 1, none⟩ = some (.int .i64 ac) := cof HA5.out rfl
 have HFi := hide (mfind_any (b i) 0 (v i) aid (L i) w5 (HF5.out.bk i hi3) (hl.out i hi3))
 have cs : ∀ W' : World, Hid (W'.heap[A + 1]? = some (.cells #[.int .i64 0, .int .i64 0, .int .i64 0, .int .i64 0, .int .i64 0] 56 (0, 0))) → ∀ j, j < 5 → W'.cell? ⟨A + 1, j, none⟩ = some (.int .i64 0) ∧ W'.frozen? ⟨A + 1, j, none⟩ = false := fun W' hR j hj => by
  refine ⟨?_, fof hR.out⟩
  simp only [World.cell?, hR.out]
  have : j = 0 ∨ j = 1 ∨ j = 2 ∨ j = 3 ∨ j = 4 := by omega
  rcases this with rfl | rfl | rfl | rfl | rfl <;> rfl
 have HCS := hide cs
 clear cs
 have HEND : Hid (∀ W' : World, Below W.heap.size W W' → ∀ (x0 x1 x2 x3 x4 : Value), Below W.heap.size W (((((W'.setCell ⟨A + 1, 0, none⟩ x0).setCell ⟨A + 1, 1, none⟩ x1).setCell ⟨A + 1, 2, none⟩ x2).setCell ⟨A + 1, 3, none⟩ x3).setCell ⟨A + 1, 4, none⟩ x4)) := fun W' hb x0 x1 x2 x3 x4 => by
  have := HAe.out
  exact ((((hb.setCell (by simp; omega) _).setCell (by simp; omega) _).setCell (by simp; omega) _).setCell (by simp; omega) _).setCell (by simp; omega) _
 cases hh : Cv.has (L i) aid with
 | false =>
  rw [Bk.posI_none hh] at HFi
  clear hh
  go_wp2_with fail
  refine HFi.out.mono ?_
  rintro e w5 ⟨rfl, rfl⟩
  have ⟨a0, f0⟩ := HCS.out _ HR5 0 (by decide); have ⟨a1, f1⟩ := HCS.out _ HR5 1 (by decide); have ⟨a2, f2⟩ := HCS.out _ HR5 2 (by decide); have ⟨a3, f3⟩ := HCS.out _ HR5 3 (by decide); have ⟨a4, f4⟩ := HCS.out _ HR5 4 (by decide)
  clear HFi k1 k7
  simp only []
  go_wp2
  exact bodyPost_ret (v := .tuple #[.agg #[.int .i64 0, .int .i64 0, .int .i64 0, .int .i64 0, .int .i64 0], .int .i64 6]) (by simp [results, Tryz.results30, go_sem, a0, a1, a2, a3, a4]) rfl ⟨rfl, v, hF.out.later (HEND.out _ HB5.out _ _ _ _ _)⟩
 | true =>
  have hne : (Cv.nth (L i) (Bk.pos (L i) aid)).ow ≠ ac := fun e => by
   have := HM0.out
   rw [hh, e] at this
   simp at this
  have hpo := Bk.posI_lt hh
  rw [Bk.posI_some hh] at HFi
  obtain ⟨gm, cm, hvm, hlm⟩ : ∃ gm cm, v i = .slice (some ⟨gm, 0, none⟩) (L i).length cm ∧ LotsAt w5 gm 0 (L i) := by
   rcases (HF5.out.bk i hi3).form with ⟨_, hl0⟩ | ⟨gm, cm, h1, _, _, h2⟩
   ·rw [hl0] at hpo; exact absurd hpo (Nat.not_lt_zero _)
   ·exact ⟨gm, cm, h1, h2⟩
  have hmc := cell_of_one (HF5.out.bk i hi3).cell
  rw [hvm] at hmc
  obtain ⟨_, m1, _, _, _⟩ := hlm _ hpo
  simp only [Nat.zero_add] at m1
  have hl60 := hl.out i hi3
  generalize (Cv.nth (L i) (Bk.pos (L i) aid)).ow = yo at *
  generalize Bk.pos (L i) aid = kk at *
  obtain ⟨nn, hnn⟩ : ∃ nn, (L i).length = nn := ⟨_, rfl⟩
  rw [hnn] at hpo hmc hl60
  have hkk : (kk : Int) < nn := by omega
  have hk0 : (0 : Int) ≤ (kk : Int) := by omega
  have hne' : (yo != ac) = true := by simpa using hne
  clear hh hlm hvm hnn HM0
  go_wp2_with fail
  refine HFi.out.mono ?_
  rintro e w5 ⟨rfl, rfl⟩
  clear HFi k7
  simp only []
  go_wp2_with fail
  go_quiet (fail)
  have HR6 : Hid ((w5.drewN nq).heap[A + 1]? = some (.cells #[.int .i64 0, .int .i64 0, .int .i64 0, .int .i64 0, .int .i64 0] 56 (0, 0))) := HR5.out
  have HB6 : Hid (Below W.heap.size W (w5.drewN nq)) := HB5.out.trans ((blw_drew nq).mono HB5.out.size)
  clear HR5 HB5 HF5 HA5 hmc m1 k1
  generalize w5.drewN nq = w6 at *
  have ⟨a0, f0⟩ := HCS.out _ HR6 0 (by decide); have ⟨a1, f1⟩ := HCS.out _ HR6 1 (by decide); have ⟨a2, f2⟩ := HCS.out _ HR6 2 (by decide); have ⟨a3, f3⟩ := HCS.out _ HR6 3 (by decide); have ⟨a4, f4⟩ := HCS.out _ HR6 4 (by decide)
  go_wp2
  exact bodyPost_ret (v := .tuple #[.agg #[.int .i64 0, .int .i64 0, .int .i64 0, .int .i64 0, .int .i64 0], .int .i64 6]) (by simp [results, Tryz.results30, go_sem, a0, a1, a2, a3, a4]) rfl ⟨rfl, v, hF.out.later (HEND.out _ HB6.out _ _ _ _ _)⟩

set_option maxHeartbeats 2000000 in
theorem mfcancel_mine (a : Ask) (hF : Hid (MFl w W F P b v L pf n wd h)) (hl : Hid (∀ i, i < 3 → (L i).length ≤ 60)) (hk : Hid (Fl.kindN a 99 = 0)) (hg : Hid (Pu.Good pf)) (hm : Hid (Fl.mine L a = true)) :
  Calls Tryz.prog 30 #[.pointer (some ⟨F, 0, none⟩), askV a] W fun e W' => e = .returned (.tuple #[lotV (Fl.canX L a), .int .i64 (p_errNo (Fl.canC L pf a))]) ∧ ∃ v', MFl w W' F P b v' (Fl.canL L a) (Fl.canF L pf a) n wd h := by
 have hit := Fl.cancel_item hk.out
 obtain ⟨i, hi⟩ : ∃ i : Nat, a.it = i := ⟨a.it.toNat, by omega⟩
 have hi3 : i < 3 := by omega
 have hin : a.it.toNat = i := by omega
 have hm0 : Fl.mine L a = (Cv.has (L i) a.id && ((Cv.nth (L i) (Bk.pos (L i) a.id)).ow == a.c)) := by unfold Fl.mine; rw [hin]
 have hyes : Fl.kindN a 99 = 0 ∧ Fl.mine L a = true := ⟨hk.out, hm.out⟩
 have hx : Fl.canX L a = Cv.nth (L i) (Bk.pos (L i) a.id) := by unfold Fl.canX; rw [if_pos hyes, hin]
 rw [show Fl.canL L a = upd L i (Bk.del (L i) (Bk.pos (L i) a.id)) by unfold Fl.canL; rw [if_pos hyes, hin], show Fl.canF L pf a = Pu.freeF pf a.it (Cv.nth (L i) (Bk.pos (L i) a.id)) by unfold Fl.canF; rw [if_pos hyes, hx], show Fl.canC L pf a = Pu.freeC pf a.it (Cv.nth (L i) (Bk.pos (L i) a.id)) by unfold Fl.canC; rw [if_pos hk.out, if_pos hm.out, hx], hx]
 rw [hm.out] at hm0
 have HK := hide (fun W => kindError_any a 99 W (by decide))
 rw [hk.out] at HK
 clear hyes hx hk hin hm
 obtain ⟨ak, ac, asq, ait, asd, apr, aq, aid⟩ := a
 simp only [] at hi hm0 hit
 subst hi
 unfold askV askA at HK ⊢
 simp only [] at HK ⊢
 have HM0 := hide hm0
 clear hm0 hit
 obtain ⟨yy, hyy⟩ : ∃ yy, Cv.nth (L i) (Bk.pos (L i) aid) = yy := ⟨_, rfl⟩
 obtain ⟨LD, hLD⟩ : ∃ LD, Bk.del (L i) (Bk.pos (L i) aid) = LD := ⟨_, rfl⟩
 rw [hyy, hLD]
 have HYY := hide hyy; have HLD := hide hLD
 clear hyy hLD
 obtain ⟨y0, y1, y2, y3, y4⟩ := yy
 unfold lotV
 simp only []
 have hb0 : Below W.heap.size W ((W.alloc (.cells #[.int .u8 ak, .int .i64 ac, .int .i64 asq, .int .i64 i, .int .i64 asd, .int .i64 apr, .int .i64 aq, .int .i64 aid] 34)).alloc (.cells #[.int .i64 0, .int .i64 0, .int .i64 0, .int .i64 0, .int .i64 0] 56)) := (bal).alloc (by simp) _
 have hR : ((W.alloc (.cells #[.int .u8 ak, .int .i64 ac, .int .i64 asq, .int .i64 i, .int .i64 asd, .int .i64 apr, .int .i64 aq, .int .i64 aid] 34)).alloc (.cells #[.int .i64 0, .int .i64 0, .int .i64 0, .int .i64 0, .int .i64 0] 56)).heap[W.heap.size + 1]? = some (.cells #[.int .i64 0, .int .i64 0, .int .i64 0, .int .i64 0, .int .i64 0] 56 (0, 0)) := by
  have := heap_alloc_new (W.alloc (.cells #[.int .u8 ak, .int .i64 ac, .int .i64 asq, .int .i64 i, .int .i64 asd, .int .i64 apr, .int .i64 aq, .int .i64 aid] 34)) (.cells #[.int .i64 0, .int .i64 0, .int .i64 0, .int .i64 0, .int .i64 0] 56)
  rw [show (W.alloc (.cells #[.int .u8 ak, .int .i64 ac, .int .i64 asq, .int .i64 i, .int .i64 asd, .int .i64 apr, .int .i64 aq, .int .i64 aid] 34)).heap.size = W.heap.size + 1 by simp] at this
  exact this
 have hA : ((W.alloc (.cells #[.int .u8 ak, .int .i64 ac, .int .i64 asq, .int .i64 i, .int .i64 asd, .int .i64 apr, .int .i64 aq, .int .i64 aid] 34)).alloc (.cells #[.int .i64 0, .int .i64 0, .int .i64 0, .int .i64 0, .int .i64 0] 56)).heap[W.heap.size]? = some (.cells #[.int .u8 ak, .int .i64 ac, .int .i64 asq, .int .i64 i, .int .i64 asd, .int .i64 apr, .int .i64 aq, .int .i64 aid] 34 (0, 0)) := (Below.heap_alloc _ _ _ (by simp)).trans (heap_alloc_new _ _)
 have HB0 := hide hb0; have HR0 := hide hR; have HA0 := hide hA
 clear hb0 hR hA
 have HNR : Hid (∀ q, W.heap.size ≤ q → (v i).ownBlock ≠ some q) := fun q hq e => by have := ((hF.out.bk i hi3).rowLt q e).2; omega
 go_enter Tryz.func30, Tryz.ntmps30
 go_wp2_with fail
 refine (HK.out _).mono ?_
 rintro e w2 ⟨rfl, hb2⟩
 have HB2 := hide (HB0.out.trans (hb2.mono HB0.out.size))
 have HR2 : Hid (w2.heap[W.heap.size + 1]? = some (.cells #[.int .i64 0, .int .i64 0, .int .i64 0, .int .i64 0, .int .i64 0] 56 (0, 0))) := rof hb2 HR0.out
 have HA2 : Hid (w2.heap[W.heap.size]? = some (.cells #[.int .u8 ak, .int .i64 ac, .int .i64 asq, .int .i64 i, .int .i64 asd, .int .i64 apr, .int .i64 aq, .int .i64 aid] 34 (0, 0))) := rof hb2 HA0.out
 have HF2 := hide (hF.out.later HB2.out)
 have k3 : w2.cell? ⟨W.heap.size, 3, none⟩ = some (.int .i64 i) := cof HA2.out rfl
 have fi := HF2.out.cell hi3
 have hii : (0 : Int) ≤ (i : Int) := by omega
 have hi3' : (i : Int) < 3 := by omega
 clear hb2 HK HB0 HR0 HA0
 obtain ⟨A, hA⟩ : ∃ A, W.heap.size = A := ⟨_, rfl⟩
 rw [hA] at HR2 HA2 k3 ⊢
 rw [hA] at HNR
 have HAe := hide hA
 clear hA
 simp only []
 go_wp2_with fail
 go_quiet (fail)
 have HR5 : Hid ((w2.drewN nq).heap[A + 1]? = some (.cells #[.int .i64 0, .int .i64 0, .int .i64 0, .int .i64 0, .int .i64 0] 56 (0, 0))) := HR2.out
 have HA5 : Hid ((w2.drewN nq).heap[A]? = some (.cells #[.int .u8 ak, .int .i64 ac, .int .i64 asq, .int .i64 i, .int .i64 asd, .int .i64 apr, .int .i64 aq, .int .i64 aid] 34 (0, 0))) := HA2.out
 have HB5 : Hid (Below W.heap.size W (w2.drewN nq)) := HB2.out.trans ((blw_drew nq).mono HB2.out.size)
 have HF5 := hide (HF2.out.later (blw_drew nq))
 clear HR2 HA2 HB2 HF2 k3 fi
 generalize w2.drewN nq = w5 at *
 have k7 : w5.cell? ⟨A, 7, none⟩ = some (.int .i64 aid) := cof HA5.out rfl
 have k1 : w5.cell? ⟨A, 1, none⟩ = some (.int .i64 ac) := cof HA5.out rfl
 have HFi := hide (mfind_any (b i) 0 (v i) aid (L i) w5 (HF5.out.bk i hi3) (hl.out i hi3))
 have cs : ∀ W' : World, Hid (W'.heap[A + 1]? = some (.cells #[.int .i64 0, .int .i64 0, .int .i64 0, .int .i64 0, .int .i64 0] 56 (0, 0))) → ∀ j, j < 5 → W'.cell? ⟨A + 1, j, none⟩ = some (.int .i64 0) ∧ W'.frozen? ⟨A + 1, j, none⟩ = false := fun W' hR j hj => by
  refine ⟨?_, fof hR.out⟩
  simp only [World.cell?, hR.out]
  have : j = 0 ∨ j = 1 ∨ j = 2 ∨ j = 3 ∨ j = 4 := by omega
  rcases this with rfl | rfl | rfl | rfl | rfl <;> rfl
 have HCS := hide cs
 clear cs
 have HEND : Hid (∀ W' : World, Below W.heap.size W W' → ∀ (x0 x1 x2 x3 x4 : Value), Below W.heap.size W (((((W'.setCell ⟨A + 1, 0, none⟩ x0).setCell ⟨A + 1, 1, none⟩ x1).setCell ⟨A + 1, 2, none⟩ x2).setCell ⟨A + 1, 3, none⟩ x3).setCell ⟨A + 1, 4, none⟩ x4)) := fun W' hb x0 x1 x2 x3 x4 => by
  have := HAe.out
  exact ((((hb.setCell (by simp; omega) _).setCell (by simp; omega) _).setCell (by simp; omega) _).setCell (by simp; omega) _).setCell (by simp; omega) _
 have hmm : Cv.has (L i) aid = true ∧ (Cv.nth (L i) (Bk.pos (L i) aid)).ow = ac := by
  have := HM0.out
  simpa using this.symm
 obtain ⟨hh, hown⟩ := hmm
 have hpo := Bk.posI_lt hh
 rw [Bk.posI_some hh] at HFi
 obtain ⟨gm, cm, hvm, hlm⟩ : ∃ gm cm, v i = .slice (some ⟨gm, 0, none⟩) (L i).length cm ∧ LotsAt w5 gm 0 (L i) := by
  rcases (HF5.out.bk i hi3).form with ⟨_, hl0⟩ | ⟨gm, cm, h1, _, _, h2⟩
  ·rw [hl0] at hpo; exact absurd hpo (Nat.not_lt_zero _)
  ·exact ⟨gm, cm, h1, h2⟩
 have hmc := cell_of_one (HF5.out.bk i hi3).cell
 rw [hvm] at hmc
 obtain ⟨_, m1, _, _, _⟩ := hlm _ hpo
 rw [hown] at m1
 simp only [Nat.zero_add] at m1
 have hl60 := hl.out i hi3
 have HMC : Hid (∀ W', MBook W' 0 (b i) (v i) (L i) → Calls Tryz.prog 65 #[.pointer (some ⟨b i, 0, none⟩), .int .i64 aid] W' fun e w' => e = .returned (.tuple #[lotV (Cv.nth (L i) (Bk.pos (L i) aid)), .int .i64 0]) ∧ ∃ v', MBook w' 0 (b i) v' (Bk.del (L i) (Bk.pos (L i) aid)) ∧ Step W' w' (b i) (v i) v') := fun W' hb => by
  have := mcancel_any (b i) 0 (v i) aid (L i) W' hb (hl.out i hi3)
  rw [show Bk.canC (L i) aid = 0 by unfold Bk.canC; rw [if_pos hh], show Bk.canX (L i) aid = Cv.nth (L i) (Bk.pos (L i) aid) by unfold Bk.canX Bk.canC; rw [if_pos hh, if_pos rfl], show Bk.canL (L i) aid = Bk.del (L i) (Bk.pos (L i) aid) by unfold Bk.canL Bk.canC; rw [if_pos hh, if_pos rfl]] at this
  exact this
 have HMF : Hid (∀ W' f, Purse W' 131 P f → Pu.Good f → Calls Tryz.prog 66 #[.pointer (some ⟨P, 0, none⟩), .int .i64 i, lotV (Cv.nth (L i) (Bk.pos (L i) aid))] W' fun e w' => e = .returned (.int .i64 (p_errNo (Pu.freeC f i (Cv.nth (L i) (Bk.pos (L i) aid))))) ∧ Purse w' 131 P (Pu.freeF f i (Cv.nth (L i) (Bk.pos (L i) aid))) ∧ Save W' w' P) := fun W' f hp hgf => mfree_any P i _ f W' hp hgf
 rw [HLD.out, HYY.out] at HMC
 rw [HYY.out] at HMF
 clear hown HM0 hlm HYY HLD
 unfold lotV at HMC HMF
 simp only [] at HMC HMF
 generalize Bk.pos (L i) aid = kk at *
 obtain ⟨nn, hnn⟩ : ∃ nn, (L i).length = nn := ⟨_, rfl⟩
 rw [hnn] at hpo hmc hl60
 have hkk : (kk : Int) < nn := by omega
 have hk0 : (0 : Int) ≤ (kk : Int) := by omega
 clear hh hvm hnn
 go_wp2_with fail
 refine HFi.out.mono ?_
 rintro e w5 ⟨rfl, rfl⟩
 clear HFi
 simp only []
 go_wp2_with fail
 go_quiet (fail)
 have HR6 : Hid ((w5.drewN nq).heap[A + 1]? = some (.cells #[.int .i64 0, .int .i64 0, .int .i64 0, .int .i64 0, .int .i64 0] 56 (0, 0))) := HR5.out
 have HA6 : Hid ((w5.drewN nq).heap[A]? = some (.cells #[.int .u8 ak, .int .i64 ac, .int .i64 asq, .int .i64 i, .int .i64 asd, .int .i64 apr, .int .i64 aq, .int .i64 aid] 34 (0, 0))) := HA5.out
 have HF6 := hide (HF5.out.later (blw_drew nq))
 have HB6 : Hid (Below W.heap.size W (w5.drewN nq)) := HB5.out.trans ((blw_drew nq).mono HB5.out.size)
 clear HR5 HB5 HF5 HA5 hmc m1 k1 k7
 generalize w5.drewN nq = w6 at *
 have k7 : w6.cell? ⟨A, 7, none⟩ = some (.int .i64 aid) := cof HA6.out rfl
 go_wp2_with fail
 refine (HMC.out _ (HF6.out.bk i hi3)).mono ?_
 rintro e w7 ⟨rfl, v7, hb7, hs7⟩
 have keep : ∀ {q : Nat} {aa : Array Value} {TT : TypeId}, w6.heap[q]? = some (.cells aa TT (0, 0)) → q ≠ b i → (v i).ownBlock ≠ some q → w7.heap[q]? = some (.cells aa TT (0, 0)) := fun {q aa TT} hq h1 h2 => by
  rw [hs7.only.block q (lt_of_block hq) (by simp; exact h1) (fun e => h2 e.symm)]; exact hq
 have bAb : ∀ {q : Nat} {aa : Array Value} {TT : TypeId}, w6.heap[q]? = some (.cells aa TT (0, 0)) → TT ≠ 138 → q ≠ b i := fun {q aa TT} hq h1 e => by
  rw [e, (HF6.out.bk i hi3).cell] at hq
  simp only [Option.some.injEq, Obj.cells.injEq] at hq
  exact h1 hq.2.1.symm
 have hownR : (v i).ownBlock ≠ some (A + 1) := fun e => HNR.out (A + 1) (by omega) e
 have HA7 : Hid (w7.heap[A]? = some (.cells #[.int .u8 ak, .int .i64 ac, .int .i64 asq, .int .i64 i, .int .i64 asd, .int .i64 apr, .int .i64 aq, .int .i64 aid] 34 (0, 0))) := keep HA6.out (bAb HA6.out (by decide)) (rowT (HF6.out.bk i hi3).row HA6.out (by decide))
 have HR7 : Hid (w7.heap[A + 1]? = some (.cells #[.int .i64 0, .int .i64 0, .int .i64 0, .int .i64 0, .int .i64 0] 56 (0, 0))) := keep HR6.out (bAb HR6.out (by decide)) hownR
 have HF7 := hide (HF6.out.book hi3 hb7 hs7)
 have HOW : Hid (∀ j, j < 3 → (upd v i v7 j).ownBlock ≠ some (A + 1)) := fun j hj e => by
  by_cases hji : j = i
  ·subst hji
   rw [upd_same] at e
   rcases hs7.new _ e with h1 | h1
   ·exact HNR.out (A + 1) (by omega) h1
   ·have := lt_of_block HR6.out
    omega
  ·rw [upd_ne _ _ hji] at e
   have := ((hF.out.bk j hj).rowLt _ e).2
   have := HAe.out
   omega
 clear keep bAb hownR hb7 hs7 HMC HA6 HR6 HF6 HB6 k7
 obtain ⟨D, hD⟩ : ∃ D, w7.heap.size = D := ⟨_, rfl⟩
 obtain ⟨w8, hw8⟩ : ∃ w8, w7.alloc (.cells #[.int .i64 y0, .int .i64 y1, .int .i64 y2, .int .i64 y3, .int .i64 y4] 56) = w8 := ⟨_, rfl⟩
 have hb8 : Below w7.heap.size w7 w8 := by rw [← hw8]; exact bal
 have HD8 : Hid (w8.heap[D]? = some (.cells #[.int .i64 y0, .int .i64 y1, .int .i64 y2, .int .i64 y3, .int .i64 y4] 56 (0, 0))) := by show _ = _; rw [← hw8, ← hD]; exact heap_alloc_new _ _
 have HA8 : Hid (w8.heap[A]? = some (.cells #[.int .u8 ak, .int .i64 ac, .int .i64 asq, .int .i64 i, .int .i64 asd, .int .i64 apr, .int .i64 aq, .int .i64 aid] 34 (0, 0))) := rof hb8 HA7.out
 have HR8 : Hid (w8.heap[A + 1]? = some (.cells #[.int .i64 0, .int .i64 0, .int .i64 0, .int .i64 0, .int .i64 0] 56 (0, 0))) := rof hb8 HR7.out
 have hDA : D ≠ A + 1 := by have := lt_of_block HR7.out; omega
 have HF8 := hide (HF7.out.later hb8)
 have HW8 := hide hw8; have HDe := hide hD
 clear hb8 hw8 hD HA7 HR7 HF7
 simp only []
 go_wp2_with fail
 rw [HW8.out, HDe.out]
 clear HW8 HDe
 obtain ⟨XT, val, hcl, hmk⟩ := rows3_all A D F (.cells #[.int .u8 ak, .int .i64 ac, .int .i64 asq, .int .i64 i, .int .i64 asd, .int .i64 apr, .int .i64 aq, .int .i64 aid] 34 (0, 0)) (.cells #[.int .i64 y0, .int .i64 y1, .int .i64 y2, .int .i64 y3, .int .i64 y4] 56 (0, 0)) (.cells (floorA b n P wd h) 136 (0, 0))
 obtain ⟨x0, hx0⟩ := hmk w8.drew ⟨HA8.out, HD8.out, HF8.out.blk⟩
 have hnx : Nonempty XT := ⟨x0⟩
 have e3 : ∀ x, (val x).cell? ⟨A, 3, none⟩ = some (.int .i64 i) := fun x => cof (hcl x).1 rfl
 have d0 : ∀ x, (val x).cell? ⟨D, 0, none⟩ = some (.int .i64 y0) := fun x => cof (hcl x).2.1 rfl
 have d1 : ∀ x, (val x).cell? ⟨D, 1, none⟩ = some (.int .i64 y1) := fun x => cof (hcl x).2.1 rfl
 have d2 : ∀ x, (val x).cell? ⟨D, 2, none⟩ = some (.int .i64 y2) := fun x => cof (hcl x).2.1 rfl
 have d3 : ∀ x, (val x).cell? ⟨D, 3, none⟩ = some (.int .i64 y3) := fun x => cof (hcl x).2.1 rfl
 have d4 : ∀ x, (val x).cell? ⟨D, 4, none⟩ = some (.int .i64 y4) := fun x => cof (hcl x).2.1 rfl
 have p9 : ∀ x, (val x).cell? ⟨F, 9, none⟩ = some (.pointer (some ⟨P, 0, none⟩)) := fun x => cof (hcl x).2.2 rfl
 have HMK := hide hmk
 have HF9 : Hid (MFl w w8.drew F P b (upd v i v7) (upd L i LD) pf n wd h) := HF8.out.later ⟨rfl, rfl, rfl, Nat.le_refl _, fun _ _ => rfl⟩
 have HA9 : Hid (w8.drew.heap[A]? = some (.cells #[.int .u8 ak, .int .i64 ac, .int .i64 asq, .int .i64 i, .int .i64 asd, .int .i64 apr, .int .i64 aq, .int .i64 aid] 34 (0, 0))) := HA8.out
 have HD9 : Hid (w8.drew.heap[D]? = some (.cells #[.int .i64 y0, .int .i64 y1, .int .i64 y2, .int .i64 y3, .int .i64 y4] 56 (0, 0))) := HD8.out
 have HR9 : Hid (w8.drew.heap[A + 1]? = some (.cells #[.int .i64 0, .int .i64 0, .int .i64 0, .int .i64 0, .int .i64 0] 56 (0, 0))) := HR8.out
 clear hmk hcl HA8 HD8 HR8 HF8
 refine region_many_calls (val := val) [8, 9] [0, 1, 2, 3, 4, 5, 6, 7, 8, 9, 10] (by kernel_rfl) (by kernel_rfl) x0 hx0 ?_
 rw [hx0]
 clear hx0
 generalize w8.drew = w9 at *
 iterate 8 (refine walkM_read rfl rfl (fun K hK => ?_); refine ⟨by rfl, ?_⟩; unfold isRd; go_simp; refine hK _ ?_; clear hK K)
 refine walkM_call rfl rfl (fun K hK => ?_)
 refine ⟨by rfl, ?_⟩
 unfold upM
 go_simp
 refine (HMF.out _ pf HF9.out.pu hg.out).mono ?_
 rintro e wa ⟨rfl, hpa, hsa⟩
 have hneP : ∀ {q : Nat} {aa : Array Value} {TT : TypeId}, w9.heap[q]? = some (.cells aa TT (0, 0)) → TT ≠ 131 → wa.heap[q]? = some (.cells aa TT (0, 0)) := fun {q aa TT} hq h1 => by
  rw [hsa.block q (lt_of_block hq) (fun e => ?_)]
  ·exact hq
  ·rw [e, show w9.heap[P]? = _ from HF9.out.pu] at hq
   simp only [Option.some.injEq, Obj.cells.injEq] at hq
   exact h1 hq.2.1.symm
 have HAa : Hid (wa.heap[A]? = some (.cells #[.int .u8 ak, .int .i64 ac, .int .i64 asq, .int .i64 i, .int .i64 asd, .int .i64 apr, .int .i64 aq, .int .i64 aid] 34 (0, 0))) := hneP HA9.out (by decide)
 have HDa : Hid (wa.heap[D]? = some (.cells #[.int .i64 y0, .int .i64 y1, .int .i64 y2, .int .i64 y3, .int .i64 y4] 56 (0, 0))) := hneP HD9.out (by decide)
 have HRa : Hid (wa.heap[A + 1]? = some (.cells #[.int .i64 0, .int .i64 0, .int .i64 0, .int .i64 0, .int .i64 0] 56 (0, 0))) := hneP HR9.out (by decide)
 have HFa := hide (HF9.out.purse hpa hsa)
 refine ⟨_, rfl, HMK.out _ ⟨HAa.out, HDa.out, HFa.out.blk⟩, hK _ _ ?_⟩
 clear hK K hneP hpa hsa HA9 HD9 HR9 HF9 HMF
 have ⟨a0, f0⟩ := HCS.out _ HRa 0 (by decide); have ⟨a1, f1⟩ := HCS.out _ HRa 1 (by decide); have ⟨a2, f2⟩ := HCS.out _ HRa 2 (by decide); have ⟨a3, f3⟩ := HCS.out _ HRa 3 (by decide); have ⟨a4, f4⟩ := HCS.out _ HRa 4 (by decide)
 have HSV : Hid (Save wa (((((wa.setCell ⟨A + 1, 0, none⟩ (.int .i64 y0)).setCell ⟨A + 1, 1, none⟩ (.int .i64 y1)).setCell ⟨A + 1, 2, none⟩ (.int .i64 y2)).setCell ⟨A + 1, 3, none⟩ (.int .i64 y3)).setCell ⟨A + 1, 4, none⟩ (.int .i64 y4)) (A + 1)) := (((((Save.setCell _ _ _ _).set _ _).set _ _).set _ _).set _ _)
 refine walkM_call rfl rfl (fun K hK => ?_)
 refine ⟨by rfl, ?_⟩
 unfold upM
 go_simp
 refine ⟨HMK.out _ ⟨?_, ?_, ?_⟩, hK _ _ ?_⟩
 ·rw [HSV.out.block A (lt_of_block HAa.out) (by omega)]; exact HAa.out
 ·rw [HSV.out.block D (lt_of_block HDa.out) hDA]; exact HDa.out
 ·rw [HSV.out.block F (lt_of_block HFa.out.blk) (fun e => ?_)]
  ·exact HFa.out.blk
  ·have := HFa.out.blk
   rw [e, HRa.out] at this
   simp at this
 clear hK K
 refine walkM_read rfl rfl (fun K hK => ?_); refine ⟨by rfl, ?_⟩; unfold isRd; go_simp; refine hK _ ?_; clear hK K
 refine walkM_nil ?_
 have HFb := hide (HFa.out.aside HRa.out (by decide) (by decide) (by decide) HOW.out (by have := hF.out.bl.size; have := HAe.out; omega) HSV.out)
 clear e3 d0 d1 d2 d3 d4 p9 HMK
 go_wp2
 exact bodyPost_ret (v := .tuple #[.agg #[.int .i64 y0, .int .i64 y1, .int .i64 y2, .int .i64 y3, .int .i64 y4], .int .i64 (p_errNo (Pu.freeC pf i ⟨y0, y1, y2, y3, y4⟩))]) (by simp [results, Tryz.results30, go_sem, a0, a1, a2, a3, a4]) rfl ⟨rfl, _, HFb.out⟩
theorem mfcancel_any (a : Ask) (hF : Hid (MFl w W F P b v L pf n wd h)) (hg : Hid (Pu.Good pf)) (hl : Hid (∀ i, i < 3 → (L i).length ≤ 60)) :
  Calls Tryz.prog 30 #[.pointer (some ⟨F, 0, none⟩), askV a] W fun e W' => e = .returned (.tuple #[lotV (Fl.canX L a), .int .i64 (p_errNo (Fl.canC L pf a))]) ∧ ∃ v', MFl w W' F P b v' (Fl.canL L a) (Fl.canF L pf a) n wd h := by
 by_cases hk : Fl.kindN a 99 = 0
 ·cases hm : Fl.mine L a
  ·exact mfcancel_none a hF hl hk hm
  ·exact mfcancel_mine a hF hl hk hg hm
 ·exact mfcancel_kind a hF hk
end
namespace Fl
end Fl
theorem canL_len (l : List Cv.Lot) (id : Int) : (Bk.canL l id).length ≤ l.length := by
 unfold Bk.canL
 split
 ·rename_i h
  have hh : Cv.has l id = true := by
   unfold Bk.canC at h
   split at h
   ·assumption
   ·cases h
  rw [Bk.del_length (Bk.posI_lt hh)]
  omega
 ·exact Nat.le_refl _
theorem take_id {ids : List Int} {k : Nat} (h : k < ids.length) : ids.take (k + 1) = ids.take k ++ [ids.getD k 0] := by
 rw [List.take_add_one, List.getD_eq_getElem?_getD, List.getElem?_eq_getElem h]
 rfl

structure DInv (w W0 W : World) (F P : Nat) (b : Nat → Nat) (v : Nat → Value) (L : Nat → List Cv.Lot) (pf n : Nat → Int) (wd h : Int) (o : Value) (out : List Cv.Lot) : Prop where
 fl : MFl w W F P b v L pf n wd h
 row : W.ownsRow W0.heap.size 56 5 o out.length (flat out)
 ap : ∀ j, j < 3 → ∀ k, o.ownBlock = some k → (v j).ownBlock ≠ some k
 sz : W0.heap.size ≤ W.heap.size
section
variable {w W0 W W' : World} {F P : Nat} {b : Nat → Nat} {v : Nat → Value} {L : Nat → List Cv.Lot} {pf n : Nat → Int} {wd h : Int} {o : Value} {out : List Cv.Lot}
theorem row_below {base : Nat} {e : TypeId} {s : Nat} {v : Value} {m : Nat} {xs : List Value} (hr : W.ownsRow base e s v m xs) (hb : Below W.heap.size W W') : W'.ownsRow base e s v m xs :=
 row_only hr (Only.of_below hb none none) (fun _ _ => by simp) (fun _ _ => by simp)
theorem rowTT {base : Nat} {e T : TypeId} {s : Nat} {v : Value} {m : Nat} {xs : List Value} {q : Nat} {a : Array Value} (h : W.ownsRow base e s v m xs) (hq : W.heap[q]? = some (.cells a T (0, 0))) (hT : T ≠ e) : v.ownBlock ≠ some q := by
 intro ee
 rcases h.2 with ⟨e1, _⟩ | ⟨r, cap, cur, e1, _, hr, _⟩
 ·rw [e1] at ee; cases ee
 ·rw [e1] at ee
  have : r = q := by simpa [Value.ownBlock] using ee
  rw [this, hq] at hr
  simp only [Option.some.injEq, Obj.cells.injEq] at hr
  exact hT hr.2.1
theorem DInv.later (hd : DInv w W0 W F P b v L pf n wd h o out) (hb : Below W.heap.size W W') : DInv w W0 W' F P b v L pf n wd h o out := ⟨hd.fl.later hb, row_below hd.row hb, hd.ap, Nat.le_trans hd.sz hb.size⟩
theorem DInv.book (hd : DInv w W0 W F P b v L pf n wd h o out) {i : Nat} (hi : i < 3) {v' : Value} {L' : List Cv.Lot} (hb : MBook W' 0 (b i) v' L') (hs : Step W W' (b i) (v i) v') : DInv w W0 W' F P b (upd v i v') (upd L i L') pf n wd h o out := by
 refine ⟨hd.fl.book hi hb hs, row_only hd.row hs.only (fun k hk e => ?_) (fun k hk e => hd.ap i hi k hk e.symm), fun j hj k hk => ?_, Nat.le_trans hd.sz hs.only.size⟩
 ·have : k = b i := by simpa using e
  subst this
  exact rowTT hd.row (hd.fl.bk i hi).cell (by decide) hk
 ·by_cases hji : j = i
  ·subst hji
   rw [upd_same]
   intro e
   rcases hs.new k e with h1 | h1
   ·exact hd.ap j hj k hk h1
   ·have := (hd.row.lt k hk).2
    omega
  ·rw [upd_ne _ _ hji]; exact hd.ap j hj k hk
theorem DInv.purse (hd : DInv w W0 W F P b v L pf n wd h o out) {f' : Nat → Int} (hp : Purse W' 131 P f') (hs : Save W W' P) : DInv w W0 W' F P b v L f' n wd h o out := by
 refine ⟨hd.fl.purse hp hs, ?_, hd.ap, Nat.le_trans hd.sz hs.size⟩
 exact row_only hd.row (a := some P) (b := none) ⟨hs.os, hs.tape, hs.output, hs.size, fun k hk h1 _ => hs.block k hk (fun e => h1 (by rw [e]))⟩ (fun k hk e => by
  have : k = P := by simpa using e
  subst this
  exact rowTT hd.row hd.fl.pu (by decide) hk) (fun _ _ => by simp)
theorem DInv.aside (hd : DInv w W0 W F P b v L pf n wd h o out) {q : Nat} {a : Array Value} (hq : W.heap[q]? = some (.cells a 56 (0, 0))) (h4 : ∀ i, i < 3 → (v i).ownBlock ≠ some q) (h5 : o.ownBlock ≠ some q) (hlo : w.heap.size ≤ q) (hs : Save W W' q) : DInv w W0 W' F P b v L pf n wd h o out := by
 refine ⟨hd.fl.aside hq (by decide) (by decide) (by decide) h4 hlo hs, ?_, hd.ap, Nat.le_trans hd.sz hs.size⟩
 exact row_only hd.row (a := some q) (b := none) ⟨hs.os, hs.tape, hs.output, hs.size, fun k hk h1 _ => hs.block k hk (fun e => h1 (by rw [e]))⟩ (fun k hk e => by
  have : k = q := by simpa using e
  subst this
  exact h5 hk) (fun _ _ => by simp)
theorem DInv.grow (hd : DInv w W0 W F P b v L pf n wd h o out) (hW0 : w.heap.size ≤ W0.heap.size) {o' : Value} {out' : List Cv.Lot} (hr : W'.ownsRow W0.heap.size 56 5 o' out'.length (flat out')) (hg : W.grownBy W' o.ownBlock) (hl : o'.ownBlock = o.ownBlock ∨ o'.ownBlock = some W.heap.size) : DInv w W0 W' F P b v L pf n wd h o' out' := by
 have ho : Only W W' none o.ownBlock := Only.of_grown hg none
 have hk : ∀ {q : Nat} {a : Array Value} {T : TypeId}, W.heap[q]? = some (.cells a T (0, 0)) → T ≠ 56 → W'.heap[q]? = some (.cells a T (0, 0)) := fun {q a T} hq hT => by
  rw [ho.block q (lt_of_block hq) (by simp) (fun e => rowTT hd.row hq hT e.symm)]; exact hq
 refine ⟨⟨hk hd.fl.blk (by decide), fun i hi => ?_, hd.fl.ne, hd.fl.ap, hk hd.fl.pu (by decide), hd.fl.bl.step ho.os ho.tape ho.output ho.size (fun k hk5 _ _ _ => ho.block k (Nat.lt_of_lt_of_le hk5 hd.fl.bl.size) (by simp) (fun e => by have := (hd.row.lt k e.symm).1; omega)) (fun _ _ _ e => .inl e)⟩, hr, fun j hj k hk' => ?_, Nat.le_trans hd.sz hg.size⟩
 ·exact (hd.fl.bk i hi).only ho (by simp) (fun e => rowTT hd.row (hd.fl.bk i hi).cell (by decide) e.symm) (fun _ _ => by simp) (fun k hk e => hd.ap i hi k e.symm hk)
 ·rcases hl with h1 | h1
  ·rw [h1] at hk'; exact hd.ap j hj k hk'
  ·rw [h1] at hk'
   have : W.heap.size = k := by simpa using hk'
   intro e
   have := ((hd.fl.bk j hj).rowLt k e).2
   omega
end
theorem set5_save (W : World) (D : Nat) (x0 x1 x2 x3 x4 : Value) : Save W (((((W.setCell ⟨D, 0, none⟩ x0).setCell ⟨D, 1, none⟩ x1).setCell ⟨D, 2, none⟩ x2).setCell ⟨D, 3, none⟩ x3).setCell ⟨D, 4, none⟩ x4) D := (((((Save.setCell _ _ _ _).set _ _).set _ _).set _ _).set _ _)
theorem zero5 {W : World} {D : Nat} (hz : W.heap[D]? = some (.cells #[.int .i64 0, .int .i64 0, .int .i64 0, .int .i64 0, .int .i64 0] 56 (0, 0))) (j : Nat) (hj : j < 5) : W.cell? ⟨D, j, none⟩ = some (.int .i64 0) ∧ W.frozen? ⟨D, j, none⟩ = false := by
 refine ⟨?_, fof hz⟩
 simp only [World.cell?, hz]
 have : j = 0 ∨ j = 1 ∨ j = 2 ∨ j = 3 ∨ j = 4 := by omega
 rcases this with rfl | rfl | rfl | rfl | rfl <;> rfl
section
variable {w W : World} {F P : Nat} {b : Nat → Nat} {v : Nat → Value} {L : Nat → List Cv.Lot} {pf n : Nat → Int} {wd h : Int}

set_option maxHeartbeats 4000000 in
theorem mdrop_any (c : Int) (hF : Hid (MFl w W F P b v L pf n wd h)) (hg : Hid (Pu.Good pf)) (hl : Hid (∀ i, i < 3 → (L i).length ≤ 60)) :
  Calls Tryz.prog 31 #[.pointer (some ⟨F, 0, none⟩), .int .i64 c] W fun e W' => ∃ vo v', e = .returned vo ∧ DInv w W W' F P b v' (Fl.dropTo c L pf 3).1 (Fl.dropTo c L pf 3).2.1 n wd h vo (Fl.dropTo c L pf 3).2.2 := by
 obtain ⟨i0, z0, hi, hz0, hz1, hz2, hz3⟩ := info43
 have Hi := hide hi; have Hz0 := hide hz0; have Hz1 := hide hz1; have Hz2 := hide hz2; have Hz3 := hide hz3
 clear hi hz0 hz1 hz2 hz3
 have HWs : Hid (w.heap.size ≤ W.heap.size) := hF.out.bl.size
 go_enter Tryz.func31, Tryz.ntmps31
 go_wp2
 go_loopw [5, 6] (fun o i wr => ∃ (k : Nat) (v' : Nat → Value), k ≤ 3 ∧ i = .int .i64 k ∧ DInv w W wr F P b v' (Fl.dropTo c L pf k).1 (Fl.dropTo c L pf k).2.1 n wd h o (Fl.dropTo c L pf k).2.2 ∧ Pu.Good (Fl.dropTo c L pf k).2.1 ∧ (∀ j, j < 3 → ((Fl.dropTo c L pf k).1 j).length ≤ 60) ∧ (Fl.dropTo c L pf k).2.2.length ≤ 60 * k ∧ W.heap.size ≤ wr.heap.size) (fun _ i _ => 3 - (intOf i).toNat)
 case atStart => exact ⟨0, v, by omega, rfl, ⟨hF.out, World.ownsRow_nil _ _ _ _, fun _ _ _ e => (by cases e), Nat.le_refl _⟩, hg.out, hl.out, by simp [Fl.dropTo], Nat.le_refl _⟩
 case round =>
  obtain ⟨i, v1, hi, rfl, hd, hgo, hle, hol, hsz⟩ := hrel
  have HD := hide hd; have HGo := hide hgo; have HLe := hide hle; have HOL0 := hide hol; have HSZ0 := hide hsz
  clear hd hgo hle hol hsz
  by_cases hlt : i < 3
  ·have hi3 : i < 3 := hlt
   have hki : (i : Int) < 3 := by omega
   have hk0 : (0 : Int) ≤ (i : Int) := by omega
   have HNX : Hid (Fl.dropTo c L pf (i + 1) = (upd (Fl.dropTo c L pf i).1 i (Fl.dropI i ((Fl.dropTo c L pf i).1 i) (Fl.dropTo c L pf i).2.1 (Fl.dropTo c L pf i).2.2 (Bk.ids ((Fl.dropTo c L pf i).1 i) c)).1, (Fl.dropI i ((Fl.dropTo c L pf i).1 i) (Fl.dropTo c L pf i).2.1 (Fl.dropTo c L pf i).2.2 (Bk.ids ((Fl.dropTo c L pf i).1 i) c)).2.1, (Fl.dropI i ((Fl.dropTo c L pf i).1 i) (Fl.dropTo c L pf i).2.1 (Fl.dropTo c L pf i).2.2 (Bk.ids ((Fl.dropTo c L pf i).1 i) c)).2.2)) := rfl
   generalize hS : Fl.dropTo c L pf i = S at *
   obtain ⟨L1, f1, out1⟩ := S
   simp only [] at HD HGo HLe HOL0 HNX
   have fi := HD.out.fl.cell hi3
   have HOW := hide (mownerR_any (b i) 0 (v1 i) c (L1 i) wr (HD.out.fl.bk i hi3) (HLe.out i hi3))
   have HIL : Hid ((Bk.ids (L1 i) c).length ≤ 60) := Nat.le_trans (Bk.ids_length _ _) (HLe.out i hi3)
   clear hS
   generalize Bk.ids (L1 i) c = ids at *
   go_wp2_with fail
   refine HOW.out.mono ?_
   rintro e w2 ⟨vids, rfl, hrow, hb2⟩
   obtain ⟨ag, cg, hvids⟩ : ∃ ag cg, vids = .slice ag ids.length cg := by
    rcases hrow.2 with ⟨e1, e2⟩ | ⟨g, cap, cur, e1, _⟩
    ·exact ⟨none, 0, by rw [e1, e2]⟩
    ·exact ⟨_, _, e1⟩
   have HRI : Hid (ids.length = 0 ∨ ∃ g cur, ag = some ⟨g, 0, none⟩ ∧ w2.heap[g]? = some (.cells cur 3 (0, 0)) ∧ ∀ k, k < ids.length → cur[k]? = some (.int .i64 (ids.getD k 0))) := by
    rcases hrow.2 with ⟨e1, e2⟩ | ⟨g, cap, cur, e1, _, hgg, h4, h5, h6, h7⟩
    ·exact .inl e2
    ·refine .inr ⟨g, cur, ?_, hgg, fun k hk => ?_⟩
     ·rw [hvids] at e1
      injection e1
     ·have h8 : (cur.toList.take (ids.length * 1))[k]? = (iV ids)[k]? := by rw [h7]
      rw [Nat.mul_one, List.getElem?_take, if_pos hk] at h8
      rw [← Array.getElem?_toList, h8]
      unfold iV
      rw [List.getElem?_map, List.getElem?_eq_getElem hk, List.getD_eq_getElem?_getD, List.getElem?_eq_getElem hk]
      rfl
   have HD2 := hide (HD.out.later hb2)
   have HS2 : Hid (W.heap.size ≤ w2.heap.size) := Nat.le_trans HSZ0.out hb2.size
   subst hvids
   clear hrow hb2 HOW HD fi HSZ0
   obtain ⟨m, hm⟩ : ∃ m, ids.length = m := ⟨_, rfl⟩
   rw [hm] at HRI HIL ⊢
   have HM := hide hm
   clear hm
   have hm60 : m ≤ 60 := HIL.out
   obtain ⟨wq, hwq⟩ : ∃ wq, wr = wq := ⟨_, rfl⟩
   subst hwq
   simp only []
   go_wp2_with fail
   go_loopw [5, 8] (fun o k wr => ∃ (kk : Nat) (vr : Nat → Value) (l : List Cv.Lot) (f : Nat → Int) (out : List Cv.Lot), kk ≤ m ∧ k = .int .i64 kk ∧ (l, f, out) = Fl.dropI i (L1 i) f1 out1 (ids.take kk) ∧ DInv w W wr F P b vr (upd L1 i l) f n wd h o out ∧ (∀ (g : Nat) (cur : Array Value), ag = some ⟨g, 0, none⟩ → w2.heap[g]? = some (.cells cur 3 (0, 0)) → wr.heap[g]? = some (.cells cur 3 (0, 0))) ∧ Pu.Good f ∧ l.length ≤ 60 ∧ out.length ≤ 60 * i + kk ∧ W.heap.size ≤ wr.heap.size) (fun _ k _ => m - (intOf k).toNat)
   case atStart => exact ⟨0, v1, L1 i, f1, out1, Nat.zero_le _, rfl, by simp [Fl.dropI], by rw [upd_self]; exact HD2.out, fun _ _ _ h => h, HGo.out, HLe.out i hi3, by have := HOL0.out; omega, HS2.out⟩
   case round =>
    obtain ⟨kk, vr, l, f, out, hkk, rfl, hst, hdr, hgr, hgf, hll, hol, hsz⟩ := hrel
    have HST := hide hst; have HDr := hide hdr; have HGr := hide hgr; have HGf := hide hgf; have HLl := hide hll; have HOL := hide hol; have HSZ := hide hsz
    clear hst hdr hgr hgf hll hol hsz HD2 HS2
    by_cases hlt2 : kk < m
    ·have hkm : (kk : Int) < m := by omega
     have hkz : (0 : Int) ≤ (kk : Int) := by omega
     obtain ⟨g, cur, hag, hgc, hcu⟩ : ∃ g cur, ag = some ⟨g, 0, none⟩ ∧ w2.heap[g]? = some (.cells cur 3 (0, 0)) ∧ ∀ k, k < m → cur[k]? = some (.int .i64 (ids.getD k 0)) := by
      rcases HRI.out with e | e
      ·omega
      ·exact e
     subst hag
     have HG3 := hide (HGr.out g cur rfl hgc)
     have HGC2 := hide hgc
     have hck := hcu kk hlt2
     have HNXT : Hid (Fl.dropI i (L1 i) f1 out1 (ids.take (kk + 1)) = (Bk.canL l (ids.getD kk 0), Pu.freeF f i (Bk.canX l (ids.getD kk 0)), out ++ [Bk.canX l (ids.getD kk 0)])) := by
      show _ = _
      rw [take_id (by rw [HM.out]; exact hlt2), Fl.dropI_snoc, ← HST.out]
      rfl
     have HCL := hide (canL_len l (ids.getD kk 0))
     have HGN := hide (Pu.good_free HGf.out i (Bk.canX l (ids.getD kk 0)))
     have HMC : Hid (∀ W', DInv w W W' F P b vr (upd L1 i l) f n wd h u5 out → Calls Tryz.prog 65 #[.pointer (some ⟨b i, 0, none⟩), .int .i64 (ids.getD kk 0)] W' fun e w' => e = .returned (.tuple #[lotV (Bk.canX l (ids.getD kk 0)), .int .i64 (errNo (Bk.canC l (ids.getD kk 0)))]) ∧ ∃ vc, DInv w W w' F P b vc (upd L1 i (Bk.canL l (ids.getD kk 0))) f n wd h u5 out ∧ (∀ (q : Nat) (a : Array Value), W'.heap[q]? = some (.cells a 3 (0, 0)) → w'.heap[q]? = some (.cells a 3 (0, 0))) ∧ (∀ (q : Nat) (a : Array Value), W'.heap[q]? = some (.cells a 56 (0, 0)) → (vr i).ownBlock ≠ some q → w'.heap[q]? = some (.cells a 56 (0, 0))) ∧ ∀ q, q < W'.heap.size → (∀ j, j < 3 → (vr j).ownBlock ≠ some q) → ∀ j, j < 3 → (vc j).ownBlock ≠ some q) := fun W' hd => by
      have hbk := hd.fl.bk i hi3
      rw [upd_same] at hbk
      refine (mcancel_any (b i) 0 (vr i) (ids.getD kk 0) l W' hbk HLl.out).mono ?_
      rintro e w' ⟨rfl, v', hb, hs⟩
      have hnb : ∀ {q : Nat} {a : Array Value} {T : TypeId}, W'.heap[q]? = some (.cells a T (0, 0)) → T ≠ 138 → some q ≠ some (b i) := fun {q a T} hq hT e => by
       have : q = b i := by simpa using e
       rw [this, hbk.cell] at hq
       simp only [Option.some.injEq, Obj.cells.injEq] at hq
       exact hT hq.2.1.symm
      have hdb := hd.book hi3 hb hs
      rw [upd_upd] at hdb
      refine ⟨rfl, upd vr i v', hdb, fun q a hq => ?_, fun q a hq hno => ?_, fun q hq hall j hj e => ?_⟩
      ·rw [hs.only.block q (lt_of_block hq) (hnb hq (by decide)) (fun e => rowTT hbk.row hq (by decide) e.symm)]; exact hq
      ·rw [hs.only.block q (lt_of_block hq) (hnb hq (by decide)) (fun e => hno e.symm)]; exact hq
      ·by_cases hji : j = i
       ·subst hji
        rw [upd_same] at e
        rcases hs.new _ e with h1 | h1
        ·exact hall j hj h1
        ·omega
       ·rw [upd_ne _ _ hji] at e
        exact hall j hj e
     have HMF : Hid (∀ W', Purse W' 131 P f → Calls Tryz.prog 66 #[.pointer (some ⟨P, 0, none⟩), .int .i64 i, lotV (Bk.canX l (ids.getD kk 0))] W' fun e w' => e = .returned (.int .i64 (p_errNo (Pu.freeC f i (Bk.canX l (ids.getD kk 0))))) ∧ Purse w' 131 P (Pu.freeF f i (Bk.canX l (ids.getD kk 0))) ∧ Save W' w' P) := fun W' hp => mfree_any P i _ f W' hp HGf.out
     generalize ids.getD kk 0 = idk at *
     generalize Bk.canL l idk = l' at *
     generalize errNo (Bk.canC l idk) = ec at *
     generalize Pu.freeF f i (Bk.canX l idk) = f' at *
     generalize p_errNo (Pu.freeC f i (Bk.canX l idk)) = efc at *
     generalize Bk.canX l idk = yy at *
     obtain ⟨y0, y1, y2, y3, y4⟩ := yy
     unfold lotV at HMC HMF
     simp only [] at HMC HMF
     obtain ⟨XT, val, hcl, hmk⟩ := rows3_all F g F (.cells (floorA b n P wd h) 136 (0, 0)) (.cells cur 3 (0, 0)) (.cells (floorA b n P wd h) 136 (0, 0))
     obtain ⟨xx0, hxx0⟩ := hmk wr.drew ⟨HDr.out.fl.blk, HG3.out, HDr.out.fl.blk⟩
     have hnx : Nonempty XT := ⟨xx0⟩
     have ei : ∀ x, (val x).cell? ⟨F, i, none⟩ = some (.pointer (some ⟨b i, 0, none⟩)) := fun x => by
      rw [cell_of_row _ _ i _ _ _ (hcl x).1]
      have : i = 0 ∨ i = 1 ∨ i = 2 := by omega
      rcases this with rfl | rfl | rfl <;> rfl
     have ek : ∀ x, (val x).cell? ⟨g, kk, none⟩ = some (.int .i64 idk) := fun x => by rw [cell_of_row _ _ kk _ _ _ (hcl x).2.1]; exact hck
     have HMK := hide hmk
     have HD3 : Hid (DInv w W wr.drew F P b vr (upd L1 i l) f n wd h u5 out) := HDr.out.later ⟨rfl, rfl, rfl, Nat.le_refl _, fun _ _ => rfl⟩
     have HG4 : Hid (wr.drew.heap[g]? = some (.cells cur 3 (0, 0))) := HG3.out
     clear hmk hcl HG3 hgc hcu hck HGf
     have HG3 := HG4
     clear HG4
     go_wp2_with fail
     refine region_plan (val := val) (.read 0 (.read 1 (.read 2 (.read 3 (.read 4 (.read 5 (.read 6 (.read 7 (.read 8 (.read 9 (.two 10 (.read 11 (.read 12 (.read 13 (.one 14 (.one 15 (.read 16 .done)))))) 14 (.one 10 (.read 11 (.read 12 (.read 13 (.one 15 (.read 16 .done))))))))))))))))) (by kernel_rfl) (by kernel_rfl) xx0 hxx0 ?_
     rw [hxx0]
     clear hxx0
     have HSZ3 : Hid (W.heap.size ≤ wr.drew.heap.size) := HSZ.out
     generalize wr.drew = w3 at *
     iterate 10 (refine walkP_read rfl (fun K hK => ?_); refine ⟨by rfl, ?_⟩; unfold isRd; go_simp; refine hK _ ?_; clear hK K)
     refine ⟨?_, ?_⟩
     case' refine_1 =>
      refine spec_step rfl (fun K hK => ?_)
      refine ⟨by rfl, ?_⟩
      unfold upM
      go_simp
      refine (HMC.out _ HD3.out).mono ?_
      rintro e wc ⟨rfl, vc, hDc, hGc, _, _⟩
      refine ⟨_, rfl, HMK.out _ ⟨hDc.fl.blk, hGc g cur HG3.out, hDc.fl.blk⟩, hK _ _ ?_⟩
      clear hK K
      have HDc0 := hide hDc; have HGc0 := hide (hGc g cur HG3.out)
      clear hDc hGc
      iterate 3 (refine walkP_read rfl (fun K hK => ?_); refine ⟨by rfl, ?_⟩; unfold isRd; go_simp; refine hK _ ?_; clear hK K)
      refine spec_step rfl (fun K hK => ?_)
      refine ⟨by rfl, ?_⟩
      unfold upM
      go_simp
      obtain ⟨DD, hDD⟩ : ∃ DD, wc.heap.size = DD := ⟨_, rfl⟩
      obtain ⟨wz, hwz⟩ : ∃ wz, wc.alloc (.cells #[.int .i64 0, .int .i64 0, .int .i64 0, .int .i64 0, .int .i64 0] 56) = wz := ⟨_, rfl⟩
      rw [hDD, hwz]
      have hbz : Below wc.heap.size wc wz := by rw [← hwz]; exact bal
      have HDc := hide (HDc0.out.later hbz)
      have HGc : Hid (wz.heap[g]? = some (.cells cur 3 (0, 0))) := rof hbz HGc0.out
      have HZc : Hid (wz.heap[DD]? = some (.cells #[.int .i64 0, .int .i64 0, .int .i64 0, .int .i64 0, .int .i64 0] 56 (0, 0))) := by show _ = _; rw [← hwz, ← hDD]; exact heap_alloc_new _ _
      have HN4 : Hid (∀ j, j < 3 → (vc j).ownBlock ≠ some DD) := fun j hj e => by have := ((HDc0.out.fl.bk j hj).rowLt _ e).2; omega
      have HN5 : Hid (u5.ownBlock ≠ some DD) := fun e => by have := (HDc0.out.row.lt _ e).2; omega
      have HLO : Hid (w.heap.size ≤ DD) := by have := HDc0.out.fl.bl.size; show _ ≤ _; omega
      refine ⟨HMK.out _ ⟨HDc.out.fl.blk, HGc.out, HDc.out.fl.blk⟩, hK _ _ ?_⟩
      clear hK K hbz hwz hDD HDc0 HGc0
      have ⟨a0, f0⟩ := zero5 HZc.out 0 (by decide); have ⟨a1, f1⟩ := zero5 HZc.out 1 (by decide); have ⟨a2, f2⟩ := zero5 HZc.out 2 (by decide); have ⟨a3, f3⟩ := zero5 HZc.out 3 (by decide); have ⟨a4, f4⟩ := zero5 HZc.out 4 (by decide)
      have HSV := hide (set5_save wz DD (.int .i64 y0) (.int .i64 y1) (.int .i64 y2) (.int .i64 y3) (.int .i64 y4))
      have HX8 := hide (set5_row HZc.out y0 y1 y2 y3 y4)
      have HNF : Hid (F ≠ DD) := fun e => by
       have := HDc.out.fl.blk
       rw [e, HZc.out] at this
       simp at this
      have HNG : Hid (g ≠ DD) := fun e => by
       have := HGc.out
       rw [e, HZc.out] at this
       simp at this
      refine spec_step rfl (fun K hK => ?_)
      refine ⟨by rfl, ?_⟩
      unfold upM
      go_simp
      refine ⟨HMK.out _ ⟨?_, ?_, ?_⟩, hK _ _ ?_⟩
      ·rw [HSV.out.block F (lt_of_block HDc.out.fl.blk) HNF.out]; exact HDc.out.fl.blk
      ·rw [HSV.out.block g (lt_of_block HGc.out) HNG.out]; exact HGc.out
      ·rw [HSV.out.block F (lt_of_block HDc.out.fl.blk) HNF.out]; exact HDc.out.fl.blk
      clear hK K
      refine walkP_read rfl (fun K hK => ?_); refine ⟨by rfl, ?_⟩; unfold isRd; go_simp; refine hK _ ?_; clear hK K
      refine walkP_done ?_
      have HD8 := hide (HDc.out.aside HZc.out HN4.out HN5.out HLO.out HSV.out)
      have HG8 : Hid ((((((wz.setCell ⟨DD, 0, none⟩ (.int .i64 y0)).setCell ⟨DD, 1, none⟩ (.int .i64 y1)).setCell ⟨DD, 2, none⟩ (.int .i64 y2)).setCell ⟨DD, 3, none⟩ (.int .i64 y3)).setCell ⟨DD, 4, none⟩ (.int .i64 y4)).heap[g]? = some (.cells cur 3 (0, 0))) := by show _ = _; rw [HSV.out.block g (lt_of_block HGc.out) HNG.out]; exact HGc.out
      clear HDc HZc HGc HSV HNF HNG HN4 HN5 HLO a0 a1 a2 a3 a4 f0 f1 f2 f3 f4
      generalize ((((wz.setCell ⟨DD, 0, none⟩ (.int .i64 y0)).setCell ⟨DD, 1, none⟩ (.int .i64 y1)).setCell ⟨DD, 2, none⟩ (.int .i64 y2)).setCell ⟨DD, 3, none⟩ (.int .i64 y3)).setCell ⟨DD, 4, none⟩ (.int .i64 y4) = w8 at *
     case' refine_2 =>
      refine spec_step rfl (fun K hK => ?_)
      refine ⟨by rfl, ?_⟩
      unfold upM
      go_simp
      obtain ⟨DD, hDD⟩ : ∃ DD, w3.heap.size = DD := ⟨_, rfl⟩
      obtain ⟨wy, hwy⟩ : ∃ wy, w3.alloc (.cells #[.int .i64 0, .int .i64 0, .int .i64 0, .int .i64 0, .int .i64 0] 56) = wy := ⟨_, rfl⟩
      rw [hDD, hwy]
      have hbz : Below w3.heap.size w3 wy := by rw [← hwy]; exact bal
      have HDy := hide (HD3.out.later hbz)
      have HGy : Hid (wy.heap[g]? = some (.cells cur 3 (0, 0))) := rof hbz HG3.out
      have HZy : Hid (wy.heap[DD]? = some (.cells #[.int .i64 0, .int .i64 0, .int .i64 0, .int .i64 0, .int .i64 0] 56 (0, 0))) := by show _ = _; rw [← hwy, ← hDD]; exact heap_alloc_new _ _
      have HY4 : Hid (∀ j, j < 3 → (vr j).ownBlock ≠ some DD) := fun j hj e => by have := ((HD3.out.fl.bk j hj).rowLt _ e).2; omega
      have HY5 : Hid (u5.ownBlock ≠ some DD) := fun e => by have := (HD3.out.row.lt _ e).2; omega
      have HLO : Hid (w.heap.size ≤ DD) := by have := HD3.out.fl.bl.size; show _ ≤ _; omega
      refine ⟨HMK.out _ ⟨HDy.out.fl.blk, HGy.out, HDy.out.fl.blk⟩, hK _ _ ?_⟩
      clear hK K hbz hwy hDD
      refine spec_step rfl (fun K hK => ?_)
      refine ⟨by rfl, ?_⟩
      unfold upM
      go_simp
      refine (HMC.out _ HDy.out).mono ?_
      rintro e wz ⟨rfl, vc, hDc, hGc, hZc, hN4⟩
      refine ⟨_, rfl, HMK.out _ ⟨hDc.fl.blk, hGc g cur HGy.out, hDc.fl.blk⟩, hK _ _ ?_⟩
      clear hK K
      have HDc := hide hDc; have HGc := hide (hGc g cur HGy.out)
      have HZc := hide (hZc DD _ HZy.out (HY4.out i hi3))
      have HN4 := hide (hN4 DD (lt_of_block HZy.out) HY4.out)
      have HN5 := HY5
      clear hDc hGc hZc hN4 HDy HGy HZy HY4 HY5
      iterate 3 (refine walkP_read rfl (fun K hK => ?_); refine ⟨by rfl, ?_⟩; unfold isRd; go_simp; refine hK _ ?_; clear hK K)
      have ⟨a0, f0⟩ := zero5 HZc.out 0 (by decide); have ⟨a1, f1⟩ := zero5 HZc.out 1 (by decide); have ⟨a2, f2⟩ := zero5 HZc.out 2 (by decide); have ⟨a3, f3⟩ := zero5 HZc.out 3 (by decide); have ⟨a4, f4⟩ := zero5 HZc.out 4 (by decide)
      have HSV := hide (set5_save wz DD (.int .i64 y0) (.int .i64 y1) (.int .i64 y2) (.int .i64 y3) (.int .i64 y4))
      have HX8 := hide (set5_row HZc.out y0 y1 y2 y3 y4)
      have HNF : Hid (F ≠ DD) := fun e => by
       have := HDc.out.fl.blk
       rw [e, HZc.out] at this
       simp at this
      have HNG : Hid (g ≠ DD) := fun e => by
       have := HGc.out
       rw [e, HZc.out] at this
       simp at this
      refine spec_step rfl (fun K hK => ?_)
      refine ⟨by rfl, ?_⟩
      unfold upM
      go_simp
      refine ⟨HMK.out _ ⟨?_, ?_, ?_⟩, hK _ _ ?_⟩
      ·rw [HSV.out.block F (lt_of_block HDc.out.fl.blk) HNF.out]; exact HDc.out.fl.blk
      ·rw [HSV.out.block g (lt_of_block HGc.out) HNG.out]; exact HGc.out
      ·rw [HSV.out.block F (lt_of_block HDc.out.fl.blk) HNF.out]; exact HDc.out.fl.blk
      clear hK K
      refine walkP_read rfl (fun K hK => ?_); refine ⟨by rfl, ?_⟩; unfold isRd; go_simp; refine hK _ ?_; clear hK K
      refine walkP_done ?_
      have HD8 := hide (HDc.out.aside HZc.out HN4.out HN5.out HLO.out HSV.out)
      have HG8 : Hid ((((((wz.setCell ⟨DD, 0, none⟩ (.int .i64 y0)).setCell ⟨DD, 1, none⟩ (.int .i64 y1)).setCell ⟨DD, 2, none⟩ (.int .i64 y2)).setCell ⟨DD, 3, none⟩ (.int .i64 y3)).setCell ⟨DD, 4, none⟩ (.int .i64 y4)).heap[g]? = some (.cells cur 3 (0, 0))) := by show _ = _; rw [HSV.out.block g (lt_of_block HGc.out) HNG.out]; exact HGc.out
      clear HDc HZc HGc HSV HNF HNG HN4 HN5 HLO a0 a1 a2 a3 a4 f0 f1 f2 f3 f4
      generalize ((((wz.setCell ⟨DD, 0, none⟩ (.int .i64 y0)).setCell ⟨DD, 1, none⟩ (.int .i64 y1)).setCell ⟨DD, 2, none⟩ (.int .i64 y2)).setCell ⟨DD, 3, none⟩ (.int .i64 y3)).setCell ⟨DD, 4, none⟩ (.int .i64 y4) = w8 at *
     all_goals
      clear ei ek HMK HMC

      have x0 : w8.cell? ⟨DD, 0, none⟩ = some (.int .i64 y0) := cof HX8.out rfl
      have x1 : w8.cell? ⟨DD, 1, none⟩ = some (.int .i64 y1) := cof HX8.out rfl
      have x2 : w8.cell? ⟨DD, 2, none⟩ = some (.int .i64 y2) := cof HX8.out rfl
      have x3 : w8.cell? ⟨DD, 3, none⟩ = some (.int .i64 y3) := cof HX8.out rfl
      have x4 : w8.cell? ⟨DD, 4, none⟩ = some (.int .i64 y4) := cof HX8.out rfl
      have fp := HD8.out.fl.cellP
      go_wp2_with fail
      refine region_quiet_tail 6 (by kernel_rfl) (by kernel_rfl) ?_
      simp only [List.take_succ_cons, List.take_zero, List.drop_succ_cons, List.drop_zero]
      repeat (first | go_big_quiet_step (fail) | quiet_step (fail))
      refine wpQuiet_nil ?_
      intro _ hw'
      obtain ⟨nq, hw''⟩ := hw'
      subst hw''
      have HX9 : Hid ((w8.drewN nq).heap[DD]? = some (.cells #[.int .i64 y0, .int .i64 y1, .int .i64 y2, .int .i64 y3, .int .i64 y4] 56 (0, 0))) := HX8.out
      have HG9 : Hid ((w8.drewN nq).heap[g]? = some (.cells cur 3 (0, 0))) := HG8.out
      have HD9 := hide (HD8.out.later (blw_drew nq))
      clear x0 x1 x2 x3 x4 fp HX8 HG8 HD8
      generalize w8.drewN nq = w9 at *
      have HH := hide (HMF.out w9 HD9.out.fl.pu)
      go_wp2_with fail
      refine HH.out.mono ?_
      rintro e wa ⟨rfl, hpa, hsa⟩
      have hneP : ∀ {q : Nat} {aa : Array Value} {TT : TypeId}, w9.heap[q]? = some (.cells aa TT (0, 0)) → TT ≠ 131 → wa.heap[q]? = some (.cells aa TT (0, 0)) := fun {q aa TT} hq h1 => by
       rw [hsa.block q (lt_of_block hq) (fun e => ?_)]
       ·exact hq
       ·rw [e, show w9.heap[P]? = _ from HD9.out.fl.pu] at hq
        simp only [Option.some.injEq, Obj.cells.injEq] at hq
        exact h1 hq.2.1.symm
      have HXa : Hid (wa.heap[DD]? = some (.cells #[.int .i64 y0, .int .i64 y1, .int .i64 y2, .int .i64 y3, .int .i64 y4] 56 (0, 0))) := hneP HX9.out (by decide)
      have HGa : Hid (wa.heap[g]? = some (.cells cur 3 (0, 0))) := hneP HG9.out (by decide)
      have HDa := hide (HD9.out.purse hpa hsa)
      clear hneP hpa hsa HH HX9 HG9 HD9
      have x0 : wa.cell? ⟨DD, 0, none⟩ = some (.int .i64 y0) := cof HXa.out rfl
      have x1 : wa.cell? ⟨DD, 1, none⟩ = some (.int .i64 y1) := cof HXa.out rfl
      have x2 : wa.cell? ⟨DD, 2, none⟩ = some (.int .i64 y2) := cof HXa.out rfl
      have x3 : wa.cell? ⟨DD, 3, none⟩ = some (.int .i64 y3) := cof HXa.out rfl
      have x4 : wa.cell? ⟨DD, 4, none⟩ = some (.int .i64 y4) := cof HXa.out rfl
      simp only []
      go_wp2_with (at_builtin; refine wpList_append_own_at _ rfl _ _ 37 rfl W.heap.size 56 i0 z0 5 40 Tryz.underlying37 Hi.out Hz0.out Hz1.out Hz2.out Hz3.out (by decide) _ _ _ rfl (HDa.out.row.alloc _) ⟨wa.heap.size, 0, none⟩ 1 1 (lotCells ⟨y0, y1, y2, y3, y4⟩) rfl rfl ?c1 ?c2 ?c3 ?c4 ?c5 ?_)
      case c1 => exact fun j u hj => cell_new5 wa ⟨y0, y1, y2, y3, y4⟩ 56 _ rfl j u hj
      case c2 => exact fun u hu => by
                      simp only [lotCells, List.mem_cons, List.not_mem_nil, or_false] at hu
                      rcases hu with rfl | rfl | rfl | rfl | rfl <;> rfl
      case c3 => have := HOL.out; unfold maxLen; omega
      case c4 => have := HOL.out; omega
      case c5 => have := HDa.out.sz; simp; omega
      intro ve we hown' hgrow _ hloc
      have HDe : Hid (DInv w W we F P b vc (upd L1 i l') f' n wd h ve (out ++ [⟨y0, y1, y2, y3, y4⟩])) := by
       refine (HDa.out.later (bal)).grow HWs.out ?_ hgrow (by simpa using hloc)
       rw [show flat (out ++ [⟨y0, y1, y2, y3, y4⟩]) = flat out ++ lotCells ⟨y0, y1, y2, y3, y4⟩ by simp [flat], List.length_append]
       exact hown'
      have HGe : Hid (we.heap[g]? = some (.cells cur 3 (0, 0))) := by
       have hga : (wa.alloc (.cells #[.int .i64 y0, .int .i64 y1, .int .i64 y2, .int .i64 y3, .int .i64 y4] 56)).heap[g]? = some (.cells cur 3 (0, 0)) := (Below.heap_alloc _ _ _ (lt_of_block HGa.out)).trans HGa.out
       show _ = _
       rw [hgrow.block g (lt_of_block hga) (fun e => rowTT HDa.out.row HGa.out (by decide) e.symm)]
       exact hga
      clear hown' hgrow hloc HDa HGa HXa x0 x1 x2 x3 x4
      go_wp2
      refine ⟨⟨kk + 1, vc, l', f', out ++ [⟨y0, y1, y2, y3, y4⟩], by omega, by go_num, HNXT.out.symm, HDe.out, fun g2 cur2 e2 hc2 => ?_, HGN.out, Nat.le_trans HCL.out HLl.out, ?_, HDe.out.sz⟩, by simp [intOf]; omega⟩
      ·obtain rfl : g = g2 := by simpa using e2
       rw [HGC2.out] at hc2
       rw [HGe.out]
       exact hc2
      ·have := HOL.out
       simp
       omega
    ·have hkm : ¬ (kk : Int) < m := by omega
     obtain rfl : kk = m := by omega
     have hst := HST.out
     rw [List.take_of_length_le (by rw [HM.out]; omega)] at hst
     have HST2 := hide hst
     clear hst HST
     go_wp2
     refine ⟨⟨i + 1, vr, by omega, by go_num, ?_⟩, by simp [intOf]; omega⟩
     rw [HNX.out, ← HST2.out]
     simp only []
     refine ⟨HDr.out, HGf.out, fun j hj => ?_, ?_, HSZ.out⟩
     ·by_cases hji : j = i
      ·subst hji; rw [upd_same]; exact HLl.out
      ·rw [upd_ne _ _ hji]; exact HLe.out j hj
     ·have := HOL.out
      omega
  ·have hki : ¬ (i : Int) < 3 := by omega
   obtain rfl : i = 3 := by omega
   go_wp2
   go_ret
   exact ⟨_, rfl, v1, HD.out⟩
end
theorem came_book {W : World} {base p : Nat} {v : Value} {l : List Cv.Lot} (h : MBook W base p v l) : Came W v l := by
 rcases h.form with ⟨e1, e2⟩ | ⟨g, cap, e1, _, _, hl⟩
 ·exact .inl ⟨e2, none, 0, e1⟩
 ·refine .inr ⟨⟨g, 0, none⟩, cap, e1, fun i hi => ?_⟩
  have hp : ∀ k, (⟨g, 0, none⟩ : Addr).add k = ⟨g, k, none⟩ := fun k => by unfold Addr.add; split <;> simp_all
  have := hl i hi
  simp only [Nat.zero_add] at this
  rw [hp]
  exact this

theorem floor_set (b : Nat → Nat) (n : Nat → Int) (P : Nat) (wd h : Int) {i : Nat} (hi : i < 3) (r l : Int) :
  ((floorA b n P wd h).setIfInBounds (3 + i * 2) (.int .i64 r)).setIfInBounds (3 + i * 2 + 1) (.int .i64 l) = floorA b (upd (upd n (i * 2) r) (i * 2 + 1) l) P wd h := by
 have : i = 0 ∨ i = 1 ∨ i = 2 := by omega
 rcases this with rfl | rfl | rfl <;> rfl
section
variable {w W : World} {F P : Nat} {b : Nat → Nat} {v : Nat → Value} {L : Nat → List Cv.Lot} {pf n : Nat → Int} {wd h : Int}
theorem MFl.band (hf : MFl w W F P b v L pf n wd h) {i : Nat} (hi : i < 3) (r l : Int) :
  MFl w ((W.setCell ⟨F, 3 + i * 2, none⟩ (.int .i64 r)).setCell ⟨F, 3 + i * 2 + 1, none⟩ (.int .i64 l)) F P b v L pf (upd (upd n (i * 2) r) (i * 2 + 1) l) wd h := by
 have h0 : (W.setCell ⟨F, 3 + i * 2, none⟩ (.int .i64 r)).heap[F]? = some (.cells ((floorA b n P wd h).setIfInBounds (3 + i * 2) (.int .i64 r)) 136 (0, 0)) := by
  rw [setCell_eq_setRow W F _ _ _ _ _ hf.blk]; exact setRow_heap W F _ _ _ _ hf.blk
 have h1 : ((W.setCell ⟨F, 3 + i * 2, none⟩ (.int .i64 r)).setCell ⟨F, 3 + i * 2 + 1, none⟩ (.int .i64 l)).heap[F]? = some (.cells (floorA b (upd (upd n (i * 2) r) (i * 2 + 1) l) P wd h) 136 (0, 0)) := by
  rw [setCell_eq_setRow _ F _ _ _ _ _ h0, setRow_heap _ F _ _ _ _ h0, floor_set b n P wd h hi r l]
 have hs : Save W ((W.setCell ⟨F, 3 + i * 2, none⟩ (.int .i64 r)).setCell ⟨F, 3 + i * 2 + 1, none⟩ (.int .i64 l)) F := (Save.setCell _ _ _ _).set _ _
 have hne : ∀ {q : Nat} {c : Array Value} {U : TypeId}, W.heap[q]? = some (.cells c U (0, 0)) → U ≠ 136 → q ≠ F := fun {q c U} hq hU e => by
  rw [e, hf.blk] at hq
  simp only [Option.some.injEq, Obj.cells.injEq] at hq
  exact hU hq.2.1.symm
 have ho : Only W ((W.setCell ⟨F, 3 + i * 2, none⟩ (.int .i64 r)).setCell ⟨F, 3 + i * 2 + 1, none⟩ (.int .i64 l)) (some F) none := ⟨hs.os, hs.tape, hs.output, hs.size, fun k hk h1 _ => hs.block k hk (fun e => h1 (by rw [e]))⟩
 refine ⟨h1, fun j hj => ?_, hf.ne, hf.ap, hf.pu.save hs (hne hf.pu (by decide)), hf.bl.step hs.os hs.tape hs.output hs.size (fun k hk h4 _ _ => hs.block k (Nat.lt_of_lt_of_le hk hf.bl.size) h4) (fun _ _ _ e => .inl e)⟩
 exact (hf.bk j hj).only ho (by simp; exact hne (hf.bk j hj).cell (by decide)) (by simp) (fun k hk e => by
  have : k = F := by simpa using e
  subst this
  exact rowT (hf.bk j hj).row hf.blk (by decide) hk) (fun _ _ => by simp)
end
theorem mset4_row {W : World} {R : Nat} (hz : W.heap[R]? = some (.cells #[.int .i64 0, .int .i64 0, .bool false, .slice none 0 0] 82 (0, 0))) (p vol : Int) (o : Bool) :
  ((((W.setCell ⟨R, 0, none⟩ (.int .i64 p)).setCell ⟨R, 1, none⟩ (.int .i64 vol)).setCell ⟨R, 2, none⟩ (.bool o)).setCell ⟨R, 3, none⟩ (.slice none 0 0)).heap[R]? = some (.cells #[.int .i64 p, .int .i64 vol, .bool o, .slice none 0 0] 82 (0, 0)) := by
 have h0 : (W.setCell ⟨R, 0, none⟩ (.int .i64 p)).heap[R]? = some (.cells #[.int .i64 p, .int .i64 0, .bool false, .slice none 0 0] 82 (0, 0)) := by
  rw [setCell_eq_setRow W R 0 _ _ _ _ hz]; exact setRow_heap W R _ _ _ _ hz
 have h1 : ((W.setCell ⟨R, 0, none⟩ (.int .i64 p)).setCell ⟨R, 1, none⟩ (.int .i64 vol)).heap[R]? = some (.cells #[.int .i64 p, .int .i64 vol, .bool false, .slice none 0 0] 82 (0, 0)) := by
  rw [setCell_eq_setRow _ R 1 _ _ _ _ h0]; exact setRow_heap _ R _ _ _ _ h0
 have h2 : (((W.setCell ⟨R, 0, none⟩ (.int .i64 p)).setCell ⟨R, 1, none⟩ (.int .i64 vol)).setCell ⟨R, 2, none⟩ (.bool o)).heap[R]? = some (.cells #[.int .i64 p, .int .i64 vol, .bool o, .slice none 0 0] 82 (0, 0)) := by
  rw [setCell_eq_setRow _ R 2 _ _ _ _ h1]; exact setRow_heap _ R _ _ _ _ h1
 rw [setCell_eq_setRow _ R 3 _ _ _ _ h2]; exact setRow_heap _ R _ _ _ _ h2

section
variable {w W : World} {F P : Nat} {b : Nat → Nat} {v : Nat → Value} {L : Nat → List Cv.Lot} {pf n : Nat → Int} {wd h : Int}

set_option maxHeartbeats 4000000 in
theorem mrun_still (i : Nat) (hi3 : i < 3) (s p vol : Int) (hF : Hid (MFl w W F P b v L pf n wd h)) (hgd : Hid (Bk.Good (L i))) (hband : Hid (Bd.bOk (n (i * 2)) (n (i * 2 + 1)) = true)) (hrule : Hid (Bd.rOk wd h = true)) (hwon : Hid (Cv.Won (L i) (n (i * 2)) 1000 p vol))
  (hstill : Bd.nO (n (i * 2)) (n (i * 2 + 1)) wd p vol = false ∨ vol = 0) :
  Calls Tryz.prog 32 #[.pointer (some ⟨F, 0, none⟩), .int .i64 i, .int .u32 s] W fun e W' => e = .returned (.agg #[.int .i64 p, .int .i64 vol, .bool (Bd.nO (n (i * 2)) (n (i * 2 + 1)) wd p vol), .slice none 0 0]) ∧ MFl w W' F P b v L pf (upd (upd n (i * 2) (Bd.nR (n (i * 2)) (n (i * 2 + 1)) wd p vol)) (i * 2 + 1) (Bd.nL (n (i * 2)) (n (i * 2 + 1)) wd h p vol)) wd h := by
 have hgw := good_well hgd.out
 have HBK := hide (hF.out.bk i hi3)
 obtain ⟨hr1, hr2⟩ : 1 ≤ n (i * 2) ∧ n (i * 2) ≤ 1000 := by
  have := hband.out
  simp [Bd.bOk, Wi.withinB] at this
  omega
 have HPR : Hid (∀ W', MBook W' 0 (b i) (v i) (L i) → Calls Tryz.prog 68 #[v i, .int .i64 (n (i * 2))] W' fun e w' => e = .returned (.tuple #[.int .i64 p, .int .i64 vol]) ∧ Below W'.heap.size W' w') := fun W' hb => by
  refine (priceOf_any (v i) (L i) (n (i * 2)) W' (came_book hb) hgw hr1 hr2).mono ?_
  rintro e w' ⟨⟨p', vol', rfl, hw'⟩, hbl⟩
  obtain ⟨e1, e2⟩ := hw'.unique hwon.out
  rw [e1, e2]
  exact ⟨rfl, hbl⟩
 have hvok : Bd.vOk p vol = true := by
  rcases hwon.out with ⟨e1, e2, _⟩ | ⟨e1, e2, e3, _⟩
  ·rw [e2]; simp [Bd.vOk]
  ·simp [Bd.vOk, Wi.withinB, e2, e3]; omega
 have HNB := hide (fun W' => nextBand_any (n (i * 2)) (n (i * 2 + 1)) wd h p vol W' (by rw [hband.out, hrule.out, hvok]; rfl))
 unfold bandV at HNB
 obtain ⟨sa, sm, sc, hvs⟩ : ∃ a m c, v i = .slice a m c := by
  rcases HBK.out.form with ⟨e, _⟩ | ⟨g, cap, e, _⟩
  ·exact ⟨_, _, _, e⟩
  ·exact ⟨_, _, _, e⟩
 have HPR2 : Hid (∀ W', MBook W' 0 (b i) (v i) (L i) → Calls Tryz.prog 68 #[.slice sa sm sc, .int .i64 (n (i * 2))] W' fun e w' => e = .returned (.tuple #[.int .i64 p, .int .i64 vol]) ∧ Below W'.heap.size W' w') := fun W' hb => by
  have := HPR.out W' hb
  rwa [hvs] at this
 clear HPR
 have HPR := HPR2
 clear HPR2
 have HVS := hide hvs
 clear hvs hgw hvok hr1 hr2
 generalize hnr : Bd.nR (n (i * 2)) (n (i * 2 + 1)) wd p vol = nr at *
 generalize hnl : Bd.nL (n (i * 2)) (n (i * 2 + 1)) wd h p vol = nl at *
 generalize hno : Bd.nO (n (i * 2)) (n (i * 2 + 1)) wd p vol = no at *
 clear hnr hnl hno
 have hii : (0 : Int) ≤ (i : Int) := by omega
 have hi3' : (i : Int) < 3 := by omega
 have fi := hF.out.cell hi3
 have hFl := hF.out.lt
 go_enter Tryz.func32, Tryz.ntmps32
 go_wp2_with fail
 obtain ⟨R, hR⟩ : ∃ R, W.heap.size = R := ⟨_, rfl⟩
 obtain ⟨w1, hw1⟩ : ∃ w1, W.alloc (.cells #[.int .i64 0, .int .i64 0, .bool false, .slice none 0 0] 82) = w1 := ⟨_, rfl⟩
 have hb1 : Below W.heap.size W w1 := by rw [← hw1]; exact bal
 have HR1 : Hid (w1.heap[R]? = some (.cells #[.int .i64 0, .int .i64 0, .bool false, .slice none 0 0] 82 (0, 0))) := by show _ = _; rw [← hw1, ← hR]; exact heap_alloc_new _ _
 have HF1 := hide (hF.out.later hb1)
 rw [hw1, hR]
 have HRe := hide hR
 clear hb1 hw1 hR fi hFl HBK
 obtain ⟨XT, val, hcl, hmk⟩ := rows3_all F (b i) F (.cells (floorA b n P wd h) 136 (0, 0)) (.cells #[v i] 138 (0, 0)) (.cells (floorA b n P wd h) 136 (0, 0))
 obtain ⟨x0, hx0⟩ := hmk w1.drew ⟨HF1.out.blk, (HF1.out.bk i hi3).cell, HF1.out.blk⟩
 have hnx : Nonempty XT := ⟨x0⟩
 have ev : ∀ x, (val x).cell? ⟨b i, 0, none⟩ = some (.slice sa sm sc) := fun x => by rw [cell_of_row _ _ 0 _ _ _ (hcl x).2.1, HVS.out]; rfl
 have en : ∀ x, (val x).cell? ⟨F, 3 + i * 2, none⟩ = some (.int .i64 (n (i * 2))) := fun x => by
  rw [cell_of_row _ _ _ _ _ _ (hcl x).1]
  have : i = 0 ∨ i = 1 ∨ i = 2 := by omega
  rcases this with rfl | rfl | rfl <;> rfl
 have HMK := hide hmk
 have HF2 : Hid (MFl w w1.drew F P b v L pf n wd h) := HF1.out.later ⟨rfl, rfl, rfl, Nat.le_refl _, fun _ _ => rfl⟩
 have HR2 : Hid (w1.drew.heap[R]? = some (.cells #[.int .i64 0, .int .i64 0, .bool false, .slice none 0 0] 82 (0, 0))) := HR1.out
 clear hmk hcl HF1 HR1
 refine region_many_calls (val := val) [11] [0, 1, 2, 3, 4, 5, 6, 7, 8, 9, 10, 11, 12, 13, 14, 15, 16] (by kernel_rfl) (by kernel_rfl) x0 hx0 ?_
 rw [hx0]
 clear hx0
 generalize w1.drew = w2 at *
 iterate 11 (refine walkM_read rfl rfl (fun K hK => ?_); refine ⟨by rfl, ?_⟩; unfold isRd; go_simp; refine hK _ ?_; clear hK K)
 refine walkM_call rfl rfl (fun K hK => ?_)
 refine ⟨by rfl, ?_⟩
 unfold upM
 go_simp
 refine (HPR.out _ (HF2.out.bk i hi3)).mono ?_
 rintro e w3 ⟨rfl, hb3⟩
 have HF3 := hide (HF2.out.later hb3)
 have HR3 : Hid (w3.heap[R]? = some (.cells #[.int .i64 0, .int .i64 0, .bool false, .slice none 0 0] 82 (0, 0))) := rof hb3 HR2.out
 refine ⟨_, rfl, HMK.out _ ⟨HF3.out.blk, (HF3.out.bk i hi3).cell, HF3.out.blk⟩, hK _ _ ?_⟩
 clear hK K hb3 HF2 HR2 HPR
 iterate 5 (refine walkM_read rfl rfl (fun K hK => ?_); refine ⟨by rfl, ?_⟩; unfold isRd; go_simp; refine hK _ ?_; clear hK K)
 refine walkM_nil ?_
 clear ev en HMK
 clear x0 hnx
 clear val
 clear XT
 go_wp2_with fail
 obtain ⟨XT, val, hcl, hmk⟩ := rows3_all F F F (.cells (floorA b n P wd h) 136 (0, 0)) (.cells (floorA b n P wd h) 136 (0, 0)) (.cells (floorA b n P wd h) 136 (0, 0))
 obtain ⟨x0, hx0⟩ := hmk w3.drew ⟨HF3.out.blk, HF3.out.blk, HF3.out.blk⟩
 have hnx : Nonempty XT := ⟨x0⟩
 have en : ∀ x, (val x).cell? ⟨F, 3 + i * 2, none⟩ = some (.int .i64 (n (i * 2))) := fun x => by
  rw [cell_of_row _ _ _ _ _ _ (hcl x).1]
  have : i = 0 ∨ i = 1 ∨ i = 2 := by omega
  rcases this with rfl | rfl | rfl <;> rfl
 have em : ∀ x, (val x).cell? ⟨F, 3 + i * 2 + 1, none⟩ = some (.int .i64 (n (i * 2 + 1))) := fun x => by
  rw [cell_of_row _ _ _ _ _ _ (hcl x).1]
  have : i = 0 ∨ i = 1 ∨ i = 2 := by omega
  rcases this with rfl | rfl | rfl <;> rfl
 have ew : ∀ x, (val x).cell? ⟨F, 10, none⟩ = some (.int .i64 wd) := fun x => cof (hcl x).1 rfl
 have eh : ∀ x, (val x).cell? ⟨F, 11, none⟩ = some (.int .i64 h) := fun x => cof (hcl x).1 rfl
 have HMK := hide hmk
 have HF4 : Hid (MFl w w3.drew F P b v L pf n wd h) := HF3.out.later ⟨rfl, rfl, rfl, Nat.le_refl _, fun _ _ => rfl⟩
 have HR4 : Hid (w3.drew.heap[R]? = some (.cells #[.int .i64 0, .int .i64 0, .bool false, .slice none 0 0] 82 (0, 0))) := HR3.out
 clear hmk hcl HF3 HR3
 refine region_plan (val := val) (.read 0 (.read 1 (.read 2 (.read 3 (.read 4 (.read 5 (.read 6 (.read 7 (.read 8 (.read 9 (.read 10 (.read 11 (.read 12 (.read 13 (.read 14 (.read 15 (.two 16 (.read 17 (.read 18 (.read 19 (.one 20 (.one 21 (.read 22 .done)))))) 20 (.one 16 (.read 17 (.read 18 (.read 19 (.one 21 (.read 22 .done))))))))))))))))))))))) (by kernel_rfl) (by kernel_rfl) x0 hx0 ?_
 rw [hx0]
 clear hx0
 generalize w3.drew = w4 at *
 iterate 16 (refine walkP_read rfl (fun K hK => ?_); refine ⟨by rfl, ?_⟩; unfold isRd; go_simp; refine hK _ ?_; clear hK K)
 refine ⟨?_, ?_⟩
 case' refine_1 =>
  refine spec_step rfl (fun K hK => ?_)
  refine ⟨by rfl, ?_⟩
  unfold upM
  go_simp
  refine (HNB.out _).mono ?_
  rintro e wc ⟨rfl, hbc⟩
  have HFc := hide (HF4.out.later hbc)
  have HRc : Hid (wc.heap[R]? = some (.cells #[.int .i64 0, .int .i64 0, .bool false, .slice none 0 0] 82 (0, 0))) := rof hbc HR4.out
  refine ⟨_, rfl, HMK.out _ ⟨HFc.out.blk, HFc.out.blk, HFc.out.blk⟩, hK _ _ ?_⟩
  clear hK K hbc HF4 HR4 HNB
  iterate 3 (refine walkP_read rfl (fun K hK => ?_); refine ⟨by rfl, ?_⟩; unfold isRd; go_simp; refine hK _ ?_; clear hK K)
  refine spec_step rfl (fun K hK => ?_)
  refine ⟨by rfl, ?_⟩
  unfold upM
  go_simp
  obtain ⟨D, hD⟩ : ∃ D, wc.heap.size = D := ⟨_, rfl⟩
  obtain ⟨wz, hwz⟩ : ∃ wz, wc.alloc (.cells #[.int .i64 0, .int .i64 0] 124) = wz := ⟨_, rfl⟩
  rw [hD, hwz]
  have hbz : Below wc.heap.size wc wz := by rw [← hwz]; exact bal
  have HF5 := hide (HFc.out.later hbz)
  have HR5 : Hid (wz.heap[R]? = some (.cells #[.int .i64 0, .int .i64 0, .bool false, .slice none 0 0] 82 (0, 0))) := rof hbz HRc.out
  have HZ : Hid (wz.heap[D]? = some (.cells #[.int .i64 0, .int .i64 0] 124 (0, 0))) := by show _ = _; rw [← hwz, ← hD]; exact heap_alloc_new _ _
  have HLD : Hid (w.heap.size ≤ D) := by have := HFc.out.bl.size; show _ ≤ _; omega
  have HOD : Hid (∀ j, j < 3 → (v j).ownBlock ≠ some D) := fun j hj e => by have := ((HFc.out.bk j hj).rowLt _ e).2; omega
  refine ⟨HMK.out _ ⟨HF5.out.blk, HF5.out.blk, HF5.out.blk⟩, hK _ _ ?_⟩
  clear hK K hbz hwz hD HFc HRc
  have c0 : wz.cell? ⟨D, 0, none⟩ = some (.int .i64 0) := cof HZ.out rfl
  have c1 : wz.cell? ⟨D, 1, none⟩ = some (.int .i64 0) := cof HZ.out rfl
  have f0 : wz.frozen? ⟨D, 0, none⟩ = false := fof HZ.out
  have f1 : wz.frozen? ⟨D, 1, none⟩ = false := fof HZ.out
  have HSV : Hid (Save wz ((wz.setCell ⟨D, 0, none⟩ (.int .i64 nr)).setCell ⟨D, 1, none⟩ (.int .i64 nl)) D) := (Save.setCell _ _ _ _).set _ _
  have HX : Hid (((wz.setCell ⟨D, 0, none⟩ (.int .i64 nr)).setCell ⟨D, 1, none⟩ (.int .i64 nl)).heap[D]? = some (.cells #[.int .i64 nr, .int .i64 nl] 124 (0, 0))) := by
   have h0 : (wz.setCell ⟨D, 0, none⟩ (.int .i64 nr)).heap[D]? = some (.cells #[.int .i64 nr, .int .i64 0] 124 (0, 0)) := by
    rw [setCell_eq_setRow wz D 0 _ _ _ _ HZ.out]; exact setRow_heap wz D _ _ _ _ HZ.out
   show _ = _
   rw [setCell_eq_setRow _ D 1 _ _ _ _ h0]; exact setRow_heap _ D _ _ _ _ h0
  have HF6 := hide (HF5.out.aside HZ.out (by decide) (by decide) (by decide) HOD.out HLD.out HSV.out)
  have HR6 : Hid (((wz.setCell ⟨D, 0, none⟩ (.int .i64 nr)).setCell ⟨D, 1, none⟩ (.int .i64 nl)).heap[R]? = some (.cells #[.int .i64 0, .int .i64 0, .bool false, .slice none 0 0] 82 (0, 0))) := by
   show _ = _
   rw [HSV.out.block R (lt_of_block HR5.out) (fun e => ?_)]
   ·exact HR5.out
   ·have := HR5.out
    rw [e, HZ.out] at this
    simp at this
  refine spec_step rfl (fun K hK => ?_)
  refine ⟨by rfl, ?_⟩
  unfold upM
  go_simp
  refine ⟨HMK.out _ ⟨HF6.out.blk, HF6.out.blk, HF6.out.blk⟩, hK _ _ ?_⟩
  clear hK K HF5 HR5 HSV HZ HOD HLD c0 c1 f0 f1
  generalize (wz.setCell ⟨D, 0, none⟩ (.int .i64 nr)).setCell ⟨D, 1, none⟩ (.int .i64 nl) = w6 at *
  refine walkP_read rfl (fun K hK => ?_); refine ⟨by rfl, ?_⟩; unfold isRd; go_simp; refine hK _ ?_; clear hK K
  refine walkP_done ?_
 case' refine_2 =>
  refine spec_step rfl (fun K hK => ?_)
  refine ⟨by rfl, ?_⟩
  unfold upM
  go_simp
  obtain ⟨D, hD⟩ : ∃ D, w4.heap.size = D := ⟨_, rfl⟩
  obtain ⟨wy, hwz⟩ : ∃ wz, w4.alloc (.cells #[.int .i64 0, .int .i64 0] 124) = wz := ⟨_, rfl⟩
  rw [hD, hwz]
  have hbz : Below w4.heap.size w4 wy := by rw [← hwz]; exact bal
  have HFy := hide (HF4.out.later hbz)
  have HRy : Hid (wy.heap[R]? = some (.cells #[.int .i64 0, .int .i64 0, .bool false, .slice none 0 0] 82 (0, 0))) := rof hbz HR4.out
  have HZy : Hid (wy.heap[D]? = some (.cells #[.int .i64 0, .int .i64 0] 124 (0, 0))) := by show _ = _; rw [← hwz, ← hD]; exact heap_alloc_new _ _
  have HLD : Hid (w.heap.size ≤ D) := by have := HF4.out.bl.size; show _ ≤ _; omega
  have HOD : Hid (∀ j, j < 3 → (v j).ownBlock ≠ some D) := fun j hj e => by have := ((HF4.out.bk j hj).rowLt _ e).2; omega
  refine ⟨HMK.out _ ⟨HFy.out.blk, HFy.out.blk, HFy.out.blk⟩, hK _ _ ?_⟩
  clear hK K hbz hwz hD HF4 HR4
  refine spec_step rfl (fun K hK => ?_)
  refine ⟨by rfl, ?_⟩
  unfold upM
  go_simp
  refine (HNB.out _).mono ?_
  rintro e wz ⟨rfl, hbc⟩
  have HF5 := hide (HFy.out.later hbc)
  have HR5 : Hid (wz.heap[R]? = some (.cells #[.int .i64 0, .int .i64 0, .bool false, .slice none 0 0] 82 (0, 0))) := rof hbc HRy.out
  have HZ : Hid (wz.heap[D]? = some (.cells #[.int .i64 0, .int .i64 0] 124 (0, 0))) := rof hbc HZy.out
  refine ⟨_, rfl, HMK.out _ ⟨HF5.out.blk, HF5.out.blk, HF5.out.blk⟩, hK _ _ ?_⟩
  clear hK K hbc HFy HRy HNB
  iterate 3 (refine walkP_read rfl (fun K hK => ?_); refine ⟨by rfl, ?_⟩; unfold isRd; go_simp; refine hK _ ?_; clear hK K)
  have c0 : wz.cell? ⟨D, 0, none⟩ = some (.int .i64 0) := cof HZ.out rfl
  have c1 : wz.cell? ⟨D, 1, none⟩ = some (.int .i64 0) := cof HZ.out rfl
  have f0 : wz.frozen? ⟨D, 0, none⟩ = false := fof HZ.out
  have f1 : wz.frozen? ⟨D, 1, none⟩ = false := fof HZ.out
  have HSV : Hid (Save wz ((wz.setCell ⟨D, 0, none⟩ (.int .i64 nr)).setCell ⟨D, 1, none⟩ (.int .i64 nl)) D) := (Save.setCell _ _ _ _).set _ _
  have HX : Hid (((wz.setCell ⟨D, 0, none⟩ (.int .i64 nr)).setCell ⟨D, 1, none⟩ (.int .i64 nl)).heap[D]? = some (.cells #[.int .i64 nr, .int .i64 nl] 124 (0, 0))) := by
   have h0 : (wz.setCell ⟨D, 0, none⟩ (.int .i64 nr)).heap[D]? = some (.cells #[.int .i64 nr, .int .i64 0] 124 (0, 0)) := by
    rw [setCell_eq_setRow wz D 0 _ _ _ _ HZ.out]; exact setRow_heap wz D _ _ _ _ HZ.out
   show _ = _
   rw [setCell_eq_setRow _ D 1 _ _ _ _ h0]; exact setRow_heap _ D _ _ _ _ h0
  have HF6 := hide (HF5.out.aside HZ.out (by decide) (by decide) (by decide) HOD.out HLD.out HSV.out)
  have HR6 : Hid (((wz.setCell ⟨D, 0, none⟩ (.int .i64 nr)).setCell ⟨D, 1, none⟩ (.int .i64 nl)).heap[R]? = some (.cells #[.int .i64 0, .int .i64 0, .bool false, .slice none 0 0] 82 (0, 0))) := by
   show _ = _
   rw [HSV.out.block R (lt_of_block HR5.out) (fun e => ?_)]
   ·exact HR5.out
   ·have := HR5.out
    rw [e, HZ.out] at this
    simp at this
  refine spec_step rfl (fun K hK => ?_)
  refine ⟨by rfl, ?_⟩
  unfold upM
  go_simp
  refine ⟨HMK.out _ ⟨HF6.out.blk, HF6.out.blk, HF6.out.blk⟩, hK _ _ ?_⟩
  clear hK K HF5 HR5 HSV HZ HOD HLD c0 c1 f0 f1
  generalize (wz.setCell ⟨D, 0, none⟩ (.int .i64 nr)).setCell ⟨D, 1, none⟩ (.int .i64 nl) = w6 at *
  refine walkP_read rfl (fun K hK => ?_); refine ⟨by rfl, ?_⟩; unfold isRd; go_simp; refine hK _ ?_; clear hK K
  refine walkP_done ?_
 all_goals
  clear en em ew eh HMK
  clear x0 hnx
  clear val
  clear XT
  have d0 : w6.cell? ⟨D, 0, none⟩ = some (.int .i64 nr) := cof HX.out rfl
  have d1 : w6.cell? ⟨D, 1, none⟩ = some (.int .i64 nl) := cof HX.out rfl
  go_wp2_with fail
  refine region_quiet_tail 6 (by kernel_rfl) (by kernel_rfl) ?_
  simp only [List.take_succ_cons, List.take_zero, List.drop_succ_cons, List.drop_zero]
  repeat (first | go_big_quiet_step (fail) | quiet_step (fail))
  refine wpQuiet_nil ?_
  intro _ hw'
  obtain ⟨nq, hw''⟩ := hw'
  subst hw''
  have HR7 : Hid ((w6.drewN nq).heap[R]? = some (.cells #[.int .i64 0, .int .i64 0, .bool false, .slice none 0 0] 82 (0, 0))) := HR6.out
  have HF7 := hide (HF6.out.later (blw_drew nq))
  clear d0 d1 HX HR6 HF6
  generalize w6.drewN nq = w7 at *
  have n0 : w7.cell? ⟨F, 3 + i * 2, none⟩ = some (.int .i64 (n (i * 2))) := by
   rw [cell_of_row _ _ _ _ _ _ HF7.out.blk]
   have : i = 0 ∨ i = 1 ∨ i = 2 := by omega
   rcases this with rfl | rfl | rfl <;> rfl
  have n1 : w7.cell? ⟨F, 3 + i * 2 + 1, none⟩ = some (.int .i64 (n (i * 2 + 1))) := by
   rw [cell_of_row _ _ _ _ _ _ HF7.out.blk]
   have : i = 0 ∨ i = 1 ∨ i = 2 := by omega
   rcases this with rfl | rfl | rfl <;> rfl
  have g0 : w7.frozen? ⟨F, 3 + i * 2, none⟩ = false := fof HF7.out.blk
  have g1 : w7.frozen? ⟨F, 3 + i * 2 + 1, none⟩ = false := fof HF7.out.blk
  have HF8 := hide (HF7.out.band hi3 nr nl)
  have hRF : R ≠ F := fun e => by
   have := HR7.out
   rw [e, HF7.out.blk] at this
   simp at this
  have HR8 : Hid (((w7.setCell ⟨F, 3 + i * 2, none⟩ (.int .i64 nr)).setCell ⟨F, 3 + i * 2 + 1, none⟩ (.int .i64 nl)).heap[R]? = some (.cells #[.int .i64 0, .int .i64 0, .bool false, .slice none 0 0] 82 (0, 0))) := by
   show _ = _
   rw [((Save.setCell w7 F (3 + i * 2) (.int .i64 nr)).set _ _).block R (lt_of_block HR7.out) hRF]; exact HR7.out
  have r0 : w7.cell? ⟨R, 0, none⟩ = some (.int .i64 0) := cof HR7.out rfl
  have r1 : w7.cell? ⟨R, 1, none⟩ = some (.int .i64 0) := cof HR7.out rfl
  have r2 : w7.cell? ⟨R, 2, none⟩ = some (.bool false) := cof HR7.out rfl
  have r3 : w7.cell? ⟨R, 3, none⟩ = some (.slice none 0 0) := cof HR7.out rfl
  have q0 : w7.frozen? ⟨R, 0, none⟩ = false := fof HR7.out
  have q1 : w7.frozen? ⟨R, 1, none⟩ = false := fof HR7.out
  have q2 : w7.frozen? ⟨R, 2, none⟩ = false := fof HR7.out
  have q3 : w7.frozen? ⟨R, 3, none⟩ = false := fof HR7.out
  have hRl : R < w7.heap.size := lt_of_block HR7.out
  have hFl : F < w7.heap.size := HF7.out.lt
  have hRn : ¬ R = w7.heap.size := by omega
  have HLR : Hid (w.heap.size ≤ R) := by have := hF.out.bl.size; have := HRe.out; show _ ≤ _; omega
  have HOR : Hid (∀ j, j < 3 → (v j).ownBlock ≠ some R) := fun j hj e => by have := ((hF.out.bk j hj).rowLt _ e).2; have := HRe.out; omega
  rcases hstill with e | e
  ·subst e
   have HFz := hide ((HF8.out.aside HR8.out (by decide) (by decide) (by decide) HOR.out HLR.out ((((Save.setCell _ R 0 (.int .i64 p)).set 1 (.int .i64 vol)).set 2 (.bool false)).set 3 (.slice none 0 0))).later ((Below.refl _ _).alloc (Nat.le_refl _) (.cells #[.int .i64 p, .int .i64 vol, .bool false, .slice none 0 0] 82)))
   have HRz : Hid ((((((((w7.setCell ⟨F, 3 + i * 2, none⟩ (.int .i64 nr)).setCell ⟨F, 3 + i * 2 + 1, none⟩ (.int .i64 nl)).setCell ⟨R, 0, none⟩ (.int .i64 p)).setCell ⟨R, 1, none⟩ (.int .i64 vol)).setCell ⟨R, 2, none⟩ (.bool false)).setCell ⟨R, 3, none⟩ (.slice none 0 0)).alloc (.cells #[.int .i64 p, .int .i64 vol, .bool false, .slice none 0 0] 82)).heap[R]? = some (.cells #[.int .i64 p, .int .i64 vol, .bool false, .slice none 0 0] 82 (0, 0))) := (Below.heap_alloc _ _ _ (lt_of_block (mset4_row HR8.out p vol false))).trans (mset4_row HR8.out p vol false)
   go_wp2
   generalize (((((((w7.setCell ⟨F, 3 + i * 2, none⟩ (.int .i64 nr)).setCell ⟨F, 3 + i * 2 + 1, none⟩ (.int .i64 nl)).setCell ⟨R, 0, none⟩ (.int .i64 p)).setCell ⟨R, 1, none⟩ (.int .i64 vol)).setCell ⟨R, 2, none⟩ (.bool false)).setCell ⟨R, 3, none⟩ (.slice none 0 0)).alloc (.cells #[.int .i64 p, .int .i64 vol, .bool false, .slice none 0 0] 82)) = Wf at *
   have z0 : Wf.cell? ⟨R, 0, none⟩ = some (.int .i64 p) := cof HRz.out rfl
   have z1 : Wf.cell? ⟨R, 1, none⟩ = some (.int .i64 vol) := cof HRz.out rfl
   have z2 : Wf.cell? ⟨R, 2, none⟩ = some (.bool false) := cof HRz.out rfl
   have z3 : Wf.cell? ⟨R, 3, none⟩ = some (.slice none 0 0) := cof HRz.out rfl
   exact bodyPost_ret (v := .agg #[.int .i64 p, .int .i64 vol, .bool false, .slice none 0 0]) (by simp [results, Tryz.results32, go_sem, z0, z1, z2, z3]) rfl ⟨rfl, HFz.out⟩
  ·subst e
   cases no
   ·have HFz := hide ((HF8.out.aside HR8.out (by decide) (by decide) (by decide) HOR.out HLR.out ((((Save.setCell _ R 0 (.int .i64 p)).set 1 (.int .i64 0)).set 2 (.bool false)).set 3 (.slice none 0 0))).later ((Below.refl _ _).alloc (Nat.le_refl _) (.cells #[.int .i64 p, .int .i64 0, .bool false, .slice none 0 0] 82)))
    have HRz : Hid ((((((((w7.setCell ⟨F, 3 + i * 2, none⟩ (.int .i64 nr)).setCell ⟨F, 3 + i * 2 + 1, none⟩ (.int .i64 nl)).setCell ⟨R, 0, none⟩ (.int .i64 p)).setCell ⟨R, 1, none⟩ (.int .i64 0)).setCell ⟨R, 2, none⟩ (.bool false)).setCell ⟨R, 3, none⟩ (.slice none 0 0)).alloc (.cells #[.int .i64 p, .int .i64 0, .bool false, .slice none 0 0] 82)).heap[R]? = some (.cells #[.int .i64 p, .int .i64 0, .bool false, .slice none 0 0] 82 (0, 0))) := (Below.heap_alloc _ _ _ (lt_of_block (mset4_row HR8.out p 0 false))).trans (mset4_row HR8.out p 0 false)
    go_wp2
    generalize (((((((w7.setCell ⟨F, 3 + i * 2, none⟩ (.int .i64 nr)).setCell ⟨F, 3 + i * 2 + 1, none⟩ (.int .i64 nl)).setCell ⟨R, 0, none⟩ (.int .i64 p)).setCell ⟨R, 1, none⟩ (.int .i64 0)).setCell ⟨R, 2, none⟩ (.bool false)).setCell ⟨R, 3, none⟩ (.slice none 0 0)).alloc (.cells #[.int .i64 p, .int .i64 0, .bool false, .slice none 0 0] 82)) = Wf at *
    have z0 : Wf.cell? ⟨R, 0, none⟩ = some (.int .i64 p) := cof HRz.out rfl
    have z1 : Wf.cell? ⟨R, 1, none⟩ = some (.int .i64 0) := cof HRz.out rfl
    have z2 : Wf.cell? ⟨R, 2, none⟩ = some (.bool false) := cof HRz.out rfl
    have z3 : Wf.cell? ⟨R, 3, none⟩ = some (.slice none 0 0) := cof HRz.out rfl
    exact bodyPost_ret (v := .agg #[.int .i64 p, .int .i64 0, .bool false, .slice none 0 0]) (by simp [results, Tryz.results32, go_sem, z0, z1, z2, z3]) rfl ⟨rfl, HFz.out⟩
   ·have HFz := hide ((HF8.out.aside HR8.out (by decide) (by decide) (by decide) HOR.out HLR.out ((((Save.setCell _ R 0 (.int .i64 p)).set 1 (.int .i64 0)).set 2 (.bool true)).set 3 (.slice none 0 0))).later ((Below.refl _ _).alloc (Nat.le_refl _) (.cells #[.int .i64 p, .int .i64 0, .bool true, .slice none 0 0] 82)))
    have HRz : Hid ((((((((w7.setCell ⟨F, 3 + i * 2, none⟩ (.int .i64 nr)).setCell ⟨F, 3 + i * 2 + 1, none⟩ (.int .i64 nl)).setCell ⟨R, 0, none⟩ (.int .i64 p)).setCell ⟨R, 1, none⟩ (.int .i64 0)).setCell ⟨R, 2, none⟩ (.bool true)).setCell ⟨R, 3, none⟩ (.slice none 0 0)).alloc (.cells #[.int .i64 p, .int .i64 0, .bool true, .slice none 0 0] 82)).heap[R]? = some (.cells #[.int .i64 p, .int .i64 0, .bool true, .slice none 0 0] 82 (0, 0))) := (Below.heap_alloc _ _ _ (lt_of_block (mset4_row HR8.out p 0 true))).trans (mset4_row HR8.out p 0 true)
    go_wp2
    generalize (((((((w7.setCell ⟨F, 3 + i * 2, none⟩ (.int .i64 nr)).setCell ⟨F, 3 + i * 2 + 1, none⟩ (.int .i64 nl)).setCell ⟨R, 0, none⟩ (.int .i64 p)).setCell ⟨R, 1, none⟩ (.int .i64 0)).setCell ⟨R, 2, none⟩ (.bool true)).setCell ⟨R, 3, none⟩ (.slice none 0 0)).alloc (.cells #[.int .i64 p, .int .i64 0, .bool true, .slice none 0 0] 82)) = Wf at *
    have z0 : Wf.cell? ⟨R, 0, none⟩ = some (.int .i64 p) := cof HRz.out rfl
    have z1 : Wf.cell? ⟨R, 1, none⟩ = some (.int .i64 0) := cof HRz.out rfl
    have z2 : Wf.cell? ⟨R, 2, none⟩ = some (.bool true) := cof HRz.out rfl
    have z3 : Wf.cell? ⟨R, 3, none⟩ = some (.slice none 0 0) := cof HRz.out rfl
    exact bodyPost_ret (v := .agg #[.int .i64 p, .int .i64 0, .bool true, .slice none 0 0]) (by simp [results, Tryz.results32, go_sem, z0, z1, z2, z3]) rfl ⟨rfl, HFz.out⟩
end
end Go.Proofs.YtdggddjgipgllaaGreatDoor
