/- The program's floor and the document's, side by side. -/
import Derived.Test.YtdggddjgipgllaaGreatDoorG33
import Derived.Test.YtdggddjgipgllaaGreatDoorG34
import Derived.Test.YtdggddjgipgllaaGreatDoorG23
import Derived.Test.YtdggddjgipgllaaGreatDoorG03
import Derived.Test.YtdggddjgipgllaaGreatDoorG06
import Derived.Test.YtdggddjgipgllaaGreatDoorG30
import Derived.Test.YtdggddjgipgllaaGreatDoorG14
import Derived.Test.YtdggddjgipgllaaGreatDoorG22
namespace Go.Proofs.YtdggddjgipgllaaGreatDoor
open Go.RowKit
set_option maxRecDepth 100000
def MFoot (G Q : Nat) (c : Nat → Nat) (u : Nat → Value) (k : Nat) : Prop := k = G ∨ k = Q ∨ ∃ i, i < 3 ∧ (k = c i ∨ (u i).ownBlock = some k)
section
variable {w W W' : World} {F P G Q : Nat} {I b c : Nat → Nat} {v v' u u' : Nat → Value} {L L' M M' : Nat → List Cv.Lot} {pf pf' qf qf' n n' m m' : Nat → Int} {wd h wd' h' : Int} {ev : Nat → Value}
theorem MFl.lows (hF : MFl w W G Q c u M qf m wd h) {k : Nat} (hk : MFoot G Q c u k) : k < W.heap.size := by
 rcases hk with rfl | rfl | ⟨i, hi, rfl | e⟩
 ·exact hF.lt
 ·exact hF.pu.lt
 ·exact (hF.bk i hi).lt
 ·exact ((hF.bk i hi).rowLt k e).2
theorem MFl.keep (hF : MFl w W G Q c u M qf m wd h) (hk : ∀ k, MFoot G Q c u k → W'.heap[k]? = W.heap[k]?) : MFl W' W' G Q c u M qf m wd h := by
 have hbk : ∀ i, i < 3 → MBook W' 0 (c i) (u i) (M i) := fun i hi => by
  have hb := hF.bk i hi
  refine ⟨by rw [hk _ (.inr (.inr ⟨i, hi, .inl rfl⟩))]; exact hb.cell, hb.lo, hb.row.1, ?_⟩
  rcases hb.row.2 with hn | ⟨g, cap, cur, e, hg, hgg, rest⟩
  ·exact .inl hn
  ·exact .inr ⟨g, cap, cur, e, hg, by rw [hk g (.inr (.inr ⟨i, hi, .inr (by rw [e]; rfl)⟩))]; exact hgg, rest⟩
 refine ⟨by rw [hk G (.inl rfl)]; exact hF.blk, hbk, hF.ne, hF.ap, (hk Q (.inr (.inl rfl))).trans hF.pu, rfl, rfl, rfl, Nat.le_refl _, fun _ _ _ _ _ => rfl, fun i hi k e => .inl ?_⟩
 unfold Go.Proofs.YtdggddjgipgllaaGreatDoor.rowAt
 rw [(hbk i hi).cell]
 exact e
theorem MFl.left (hF : MFl w W G Q c u M qf m wd h) (hG : MFl W W' G Q c u' M' qf' m' wd' h') {k : Nat} (hk : k < W.heap.size) (hn : ¬ MFoot G Q c u k) : W'.heap[k]? = W.heap[k]? := by
 refine hG.bl.keep k hk (fun e => hn (.inl e)) (fun e => hn (.inr (.inl e))) (fun i hi => ⟨fun e => hn (.inr (.inr ⟨i, hi, .inl e⟩)), fun e => ?_⟩)
 rw [hF.rowAt hi] at e
 exact hn (.inr (.inr ⟨i, hi, .inr e⟩))
theorem MFl.notT (hF : MFl w W G Q c u M qf m wd h) {q : Nat} {a : Array Value} {T : TypeId} {fz : Nat × Nat} (hq : W.heap[q]? = some (.cells a T fz)) (h1 : T ≠ 136) (h2 : T ≠ 131) (h3 : T ≠ 138) (h4 : T ≠ 56) : ¬ MFoot G Q c u q := by
 rintro (e | e | ⟨i, hi, e | e⟩)
 ·exact blkT hq hF.blk h1 e
 ·exact blkT hq hF.pu h2 e
 ·exact blkT hq (hF.bk i hi).cell h3 e
 ·exact rowT (hF.bk i hi).row hq h4 e

structure Duo (w W : World) (F P : Nat) (I b : Nat → Nat) (v : Nat → Value) (L : Nat → List Cv.Lot) (pf n : Nat → Int) (G Q : Nat) (c : Nat → Nat) (u : Nat → Value) (M : Nat → List Cv.Lot) (qf m : Nat → Int) (wd h : Int) : Prop where
 f : PFl w W F P I b v L pf n wd h
 g : MFl W W G Q c u M qf m wd h
 dj : ∀ k, Foot F P I b v k → MFoot G Q c u k → False
 lo : ∀ k, MFoot G Q c u k → w.heap.size ≤ k
theorem Duo.later (T : Duo w W F P I b v L pf n G Q c u M qf m wd h) (hb : Below W.heap.size W W') : Duo w W' F P I b v L pf n G Q c u M qf m wd h :=
 ⟨T.f.later hb, T.g.keep (fun k hk => hb.block k (T.g.lows hk)), T.dj, T.lo⟩
theorem Duo.actF (T : Duo w W F P I b v L pf n G Q c u M qf m wd h) (hf : PFl w W' F P I b v' L' pf' n' wd h) (hs : FStep W W' P I b v v') : Duo w W' F P I b v' L' pf' n' G Q c u M qf m wd h := by
 refine ⟨hf, T.g.keep (fun k hk => ?_), fun k h1 h2 => ?_, T.lo⟩
 ·refine hs.keep k (T.g.lows hk) (fun e => T.dj k (.inr (.inl e)) hk) (fun i hi => ⟨fun e => T.dj k (.inr (.inr ⟨i, hi, .inl e⟩)) hk, fun e => T.dj k (.inr (.inr ⟨i, hi, .inr (.inl e)⟩)) hk, fun e => T.dj k (.inr (.inr ⟨i, hi, .inr (.inr e)⟩)) hk⟩)
 ·have hl := T.g.lows h2
  rcases h1 with e | e | ⟨i, hi, e | e | e⟩
  ·exact T.dj k (.inl e) h2
  ·exact T.dj k (.inr (.inl e)) h2
  ·exact T.dj k (.inr (.inr ⟨i, hi, .inl e⟩)) h2
  ·exact T.dj k (.inr (.inr ⟨i, hi, .inr (.inl e)⟩)) h2
  ·rcases hs.new i hi k e with h3 | h3
   ·exact T.dj k (.inr (.inr ⟨i, hi, .inr (.inr h3)⟩)) h2
   ·omega
theorem Duo.actG (T : Duo w W F P I b v L pf n G Q c u M qf m wd h) (hg : MFl W W' G Q c u' M' qf' m' wd h) : Duo w W' F P I b v L pf n G Q c u' M' qf' m' wd h := by
 have hkeep : ∀ k, k < W.heap.size → ¬ MFoot G Q c u k → W'.heap[k]? = W.heap[k]? := fun k hk hn => T.g.left hg hk hn
 have hbl : Below w.heap.size w W' := by
  have hb := T.f.bl
  refine ⟨hg.bl.os.trans hb.os, hg.bl.tape.trans hb.tape, hg.bl.output.trans hb.output, Nat.le_trans hb.size hg.bl.size, fun k hk => ?_⟩
  rw [hkeep k (Nat.lt_of_lt_of_le hk hb.size) (fun e => by have := T.lo k e; omega)]
  exact hb.block k hk
 have hnew : ∀ k, MFoot G Q c u' k → MFoot G Q c u k ∨ W.heap.size ≤ k := fun k hk => by
  rcases hk with e | e | ⟨i, hi, e | e⟩
  ·exact .inl (.inl e)
  ·exact .inl (.inr (.inl e))
  ·exact .inl (.inr (.inr ⟨i, hi, .inl e⟩))
  ·rcases hg.bl.new i hi k e with h1 | h1
   ·rw [T.g.rowAt hi] at h1
    exact .inl (.inr (.inr ⟨i, hi, .inr h1⟩))
   ·exact .inr h1
 refine ⟨T.f.keep (fun k hk => hkeep k (T.f.lows hk).1 (fun e => T.dj k hk e)) hbl, hg.start, fun k h1 h2 => ?_, fun k hk => ?_⟩
 ·rcases hnew k h2 with h3 | h3
  ·exact T.dj k h1 h3
  ·have := (T.f.lows h1).1; omega
 ·rcases hnew k hk with h3 | h3
  ·exact T.lo k h3
  ·have := T.f.bl.size; omega
theorem Duo.leftG (T : Duo w W F P I b v L pf n G Q c u M qf m wd h) (hg : MFl W W' G Q c u' M' qf' m' wd' h') {q : Nat} {a : Array Value} {U : TypeId} {fz : Nat × Nat} (hq : W.heap[q]? = some (.cells a U fz)) (h1 : U ≠ 136) (h2 : U ≠ 131) (h3 : U ≠ 138) (h4 : U ≠ 56) : W'.heap[q]? = some (.cells a U fz) :=
 (T.g.left hg (lt_of_block hq) (T.g.notT hq h1 h2 h3 h4)).trans hq
theorem Duo.newG (T : Duo w W F P I b v L pf n G Q c u M qf m wd h) {W2 : World} (T2 : Duo w W2 F P I b v' L' pf' n' G Q c u M qf m wd h) (hg : MFl W2 W' G Q c u' M' qf' m' wd' h') {q : Nat} (hq : W.heap.size ≤ q) (hq2 : q < W2.heap.size) : W'.heap[q]? = W2.heap[q]? :=
 T2.g.left hg hq2 (fun e => by have := T.g.lows e; omega)
theorem Duo.rowG (T : Duo w W F P I b v L pf n G Q c u M qf m wd h) {W2 : World} (T2 : Duo w W2 F P I b v' L' pf' n' G Q c u M qf m wd h) (hg : MFl W2 W' G Q c u' M' qf' m' wd' h') {e : TypeId} {s : Nat} {x : Value} {k : Nat} {xs : List Value} (hr : W2.ownsRow W.heap.size e s x k xs) : W'.ownsRow W.heap.size e s x k xs := by
 refine ⟨hr.1, ?_⟩
 rcases hr.2 with hn | ⟨g, cap, cur, e1, hg1, hgg, rest⟩
 ·exact .inl hn
 ·exact .inr ⟨g, cap, cur, e1, hg1, by rw [T.newG T2 hg hg1 (lt_of_block hgg)]; exact hgg, rest⟩
theorem fls_row {W : World} {base : Nat} {x : Value} {FF : List (Int × Int)} (hr : W.ownsRow base 54 2 x FF.length (fcells FF)) : Fls W x FF := by
 rcases hr.2 with ⟨e, e2⟩ | ⟨g, cap, cur, e, _⟩
 ·exact .inl ⟨List.eq_nil_of_length_eq_zero e2, none, 0, e⟩
 ·refine .inr ⟨g, cap, e, fun i hi => ?_⟩
  have hc := fcells_at FF i hi
  have hp : ∀ t, (⟨g, 0, none⟩ : Addr).add t = ⟨g, t, none⟩ := fun t => by unfold Addr.add; split <;> simp_all
  have h1 := World.ownsRow.cells hr (g := g) (by rw [e]; rfl) _ _ hc.1
  have h2 := World.ownsRow.cells hr (g := g) (by rw [e]; rfl) _ _ hc.2
  rw [hp] at h1 h2
  exact ⟨h1, h2⟩
end
def fOk (wd h ref cash stock : Int) : Bool := Bd.rOk wd h && (Wi.withinB ref 1 1000 && (Wi.withinB cash 0 1073741824 && Wi.withinB stock 0 100000))
set_option maxHeartbeats 2000000 in
theorem floorError_any (wd h ref cash stock : Int) (w : World) : Calls Tryz.prog 26 #[.int .i64 wd, .int .i64 h, .int .i64 ref, .int .i64 cash, .int .i64 stock] w fun e w' => e = .returned (.int .i64 (okN (fOk wd h ref cash stock))) ∧ Below w.heap.size w w' := by
 have HBE := hide (bandError_any 1 0 wd h w)
 unfold bandV at HBE
 rw [show Bd.bOk 1 0 = true from rfl, Bool.true_and] at HBE
 have HR : Hid (fOk wd h ref cash stock = (Bd.rOk wd h && (Wi.withinB ref 1 1000 && (Wi.withinB cash 0 1073741824 && Wi.withinB stock 0 100000)))) := rfl
 generalize fOk wd h ref cash stock = fo at *
 generalize Bd.rOk wd h = ro at *
 go_enter Tryz.func26, Tryz.ntmps26
 go_wp2_with fail
 refine HBE.out.mono ?_
 rintro e w2 ⟨rfl, hb2⟩
 have HB := hide hb2
 clear hb2 HBE
 simp only []
 cases ro
 ·have hf : fo = false := by rw [HR.out]; rfl
  subst hf
  rw [show okN false = 2 from rfl]
  go_wp2
  go_ret
  exact ⟨rfl, HB.out⟩
 ·rw [show okN true = 0 from rfl]
  by_cases h1 : ref < 1
  ·have hf : fo = false := by rw [HR.out]; simp [Wi.withinB]; omega
   subst hf
   go_wp2
   go_ret
   exact ⟨rfl, HB.out⟩
  ·by_cases h2 : 1000 < ref
   ·have hf : fo = false := by rw [HR.out]; simp [Wi.withinB]; omega
    subst hf
    go_wp2
    go_ret
    exact ⟨rfl, HB.out⟩
   ·by_cases h3 : cash < 0
    ·have hf : fo = false := by rw [HR.out]; simp [Wi.withinB]; omega
     subst hf
     go_wp2
     go_ret
     exact ⟨rfl, HB.out⟩
    ·by_cases h4 : 1073741824 < cash
     ·have hf : fo = false := by rw [HR.out]; simp [Wi.withinB]; omega
      subst hf
      go_wp2
      go_ret
      exact ⟨rfl, HB.out⟩
     ·by_cases h5 : stock < 0
      ·have hf : fo = false := by rw [HR.out]; simp [Wi.withinB]; omega
       subst hf
       go_wp2
       go_ret
       exact ⟨rfl, HB.out⟩
      ·by_cases h6 : 100000 < stock
       ·have hf : fo = false := by rw [HR.out]; simp [Wi.withinB]; omega
        subst hf
        go_wp2
        go_ret
        exact ⟨rfl, HB.out⟩
       ·have hf : fo = true := by rw [HR.out]; simp [Wi.withinB]; omega
        subst hf
        go_wp2
        go_ret
        exact ⟨rfl, HB.out⟩
section
variable {w W : World} {F P G Q : Nat} {I b c : Nat → Nat} {v u : Nat → Value} {L : Nat → List Cv.Lot} {pf n : Nat → Int} {wd h : Int} {ev : Nat → Value}

theorem field69a (r l : Int) (w : World) : (Instr.field 69 (.agg #[.int .i64 r, .int .i64 l]) 0).run Tryz.prog w = .ok (.int .i64 r) w := by kernel_rfl
theorem field69b (r l : Int) (w : World) : (Instr.field 69 (.agg #[.int .i64 r, .int .i64 l]) 1).run Tryz.prog w = .ok (.int .i64 l) w := by kernel_rfl
set_option maxHeartbeats 1000000 in
theorem band_out (k : Int) (hF : Hid (PFl w W F P I b v L pf n wd h)) (hk : Wi.withinB k 0 2 = false) : Calls Tryz.prog 22 #[.pointer (some ⟨F, 0, none⟩), .int .i64 k] W fun e w' => e = .returned (bandV 0 0) ∧ Below W.heap.size W w' := by
 have hb0 : Below W.heap.size W (W.alloc (.cells #[.int .i64 0, .int .i64 0] 69)) := bal
 have HW := hide (find_out (W := W.alloc (.cells #[.int .i64 0, .int .i64 0] 69)) k (hF.out.later hb0) hk)
 have HB0 := hide hb0
 clear hb0
 unfold bandV
 go_enter Tryz.func22, Tryz.ntmps22
 go_wp2_with fail
 refine (HW.out).mono ?_
 rintro e w2 ⟨rfl, rfl⟩
 simp only []
 go_wp2
 refine bodyPost_ret (v := .agg #[.int .i64 0, .int .i64 0]) ?_ rfl ⟨rfl, bal⟩
 rw [results_one_cell rfl]
 simp [asAddr, Result.andThen, load69 (heap_alloc_new W _)]
set_option maxHeartbeats 4000000 in
theorem asFloor_any (hT : Hid (Duo w W F P I b v L pf n G Q c u L pf n wd h)) (hl : Hid (∀ i, i < 3 → (L i).length ≤ 60)) :
  Calls Tryz.prog 33 #[.pointer (some ⟨F, 0, none⟩), .pointer (some ⟨G, 0, none⟩)] W fun e W' => e = .returned (.bool true) ∧ Below W.heap.size W W' := by
 have fa := @field69a
 have fb := @field69b
 have HFA := hide fa; have HFB := hide fb
 clear fa fb
 go_enter Tryz.func33, Tryz.ntmps33
 go_wp2
 go_loopw [5] (fun x wl => ∃ k : Nat, k ≤ 3 ∧ x = .int .i64 k ∧ Below W.heap.size W wl) (fun x _ => 3 - (intOf x).toNat)
 case atStart => exact ⟨0, by omega, rfl, Below.refl _ _⟩
 case round =>
  obtain ⟨k, hk, rfl, hb⟩ := hrel
  have HB := hide hb
  have HD := hide (hT.out.later hb)
  clear hb
  by_cases hlt : k < 3
  ·have hki : (k : Int) < 3 := by omega
   have hk0 : (0 : Int) ≤ (k : Int) := by omega
   have HBI := hide (book_in k hlt HD.out.f)
   go_wp2_with fail
   refine HBI.out.mono ?_
   rintro e w2 ⟨rfl, hw2⟩
   rw [hw2]
   clear HBI hw2
   simp only []
   have HLT := hide (fun W' (hb : Below wr.heap.size wr W') => lots_any (b k) w.heap.size (v k) (L k) W' ((HD.out.later hb).f.bk k hlt) (hide (hl.out k hlt)))
   have HBD := hide (fun W' (hb : Below wr.heap.size wr W') => band_in k hlt (hide (HD.out.later hb).f))
   unfold bandV at HBD
   obtain ⟨sa, sm, sc, hus⟩ : ∃ a m d, u k = .slice a m d := by
    rcases (HD.out.g.bk k hlt).form with ⟨e, _⟩ | ⟨g, cap, e, _⟩
    ·exact ⟨_, _, _, e⟩
    ·exact ⟨_, _, _, e⟩
   have HUS := hide hus
   clear hus
   go_wp2_with fail
   obtain ⟨XT, val, hcl, hmk⟩ := class_all (fun W' => W'.heap[G]? = some (.cells (floorA c n Q wd h) 136 (0, 0)) ∧ W'.heap[c k]? = some (.cells #[u k] 138 (0, 0)))
   obtain ⟨x0, hx0⟩ := hmk wr.drew ⟨HD.out.g.blk, (HD.out.g.bk k hlt).cell⟩
   have hnx : Nonempty XT := ⟨x0⟩
   have ec : ∀ x, (val x).cell? ⟨G, k, none⟩ = some (.pointer (some ⟨c k, 0, none⟩)) := fun x => by
    rw [cell_of_row _ _ _ _ _ _ (hcl x).1]
    have : k = 0 ∨ k = 1 ∨ k = 2 := by omega
    rcases this with rfl | rfl | rfl <;> rfl
   have ev : ∀ x, (val x).cell? ⟨c k, 0, none⟩ = some (.slice sa sm sc) := fun x => by rw [cell_of_row _ _ 0 _ _ _ (hcl x).2, HUS.out]; rfl
   have en : ∀ x, (val x).cell? ⟨G, 3 + k * 2, none⟩ = some (.int .i64 (n (k * 2))) := fun x => by
    rw [cell_of_row _ _ _ _ _ _ (hcl x).1]
    have : k = 0 ∨ k = 1 ∨ k = 2 := by omega
    rcases this with rfl | rfl | rfl <;> rfl
   have em : ∀ x, (val x).cell? ⟨G, 3 + k * 2 + 1, none⟩ = some (.int .i64 (n (k * 2 + 1))) := fun x => by
    rw [cell_of_row _ _ _ _ _ _ (hcl x).1]
    have : k = 0 ∨ k = 1 ∨ k = 2 := by omega
    rcases this with rfl | rfl | rfl <;> rfl
   have HMK : Hid (∀ W', Below wr.heap.size wr W' → ∃ x, val x = W') := fun W' hb => hmk W' ⟨(HD.out.later hb).g.blk, ((HD.out.later hb).g.bk k hlt).cell⟩
   obtain ⟨w5, hw5⟩ : ∃ w5, wr.drew = w5 := ⟨_, rfl⟩
   have HB5 : Hid (Below wr.heap.size wr w5) := by rw [← hw5]; exact ⟨rfl, rfl, rfl, Nat.le_refl _, fun _ _ => rfl⟩
   have n1 : (n (k * 2) != n (k * 2)) = false := by simp
   have n2 : (n (k * 2 + 1) != n (k * 2 + 1)) = false := by simp
   have fa := HFA.out; have fb := HFB.out
   clear hmk hcl
   refine region_many_calls (val := val) [4, 14, 20, 34] [0, 1, 2, 3, 5, 6, 7, 8, 9, 10, 11, 12, 13, 4, 14, 15, 16, 17, 18, 19, 22, 23, 24, 25, 26, 27, 28, 20, 21, 29, 30, 31, 32, 33, 36, 37, 38, 39, 40, 41, 42, 34, 35, 43, 44] (by kernel_rfl) (by kernel_rfl) x0 hx0 ?_
   rw [hx0, hw5]
   clear hx0 hw5
   iterate 13 (refine walkM_read rfl rfl (fun K hK => ?_); refine ⟨by rfl, ?_⟩; unfold isRd; go_simp; refine hK _ ?_; clear hK K)
   refine walkM_call rfl rfl (fun K hK => ?_)
   refine ⟨by rfl, ?_⟩
   unfold upM
   go_simp
   refine (HLT.out w5 HB5.out).mono ?_
   rintro e w6 ⟨vl, rfl, hrow6, hb6⟩
   have HB6 := hide (HB5.out.trans (hb6.mono HB5.out.size))
   have hsl := lots_same vl (u k) (L k) w6 (by have := hl.out k hlt; omega) hrow6 ((HD.out.later HB6.out).g.bk k hlt).row
   rw [HUS.out] at hsl
   have HSL := hide hsl
   refine ⟨_, rfl, HMK.out _ HB6.out, hK _ _ ?_⟩
   clear hrow6 hb6 hsl HLT
   clear hK K
   refine walkM_call rfl rfl (fun K hK => ?_)
   refine ⟨by rfl, ?_⟩
   unfold upM
   go_simp
   refine HSL.out.mono ?_
   rintro e w7 ⟨rfl, hb7⟩
   have HB7 := hide (HB6.out.trans (hb7.mono HB6.out.size))
   refine ⟨_, rfl, HMK.out _ HB7.out, hK _ _ ?_⟩
   clear hb7 HSL
   clear hK K
   iterate 12 (refine walkM_read rfl rfl (fun K hK => ?_); refine ⟨by rfl, ?_⟩; unfold isRd; go_simp; refine hK _ ?_; clear hK K)
   refine walkM_call rfl rfl (fun K hK => ?_)
   refine ⟨by rfl, ?_⟩
   unfold upM
   go_simp
   refine (HBD.out w7 HB7.out).mono ?_
   rintro e w8 ⟨rfl, hb8⟩
   have HB8 := hide (HB7.out.trans (hb8.mono HB7.out.size))
   refine ⟨_, rfl, HMK.out _ HB8.out, hK _ _ ?_⟩
   clear hb8
   clear hK K
   iterate 13 (refine walkM_read rfl rfl (fun K hK => ?_); refine ⟨by rfl, ?_⟩; unfold isRd; go_simp; refine hK _ ?_; clear hK K)
   refine walkM_call rfl rfl (fun K hK => ?_)
   refine ⟨by rfl, ?_⟩
   unfold upM
   go_simp
   refine (HBD.out w8 HB8.out).mono ?_
   rintro e w9 ⟨rfl, hb9⟩
   have HB9 := hide (HB8.out.trans (hb9.mono HB8.out.size))
   refine ⟨_, rfl, HMK.out _ HB9.out, hK _ _ ?_⟩
   clear hb9 HBD
   clear hK K
   iterate 3 (refine walkM_read rfl rfl (fun K hK => ?_); refine ⟨by rfl, ?_⟩; unfold isRd; go_simp; refine hK _ ?_; clear hK K)
   refine walkM_nil ?_
   clear ec ev en em HMK fa fb
   clear x0 hnx
   clear val
   clear XT
   have HBw := hide (HB.out.trans (HB9.out.mono HB.out.size))
   clear HB5 HB6 HB7 HB8 HB9 HB HD
   go_wp2
   exact ⟨⟨k + 1, by omega, by go_num, HBw.out⟩, by simp [intOf]; omega⟩
  ·have hki : ¬ (k : Int) < 3 := by omega
   clear HFA HFB
   go_wp2_with fail
   obtain ⟨wq, hwq⟩ : ∃ wq, wr = wq := ⟨_, rfl⟩
   rw [hwq] at HB ⊢
   clear HD
   go_loopw [7] (fun x wl => ∃ k : Nat, k ≤ 6 ∧ x = .int .i64 k ∧ Below W.heap.size W wl) (fun x _ => 6 - (intOf x).toNat)
   case atStart => exact ⟨0, by omega, rfl, HB.out⟩
   case round =>
    obtain ⟨j, hj, rfl, hb⟩ := hrel
    have HB := hide hb
    have HD := hide (hT.out.later hb)
    clear hb
    by_cases hlj : j < 6
    ·have hji : (j : Int) < 6 := by omega
     have hj0 : (0 : Int) ≤ (j : Int) := by omega
     have HPU := hide (fun W' (hb : Below wr.heap.size wr W') => purse_of (hide (HD.out.later hb).f))
     have HOF : Hid (∀ W', Below wr.heap.size wr W' → Calls Tryz.prog 19 #[.pointer (some ⟨P, 0, none⟩), .int .i64 j] W' fun e w' => e = .returned (hasV pf j) ∧ Below W'.heap.size W' w') := fun W' hb => by
      have := of_any P (j : Int) pf W' (HD.out.later hb).f.pu
      rwa [ofV_in pf hlj] at this
     have HSA := hide (fun W' => same_any (pf (j * 8)) (pf (j * 8 + 1)) (pf (j * 8 + 2)) (pf (j * 8 + 3)) (pf (j * 8 + 4)) (pf (j * 8 + 5)) (pf (j * 8 + 6)) (pf (j * 8 + 7)) W')
     unfold hasV at HOF
     go_wp2_with fail
     obtain ⟨XT, val, hcl, hmk⟩ := class_all (fun W' => W'.heap[G]? = some (.cells (floorA c n Q wd h) 136 (0, 0)) ∧ Purse W' 131 Q pf)
     obtain ⟨x0, hx0⟩ := hmk wr.drew ⟨HD.out.g.blk, HD.out.g.pu⟩
     have hnx : Nonempty XT := ⟨x0⟩
     have ec : ∀ x, (val x).cell? ⟨G, 9, none⟩ = some (.pointer (some ⟨Q, 0, none⟩)) := fun x => cof (hcl x).1 rfl
     have p0 : ∀ x, (val x).cell? ⟨Q, j * 8, none⟩ = some (.int .i64 (pf (j * 8))) := fun x => (hcl x).2.cell (by omega)
     have p1 : ∀ x, (val x).cell? ⟨Q, j * 8 + 1, none⟩ = some (.int .i64 (pf (j * 8 + 1))) := fun x => (hcl x).2.cell (by omega)
     have p2 : ∀ x, (val x).cell? ⟨Q, j * 8 + 2, none⟩ = some (.int .i64 (pf (j * 8 + 2))) := fun x => (hcl x).2.cell (by omega)
     have p3 : ∀ x, (val x).cell? ⟨Q, j * 8 + 3, none⟩ = some (.int .i64 (pf (j * 8 + 3))) := fun x => (hcl x).2.cell (by omega)
     have p4 : ∀ x, (val x).cell? ⟨Q, j * 8 + 4, none⟩ = some (.int .i64 (pf (j * 8 + 4))) := fun x => (hcl x).2.cell (by omega)
     have p5 : ∀ x, (val x).cell? ⟨Q, j * 8 + 5, none⟩ = some (.int .i64 (pf (j * 8 + 5))) := fun x => (hcl x).2.cell (by omega)
     have p6 : ∀ x, (val x).cell? ⟨Q, j * 8 + 6, none⟩ = some (.int .i64 (pf (j * 8 + 6))) := fun x => (hcl x).2.cell (by omega)
     have p7 : ∀ x, (val x).cell? ⟨Q, j * 8 + 7, none⟩ = some (.int .i64 (pf (j * 8 + 7))) := fun x => (hcl x).2.cell (by omega)
     have HMK : Hid (∀ W', Below wr.heap.size wr W' → ∃ x, val x = W') := fun W' hb => hmk W' ⟨(HD.out.later hb).g.blk, (HD.out.later hb).g.pu⟩
     obtain ⟨w5, hw5⟩ : ∃ w5, wr.drew = w5 := ⟨_, rfl⟩
     have HB5 : Hid (Below wr.heap.size wr w5) := by rw [← hw5]; exact ⟨rfl, rfl, rfl, Nat.le_refl _, fun _ _ => rfl⟩
     clear hmk hcl
     refine region_many_calls (val := val) [1, 3, 13] [0, 2, 4, 5, 6, 7, 8, 9, 10, 11, 12, 1, 3, 13, 14] (by kernel_rfl) (by kernel_rfl) x0 hx0 ?_
     rw [hx0, hw5]
     clear hx0 hw5
     iterate 11 (refine walkM_read rfl rfl (fun K hK => ?_); refine ⟨by rfl, ?_⟩; unfold isRd; go_simp; refine hK _ ?_; clear hK K)
     refine walkM_call rfl rfl (fun K hK => ?_)
     refine ⟨by rfl, ?_⟩
     unfold upM
     go_simp
     refine (HPU.out w5 HB5.out).mono ?_
     rintro e w6 ⟨rfl, hw6⟩
     rw [hw6]
     refine ⟨_, rfl, HMK.out _ HB5.out, hK _ _ ?_⟩
     clear hw6 HPU
     clear hK K
     refine walkM_call rfl rfl (fun K hK => ?_)
     refine ⟨by rfl, ?_⟩
     unfold upM
     go_simp
     refine (HOF.out w5 HB5.out).mono ?_
     rintro e w7 ⟨rfl, hb7⟩
     have HB7 := hide (HB5.out.trans (hb7.mono HB5.out.size))
     refine ⟨_, rfl, HMK.out _ HB7.out, hK _ _ ?_⟩
     clear hb7 HOF
     clear hK K
     refine walkM_call rfl rfl (fun K hK => ?_)
     refine ⟨by rfl, ?_⟩
     unfold upM
     go_simp
     refine (HSA.out w7).mono ?_
     rintro e w8 ⟨rfl, hb8⟩
     have HB8 := hide (HB7.out.trans (hb8.mono HB7.out.size))
     refine ⟨_, rfl, HMK.out _ HB8.out, hK _ _ ?_⟩
     clear hb8 HSA
     clear hK K
     refine walkM_read rfl rfl (fun K hK => ?_); refine ⟨by rfl, ?_⟩; unfold isRd; go_simp; refine hK _ ?_; clear hK K
     refine walkM_nil ?_
     clear ec p0 p1 p2 p3 p4 p5 p6 p7 HMK
     clear x0 hnx
     clear val
     clear XT
     have HBw := hide (HB.out.trans (HB8.out.mono HB.out.size))
     clear HB5 HB7 HB8 HB HD
     go_wp2
     exact ⟨⟨j + 1, by omega, by go_num, HBw.out⟩, by simp [intOf]; omega⟩
    ·have hji : ¬ (j : Int) < 6 := by omega
     have HO1 := hide (book_out (-1) (hide HD.out.f) (by decide))
     have HO2 := hide (book_out 3 (hide HD.out.f) (by decide))
     have HO3 := hide (band_out 3 (hide HD.out.f) (by decide))
     unfold bandV at HO3
     go_wp2_with fail
     refine HO1.out.mono ?_
     rintro e w2 ⟨rfl, hw2⟩
     rw [hw2]
     clear hw2
     simp only []
     go_wp2_with fail
     refine HO2.out.mono ?_
     rintro e w2 ⟨rfl, hw2⟩
     rw [hw2]
     clear hw2
     simp only []
     go_wp2_with fail
     refine HO3.out.mono ?_
     rintro e w3 ⟨rfl, hb3⟩
     have HB3 := hide (HB.out.trans (hb3.mono HB.out.size))
     clear hb3
     simp only []
     go_wp2
     go_ret
     exact ⟨rfl, HB3.out⟩
end
section
variable {w W : World} {F P : Nat} {b : Nat → Nat} {v : Nat → Value} {L : Nat → List Cv.Lot} {pf n : Nat → Int} {wd h : Int}
theorem mrun_any (i : Nat) (hi : i < 3) (s p vol : Int) (hs : Ra.IsU s) (hF : MFl w W F P b v L pf n wd h) (H : FAll L pf n wd h) (hwon : Cv.Won (L i) (n (i * 2)) 1000 p vol) :
  Calls Tryz.prog 32 #[.pointer (some ⟨F, 0, none⟩), .int .i64 i, .int .u32 s] W fun e W' => ∃ vF v', e = .returned (.agg #[.int .i64 p, .int .i64 vol, .bool (Fl.runO n i wd p vol), vF]) ∧
   MFl w W' F P b v' (Fl.runL L i (Fl.runF s (L i) (Fl.runO n i wd p vol) p vol)) (Fs.sett pf i p (L i) (Fl.runF s (L i) (Fl.runO n i wd p vol) p vol)) (Fl.runN n i wd h p vol) wd h ∧
   Fls W' vF (Fl.runF s (L i) (Fl.runO n i wd p vol) p vol) := by
 have hv0 := (hwon.range (by decide)).2.2
 by_cases hc : Fl.runO n i wd p vol = true ∧ 0 < vol
 ·have e : Fl.runF s (L i) (Fl.runO n i wd p vol) p vol = Ra.fills s (L i) p vol := by unfold Fl.runF; rw [if_pos hc]
  rw [e, hc.1]
  refine (mrun_open i hi s p vol hF H.ok (H.band i hi) H.rule hwon hc.1 hc.2 (hide (Fs.won_fine (good_well (H.ok.bk i hi)) hwon hc.2)) hs).mono ?_
  rintro e W' ⟨vF, v', rfl, h1, h2⟩
  exact ⟨vF, v', rfl, h2, fls_row h1⟩
 ·have e : Fl.runF s (L i) (Fl.runO n i wd p vol) p vol = [] := by unfold Fl.runF; rw [if_neg hc]
  have hst : Bd.nO (n (i * 2)) (n (i * 2 + 1)) wd p vol = false ∨ vol = 0 := by
   cases ho : Bd.nO (n (i * 2)) (n (i * 2 + 1)) wd p vol with
   | false => exact .inl rfl
   | true => exact .inr (by have : ¬ 0 < vol := fun hv => hc ⟨ho, hv⟩; omega)
  have e2 : Fl.runL L i [] = L := by unfold Fl.runL; rw [Fs.rest_nil (H.ok.bk i hi).oks, upd_self]
  rw [e, e2, Fs.sett_nil]
  refine (mrun_still i hi s p vol hF (H.ok.bk i hi) (H.band i hi) H.rule hwon hst).mono ?_
  rintro e W' ⟨rfl, h1⟩
  exact ⟨_, v, rfl, h1, .inl ⟨rfl, none, 0, rfl⟩⟩
end
theorem aer_sent {w : World} {ad : Nat → Addr} (h : Sent w ad) : AEr w (adV ad) :=
 ⟨h.cell 1 (by decide), h.cell 2 (by decide), h.cell 3 (by decide), h.cell 5 (by decide), h.cell 6 (by decide), h.cell 7 (by decide), h.cell 9 (by decide), h.cell 11 (by decide)⟩
theorem Fl.kindN_le (a : Ask) (k : Int) : Fl.kindN a k ≤ 4 := by
 unfold Fl.kindN
 split
 ·omega
 ·unfold Wi.code; split <;> (try split) <;> (try split) <;> decide
theorem Fl.placeC_lt (L : Nat → List Cv.Lot) (pf : Nat → Int) (a : Ask) : Fl.placeC L pf a < 12 := by
 have := Fl.kindN_le a 111
 unfold Fl.placeC Pu.holdC
 repeat' split
 all_goals omega
theorem Fl.canC_lt (L : Nat → List Cv.Lot) (pf : Nat → Int) (a : Ask) : Fl.canC L pf a < 12 := by
 have := Fl.kindN_le a 99
 unfold Fl.canC Pu.freeC
 repeat' split
 all_goals omega
set_option maxHeartbeats 1000000 in
theorem acts_long (c0 c1 c2 c3 c4 : Int) (a : Option Addr) (n cap : Nat) (ad : Nat → Addr) (w : World) (hs : Hid (Sent w ad)) (hn : 60 < n) :
  Calls Tryz.prog 7 #[.agg #[.int .i64 c0, .int .i64 c1, .int .i64 c2, .int .i64 c3, .int .i64 c4], .slice a n cap] w fun e w' => e = .returned (.bool true) ∧ Below w.heap.size w w' := by
 have hn' : (60 : Int) < n := by omega
 have HB0 : Hid (Below w.heap.size w (w.alloc (.cells #[.int .i64 c0, .int .i64 c1, .int .i64 c2, .int .i64 c3, .int .i64 c4] 74))) := bal
 have HE0 : Hid (AEr (w.alloc (.cells #[.int .i64 c0, .int .i64 c1, .int .i64 c2, .int .i64 c3, .int .i64 c4] 74)) (adV ad)) := (aer_sent hs.out).below HB0.out
 have HFL := hide (floored_any (w.alloc (.cells #[.int .i64 c0, .int .i64 c1, .int .i64 c2, .int .i64 c3, .int .i64 c4] 74)) HE0)
 have HK0 := hide (heap_alloc_new w (.cells #[.int .i64 c0, .int .i64 c1, .int .i64 c2, .int .i64 c3, .int .i64 c4] 74))
 go_enter Tryz.func7, Tryz.ntmps7
 go_wp2_with fail
 refine HFL.out.mono ?_
 rintro e w1 ⟨rfl, hb1⟩
 have HB1 := hide (HB0.out.trans (hb1.mono HB0.out.size))
 have HK1 : Hid (w1.heap[w.heap.size]? = some (.cells #[.int .i64 c0, .int .i64 c1, .int .i64 c2, .int .i64 c3, .int .i64 c4] 74 (0, 0))) := rof hb1 HK0.out
 clear hb1 HFL HK0 HB0 HE0
 simp only []
 go_wp2
 go_ret
 exact ⟨rfl, HB1.out⟩
set_option maxHeartbeats 2000000 in
theorem acts_bad (c0 c1 c2 c3 c4 : Int) (a : Option Addr) (n cap : Nat) (ad : Nat → Addr) (w : World) (hs : Hid (Sent w ad)) (hn : n ≤ 60) (hf : fOk c0 c1 c2 c3 c4 = false) :
  Calls Tryz.prog 7 #[.agg #[.int .i64 c0, .int .i64 c1, .int .i64 c2, .int .i64 c3, .int .i64 c4], .slice a n cap] w fun e w' => e = .returned (.bool true) ∧ Below w.heap.size w w' := by
 have hn' : ¬ (60 : Int) < n := by omega
 have HB0 : Hid (Below w.heap.size w (w.alloc (.cells #[.int .i64 c0, .int .i64 c1, .int .i64 c2, .int .i64 c3, .int .i64 c4] 74))) := bal
 have HE0 : Hid (AEr (w.alloc (.cells #[.int .i64 c0, .int .i64 c1, .int .i64 c2, .int .i64 c3, .int .i64 c4] 74)) (adV ad)) := (aer_sent hs.out).below HB0.out
 have HFL := hide (floored_any (w.alloc (.cells #[.int .i64 c0, .int .i64 c1, .int .i64 c2, .int .i64 c3, .int .i64 c4] 74)) HE0)
 have HK0 := hide (heap_alloc_new w (.cells #[.int .i64 c0, .int .i64 c1, .int .i64 c2, .int .i64 c3, .int .i64 c4] 74))
 go_enter Tryz.func7, Tryz.ntmps7
 go_wp2_with fail
 refine HFL.out.mono ?_
 rintro e w1 ⟨rfl, hb1⟩
 have HB1 := hide (HB0.out.trans (hb1.mono HB0.out.size))
 have HK1 : Hid (w1.heap[w.heap.size]? = some (.cells #[.int .i64 c0, .int .i64 c1, .int .i64 c2, .int .i64 c3, .int .i64 c4] 74 (0, 0))) := rof hb1 HK0.out
 clear hb1 HFL HK0 HB0 HE0
 simp only []
 have k0 : w1.cell? ⟨w.heap.size, 0, none⟩ = some (.int .i64 c0) := cof HK1.out rfl
 have k1 : w1.cell? ⟨w.heap.size, 1, none⟩ = some (.int .i64 c1) := cof HK1.out rfl
 have k2 : w1.cell? ⟨w.heap.size, 2, none⟩ = some (.int .i64 c2) := cof HK1.out rfl
 have k3 : w1.cell? ⟨w.heap.size, 3, none⟩ = some (.int .i64 c3) := cof HK1.out rfl
 have k4 : w1.cell? ⟨w.heap.size, 4, none⟩ = some (.int .i64 c4) := cof HK1.out rfl
 have HNW := hide (new_bad c0 c1 c2 c3 c4 w1 (hide ((aer_sent hs.out).below HB1.out)) hf)
 unfold bandV at HNW
 have HER := hide (fun W => floorError_any c0 c1 c2 c3 c4 W)
 rw [hf, show okN false = 2 from rfl] at HER
 have HCO := hide (fun W (hb : Below w.heap.size w W) => p_coded_any ad 1 W (hide (hs.out.later hb)) (by decide))
 rw [show errE (adV ad) 1 = .iface 252 (adV ad 1) from rfl, show p_errNo 1 = 2 from rfl] at HCO
 go_wp2_with fail
 refine HNW.out.mono ?_
 rintro e w2 ⟨rfl, hb2⟩
 have HB2 := hide (HB1.out.trans (hb2.mono HB1.out.size))
 have j0 := cell_later hb2 k0
 have j1 := cell_later hb2 k1
 have j2 := cell_later hb2 k2
 have j3 := cell_later hb2 k3
 have j4 := cell_later hb2 k4
 clear hb2 HNW k0 k1 k2 k3 k4
 simp only []
 go_wp2_with fail
 refine (HER.out _).mono ?_
 rintro e w3 ⟨rfl, hb3⟩
 have HB3 := hide (HB2.out.trans (hb3.mono HB2.out.size))
 clear hb3 HER
 simp only []
 go_wp2_with fail
 refine (HCO.out _ HB3.out).mono ?_
 rintro e w4 ⟨rfl, hb4⟩
 have HB4 := hide (HB3.out.trans (hb4.mono HB3.out.size))
 clear hb4 HCO
 simp only []
 go_wp2
 go_ret
 exact ⟨rfl, HB4.out⟩
theorem Duo.new {w W W' : World} {F P : Nat} {I b : Nat → Nat} {v : Nat → Value} {L M : Nat → List Cv.Lot} {pf n qf m : Nat → Int} {wd h : Int} (hf : PFl w W F P I b v L pf n wd h) (hg : MFl W W' (W.heap.size + 1) W.heap.size (fun j => W.heap.size + 3 + j) (fun _ => .slice none 0 0) M qf m wd h) :
  Duo w W' F P I b v L pf n (W.heap.size + 1) W.heap.size (fun j => W.heap.size + 3 + j) (fun _ => .slice none 0 0) M qf m wd h := by
 have hno : ∀ i, rowAt W (W.heap.size + 3 + i) = none := fun i => by
  unfold rowAt
  rw [Array.getElem?_eq_none (by omega)]
 have hb : Below W.heap.size W W' := ⟨hg.bl.os, hg.bl.tape, hg.bl.output, hg.bl.size, fun k hk => hg.bl.keep k hk (by omega) (by omega) (fun i _ => ⟨by omega, by rw [hno i]; simp⟩)⟩
 have hlo : ∀ k, MFoot (W.heap.size + 1) W.heap.size (fun j => W.heap.size + 3 + j) (fun _ => .slice none 0 0) k → W.heap.size ≤ k := fun k hk => by
  rcases hk with e | e | ⟨i, _, e | e⟩
  ·omega
  ·omega
  ·simp only [] at e; omega
  ·cases e
 refine ⟨hf.later hb, hg.start, fun k h1 h2 => ?_, fun k hk => ?_⟩
 ·have := (hf.lows h1).1
  have := hlo k h2
  omega
 ·have := hlo k hk
  have := hf.bl.size
  omega
def DAll (w W : World) (F P : Nat) (I b : Nat → Nat) (G Q : Nat) (c : Nat → Nat) (wd h : Int) : Prop := ∃ v u L pf n, Duo w W F P I b v L pf n G Q c u L pf n wd h ∧ FAll L pf n wd h
theorem Fl.dO_le (c : Int) (L : Nat → List Cv.Lot) (h : ∀ i, i < 3 → (L i).length ≤ 60) : (Fl.dO c L 3).length ≤ 180 := Fl.dO_len c L h 3 (Nat.le_refl _)
theorem runF_le {l : List Cv.Lot} (hl : Bk.Good l) {ref p vol s : Int} {o : Bool} (hw : Cv.Won l ref 1000 p vol) : (Fl.runF s l o p vol).length ≤ 1000 := by
 unfold Fl.runF
 split
 ·rename_i h
  have := Ra.fills_length s (Fs.won_fine (good_well hl) hw h.2)
  unfold Ra.fills
  rw [List.length_append]
  omega
 ·simp
set_option maxHeartbeats 4000000 in
theorem acts_play (c0 c1 c2 c3 c4 : Int) (a : Option Addr) (n cap : Nat) (l : List DAct) (ad : Nat → Addr) (w : World) (hs : Hid (Sent w ad)) (ha : Hid (ArgDos w a n l)) (hn : n ≤ 60) (hf : fOk c0 c1 c2 c3 c4 = true) :
  Calls Tryz.prog 7 #[.agg #[.int .i64 c0, .int .i64 c1, .int .i64 c2, .int .i64 c3, .int .i64 c4], .slice a n cap] w fun e w' => e = .returned (.bool true) ∧ Below w.heap.size w w' := by
 have hn' : ¬ (60 : Int) < n := by omega
 have HB0 : Hid (Below w.heap.size w (w.alloc (.cells #[.int .i64 c0, .int .i64 c1, .int .i64 c2, .int .i64 c3, .int .i64 c4] 74))) := bal
 have HE0 : Hid (AEr (w.alloc (.cells #[.int .i64 c0, .int .i64 c1, .int .i64 c2, .int .i64 c3, .int .i64 c4] 74)) (adV ad)) := (aer_sent hs.out).below HB0.out
 have HFL := hide (floored_any (w.alloc (.cells #[.int .i64 c0, .int .i64 c1, .int .i64 c2, .int .i64 c3, .int .i64 c4] 74)) HE0)
 have HK0 := hide (heap_alloc_new w (.cells #[.int .i64 c0, .int .i64 c1, .int .i64 c2, .int .i64 c3, .int .i64 c4] 74))
 go_enter Tryz.func7, Tryz.ntmps7
 go_wp2_with fail
 refine HFL.out.mono ?_
 rintro e w1 ⟨rfl, hb1⟩
 have HB1 := hide (HB0.out.trans (hb1.mono HB0.out.size))
 have HK1 : Hid (w1.heap[w.heap.size]? = some (.cells #[.int .i64 c0, .int .i64 c1, .int .i64 c2, .int .i64 c3, .int .i64 c4] 74 (0, 0))) := rof hb1 HK0.out
 clear hb1 HFL HK0 HB0 HE0
 simp only []
 have k0 : w1.cell? ⟨w.heap.size, 0, none⟩ = some (.int .i64 c0) := cof HK1.out rfl
 have k1 : w1.cell? ⟨w.heap.size, 1, none⟩ = some (.int .i64 c1) := cof HK1.out rfl
 have k2 : w1.cell? ⟨w.heap.size, 2, none⟩ = some (.int .i64 c2) := cof HK1.out rfl
 have k3 : w1.cell? ⟨w.heap.size, 3, none⟩ = some (.int .i64 c3) := cof HK1.out rfl
 have k4 : w1.cell? ⟨w.heap.size, 4, none⟩ = some (.int .i64 c4) := cof HK1.out rfl
 have HFI : Hid (Bd.rOk c0 c1 = true ∧ Wi.withinB c2 1 1000 = true ∧ Fl.Fits c3 c4) := by
  have h0 := hf
  simp only [fOk, Bool.and_eq_true] at h0
  obtain ⟨h1, h2, h3, h4⟩ := h0
  simp only [Wi.withinB, Bool.and_eq_true, decide_eq_true_eq] at h3 h4
  exact ⟨h1, h2, ⟨by omega, by omega, by omega, by omega⟩⟩
 have HNW := hide (new_ok c0 c1 c2 c3 c4 w1 (hide ((aer_sent hs.out).below HB1.out)) HFI.out.1 HFI.out.2.1 HFI.out.2.2)
 unfold bandV at HNW
 have HER := hide (fun W => floorError_any c0 c1 c2 c3 c4 W)
 rw [hf, show okN true = 0 from rfl] at HER
 go_wp2_with fail
 refine HNW.out.mono ?_
 rintro e w2 ⟨F, P, I, b, rfl, hf2⟩
 have HF2 := hide hf2
 have j0 := cell_later hf2.bl k0
 have j1 := cell_later hf2.bl k1
 have j2 := cell_later hf2.bl k2
 have j3 := cell_later hf2.bl k3
 have j4 := cell_later hf2.bl k4
 clear hf2 HNW k0 k1 k2 k3 k4
 simp only []
 go_wp2_with fail
 refine (HER.out _).mono ?_
 rintro e w3 ⟨rfl, hb3⟩
 have HF3 := hide (HF2.out.later hb3)
 have i0 := cell_later hb3 j0
 have i1 := cell_later hb3 j1
 have i2 := cell_later hb3 j2
 have i3 := cell_later hb3 j3
 have i4 := cell_later hb3 j4
 clear hb3 HER HF2 j0 j1 j2 j3 j4
 simp only []
 have HMN := hide (mnew_any c0 c1 c2 c3 c4 w3)
 go_wp2_with fail
 refine HMN.out.mono ?_
 rintro e w4 ⟨rfl, hg4⟩
 have HD4 := hide (Duo.new HF3.out hg4)
 have HAL := hide (Fl.new_all (wd := c0) (h := c1) (ref := c2) HFI.out.1 HFI.out.2.1 HFI.out.2.2)
 clear hg4 HMN HF3 i0 i1 i2 i3 i4 HK1 HFI
 obtain ⟨G, hG⟩ : ∃ G, w3.heap.size + 1 = G := ⟨_, rfl⟩
 obtain ⟨c, hc⟩ : ∃ c : Nat → Nat, (fun j => w3.heap.size + 3 + j) = c := ⟨_, rfl⟩
 rw [hG, hc] at HD4
 rw [hG]
 generalize w3.heap.size = Q at *
 clear hG hc
 simp only []
 have HALL : Hid (DAll w1 w4 F P I b G Q c c0 c1) := ⟨_, _, _, _, _, HD4.out, HAL.out⟩
 have HSB : Hid (∀ W, Below w1.heap.size w1 W → Sent W ad) := fun W hb => hs.out.later (HB1.out.trans (hb.mono HB1.out.size))
 have HAB : Hid (AEr w1 (adV ad)) := (aer_sent hs.out).below HB1.out
 have HARGN := hide ha.out.1; have HARGS := hide ha.out.2.1; have HARGU := hide ha.out.2.2
 clear HD4 HAL
 go_wp2_with fail
 go_loopw [10, 11] (fun rn x wl => ∃ (k q : Nat), k ≤ n ∧ x = .int .i64 k ∧ rn = .int .i64 q ∧ q ≤ k ∧ DAll w1 wl F P I b G Q c c0 c1) (fun _ x _ => n - (intOf x).toNat)
 case atStart => exact ⟨0, 0, Nat.zero_le _, rfl, rfl, Nat.le_refl _, HALL.out⟩
 case round =>
  obtain ⟨k, q, hk, rfl, rfl, hq, v, u, L, pf, m, hT, hA⟩ := hrel
  have HT := hide hT; have HA := hide hA
  clear hT hA HALL
  by_cases hlt : k < n
  ·have hki : (k : Int) < n := by omega
   obtain ⟨g, rfl, hlg⟩ : ∃ g, a = some g ∧ DosAt w g l := by
    rcases HARGS.out with h | h
    ·omega
    ·exact h
   have hu := HARGU.out k hlt
   obtain ⟨k0, k1, k2, k3, k4, k5, k6, k7, k8, k9, k10, k11⟩ := (hlg.later (HB1.out.trans (HT.out.f.bl.mono HB1.out.size))) k (by rw [HARGN.out]; exact hlt)
   clear hlg
   generalize dnth l k = A at *
   obtain ⟨kd, ⟨ak, ac, asq, ait, asd, apr, aq, aid⟩, dc, dit, dsd⟩ := A
   simp only [] at k0 k1 k2 k3 k4 k5 k6 k7 k8 k9 k10 k11 hu
   have HU := hide hu
   clear hu
   obtain ⟨DD, hDD⟩ : ∃ DD, wr.heap.size = DD := ⟨_, rfl⟩
   obtain ⟨w5, hw5⟩ : ∃ w5, wr.alloc (.cells #[.string kd, .int .u8 ak, .int .i64 ac, .int .i64 asq, .int .i64 ait, .int .i64 asd, .int .i64 apr, .int .i64 aq, .int .i64 aid, .int .i64 dc, .int .i64 dit, .int .u32 dsd] 36) = w5 := ⟨_, rfl⟩
   have hb5 : Below wr.heap.size wr w5 := by rw [← hw5]; exact bal
   have HA5 : Hid (w5.heap[DD]? = some (.cells #[.string kd, .int .u8 ak, .int .i64 ac, .int .i64 asq, .int .i64 ait, .int .i64 asd, .int .i64 apr, .int .i64 aq, .int .i64 aid, .int .i64 dc, .int .i64 dit, .int .u32 dsd] 36 (0, 0))) := by show _ = _; rw [← hw5, ← hDD]; exact heap_alloc_new _ _
   have HT5 := hide (HT.out.later hb5)
   have HWE := hide hw5; have HDE := hide hDD
   have HLEN : Hid (∀ i, i < 3 → (L i).length ≤ 60) := fun i hi => (HA.out.ok.bk i hi).len
   clear hb5 hw5 hDD
   cases hkp : (kd.toList == [112, 108, 97, 99, 101]) with
   | true => as_aux_lemma =>
    have HP := hide (fun W (T : Duo w1 W F P I b v L pf m G Q c u L pf m c0 c1) => place_any ⟨ak, ac, asq, ait, asd, apr, aq, aid⟩ T.f HAB.out HA.out.ok)
    have HPG := hide (fun (W : World) (hg : MFl W W G Q c u L pf m c0 c1) => mplace_any ⟨ak, ac, asq, ait, asd, apr, aq, aid⟩ (hide hg) (hide HA.out.ok.good) HLEN)
    have HCO := hide (fun W (hb : Below w1.heap.size w1 W) => p_coded_any ad (Fl.placeC L pf ⟨ak, ac, asq, ait, asd, apr, aq, aid⟩) W (hide (HSB.out W hb)) (Fl.placeC_lt L pf ⟨ak, ac, asq, ait, asd, apr, aq, aid⟩))
    have HOK := hide (HA.out.ok.place ⟨ak, ac, asq, ait, asd, apr, aq, aid⟩)
    generalize errE (adV ad) (Fl.placeC L pf ⟨ak, ac, asq, ait, asd, apr, aq, aid⟩) = er at *
    generalize p_errNo (Fl.placeC L pf ⟨ak, ac, asq, ait, asd, apr, aq, aid⟩) = en at *
    generalize Fl.placeL L pf ⟨ak, ac, asq, ait, asd, apr, aq, aid⟩ = L2 at *
    generalize Fl.placeF L pf ⟨ak, ac, asq, ait, asd, apr, aq, aid⟩ = pf2 at *
    unfold askV askA at HP HPG
    simp only [] at HP HPG
    go_wp2_with fail
    rw [HWE.out, HDE.out]
    clear k0 k1 k2 k3 k4 k5 k6 k7 k8 k9 k10 k11
    obtain ⟨XT, val, hcl, hmk⟩ := class_all (fun W' => W'.heap[DD]? = some (.cells #[.string kd, .int .u8 ak, .int .i64 ac, .int .i64 asq, .int .i64 ait, .int .i64 asd, .int .i64 apr, .int .i64 aq, .int .i64 aid, .int .i64 dc, .int .i64 dit, .int .u32 dsd] 36 (0, 0)))
    obtain ⟨x0, hx0⟩ := hmk w5.drew HA5.out
    have hnx : Nonempty XT := ⟨x0⟩
    have e1 : ∀ x, (val x).cell? ⟨DD, 1, none⟩ = some (.int .u8 ak) := fun x => cof (hcl x) rfl
    have e2 : ∀ x, (val x).cell? ⟨DD, 2, none⟩ = some (.int .i64 ac) := fun x => cof (hcl x) rfl
    have e3 : ∀ x, (val x).cell? ⟨DD, 3, none⟩ = some (.int .i64 asq) := fun x => cof (hcl x) rfl
    have e4 : ∀ x, (val x).cell? ⟨DD, 4, none⟩ = some (.int .i64 ait) := fun x => cof (hcl x) rfl
    have e5 : ∀ x, (val x).cell? ⟨DD, 5, none⟩ = some (.int .i64 asd) := fun x => cof (hcl x) rfl
    have e6 : ∀ x, (val x).cell? ⟨DD, 6, none⟩ = some (.int .i64 apr) := fun x => cof (hcl x) rfl
    have e7 : ∀ x, (val x).cell? ⟨DD, 7, none⟩ = some (.int .i64 aq) := fun x => cof (hcl x) rfl
    have e8 : ∀ x, (val x).cell? ⟨DD, 8, none⟩ = some (.int .i64 aid) := fun x => cof (hcl x) rfl
    have HMK := hide hmk
    obtain ⟨w6, hw6⟩ : ∃ w6, w5.drew = w6 := ⟨_, rfl⟩
    have hb6 : Below w5.heap.size w5 w6 := by rw [← hw6]; exact ⟨rfl, rfl, rfl, Nat.le_refl _, fun _ _ => rfl⟩
    have HT6 := hide (HT5.out.later hb6)
    have HA6 : Hid (w6.heap[DD]? = some (.cells #[.string kd, .int .u8 ak, .int .i64 ac, .int .i64 asq, .int .i64 ait, .int .i64 asd, .int .i64 apr, .int .i64 aq, .int .i64 aid, .int .i64 dc, .int .i64 dit, .int .u32 dsd] 36 (0, 0))) := rof hb6 HA5.out
    clear hmk hcl hb6
    refine region_many_calls (val := val) [3, 7, 8] [0, 1, 2, 4, 5, 6, 3, 7, 8, 9] (by kernel_rfl) (by kernel_rfl) x0 hx0 ?_
    rw [hx0, hw6]
    clear hx0 hw6
    iterate 6 (refine walkM_read rfl rfl (fun K hK => ?_); refine ⟨by rfl, ?_⟩; unfold isRd; go_simp; refine hK _ ?_; clear hK K)
    refine walkM_call rfl rfl (fun K hK => ?_)
    refine ⟨by rfl, ?_⟩
    unfold upM
    go_simp
    refine (HP.out w6 HT6.out).mono ?_
    rintro e w7 ⟨rfl, v2, hf7, hs7⟩
    have HT7 := hide (HT6.out.actF hf7 hs7)
    have HA7 := hide (hs7.other HT6.out.f HA6.out (by decide) (by decide) (by decide) (by decide))
    refine ⟨_, rfl, HMK.out _ HA7.out, hK _ _ ?_⟩
    clear hf7 hs7 HP HT6 HA6
    clear hK K
    refine walkM_call rfl rfl (fun K hK => ?_)
    refine ⟨by rfl, ?_⟩
    unfold upM
    go_simp
    refine (HPG.out w7 HT7.out.g).mono ?_
    rintro e w8 ⟨rfl, u2, hg8⟩
    have HT8 := hide (HT7.out.actG hg8)
    have HA8 := hide (HT7.out.leftG hg8 HA7.out (by decide) (by decide) (by decide) (by decide))
    refine ⟨_, rfl, HMK.out _ HA8.out, hK _ _ ?_⟩
    clear hg8 HPG HT7 HA7
    clear hK K
    refine walkM_call rfl rfl (fun K hK => ?_)
    refine ⟨by rfl, ?_⟩
    unfold upM
    go_simp
    refine (HCO.out w8 HT8.out.f.bl).mono ?_
    rintro e w9 ⟨rfl, hb9⟩
    have HT9 := hide (HT8.out.later hb9)
    have HA9 : Hid (w9.heap[DD]? = some (.cells #[.string kd, .int .u8 ak, .int .i64 ac, .int .i64 asq, .int .i64 ait, .int .i64 asd, .int .i64 apr, .int .i64 aq, .int .i64 aid, .int .i64 dc, .int .i64 dit, .int .u32 dsd] 36 (0, 0))) := rof hb9 HA8.out
    refine ⟨_, rfl, HMK.out _ HA9.out, hK _ _ ?_⟩
    clear hb9 HCO HT8 HA8
    clear hK K
    refine walkM_read rfl rfl (fun K hK => ?_); refine ⟨by rfl, ?_⟩; unfold isRd; go_simp; refine hK _ ?_; clear hK K
    refine walkM_nil ?_
    clear e1 e2 e3 e4 e5 e6 e7 e8 HMK
    clear x0 hnx
    clear val
    clear XT
    go_wp2
    exact ⟨⟨k + 1, q, by omega, by go_num, rfl, by omega, _, _, _, _, _, HT9.out, ⟨HOK.out, HA.out.band, HA.out.rule⟩⟩, by simp [intOf]; omega⟩
   | false =>
    cases hkc : (kd.toList == [99, 97, 110, 99, 101, 108]) with
    | true => as_aux_lemma =>
     have HP := hide (fun W (T : Duo w1 W F P I b v L pf m G Q c u L pf m c0 c1) => fcancel_any ⟨ak, ac, asq, ait, asd, apr, aq, aid⟩ T.f HAB.out HA.out.ok)
     have HPG := hide (fun (W : World) (hg : MFl W W G Q c u L pf m c0 c1) => mfcancel_any ⟨ak, ac, asq, ait, asd, apr, aq, aid⟩ (hide hg) (hide HA.out.ok.good) HLEN)
     have HCO := hide (fun W (hb : Below w1.heap.size w1 W) => p_coded_any ad (Fl.canC L pf ⟨ak, ac, asq, ait, asd, apr, aq, aid⟩) W (hide (HSB.out W hb)) (Fl.canC_lt L pf ⟨ak, ac, asq, ait, asd, apr, aq, aid⟩))
     have HOK := hide (HA.out.ok.cancel ⟨ak, ac, asq, ait, asd, apr, aq, aid⟩)
     generalize errE (adV ad) (Fl.canC L pf ⟨ak, ac, asq, ait, asd, apr, aq, aid⟩) = er at *
     generalize p_errNo (Fl.canC L pf ⟨ak, ac, asq, ait, asd, apr, aq, aid⟩) = en at *
     generalize Fl.canL L ⟨ak, ac, asq, ait, asd, apr, aq, aid⟩ = L2 at *
     generalize Fl.canF L pf ⟨ak, ac, asq, ait, asd, apr, aq, aid⟩ = pf2 at *
     generalize Fl.canX L ⟨ak, ac, asq, ait, asd, apr, aq, aid⟩ = X at *
     obtain ⟨x0, x1, x2, x3, x4⟩ := X
     unfold askV askA lotV at HP HPG
     simp only [] at HP HPG
     go_wp2_with fail
     rw [HWE.out]
     refine (HP.out w5 HT5.out).mono ?_
     rintro e w6 ⟨rfl, v2, hf6, hs6⟩
     have HT6 := hide (HT5.out.actF hf6 hs6)
     have HA6 := hide (hs6.other HT5.out.f HA5.out (by decide) (by decide) (by decide) (by decide))
     have d1 : w6.cell? ⟨DD, 1, none⟩ = some (.int .u8 ak) := cof HA6.out rfl
     have d2 : w6.cell? ⟨DD, 2, none⟩ = some (.int .i64 ac) := cof HA6.out rfl
     have d3 : w6.cell? ⟨DD, 3, none⟩ = some (.int .i64 asq) := cof HA6.out rfl
     have d4 : w6.cell? ⟨DD, 4, none⟩ = some (.int .i64 ait) := cof HA6.out rfl
     have d5 : w6.cell? ⟨DD, 5, none⟩ = some (.int .i64 asd) := cof HA6.out rfl
     have d6 : w6.cell? ⟨DD, 6, none⟩ = some (.int .i64 apr) := cof HA6.out rfl
     have d7 : w6.cell? ⟨DD, 7, none⟩ = some (.int .i64 aq) := cof HA6.out rfl
     have d8 : w6.cell? ⟨DD, 8, none⟩ = some (.int .i64 aid) := cof HA6.out rfl
     have d9 : w6.cell? ⟨DD, 9, none⟩ = some (.int .i64 dc) := cof HA6.out rfl
     have d10 : w6.cell? ⟨DD, 10, none⟩ = some (.int .i64 dit) := cof HA6.out rfl
     have d11 : w6.cell? ⟨DD, 11, none⟩ = some (.int .u32 dsd) := cof HA6.out rfl
     have hDl : DD < w6.heap.size := lt_of_block HA6.out
     have hDn : ¬ DD = w6.heap.size := by omega
     rw [HDE.out]
     clear hf6 hs6 HP HT5 HA5
     clear k0 k1 k2 k3 k4 k5 k6 k7 k8 k9 k10 k11
     obtain ⟨w7, hw7⟩ : ∃ w7, w6.alloc (.cells #[.int .i64 x0, .int .i64 x1, .int .i64 x2, .int .i64 x3, .int .i64 x4] 56) = w7 := ⟨_, rfl⟩
     have hb7 : Below w6.heap.size w6 w7 := by rw [← hw7]; exact bal
     have HX7 : Hid (w7.heap[w6.heap.size]? = some (.cells #[.int .i64 x0, .int .i64 x1, .int .i64 x2, .int .i64 x3, .int .i64 x4] 56 (0, 0))) := by show _ = _; rw [← hw7]; exact heap_alloc_new _ _
     have HT7 := hide (HT6.out.later hb7)
     have HW7 := hide hw7
     clear hb7 hw7
     simp only []
     go_wp2_with fail
     rw [HW7.out]
     refine (HPG.out w7 HT7.out.g).mono ?_
     rintro e w8 ⟨rfl, u2, hg8⟩
     have HT8 := hide (HT7.out.actG hg8)
     have HX8 : Hid (w8.heap[w6.heap.size]? = some (.cells #[.int .i64 x0, .int .i64 x1, .int .i64 x2, .int .i64 x3, .int .i64 x4] 56 (0, 0))) := (HT6.out.newG HT7.out hg8 (Nat.le_refl _) (lt_of_block HX7.out)).trans HX7.out
     clear hg8 HPG HT7 HX7 d1 d2 d3 d4 d5 d6 d7 d8 d9 d10 d11 hDl hDn HA6
     generalize w6.heap.size = XX at *
     clear HT6 HW7
     obtain ⟨w9, hw9⟩ : ∃ w9, w8.alloc (.cells #[.int .i64 x0, .int .i64 x1, .int .i64 x2, .int .i64 x3, .int .i64 x4] 56) = w9 := ⟨_, rfl⟩
     have hb9 : Below w8.heap.size w8 w9 := by rw [← hw9]; exact bal
     have HY9 : Hid (w9.heap[w8.heap.size]? = some (.cells #[.int .i64 x0, .int .i64 x1, .int .i64 x2, .int .i64 x3, .int .i64 x4] 56 (0, 0))) := by show _ = _; rw [← hw9]; exact heap_alloc_new _ _
     have HX9 : Hid (w9.heap[XX]? = some (.cells #[.int .i64 x0, .int .i64 x1, .int .i64 x2, .int .i64 x3, .int .i64 x4] 56 (0, 0))) := rof hb9 HX8.out
     have HT9 := hide (HT8.out.later hb9)
     have HW9 := hide hw9
     clear hb9 hw9 HX8
     simp only []
     go_wp2_with fail
     rw [HW9.out]
     refine (HCO.out w9 HT9.out.f.bl).mono ?_
     rintro e wA ⟨rfl, hbA⟩
     have HTA := hide (HT9.out.later hbA)
     have HXA : Hid (wA.heap[XX]? = some (.cells #[.int .i64 x0, .int .i64 x1, .int .i64 x2, .int .i64 x3, .int .i64 x4] 56 (0, 0))) := rof hbA HX9.out
     have HYA : Hid (wA.heap[w8.heap.size]? = some (.cells #[.int .i64 x0, .int .i64 x1, .int .i64 x2, .int .i64 x3, .int .i64 x4] 56 (0, 0))) := rof hbA HY9.out
     clear hbA HT9 HX9 HY9 HCO HW9 HT8
     generalize w8.heap.size = YY at *
     have a0 : wA.cell? ⟨XX, 0, none⟩ = some (.int .i64 x0) := cof HXA.out rfl
     have b0 : wA.cell? ⟨YY, 0, none⟩ = some (.int .i64 x0) := cof HYA.out rfl
     have a1 : wA.cell? ⟨XX, 1, none⟩ = some (.int .i64 x1) := cof HXA.out rfl
     have b1 : wA.cell? ⟨YY, 1, none⟩ = some (.int .i64 x1) := cof HYA.out rfl
     have a2 : wA.cell? ⟨XX, 2, none⟩ = some (.int .i64 x2) := cof HXA.out rfl
     have b2 : wA.cell? ⟨YY, 2, none⟩ = some (.int .i64 x2) := cof HYA.out rfl
     have a3 : wA.cell? ⟨XX, 3, none⟩ = some (.int .i64 x3) := cof HXA.out rfl
     have b3 : wA.cell? ⟨YY, 3, none⟩ = some (.int .i64 x3) := cof HYA.out rfl
     have a4 : wA.cell? ⟨XX, 4, none⟩ = some (.int .i64 x4) := cof HXA.out rfl
     have b4 : wA.cell? ⟨YY, 4, none⟩ = some (.int .i64 x4) := cof HYA.out rfl
     simp only []
     go_wp2
     exact ⟨⟨k + 1, q, by omega, by go_num, rfl, by omega, _, _, _, _, _, HTA.out, ⟨HOK.out, HA.out.band, HA.out.rule⟩⟩, by simp [intOf]; omega⟩
    | false =>
     cases hkd : (kd.toList == [100, 114, 111, 112]) with
     | true => as_aux_lemma =>
      have HP := hide (fun W (T : Duo w1 W F P I b v L pf m G Q c u L pf m c0 c1) => drop_any dc (hide T.f) HAB (hide HA.out.ok))
      have hdt := Fl.dropTo_is dc L pf (fun i hi => (HA.out.ok.bk i hi).once) 3 (Nat.le_refl _)
      have hpg := fun (W : World) (hg : MFl W W G Q c u L pf m c0 c1) => mdrop_any dc (hide hg) (hide HA.out.ok.good) HLEN
      rw [hdt] at hpg
      have HPG := hide hpg
      have HLO := hide (Fl.dO_le dc L HLEN.out)
      clear hpg hdt
      go_wp2_with fail
      rw [HWE.out, HDE.out]
      clear k0 k1 k2 k3 k4 k5 k6 k7 k8 k9 k10 k11
      obtain ⟨XT, val, hcl, hmk⟩ := class_all (fun W' => W'.heap[DD]? = some (.cells #[.string kd, .int .u8 ak, .int .i64 ac, .int .i64 asq, .int .i64 ait, .int .i64 asd, .int .i64 apr, .int .i64 aq, .int .i64 aid, .int .i64 dc, .int .i64 dit, .int .u32 dsd] 36 (0, 0)))
      obtain ⟨x0, hx0⟩ := hmk w5.drew HA5.out
      have hnx : Nonempty XT := ⟨x0⟩
      have e9 : ∀ x, (val x).cell? ⟨DD, 9, none⟩ = some (.int .i64 dc) := fun x => cof (hcl x) rfl
      have HMK := hide hmk
      obtain ⟨w6, hw6⟩ : ∃ w6, w5.drew = w6 := ⟨_, rfl⟩
      have hb6 : Below w5.heap.size w5 w6 := by rw [← hw6]; exact ⟨rfl, rfl, rfl, Nat.le_refl _, fun _ _ => rfl⟩
      have HT6 := hide (HT5.out.later hb6)
      have HA6 : Hid (w6.heap[DD]? = some (.cells #[.string kd, .int .u8 ak, .int .i64 ac, .int .i64 asq, .int .i64 ait, .int .i64 asd, .int .i64 apr, .int .i64 aq, .int .i64 aid, .int .i64 dc, .int .i64 dit, .int .u32 dsd] 36 (0, 0))) := rof hb6 HA5.out
      clear hmk hcl hb6
      refine region_many_calls (val := val) [3, 7, 8] [0, 1, 2, 4, 5, 6, 3, 7, 8, 9] (by kernel_rfl) (by kernel_rfl) x0 hx0 ?_
      rw [hx0, hw6]
      clear hx0 hw6
      iterate 6 (refine walkM_read rfl rfl (fun K hK => ?_); refine ⟨by rfl, ?_⟩; unfold isRd; go_simp; refine hK _ ?_; clear hK K)
      refine walkM_call rfl rfl (fun K hK => ?_)
      refine ⟨by rfl, ?_⟩
      unfold upM
      go_simp
      refine (HP.out w6 HT6.out).mono ?_
      rintro e w7 ⟨vo, v2, rfl, hr7, hf7, hs7, hok7⟩
      have HT7 := hide (HT6.out.actF hf7 hs7)
      have HA7 := hide (hs7.other HT6.out.f HA6.out (by decide) (by decide) (by decide) (by decide))
      have HR7 := hide hr7; have HOK := hide hok7
      refine ⟨_, rfl, HMK.out _ HA7.out, hK _ _ ?_⟩
      clear hf7 hs7 HP HA6 hr7 hok7
      clear hK K
      refine walkM_call rfl rfl (fun K hK => ?_)
      refine ⟨by rfl, ?_⟩
      unfold upM
      go_simp
      refine (HPG.out w7 HT7.out.g).mono ?_
      rintro e w8 ⟨vp, u2, rfl, hg8⟩
      have HT8 := hide (HT7.out.actG hg8.fl)
      have HA8 := hide (HT7.out.leftG hg8.fl HA7.out (by decide) (by decide) (by decide) (by decide))
      have HR8 := hide (HT6.out.rowG HT7.out hg8.fl HR7.out)
      have HSL := hide (lots_same vo vp _ w8 (by have := HLO.out; omega) HR8.out hg8.row)
      refine ⟨_, rfl, HMK.out _ HA8.out, hK _ _ ?_⟩
      clear hg8 HPG HT7 HA7 HR7 HR8 HT6
      clear hK K
      refine walkM_call rfl rfl (fun K hK => ?_)
      refine ⟨by rfl, ?_⟩
      unfold upM
      go_simp
      refine HSL.out.mono ?_
      rintro e w9 ⟨rfl, hb9⟩
      have HT9 := hide (HT8.out.later hb9)
      have HA9 : Hid (w9.heap[DD]? = some (.cells #[.string kd, .int .u8 ak, .int .i64 ac, .int .i64 asq, .int .i64 ait, .int .i64 asd, .int .i64 apr, .int .i64 aq, .int .i64 aid, .int .i64 dc, .int .i64 dit, .int .u32 dsd] 36 (0, 0))) := rof hb9 HA8.out
      refine ⟨_, rfl, HMK.out _ HA9.out, hK _ _ ?_⟩
      clear hb9 HSL HT8 HA8
      clear hK K
      refine walkM_read rfl rfl (fun K hK => ?_); refine ⟨by rfl, ?_⟩; unfold isRd; go_simp; refine hK _ ?_; clear hK K
      refine walkM_nil ?_
      clear e9 HMK
      clear x0 hnx
      clear val
      clear XT
      go_wp2
      exact ⟨⟨k + 1, q, by omega, by go_num, rfl, by omega, _, _, _, _, _, HT9.out, ⟨HOK.out, HA.out.band, HA.out.rule⟩⟩, by simp [intOf]; omega⟩
     | false => as_aux_lemma =>
      by_cases hq12 : q + 1 ≤ 12
      ·have hq12' : ¬ (12 : Int) < (q : Int) + 1 := by omega
       cases hwi : Wi.withinB dit 0 2 with
       | false =>
        have HP := hide (fun W (T : Duo w1 W F P I b v L pf m G Q c u L pf m c0 c1) => run_out dit dsd (hide T.f) HAB hwi)
        unfold resV at HP
        have HCO := hide (fun W (hb : Below w1.heap.size w1 W) => p_coded_any ad 1 W (hide (HSB.out W hb)) (by decide))
        rw [show errE (adV ad) 1 = .iface 252 (adV ad 1) from rfl, show p_errNo 1 = 2 from rfl] at HCO
        have hout : dit < 0 ∨ 3 ≤ dit := by
         have h1 := hwi
         simp only [Wi.withinB, Bool.and_eq_false_iff, decide_eq_false_iff_not] at h1
         omega
        go_wp2_with fail
        rw [HWE.out]
        refine (HP.out w5 HT5.out).mono ?_
        rintro e w6 ⟨rfl, hb6⟩
        have HT6 := hide (HT5.out.later hb6)
        have HA6 : Hid (w6.heap[DD]? = some (.cells #[.string kd, .int .u8 ak, .int .i64 ac, .int .i64 asq, .int .i64 ait, .int .i64 asd, .int .i64 apr, .int .i64 aq, .int .i64 aid, .int .i64 dc, .int .i64 dit, .int .u32 dsd] 36 (0, 0))) := rof hb6 HA5.out
        have d1 : w6.cell? ⟨DD, 1, none⟩ = some (.int .u8 ak) := cof HA6.out rfl
        have d2 : w6.cell? ⟨DD, 2, none⟩ = some (.int .i64 ac) := cof HA6.out rfl
        have d3 : w6.cell? ⟨DD, 3, none⟩ = some (.int .i64 asq) := cof HA6.out rfl
        have d4 : w6.cell? ⟨DD, 4, none⟩ = some (.int .i64 ait) := cof HA6.out rfl
        have d5 : w6.cell? ⟨DD, 5, none⟩ = some (.int .i64 asd) := cof HA6.out rfl
        have d6 : w6.cell? ⟨DD, 6, none⟩ = some (.int .i64 apr) := cof HA6.out rfl
        have d7 : w6.cell? ⟨DD, 7, none⟩ = some (.int .i64 aq) := cof HA6.out rfl
        have d8 : w6.cell? ⟨DD, 8, none⟩ = some (.int .i64 aid) := cof HA6.out rfl
        have d9 : w6.cell? ⟨DD, 9, none⟩ = some (.int .i64 dc) := cof HA6.out rfl
        have d10 : w6.cell? ⟨DD, 10, none⟩ = some (.int .i64 dit) := cof HA6.out rfl
        have d11 : w6.cell? ⟨DD, 11, none⟩ = some (.int .u32 dsd) := cof HA6.out rfl
        have hDl : DD < w6.heap.size := lt_of_block HA6.out
        have hDn : ¬ DD = w6.heap.size := by omega
        rw [HDE.out]
        clear hb6 HP HT5 HA5
        clear k0 k1 k2 k3 k4 k5 k6 k7 k8 k9 k10 k11
        obtain ⟨w7, hw7⟩ : ∃ w7, w6.alloc (.cells #[.int .i64 0, .int .i64 0, .bool false, .slice none 0 0] 50) = w7 := ⟨_, rfl⟩
        have hb7 : Below w6.heap.size w6 w7 := by rw [← hw7]; exact bal
        have HX7 : Hid (w7.heap[w6.heap.size]? = some (.cells #[.int .i64 0, .int .i64 0, .bool false, .slice none 0 0] 50 (0, 0))) := by show _ = _; rw [← hw7]; exact heap_alloc_new _ _
        have HT7 := hide (HT6.out.later hb7)
        have HW7 := hide hw7
        clear hb7 hw7
        simp only []
        rcases hout with hout | hout
        all_goals
         (try (have hge : ¬ dit < 0 := by omega))
         go_wp2_with fail
         rw [HW7.out]
         refine (HCO.out w7 HT7.out.f.bl).mono ?_
         rintro e w8 ⟨rfl, hb8⟩
         have HT8 := hide (HT7.out.later hb8)
         have HX8 : Hid (w8.heap[w6.heap.size]? = some (.cells #[.int .i64 0, .int .i64 0, .bool false, .slice none 0 0] 50 (0, 0))) := rof hb8 HX7.out
         have r0 : w8.cell? ⟨w6.heap.size, 0, none⟩ = some (.int .i64 0) := cof HX8.out rfl
         have r3 : w8.cell? ⟨w6.heap.size, 3, none⟩ = some (.slice none 0 0) := cof HX8.out rfl
         clear hb8 HT7 HX7 HCO
         simp only []
         go_wp2
         exact ⟨⟨k + 1, q + 1, by omega, by go_num, by go_num, by omega, _, _, _, _, _, HT8.out, HA.out⟩, by simp [intOf]; omega⟩
       | true =>
        obtain ⟨i, hdi, hi⟩ : ∃ i : Nat, dit = i ∧ i < 3 := by
         have h1 := hwi
         simp only [Wi.withinB, Bool.and_eq_true, decide_eq_true_eq] at h1
         exact ⟨dit.toNat, by omega, by omega⟩
        subst hdi
        have hi0 : ¬ (i : Int) < 0 := by omega
        have hi3 : ¬ (3 : Int) ≤ (i : Int) := by omega
        obtain ⟨p, vol, hw⟩ := won_exists (HA.out.ok.bk i hi).oks (m (i * 2)) 1000
        have HP := hide (fun W (T : Duo w1 W F P I b v L pf m G Q c u L pf m c0 c1) => run_any i hi dsd p vol HU.out T.f HAB.out HA.out hw)
        have HPG := hide (fun (W : World) (hg : MFl W W G Q c u L pf m c0 c1) => mrun_any i hi dsd p vol HU.out hg HA.out hw)
        have HFL : Hid ((Fl.runF dsd (L i) (Fl.runO m i c0 p vol) p vol).length ≤ 1000) := runF_le (HA.out.ok.bk i hi) hw
        generalize Fl.runL L i (Fl.runF dsd (L i) (Fl.runO m i c0 p vol) p vol) = L2 at *
        generalize Fs.sett pf i p (L i) (Fl.runF dsd (L i) (Fl.runO m i c0 p vol) p vol) = pf2 at *
        generalize Fl.runN m i c0 c1 p vol = m2 at *
        generalize Fl.runF dsd (L i) (Fl.runO m i c0 p vol) p vol = FF at *
        generalize Fl.runO m i c0 p vol = ro at *
        clear hw
        unfold resV at HP
        go_wp2_with fail
        rw [HWE.out]
        refine (HP.out w5 HT5.out).mono ?_
        rintro e w6 ⟨vF, v2, rfl, hf6, hs6, hr6, hal⟩
        obtain ⟨fa, fm, fc, hvF⟩ : ∃ x y z, vF = .slice x y z := by
         rcases hr6.fls with ⟨_, x, y, e⟩ | ⟨x, y, e, _⟩
         ·exact ⟨_, _, _, e⟩
         ·exact ⟨_, _, _, e⟩
        subst hvF
        have HT6 := hide (HT5.out.actF hf6 hs6)
        have HA6 := hide (hs6.other HT5.out.f HA5.out (by decide) (by decide) (by decide) (by decide))
        have HR6 := hide hr6; have HAL2 := hide hal
        have d1 : w6.cell? ⟨DD, 1, none⟩ = some (.int .u8 ak) := cof HA6.out rfl
        have d2 : w6.cell? ⟨DD, 2, none⟩ = some (.int .i64 ac) := cof HA6.out rfl
        have d3 : w6.cell? ⟨DD, 3, none⟩ = some (.int .i64 asq) := cof HA6.out rfl
        have d4 : w6.cell? ⟨DD, 4, none⟩ = some (.int .i64 ait) := cof HA6.out rfl
        have d5 : w6.cell? ⟨DD, 5, none⟩ = some (.int .i64 asd) := cof HA6.out rfl
        have d6 : w6.cell? ⟨DD, 6, none⟩ = some (.int .i64 apr) := cof HA6.out rfl
        have d7 : w6.cell? ⟨DD, 7, none⟩ = some (.int .i64 aq) := cof HA6.out rfl
        have d8 : w6.cell? ⟨DD, 8, none⟩ = some (.int .i64 aid) := cof HA6.out rfl
        have d9 : w6.cell? ⟨DD, 9, none⟩ = some (.int .i64 dc) := cof HA6.out rfl
        have d10 : w6.cell? ⟨DD, 10, none⟩ = some (.int .i64 i) := cof HA6.out rfl
        have d11 : w6.cell? ⟨DD, 11, none⟩ = some (.int .u32 dsd) := cof HA6.out rfl
        have hDl : DD < w6.heap.size := lt_of_block HA6.out
        have hDn : ¬ DD = w6.heap.size := by omega
        rw [HDE.out]
        clear hf6 hs6 hr6 hal HP HT5 HA5
        clear k0 k1 k2 k3 k4 k5 k6 k7 k8 k9 k10 k11
        obtain ⟨w7, hw7⟩ : ∃ w7, w6.alloc (.cells #[.int .i64 p, .int .i64 vol, .bool ro, .slice fa fm fc] 50) = w7 := ⟨_, rfl⟩
        have hb7 : Below w6.heap.size w6 w7 := by rw [← hw7]; exact bal
        have HX7 : Hid (w7.heap[w6.heap.size]? = some (.cells #[.int .i64 p, .int .i64 vol, .bool ro, .slice fa fm fc] 50 (0, 0))) := by show _ = _; rw [← hw7]; exact heap_alloc_new _ _
        have HT7 := hide (HT6.out.later hb7)
        have HR7 := hide (HR6.out.later hb7)
        have HW7 := hide hw7
        clear hb7 hw7 HR6
        simp only []
        go_wp2_with fail
        rw [HW7.out]
        refine (HPG.out w7 HT7.out.g).mono ?_
        rintro e w8 ⟨vG, u2, rfl, hg8, hl8⟩
        obtain ⟨ga, gm, gc, hvG⟩ : ∃ x y z, vG = .slice x y z := by
         rcases hl8 with ⟨_, x, y, e⟩ | ⟨x, y, e, _⟩
         ·exact ⟨_, _, _, e⟩
         ·exact ⟨_, _, _, e⟩
        subst hvG
        have HT8 := hide (HT7.out.actG hg8)
        have HX8 := hide (HT7.out.leftG hg8 HX7.out (by decide) (by decide) (by decide) (by decide))
        have HR8 := hide (HR7.out.keep fun g' cur hg' => (HT7.out.leftG hg8 hg' (by decide) (by decide) (by decide) (by decide)).trans hg'.symm)
        have HL8 := hide hl8
        clear hg8 hl8 HPG HT7 HX7 HR7 HT6 HA6 d1 d2 d3 d4 d5 d6 d7 d8 d9 d10 d11 hDl hDn HW7
        generalize w6.heap.size = XX at *
        have r0 : w8.cell? ⟨XX, 0, none⟩ = some (.int .i64 p) := cof HX8.out rfl
        have r1 : w8.cell? ⟨XX, 1, none⟩ = some (.int .i64 vol) := cof HX8.out rfl
        have r2 : w8.cell? ⟨XX, 2, none⟩ = some (.bool ro) := cof HX8.out rfl
        have r3 : w8.cell? ⟨XX, 3, none⟩ = some (.slice fa fm fc) := cof HX8.out rfl
        have hXl : XX < w8.heap.size := lt_of_block HX8.out
        have hXn : ¬ XX = w8.heap.size := by omega
        obtain ⟨w9, hw9⟩ : ∃ w9, w8.alloc (.cells #[.int .i64 p, .int .i64 vol, .bool ro, .slice ga gm gc] 82) = w9 := ⟨_, rfl⟩
        have hb9 : Below w8.heap.size w8 w9 := by rw [← hw9]; exact bal
        have HT9 := hide (HT8.out.later hb9)
        have HSF := hide (sameFills_any _ _ FF w9 (HR8.out.later hb9).fls (HL8.out.later hb9) HFL.out)
        have HW9 := hide hw9
        have n1 : (p != p) = false := by simp
        have n2 : (vol != vol) = false := by simp
        have n3 : (ro != ro) = false := by simp
        clear hb9 hw9 HT8 HR8 HL8
        simp only []
        go_wp2_with fail
        rw [HW9.out]
        refine HSF.out.mono ?_
        rintro e wA ⟨rfl, hbA⟩
        have HTA := hide (HT9.out.later hbA)
        clear hbA HSF HT9
        simp only []
        go_wp2
        exact ⟨⟨k + 1, q + 1, by omega, by go_num, by go_num, by omega, _, _, _, _, _, HTA.out, HAL2.out⟩, by simp [intOf]; omega⟩
      ·have hq12' : (12 : Int) < (q : Int) + 1 := by omega
       have HBE : Hid (Below w.heap.size w (wr.alloc (.cells #[.string kd, .int .u8 ak, .int .i64 ac, .int .i64 asq, .int .i64 ait, .int .i64 asd, .int .i64 apr, .int .i64 aq, .int .i64 aid, .int .i64 dc, .int .i64 dit, .int .u32 dsd] 36))) := by
        have h1 := HT5.out.f.bl
        rw [← HWE.out] at h1
        exact HB1.out.trans (h1.mono HB1.out.size)
       go_wp2
       go_ret
       exact ⟨rfl, HBE.out⟩
  ·have hki : ¬ (k : Int) < n := by omega
   have HAS := hide (asFloor_any (hide HT.out) (hide fun i hi => (HA.out.ok.bk i hi).len))
   go_wp2_with fail
   refine HAS.out.mono ?_
   rintro e w6 ⟨rfl, hb6⟩
   have HB6 := hide (HB1.out.trans ((HT.out.f.bl.trans (hb6.mono HT.out.f.bl.size)).mono HB1.out.size))
   clear hb6 HAS
   simp only []
   go_wp2
   go_ret
   exact ⟨rfl, HB6.out⟩
end Go.Proofs.YtdggddjgipgllaaGreatDoor
