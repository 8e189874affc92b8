/- The document's answer for the one price: PriceOf by its contract. -/
import Derived.Laws.OwnMore
import Derived.Test.YtbkjjknlphlhlaaDoorCards
import Derived.Test.YtbkjjknlphlhlaaDoorTie
import Derived.ProofKit
import Derived.OpenShut
import Derived.LaidMore
import Derived.Stop.LaidErr
import Derived.Stop.LaidTwo
import Derived.Stop.Joined
import Derived.Lib.SmallJoins
import Derived.Test.YtbkjjknlphlhlaaDoorZ08
namespace Go.Proofs.YtbkjjknlphlhlaaDoor
open Go.RowKit
set_option maxRecDepth 100000

theorem sizeR_any (n : Int) (w : World) (h1 : -1000000 ≤ n) (h2 : n ≤ 1000000) : Calls Tryd.prog 19 #[.int .i64 n] w fun e w' => e = .returned (.int .i64 (Cv.size n)) ∧ w' = w := by
  go_enter Tryd.func19, Tryd.ntmps19
  go_wp2
  all_goals go_ret
  all_goals exact ⟨ret_int (by unfold Cv.size; omega), rfl⟩

/-- a row of 1001 numbers, made by the call, behind a slice -/
def Tb (w : World) (B : Nat) (f : Nat → Int) : Prop := w.heap[B]? = some (.cells (row f) 3 (0, 0))
theorem Tb.cell {w : World} {B : Nat} {f : Nat → Int} (h : Tb w B f) {i : Nat} (hi : i < 1001) : w.cell? ⟨B, i, none⟩ = some (.int .i64 (f i)) := by
  rw [cell_of_row w B i _ _ _ h, row_at f hi]
theorem Tb.frozen {w : World} {B : Nat} {f : Nat → Int} (h : Tb w B f) (i : Nat) : w.frozen? ⟨B, i, none⟩ = false := by
  simp [World.frozen?, show w.heap[B]? = _ from h]
theorem Tb.lt {w : World} {B : Nat} {f : Nat → Int} (h : Tb w B f) : B < w.heap.size := (Array.getElem?_eq_some_iff.1 h).1
theorem Tb.set {w : World} {B : Nat} {f : Nat → Int} (h : Tb w B f) (i : Nat) (v : Int) : Tb (w.setCell ⟨B, i, none⟩ (.int .i64 v)) B (fun j => if j = i then v else f j) := by
  unfold Tb at h ⊢
  rw [setCell_eq_setRow w B i _ _ _ _ h, row_set]
  exact setRow_heap w B _ _ _ _ h
theorem Tb.congr {w : World} {B : Nat} {f g : Nat → Int} (h : Tb w B f) (e : ∀ i, i < 1001 → f i = g i) : Tb w B g := by
  unfold Tb at h ⊢; rw [← row_congr e]; exact h
theorem Tb.other {w : World} {B : Nat} {f : Nat → Int} (h : Tb w B f) {a : Addr} (ha : B ≠ a.block) (v : Value) : Tb (w.setCell a v) B f :=
  (Below.heap_setCell w a v B ha).trans h
theorem Tb.alloc {w : World} {B : Nat} {f : Nat → Int} (h : Tb w B f) (o : Obj) : Tb (w.alloc o) B f := (Below.heap_alloc w o B h.lt).trans h
theorem Tb.new (w : World) : Tb (w.alloc (.cells (Array.replicate 1001 (.int .i64 0)) 3)) w.heap.size (fun _ => 0) := by
  unfold Tb; rw [row_zero]; exact heap_alloc_last w _

/-- what such a row holds while it is being filled: from 1 up to q the function's numbers -/
def tabF (g : Int → Int) (q i : Nat) : Int := if 0 < i ∧ i < q then g i else 0
theorem tabF_one (g : Int → Int) (i : Nat) : (0 : Int) = tabF g 1 i := by unfold tabF; rw [if_neg (by omega)]
theorem tabF_step (g : Int → Int) {q : Nat} (hq : 1 ≤ q) (i : Nat) : (if i = q then g q else tabF g q i) = tabF g (q + 1) i := by
  unfold tabF
  by_cases e : i = q
  · subst e; rw [if_pos rfl, if_pos (by omega)]
  · rw [if_neg e]
    by_cases h : 0 < i ∧ i < q
    · rw [if_pos h, if_pos (by omega)]
    · rw [if_neg h, if_neg (by omega)]
theorem tabF_at (g : Int → Int) {q : Nat} (h1 : 1 ≤ q) (h2 : q ≤ 1000) : tabF g 1001 q = g q := by unfold tabF; rw [if_pos (by omega)]

theorem make1001 (w : World) : (Instr.makeSlice 25 (.int .i64 1001) (.int .i64 1001)).run Tryd.prog w = .ok (.slice (some ⟨w.heap.size, 0, none⟩) 1001 1001) (w.alloc (.cells (row fun _ => 0) 3)) := by
  obtain ⟨i, hi, hz, hs, hb⟩ : ∃ i, Tryd.prog.info? 3 = some i ∧ i.zero = some (.int .i64 0) ∧ i.size = 1 ∧ i.bytes = 8 := ⟨_, rfl, rfl, rfl, rfl⟩
  have h := run_makeSlice (P := Tryd.prog) w 25 3 i (.int .i64 0) Tryd.underlying25 hi hz .i64 .i64 1001 1001 (by omega) (by omega) (by rw [hs]; decide) (by rw [hb]; omega) (by omega)
  rw [hs] at h
  have e : madeCells (Value.int .i64 0).cells ((1001 : Int).toNat * 1) = row fun _ => 0 := by
    rw [row_zero]
    apply Array.ext'
    rw [show (Value.int .i64 0).cells = #[.int .i64 0] from rfl, toList_madeCells_one]
    simp
  rw [e] at h
  exact h
theorem Tb.new' (w : World) (f : Nat → Int) : Tb (w.alloc (.cells (row f) 3)) w.heap.size f := heap_alloc_last w _

set_option maxHeartbeats 2000000 in
theorem priceOf_some (a : Option Addr) (n cap : Nat) (l : List Cv.Lot) (ref : Int) (w : World) (hok : Hid (Cv.Well l)) (hr1 : 1 ≤ ref) (hr2 : ref ≤ 1000)
    (HD : Hid (∀ W (p : Int), Below w.heap.size w W → Calls Tryd.prog 17 #[.slice a n cap, .int .i64 p] W fun e w' => e = .returned (.int .i64 (Cv.demand l p)) ∧ w' = W))
    (HSu : Hid (∀ W (p : Int), Below w.heap.size w W → Calls Tryd.prog 18 #[.slice a n cap, .int .i64 p] W fun e w' => e = .returned (.int .i64 (Cv.supply l p)) ∧ w' = W)) :
    Calls Tryd.prog 8 #[.slice a n cap, .int .i64 ref] w fun e w' => (∃ p vol, e = .returned (.tuple #[.int .i64 p, .int .i64 vol]) ∧ Cv.Won l ref 1000 p vol) ∧ Below w.heap.size w w' := by
  have hmk := make1001
  go_enter Tryd.func8, Tryd.ntmps8
  go_wp2_with fail
  have TV : Hid (Tb ((w.alloc (.cells (row fun _ => 0) 3)).alloc (.cells (row fun _ => 0) 3)) w.heap.size (tabF (Cv.volume l) 1)) := ((Tb.new' w _).alloc _).congr fun i _ => tabF_one _ i
  have TS : Hid (Tb ((w.alloc (.cells (row fun _ => 0) 3)).alloc (.cells (row fun _ => 0) 3)) (w.heap.size + 1) (tabF (Cv.left l) 1)) := by
    have := Tb.new' (w.alloc (.cells (row fun _ => 0) 3)) (fun _ => 0)
    rw [show (w.alloc (.cells (row fun _ => 0) 3)).heap.size = w.heap.size + 1 by simp] at this
    exact this.congr fun i _ => tabF_one _ i
  have HB0 : Hid (Below w.heap.size w ((w.alloc (.cells (row fun _ => 0) 3)).alloc (.cells (row fun _ => 0) 3))) := ((Below.refl _ _).alloc (Nat.le_refl _) _).alloc (by simp) _
  clear hmk
  generalize (w.alloc (.cells (row fun _ => 0) 3)).alloc (.cells (row fun _ => 0) 3) = w0 at *
  go_loopw [8, 9, 10, 11] (fun mo i _ _ wr => ∃ (q : Nat) (m : Int), (1 ≤ q ∧ q ≤ 1001) ∧ i = .int .i64 q ∧ mo = .int .i64 m ∧ Cv.Most l ((q : Int) - 1) m ∧ Tb wr w.heap.size (tabF (Cv.volume l) q) ∧ Tb wr (w.heap.size + 1) (tabF (Cv.left l) q) ∧ Below w.heap.size w wr) (fun _ i _ _ _ => 1001 - (intOf i).toNat)
  case atStart => exact ⟨1, 0, by omega, rfl, rfl, Cv.Most.start l, TV.out, TS.out, HB0.out⟩
  case round =>
    obtain ⟨q, m, hq, rfl, rfl, hmost, ht1, ht2, hb⟩ := hrel
    obtain ⟨hq1, hq2⟩ := hq
    have HM := hide hmost; have HT1 := hide ht1; have HT2 := hide ht2; have HB := hide hb
    clear hmost ht1 ht2 hb TV TS HB0
    by_cases hlt : q ≤ 1000
    · have hki : (q : Int) ≤ 1000 := by omega
      have hqi : (q : Int) < 1001 := by omega
      have hqn : q < 1001 := by omega
      have AD := hide (HD.out wr q HB.out)
      have AS := hide (HSu.out wr q HB.out)
      have b1 : 0 ≤ Cv.demand l q ∧ Cv.demand l q ≤ 120000 := Cv.demand_range l q hok.out
      have b2 : 0 ≤ Cv.supply l q ∧ Cv.supply l q ≤ 120000 := Cv.supply_range l q hok.out
      have HV : Hid (Cv.volume l q = min (Cv.demand l q) (Cv.supply l q)) := rfl
      have HL : Hid (Cv.left l q = Cv.size (Cv.demand l q - Cv.supply l q)) := rfl
      generalize Cv.demand l q = dm at *
      generalize Cv.supply l q = sp at *
      obtain ⟨b11, b12⟩ := b1
      obtain ⟨b21, b22⟩ := b2
      have d1 := HT1.out.cell hqn
      have d1' := HT1.out.frozen q
      go_wp2_with fail
      refine AD.out.mono ?_
      rintro e wr ⟨rfl, rfl⟩
      simp only []
      go_wp2_with fail
      refine AS.out.mono ?_
      rintro e wr ⟨rfl, rfl⟩
      simp only []
      have d2 := HT2.out.cell hqn
      have d2' := HT2.out.frozen q
      clear AD AS
      have HF1 := hide (fun i => tabF_step (Cv.volume l) hq1 i)
      have HF2 := hide (fun i => tabF_step (Cv.left l) hq1 i)
      rw [HV.out] at HF1
      rw [HL.out] at HF2
      have hMt : m < min dm sp → Cv.Most l (((q + 1 : Nat) : Int) - 1) (min dm sp) := fun h => by
        have := HM.out.take (by omega) (by rw [show (q : Int) - 1 + 1 = q by omega, HV.out]; exact h)
        rw [show (q : Int) - 1 + 1 = q by omega, HV.out] at this
        rw [show ((q + 1 : Nat) : Int) - 1 = q by omega]
        exact this
      have hMk : ¬ m < min dm sp → Cv.Most l (((q + 1 : Nat) : Int) - 1) m := fun h => by
        have := HM.out.keep (by rw [show (q : Int) - 1 + 1 = q by omega, HV.out]; exact h)
        rw [show (q : Int) - 1 + 1 = q by omega] at this
        rw [show ((q + 1 : Nat) : Int) - 1 = q by omega]
        exact this
      have HMt := hide hMt; have HMk := hide hMk
      clear hMt hMk HM HV HL
      by_cases hsd : sp < dm
      · have hmin : min dm sp = sp := by omega
        rw [hmin] at HMt HMk HF1
        clear hmin
        by_cases hm : m < sp
        · go_wp2_with (go_at_call 19; refine (sizeR_any _ _ (by omega) (by omega)).mono ?_; rintro e w' ⟨rfl, rfl⟩)
          have E1 : Hid (Tb (((wr.setCell ⟨w.heap.size, q, none⟩ (.int .i64 dm)).setCell ⟨w.heap.size, q, none⟩ (.int .i64 sp)).setCell ⟨w.heap.size + 1, q, none⟩ (.int .i64 (Cv.size (dm - sp)))) w.heap.size (tabF (Cv.volume l) (q + 1))) := (((HT1.out.set q dm).set q sp).other (by simp) _).congr fun i _ => by
            rw [← HF1.out i]
            by_cases e : i = q <;> simp [e]
          have E2 : Hid (Tb (((wr.setCell ⟨w.heap.size, q, none⟩ (.int .i64 dm)).setCell ⟨w.heap.size, q, none⟩ (.int .i64 sp)).setCell ⟨w.heap.size + 1, q, none⟩ (.int .i64 (Cv.size (dm - sp)))) (w.heap.size + 1) (tabF (Cv.left l) (q + 1))) := (((HT2.out.other (by simp) _).other (by simp) _).set q _).congr fun i _ => HF2.out i
          exact ⟨⟨q + 1, sp, by omega, by go_num, rfl, HMt.out hm, E1.out, E2.out, ((HB.out.setCell (by simp) _).setCell (by simp) _).setCell (by simp) _⟩, by simp [intOf]; omega⟩
        · go_wp2_with (go_at_call 19; refine (sizeR_any _ _ (by omega) (by omega)).mono ?_; rintro e w' ⟨rfl, rfl⟩)
          have E1 : Hid (Tb (((wr.setCell ⟨w.heap.size, q, none⟩ (.int .i64 dm)).setCell ⟨w.heap.size, q, none⟩ (.int .i64 sp)).setCell ⟨w.heap.size + 1, q, none⟩ (.int .i64 (Cv.size (dm - sp)))) w.heap.size (tabF (Cv.volume l) (q + 1))) := (((HT1.out.set q dm).set q sp).other (by simp) _).congr fun i _ => by
            rw [← HF1.out i]
            by_cases e : i = q <;> simp [e]
          have E2 : Hid (Tb (((wr.setCell ⟨w.heap.size, q, none⟩ (.int .i64 dm)).setCell ⟨w.heap.size, q, none⟩ (.int .i64 sp)).setCell ⟨w.heap.size + 1, q, none⟩ (.int .i64 (Cv.size (dm - sp)))) (w.heap.size + 1) (tabF (Cv.left l) (q + 1))) := (((HT2.out.other (by simp) _).other (by simp) _).set q _).congr fun i _ => HF2.out i
          exact ⟨⟨q + 1, m, by omega, by go_num, rfl, HMk.out hm, E1.out, E2.out, ((HB.out.setCell (by simp) _).setCell (by simp) _).setCell (by simp) _⟩, by simp [intOf]; omega⟩
      · have hmin : min dm sp = dm := by omega
        rw [hmin] at HMt HMk HF1
        clear hmin
        have E1 : Hid (Tb ((wr.setCell ⟨w.heap.size, q, none⟩ (.int .i64 dm)).setCell ⟨w.heap.size + 1, q, none⟩ (.int .i64 (Cv.size (dm - sp)))) w.heap.size (tabF (Cv.volume l) (q + 1))) := ((HT1.out.set q dm).other (by simp) _).congr fun i _ => HF1.out i
        have E2 : Hid (Tb ((wr.setCell ⟨w.heap.size, q, none⟩ (.int .i64 dm)).setCell ⟨w.heap.size + 1, q, none⟩ (.int .i64 (Cv.size (dm - sp)))) (w.heap.size + 1) (tabF (Cv.left l) (q + 1))) := ((HT2.out.other (by simp) _).set q _).congr fun i _ => HF2.out i
        by_cases hm : m < dm
        · go_wp2_with (go_at_call 19; refine (sizeR_any _ _ (by omega) (by omega)).mono ?_; rintro e w' ⟨rfl, rfl⟩)
          exact ⟨⟨q + 1, dm, by omega, by go_num, rfl, HMt.out hm, E1.out, E2.out, (HB.out.setCell (by simp) _).setCell (by simp) _⟩, by simp [intOf]; omega⟩
        · go_wp2_with (go_at_call 19; refine (sizeR_any _ _ (by omega) (by omega)).mono ?_; rintro e w' ⟨rfl, rfl⟩)
          exact ⟨⟨q + 1, m, by omega, by go_num, rfl, HMk.out hm, E1.out, E2.out, (HB.out.setCell (by simp) _).setCell (by simp) _⟩, by simp [intOf]; omega⟩
    · have hki : ¬ (q : Int) ≤ 1000 := by omega
      obtain rfl : q = 1001 := by omega
      have hmost := HM.out
      rw [show ((1001 : Nat) : Int) - 1 = 1000 by omega] at hmost
      by_cases hm0 : m = 0
      · subst hm0
        have HMo := hide hmost
        clear hmost
        go_wp2
        go_ret2
        exact ⟨⟨0, 0, rfl, Cv.won_none hok.out.oks HMo.out⟩, HB.out⟩
      · have HMo := hide hmost
        have Hm0 := hide hm0
        clear hmost
        have HC1 : Hid (∀ i : Nat, 1 ≤ i → i ≤ 1000 → wr.cell? ⟨w.heap.size, i, none⟩ = some (.int .i64 (Cv.volume l i))) := fun i h1 h2 => by
          have := HT1.out.cell (i := i) (by omega)
          rwa [tabF_at _ h1 h2] at this
        have HC2 : Hid (∀ i : Nat, 1 ≤ i → i ≤ 1000 → wr.cell? ⟨w.heap.size + 1, i, none⟩ = some (.int .i64 (Cv.left l i))) := fun i h1 h2 => by
          have := HT2.out.cell (i := i) (by omega)
          rwa [tabF_at _ h1 h2] at this
        clear HT1 HT2 HM hki hlt
        go_wp2_with fail
        go_loop [12, 13] (fun le i => ∃ (q : Nat) (s : Int), (1 ≤ q ∧ q ≤ 1001) ∧ i = .int .i64 q ∧ le = .int .i64 s ∧ Cv.Least l m ((q : Int) - 1) s) (fun _ i => 1001 - (intOf i).toNat)
        case atStart => exact ⟨1, -1, by omega, rfl, rfl, Cv.Least.start l m⟩
        case round =>
          obtain ⟨q, sl, hq, rfl, rfl, hls⟩ := hrel
          obtain ⟨hq1, hq2⟩ := hq
          have HLs := hide hls
          clear hls
          by_cases hlt : q ≤ 1000
          · have hki : (q : Int) ≤ 1000 := by omega
            have hqi : (q : Int) < 1001 := by omega
            have d1 := HC1.out q hq1 hlt
            have d2 := HC2.out q hq1 hlt
            have hLt : Cv.volume l q = m → (sl < 0 ∨ Cv.left l q < sl) → Cv.Least l m (((q + 1 : Nat) : Int) - 1) (Cv.left l q) := fun h1 h2 => by
              have := HLs.out.take (by omega) (by rw [show (q : Int) - 1 + 1 = q by omega]; exact h1) (by rw [show (q : Int) - 1 + 1 = q by omega]; exact h2)
              rw [show (q : Int) - 1 + 1 = q by omega] at this
              rw [show ((q + 1 : Nat) : Int) - 1 = q by omega]
              exact this
            have hLk : ¬ (Cv.volume l q = m ∧ (sl < 0 ∨ Cv.left l q < sl)) → Cv.Least l m (((q + 1 : Nat) : Int) - 1) sl := fun h => by
              have := HLs.out.keep (by rw [show (q : Int) - 1 + 1 = q by omega]; exact h)
              rw [show (q : Int) - 1 + 1 = q by omega] at this
              rw [show ((q + 1 : Nat) : Int) - 1 = q by omega]
              exact this
            have HLt := hide hLt; have HLk := hide hLk
            clear hLt hLk HLs
            generalize Cv.volume l q = vq at *
            generalize Cv.left l q = lq at *
            by_cases hv : vq = m
            · have hvb : (vq == m) = true := by simpa using hv
              have Hv := hide hv
              clear hv
              by_cases h0 : sl < 0
              · go_wp2
                exact ⟨⟨q + 1, lq, by omega, by go_num, rfl, HLt.out Hv.out (.inl h0)⟩, by simp [intOf]; omega⟩
              · by_cases h3 : lq < sl
                · go_wp2
                  exact ⟨⟨q + 1, lq, by omega, by go_num, rfl, HLt.out Hv.out (.inr h3)⟩, by simp [intOf]; omega⟩
                · go_wp2
                  exact ⟨⟨q + 1, sl, by omega, by go_num, rfl, HLk.out (fun h => by omega)⟩, by simp [intOf]; omega⟩
            · have hvb : (vq == m) = false := by simpa using hv
              have Hv := hide hv
              clear hv
              go_wp2
              exact ⟨⟨q + 1, sl, by omega, by go_num, rfl, HLk.out (fun h => Hv.out h.1)⟩, by simp [intOf]; omega⟩
          · have hki : ¬ (q : Int) ≤ 1000 := by omega
            obtain rfl : q = 1001 := by omega
            have hls := HLs.out
            rw [show ((1001 : Nat) : Int) - 1 = 1000 by omega] at hls
            have HL0 := hide hls
            clear hls HLs hlt
            go_wp2_with fail
            go_loop [14, 15] (fun be i => ∃ (q : Nat) (b : Int), q ≤ 1000 ∧ i = .int .i64 q ∧ be = .int .i64 b ∧ Cv.Near l m sl ref q b) (fun _ i => (intOf i).toNat)
            case atStart => exact ⟨1000, 0, by omega, rfl, rfl, Cv.Near.start l m sl ref⟩
            case round =>
              obtain ⟨q, b, hq, rfl, rfl, hnr⟩ := hrel
              have HN := hide hnr
              clear hnr
              by_cases hlt : 1 ≤ q
              · have hkj : (1 : Int) ≤ (q : Int) := by omega
                have hqi : (q : Int) < 1001 := by omega
                have d1 := HC1.out q hlt hq
                have d2 := HC2.out q hlt hq
                have hb := HN.out.range (by omega)
                obtain ⟨hb1, hb2⟩ := hb
                have hnx : ((q - 1 : Nat) : Int) = (q : Int) - 1 := by omega
                have HP : Hid (¬ (Cv.volume l q = m ∧ Cv.left l q = sl) → Cv.Near l m sl ref ((q - 1 : Nat) : Int) b) := fun h => by rw [hnx]; exact HN.out.pass h
                have HT : Hid (Cv.volume l q = m → Cv.left l q = sl → (b = 0 ∨ Cv.size ((q : Int) - ref) ≤ Cv.size (b - ref)) → Cv.Near l m sl ref ((q - 1 : Nat) : Int) q) := fun h1 h2 h3 => by rw [hnx]; exact HN.out.take (by omega) (by omega) h1 h2 h3
                have HK : Hid (¬ (b = 0 ∨ Cv.size ((q : Int) - ref) ≤ Cv.size (b - ref)) → Cv.Near l m sl ref ((q - 1 : Nat) : Int) b) := fun h => by rw [hnx]; exact HN.out.keep h
                clear HN hnx
                generalize Cv.volume l q = vq at *
                generalize Cv.left l q = lq at *
                by_cases hv : vq = m
                · have hvb : (vq == m) = true := by simpa using hv
                  have hvb' : (vq != m) = false := by simpa using hv
                  have Hv := hide hv
                  clear hv
                  by_cases hs : lq = sl
                  · have hsb : (lq == sl) = true := by simpa using hs
                    have hsb' : (lq != sl) = false := by simpa using hs
                    have Hs := hide hs
                    clear hs
                    by_cases h0 : b = 0
                    · have h0b : (b == 0) = true := by simpa using h0
                      have H0 := hide h0
                      clear h0
                      go_wp2
                      exact ⟨⟨q - 1, q, by omega, by go_num, rfl, HT.out Hv.out Hs.out (.inl H0.out)⟩, by simp [intOf]; omega⟩
                    · have h0b : (b == 0) = false := by simpa using h0
                      have H0 := hide h0
                      by_cases h3 : Cv.size ((q : Int) - ref) ≤ Cv.size (b - ref)
                      · have H3 := hide h3
                        go_wp2_with (go_at_call 19; refine (sizeR_any _ _ (by omega) (by omega)).mono ?_; rintro e w' ⟨rfl, rfl⟩)
                        exact ⟨⟨q - 1, q, by omega, by go_num, rfl, HT.out Hv.out Hs.out (.inr H3.out)⟩, by simp [intOf]; omega⟩
                      · have H3 := hide h3
                        go_wp2_with (go_at_call 19; refine (sizeR_any _ _ (by omega) (by omega)).mono ?_; rintro e w' ⟨rfl, rfl⟩)
                        exact ⟨⟨q - 1, b, by omega, by go_num, rfl, HK.out (fun h => by have h3 := H3.out; have h4 := H0.out; omega)⟩, by simp [intOf]; omega⟩
                  · have hsb : (lq == sl) = false := by simpa using hs
                    have hsb' : (lq != sl) = true := by simpa using hs
                    have Hs := hide hs
                    clear hs
                    go_wp2
                    exact ⟨⟨q - 1, b, by omega, by go_num, rfl, HP.out (fun h => Hs.out h.2)⟩, by simp [intOf]; omega⟩
                · have hvb : (vq == m) = false := by simpa using hv
                  have hvb' : (vq != m) = true := by simpa using hv
                  have Hv := hide hv
                  clear hv
                  go_wp2
                  exact ⟨⟨q - 1, b, by omega, by go_num, rfl, HP.out (fun h => Hv.out h.1)⟩, by simp [intOf]; omega⟩
              · have hkj : ¬ (1 : Int) ≤ (q : Int) := by omega
                obtain rfl : q = 0 := by omega
                go_wp2
                go_ret2
                exact ⟨⟨b, m, rfl, Cv.won_rounds HMo.out Hm0.out HL0.out HN.out⟩, HB.out⟩

/-- the document's one price, of lots that came in -/
theorem priceOf_any (v : Value) (l : List Cv.Lot) (ref : Int) (w : World) (hv : Came w v l) (hok : Cv.Well l) (hr1 : 1 ≤ ref) (hr2 : ref ≤ 1000) :
    Calls Tryd.prog 8 #[v, .int .i64 ref] w fun e w' => (∃ p vol, e = .returned (.tuple #[.int .i64 p, .int .i64 vol]) ∧ Cv.Won l ref 1000 p vol) ∧ Below w.heap.size w w' := by
  obtain ⟨a, n, cap, rfl⟩ := hv.form
  exact priceOf_some a n cap l ref w hok hr1 hr2 (fun W p hb => demandOf_any _ l p W (hv.later hb) hok) (fun W p hb => supplyOf_any _ l p W (hv.later hb) hok)
end Go.Proofs.YtbkjjknlphlhlaaDoor
namespace Go.Proofs.YtbkjjknlphlhlaaDoor
open Go.ChangeShapes Go.WideShapes Go.ChangeAt Go.RowKit

theorem own : ownKnob Tryd.prog.godebug = none := by kernel_rfl
theorem laidOut : laidOutB Tryd.prog = true := by kernel_rfl
theorem errStar : "*" ++ "errors.errorString" = "*errors.errorString" := by decide
theorem errRow (u : TypeId) (h : Tryd.prog.typeName? 3 u = some "*errors.errorString") : u = 145 :=
  typeName_ptr_named (nm := "errors.errorString") (by rw [errStar]; kernel_rfl) (by kernel_rfl) (by decide) u (by rw [errStar]; exact h)
theorem cells69 : Tryd.prog.cellsOf 166 = 1 := by kernel_rfl
theorem cells9 : Tryd.prog.cellsOf 9 = 1 := by kernel_rfl
theorem cells5 : Tryd.prog.cellsOf 5 = 1 := by kernel_rfl
theorem cells3 : Tryd.prog.cellsOf 3 = 1 := by kernel_rfl

theorem one_sentinel {n : String} {text : List UInt8} {r : List (String × DataW Unit)} {W : World} {g : Nat}
    (h : laidMet Tryd.prog ((n, .iface "*errors.errorString" (.ptr (.agg [.lit (.string text)]))) :: r) W)
    (hg : Tryd.prog.globalNamed n = some g) (ht : (Tryd.prog.globals[g]?).map (·.type) = some 27) :
    ∃ (a : Addr) (s : ByteArray), W.cell? ⟨g, 0, none⟩ = some (.iface 145 (.pointer (some a))) ∧ W.cell? a = some (.string s) ∧ s.data.toList = text := by
  obtain ⟨a, s, hv, hc, hs, _⟩ := laid_sentinel h hg ht Tryd.underlying27 errRow Tryd.underlying145 Tryd.underlying166 rfl rfl Tryd.underlying9 cells69 cells9
  exact ⟨a, s, by simpa using World.var?_cell hg hv 0, hc, hs⟩

end Go.Proofs.YtbkjjknlphlhlaaDoor
namespace Go.Proofs.YtbkjjknlphlhlaaDoor
open Go.ChangeShapes Go.WideShapes Go.ChangeAt Go.RowKit
set_option maxRecDepth 100000

theorem sentinel_row {n : String} {text : List UInt8} {r : List (String × DataW Unit)} {W : World} {g : Nat}
    (h : laidMet Tryd.prog ((n, .iface "*errors.errorString" (.ptr (.agg [.lit (.string text)]))) :: r) W)
    (hg : Tryd.prog.globalNamed n = some g) (ht : (Tryd.prog.globals[g]?).map (·.type) = some 27) :
    ∃ (a : Addr) (s : ByteArray), W.cell? ⟨g, 0, none⟩ = some (.iface 145 (.pointer (some a))) ∧ W.cell? a = some (.string s) ∧ s.data.toList = text ∧ ∃ c t, W.heap[a.block]? = some (.cells c t (0, 0)) := by
  obtain ⟨ps, ⟨g0, t0, cs0, f0, p0, q0, hg0, ht0, hv0, hd0, _, e0⟩, _, hrows⟩ := h
  obtain rfl := Option.some.inj (hg.symm.trans hg0)
  obtain rfl := Option.some.inj (ht.symm.trans ht0)
  subst e0
  obtain ⟨l0⟩ := cs0
  have ok0 : ∀ u v, l0 = [.iface u v] → Value.okWide Tryd.prog W .any 0 u v := fun u v e => by
    subst e
    exact (hrows g 0 (by simp [MemPlace.row])).2 u v (by simpa using World.var?_cell hg0 hv0 0)
  obtain ⟨a0, s0, rfl, hc0, hs0, _, rfl⟩ := errorString_of_trod Tryd.underlying27 errRow Tryd.underlying145 Tryd.underlying166 rfl rfl Tryd.underlying9 cells69 cells9 hd0 ok0
  obtain ⟨c0, t0, hb0⟩ := (hrows a0.block a0.off (by simp [MemPlace.row])).1
  exact ⟨a0, s0, by simpa using World.var?_cell hg0 hv0 0, hc0, hs0, c0, t0, hb0⟩

theorem etName : Tryd.prog.globalNamed "errors.errorType" = some 12 := by kernel_rfl
theorem etRtype : (Tryd.prog.cutTypes.find? (·.1 == "internal/reflectlite.rtype")).map (·.2) = some 124 := by kernel_rfl
theorem etRow : ((List.range 178).filter fun t => Tryd.prog.rowNamed t [101, 114, 114, 111, 114]) = [27] := by kernel_rfl
theorem etSize : Tryd.prog.types.size = 178 := by kernel_rfl

theorem handle_of {W : World} (h : handlesMet Tryd.prog [("errors.errorType", Rows.laid_errors_errorType)] W) : W.cell? ⟨12, 0, none⟩ = some (.iface 124 (.agg #[.pointer (some ⟨13, 27, none⟩)])) := by
  obtain ⟨name, u, ty, e1, e2, e3, e4, e5⟩ := h _ (List.mem_singleton.2 rfl)
  have en : name = [101, 114, 114, 111, 114] := (Option.some.inj e1).symm
  subst en
  obtain rfl := Option.some.inj (etRtype.symm.trans e2)
  have hm : ty ∈ (List.range 178).filter fun t => Tryd.prog.rowNamed t [101, 114, 114, 111, 114] := List.mem_filter.2 ⟨List.mem_range.2 (by rw [← etSize]; exact e3), e4⟩
  rw [etRow] at hm
  obtain rfl := List.mem_singleton.1 hm
  have hh : typeHandle Tryd.prog 27 = .pointer (some ⟨13, 27, none⟩) := by kernel_rfl
  rw [hh] at e5
  simpa using World.var?_cell etName e5 0

def errList : List (String × DataW Unit) := [("gavelhouse/api.ErrText", Rows.laid_gavelhouse_api_ErrText), ("gavelhouse/api.ErrBound", Rows.laid_gavelhouse_api_ErrBound), ("gavelhouse/api.ErrShape", Rows.laid_gavelhouse_api_ErrShape), ("gavelhouse/api.ErrKind", Rows.laid_gavelhouse_api_ErrKind), ("gavelhouse/api.ErrSum", Rows.laid_gavelhouse_api_ErrSum), ("gavelhouse/api.ErrNone", Rows.laid_gavelhouse_api_ErrNone), ("gavelhouse/api.ErrExist", Rows.laid_gavelhouse_api_ErrExist), ("gavelhouse/api.ErrFull", Rows.laid_gavelhouse_api_ErrFull), ("gavelhouse/api.ErrOff", Rows.laid_gavelhouse_api_ErrOff), ("gavelhouse/api.ErrPoor", Rows.laid_gavelhouse_api_ErrPoor), ("gavelhouse/api.ErrState", Rows.laid_gavelhouse_api_ErrState), ("gavelhouse/api.ErrOrder", Rows.laid_gavelhouse_api_ErrOrder)]

/-- the texts of the errors, in their order -/
def errText : Nat → List UInt8
  | 0 => [103, 97, 118, 101, 108, 104, 111, 117, 115, 101, 58, 32, 116, 101, 120, 116]
  | 1 => [103, 97, 118, 101, 108, 104, 111, 117, 115, 101, 58, 32, 98, 111, 117, 110, 100]
  | 2 => [103, 97, 118, 101, 108, 104, 111, 117, 115, 101, 58, 32, 115, 104, 97, 112, 101]
  | 3 => [103, 97, 118, 101, 108, 104, 111, 117, 115, 101, 58, 32, 107, 105, 110, 100]
  | 4 => [103, 97, 118, 101, 108, 104, 111, 117, 115, 101, 58, 32, 115, 117, 109]
  | 5 => [103, 97, 118, 101, 108, 104, 111, 117, 115, 101, 58, 32, 110, 111, 110, 101]
  | 6 => [103, 97, 118, 101, 108, 104, 111, 117, 115, 101, 58, 32, 101, 120, 105, 115, 116]
  | 7 => [103, 97, 118, 101, 108, 104, 111, 117, 115, 101, 58, 32, 102, 117, 108, 108]
  | 8 => [103, 97, 118, 101, 108, 104, 111, 117, 115, 101, 58, 32, 111, 102, 102]
  | 9 => [103, 97, 118, 101, 108, 104, 111, 117, 115, 101, 58, 32, 112, 111, 111, 114]
  | 10 => [103, 97, 118, 101, 108, 104, 111, 117, 115, 101, 58, 32, 115, 116, 97, 116, 101]
  | 11 => [103, 97, 118, 101, 108, 104, 111, 117, 115, 101, 58, 32, 111, 114, 100, 101, 114]
  | _ => []
theorem errText_ne : ∀ g, g < 12 → ∀ h, h < 12 → errText g = errText h → g = h := by decide

/-- the places that the twelve errors lie at -/
def adOf (W : World) (g : Nat) : Addr :=
  match W.cell? ⟨glob g, 0, none⟩ with
  | some (.iface _ (.pointer (some a))) => a
  | _ => ⟨0, 0, none⟩

theorem sent_of {W : World} (h : laidMet Tryd.prog errList W) (hh : handlesMet Tryd.prog [("errors.errorType", Rows.laid_errors_errorType)] W) : Sent W (adOf W) := by
  have key : ∀ g, g < 12 → ∃ (a : Addr) (s : ByteArray), W.cell? ⟨glob g, 0, none⟩ = some (.iface 145 (.pointer (some a))) ∧ W.cell? a = some (.string s) ∧ s.data.toList = errText g ∧ ∃ c t, W.heap[a.block]? = some (.cells c t (0, 0)) := by
    intro g hg
    match g, hg with
    | 0, _ => exact sentinel_row h (g := 2) (by kernel_rfl) (by kernel_rfl)
    | 1, _ => exact sentinel_row h.tail (g := 1) (by kernel_rfl) (by kernel_rfl)
    | 2, _ => exact sentinel_row h.tail.tail (g := 0) (by kernel_rfl) (by kernel_rfl)
    | 3, _ => exact sentinel_row h.tail.tail.tail (g := 3) (by kernel_rfl) (by kernel_rfl)
    | 4, _ => exact sentinel_row h.tail.tail.tail.tail (g := 4) (by kernel_rfl) (by kernel_rfl)
    | 5, _ => exact sentinel_row h.tail.tail.tail.tail.tail (g := 5) (by kernel_rfl) (by kernel_rfl)
    | 6, _ => exact sentinel_row h.tail.tail.tail.tail.tail.tail (g := 6) (by kernel_rfl) (by kernel_rfl)
    | 7, _ => exact sentinel_row h.tail.tail.tail.tail.tail.tail.tail (g := 7) (by kernel_rfl) (by kernel_rfl)
    | 8, _ => exact sentinel_row h.tail.tail.tail.tail.tail.tail.tail.tail (g := 8) (by kernel_rfl) (by kernel_rfl)
    | 9, _ => exact sentinel_row h.tail.tail.tail.tail.tail.tail.tail.tail.tail (g := 9) (by kernel_rfl) (by kernel_rfl)
    | 10, _ => exact sentinel_row h.tail.tail.tail.tail.tail.tail.tail.tail.tail.tail (g := 10) (by kernel_rfl) (by kernel_rfl)
    | 11, _ => exact sentinel_row h.tail.tail.tail.tail.tail.tail.tail.tail.tail.tail.tail (g := 11) (by kernel_rfl) (by kernel_rfl)
  have at_ : ∀ g, g < 12 → W.cell? ⟨glob g, 0, none⟩ = some (.iface 145 (.pointer (some (adOf W g)))) := by
    intro g hg
    obtain ⟨a, s, h1, _⟩ := key g hg
    have : adOf W g = a := by unfold adOf; rw [h1]
    rw [this]; exact h1
  refine ⟨at_, handle_of hh, fun g hg => ?_, fun g k hg hk hne e => ?_⟩
  · obtain ⟨a, s, h1, _, _, h4⟩ := key g hg
    have : adOf W g = a := by unfold adOf; rw [h1]
    rw [this]; exact h4
  · obtain ⟨a, s, h1, h2, h3, _⟩ := key g hg
    obtain ⟨b, s', k1, k2, k3, _⟩ := key k hk
    have ea : adOf W g = a := by unfold adOf; rw [h1]
    have eb : adOf W k = b := by unfold adOf; rw [k1]
    have eab : a = b := by rw [← ea, ← eb]; exact e
    subst eab
    have es : s = s' := by
      have := h2.symm.trans k2
      simpa using this
    subst es
    exact hne (errText_ne g hg k hk (h3.symm.trans k3))

end Go.Proofs.YtbkjjknlphlhlaaDoor
