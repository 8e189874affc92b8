/- What the listed package variables give the walks. -/
import Derived.Test.YtjdnahmdicamdaaGreatDoorCards
import Derived.Test.YtjdnahmdicamdaaGreatDoorTie
import Derived.WalkKit
import Derived.ProofKit
import Derived.OpenShut
import Derived.LaidMore
import Derived.Stop.LaidErr
import Derived.Stop.LaidTwo
import Derived.Stop.Joined
import Derived.Lib.SmallJoins
import Derived.Test.YtjdnahmdicamdaaGreatDoorRows
import Derived.WalkSpells
import Derived.WalkLawsBesides
import Derived.Laws.BitsAllLaws
import Derived.Deep.Light
import Derived.Deep.QuietTactic
import Derived.BigQuiet
namespace Go.Proofs.YtjdnahmdicamdaaGreatDoor
open Go.ChangeShapes Go.WideShapes Go.ChangeAt Go.RowKit

theorem own : ownKnob Tryz.prog.godebug = none := by kernel_rfl
theorem laidOut : laidOutB Tryz.prog = true := by kernel_rfl
theorem errStar : "*" ++ "errors.errorString" = "*errors.errorString" := by decide
theorem errRow (u : TypeId) (h : Tryz.prog.typeName? 3 u = some "*errors.errorString") : u = 252 :=
  typeName_ptr_named (nm := "errors.errorString") (by rw [errStar]; kernel_rfl) (by kernel_rfl) (by decide) u (by rw [errStar]; exact h)
theorem cells69 : Tryz.prog.cellsOf 273 = 1 := by kernel_rfl
theorem cells9 : Tryz.prog.cellsOf 9 = 1 := by kernel_rfl
theorem cells5 : Tryz.prog.cellsOf 5 = 1 := by kernel_rfl
theorem cells3 : Tryz.prog.cellsOf 3 = 1 := by kernel_rfl

theorem one_sentinel {n : String} {text : List UInt8} {r : List (String × DataW Unit)} {W : World} {g : Nat}
    (h : laidMet Tryz.prog ((n, .iface "*errors.errorString" (.ptr (.agg [.lit (.string text)]))) :: r) W)
    (hg : Tryz.prog.globalNamed n = some g) (ht : (Tryz.prog.globals[g]?).map (·.type) = some 27) :
    ∃ (a : Addr) (s : ByteArray), W.cell? ⟨g, 0, none⟩ = some (.iface 252 (.pointer (some a))) ∧ W.cell? a = some (.string s) ∧ s.data.toList = text := by
  obtain ⟨a, s, hv, hc, hs, _⟩ := laid_sentinel h hg ht Tryz.underlying27 errRow Tryz.underlying252 Tryz.underlying273 rfl rfl Tryz.underlying9 cells69 cells9
  exact ⟨a, s, by simpa using World.var?_cell hg hv 0, hc, hs⟩

end Go.Proofs.YtjdnahmdicamdaaGreatDoor
/- Plain facts on the sum of a frame (CRC-32, bit by bit) and on the checks of a request, as functions of numbers; no program is spoken of. -/
namespace Go.Proofs.YtjdnahmdicamdaaGreatDoor
namespace Wi

/-- one bit of the sum -/
def bit (r : Nat) : Nat := if r % 2 = 1 then (r / 2) ^^^ 3988292384 else r / 2
def bits : Nat → Nat → Nat
  | 0, r => r
  | n + 1, r => bits n (bit r)
def byte (r b : Nat) : Nat := bits 8 (r ^^^ b)
def run (l : List UInt8) (r : Nat) : Nat := l.foldl (fun r b => byte r b.toNat) r
def sum (l : List UInt8) : Nat := run l 4294967295 ^^^ 4294967295

theorem xor_lt {a b : Nat} (ha : a < 4294967296) (hb : b < 4294967296) : a ^^^ b < 4294967296 := by
  have := Nat.xor_lt_two_pow (n := 32) (x := a) (y := b) (by simpa using ha) (by simpa using hb)
  simpa using this
theorem bit_lt {r : Nat} (h : r < 4294967296) : bit r < 4294967296 := by
  unfold bit; split
  · exact xor_lt (by omega) (by decide)
  · omega
theorem bits_lt : ∀ (n : Nat) {r : Nat}, r < 4294967296 → bits n r < 4294967296
  | 0, _, h => h
  | n + 1, _, h => bits_lt n (bit_lt h)
theorem bits_succ : ∀ (n r : Nat), bits (n + 1) r = bit (bits n r)
  | 0, _ => rfl
  | n + 1, r => by show bits (n + 1) (bit r) = bit (bits n (bit r)); exact bits_succ n (bit r)
theorem byte_lt {r b : Nat} (h : r < 4294967296) (hb : b < 256) : byte r b < 4294967296 := bits_lt 8 (xor_lt h (by omega))
theorem run_lt : ∀ (l : List UInt8) {r : Nat}, r < 4294967296 → run l r < 4294967296
  | [], _, h => h
  | b :: l, r, h => by
    show run l (byte r b.toNat) < 4294967296
    exact run_lt l (byte_lt h (by have := b.toNat_lt; omega))
theorem run_snoc (l : List UInt8) (b : UInt8) (r : Nat) : run (l ++ [b]) r = byte (run l r) b.toNat := by
  simp [run, List.foldl_append]
theorem sum_lt (l : List UInt8) : sum l < 4294967296 := xor_lt (run_lt l (by decide)) (by decide)

/-- the checks of a request -/
def withinB (x lo hi : Int) : Bool := decide (lo ≤ x) && decide (x ≤ hi)
def kindB (k : Int) : Bool := k == 108 || k == 104 || k == 111 || k == 99 || k == 113
def boundB (k c sq it sd pr q id : Int) : Bool :=
  withinB c 0 5 && withinB sq 0 1073741824 && withinB id 0 1073741824 &&
    (if k == 111 then withinB it 0 2 && withinB sd 0 1 && withinB pr 1 1000 && withinB q 1 1000 else if k == 99 then withinB it 0 2 else true)
def shapeB (k it sd pr q id : Int) : Bool :=
  if k == 111 then true else if k == 99 then sd == 0 && pr == 0 && q == 0 else it == 0 && sd == 0 && pr == 0 && q == 0 && id == 0
/-- the number of the error of a request, 0 for none -/
def code (k c sq it sd pr q id : Int) : Nat :=
  if kindB k then if boundB k c sq it sd pr q id then if shapeB k it sd pr q id then 0 else 3 else 2 else 4

end Wi
end Go.Proofs.YtjdnahmdicamdaaGreatDoor
/- What each call of package wire's checks does, for every request: the walks of within, isItem, isKind, isBounded, isShaped and Check. -/
namespace Go.Proofs.YtjdnahmdicamdaaGreatDoor
open Go.RowKit

theorem ret_bool {a b : Bool} (h : a = b) : Ending.returned (.bool a) = .returned (.bool b) := by rw [h]
theorem ret_int {k : IntKind} {a b : Int} (h : a = b) : Ending.returned (.int k a) = .returned (.int k b) := by rw [h]

set_option maxHeartbeats 400000 in
theorem within_any (x lo hi : Int) (w : World) :
    Calls Tryz.prog 35 #[.int .i64 x, .int .i64 lo, .int .i64 hi] w fun e w' => e = .returned (.bool (Wi.withinB x lo hi)) ∧ w' = w := by
  by_cases h : lo ≤ x
  · go_enter Tryz.func35, Tryz.ntmps35
    go_wp2
    go_ret
    exact ⟨ret_bool (by simp [Wi.withinB, h]), rfl⟩
  · have h' : decide (lo ≤ x) = false := by simpa using h
    go_enter Tryz.func35, Tryz.ntmps35
    go_wp2
    go_ret
    exact ⟨ret_bool (by simp [Wi.withinB, h']), rfl⟩

theorem item_any (n : Int) (w : World) :
    Calls Tryz.prog 130 #[.int .i64 n] w fun e w' => e = .returned (.bool (Wi.withinB n 0 2)) ∧ w' = w := by
  go_enter Tryz.func130, Tryz.ntmps130
  go_wp2_with (go_at_call 35; refine (within_any _ _ _ _).mono ?_; rintro e w' ⟨rfl, rfl⟩)
  go_ret
  exact ⟨rfl, rfl⟩

set_option maxHeartbeats 400000 in
theorem kind_any (k : Int) (w : World) :
    Calls Tryz.prog 109 #[.int .u8 k] w fun e w' => e = .returned (.bool (Wi.kindB k)) ∧ w' = w := by
  go_enter Tryz.func109, Tryz.ntmps109
  go_wp2
  all_goals go_ret
  all_goals simp [Wi.kindB, *]

set_option maxHeartbeats 400000 in
theorem shape_any (k c sq it sd pr q id : Int) (w : World) :
    Calls Tryz.prog 111 #[.agg #[.int .u8 k, .int .i64 c, .int .i64 sq, .int .i64 it, .int .i64 sd, .int .i64 pr, .int .i64 q, .int .i64 id]] w fun e w' => e = .returned (.bool (Wi.shapeB k it sd pr q id)) ∧ Below w.heap.size w w' := by
  go_enter Tryz.func111, Tryz.ntmps111
  go_wp2
  all_goals go_ret
  all_goals
    refine ⟨ret_bool ?_, (Below.refl _ _).alloc (Nat.le_refl _) _⟩
    go_light
    simp [Wi.shapeB, *]

set_option maxHeartbeats 1000000 in
theorem bound_any (k c sq it sd pr q id : Int) (w : World) :
    Calls Tryz.prog 110 #[.agg #[.int .u8 k, .int .i64 c, .int .i64 sq, .int .i64 it, .int .i64 sd, .int .i64 pr, .int .i64 q, .int .i64 id]] w fun e w' => e = .returned (.bool (Wi.boundB k c sq it sd pr q id)) ∧ Below w.heap.size w w' := by
  go_enter Tryz.func110, Tryz.ntmps110
  go_wp2_with (first | (go_at_call 35; refine (within_any _ _ _ _).mono ?_; rintro e w' ⟨rfl, rfl⟩) | (go_at_call 130; refine (item_any _ _).mono ?_; rintro e w' ⟨rfl, rfl⟩))
  all_goals go_ret
  all_goals
    refine ⟨ret_bool ?_, (Below.refl _ _).alloc (Nat.le_refl _) _⟩
    go_light
    simp_all [Wi.boundB]

theorem bcell {W w1 : World} (hb : Below W.heap.size W w1) : (∀ b o, b < W.heap.size → w1.cell? ⟨b, o, none⟩ = W.cell? ⟨b, o, none⟩) ∧ (∀ b o, b < W.heap.size → w1.frozen? ⟨b, o, none⟩ = W.frozen? ⟨b, o, none⟩) :=
  ⟨fun b o h => hb.cell (p := ⟨b, o, none⟩) h, fun b o h => hb.frozen (p := ⟨b, o, none⟩) h⟩

set_option maxHeartbeats 1000000 in
theorem check_kind (k c sq it sd pr q id : Int) (v3 : Value) (w : World) (hz : 3 < w.heap.size) (h3 : w.cell? ⟨3, 0, none⟩ = some v3) (hk : Wi.kindB k = false) :
    Calls Tryz.prog 76 #[.agg #[.int .u8 k, .int .i64 c, .int .i64 sq, .int .i64 it, .int .i64 sd, .int .i64 pr, .int .i64 q, .int .i64 id]] w fun e w' => e = .returned v3 ∧ Below w.heap.size w w' := by
  go_enter Tryz.func76, Tryz.ntmps76
  go_wp2_with fail
  refine (kind_any _ _).mono ?_
  rintro e w1 ⟨rfl, rfl⟩
  go_wp2
  go_ret
  exact ⟨rfl, (Below.refl _ _).alloc (Nat.le_refl _) _⟩

set_option maxHeartbeats 1000000 in
theorem check_bound (k c sq it sd pr q id : Int) (v1 : Value) (w : World) (hz : 0 < w.heap.size) (h3 : w.cell? ⟨0, 0, none⟩ = some v1) (hk : Wi.kindB k = true) (hbd : Wi.boundB k c sq it sd pr q id = false) :
    Calls Tryz.prog 76 #[.agg #[.int .u8 k, .int .i64 c, .int .i64 sq, .int .i64 it, .int .i64 sd, .int .i64 pr, .int .i64 q, .int .i64 id]] w fun e w' => e = .returned v1 ∧ Below w.heap.size w w' := by
  go_enter Tryz.func76, Tryz.ntmps76
  go_wp2_with fail
  refine (kind_any _ _).mono ?_
  rintro e w1 ⟨rfl, rfl⟩
  go_wp2_with fail
  refine (bound_any _ _ _ _ _ _ _ _ _).mono ?_
  rintro e w1 ⟨rfl, hb1⟩
  obtain ⟨hc1, hf1⟩ := bcell hb1
  have hz1 : w.heap.size < w1.heap.size := by have := hb1.size; simp at this; omega
  have hB1 : Below w.heap.size w w1 := ((Below.refl _ _).alloc (Nat.le_refl _) _).trans (hb1.mono (by simp))
  have hg1 : w1.cell? ⟨0, 0, none⟩ = some v1 := by rw [hB1.cell (p := ⟨0, 0, none⟩) hz]; exact h3
  go_wp2
  go_ret
  exact ⟨rfl, ((Below.refl _ _).alloc (Nat.le_refl _) _).trans (hb1.mono (by simp))⟩

set_option maxHeartbeats 1000000 in
theorem check_shape (k c sq it sd pr q id : Int) (v2 : Value) (w : World) (hz : 7 < w.heap.size) (h3 : w.cell? ⟨7, 0, none⟩ = some v2) (hk : Wi.kindB k = true) (hbd : Wi.boundB k c sq it sd pr q id = true) (hsh : Wi.shapeB k it sd pr q id = false) :
    Calls Tryz.prog 76 #[.agg #[.int .u8 k, .int .i64 c, .int .i64 sq, .int .i64 it, .int .i64 sd, .int .i64 pr, .int .i64 q, .int .i64 id]] w fun e w' => e = .returned v2 ∧ Below w.heap.size w w' := by
  go_enter Tryz.func76, Tryz.ntmps76
  go_wp2_with fail
  refine (kind_any _ _).mono ?_
  rintro e w1 ⟨rfl, rfl⟩
  go_wp2_with fail
  refine (bound_any _ _ _ _ _ _ _ _ _).mono ?_
  rintro e w1 ⟨rfl, hb1⟩
  obtain ⟨hc1, hf1⟩ := bcell hb1
  have hz1 : w.heap.size < w1.heap.size := by have := hb1.size; simp at this; omega
  have hB1 : Below w.heap.size w w1 := ((Below.refl _ _).alloc (Nat.le_refl _) _).trans (hb1.mono (by simp))
  have hg1 : w1.cell? ⟨7, 0, none⟩ = some v2 := by rw [hB1.cell (p := ⟨7, 0, none⟩) hz]; exact h3
  go_wp2_with fail
  refine (shape_any _ _ _ _ _ _ _ _ _).mono ?_
  rintro e w2 ⟨rfl, hb2⟩
  obtain ⟨hc2, hf2⟩ := bcell hb2
  have hg2 : w2.cell? ⟨7, 0, none⟩ = some v2 := by rw [hb2.cell (p := ⟨7, 0, none⟩) (by simp; omega)]; exact hg1
  go_wp2
  go_ret
  exact ⟨rfl, (((Below.refl _ _).alloc (Nat.le_refl _) _).trans (hb1.mono (by simp))).trans (hb2.mono (by omega))⟩

set_option maxHeartbeats 1000000 in
theorem check_fine (k c sq it sd pr q id : Int) (w : World) (hk : Wi.kindB k = true) (hbd : Wi.boundB k c sq it sd pr q id = true) (hsh : Wi.shapeB k it sd pr q id = true) :
    Calls Tryz.prog 76 #[.agg #[.int .u8 k, .int .i64 c, .int .i64 sq, .int .i64 it, .int .i64 sd, .int .i64 pr, .int .i64 q, .int .i64 id]] w fun e w' => e = .returned .nilIface ∧ Below w.heap.size w w' := by
  go_enter Tryz.func76, Tryz.ntmps76
  go_wp2_with fail
  refine (kind_any _ _).mono ?_
  rintro e w1 ⟨rfl, rfl⟩
  go_wp2_with fail
  refine (bound_any _ _ _ _ _ _ _ _ _).mono ?_
  rintro e w1 ⟨rfl, hb1⟩
  obtain ⟨hc1, hf1⟩ := bcell hb1
  have hz1 : w.heap.size < w1.heap.size := by have := hb1.size; simp at this; omega
  go_wp2_with fail
  refine (shape_any _ _ _ _ _ _ _ _ _).mono ?_
  rintro e w2 ⟨rfl, hb2⟩
  obtain ⟨hc2, hf2⟩ := bcell hb2
  go_wp2
  go_ret
  exact ⟨rfl, (((Below.refl _ _).alloc (Nat.le_refl _) _).trans (hb1.mono (by simp))).trans (hb2.mono (by omega))⟩

end Go.Proofs.YtjdnahmdicamdaaGreatDoor
/- Small facts for walks. -/
namespace Go.Proofs.YtjdnahmdicamdaaGreatDoor
open Go.RowKit

theorem hide {p : Prop} (h : p) : Hid p := h
theorem take_snoc (s : ByteArray) (k : Nat) (h : k < s.size) : s.data.toList.take (k + 1) = s.data.toList.take k ++ [s[k]] := by
  rw [List.take_succ_eq_append_getElem (by simpa using h)]; rfl

theorem val_int {k : IntKind} {a b : Int} (h : a = b) : Value.int k a = .int k b := by rw [h]

end Go.Proofs.YtjdnahmdicamdaaGreatDoor
/- Lots, and demand, supply and best prices of them, as functions of lists; no program is spoken of. -/
namespace Go.Proofs.YtjdnahmdicamdaaGreatDoor
namespace Cv

structure Lot where
  id : Int
  ow : Int
  sd : Int
  pr : Int
  q : Int

def z : Lot := ⟨0, 0, 0, 0, 0⟩
def nth (l : List Lot) (i : Nat) : Lot := l.getD i z
def ok (x : Lot) : Bool := Wi.withinB x.id 1 1073741824 && Wi.withinB x.ow 0 5 && Wi.withinB x.sd 0 1 && Wi.withinB x.pr 1 1000 && Wi.withinB x.q 1 1000
def has (l : List Lot) (id : Int) : Bool := l.any fun x => x.id == id
def okAt (l : List Lot) (i : Nat) : Bool := ok (nth l i) && !has (l.take i) (nth l i).id
def WellTo (l : List Lot) (k : Nat) : Prop := ∀ i, i < k → okAt l i = true
def Well (l : List Lot) : Prop := l.length ≤ 120 ∧ WellTo l l.length
def Oks (l : List Lot) : Prop := ∀ x ∈ l, ok x = true

theorem nth_mem {l : List Lot} {i : Nat} (h : i < l.length) : nth l i ∈ l := by
  unfold nth; rw [List.getD_eq_getElem?_getD, List.getElem?_eq_getElem h]; exact List.getElem_mem h
theorem take_succ {l : List Lot} {i : Nat} (h : i < l.length) : l.take (i + 1) = l.take i ++ [nth l i] := by
  unfold nth; rw [List.take_succ_eq_append_getElem h, List.getD_eq_getElem?_getD, List.getElem?_eq_getElem h]; rfl
theorem nth_drop (l : List Lot) (k i : Nat) : nth (l.drop k) i = nth l (k + i) := by
  unfold nth; rw [List.getD_eq_getElem?_getD, List.getD_eq_getElem?_getD, List.getElem?_drop]
theorem nth_take {l : List Lot} {k i : Nat} (h : i < k) : nth (l.take k) i = nth l i := by
  unfold nth; rw [List.getD_eq_getElem?_getD, List.getD_eq_getElem?_getD, List.getElem?_take_of_lt h]

theorem verdict_upto (l : List Lot) : ∀ k, k ≤ l.length → WellTo l k ∨ ∃ i, i < l.length ∧ WellTo l i ∧ okAt l i = false
  | 0, _ => .inl fun i hi => absurd hi (Nat.not_lt_zero i)
  | k + 1, h => by
    rcases verdict_upto l k (by omega) with h1 | h1
    · cases hk : okAt l k
      · exact .inr ⟨k, by omega, h1, hk⟩
      · refine .inl fun i hi => ?_
        by_cases e : i = k
        · rw [e]; exact hk
        · exact h1 i (by omega)
    · exact .inr h1
theorem verdict (l : List Lot) : 120 < l.length ∨ Well l ∨ (l.length ≤ 120 ∧ ∃ i, i < l.length ∧ WellTo l i ∧ okAt l i = false) := by
  by_cases h : 120 < l.length
  · exact .inl h
  · rcases verdict_upto l l.length (Nat.le_refl _) with h1 | h1
    · exact .inr (.inl ⟨by omega, h1⟩)
    · exact .inr (.inr ⟨by omega, h1⟩)

theorem ok_bounds {x : Lot} (h : ok x = true) : (1 ≤ x.id ∧ x.id ≤ 1073741824) ∧ (0 ≤ x.ow ∧ x.ow ≤ 5) ∧ (0 ≤ x.sd ∧ x.sd ≤ 1) ∧ (1 ≤ x.pr ∧ x.pr ≤ 1000) ∧ (1 ≤ x.q ∧ x.q ≤ 1000) := by
  simp only [ok, Wi.withinB, Bool.and_eq_true, decide_eq_true_eq] at h
  omega

theorem Well.oks {l : List Lot} (h : Well l) : Oks l := by
  intro x hx
  obtain ⟨i, hi, rfl⟩ := List.mem_iff_getElem.1 hx
  have := h.2 i hi
  simp only [okAt, Bool.and_eq_true] at this
  have e : nth l i = l[i] := by unfold nth; rw [List.getD_eq_getElem?_getD, List.getElem?_eq_getElem hi]; rfl
  rw [← e]; exact this.1
theorem Well.take {l : List Lot} (h : Well l) (k : Nat) : Well (l.take k) := by
  refine ⟨by rw [List.length_take]; have := h.1; omega, fun i hi => ?_⟩
  rw [List.length_take] at hi
  have := h.2 i (by omega)
  unfold okAt at this ⊢
  rwa [nth_take (by omega), List.take_take, Nat.min_eq_left (by omega)]
theorem has_mono {a b : List Lot} {id : Int} (h : ∀ x ∈ a, x ∈ b) (hb : has b id = false) : has a id = false := by
  unfold has at *
  rw [List.any_eq_false] at *
  exact fun x hx => hb x (h x hx)
theorem Well.drop {l : List Lot} (h : Well l) (k : Nat) : Well (l.drop k) := by
  refine ⟨by rw [List.length_drop]; have := h.1; omega, fun i hi => ?_⟩
  rw [List.length_drop] at hi
  have := h.2 (k + i) (by omega)
  unfold okAt at this ⊢
  rw [nth_drop]
  simp only [Bool.and_eq_true, Bool.not_eq_true'] at this ⊢
  refine ⟨this.1, has_mono (fun x hx => ?_) this.2⟩
  rw [List.take_drop] at hx
  exact List.mem_of_mem_drop hx

def sumIf (f : Lot → Bool) : List Lot → Int
  | [] => 0
  | x :: l => (if f x = true then x.q else 0) + sumIf f l
theorem sumIf_append (f : Lot → Bool) : ∀ a b : List Lot, sumIf f (a ++ b) = sumIf f a + sumIf f b
  | [], b => by simp [sumIf]
  | x :: a, b => by simp [sumIf, sumIf_append f a b]; omega
theorem sumIf_split (f : Lot → Bool) (l : List Lot) (k : Nat) : sumIf f l = sumIf f (l.take k) + sumIf f (l.drop k) := by
  rw [← sumIf_append, List.take_append_drop]
theorem sumIf_step (f : Lot → Bool) {l : List Lot} {k : Nat} (h : k < l.length) : sumIf f (l.take (k + 1)) = sumIf f (l.take k) + if f (nth l k) = true then (nth l k).q else 0 := by
  rw [take_succ h, sumIf_append]; simp [sumIf]
theorem sumIf_bounds (f : Lot → Bool) : ∀ l : List Lot, Oks l → 0 ≤ sumIf f l ∧ sumIf f l ≤ 1000 * l.length
  | [], _ => by simp [sumIf]
  | x :: l, h => by
    have ih := sumIf_bounds f l (fun y hy => h y (List.mem_cons_of_mem _ hy))
    have hx := (ok_bounds (h x List.mem_cons_self)).2.2.2.2
    simp only [sumIf, List.length_cons]
    split <;> omega
theorem Oks.take {l : List Lot} (h : Oks l) (k : Nat) : Oks (l.take k) := fun x hx => h x (List.mem_of_mem_take hx)
theorem sumIf_mono {f g : Lot → Bool} : ∀ l : List Lot, Oks l → (∀ x ∈ l, f x = true → g x = true) → sumIf f l ≤ sumIf g l
  | [], _, _ => by simp [sumIf]
  | x :: l, h, hfg => by
    have ih := sumIf_mono (f := f) (g := g) l (fun y hy => h y (List.mem_cons_of_mem _ hy)) (fun y hy => hfg y (List.mem_cons_of_mem _ hy))
    have hx := (ok_bounds (h x List.mem_cons_self)).2.2.2.2
    have hh := hfg x List.mem_cons_self
    simp only [sumIf]
    by_cases e : f x = true
    · rw [if_pos e, if_pos (hh e)]; omega
    · rw [if_neg e]; split <;> omega
theorem sumIf_congr {f g : Lot → Bool} : ∀ l : List Lot, (∀ x ∈ l, f x = g x) → sumIf f l = sumIf g l
  | [], _ => rfl
  | x :: l, h => by
    simp only [sumIf]
    rw [sumIf_congr l (fun y hy => h y (List.mem_cons_of_mem _ hy)), h x List.mem_cons_self]
theorem sumIf_pos {f : Lot → Bool} : ∀ l : List Lot, Oks l → (∃ x ∈ l, f x = true) → 0 < sumIf f l
  | [], _, h => by obtain ⟨x, hx, _⟩ := h; cases hx
  | x :: l, h, hf => by
    have hx := (ok_bounds (h x List.mem_cons_self)).2.2.2.2
    have ho : Oks l := fun y hy => h y (List.mem_cons_of_mem _ hy)
    have hb := (sumIf_bounds f l ho).1
    simp only [sumIf]
    by_cases e : f x = true
    · rw [if_pos e]; omega
    · rw [if_neg e]
      obtain ⟨y, hy, hfy⟩ := hf
      rcases List.mem_cons.1 hy with rfl | hy
      · exact absurd hfy e
      · have := sumIf_pos l ho ⟨y, hy, hfy⟩; omega
theorem sumIf_zero {f : Lot → Bool} (l : List Lot) (h : ∀ x ∈ l, f x = false) : sumIf f l = 0 := by
  rw [sumIf_congr (g := fun _ => false) l h]
  clear h
  induction l with
  | nil => rfl
  | cons x l ih => simp [sumIf, ih]

def dB (p : Int) (x : Lot) : Bool := x.sd == 0 && decide (p ≤ x.pr)
def sB (p : Int) (x : Lot) : Bool := x.sd == 1 && decide (x.pr ≤ p)
def demand (l : List Lot) (p : Int) : Int := sumIf (dB p) l
def supply (l : List Lot) (p : Int) : Int := sumIf (sB p) l

def better (side p than : Int) : Bool := if side = 0 then decide (than < p) else decide (p < than)
def bstep (side b : Int) (x : Lot) : Int := if (x.sd == side && (b == 0 || better side x.pr b)) = true then x.pr else b
def best (side : Int) (l : List Lot) : Int := l.foldl (bstep side) 0
theorem best_step (side : Int) {l : List Lot} {k : Nat} (h : k < l.length) : best side (l.take (k + 1)) = bstep side (best side (l.take k)) (nth l k) := by
  unfold best; rw [take_succ h, List.foldl_append]; rfl

/-- the greatest price of buys -/
theorem best_buy (l : List Lot) (h : Oks l) : (best 0 l = 0 ∧ ∀ x ∈ l, x.sd ≠ 0) ∨ (∃ x ∈ l, x.sd = 0 ∧ x.pr = best 0 l) ∧ (∀ x ∈ l, x.sd = 0 → x.pr ≤ best 0 l) := by
  have key : ∀ k, k ≤ l.length → (best 0 (l.take k) = 0 ∧ ∀ x ∈ l.take k, x.sd ≠ 0) ∨ (∃ x ∈ l.take k, x.sd = 0 ∧ x.pr = best 0 (l.take k)) ∧ (∀ x ∈ l.take k, x.sd = 0 → x.pr ≤ best 0 (l.take k)) := by
    intro k
    induction k with
    | zero => intro _; exact .inl ⟨rfl, fun x hx => by simp at hx⟩
    | succ k ih =>
      intro hk
      have hk : k < l.length := by omega
      have hx := (ok_bounds (h _ (nth_mem hk))).2.2.2.1
      have ih := ih (by omega)
      rw [best_step 0 hk, take_succ hk]
      have hmem : ∀ x ∈ l.take k, x ∈ l := fun x hx => List.mem_of_mem_take hx
      generalize l.take k = t at *
      generalize nth l k = y at *
      unfold bstep better
      by_cases hs : y.sd = 0
      · by_cases hb : best 0 t = 0
        · rw [if_pos (by simp [hs, hb])]
          refine .inr ⟨⟨y, by simp, hs, rfl⟩, fun x hxm hxs => ?_⟩
          rcases List.mem_append.1 hxm with hxm | hxm
          · rcases ih with ⟨_, h2⟩ | ⟨_, h2⟩
            · exact absurd hxs (h2 x hxm)
            · have := h2 x hxm hxs; omega
          · have hxm : x = y := by simpa using hxm
            rw [hxm]; omega
        · by_cases hc : best 0 t < y.pr
          · rw [if_pos (by simp [hs, hc])]
            refine .inr ⟨⟨y, by simp, hs, rfl⟩, fun x hxm hxs => ?_⟩
            rcases List.mem_append.1 hxm with hxm | hxm
            · rcases ih with ⟨_, h2⟩ | ⟨_, h2⟩
              · exact absurd hxs (h2 x hxm)
              · have := h2 x hxm hxs; omega
            · have hxm : x = y := by simpa using hxm
              rw [hxm]; omega
          · rw [if_neg (by simp [hs, hb, hc])]
            rcases ih with ⟨h1, _⟩ | ⟨⟨x, hx1, hx2, hx3⟩, h2⟩
            · exact absurd h1 hb
            · refine .inr ⟨⟨x, List.mem_append_left _ hx1, hx2, hx3⟩, fun x hxm hxs => ?_⟩
              rcases List.mem_append.1 hxm with hxm | hxm
              · exact h2 x hxm hxs
              · have hxm : x = y := by simpa using hxm
                rw [hxm]; omega
      · rw [if_neg (by simp [hs])]
        rcases ih with ⟨h1, h2⟩ | ⟨⟨x, hx1, hx2, hx3⟩, h2⟩
        · refine .inl ⟨h1, fun x hxm => ?_⟩
          rcases List.mem_append.1 hxm with hxm | hxm
          · exact h2 x hxm
          · have hxm : x = y := by simpa using hxm
            rw [hxm]; exact hs
        · refine .inr ⟨⟨x, List.mem_append_left _ hx1, hx2, hx3⟩, fun x hxm hxs => ?_⟩
          rcases List.mem_append.1 hxm with hxm | hxm
          · exact h2 x hxm hxs
          · have hxm : x = y := by simpa using hxm
            rw [hxm] at hxs; exact absurd hxs hs
  have := key l.length (Nat.le_refl _)
  rwa [List.take_length] at this

/-- the least price of sells -/
theorem best_sell (l : List Lot) (h : Oks l) : (best 1 l = 0 ∧ ∀ x ∈ l, x.sd ≠ 1) ∨ (∃ x ∈ l, x.sd = 1 ∧ x.pr = best 1 l) ∧ (∀ x ∈ l, x.sd = 1 → best 1 l ≤ x.pr) := by
  have key : ∀ k, k ≤ l.length → (best 1 (l.take k) = 0 ∧ ∀ x ∈ l.take k, x.sd ≠ 1) ∨ (∃ x ∈ l.take k, x.sd = 1 ∧ x.pr = best 1 (l.take k)) ∧ (∀ x ∈ l.take k, x.sd = 1 → best 1 (l.take k) ≤ x.pr) := by
    intro k
    induction k with
    | zero => intro _; exact .inl ⟨rfl, fun x hx => by simp at hx⟩
    | succ k ih =>
      intro hk
      have hk : k < l.length := by omega
      have ih := ih (by omega)
      rw [best_step 1 hk, take_succ hk]
      have hpos : ∀ x ∈ l.take k, 1 ≤ x.pr := fun x hx => (ok_bounds (h x (List.mem_of_mem_take hx))).2.2.2.1.1
      generalize l.take k = t at *
      generalize nth l k = y at *
      unfold bstep better
      by_cases hs : y.sd = 1
      · by_cases hb : best 1 t = 0
        · rw [if_pos (by simp [hs, hb])]
          refine .inr ⟨⟨y, by simp, hs, rfl⟩, fun x hxm hxs => ?_⟩
          rcases List.mem_append.1 hxm with hxm | hxm
          · rcases ih with ⟨_, h2⟩ | ⟨⟨x', hx1, hx2, hx3⟩, h2⟩
            · exact absurd hxs (h2 x hxm)
            · have := hpos x' hx1; omega
          · have hxm : x = y := by simpa using hxm
            rw [hxm]; omega
        · by_cases hc : y.pr < best 1 t
          · rw [if_pos (by simp [hs, hc])]
            refine .inr ⟨⟨y, by simp, hs, rfl⟩, fun x hxm hxs => ?_⟩
            rcases List.mem_append.1 hxm with hxm | hxm
            · rcases ih with ⟨_, h2⟩ | ⟨_, h2⟩
              · exact absurd hxs (h2 x hxm)
              · have := h2 x hxm hxs; omega
            · have hxm : x = y := by simpa using hxm
              rw [hxm]; omega
          · rw [if_neg (by simp [hs, hb, hc])]
            rcases ih with ⟨h1, _⟩ | ⟨⟨x, hx1, hx2, hx3⟩, h2⟩
            · exact absurd h1 hb
            · refine .inr ⟨⟨x, List.mem_append_left _ hx1, hx2, hx3⟩, fun x hxm hxs => ?_⟩
              rcases List.mem_append.1 hxm with hxm | hxm
              · exact h2 x hxm hxs
              · have hxm : x = y := by simpa using hxm
                rw [hxm]; omega
      · rw [if_neg (by simp [hs])]
        rcases ih with ⟨h1, h2⟩ | ⟨⟨x, hx1, hx2, hx3⟩, h2⟩
        · refine .inl ⟨h1, fun x hxm => ?_⟩
          rcases List.mem_append.1 hxm with hxm | hxm
          · exact h2 x hxm
          · have hxm : x = y := by simpa using hxm
            rw [hxm]; exact hs
        · refine .inr ⟨⟨x, List.mem_append_left _ hx1, hx2, hx3⟩, fun x hxm hxs => ?_⟩
          rcases List.mem_append.1 hxm with hxm | hxm
          · exact h2 x hxm hxs
          · have hxm : x = y := by simpa using hxm
            rw [hxm] at hxs; exact absurd hxs hs
  have := key l.length (Nat.le_refl _)
  rwa [List.take_length] at this

theorem best_range (l : List Lot) (h : Oks l) (side : Int) (hs : side = 0 ∨ side = 1) : 0 ≤ best side l ∧ best side l ≤ 1000 := by
  rcases hs with rfl | rfl
  · rcases best_buy l h with ⟨h1, _⟩ | ⟨⟨x, hx, _, h1⟩, _⟩
    · omega
    · have := (ok_bounds (h x hx)).2.2.2.1; omega
  · rcases best_sell l h with ⟨h1, _⟩ | ⟨⟨x, hx, _, h1⟩, _⟩
    · omega
    · have := (ok_bounds (h x hx)).2.2.2.1; omega
theorem best_other (l : List Lot) (h : Oks l) (side : Int) (h0 : side ≠ 0) (h1 : side ≠ 1) : best side l = 0 := by
  have key : ∀ k, k ≤ l.length → best side (l.take k) = 0 := by
    intro k
    induction k with
    | zero => intro _; rfl
    | succ k ih =>
      intro hk
      have hk : k < l.length := by omega
      rw [best_step side hk, ih (by omega)]
      have := (ok_bounds (h _ (nth_mem hk))).2.2.1
      unfold bstep
      rw [if_neg]
      simp only [Bool.and_eq_true, beq_iff_eq]
      rintro ⟨e, _⟩
      omega
  have := key l.length (Nat.le_refl _)
  rwa [List.take_length] at this

def cross (l : List Lot) : Bool := best 1 l != 0 && decide (best 1 l ≤ best 0 l)
def volume (l : List Lot) (p : Int) : Int := min (demand l p) (supply l p)

theorem cross_volume (l : List Lot) (h : Oks l) : cross l = decide (0 < volume l (best 0 l)) := by
  have hd := (sumIf_bounds (dB (best 0 l)) l h).1
  have hs := (sumIf_bounds (sB (best 0 l)) l h).1
  unfold cross volume demand supply
  rcases best_buy l h with ⟨h1, h2⟩ | ⟨⟨x, hx, hxs, hxp⟩, h2⟩
  · rw [sumIf_zero (f := dB (best 0 l)) l (fun x hx => by simp [dB, h2 x hx])]
    have := (best_range l h 1 (.inr rfl)).1
    rw [Bool.eq_iff_iff]
    simp
    omega
  · have hdp := sumIf_pos (f := dB (best 0 l)) l h ⟨x, hx, by simp [dB, hxs, hxp]⟩
    rcases best_sell l h with ⟨g1, g2⟩ | ⟨⟨y, hy, hys, hyp⟩, g2⟩
    · rw [sumIf_zero (f := sB (best 0 l)) l (fun x hx => by simp [sB, g2 x hx]), g1]
      rw [Bool.eq_iff_iff]
      simp
      omega
    · have hy1 := (ok_bounds (h y hy)).2.2.2.1
      by_cases hc : best 1 l ≤ best 0 l
      · have hsp := sumIf_pos (f := sB (best 0 l)) l h ⟨y, hy, by simp [sB, hys, hyp, hc]⟩
        rw [Bool.eq_iff_iff]
        simp
        omega
      · rw [sumIf_zero (f := sB (best 0 l)) l (fun x hx => by
          by_cases e : x.sd = 1
          · have := g2 x hx e
            simp [sB, e]; omega
          · simp [sB, e])]
        rw [Bool.eq_iff_iff]
        simp
        omega
theorem cross_ref (l : List Lot) (h : Oks l) : cross l = (decide (0 < best 0 l) && (decide (0 < best 1 l) && decide (best 1 l ≤ best 0 l))) := by
  have h0 := (best_range l h 0 (.inl rfl)).1
  have h1 := (best_range l h 1 (.inr rfl)).1
  unfold cross
  rw [Bool.eq_iff_iff]
  simp
  omega
theorem demand_falls (l : List Lot) (h : Oks l) {p q : Int} (hpq : p ≤ q) : demand l q ≤ demand l p :=
  sumIf_mono l h (fun x _ hx => by simp only [dB, Bool.and_eq_true, decide_eq_true_eq] at hx ⊢; exact ⟨hx.1, by omega⟩)
theorem supply_rises (l : List Lot) (h : Oks l) {p q : Int} (hpq : p ≤ q) : supply l p ≤ supply l q :=
  sumIf_mono l h (fun x _ hx => by simp only [sB, Bool.and_eq_true, decide_eq_true_eq] at hx ⊢; exact ⟨hx.1, by omega⟩)
/-- between two prices of lots nothing changes -/
theorem demand_between (l : List Lot) {p q : Int} (hpq : p ≤ q) (hn : ∀ x ∈ l, ¬ (p ≤ x.pr ∧ x.pr ≤ q)) : demand l p = demand l q :=
  sumIf_congr l (fun x hx => by
    have := hn x hx
    unfold dB
    congr 1
    rw [decide_eq_decide]
    omega)
theorem supply_between (l : List Lot) {p q : Int} (hpq : p ≤ q) (hn : ∀ x ∈ l, ¬ (p ≤ x.pr ∧ x.pr ≤ q)) : supply l p = supply l q :=
  sumIf_congr l (fun x hx => by
    have := hn x hx
    unfold sB
    congr 1
    rw [decide_eq_decide]
    omega)
end Cv
end Go.Proofs.YtjdnahmdicamdaaGreatDoor
/- The checks of a lot, and the functions that package curve hands on, by their contracts. -/
namespace Go.Proofs.YtjdnahmdicamdaaGreatDoor
open Go.RowKit
set_option maxRecDepth 100000

def lotV (x : Cv.Lot) : Value := .agg #[.int .i64 x.id, .int .i64 x.ow, .int .i64 x.sd, .int .i64 x.pr, .int .i64 x.q]

set_option maxHeartbeats 1000000 in
theorem lotOk_any (x : Cv.Lot) (w : World) : Calls Tryz.prog 80 #[lotV x] w fun e w' => e = .returned (.bool (Cv.ok x)) ∧ Below w.heap.size w w' := by
  show Calls Tryz.prog 80 #[.agg #[.int .i64 x.id, .int .i64 x.ow, .int .i64 x.sd, .int .i64 x.pr, .int .i64 x.q]] w _
  go_enter Tryz.func80, Tryz.ntmps80
  go_wp2_with (go_at_call 35; refine (within_any _ _ _ _).mono ?_; rintro e w' ⟨rfl, rfl⟩)
  all_goals go_ret
  all_goals
    refine ⟨ret_bool ?_, (Below.refl _ _).alloc (Nat.le_refl _) _⟩
    go_light
    simp_all [Cv.ok]

set_option maxHeartbeats 1000000 in
theorem dClos_any (x : Cv.Lot) (B : Nat) (p : Int) (w : World) (hc : w.cell? ⟨B, 0, none⟩ = some (.int .i64 p)) :
    Calls Tryz.prog 143 #[lotV x, .pointer (some ⟨B, 0, none⟩)] w fun e w' => e = .returned (.bool (Cv.dB p x)) ∧ Below w.heap.size w w' := by
  have hB : B < w.heap.size := World.block_lt_of_cell? _ _ hc
  have hne : B ≠ w.heap.size := by omega
  show Calls Tryz.prog 143 #[.agg #[.int .i64 x.id, .int .i64 x.ow, .int .i64 x.sd, .int .i64 x.pr, .int .i64 x.q], .pointer (some ⟨B, 0, none⟩)] w _
  go_enter Tryz.func143, Tryz.ntmps143
  go_wp2
  all_goals go_ret
  all_goals
    refine ⟨ret_bool ?_, (Below.refl _ _).alloc (Nat.le_refl _) _⟩
    simp_all [Cv.dB]

set_option maxHeartbeats 1000000 in
theorem sClos_any (x : Cv.Lot) (B : Nat) (p : Int) (w : World) (hc : w.cell? ⟨B, 0, none⟩ = some (.int .i64 p)) :
    Calls Tryz.prog 144 #[lotV x, .pointer (some ⟨B, 0, none⟩)] w fun e w' => e = .returned (.bool (Cv.sB p x)) ∧ Below w.heap.size w w' := by
  have hB : B < w.heap.size := World.block_lt_of_cell? _ _ hc
  have hne : B ≠ w.heap.size := by omega
  show Calls Tryz.prog 144 #[.agg #[.int .i64 x.id, .int .i64 x.ow, .int .i64 x.sd, .int .i64 x.pr, .int .i64 x.q], .pointer (some ⟨B, 0, none⟩)] w _
  go_enter Tryz.func144, Tryz.ntmps144
  go_wp2
  all_goals go_ret
  all_goals
    refine ⟨ret_bool ?_, (Below.refl _ _).alloc (Nat.le_refl _) _⟩
    simp_all [Cv.sB]

set_option maxHeartbeats 1000000 in
theorem idClos_any (x : Cv.Lot) (B : Nat) (id : Int) (w : World) (hc : w.cell? ⟨B, 0, none⟩ = some (.int .i64 id)) :
    Calls Tryz.prog 114 #[lotV x, .pointer (some ⟨B, 0, none⟩)] w fun e w' => e = .returned (.bool (x.id == id)) ∧ Below w.heap.size w w' := by
  have hB : B < w.heap.size := World.block_lt_of_cell? _ _ hc
  have hne : B ≠ w.heap.size := by omega
  show Calls Tryz.prog 114 #[.agg #[.int .i64 x.id, .int .i64 x.ow, .int .i64 x.sd, .int .i64 x.pr, .int .i64 x.q], .pointer (some ⟨B, 0, none⟩)] w _
  go_enter Tryz.func114, Tryz.ntmps114
  go_wp2
  all_goals go_ret
  all_goals
    refine ⟨ret_bool ?_, (Below.refl _ _).alloc (Nat.le_refl _) _⟩
    first | rfl | simp_all

theorem better_any (side p than : Int) (w : World) : Calls Tryz.prog 96 #[.int .i64 side, .int .i64 p, .int .i64 than] w fun e w' => e = .returned (.bool (Cv.better side p than)) ∧ w' = w := by
  go_enter Tryz.func96, Tryz.ntmps96
  go_wp2
  all_goals go_ret
  all_goals
    refine ⟨ret_bool ?_, rfl⟩
    simp_all [Cv.better]

end Go.Proofs.YtjdnahmdicamdaaGreatDoor
/- hasID by its contract: does an ID stand in a list of lots? -/
namespace Go.Proofs.YtjdnahmdicamdaaGreatDoor
open Go.RowKit
set_option maxRecDepth 100000

/-- the cells of a list of lots behind an address -/
def LotsAt (w : World) (b off : Nat) (l : List Cv.Lot) : Prop :=
  ∀ i, i < l.length → w.cell? ⟨b, off + i * 5, none⟩ = some (.int .i64 (Cv.nth l i).id) ∧ w.cell? ⟨b, off + i * 5 + 1, none⟩ = some (.int .i64 (Cv.nth l i).ow) ∧ w.cell? ⟨b, off + i * 5 + 2, none⟩ = some (.int .i64 (Cv.nth l i).sd) ∧
    w.cell? ⟨b, off + i * 5 + 3, none⟩ = some (.int .i64 (Cv.nth l i).pr) ∧ w.cell? ⟨b, off + i * 5 + 4, none⟩ = some (.int .i64 (Cv.nth l i).q)
theorem LotsAt.later {w w' : World} {b off : Nat} {l : List Cv.Lot} (h : LotsAt w b off l) (hb : Below w.heap.size w w') : LotsAt w' b off l :=
  fun i hi => ⟨cell_later hb (h i hi).1, cell_later hb (h i hi).2.1, cell_later hb (h i hi).2.2.1, cell_later hb (h i hi).2.2.2.1, cell_later hb (h i hi).2.2.2.2⟩

set_option maxHeartbeats 1000000 in
theorem indexFunc_any (b off cap B : Nat) (id : Int) (l : List Cv.Lot) (w : World) (hn' : l.length ≤ 1000) (hl : Hid (LotsAt w b off l)) (hc : w.cell? ⟨B, 0, none⟩ = some (.int .i64 id)) :
    Calls Tryz.prog 92 #[.slice (some ⟨b, off, none⟩) l.length cap, .func (.func 114) #[] #[.pointer (some ⟨B, 0, none⟩)]] w fun e w' => (∃ r : Int, e = .returned (.int .i64 r) ∧ decide (0 ≤ r) = Cv.has l id) ∧ Below w.heap.size w w' := by
  generalize hn : l.length = n at *
  have Hn := hide hn
  clear hn
  go_enter Tryz.func92, Tryz.ntmps92
  go_wp2
  go_loopw [8] (fun i wr => ∃ k : Nat, k ≤ n ∧ i = .int .i64 k ∧ Cv.has (l.take k) id = false ∧ Below w.heap.size w wr) (fun i _ => n - (intOf i).toNat)
  case atStart => exact ⟨0, Nat.zero_le _, rfl, rfl, Below.refl _ _⟩
  case round =>
    obtain ⟨k, hk, rfl, hno, hb⟩ := hrel
    have HN := hide hno; have HB := hide hb
    clear hno hb
    by_cases hlt : k < n
    · have hki : (k : Int) < n := by omega
      obtain ⟨c0, c1, c2, c3, c4⟩ := (hl.out.later HB.out) k (by rw [Hn.out]; exact hlt)
      have hcB := cell_later HB.out hc
      have HC := hide (idClos_any (Cv.nth l k) B id wr hcB)
      have HT := hide (Cv.take_succ (l := l) (i := k) (by rw [Hn.out]; exact hlt))
      generalize Cv.nth l k = x at *
      go_wp2_with fail
      refine HC.out.mono ?_
      rintro e w2 ⟨rfl, hb2⟩
      have HB2 := hide (HB.out.trans (hb2.mono HB.out.size))
      clear hb2 c0 c1 c2 c3 c4 hcB HC
      by_cases hx : x.id = id
      · have hxb : (x.id == id) = true := by simpa using hx
        have Hx := hide hx
        clear hx
        rw [hxb]
        simp only []
        go_wp2
        go_ret
        refine ⟨⟨k, rfl, ?_⟩, HB2.out⟩
        have : Cv.has l id = true := by
          have e : l = l.take (k + 1) ++ l.drop (k + 1) := (List.take_append_drop _ _).symm
          rw [e, HT.out]
          simp [Cv.has, hxb]
        rw [this]
        simp
      · have hxb : (x.id == id) = false := by simpa using hx
        have hno' : Cv.has (l.take (k + 1)) id = false := by
          have hh := HN.out
          rw [HT.out]
          unfold Cv.has at hh ⊢
          rw [List.any_append, hh]
          simp [hx]
        have Hno := hide hno'
        clear hx hno'
        rw [hxb]
        simp only []
        go_wp2
        exact ⟨⟨k + 1, by omega, by go_num, Hno.out, HB2.out⟩, by simp [intOf]; omega⟩
    · have hki : ¬ (k : Int) < n := by omega
      have hkk : k = l.length := by rw [Hn.out]; omega
      have hno := HN.out
      rw [hkk, List.take_length] at hno
      have Hno := hide hno
      clear hno hkk
      go_wp2
      go_ret
      exact ⟨⟨-1, rfl, by rw [Hno.out]; rfl⟩, HB.out⟩

theorem indexFunc_none (cap : Nat) (a : Option Addr) (f : Value) (w : World) :
    Calls Tryz.prog 92 #[.slice a 0 cap, f] w fun e w' => e = .returned (.int .i64 (-1)) ∧ w' = w := by
  go_enter Tryz.func92, Tryz.ntmps92
  go_wp2
  refine wp_loop_rounds 1 ?_
  rw [rounds_succ]
  go_wp2
  go_ret
  exact ⟨rfl, rfl⟩

theorem contains_any (b off cap B : Nat) (id : Int) (l : List Cv.Lot) (w : World) (hn' : l.length ≤ 1000) (hl : Hid (LotsAt w b off l)) (hc : w.cell? ⟨B, 0, none⟩ = some (.int .i64 id)) :
    Calls Tryz.prog 113 #[.slice (some ⟨b, off, none⟩) l.length cap, .func (.func 114) #[] #[.pointer (some ⟨B, 0, none⟩)]] w fun e w' => e = .returned (.bool (Cv.has l id)) ∧ Below w.heap.size w w' := by
  go_enter Tryz.func113, Tryz.ntmps113
  go_wp2_with fail
  refine (indexFunc_any b off cap B id l w hn' hl hc).mono ?_
  rintro e w2 ⟨⟨r, rfl, hr⟩, hb⟩
  have Hr := hide hr
  clear hr
  simp only []
  go_wp2
  go_ret
  exact ⟨ret_bool Hr.out, hb⟩

theorem hasID_any (b off cap n : Nat) (id : Int) (l : List Cv.Lot) (w : World) (hn : Hid (l.length = n)) (hn' : n ≤ 1000) (hl : Hid (LotsAt w b off l)) :
    Calls Tryz.prog 81 #[.slice (some ⟨b, off, none⟩) n cap, .int .i64 id] w fun e w' => e = .returned (.bool (Cv.has l id)) ∧ Below w.heap.size w w' := by
  have HC := hide (contains_any b off cap w.heap.size id l (w.alloc (.cells #[.int .i64 id] 3)) (by rw [hn.out]; exact hn') (hl.out.later ((Below.refl _ _).alloc (Nat.le_refl _) _)) (by simp))
  rw [hn.out] at HC
  go_enter Tryz.func81, Tryz.ntmps81
  go_wp2_with fail
  refine HC.out.mono ?_
  rintro e w2 ⟨rfl, hb⟩
  have HB := hide hb
  clear hb
  simp only []
  go_wp2
  go_ret
  exact ⟨rfl, ((Below.refl _ _).alloc (Nat.le_refl _) _).trans (HB.out.mono (by simp))⟩

theorem LotsAt.take {w : World} {b off : Nat} {l : List Cv.Lot} (h : LotsAt w b off l) (k : Nat) : LotsAt w b off (l.take k) := by
  intro i hi
  rw [List.length_take] at hi
  rw [Cv.nth_take (by omega)]
  exact h i (by omega)
theorem LotsAt.drop {w : World} {b off : Nat} {l : List Cv.Lot} (h : LotsAt w b off l) (k : Nat) : LotsAt w b (off + k * 5) (l.drop k) := by
  intro i hi
  rw [List.length_drop] at hi
  rw [Cv.nth_drop]
  have := h (k + i) (by omega)
  rw [show off + (k + i) * 5 = off + k * 5 + i * 5 by omega] at this
  exact this
end Go.Proofs.YtjdnahmdicamdaaGreatDoor
