/- errors.As at an api.Fault: true, and the target is set. -/
import Derived.WalkSpells
import Derived.WalkLawsBesides
import Derived.Laws.BitsAllLaws
import Derived.Deep.Light
import Derived.Deep.QuietTactic
import Derived.BigQuiet
import Derived.Test.YtbkjjknlphlhlaaDoorZ02
namespace Go.Proofs.YtbkjjknlphlhlaaDoor
open Go.RowKit Go.Extern.Stop Go.Stop Go.Extern
set_option maxRecDepth 100000

theorem eElem : entryOf Tryd.f67 = ReflectliteValue.method (ReflectliteValue.valueError "reflectlite.Value.Elem" 0) ReflectliteValue.elem := by kernel_rfl
theorem eSet : entryOf Tryd.f68 = ReflectliteValue.set := by kernel_rfl
theorem aElemOf65 (w : World) : (Rtype.elem? 69).run Tryd.prog w = .ok (some 56) w := by kernel_rfl
theorem aMk29 (p : Addr) (w : World) : (ReflectliteValue.mk 56 p ReflectliteValue.flagAddr).run Tryd.prog w = .ok (.agg #[.pointer (some ⟨13, 56, none⟩), .pointer (some p), .int .u64 406]) w := by kernel_rfl
theorem aElemV (a p : Addr) (W : World) (ha : W.cell? a = some (.pointer (some p))) :
    (entryOf Tryd.f67 #[.agg #[.pointer (some ⟨13, 69, none⟩), .pointer (some a), .int .u64 150]]).run Tryd.prog W
      = .ok (.agg #[.pointer (some ⟨13, 56, none⟩), .pointer (some p), .int .u64 406]) W := by
  rw [eElem, rlm]
  simp only [Sem.run_bind, aParts65, Result.andThen]
  simp [ReflectliteValue.elem, loadVar, isAgg, underlying, Tryd.underlying69, ha, Result.andThen, aElemOf65, aMk29]
theorem aParts29a (a : Addr) (w : World) : (ReflectliteValue.parts (.agg #[.pointer (some ⟨13, 56, none⟩), .pointer (some a), .int .u64 406])).run Tryd.prog w = .ok (some (56, a, 406)) w := by kernel_rfl
theorem aParts29 (a : Addr) (w : World) : (ReflectliteValue.parts (.agg #[.pointer (some ⟨13, 56, none⟩), .pointer (some a), .int .u64 150])).run Tryd.prog w = .ok (some (56, a, 150)) w := by kernel_rfl
theorem aDirect29 (w : World) : (Rtype.directlyAssignable 56 56).run Tryd.prog w = .ok true w := by kernel_rfl
theorem by_parts {α : Type} {m : Sem Value} {a b : Sem α} {W : World} {r : Result Value} (K : α → α → Sem Value) (h : m = (a >>= fun p => b >>= fun q => K p q))
    (hr : (a >>= fun p => b >>= fun q => K p q).run Tryd.prog W = r) : m.run Tryd.prog W = r := by rw [h]; exact hr
theorem aSet (ta b e : Addr) (old : Value) (W : World) (hb : W.cell? b = some (.pointer (some e))) (ht : W.cell? ta = some old) (hf : W.frozen? ta = false) :
    (entryOf Tryd.f68 #[.agg #[.pointer (some ⟨13, 56, none⟩), .pointer (some ta), .int .u64 406], .agg #[.pointer (some ⟨13, 56, none⟩), .pointer (some b), .int .u64 150]]).run Tryd.prog W
      = .ok (.tuple #[]) (W.setCell ta (.pointer (some e))) := by
  rw [eSet]
  refine by_parts (a := ReflectliteValue.parts (.agg #[.pointer (some ⟨13, 56, none⟩), .pointer (some ta), .int .u64 406])) (b := ReflectliteValue.parts (.agg #[.pointer (some ⟨13, 56, none⟩), .pointer (some b), .int .u64 150])) _ rfl ?_
  simp only [Sem.run_bind, aParts29a, aParts29, Result.andThen]
  simp [ReflectliteValue.flagAddr, loadVar, isAgg, underlying, Tryd.underlying56, hb, Result.andThen, aDirect29, storeVar, Value.cells, storeCells, Addr.add]
  rw [run_store Tryd.prog W ta _ _ (by rfl)]
  simp [ht, hf]

set_option maxHeartbeats 4000000 in
theorem as_hit (e t : Addr) (old : Value) (w : World) (hg : w.cell? ⟨12, 0, none⟩ = some (.iface 124 (.agg #[.pointer (some ⟨13, 27, none⟩)]))) (ht0 : w.cell? t = some old) (hf0 : w.frozen? t = false) :
    Calls Tryd.prog 30 #[.iface 56 (.pointer (some e)), .iface 69 (.pointer (some t))] w fun ev w' => ev = .returned (.bool true) ∧ ∃ w1, Below w.heap.size w w1 ∧ w' = w1.setCell t (.pointer (some e)) := by
  have h40 := @run_callFunc_extern Tryd.prog 40 _ (entryOf Tryd.f40) Tryd.func40 (by kernel_rfl) (by kernel_rfl) (by kernel_rfl) (by kernel_rfl)
  have h41 := @run_callFunc_extern Tryd.prog 41 _ (entryOf Tryd.f41) Tryd.func41 (by kernel_rfl) (by kernel_rfl) (by kernel_rfl) (by kernel_rfl)
  have h42 := @run_callFunc_extern Tryd.prog 42 _ (entryOf Tryd.f42) Tryd.func42 (by kernel_rfl) (by kernel_rfl) (by kernel_rfl) (by kernel_rfl)
  have h66 := @run_callFunc_extern Tryd.prog 89 _ (entryOf Tryd.f89) Tryd.func89 (by kernel_rfl) (by kernel_rfl) (by kernel_rfl) (by kernel_rfl)
  have h78 := @run_callFunc_extern Tryd.prog 100 _ (entryOf Tryd.f100) Tryd.func100 (by kernel_rfl) (by kernel_rfl) (by kernel_rfl) (by kernel_rfl)
  have h79 := @run_callFunc_extern Tryd.prog 101 _ (entryOf Tryd.f101) Tryd.func101 (by kernel_rfl) (by kernel_rfl) (by kernel_rfl) (by kernel_rfl)
  have h44 := @run_callFunc_extern Tryd.prog 44 _ (entryOf Tryd.f44) Tryd.func44 (by kernel_rfl) (by kernel_rfl) (by kernel_rfl) (by kernel_rfl)
  have h76 := @run_callFunc_extern Tryd.prog 98 _ (entryOf Tryd.f98) Tryd.func98 (by kernel_rfl) (by kernel_rfl) (by kernel_rfl) (by kernel_rfl)
  have h50 := @run_callFunc_extern Tryd.prog 67 _ (entryOf Tryd.f67) Tryd.func67 (by kernel_rfl) (by kernel_rfl) (by kernel_rfl) (by kernel_rfl)
  have h51 := @run_callFunc_extern Tryd.prog 68 _ (entryOf Tryd.f68) Tryd.func68 (by kernel_rfl) (by kernel_rfl) (by kernel_rfl) (by kernel_rfl)
  have f40 := aValueOf
  have f41 := aType
  have mK := aMethodKind
  have k65 := aKind65
  have k29 := aKind29
  have mE := aMethodElem
  have mI := aMethodImplements
  have mA := aMethodAssignable
  have e65 := aElem65
  have i29 := aImplements
  have tO := aTypeOf29
  have a29 := aAssignable29
  have v29 := aValueOf29
  have hlt := World.block_lt_of_cell? _ _ hg
  have hlt : 12 < w.heap.size := hlt
  have n42 := aIsNil ⟨w.heap.size, 0, none⟩ t ((w.alloc (.cells #[.pointer (some t)] 69)).alloc (.cells #[.pointer (some ⟨13, 69, none⟩), .pointer (some ⟨w.heap.size, 0, none⟩), .int .u64 150] 93)) (by simp)
  have hg2 : ((w.alloc (.cells #[.pointer (some t)] 69)).alloc (.cells #[.pointer (some ⟨13, 69, none⟩), .pointer (some ⟨w.heap.size, 0, none⟩), .int .u64 150] 93)).cell? ⟨12, 0, none⟩ = some (.iface 124 (.agg #[.pointer (some ⟨13, 27, none⟩)])) := by
    rw [World.cell?_alloc_lt _ _ ⟨12, 0, none⟩ (by simp; omega), World.cell?_alloc_lt _ _ ⟨12, 0, none⟩ hlt]; exact hg
  have htl := World.block_lt_of_cell? _ _ ht0
  have el := aElemV ⟨w.heap.size, 0, none⟩ t (((w.alloc (.cells #[.pointer (some t)] 69)).alloc (.cells #[.pointer (some ⟨13, 69, none⟩), .pointer (some ⟨w.heap.size, 0, none⟩), .int .u64 150] 93)).alloc (.cells #[.pointer (some ⟨13, 69, none⟩), .pointer (some ⟨w.heap.size, 0, none⟩), .int .u64 150] 93)) (by rw [World.cell?_alloc_lt _ _ ⟨w.heap.size, 0, none⟩ (by simp; omega)]; simp)
  have st := aSet t ⟨w.heap.size + 1 + 1 + 1, 0, none⟩ e old ((((w.alloc (.cells #[.pointer (some t)] 69)).alloc (.cells #[.pointer (some ⟨13, 69, none⟩), .pointer (some ⟨w.heap.size, 0, none⟩), .int .u64 150] 93)).alloc (.cells #[.pointer (some ⟨13, 69, none⟩), .pointer (some ⟨w.heap.size, 0, none⟩), .int .u64 150] 93)).alloc (.cells #[.pointer (some e)] 56))
    (by rw [World.cell?_alloc_at _ _ _ _ (by simp)]; rfl)
    (by rw [World.cell?_alloc_lt _ _ t (by simp; omega), World.cell?_alloc_lt _ _ t (by simp; omega), World.cell?_alloc_lt _ _ t (by simp; omega), World.cell?_alloc_lt _ _ t htl]; exact ht0)
    (by rw [World.frozen?_alloc_old _ _ t (by simp; omega), World.frozen?_alloc_old _ _ t (by simp; omega), World.frozen?_alloc_old _ _ t (by simp; omega), World.frozen?_alloc_old _ _ t (Nat.ne_of_lt htl)]; exact hf0)
  go_enter Tryd.func30, Tryd.ntmps30
  go_wp2
  refine wp_loop_rounds 1 ?_
  rw [rounds_succ]
  go_wp2
  go_ret
  refine ⟨rfl, ((((w.alloc (.cells #[.pointer (some t)] 69)).alloc (.cells #[.pointer (some ⟨13, 69, none⟩), .pointer (some ⟨w.heap.size, 0, none⟩), .int .u64 150] 93)).alloc (.cells #[.pointer (some ⟨13, 69, none⟩), .pointer (some ⟨w.heap.size, 0, none⟩), .int .u64 150] 93)).alloc (.cells #[.pointer (some e)] 56)), ?_, rfl⟩
  exact ((((Below.refl _ _).alloc (Nat.le_refl _) _).alloc (by simp) _).alloc (by simp; omega) _).alloc (by simp; omega) _
end Go.Proofs.YtbkjjknlphlhlaaDoor
namespace Go.Proofs.YtbkjjknlphlhlaaDoor
namespace Wi

/-- one bit of the sum -/
def bit (r : Nat) : Nat := if r % 2 = 1 then (r / 2) ^^^ 3988292384 else r / 2
def bits : Nat → Nat → Nat
  | 0, r => r
  | n + 1, r => bits n (bit r)
def byte (r b : Nat) : Nat := bits 8 (r ^^^ b)
def run (l : List UInt8) (r : Nat) : Nat := l.foldl (fun r b => byte r b.toNat) r
def sum (l : List UInt8) : Nat := run l 4294967295 ^^^ 4294967295

theorem xor_lt {a b : Nat} (ha : a < 4294967296) (hb : b < 4294967296) : a ^^^ b < 4294967296 := by
  have := Nat.xor_lt_two_pow (n := 32) (x := a) (y := b) (by simpa using ha) (by simpa using hb)
  simpa using this
theorem bit_lt {r : Nat} (h : r < 4294967296) : bit r < 4294967296 := by
  unfold bit; split
  · exact xor_lt (by omega) (by decide)
  · omega
theorem bits_lt : ∀ (n : Nat) {r : Nat}, r < 4294967296 → bits n r < 4294967296
  | 0, _, h => h
  | n + 1, _, h => bits_lt n (bit_lt h)
theorem bits_succ : ∀ (n r : Nat), bits (n + 1) r = bit (bits n r)
  | 0, _ => rfl
  | n + 1, r => by show bits (n + 1) (bit r) = bit (bits n (bit r)); exact bits_succ n (bit r)
theorem byte_lt {r b : Nat} (h : r < 4294967296) (hb : b < 256) : byte r b < 4294967296 := bits_lt 8 (xor_lt h (by omega))
theorem run_lt : ∀ (l : List UInt8) {r : Nat}, r < 4294967296 → run l r < 4294967296
  | [], _, h => h
  | b :: l, r, h => by
    show run l (byte r b.toNat) < 4294967296
    exact run_lt l (byte_lt h (by have := b.toNat_lt; omega))
theorem run_snoc (l : List UInt8) (b : UInt8) (r : Nat) : run (l ++ [b]) r = byte (run l r) b.toNat := by
  simp [run, List.foldl_append]
theorem sum_lt (l : List UInt8) : sum l < 4294967296 := xor_lt (run_lt l (by decide)) (by decide)

/-- the checks of a request -/
def withinB (x lo hi : Int) : Bool := decide (lo ≤ x) && decide (x ≤ hi)
def kindB (k : Int) : Bool := k == 108 || k == 104 || k == 111 || k == 99 || k == 113
def boundB (k c sq it sd pr q id : Int) : Bool :=
  withinB c 0 5 && withinB sq 0 1073741824 && withinB id 0 1073741824 &&
    (if k == 111 then withinB it 0 2 && withinB sd 0 1 && withinB pr 1 1000 && withinB q 1 1000 else if k == 99 then withinB it 0 2 else true)
def shapeB (k it sd pr q id : Int) : Bool :=
  if k == 111 then true else if k == 99 then sd == 0 && pr == 0 && q == 0 else it == 0 && sd == 0 && pr == 0 && q == 0 && id == 0
/-- the number of the error of a request, 0 for none -/
def code (k c sq it sd pr q id : Int) : Nat :=
  if kindB k then if boundB k c sq it sd pr q id then if shapeB k it sd pr q id then 0 else 3 else 2 else 4

end Wi
end Go.Proofs.YtbkjjknlphlhlaaDoor
namespace Go.Proofs.YtbkjjknlphlhlaaDoor
open Go.RowKit

theorem ret_bool {a b : Bool} (h : a = b) : Ending.returned (.bool a) = .returned (.bool b) := by rw [h]
theorem ret_int {k : IntKind} {a b : Int} (h : a = b) : Ending.returned (.int k a) = .returned (.int k b) := by rw [h]

set_option maxHeartbeats 400000 in
theorem within_any (x lo hi : Int) (w : World) :
    Calls Tryd.prog 21 #[.int .i64 x, .int .i64 lo, .int .i64 hi] w fun e w' => e = .returned (.bool (Wi.withinB x lo hi)) ∧ w' = w := by
  by_cases h : lo ≤ x
  · go_enter Tryd.func21, Tryd.ntmps21
    go_wp2
    go_ret
    exact ⟨ret_bool (by simp [Wi.withinB, h]), rfl⟩
  · have h' : decide (lo ≤ x) = false := by simpa using h
    go_enter Tryd.func21, Tryd.ntmps21
    go_wp2
    go_ret
    exact ⟨ret_bool (by simp [Wi.withinB, h']), rfl⟩

theorem isClB_any (n : Int) (w : World) : Calls Tryd.prog 64 #[.int .i64 n] w fun e w' => e = .returned (.bool (Wi.withinB n 0 5)) ∧ w' = w := by
  go_enter Tryd.func64, Tryd.ntmps64
  go_wp2_with fail
  refine (within_any n 0 5 w).mono ?_
  rintro e w2 ⟨rfl, rfl⟩
  simp only []
  go_wp2
  go_ret
  exact ⟨rfl, rfl⟩

theorem bcell {W w1 : World} (hb : Below W.heap.size W w1) : (∀ b o, b < W.heap.size → w1.cell? ⟨b, o, none⟩ = W.cell? ⟨b, o, none⟩) ∧ (∀ b o, b < W.heap.size → w1.frozen? ⟨b, o, none⟩ = W.frozen? ⟨b, o, none⟩) :=
  ⟨fun b o h => hb.cell (p := ⟨b, o, none⟩) h, fun b o h => hb.frozen (p := ⟨b, o, none⟩) h⟩

end Go.Proofs.YtbkjjknlphlhlaaDoor
namespace Go.Proofs.YtbkjjknlphlhlaaDoor
open Go.RowKit

theorem hide {p : Prop} (h : p) : Hid p := h
theorem take_snoc (s : ByteArray) (k : Nat) (h : k < s.size) : s.data.toList.take (k + 1) = s.data.toList.take k ++ [s[k]] := by
  rw [List.take_succ_eq_append_getElem (by simpa using h)]; rfl

theorem and_one (z : Nat) (hz : z < 4294967296) : bits .and .u32 (z : Int) 1 = ((z % 2 : Nat) : Int) := by
  rw [show (1 : Int) = ((1 : Nat) : Int) from rfl, u32_and_nat z 1 hz (by decide), Nat.and_one_is_mod]
theorem bit_one (z : Nat) (hz : z < 4294967296) (h : (bits .and .u32 (z : Int) 1 == 1) = true) : bits .xor .u32 ((z : Int) / 2) 3988292384 = (Wi.bit z : Int) := by
  rw [and_one z hz, beq_iff_eq] at h
  have h2 : z % 2 = 1 := by omega
  rw [show ((z : Int) / 2) = ((z / 2 : Nat) : Int) from by omega, show (3988292384 : Int) = ((3988292384 : Nat) : Int) from rfl, u32_xor_nat (z / 2) 3988292384 (by omega) (by decide)]
  simp [Wi.bit, h2]
theorem bit_zero (z : Nat) (hz : z < 4294967296) (h : (bits .and .u32 (z : Int) 1 == 1) = false) : ((z : Int) / 2) = (Wi.bit z : Int) := by
  rw [and_one z hz, beq_eq_false_iff_ne] at h
  have h2 : ¬ z % 2 = 1 := by omega
  simp [Wi.bit, h2]
theorem val_int {k : IntKind} {a b : Int} (h : a = b) : Value.int k a = .int k b := by rw [h]

end Go.Proofs.YtbkjjknlphlhlaaDoor
namespace Go.Proofs.YtbkjjknlphlhlaaDoor
namespace Cv

structure Lot where
  id : Int
  ow : Int
  sd : Int
  pr : Int
  q : Int

def z : Lot := ⟨0, 0, 0, 0, 0⟩
def nth (l : List Lot) (i : Nat) : Lot := l.getD i z
def ok (x : Lot) : Bool := Wi.withinB x.id 1 1073741824 && Wi.withinB x.ow 0 5 && Wi.withinB x.sd 0 1 && Wi.withinB x.pr 1 1000 && Wi.withinB x.q 1 1000
def has (l : List Lot) (id : Int) : Bool := l.any fun x => x.id == id
def okAt (l : List Lot) (i : Nat) : Bool := ok (nth l i) && !has (l.take i) (nth l i).id
def WellTo (l : List Lot) (k : Nat) : Prop := ∀ i, i < k → okAt l i = true
def Well (l : List Lot) : Prop := l.length ≤ 120 ∧ WellTo l l.length
def Oks (l : List Lot) : Prop := ∀ x ∈ l, ok x = true

theorem nth_mem {l : List Lot} {i : Nat} (h : i < l.length) : nth l i ∈ l := by
  unfold nth; rw [List.getD_eq_getElem?_getD, List.getElem?_eq_getElem h]; exact List.getElem_mem h
theorem take_succ {l : List Lot} {i : Nat} (h : i < l.length) : l.take (i + 1) = l.take i ++ [nth l i] := by
  unfold nth; rw [List.take_succ_eq_append_getElem h, List.getD_eq_getElem?_getD, List.getElem?_eq_getElem h]; rfl
theorem nth_drop (l : List Lot) (k i : Nat) : nth (l.drop k) i = nth l (k + i) := by
  unfold nth; rw [List.getD_eq_getElem?_getD, List.getD_eq_getElem?_getD, List.getElem?_drop]
theorem nth_take {l : List Lot} {k i : Nat} (h : i < k) : nth (l.take k) i = nth l i := by
  unfold nth; rw [List.getD_eq_getElem?_getD, List.getD_eq_getElem?_getD, List.getElem?_take_of_lt h]

theorem verdict_upto (l : List Lot) : ∀ k, k ≤ l.length → WellTo l k ∨ ∃ i, i < l.length ∧ WellTo l i ∧ okAt l i = false
  | 0, _ => .inl fun i hi => absurd hi (Nat.not_lt_zero i)
  | k + 1, h => by
    rcases verdict_upto l k (by omega) with h1 | h1
    · cases hk : okAt l k
      · exact .inr ⟨k, by omega, h1, hk⟩
      · refine .inl fun i hi => ?_
        by_cases e : i = k
        · rw [e]; exact hk
        · exact h1 i (by omega)
    · exact .inr h1
theorem verdict (l : List Lot) : 120 < l.length ∨ Well l ∨ (l.length ≤ 120 ∧ ∃ i, i < l.length ∧ WellTo l i ∧ okAt l i = false) := by
  by_cases h : 120 < l.length
  · exact .inl h
  · rcases verdict_upto l l.length (Nat.le_refl _) with h1 | h1
    · exact .inr (.inl ⟨by omega, h1⟩)
    · exact .inr (.inr ⟨by omega, h1⟩)

theorem ok_bounds {x : Lot} (h : ok x = true) : (1 ≤ x.id ∧ x.id ≤ 1073741824) ∧ (0 ≤ x.ow ∧ x.ow ≤ 5) ∧ (0 ≤ x.sd ∧ x.sd ≤ 1) ∧ (1 ≤ x.pr ∧ x.pr ≤ 1000) ∧ (1 ≤ x.q ∧ x.q ≤ 1000) := by
  simp only [ok, Wi.withinB, Bool.and_eq_true, decide_eq_true_eq] at h
  omega

theorem Well.oks {l : List Lot} (h : Well l) : Oks l := by
  intro x hx
  obtain ⟨i, hi, rfl⟩ := List.mem_iff_getElem.1 hx
  have := h.2 i hi
  simp only [okAt, Bool.and_eq_true] at this
  have e : nth l i = l[i] := by unfold nth; rw [List.getD_eq_getElem?_getD, List.getElem?_eq_getElem hi]; rfl
  rw [← e]; exact this.1
theorem Well.take {l : List Lot} (h : Well l) (k : Nat) : Well (l.take k) := by
  refine ⟨by rw [List.length_take]; have := h.1; omega, fun i hi => ?_⟩
  rw [List.length_take] at hi
  have := h.2 i (by omega)
  unfold okAt at this ⊢
  rwa [nth_take (by omega), List.take_take, Nat.min_eq_left (by omega)]
theorem has_mono {a b : List Lot} {id : Int} (h : ∀ x ∈ a, x ∈ b) (hb : has b id = false) : has a id = false := by
  unfold has at *
  rw [List.any_eq_false] at *
  exact fun x hx => hb x (h x hx)
theorem Well.drop {l : List Lot} (h : Well l) (k : Nat) : Well (l.drop k) := by
  refine ⟨by rw [List.length_drop]; have := h.1; omega, fun i hi => ?_⟩
  rw [List.length_drop] at hi
  have := h.2 (k + i) (by omega)
  unfold okAt at this ⊢
  rw [nth_drop]
  simp only [Bool.and_eq_true, Bool.not_eq_true'] at this ⊢
  refine ⟨this.1, has_mono (fun x hx => ?_) this.2⟩
  rw [List.take_drop] at hx
  exact List.mem_of_mem_drop hx

def sumIf (f : Lot → Bool) : List Lot → Int
  | [] => 0
  | x :: l => (if f x = true then x.q else 0) + sumIf f l
theorem sumIf_append (f : Lot → Bool) : ∀ a b : List Lot, sumIf f (a ++ b) = sumIf f a + sumIf f b
  | [], b => by simp [sumIf]
  | x :: a, b => by simp [sumIf, sumIf_append f a b]; omega
theorem sumIf_split (f : Lot → Bool) (l : List Lot) (k : Nat) : sumIf f l = sumIf f (l.take k) + sumIf f (l.drop k) := by
  rw [← sumIf_append, List.take_append_drop]
theorem sumIf_step (f : Lot → Bool) {l : List Lot} {k : Nat} (h : k < l.length) : sumIf f (l.take (k + 1)) = sumIf f (l.take k) + if f (nth l k) = true then (nth l k).q else 0 := by
  rw [take_succ h, sumIf_append]; simp [sumIf]
theorem sumIf_bounds (f : Lot → Bool) : ∀ l : List Lot, Oks l → 0 ≤ sumIf f l ∧ sumIf f l ≤ 1000 * l.length
  | [], _ => by simp [sumIf]
  | x :: l, h => by
    have ih := sumIf_bounds f l (fun y hy => h y (List.mem_cons_of_mem _ hy))
    have hx := (ok_bounds (h x List.mem_cons_self)).2.2.2.2
    simp only [sumIf, List.length_cons]
    split <;> omega
theorem Oks.take {l : List Lot} (h : Oks l) (k : Nat) : Oks (l.take k) := fun x hx => h x (List.mem_of_mem_take hx)
theorem sumIf_mono {f g : Lot → Bool} : ∀ l : List Lot, Oks l → (∀ x ∈ l, f x = true → g x = true) → sumIf f l ≤ sumIf g l
  | [], _, _ => by simp [sumIf]
  | x :: l, h, hfg => by
    have ih := sumIf_mono (f := f) (g := g) l (fun y hy => h y (List.mem_cons_of_mem _ hy)) (fun y hy => hfg y (List.mem_cons_of_mem _ hy))
    have hx := (ok_bounds (h x List.mem_cons_self)).2.2.2.2
    have hh := hfg x List.mem_cons_self
    simp only [sumIf]
    by_cases e : f x = true
    · rw [if_pos e, if_pos (hh e)]; omega
    · rw [if_neg e]; split <;> omega
theorem sumIf_congr {f g : Lot → Bool} : ∀ l : List Lot, (∀ x ∈ l, f x = g x) → sumIf f l = sumIf g l
  | [], _ => rfl
  | x :: l, h => by
    simp only [sumIf]
    rw [sumIf_congr l (fun y hy => h y (List.mem_cons_of_mem _ hy)), h x List.mem_cons_self]
theorem sumIf_pos {f : Lot → Bool} : ∀ l : List Lot, Oks l → (∃ x ∈ l, f x = true) → 0 < sumIf f l
  | [], _, h => by obtain ⟨x, hx, _⟩ := h; cases hx
  | x :: l, h, hf => by
    have hx := (ok_bounds (h x List.mem_cons_self)).2.2.2.2
    have ho : Oks l := fun y hy => h y (List.mem_cons_of_mem _ hy)
    have hb := (sumIf_bounds f l ho).1
    simp only [sumIf]
    by_cases e : f x = true
    · rw [if_pos e]; omega
    · rw [if_neg e]
      obtain ⟨y, hy, hfy⟩ := hf
      rcases List.mem_cons.1 hy with rfl | hy
      · exact absurd hfy e
      · have := sumIf_pos l ho ⟨y, hy, hfy⟩; omega
theorem sumIf_zero {f : Lot → Bool} (l : List Lot) (h : ∀ x ∈ l, f x = false) : sumIf f l = 0 := by
  rw [sumIf_congr (g := fun _ => false) l h]
  clear h
  induction l with
  | nil => rfl
  | cons x l ih => simp [sumIf, ih]

def dB (p : Int) (x : Lot) : Bool := x.sd == 0 && decide (p ≤ x.pr)
def sB (p : Int) (x : Lot) : Bool := x.sd == 1 && decide (x.pr ≤ p)
def demand (l : List Lot) (p : Int) : Int := sumIf (dB p) l
def supply (l : List Lot) (p : Int) : Int := sumIf (sB p) l

def better (side p than : Int) : Bool := if side = 0 then decide (than < p) else decide (p < than)
def bstep (side b : Int) (x : Lot) : Int := if (x.sd == side && (b == 0 || better side x.pr b)) = true then x.pr else b
def best (side : Int) (l : List Lot) : Int := l.foldl (bstep side) 0
theorem best_step (side : Int) {l : List Lot} {k : Nat} (h : k < l.length) : best side (l.take (k + 1)) = bstep side (best side (l.take k)) (nth l k) := by
  unfold best; rw [take_succ h, List.foldl_append]; rfl

/-- the greatest price of buys -/
theorem best_buy (l : List Lot) (h : Oks l) : (best 0 l = 0 ∧ ∀ x ∈ l, x.sd ≠ 0) ∨ (∃ x ∈ l, x.sd = 0 ∧ x.pr = best 0 l) ∧ (∀ x ∈ l, x.sd = 0 → x.pr ≤ best 0 l) := by
  have key : ∀ k, k ≤ l.length → (best 0 (l.take k) = 0 ∧ ∀ x ∈ l.take k, x.sd ≠ 0) ∨ (∃ x ∈ l.take k, x.sd = 0 ∧ x.pr = best 0 (l.take k)) ∧ (∀ x ∈ l.take k, x.sd = 0 → x.pr ≤ best 0 (l.take k)) := by
    intro k
    induction k with
    | zero => intro _; exact .inl ⟨rfl, fun x hx => by simp at hx⟩
    | succ k ih =>
      intro hk
      have hk : k < l.length := by omega
      have hx := (ok_bounds (h _ (nth_mem hk))).2.2.2.1
      have ih := ih (by omega)
      rw [best_step 0 hk, take_succ hk]
      have hmem : ∀ x ∈ l.take k, x ∈ l := fun x hx => List.mem_of_mem_take hx
      generalize l.take k = t at *
      generalize nth l k = y at *
      unfold bstep better
      by_cases hs : y.sd = 0
      · by_cases hb : best 0 t = 0
        · rw [if_pos (by simp [hs, hb])]
          refine .inr ⟨⟨y, by simp, hs, rfl⟩, fun x hxm hxs => ?_⟩
          rcases List.mem_append.1 hxm with hxm | hxm
          · rcases ih with ⟨_, h2⟩ | ⟨_, h2⟩
            · exact absurd hxs (h2 x hxm)
            · have := h2 x hxm hxs; omega
          · have hxm : x = y := by simpa using hxm
            rw [hxm]; omega
        · by_cases hc : best 0 t < y.pr
          · rw [if_pos (by simp [hs, hc])]
            refine .inr ⟨⟨y, by simp, hs, rfl⟩, fun x hxm hxs => ?_⟩
            rcases List.mem_append.1 hxm with hxm | hxm
            · rcases ih with ⟨_, h2⟩ | ⟨_, h2⟩
              · exact absurd hxs (h2 x hxm)
              · have := h2 x hxm hxs; omega
            · have hxm : x = y := by simpa using hxm
              rw [hxm]; omega
          · rw [if_neg (by simp [hs, hb, hc])]
            rcases ih with ⟨h1, _⟩ | ⟨⟨x, hx1, hx2, hx3⟩, h2⟩
            · exact absurd h1 hb
            · refine .inr ⟨⟨x, List.mem_append_left _ hx1, hx2, hx3⟩, fun x hxm hxs => ?_⟩
              rcases List.mem_append.1 hxm with hxm | hxm
              · exact h2 x hxm hxs
              · have hxm : x = y := by simpa using hxm
                rw [hxm]; omega
      · rw [if_neg (by simp [hs])]
        rcases ih with ⟨h1, h2⟩ | ⟨⟨x, hx1, hx2, hx3⟩, h2⟩
        · refine .inl ⟨h1, fun x hxm => ?_⟩
          rcases List.mem_append.1 hxm with hxm | hxm
          · exact h2 x hxm
          · have hxm : x = y := by simpa using hxm
            rw [hxm]; exact hs
        · refine .inr ⟨⟨x, List.mem_append_left _ hx1, hx2, hx3⟩, fun x hxm hxs => ?_⟩
          rcases List.mem_append.1 hxm with hxm | hxm
          · exact h2 x hxm hxs
          · have hxm : x = y := by simpa using hxm
            rw [hxm] at hxs; exact absurd hxs hs
  have := key l.length (Nat.le_refl _)
  rwa [List.take_length] at this

/-- the least price of sells -/
theorem best_sell (l : List Lot) (h : Oks l) : (best 1 l = 0 ∧ ∀ x ∈ l, x.sd ≠ 1) ∨ (∃ x ∈ l, x.sd = 1 ∧ x.pr = best 1 l) ∧ (∀ x ∈ l, x.sd = 1 → best 1 l ≤ x.pr) := by
  have key : ∀ k, k ≤ l.length → (best 1 (l.take k) = 0 ∧ ∀ x ∈ l.take k, x.sd ≠ 1) ∨ (∃ x ∈ l.take k, x.sd = 1 ∧ x.pr = best 1 (l.take k)) ∧ (∀ x ∈ l.take k, x.sd = 1 → best 1 (l.take k) ≤ x.pr) := by
    intro k
    induction k with
    | zero => intro _; exact .inl ⟨rfl, fun x hx => by simp at hx⟩
    | succ k ih =>
      intro hk
      have hk : k < l.length := by omega
      have ih := ih (by omega)
      rw [best_step 1 hk, take_succ hk]
      have hpos : ∀ x ∈ l.take k, 1 ≤ x.pr := fun x hx => (ok_bounds (h x (List.mem_of_mem_take hx))).2.2.2.1.1
      generalize l.take k = t at *
      generalize nth l k = y at *
      unfold bstep better
      by_cases hs : y.sd = 1
      · by_cases hb : best 1 t = 0
        · rw [if_pos (by simp [hs, hb])]
          refine .inr ⟨⟨y, by simp, hs, rfl⟩, fun x hxm hxs => ?_⟩
          rcases List.mem_append.1 hxm with hxm | hxm
          · rcases ih with ⟨_, h2⟩ | ⟨⟨x', hx1, hx2, hx3⟩, h2⟩
            · exact absurd hxs (h2 x hxm)
            · have := hpos x' hx1; omega
          · have hxm : x = y := by simpa using hxm
            rw [hxm]; omega
        · by_cases hc : y.pr < best 1 t
          · rw [if_pos (by simp [hs, hc])]
            refine .inr ⟨⟨y, by simp, hs, rfl⟩, fun x hxm hxs => ?_⟩
            rcases List.mem_append.1 hxm with hxm | hxm
            · rcases ih with ⟨_, h2⟩ | ⟨_, h2⟩
              · exact absurd hxs (h2 x hxm)
              · have := h2 x hxm hxs; omega
            · have hxm : x = y := by simpa using hxm
              rw [hxm]; omega
          · rw [if_neg (by simp [hs, hb, hc])]
            rcases ih with ⟨h1, _⟩ | ⟨⟨x, hx1, hx2, hx3⟩, h2⟩
            · exact absurd h1 hb
            · refine .inr ⟨⟨x, List.mem_append_left _ hx1, hx2, hx3⟩, fun x hxm hxs => ?_⟩
              rcases List.mem_append.1 hxm with hxm | hxm
              · exact h2 x hxm hxs
              · have hxm : x = y := by simpa using hxm
                rw [hxm]; omega
      · rw [if_neg (by simp [hs])]
        rcases ih with ⟨h1, h2⟩ | ⟨⟨x, hx1, hx2, hx3⟩, h2⟩
        · refine .inl ⟨h1, fun x hxm => ?_⟩
          rcases List.mem_append.1 hxm with hxm | hxm
          · exact h2 x hxm
          · have hxm : x = y := by simpa using hxm
            rw [hxm]; exact hs
        · refine .inr ⟨⟨x, List.mem_append_left _ hx1, hx2, hx3⟩, fun x hxm hxs => ?_⟩
          rcases List.mem_append.1 hxm with hxm | hxm
          · exact h2 x hxm hxs
          · have hxm : x = y := by simpa using hxm
            rw [hxm] at hxs; exact absurd hxs hs
  have := key l.length (Nat.le_refl _)
  rwa [List.take_length] at this

theorem best_range (l : List Lot) (h : Oks l) (side : Int) (hs : side = 0 ∨ side = 1) : 0 ≤ best side l ∧ best side l ≤ 1000 := by
  rcases hs with rfl | rfl
  · rcases best_buy l h with ⟨h1, _⟩ | ⟨⟨x, hx, _, h1⟩, _⟩
    · omega
    · have := (ok_bounds (h x hx)).2.2.2.1; omega
  · rcases best_sell l h with ⟨h1, _⟩ | ⟨⟨x, hx, _, h1⟩, _⟩
    · omega
    · have := (ok_bounds (h x hx)).2.2.2.1; omega
theorem best_other (l : List Lot) (h : Oks l) (side : Int) (h0 : side ≠ 0) (h1 : side ≠ 1) : best side l = 0 := by
  have key : ∀ k, k ≤ l.length → best side (l.take k) = 0 := by
    intro k
    induction k with
    | zero => intro _; rfl
    | succ k ih =>
      intro hk
      have hk : k < l.length := by omega
      rw [best_step side hk, ih (by omega)]
      have := (ok_bounds (h _ (nth_mem hk))).2.2.1
      unfold bstep
      rw [if_neg]
      simp only [Bool.and_eq_true, beq_iff_eq]
      rintro ⟨e, _⟩
      omega
  have := key l.length (Nat.le_refl _)
  rwa [List.take_length] at this

def cross (l : List Lot) : Bool := best 1 l != 0 && decide (best 1 l ≤ best 0 l)
def volume (l : List Lot) (p : Int) : Int := min (demand l p) (supply l p)

theorem cross_volume (l : List Lot) (h : Oks l) : cross l = decide (0 < volume l (best 0 l)) := by
  have hd := (sumIf_bounds (dB (best 0 l)) l h).1
  have hs := (sumIf_bounds (sB (best 0 l)) l h).1
  unfold cross volume demand supply
  rcases best_buy l h with ⟨h1, h2⟩ | ⟨⟨x, hx, hxs, hxp⟩, h2⟩
  · rw [sumIf_zero (f := dB (best 0 l)) l (fun x hx => by simp [dB, h2 x hx])]
    have := (best_range l h 1 (.inr rfl)).1
    rw [Bool.eq_iff_iff]
    simp
    omega
  · have hdp := sumIf_pos (f := dB (best 0 l)) l h ⟨x, hx, by simp [dB, hxs, hxp]⟩
    rcases best_sell l h with ⟨g1, g2⟩ | ⟨⟨y, hy, hys, hyp⟩, g2⟩
    · rw [sumIf_zero (f := sB (best 0 l)) l (fun x hx => by simp [sB, g2 x hx]), g1]
      rw [Bool.eq_iff_iff]
      simp
      omega
    · have hy1 := (ok_bounds (h y hy)).2.2.2.1
      by_cases hc : best 1 l ≤ best 0 l
      · have hsp := sumIf_pos (f := sB (best 0 l)) l h ⟨y, hy, by simp [sB, hys, hyp, hc]⟩
        rw [Bool.eq_iff_iff]
        simp
        omega
      · rw [sumIf_zero (f := sB (best 0 l)) l (fun x hx => by
          by_cases e : x.sd = 1
          · have := g2 x hx e
            simp [sB, e]; omega
          · simp [sB, e])]
        rw [Bool.eq_iff_iff]
        simp
        omega
theorem cross_ref (l : List Lot) (h : Oks l) : cross l = (decide (0 < best 0 l) && (decide (0 < best 1 l) && decide (best 1 l ≤ best 0 l))) := by
  have h0 := (best_range l h 0 (.inl rfl)).1
  have h1 := (best_range l h 1 (.inr rfl)).1
  unfold cross
  rw [Bool.eq_iff_iff]
  simp
  omega
theorem demand_falls (l : List Lot) (h : Oks l) {p q : Int} (hpq : p ≤ q) : demand l q ≤ demand l p :=
  sumIf_mono l h (fun x _ hx => by simp only [dB, Bool.and_eq_true, decide_eq_true_eq] at hx ⊢; exact ⟨hx.1, by omega⟩)
theorem supply_rises (l : List Lot) (h : Oks l) {p q : Int} (hpq : p ≤ q) : supply l p ≤ supply l q :=
  sumIf_mono l h (fun x _ hx => by simp only [sB, Bool.and_eq_true, decide_eq_true_eq] at hx ⊢; exact ⟨hx.1, by omega⟩)
/-- between two prices of lots nothing changes -/
theorem demand_between (l : List Lot) {p q : Int} (hpq : p ≤ q) (hn : ∀ x ∈ l, ¬ (p ≤ x.pr ∧ x.pr ≤ q)) : demand l p = demand l q :=
  sumIf_congr l (fun x hx => by
    have := hn x hx
    unfold dB
    congr 1
    rw [decide_eq_decide]
    omega)
theorem supply_between (l : List Lot) {p q : Int} (hpq : p ≤ q) (hn : ∀ x ∈ l, ¬ (p ≤ x.pr ∧ x.pr ≤ q)) : supply l p = supply l q :=
  sumIf_congr l (fun x hx => by
    have := hn x hx
    unfold sB
    congr 1
    rw [decide_eq_decide]
    omega)
end Cv
end Go.Proofs.YtbkjjknlphlhlaaDoor
namespace Go.Proofs.YtbkjjknlphlhlaaDoor
open Go.RowKit
set_option maxRecDepth 100000

def lotV (x : Cv.Lot) : Value := .agg #[.int .i64 x.id, .int .i64 x.ow, .int .i64 x.sd, .int .i64 x.pr, .int .i64 x.q]

set_option maxHeartbeats 1000000 in
theorem lotOk_any (x : Cv.Lot) (w : World) : Calls Tryd.prog 37 #[lotV x] w fun e w' => e = .returned (.bool (Cv.ok x)) ∧ Below w.heap.size w w' := by
  show Calls Tryd.prog 37 #[.agg #[.int .i64 x.id, .int .i64 x.ow, .int .i64 x.sd, .int .i64 x.pr, .int .i64 x.q]] w _
  go_enter Tryd.func37, Tryd.ntmps37
  go_wp2_with (first | (go_at_call 64; refine (isClB_any _ _).mono ?_; rintro e w' ⟨rfl, rfl⟩) | (go_at_call 21; refine (within_any _ _ _ _).mono ?_; rintro e w' ⟨rfl, rfl⟩))
  all_goals go_ret
  all_goals
    refine ⟨ret_bool ?_, (Below.refl _ _).alloc (Nat.le_refl _) _⟩
    go_light
    simp_all [Cv.ok]

set_option maxHeartbeats 1000000 in
theorem idClos_any (x : Cv.Lot) (B : Nat) (id : Int) (w : World) (hc : w.cell? ⟨B, 0, none⟩ = some (.int .i64 id)) :
    Calls Tryd.prog 66 #[lotV x, .pointer (some ⟨B, 0, none⟩)] w fun e w' => e = .returned (.bool (x.id == id)) ∧ Below w.heap.size w w' := by
  have hB : B < w.heap.size := World.block_lt_of_cell? _ _ hc
  have hne : B ≠ w.heap.size := by omega
  show Calls Tryd.prog 66 #[.agg #[.int .i64 x.id, .int .i64 x.ow, .int .i64 x.sd, .int .i64 x.pr, .int .i64 x.q], .pointer (some ⟨B, 0, none⟩)] w _
  go_enter Tryd.func66, Tryd.ntmps66
  go_wp2
  all_goals go_ret
  all_goals
    refine ⟨ret_bool ?_, (Below.refl _ _).alloc (Nat.le_refl _) _⟩
    first | rfl | simp_all

end Go.Proofs.YtbkjjknlphlhlaaDoor
