/- A run of an operation in one world is matched by its run in another one whose blocks bear other numbers: the relation, and its law. -/
import Derived.Calls
import Derived.Laws.Sem
namespace Go.Proofs.YtbkjjknlphlhlaaDoor
namespace Sim
set_option maxRecDepth 100000

/-- Which block of the great world stands for a block of the small one. -/
abbrev Ren := Nat → Option Nat
def Inj (m : Ren) : Prop := ∀ a b c, m a = some c → m b = some c → a = b
structure Le (m m' : Ren) : Prop where
  app : ∀ b b', m b = some b' → m' b = some b'
  inj : Inj m → Inj m'
theorem Le.refl (m : Ren) : Le m m := ⟨fun _ _ h => h, id⟩
theorem Le.trans {a b c : Ren} (h : Le a b) (k : Le b c) : Le a c := ⟨fun x y z => k.app x y (h.app x y z), fun x => k.inj (h.inj x)⟩

def AR (m : Ren) (a a' : Addr) : Prop := m a.block = some a'.block ∧ a'.off = a.off ∧ a'.spot = a.spot
theorem AR.mono {m m' : Ren} {a a' : Addr} (h : AR m a a') (l : Le m m') : AR m' a a' := ⟨l.app _ _ h.1, h.2⟩
theorem AR.add {m : Ren} {a a' : Addr} (h : AR m a a') (n : Nat) : AR m (a.add n) (a'.add n) := by
  obtain ⟨h1, h2, h3⟩ := h
  unfold Addr.add
  split
  · exact ⟨h1, h2, h3⟩
  · exact ⟨h1, by simp [h2], rfl⟩

/-- A value that nothing need be known of: no block is told by it. -/
def Odd : Value → Prop
  | .agg _ | .bool _ | .int _ _ | .string _ | .nilIface | .nilFunc | .chan _ | .pointer none | .slice none _ _ | .map none | .func _ _ _ => False
  | _ => True
/-- Two values that are alike but for the numbers of blocks; a function value is one of S. -/
inductive VR (S : FuncId → Bool) (m : Ren) : Value → Value → Prop
  | bool (b) : VR S m (.bool b) (.bool b)
  | int (k n) : VR S m (.int k n) (.int k n)
  | string (s) : VR S m (.string s) (.string s)
  | nilp : VR S m (.pointer none) (.pointer none)
  | ptr {a a'} (h : AR m a a') : VR S m (.pointer (some a)) (.pointer (some a'))
  | nils (l c) : VR S m (.slice none l c) (.slice none l c)
  | slice {a a'} (l c) (h : AR m a a') : VR S m (.slice (some a) l c) (.slice (some a') l c)
  | ghost {a} : VR S m (.slice (some a) 0 0) (.slice (some a) 0 0)
  | chan (r) : VR S m (.chan r) (.chan r)
  | func {f} {c c' : Array Value} (hs : S f = true) (hz : c.size = c'.size) (hc : ∀ i, i < c.size → VR S m (c.getD i (.tuple #[])) (c'.getD i (.tuple #[]))) : VR S m (.func (.func f) #[] c) (.func (.func f) #[] c')
  | nilFunc : VR S m .nilFunc .nilFunc
  | nilIface : VR S m .nilIface .nilIface
  | iface (t) {v v'} (h : VR S m v v') : VR S m (.iface t v) (.iface t v')
  | agg {c c' : Array Value} (hz : c.size = c'.size) (hc : ∀ i, i < c.size → VR S m (c.getD i (.tuple #[])) (c'.getD i (.tuple #[]))) : VR S m (.agg c) (.agg c')
  | tuple {c c' : Array Value} (hz : c.size = c'.size) (hc : ∀ i, i < c.size → VR S m (c.getD i (.tuple #[])) (c'.getD i (.tuple #[]))) : VR S m (.tuple c) (.tuple c')
  | nilMap : VR S m (.map none) (.map none)
  | hole {v'} (h : Odd v') : VR S m (.tuple #[]) v'
  | jfunc (f a c) : VR S m (.func (.method "") #[.nilIface, .func f a c] #[]) (.func f a c)

/-- Rows of values, place by place. -/
def VRs (S : FuncId → Bool) (m : Ren) (c c' : Array Value) : Prop := c.size = c'.size ∧ ∀ i, i < c.size → VR S m (c.getD i (.tuple #[])) (c'.getD i (.tuple #[]))

section
variable {S : FuncId → Bool} {m m' : Ren}
theorem VR.mono {v v' : Value} (h : VR S m v v') (l : Le m m') : VR S m' v v' := by
  induction h with
  | ptr h => exact .ptr (h.mono l)
  | slice a b h => exact .slice _ _ (h.mono l)
  | func hs hz _ ih => exact .func hs hz fun i hi => ih i hi
  | iface t _ ih => exact .iface t ih
  | agg hz _ ih => exact .agg hz fun i hi => ih i hi
  | tuple hz _ ih => exact .tuple hz fun i hi => ih i hi
  | hole h => exact .hole h
  | ghost => exact .ghost
  | _ => constructor
theorem VRs.mono {c c' : Array Value} (h : VRs S m c c') (l : Le m m') : VRs S m' c c' := ⟨h.1, fun i hi => (h.2 i hi).mono l⟩
theorem VR.undef : VR S m (.tuple #[]) (.tuple #[]) := .tuple rfl fun i hi => absurd hi (by simp)
theorem VRs.getD {c c' : Array Value} (h : VRs S m c c') (i : Nat) : VR S m (c.getD i (.tuple #[])) (c'.getD i (.tuple #[])) := by
  by_cases hi : i < c.size
  · exact h.2 i hi
  · have e1 : c.getD i (.tuple #[]) = .tuple #[] := by simp [Array.getD, hi]
    have e2 : c'.getD i (.tuple #[]) = .tuple #[] := by simp [Array.getD, h.1 ▸ hi]
    rw [e1, e2]; exact .undef
theorem VRs.get? {c c' : Array Value} (h : VRs S m c c') {i : Nat} {v : Value} (hv : c[i]? = some v) : ∃ v', c'[i]? = some v' ∧ VR S m v v' := by
  obtain ⟨hi, rfl⟩ := Array.getElem?_eq_some_iff.1 hv
  have := h.2 i hi
  have hi' : i < c'.size := h.1 ▸ hi
  refine ⟨c'[i], Array.getElem?_eq_getElem hi', ?_⟩
  simpa [Array.getD, hi, hi'] using this
theorem VRs.none {c c' : Array Value} (h : VRs S m c c') {i : Nat} (hv : c[i]? = none) : c'[i]? = none := by
  rw [Array.getElem?_eq_none_iff] at hv ⊢; exact h.1 ▸ hv
theorem VRs.empty : VRs S m #[] #[] := ⟨rfl, fun i hi => absurd hi (by simp)⟩
theorem VRs.push {c c' : Array Value} {v v' : Value} (h : VRs S m c c') (hv : VR S m v v') : VRs S m (c.push v) (c'.push v') := by
  refine ⟨by simp [h.1], fun i hi => ?_⟩
  by_cases hi2 : i < c.size
  · have := h.2 i hi2
    have hi' : i < c'.size := h.1 ▸ hi2
    have a1 : i < c.size + 1 := by omega
    have a2 : i < c'.size + 1 := by omega
    simpa [Array.getD, hi2, hi', a1, a2, Array.getElem_push] using this
  · have e : i = c.size := by simp at hi; omega
    subst e
    have := h.1
    simp [Array.getD, h.1, Array.getElem_push]
    exact hv
theorem VRs.of_mem {c c' : Array Value} (hz : c.size = c'.size) (h : ∀ (i : Nat) (v v' : Value), c[i]? = some v → c'[i]? = some v' → VR S m v v') : VRs S m c c' := by
  refine ⟨hz, fun i hi => ?_⟩
  have hi' : i < c'.size := hz ▸ hi
  have := h i c[i] c'[i] (Array.getElem?_eq_getElem hi) (Array.getElem?_eq_getElem hi')
  simpa [Array.getD, hi, hi'] using this
theorem VRs.set {c c' : Array Value} {v v' : Value} (h : VRs S m c c') (hv : VR S m v v') (j : Nat) : VRs S m (c.setIfInBounds j v) (c'.setIfInBounds j v') := by
  refine .of_mem (by simp [h.1]) fun i x x' hx hx' => ?_
  rw [Array.getElem?_setIfInBounds] at hx hx'
  split at hx
  · next e =>
    subst e
    simp only [if_true] at hx'
    split at hx <;> split at hx'
    · cases hx; cases hx'; exact hv
    · cases hx'
    · cases hx
    · cases hx
  · next e =>
    simp only [if_neg e] at hx'
    obtain ⟨y, hy, hr⟩ := h.get? hx
    rw [hx'] at hy; cases hy; exact hr
theorem VRs.append {a a' b b' : Array Value} (h : VRs S m a a') (k : VRs S m b b') : VRs S m (a ++ b) (a' ++ b') := by
  refine .of_mem (by simp [h.1, k.1]) fun i x x' hx hx' => ?_
  rw [Array.getElem?_append] at hx hx'
  split at hx
  · next e =>
    rw [if_pos (h.1 ▸ e)] at hx'
    obtain ⟨y, hy, hr⟩ := h.get? hx
    rw [hx'] at hy; cases hy; exact hr
  · next e =>
    rw [if_neg (h.1 ▸ e), ← h.1] at hx'
    obtain ⟨y, hy, hr⟩ := k.get? hx
    rw [hx'] at hy; cases hy; exact hr
theorem VRs.replicate (n : Nat) {v v' : Value} (hv : VR S m v v') : VRs S m (Array.replicate n v) (Array.replicate n v') :=
  .of_mem (by simp) fun i x x' hx hx' => by
    rw [Array.getElem?_replicate] at hx hx'
    split at hx
    · next e => rw [if_pos e] at hx'; cases hx; cases hx'; exact hv
    · cases hx
theorem VRs.extract {a a' : Array Value} (h : VRs S m a a') (i j : Nat) : VRs S m (a.extract i j) (a'.extract i j) := by
  refine .of_mem (by simp [h.1]) fun k x x' hx hx' => ?_
  rw [Array.getElem?_extract] at hx hx'
  rw [← h.1] at hx'
  split at hx
  · next e =>
    rw [if_pos e] at hx'
    obtain ⟨y, hy, hr⟩ := h.get? hx
    rw [hx'] at hy; cases hy; exact hr
  · cases hx
theorem VR.cells {v v' : Value} (h : VR S m v v') : VRs S m v.cells v'.cells := by
  cases h with
  | agg hz hc => exact ⟨hz, hc⟩
  | bool b => exact .push .empty (.bool b)
  | int k n => exact .push .empty (.int k n)
  | string s => exact .push .empty (.string s)
  | nilp => exact .push .empty .nilp
  | ptr h => exact .push .empty (.ptr h)
  | nils l c => exact .push .empty (.nils l c)
  | slice l c h => exact .push .empty (.slice l c h)
  | ghost => exact .push .empty .ghost
  | chan r => exact .push .empty (.chan r)
  | func hs hz hc => exact .push .empty (.func hs hz hc)
  | nilFunc => exact .push .empty .nilFunc
  | nilMap => exact .push .empty .nilMap
  | jfunc f a c => exact .push .empty (.jfunc f a c)
  | nilIface => exact .push .empty .nilIface
  | iface t h => exact .push .empty (.iface t h)
  | tuple hz hc => exact .push .empty (.tuple hz hc)
  | @hole v' h => cases v' <;> first | exact h.elim | exact .push .empty (.hole h)
theorem VR.odd {v v' : Value} (h : VR S m v v') (k : Odd v) : Odd v' := by
  cases h <;> first | exact k.elim | trivial | assumption
end
end Sim
end Go.Proofs.YtbkjjknlphlhlaaDoor
