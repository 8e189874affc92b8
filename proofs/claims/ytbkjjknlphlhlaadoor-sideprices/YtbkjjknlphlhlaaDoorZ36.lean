/- What the main runs by itself: each function of it is alike to itself. -/
import Derived.Test.YtbkjjknlphlhlaaDoorZ34
import Derived.Test.YtbkjjknlphlhlaaDoorZ35
namespace Go.Proofs.YtbkjjknlphlhlaaDoor
namespace Sf
open Go.Conc Sim Sin Go.Extern
set_option maxRecDepth 100000
/-- What the main may run by itself. -/
def S3 : FuncId → Bool := fun f => [6, 7, 8, 9, 10, 12, 13, 14, 15, 16, 17, 18, 19, 20, 21, 23, 24, 25, 26, 27, 28, 29, 30, 31, 37, 38, 39, 40, 41, 42, 43, 44, 45, 64, 65, 66, 67, 68, 74, 88, 89, 93, 95, 98, 99, 100, 101].contains f
theorem s3_6 : Sin.fnB Tryd.prog S3 true 6 = true := by kernel_rfl
theorem s3_7 : Sin.fnB Tryd.prog S3 true 7 = true := by kernel_rfl
theorem s3_8 : Sin.fnB Tryd.prog S3 true 8 = true := by kernel_rfl
theorem s3_9 : Sin.fnB Tryd.prog S3 true 9 = true := by kernel_rfl
theorem s3_10 : Sin.fnB Tryd.prog S3 true 10 = true := by kernel_rfl
theorem s3_14 : Sin.fnB Tryd.prog S3 true 14 = true := by kernel_rfl
theorem s3_15 : Sin.fnB Tryd.prog S3 true 15 = true := by kernel_rfl
theorem s3_16 : Sin.fnB Tryd.prog S3 true 16 = true := by kernel_rfl
theorem s3_17 : Sin.fnB Tryd.prog S3 true 17 = true := by kernel_rfl
theorem s3_18 : Sin.fnB Tryd.prog S3 true 18 = true := by kernel_rfl
theorem s3_19 : Sin.fnB Tryd.prog S3 true 19 = true := by kernel_rfl
theorem s3_20 : Sin.fnB Tryd.prog S3 true 20 = true := by kernel_rfl
theorem s3_23 : Sin.fnB Tryd.prog S3 true 23 = true := by kernel_rfl
theorem s3_29 : Sin.fnB Tryd.prog S3 true 29 = true := by kernel_rfl
theorem s3_30 : Sin.fnB Tryd.prog S3 true 30 = true := by kernel_rfl
theorem s3_31 : Sin.fnB Tryd.prog S3 true 31 = true := by kernel_rfl
theorem s3_43 : Sin.fnB Tryd.prog S3 true 43 = true := by kernel_rfl
theorem s3_45 : Sin.fnB Tryd.prog S3 true 45 = true := by kernel_rfl
theorem s3_93 : Sin.fnB Tryd.prog S3 true 93 = true := by kernel_rfl
theorem s12_sub : ∀ f, Mc.S12 f = true → S3 f = true := fun f hf => by
  have h : f ∈ [12, 13, 21, 24, 25, 26, 27, 28, 37, 38, 39, 64, 65, 66, 74] := by simpa [Mc.S12] using hf
  have : ∀ f ∈ [12, 13, 21, 24, 25, 26, 27, 28, 37, 38, 39, 64, 65, 66, 74], S3 f = true := by decide
  exact this f h
theorem s3_12 : Sin.fnB Tryd.prog S3 true 12 = true := fnB_mono s12_sub Mc.s12_12
theorem s3_13 : Sin.fnB Tryd.prog S3 true 13 = true := fnB_mono s12_sub Mc.s12_13
theorem s3_21 : Sin.fnB Tryd.prog S3 true 21 = true := fnB_mono s12_sub Mc.s12_21
theorem s3_24 : Sin.fnB Tryd.prog S3 true 24 = true := fnB_mono s12_sub Mc.s12_24
theorem s3_25 : Sin.fnB Tryd.prog S3 true 25 = true := fnB_mono s12_sub Mc.s12_25
theorem s3_26 : Sin.fnB Tryd.prog S3 true 26 = true := fnB_mono s12_sub Mc.s12_26
theorem s3_27 : Sin.fnB Tryd.prog S3 true 27 = true := fnB_mono s12_sub Mc.s12_27
theorem s3_28 : Sin.fnB Tryd.prog S3 true 28 = true := fnB_mono s12_sub Mc.s12_28
theorem s3_37 : Sin.fnB Tryd.prog S3 true 37 = true := fnB_mono s12_sub Mc.s12_37
theorem s3_38 : Sin.fnB Tryd.prog S3 true 38 = true := fnB_mono s12_sub Mc.s12_38
theorem s3_39 : Sin.fnB Tryd.prog S3 true 39 = true := fnB_mono s12_sub Mc.s12_39
theorem s3_64 : Sin.fnB Tryd.prog S3 true 64 = true := fnB_mono s12_sub Mc.s12_64
theorem s3_65 : Sin.fnB Tryd.prog S3 true 65 = true := fnB_mono s12_sub Mc.s12_65
theorem s3_66 : Sin.fnB Tryd.prog S3 true 66 = true := fnB_mono s12_sub Mc.s12_66
theorem s3_74 : Sin.fnB Tryd.prog S3 true 74 = true := fnB_mono s12_sub Mc.s12_74
section
variable {P : Program} {S : FuncId → Bool} {st : Bool} {m : Ren}
theorem sr_assignable (u t : TypeId) : SR P S st EQ m (ReflectliteType.assignableTo u t) (ReflectliteType.assignableTo u t) := by
  unfold ReflectliteType.assignableTo
  have tl : ∀ {m : Ren}, SR P S st EQ m (do pure ((← Rtype.directlyAssignable u t) || (← Rtype.implements u t))) (do pure ((← Rtype.directlyAssignable u t) || (← Rtype.implements u t))) := (sr_direct u t).bind fun _ _ a a' e => by
    obtain rfl := e
    exact (sr_implements u t).bind fun _ _ b b' e => by obtain rfl := e; exact .pure rfl
  by_cases h : (u != t) = true
  · rw [if_pos h]
    exact (sr_noPackMethods _ t).bind fun _ _ _ _ _ => (sr_noPackMethods _ u).bind fun _ _ _ _ _ => tl
  · rw [if_neg h]
    exact tl
theorem sr_implements_ (u t : TypeId) : SR P S st EQ m (ReflectliteType.implements_ u t) (ReflectliteType.implements_ u t) := by
  unfold ReflectliteType.implements_
  refine (sr_kind u).bind fun m1 l1 k k' e => ?_
  obtain rfl := e
  have tl : ∀ {m : Ren}, SR P S st EQ m (do Rtype.noPackMethods "Implements" t; Rtype.noPack "Implements" u; Rtype.implements u t) (do Rtype.noPackMethods "Implements" t; Rtype.noPack "Implements" u; Rtype.implements u t) := (sr_noPackMethods _ t).bind fun _ _ _ _ _ => (sr_noPack _ u).bind fun _ _ _ _ _ => sr_implements u t
  by_cases h : (k != 20) = true
  · rw [if_pos h]
    exact SR.bind (A := fun _ (_ _ : Unit) => False) (sr_panicString _) fun _ _ _ _ h => h.elim
  · rw [if_neg h]
    exact tl
theorem sr_telem (hb : Hb P m) (t : TypeId) : SR P S st (VR S) m (ReflectliteType.elem t) (ReflectliteType.elem t) := (sr_elem? t).bind fun m1 l1 e e' he => by
  obtain rfl := he
  cases e with
  | none => exact (sr_spelt t).bind fun _ _ x x' e => by obtain rfl := e; exact sr_panicString _
  | some e => exact sr_toType (hb.mono l1) e
end
theorem e_40 : EntryOk Tryd.prog S3 (fun args => ReflectliteValue.unpack (args.getD 0 (.tuple #[]))) := fun {_ _ _ _} _ hb h => sr_unpack hb (VRs.getD h 0)
theorem e_41 : EntryOk Tryd.prog S3 (ReflectliteValue.methodAny (ReflectliteValue.valueError "reflectlite.Value.Type" 0) fun t _ _ _ => ReflectliteType.toType t) := (sr_vmethod (f := fun t _ _ _ => ReflectliteType.toType t) (sr_valueError _ _) fun {_ _} t {_ _} _ _ _ hb _ => sr_toType hb t).2
theorem e_42 : EntryOk Tryd.prog S3 (ReflectliteValue.method (ReflectliteValue.valueError "reflectlite.Value.IsNil" 0) ReflectliteValue.isNil) := (sr_vmethod (sr_valueError _ _) fun {_ _} t {_ _} g k _ _ ha => sr_isNil t g k ha).1
theorem e_44 : EntryOk Tryd.prog S3 (ReflectliteType.typeOf) := sr_typeOf
theorem e_67 : EntryOk Tryd.prog S3 (ReflectliteValue.method (ReflectliteValue.valueError "reflectlite.Value.Elem" 0) ReflectliteValue.elem) := (sr_vmethod (sr_valueError _ _) fun {_ _} t {_ _} g k _ hb ha => sr_velem hb t g k ha).1
theorem e_68 : EntryOk Tryd.prog S3 (ReflectliteValue.set) := fun {_ _ _ _} hi hb h => sr_set hi hb h
theorem e_89 : EntryOk Tryd.prog S3 (ReflectliteType.abiMethod fun t => do pure (.int .u8 (← Go.Extern.Rtype.kind t))) := sr_abiMethod fun t _ => (sr_kind t).bind fun _ _ k k' e => by obtain rfl := e; exact .pure (.int _ _)
theorem e_95 : EntryOk Tryd.prog S3 (ReflectliteValue.method (pure (.int .u8 0)) fun _ _ _ k => pure (.int .u8 (Int.ofNat k))) := (sr_vmethod (f := fun _ _ _ k => pure (.int .u8 (Int.ofNat k))) (.pure (.int _ _)) fun {_ _} _ {_ _} _ _ _ _ _ => .pure (.int _ _)).1
theorem e_98 : EntryOk Tryd.prog S3 (ReflectliteType.relation "AssignableTo" ReflectliteType.assignableTo) := sr_relation _ fun t u => sr_assignable t u
theorem e_99 : EntryOk Tryd.prog S3 (ReflectliteType.method fun t => do Go.Extern.Rtype.noPackHeld "Comparable" t; pure (.bool (← typeInfo t).comparable)) := sr_rmethod fun t _ => (sr_noPackHeld _ t).bind fun _ _ _ _ _ => (sr_typeInfo t).bind fun _ _ i i' e => by obtain ⟨rfl, _⟩ := e; exact .pure (.bool _)
theorem e_100 : EntryOk Tryd.prog S3 (ReflectliteType.method ReflectliteType.elem) := sr_rmethod fun t hb => sr_telem hb t
theorem e_101 : EntryOk Tryd.prog S3 (ReflectliteType.relation "Implements" ReflectliteType.implements_) := sr_relation _ fun t u => sr_implements_ t u
theorem x_40 : ExtHere Tryd.prog S3 40 := ⟨Tryd.f40, Tryd.func40, by kernel_rfl, by kernel_rfl, by kernel_rfl, .inl ⟨fun args => ReflectliteValue.unpack (args.getD 0 (.tuple #[])), by kernel_rfl, e_40⟩⟩
theorem x_41 : ExtHere Tryd.prog S3 41 := ⟨Tryd.f41, Tryd.func41, by kernel_rfl, by kernel_rfl, by kernel_rfl, .inl ⟨ReflectliteValue.methodAny (ReflectliteValue.valueError "reflectlite.Value.Type" 0) fun t _ _ _ => ReflectliteType.toType t, by kernel_rfl, e_41⟩⟩
theorem x_42 : ExtHere Tryd.prog S3 42 := ⟨Tryd.f42, Tryd.func42, by kernel_rfl, by kernel_rfl, by kernel_rfl, .inl ⟨ReflectliteValue.method (ReflectliteValue.valueError "reflectlite.Value.IsNil" 0) ReflectliteValue.isNil, by kernel_rfl, e_42⟩⟩
theorem x_44 : ExtHere Tryd.prog S3 44 := ⟨Tryd.f44, Tryd.func44, by kernel_rfl, by kernel_rfl, by kernel_rfl, .inl ⟨ReflectliteType.typeOf, by kernel_rfl, e_44⟩⟩
theorem x_67 : ExtHere Tryd.prog S3 67 := ⟨Tryd.f67, Tryd.func67, by kernel_rfl, by kernel_rfl, by kernel_rfl, .inl ⟨ReflectliteValue.method (ReflectliteValue.valueError "reflectlite.Value.Elem" 0) ReflectliteValue.elem, by kernel_rfl, e_67⟩⟩
theorem x_68 : ExtHere Tryd.prog S3 68 := ⟨Tryd.f68, Tryd.func68, by kernel_rfl, by kernel_rfl, by kernel_rfl, .inl ⟨ReflectliteValue.set, by kernel_rfl, e_68⟩⟩
theorem x_89 : ExtHere Tryd.prog S3 89 := ⟨Tryd.f89, Tryd.func89, by kernel_rfl, by kernel_rfl, by kernel_rfl, .inl ⟨ReflectliteType.abiMethod fun t => do pure (.int .u8 (← Go.Extern.Rtype.kind t)), by kernel_rfl, e_89⟩⟩
theorem x_95 : ExtHere Tryd.prog S3 95 := ⟨Tryd.f95, Tryd.func95, by kernel_rfl, by kernel_rfl, by kernel_rfl, .inl ⟨ReflectliteValue.method (pure (.int .u8 0)) fun _ _ _ k => pure (.int .u8 (Int.ofNat k)), by kernel_rfl, e_95⟩⟩
theorem x_98 : ExtHere Tryd.prog S3 98 := ⟨Tryd.f98, Tryd.func98, by kernel_rfl, by kernel_rfl, by kernel_rfl, .inl ⟨ReflectliteType.relation "AssignableTo" ReflectliteType.assignableTo, by kernel_rfl, e_98⟩⟩
theorem x_99 : ExtHere Tryd.prog S3 99 := ⟨Tryd.f99, Tryd.func99, by kernel_rfl, by kernel_rfl, by kernel_rfl, .inl ⟨ReflectliteType.method fun t => do Go.Extern.Rtype.noPackHeld "Comparable" t; pure (.bool (← typeInfo t).comparable), by kernel_rfl, e_99⟩⟩
theorem x_100 : ExtHere Tryd.prog S3 100 := ⟨Tryd.f100, Tryd.func100, by kernel_rfl, by kernel_rfl, by kernel_rfl, .inl ⟨ReflectliteType.method ReflectliteType.elem, by kernel_rfl, e_100⟩⟩
theorem x_101 : ExtHere Tryd.prog S3 101 := ⟨Tryd.f101, Tryd.func101, by kernel_rfl, by kernel_rfl, by kernel_rfl, .inl ⟨ReflectliteType.relation "Implements" ReflectliteType.implements_, by kernel_rfl, e_101⟩⟩
theorem x_88 : ExtHere Tryd.prog S3 88 := ⟨Tryd.f88, Tryd.func88, by kernel_rfl, by kernel_rfl, by kernel_rfl, .inr ⟨by kernel_rfl, by kernel_rfl⟩⟩
theorem s3_ok : ∀ f, S3 f = true → FnX Tryd.prog S3 true f := by
  intro f hf
  have h : f ∈ [6, 7, 8, 9, 10, 12, 13, 14, 15, 16, 17, 18, 19, 20, 21, 23, 24, 25, 26, 27, 28, 29, 30, 31, 37, 38, 39, 40, 41, 42, 43, 44, 45, 64, 65, 66, 67, 68, 74, 88, 89, 93, 95, 98, 99, 100, 101] := by simpa [S3] using hf
  simp only [List.mem_cons, List.not_mem_nil, or_false] at h
  rcases h with rfl | rfl | rfl | rfl | rfl | rfl | rfl | rfl | rfl | rfl | rfl | rfl | rfl | rfl | rfl | rfl | rfl | rfl | rfl | rfl | rfl | rfl | rfl | rfl | rfl | rfl | rfl | rfl | rfl | rfl | rfl | rfl | rfl | rfl | rfl | rfl | rfl | rfl | rfl | rfl | rfl | rfl | rfl | rfl | rfl | rfl | rfl
  · exact .inl s3_6
  · exact .inl s3_7
  · exact .inl s3_8
  · exact .inl s3_9
  · exact .inl s3_10
  · exact .inl s3_12
  · exact .inl s3_13
  · exact .inl s3_14
  · exact .inl s3_15
  · exact .inl s3_16
  · exact .inl s3_17
  · exact .inl s3_18
  · exact .inl s3_19
  · exact .inl s3_20
  · exact .inl s3_21
  · exact .inl s3_23
  · exact .inl s3_24
  · exact .inl s3_25
  · exact .inl s3_26
  · exact .inl s3_27
  · exact .inl s3_28
  · exact .inl s3_29
  · exact .inl s3_30
  · exact .inl s3_31
  · exact .inl s3_37
  · exact .inl s3_38
  · exact .inl s3_39
  · exact .inr ⟨rfl, x_40⟩
  · exact .inr ⟨rfl, x_41⟩
  · exact .inr ⟨rfl, x_42⟩
  · exact .inl s3_43
  · exact .inr ⟨rfl, x_44⟩
  · exact .inl s3_45
  · exact .inl s3_64
  · exact .inl s3_65
  · exact .inl s3_66
  · exact .inr ⟨rfl, x_67⟩
  · exact .inr ⟨rfl, x_68⟩
  · exact .inl s3_74
  · exact .inr ⟨rfl, x_88⟩
  · exact .inr ⟨rfl, x_89⟩
  · exact .inl s3_93
  · exact .inr ⟨rfl, x_95⟩
  · exact .inr ⟨rfl, x_98⟩
  · exact .inr ⟨rfl, x_99⟩
  · exact .inr ⟨rfl, x_100⟩
  · exact .inr ⟨rfl, x_101⟩
end Sf
end Go.Proofs.YtbkjjknlphlhlaaDoor
namespace Go.Proofs.YtbkjjknlphlhlaaDoor
namespace Sin
open Sim
open Go.Conc
set_option maxRecDepth 100000
section
variable {S : FuncId → Bool} {D Z : Nat → Prop} {m : Ren} {w wl w' : World}
theorem nice_bool (b : Bool) : Nice S D (.bool b) := ⟨.bool b, sure_bool b⟩
theorem sure_agg {c : Array Value} (h : ∀ i, i < c.size → Sure S (c.getD i (.tuple #[])) (c.getD i (.tuple #[]))) : Sure S (.agg c) (.agg c) := fun m v' hm k => by
  cases k with
  | agg hz hc =>
    congr 1
    refine Array.ext hz.symm fun i h1 h2 => ?_
    have := h i h2 m _ hm (hc i h2)
    simpa [Array.getD, h1, h2] using this
theorem sure_tuple {c : Array Value} (h0 : 0 < c.size) (h : ∀ i, i < c.size → Sure S (c.getD i (.tuple #[])) (c.getD i (.tuple #[]))) : Sure S (.tuple c) (.tuple c) := fun m v' hm k => by
  cases k with
  | tuple hz hc =>
    congr 1
    refine Array.ext hz.symm fun i h1 h2 => ?_
    have := h i h2 m _ hm (hc i h2)
    simpa [Array.getD, h1, h2] using this
  | hole _ => exact absurd h0 (by simp)
theorem sure_pair {x y : Value} (hx : Sure S x x) (hy : Sure S y y) : Sure S (.tuple #[x, y]) (.tuple #[x, y]) := sure_tuple (by simp) fun i hi => by
  have : i = 0 ∨ i = 1 := by simp at hi; omega
  rcases this with rfl | rfl
  · exact hx
  · exact hy
theorem nice_agg1 {x : Value} (h : Nice S D x) : Nice S D (.agg #[x]) := by
  refine ⟨.agg rfl fun i hi => ?_, sure_agg fun i hi => ?_⟩ <;> (have : i = 0 := by simp at hi; omega) <;> subst this
  · exact h.1
  · exact h.2
theorem lw_cell {a : Addr} {v : Value} (h : w.cell? a = some v) (hv : Nice S (Dz Z w) v) : (Lw S Z w).cell? a = some v := san_cell h hv
theorem lw_frozen (a : Addr) : (Lw S Z w).frozen? a = w.frozen? a := by
  unfold World.frozen? Lw
  rw [san_heap]
  cases w.heap[a.block]? with
  | none => rfl
  | some o => cases o <;> rfl
/-- A row of the call's own. -/
theorem lw_row {base : Nat} {e : TypeId} {size n : Nat} {v : Value} {xs : List Value} (h : w.ownsRow base e size v n xs) (hs : ∀ x ∈ xs, Nice S (Dz Z w) x) : (Lw S Z w).ownsRow base e size v n xs := by
  refine ⟨h.1, ?_⟩
  rcases h.2 with h1 | ⟨g, cap, cur, rfl, hb, hg, h1, h2, h3, h4⟩
  · exact .inl h1
  · refine .inr ⟨g, cap, cur.map (san S (Dz Z w)), rfl, hb, ?_, h1, h2, by simpa using h3, ?_⟩
    · rw [Lw, san_heap, hg]; rfl
    · rw [Array.toList_map, ← List.map_take, h4]
      exact (List.map_congr_left fun x hx => san_self (hs x hx)).trans (List.map_id _)
/-- What a value leads to is not shunned. -/
theorem Aft.slice_at (h : Aft S Z w wl w' m) {a : Addr} {l c : Nat} {v' : Value} (hv : VR S m (.slice (some a) l c) v') (h0 : ¬ (l = 0 ∧ c = 0)) : ¬ Z a.block := by
  cases hv with
  | slice _ _ hv => exact fun hz => h.apart _ _ hv.1 (h.own _ _ hv.1 ▸ hz)
  | ghost => exact absurd ⟨rfl, rfl⟩ h0
theorem Aft.ptr_at (h : Aft S Z w wl w' m) {t : TypeId} {a : Addr} {v' : Value} (hv : VR S m (.iface t (.pointer (some a))) v') : ¬ Z a.block := by
  cases hv with
  | iface _ hv =>
    cases hv with
    | ptr hv => exact fun hz => h.apart _ _ hv.1 (h.own _ _ hv.1 ▸ hz)
theorem pair_left {x y v' : Value} (hv : VR S m (.tuple #[x, y]) v') : ∃ x' y', v' = .tuple #[x', y'] ∧ VR S m x x' ∧ VR S m y y' := by
  generalize hc : (#[x, y] : Array Value) = c at hv
  cases hv with
  | @tuple _ c' hz hcc =>
    subst hc
    have h0 := hcc 0 (by simp)
    have h1 := hcc 1 (by simp)
    have hs : c'.size = 2 := by rw [← hz]; rfl
    have e0 : 0 < c'.size := by omega
    have e1 : 1 < c'.size := by omega
    have : c' = #[c'.getD 0 (.tuple #[]), c'.getD 1 (.tuple #[])] := Array.ext (by simp [hs]) fun i hi _ => by
      have : i = 0 ∨ i = 1 := by omega
      rcases this with rfl | rfl <;> simp [Array.getD, e0, e1]
    exact ⟨_, _, congrArg _ this, h0, h1⟩
  | hole _ => cases hc
/-- A pointer, or a slice, of one of D's. -/
theorem vr_slice {b : Nat} {l q : Nat} (h : D b) : VR S (idOn D) (.slice (some ⟨b, 0, none⟩) l q) (.slice (some ⟨b, 0, none⟩) l q) := .slice _ _ ⟨idOn_self h, rfl, rfl⟩
theorem vr_ptr {b o : Nat} (h : D b) : VR S (idOn D) (.pointer (some ⟨b, o, none⟩)) (.pointer (some ⟨b, o, none⟩)) := .ptr ⟨idOn_self h, rfl, rfl⟩
/-- Rows of values that are alike to themselves, by their lists. -/
theorem vrs_list {l : List Value} (h : ∀ v ∈ l, VR S m v v) : VRs S m ⟨l⟩ ⟨l⟩ := .of_mem rfl fun i v v' hv hv' => by
  rw [hv] at hv'; cases hv'
  exact h v (Array.mem_toList_iff.2 (Array.mem_of_getElem? hv) |> fun h => by simpa using h)
end
end Sin
end Go.Proofs.YtbkjjknlphlhlaaDoor
namespace Go.Proofs.YtbkjjknlphlhlaaDoor
namespace Px
open Go.Conc Sim Sin Sf Ev
open Go.RowKit
set_option maxRecDepth 100000

theorem pair_alike {S : FuncId → Bool} {m : Ren} {t t' : Array Value} (h : VRs S m t t') (i j : Nat) : VR S m (.tuple #[t.getD i undef, t.getD j undef]) (.tuple #[t'.getD i undef, t'.getD j undef]) := by
  have := (VRs.empty.push (h.getD i)).push (h.getD j)
  exact .tuple this.1 this.2
theorem res11_ok : ResOk Tryd.prog S3 Tryd.f11 res11 := ⟨fun t w => ⟨by kernel_rfl, by kernel_rfl⟩, fun _ _ _ h => pair_alike h 8 9⟩
theorem ok11 : Sin.itemB Tryd.prog S3 true (.inRegion ops11 [4, 5]) = true ∧ [l11, e11].all (Sin.codeB Tryd.prog S3 true) = true := ⟨by kernel_rfl, by kernel_rfl⟩
/-- An error, and where it leads: nobody shuns it. -/
def ErrZ (Z : Nat → Prop) (w : World) (N2 : Nat) (e : Value) (a : Addr) : Prop := Dz Z w a.block ∧ (e = .iface 145 (.pointer (some a)) ∨ ∃ B, B ≠ N2 ∧ ¬ Z B ∧ e = .iface 56 (.pointer (some ⟨B, 0, none⟩)) ∧ w.cell? ⟨B, 1, none⟩ = some (.iface 145 (.pointer (some a))))
theorem ErrZ.at {Z : Nat → Prop} {w : World} {N2 : Nat} {e : Value} {a : Addr} (h : ErrZ Z w N2 e a) : ErrAt w N2 e a := h.2.imp id fun ⟨B, h1, _, h2, h3⟩ => ⟨B, h1, h2, h3⟩
section
variable {Z D : Nat → Prop} {Stop : Goroutine → World → Prop} {w : World} {c : Frame} {cs : List Frame} {tp : Option Addr} {n cp : Nat} {ref k : Int} {N N2 bl : Nat} {P : Nat → Int} {E : Nat → Value}
theorem vr_fv (h : D N) : VR S3 (idOn D) (fv N) (fv N) := .func rfl rfl fun i hi => (vrs_list (l := [.pointer (some ⟨N, 0, none⟩)]) fun v hv => by rw [List.mem_singleton.1 hv]; exact vr_ptr h).2 i hi
theorem vrs_T28 (ht : VR S3 (idOn D) (.slice tp n cp) (.slice tp n cp)) (hN : D N) (hN2 : D N2) (hbl : D bl) : VRs S3 (idOn D) (T28 tp n cp k N N2 bl) (T28 tp n cp k N N2 bl) := by
  refine vrs_list fun v hv => ?_
  simp only [List.mem_cons, List.not_mem_nil, or_false] at hv
  have hu : VR S3 (idOn D) undef undef := .undef
  rcases hv with rfl | rfl | rfl | rfl | rfl | rfl | rfl | rfl | rfl | rfl | rfl | rfl | rfl | rfl | rfl | rfl | rfl | rfl | rfl | rfl | rfl | rfl | rfl | rfl | rfl | rfl | rfl | rfl | rfl | rfl | rfl | rfl | rfl | rfl | rfl | rfl | rfl | rfl | rfl | rfl | rfl | rfl | rfl | rfl | rfl | rfl | rfl | rfl | rfl | rfl | rfl | rfl <;>
    first | exact hu | exact ht | exact vr_fv hN | exact vr_slice hN2 | exact vr_slice hbl | exact .int _ _ | exact .bool _ | exact .nils _ _ | exact .nilIface
/-- Prices, behind answers. -/
theorem f5_out (x y : Value) : Still Tryd.prog true 7 (G ((F5 tp n cp ref k N).finish (.tuple #[x, y])) (c :: cs)) (G (c.finish (.tuple #[x, y])) cs) := still_to (still_of (fun w => by kernel_rfl) (by kernel_rfl) (by kernel_rfl)) (by kernel_rfl)
theorem sent_nice {w : World} (h : Dz Z w 13) : Nice S3 (Dz Z w) (.iface 124 (.agg #[.pointer (some ⟨13, 27, none⟩)])) := nice_iface _ (nice_agg1 (nice_ptr h))
/-- What is given is not shunned. -/
def Out (Z : Nat → Prop) (v : Value) : Prop := (∀ x y a l c, v = .tuple #[x, y] → x = .slice (some a) l c → ¬ (l = 0 ∧ c = 0) → ¬ Z a.block) ∧ ∀ x B, v = .tuple #[x, .iface 56 (.pointer (some ⟨B, 0, none⟩))] → ¬ Z B
theorem out_of {Z : Nat → Prop} {w wl w' : World} {m : Ren} {v v' : Value} (ha : Aft S3 Z w wl w' m) (hv : VR S3 m v v') : Out Z v := by
  refine ⟨fun x y a l c e hb h0 => ?_, fun x B e => ?_⟩
  · subst e
    subst hb
    obtain ⟨x', y', _, hx, _⟩ := pair_left hv
    exact ha.slice_at hx h0
  · subst e
    obtain ⟨x', y', _, _, hy⟩ := pair_left hv
    exact ha.ptr_at hy
/-- What answers gives, from the lone run. -/
theorem gave_right {wl w' : World} {m : Ren} {v v' : Value} (ha : Aft S3 Z w wl w' m) (hv : VR S3 m v v') (hz : ∀ j, j < n → ∀ B, E j = .iface 56 (.pointer (some ⟨B, 0, none⟩)) → ¬ Z B) (h : Gave wl N2 n P E v) : v' = v ∧ Gave w' N2 n P E v ∧ Out Z v := by
  have ho := out_of ha hv
  rcases h with ⟨x, rfl, h2, h3, h4⟩ | ⟨j, a, B, hj, hnil, he, rfl, h2, h3⟩
  · obtain ⟨x', y', rfl, hx, hy⟩ := pair_left hv
    have e2 : y' = .nilIface := by cases hy; rfl
    subst e2
    obtain ⟨a, c, rfl, h3⟩ := h3
    have hx' : x' = .slice a n c := by
      cases a with
      | none => exact sure_nils _ _ m _ ha.own hx
      | some g => exact sure_slice _ _ _ m _ ha.own hx
    subst hx'
    refine ⟨rfl, .inl ⟨_, rfl, h2, ⟨a, c, rfl, fun k hk => ?_⟩, fun a' l' c' e => ?_⟩, ho⟩
    · obtain ⟨g, rfl, hc⟩ := h3 k hk
      exact ⟨g, rfl, ha.cellS (a := ⟨g, k, none⟩) (show ¬ Z g from ha.slice_at (a := ⟨g, 0, none⟩) hx (by omega)) hc (sure_int _ _)⟩
    · cases e
      rcases h4 _ _ _ rfl with h | ⟨cs, t, fz, h⟩
      · exact .inl h
      · by_cases h0 : n = 0 ∧ c = 0
        · exact .inl h0
        · obtain ⟨o, o', e1, e2, e3⟩ := ha.hr.obj _ _ (ha.thereB (ha.slice_at hx h0) h)
          rw [h] at e1
          cases e1
          rcases e3 with ⟨_, _, _, _, _, _, e4, _⟩ | ⟨_, _, _, e4, _⟩
          · exact .inr ⟨_, _, _, e2.trans (congrArg some e4)⟩
          · cases e4
  · have hb : ¬ Z B := by
      obtain ⟨x', y', _, _, hy⟩ := pair_left hv
      exact ha.ptr_at hy
    refine ⟨sure_pair (sure_nils _ _) (sure_iface _ (sure_ptr _)) m _ ha.own hv, .inr ⟨j, a, B, hj, hnil, ?_, rfl, ha.cellS hb h2 (sure_int _ _), ha.cellS hb h3 (sure_iface _ (sure_ptr _))⟩, ho⟩
    rcases he with he | ⟨B2, h4, h5, h6⟩
    · exact .inl he
    · exact .inr ⟨B2, h4, h5, ha.cellS (hz j hj B2 h5) h6 (sure_iface _ (sure_ptr _))⟩
/-- ████ -/
theorem prices_out (hM : Mz Tryd.prog Z w) (ht : ∀ ta, tp = some ta → Dz Z w ta.block) (hN : Dz Z w N) (hN2 : Dz Z w N2) (hbl : Dz Z w bl) (hn : n ≤ 100) (hg : w.cell? ⟨12, 0, none⟩ = some (.iface 124 (.agg #[.pointer (some ⟨13, 27, none⟩)]))) (hown : w.ownsRow N2 3 1 (.slice (some ⟨N2, 0, none⟩) 0 n) 0 [])
    (h12 : 12 < N2) (hne : bl ≠ N2) (hrows : RowsAt w bl n P E) (herr : ∀ j, j < n → E j = .nilIface ∨ ∃ a, ErrZ Z w N2 (E j) a)
    (next : ∀ v w', Mz Tryd.prog Z w' → Gave w' N2 n P E v → Out Z v → Kept w w' N2 → Mb.Wd Tryd.prog Z Stop (G (c.finish v) cs) w') : Mb.Wd Tryd.prog Z Stop (G ((F11 tp n cp k N N2).finish (.slice (some ⟨bl, 0, none⟩) n n)) (F5 tp n cp ref k N :: c :: cs)) w := by
  rw [(f11_back tp n cp k N N2 bl).1]
  have htv : VR S3 (idOn (Dz Z w)) (.slice tp n cp) (.slice tp n cp) := by
    cases tp with
    | none => exact .nils _ _
    | some ta => exact .slice _ _ ⟨idOn_self (ht ta rfl), rfl, rfl⟩
  have hnice : ∀ j, j < n → Nice S3 (Dz Z w) (E j) := fun j hj => by
    rcases herr j hj with e | ⟨a, ha, e | ⟨B, _, hz, e, hc⟩⟩
    · rw [e]; exact nice_nilIface
    · rw [e]; exact nice_iface _ (nice_ptr ha)
    · rw [e]; exact nice_iface _ (nice_ptr (show Dz Z w B from dz_cell (a := ⟨B, 1, none⟩) hc hz))
  have hown' : (Lw S3 Z w).ownsRow N2 3 1 (.slice (some ⟨N2, 0, none⟩) 0 n) 0 [] := lw_row hown fun x hx => by cases hx
  have hg' := lw_cell (S := S3) (Z := Z) hg (sent_nice (hM.glob 13 (by decide)))
  have hrows' : RowsAt (Lw S3 Z w) bl n P E := fun j hj => ⟨lw_cell (hrows j hj).1 (nice_int _ _), lw_cell (hrows j hj).2.1 (nice_int _ _), lw_cell (hrows j hj).2.2 (hnice j hj)⟩
  have herr' : ∀ j, j < n → E j = .nilIface ∨ ∃ a, ErrAt (Lw S3 Z w) N2 (E j) a := fun j hj => (herr j hj).imp id fun ⟨a, ha, h⟩ => ⟨a, h.imp id fun ⟨B, h1, _, h2, h3⟩ => ⟨B, h1, h2, lw_cell h3 (nice_iface _ (nice_ptr ha))⟩⟩
  refine rest_back s3_ok (R := fun v w' => Gave w' N2 n P E v ∧ Kept (Lw S3 Z w) w' N2) rfl (show Tryd.prog.funcs[11]? = some Tryd.f11 by kernel_rfl) res11_ok ok11.1 ok11.2 hM (vrs_T28 htv hN hN2 hbl) (fun T d => ans_rest tp n cp k N N2 bl P E (World.on (Lw S3 Z w) T d) hn hg' hown' h12 hne hrows' herr') (fun v w T d h => h) ?_
  · rintro m v v' wl w' ha hv ⟨hga, hke⟩
    obtain ⟨rfl, hga', hout⟩ := gave_right ha hv (fun j hj B e => by
      rcases herr j hj with e2 | ⟨a, _, e2 | ⟨B2, _, hz, e2, _⟩⟩
      · rw [e] at e2; cases e2
      · rw [e] at e2; cases e2
      · rw [e] at e2; cases e2; exact hz) hga
    obtain ⟨x, y, rfl⟩ : ∃ x y, v' = .tuple #[x, y] := by
      rcases hga with ⟨x, h, _⟩ | ⟨_, _, _, _, _, _, h, _⟩
      · exact ⟨_, _, h⟩
      · exact ⟨_, _, h⟩
    exact wd_still (f5_out x y) (next _ w' (ha.mz hM) hga' hout ⟨ha.mx.os, ha.mx.output, ha.size, fun b hb hne => ha.keep hb (hke.2.2.2 b (by rw [lw_size]; exact hb) hne)⟩)
end
end Px
end Go.Proofs.YtbkjjknlphlhlaaDoor
