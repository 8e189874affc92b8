/- errors.As by its contracts, the target a pointer to an api.Fault: at an error of errors.New's make (false), and at an api.Fault (true, and the target is set). -/
import Derived.Test.YtdggddjgipgllaaGreatDoorG03
import Derived.Test.YtdggddjgipgllaaGreatDoorG16
import Derived.Test.YtdggddjgipgllaaGreatDoorG02
namespace Go.Proofs.YtdggddjgipgllaaGreatDoor
open Go.RowKit Go.Extern.Stop Go.Stop Go.Extern
set_option maxRecDepth 100000

theorem aValueOf (t : Addr) (w : World) : (entryOf Tryz.f122 #[.iface 178 (.pointer (some t))]).run Tryz.prog w
  = .ok (.agg #[.pointer (some ⟨13, 178, none⟩), .pointer (some ⟨w.heap.size, 0, none⟩), .int .u64 150]) (w.alloc (.cells #[.pointer (some t)] 178)) := by kernel_rfl
theorem aType (a : Addr) (w : World) : (entryOf Tryz.f123 #[.agg #[.pointer (some ⟨13, 178, none⟩), .pointer (some a), .int .u64 150]]).run Tryz.prog w = .ok (.iface 214 (.agg #[.pointer (some ⟨13, 178, none⟩)])) w := by kernel_rfl
theorem aMethodKind (h : Value) (w : World) : (Go.method 385 214 (.agg #[h]) "Kind").run Tryz.prog w = .ok (185, h) w := by kernel_rfl
theorem aKind65 (w : World) : (entryOf Tryz.f185 #[.pointer (some ⟨13, 178, none⟩)]).run Tryz.prog w = .ok (.int .u8 22) w := by kernel_rfl
theorem aKind29 (w : World) : (entryOf Tryz.f185 #[.pointer (some ⟨13, 160, none⟩)]).run Tryz.prog w = .ok (.int .u8 22) w := by kernel_rfl
theorem aMethodElem (h : Value) (w : World) : (Go.method 385 214 (.agg #[h]) "Elem").run Tryz.prog w = .ok (196, .agg #[h]) w := by kernel_rfl
theorem aMethodImplements (h : Value) (w : World) : (Go.method 385 214 (.agg #[h]) "Implements").run Tryz.prog w = .ok (197, .agg #[h]) w := by kernel_rfl
theorem aMethodAssignable (h : Value) (w : World) : (Go.method 385 214 (.agg #[h]) "AssignableTo").run Tryz.prog w = .ok (194, .agg #[h]) w := by kernel_rfl
theorem aElem65 (w : World) : (entryOf Tryz.f196 #[.agg #[.pointer (some ⟨13, 178, none⟩)]]).run Tryz.prog w = .ok (.iface 214 (.agg #[.pointer (some ⟨13, 160, none⟩)])) w := by kernel_rfl
theorem aImplements (w : World) : (entryOf Tryz.f197 #[.agg #[.pointer (some ⟨13, 160, none⟩)], .iface 214 (.agg #[.pointer (some ⟨13, 27, none⟩)])]).run Tryz.prog w = .ok (.bool true) w := by kernel_rfl
theorem aTypeOf67 (v : Value) (w : World) : (entryOf Tryz.f126 #[.iface 252 v]).run Tryz.prog w = .ok (.iface 214 (.agg #[.pointer (some ⟨13, 252, none⟩)])) w := by kernel_rfl
theorem aAssignable67 (w : World) : (entryOf Tryz.f194 #[.agg #[.pointer (some ⟨13, 252, none⟩)], .iface 214 (.agg #[.pointer (some ⟨13, 160, none⟩)])]).run Tryz.prog w = .ok (.bool false) w := by kernel_rfl
theorem aNoAs (v : Value) (xT : TypeId) (w : World) : (Instr.typeAssert (.iface 252 v) xT 218 true).run Tryz.prog w = .ok (.tuple #[.nilIface, .bool false]) w := run_typeAssert_lacksB Tryz.underlying218 (by kernel_rfl) (by kernel_rfl) v xT w
theorem eIsNil : entryOf Tryz.f124 = ReflectliteValue.method (ReflectliteValue.valueError "reflectlite.Value.IsNil" 0) ReflectliteValue.isNil := by kernel_rfl
theorem rlm (z : Sem Value) (f : TypeId → Addr → Nat → Nat → Sem Value) (v : Value) :
  ReflectliteValue.method z f #[v] = (do match ← ReflectliteValue.parts v with | none => z | some (t, a, fl) => f t a fl (fl % 32)) := rfl
theorem aParts65 (a : Addr) (w : World) : (ReflectliteValue.parts (.agg #[.pointer (some ⟨13, 178, none⟩), .pointer (some a), .int .u64 150])).run Tryz.prog w = .ok (some (178, a, 150)) w := by kernel_rfl
theorem aIsNil (a p : Addr) (W : World) (ha : W.cell? a = some (.pointer (some p))) :
  (entryOf Tryz.f124 #[.agg #[.pointer (some ⟨13, 178, none⟩), .pointer (some a), .int .u64 150]]).run Tryz.prog W = .ok (.bool false) W := by
 rw [eIsNil, rlm]
 simp only [Sem.run_bind, aParts65, Result.andThen]
 simp [ReflectliteValue.isNil, loadVar, isAgg, underlying, Tryz.underlying178, ha, Result.andThen]

set_option maxHeartbeats 4000000 in
theorem as_miss (x t : Addr) (w : World) (hg : w.cell? ⟨12, 0, none⟩ = some (.iface 214 (.agg #[.pointer (some ⟨13, 27, none⟩)]))) :
  Calls Tryz.prog 97 #[.iface 252 (.pointer (some x)), .iface 178 (.pointer (some t))] w fun e w' => e = .returned (.bool false) ∧ Below w.heap.size w w' := by
 have h40 := @run_callFunc_extern Tryz.prog 122 _ (entryOf Tryz.f122) Tryz.func122 (by kernel_rfl) (by kernel_rfl) (by kernel_rfl) (by kernel_rfl)
 have h41 := @run_callFunc_extern Tryz.prog 123 _ (entryOf Tryz.f123) Tryz.func123 (by kernel_rfl) (by kernel_rfl) (by kernel_rfl) (by kernel_rfl)
 have h42 := @run_callFunc_extern Tryz.prog 124 _ (entryOf Tryz.f124) Tryz.func124 (by kernel_rfl) (by kernel_rfl) (by kernel_rfl) (by kernel_rfl)
 have h66 := @run_callFunc_extern Tryz.prog 185 _ (entryOf Tryz.f185) Tryz.func185 (by kernel_rfl) (by kernel_rfl) (by kernel_rfl) (by kernel_rfl)
 have h78 := @run_callFunc_extern Tryz.prog 196 _ (entryOf Tryz.f196) Tryz.func196 (by kernel_rfl) (by kernel_rfl) (by kernel_rfl) (by kernel_rfl)
 have h79 := @run_callFunc_extern Tryz.prog 197 _ (entryOf Tryz.f197) Tryz.func197 (by kernel_rfl) (by kernel_rfl) (by kernel_rfl) (by kernel_rfl)
 have h44 := @run_callFunc_extern Tryz.prog 126 _ (entryOf Tryz.f126) Tryz.func126 (by kernel_rfl) (by kernel_rfl) (by kernel_rfl) (by kernel_rfl)
 have h76 := @run_callFunc_extern Tryz.prog 194 _ (entryOf Tryz.f194) Tryz.func194 (by kernel_rfl) (by kernel_rfl) (by kernel_rfl) (by kernel_rfl)
 have f40 := aValueOf
 have f41 := aType
 have mK := aMethodKind
 have k65 := aKind65
 have k29 := aKind29
 have mE := aMethodElem
 have mI := aMethodImplements
 have mA := aMethodAssignable
 have e65 := aElem65
 have i29 := aImplements
 have tO := aTypeOf67
 have a67 := aAssignable67
 have nA := aNoAs
 have uE := noUnwrapE
 have vE := noUnwrapsE
 have hlt := World.block_lt_of_cell? _ _ hg
 have hlt : 12 < w.heap.size := hlt
 have n42 := aIsNil ⟨w.heap.size, 0, none⟩ t ((w.alloc (.cells #[.pointer (some t)] 178)).alloc (.cells #[.pointer (some ⟨13, 178, none⟩), .pointer (some ⟨w.heap.size, 0, none⟩), .int .u64 150] 196)) (by simp)
 have hg2 : ((w.alloc (.cells #[.pointer (some t)] 178)).alloc (.cells #[.pointer (some ⟨13, 178, none⟩), .pointer (some ⟨w.heap.size, 0, none⟩), .int .u64 150] 196)).cell? ⟨12, 0, none⟩ = some (.iface 214 (.agg #[.pointer (some ⟨13, 27, none⟩)])) := by
  rw [World.cell?_alloc_lt _ _ ⟨12, 0, none⟩ (by simp; omega), World.cell?_alloc_lt _ _ ⟨12, 0, none⟩ hlt]; exact hg
 go_enter Tryz.func97, Tryz.ntmps97
 go_wp2
 refine wp_loop_rounds 1 ?_
 rw [rounds_succ]
 go_wp2
 go_ret
 refine ⟨rfl, ?_⟩
 exact ((bal).alloc (by simp) _).alloc (by simp; omega) _
end Go.Proofs.YtdggddjgipgllaaGreatDoor
namespace Go.Proofs.YtdggddjgipgllaaGreatDoor
open Go.RowKit
set_option maxRecDepth 100000

def glob : Nat → Nat
 | 0 => 6
 | 1 => 0
 | 2 => 7
 | 4 => 8
 | 5 => 1
 | 6 => 4
 | 7 => 2
 | 8 => 9
 | 9 => 5
 | g => g
structure Sent (w : World) (ad : Nat → Addr) : Prop where
 cell : ∀ g, g < 12 → w.cell? ⟨glob g, 0, none⟩ = some (.iface 252 (.pointer (some (ad g))))
 et : w.cell? ⟨12, 0, none⟩ = some (.iface 214 (.agg #[.pointer (some ⟨13, 27, none⟩)]))
 row : ∀ g, g < 12 → ∃ c t, w.heap[(ad g).block]? = some (.cells c t (0, 0))
 ne : ∀ g h, g < 12 → h < 12 → g ≠ h → ad g ≠ ad h

theorem block_lt_of_heap {w : World} {k : Nat} {o : Obj} (h : w.heap[k]? = some o) : k < w.heap.size := by
 rcases Nat.lt_or_ge k w.heap.size with h' | h'
 ·exact h'
 ·simp [Array.getElem?_eq_none h'] at h

theorem Sent.later {w w' : World} {ad : Nat → Addr} (h : Sent w ad) (hb : Below w.heap.size w w') : Sent w' ad :=
 ⟨fun g hg => cell_later hb (h.cell g hg), cell_later hb h.et,
  fun g hg => by obtain ⟨c, t, e⟩ := h.row g hg; exact ⟨c, t, (hb.block _ (block_lt_of_heap e)).trans e⟩, h.ne⟩

theorem code_nil (w : World) : Calls Tryz.prog 58 #[.nilIface] w fun e w' => e = .returned (.tuple #[.int .i64 0, .int .i64 (-1)]) ∧ w' = w := by
 go_enter Tryz.func58, Tryz.ntmps58
 go_wp2
 go_ret2
 exact ⟨rfl, rfl⟩

def codeOf (j : Nat) : Int := if j < 12 then j + 1 else -1

set_option maxHeartbeats 4000000 in
theorem code_plain (x : Addr) (j : Nat) (ad : Nat → Addr) (w : World) (hs : Hid (Sent w ad))
  (hIs : Hid (∀ k, k < 12 → ∀ wz, Below w.heap.size w wz → Calls Tryz.prog 98 #[.iface 252 (.pointer (some x)), .iface 252 (.pointer (some (ad k)))] wz fun e w' => e = .returned (.bool (k == j)) ∧ w' = wz)) :
  Calls Tryz.prog 58 #[.iface 252 (.pointer (some x))] w fun e w' => e = .returned (.tuple #[.int .i64 (codeOf j), .int .i64 (-1)]) ∧ Below w.heap.size w w' := by
 go_enter Tryz.func58, Tryz.ntmps58
 go_wp2_with fail
 refine (as_miss x _ _ (cell_later (bal) hs.out.et)).mono ?_
 rintro e w1 ⟨rfl, hb1⟩
 have HB1 : Hid (Below w.heap.size w w1) := (bal).trans (hb1.mono (by simp))
 clear hb1
 have c0 : w1.cell? ⟨6, 0, none⟩ = some (.iface 252 (.pointer (some (ad 0)))) := (hs.out.later HB1.out).cell 0 (by decide)
 have c1 : w1.cell? ⟨0, 0, none⟩ = some (.iface 252 (.pointer (some (ad 1)))) := (hs.out.later HB1.out).cell 1 (by decide)
 have c2 : w1.cell? ⟨7, 0, none⟩ = some (.iface 252 (.pointer (some (ad 2)))) := (hs.out.later HB1.out).cell 2 (by decide)
 have c3 : w1.cell? ⟨3, 0, none⟩ = some (.iface 252 (.pointer (some (ad 3)))) := (hs.out.later HB1.out).cell 3 (by decide)
 have c4 : w1.cell? ⟨8, 0, none⟩ = some (.iface 252 (.pointer (some (ad 4)))) := (hs.out.later HB1.out).cell 4 (by decide)
 have c5 : w1.cell? ⟨1, 0, none⟩ = some (.iface 252 (.pointer (some (ad 5)))) := (hs.out.later HB1.out).cell 5 (by decide)
 have c6 : w1.cell? ⟨4, 0, none⟩ = some (.iface 252 (.pointer (some (ad 6)))) := (hs.out.later HB1.out).cell 6 (by decide)
 have c7 : w1.cell? ⟨2, 0, none⟩ = some (.iface 252 (.pointer (some (ad 7)))) := (hs.out.later HB1.out).cell 7 (by decide)
 have c8 : w1.cell? ⟨9, 0, none⟩ = some (.iface 252 (.pointer (some (ad 8)))) := (hs.out.later HB1.out).cell 8 (by decide)
 have c9 : w1.cell? ⟨5, 0, none⟩ = some (.iface 252 (.pointer (some (ad 9)))) := (hs.out.later HB1.out).cell 9 (by decide)
 have c10 : w1.cell? ⟨10, 0, none⟩ = some (.iface 252 (.pointer (some (ad 10)))) := (hs.out.later HB1.out).cell 10 (by decide)
 have c11 : w1.cell? ⟨11, 0, none⟩ = some (.iface 252 (.pointer (some (ad 11)))) := (hs.out.later HB1.out).cell 11 (by decide)
 go_wp2_with fail
 have hcell : ∀ k, k < 12 → (w1.alloc (.cells #[.iface 252 (.pointer (some (ad 0))), .iface 252 (.pointer (some (ad 1))), .iface 252 (.pointer (some (ad 2))), .iface 252 (.pointer (some (ad 3))), .iface 252 (.pointer (some (ad 4))), .iface 252 (.pointer (some (ad 5))), .iface 252 (.pointer (some (ad 6))), .iface 252 (.pointer (some (ad 7))), .iface 252 (.pointer (some (ad 8))), .iface 252 (.pointer (some (ad 9))), .iface 252 (.pointer (some (ad 10))), .iface 252 (.pointer (some (ad 11)))] 27)).cell? ⟨w1.heap.size, k, none⟩ = some (.iface 252 (.pointer (some (ad k)))) := by
  intro k hk
  rw [World.cell?_alloc_new]
  match k, hk with
  | 0, _ => rfl
  | 1, _ => rfl
  | 2, _ => rfl
  | 3, _ => rfl
  | 4, _ => rfl
  | 5, _ => rfl
  | 6, _ => rfl
  | 7, _ => rfl
  | 8, _ => rfl
  | 9, _ => rfl
  | 10, _ => rfl
  | 11, _ => rfl
 have hb2 : Below w.heap.size w (w1.alloc (.cells #[.iface 252 (.pointer (some (ad 0))), .iface 252 (.pointer (some (ad 1))), .iface 252 (.pointer (some (ad 2))), .iface 252 (.pointer (some (ad 3))), .iface 252 (.pointer (some (ad 4))), .iface 252 (.pointer (some (ad 5))), .iface 252 (.pointer (some (ad 6))), .iface 252 (.pointer (some (ad 7))), .iface 252 (.pointer (some (ad 8))), .iface 252 (.pointer (some (ad 9))), .iface 252 (.pointer (some (ad 10))), .iface 252 (.pointer (some (ad 11)))] 27)) := HB1.out.alloc HB1.out.size _
 clear c0 c1 c2 c3 c4 c5 c6 c7 c8 c9 c10 c11
 generalize w1.alloc (.cells #[.iface 252 (.pointer (some (ad 0))), .iface 252 (.pointer (some (ad 1))), .iface 252 (.pointer (some (ad 2))), .iface 252 (.pointer (some (ad 3))), .iface 252 (.pointer (some (ad 4))), .iface 252 (.pointer (some (ad 5))), .iface 252 (.pointer (some (ad 6))), .iface 252 (.pointer (some (ad 7))), .iface 252 (.pointer (some (ad 8))), .iface 252 (.pointer (some (ad 9))), .iface 252 (.pointer (some (ad 10))), .iface 252 (.pointer (some (ad 11)))] 27) = w2 at *
 have HB2 := hide hb2
 have HC := hide hcell
 clear hb2 hcell
 go_loop [3, 30] (fun a i => ∃ k : Nat, k ≤ 12 ∧ k ≤ j ∧ i = .int .i64 k ∧ a = .int .i64 (-1)) (fun _ i => 12 - (intOf i).toNat)
 case atStart => exact ⟨0, by omega, by omega, rfl, rfl⟩
 case round =>
  obtain ⟨k, hk, hkj, rfl, rfl⟩ := hrel
  by_cases hlt : k < 12
  ·have hck := HC.out k hlt
   have hki : ((k : Int)) < 12 := by omega
   by_cases hj : k = j
   ·have HI := hide (hIs.out k hlt _ HB2.out)
    have hb : (k == j) = true := by simp [hj]
    have Hj := hide hj
    clear hj
    go_wp2_with fail
    refine (HI.out).mono ?_
    rintro e w3 ⟨rfl, rfl⟩
    rw [hb]
    go_wp2
    go_ret2
    exact ⟨by rw [show codeOf j = (k : Int) + 1 by unfold codeOf; rw [← Hj.out, if_pos hlt]]; rfl, HB2.out⟩
   ·have HI := hide (hIs.out k hlt _ HB2.out)
    have hb : (k == j) = false := by simp [hj]
    go_wp2_with fail
    refine (HI.out).mono ?_
    rintro e w3 ⟨rfl, rfl⟩
    rw [hb]
    go_wp2
    exact ⟨⟨k + 1, by omega, by omega, by go_num, rfl⟩, by simp [intOf]; omega⟩
  ·have hki : ¬ ((k : Int)) < 12 := by omega
   go_wp2
   go_ret2
   exact ⟨by rw [show codeOf j = -1 by unfold codeOf; rw [if_neg (by omega)]]; rfl, HB2.out⟩

theorem Sent.is {w wz : World} {ad : Nat → Addr} (h : Sent w ad) (hb : Below w.heap.size w wz) (j k : Nat) (hj : j < 12) (hk : k < 12) :
  Calls Tryz.prog 98 #[.iface 252 (.pointer (some (ad j))), .iface 252 (.pointer (some (ad k)))] wz fun e w' => e = .returned (.bool (k == j)) ∧ w' = wz := by
 by_cases hjk : k = j
 ·subst hjk
  simpa using is_same (ad k) wz
 ·obtain ⟨ca, ta, ha⟩ := (h.later hb).row j hj
  obtain ⟨cb, tb, hb'⟩ := (h.later hb).row k hk
  have e : (k == j) = false := by simpa using hjk
  rw [e]
  exact is_other (ad j) (ad k) ca cb ta tb wz (h.ne j k hj hk (fun e => hjk e.symm)) ha hb'

theorem code_sent (j : Nat) (hj : j < 12) (ad : Nat → Addr) (w : World) (hs : Sent w ad) :
  Calls Tryz.prog 58 #[.iface 252 (.pointer (some (ad j)))] w fun e w' => e = .returned (.tuple #[.int .i64 (j + 1), .int .i64 (-1)]) ∧ Below w.heap.size w w' := by
 have h := code_plain (ad j) j ad w hs (fun k hk wz hb => hs.is hb j k hj hk)
 rw [show codeOf j = j + 1 by simp [codeOf, hj]] at h
 exact h

end Go.Proofs.YtdggddjgipgllaaGreatDoor
namespace Go.Proofs.YtdggddjgipgllaaGreatDoor
open Go.RowKit Go.Extern.Stop Go.Stop Go.Extern
set_option maxRecDepth 100000

end Go.Proofs.YtdggddjgipgllaaGreatDoor
namespace Go.Proofs.YtdggddjgipgllaaGreatDoor
open Go.RowKit
set_option maxRecDepth 100000

end Go.Proofs.YtdggddjgipgllaaGreatDoor
