/- errors.As by its contracts, the target a pointer to an api.Fault: at an error of errors.New's make (false), and at an api.Fault (true, and the target is set). -/
import Derived.Test.YtccjlddikinkiaaDoorIs
namespace Go.Proofs.YtccjlddikinkiaaDoor
open Go.RowKit Go.Extern.Stop Go.Stop Go.Extern
set_option maxRecDepth 100000

theorem aValueOf (t : Addr) (w : World) : (entryOf Tryd.f22 #[.iface 49 (.pointer (some t))]).run Tryd.prog w
    = .ok (.agg #[.pointer (some ⟨13, 49, none⟩), .pointer (some ⟨w.heap.size, 0, none⟩), .int .u64 150]) (w.alloc (.cells #[.pointer (some t)] 49)) := by kernel_rfl
theorem aType (a : Addr) (w : World) : (entryOf Tryd.f23 #[.agg #[.pointer (some ⟨13, 49, none⟩), .pointer (some a), .int .u64 150]]).run Tryd.prog w = .ok (.iface 71 (.agg #[.pointer (some ⟨13, 49, none⟩)])) w := by kernel_rfl
theorem aMethodKind (h : Value) (w : World) : (Go.method 218 71 (.agg #[h]) "Kind").run Tryd.prog w = .ok (47, h) w := by kernel_rfl
theorem aKind65 (w : World) : (entryOf Tryd.f47 #[.pointer (some ⟨13, 49, none⟩)]).run Tryd.prog w = .ok (.int .u8 22) w := by kernel_rfl
theorem aKind29 (w : World) : (entryOf Tryd.f47 #[.pointer (some ⟨13, 47, none⟩)]).run Tryd.prog w = .ok (.int .u8 22) w := by kernel_rfl
theorem aMethodElem (h : Value) (w : World) : (Go.method 218 71 (.agg #[h]) "Elem").run Tryd.prog w = .ok (58, .agg #[h]) w := by kernel_rfl
theorem aMethodImplements (h : Value) (w : World) : (Go.method 218 71 (.agg #[h]) "Implements").run Tryd.prog w = .ok (59, .agg #[h]) w := by kernel_rfl
theorem aMethodAssignable (h : Value) (w : World) : (Go.method 218 71 (.agg #[h]) "AssignableTo").run Tryd.prog w = .ok (56, .agg #[h]) w := by kernel_rfl
theorem aElem65 (w : World) : (entryOf Tryd.f58 #[.agg #[.pointer (some ⟨13, 49, none⟩)]]).run Tryd.prog w = .ok (.iface 71 (.agg #[.pointer (some ⟨13, 47, none⟩)])) w := by kernel_rfl
theorem aImplements (w : World) : (entryOf Tryd.f59 #[.agg #[.pointer (some ⟨13, 47, none⟩)], .iface 71 (.agg #[.pointer (some ⟨13, 31, none⟩)])]).run Tryd.prog w = .ok (.bool true) w := by kernel_rfl
theorem aTypeOf67 (v : Value) (w : World) : (entryOf Tryd.f26 #[.iface 85 v]).run Tryd.prog w = .ok (.iface 71 (.agg #[.pointer (some ⟨13, 85, none⟩)])) w := by kernel_rfl
theorem aTypeOf29 (v : Value) (w : World) : (entryOf Tryd.f26 #[.iface 47 v]).run Tryd.prog w = .ok (.iface 71 (.agg #[.pointer (some ⟨13, 47, none⟩)])) w := by kernel_rfl
theorem aAssignable67 (w : World) : (entryOf Tryd.f56 #[.agg #[.pointer (some ⟨13, 85, none⟩)], .iface 71 (.agg #[.pointer (some ⟨13, 47, none⟩)])]).run Tryd.prog w = .ok (.bool false) w := by kernel_rfl
theorem aAssignable29 (w : World) : (entryOf Tryd.f56 #[.agg #[.pointer (some ⟨13, 47, none⟩)], .iface 71 (.agg #[.pointer (some ⟨13, 47, none⟩)])]).run Tryd.prog w = .ok (.bool true) w := by kernel_rfl
theorem aNoAs (v : Value) (xT : TypeId) (w : World) : (Instr.typeAssert (.iface 85 v) xT 75 true).run Tryd.prog w = .ok (.tuple #[.nilIface, .bool false]) w := run_typeAssert_lacksB Tryd.underlying75 (by kernel_rfl) (by kernel_rfl) v xT w
theorem aValueOf29 (e : Addr) (w : World) : (entryOf Tryd.f22 #[.iface 47 (.pointer (some e))]).run Tryd.prog w
    = .ok (.agg #[.pointer (some ⟨13, 47, none⟩), .pointer (some ⟨w.heap.size, 0, none⟩), .int .u64 150]) (w.alloc (.cells #[.pointer (some e)] 47)) := by kernel_rfl

theorem eIsNil : entryOf Tryd.f24 = ReflectliteValue.method (ReflectliteValue.valueError "reflectlite.Value.IsNil" 0) ReflectliteValue.isNil := by kernel_rfl
theorem rlm (z : Sem Value) (f : TypeId → Addr → Nat → Nat → Sem Value) (v : Value) :
    ReflectliteValue.method z f #[v] = (do match ← ReflectliteValue.parts v with | none => z | some (t, a, fl) => f t a fl (fl % 32)) := rfl
theorem aParts65 (a : Addr) (w : World) : (ReflectliteValue.parts (.agg #[.pointer (some ⟨13, 49, none⟩), .pointer (some a), .int .u64 150])).run Tryd.prog w = .ok (some (49, a, 150)) w := by kernel_rfl
theorem aIsNil (a p : Addr) (W : World) (ha : W.cell? a = some (.pointer (some p))) :
    (entryOf Tryd.f24 #[.agg #[.pointer (some ⟨13, 49, none⟩), .pointer (some a), .int .u64 150]]).run Tryd.prog W = .ok (.bool false) W := by
  rw [eIsNil, rlm]
  simp only [Sem.run_bind, aParts65, Result.andThen]
  simp [ReflectliteValue.isNil, loadVar, isAgg, underlying, Tryd.underlying49, ha, Result.andThen]

set_option maxHeartbeats 4000000 in
theorem as_miss (x t : Addr) (w : World) (hg : w.cell? ⟨12, 0, none⟩ = some (.iface 71 (.agg #[.pointer (some ⟨13, 31, none⟩)]))) :
    Calls Tryd.prog 17 #[.iface 85 (.pointer (some x)), .iface 49 (.pointer (some t))] w fun e w' => e = .returned (.bool false) ∧ Below w.heap.size w w' := by
  have h40 := @run_callFunc_extern Tryd.prog 22 _ (entryOf Tryd.f22) Tryd.func22 (by kernel_rfl) (by kernel_rfl) (by kernel_rfl) (by kernel_rfl)
  have h41 := @run_callFunc_extern Tryd.prog 23 _ (entryOf Tryd.f23) Tryd.func23 (by kernel_rfl) (by kernel_rfl) (by kernel_rfl) (by kernel_rfl)
  have h42 := @run_callFunc_extern Tryd.prog 24 _ (entryOf Tryd.f24) Tryd.func24 (by kernel_rfl) (by kernel_rfl) (by kernel_rfl) (by kernel_rfl)
  have h66 := @run_callFunc_extern Tryd.prog 47 _ (entryOf Tryd.f47) Tryd.func47 (by kernel_rfl) (by kernel_rfl) (by kernel_rfl) (by kernel_rfl)
  have h78 := @run_callFunc_extern Tryd.prog 58 _ (entryOf Tryd.f58) Tryd.func58 (by kernel_rfl) (by kernel_rfl) (by kernel_rfl) (by kernel_rfl)
  have h79 := @run_callFunc_extern Tryd.prog 59 _ (entryOf Tryd.f59) Tryd.func59 (by kernel_rfl) (by kernel_rfl) (by kernel_rfl) (by kernel_rfl)
  have h44 := @run_callFunc_extern Tryd.prog 26 _ (entryOf Tryd.f26) Tryd.func26 (by kernel_rfl) (by kernel_rfl) (by kernel_rfl) (by kernel_rfl)
  have h76 := @run_callFunc_extern Tryd.prog 56 _ (entryOf Tryd.f56) Tryd.func56 (by kernel_rfl) (by kernel_rfl) (by kernel_rfl) (by kernel_rfl)
  have f40 := aValueOf
  have f41 := aType
  have mK := aMethodKind
  have k65 := aKind65
  have k29 := aKind29
  have mE := aMethodElem
  have mI := aMethodImplements
  have mA := aMethodAssignable
  have e65 := aElem65
  have i29 := aImplements
  have tO := aTypeOf67
  have a67 := aAssignable67
  have nA := aNoAs
  have uE := noUnwrapE
  have vE := noUnwrapsE
  have hlt := World.block_lt_of_cell? _ _ hg
  have hlt : 12 < w.heap.size := hlt
  have n42 := aIsNil ⟨w.heap.size, 0, none⟩ t ((w.alloc (.cells #[.pointer (some t)] 49)).alloc (.cells #[.pointer (some ⟨13, 49, none⟩), .pointer (some ⟨w.heap.size, 0, none⟩), .int .u64 150] 59)) (by simp)
  have hg2 : ((w.alloc (.cells #[.pointer (some t)] 49)).alloc (.cells #[.pointer (some ⟨13, 49, none⟩), .pointer (some ⟨w.heap.size, 0, none⟩), .int .u64 150] 59)).cell? ⟨12, 0, none⟩ = some (.iface 71 (.agg #[.pointer (some ⟨13, 31, none⟩)])) := by
    rw [World.cell?_alloc_lt _ _ ⟨12, 0, none⟩ (by simp; omega), World.cell?_alloc_lt _ _ ⟨12, 0, none⟩ hlt]; exact hg
  go_enter Tryd.func17, Tryd.ntmps17
  go_wp2
  refine wp_loop_rounds 1 ?_
  rw [rounds_succ]
  go_wp2
  go_ret
  refine ⟨rfl, ?_⟩
  exact (((Below.refl _ _).alloc (Nat.le_refl _) _).alloc (by simp) _).alloc (by simp; omega) _
end Go.Proofs.YtccjlddikinkiaaDoor
