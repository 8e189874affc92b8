/- errors.As by its contracts, the target a pointer to an api.Fault: at an error of errors.New's make (false), and at an api.Fault (true, and the target is set). -/
import Derived.Test.YtbcinejhipmomaaDoorIs
namespace Go.Proofs.YtbcinejhipmomaaDoor
open Go.RowKit Go.Extern.Stop Go.Stop Go.Extern
set_option maxRecDepth 100000

theorem aValueOf (t : Addr) (w : World) : (entryOf Tryd.f80 #[.iface 105 (.pointer (some t))]).run Tryd.prog w
    = .ok (.agg #[.pointer (some ⟨13, 105, none⟩), .pointer (some ⟨w.heap.size, 0, none⟩), .int .u64 150]) (w.alloc (.cells #[.pointer (some t)] 105)) := by kernel_rfl
theorem aType (a : Addr) (w : World) : (entryOf Tryd.f81 #[.agg #[.pointer (some ⟨13, 105, none⟩), .pointer (some a), .int .u64 150]]).run Tryd.prog w = .ok (.iface 139 (.agg #[.pointer (some ⟨13, 105, none⟩)])) w := by kernel_rfl
theorem aMethodKind (h : Value) (w : World) : (Go.method 310 139 (.agg #[h]) "Kind").run Tryd.prog w = .ok (134, h) w := by kernel_rfl
theorem aKind65 (w : World) : (entryOf Tryd.f134 #[.pointer (some ⟨13, 105, none⟩)]).run Tryd.prog w = .ok (.int .u8 22) w := by kernel_rfl
theorem aKind29 (w : World) : (entryOf Tryd.f134 #[.pointer (some ⟨13, 103, none⟩)]).run Tryd.prog w = .ok (.int .u8 22) w := by kernel_rfl
theorem aMethodElem (h : Value) (w : World) : (Go.method 310 139 (.agg #[h]) "Elem").run Tryd.prog w = .ok (145, .agg #[h]) w := by kernel_rfl
theorem aMethodImplements (h : Value) (w : World) : (Go.method 310 139 (.agg #[h]) "Implements").run Tryd.prog w = .ok (146, .agg #[h]) w := by kernel_rfl
theorem aMethodAssignable (h : Value) (w : World) : (Go.method 310 139 (.agg #[h]) "AssignableTo").run Tryd.prog w = .ok (143, .agg #[h]) w := by kernel_rfl
theorem aElem65 (w : World) : (entryOf Tryd.f145 #[.agg #[.pointer (some ⟨13, 105, none⟩)]]).run Tryd.prog w = .ok (.iface 139 (.agg #[.pointer (some ⟨13, 103, none⟩)])) w := by kernel_rfl
theorem aImplements (w : World) : (entryOf Tryd.f146 #[.agg #[.pointer (some ⟨13, 103, none⟩)], .iface 139 (.agg #[.pointer (some ⟨13, 27, none⟩)])]).run Tryd.prog w = .ok (.bool true) w := by kernel_rfl
theorem aTypeOf67 (v : Value) (w : World) : (entryOf Tryd.f84 #[.iface 177 v]).run Tryd.prog w = .ok (.iface 139 (.agg #[.pointer (some ⟨13, 177, none⟩)])) w := by kernel_rfl
theorem aTypeOf29 (v : Value) (w : World) : (entryOf Tryd.f84 #[.iface 103 v]).run Tryd.prog w = .ok (.iface 139 (.agg #[.pointer (some ⟨13, 103, none⟩)])) w := by kernel_rfl
theorem aAssignable67 (w : World) : (entryOf Tryd.f143 #[.agg #[.pointer (some ⟨13, 177, none⟩)], .iface 139 (.agg #[.pointer (some ⟨13, 103, none⟩)])]).run Tryd.prog w = .ok (.bool false) w := by kernel_rfl
theorem aAssignable29 (w : World) : (entryOf Tryd.f143 #[.agg #[.pointer (some ⟨13, 103, none⟩)], .iface 139 (.agg #[.pointer (some ⟨13, 103, none⟩)])]).run Tryd.prog w = .ok (.bool true) w := by kernel_rfl
theorem aNoAs (v : Value) (xT : TypeId) (w : World) : (Instr.typeAssert (.iface 177 v) xT 143 true).run Tryd.prog w = .ok (.tuple #[.nilIface, .bool false]) w := run_typeAssert_lacksB Tryd.underlying143 (by kernel_rfl) (by kernel_rfl) v xT w
theorem aValueOf29 (e : Addr) (w : World) : (entryOf Tryd.f80 #[.iface 103 (.pointer (some e))]).run Tryd.prog w
    = .ok (.agg #[.pointer (some ⟨13, 103, none⟩), .pointer (some ⟨w.heap.size, 0, none⟩), .int .u64 150]) (w.alloc (.cells #[.pointer (some e)] 103)) := by kernel_rfl

theorem eIsNil : entryOf Tryd.f82 = ReflectliteValue.method (ReflectliteValue.valueError "reflectlite.Value.IsNil" 0) ReflectliteValue.isNil := by kernel_rfl
theorem rlm (z : Sem Value) (f : TypeId → Addr → Nat → Nat → Sem Value) (v : Value) :
    ReflectliteValue.method z f #[v] = (do match ← ReflectliteValue.parts v with | none => z | some (t, a, fl) => f t a fl (fl % 32)) := rfl
theorem aParts65 (a : Addr) (w : World) : (ReflectliteValue.parts (.agg #[.pointer (some ⟨13, 105, none⟩), .pointer (some a), .int .u64 150])).run Tryd.prog w = .ok (some (105, a, 150)) w := by kernel_rfl
theorem aIsNil (a p : Addr) (W : World) (ha : W.cell? a = some (.pointer (some p))) :
    (entryOf Tryd.f82 #[.agg #[.pointer (some ⟨13, 105, none⟩), .pointer (some a), .int .u64 150]]).run Tryd.prog W = .ok (.bool false) W := by
  rw [eIsNil, rlm]
  simp only [Sem.run_bind, aParts65, Result.andThen]
  simp [ReflectliteValue.isNil, loadVar, isAgg, underlying, Tryd.underlying105, ha, Result.andThen]

set_option maxHeartbeats 4000000 in
theorem as_miss (x t : Addr) (w : World) (hg : w.cell? ⟨12, 0, none⟩ = some (.iface 139 (.agg #[.pointer (some ⟨13, 27, none⟩)]))) :
    Calls Tryd.prog 65 #[.iface 177 (.pointer (some x)), .iface 105 (.pointer (some t))] w fun e w' => e = .returned (.bool false) ∧ Below w.heap.size w w' := by
  have h40 := @run_callFunc_extern Tryd.prog 80 _ (entryOf Tryd.f80) Tryd.func80 (by kernel_rfl) (by kernel_rfl) (by kernel_rfl) (by kernel_rfl)
  have h41 := @run_callFunc_extern Tryd.prog 81 _ (entryOf Tryd.f81) Tryd.func81 (by kernel_rfl) (by kernel_rfl) (by kernel_rfl) (by kernel_rfl)
  have h42 := @run_callFunc_extern Tryd.prog 82 _ (entryOf Tryd.f82) Tryd.func82 (by kernel_rfl) (by kernel_rfl) (by kernel_rfl) (by kernel_rfl)
  have h66 := @run_callFunc_extern Tryd.prog 134 _ (entryOf Tryd.f134) Tryd.func134 (by kernel_rfl) (by kernel_rfl) (by kernel_rfl) (by kernel_rfl)
  have h78 := @run_callFunc_extern Tryd.prog 145 _ (entryOf Tryd.f145) Tryd.func145 (by kernel_rfl) (by kernel_rfl) (by kernel_rfl) (by kernel_rfl)
  have h79 := @run_callFunc_extern Tryd.prog 146 _ (entryOf Tryd.f146) Tryd.func146 (by kernel_rfl) (by kernel_rfl) (by kernel_rfl) (by kernel_rfl)
  have h44 := @run_callFunc_extern Tryd.prog 84 _ (entryOf Tryd.f84) Tryd.func84 (by kernel_rfl) (by kernel_rfl) (by kernel_rfl) (by kernel_rfl)
  have h76 := @run_callFunc_extern Tryd.prog 143 _ (entryOf Tryd.f143) Tryd.func143 (by kernel_rfl) (by kernel_rfl) (by kernel_rfl) (by kernel_rfl)
  have f40 := aValueOf
  have f41 := aType
  have mK := aMethodKind
  have k65 := aKind65
  have k29 := aKind29
  have mE := aMethodElem
  have mI := aMethodImplements
  have mA := aMethodAssignable
  have e65 := aElem65
  have i29 := aImplements
  have tO := aTypeOf67
  have a67 := aAssignable67
  have nA := aNoAs
  have uE := noUnwrapE
  have vE := noUnwrapsE
  have hlt := World.block_lt_of_cell? _ _ hg
  have hlt : 12 < w.heap.size := hlt
  have n42 := aIsNil ⟨w.heap.size, 0, none⟩ t ((w.alloc (.cells #[.pointer (some t)] 105)).alloc (.cells #[.pointer (some ⟨13, 105, none⟩), .pointer (some ⟨w.heap.size, 0, none⟩), .int .u64 150] 122)) (by simp)
  have hg2 : ((w.alloc (.cells #[.pointer (some t)] 105)).alloc (.cells #[.pointer (some ⟨13, 105, none⟩), .pointer (some ⟨w.heap.size, 0, none⟩), .int .u64 150] 122)).cell? ⟨12, 0, none⟩ = some (.iface 139 (.agg #[.pointer (some ⟨13, 27, none⟩)])) := by
    rw [World.cell?_alloc_lt _ _ ⟨12, 0, none⟩ (by simp; omega), World.cell?_alloc_lt _ _ ⟨12, 0, none⟩ hlt]; exact hg
  go_enter Tryd.func65, Tryd.ntmps65
  go_wp2
  refine wp_loop_rounds 1 ?_
  rw [rounds_succ]
  go_wp2
  go_ret
  refine ⟨rfl, ?_⟩
  exact (((Below.refl _ _).alloc (Nat.le_refl _) _).alloc (by simp) _).alloc (by simp; omega) _
end Go.Proofs.YtbcinejhipmomaaDoor
