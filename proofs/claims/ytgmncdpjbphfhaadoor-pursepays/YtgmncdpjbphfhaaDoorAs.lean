/- errors.As by its contracts, the target a pointer to an api.Fault: at an error of errors.New's make (false), and at an api.Fault (true, and the target is set). -/
import Derived.Test.YtgmncdpjbphfhaaDoorIs
namespace Go.Proofs.YtgmncdpjbphfhaaDoor
open Go.RowKit Go.Extern.Stop Go.Stop Go.Extern
set_option maxRecDepth 100000

theorem aValueOf (t : Addr) (w : World) : (entryOf Tryd.f36 #[.iface 69 (.pointer (some t))]).run Tryd.prog w
    = .ok (.agg #[.pointer (some ⟨13, 69, none⟩), .pointer (some ⟨w.heap.size, 0, none⟩), .int .u64 150]) (w.alloc (.cells #[.pointer (some t)] 69)) := by kernel_rfl
theorem aType (a : Addr) (w : World) : (entryOf Tryd.f37 #[.agg #[.pointer (some ⟨13, 69, none⟩), .pointer (some a), .int .u64 150]]).run Tryd.prog w = .ok (.iface 94 (.agg #[.pointer (some ⟨13, 69, none⟩)])) w := by kernel_rfl
theorem aMethodKind (h : Value) (w : World) : (Go.method 244 94 (.agg #[h]) "Kind").run Tryd.prog w = .ok (63, h) w := by kernel_rfl
theorem aKind65 (w : World) : (entryOf Tryd.f63 #[.pointer (some ⟨13, 69, none⟩)]).run Tryd.prog w = .ok (.int .u8 22) w := by kernel_rfl
theorem aKind29 (w : World) : (entryOf Tryd.f63 #[.pointer (some ⟨13, 67, none⟩)]).run Tryd.prog w = .ok (.int .u8 22) w := by kernel_rfl
theorem aMethodElem (h : Value) (w : World) : (Go.method 244 94 (.agg #[h]) "Elem").run Tryd.prog w = .ok (74, .agg #[h]) w := by kernel_rfl
theorem aMethodImplements (h : Value) (w : World) : (Go.method 244 94 (.agg #[h]) "Implements").run Tryd.prog w = .ok (75, .agg #[h]) w := by kernel_rfl
theorem aMethodAssignable (h : Value) (w : World) : (Go.method 244 94 (.agg #[h]) "AssignableTo").run Tryd.prog w = .ok (72, .agg #[h]) w := by kernel_rfl
theorem aElem65 (w : World) : (entryOf Tryd.f74 #[.agg #[.pointer (some ⟨13, 69, none⟩)]]).run Tryd.prog w = .ok (.iface 94 (.agg #[.pointer (some ⟨13, 67, none⟩)])) w := by kernel_rfl
theorem aImplements (w : World) : (entryOf Tryd.f75 #[.agg #[.pointer (some ⟨13, 67, none⟩)], .iface 94 (.agg #[.pointer (some ⟨13, 39, none⟩)])]).run Tryd.prog w = .ok (.bool true) w := by kernel_rfl
theorem aTypeOf67 (v : Value) (w : World) : (entryOf Tryd.f40 #[.iface 110 v]).run Tryd.prog w = .ok (.iface 94 (.agg #[.pointer (some ⟨13, 110, none⟩)])) w := by kernel_rfl
theorem aTypeOf29 (v : Value) (w : World) : (entryOf Tryd.f40 #[.iface 67 v]).run Tryd.prog w = .ok (.iface 94 (.agg #[.pointer (some ⟨13, 67, none⟩)])) w := by kernel_rfl
theorem aAssignable67 (w : World) : (entryOf Tryd.f72 #[.agg #[.pointer (some ⟨13, 110, none⟩)], .iface 94 (.agg #[.pointer (some ⟨13, 67, none⟩)])]).run Tryd.prog w = .ok (.bool false) w := by kernel_rfl
theorem aAssignable29 (w : World) : (entryOf Tryd.f72 #[.agg #[.pointer (some ⟨13, 67, none⟩)], .iface 94 (.agg #[.pointer (some ⟨13, 67, none⟩)])]).run Tryd.prog w = .ok (.bool true) w := by kernel_rfl
theorem aNoAs (v : Value) (xT : TypeId) (w : World) : (Instr.typeAssert (.iface 110 v) xT 98 true).run Tryd.prog w = .ok (.tuple #[.nilIface, .bool false]) w := run_typeAssert_lacksB Tryd.underlying98 (by kernel_rfl) (by kernel_rfl) v xT w
theorem aValueOf29 (e : Addr) (w : World) : (entryOf Tryd.f36 #[.iface 67 (.pointer (some e))]).run Tryd.prog w
    = .ok (.agg #[.pointer (some ⟨13, 67, none⟩), .pointer (some ⟨w.heap.size, 0, none⟩), .int .u64 150]) (w.alloc (.cells #[.pointer (some e)] 67)) := by kernel_rfl

theorem eIsNil : entryOf Tryd.f38 = ReflectliteValue.method (ReflectliteValue.valueError "reflectlite.Value.IsNil" 0) ReflectliteValue.isNil := by kernel_rfl
theorem rlm (z : Sem Value) (f : TypeId → Addr → Nat → Nat → Sem Value) (v : Value) :
    ReflectliteValue.method z f #[v] = (do match ← ReflectliteValue.parts v with | none => z | some (t, a, fl) => f t a fl (fl % 32)) := rfl
theorem aParts65 (a : Addr) (w : World) : (ReflectliteValue.parts (.agg #[.pointer (some ⟨13, 69, none⟩), .pointer (some a), .int .u64 150])).run Tryd.prog w = .ok (some (69, a, 150)) w := by kernel_rfl
theorem aIsNil (a p : Addr) (W : World) (ha : W.cell? a = some (.pointer (some p))) :
    (entryOf Tryd.f38 #[.agg #[.pointer (some ⟨13, 69, none⟩), .pointer (some a), .int .u64 150]]).run Tryd.prog W = .ok (.bool false) W := by
  rw [eIsNil, rlm]
  simp only [Sem.run_bind, aParts65, Result.andThen]
  simp [ReflectliteValue.isNil, loadVar, isAgg, underlying, Tryd.underlying69, ha, Result.andThen]

set_option maxHeartbeats 4000000 in
theorem as_miss (x t : Addr) (w : World) (hg : w.cell? ⟨12, 0, none⟩ = some (.iface 94 (.agg #[.pointer (some ⟨13, 39, none⟩)]))) :
    Calls Tryd.prog 31 #[.iface 110 (.pointer (some x)), .iface 69 (.pointer (some t))] w fun e w' => e = .returned (.bool false) ∧ Below w.heap.size w w' := by
  have h40 := @run_callFunc_extern Tryd.prog 36 _ (entryOf Tryd.f36) Tryd.func36 (by kernel_rfl) (by kernel_rfl) (by kernel_rfl) (by kernel_rfl)
  have h41 := @run_callFunc_extern Tryd.prog 37 _ (entryOf Tryd.f37) Tryd.func37 (by kernel_rfl) (by kernel_rfl) (by kernel_rfl) (by kernel_rfl)
  have h42 := @run_callFunc_extern Tryd.prog 38 _ (entryOf Tryd.f38) Tryd.func38 (by kernel_rfl) (by kernel_rfl) (by kernel_rfl) (by kernel_rfl)
  have h66 := @run_callFunc_extern Tryd.prog 63 _ (entryOf Tryd.f63) Tryd.func63 (by kernel_rfl) (by kernel_rfl) (by kernel_rfl) (by kernel_rfl)
  have h78 := @run_callFunc_extern Tryd.prog 74 _ (entryOf Tryd.f74) Tryd.func74 (by kernel_rfl) (by kernel_rfl) (by kernel_rfl) (by kernel_rfl)
  have h79 := @run_callFunc_extern Tryd.prog 75 _ (entryOf Tryd.f75) Tryd.func75 (by kernel_rfl) (by kernel_rfl) (by kernel_rfl) (by kernel_rfl)
  have h44 := @run_callFunc_extern Tryd.prog 40 _ (entryOf Tryd.f40) Tryd.func40 (by kernel_rfl) (by kernel_rfl) (by kernel_rfl) (by kernel_rfl)
  have h76 := @run_callFunc_extern Tryd.prog 72 _ (entryOf Tryd.f72) Tryd.func72 (by kernel_rfl) (by kernel_rfl) (by kernel_rfl) (by kernel_rfl)
  have f40 := aValueOf
  have f41 := aType
  have mK := aMethodKind
  have k65 := aKind65
  have k29 := aKind29
  have mE := aMethodElem
  have mI := aMethodImplements
  have mA := aMethodAssignable
  have e65 := aElem65
  have i29 := aImplements
  have tO := aTypeOf67
  have a67 := aAssignable67
  have nA := aNoAs
  have uE := noUnwrapE
  have vE := noUnwrapsE
  have hlt := World.block_lt_of_cell? _ _ hg
  have hlt : 12 < w.heap.size := hlt
  have n42 := aIsNil ⟨w.heap.size, 0, none⟩ t ((w.alloc (.cells #[.pointer (some t)] 69)).alloc (.cells #[.pointer (some ⟨13, 69, none⟩), .pointer (some ⟨w.heap.size, 0, none⟩), .int .u64 150] 80)) (by simp)
  have hg2 : ((w.alloc (.cells #[.pointer (some t)] 69)).alloc (.cells #[.pointer (some ⟨13, 69, none⟩), .pointer (some ⟨w.heap.size, 0, none⟩), .int .u64 150] 80)).cell? ⟨12, 0, none⟩ = some (.iface 94 (.agg #[.pointer (some ⟨13, 39, none⟩)])) := by
    rw [World.cell?_alloc_lt _ _ ⟨12, 0, none⟩ (by simp; omega), World.cell?_alloc_lt _ _ ⟨12, 0, none⟩ hlt]; exact hg
  go_enter Tryd.func31, Tryd.ntmps31
  go_wp2
  refine wp_loop_rounds 1 ?_
  rw [rounds_succ]
  go_wp2
  go_ret
  refine ⟨rfl, ?_⟩
  exact (((Below.refl _ _).alloc (Nat.le_refl _) _).alloc (by simp) _).alloc (by simp; omega) _
end Go.Proofs.YtgmncdpjbphfhaaDoor
