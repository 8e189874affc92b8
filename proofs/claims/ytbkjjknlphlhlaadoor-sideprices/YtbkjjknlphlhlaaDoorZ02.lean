/- errors.As by its contracts, the target a pointer to an api.Fault: at an error of errors.New's make (false), and at an api.Fault (true, and the target is set). -/
import Derived.Test.YtbkjjknlphlhlaaDoorZ01
namespace Go.Proofs.YtbkjjknlphlhlaaDoor
open Go.RowKit Go.Extern.Stop Go.Stop Go.Extern
set_option maxRecDepth 100000

theorem aValueOf (t : Addr) (w : World) : (entryOf Tryd.f40 #[.iface 69 (.pointer (some t))]).run Tryd.prog w
    = .ok (.agg #[.pointer (some ⟨13, 69, none⟩), .pointer (some ⟨w.heap.size, 0, none⟩), .int .u64 150]) (w.alloc (.cells #[.pointer (some t)] 69)) := by kernel_rfl
theorem aType (a : Addr) (w : World) : (entryOf Tryd.f41 #[.agg #[.pointer (some ⟨13, 69, none⟩), .pointer (some a), .int .u64 150]]).run Tryd.prog w = .ok (.iface 124 (.agg #[.pointer (some ⟨13, 69, none⟩)])) w := by kernel_rfl
theorem aMethodKind (h : Value) (w : World) : (Go.method 278 124 (.agg #[h]) "Kind").run Tryd.prog w = .ok (89, h) w := by kernel_rfl
theorem aKind65 (w : World) : (entryOf Tryd.f89 #[.pointer (some ⟨13, 69, none⟩)]).run Tryd.prog w = .ok (.int .u8 22) w := by kernel_rfl
theorem aKind29 (w : World) : (entryOf Tryd.f89 #[.pointer (some ⟨13, 56, none⟩)]).run Tryd.prog w = .ok (.int .u8 22) w := by kernel_rfl
theorem aMethodElem (h : Value) (w : World) : (Go.method 278 124 (.agg #[h]) "Elem").run Tryd.prog w = .ok (100, .agg #[h]) w := by kernel_rfl
theorem aMethodImplements (h : Value) (w : World) : (Go.method 278 124 (.agg #[h]) "Implements").run Tryd.prog w = .ok (101, .agg #[h]) w := by kernel_rfl
theorem aMethodAssignable (h : Value) (w : World) : (Go.method 278 124 (.agg #[h]) "AssignableTo").run Tryd.prog w = .ok (98, .agg #[h]) w := by kernel_rfl
theorem aElem65 (w : World) : (entryOf Tryd.f100 #[.agg #[.pointer (some ⟨13, 69, none⟩)]]).run Tryd.prog w = .ok (.iface 124 (.agg #[.pointer (some ⟨13, 56, none⟩)])) w := by kernel_rfl
theorem aImplements (w : World) : (entryOf Tryd.f101 #[.agg #[.pointer (some ⟨13, 56, none⟩)], .iface 124 (.agg #[.pointer (some ⟨13, 27, none⟩)])]).run Tryd.prog w = .ok (.bool true) w := by kernel_rfl
theorem aTypeOf67 (v : Value) (w : World) : (entryOf Tryd.f44 #[.iface 145 v]).run Tryd.prog w = .ok (.iface 124 (.agg #[.pointer (some ⟨13, 145, none⟩)])) w := by kernel_rfl
theorem aTypeOf29 (v : Value) (w : World) : (entryOf Tryd.f44 #[.iface 56 v]).run Tryd.prog w = .ok (.iface 124 (.agg #[.pointer (some ⟨13, 56, none⟩)])) w := by kernel_rfl
theorem aAssignable67 (w : World) : (entryOf Tryd.f98 #[.agg #[.pointer (some ⟨13, 145, none⟩)], .iface 124 (.agg #[.pointer (some ⟨13, 56, none⟩)])]).run Tryd.prog w = .ok (.bool false) w := by kernel_rfl
theorem aAssignable29 (w : World) : (entryOf Tryd.f98 #[.agg #[.pointer (some ⟨13, 56, none⟩)], .iface 124 (.agg #[.pointer (some ⟨13, 56, none⟩)])]).run Tryd.prog w = .ok (.bool true) w := by kernel_rfl
theorem aNoAs (v : Value) (xT : TypeId) (w : World) : (Instr.typeAssert (.iface 145 v) xT 128 true).run Tryd.prog w = .ok (.tuple #[.nilIface, .bool false]) w := run_typeAssert_lacksB Tryd.underlying128 (by kernel_rfl) (by kernel_rfl) v xT w
theorem aValueOf29 (e : Addr) (w : World) : (entryOf Tryd.f40 #[.iface 56 (.pointer (some e))]).run Tryd.prog w
    = .ok (.agg #[.pointer (some ⟨13, 56, none⟩), .pointer (some ⟨w.heap.size, 0, none⟩), .int .u64 150]) (w.alloc (.cells #[.pointer (some e)] 56)) := by kernel_rfl

theorem eIsNil : entryOf Tryd.f42 = ReflectliteValue.method (ReflectliteValue.valueError "reflectlite.Value.IsNil" 0) ReflectliteValue.isNil := by kernel_rfl
theorem rlm (z : Sem Value) (f : TypeId → Addr → Nat → Nat → Sem Value) (v : Value) :
    ReflectliteValue.method z f #[v] = (do match ← ReflectliteValue.parts v with | none => z | some (t, a, fl) => f t a fl (fl % 32)) := rfl
theorem aParts65 (a : Addr) (w : World) : (ReflectliteValue.parts (.agg #[.pointer (some ⟨13, 69, none⟩), .pointer (some a), .int .u64 150])).run Tryd.prog w = .ok (some (69, a, 150)) w := by kernel_rfl
theorem aIsNil (a p : Addr) (W : World) (ha : W.cell? a = some (.pointer (some p))) :
    (entryOf Tryd.f42 #[.agg #[.pointer (some ⟨13, 69, none⟩), .pointer (some a), .int .u64 150]]).run Tryd.prog W = .ok (.bool false) W := by
  rw [eIsNil, rlm]
  simp only [Sem.run_bind, aParts65, Result.andThen]
  simp [ReflectliteValue.isNil, loadVar, isAgg, underlying, Tryd.underlying69, ha, Result.andThen]

set_option maxHeartbeats 4000000 in
theorem as_miss (x t : Addr) (w : World) (hg : w.cell? ⟨12, 0, none⟩ = some (.iface 124 (.agg #[.pointer (some ⟨13, 27, none⟩)]))) :
    Calls Tryd.prog 30 #[.iface 145 (.pointer (some x)), .iface 69 (.pointer (some t))] w fun e w' => e = .returned (.bool false) ∧ Below w.heap.size w w' := by
  have h40 := @run_callFunc_extern Tryd.prog 40 _ (entryOf Tryd.f40) Tryd.func40 (by kernel_rfl) (by kernel_rfl) (by kernel_rfl) (by kernel_rfl)
  have h41 := @run_callFunc_extern Tryd.prog 41 _ (entryOf Tryd.f41) Tryd.func41 (by kernel_rfl) (by kernel_rfl) (by kernel_rfl) (by kernel_rfl)
  have h42 := @run_callFunc_extern Tryd.prog 42 _ (entryOf Tryd.f42) Tryd.func42 (by kernel_rfl) (by kernel_rfl) (by kernel_rfl) (by kernel_rfl)
  have h66 := @run_callFunc_extern Tryd.prog 89 _ (entryOf Tryd.f89) Tryd.func89 (by kernel_rfl) (by kernel_rfl) (by kernel_rfl) (by kernel_rfl)
  have h78 := @run_callFunc_extern Tryd.prog 100 _ (entryOf Tryd.f100) Tryd.func100 (by kernel_rfl) (by kernel_rfl) (by kernel_rfl) (by kernel_rfl)
  have h79 := @run_callFunc_extern Tryd.prog 101 _ (entryOf Tryd.f101) Tryd.func101 (by kernel_rfl) (by kernel_rfl) (by kernel_rfl) (by kernel_rfl)
  have h44 := @run_callFunc_extern Tryd.prog 44 _ (entryOf Tryd.f44) Tryd.func44 (by kernel_rfl) (by kernel_rfl) (by kernel_rfl) (by kernel_rfl)
  have h76 := @run_callFunc_extern Tryd.prog 98 _ (entryOf Tryd.f98) Tryd.func98 (by kernel_rfl) (by kernel_rfl) (by kernel_rfl) (by kernel_rfl)
  have f40 := aValueOf
  have f41 := aType
  have mK := aMethodKind
  have k65 := aKind65
  have k29 := aKind29
  have mE := aMethodElem
  have mI := aMethodImplements
  have mA := aMethodAssignable
  have e65 := aElem65
  have i29 := aImplements
  have tO := aTypeOf67
  have a67 := aAssignable67
  have nA := aNoAs
  have uE := noUnwrapE
  have vE := noUnwrapsE
  have hlt := World.block_lt_of_cell? _ _ hg
  have hlt : 12 < w.heap.size := hlt
  have n42 := aIsNil ⟨w.heap.size, 0, none⟩ t ((w.alloc (.cells #[.pointer (some t)] 69)).alloc (.cells #[.pointer (some ⟨13, 69, none⟩), .pointer (some ⟨w.heap.size, 0, none⟩), .int .u64 150] 93)) (by simp)
  have hg2 : ((w.alloc (.cells #[.pointer (some t)] 69)).alloc (.cells #[.pointer (some ⟨13, 69, none⟩), .pointer (some ⟨w.heap.size, 0, none⟩), .int .u64 150] 93)).cell? ⟨12, 0, none⟩ = some (.iface 124 (.agg #[.pointer (some ⟨13, 27, none⟩)])) := by
    rw [World.cell?_alloc_lt _ _ ⟨12, 0, none⟩ (by simp; omega), World.cell?_alloc_lt _ _ ⟨12, 0, none⟩ hlt]; exact hg
  go_enter Tryd.func30, Tryd.ntmps30
  go_wp2
  refine wp_loop_rounds 1 ?_
  rw [rounds_succ]
  go_wp2
  go_ret
  refine ⟨rfl, ?_⟩
  exact (((Below.refl _ _).alloc (Nat.le_refl _) _).alloc (by simp) _).alloc (by simp; omega) _
end Go.Proofs.YtbkjjknlphlhlaaDoor
