/- errors.Is and errors.As by their contracts, at errors of errors.New's make and at an api.Fault: Go's own text of package errors is walked. -/
import Derived.Test.YtidahfhingdlmaaGreatDoorRows
import Derived.WalkKit
import Derived.LaidEql
import Derived.Stop.Asserts
import Derived.RowKitTokens
namespace Go.Proofs.YtidahfhingdlmaaGreatDoor
open Go.RowKit Go.Extern.Stop Go.Stop Go.Extern
set_option maxRecDepth 100000
def entryOf (f:Func):Array Value→Sem Value:=(Extern.find f).getD fun _=>pure (.tuple #[])
theorem isTypeOf (v:Value) (w:World):(Extern.ReflectliteType.typeOf #[.iface 362 v]).run Tryz.prog w = .ok (.iface 274 (.agg #[.pointer (some ⟨21,362,none⟩)])) w:=by kernel_rfl
theorem isComparable (w:World):(entryOf Tryz.f308 #[.agg #[.pointer (some ⟨21,362,none⟩)]]).run Tryz.prog w = .ok (.bool true) w:=by kernel_rfl
theorem isComp:(Tryz.prog.info? 362).map (·.comparable) = some true:=by kernel_rfl
theorem isSize:(Tryz.prog.info? 364).map (·.size) = some 1:=by kernel_rfl
theorem noIsE (v:Value) (xT:TypeId) (w:World):(Instr.typeAssert (.iface 362 v) xT 284 true).run Tryz.prog w = .ok (.tuple #[.nilIface,.bool false]) w:=run_typeAssert_lacksB Tryz.underlying284 (by kernel_rfl) (by kernel_rfl) v xT w
theorem noUnwrapE (v:Value) (xT:TypeId) (w:World):(Instr.typeAssert (.iface 362 v) xT 281 true).run Tryz.prog w = .ok (.tuple #[.nilIface,.bool false]) w:=run_typeAssert_lacksB Tryz.underlying281 (by kernel_rfl) (by kernel_rfl) v xT w
theorem noUnwrapsE (v:Value) (xT:TypeId) (w:World):(Instr.typeAssert (.iface 362 v) xT 282 true).run Tryz.prog w = .ok (.tuple #[.nilIface,.bool false]) w:=run_typeAssert_lacksB Tryz.underlying282 (by kernel_rfl) (by kernel_rfl) v xT w
theorem noIsF (v:Value) (xT:TypeId) (w:World):(Instr.typeAssert (.iface 199 v) xT 284 true).run Tryz.prog w = .ok (.tuple #[.nilIface,.bool false]) w:=run_typeAssert_lacksB Tryz.underlying284 (by kernel_rfl) (by kernel_rfl) v xT w
theorem hasUnwrapF (v:Value) (xT:TypeId) (w:World):(Instr.typeAssert (.iface 199 v) xT 281 true).run Tryz.prog w = .ok (.tuple #[.iface 199 v,.bool true]) w:=run_typeAssert_hasB Tryz.underlying281 (by kernel_rfl) v xT w
theorem mComparable (v:Value) (w:World):(Go.method 512 274 v "Comparable").run Tryz.prog w = .ok (308,v) w:=by kernel_rfl
theorem mUnwrapF (v:Value) (w:World):(Go.method 512 199 v "Unwrap").run Tryz.prog w = .ok (302,v) w:=by kernel_rfl
theorem is_same (a:Addr) (w:World) :
  Calls Tryz.prog 108 #[.iface 362 (.pointer (some a)),.iface 362 (.pointer (some a))] w fun e w'=>e = .returned (.bool true)∧w' = w:=by
 obtain ⟨i,hi,hcmp⟩:=Option.map_eq_some_iff.1 isComp
 obtain ⟨j,hj,hjs⟩:=Option.map_eq_some_iff.1 isSize
 have h8:=@run_callFunc_extern Tryz.prog 146 _ Extern.ReflectliteType.typeOf Tryz.func146 (by kernel_rfl) (by kernel_rfl) (by kernel_rfl) (by kernel_rfl)
 have h32:=@run_callFunc_extern Tryz.prog 308 _ (entryOf Tryz.f308) Tryz.func308 (by kernel_rfl) (by kernel_rfl) (by kernel_rfl) (by kernel_rfl)
 have tT:=isTypeOf
 have cT:=isComparable
 have mR:=mComparable
 have heq:=run_eql_iface_ptr_same (P:=Tryz.prog) w a Tryz.underlying27 Tryz.underlying362 hi hcmp hj
 go_enter Tryz.func108,Tryz.ntmps108
 go_wp2
 refine wp_loop_rounds 1 ?_
 rw [rounds_succ]
 go_wp2
 go_ret
 exact ⟨rfl,rfl⟩
theorem is_other (a b:Addr) (ca cb:Array Value) (ta tb:TypeId) (w:World) (hne:a≠b) (ha:w.heap[a.block]? = some (.cells ca ta (0,0))) (hb:w.heap[b.block]? = some (.cells cb tb (0,0))) :
  Calls Tryz.prog 108 #[.iface 362 (.pointer (some a)),.iface 362 (.pointer (some b))] w fun e w'=>e = .returned (.bool false)∧w' = w:=by
 obtain ⟨i,hi,hcmp⟩:=Option.map_eq_some_iff.1 isComp
 obtain ⟨j,hj,hjs⟩:=Option.map_eq_some_iff.1 isSize
 have h8:=@run_callFunc_extern Tryz.prog 146 _ Extern.ReflectliteType.typeOf Tryz.func146 (by kernel_rfl) (by kernel_rfl) (by kernel_rfl) (by kernel_rfl)
 have h32:=@run_callFunc_extern Tryz.prog 308 _ (entryOf Tryz.f308) Tryz.func308 (by kernel_rfl) (by kernel_rfl) (by kernel_rfl) (by kernel_rfl)
 have tT:=isTypeOf
 have cT:=isComparable
 have mR:=mComparable
 have nE:=noIsE
 have uE:=noUnwrapE
 have vE:=noUnwrapsE
 have nW:=noIsF
 have uW:=hasUnwrapF
 have mU:=mUnwrapF
 have heq:=run_eql_iface_ptr_other (P:=Tryz.prog) w Tryz.underlying27 Tryz.underlying362 hi hcmp hj (by rw [hjs];decide) hne ha hb
 go_enter Tryz.func108,Tryz.ntmps108
 go_wp2
 refine wp_loop_rounds 1 ?_
 rw [rounds_succ]
 go_wp2
 go_ret
 exact ⟨rfl,rfl⟩
theorem aValueOf (t:Addr) (w:World):(entryOf Tryz.f142 #[.iface 201 (.pointer (some t))]).run Tryz.prog w
  = .ok (.agg #[.pointer (some ⟨21,201,none⟩),.pointer (some ⟨w.heap.size,0,none⟩),.int .u64 150]) (w.alloc (.cells #[.pointer (some t)] 201)):=by kernel_rfl
theorem aType (a:Addr) (w:World):(entryOf Tryz.f143 #[.agg #[.pointer (some ⟨21,201,none⟩),.pointer (some a),.int .u64 150]]).run Tryz.prog w = .ok (.iface 274 (.agg #[.pointer (some ⟨21,201,none⟩)])) w:=by kernel_rfl
theorem aMethodKind (h:Value) (w:World):(Go.method 512 274 (.agg #[h]) "Kind").run Tryz.prog w = .ok (296,h) w:=by kernel_rfl
theorem aKind65 (w:World):(entryOf Tryz.f296 #[.pointer (some ⟨21,201,none⟩)]).run Tryz.prog w = .ok (.int .u8 22) w:=by kernel_rfl
theorem aKind29 (w:World):(entryOf Tryz.f296 #[.pointer (some ⟨21,199,none⟩)]).run Tryz.prog w = .ok (.int .u8 22) w:=by kernel_rfl
theorem aMethodElem (h:Value) (w:World):(Go.method 512 274 (.agg #[h]) "Elem").run Tryz.prog w = .ok (309,.agg #[h]) w:=by kernel_rfl
theorem aMethodImplements (h:Value) (w:World):(Go.method 512 274 (.agg #[h]) "Implements").run Tryz.prog w = .ok (310,.agg #[h]) w:=by kernel_rfl
theorem aMethodAssignable (h:Value) (w:World):(Go.method 512 274 (.agg #[h]) "AssignableTo").run Tryz.prog w = .ok (307,.agg #[h]) w:=by kernel_rfl
theorem aElem65 (w:World):(entryOf Tryz.f309 #[.agg #[.pointer (some ⟨21,201,none⟩)]]).run Tryz.prog w = .ok (.iface 274 (.agg #[.pointer (some ⟨21,199,none⟩)])) w:=by kernel_rfl
theorem aImplements (w:World):(entryOf Tryz.f310 #[.agg #[.pointer (some ⟨21,199,none⟩)],.iface 274 (.agg #[.pointer (some ⟨21,27,none⟩)])]).run Tryz.prog w = .ok (.bool true) w:=by kernel_rfl
theorem aTypeOf67 (v:Value) (w:World):(entryOf Tryz.f146 #[.iface 362 v]).run Tryz.prog w = .ok (.iface 274 (.agg #[.pointer (some ⟨21,362,none⟩)])) w:=by kernel_rfl
theorem aAssignable67 (w:World):(entryOf Tryz.f307 #[.agg #[.pointer (some ⟨21,362,none⟩)],.iface 274 (.agg #[.pointer (some ⟨21,199,none⟩)])]).run Tryz.prog w = .ok (.bool false) w:=by kernel_rfl
theorem aNoAs (v:Value) (xT:TypeId) (w:World):(Instr.typeAssert (.iface 362 v) xT 278 true).run Tryz.prog w = .ok (.tuple #[.nilIface,.bool false]) w:=run_typeAssert_lacksB Tryz.underlying278 (by kernel_rfl) (by kernel_rfl) v xT w
theorem eIsNil:entryOf Tryz.f144 = ReflectliteValue.method (ReflectliteValue.valueError "reflectlite.Value.IsNil" 0) ReflectliteValue.isNil:=by kernel_rfl
theorem rlm (z:Sem Value) (f:TypeId→Addr→Nat→Nat→Sem Value) (v:Value) :
  ReflectliteValue.method z f #[v] = (do match ← ReflectliteValue.parts v with | none=>z | some (t,a,fl)=>f t a fl (fl % 32)):=rfl
theorem aParts65 (a:Addr) (w:World):(ReflectliteValue.parts (.agg #[.pointer (some ⟨21,201,none⟩),.pointer (some a),.int .u64 150])).run Tryz.prog w = .ok (some (201,a,150)) w:=by kernel_rfl
theorem aIsNil (a p:Addr) (W:World) (ha:W.cell? a = some (.pointer (some p))) :
  (entryOf Tryz.f144 #[.agg #[.pointer (some ⟨21,201,none⟩),.pointer (some a),.int .u64 150]]).run Tryz.prog W = .ok (.bool false) W:=by
 rw [eIsNil,rlm]
 simp only [Sem.run_bind,aParts65,Result.andThen]
 simp [ReflectliteValue.isNil,loadVar,isAgg,underlying,Tryz.underlying201,ha,Result.andThen]
set_option maxHeartbeats 4000000 in
theorem as_miss (x t:Addr) (w:World) (hg:w.cell? ⟨12,0,none⟩ = some (.iface 274 (.agg #[.pointer (some ⟨21,27,none⟩)]))) :
  Calls Tryz.prog 107 #[.iface 362 (.pointer (some x)),.iface 201 (.pointer (some t))] w fun e w'=>e = .returned (.bool false)∧Below w.heap.size w w':=by
 have h40:=@run_callFunc_extern Tryz.prog 142 _ (entryOf Tryz.f142) Tryz.func142 (by kernel_rfl) (by kernel_rfl) (by kernel_rfl) (by kernel_rfl)
 have h41:=@run_callFunc_extern Tryz.prog 143 _ (entryOf Tryz.f143) Tryz.func143 (by kernel_rfl) (by kernel_rfl) (by kernel_rfl) (by kernel_rfl)
 have h42:=@run_callFunc_extern Tryz.prog 144 _ (entryOf Tryz.f144) Tryz.func144 (by kernel_rfl) (by kernel_rfl) (by kernel_rfl) (by kernel_rfl)
 have h66:=@run_callFunc_extern Tryz.prog 296 _ (entryOf Tryz.f296) Tryz.func296 (by kernel_rfl) (by kernel_rfl) (by kernel_rfl) (by kernel_rfl)
 have h78:=@run_callFunc_extern Tryz.prog 309 _ (entryOf Tryz.f309) Tryz.func309 (by kernel_rfl) (by kernel_rfl) (by kernel_rfl) (by kernel_rfl)
 have h79:=@run_callFunc_extern Tryz.prog 310 _ (entryOf Tryz.f310) Tryz.func310 (by kernel_rfl) (by kernel_rfl) (by kernel_rfl) (by kernel_rfl)
 have h44:=@run_callFunc_extern Tryz.prog 146 _ (entryOf Tryz.f146) Tryz.func146 (by kernel_rfl) (by kernel_rfl) (by kernel_rfl) (by kernel_rfl)
 have h76:=@run_callFunc_extern Tryz.prog 307 _ (entryOf Tryz.f307) Tryz.func307 (by kernel_rfl) (by kernel_rfl) (by kernel_rfl) (by kernel_rfl)
 have f40:=aValueOf
 have f41:=aType
 have mK:=aMethodKind
 have k65:=aKind65
 have k29:=aKind29
 have mE:=aMethodElem
 have mI:=aMethodImplements
 have mA:=aMethodAssignable
 have e65:=aElem65
 have i29:=aImplements
 have tO:=aTypeOf67
 have a67:=aAssignable67
 have nA:=aNoAs
 have uE:=noUnwrapE
 have vE:=noUnwrapsE
 have hlt:=World.block_lt_of_cell? _ _ hg
 have hlt:12 < w.heap.size:=hlt
 have n42:=aIsNil ⟨w.heap.size,0,none⟩ t ((w.alloc (.cells #[.pointer (some t)] 201)).alloc (.cells #[.pointer (some ⟨21,201,none⟩),.pointer (some ⟨w.heap.size,0,none⟩),.int .u64 150] 238)) (by simp)
 have hg2:((w.alloc (.cells #[.pointer (some t)] 201)).alloc (.cells #[.pointer (some ⟨21,201,none⟩),.pointer (some ⟨w.heap.size,0,none⟩),.int .u64 150] 238)).cell? ⟨12,0,none⟩ = some (.iface 274 (.agg #[.pointer (some ⟨21,27,none⟩)])):=by
  rw [World.cell?_alloc_lt _ _ ⟨12,0,none⟩ (by simp;omega),World.cell?_alloc_lt _ _ ⟨12,0,none⟩ hlt];exact hg
 go_enter Tryz.func107,Tryz.ntmps107
 go_wp2
 refine wp_loop_rounds 1 ?_
 rw [rounds_succ]
 go_wp2
 go_ret
 refine ⟨rfl,?_⟩
 exact (((Below.refl _ _).alloc (Nat.le_refl _) _).alloc (by simp) _).alloc (by simp;omega) _
end Go.Proofs.YtidahfhingdlmaaGreatDoor
