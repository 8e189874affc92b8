/- errors.Is and errors.As by their contracts, at errors of errors.New's make and at an api.Fault: Go's own text of package errors is walked. -/
import Derived.Test.YtjolccidheflpaaGreatDoorU00
import Derived.Test.YtjolccidheflpaaGreatDoorProg
import GoSem.PinnedTables
import GoSem.Claim
import GoSem.ClaimJoined
import GoSem.ClaimMapViews
import Derived.JoinedTies
import Derived.KernelRfl
import Derived.WalkKit
import Derived.LaidEql
import Derived.Stop.Asserts
import Derived.RowKitTokens
namespace Go.Proofs.YtjolccidheflpaaGreatDoor
set_option maxHeartbeats 8000000
open Go.RowKit Go.Extern.Stop Go.Stop Go.Extern
set_option maxRecDepth 100000
def iC (f:Func):Array Value->Sem Value:=(Extern.find f).getD fun _=>pure (.tuple #[])
theorem Uw (v:Value) (w:World):(Extern.ReflectliteType.typeOf #[.iface 412 v]).run Tryz.prog w=.ok (.iface 310 (.agg #[.pointer (some ⟨26,412,none⟩)])) w:=by kernel_rfl
theorem Ux (w:World):(iC Tryz.f364 #[.agg #[.pointer (some ⟨26,412,none⟩)]]).run Tryz.prog w=.ok (.bool true) w:=by kernel_rfl
theorem Uy:(Tryz.prog.info? 412).map (·.comparable)=some true:=by kernel_rfl
theorem Uz:(Tryz.prog.info? 414).map (·.size)=some 1:=by kernel_rfl
theorem af6 (v:Value) (j0:TypeId) (w:World):(Instr.typeAssert (.iface 412 v) j0 320 true).run Tryz.prog w=.ok (.tuple #[.nilIface,.bool false]) w:=run_typeAssert_lacksB Tryz.underlying320 (by kernel_rfl) (by kernel_rfl) v j0 w
theorem PZ (v:Value) (j0:TypeId) (w:World):(Instr.typeAssert (.iface 412 v) j0 317 true).run Tryz.prog w=.ok (.tuple #[.nilIface,.bool false]) w:=run_typeAssert_lacksB Tryz.underlying317 (by kernel_rfl) (by kernel_rfl) v j0 w
theorem P0 (v:Value) (j0:TypeId) (w:World):(Instr.typeAssert (.iface 412 v) j0 318 true).run Tryz.prog w=.ok (.tuple #[.nilIface,.bool false]) w:=run_typeAssert_lacksB Tryz.underlying318 (by kernel_rfl) (by kernel_rfl) v j0 w
theorem af7 (v:Value) (j0:TypeId) (w:World):(Instr.typeAssert (.iface 172 v) j0 320 true).run Tryz.prog w=.ok (.tuple #[.nilIface,.bool false]) w:=run_typeAssert_lacksB Tryz.underlying320 (by kernel_rfl) (by kernel_rfl) v j0 w
theorem af8 (v:Value) (j0:TypeId) (w:World):(Instr.typeAssert (.iface 172 v) j0 317 true).run Tryz.prog w=.ok (.tuple #[.iface 172 v,.bool true]) w:=run_typeAssert_hasB Tryz.underlying317 (by kernel_rfl) v j0 w
theorem UA (v:Value) (w:World):(Go.method 580 310 v "Comparable").run Tryz.prog w=.ok (364,v) w:=by kernel_rfl
theorem af9 (v:Value) (w:World):(Go.method 580 172 v "Unwrap").run Tryz.prog w=.ok (357,v) w:=by kernel_rfl
theorem acd (a:Addr) (w:World) :
  Calls Tryz.prog 92 #[.iface 412 (.pointer (some a)),.iface 412 (.pointer (some a))] w fun e w'=>e=.returned (.bool true)∧w'=w:=by
 obtain⟨i,hi,hcmp⟩:=Option.map_eq_some_iff.1 Uy;obtain⟨j,hj,UB⟩:=Option.map_eq_some_iff.1 Uz;have h8:=@run_callFunc_extern Tryz.prog 157 _ Extern.ReflectliteType.typeOf Tryz.func157 (by kernel_rfl) (by kernel_rfl) (by kernel_rfl) (by kernel_rfl);have Gp:=@run_callFunc_extern Tryz.prog 364 _ (iC Tryz.f364) Tryz.func364 (by kernel_rfl) (by kernel_rfl) (by kernel_rfl) (by kernel_rfl);have aga:=Uw;have cT:=Ux;have agb:=UA;have heq:=run_eql_iface_ptr_same (P:=Tryz.prog) w a Tryz.underlying26 Tryz.underlying412 hi hcmp hj;go_enter Tryz.func92,Tryz.ntmps92;go_wp2;refine wp_loop_rounds 1 ?_;rw[rounds_succ];go_wp2;go_ret;exact⟨rfl,rfl⟩
theorem ace (a b:Addr) (ca cb:Array Value) (ta tb:TypeId) (w:World) (hne:a≠b) (ha:w.heap[a.block]?=some (.cells ca ta (0,0))) (hb:w.heap[b.block]?=some (.cells cb tb (0,0))) :
  Calls Tryz.prog 92 #[.iface 412 (.pointer (some a)),.iface 412 (.pointer (some b))] w fun e w'=>e=.returned (.bool false)∧w'=w:=by
 obtain⟨i,hi,hcmp⟩:=Option.map_eq_some_iff.1 Uy;obtain⟨j,hj,UB⟩:=Option.map_eq_some_iff.1 Uz;have h8:=@run_callFunc_extern Tryz.prog 157 _ Extern.ReflectliteType.typeOf Tryz.func157 (by kernel_rfl) (by kernel_rfl) (by kernel_rfl) (by kernel_rfl);have Gp:=@run_callFunc_extern Tryz.prog 364 _ (iC Tryz.f364) Tryz.func364 (by kernel_rfl) (by kernel_rfl) (by kernel_rfl) (by kernel_rfl);have aga:=Uw;have cT:=Ux;have agb:=UA;have aon:=af6;have aaX:=PZ;have aaY:=P0;have aoo:=af7;have aop:=af8;have aoq:=af9;have heq:=run_eql_iface_ptr_other (P:=Tryz.prog) w Tryz.underlying26 Tryz.underlying412 hi hcmp hj (by rw[UB];decide) hne ha hb;go_enter Tryz.func92,Tryz.ntmps92;go_wp2;refine wp_loop_rounds 1 ?_;rw[rounds_succ];go_wp2;go_ret;exact⟨rfl,rfl⟩
theorem aaF (t:Addr) (w:World):(iC Tryz.f153 #[.iface 174 (.pointer (some t))]).run Tryz.prog w
  = .ok (.agg #[.pointer (some ⟨26,174,none⟩),.pointer (some ⟨w.heap.size,0,none⟩),.int .u64 150]) (w.alloc (.cells #[.pointer (some t)] 174)):=by kernel_rfl
theorem aaG (a:Addr) (w:World):(iC Tryz.f154 #[.agg #[.pointer (some ⟨26,174,none⟩),.pointer (some a),.int .u64 150]]).run Tryz.prog w=.ok (.iface 310 (.agg #[.pointer (some ⟨26,174,none⟩)])) w:=by kernel_rfl
theorem aaH (h:Value) (w:World):(Go.method 580 310 (.agg #[h]) "Kind").run Tryz.prog w=.ok (351,h) w:=by kernel_rfl
theorem aaI (w:World):(iC Tryz.f351 #[.pointer (some ⟨26,174,none⟩)]).run Tryz.prog w=.ok (.int .u8 22) w:=by kernel_rfl
theorem aaJ (w:World):(iC Tryz.f351 #[.pointer (some ⟨26,172,none⟩)]).run Tryz.prog w=.ok (.int .u8 22) w:=by kernel_rfl
theorem aaK (h:Value) (w:World):(Go.method 580 310 (.agg #[h]) "Elem").run Tryz.prog w=.ok (365,.agg #[h]) w:=by kernel_rfl
theorem aaL (h:Value) (w:World):(Go.method 580 310 (.agg #[h]) "Implements").run Tryz.prog w=.ok (366,.agg #[h]) w:=by kernel_rfl
theorem aaM (h:Value) (w:World):(Go.method 580 310 (.agg #[h]) "AssignableTo").run Tryz.prog w=.ok (363,.agg #[h]) w:=by kernel_rfl
theorem aaN (w:World):(iC Tryz.f365 #[.agg #[.pointer (some ⟨26,174,none⟩)]]).run Tryz.prog w=.ok (.iface 310 (.agg #[.pointer (some ⟨26,172,none⟩)])) w:=by kernel_rfl
theorem aaO (w:World):(iC Tryz.f366 #[.agg #[.pointer (some ⟨26,172,none⟩)],.iface 310 (.agg #[.pointer (some ⟨26,26,none⟩)])]).run Tryz.prog w=.ok (.bool true) w:=by kernel_rfl
theorem aaP (v:Value) (w:World):(iC Tryz.f157 #[.iface 412 v]).run Tryz.prog w=.ok (.iface 310 (.agg #[.pointer (some ⟨26,412,none⟩)])) w:=by kernel_rfl
theorem aaQ (w:World):(iC Tryz.f363 #[.agg #[.pointer (some ⟨26,412,none⟩)],.iface 310 (.agg #[.pointer (some ⟨26,172,none⟩)])]).run Tryz.prog w=.ok (.bool false) w:=by kernel_rfl
theorem aaR (v:Value) (j0:TypeId) (w:World):(Instr.typeAssert (.iface 412 v) j0 314 true).run Tryz.prog w=.ok (.tuple #[.nilIface,.bool false]) w:=run_typeAssert_lacksB Tryz.underlying314 (by kernel_rfl) (by kernel_rfl) v j0 w
theorem aaS:iC Tryz.f155=ReflectliteValue.method (ReflectliteValue.valueError "reflectlite.Value.IsNil" 0) ReflectliteValue.isNil:=by kernel_rfl
theorem aaT (z:Sem Value) (f:TypeId->Addr->Nat->Nat->Sem Value) (v:Value) :
  ReflectliteValue.method z f #[v]=(do match <- ReflectliteValue.parts v with | none=>z | some (t,a,fl)=>f t a fl (fl%32)):=rfl
theorem aaU (a:Addr) (w:World):(ReflectliteValue.parts (.agg #[.pointer (some ⟨26,174,none⟩),.pointer (some a),.int .u64 150])).run Tryz.prog w=.ok (some (174,a,150)) w:=by kernel_rfl
theorem aaV (a p:Addr) (W:World) (ha:W.cell? a=some (.pointer (some p))) :
  (iC Tryz.f155 #[.agg #[.pointer (some ⟨26,174,none⟩),.pointer (some a),.int .u64 150]]).run Tryz.prog W=.ok (.bool false) W:=by
 rw[aaS,aaT];simp only[Sem.run_bind,aaU,Result.andThen];simp[ReflectliteValue.isNil,loadVar,isAgg,underlying,Tryz.underlying174,ha,Result.andThen]
theorem aaW (x t:Addr) (w:World) (hg:w.cell? ⟨12,0,none⟩=some (.iface 310 (.agg #[.pointer (some ⟨26,26,none⟩)]))) :
  Calls Tryz.prog 91 #[.iface 412 (.pointer (some x)),.iface 174 (.pointer (some t))] w fun e w'=>e=.returned (.bool false)∧Below w.heap.size w w':=by
 have ano:=@run_callFunc_extern Tryz.prog 153 _ (iC Tryz.f153) Tryz.func153 (by kernel_rfl) (by kernel_rfl) (by kernel_rfl) (by kernel_rfl);have Dq:=@run_callFunc_extern Tryz.prog 154 _ (iC Tryz.f154) Tryz.func154 (by kernel_rfl) (by kernel_rfl) (by kernel_rfl) (by kernel_rfl);have anp:=@run_callFunc_extern Tryz.prog 155 _ (iC Tryz.f155) Tryz.func155 (by kernel_rfl) (by kernel_rfl) (by kernel_rfl) (by kernel_rfl);have anq:=@run_callFunc_extern Tryz.prog 351 _ (iC Tryz.f351) Tryz.func351 (by kernel_rfl) (by kernel_rfl) (by kernel_rfl) (by kernel_rfl);have anr:=@run_callFunc_extern Tryz.prog 365 _ (iC Tryz.f365) Tryz.func365 (by kernel_rfl) (by kernel_rfl) (by kernel_rfl) (by kernel_rfl);have ant:=@run_callFunc_extern Tryz.prog 366 _ (iC Tryz.f366) Tryz.func366 (by kernel_rfl) (by kernel_rfl) (by kernel_rfl) (by kernel_rfl);have anu:=@run_callFunc_extern Tryz.prog 157 _ (iC Tryz.f157) Tryz.func157 (by kernel_rfl) (by kernel_rfl) (by kernel_rfl) (by kernel_rfl);have anv:=@run_callFunc_extern Tryz.prog 363 _ (iC Tryz.f363) Tryz.func363 (by kernel_rfl) (by kernel_rfl) (by kernel_rfl) (by kernel_rfl);have f40:=aaF;have f41:=aaG;have anw:=aaH;have anx:=aaI;have anz:=aaJ;have anA:=aaK;have anB:=aaL;have anC:=aaM;have anD:=aaN;have i29:=aaO;have ja:=aaP;have a67:=aaQ;have anE:=aaR;have aaX:=PZ;have aaY:=P0;have hlt:=bCq _ _ hg;have hlt:12<w.heap.size:=hlt;have n42:=aaV ⟨w.heap.size,0,none⟩ t ((w.alloc (.cells #[.pointer (some t)] 174)).alloc (.cells #[.pointer (some ⟨26,174,none⟩),.pointer (some ⟨w.heap.size,0,none⟩),.int .u64 150] 253)) (by simp);have hg2:((w.alloc (.cells #[.pointer (some t)] 174)).alloc (.cells #[.pointer (some ⟨26,174,none⟩),.pointer (some ⟨w.heap.size,0,none⟩),.int .u64 150] 253)).cell? ⟨12,0,none⟩=some (.iface 310 (.agg #[.pointer (some ⟨26,26,none⟩)])):=by
  rw[World.cell?_alloc_lt _ _ ⟨12,0,none⟩ (by simp;omega),World.cell?_alloc_lt _ _ ⟨12,0,none⟩ hlt];exact hg
 go_enter Tryz.func91,Tryz.ntmps91;go_wp2;refine wp_loop_rounds 1 ?_;rw[rounds_succ];go_wp2;go_ret;refine⟨rfl,?_⟩;exact(((bRq _ _).alloc (lRq _) _).alloc (by simp) _).alloc (by simp;omega) _
end Go.Proofs.YtjolccidheflpaaGreatDoor
