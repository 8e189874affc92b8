/- errors.Is and errors.As by their contracts, at errors of errors.New's make and at an api.Fault: Go's own text of package errors is walked. -/
import Derived.Test.YtjolccidheflpaaGreatDoorW00
import Derived.Test.YtjolccidheflpaaGreatDoorProg
import GoSem.PinnedTables
import GoSem.Claim
import GoSem.ClaimJoined
import GoSem.ClaimMapViews
import Derived.JoinedTies
import Derived.KernelRfl
import Derived.WalkKit
import Derived.LaidEql
import Derived.Stop.Asserts
import Derived.RowKitTokens
namespace Go.Proofs.YtjolccidheflpaaGreatDoor
set_option maxHeartbeats 8000000
set_option maxRecDepth 100000
open Go.RowKit Go.Extern.Stop Go.Stop Go.Extern
def iK (f:Func):Array Value->Sem Value:=(Extern.find f).getD fun _=>pure (.tuple #[])
theorem Ut (v:Value) (w:World):(Extern.ReflectliteType.typeOf #[.iface 412 v]).run Tryz.prog w=.ok (.iface 310 (.agg #[.pointer (some (Qb 26 412))])) w:=by kernel_rfl
theorem Uu (w:World):(iK Tryz.f364 #[.agg #[.pointer (some (Qb 26 412))]]).run Tryz.prog w=.ok (.bool true) w:=by kernel_rfl
theorem Uv:(Tryz.prog.info? 412).map (·.comparable)=some true:=by kernel_rfl
theorem Uw:(Tryz.prog.info? 414).map (·.size)=some 1:=by kernel_rfl
theorem afT (v:Value) (kq:TypeId) (w:World):(Instr.typeAssert (.iface 412 v) kq 320 true).run Tryz.prog w=.ok (.tuple #[.nilIface,.bool false]) w:=run_typeAssert_lacksB Tryz.underlying320 (by kernel_rfl) (by kernel_rfl) v kq w
theorem P8 (v:Value) (kq:TypeId) (w:World):(Instr.typeAssert (.iface 412 v) kq 317 true).run Tryz.prog w=.ok (.tuple #[.nilIface,.bool false]) w:=run_typeAssert_lacksB Tryz.underlying317 (by kernel_rfl) (by kernel_rfl) v kq w
theorem P9 (v:Value) (kq:TypeId) (w:World):(Instr.typeAssert (.iface 412 v) kq 318 true).run Tryz.prog w=.ok (.tuple #[.nilIface,.bool false]) w:=run_typeAssert_lacksB Tryz.underlying318 (by kernel_rfl) (by kernel_rfl) v kq w
theorem afU (v:Value) (kq:TypeId) (w:World):(Instr.typeAssert (.iface 172 v) kq 320 true).run Tryz.prog w=.ok (.tuple #[.nilIface,.bool false]) w:=run_typeAssert_lacksB Tryz.underlying320 (by kernel_rfl) (by kernel_rfl) v kq w
theorem afV (v:Value) (kq:TypeId) (w:World):(Instr.typeAssert (.iface 172 v) kq 317 true).run Tryz.prog w=.ok (.tuple #[.iface 172 v,.bool true]) w:=run_typeAssert_hasB Tryz.underlying317 (by kernel_rfl) v kq w
theorem Ux (v:Value) (w:World):(Go.method 580 310 v "Comparable").run Tryz.prog w=.ok (364,v) w:=by kernel_rfl
theorem afW (v:Value) (w:World):(Go.method 580 172 v "Unwrap").run Tryz.prog w=.ok (357,v) w:=by kernel_rfl
theorem ace (a:Addr) (w:World) :
  Calls Tryz.prog 92 #[.iface 412 (.pointer (some a)),.iface 412 (.pointer (some a))] w fun e w'=>e=.returned (.bool true)/\w'=w:=by
 obtain⟨i,hi,hcmp⟩:=Option.map_eq_some_iff.1 Uv;obtain⟨j,hj,Uy⟩:=Option.map_eq_some_iff.1 Uw;have h8:=@run_callFunc_extern Tryz.prog 157 _ Extern.ReflectliteType.typeOf Tryz.func157 (by kernel_rfl) (by kernel_rfl) (by kernel_rfl) (by kernel_rfl);have Gt:=@run_callFunc_extern Tryz.prog 364 _ (iK Tryz.f364) Tryz.func364 (by kernel_rfl) (by kernel_rfl) (by kernel_rfl) (by kernel_rfl);have afX:=Ut;have cT:=Uu;have afY:=Ux;have heq:=run_eql_iface_ptr_same (P:=Tryz.prog) w a Tryz.underlying26 Tryz.underlying412 hi hcmp hj;go_enter Tryz.func92,Tryz.ntmps92;go_wp2;refine wp_loop_rounds 1 ?_;rw[rounds_succ];go_wp2;go_ret;exact⟨rfl,rfl⟩
theorem acf (a b:Addr) (ca cb:Array Value) (ta tb:TypeId) (w:World) (hne:a≠b) (ha:w.heap[a.block]?=some (.cells ca ta (0,0))) (hb:w.heap[b.block]?=some (.cells cb tb (0,0))) :
  Calls Tryz.prog 92 #[.iface 412 (.pointer (some a)),.iface 412 (.pointer (some b))] w fun e w'=>e=.returned (.bool false)/\w'=w:=by
 obtain⟨i,hi,hcmp⟩:=Option.map_eq_some_iff.1 Uv;obtain⟨j,hj,Uy⟩:=Option.map_eq_some_iff.1 Uw;have h8:=@run_callFunc_extern Tryz.prog 157 _ Extern.ReflectliteType.typeOf Tryz.func157 (by kernel_rfl) (by kernel_rfl) (by kernel_rfl) (by kernel_rfl);have Gt:=@run_callFunc_extern Tryz.prog 364 _ (iK Tryz.f364) Tryz.func364 (by kernel_rfl) (by kernel_rfl) (by kernel_rfl) (by kernel_rfl);have afX:=Ut;have cT:=Uu;have afY:=Ux;have aow:=afT;have aa5:=P8;have aa6:=P9;have aox:=afU;have aoy:=afV;have aoz:=afW;have heq:=run_eql_iface_ptr_other (P:=Tryz.prog) w Tryz.underlying26 Tryz.underlying412 hi hcmp hj (by rw[Uy];decide) hne ha hb;go_enter Tryz.func92,Tryz.ntmps92;go_wp2;refine wp_loop_rounds 1 ?_;rw[rounds_succ];go_wp2;go_ret;exact⟨rfl,rfl⟩
theorem aaN (t:Addr) (w:World):(iK Tryz.f153 #[.iface 174 (.pointer (some t))]).run Tryz.prog w
  = .ok (.agg #[.pointer (some (Qb 26 174)),Qc w.heap.size,.int .u64 150]) (w.alloc (.cells #[.pointer (some t)] 174)):=by kernel_rfl
theorem aaO (a:Addr) (w:World):(iK Tryz.f154 #[.agg #[.pointer (some (Qb 26 174)),.pointer (some a),.int .u64 150]]).run Tryz.prog w=.ok (.iface 310 (.agg #[.pointer (some (Qb 26 174))])) w:=by kernel_rfl
theorem aaP (h:Value) (w:World):(Go.method 580 310 (.agg #[h]) "Kind").run Tryz.prog w=.ok (351,h) w:=by kernel_rfl
theorem aaQ (w:World):(iK Tryz.f351 #[.pointer (some (Qb 26 174))]).run Tryz.prog w=.ok (.int .u8 22) w:=by kernel_rfl
theorem aaR (w:World):(iK Tryz.f351 #[.pointer (some (Qb 26 172))]).run Tryz.prog w=.ok (.int .u8 22) w:=by kernel_rfl
theorem aaS (h:Value) (w:World):(Go.method 580 310 (.agg #[h]) "Elem").run Tryz.prog w=.ok (365,.agg #[h]) w:=by kernel_rfl
theorem aaT (h:Value) (w:World):(Go.method 580 310 (.agg #[h]) "Implements").run Tryz.prog w=.ok (366,.agg #[h]) w:=by kernel_rfl
theorem aaU (h:Value) (w:World):(Go.method 580 310 (.agg #[h]) "AssignableTo").run Tryz.prog w=.ok (363,.agg #[h]) w:=by kernel_rfl
theorem aaV (w:World):(iK Tryz.f365 #[.agg #[.pointer (some (Qb 26 174))]]).run Tryz.prog w=.ok (.iface 310 (.agg #[.pointer (some (Qb 26 172))])) w:=by kernel_rfl
theorem aaW (w:World):(iK Tryz.f366 #[.agg #[.pointer (some (Qb 26 172))],.iface 310 (.agg #[.pointer (some (Qb 26 26))])]).run Tryz.prog w=.ok (.bool true) w:=by kernel_rfl
theorem aaX (v:Value) (w:World):(iK Tryz.f157 #[.iface 412 v]).run Tryz.prog w=.ok (.iface 310 (.agg #[.pointer (some (Qb 26 412))])) w:=by kernel_rfl
theorem aaY (w:World):(iK Tryz.f363 #[.agg #[.pointer (some (Qb 26 412))],.iface 310 (.agg #[.pointer (some (Qb 26 172))])]).run Tryz.prog w=.ok (.bool false) w:=by kernel_rfl
theorem aaZ (v:Value) (kq:TypeId) (w:World):(Instr.typeAssert (.iface 412 v) kq 314 true).run Tryz.prog w=.ok (.tuple #[.nilIface,.bool false]) w:=run_typeAssert_lacksB Tryz.underlying314 (by kernel_rfl) (by kernel_rfl) v kq w
theorem aa0:iK Tryz.f155=ReflectliteValue.method (ReflectliteValue.valueError "reflectlite.Value.IsNil" 0) ReflectliteValue.isNil:=by kernel_rfl
theorem aa1 (z:Sem Value) (f:TypeId->Addr->Nat->Nat->Sem Value) (v:Value) :
  ReflectliteValue.method z f #[v]=(do match <- ReflectliteValue.parts v with | none=>z | some (t,a,fl)=>f t a fl (fl%32)):=rfl
theorem aa2 (a:Addr) (w:World):(ReflectliteValue.parts (.agg #[.pointer (some (Qb 26 174)),.pointer (some a),.int .u64 150])).run Tryz.prog w=.ok (some (174,a,150)) w:=by kernel_rfl
theorem aa3 (a p:Addr) (W:World) (ha:W.cell? a=some (.pointer (some p))) :
  (iK Tryz.f155 #[.agg #[.pointer (some (Qb 26 174)),.pointer (some a),.int .u64 150]]).run Tryz.prog W=.ok (.bool false) W:=by
 rw[aa0,aa1];simp only[Sem.run_bind,aa2,Result.andThen];simp[ReflectliteValue.isNil,loadVar,isAgg,underlying,Tryz.underlying174,ha,Result.andThen]
theorem aa4 (x t:Addr) (w:World) (hg:w.cell? (Qb 12 0)=some (.iface 310 (.agg #[.pointer (some (Qb 26 26))]))) :
  Calls Tryz.prog 91 #[.iface 412 (.pointer (some x)),.iface 174 (.pointer (some t))] w fun e w'=>e=.returned (.bool false)/\Qd w w':=by
 have anA:=@run_callFunc_extern Tryz.prog 153 _ (iK Tryz.f153) Tryz.func153 (by kernel_rfl) (by kernel_rfl) (by kernel_rfl) (by kernel_rfl);have anB:=@run_callFunc_extern Tryz.prog 154 _ (iK Tryz.f154) Tryz.func154 (by kernel_rfl) (by kernel_rfl) (by kernel_rfl) (by kernel_rfl);have anC:=@run_callFunc_extern Tryz.prog 155 _ (iK Tryz.f155) Tryz.func155 (by kernel_rfl) (by kernel_rfl) (by kernel_rfl) (by kernel_rfl);have anD:=@run_callFunc_extern Tryz.prog 351 _ (iK Tryz.f351) Tryz.func351 (by kernel_rfl) (by kernel_rfl) (by kernel_rfl) (by kernel_rfl);have anE:=@run_callFunc_extern Tryz.prog 365 _ (iK Tryz.f365) Tryz.func365 (by kernel_rfl) (by kernel_rfl) (by kernel_rfl) (by kernel_rfl);have anF:=@run_callFunc_extern Tryz.prog 366 _ (iK Tryz.f366) Tryz.func366 (by kernel_rfl) (by kernel_rfl) (by kernel_rfl) (by kernel_rfl);have anG:=@run_callFunc_extern Tryz.prog 157 _ (iK Tryz.f157) Tryz.func157 (by kernel_rfl) (by kernel_rfl) (by kernel_rfl) (by kernel_rfl);have anH:=@run_callFunc_extern Tryz.prog 363 _ (iK Tryz.f363) Tryz.func363 (by kernel_rfl) (by kernel_rfl) (by kernel_rfl) (by kernel_rfl);have f40:=aaN;have f41:=aaO;have anI:=aaP;have anJ:=aaQ;have anK:=aaR;have anL:=aaS;have anM:=aaT;have anN:=aaU;have anO:=aaV;have i29:=aaW;have iL:=aaX;have a67:=aaY;have anP:=aaZ;have aa5:=P8;have aa6:=P9;have hlt:=bCq _ _ hg;have hlt:12<w.heap.size:=hlt;have n42:=aa3 (Qb w.heap.size 0) t ((w.alloc (.cells #[.pointer (some t)] 174)).alloc (.cells #[.pointer (some (Qb 26 174)),Qc w.heap.size,.int .u64 150] 253)) (by simp);have hg2:((w.alloc (.cells #[.pointer (some t)] 174)).alloc (.cells #[.pointer (some (Qb 26 174)),Qc w.heap.size,.int .u64 150] 253)).cell? (Qb 12 0)=some (.iface 310 (.agg #[.pointer (some (Qb 26 26))])):=by
  rw[World.cell?_alloc_lt _ _ (Qb 12 0) (by simp;omega),World.cell?_alloc_lt _ _ (Qb 12 0) hlt];exact hg
 go_enter Tryz.func91,Tryz.ntmps91;go_wp2;refine wp_loop_rounds 1 ?_;rw[rounds_succ];go_wp2;go_ret;refine⟨rfl,?_⟩;exact(((bRq _ _).alloc (lRq _) _).alloc (by simp) _).alloc (by simp;omega) _
end Go.Proofs.YtjolccidheflpaaGreatDoor
