/- errors.Is and errors.As by their contracts, at errors of errors.New's make and at an api.Fault: Go's own text of package errors is walked. -/
import Derived.Test.YtjolccidheflpaaGreatDoorV00
import Derived.Test.YtjolccidheflpaaGreatDoorProg
import GoSem.PinnedTables
import GoSem.Claim
import GoSem.ClaimJoined
import GoSem.ClaimMapViews
import Derived.JoinedTies
import Derived.KernelRfl
import Derived.WalkKit
import Derived.LaidEql
import Derived.Stop.Asserts
import Derived.RowKitTokens
namespace Go.Proofs.YtjolccidheflpaaGreatDoor
set_option maxHeartbeats 8000000
open Go.RowKit Go.Extern.Stop Go.Stop Go.Extern
set_option maxRecDepth 100000
def iw (f:Func):Array Value->Sem Value:=(Extern.find f).getD fun _=>pure (.tuple #[])
theorem U2 (v:Value) (w:World):(Extern.ReflectliteType.typeOf #[.iface 412 v]).run Tryz.prog w=.ok (.iface 310 (.agg #[.pointer (some ⟨26,412,none⟩)])) w:=by kernel_rfl
theorem U3 (w:World):(iw Tryz.f364 #[.agg #[.pointer (some ⟨26,412,none⟩)]]).run Tryz.prog w=.ok (.bool true) w:=by kernel_rfl
theorem U4:(Tryz.prog.info? 412).map (·.comparable)=some true:=by kernel_rfl
theorem U5:(Tryz.prog.info? 414).map (·.size)=some 1:=by kernel_rfl
theorem af6 (v:Value) (jO:TypeId) (w:World):(Instr.typeAssert (.iface 412 v) jO 320 true).run Tryz.prog w=.ok (.tuple #[.nilIface,.bool false]) w:=run_typeAssert_lacksB Tryz.underlying320 (by kernel_rfl) (by kernel_rfl) v jO w
theorem Qq (v:Value) (jO:TypeId) (w:World):(Instr.typeAssert (.iface 412 v) jO 317 true).run Tryz.prog w=.ok (.tuple #[.nilIface,.bool false]) w:=run_typeAssert_lacksB Tryz.underlying317 (by kernel_rfl) (by kernel_rfl) v jO w
theorem Qr (v:Value) (jO:TypeId) (w:World):(Instr.typeAssert (.iface 412 v) jO 318 true).run Tryz.prog w=.ok (.tuple #[.nilIface,.bool false]) w:=run_typeAssert_lacksB Tryz.underlying318 (by kernel_rfl) (by kernel_rfl) v jO w
theorem af7 (v:Value) (jO:TypeId) (w:World):(Instr.typeAssert (.iface 172 v) jO 320 true).run Tryz.prog w=.ok (.tuple #[.nilIface,.bool false]) w:=run_typeAssert_lacksB Tryz.underlying320 (by kernel_rfl) (by kernel_rfl) v jO w
theorem af8 (v:Value) (jO:TypeId) (w:World):(Instr.typeAssert (.iface 172 v) jO 317 true).run Tryz.prog w=.ok (.tuple #[.iface 172 v,.bool true]) w:=run_typeAssert_hasB Tryz.underlying317 (by kernel_rfl) v jO w
theorem U6 (v:Value) (w:World):(Go.method 580 310 v "Comparable").run Tryz.prog w=.ok (364,v) w:=by kernel_rfl
theorem af9 (v:Value) (w:World):(Go.method 580 172 v "Unwrap").run Tryz.prog w=.ok (357,v) w:=by kernel_rfl
theorem acz (a:Addr) (w:World) :
  Calls Tryz.prog 92 #[.iface 412 (.pointer (some a)),.iface 412 (.pointer (some a))] w fun e w'=>e=.returned (.bool true)∧w'=w:=by
 obtain⟨i,hi,hcmp⟩:=Option.map_eq_some_iff.1 U4;obtain⟨j,hj,U7⟩:=Option.map_eq_some_iff.1 U5;have h8:=@run_callFunc_extern Tryz.prog 157 _ Extern.ReflectliteType.typeOf Tryz.func157 (by kernel_rfl) (by kernel_rfl) (by kernel_rfl) (by kernel_rfl);have pE:=@run_callFunc_extern Tryz.prog 364 _ (iw Tryz.f364) Tryz.func364 (by kernel_rfl) (by kernel_rfl) (by kernel_rfl) (by kernel_rfl);have aga:=U2;have cT:=U3;have agb:=U6;have heq:=run_eql_iface_ptr_same (P:=Tryz.prog) w a Tryz.underlying26 Tryz.underlying412 hi hcmp hj;go_enter Tryz.func92,Tryz.ntmps92;go_wp2;refine wp_loop_rounds 1 ?_;rw[rounds_succ];go_wp2;go_ret;exact⟨rfl,rfl⟩
theorem acA (a b:Addr) (ca cb:Array Value) (ta tb:TypeId) (w:World) (hne:a≠b) (ha:w.heap[a.block]?=some (.cells ca ta (0,0))) (hb:w.heap[b.block]?=some (.cells cb tb (0,0))) :
  Calls Tryz.prog 92 #[.iface 412 (.pointer (some a)),.iface 412 (.pointer (some b))] w fun e w'=>e=.returned (.bool false)∧w'=w:=by
 obtain⟨i,hi,hcmp⟩:=Option.map_eq_some_iff.1 U4;obtain⟨j,hj,U7⟩:=Option.map_eq_some_iff.1 U5;have h8:=@run_callFunc_extern Tryz.prog 157 _ Extern.ReflectliteType.typeOf Tryz.func157 (by kernel_rfl) (by kernel_rfl) (by kernel_rfl) (by kernel_rfl);have pE:=@run_callFunc_extern Tryz.prog 364 _ (iw Tryz.f364) Tryz.func364 (by kernel_rfl) (by kernel_rfl) (by kernel_rfl) (by kernel_rfl);have aga:=U2;have cT:=U3;have agb:=U6;have aoe:=af6;have aa6:=Qq;have aa7:=Qr;have aof:=af7;have aog:=af8;have aoh:=af9;have heq:=run_eql_iface_ptr_other (P:=Tryz.prog) w Tryz.underlying26 Tryz.underlying412 hi hcmp hj (by rw[U7];decide) hne ha hb;go_enter Tryz.func92,Tryz.ntmps92;go_wp2;refine wp_loop_rounds 1 ?_;rw[rounds_succ];go_wp2;go_ret;exact⟨rfl,rfl⟩
theorem aaO (t:Addr) (w:World):(iw Tryz.f153 #[.iface 174 (.pointer (some t))]).run Tryz.prog w
  = .ok (.agg #[.pointer (some ⟨26,174,none⟩),.pointer (some ⟨w.heap.size,0,none⟩),.int .u64 150]) (w.alloc (.cells #[.pointer (some t)] 174)):=by kernel_rfl
theorem aaP (a:Addr) (w:World):(iw Tryz.f154 #[.agg #[.pointer (some ⟨26,174,none⟩),.pointer (some a),.int .u64 150]]).run Tryz.prog w=.ok (.iface 310 (.agg #[.pointer (some ⟨26,174,none⟩)])) w:=by kernel_rfl
theorem aaQ (h:Value) (w:World):(Go.method 580 310 (.agg #[h]) "Kind").run Tryz.prog w=.ok (351,h) w:=by kernel_rfl
theorem aaR (w:World):(iw Tryz.f351 #[.pointer (some ⟨26,174,none⟩)]).run Tryz.prog w=.ok (.int .u8 22) w:=by kernel_rfl
theorem aaS (w:World):(iw Tryz.f351 #[.pointer (some ⟨26,172,none⟩)]).run Tryz.prog w=.ok (.int .u8 22) w:=by kernel_rfl
theorem aaT (h:Value) (w:World):(Go.method 580 310 (.agg #[h]) "Elem").run Tryz.prog w=.ok (365,.agg #[h]) w:=by kernel_rfl
theorem aaU (h:Value) (w:World):(Go.method 580 310 (.agg #[h]) "Implements").run Tryz.prog w=.ok (366,.agg #[h]) w:=by kernel_rfl
theorem aaV (h:Value) (w:World):(Go.method 580 310 (.agg #[h]) "AssignableTo").run Tryz.prog w=.ok (363,.agg #[h]) w:=by kernel_rfl
theorem aaW (w:World):(iw Tryz.f365 #[.agg #[.pointer (some ⟨26,174,none⟩)]]).run Tryz.prog w=.ok (.iface 310 (.agg #[.pointer (some ⟨26,172,none⟩)])) w:=by kernel_rfl
theorem aaX (w:World):(iw Tryz.f366 #[.agg #[.pointer (some ⟨26,172,none⟩)],.iface 310 (.agg #[.pointer (some ⟨26,26,none⟩)])]).run Tryz.prog w=.ok (.bool true) w:=by kernel_rfl
theorem aaY (v:Value) (w:World):(iw Tryz.f157 #[.iface 412 v]).run Tryz.prog w=.ok (.iface 310 (.agg #[.pointer (some ⟨26,412,none⟩)])) w:=by kernel_rfl
theorem aaZ (w:World):(iw Tryz.f363 #[.agg #[.pointer (some ⟨26,412,none⟩)],.iface 310 (.agg #[.pointer (some ⟨26,172,none⟩)])]).run Tryz.prog w=.ok (.bool false) w:=by kernel_rfl
theorem aa0 (v:Value) (jO:TypeId) (w:World):(Instr.typeAssert (.iface 412 v) jO 314 true).run Tryz.prog w=.ok (.tuple #[.nilIface,.bool false]) w:=run_typeAssert_lacksB Tryz.underlying314 (by kernel_rfl) (by kernel_rfl) v jO w
theorem aa1:iw Tryz.f155=ReflectliteValue.method (ReflectliteValue.valueError "reflectlite.Value.IsNil" 0) ReflectliteValue.isNil:=by kernel_rfl
theorem aa2 (z:Sem Value) (f:TypeId->Addr->Nat->Nat->Sem Value) (v:Value) :
  ReflectliteValue.method z f #[v]=(do match <- ReflectliteValue.parts v with | none=>z | some (t,a,fl)=>f t a fl (fl%32)):=rfl
theorem aa3 (a:Addr) (w:World):(ReflectliteValue.parts (.agg #[.pointer (some ⟨26,174,none⟩),.pointer (some a),.int .u64 150])).run Tryz.prog w=.ok (some (174,a,150)) w:=by kernel_rfl
theorem aa4 (a p:Addr) (W:World) (ha:W.cell? a=some (.pointer (some p))) :
  (iw Tryz.f155 #[.agg #[.pointer (some ⟨26,174,none⟩),.pointer (some a),.int .u64 150]]).run Tryz.prog W=.ok (.bool false) W:=by
 rw[aa1,aa2];simp only[Sem.run_bind,aa3,Result.andThen];simp[ReflectliteValue.isNil,loadVar,isAgg,underlying,Tryz.underlying174,ha,Result.andThen]
theorem aa5 (x t:Addr) (w:World) (hg:w.cell? ⟨12,0,none⟩=some (.iface 310 (.agg #[.pointer (some ⟨26,26,none⟩)]))) :
  Calls Tryz.prog 91 #[.iface 412 (.pointer (some x)),.iface 174 (.pointer (some t))] w fun e w'=>e=.returned (.bool false)∧Below w.heap.size w w':=by
 have ank:=@run_callFunc_extern Tryz.prog 153 _ (iw Tryz.f153) Tryz.func153 (by kernel_rfl) (by kernel_rfl) (by kernel_rfl) (by kernel_rfl);have anl:=@run_callFunc_extern Tryz.prog 154 _ (iw Tryz.f154) Tryz.func154 (by kernel_rfl) (by kernel_rfl) (by kernel_rfl) (by kernel_rfl);have anm:=@run_callFunc_extern Tryz.prog 155 _ (iw Tryz.f155) Tryz.func155 (by kernel_rfl) (by kernel_rfl) (by kernel_rfl) (by kernel_rfl);have ano:=@run_callFunc_extern Tryz.prog 351 _ (iw Tryz.f351) Tryz.func351 (by kernel_rfl) (by kernel_rfl) (by kernel_rfl) (by kernel_rfl);have anp:=@run_callFunc_extern Tryz.prog 365 _ (iw Tryz.f365) Tryz.func365 (by kernel_rfl) (by kernel_rfl) (by kernel_rfl) (by kernel_rfl);have anq:=@run_callFunc_extern Tryz.prog 366 _ (iw Tryz.f366) Tryz.func366 (by kernel_rfl) (by kernel_rfl) (by kernel_rfl) (by kernel_rfl);have anr:=@run_callFunc_extern Tryz.prog 157 _ (iw Tryz.f157) Tryz.func157 (by kernel_rfl) (by kernel_rfl) (by kernel_rfl) (by kernel_rfl);have ant:=@run_callFunc_extern Tryz.prog 363 _ (iw Tryz.f363) Tryz.func363 (by kernel_rfl) (by kernel_rfl) (by kernel_rfl) (by kernel_rfl);have f40:=aaO;have f41:=aaP;have anu:=aaQ;have anv:=aaR;have anw:=aaS;have anx:=aaT;have anz:=aaU;have anA:=aaV;have anB:=aaW;have i29:=aaX;have Qp:=aaY;have a67:=aaZ;have anC:=aa0;have aa6:=Qq;have aa7:=Qr;have hlt:=bCq _ _ hg;have hlt:12<w.heap.size:=hlt;have n42:=aa4 ⟨w.heap.size,0,none⟩ t ((w.alloc (.cells #[.pointer (some t)] 174)).alloc (.cells #[.pointer (some ⟨26,174,none⟩),.pointer (some ⟨w.heap.size,0,none⟩),.int .u64 150] 253)) (by simp);have hg2:((w.alloc (.cells #[.pointer (some t)] 174)).alloc (.cells #[.pointer (some ⟨26,174,none⟩),.pointer (some ⟨w.heap.size,0,none⟩),.int .u64 150] 253)).cell? ⟨12,0,none⟩=some (.iface 310 (.agg #[.pointer (some ⟨26,26,none⟩)])):=by
  rw[World.cell?_alloc_lt _ _ ⟨12,0,none⟩ (by simp;omega),World.cell?_alloc_lt _ _ ⟨12,0,none⟩ hlt];exact hg
 go_enter Tryz.func91,Tryz.ntmps91;go_wp2;refine wp_loop_rounds 1 ?_;rw[rounds_succ];go_wp2;go_ret;refine⟨rfl,?_⟩;exact(((bRq _ _).alloc (lRq _) _).alloc (by simp) _).alloc (by simp;omega) _
end Go.Proofs.YtjolccidheflpaaGreatDoor
