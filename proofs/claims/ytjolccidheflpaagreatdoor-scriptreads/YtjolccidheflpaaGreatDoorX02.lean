/- errors.Is and errors.As by their contracts, at errors of errors.New's make and at an api.Fault: Go's own text of package errors is walked. -/
import Derived.Test.YtjolccidheflpaaGreatDoorX00
import GoSem.PinnedTables
import GoSem.ClaimMapViews
import Derived.JoinedTies
import Derived.WalkKit
import Derived.Stop.Asserts
import Derived.RowKitTokens
namespace Go.Proofs.YtjolccidheflpaaGreatDoor
open Go.Proofs.Tryz
set_option maxHeartbeats 8000000
set_option maxRecDepth 100000
open Go.RowKit Go.Extern.Stop Go.Stop Go.Extern
def jA(f:Func):Array Value->Sem Value:=(Extern.find f).getD fun _=>pure (.tuple #[])
theorem Wl(v:Value)(w:World):(Extern.ReflectliteType.typeOf #[.iface 412 v]).run prog w=.ok (.iface 310 (.agg #[.pointer (some (O 26 412))])) w:=by kernel_rfl
theorem Wm(w:World):(jA f364 #[.agg #[.pointer (some (O 26 412))]]).run prog w=.ok (.bool true) w:=by kernel_rfl
theorem Wn:(prog.info? 412).map (·.comparable)=some true:=by kernel_rfl
theorem Wo:(prog.info? 414).map (·.size)=some 1:=by kernel_rfl
theorem aiw(v:Value)(lp:TypeId)(w:World):(Instr.typeAssert (.iface 412 v) lp 320 true).run prog w=.ok (.tuple #[.nilIface,.bool false]) w:=run_typeAssert_lacksB underlying320 (by kernel_rfl) (by kernel_rfl) v lp w
theorem AAC(v:Value)(lp:TypeId)(w:World):(Instr.typeAssert (.iface 412 v) lp 317 true).run prog w=.ok (.tuple #[.nilIface,.bool false]) w:=run_typeAssert_lacksB underlying317 (by kernel_rfl) (by kernel_rfl) v lp w
theorem AAD(v:Value)(lp:TypeId)(w:World):(Instr.typeAssert (.iface 412 v) lp 318 true).run prog w=.ok (.tuple #[.nilIface,.bool false]) w:=run_typeAssert_lacksB underlying318 (by kernel_rfl) (by kernel_rfl) v lp w
theorem aix(v:Value)(lp:TypeId)(w:World):(Instr.typeAssert (.iface 172 v) lp 320 true).run prog w=.ok (.tuple #[.nilIface,.bool false]) w:=run_typeAssert_lacksB underlying320 (by kernel_rfl) (by kernel_rfl) v lp w
theorem aiy(v:Value)(lp:TypeId)(w:World):(Instr.typeAssert (.iface 172 v) lp 317 true).run prog w=.ok (.tuple #[.iface 172 v,.bool true]) w:=run_typeAssert_hasB underlying317 (by kernel_rfl) v lp w
theorem Wp(v:Value)(w:World):(Go.method 580 310 v "Comparable").run prog w=.ok (364,v) w:=by kernel_rfl
theorem aiz(v:Value)(w:World):(Go.method 580 172 v "Unwrap").run prog w=.ok (357,v) w:=by kernel_rfl
theorem aeu(a:Addr)(w:World):
  Calls prog 92 #[.iface 412 (.pointer (some a)),.iface 412 (.pointer (some a))] w fun e w'=>e=.returned (.bool true)/\w'=w:=by
 obtain⟨i,hi,hcmp⟩:=Option.map_eq_some_iff.1 Wn;obtain⟨j,hj,GU⟩:=Option.map_eq_some_iff.1 Wo;have h8:=@run_callFunc_extern prog 157 _ Extern.ReflectliteType.typeOf func157 (by kernel_rfl) (by kernel_rfl) (by kernel_rfl) (by kernel_rfl);have GV:=@run_callFunc_extern prog 364 _ (jA f364) func364 (by kernel_rfl) (by kernel_rfl) (by kernel_rfl) (by kernel_rfl);have aiA:=Wl;have cT:=Wm;have aiB:=Wp;have heq:=run_eql_iface_ptr_same (P:=prog) w a underlying26 underlying412 hi hcmp hj;go_enter func92,ntmps92;go_wp2;refine wp_loop_rounds 1 ?_;rw[rounds_succ];go_wp2;go_ret;exact⟨rfl,rfl⟩
theorem aev(a b:Addr)(ca cb:Array Value)(ta tb:TypeId)(w:World)(hne:a≠b)(ha:w.heap[a.block]?=some (.cells ca ta (0,0)))(hb:w.heap[b.block]?=some (.cells cb tb (0,0))):
  Calls prog 92 #[.iface 412 (.pointer (some a)),.iface 412 (.pointer (some b))] w fun e w'=>e=.returned (.bool false)/\w'=w:=by
 obtain⟨i,hi,hcmp⟩:=Option.map_eq_some_iff.1 Wn;obtain⟨j,hj,GU⟩:=Option.map_eq_some_iff.1 Wo;have h8:=@run_callFunc_extern prog 157 _ Extern.ReflectliteType.typeOf func157 (by kernel_rfl) (by kernel_rfl) (by kernel_rfl) (by kernel_rfl);have GV:=@run_callFunc_extern prog 364 _ (jA f364) func364 (by kernel_rfl) (by kernel_rfl) (by kernel_rfl) (by kernel_rfl);have aiA:=Wl;have cT:=Wm;have aiB:=Wp;have atn:=aiw;have ado:=AAC;have adp:=AAD;have ato:=aix;have atp:=aiy;have atq:=aiz;have heq:=run_eql_iface_ptr_other (P:=prog) w underlying26 underlying412 hi hcmp hj (by rw[GU];decide) hne ha hb;go_enter func92,ntmps92;go_wp2;refine wp_loop_rounds 1 ?_;rw[rounds_succ];go_wp2;go_ret;exact⟨rfl,rfl⟩
theorem ac4(t:Addr)(w:World):(jA f153 #[.iface 174 (.pointer (some t))]).run prog w
  = .ok (.agg #[.pointer (some (O 26 174)),Rw w.heap.size,.int .u64 150]) (w.alloc (.cells #[.pointer (some t)] 174)):=by kernel_rfl
theorem ac5(a:Addr)(w:World):(jA f154 #[.agg #[.pointer (some (O 26 174)),.pointer (some a),.int .u64 150]]).run prog w=.ok (.iface 310 (.agg #[.pointer (some (O 26 174))])) w:=by kernel_rfl
theorem ac6(h:Value)(w:World):(Go.method 580 310 (.agg #[h]) "Kind").run prog w=.ok (351,h) w:=by kernel_rfl
theorem ac7(w:World):(jA f351 #[.pointer (some (O 26 174))]).run prog w=.ok (.int .u8 22) w:=by kernel_rfl
theorem ac8(w:World):(jA f351 #[.pointer (some (O 26 172))]).run prog w=.ok (.int .u8 22) w:=by kernel_rfl
theorem ac9(h:Value)(w:World):(Go.method 580 310 (.agg #[h]) "Elem").run prog w=.ok (365,.agg #[h]) w:=by kernel_rfl
theorem ada(h:Value)(w:World):(Go.method 580 310 (.agg #[h]) "Implements").run prog w=.ok (366,.agg #[h]) w:=by kernel_rfl
theorem adb(h:Value)(w:World):(Go.method 580 310 (.agg #[h]) "AssignableTo").run prog w=.ok (363,.agg #[h]) w:=by kernel_rfl
theorem ade(w:World):(jA f365 #[.agg #[.pointer (some (O 26 174))]]).run prog w=.ok (.iface 310 (.agg #[.pointer (some (O 26 172))])) w:=by kernel_rfl
theorem adf(w:World):(jA f366 #[.agg #[.pointer (some (O 26 172))],.iface 310 (.agg #[.pointer (some (O 26 26))])]).run prog w=.ok (.bool true) w:=by kernel_rfl
theorem adg(v:Value)(w:World):(jA f157 #[.iface 412 v]).run prog w=.ok (.iface 310 (.agg #[.pointer (some (O 26 412))])) w:=by kernel_rfl
theorem adh(w:World):(jA f363 #[.agg #[.pointer (some (O 26 412))],.iface 310 (.agg #[.pointer (some (O 26 172))])]).run prog w=.ok (.bool false) w:=by kernel_rfl
theorem adi(v:Value)(lp:TypeId)(w:World):(Instr.typeAssert (.iface 412 v) lp 314 true).run prog w=.ok (.tuple #[.nilIface,.bool false]) w:=run_typeAssert_lacksB underlying314 (by kernel_rfl) (by kernel_rfl) v lp w
theorem adj:jA f155=ReflectliteValue.method (ReflectliteValue.valueError "reflectlite.Value.IsNil" 0) ReflectliteValue.isNil:=by kernel_rfl
theorem adk(z:Sem Value)(f:TypeId->Addr->Nat->Nat->Sem Value)(v:Value):
  ReflectliteValue.method z f #[v]=(do match <- ReflectliteValue.parts v with | none=>z | some (t,a,fl)=>f t a fl (fl%32)):=rfl
theorem adl(a:Addr)(w:World):(ReflectliteValue.parts (.agg #[.pointer (some (O 26 174)),.pointer (some a),.int .u64 150])).run prog w=.ok (some (174,a,150)) w:=by kernel_rfl
theorem adn(a p:Addr)(W:World)(ha:W.cell? a=some (.pointer (some p))):
  (jA f155 #[.agg #[.pointer (some (O 26 174)),.pointer (some a),.int .u64 150]]).run prog W=.ok (.bool false) W:=by
 rw[adj,adk];simp only[Sem.run_bind,adl,Result.andThen];simp[ReflectliteValue.isNil,loadVar,isAgg,underlying,underlying174,ha,Result.andThen]
theorem AAB(x t:Addr)(w:World)(hg:w.cell? (O 12 0)=some (.iface 310 (.agg #[.pointer (some (O 26 26))]))):
  Calls prog 91 #[.iface 412 (.pointer (some x)),.iface 174 (.pointer (some t))] w fun e w'=>e=.returned (.bool false)/\U w w':=by
 have asp:=@run_callFunc_extern prog 153 _ (jA f153) func153 (by kernel_rfl) (by kernel_rfl) (by kernel_rfl) (by kernel_rfl);have asq:=@run_callFunc_extern prog 154 _ (jA f154) func154 (by kernel_rfl) (by kernel_rfl) (by kernel_rfl) (by kernel_rfl);have asr:=@run_callFunc_extern prog 155 _ (jA f155) func155 (by kernel_rfl) (by kernel_rfl) (by kernel_rfl) (by kernel_rfl);have ass:=@run_callFunc_extern prog 351 _ (jA f351) func351 (by kernel_rfl) (by kernel_rfl) (by kernel_rfl) (by kernel_rfl);have ast:=@run_callFunc_extern prog 365 _ (jA f365) func365 (by kernel_rfl) (by kernel_rfl) (by kernel_rfl) (by kernel_rfl);have asu:=@run_callFunc_extern prog 366 _ (jA f366) func366 (by kernel_rfl) (by kernel_rfl) (by kernel_rfl) (by kernel_rfl);have asv:=@run_callFunc_extern prog 157 _ (jA f157) func157 (by kernel_rfl) (by kernel_rfl) (by kernel_rfl) (by kernel_rfl);have asw:=@run_callFunc_extern prog 363 _ (jA f363) func363 (by kernel_rfl) (by kernel_rfl) (by kernel_rfl) (by kernel_rfl);have f40:=ac4;have f41:=ac5;have asx:=ac6;have asy:=ac7;have asz:=ac8;have asA:=ac9;have asB:=ada;have asC:=adb;have asD:=ade;have i29:=adf;have jJ:=adg;have a67:=adh;have asE:=adi;have ado:=AAC;have adp:=AAD;have hlt:=bCq _ _ hg;have hlt:12<w.heap.size:=hlt;have n42:=adn (O w.heap.size 0) t ((w.alloc (.cells #[.pointer (some t)] 174)).alloc (.cells #[.pointer (some (O 26 174)),Rw w.heap.size,.int .u64 150] 253)) (by simp);have hg2:((w.alloc (.cells #[.pointer (some t)] 174)).alloc (.cells #[.pointer (some (O 26 174)),Rw w.heap.size,.int .u64 150] 253)).cell? (O 12 0)=some (.iface 310 (.agg #[.pointer (some (O 26 26))])):=by
  rw[World.cell?_alloc_lt _ _ (O 12 0) (by simp;omega),World.cell?_alloc_lt _ _ (O 12 0) hlt];exact hg
 go_enter func91,ntmps91;go_wp2;refine wp_loop_rounds 1 ?_;rw[rounds_succ];go_wp2;go_ret;refine⟨rfl,?_⟩;exact(aj.alloc (by simp) _).alloc (by simp;omega) _
end Go.Proofs.YtjolccidheflpaaGreatDoor
