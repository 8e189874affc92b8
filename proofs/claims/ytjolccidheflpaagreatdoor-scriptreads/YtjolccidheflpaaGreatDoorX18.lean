/- A world in which all listed variables are laid: the door's run, and a table of the library's. -/
import Derived.Test.YtjolccidheflpaaGreatDoorX05
import Derived.Test.YtjolccidheflpaaGreatDoorX16
import Derived.Lay
namespace Go.Proofs.YtjolccidheflpaaGreatDoor
open Go.Proofs.Tryz
set_option maxHeartbeats 8000000
set_option maxRecDepth 100000
open Go.ChangeShapes Go.WideShapes Go.ChangeAt Go.RowKit
theorem Z5{H:Type}{enc:TypeId×Value->H}{C:Checked}{os:Os}{f:FuncId}{fn:Func}{s:ChangeSpec}{X:World->Prop}(hX:∀w w':World,w.heap=w'.heap->X w->X w')(own:ownKnob C.prog.godebug=none)(started:os.Started)(noInit:C.prog.inits.idxOf? f=none)(hfn:C.prog.funcs[f]?=some fn)(witness:∃(w:World) (tape:Tape) (i:Input),w.os=os/\(w.forCall tape i).Shaped C.prog/\i.vars=[]/\Input.okWide C.prog (w.forCall tape i) .any w.heap.size f i /\
   ((s.pre enc C.prog fn [] false (w.forCall tape i).memory i.args/\X (w.forCall tape i).memory)/\sizedMet enc C.prog fn (OpenSpec.ofChange s) false (w.forCall tape i).memory i.args)/\(({}:Assume)).holds C.prog (lone (Frame.enter C.prog f i.args .normal) [] (w.forCall tape i)))(contract:∀(W:World) (base:Nat) (args:Array Value) (ds gs:List (DataW H)) (before:List MemPlace),
   (∀(j:Nat) t v,fn.params[j]?=some t->args[j]?=some v->Value.okWide C.prog W .any base t v)->DataW.Whole enc C.prog fn.params.toList s.vars false W args.toList ds gs before->W.ShapedOpen C.prog->X W ->
   Calls C.prog f args W fun e W'=>∃v,e=.returned v/\s.post enc C.prog fn false true false false W args v W'):
  ReturnsInHanded {} C os f .any (fun w args=>(s.pre enc C.prog fn [] false w args/\X w)/\sizedMet enc C.prog fn (OpenSpec.ofChange s) false w args) (s.post enc C.prog fn false true false false):=by
 refine returnsInHanded_of_calls own started noInit witness ?_;intro w tape i _ hsh _ hok hpre _;obtain⟨_,_,_,fn',hfn',_,_,_,_,hval⟩:=hok;obtain rfl:fn'=fn:=Option.some.inj (hfn'.symm.trans hfn);obtain⟨⟨⟨ds,gs,before,hw,_⟩,hx⟩,_⟩:=hpre;refine(contract (w.forCall tape i) w.heap.size i.args ds gs before hval (DataW.Whole.of_heap (by rfl) hw) hsh (hX _ _ (by rfl) hx)).mono ?_;rintro e W' ⟨v,rfl,hp⟩;exact ChangeSpec.post_blind hp
def wU:List (String×DataW Unit):=[("strconv.ErrRange",Rows.laid_strconv_ErrRange),("strconv.ErrSyntax",Rows.laid_strconv_ErrSyntax),("unicode/utf8.first",Rows.laid_unicode_utf8_first)]
theorem Z0{W:World}(h:laidMet prog (qP++wU) W)(hh:handlesMet prog [("errors.errorType",Rows.laid_errors_errorType)] W):bJ W (mb W):=by
 refine aiL ?_ hh;have h2:=h.filter (fun x=>!(x.1 == "strconv.ErrRange" || x.1 == "strconv.ErrSyntax" || x.1 == "unicode/utf8.first"));have e:((qP++wU).filter (fun x=>!(x.1 == "strconv.ErrRange" || x.1 == "strconv.ErrSyntax" || x.1 == "unicode/utf8.first")))=qP:=by kernel_rfl
 rw[e]at h2;exact h2
theorem Z1{W:World}{r:List (String×DataW Unit)}(h:laidMet prog (("internal/strconv.uint64pow10",Rows.laid_internal_strconv_uint64pow10)::r) W):Lib.TabBelow prog W.heap.size W "internal/strconv.uint64pow10" .u64 Lib.pow10Tab :=
 Lib.tabBelow_of_tabIs (Lib.tabIs_of_head (g:=18) (t:=396) (e:=330) (n:=20) (by kernel_rfl) (by kernel_rfl) (by kernel_rfl) (by kernel_rfl) (by kernel_rfl) (by kernel_rfl) (zs:=Lib.pow10Tab) (k:=.u64) h)
theorem Z2{W:World}(h:laidMet prog (qP++wU) W)(ht:Lib.TabBelow prog W.heap.size W "internal/strconv.uint64pow10" .u64 Lib.pow10Tab)(hsh:W.ShapedOpen prog):ik W:=by
 obtain⟨m,hm⟩:∃m,W.cell? (O 13 0)=some (Z m) :=
  cell_of_shapedOpen_int (t:=3) (zero:=#[Z 0]) hsh (of_decide_eq_true (by kernel_rfl)) (by kernel_rfl) rfl (by kernel_rfl) (by kernel_rfl) underlying3
 have h2:=h.filter (fun x=>x.1 == "strconv.ErrSyntax");have e:((qP++wU).filter (fun x=>x.1 == "strconv.ErrSyntax"))=[("strconv.ErrSyntax",Rows.laid_strconv_ErrSyntax)]:=by kernel_rfl
 rw[e]at h2;obtain⟨a,s,h3,_⟩:=iE h2 (g:=14) (by kernel_rfl) (by kernel_rfl);exact arE h3 hm ht
end Go.Proofs.YtjolccidheflpaaGreatDoor
namespace Go.Proofs.YtjolccidheflpaaGreatDoor
open Go.Proofs.Tryz
set_option maxHeartbeats 8000000
set_option maxRecDepth 100000
open Go.ChangeShapes Go.WideShapes Go.ChangeAt Go.RowKit
def Rf:List (String×DataW Unit):=[("unicode/utf8.first",Rows.laid_unicode_utf8_first)]
noncomputable def door (os:Os):World:=(World.doorLaid prog 400 os).layVars prog Rf
theorem Z6(os:Os):(door os).os=os:=(World.layVars_os _ _ _).trans rfl
noncomputable def Jw (os:Os):List Nat:=(List.range (World.doorLaid prog 400 os).heap.size).filter (· != 16)
def iB:List (String×DataW Unit):=(Rows.recoverKeepsRow.laid.filter fun x=>x.2.handleName?.isNone).filter fun x=>!(["unicode/utf8.first"].contains x.1)
theorem art(os:Os):(World.doorLaid prog 400 os).layFits prog Rf (Jw os)=true:=by kernel_rfl
theorem aru(os:Os)(args:Array Value):(World.doorLaid prog 400 os).layIfaces prog Rf ((door os).forCall (fun _ _=>0) ⟨#[],args,[]⟩).memory=true:=by kernel_rfl
theorem arv(os:Os)(args:Array Value):LaidIn prog ((door os).forCall (fun _ _=>0) ⟨#[],args,[]⟩).memory iB (Jw os) :=
 LaidIn.of_run (Jw os) 8 (by kernel_rfl) (by kernel_rfl) (by kernel_rfl) (by kernel_rfl)
theorem Z3(os:Os)(args:Array Value):laidMet prog (Rows.recoverKeepsRow.laid.filter fun x=>x.2.handleName?.isNone) ((door os).forCall (fun _ _=>0) ⟨#[],args,[]⟩).memory :=
 laidMet_layVars ["unicode/utf8.first"] (Jw os) (by rfl) (art os) (aru os args) (arv os args)
theorem Z4(os:Os)(args:Array Value):(Rows.recoverKeepsRow.laid.filter fun x=>x.2.handleName?.isSome&&x.2.funcsIn?.isNone).all (handleAtB prog ((door os).forCall (fun _ _=>0) ⟨#[],args,[]⟩).memory)=true:=by kernel_rfl
theorem Z7(os:Os)(args:Array Value):((door os).forCall (fun _ _=>0) ⟨#[],args,[]⟩).Shaped prog:=World.shaped_of_RefB (by kernel_rfl) (by kernel_rfl)
end Go.Proofs.YtjolccidheflpaaGreatDoor
