/- What the listed package variables give the walks of recover: the errors, the tables, what the library reads; a law for calls that keeps the world's shape. -/
import Derived.Test.YtjolccidheflpaaGreatDoorW05
import Derived.Test.YtjolccidheflpaaGreatDoorW17
import Derived.Handed
import Derived.Shelf.Vars
import Derived.LaidSub
import Derived.Lib.LaidTab
namespace Go.Proofs.YtjolccidheflpaaGreatDoor
set_option maxHeartbeats 8000000
set_option maxRecDepth 100000
open Go.ChangeShapes Go.WideShapes Go.ChangeAt Go.RowKit
theorem agv {H:Type} {enc:TypeId×Value->H} {C:Checked} {os:Os} {f:FuncId} {fn:Func} {s:ChangeSpec} {X:World->Prop}
  (hX:∀ w w':World,w.heap=w'.heap->X w->X w') (own:ownKnob C.prog.godebug=none) (started:os.Started) (noInit:C.prog.inits.idxOf? f=none) (hfn:C.prog.funcs[f]?=some fn)
  (witness:∃ (w:World) (tape:Tape) (i:Input),w.os=os/\(w.forCall tape i).Shaped C.prog/\i.vars=[]/\Input.okWide C.prog (w.forCall tape i) .any w.heap.size f i /\
   ((s.pre enc C.prog fn [] false (w.forCall tape i).memory i.args/\X (w.forCall tape i).memory)/\sizedMet enc C.prog fn (OpenSpec.ofChange s) false (w.forCall tape i).memory i.args)/\(({}:Assume)).holds C.prog (lone (Frame.enter C.prog f i.args .normal) [] (w.forCall tape i)))
  (contract:∀ (W:World) (base:Nat) (args:Array Value) (ds gs:List (DataW H)) (before:List MemPlace),
   (∀ (j:Nat) t v,fn.params[j]?=some t->args[j]?=some v->Value.okWide C.prog W .any base t v)->DataW.Whole enc C.prog fn.params.toList s.vars false W args.toList ds gs before->W.ShapedOpen C.prog->X W ->
   Calls C.prog f args W fun e W'=>∃ v,e=.returned v/\s.post enc C.prog fn false true false false W args v W') :
  ReturnsInHanded {} C os f .any (fun w args=>(s.pre enc C.prog fn [] false w args/\X w)/\sizedMet enc C.prog fn (OpenSpec.ofChange s) false w args) (s.post enc C.prog fn false true false false):=by
 refine returnsInHanded_of_calls own started noInit witness ?_;intro w tape i _ hsh _ hok hpre _;obtain⟨_,_,_,fn',hfn',_,_,_,_,hval⟩:=hok;obtain rfl:fn'=fn:=Option.some.inj (hfn'.symm.trans hfn);obtain⟨⟨⟨ds,gs,before,hw,_⟩,hx⟩,_⟩:=hpre;refine(contract (w.forCall tape i) w.heap.size i.args ds gs before hval (DataW.Whole.of_heap (by rfl) hw) hsh (hX _ _ (by rfl) hx)).mono ?_;rintro e W' ⟨v,rfl,hp⟩;exact ChangeSpec.post_blind hp
def BU:List (String×DataW Unit):=[("strconv.ErrRange",Rows.laid_strconv_ErrRange),("strconv.ErrSyntax",Rows.laid_strconv_ErrSyntax),("unicode/utf8.first",Rows.laid_unicode_utf8_first)]
theorem agn {W:World} (h:laidMet Tryz.prog (w8++BU) W) (hh:handlesMet Tryz.prog [("errors.errorType",Rows.laid_errors_errorType)] W):bO W (p_ W):=by
 refine af8 ?_ hh;have h2:=h.filter (fun x=>!(x.1 == "strconv.ErrRange" || x.1 == "strconv.ErrSyntax" || x.1 == "unicode/utf8.first"));have e:((w8++BU).filter (fun x=>!(x.1 == "strconv.ErrRange" || x.1 == "strconv.ErrSyntax" || x.1 == "unicode/utf8.first")))=w8:=by kernel_rfl
 rw[e]at h2;exact h2
theorem agp {W:World} {r:List (String×DataW Unit)} (h:laidMet Tryz.prog (("internal/strconv.uint64pow10",Rows.laid_internal_strconv_uint64pow10)::r) W):Lib.TabBelow Tryz.prog W.heap.size W "internal/strconv.uint64pow10" .u64 Lib.pow10Tab :=
 Lib.tabBelow_of_tabIs (Lib.tabIs_of_head (g:=18) (t:=396) (e:=330) (n:=20) (by kernel_rfl) (by kernel_rfl) (by kernel_rfl) (by kernel_rfl) (by kernel_rfl) (by kernel_rfl) (zs:=Lib.pow10Tab) (k:=.u64) h)
theorem agq {W:World} (h:laidMet Tryz.prog (w8++BU) W) (ht:Lib.TabBelow Tryz.prog W.heap.size W "internal/strconv.uint64pow10" .u64 Lib.pow10Tab) (hsh:W.ShapedOpen Tryz.prog):kI W:=by
 obtain⟨m,hm⟩:∃ m,W.cell? (Qb 13 0)=some (Qa m) :=
  cell_of_shapedOpen_int (t:=3) (zero:=#[Qa 0]) hsh (of_decide_eq_true (by kernel_rfl)) (by kernel_rfl) rfl (by kernel_rfl) (by kernel_rfl) Tryz.underlying3
 have h2:=h.filter (fun x=>x.1 == "strconv.ErrSyntax");have e:((w8++BU).filter (fun x=>x.1 == "strconv.ErrSyntax"))=[("strconv.ErrSyntax",Rows.laid_strconv_ErrSyntax)]:=by kernel_rfl
 rw[e]at h2;obtain⟨a,s,h3,_⟩:=nK h2 (g:=14) (by kernel_rfl) (by kernel_rfl);exact amL h3 hm ht
end Go.Proofs.YtjolccidheflpaaGreatDoor
