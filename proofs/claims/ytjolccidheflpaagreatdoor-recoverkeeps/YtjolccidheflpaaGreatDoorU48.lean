/- Own. -/
import Derived.Test.YtjolccidheflpaaGreatDoorU18
import Derived.Test.YtjolccidheflpaaGreatDoorU19
import Derived.Test.YtjolccidheflpaaGreatDoorU46
import Derived.Test.YtjolccidheflpaaGreatDoorU47
import Derived.ChangeSlices
import Derived.Carry
import Derived.Test.YtjolccidheflpaaGreatDoorU05
namespace Go.Proofs.YtjolccidheflpaaGreatDoor.RecoverKeeps
set_option maxHeartbeats 8000000
open Go.ChangeShapes Go.WideShapes Go.ChangeAt Go.RowKit
open Go.ChangeMaps (open_string shut_string)
set_option maxRecDepth 100000 in
theorem contract (H:Type) (enc:TypeId×Value->H) (W:World) (base:Nat) (args:Array Value) (ds gs:List (DataW H)) (before:List MemPlace)
  (hval:∀ (j:Nat) t v,Tryz.f4.params[j]?=some t->args[j]?=some v->Value.okWide Tryz.prog W .any base t v)
  (hW:DataW.Whole enc Tryz.prog Tryz.f4.params.toList Rows.recoverKeepsSpec.vars false W args.toList ds gs before) (hsh:W.ShapedOpen Tryz.prog) (hL:laidMetH Tryz.prog Rows.recoverKeepsRow.laid W) :
  Calls Tryz.prog 4 args W fun e W'=>∃ v,e=.returned v/\Rows.recoverKeepsSpec.post enc Tryz.prog Tryz.f4 false true false false W args v W':=by
 have G4:=hW;obtain⟨p,q,ah7,hV,rfl,hfz,hnd⟩:=hW;have hA:DataW.TrodAll enc Tryz.prog W 0 (fun _=>true) true Tryz.f4.params.toList args.toList ds p:=ah7;rw[Tryz.params4]at hA hval;obtain⟨v0,v1,v2,d0,d1,d2,p0,p1,p2,rfl,rfl,rfl,h0,h1,h2⟩:=trodAll_three hA;obtain⟨rfl,rfl⟩:=trodVars_none hV;obtain⟨n1,rfl,rfl,rfl,Wt⟩:=open_int Tryz.underlying3 (hval 1 3 v1 rfl rfl) h1;obtain⟨a,n,cap,l,rfl,hst⟩:=Wu (okWide_slice Tryz.underlying36 (hval 0 36 v0 rfl rfl)) h0;obtain⟨a2,n2,Cj,l2,rfl,Ck⟩:=Wu (okWide_slice Tryz.underlying36 (hval 2 36 v2 rfl rfl)) h2;simp only[List.append_nil]at G4;have wV:∀ x∈p0,x.block<W.heap.size:=fun x hx=>G4.lt x (by simp[hx]);have yc:∀ x∈p2,x.block<W.heap.size:=fun x hx=>G4.lt x (by simp[hx]);have Be:n1<=9223372036854775807:=by
  have ku:(decide (IntKind.i64.min<=n1)&&decide (n1<=IntKind.i64.max))=true:=Wt;rw[bEq]at ku;exact of_decide_eq_true ku.2
 have h':laidMet Tryz.prog (("math/bits.deBruijn32tab",Rows.laid_math_bits_deBruijn32tab)::("math/bits.deBruijn64tab",Rows.laid_math_bits_deBruijn64tab)::("internal/strconv.uint64pow10",Rows.laid_internal_strconv_uint64pow10)::("unicode/utf8.acceptRanges",Rows.laid_unicode_utf8_acceptRanges)::(wJ++Cm)) W/\handlesMet Tryz.prog [("errors.errorType",Rows.laid_errors_errorType)] W:=hL;have hs:=ah8 h'.1.tail.tail.tail.tail h'.2;have ht:=ah9 h'.1.tail.tail;have hl:=aia h'.1.tail.tail.tail.tail ht hsh;refine(aib a n cap l n1 a2 n2 Cj l2 W hs ht hl hst Ck Be).mono fun e W' ⟨he,hb⟩=>?_;subst he;refine⟨_,rfl,_,_,_,[],p0++p2,[],G4,?_,?_,?_,hb.frame _,fun h=>by cases h⟩
 ·exact trodAll_mk1 (shut_bool Tryz.underlying4 true)
 ·exact trodAll_mk3 (Below.trod laidOut (by kernel_rfl) (of_decide_eq_true (by kernel_rfl)) h0 hb wV) (shut_int Tryz.underlying3 Wt) (Below.trod laidOut (by kernel_rfl) (of_decide_eq_true (by kernel_rfl)) h2 hb yc)
 ·rfl
theorem aic (os:Os) (args:Array Value):laidMetH Tryz.prog Rows.recoverKeepsRow.laid ((door os).forCall (fun _ _=>0) ⟨#[],args,[]⟩).memory :=
 laidMetH_of_parts3 (fuel:=8) (aid os args) (aie os args) (by kernel_rfl)
set_option maxRecDepth 100000 in
theorem lifted (os:Os) (started:os.Started) (H:Type) (enc:TypeId×Value->H) :
  ReturnsInHanded {} Tryz.checked os 4 .any (fun w args=>(Rows.recoverKeepsSpec.pre enc Tryz.prog Tryz.f4 [] false w args/\laidMetH Tryz.prog Rows.recoverKeepsRow.laid w)/\sizedMet enc Tryz.prog Tryz.f4 (OpenSpec.ofChange Rows.recoverKeepsSpec) false w args)
   (Rows.recoverKeepsSpec.post enc Tryz.prog Tryz.f4 false true false false):=by
 refine aif (C:=Tryz.checked) (X:=fun w=>laidMetH Tryz.prog Rows.recoverKeepsRow.laid w) (fun _ _ hh h=>h.of_heap hh) own started (by kernel_rfl) Tryz.func4
  (ChangeSpec.witness_shaped (enc:=enc) (C:=Tryz.checked) (os:=os) (X:=fun w _=>laidMetH Tryz.prog Rows.recoverKeepsRow.laid w) false (door os) #[.slice none 0 0,.int .i64 0,.slice none 0 0] 8 (aih os) (aii os _) (by kernel_rfl) (by kernel_rfl) (by kernel_rfl) (aic os _)) ?_
 intro W base args ds gs before hval hW hsh hL;exact contract H enc W base args ds gs before hval hW hsh hL
end Go.Proofs.YtjolccidheflpaaGreatDoor.RecoverKeeps
namespace Go.Proofs.YtjolccidheflpaaGreatDoor.RecoverKeeps
set_option maxHeartbeats 8000000
open Go.ChangeShapes Go.WideShapes Go.ChangeAt Go.RowKit
theorem said:Rows.RecoverKeepsSaid :=
 OpenClaim.holds_of_wide 4 Tryz.f4 rfl rfl rfl rfl rfl rfl rfl ⟨rfl,rfl,rfl,rfl,rfl⟩ rfl rfl rfl rfl rfl (by kernel_rfl) Tryz.func4 RecoverKeeps.closed
  (of_decide_eq_true (by kernel_rfl)) (by unfold Func.isWrapper;first | (rw[if_pos (by decide +kernel)];kernel_rfl) | (rw[if_neg (by decide +kernel)];exact⟨rfl,rfl⟩))
  (fun os started H enc _=>lifted os started H enc)
end Go.Proofs.YtjolccidheflpaaGreatDoor.RecoverKeeps
