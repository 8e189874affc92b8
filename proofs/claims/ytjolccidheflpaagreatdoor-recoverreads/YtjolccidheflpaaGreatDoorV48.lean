/- What a call of RecoverReads does. For every text RecoverReads returns true: what is read of it is what the document reads. -/
import Derived.Test.YtjolccidheflpaaGreatDoorV18
import Derived.Test.YtjolccidheflpaaGreatDoorV19
import Derived.Test.YtjolccidheflpaaGreatDoorV46
import Derived.Test.YtjolccidheflpaaGreatDoorV47
import Derived.ChangeSlices
import Derived.Carry
import Derived.Test.YtjolccidheflpaaGreatDoorV05
namespace Go.Proofs.YtjolccidheflpaaGreatDoor.RecoverReads
set_option maxHeartbeats 8000000
open Go.ChangeShapes Go.WideShapes Go.ChangeAt Go.RowKit
open Go.ChangeMaps (open_string shut_string)
set_option maxRecDepth 100000 in
theorem contract (H:Type) (enc:TypeId×Value->H) (W:World) (base:Nat) (args:Array Value) (ds gs:List (DataW H)) (before:List MemPlace)
  (hval:∀ (j:Nat) t v,Tryz.f3.params[j]?=some t->args[j]?=some v->Value.okWide Tryz.prog W .any base t v)
  (hW:DataW.Whole enc Tryz.prog Tryz.f3.params.toList Rows.recoverReadsSpec.vars false W args.toList ds gs before) (hsh:W.ShapedOpen Tryz.prog) (hL:laidMetH Tryz.prog Rows.recoverReadsRow.laid W) :
  Calls Tryz.prog 3 args W fun e W'=>∃ v,e=.returned v∧Rows.recoverReadsSpec.post enc Tryz.prog Tryz.f3 false true false false W args v W':=by
 have ah7:=hW;obtain⟨p,q,ah8,hV,rfl,hfz,hnd⟩:=hW;have hA:DataW.TrodAll enc Tryz.prog W 0 (fun _=>true) true Tryz.f3.params.toList args.toList ds p:=ah8;rw[Tryz.params3]at hA hval;obtain⟨v0,d0,rfl,rfl,h0⟩:=trodAll_one hA;obtain⟨rfl,rfl⟩:=trodVars_none hV;obtain⟨t,rfl,rfl,rfl,ah9⟩:=open_string Tryz.underlying9 (hval 0 9 v0 rfl rfl) h0;have h':laidMet Tryz.prog (("math/bits.deBruijn32tab",Rows.laid_math_bits_deBruijn32tab)::("math/bits.deBruijn64tab",Rows.laid_math_bits_deBruijn64tab)::("internal/strconv.uint64pow10",Rows.laid_internal_strconv_uint64pow10)::("unicode/utf8.acceptRanges",Rows.laid_unicode_utf8_acceptRanges)::(wh++Cp)) W∧handlesMet Tryz.prog [("errors.errorType",Rows.laid_errors_errorType)] W:=hL;have hs:=aia h'.1.tail.tail.tail.tail h'.2;have ht:=aib h'.1.tail.tail;have hl:=aic h'.1.tail.tail.tail.tail ht hsh;refine(aid t W hs ht hl).mono fun e W' ⟨he,hb⟩=>?_;subst he;refine⟨_,rfl,_,_,_,[],[],[],ah7,?_,?_,?_,hb.frame _,fun h=>by cases h⟩
 ·exact trodAll_mk1 (shut_bool Tryz.underlying4 true)
 ·exact trodAll_mk1 (shut_string Tryz.underlying9 ah9)
 ·rfl
theorem aie (os:Os) (args:Array Value):laidMetH Tryz.prog Rows.recoverReadsRow.laid ((door os).forCall (fun _ _=>0) ⟨#[],args,[]⟩).memory :=
 laidMetH_of_parts3 (fuel:=8) (aif os args) (aih os args) (by kernel_rfl)
set_option maxRecDepth 100000 in
theorem lifted (os:Os) (started:os.Started) (H:Type) (enc:TypeId×Value->H) :
  ReturnsInHanded {} Tryz.checked os 3 .any (fun w args=>(Rows.recoverReadsSpec.pre enc Tryz.prog Tryz.f3 [] false w args∧laidMetH Tryz.prog Rows.recoverReadsRow.laid w)∧sizedMet enc Tryz.prog Tryz.f3 (OpenSpec.ofChange Rows.recoverReadsSpec) false w args)
   (Rows.recoverReadsSpec.post enc Tryz.prog Tryz.f3 false true false false):=by
 refine aii (C:=Tryz.checked) (X:=fun w=>laidMetH Tryz.prog Rows.recoverReadsRow.laid w) (fun _ _ hh h=>h.of_heap hh) own started (by kernel_rfl) Tryz.func3
  (ChangeSpec.witness_shaped (enc:=enc) (C:=Tryz.checked) (os:=os) (X:=fun w _=>laidMetH Tryz.prog Rows.recoverReadsRow.laid w) false (door os) #[.string ⟨#[]⟩] 8 (aij os) (aik os _) (by kernel_rfl) (by kernel_rfl) (by kernel_rfl) (aie os _)) ?_
 intro W base args ds gs before hval hW hsh hL;exact contract H enc W base args ds gs before hval hW hsh hL
end Go.Proofs.YtjolccidheflpaaGreatDoor.RecoverReads
namespace Go.Proofs.YtjolccidheflpaaGreatDoor.RecoverReads
set_option maxHeartbeats 8000000
open Go.ChangeShapes Go.WideShapes Go.ChangeAt Go.RowKit
theorem said:Rows.RecoverReadsSaid :=
 OpenClaim.holds_of_wide 3 Tryz.f3 rfl rfl rfl rfl rfl rfl rfl ⟨rfl,rfl,rfl,rfl,rfl⟩ rfl rfl rfl rfl rfl (by kernel_rfl) Tryz.func3 RecoverReads.closed
  (of_decide_eq_true (by kernel_rfl)) (by unfold Func.isWrapper;first | (rw[if_pos (by decide +kernel)];kernel_rfl) | (rw[if_neg (by decide +kernel)];exact⟨rfl,rfl⟩))
  (fun os started H enc _=>lifted os started H enc)
end Go.Proofs.YtjolccidheflpaaGreatDoor.RecoverReads
