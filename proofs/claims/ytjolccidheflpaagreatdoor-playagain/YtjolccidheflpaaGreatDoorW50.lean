/- What a call of PlayAgain does. For every number of a play and every script PlayAgain returns true, and its arguments read afterwards as before: the same script makes the same play, and a venue that goes on from its tape has the same books. -/
import Derived.Test.YtjolccidheflpaaGreatDoorW18
import Derived.Test.YtjolccidheflpaaGreatDoorW19
import Derived.Test.YtjolccidheflpaaGreatDoorW48
import Derived.Test.YtjolccidheflpaaGreatDoorW49
import Derived.ChangeSlices
import Derived.Carry
import Derived.Test.YtjolccidheflpaaGreatDoorW05
namespace Go.Proofs.YtjolccidheflpaaGreatDoor.PlayAgain
set_option maxHeartbeats 8000000
open Go.ChangeShapes Go.WideShapes Go.ChangeAt Go.RowKit
open Go.ChangeMaps (open_string shut_string)
set_option maxRecDepth 100000 in
theorem contract (H:Type) (enc:TypeId×Value->H) (W:World) (base:Nat) (args:Array Value) (ds gs:List (DataW H)) (before:List MemPlace)
  (hval:∀ (j:Nat) t v,Tryz.f5.params[j]?=some t->args[j]?=some v->Value.okWide Tryz.prog W .any base t v)
  (hW:DataW.Whole enc Tryz.prog Tryz.f5.params.toList Rows.playAgainSpec.vars false W args.toList ds gs before) (hsh:W.ShapedOpen Tryz.prog) (hL:laidMetH Tryz.prog Rows.playAgainRow.laid W) :
  Calls Tryz.prog 5 args W fun e W'=>∃ v,e=.returned v/\Rows.playAgainSpec.post enc Tryz.prog Tryz.f5 false true false false W args v W':=by
 have MA:=hW;obtain⟨p,q,agm,hV,rfl,hfz,hnd⟩:=hW;have hA:DataW.TrodAll enc Tryz.prog W 0 (fun _=>true) true Tryz.f5.params.toList args.toList ds p:=agm;rw[Tryz.params5]at hA hval;obtain⟨v0,v1,d0,d1,p0,p1,rfl,rfl,rfl,h0,h1⟩:=trodAll_two hA;obtain⟨rfl,rfl⟩:=trodVars_none hV;obtain⟨k,rfl,rfl,rfl,wk⟩:=open_int Tryz.underlying3 (hval 0 3 v0 rfl rfl) h0;obtain⟨a,n,cap,rfl⟩:=okWide_slice Tryz.underlying23 (hval 1 23 v1 rfl rfl);simp only[List.append_nil,List.nil_append]at MA;have yJ:∀ x∈p1,x.block<W.heap.size:=fun x hx=>MA.lt x (by simp[hx]);obtain⟨l,ha⟩:∃ l,yZ W a n cap l:=by
  obtain⟨fuel,hf⟩:=h1;rcases open_ints Tryz.underlying23 Tryz.underlying3 cells3 hf with ⟨hcs,_⟩ | ⟨a,aoA,cap',ss,hcs,_,hl,_,hz,_,hcell,hwf⟩
  .simp[Value.cells]at hcs
   obtain⟨rfl,rfl,rfl⟩:=hcs;exact⟨[],rfl,fun x hx=>(by cases hx),.inl ⟨rfl,rfl,rfl⟩⟩
  .simp[Value.cells]at hcs
   obtain⟨rfl,rfl,rfl⟩:=hcs;simp only[if_true]at hz;refine⟨ss.take n,by rw[lKq];omega,fun x hx=>?_,.inr ⟨a,rfl,fun i x hx=>?_⟩⟩
   .have lU:(decide (IntKind.i64.min<=x)&&decide (x<=IntKind.i64.max))=true:=hwf x (List.mem_of_mem_take hx)
    rw[bEq]at lU;exact⟨of_decide_eq_true lU.1,of_decide_eq_true lU.2⟩
   .have hx2:ss[i]?=some x:=by
     rw[List.getElem?_take]at hx;split at hx
     .exact hx
     .cases hx
    have:=hcell i (List.getElem?_eq_some_iff.1 hx2).1
    rw[gE,hx2]at this;exact this
 have h':laidMet Tryz.prog (("math/bits.deBruijn32tab",Rows.laid_math_bits_deBruijn32tab)::("math/bits.deBruijn64tab",Rows.laid_math_bits_deBruijn64tab)::("internal/strconv.uint64pow10",Rows.laid_internal_strconv_uint64pow10)::("unicode/utf8.acceptRanges",Rows.laid_unicode_utf8_acceptRanges)::(w8++BU)) W/\handlesMet Tryz.prog [("errors.errorType",Rows.laid_errors_errorType)] W:=hL;have hs:=agn h'.1.tail.tail.tail.tail h'.2;have ht:=agp h'.1.tail.tail;have hl:=agq h'.1.tail.tail.tail.tail ht hsh;refine(agr k a n cap l W hs ht hl ha).mono fun e W' ⟨he,hb⟩=>?_;subst he;refine⟨_,rfl,_,_,_,[],p1,[],MA,?_,?_,?_,hb.frame _,fun h=>by cases h⟩
 .exact trodAll_mk1 (shut_bool Tryz.underlying4 true)
 .exact trodAll_mk2 (shut_int Tryz.underlying3 wk) (Below.trod laidOut (by kernel_rfl) (of_decide_eq_true (by kernel_rfl)) h1 hb yJ)
 .rfl
theorem ags (os:Os) (args:Array Value):laidMetH Tryz.prog Rows.playAgainRow.laid ((door os).forCall (fun _ _=>0) ⟨#[],args,[]⟩).memory :=
 laidMetH_of_parts3 (fuel:=8) (agt os args) (agu os args) (by kernel_rfl)
set_option maxRecDepth 100000 in
theorem lifted (os:Os) (started:os.Started) (H:Type) (enc:TypeId×Value->H) :
  ReturnsInHanded {} Tryz.checked os 5 .any (fun w args=>(Rows.playAgainSpec.pre enc Tryz.prog Tryz.f5 [] false w args/\laidMetH Tryz.prog Rows.playAgainRow.laid w)/\sizedMet enc Tryz.prog Tryz.f5 (OpenSpec.ofChange Rows.playAgainSpec) false w args)
   (Rows.playAgainSpec.post enc Tryz.prog Tryz.f5 false true false false):=by
 refine agv (C:=Tryz.checked) (X:=fun w=>laidMetH Tryz.prog Rows.playAgainRow.laid w) (fun _ _ hh h=>h.of_heap hh) own started (by kernel_rfl) Tryz.func5
  (ChangeSpec.witness_shaped (enc:=enc) (C:=Tryz.checked) (os:=os) (X:=fun w _=>laidMetH Tryz.prog Rows.playAgainRow.laid w) false (door os) #[Qa 0,.slice none 0 0] 8 (agw os) (agx os _) (by kernel_rfl) (by kernel_rfl) (by kernel_rfl) (ags os _)) ?_
 intro W base args ds gs before hval hW hsh hL;exact contract H enc W base args ds gs before hval hW hsh hL
end Go.Proofs.YtjolccidheflpaaGreatDoor.PlayAgain
namespace Go.Proofs.YtjolccidheflpaaGreatDoor.PlayAgain
set_option maxHeartbeats 8000000
open Go.ChangeShapes Go.WideShapes Go.ChangeAt Go.RowKit
theorem said:Rows.PlayAgainSaid :=
 OpenClaim.holds_of_wide 5 Tryz.f5 rfl rfl rfl rfl rfl rfl rfl ⟨rfl,rfl,rfl,rfl,rfl⟩ rfl rfl rfl rfl rfl (by kernel_rfl) Tryz.func5 PlayAgain.closed
  (of_decide_eq_true (by kernel_rfl)) (by unfold Func.isWrapper;first | (rw[if_pos (by decide +kernel)];kernel_rfl) | (rw[if_neg (by decide +kernel)];exact⟨rfl,rfl⟩))
  (fun os started H enc _=>lifted os started H enc)
end Go.Proofs.YtjolccidheflpaaGreatDoor.PlayAgain
