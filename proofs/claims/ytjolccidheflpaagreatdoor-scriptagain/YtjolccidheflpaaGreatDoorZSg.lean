/- For every row of lines and every number ScriptAgain returns true, and its arguments read afterwards as before: the same lines make the same answers, and those of a beginning are the beginning of those of all. The listed package variables hold what the program's text lays (the card ties them). -/
import Derived.Test.YtjolccidheflpaaGreatDoorX18
import Derived.Test.YtjolccidheflpaaGreatDoorZScAgain
import Derived.Test.YtjolccidheflpaaGreatDoorZScData
import Derived.Test.YtjolccidheflpaaGreatDoorZSgC
namespace Go.Proofs.YtjolccidheflpaaGreatDoor.ScriptAgain
set_option maxHeartbeats 8000000
open Go.ChangeShapes Go.WideShapes Go.ChangeAt Go.RowKit
open Go.ChangeMaps (open_string shut_string)
set_option maxRecDepth 100000 in
theorem contract(H:Type)(enc:TypeId×Value->H)(W:World)(base:Nat)(args:Array Value)(ds gs:List (DataW H))(before:List MemPlace)(hval:∀(j:Nat) t v,Tryz.f7.params[j]?=some t->args[j]?=some v->Value.okWide Tryz.prog W .any base t v)(hW:DataW.Whole enc Tryz.prog Tryz.f7.params.toList Rows.scriptAgainSpec.vars false W args.toList ds gs before)(hsh:W.ShapedOpen Tryz.prog)(hL:laidMetH Tryz.prog Rows.scriptAgainRow.laid W):
  Calls Tryz.prog 7 args W fun e W'=>∃v,e=.returned v/\Rows.scriptAgainSpec.post enc Tryz.prog Tryz.f7 false true false false W args v W':=by
 have yY:=hW;obtain⟨p,q,PU,hV,rfl,hfz,hnd⟩:=hW;have hA:DataW.TrodAll enc Tryz.prog W 0 (fun _=>true) true Tryz.f7.params.toList args.toList ds p:=PU;rw[Tryz.params7]at hA hval;obtain⟨v0,v1,d0,d1,p0,p1,rfl,rfl,rfl,h0,h1⟩:=trodAll_two hA;obtain⟨rfl,rfl⟩:=trodVars_none hV;obtain⟨k,rfl,rfl,rfl,wk⟩:=open_int Tryz.underlying3 (hval 1 3 v1 rfl rfl) h1;obtain⟨a,n,cap,l,rfl,ha⟩:=bg.al3 (okWide_slice Tryz.underlying77 (hval 0 77 v0 rfl rfl)) h0;simp only[List.append_nil]at yY;have uk:∀x∈p0,x.block<W.heap.size:=fun x hx=>yY.lt x (by simp[hx]);have h':laidMet Tryz.prog (("math/bits.deBruijn32tab",Rows.laid_math_bits_deBruijn32tab)::("math/bits.deBruijn64tab",Rows.laid_math_bits_deBruijn64tab)::("internal/strconv.uint64pow10",Rows.laid_internal_strconv_uint64pow10)::("unicode/utf8.acceptRanges",Rows.laid_unicode_utf8_acceptRanges)::(qP++wU)) W/\handlesMet Tryz.prog [("errors.errorType",Rows.laid_errors_errorType)] W:=hL;have hs:=Z0 h'.1.tail.tail.tail.tail h'.2;have ht:=Z1 h'.1.tail.tail;have hl:=Z2 h'.1.tail.tail.tail.tail ht hsh;have htx:=bg.ZZ h'.1.tail.tail.tail.tail;refine(bg.ak7 a n cap l k W hs ht hl htx.1 ha).mono fun e W' ⟨he,hb⟩=>?_;subst he;refine⟨_,rfl,_,_,_,[],p0,[],yY,?_,?_,?_,hb.frame _,fun h=>by cases h⟩
 .exact trodAll_mk1 (shut_bool Tryz.underlying4 true)
 .have hh:=trodAll_mk2 (Below.trod laidOut (by kernel_rfl) (of_decide_eq_true (by kernel_rfl)) h0 hb uk) (shut_int Tryz.underlying3 wk)
  rw[aNq]at hh;exact hh
 .rfl
theorem PV(os:Os)(args:Array Value):laidMetH Tryz.prog Rows.scriptAgainRow.laid ((door os).forCall (fun _ _=>0) ⟨#[],args,[]⟩).memory :=
 laidMetH_of_parts3 (fuel:=8) (Z3 os args) (Z4 os args) (by kernel_rfl)
set_option maxRecDepth 100000 in
theorem lifted(os:Os)(started:os.Started)(H:Type)(enc:TypeId×Value->H):
  ReturnsInHanded {} Tryz.checked os 7 .any (fun w args=>(Rows.scriptAgainSpec.pre enc Tryz.prog Tryz.f7 [] false w args/\laidMetH Tryz.prog Rows.scriptAgainRow.laid w)/\sizedMet enc Tryz.prog Tryz.f7 (OpenSpec.ofChange Rows.scriptAgainSpec) false w args)
   (Rows.scriptAgainSpec.post enc Tryz.prog Tryz.f7 false true false false):=by
 refine Z5 (C:=Tryz.checked) (X:=fun w=>laidMetH Tryz.prog Rows.scriptAgainRow.laid w) (fun _ _ hh h=>h.of_heap hh) own started (by kernel_rfl) Tryz.func7
  (ChangeSpec.witness_shaped (enc:=enc) (C:=Tryz.checked) (os:=os) (X:=fun w _=>laidMetH Tryz.prog Rows.scriptAgainRow.laid w) false (door os) #[.slice none 0 0,Z 0] 8 (Z6 os) (Z7 os _) (by kernel_rfl) (by kernel_rfl) (by kernel_rfl) (PV os _)) ?_
 intro W base args ds gs before hval hW hsh hL;exact contract H enc W base args ds gs before hval hW hsh hL
end Go.Proofs.YtjolccidheflpaaGreatDoor.ScriptAgain
namespace Go.Proofs.YtjolccidheflpaaGreatDoor.ScriptAgain
set_option maxHeartbeats 8000000
open Go.ChangeShapes Go.WideShapes Go.ChangeAt Go.RowKit
theorem said:Rows.ScriptAgainSaid :=
 OpenClaim.holds_of_wide 7 Tryz.f7 rfl rfl rfl rfl rfl rfl rfl ⟨rfl,rfl,rfl,rfl,rfl⟩ rfl rfl rfl rfl rfl (by kernel_rfl) Tryz.func7 ScriptAgain.closed
  (of_decide_eq_true (by kernel_rfl)) (by unfold Func.isWrapper;first | (rw[if_pos (by decide +kernel)];kernel_rfl) | (rw[if_neg (by decide +kernel)];exact⟨rfl,rfl⟩))
  (fun os started H enc _=>lifted os started H enc)
end Go.Proofs.YtjolccidheflpaaGreatDoor.ScriptAgain
namespace Go.Proofs.YtjolccidheflpaaGreatDoor.ScriptAgain
set_option maxHeartbeats 8000000
open Go.ChangeShapes Go.WideShapes Go.ChangeAt Go.RowKit
theorem plain(f:FuncId)(fn:Func)(hf:Tryz.pinned.checked.prog.funcNamed "gavelhouse/gavelhouselaw4.ScriptAgain" = some f)(hfn:Tryz.pinned.checked.prog.funcs[f]?=some fn):
  true=Tryz.pinned.checked.prog.looks []/\∀(j:Nat) t,fn.params[j]?=some t->Tryz.pinned.checked.prog.wantsStandIn t=false:=by
 obtain rfl:f=7:=Option.some.inj ((show Tryz.prog.funcNamed "gavelhouse/gavelhouselaw4.ScriptAgain" = some 7 by kernel_rfl).symm.trans hf) |>.symm
 obtain rfl:fn=Tryz.f7:=(Option.some.inj (Tryz.func7.symm.trans hfn)).symm;refine⟨by kernel_rfl,fun j t ht=>?_⟩;rw[Tryz.params7]at ht;have hm:t∈[77,3]:=by simpa using Array.mem_of_getElem? ht
 have hall:([77,3].all fun u=>!Tryz.prog.wantsStandIn u)=true:=by kernel_rfl
 exact(show Tryz.prog.wantsStandIn t=false by simpa using List.all_eq_true.1 hall t hm)
end ScriptAgain
theorem scriptAgain_card:Rows.ScriptAgainCardSaid :=
 Claim7.holds_tied_plain_at .later [] _ _ _ _ ScriptAgain.said (fun _ h=>by cases h) (by kernel_rfl) (fun _ h=>by cases h) scriptAgain_row_tie rfl ⟨rfl,rfl⟩ (by kernel_rfl) rfl ScriptAgain.plain (by kernel_rfl)
#print axioms scriptAgain_card
end Go.Proofs.YtjolccidheflpaaGreatDoor
