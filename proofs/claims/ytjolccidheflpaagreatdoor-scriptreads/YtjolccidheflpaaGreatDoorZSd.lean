/- For every row of lines ScriptReads returns true, and its argument reads afterwards as before: what is no line is told. The listed package variables hold what the program's text lays (the card ties them). -/
import Derived.Test.YtjolccidheflpaaGreatDoorX18
import Derived.Test.YtjolccidheflpaaGreatDoorZScReads
import Derived.Test.YtjolccidheflpaaGreatDoorZSdC
namespace Go.Proofs.YtjolccidheflpaaGreatDoor.ScriptReads
set_option maxHeartbeats 8000000
open Go.ChangeShapes Go.WideShapes Go.ChangeAt Go.RowKit
open Go.ChangeMaps (open_string shut_string)
set_option maxRecDepth 100000 in
theorem contract(H:Type)(enc:TypeId×Value->H)(W:World)(base:Nat)(args:Array Value)(ds gs:List (DataW H))(before:List MemPlace)(hval:∀(j:Nat) t v,Tryz.f6.params[j]?=some t->args[j]?=some v->Value.okWide Tryz.prog W .any base t v)(hW:DataW.Whole enc Tryz.prog Tryz.f6.params.toList Rows.scriptReadsSpec.vars false W args.toList ds gs before)(hsh:W.ShapedOpen Tryz.prog)(hL:laidMetH Tryz.prog Rows.scriptReadsRow.laid W):
  Calls Tryz.prog 6 args W fun e W'=>∃v,e=.returned v/\Rows.scriptReadsSpec.post enc Tryz.prog Tryz.f6 false true false false W args v W':=by
 have yY:=hW;obtain⟨p,q,PU,hV,rfl,hfz,hnd⟩:=hW;have hA:DataW.TrodAll enc Tryz.prog W 0 (fun _=>true) true Tryz.f6.params.toList args.toList ds p:=PU;rw[Tryz.params6]at hA hval;obtain⟨v0,d0,rfl,rfl,h0⟩:=trodAll_one hA;obtain⟨rfl,rfl⟩:=trodVars_none hV;obtain⟨a,n,cap,rfl⟩:=okWide_slice Tryz.underlying70 (hval 0 70 v0 rfl rfl);simp only[List.append_nil]at yY;have uk:∀x∈p,x.block<W.heap.size:=fun x hx=>yY.lt x (by simp[hx]);obtain⟨l,Yd,ha⟩:∃l:List ByteArray,l.length=n/\bg.jw W a l:=by
  obtain⟨fuel,hf⟩:=h0;rcases open_strings Tryz.underlying70 Tryz.underlying9 SS hf with ⟨hcs,_⟩ | ⟨a,aug,cap',ss,hcs,_,hl,_,hz,_,hcell,_⟩
  .simp[Value.cells]at hcs
   obtain⟨rfl,rfl,rfl⟩:=hcs;exact⟨[],rfl,fun k x hx=>by cases hx⟩
  .simp[Value.cells]at hcs
   obtain⟨rfl,rfl,rfl⟩:=hcs;simp only[if_true]at hz;refine⟨ss.take n,by rw[lKq];omega,fun i x hx=>⟨a,rfl,?_⟩⟩;have hx2:ss[i]?=some x:=by
    rw[List.getElem?_take]at hx;split at hx
    .exact hx
    .cases hx
   have:=hcell i (List.getElem?_eq_some_iff.1 hx2).1
   rw[gE,hx2]at this;exact this
 have h':laidMet Tryz.prog (("math/bits.deBruijn32tab",Rows.laid_math_bits_deBruijn32tab)::("math/bits.deBruijn64tab",Rows.laid_math_bits_deBruijn64tab)::("internal/strconv.uint64pow10",Rows.laid_internal_strconv_uint64pow10)::("unicode/utf8.acceptRanges",Rows.laid_unicode_utf8_acceptRanges)::(qP++wU)) W/\handlesMet Tryz.prog [("errors.errorType",Rows.laid_errors_errorType)] W:=hL;have hs:=Z0 h'.1.tail.tail.tail.tail h'.2;have ht:=Z1 h'.1.tail.tail;have hl:=Z2 h'.1.tail.tail.tail.tail ht hsh;have htx:=bg.ZZ h'.1.tail.tail.tail.tail;refine(bg.ano a n cap l W hs ht hl htx.1 htx.2 Yd ha).mono fun e W' ⟨he,hb⟩=>?_;subst he;refine⟨_,rfl,_,_,_,[],p,[],yY,?_,?_,?_,hb.frame _,fun h=>by cases h⟩
 .exact trodAll_mk1 (shut_bool Tryz.underlying4 true)
 .exact trodAll_mk1 (Below.trod laidOut (by kernel_rfl) (of_decide_eq_true (by kernel_rfl)) h0 hb uk)
 .rfl
theorem PV(os:Os)(args:Array Value):laidMetH Tryz.prog Rows.scriptReadsRow.laid ((door os).forCall (fun _ _=>0) ⟨#[],args,[]⟩).memory :=
 laidMetH_of_parts3 (fuel:=8) (Z3 os args) (Z4 os args) (by kernel_rfl)
set_option maxRecDepth 100000 in
theorem lifted(os:Os)(started:os.Started)(H:Type)(enc:TypeId×Value->H):
  ReturnsInHanded {} Tryz.checked os 6 .any (fun w args=>(Rows.scriptReadsSpec.pre enc Tryz.prog Tryz.f6 [] false w args/\laidMetH Tryz.prog Rows.scriptReadsRow.laid w)/\sizedMet enc Tryz.prog Tryz.f6 (OpenSpec.ofChange Rows.scriptReadsSpec) false w args)
   (Rows.scriptReadsSpec.post enc Tryz.prog Tryz.f6 false true false false):=by
 refine Z5 (C:=Tryz.checked) (X:=fun w=>laidMetH Tryz.prog Rows.scriptReadsRow.laid w) (fun _ _ hh h=>h.of_heap hh) own started (by kernel_rfl) Tryz.func6
  (ChangeSpec.witness_shaped (enc:=enc) (C:=Tryz.checked) (os:=os) (X:=fun w _=>laidMetH Tryz.prog Rows.scriptReadsRow.laid w) false (door os) #[.slice none 0 0] 8 (Z6 os) (Z7 os _) (by kernel_rfl) (by kernel_rfl) (by kernel_rfl) (PV os _)) ?_
 intro W base args ds gs before hval hW hsh hL;exact contract H enc W base args ds gs before hval hW hsh hL
end Go.Proofs.YtjolccidheflpaaGreatDoor.ScriptReads
namespace Go.Proofs.YtjolccidheflpaaGreatDoor.ScriptReads
set_option maxHeartbeats 8000000
open Go.ChangeShapes Go.WideShapes Go.ChangeAt Go.RowKit
theorem said:Rows.ScriptReadsSaid :=
 OpenClaim.holds_of_wide 6 Tryz.f6 rfl rfl rfl rfl rfl rfl rfl ⟨rfl,rfl,rfl,rfl,rfl⟩ rfl rfl rfl rfl rfl (by kernel_rfl) Tryz.func6 ScriptReads.closed
  (of_decide_eq_true (by kernel_rfl)) (by unfold Func.isWrapper;first | (rw[if_pos (by decide +kernel)];kernel_rfl) | (rw[if_neg (by decide +kernel)];exact⟨rfl,rfl⟩))
  (fun os started H enc _=>lifted os started H enc)
end Go.Proofs.YtjolccidheflpaaGreatDoor.ScriptReads
namespace Go.Proofs.YtjolccidheflpaaGreatDoor.ScriptReads
set_option maxHeartbeats 8000000
open Go.ChangeShapes Go.WideShapes Go.ChangeAt Go.RowKit
theorem plain(f:FuncId)(fn:Func)(hf:Tryz.pinned.checked.prog.funcNamed "gavelhouse/gavelhouselaw4.ScriptReads" = some f)(hfn:Tryz.pinned.checked.prog.funcs[f]?=some fn):
  true=Tryz.pinned.checked.prog.looks []/\∀(j:Nat) t,fn.params[j]?=some t->Tryz.pinned.checked.prog.wantsStandIn t=false:=by
 obtain rfl:f=6:=Option.some.inj ((show Tryz.prog.funcNamed "gavelhouse/gavelhouselaw4.ScriptReads" = some 6 by kernel_rfl).symm.trans hf) |>.symm
 obtain rfl:fn=Tryz.f6:=(Option.some.inj (Tryz.func6.symm.trans hfn)).symm;refine⟨by kernel_rfl,fun j t ht=>?_⟩;rw[Tryz.params6]at ht;have hm:t∈[70]:=by simpa using Array.mem_of_getElem? ht
 have hall:([70].all fun u=>!Tryz.prog.wantsStandIn u)=true:=by kernel_rfl
 exact(show Tryz.prog.wantsStandIn t=false by simpa using List.all_eq_true.1 hall t hm)
end ScriptReads
theorem scriptReads_card:Rows.ScriptReadsCardSaid :=
 Claim7.holds_tied_plain_at .later [] _ _ _ _ ScriptReads.said (fun _ h=>by cases h) (by kernel_rfl) (fun _ h=>by cases h) scriptReads_row_tie rfl ⟨rfl,rfl⟩ (by kernel_rfl) rfl ScriptReads.plain (by kernel_rfl)
#print axioms scriptReads_card
end Go.Proofs.YtjolccidheflpaaGreatDoor
