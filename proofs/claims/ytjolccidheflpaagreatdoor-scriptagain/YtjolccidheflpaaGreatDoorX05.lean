/- What the thirteen listed package variables give the walks: the twelve errors of package api, and the handle of package errors. -/
import Derived.Test.YtjolccidheflpaaGreatDoorX01
import Derived.Test.YtjolccidheflpaaGreatDoorX04
namespace Go.Proofs.YtjolccidheflpaaGreatDoor
open Go.Proofs.Tryz
set_option maxHeartbeats 8000000
set_option maxRecDepth 100000
open Go.ChangeShapes Go.WideShapes Go.ChangeAt Go.RowKit
theorem iE{n:String}{text:List UInt8}{r:List (String×DataW Unit)}{W:World}{g:Nat}(h:laidMet prog ((n,.iface "*errors.errorString" (.ptr (.agg [.lit (.string text)])))::r) W)(hg:prog.globalNamed n=some g)(ht:(prog.globals[g]?).map (·.type)=some 26):
  ∃(a:Addr) (s:ByteArray),W.cell? (O g 0)=some (.iface 412 (.pointer (some a)))/\W.cell? a=some (.string s)/\s.data.toList=text/\∃c t,W.heap[a.block]?=some (.cells c t (0,0)):=by
 obtain⟨ps,⟨g0,t0,cs0,f0,p0,q0,hg0,ht0,hv0,r8,_,e0⟩,_,hrows⟩:=h;obtain rfl:=Option.some.inj (hg.symm.trans hg0);obtain rfl:=Option.some.inj (ht.symm.trans ht0);subst e0;obtain⟨l0⟩:=cs0;have aiE:∀u v,l0=[.iface u v]->Value.okWide prog W .any 0 u v:=fun u v e=>by
  subst e;exact(hrows g 0 (by simp[MemPlace.row])).2 u v (by simpa using World.var?_cell hg0 hv0 0)
 obtain⟨a0,s0,rfl,hc0,hs0,_,rfl⟩:=errorString_of_trod underlying26 aeY underlying412 underlying414 rfl rfl underlying9 aeZ SS r8 aiE;obtain⟨c0,t0,hb0⟩:=(hrows a0.block a0.off (by simp[MemPlace.row])).1;exact⟨a0,s0,by simpa using World.var?_cell hg0 hv0 0,hc0,hs0,c0,t0,hb0⟩
theorem aiF:prog.globalNamed "errors.errorType" = some 12:=by kernel_rfl
theorem aiG:(prog.cutTypes.find? (·.1 == "internal/reflectlite.rtype")).map (·.2)=some 310:=by kernel_rfl
theorem aiH:((List.range 480).filter fun t=>prog.rowNamed t [101,114,114,111,114])=[26]:=by kernel_rfl
theorem aiI:prog.types.size=480:=by kernel_rfl
theorem aiJ{W:World}(h:handlesMet prog [("errors.errorType",Rows.laid_errors_errorType)] W):W.cell? (O 12 0)=some (.iface 310 (.agg #[.pointer (some (O 26 26))])):=by
 obtain⟨name,u,ty,e1,e2,e3,e4,e5⟩:=h _ (List.mem_singleton.2 rfl);have en:name=[101,114,114,111,114]:=(Option.some.inj e1).symm;subst en;obtain rfl:=Option.some.inj (aiG.symm.trans e2);have hm:ty∈(List.range 480).filter fun t=>prog.rowNamed t [101,114,114,111,114]:=List.mem_filter.2 ⟨List.mem_range.2 (by rw[<- aiI];exact e3),e4⟩;rw[aiH]at hm;obtain rfl:=List.mem_singleton.1 hm;have hh:typeHandle prog 26=.pointer (some (O 26 26)):=by kernel_rfl
 rw[hh]at e5;simpa using World.var?_cell aiF e5 0
def qP:List (String×DataW Unit):=[("gavelhouse/api.ErrText",Rows.laid_gavelhouse_api_ErrText),("gavelhouse/api.ErrBound",Rows.laid_gavelhouse_api_ErrBound),("gavelhouse/api.ErrShape",Rows.laid_gavelhouse_api_ErrShape),("gavelhouse/api.ErrKind",Rows.laid_gavelhouse_api_ErrKind),("gavelhouse/api.ErrSum",Rows.laid_gavelhouse_api_ErrSum),("gavelhouse/api.ErrNone",Rows.laid_gavelhouse_api_ErrNone),("gavelhouse/api.ErrExist",Rows.laid_gavelhouse_api_ErrExist),("gavelhouse/api.ErrFull",Rows.laid_gavelhouse_api_ErrFull),("gavelhouse/api.ErrOff",Rows.laid_gavelhouse_api_ErrOff),("gavelhouse/api.ErrPoor",Rows.laid_gavelhouse_api_ErrPoor),("gavelhouse/api.ErrState",Rows.laid_gavelhouse_api_ErrState),("gavelhouse/api.ErrOrder",Rows.laid_gavelhouse_api_ErrOrder)]
def pX:Nat->List UInt8
 | 0=>[103,97,118,101,108,104,111,117,115,101,58,32,116,101,120,116]
 | 1=>[103,97,118,101,108,104,111,117,115,101,58,32,98,111,117,110,100]
 | 2=>[103,97,118,101,108,104,111,117,115,101,58,32,115,104,97,112,101]
 | 3=>[103,97,118,101,108,104,111,117,115,101,58,32,107,105,110,100]
 | 4=>[103,97,118,101,108,104,111,117,115,101,58,32,115,117,109]
 | 5=>[103,97,118,101,108,104,111,117,115,101,58,32,110,111,110,101]
 | 6=>[103,97,118,101,108,104,111,117,115,101,58,32,101,120,105,115,116]
 | 7=>[103,97,118,101,108,104,111,117,115,101,58,32,102,117,108,108]
 | 8=>[103,97,118,101,108,104,111,117,115,101,58,32,111,102,102]
 | 9=>[103,97,118,101,108,104,111,117,115,101,58,32,112,111,111,114]
 | 10=>[103,97,118,101,108,104,111,117,115,101,58,32,115,116,97,116,101]
 | 11=>[103,97,118,101,108,104,111,117,115,101,58,32,111,114,100,101,114]
 | _=>[]
theorem aiK:∀g,g<12->∀h,h<12->pX g=pX h->g=h:=by decide
def mb(W:World)(g:Nat):Addr :=
 match W.cell? ⟨BQ g,0,none⟩ with
 | some (.iface _ (.pointer (some a)))=>a
 | _=>(O 0 0)
theorem aiL{W:World}(h:laidMet prog qP W)(hh:handlesMet prog [("errors.errorType",Rows.laid_errors_errorType)] W):bJ W (mb W):=by
 have key:∀g,g<12->∃(a:Addr) (s:ByteArray),W.cell? ⟨BQ g,0,none⟩=some (.iface 412 (.pointer (some a)))/\W.cell? a=some (.string s)/\s.data.toList=pX g/\∃c t,W.heap[a.block]?=some (.cells c t (0,0)):=by
  intro g hg
  match g,hg with
  | 0,_=>exact iE h (g:=0) (by kernel_rfl) (by kernel_rfl)
  | 1,_=>exact iE h.tail (g:=1) (by kernel_rfl) (by kernel_rfl)
  | 2,_=>exact iE h.tail.tail (g:=3) (by kernel_rfl) (by kernel_rfl)
  | 3,_=>exact iE h.tail.tail.tail (g:=4) (by kernel_rfl) (by kernel_rfl)
  | 4,_=>exact iE h.tail.tail.tail.tail (g:=5) (by kernel_rfl) (by kernel_rfl)
  | 5,_=>exact iE h.tail.tail.tail.tail.tail (g:=6) (by kernel_rfl) (by kernel_rfl)
  | 6,_=>exact iE h.tail.tail.tail.tail.tail.tail (g:=7) (by kernel_rfl) (by kernel_rfl)
  | 7,_=>exact iE h.tail.tail.tail.tail.tail.tail.tail (g:=8) (by kernel_rfl) (by kernel_rfl)
  | 8,_=>exact iE h.tail.tail.tail.tail.tail.tail.tail.tail (g:=2) (by kernel_rfl) (by kernel_rfl)
  | 9,_=>exact iE h.tail.tail.tail.tail.tail.tail.tail.tail.tail (g:=9) (by kernel_rfl) (by kernel_rfl)
  | 10,_=>exact iE h.tail.tail.tail.tail.tail.tail.tail.tail.tail.tail (g:=10) (by kernel_rfl) (by kernel_rfl)
  | 11,_=>exact iE h.tail.tail.tail.tail.tail.tail.tail.tail.tail.tail.tail (g:=11) (by kernel_rfl) (by kernel_rfl)
 have at_:∀g,g<12->W.cell? ⟨BQ g,0,none⟩=some (.iface 412 (.pointer (some (mb W g)))):=by
  intro g hg;obtain⟨a,s,h1,_⟩:=key g hg;have:mb W g=a:=by unfold mb;rw[h1]
  rw[this];exact h1
 refine⟨at_,aiJ hh,fun g hg=>?_,fun g k hg hk hne e=>?_⟩
 .obtain⟨a,s,h1,_,_,h4⟩:=key g hg
  have:mb W g=a:=by unfold mb;rw[h1]
  rw[this];exact h4
 .obtain⟨a,s,h1,h2,h3,_⟩:=key g hg
  obtain⟨b,s',k1,k2,k3,_⟩:=key k hk;have ea:mb W g=a:=by unfold mb;rw[h1]
  have eb:mb W k=b:=by unfold mb;rw[k1]
  have aiM:a=b:=by rw[<- ea,<- eb];exact e
  subst aiM;have es:s=s':=by
   have:=h2.symm.trans k2
   simpa using this
  subst es;exact hne (aiK g hg k hk (h3.symm.trans k3))
end Go.Proofs.YtjolccidheflpaaGreatDoor
