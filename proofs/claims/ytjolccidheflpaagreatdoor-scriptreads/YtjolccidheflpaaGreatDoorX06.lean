/- Own text. -/
import Derived.Test.YtjolccidheflpaaGreatDoorX00
import Derived.RangeFuncKeeps
/-! No program: a range over an iterator that keeps its state in boxes of its own (strings.atO). -/
namespace Go.wB
open Go.RowKit
variable {F:Fence} {n m:Nat} {P:Program}
/-- atP a round's body is left: the loop goes on,or it is left by a jump. -/
def Left(A:World->Prop)(B:Code->World->Prop):Exit->Act->World->Prop
 | .normal,_,W=>A W
 | .ret,_,W=>B .ret W
 | .exit i,_,W=>B (.exit i) W
 | .goto t,_,W=>B (.goto t) W
 | .panic _,_,_=>False
 | .outgrown,_,_=>False
/-- A record that is ready,busy,done. -/
def uv(r:Loop):Obj:=.loop { r with state:=.ready,pending:=none }
def wC(r:Loop):Obj:=.loop { r with state:=.busy,pending:=none }
def wD(r:Loop)(c:Code):Obj:=.loop { r with state:=.done,pending:=some c }
/-- A call of yield,out of the body's walk. -/
theorem akX{l:Nat}{r:Loop}{args:Array Value}{W:World}{A:World->Prop}{B:Code->World->Prop}(hl:W.heap[l]?=some (uv r))(hF:F.fn r.fn)(hs:args.size=r.params.size)(h:r.assign.wpIn (F.inRound l) m P (Exit.then (fun a₁ w₁=>w₁.heap[l]?=some (uv r) /\
    r.body.wpIn (F.inRound l) m P (Left (fun V=>V.heap[l]?=some (wC r)/\A (V.putObj l (uv r))) (fun c V=>V.heap[l]?=some (wC r)/\B c (V.putObj l (wD r c)))) a₁ (w₁.putObj l (wC r))) (fun _ _ _=>False))
   { tmps:=(r.params.zip args).foldl (fun t (p,v)=>t.setIfInBounds p v) r.tmps,defers:=[] } W):
  YieldAt F m P l args W fun e V=>(e=.returned (.bool true)/\A V)\/(e=.returned (.bool false)/\∃c,B c V):=by
 refine⟨r.fn,_,r.assign,r.body,run_yield (r:={ r with state:=.ready,pending:=none }) hl hs,roundIn_of_wpIn hF (wpIn_mono h ?_)⟩;rintro (_ | _ | _ | _ | _ | _) a₁ w₁ hq
 case normal =>
  obtain⟨hw,hb⟩:=hq;refine⟨_,run_beginRound hw rfl,wpIn_mono hb ?_⟩;rintro (_ | _ | _ | _ | _ | _) a₂ V hv
  case normal=>exact⟨_,_,run_endRound none hv.1,.inl ⟨rfl,hv.2⟩⟩
  case ret=>exact⟨_,_,run_endRound (some .ret) hv.1,.inr ⟨rfl,.ret,hv.2⟩⟩
  case exit i=>exact⟨_,_,run_endRound (some (.exit i)) hv.1,.inr ⟨rfl,.exit i,hv.2⟩⟩
  case goto t=>exact⟨_,_,run_endRound (some (.goto t)) hv.1,.inr ⟨rfl,.goto t,hv.2⟩⟩
  all_goals exact hv.elim
 all_goals exact hq.elim
/-- The statement,out of the akY call. -/
theorem akZ{g:Operand}{ps:Array Tmp}{assign body:Code}{Q:Exit->Act->World->Prop}{a:Act}{w:World}(hro:F.round=none)(h1:1<=n){gf:Nat}{lb:Array Value}(hg:a.eval g=.func (.func gf) #[] lb)(hFg:F.fn gf)(eg:∀args w,(callFunc gf args).run P w=.ok (.enter gf args) w)(h:∀r:Loop,F.fn r.fn->r.tmps=a.tmps->r.params=ps->r.assign=assign->r.body=body ->
   CallsIn F (n-1) P gf (#[.func (.yield (w.heap.size+1)) #[] #[]]++lb) ((w.alloc (.deferred (some []))).alloc (uv r)) fun e V=>(∃v,e=.returned v) /\
    ((V.heap[w.heap.size+1]?=some (uv r)/\∀o,Q .normal { a with defers:={ target:=.collected w.heap.size,args:=#[] }::a.defers } (V.putObj (w.heap.size+1) o)) \/
     ∃c,V.heap[w.heap.size+1]?=some (wD r c)/\∀o,c.wpIn F n P Q { a with defers:={ target:=.collected w.heap.size,args:=#[] }::a.defers } (V.putObj (w.heap.size+1) o))):
  (Code.rangeFunc g ps assign body).wpIn F n P Q a w:=by
 refine wpIn_rangeFunc fun fn hfn=>?_;rw[hro];have hc:=h { state:=.ready,pending:=none,fn:=fn,tmps:=a.tmps,params:=ps,assign:=assign,body:=body,defers:=w.heap.size } hfn rfl rfl rfl rfl;refine⟨_,_,_,{ target:=.fn (.func gf) lb,args:=#[.func (.yield (w.heap.size+1)) #[] #[]] },(w.alloc (.deferred (some []))).alloc (uv { state:=.ready,pending:=none,fn:=fn,tmps:=a.tmps,params:=ps,assign:=assign,body:=body,defers:=w.heap.size }),gf,_,_,run_enterLoop_outer fn a.tmps ps assign body,?_,?_,?_,fun _=>h1,hc.mono ?_⟩
 .simp only[resolve,hg]
  simp[go_sem];rfl
 .intro f' hf';simp[Target.leads]at hf';subst hf';exact hFg
 .simp[invoke,go_sem,eg]
 .rintro e V ⟨⟨v,rfl⟩,(⟨hl,hq⟩ | ⟨c,hl,hq⟩)⟩
  .exact⟨none,_,run_endLoop hl (by simp),hq _⟩
  .exact⟨some c,_,run_endLoop hl (by simp),hq _⟩
/-- What an iterator whose state is in the box b may turn. -/
def YE(b:Nat){β:Type}(J:β->World->Prop):Prop:=∀s W V row,J s W->W.grownBy V row->(∀r,row=some r->r=b)->J s V
/-- What is kept of the blocks K. -/
def At(K:List Nat)(A B:World):Prop:=∀k∈K,B.heap[k]?=A.heap[k]?
theorem At.refl(K:List Nat)(A:World):At K A A:=fun _ _=>rfl
theorem At.trans{K:List Nat}{A B C:World}(h:At K A B)(k:At K B C):At K A C:=fun i hi=>(k i hi).trans (h i hi)
theorem At.put{K:List Nat}{A:World}{l:Nat}(o:Obj)(h:∀k∈K,k≠l):At K A (A.putObj l o):=fun i hi=>World.putObj_heap_other (h i hi)
/-- An akY contract: it yields xs,or what begins xs where a round has stopped it;H holds at its call,and the body keeps the blocks K. -/
def Seq{α:Type}(F:Fence)(n:Nat)(P:Program)(g:Nat)(lb:Array Value)(encs:α->Array Value)(b:Nat)(K:List Nat)(xs:List α)(H:World->Prop):Prop :=
 ∀(l:Nat) (J H9:List α->World->Prop) (W:World),H W->YE b J->YE b H9 ->
  (∀pre x Uqq,J pre Uqq->pre++[x] <+: xs->YieldAt F (n-1) P l (encs x) Uqq fun e V=>(e=.returned (.bool true)/\J (pre++[x]) V/\At K Uqq V)\/(e=.returned (.bool false)/\H9 (pre++[x]) V)) ->
  J [] W->CallsIn F n P g (#[.func (.yield l) #[] #[]]++lb) W fun e V=>(∃v,e=.returned v)/\(J xs V\/∃pre,pre <+: xs/\H9 pre V)
/-- What the loop's own state atQ: what grows,a turn of the box,a turn of what is no cells and lies at B or behind. -/
def Own(b B:Nat){β:Type}(I:β->World->Prop):Prop:=∀s W V row,I s W->W.grownBy V row->(∀r,row=some r->r=b\/(B<=r/\∃o:Obj,W.heap[r]?=some o/\o.isCells=false))->I s V
theorem Own.put{b B:Nat}{β:Type}{I:β->World->Prop}(h:Own b B I){s:β}{W:World}{l:Nat}{o:Obj}(o':Obj)(hB:B<=l)(hs:I s W)(hl:W.heap[l]?=some o)(ho:o.isCells=false):I s (W.putObj l o') :=
 h s W _ (some l) hs (grownBy_putObj' W l o') (fun r e=>by cases e;exact .inr ⟨hB,o,hl,ho⟩)
theorem Own.alloc{b B:Nat}{β:Type}{I:β->World->Prop}(h:Own b B I){s:β}{W:World}(o:Obj)(hs:I s W):I s (W.alloc o) :=
 h s W _ none hs (World.grownBy_alloc W o none) (fun r e=>by cases e)
theorem YF{α:Type}{g:Operand}{ps:Array Tmp}{assign body:Code}{Q:Exit->Act->World->Prop}{a:Act}{w:World}(hro:F.round=none)(h1:1<=n){gf:Nat}{lb:Array Value}(hg:a.eval g=.func (.func gf) #[] lb)(hFg:F.fn gf)(eg:∀args w,(callFunc gf args).run P w=.ok (.enter gf args) w){encs:α->Array Value}{b:Nat}{K:List Nat}{xs:List α}{H:World->Prop}(hseq:Seq F (n-1) P gf lb encs b K xs H)(hH:∀o o',H ((w.alloc o).alloc o'))(hb:b<w.heap.size)(hK:∀k∈K,k<w.heap.size)(hps:∀x,(encs x).size=ps.size)(I:List α->World->Prop)(Ix:Code->List α->World->Prop)(hI:Own b w.heap.size I)(OP:∀c,Own b w.heap.size (Ix c))(h0:I [] w)(a₁:α->Act)(ak0:∀(l:Nat) (x:α) (W:World) (R:Act->World->Prop),R (a₁ x) W ->
   assign.wpIn (F.inRound l) (n-1-1) P (Exit.then R (fun _ _ _=>False)) { tmps:=(ps.zip (encs x)).foldl (fun t (p,v)=>t.setIfInBounds p v) a.tmps,defers:=[] } W)(hbody:∀(l:Nat) (pre:List α) (x:α) (W:World),I pre W->pre++[x] <+: xs->body.wpIn (F.inRound l) (n-1-1) P (Left (fun V=>KeepsOthers W V/\At K W V/\I (pre++[x]) V) (fun c V=>KeepsOthers W V/\Ix c (pre++[x]) V)) (a₁ x) W)(hdone:∀(W:World),I xs W->W.heap[w.heap.size]?=some (.deferred (some []))->Q .normal { a with defers:={ target:=.collected w.heap.size,args:=#[] }::a.defers } W)(hstop:∀(c:Code) (pre:List α) (W:World),pre <+: xs->Ix c pre W->W.heap[w.heap.size]?=some (.deferred (some []))->c.wpIn F n P Q { a with defers:={ target:=.collected w.heap.size,args:=#[] }::a.defers } W):
  (Code.rangeFunc g ps assign body).wpIn F n P Q a w:=by
 refine akZ hro h1 hg hFg eg fun r hF ak1 hpa has H_=>?_;have kept:∀{A B:World} {row:Option Nat} {k:Nat} {o:Obj},A.grownBy B row->(∀r,row=some r->r=b)->w.heap.size<=k->A.heap[k]?=some o->B.heap[k]?=some o:=fun hg' hr hk ho =>
  (hg'.block _ (Array.getElem?_eq_some_iff.1 ho).1 (fun e=>by have:=hr _ e.symm;omega)).trans ho
 refine(hseq (w.heap.size+1)
  (fun pre W=>I pre W/\W.heap[w.heap.size+1]?=some (uv r)/\W.heap[w.heap.size]?=some (.deferred (some [])))
  (fun pre W=>∃c,Ix c pre W/\W.heap[w.heap.size+1]?=some (wD r c)/\W.heap[w.heap.size]?=some (.deferred (some []))) _ (hH _ _) ?_ ?_ ?_ ?_).mono ?_
 .rintro s A B row ⟨h1',h2',h3'⟩ hg' hr
  exact⟨hI s A B row h1' hg' (fun r e=>.inl (hr r e)),kept hg' hr (by omega) h2',kept hg' hr (by omega) h3'⟩
 .rintro s A B row ⟨c,h1',h2',h3'⟩ hg' hr
  exact⟨c,OP c s A B row h1' hg' (fun r e=>.inl (hr r e)),kept hg' hr (by omega) h2',kept hg' hr (by omega) h3'⟩
 .rintro pre x Uqq ⟨hi,hl,hd⟩ OQ
  have hlt:=(Array.getElem?_eq_some_iff.1 hl).1;have hy:=akX (F:=F) (m:=n-1-1) (P:=P) (args:=encs x) (A:=fun V=>(I (pre++[x]) V/\V.heap[w.heap.size+1]?=some (uv r)/\V.heap[w.heap.size]?=some (.deferred (some [])))/\At K Uqq V)
   (B:=fun c V=>Ix c (pre++[x]) V/\V.heap[w.heap.size+1]?=some (wD r c)/\V.heap[w.heap.size]?=some (.deferred (some []))) hl hF (by rw[hpa];exact hps x) ?_
  .obtain⟨fn,tm,bn,bo,hrun,ak2,hR⟩:=hy
   refine⟨fn,tm,bn,bo,hrun,ak2,fun c cs hroom=>?_⟩;obtain⟨e,V,hv,hs⟩:=hR c cs hroom;refine⟨e,V,?_,hs⟩;rcases hv with ⟨e1,h2,h3⟩ | ⟨e1,h2⟩
   .exact .inl ⟨e1,h2,h3⟩
   .exact .inr ⟨e1,h2⟩
  .rw[has,H_,hpa,ak1]
   refine ak0 _ x Uqq _ ⟨hl,?_⟩;have hl2:(Uqq.putObj (w.heap.size+1) (wC r)).heap[w.heap.size+1]?=some (wC r):=World.putObj_heap_same hlt;have qC:(Uqq.putObj (w.heap.size+1) (wC r)).heap[w.heap.size]?=some (.deferred (some [])):=(World.putObj_heap_other (by omega)).trans hd;refine wpIn_mono (hbody _ pre x _ (hI.put _ (by omega) hi hl rfl) OQ) ?_;have stop:∀(c:Code) (V:World),KeepsOthers (Uqq.putObj (w.heap.size+1) (wC r)) V->Ix c (pre++[x]) V->V.heap[w.heap.size+1]?=some (wC r)/\(Ix c (pre++[x]) (V.putObj (w.heap.size+1) (wD r c)) /\
     (V.putObj (w.heap.size+1) (wD r c)).heap[w.heap.size+1]?=some (wD r c)/\(V.putObj (w.heap.size+1) (wD r c)).heap[w.heap.size]?=some (.deferred (some []))):=fun c V hk hx=>by
    have h3:=hk.same _ _ hl2 rfl;exact⟨h3,(OP c).put _ (by omega) hx h3 rfl,World.putObj_heap_same (Array.getElem?_eq_some_iff.1 h3).1,(World.putObj_heap_other (by omega)).trans (hk.same _ _ qC rfl)⟩
   rintro (_ | _ | _ | _ | _ | _) a₃ V hv
   case normal =>
    obtain⟨hk,hat,hx⟩:=hv;have h3:=hk.same _ _ hl2 rfl;exact⟨h3,⟨hI.put _ (by omega) hx h3 rfl,World.putObj_heap_same (Array.getElem?_eq_some_iff.1 h3).1,(World.putObj_heap_other (by omega)).trans (hk.same _ _ qC rfl)⟩,
     ((At.put _ (fun k hk=>by have:=hK k hk;omega)).trans hat).trans (At.put _ (fun k hk=>by have:=hK k hk;omega))⟩
   case ret=>exact stop _ _ hv.1 hv.2
   case exit i=>exact stop _ _ hv.1 hv.2
   case goto t=>exact stop _ _ hv.1 hv.2
   all_goals exact hv.elim
 .refine⟨hI.alloc _ (hI.alloc _ h0),?_,?_⟩
  .have:=World.alloc_heap_new (w.alloc (.deferred (some []))) (uv r);rwa [World.size_alloc]at this
  .exact(Below.heap_alloc _ _ _ (by simp)).trans (World.alloc_heap_new w _)
 .rintro e V ⟨hv,(⟨hi,hl,hd⟩ | ⟨pre,ak3,c,hi,hl,hd⟩)⟩
  .exact⟨hv,.inl ⟨hl,fun o=>hdone _ (hI.put o (by omega) hi hl rfl) ((World.putObj_heap_other (by omega)).trans hd)⟩⟩
  .exact⟨hv,.inr ⟨c,hl,fun o=>hstop c pre _ ak3 ((OP c).put o (by omega) hi hl rfl) ((World.putObj_heap_other (by omega)).trans hd)⟩⟩
end Go.wB
