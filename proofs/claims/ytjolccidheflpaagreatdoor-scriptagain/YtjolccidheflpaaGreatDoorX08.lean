/- A law for a walk, of every program: a region that draws its order, whose first n operations only read (they may draw), and whose last ones wait for all of these and come one behind the other: one walk, in the order of the text, serves every order. -/
import Derived.Test.YtjolccidheflpaaGreatDoorX00
import Derived.BigQuiet
import Derived.StillTail
namespace Go.Proofs.YtjolccidheflpaaGreatDoor
set_option maxHeartbeats 8000000
set_option maxRecDepth 100000
open Go
section
variable {P:Program} {ops:Array Oper} {md:Region.Mode} {C:World->Prop}
def Ez(P:Program)(md:Region.Mode)(ops:Array Oper)(C:World->Prop)(n:Nat)(L:Array Bool->Act->Prop):Nat->Array Bool->Act->Prop
 | 0,listed,a=>L listed a
 | f+1,listed,a=>Region.ready md ops listed≠[]/\∀i∈Region.ready md ops listed,i<n/\qOp P ops C i (Ez P md ops C n L f (listed.setIfInBounds i true)) a
theorem an8{n g:Nat}{L:Array Bool->Act->Prop}{Q':Exit->Act->World->Prop}(hL:∀listed a w,C w->L listed a->wpAny P md ops Q' g listed a w):
  ∀(f:Nat) (listed:Array Bool) (a:Act) (w:World),C w->Ez P md ops C n L f listed a->wpAny P md ops Q' (f+g) listed a w:=by
 intro f
 induction f with
 | zero=>intro listed a w hw h;rw[Nat.zero_add];exact hL _ _ _ hw h
 | succ f ih =>
  intro listed a w hw h;rw[show f+1+g=(f+g)+1 by omega];exact⟨fun h0=>absurd h0 h.1,fun i hi=>wpOp_of_qOp hw (fun a' w' hw' h'=>ih _ a' w' hw' h') (h.2 i hi).2⟩
theorem an9{n i:Nat}{oi:Oper}{v:Value}{L:Array Bool->Act->Prop}(hi:ops[i]?=some oi)(hsel:∀(j:Nat) (o:Oper) cs b,ops[j]?=some o->o.op≠.select cs b)(hs:Region.sinkB md ops n=true)(hc:Region.chainB md ops n=true)(hn:n<ops.size)(hin:i<n)(hdone:∀listed a,L listed a->∀j∈Region.ready md ops listed,n<=j):
  ∀(f:Nat) (listed:Array Bool) (a:Act),HeadInv md ops n listed ->
   (∀j oj,ops[j]?=some oj->j≠i->listed.getD j true=false->(∀e∈oj.after,Region.binds md e=true->e.on≠i)->oi.apart ops oj=true) ->
   i∈Region.ready md ops listed->YieldsIn P ops C oi v a ->
   Ez P md ops C n L f (listed.setIfInBounds i true) (a.put oi.dst v)->Ez P md ops C n L (f+1) listed a:=by
 intro f
 induction f with
 | zero =>
  intro listed a inv _ hr hy H;have oc:=(mem_ready.1 hr).1;refine⟨fun h=>(by rw[h]at hr;cases hr),fun j hj=>?_⟩;have hjn:j<n:=Nat.lt_of_not_le fun h=>tail_waits hs hc hn inv _ i rfl hin oc j h hj;refine⟨hjn,?_⟩;by_cases bC:j=i
  .subst bC;exact hy.qOp hi H
  .exact absurd (hdone _ _ H j (ready_mono hj bC)) (by omega)
 | succ f ih =>
  intro listed a inv nI hr hy H;have oc:=(mem_ready.1 hr).1;refine⟨fun h=>(by rw[h]at hr;cases hr),fun j hj=>?_⟩;have hjn:j<n:=Nat.lt_of_not_le fun h=>tail_waits hs hc hn inv _ i rfl hin oc j h hj;refine⟨hjn,?_⟩;by_cases bC:j=i
  .subst bC;exact hy.qOp hi H
  .obtain⟨nJ,oj,hoj,hall⟩:=mem_ready.1 hj
   have tL:∀e∈oj.after,Region.binds md e=true->e.on≠i:=fun e he hb heq=>by
    have h1:=hall e he hb;rw[heq,getD_both oc]at h1;cases h1
   have h2:=qOp_put hoj (nI j oj hoj bC nJ tL) (fun cs b=>hsel i oi cs b hi) (fun cs b=>hsel j oj cs b hoj) hy (H.2 j (ready_mono hj bC)).2;refine qOp_mono (fun a' h3=>ih (listed.setIfInBounds j true) a' (inv.set hj hjn) (fun k ok hk aT hu hno=>nI k ok hk aT ?_ hno) (ready_mono hr (Ne.symm bC)) h3.1 ?_) h2
   .by_cases hjk:j=k
    .subst hjk;exact nJ
    .rw[getD_set_ne true hjk]at hu;exact hu
   .rw[Array.setIfInBounds_comm _ _ bC];exact h3.2
theorem aoa{n g:Nat}{Lq:Act->Prop}(hsel:Region.noSelect ops=true)(hs:Region.sinkB md ops n=true)(hc:Region.chainB md ops n=true)(hn:n<ops.size):
  ∀(l:List Oper) (k:Nat) (listed:Array Bool) (a:Act),(∀j,j<l.length->l[j]?=ops[k+j]?)->k+l.length=n->HeadInv md ops n listed ->
  Region.lexHead md ops g l.length k listed=true->wpQuiet P ops C Lq l a ->
  Ez P md ops C n (fun listed' a'=>Region.seqB md ops g n listed'=true/\Lq a') l.length listed a:=by
 intro l
 induction l with
 | nil =>
  intro k listed a _ hk _ hB h;obtain rfl:k=n:=by simpa using hk
  exact⟨by simpa [Region.lexHead] using hB,h⟩
 | cons o l ih =>
  intro k listed a hl hk inv hB h;have h0:ops[k]?=some o:=by simpa using(hl 0 (by simp)).symm
  simp only[List.length_cons,Region.lexHead,Bool.and_eq_true]at hB;obtain⟨⟨hr,hf⟩,hB'⟩:=hB;have hkn:k<n:=by simp only[List.length_cons]at hk;omega
  have dZ:k∈Region.ready md ops listed:=by simpa using hr
  obtain⟨v,hy,hK⟩:=yieldsIn_of_qOp (C:=C) (K:=wpQuiet P ops C Lq l) h0 (by unfold qOp;simp only[h0];exact h);refine an9 h0 (Region.noSelect_spec hsel) hs hc hn hkn (fun listed' a' hL=>seqB_ready hL.1) l.length listed a inv (Region.free_spec h0 hf) dZ hy (ih (k+1) _ _ (fun j hj=>?_) ?_ (inv.set dZ hkn) hB' hK)
  .have:=hl (j+1) (by simp;omega)
   simpa [Nat.add_assoc,Nat.add_comm 1 j] using this
  .simp only[List.length_cons]at hk;omega
theorem jO{id:Nat}{Q:Exit->Act->World->Prop}{a:Act}{w:World}{l:List Oper}(n:Nat)(hm:P.follows .mixedOrders=true)(hB:Region.lexTailB .any l.toArray n=true)(h:wpQuiet P l.toArray (fun w'=>∃m,w'=w.drewN m) (fun a'=>∀w',(∃m,w'=w.drewN m)->wpList P l.toArray Q (l.drop n) a' w') (l.take n) a):(Code.region id l.toArray true).wp P Q a w:=by
 simp only[Region.lexTailB,Bool.and_eq_true,decide_eq_true_eq]at hB;obtain⟨⟨⟨⟨hsel,hn⟩,hs⟩,hc⟩,aob⟩:=hB;have hn':n<l.length:=by simpa using hn
 have htl:(l.take n).length=n:=by simp;omega
 have hdl:(l.drop n).length=l.toArray.size-n:=by simp
 have PK:HeadInv .any l.toArray n (Array.replicate l.toArray.size false) :=
  ⟨by simp,fun j oj _ hj=>(by rw[getD_replicate_false]at hj;cases hj),fun t _ ht=>getD_in (by simpa using ht) (getD_replicate_false _ _)⟩
 have H:=aoa (md:=.any) (g:=l.toArray.size-n) hsel hs hc hn (l.take n) 0 _ a (fun j hj=>by rw[htl]at hj;simp[hj]) (by simpa using htl) PK (by rw[htl];exact aob) h;refine wp_region_any hm ?_;have T:=an8 (Q':=Q) (g:=l.toArray.size-n) (fun listed a' w' hw' hL=>by
  have:=wpAny_of_seq (md:=.any) (Q':=Q) (l.drop n) n listed a' w' (fun j=>by simp[List.getElem?_drop]) (by rw[hdl];exact hL.1) (hL.2 w' hw')
  rwa [hdl]at this) _ _ _ { w with drawn:=w.drawn+1 } ⟨1,rfl⟩ H
 rw[htl,show n+(l.toArray.size-n)=l.toArray.size by omega]at T;exact T
end
section
variable {P:Program} {ops:Array Oper} {md:Region.Mode} {X:Type} {val:X->World}
def aB(P:Program)(K:Value->World->Prop):Result Next->Prop
 | .ok (.value u) w'=>K u w'
 | .ok .skip w'=>K undef w'
 | .ok (.enter f args) w'=>Calls P f args w' (fun e w''=>∃v,e=.returned v/\K v w'')
 | _=>False
def aQ(w:World)(v:Value):Result Next->Prop
 | .ok (.value u) w'=>w'=w/\u=v
 | .ok .skip w'=>w'=w/\v=undef
 | _=>False
theorem nk{K K':Value->World->Prop}(h:∀v w,K v w->K' v w){r:Result Next}(hh:aB P K r):aB P K' r:=by
 cases r with
 | ok n w' =>
  cases n <;> simp only[aB]at hh ⊢
  case value u=>exact h _ _ hh
  case skip=>exact h _ _ hh
  case enter f args=>exact hh.mono fun e w'' ⟨v,h1,h2⟩=>⟨v,h1,h _ _ h2⟩
 | halt x w'=>simp only[aB]at hh
theorem Wx{K:Value->World->Prop}{w:World}{v:Value}{r:Result Next}(h:aQ w v r)(hk:K v w):aB P K r:=by
 cases r with
 | ok n w' =>
  cases n <;> simp only[aQ]at h <;> simp only[aB]
  case value u=>obtain⟨rfl,rfl⟩:=h;exact hk
  case skip=>obtain⟨rfl,rfl⟩:=h;exact hk
 | halt x w'=>simp only[aQ]at h
def nj(P:Program)(ops:Array Oper)(i:Nat)(K:Act->World->Prop)(a:Act)(w:World):Prop :=
 ∃o,ops[i]?=some o/\Region.wanted o (yielded ops a.tmps)=true/\aB P (fun v w'=>K (a.put o.dst v) w') ((execOp a.eval o).run P w)
theorem Wu{i:Nat}{a:Act}{w:World}{K K':Act->World->Prop}(h:∀a w,K a w->K' a w)(hh:nj P ops i K a w):nj P ops i K' a w:=by obtain⟨o,h1,h2,h3⟩:=hh;exact⟨o,h1,h2,nk (fun v w' hk=>h _ _ hk) h3⟩
def r9(P:Program)(ops:Array Oper)(val:X->World)(o:Oper)(v:Value)(a:Act):Prop :=
 Region.wanted o (yielded ops a.tmps)=true/\∀x,aQ (val x) v ((execOp a.eval o).run P (val x))
theorem r9.of_same{o:Oper}{v:Value}{a a':Act}(hy:r9 P ops val o v a)(he:execOp a'.eval o=execOp a.eval o)(hw:Region.wanted o (yielded ops a'.tmps)=Region.wanted o (yielded ops a.tmps)):r9 P ops val o v a':=by unfold r9 at *;rw[he,hw];exact hy
theorem r9.nj{i:Nat}{o:Oper}{v:Value}{a:Act}{x:X}{K:Act->World->Prop}(hi:ops[i]?=some o)(hy:r9 P ops val o v a)(h:K (a.put o.dst v) (val x)):nj P ops i K a (val x) :=
 ⟨o,hi,hy.1,Wx (hy.2 x) h⟩
theorem Wt{j:Nat}{oi oj:Oper}{v:Value}(hj:ops[j]?=some oj)(hap:oi.apart ops oj=true)(hsi:∀cs b,oi.op≠.select cs b)(hsj:∀cs b,oj.op≠.select cs b){K:Act->World->Prop}{a:Act}{w:World}(hy:r9 P ops val oi v a)(h:nj P ops j K (a.put oi.dst v) w):
  nj P ops j (fun a' w'=>r9 P ops val oi v a'/\K (a'.put oi.dst v) w') a w:=by
 obtain⟨h1,h2,h3⟩:=Oper.apart_spec hap;obtain⟨o,ho,hw,hu⟩:=h;obtain rfl:=Option.some.inj (hj.symm.trans ho);rw[wanted_put oj a oi.dst v h1]at hw;rw[execOp_put oj hsj a oi.dst v h1]at hu;refine⟨oj,hj,hw,nk (fun u w' hk=>⟨hy.of_same (execOp_put oi hsi a oj.dst u h3) (wanted_put oi a oj.dst u h3),?_⟩) hu⟩;rw[<- Act.put_comm a v u h2];exact hk
theorem E9{i:Nat}{a:Act}{w:World}{K K':Act->World->Prop}{Q':Exit->Act->World->Prop}(h:∀a w,K a w->K' a w)(hh:nj P ops i K a w):wpOp P ops Q' i K' a w:=by
 obtain⟨o,ho,hw,h3⟩:=hh;unfold wpOp;simp only[ho,hw,if_true];refine .inl ?_;unfold Oper.wp;generalize (execOp a.eval o).run P w=r at *;cases r with
 | ok n w' =>
  cases n <;> simp only[aB]at h3 <;> simp only[Oper.upon]
  case value u=>exact h _ _ h3
  case skip=>exact h _ _ h3
  case enter f args=>exact h3.mono fun e w'' ⟨v,he,hk⟩=>by subst he;exact h _ _ hk
 | halt x w'=>simp only[aB]at h3
def zJ(P:Program)(md:Region.Mode)(ops:Array Oper)(val:X->World)(Q:Act->World->Prop):Nat->Array Bool->Act->World->Prop
 | 0,listed,a,w=>Region.ready md ops listed=[]/\Q a w
 | f+1,listed,a,w=>Region.ready md ops listed≠[]/\∀i∈Region.ready md ops listed,nj P ops i (fun a' w'=>(∃x,val x=w')/\zJ P md ops val Q f (listed.setIfInBounds i true) a' w') a w
theorem TD{Q':Exit->Act->World->Prop}:
  ∀(f:Nat) (listed:Array Bool) (a:Act) (w:World),zJ P md ops val (Q' .normal) f listed a w->wpAny P md ops Q' f listed a w:=by
 intro f
 induction f with
 | zero=>intro listed a w h;exact h
 | succ f ih =>
  intro listed a w h;exact⟨fun h0=>absurd h0 h.1,fun i hi=>E9 (fun a' w' h'=>ih _ a' w' h'.2) (h.2 i hi)⟩
theorem TC{i:Nat}{oi:Oper}{v:Value}{Q:Act->World->Prop}(hi:ops[i]?=some oi)(hsel:∀(j:Nat) (o:Oper) cs b,ops[j]?=some o->o.op≠.select cs b):
  ∀(f:Nat) (listed:Array Bool) (a:Act) (x:X),
   (∀j oj,ops[j]?=some oj->j≠i->listed.getD j true=false->(∀e∈oj.after,Region.binds md e=true->e.on≠i)->oi.apart ops oj=true) ->
   i∈Region.ready md ops listed->r9 P ops val oi v a ->
   zJ P md ops val Q f (listed.setIfInBounds i true) (a.put oi.dst v) (val x)->zJ P md ops val Q (f+1) listed a (val x):=by
 intro f
 induction f with
 | zero =>
  intro listed a x _ hr hy H;refine⟨fun h=>(by rw[h]at hr;cases hr),fun j hj=>?_⟩;by_cases bC:j=i
  .subst bC;exact hy.nj hi ⟨⟨x,rfl⟩,H⟩
  .have:=ready_mono hj bC
   rw[H.1]at this;cases this
 | succ f ih =>
  intro listed a x nI hr hy H;have oc:=(mem_ready.1 hr).1;refine⟨fun h=>(by rw[h]at hr;cases hr),fun j hj=>?_⟩;by_cases bC:j=i
  .subst bC;exact hy.nj hi ⟨⟨x,rfl⟩,H⟩
  .obtain⟨nJ,oj,hoj,hall⟩:=mem_ready.1 hj
   have tL:∀e∈oj.after,Region.binds md e=true->e.on≠i:=fun e he hb heq=>by
    have h1:=hall e he hb;rw[heq,getD_both oc]at h1;cases h1
   have h2:=Wt hoj (nI j oj hoj bC nJ tL) (fun cs b=>hsel i oi cs b hi) (fun cs b=>hsel j oj cs b hoj) hy (H.2 j (ready_mono hj bC));refine Wu (fun a' w' h3=>?_) h2;obtain⟨hy',⟨x',hx'⟩,h4⟩:=h3;subst hx';refine⟨⟨x',rfl⟩,ih (listed.setIfInBounds j true) a' x' (fun k ok hk aT hu hno=>nI k ok hk aT ?_ hno) (ready_mono hr (Ne.symm bC)) hy' ?_⟩
   .by_cases hjk:j=k
    .subst hjk;exact nJ
    .rw[getD_set_ne true hjk]at hu;exact hu
   .rw[Array.setIfInBounds_comm _ _ bC];exact h4
def tQ(md:Region.Mode)(ops:Array Oper)(sp:List Nat):List Nat->Array Bool->Bool
 | [],listed=>(Region.ready md ops listed).isEmpty
 | i::r,listed=>(Region.ready md ops listed).contains i&&(if sp.contains i then (Region.ready md ops listed).all (· == i) else Region.free md ops listed i)&&tQ md ops sp r (listed.setIfInBounds i true)
def tT(P:Program)(ops:Array Oper)(val:X->World)(sp:List Nat)(Q:Act->World->Prop):List Nat->Act->World->Prop
 | [],a,w=>Q a w
 | i::r,a,w=>∃o,ops[i]?=some o/\Region.wanted o (yielded ops a.tmps)=true /\
   if sp.contains i=true then aB P (fun v w'=>(∃x,val x=w')/\tT P ops val sp Q r (a.put o.dst v) w') ((execOp a.eval o).run P w)
   else ∃v,(∀x,aQ (val x) v ((execOp a.eval o).run P (val x)))/\tT P ops val sp Q r (a.put o.dst v) w
theorem jX{sp:List Nat}{Q:Act->World->Prop}{a:Act}{w:World}(h:Q a w):tT P ops val sp Q [] a w:=h
theorem d7{sp:List Nat}{Q:Act->World->Prop}{i:Nat}{r:List Nat}{a:Act}{w:World}{o:Oper}(ho:ops[i]?=some o)(hs:sp.contains i=false)(h:∀K:Act->Prop,(∀a,tT P ops val sp Q r a w->K a)->Region.wanted o (yielded ops a.tmps)=true/\∃v,(∀x,aQ (val x) v ((execOp a.eval o).run P (val x)))/\K (a.put o.dst v)):tT P ops val sp Q (i::r) a w:=by obtain⟨h1,v,h2,h3⟩:=h _ (fun _ h=>h);refine⟨o,ho,h1,?_⟩;rw[if_neg (by rw[hs];simp)];exact⟨v,h2,h3⟩
theorem cY{sp:List Nat}{Q:Act->World->Prop}{i:Nat}{r:List Nat}{a:Act}{w:World}{o:Oper}(ho:ops[i]?=some o)(hs:sp.contains i=true)(h:∀K:Act->World->Prop,(∀a w,tT P ops val sp Q r a w->K a w)->Region.wanted o (yielded ops a.tmps)=true/\aB P (fun v w'=>(∃x,val x=w')/\K (a.put o.dst v) w') ((execOp a.eval o).run P w)):tT P ops val sp Q (i::r) a w:=by obtain⟨h1,h2⟩:=h _ (fun _ _ h=>h);refine⟨o,ho,h1,?_⟩;rw[if_pos hs];exact h2
theorem aiS{sp:List Nat}{Q:Act->World->Prop}(hsel:Region.noSelect ops=true):
  ∀(ord:List Nat) (listed:Array Bool) (a:Act) (x:X),tQ md ops sp ord listed=true->tT P ops val sp Q ord a (val x)->zJ P md ops val Q ord.length listed a (val x):=by
 intro ord
 induction ord with
 | nil =>
  intro listed a x hB h;exact⟨by simpa [tQ] using hB,h⟩
 | cons i r ih =>
  intro listed a x hB h;simp only[tQ,Bool.and_eq_true]at hB;obtain⟨⟨hr,hf⟩,hB'⟩:=hB;have dZ:i∈Region.ready md ops listed:=by simpa using hr
  obtain⟨o,ho,hw,h⟩:=h;by_cases hs:sp.contains i=true
  .rw[if_pos hs]at hf h
   refine⟨fun h0=>(by rw[h0]at dZ;cases dZ),fun j hj=>?_⟩;have:j=i:=by
    have:=List.all_eq_true.1 hf j hj
    simpa using this
   subst this;exact⟨o,ho,hw,nk (fun v w' ⟨⟨x',hx'⟩,h'⟩=>by subst hx';exact⟨⟨x',rfl⟩,ih _ _ x' hB' h'⟩) h⟩
  .rw[if_neg hs]at hf h
   obtain⟨v,hv,hK⟩:=h;exact TC ho (Region.noSelect_spec hsel) r.length listed a x (Region.free_spec ho hf) dZ ⟨hw,hv⟩ (ih _ _ x hB' hK)
theorem kt{id:Nat}{Q:Exit->Act->World->Prop}{a:Act}{w:World}{l:List Oper}(sp ord:List Nat)(hm:P.follows .mixedOrders=true)(hB:(Region.noSelect l.toArray&&(ord.length==l.length)&&tQ .any l.toArray sp ord (Array.replicate l.toArray.size false))=true)(x0:X)(hx0:val x0 = { w with drawn:=w.drawn+1 })(h:tT P l.toArray val sp (Q .normal) ord a (val x0)):(Code.region id l.toArray true).wp P Q a w:=by simp only[Bool.and_eq_true,beq_iff_eq]at hB;obtain⟨⟨hsel,hlen⟩,hB⟩:=hB;refine wp_region_any hm ?_;have T:=TD (Q':=Q) _ _ _ _ (aiS (md:=.any) hsel ord _ a x0 hB h);rw[hlen,hx0]at T;simpa using T
end
section
variable {P:Program} {ops:Array Oper} {md:Region.Mode}
theorem count_set{l:Array Bool}{i:Nat}(h:l.getD i true=false):(l.setIfInBounds i true).toList.count false+1=l.toList.count false:=by
 have hlt:i<l.size:=by
  rcases Nat.lt_or_ge i l.size with h' | h'
  .exact h'
  .rw[Array.getD_eq_getD_getElem?,Array.getElem?_eq_none h']at h;cases h
 have hv:l.toList[i]'(by simpa using hlt)=false:=by rw[Array.getD_eq_getD_getElem?,Array.getElem?_eq_getElem hlt]at h;simpa using h
 rw[Array.toList_setIfInBounds,List.count_set (by simpa using hlt),hv];have:0<l.toList.count false:=List.count_pos_iff.2 (by rw[<- hv];exact List.getElem_mem _);rw[if_pos (by rfl),if_neg (by decide)];omega
theorem AAA{Inv:Array Bool->Act->World->Prop}{Q':Exit->Act->World->Prop}(hstep:∀listed a w i,Inv listed a w->i∈Region.ready md ops listed->nj P ops i (fun a' w'=>Inv (listed.setIfInBounds i true) a' w') a w)(hend:∀listed a w,Inv listed a w->Region.ready md ops listed=[]->Q' .normal a w):
  ∀(f:Nat) (listed:Array Bool) (a:Act) (w:World),listed.toList.count false<=f->Inv listed a w->wpAny P md ops Q' f listed a w
 | 0,listed,a,w,hc,hI=>by
  have h0:Region.ready md ops listed=[]:=by
   rcases hr:Region.ready md ops listed with _ | ⟨i,r⟩
   .rfl
   .have hi:i∈Region.ready md ops listed:=by rw[hr];simp
    have:=count_set (mem_ready.1 hi).1
    omega
  exact⟨h0,hend _ _ _ hI h0⟩
 | f+1,listed,a,w,hc,hI=>by
  refine⟨fun h0=>hend _ _ _ hI h0,fun i hi=>E9 (fun a' w' h'=>AAA hstep hend f _ a' w' ?_ h') (hstep _ _ _ i hI hi)⟩
  have:=count_set (mem_ready.1 hi).1
  omega
def JC(ops:List Oper):Bool:=(List.range ops.length).all fun i=>match ops[i]? with | some o=>o.after.all (fun e=>!Region.binds .any e || decide (e.on<i)) | none=>true
theorem ac2{l:List Oper}(hd:JC l=true){listed:Array Bool}(hs:listed.size=l.length)(h:Region.ready .any l.toArray listed=[]):∀i,i<l.length->listed.getD i false=true:=by
 intro i
 induction i using Nat.strongRecOn with
 | _ i ih =>
  intro hi;cases hv:listed.getD i false with
  | true=>rfl
  | false =>
   have hlt:i<listed.size:=by omega
   have hv':listed.getD i true=false:=by rw[Array.getD_eq_getD_getElem?,Array.getElem?_eq_getElem hlt]at hv ⊢;simpa using hv
   have ho:l[i]?=some l[i]:=List.getElem?_eq_getElem hi;have hm:i∈Region.ready .any l.toArray listed:=mem_ready.2 ⟨hv',l[i],by simp,fun e he hb=>by
    have h1:=List.all_eq_true.1 hd i (by simpa using hi);rw[ho]at h1;have h2:=Array.all_eq_true_iff_forall_mem.1 h1 e he;have h3:e.on<i:=by simpa [hb] using h2
    exact ih e.on h3 (by omega)⟩
   rw[h]at hm;cases hm
theorem ac3{id:Nat}{Q:Exit->Act->World->Prop}{a:Act}{w:World}{l:List Oper}(R:Nat->Act->World->Prop)(B:Act->World->Prop)(hm:P.follows .mixedOrders=true)(hd:JC l=true)(h0:B a { w with drawn:=w.drawn+1 })(hstep:∀i o a w,l[i]?=some o->B a w->(∀j,(o.after.any fun e=>Region.binds .any e&&(e.on==j))=true->R j a w) ->
   Region.wanted o (yielded l.toArray a.tmps)=true/\aB P (fun v w'=>B (a.put o.dst v) w'/\R i (a.put o.dst v) w'/\∀j oj,l[j]?=some oj->j≠i->(oj.after.any fun e=>Region.binds .any e&&(e.on==i))=false->R j a w->R j (a.put o.dst v) w') ((execOp a.eval o).run P w))(hend:∀a w,B a w->(∀i,i<l.length->R i a w)->Q .normal a w):(Code.region id l.toArray true).wp P Q a w:=by
 refine wp_region_any hm (AAA (Inv:=fun listed a w=>listed.size=l.length/\B a w/\(∀j,listed.getD j false=true->R j a w)/\∀j oj,l[j]?=some oj->listed.getD j false=true->∀e∈oj.after,Region.binds .any e=true->listed.getD e.on false=true) (fun listed a w i hI hi=>?_) (fun listed a w hI hr=>hend a w hI.2.1 (fun i hi=>hI.2.2.1 i (ac2 hd hI.1 hr i hi))) _ _ _ _ (by simp) ⟨by simp,h0,fun i hi=>?_,fun i _ _ hi=>?_⟩)
 .obtain⟨oc,o,ho,hall⟩:=mem_ready.1 hi
  have hl0:listed.getD i false=false:=getD_both oc;obtain⟨h1,h2⟩:=hstep i o a w (by simpa using ho) hI.2.1 (fun j hj=>by
   obtain⟨e,he,h3⟩:=Array.any_eq_true'.1 hj;simp only[Bool.and_eq_true,beq_iff_eq]at h3;rw[<- h3.2];exact hI.2.2.1 _ (hall e he h3.1))
  refine⟨o,ho,h1,nk (fun v w' h3=>⟨by rw[Array.size_setIfInBounds];exact hI.1,h3.1,fun j hj=>?_,fun j oj hoj hj e he hb=>?_⟩) h2⟩
  .by_cases hij:i=j
   .subst hij;exact h3.2.1
   .rw[getD_set_ne false hij]at hj
    have hlt:j<l.length:=by
     rcases Nat.lt_or_ge j l.length with h' | h'
     .exact h'
     .rw[Array.getD_eq_getD_getElem?,Array.getElem?_eq_none (by omega)]at hj;cases hj
    refine h3.2.2 j l[j] (List.getElem?_eq_getElem hlt) (Ne.symm hij) ?_ (hI.2.2.1 j hj);cases hc:(l[j].after.any fun e=>Region.binds .any e&&(e.on==i)) with
    | false=>rfl
    | true =>
     obtain⟨e,he,h4⟩:=Array.any_eq_true'.1 hc;simp only[Bool.and_eq_true,beq_iff_eq]at h4
     have:=hI.2.2.2 j l[j] (List.getElem?_eq_getElem hlt) hj e he h4.1
     rw[h4.2,hl0]at this;cases this
  .by_cases hij:i=j
   .subst hij
    obtain rfl:=Option.some.inj ((show l[i]?=some o by simpa using ho).symm.trans hoj);exact getD_set_true (hall e he hb)
   .rw[getD_set_ne false hij]at hj
    exact getD_set_true (hI.2.2.2 j oj hoj hj e he hb)
 .exfalso
  rw[Array.getD_eq_getD_getElem?,Array.getElem?_replicate]at hi;split at hi <;> simp at hi
 .exfalso
  rw[Array.getD_eq_getD_getElem?,Array.getElem?_replicate]at hi;split at hi <;> simp at hi
end
inductive nC where
 | done
 | read (i:Nat) (p:nC)
 | one (i:Nat) (p:nC)
 | two (i:Nat) (p:nC) (j:Nat) (q:nC)
def nC.len:nC->Nat
 | .done=>0
 | .read _ p=>p.len+1
 | .one _ p=>p.len+1
 | .two _ p _ _=>p.len+1
section
variable {P:Program} {ops:Array Oper} {md:Region.Mode} {X:Type} {val:X->World}
def pD(md:Region.Mode)(ops:Array Oper):nC->Array Bool->Bool
 | .done,listed=>(Region.ready md ops listed).isEmpty
 | .read i p,listed=>(Region.ready md ops listed).contains i&&Region.free md ops listed i&&pD md ops p (listed.setIfInBounds i true)
 | .one i p,listed=>(Region.ready md ops listed).contains i&&(Region.ready md ops listed).all (· == i)&&pD md ops p (listed.setIfInBounds i true)
 | .two i p j q,listed=>(Region.ready md ops listed).contains i&&(Region.ready md ops listed).all (fun k=>k==i || k==j)&&(p.len==q.len)&&pD md ops p (listed.setIfInBounds i true)&&pD md ops q (listed.setIfInBounds j true)
def spec(P:Program)(ops:Array Oper)(val:X->World)(i:Nat)(K:Act->World->Prop)(a:Act)(w:World):Prop :=
 ∃o,ops[i]?=some o/\Region.wanted o (yielded ops a.tmps)=true/\aB P (fun v w'=>(∃x,val x=w')/\K (a.put o.dst v) w') ((execOp a.eval o).run P w)
def lT(P:Program)(ops:Array Oper)(val:X->World)(Q:Act->World->Prop):nC->Act->World->Prop
 | .done,a,w=>Q a w
 | .read i p,a,w=>∃o,ops[i]?=some o/\Region.wanted o (yielded ops a.tmps)=true/\∃v,(∀x,aQ (val x) v ((execOp a.eval o).run P (val x)))/\lT P ops val Q p (a.put o.dst v) w
 | .one i p,a,w=>spec P ops val i (lT P ops val Q p) a w
 | .two i p j q,a,w=>spec P ops val i (lT P ops val Q p) a w/\spec P ops val j (lT P ops val Q q) a w
theorem jR{Q:Act->World->Prop}{a:Act}{w:World}(h:Q a w):lT P ops val Q .done a w:=h
theorem cF{Q:Act->World->Prop}{i:Nat}{p:nC}{a:Act}{w:World}{o:Oper}(ho:ops[i]?=some o)(h:∀K:Act->Prop,(∀a,lT P ops val Q p a w->K a)->Region.wanted o (yielded ops a.tmps)=true/\∃v,(∀x,aQ (val x) v ((execOp a.eval o).run P (val x)))/\K (a.put o.dst v)):lT P ops val Q (.read i p) a w:=by obtain⟨h1,v,h2,h3⟩:=h _ (fun _ h=>h);exact⟨o,ho,h1,v,h2,h3⟩
theorem cq{i:Nat}{K0:Act->World->Prop}{a:Act}{w:World}{o:Oper}(ho:ops[i]?=some o)(h:∀K:Act->World->Prop,(∀a w,K0 a w->K a w)->Region.wanted o (yielded ops a.tmps)=true/\aB P (fun v w'=>(∃x,val x=w')/\K (a.put o.dst v) w') ((execOp a.eval o).run P w)):spec P ops val i K0 a w:=by obtain⟨h1,h2⟩:=h _ (fun _ _ h=>h);exact⟨o,ho,h1,h2⟩
theorem afB{Q:Act->World->Prop}(hsel:Region.noSelect ops=true):
  ∀(p:nC) (listed:Array Bool) (a:Act) (x:X),pD md ops p listed=true->lT P ops val Q p a (val x)->zJ P md ops val Q p.len listed a (val x):=by
 intro p
 induction p with
 | done =>
  intro listed a x hB h;exact⟨by simpa [pD] using hB,h⟩
 | read i p ih =>
  intro listed a x hB h;simp only[pD,Bool.and_eq_true]at hB;obtain⟨⟨hr,hf⟩,hB'⟩:=hB;have dZ:i∈Region.ready md ops listed:=by simpa using hr
  obtain⟨o,ho,hw,v,hv,hK⟩:=h;exact TC ho (Region.noSelect_spec hsel) p.len listed a x (Region.free_spec ho hf) dZ ⟨hw,hv⟩ (ih _ _ x hB' hK)
 | one i p ih =>
  intro listed a x hB h;simp only[pD,Bool.and_eq_true]at hB;obtain⟨⟨hr,hf⟩,hB'⟩:=hB;have dZ:i∈Region.ready md ops listed:=by simpa using hr
  obtain⟨o,ho,hw,h⟩:=h;refine⟨fun h0=>(by rw[h0]at dZ;cases dZ),fun j hj=>?_⟩;have:j=i:=by
   have:=List.all_eq_true.1 hf j hj
   simpa using this
  subst this;exact⟨o,ho,hw,nk (fun v w' ⟨⟨x',hx'⟩,h'⟩=>by subst hx';exact⟨⟨x',rfl⟩,ih _ _ x' hB' h'⟩) h⟩
 | two i p j q Kt Ku =>
  intro listed a x hB h;simp only[pD,Bool.and_eq_true]at hB;obtain⟨⟨⟨⟨hr,hf⟩,hlen⟩,afC⟩,afD⟩:=hB;have hl:p.len=q.len:=by simpa using hlen
  have dZ:i∈Region.ready md ops listed:=by simpa using hr
  obtain⟨⟨o,ho,hw,h1⟩,⟨o2,B6,hw2,h2⟩⟩:=h;refine⟨fun h0=>(by rw[h0]at dZ;cases dZ),fun k hk=>?_⟩;have:k=i\/k=j:=by
   have:=List.all_eq_true.1 hf k hk
   simpa using this
  rcases this with rfl | rfl
  .exact⟨o,ho,hw,nk (fun v w' ⟨⟨x',hx'⟩,h'⟩=>by subst hx';exact⟨⟨x',rfl⟩,Kt _ _ x' afC h'⟩) h1⟩
  .exact⟨o2,B6,hw2,nk (fun v w' ⟨⟨x',hx'⟩,h'⟩=>by
    subst hx'
    have:=Ku _ _ x' afD h'
    rw[<- hl]at this;exact⟨⟨x',rfl⟩,this⟩) h2⟩
theorem B_{id:Nat}{Q:Exit->Act->World->Prop}{a:Act}{w:World}{l:List Oper}(p:nC)(hm:P.follows .mixedOrders=true)(hB:(Region.noSelect l.toArray&&(p.len==l.length)&&pD .any l.toArray p (Array.replicate l.toArray.size false))=true)(x0:X)(hx0:val x0 = { w with drawn:=w.drawn+1 })(h:lT P l.toArray val (Q .normal) p a (val x0)):(Code.region id l.toArray true).wp P Q a w:=by simp only[Bool.and_eq_true,beq_iff_eq]at hB;obtain⟨⟨hsel,hlen⟩,hB⟩:=hB;refine wp_region_any hm ?_;have T:=TD (Q':=Q) _ _ _ _ (afB (md:=.any) hsel p _ a x0 hB h);rw[hlen,hx0]at T;simpa using T
end
section
variable {P:Program} {ops:Array Oper} {X:Type} {val:X->World}
theorem Nz{i:Nat}{K K':Act->World->Prop}{a:Act}{w:World}(h:∀a w,K a w->K' a w)(hh:spec P ops val i K a w):spec P ops val i K' a w:=by obtain⟨o,h1,h2,h3⟩:=hh;exact⟨o,h1,h2,nk (fun v w' ⟨hx,hk⟩=>⟨hx,h _ _ hk⟩) h3⟩
theorem aiC{Q Q':Act->World->Prop}(h:∀a w,Q a w->Q' a w):∀(p:nC) (a:Act) (w:World),lT P ops val Q p a w->lT P ops val Q' p a w:=by
 intro p
 induction p with
 | done=>intro a w hh;exact h a w hh
 | read i p ih =>
  intro a w hh;obtain⟨o,h1,h2,v,h3,h4⟩:=hh;exact⟨o,h1,h2,v,h3,ih _ _ h4⟩
 | one i p ih=>intro a w hh;exact Nz (fun a w=>ih a w) hh
 | two i p j q Kt Ku=>intro a w hh;exact⟨Nz (fun a w=>Kt a w) hh.1,Nz (fun a w=>Ku a w) hh.2⟩
theorem aiD{id:Nat}{Q:Exit->Act->World->Prop}{a:Act}{w:World}{l:List Oper}(Post:Act->World->Prop)(p:nC)(hm:P.follows .mixedOrders=true)(hB:(Region.noSelect l.toArray&&(p.len==l.length)&&pD .any l.toArray p (Array.replicate l.toArray.size false))=true)(x0:X)(hx0:val x0 = { w with drawn:=w.drawn+1 })(h:lT P l.toArray val Post p a (val x0))(hp:∀a w,Post a w->Q .normal a w):(Code.region id l.toArray true).wp P Q a w :=
 B_ p hm hB x0 hx0 (aiC hp p a _ h)
theorem vB{id:Nat}{Q:Exit->Act->World->Prop}{a:Act}{w:World}{l:List Oper}(G:Nat->World->Prop)(p:nC)(hm:P.follows .mixedOrders=true)(hB:(Region.noSelect l.toArray&&(p.len==l.length)&&pD .any l.toArray p (Array.replicate l.toArray.size false))=true)(x0:X)(hx0:val x0 = { w with drawn:=w.drawn+1 })(h:∃fr:Nat->Act,lT P l.toArray val (fun a' w'=>∃D,a'=fr D/\G D w') p a (val x0)/\∀D w',G D w'->Q .normal (fr D) w'):(Code.region id l.toArray true).wp P Q a w:=by obtain⟨fr,h1,h2⟩:=h;exact aiD _ p hm hB x0 hx0 h1 (fun a' w' ⟨D,e,hg⟩=>by subst e;exact h2 D w' hg)
end
section
variable {P:Program} {ops:Array Oper} {md:Region.Mode} {val:Bool->Nat->World} {z m:Nat} {oz:Oper} {p:Value}
def JY(P:Program)(val:Bool->Nat->World)(o:Oper)(a:Act)(next:Act->Prop):Prop :=
 ∃v,(∀b n,o.quietAt P a (fun w=>∃k,w=val b k) (val b n) v)/\next (a.put o.dst v)
def xW(P:Program)(ops:Array Oper)(val:Bool->Nat->World)(Q:Act->Prop):List Oper->Act->Prop
 | [],a=>Q a
 | o::rest,a=>Region.wanted o (yielded ops a.tmps)=true/\JY P val o a (xW P ops val Q rest)
theorem ad7{Q:Act->Prop}{a:Act}(h:Q a):xW P ops val Q [] a:=h
theorem ad6{Q:Act->Prop}{a:Act}{o:Oper}{rest:List Oper}(h:∀K:Act->Prop,(∀a,xW P ops val Q rest a->K a)->Region.wanted o (yielded ops a.tmps)=true/\JY P val o a K):xW P ops val Q (o::rest) a:=h _ (fun _ h=>h)
def ahE(P:Program)(ops:Array Oper)(val:Bool->Nat->World)(o:Oper)(v:Value)(a:Act):Prop:=∀b,YieldsIn P ops (fun w=>∃k,w=val b k) o v a
def z7(P:Program)(md:Region.Mode)(ops:Array Oper)(val:Bool->Nat->World)(z:Nat)(Ng:Option Nat)(p:Value)(L:Array Bool->Act->Prop):Nat->Array Bool->Bool->Act->Prop
 | 0,listed,b,a=>b=true/\L listed a
 | f+1,listed,b,a=>Region.ready md ops listed≠[]/\∀i∈Region.ready md ops listed,
   (i=z/\b=false/\z7 P md ops val z Ng p L f (listed.setIfInBounds i true) true (a.put Ng p)) \/
   (i≠z/\qOp P ops (fun w=>∃k,w=val b k) i (z7 P md ops val z Ng p L f (listed.setIfInBounds i true) b) a)
theorem ahF{g:Nat}{L:Array Bool->Act->Prop}{Q':Exit->Act->World->Prop}(hz:ops[z]?=some oz)(Dc:oz.guard=none)(De:∀(a:Act) n,(execOp a.eval oz).run P (val false n)=.ok (.value p) (val true n))(hL:∀listed a n,L listed a->wpAny P md ops Q' g listed a (val true n)):
  ∀(f:Nat) (listed:Array Bool) (b:Bool) (a:Act) (n:Nat),z7 P md ops val z oz.dst p L f listed b a->wpAny P md ops Q' (f+g) listed a (val b n):=by
 intro f
 induction f with
 | zero=>intro listed b a n h;obtain⟨rfl,h⟩:=h;rw[Nat.zero_add];exact hL _ _ _ h
 | succ f ih =>
  intro listed b a n h;rw[show f+1+g=(f+g)+1 by omega];refine⟨fun h0=>absurd h0 h.1,fun i hi=>?_⟩;rcases h.2 i hi with ⟨rfl,rfl,h2⟩ | ⟨_,h2⟩
  .unfold wpOp
   simp only[hz];have hw:Region.wanted oz (yielded ops a.tmps)=true:=by simp[Region.wanted,Dc]
   simp only[hw,if_true,Oper.wp,De,Oper.upon];exact .inl (ih _ _ _ n h2)
  .exact wpOp_of_qOp (C:=fun w=>∃k,w=val b k) ⟨n,rfl⟩ (fun a' w' ⟨k,hk⟩ h'=>hk▸ih _ _ a' k h') h2
theorem ahG{i:Nat}{oi:Oper}{v:Value}{L:Array Bool->Act->Prop}(hi:ops[i]?=some oi)(hz:ops[z]?=some oz)(xX:i≠z)(hsel:∀(j:Nat) (o:Oper) cs b,ops[j]?=some o->o.op≠.select cs b)(hdone:∀listed a,L listed a->∀j∈Region.ready md ops listed,j=m)(ahH:Region.waitsFor md ops m i=true):
  ∀(f:Nat) (listed:Array Bool) (b:Bool) (a:Act),
   (∀j oj,ops[j]?=some oj->j≠i->listed.getD j true=false->(∀e∈oj.after,Region.binds md e=true->e.on≠i)->oi.apart ops oj=true) ->
   i∈Region.ready md ops listed->ahE P ops val oi v a ->
   z7 P md ops val z oz.dst p L f (listed.setIfInBounds i true) b (a.put oi.dst v)->z7 P md ops val z oz.dst p L (f+1) listed b a:=by
 have Gz:∀(listed:Array Bool),i∈Region.ready md ops listed->m ∉ Region.ready md ops listed:=by intro listed hr hm;obtain⟨oj,hoj,e,he,hb,vR⟩:=Region.waitsFor_spec ahH;obtain⟨_,atf,ahI,hall⟩:=mem_ready.1 hm;obtain rfl:=Option.some.inj (hoj.symm.trans ahI);have h1:=hall e he hb;rw[vR,getD_both (mem_ready.1 hr).1]at h1;cases h1
 intro f
 induction f with
 | zero =>
  intro listed b a _ hr hy H;refine⟨fun h=>(by rw[h]at hr;cases hr),fun j hj=>?_⟩;by_cases bC:j=i
  .subst bC;exact .inr ⟨xX,(hy b).qOp hi H⟩
  .have:=hdone _ _ H.2 j (ready_mono hj bC)
   subst this;exact absurd hj (Gz listed hr)
 | succ f ih =>
  intro listed b a nI hr hy H;refine⟨fun h=>(by rw[h]at hr;cases hr),fun j hj=>?_⟩;by_cases bC:j=i
  .subst bC;exact .inr ⟨xX,(hy b).qOp hi H⟩
  .obtain⟨nJ,oj,hoj,hall⟩:=mem_ready.1 hj
   have tL:∀e∈oj.after,Region.binds md e=true->e.on≠i:=fun e he hb heq=>by
    have h1:=hall e he hb;rw[heq,getD_both (mem_ready.1 hr).1]at h1;cases h1
   have hap:=nI j oj hoj bC nJ tL;have VG:∀k ok,ops[k]?=some ok->k≠i->(listed.setIfInBounds j true).getD k true=false->(∀e∈ok.after,Region.binds md e=true->e.on≠i)->oi.apart ops ok=true:=fun k ok hk aT hu hno=>by
    refine nI k ok hk aT ?_ hno;by_cases hjk:j=k
    .subst hjk;exact nJ
    .rw[getD_set_ne true hjk]at hu;exact hu
   rcases H.2 j (ready_mono hj bC) with ⟨rfl,rfl,h2⟩ | ⟨Nh,h2⟩
   .refine .inl ⟨rfl,rfl,ih _ _ _ VG (ready_mono hr (Ne.symm bC)) ?_ ?_⟩
    .obtain rfl:=Option.some.inj (hz.symm.trans hoj)
     obtain⟨h1,h2',h3⟩:=Oper.apart_spec hap;intro b';exact(hy b').of_same (execOp_put oi (fun cs b=>hsel i oi cs b hi) a oz.dst p h3) (wanted_put oi a oz.dst p h3)
    .obtain rfl:=Option.some.inj (hz.symm.trans hoj)
     obtain⟨_,h2',_⟩:=Oper.apart_spec hap;rw[Array.setIfInBounds_comm _ _ bC,<- Act.put_comm a v p h2'];exact h2
   .refine .inr ⟨Nh,?_⟩
    obtain⟨h1,h2',h3⟩:=Oper.apart_spec hap;have h4:=qOp_put hoj hap (fun cs b=>hsel i oi cs b hi) (fun cs b=>hsel j oj cs b hoj) (hy b) h2;obtain⟨u,ahJ,hK⟩:=yieldsIn_of_qOp hoj h4;refine ahJ.qOp hoj (ih _ _ _ VG (ready_mono hr (Ne.symm bC)) (fun b'=>(hy b').of_same (execOp_put oi (fun cs b=>hsel i oi cs b hi) a oj.dst u h3) (wanted_put oi a oj.dst u h3)) ?_);rw[Array.setIfInBounds_comm _ _ bC];exact hK.2
def z8(md:Region.Mode)(ops:Array Oper)(z m:Nat):Nat->Nat->Array Bool->Bool
 | 0,_,listed=>decide (Region.ready md ops listed=[z])&&Region.seqB md ops 1 m (listed.setIfInBounds z true)
 | f+1,k,listed=>(Region.ready md ops listed).contains k&&Region.free md ops listed k&&Region.waitsFor md ops m k&&z8 md ops z m f (k+1) (listed.setIfInBounds k true)
theorem ahK{Lq:Act->Prop}(hsel:Region.noSelect ops=true)(hz:ops[z]?=some oz):
  ∀(l:List Oper) (k:Nat) (listed:Array Bool) (a:Act),(∀j,j<l.length->l[j]?=ops[k+j]?)->k+l.length=z ->
  z8 md ops z m l.length k listed=true->xW P ops val (fun a'=>Lq (a'.put oz.dst p)) l a ->
  z7 P md ops val z oz.dst p (fun listed' a'=>Region.seqB md ops 1 m listed'=true/\Lq a') (l.length+1) listed false a:=by
 intro l
 induction l with
 | nil =>
  intro k listed a _ hk hB h;simp only[List.length_nil,z8,Bool.and_eq_true,decide_eq_true_eq]at hB;refine⟨by rw[hB.1];simp,fun i hi=>?_⟩;rw[hB.1]at hi;have xX:i=z:=by simpa using hi
  subst xX;exact .inl ⟨rfl,rfl,rfl,hB.2,h⟩
 | cons o l ih =>
  intro k listed a hl hk hB h;have h0:ops[k]?=some o:=by simpa using(hl 0 (by simp)).symm
  simp only[List.length_cons,z8,Bool.and_eq_true]at hB;obtain⟨⟨⟨hr,hf⟩,hw⟩,hB'⟩:=hB;have dZ:k∈Region.ready md ops listed:=by simpa using hr
  obtain⟨ahL,v,hv,hK⟩:=h;have ahM:k≠z:=by simp only[List.length_cons]at hk;omega
  refine ahG (m:=m) h0 hz ahM (Region.noSelect_spec hsel) (fun listed' a' hL j hj=>?_) hw (l.length+1) listed false a (Region.free_spec h0 hf) dZ (v:=v) (fun b=>.inl ⟨ahL,fun w ⟨n,hn⟩=>hn▸hv b n⟩) (ih (k+1) _ _ (fun j hj=>?_) ?_ hB' hK)
  .have hs:=hL.1
   simp only[Region.seqB,Bool.and_eq_true,decide_eq_true_eq]at hs;rw[hs.1]at hj;simpa using hj
  .have:=hl (j+1) (by simp;omega)
   simpa [Nat.add_assoc,Nat.add_comm 1 j] using this
  .simp only[List.length_cons]at hk;omega
theorem ahN{id:Nat}{Q:Exit->Act->World->Prop}{a:Act}{w:World}{l:List Oper}{o:Oper}(hm:P.follows .mixedOrders=true)(hsel:Region.noSelect (l++[oz,o]).toArray=true)(hB:z8 .any (l++[oz,o]).toArray l.length (l.length+1) l.length 0 (Array.replicate (l.length+2) false)=true)(Dc:oz.guard=none)(h0:val false 1 = { w with drawn:=w.drawn+1 })(De:∀(a:Act) n,(execOp a.eval oz).run P (val false n)=.ok (.value p) (val true n))(h:xW P (l++[oz,o]).toArray val (fun a'=>∀n,wpList P (l++[oz,o]).toArray Q [o] (a'.put oz.dst p) (val true n)) l a):(Code.region id (l++[oz,o]).toArray true).wp P Q a w:=by
 have hz:(l++[oz,o]).toArray[l.length]?=some oz:=by simp
 have H:=ahK (md:=.any) (z:=l.length) (m:=l.length+1) (p:=p) (val:=val) (P:=P) hsel hz (Lq:=fun a'=>∀n,wpList P (l++[oz,o]).toArray Q [o] a' (val true n)) l 0 (Array.replicate (l.length+2) false) a
  (fun j hj=>by simp[List.getElem?_append_left hj]) (by simp) hB h
 refine wp_region_any hm ?_;have T:=ahF (Q':=Q) (g:=1) hz Dc De (fun listed a' n hL=>wpAny_of_seq (md:=.any) (Q':=Q) [o] (l.length+1) listed a' (val true n) (fun j=>by
  cases j with
  | zero=>simp
  | succ j=>simp;omega) hL.1 (hL.2 n)) (l.length+1) _ false a 1 H
 rw[h0]at T;have hsz:(l++[oz,o]).toArray.size=l.length+1+1:=by simp
 rw[hsz];exact T
theorem ad4{id:Nat}{Q:Exit->Act->World->Prop}{a:Act}{w:World}{L:List Oper}{o:Oper}(n:Nat)(hL:L.take n++[oz,o]=L)(hm:P.follows .mixedOrders=true)(hsel:Region.noSelect L.toArray=true)(hB:z8 .any L.toArray (L.take n).length ((L.take n).length+1) (L.take n).length 0 (Array.replicate ((L.take n).length+2) false)=true)(Dc:oz.guard=none)(h0:val false 1 = { w with drawn:=w.drawn+1 })(De:∀(a:Act) n,(execOp a.eval oz).run P (val false n)=.ok (.value p) (val true n))(h:xW P L.toArray val (fun a'=>∀n,wpList P L.toArray Q [o] (a'.put oz.dst p) (val true n)) (L.take n) a):(Code.region id L.toArray true).wp P Q a w:=by
 have:=ahN (id:=id) (Q:=Q) (a:=a) (w:=w) (l:=L.take n) (oz:=oz) (o:=o) (p:=p) (val:=val) (P:=P) hm
 rw[hL]at this;exact this hsel hB Dc h0 De h
end
section
variable {P:Program} {ops:Array Oper} {md:Region.Mode} {X:Type} {val:X->World}
def yn(md:Region.Mode)(ops:Array Oper)(listed:Array Bool):Prop :=
 ∀j oj,ops[j]?=some oj->listed.getD j false=true->∀e∈oj.after,Region.binds md e=true->listed.getD e.on false=true
def tO(md:Region.Mode)(ops:Array Oper):Nat->Nat->Nat->Bool
 | 0,_,_=>false
 | f+1,j,i=>match ops[j]? with
  | some o=>o.after.any fun e=>Region.binds md e&&(e.on==i || tO md ops f e.on i)
  | none=>false
theorem Wq{listed:Array Bool}(hc:yn md ops listed){i:Nat}:∀(f j:Nat),tO md ops f j i=true->listed.getD j false=true->listed.getD i false=true
 | 0,j,h,_=>by simp[tO]at h
 | f+1,j,h,hj=>by
  unfold tO at h;cases ho:ops[j]? with
  | none=>rw[ho]at h;simp at h
  | some o =>
   rw[ho]at h;simp only[Array.any_eq_true']at h;obtain⟨e,he,h2⟩:=h;simp only[Bool.and_eq_true,Bool.or_eq_true,beq_iff_eq]at h2;have hl:=hc j o ho hj e he h2.1;rcases h2.2 with h3 | h3
   .rw[<- h3];exact hl
   .exact Wq hc f e.on h3 hl
theorem aiN{listed:Array Bool}(hc:yn md ops listed){i z:Nat}{f:Nat}(h:tO md ops f z i=true)(hz:z∈Region.ready md ops listed):listed.getD i false=true:=by
 obtain⟨_,o,ho,hall⟩:=mem_ready.1 hz;cases f with
 | zero=>simp[tO]at h
 | succ f =>
  unfold tO at h;rw[ho]at h;simp only[Array.any_eq_true']at h;obtain⟨e,he,h2⟩:=h;simp only[Bool.and_eq_true,Bool.or_eq_true,beq_iff_eq]at h2;have hl:=hall e he h2.1;rcases h2.2 with h3 | h3
  .rw[<- h3];exact hl
  .exact Wq hc f e.on h3 hl
theorem Ws{listed:Array Bool}(hc:yn md ops listed){i:Nat}(hi:i∈Region.ready md ops listed):yn md ops (listed.setIfInBounds i true):=by
 intro j oj hj hl e he hb;by_cases hij:i=j
 .subst hij
  obtain⟨_,o,ho,hall⟩:=mem_ready.1 hi;obtain rfl:=Option.some.inj (hj.symm.trans ho);exact getD_set_true (hall e he hb)
 .rw[getD_set_ne false hij]at hl
  exact getD_set_true (hc j oj hj hl e he hb)
def Dp(P:Program)(md:Region.Mode)(ops:Array Oper)(val:X->World)(z:Nat)(Q:Act->World->Prop):Nat->Array Bool->Act->World->Prop
 | 0,listed,a,w=>Region.ready md ops listed=[]/\Q a w
 | f+1,listed,a,w=>Region.ready md ops listed≠[]/\∀i∈Region.ready md ops listed,nj P ops i (fun a' w'=>(i≠z->∃x,val x=w')/\Dp P md ops val z Q f (listed.setIfInBounds i true) a' w') a w
theorem aiO{z:Nat}{Q':Exit->Act->World->Prop}:
  ∀(f:Nat) (listed:Array Bool) (a:Act) (w:World),Dp P md ops val z (Q' .normal) f listed a w->wpAny P md ops Q' f listed a w:=by
 intro f
 induction f with
 | zero=>intro listed a w h;exact h
 | succ f ih =>
  intro listed a w h;exact⟨fun h0=>absurd h0 h.1,fun i hi=>E9 (fun a' w' h'=>ih _ a' w' h'.2) (h.2 i hi)⟩
theorem aiP{i z:Nat}{oi:Oper}{v:Value}{Q:Act->World->Prop}(hi:ops[i]?=some oi)(xX:i≠z)(n:Nat)(hnd:tO md ops n z i=true)(hsel:∀(j:Nat) (o:Oper) cs b,ops[j]?=some o->o.op≠.select cs b):
  ∀(f:Nat) (listed:Array Bool) (a:Act) (x:X),yn md ops listed ->
   (∀j oj,ops[j]?=some oj->j≠i->listed.getD j true=false->(∀e∈oj.after,Region.binds md e=true->e.on≠i)->oi.apart ops oj=true) ->
   i∈Region.ready md ops listed->r9 P ops val oi v a ->
   Dp P md ops val z Q f (listed.setIfInBounds i true) (a.put oi.dst v) (val x)->Dp P md ops val z Q (f+1) listed a (val x):=by
 intro f
 induction f with
 | zero =>
  intro listed a x _ _ hr hy H;refine⟨fun h=>(by rw[h]at hr;cases hr),fun j hj=>?_⟩;by_cases bC:j=i
  .subst bC;exact hy.nj hi ⟨fun _=>⟨x,rfl⟩,H⟩
  .have:=ready_mono hj bC
   rw[H.1]at this;cases this
 | succ f ih =>
  intro listed a x hcl nI hr hy H;have oc:=(mem_ready.1 hr).1;refine⟨fun h=>(by rw[h]at hr;cases hr),fun j hj=>?_⟩;by_cases bC:j=i
  .subst bC;exact hy.nj hi ⟨fun _=>⟨x,rfl⟩,H⟩
  .obtain⟨nJ,oj,hoj,hall⟩:=mem_ready.1 hj
   have Nh:j≠z:=fun e=>by
    subst e
    have:=aiN hcl hnd hj
    rw[getD_both oc]at this;cases this
   have tL:∀e∈oj.after,Region.binds md e=true->e.on≠i:=fun e he hb heq=>by
    have h1:=hall e he hb;rw[heq,getD_both oc]at h1;cases h1
   have h2:=Wt hoj (nI j oj hoj bC nJ tL) (fun cs b=>hsel i oi cs b hi) (fun cs b=>hsel j oj cs b hoj) hy (H.2 j (ready_mono hj bC));refine Wu (fun a' w' h3=>?_) h2;obtain⟨hy',hx,h4⟩:=h3;obtain⟨x',hx'⟩:=hx Nh;subst hx';refine⟨fun _=>⟨x',rfl⟩,ih (listed.setIfInBounds j true) a' x' (Ws hcl hj) (fun k ok hk aT hu hno=>nI k ok hk aT ?_ hno) (ready_mono hr (Ne.symm bC)) hy' ?_⟩
   .by_cases hjk:j=k
    .subst hjk;exact nJ
    .rw[getD_set_ne true hjk]at hu;exact hu
   .rw[Array.setIfInBounds_comm _ _ bC];exact h4
def Ag(md:Region.Mode)(ops:Array Oper)(sp:List Nat)(z n:Nat):List Nat->Array Bool->Bool
 | [],_=>false
 | [i],listed=>(Region.ready md ops listed).contains i&&(Region.ready md ops listed).all (· == i)&&(i==z)&&(Region.ready md ops (listed.setIfInBounds i true)).isEmpty
 | i::r,listed=>(Region.ready md ops listed).contains i&&(if sp.contains i then (Region.ready md ops listed).all (· == i) else Region.free md ops listed i&&tO md ops n z i)&&(i != z)&&Ag md ops sp z n r (listed.setIfInBounds i true)
def tP(P:Program)(ops:Array Oper)(val:X->World)(sp:List Nat)(Q:Act->World->Prop):List Nat->Act->World->Prop
 | [],a,w=>Q a w
 | [i],a,w=>∃o,ops[i]?=some o/\Region.wanted o (yielded ops a.tmps)=true/\aB P (fun v w'=>Q (a.put o.dst v) w') ((execOp a.eval o).run P w)
 | i::r,a,w=>∃o,ops[i]?=some o/\Region.wanted o (yielded ops a.tmps)=true /\
   if sp.contains i=true then aB P (fun v w'=>(∃x,val x=w')/\tP P ops val sp Q r (a.put o.dst v) w') ((execOp a.eval o).run P w)
   else ∃v,(∀x,aQ (val x) v ((execOp a.eval o).run P (val x)))/\tP P ops val sp Q r (a.put o.dst v) w
theorem wh{sp:List Nat}{Q:Act->World->Prop}{i:Nat}{a:Act}{w:World}{o:Oper}(ho:ops[i]?=some o)(h:∀K:Act->World->Prop,(∀a w,Q a w->K a w)->Region.wanted o (yielded ops a.tmps)=true/\aB P (fun v w'=>K (a.put o.dst v) w') ((execOp a.eval o).run P w)):tP P ops val sp Q [i] a w:=by obtain⟨h1,h2⟩:=h _ (fun _ _ h=>h);exact⟨o,ho,h1,h2⟩
theorem l8{sp:List Nat}{Q:Act->World->Prop}{i j:Nat}{r:List Nat}{a:Act}{w:World}{o:Oper}(ho:ops[i]?=some o)(hs:sp.contains i=false)(h:∀K:Act->Prop,(∀a,tP P ops val sp Q (j::r) a w->K a)->Region.wanted o (yielded ops a.tmps)=true/\∃v,(∀x,aQ (val x) v ((execOp a.eval o).run P (val x)))/\K (a.put o.dst v)):tP P ops val sp Q (i::j::r) a w:=by obtain⟨h1,v,h2,h3⟩:=h _ (fun _ h=>h);refine⟨o,ho,h1,?_⟩;rw[if_neg (by rw[hs];simp)];exact⟨v,h2,h3⟩
theorem nL{sp:List Nat}{Q:Act->World->Prop}{i j:Nat}{r:List Nat}{a:Act}{w:World}{o:Oper}(ho:ops[i]?=some o)(hs:sp.contains i=true)(h:∀K:Act->World->Prop,(∀a w,tP P ops val sp Q (j::r) a w->K a w)->Region.wanted o (yielded ops a.tmps)=true/\aB P (fun v w'=>(∃x,val x=w')/\K (a.put o.dst v) w') ((execOp a.eval o).run P w)):tP P ops val sp Q (i::j::r) a w:=by obtain⟨h1,h2⟩:=h _ (fun _ _ h=>h);refine⟨o,ho,h1,?_⟩;rw[if_pos hs];exact h2
theorem aiQ{sp:List Nat}{z n:Nat}{Q:Act->World->Prop}(hsel:Region.noSelect ops=true):
  ∀(ord:List Nat) (listed:Array Bool) (a:Act) (x:X),yn md ops listed->Ag md ops sp z n ord listed=true->tP P ops val sp Q ord a (val x)->Dp P md ops val z Q ord.length listed a (val x):=by
 intro ord
 induction ord with
 | nil =>
  intro listed a x _ hB h;simp[Ag]at hB
 | cons i r ih =>
  intro listed a x hcl hB h;cases r with
  | nil =>
   simp only[Ag,Bool.and_eq_true]at hB;obtain⟨⟨⟨hr,hf⟩,hz⟩,hE⟩:=hB;have dZ:i∈Region.ready md ops listed:=by simpa using hr
   obtain⟨o,ho,hw,h⟩:=h;refine⟨fun h0=>(by rw[h0]at dZ;cases dZ),fun j hj=>?_⟩;have:j=i:=by
    have:=List.all_eq_true.1 hf j hj
    simpa using this
   subst this;have hzz:j=z:=by simpa using hz
   exact⟨o,ho,hw,nk (fun v w' h'=>⟨fun hne=>absurd hzz hne,by simpa using hE,h'⟩) h⟩
  | cons j r =>
   simp only[Ag,Bool.and_eq_true]at hB;obtain⟨⟨⟨hr,hf⟩,hz⟩,hB'⟩:=hB;have dZ:i∈Region.ready md ops listed:=by simpa using hr
   have xX:i≠z:=by simpa using hz
   obtain⟨o,ho,hw,h⟩:=h;have Wv:=Ws hcl dZ;by_cases hs:sp.contains i=true
   .rw[if_pos hs]at hf h
    refine⟨fun h0=>(by rw[h0]at dZ;cases dZ),fun k hk=>?_⟩;have:k=i:=by
     have:=List.all_eq_true.1 hf k hk
     simpa using this
    subst this;exact⟨o,ho,hw,nk (fun v w' ⟨⟨x',hx'⟩,h'⟩=>by subst hx';exact⟨fun _=>⟨x',rfl⟩,ih _ _ x' Wv hB' h'⟩) h⟩
   .rw[if_neg hs]at hf h
    simp only[Bool.and_eq_true]at hf;obtain⟨v,hv,hK⟩:=h;exact aiP ho xX n hf.2 (Region.noSelect_spec hsel) (j::r).length listed a x hcl (Region.free_spec ho hf.1) dZ ⟨hw,hv⟩ (ih _ _ x Wv hB' hK)
theorem aiR(n:Nat):yn md ops (Array.replicate n false):=by
 intro j oj _ hl;exfalso;rw[Array.getD_eq_getD_getElem?]at hl;by_cases h:j<n
 .simp[h]at hl
 .simp[h]at hl
theorem wa{id:Nat}{Q:Exit->Act->World->Prop}{a:Act}{w:World}{l:List Oper}(sp:List Nat)(z n:Nat)(ord:List Nat)(hm:P.follows .mixedOrders=true)(hB:(Region.noSelect l.toArray&&(ord.length==l.length)&&Ag .any l.toArray sp z n ord (Array.replicate l.toArray.size false))=true)(x0:X)(hx0:val x0 = { w with drawn:=w.drawn+1 })(h:tP P l.toArray val sp (Q .normal) ord a (val x0)):(Code.region id l.toArray true).wp P Q a w:=by simp only[Bool.and_eq_true,beq_iff_eq]at hB;obtain⟨⟨hsel,hlen⟩,hB⟩:=hB;refine wp_region_any hm ?_;have T:=aiO (Q':=Q) _ _ _ _ (aiQ (md:=.any) hsel ord _ a x0 (aiR _) hB h);rw[hlen,hx0]at T;simpa using T
end
end Go.Proofs.YtjolccidheflpaaGreatDoor
