/- A law for a walk, of every program: a region that draws its order, whose first n operations only read (they may draw), and whose last ones wait for all of these and come one behind the other: one walk, in the order of the text, serves every order. -/
import Derived.Test.YtjolccidheflpaaGreatDoorV00
import Derived.Deep.QuietTactic
import Derived.BigQuiet
import Derived.StillTail
namespace Go.Proofs.YtjolccidheflpaaGreatDoor
set_option maxHeartbeats 8000000
open Go
section
variable {P:Program} {ops:Array Oper} {md:Region.Mode} {C:World->Prop}
def Cq (P:Program) (md:Region.Mode) (ops:Array Oper) (C:World->Prop) (n:Nat) (L:Array Bool->Act->Prop):Nat->Array Bool->Act->Prop
 | 0,listed,a=>L listed a
 | f+1,listed,a=>Region.ready md ops listed≠[]∧∀ i∈Region.ready md ops listed,i<n∧qOp P ops C i (Cq P md ops C n L f (listed.setIfInBounds i true)) a
theorem ait {n g:Nat} {L:Array Bool->Act->Prop} {Q':Exit->Act->World->Prop} (hL:∀ listed a w,C w->L listed a->wpAny P md ops Q' g listed a w) :
  ∀ (f:Nat) (listed:Array Bool) (a:Act) (w:World),C w->Cq P md ops C n L f listed a->wpAny P md ops Q' (f+g) listed a w:=by
 intro f
 induction f with
 | zero=>intro listed a w hw h;rw[Nat.zero_add];exact hL _ _ _ hw h
 | succ f ih =>
  intro listed a w hw h;rw[show f+1+g=(f+g)+1 by omega];exact⟨fun h0=>absurd h0 h.1,fun i hi=>wpOp_of_qOp hw (fun a' w' hw' h'=>ih _ a' w' hw' h') (h.2 i hi).2⟩
theorem aiu {n i:Nat} {oi:Oper} {v:Value} {L:Array Bool->Act->Prop} (hi:ops[i]?=some oi) (hsel:∀ (j:Nat) (o:Oper) cs b,ops[j]?=some o->o.op≠.select cs b)
  (hs:Region.sinkB md ops n=true) (hc:Region.chainB md ops n=true) (hn:n<ops.size) (hin:i<n)
  (hdone:∀ listed a,L listed a->∀ j∈Region.ready md ops listed,n<=j) :
  ∀ (f:Nat) (listed:Array Bool) (a:Act),HeadInv md ops n listed ->
   (∀ j oj,ops[j]?=some oj->j≠i->listed.getD j true=false->(∀ e∈oj.after,Region.binds md e=true->e.on≠i)->oi.apart ops oj=true) ->
   i∈Region.ready md ops listed->YieldsIn P ops C oi v a ->
   Cq P md ops C n L f (listed.setIfInBounds i true) (a.put oi.dst v)->Cq P md ops C n L (f+1) listed a:=by
 intro f
 induction f with
 | zero =>
  intro listed a inv _ hr hy H;have kg:=(mem_ready.1 hr).1;refine⟨fun h=>(by rw[h]at hr;cases hr),fun j hj=>?_⟩;have hjn:j<n:=Nat.lt_of_not_le fun h=>tail_waits hs hc hn inv _ i rfl hin kg j h hj;refine⟨hjn,?_⟩;by_cases a_:j=i
  ·subst a_;exact hy.qOp hi H
  ·exact absurd (hdone _ _ H j (ready_mono hj a_)) (by omega)
 | succ f ih =>
  intro listed a inv pz hr hy H;have kg:=(mem_ready.1 hr).1;refine⟨fun h=>(by rw[h]at hr;cases hr),fun j hj=>?_⟩;have hjn:j<n:=Nat.lt_of_not_le fun h=>tail_waits hs hc hn inv _ i rfl hin kg j h hj;refine⟨hjn,?_⟩;by_cases a_:j=i
  ·subst a_;exact hy.qOp hi H
  ·obtain⟨pA,oj,hoj,hall⟩:=mem_ready.1 hj
   have vR:∀ e∈oj.after,Region.binds md e=true->e.on≠i:=fun e he hb heq=>by
    have h1:=hall e he hb;rw[heq,getD_both kg]at h1;cases h1
   have h2:=qOp_put hoj (pz j oj hoj a_ pA vR) (fun cs b=>hsel i oi cs b hi) (fun cs b=>hsel j oj cs b hoj) hy (H.2 j (ready_mono hj a_)).2;refine qOp_mono (fun a' h3=>ih (listed.setIfInBounds j true) a' (inv.set hj hjn) (fun k ok hk aK hu hno=>pz k ok hk aK ?_ hno) (ready_mono hr (Ne.symm a_)) h3.1 ?_) h2
   ·by_cases hjk:j=k
    ·subst hjk;exact pA
    ·rw[getD_set_ne true hjk]at hu;exact hu
   ·rw[Array.setIfInBounds_comm _ _ a_];exact h3.2
theorem aiv {n g:Nat} {Lq:Act->Prop} (hsel:Region.noSelect ops=true) (hs:Region.sinkB md ops n=true) (hc:Region.chainB md ops n=true) (hn:n<ops.size) :
  ∀ (l:List Oper) (k:Nat) (listed:Array Bool) (a:Act),(∀ j,j<l.length->l[j]?=ops[k+j]?)->k+l.length=n->HeadInv md ops n listed ->
  Region.lexHead md ops g l.length k listed=true->wpQuiet P ops C Lq l a ->
  Cq P md ops C n (fun listed' a'=>Region.seqB md ops g n listed'=true∧Lq a') l.length listed a:=by
 intro l
 induction l with
 | nil =>
  intro k listed a _ hk _ hB h;obtain rfl:k=n:=by simpa using hk
  exact⟨by simpa [Region.lexHead] using hB,h⟩
 | cons o l ih =>
  intro k listed a hl hk inv hB h;have h0:ops[k]?=some o:=by simpa using(hl 0 (by simp)).symm
  simp only[List.length_cons,Region.lexHead,Bool.and_eq_true]at hB;obtain⟨⟨hr,hf⟩,hB'⟩:=hB;have hkn:k<n:=by simp only[List.length_cons]at hk;omega
  have d9:k∈Region.ready md ops listed:=by simpa using hr
  obtain⟨v,hy,hK⟩:=yieldsIn_of_qOp (C:=C) (K:=wpQuiet P ops C Lq l) h0 (by unfold qOp;simp only[h0];exact h);refine aiu h0 (Region.noSelect_spec hsel) hs hc hn hkn (fun listed' a' hL=>seqB_ready hL.1) l.length listed a inv (Region.free_spec h0 hf) d9 hy (ih (k+1) _ _ (fun j hj=>?_) ?_ (inv.set d9 hkn) hB' hK)
  ·have:=hl (j+1) (by simp;omega)
   simpa [Nat.add_assoc,Nat.add_comm 1 j] using this
  ·simp only[List.length_cons]at hk;omega
theorem jW {id:Nat} {Q:Exit->Act->World->Prop} {a:Act} {w:World} {l:List Oper} (n:Nat) (hm:P.follows .mixedOrders=true) (hB:Region.lexTailB .any l.toArray n=true)
  (h:wpQuiet P l.toArray (fun w'=>∃ m,w'=w.drewN m) (fun a'=>∀ w',(∃ m,w'=w.drewN m)->wpList P l.toArray Q (l.drop n) a' w') (l.take n) a):(Code.region id l.toArray true).wp P Q a w:=by
 simp only[Region.lexTailB,Bool.and_eq_true,decide_eq_true_eq]at hB;obtain⟨⟨⟨⟨hsel,hn⟩,hs⟩,hc⟩,aiw⟩:=hB;have hn':n<l.length:=by simpa using hn
 have htl:(l.take n).length=n:=by simp;omega
 have hdl:(l.drop n).length=l.toArray.size-n:=by simp
 have aix:HeadInv .any l.toArray n (Array.replicate l.toArray.size false) :=
  ⟨by simp,fun j oj _ hj=>(by rw[getD_replicate_false]at hj;cases hj),fun t _ ht=>getD_in (by simpa using ht) (getD_replicate_false _ _)⟩
 have H:=aiv (md:=.any) (g:=l.toArray.size-n) hsel hs hc hn (l.take n) 0 _ a (fun j hj=>by rw[htl]at hj;simp[hj]) (by simpa using htl) aix (by rw[htl];exact aiw) h;refine wp_region_any hm ?_;have T:=ait (Q':=Q) (g:=l.toArray.size-n) (fun listed a' w' hw' hL=>by
  have:=wpAny_of_seq (md:=.any) (Q':=Q) (l.drop n) n listed a' w' (fun j=>by simp[List.getElem?_drop]) (by rw[hdl];exact hL.1) (hL.2 w' hw')
  rwa [hdl]at this) _ _ _ { w with drawn:=w.drawn+1 } ⟨1,rfl⟩ H
 rw[htl,show n+(l.toArray.size-n)=l.toArray.size by omega]at T;exact T
end
section
variable {P:Program} {ops:Array Oper} {md:Region.Mode} {X:Type} {val:X->World}
def aR (P:Program) (K:Value->World->Prop):Result Next->Prop
 | .ok (.value u) w'=>K u w'
 | .ok .skip w'=>K undef w'
 | .ok (.enter f args) w'=>Calls P f args w' (fun e w''=>∃ v,e=.returned v∧K v w'')
 | _=>False
def aI (w:World) (v:Value):Result Next->Prop
 | .ok (.value u) w'=>w'=w∧u=v
 | .ok .skip w'=>w'=w∧v=undef
 | _=>False
theorem qP {K K':Value->World->Prop} (h:∀ v w,K v w->K' v w) {r:Result Next} (hh:aR P K r):aR P K' r:=by
 cases r with
 | ok n w' =>
  cases n <;> simp only[aR]at hh ⊢
  case value u=>exact h _ _ hh
  case skip=>exact h _ _ hh
  case enter f args=>exact hh.mono fun e w'' ⟨v,h1,h2⟩=>⟨v,h1,h _ _ h2⟩
 | halt x w'=>simp only[aR]at hh
theorem agu {K:Value->World->Prop} {w:World} {v:Value} {r:Result Next} (h:aI w v r) (hk:K v w):aR P K r:=by
 cases r with
 | ok n w' =>
  cases n <;> simp only[aI]at h <;> simp only[aR]
  case value u=>obtain⟨rfl,rfl⟩:=h;exact hk
  case skip=>obtain⟨rfl,rfl⟩:=h;exact hk
 | halt x w'=>simp only[aI]at h
def mW (P:Program) (ops:Array Oper) (i:Nat) (K:Act->World->Prop) (a:Act) (w:World):Prop :=
 ∃ o,ops[i]?=some o∧Region.wanted o (yielded ops a.tmps)=true∧aR P (fun v w'=>K (a.put o.dst v) w') ((execOp a.eval o).run P w)
theorem Va {i:Nat} {a:Act} {w:World} {K K':Act->World->Prop} (h:∀ a w,K a w->K' a w) (hh:mW P ops i K a w):mW P ops i K' a w:=by
 obtain⟨o,h1,h2,h3⟩:=hh;exact⟨o,h1,h2,qP (fun v w' hk=>h _ _ hk) h3⟩
def qo (P:Program) (ops:Array Oper) (val:X->World) (o:Oper) (v:Value) (a:Act):Prop :=
 Region.wanted o (yielded ops a.tmps)=true∧∀ x,aI (val x) v ((execOp a.eval o).run P (val x))
theorem qo.of_same {o:Oper} {v:Value} {a a':Act} (hy:qo P ops val o v a) (he:execOp a'.eval o=execOp a.eval o)
  (hw:Region.wanted o (yielded ops a'.tmps)=Region.wanted o (yielded ops a.tmps)):qo P ops val o v a':=by
 unfold qo at *;rw[he,hw];exact hy
theorem qo.mW {i:Nat} {o:Oper} {v:Value} {a:Act} {x:X} {K:Act->World->Prop} (hi:ops[i]?=some o) (hy:qo P ops val o v a) (h:K (a.put o.dst v) (val x)):mW P ops i K a (val x) :=
 ⟨o,hi,hy.1,agu (hy.2 x) h⟩
theorem U' {j:Nat} {oi oj:Oper} {v:Value} (hj:ops[j]?=some oj) (hap:oi.apart ops oj=true)
  (hsi:∀ cs b,oi.op≠.select cs b) (hsj:∀ cs b,oj.op≠.select cs b) {K:Act->World->Prop} {a:Act} {w:World}
  (hy:qo P ops val oi v a) (h:mW P ops j K (a.put oi.dst v) w) :
  mW P ops j (fun a' w'=>qo P ops val oi v a'∧K (a'.put oi.dst v) w') a w:=by
 obtain⟨h1,h2,h3⟩:=Oper.apart_spec hap;obtain⟨o,ho,hw,hu⟩:=h;obtain rfl:=Option.some.inj (hj.symm.trans ho);rw[wanted_put oj a oi.dst v h1]at hw;rw[execOp_put oj hsj a oi.dst v h1]at hu;refine⟨oj,hj,hw,qP (fun u w' hk=>⟨hy.of_same (execOp_put oi hsi a oj.dst u h3) (wanted_put oi a oj.dst u h3),?_⟩) hu⟩;rw[<- Act.put_comm a v u h2];exact hk
theorem U_ {i:Nat} {a:Act} {w:World} {K K':Act->World->Prop} {Q':Exit->Act->World->Prop} (h:∀ a w,K a w->K' a w) (hh:mW P ops i K a w):wpOp P ops Q' i K' a w:=by
 obtain⟨o,ho,hw,h3⟩:=hh;unfold wpOp;simp only[ho,hw,if_true];refine .inl ?_;unfold Oper.wp;generalize (execOp a.eval o).run P w=r at *;cases r with
 | ok n w' =>
  cases n <;> simp only[aR]at h3 <;> simp only[Oper.upon]
  case value u=>exact h _ _ h3
  case skip=>exact h _ _ h3
  case enter f args=>exact h3.mono fun e w'' ⟨v,he,hk⟩=>by subst he;exact h _ _ hk
 | halt x w'=>simp only[aR]at h3
def xS (P:Program) (md:Region.Mode) (ops:Array Oper) (val:X->World) (Q:Act->World->Prop):Nat->Array Bool->Act->World->Prop
 | 0,listed,a,w=>Region.ready md ops listed=[]∧Q a w
 | f+1,listed,a,w=>Region.ready md ops listed≠[]∧∀ i∈Region.ready md ops listed,mW P ops i (fun a' w'=>(∃ x,val x=w')∧xS P md ops val Q f (listed.setIfInBounds i true) a' w') a w
theorem Se {Q':Exit->Act->World->Prop} :
  ∀ (f:Nat) (listed:Array Bool) (a:Act) (w:World),xS P md ops val (Q' .normal) f listed a w->wpAny P md ops Q' f listed a w:=by
 intro f
 induction f with
 | zero=>intro listed a w h;exact h
 | succ f ih =>
  intro listed a w h;exact⟨fun h0=>absurd h0 h.1,fun i hi=>U_ (fun a' w' h'=>ih _ a' w' h'.2) (h.2 i hi)⟩
theorem Sd {i:Nat} {oi:Oper} {v:Value} {Q:Act->World->Prop} (hi:ops[i]?=some oi) (hsel:∀ (j:Nat) (o:Oper) cs b,ops[j]?=some o->o.op≠.select cs b) :
  ∀ (f:Nat) (listed:Array Bool) (a:Act) (x:X),
   (∀ j oj,ops[j]?=some oj->j≠i->listed.getD j true=false->(∀ e∈oj.after,Region.binds md e=true->e.on≠i)->oi.apart ops oj=true) ->
   i∈Region.ready md ops listed->qo P ops val oi v a ->
   xS P md ops val Q f (listed.setIfInBounds i true) (a.put oi.dst v) (val x)->xS P md ops val Q (f+1) listed a (val x):=by
 intro f
 induction f with
 | zero =>
  intro listed a x _ hr hy H;refine⟨fun h=>(by rw[h]at hr;cases hr),fun j hj=>?_⟩;by_cases a_:j=i
  ·subst a_;exact hy.mW hi ⟨⟨x,rfl⟩,H⟩
  ·have:=ready_mono hj a_
   rw[H.1]at this;cases this
 | succ f ih =>
  intro listed a x pz hr hy H;have kg:=(mem_ready.1 hr).1;refine⟨fun h=>(by rw[h]at hr;cases hr),fun j hj=>?_⟩;by_cases a_:j=i
  ·subst a_;exact hy.mW hi ⟨⟨x,rfl⟩,H⟩
  ·obtain⟨pA,oj,hoj,hall⟩:=mem_ready.1 hj
   have vR:∀ e∈oj.after,Region.binds md e=true->e.on≠i:=fun e he hb heq=>by
    have h1:=hall e he hb;rw[heq,getD_both kg]at h1;cases h1
   have h2:=U' hoj (pz j oj hoj a_ pA vR) (fun cs b=>hsel i oi cs b hi) (fun cs b=>hsel j oj cs b hoj) hy (H.2 j (ready_mono hj a_));refine Va (fun a' w' h3=>?_) h2;obtain⟨hy',⟨x',hx'⟩,h4⟩:=h3;subst hx';refine⟨⟨x',rfl⟩,ih (listed.setIfInBounds j true) a' x' (fun k ok hk aK hu hno=>pz k ok hk aK ?_ hno) (ready_mono hr (Ne.symm a_)) hy' ?_⟩
   ·by_cases hjk:j=k
    ·subst hjk;exact pA
    ·rw[getD_set_ne true hjk]at hu;exact hu
   ·rw[Array.setIfInBounds_comm _ _ a_];exact h4
def BS (md:Region.Mode) (ops:Array Oper) (sp:List Nat):List Nat->Array Bool->Bool
 | [],listed=>(Region.ready md ops listed).isEmpty
 | i::r,listed=>(Region.ready md ops listed).contains i&&(if sp.contains i then (Region.ready md ops listed).all (· == i) else Region.free md ops listed i)&&BS md ops sp r (listed.setIfInBounds i true)
def ry (P:Program) (ops:Array Oper) (val:X->World) (sp:List Nat) (Q:Act->World->Prop):List Nat->Act->World->Prop
 | [],a,w=>Q a w
 | i::r,a,w=>∃ o,ops[i]?=some o∧Region.wanted o (yielded ops a.tmps)=true ∧
   if sp.contains i=true then aR P (fun v w'=>(∃ x,val x=w')∧ry P ops val sp Q r (a.put o.dst v) w') ((execOp a.eval o).run P w)
   else ∃ v,(∀ x,aI (val x) v ((execOp a.eval o).run P (val x)))∧ry P ops val sp Q r (a.put o.dst v) w
theorem wm {sp:List Nat} {Q:Act->World->Prop} {a:Act} {w:World} (h:Q a w):ry P ops val sp Q [] a w:=h
theorem n_ {sp:List Nat} {Q:Act->World->Prop} {i:Nat} {r:List Nat} {a:Act} {w:World} {o:Oper} (ho:ops[i]?=some o) (hs:sp.contains i=false)
  (h:∀ K:Act->Prop,(∀ a,ry P ops val sp Q r a w->K a)->Region.wanted o (yielded ops a.tmps)=true∧∃ v,(∀ x,aI (val x) v ((execOp a.eval o).run P (val x)))∧K (a.put o.dst v)):ry P ops val sp Q (i::r) a w:=by
 obtain⟨h1,v,h2,h3⟩:=h _ (fun _ h=>h);refine⟨o,ho,h1,?_⟩;rw[if_neg (by rw[hs];simp)];exact⟨v,h2,h3⟩
theorem qp {sp:List Nat} {Q:Act->World->Prop} {i:Nat} {r:List Nat} {a:Act} {w:World} {o:Oper} (ho:ops[i]?=some o) (hs:sp.contains i=true)
  (h:∀ K:Act->World->Prop,(∀ a w,ry P ops val sp Q r a w->K a w)->Region.wanted o (yielded ops a.tmps)=true∧aR P (fun v w'=>(∃ x,val x=w')∧K (a.put o.dst v) w') ((execOp a.eval o).run P w)):ry P ops val sp Q (i::r) a w:=by
 obtain⟨h1,h2⟩:=h _ (fun _ _ h=>h);refine⟨o,ho,h1,?_⟩;rw[if_pos hs];exact h2
theorem agv {sp:List Nat} {Q:Act->World->Prop} (hsel:Region.noSelect ops=true) :
  ∀ (ord:List Nat) (listed:Array Bool) (a:Act) (x:X),BS md ops sp ord listed=true->ry P ops val sp Q ord a (val x)->xS P md ops val Q ord.length listed a (val x):=by
 intro ord
 induction ord with
 | nil =>
  intro listed a x hB h;exact⟨by simpa [BS] using hB,h⟩
 | cons i r ih =>
  intro listed a x hB h;simp only[BS,Bool.and_eq_true]at hB;obtain⟨⟨hr,hf⟩,hB'⟩:=hB;have d9:i∈Region.ready md ops listed:=by simpa using hr
  obtain⟨o,ho,hw,h⟩:=h;by_cases hs:sp.contains i=true
  ·rw[if_pos hs]at hf h
   refine⟨fun h0=>(by rw[h0]at d9;cases d9),fun j hj=>?_⟩;have:j=i:=by
    have:=List.all_eq_true.1 hf j hj
    simpa using this
   subst this;exact⟨o,ho,hw,qP (fun v w' ⟨⟨x',hx'⟩,h'⟩=>by subst hx';exact⟨⟨x',rfl⟩,ih _ _ x' hB' h'⟩) h⟩
  ·rw[if_neg hs]at hf h
   obtain⟨v,hv,hK⟩:=h;exact Sd ho (Region.noSelect_spec hsel) r.length listed a x (Region.free_spec ho hf) d9 ⟨hw,hv⟩ (ih _ _ x hB' hK)
theorem yJ {id:Nat} {Q:Exit->Act->World->Prop} {a:Act} {w:World} {l:List Oper} (sp ord:List Nat) (hm:P.follows .mixedOrders=true)
  (hB:(Region.noSelect l.toArray&&(ord.length==l.length)&&BS .any l.toArray sp ord (Array.replicate l.toArray.size false))=true)
  (x0:X) (hx0:val x0 = { w with drawn:=w.drawn+1 })
  (h:ry P l.toArray val sp (Q .normal) ord a (val x0)):(Code.region id l.toArray true).wp P Q a w:=by
 simp only[Bool.and_eq_true,beq_iff_eq]at hB;obtain⟨⟨hsel,hlen⟩,hB⟩:=hB;refine wp_region_any hm ?_;have T:=Se (Q':=Q) _ _ _ _ (agv (md:=.any) hsel ord _ a x0 hB h);rw[hlen,hx0]at T;simpa using T
end
inductive lN where
 | done
 | read (i:Nat) (p:lN)
 | one (i:Nat) (p:lN)
 | two (i:Nat) (p:lN) (j:Nat) (q:lN)
def lN.len:lN->Nat
 | .done=>0
 | .read _ p=>p.len+1
 | .one _ p=>p.len+1
 | .two _ p _ _=>p.len+1
section
variable {P:Program} {ops:Array Oper} {md:Region.Mode} {X:Type} {val:X->World}
def nG (md:Region.Mode) (ops:Array Oper):lN->Array Bool->Bool
 | .done,listed=>(Region.ready md ops listed).isEmpty
 | .read i p,listed=>(Region.ready md ops listed).contains i&&Region.free md ops listed i&&nG md ops p (listed.setIfInBounds i true)
 | .one i p,listed=>(Region.ready md ops listed).contains i&&(Region.ready md ops listed).all (· == i)&&nG md ops p (listed.setIfInBounds i true)
 | .two i p j q,listed=>(Region.ready md ops listed).contains i&&(Region.ready md ops listed).all (fun k=>k==i || k==j)&&(p.len==q.len)&&nG md ops p (listed.setIfInBounds i true)&&nG md ops q (listed.setIfInBounds j true)
def spec (P:Program) (ops:Array Oper) (val:X->World) (i:Nat) (K:Act->World->Prop) (a:Act) (w:World):Prop :=
 ∃ o,ops[i]?=some o∧Region.wanted o (yielded ops a.tmps)=true∧aR P (fun v w'=>(∃ x,val x=w')∧K (a.put o.dst v) w') ((execOp a.eval o).run P w)
def kC (P:Program) (ops:Array Oper) (val:X->World) (Q:Act->World->Prop):lN->Act->World->Prop
 | .done,a,w=>Q a w
 | .read i p,a,w=>∃ o,ops[i]?=some o∧Region.wanted o (yielded ops a.tmps)=true∧∃ v,(∀ x,aI (val x) v ((execOp a.eval o).run P (val x)))∧kC P ops val Q p (a.put o.dst v) w
 | .one i p,a,w=>spec P ops val i (kC P ops val Q p) a w
 | .two i p j q,a,w=>spec P ops val i (kC P ops val Q p) a w∧spec P ops val j (kC P ops val Q q) a w
theorem kD {Q:Act->World->Prop} {a:Act} {w:World} (h:Q a w):kC P ops val Q .done a w:=h
theorem cF {Q:Act->World->Prop} {i:Nat} {p:lN} {a:Act} {w:World} {o:Oper} (ho:ops[i]?=some o)
  (h:∀ K:Act->Prop,(∀ a,kC P ops val Q p a w->K a)->Region.wanted o (yielded ops a.tmps)=true∧∃ v,(∀ x,aI (val x) v ((execOp a.eval o).run P (val x)))∧K (a.put o.dst v)):kC P ops val Q (.read i p) a w:=by
 obtain⟨h1,v,h2,h3⟩:=h _ (fun _ h=>h);exact⟨o,ho,h1,v,h2,h3⟩
theorem b_ {i:Nat} {K0:Act->World->Prop} {a:Act} {w:World} {o:Oper} (ho:ops[i]?=some o)
  (h:∀ K:Act->World->Prop,(∀ a w,K0 a w->K a w)->Region.wanted o (yielded ops a.tmps)=true∧aR P (fun v w'=>(∃ x,val x=w')∧K (a.put o.dst v) w') ((execOp a.eval o).run P w)):spec P ops val i K0 a w:=by
 obtain⟨h1,h2⟩:=h _ (fun _ _ h=>h);exact⟨o,ho,h1,h2⟩
theorem adB {Q:Act->World->Prop} (hsel:Region.noSelect ops=true) :
  ∀ (p:lN) (listed:Array Bool) (a:Act) (x:X),nG md ops p listed=true->kC P ops val Q p a (val x)->xS P md ops val Q p.len listed a (val x):=by
 intro p
 induction p with
 | done =>
  intro listed a x hB h;exact⟨by simpa [nG] using hB,h⟩
 | read i p ih =>
  intro listed a x hB h;simp only[nG,Bool.and_eq_true]at hB;obtain⟨⟨hr,hf⟩,hB'⟩:=hB;have d9:i∈Region.ready md ops listed:=by simpa using hr
  obtain⟨o,ho,hw,v,hv,hK⟩:=h;exact Sd ho (Region.noSelect_spec hsel) p.len listed a x (Region.free_spec ho hf) d9 ⟨hw,hv⟩ (ih _ _ x hB' hK)
 | one i p ih =>
  intro listed a x hB h;simp only[nG,Bool.and_eq_true]at hB;obtain⟨⟨hr,hf⟩,hB'⟩:=hB;have d9:i∈Region.ready md ops listed:=by simpa using hr
  obtain⟨o,ho,hw,h⟩:=h;refine⟨fun h0=>(by rw[h0]at d9;cases d9),fun j hj=>?_⟩;have:j=i:=by
   have:=List.all_eq_true.1 hf j hj
   simpa using this
  subst this;exact⟨o,ho,hw,qP (fun v w' ⟨⟨x',hx'⟩,h'⟩=>by subst hx';exact⟨⟨x',rfl⟩,ih _ _ x' hB' h'⟩) h⟩
 | two i p j q Ka Kc =>
  intro listed a x hB h;simp only[nG,Bool.and_eq_true]at hB;obtain⟨⟨⟨⟨hr,hf⟩,hlen⟩,adC⟩,adD⟩:=hB;have hl:p.len=q.len:=by simpa using hlen
  have d9:i∈Region.ready md ops listed:=by simpa using hr
  obtain⟨⟨o,ho,hw,h1⟩,⟨o2,AB,hw2,h2⟩⟩:=h;refine⟨fun h0=>(by rw[h0]at d9;cases d9),fun k hk=>?_⟩;have:k=i∨k=j:=by
   have:=List.all_eq_true.1 hf k hk
   simpa using this
  rcases this with rfl | rfl
  ·exact⟨o,ho,hw,qP (fun v w' ⟨⟨x',hx'⟩,h'⟩=>by subst hx';exact⟨⟨x',rfl⟩,Ka _ _ x' adC h'⟩) h1⟩
  ·exact⟨o2,AB,hw2,qP (fun v w' ⟨⟨x',hx'⟩,h'⟩=>by
    subst hx'
    have:=Kc _ _ x' adD h'
    rw[<- hl]at this;exact⟨⟨x',rfl⟩,this⟩) h2⟩
theorem AF {id:Nat} {Q:Exit->Act->World->Prop} {a:Act} {w:World} {l:List Oper} (p:lN) (hm:P.follows .mixedOrders=true)
  (hB:(Region.noSelect l.toArray&&(p.len==l.length)&&nG .any l.toArray p (Array.replicate l.toArray.size false))=true)
  (x0:X) (hx0:val x0 = { w with drawn:=w.drawn+1 })
  (h:kC P l.toArray val (Q .normal) p a (val x0)):(Code.region id l.toArray true).wp P Q a w:=by
 simp only[Bool.and_eq_true,beq_iff_eq]at hB;obtain⟨⟨hsel,hlen⟩,hB⟩:=hB;refine wp_region_any hm ?_;have T:=Se (Q':=Q) _ _ _ _ (adB (md:=.any) hsel p _ a x0 hB h);rw[hlen,hx0]at T;simpa using T
end
section
variable {P:Program} {ops:Array Oper} {X:Type} {val:X->World}
theorem MQ {i:Nat} {K K':Act->World->Prop} {a:Act} {w:World} (h:∀ a w,K a w->K' a w) (hh:spec P ops val i K a w):spec P ops val i K' a w:=by
 obtain⟨o,h1,h2,h3⟩:=hh;exact⟨o,h1,h2,qP (fun v w' ⟨hx,hk⟩=>⟨hx,h _ _ hk⟩) h3⟩
theorem agc {Q Q':Act->World->Prop} (h:∀ a w,Q a w->Q' a w):∀ (p:lN) (a:Act) (w:World),kC P ops val Q p a w->kC P ops val Q' p a w:=by
 intro p
 induction p with
 | done=>intro a w hh;exact h a w hh
 | read i p ih =>
  intro a w hh;obtain⟨o,h1,h2,v,h3,h4⟩:=hh;exact⟨o,h1,h2,v,h3,ih _ _ h4⟩
 | one i p ih=>intro a w hh;exact MQ (fun a w=>ih a w) hh
 | two i p j q Ka Kc=>intro a w hh;exact⟨MQ (fun a w=>Ka a w) hh.1,MQ (fun a w=>Kc a w) hh.2⟩
theorem agd {id:Nat} {Q:Exit->Act->World->Prop} {a:Act} {w:World} {l:List Oper} (Post:Act->World->Prop) (p:lN) (hm:P.follows .mixedOrders=true)
  (hB:(Region.noSelect l.toArray&&(p.len==l.length)&&nG .any l.toArray p (Array.replicate l.toArray.size false))=true)
  (x0:X) (hx0:val x0 = { w with drawn:=w.drawn+1 })
  (h:kC P l.toArray val Post p a (val x0)) (hp:∀ a w,Post a w->Q .normal a w):(Code.region id l.toArray true).wp P Q a w :=
 AF p hm hB x0 hx0 (agc hp p a _ h)
theorem xU {id:Nat} {Q:Exit->Act->World->Prop} {a:Act} {w:World} {l:List Oper} (G:Nat->World->Prop) (p:lN) (hm:P.follows .mixedOrders=true)
  (hB:(Region.noSelect l.toArray&&(p.len==l.length)&&nG .any l.toArray p (Array.replicate l.toArray.size false))=true)
  (x0:X) (hx0:val x0 = { w with drawn:=w.drawn+1 })
  (h:∃ fr:Nat->Act,kC P l.toArray val (fun a' w'=>∃ D,a'=fr D∧G D w') p a (val x0)∧∀ D w',G D w'->Q .normal (fr D) w'):(Code.region id l.toArray true).wp P Q a w:=by
 obtain⟨fr,h1,h2⟩:=h;exact agd _ p hm hB x0 hx0 h1 (fun a' w' ⟨D,e,hg⟩=>by subst e;exact h2 D w' hg)
end
section
variable {P:Program} {ops:Array Oper} {md:Region.Mode} {val:Bool->Nat->World} {z m:Nat} {oz:Oper} {p:Value}
def zK (P:Program) (val:Bool->Nat->World) (o:Oper) (a:Act) (next:Act->Prop):Prop :=
 ∃ v,(∀ b n,o.quietAt P a (fun w=>∃ k,w=val b k) (val b n) v)∧next (a.put o.dst v)
def vP (P:Program) (ops:Array Oper) (val:Bool->Nat->World) (Q:Act->Prop):List Oper->Act->Prop
 | [],a=>Q a
 | o::rest,a=>Region.wanted o (yielded ops a.tmps)=true∧zK P val o a (vP P ops val Q rest)
theorem Jf {Q:Act->Prop} {a:Act} (h:Q a):vP P ops val Q [] a:=h
theorem Je {Q:Act->Prop} {a:Act} {o:Oper} {rest:List Oper}
  (h:∀ K:Act->Prop,(∀ a,vP P ops val Q rest a->K a)->Region.wanted o (yielded ops a.tmps)=true∧zK P val o a K):vP P ops val Q (o::rest) a:=h _ (fun _ h=>h)
def ae9 (P:Program) (ops:Array Oper) (val:Bool->Nat->World) (o:Oper) (v:Value) (a:Act):Prop:=∀ b,YieldsIn P ops (fun w=>∃ k,w=val b k) o v a
def yz (P:Program) (md:Region.Mode) (ops:Array Oper) (val:Bool->Nat->World) (z:Nat) (MB:Option Nat) (p:Value) (L:Array Bool->Act->Prop):Nat->Array Bool->Bool->Act->Prop
 | 0,listed,b,a=>b=true∧L listed a
 | f+1,listed,b,a=>Region.ready md ops listed≠[]∧∀ i∈Region.ready md ops listed,
   (i=z∧b=false∧yz P md ops val z MB p L f (listed.setIfInBounds i true) true (a.put MB p)) ∨
   (i≠z∧qOp P ops (fun w=>∃ k,w=val b k) i (yz P md ops val z MB p L f (listed.setIfInBounds i true) b) a)
theorem afa {g:Nat} {L:Array Bool->Act->Prop} {Q':Exit->Act->World->Prop} (hz:ops[z]?=some oz) (BF:oz.guard=none)
  (BG:∀ (a:Act) n,(execOp a.eval oz).run P (val false n)=.ok (.value p) (val true n))
  (hL:∀ listed a n,L listed a->wpAny P md ops Q' g listed a (val true n)) :
  ∀ (f:Nat) (listed:Array Bool) (b:Bool) (a:Act) (n:Nat),yz P md ops val z oz.dst p L f listed b a->wpAny P md ops Q' (f+g) listed a (val b n):=by
 intro f
 induction f with
 | zero=>intro listed b a n h;obtain⟨rfl,h⟩:=h;rw[Nat.zero_add];exact hL _ _ _ h
 | succ f ih =>
  intro listed b a n h;rw[show f+1+g=(f+g)+1 by omega];refine⟨fun h0=>absurd h0 h.1,fun i hi=>?_⟩;rcases h.2 i hi with ⟨rfl,rfl,h2⟩ | ⟨_,h2⟩
  ·unfold wpOp
   simp only[hz];have hw:Region.wanted oz (yielded ops a.tmps)=true:=by simp[Region.wanted,BF]
   simp only[hw,if_true,Oper.wp,BG,Oper.upon];exact .inl (ih _ _ _ n h2)
  ·exact wpOp_of_qOp (C:=fun w=>∃ k,w=val b k) ⟨n,rfl⟩ (fun a' w' ⟨k,hk⟩ h'=>hk▸ih _ _ a' k h') h2
theorem afb {i:Nat} {oi:Oper} {v:Value} {L:Array Bool->Act->Prop} (hi:ops[i]?=some oi) (hz:ops[z]?=some oz) (vQ:i≠z) (hsel:∀ (j:Nat) (o:Oper) cs b,ops[j]?=some o->o.op≠.select cs b)
  (hdone:∀ listed a,L listed a->∀ j∈Region.ready md ops listed,j=m) (afc:Region.waitsFor md ops m i=true) :
  ∀ (f:Nat) (listed:Array Bool) (b:Bool) (a:Act),
   (∀ j oj,ops[j]?=some oj->j≠i->listed.getD j true=false->(∀ e∈oj.after,Region.binds md e=true->e.on≠i)->oi.apart ops oj=true) ->
   i∈Region.ready md ops listed->ae9 P ops val oi v a ->
   yz P md ops val z oz.dst p L f (listed.setIfInBounds i true) b (a.put oi.dst v)->yz P md ops val z oz.dst p L (f+1) listed b a:=by
 have afd:∀ (listed:Array Bool),i∈Region.ready md ops listed->m ∉ Region.ready md ops listed:=by
  intro listed hr hm;obtain⟨oj,hoj,e,he,hb,yA⟩:=Region.waitsFor_spec afc;obtain⟨_,an6,afe,hall⟩:=mem_ready.1 hm;obtain rfl:=Option.some.inj (hoj.symm.trans afe);have h1:=hall e he hb;rw[yA,getD_both (mem_ready.1 hr).1]at h1;cases h1
 intro f
 induction f with
 | zero =>
  intro listed b a _ hr hy H;refine⟨fun h=>(by rw[h]at hr;cases hr),fun j hj=>?_⟩;by_cases a_:j=i
  ·subst a_;exact .inr ⟨vQ,(hy b).qOp hi H⟩
  ·have:=hdone _ _ H.2 j (ready_mono hj a_)
   subst this;exact absurd hj (afd listed hr)
 | succ f ih =>
  intro listed b a pz hr hy H;refine⟨fun h=>(by rw[h]at hr;cases hr),fun j hj=>?_⟩;by_cases a_:j=i
  ·subst a_;exact .inr ⟨vQ,(hy b).qOp hi H⟩
  ·obtain⟨pA,oj,hoj,hall⟩:=mem_ready.1 hj
   have vR:∀ e∈oj.after,Region.binds md e=true->e.on≠i:=fun e he hb heq=>by
    have h1:=hall e he hb;rw[heq,getD_both (mem_ready.1 hr).1]at h1;cases h1
   have hap:=pz j oj hoj a_ pA vR;have Ut:∀ k ok,ops[k]?=some ok->k≠i->(listed.setIfInBounds j true).getD k true=false->(∀ e∈ok.after,Region.binds md e=true->e.on≠i)->oi.apart ops ok=true:=fun k ok hk aK hu hno=>by
    refine pz k ok hk aK ?_ hno;by_cases hjk:j=k
    ·subst hjk;exact pA
    ·rw[getD_set_ne true hjk]at hu;exact hu
   rcases H.2 j (ready_mono hj a_) with ⟨rfl,rfl,h2⟩ | ⟨MC,h2⟩
   ·refine .inl ⟨rfl,rfl,ih _ _ _ Ut (ready_mono hr (Ne.symm a_)) ?_ ?_⟩
    ·obtain rfl:=Option.some.inj (hz.symm.trans hoj)
     obtain⟨h1,h2',h3⟩:=Oper.apart_spec hap;intro b';exact(hy b').of_same (execOp_put oi (fun cs b=>hsel i oi cs b hi) a oz.dst p h3) (wanted_put oi a oz.dst p h3)
    ·obtain rfl:=Option.some.inj (hz.symm.trans hoj)
     obtain⟨_,h2',_⟩:=Oper.apart_spec hap;rw[Array.setIfInBounds_comm _ _ a_,<- Act.put_comm a v p h2'];exact h2
   ·refine .inr ⟨MC,?_⟩
    obtain⟨h1,h2',h3⟩:=Oper.apart_spec hap;have h4:=qOp_put hoj hap (fun cs b=>hsel i oi cs b hi) (fun cs b=>hsel j oj cs b hoj) (hy b) h2;obtain⟨u,aff,hK⟩:=yieldsIn_of_qOp hoj h4;refine aff.qOp hoj (ih _ _ _ Ut (ready_mono hr (Ne.symm a_)) (fun b'=>(hy b').of_same (execOp_put oi (fun cs b=>hsel i oi cs b hi) a oj.dst u h3) (wanted_put oi a oj.dst u h3)) ?_);rw[Array.setIfInBounds_comm _ _ a_];exact hK.2
def yB (md:Region.Mode) (ops:Array Oper) (z m:Nat):Nat->Nat->Array Bool->Bool
 | 0,_,listed=>decide (Region.ready md ops listed=[z])&&Region.seqB md ops 1 m (listed.setIfInBounds z true)
 | f+1,k,listed=>(Region.ready md ops listed).contains k&&Region.free md ops listed k&&Region.waitsFor md ops m k&&yB md ops z m f (k+1) (listed.setIfInBounds k true)
theorem afg {Lq:Act->Prop} (hsel:Region.noSelect ops=true) (hz:ops[z]?=some oz) :
  ∀ (l:List Oper) (k:Nat) (listed:Array Bool) (a:Act),(∀ j,j<l.length->l[j]?=ops[k+j]?)->k+l.length=z ->
  yB md ops z m l.length k listed=true->vP P ops val (fun a'=>Lq (a'.put oz.dst p)) l a ->
  yz P md ops val z oz.dst p (fun listed' a'=>Region.seqB md ops 1 m listed'=true∧Lq a') (l.length+1) listed false a:=by
 intro l
 induction l with
 | nil =>
  intro k listed a _ hk hB h;simp only[List.length_nil,yB,Bool.and_eq_true,decide_eq_true_eq]at hB;refine⟨by rw[hB.1];simp,fun i hi=>?_⟩;rw[hB.1]at hi;have vQ:i=z:=by simpa using hi
  subst vQ;exact .inl ⟨rfl,rfl,rfl,hB.2,h⟩
 | cons o l ih =>
  intro k listed a hl hk hB h;have h0:ops[k]?=some o:=by simpa using(hl 0 (by simp)).symm
  simp only[List.length_cons,yB,Bool.and_eq_true]at hB;obtain⟨⟨⟨hr,hf⟩,hw⟩,hB'⟩:=hB;have d9:k∈Region.ready md ops listed:=by simpa using hr
  obtain⟨afh,v,hv,hK⟩:=h;have afi:k≠z:=by simp only[List.length_cons]at hk;omega
  refine afb (m:=m) h0 hz afi (Region.noSelect_spec hsel) (fun listed' a' hL j hj=>?_) hw (l.length+1) listed false a (Region.free_spec h0 hf) d9 (v:=v) (fun b=>.inl ⟨afh,fun w ⟨n,hn⟩=>hn▸hv b n⟩) (ih (k+1) _ _ (fun j hj=>?_) ?_ hB' hK)
  ·have hs:=hL.1
   simp only[Region.seqB,Bool.and_eq_true,decide_eq_true_eq]at hs;rw[hs.1]at hj;simpa using hj
  ·have:=hl (j+1) (by simp;omega)
   simpa [Nat.add_assoc,Nat.add_comm 1 j] using this
  ·simp only[List.length_cons]at hk;omega
theorem afj {id:Nat} {Q:Exit->Act->World->Prop} {a:Act} {w:World} {l:List Oper} {o:Oper} (hm:P.follows .mixedOrders=true)
  (hsel:Region.noSelect (l++[oz,o]).toArray=true) (hB:yB .any (l++[oz,o]).toArray l.length (l.length+1) l.length 0 (Array.replicate (l.length+2) false)=true) (BF:oz.guard=none)
  (h0:val false 1 = { w with drawn:=w.drawn+1 })
  (BG:∀ (a:Act) n,(execOp a.eval oz).run P (val false n)=.ok (.value p) (val true n))
  (h:vP P (l++[oz,o]).toArray val (fun a'=>∀ n,wpList P (l++[oz,o]).toArray Q [o] (a'.put oz.dst p) (val true n)) l a):(Code.region id (l++[oz,o]).toArray true).wp P Q a w:=by
 have hz:(l++[oz,o]).toArray[l.length]?=some oz:=by simp
 have H:=afg (md:=.any) (z:=l.length) (m:=l.length+1) (p:=p) (val:=val) (P:=P) hsel hz (Lq:=fun a'=>∀ n,wpList P (l++[oz,o]).toArray Q [o] a' (val true n)) l 0 (Array.replicate (l.length+2) false) a
  (fun j hj=>by simp[List.getElem?_append_left hj]) (by simp) hB h
 refine wp_region_any hm ?_;have T:=afa (Q':=Q) (g:=1) hz BF BG (fun listed a' n hL=>wpAny_of_seq (md:=.any) (Q':=Q) [o] (l.length+1) listed a' (val true n) (fun j=>by
  cases j with
  | zero=>simp
  | succ j=>simp;omega) hL.1 (hL.2 n)) (l.length+1) _ false a 1 H
 rw[h0]at T;have hsz:(l++[oz,o]).toArray.size=l.length+1+1:=by simp
 rw[hsz];exact T
theorem Jd {id:Nat} {Q:Exit->Act->World->Prop} {a:Act} {w:World} {L:List Oper} {o:Oper} (n:Nat) (hL:L.take n++[oz,o]=L) (hm:P.follows .mixedOrders=true)
  (hsel:Region.noSelect L.toArray=true) (hB:yB .any L.toArray (L.take n).length ((L.take n).length+1) (L.take n).length 0 (Array.replicate ((L.take n).length+2) false)=true) (BF:oz.guard=none)
  (h0:val false 1 = { w with drawn:=w.drawn+1 })
  (BG:∀ (a:Act) n,(execOp a.eval oz).run P (val false n)=.ok (.value p) (val true n))
  (h:vP P L.toArray val (fun a'=>∀ n,wpList P L.toArray Q [o] (a'.put oz.dst p) (val true n)) (L.take n) a):(Code.region id L.toArray true).wp P Q a w:=by
 have:=afj (id:=id) (Q:=Q) (a:=a) (w:=w) (l:=L.take n) (oz:=oz) (o:=o) (p:=p) (val:=val) (P:=P) hm
 rw[hL]at this;exact this hsel hB BF h0 BG h
end
section
variable {P:Program} {ops:Array Oper} {md:Region.Mode} {X:Type} {val:X->World}
def wj (md:Region.Mode) (ops:Array Oper) (listed:Array Bool):Prop :=
 ∀ j oj,ops[j]?=some oj->listed.getD j false=true->∀ e∈oj.after,Region.binds md e=true->listed.getD e.on false=true
def rq (md:Region.Mode) (ops:Array Oper):Nat->Nat->Nat->Bool
 | 0,_,_=>false
 | f+1,j,i=>match ops[j]? with
  | some o=>o.after.any fun e=>Region.binds md e&&(e.on==i || rq md ops f e.on i)
  | none=>false
theorem U8 {listed:Array Bool} (hc:wj md ops listed) {i:Nat}:∀ (f j:Nat),rq md ops f j i=true->listed.getD j false=true->listed.getD i false=true
 | 0,j,h,_=>by simp[rq]at h
 | f+1,j,h,hj=>by
  unfold rq at h;cases ho:ops[j]? with
  | none=>rw[ho]at h;simp at h
  | some o =>
   rw[ho]at h;simp only[Array.any_eq_true']at h;obtain⟨e,he,h2⟩:=h;simp only[Bool.and_eq_true,Bool.or_eq_true,beq_iff_eq]at h2;have hl:=hc j o ho hj e he h2.1;rcases h2.2 with h3 | h3
   ·rw[<- h3];exact hl
   ·exact U8 hc f e.on h3 hl
theorem agp {listed:Array Bool} (hc:wj md ops listed) {i z:Nat} {f:Nat} (h:rq md ops f z i=true) (hz:z∈Region.ready md ops listed):listed.getD i false=true:=by
 obtain⟨_,o,ho,hall⟩:=mem_ready.1 hz;cases f with
 | zero=>simp[rq]at h
 | succ f =>
  unfold rq at h;rw[ho]at h;simp only[Array.any_eq_true']at h;obtain⟨e,he,h2⟩:=h;simp only[Bool.and_eq_true,Bool.or_eq_true,beq_iff_eq]at h2;have hl:=hall e he h2.1;rcases h2.2 with h3 | h3
  ·rw[<- h3];exact hl
  ·exact U8 hc f e.on h3 hl
theorem U9 {listed:Array Bool} (hc:wj md ops listed) {i:Nat} (hi:i∈Region.ready md ops listed):wj md ops (listed.setIfInBounds i true):=by
 intro j oj hj hl e he hb;by_cases hij:i=j
 ·subst hij
  obtain⟨_,o,ho,hall⟩:=mem_ready.1 hi;obtain rfl:=Option.some.inj (hj.symm.trans ho);exact getD_set_true (hall e he hb)
 ·rw[getD_set_ne false hij]at hl
  exact getD_set_true (hc j oj hj hl e he hb)
def BR (P:Program) (md:Region.Mode) (ops:Array Oper) (val:X->World) (z:Nat) (Q:Act->World->Prop):Nat->Array Bool->Act->World->Prop
 | 0,listed,a,w=>Region.ready md ops listed=[]∧Q a w
 | f+1,listed,a,w=>Region.ready md ops listed≠[]∧∀ i∈Region.ready md ops listed,mW P ops i (fun a' w'=>(i≠z->∃ x,val x=w')∧BR P md ops val z Q f (listed.setIfInBounds i true) a' w') a w
theorem agq {z:Nat} {Q':Exit->Act->World->Prop} :
  ∀ (f:Nat) (listed:Array Bool) (a:Act) (w:World),BR P md ops val z (Q' .normal) f listed a w->wpAny P md ops Q' f listed a w:=by
 intro f
 induction f with
 | zero=>intro listed a w h;exact h
 | succ f ih =>
  intro listed a w h;exact⟨fun h0=>absurd h0 h.1,fun i hi=>U_ (fun a' w' h'=>ih _ a' w' h'.2) (h.2 i hi)⟩
theorem agr {i z:Nat} {oi:Oper} {v:Value} {Q:Act->World->Prop} (hi:ops[i]?=some oi) (vQ:i≠z) (n:Nat) (hnd:rq md ops n z i=true) (hsel:∀ (j:Nat) (o:Oper) cs b,ops[j]?=some o->o.op≠.select cs b) :
  ∀ (f:Nat) (listed:Array Bool) (a:Act) (x:X),wj md ops listed ->
   (∀ j oj,ops[j]?=some oj->j≠i->listed.getD j true=false->(∀ e∈oj.after,Region.binds md e=true->e.on≠i)->oi.apart ops oj=true) ->
   i∈Region.ready md ops listed->qo P ops val oi v a ->
   BR P md ops val z Q f (listed.setIfInBounds i true) (a.put oi.dst v) (val x)->BR P md ops val z Q (f+1) listed a (val x):=by
 intro f
 induction f with
 | zero =>
  intro listed a x _ _ hr hy H;refine⟨fun h=>(by rw[h]at hr;cases hr),fun j hj=>?_⟩;by_cases a_:j=i
  ·subst a_;exact hy.mW hi ⟨fun _=>⟨x,rfl⟩,H⟩
  ·have:=ready_mono hj a_
   rw[H.1]at this;cases this
 | succ f ih =>
  intro listed a x hcl pz hr hy H;have kg:=(mem_ready.1 hr).1;refine⟨fun h=>(by rw[h]at hr;cases hr),fun j hj=>?_⟩;by_cases a_:j=i
  ·subst a_;exact hy.mW hi ⟨fun _=>⟨x,rfl⟩,H⟩
  ·obtain⟨pA,oj,hoj,hall⟩:=mem_ready.1 hj
   have MC:j≠z:=fun e=>by
    subst e
    have:=agp hcl hnd hj
    rw[getD_both kg]at this;cases this
   have vR:∀ e∈oj.after,Region.binds md e=true->e.on≠i:=fun e he hb heq=>by
    have h1:=hall e he hb;rw[heq,getD_both kg]at h1;cases h1
   have h2:=U' hoj (pz j oj hoj a_ pA vR) (fun cs b=>hsel i oi cs b hi) (fun cs b=>hsel j oj cs b hoj) hy (H.2 j (ready_mono hj a_));refine Va (fun a' w' h3=>?_) h2;obtain⟨hy',hx,h4⟩:=h3;obtain⟨x',hx'⟩:=hx MC;subst hx';refine⟨fun _=>⟨x',rfl⟩,ih (listed.setIfInBounds j true) a' x' (U9 hcl hj) (fun k ok hk aK hu hno=>pz k ok hk aK ?_ hno) (ready_mono hr (Ne.symm a_)) hy' ?_⟩
   ·by_cases hjk:j=k
    ·subst hjk;exact pA
    ·rw[getD_set_ne true hjk]at hu;exact hu
   ·rw[Array.setIfInBounds_comm _ _ a_];exact h4
def yI (md:Region.Mode) (ops:Array Oper) (sp:List Nat) (z n:Nat):List Nat->Array Bool->Bool
 | [],_=>false
 | [i],listed=>(Region.ready md ops listed).contains i&&(Region.ready md ops listed).all (· == i)&&(i==z)&&(Region.ready md ops (listed.setIfInBounds i true)).isEmpty
 | i::r,listed=>(Region.ready md ops listed).contains i&&(if sp.contains i then (Region.ready md ops listed).all (· == i) else Region.free md ops listed i&&rq md ops n z i)&&(i != z)&&yI md ops sp z n r (listed.setIfInBounds i true)
def ru (P:Program) (ops:Array Oper) (val:X->World) (sp:List Nat) (Q:Act->World->Prop):List Nat->Act->World->Prop
 | [],a,w=>Q a w
 | [i],a,w=>∃ o,ops[i]?=some o∧Region.wanted o (yielded ops a.tmps)=true∧aR P (fun v w'=>Q (a.put o.dst v) w') ((execOp a.eval o).run P w)
 | i::r,a,w=>∃ o,ops[i]?=some o∧Region.wanted o (yielded ops a.tmps)=true ∧
   if sp.contains i=true then aR P (fun v w'=>(∃ x,val x=w')∧ru P ops val sp Q r (a.put o.dst v) w') ((execOp a.eval o).run P w)
   else ∃ v,(∀ x,aI (val x) v ((execOp a.eval o).run P (val x)))∧ru P ops val sp Q r (a.put o.dst v) w
theorem yG {sp:List Nat} {Q:Act->World->Prop} {i:Nat} {a:Act} {w:World} {o:Oper} (ho:ops[i]?=some o)
  (h:∀ K:Act->World->Prop,(∀ a w,Q a w->K a w)->Region.wanted o (yielded ops a.tmps)=true∧aR P (fun v w'=>K (a.put o.dst v) w') ((execOp a.eval o).run P w)):ru P ops val sp Q [i] a w:=by
 obtain⟨h1,h2⟩:=h _ (fun _ _ h=>h);exact⟨o,ho,h1,h2⟩
theorem cH {sp:List Nat} {Q:Act->World->Prop} {i j:Nat} {r:List Nat} {a:Act} {w:World} {o:Oper} (ho:ops[i]?=some o) (hs:sp.contains i=false)
  (h:∀ K:Act->Prop,(∀ a,ru P ops val sp Q (j::r) a w->K a)->Region.wanted o (yielded ops a.tmps)=true∧∃ v,(∀ x,aI (val x) v ((execOp a.eval o).run P (val x)))∧K (a.put o.dst v)):ru P ops val sp Q (i::j::r) a w:=by
 obtain⟨h1,v,h2,h3⟩:=h _ (fun _ h=>h);refine⟨o,ho,h1,?_⟩;rw[if_neg (by rw[hs];simp)];exact⟨v,h2,h3⟩
theorem qm {sp:List Nat} {Q:Act->World->Prop} {i j:Nat} {r:List Nat} {a:Act} {w:World} {o:Oper} (ho:ops[i]?=some o) (hs:sp.contains i=true)
  (h:∀ K:Act->World->Prop,(∀ a w,ru P ops val sp Q (j::r) a w->K a w)->Region.wanted o (yielded ops a.tmps)=true∧aR P (fun v w'=>(∃ x,val x=w')∧K (a.put o.dst v) w') ((execOp a.eval o).run P w)):ru P ops val sp Q (i::j::r) a w:=by
 obtain⟨h1,h2⟩:=h _ (fun _ _ h=>h);refine⟨o,ho,h1,?_⟩;rw[if_pos hs];exact h2
theorem ags {sp:List Nat} {z n:Nat} {Q:Act->World->Prop} (hsel:Region.noSelect ops=true) :
  ∀ (ord:List Nat) (listed:Array Bool) (a:Act) (x:X),wj md ops listed->yI md ops sp z n ord listed=true->ru P ops val sp Q ord a (val x)->BR P md ops val z Q ord.length listed a (val x):=by
 intro ord
 induction ord with
 | nil =>
  intro listed a x _ hB h;simp[yI]at hB
 | cons i r ih =>
  intro listed a x hcl hB h;cases r with
  | nil =>
   simp only[yI,Bool.and_eq_true]at hB;obtain⟨⟨⟨hr,hf⟩,hz⟩,hE⟩:=hB;have d9:i∈Region.ready md ops listed:=by simpa using hr
   obtain⟨o,ho,hw,h⟩:=h;refine⟨fun h0=>(by rw[h0]at d9;cases d9),fun j hj=>?_⟩;have:j=i:=by
    have:=List.all_eq_true.1 hf j hj
    simpa using this
   subst this;have hzz:j=z:=by simpa using hz
   exact⟨o,ho,hw,qP (fun v w' h'=>⟨fun hne=>absurd hzz hne,by simpa using hE,h'⟩) h⟩
  | cons j r =>
   simp only[yI,Bool.and_eq_true]at hB;obtain⟨⟨⟨hr,hf⟩,hz⟩,hB'⟩:=hB;have d9:i∈Region.ready md ops listed:=by simpa using hr
   have vQ:i≠z:=by simpa using hz
   obtain⟨o,ho,hw,h⟩:=h;have Vb:=U9 hcl d9;by_cases hs:sp.contains i=true
   ·rw[if_pos hs]at hf h
    refine⟨fun h0=>(by rw[h0]at d9;cases d9),fun k hk=>?_⟩;have:k=i:=by
     have:=List.all_eq_true.1 hf k hk
     simpa using this
    subst this;exact⟨o,ho,hw,qP (fun v w' ⟨⟨x',hx'⟩,h'⟩=>by subst hx';exact⟨fun _=>⟨x',rfl⟩,ih _ _ x' Vb hB' h'⟩) h⟩
   ·rw[if_neg hs]at hf h
    simp only[Bool.and_eq_true]at hf;obtain⟨v,hv,hK⟩:=h;exact agr ho vQ n hf.2 (Region.noSelect_spec hsel) (j::r).length listed a x hcl (Region.free_spec ho hf.1) d9 ⟨hw,hv⟩ (ih _ _ x Vb hB' hK)
theorem agt (n:Nat):wj md ops (Array.replicate n false):=by
 intro j oj _ hl;exfalso;rw[Array.getD_eq_getD_getElem?]at hl;by_cases h:j<n
 ·simp[h]at hl
 ·simp[h]at hl
theorem yF {id:Nat} {Q:Exit->Act->World->Prop} {a:Act} {w:World} {l:List Oper} (sp:List Nat) (z n:Nat) (ord:List Nat) (hm:P.follows .mixedOrders=true)
  (hB:(Region.noSelect l.toArray&&(ord.length==l.length)&&yI .any l.toArray sp z n ord (Array.replicate l.toArray.size false))=true)
  (x0:X) (hx0:val x0 = { w with drawn:=w.drawn+1 })
  (h:ru P l.toArray val sp (Q .normal) ord a (val x0)):(Code.region id l.toArray true).wp P Q a w:=by
 simp only[Bool.and_eq_true,beq_iff_eq]at hB;obtain⟨⟨hsel,hlen⟩,hB⟩:=hB;refine wp_region_any hm ?_;have T:=agq (Q':=Q) _ _ _ _ (ags (md:=.any) hsel ord _ a x0 (agt _) hB h);rw[hlen,hx0]at T;simpa using T
end
theorem xy {P:Program} {X:Type} (val:X->World) {id:Nat} {Q:Exit->Act->World->Prop} {a:Act} {w:World} {l:List Oper} (hm:P.follows .mixedOrders=true) (hB:Region.lexB .any l.toArray=true)
  (x0:X) (hx0:val x0 = { w with drawn:=w.drawn+1 })
  (h:wpQuiet P l.toArray (fun w'=>∃ x,w'=val x) (fun a'=>∀ x,Q .normal a' (val x)) l a):(Code.region id l.toArray true).wp P Q a w:=by
 refine wp_region_quiet (C:=fun w'=>∃ x,w'=val x) hm hB ⟨x0,hx0.symm⟩ ?_;have hq:(fun a':Act=>∀ w',(∃ x,w'=val x)->Q .normal a' w')=(fun a'=>∀ x,Q .normal a' (val x)):=by
  funext a';exact propext ⟨fun h x=>h _ ⟨x,rfl⟩,fun h w' ⟨x,hx⟩=>hx▸h x⟩
 rw[hq];simpa using h
end Go.Proofs.YtjolccidheflpaaGreatDoor
