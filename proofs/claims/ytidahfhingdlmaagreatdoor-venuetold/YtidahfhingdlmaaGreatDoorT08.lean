/- A law for a walk, of every program: a region that draws its order, whose first n operations only read (they may draw), and whose last ones wait for all of these and come one behind the other: one walk, in the order of the text, serves every order. -/
import Derived.Deep.QuietTactic
import Derived.BigQuiet
import Derived.StillTail
namespace Go.Proofs.YtidahfhingdlmaaGreatDoor
open Go
section
variable {P:Program} {ops:Array Oper} {md:Region.Mode} {C:World→Prop}
def headQ (P:Program) (md:Region.Mode) (ops:Array Oper) (C:World→Prop) (n:Nat) (L:Array Bool→Act→Prop):Nat→Array Bool→Act→Prop
 | 0,listed,a=>L listed a
 | f + 1,listed,a=>Region.ready md ops listed≠[]∧∀ i∈Region.ready md ops listed,i < n∧qOp P ops C i (headQ P md ops C n L f (listed.setIfInBounds i true)) a
theorem any_of_headQ {n g:Nat} {L:Array Bool→Act→Prop} {Q':Exit→Act→World→Prop} (hL:∀ listed a w,C w→L listed a→wpAny P md ops Q' g listed a w) :
  ∀ (f:Nat) (listed:Array Bool) (a:Act) (w:World),C w→headQ P md ops C n L f listed a→wpAny P md ops Q' (f + g) listed a w:=by
 intro f
 induction f with
 | zero=>intro listed a w hw h;rw [Nat.zero_add];exact hL _ _ _ hw h
 | succ f ih =>
  intro listed a w hw h
  rw [show f + 1 + g = (f + g) + 1 by omega]
  exact ⟨fun h0=>absurd h0 h.1,fun i hi=>wpOp_of_qOp hw (fun a' w' hw' h'=>ih _ a' w' hw' h') (h.2 i hi).2⟩
theorem headQ_first {n i:Nat} {oi:Oper} {v:Value} {L:Array Bool→Act→Prop} (hi:ops[i]? = some oi) (hsel:∀ (j:Nat) (o:Oper) cs b,ops[j]? = some o→o.op≠.select cs b)
  (hs:Region.sinkB md ops n = true) (hc:Region.chainB md ops n = true) (hn:n < ops.size) (hin:i < n)
  (hdone:∀ listed a,L listed a→∀ j∈Region.ready md ops listed,n≤j) :
  ∀ (f:Nat) (listed:Array Bool) (a:Act),HeadInv md ops n listed →
   (∀ j oj,ops[j]? = some oj→j≠i→listed.getD j true = false→(∀ e∈oj.after,Region.binds md e = true→e.on≠i)→oi.apart ops oj = true) →
   i∈Region.ready md ops listed→YieldsIn P ops C oi v a →
   headQ P md ops C n L f (listed.setIfInBounds i true) (a.put oi.dst v)→headQ P md ops C n L (f + 1) listed a:=by
 intro f
 induction f with
 | zero =>
  intro listed a inv _ hr hy H
  have hun:=(mem_ready.1 hr).1
  refine ⟨fun h=>(by rw [h] at hr;cases hr),fun j hj=>?_⟩
  have hjn:j < n:=Nat.lt_of_not_le fun h=>tail_waits hs hc hn inv _ i rfl hin hun j h hj
  refine ⟨hjn,?_⟩
  by_cases hji:j = i
  ·subst hji;exact hy.qOp hi H
  ·exact absurd (hdone _ _ H j (ready_mono hj hji)) (by omega)
 | succ f ih =>
  intro listed a inv hfree hr hy H
  have hun:=(mem_ready.1 hr).1
  refine ⟨fun h=>(by rw [h] at hr;cases hr),fun j hj=>?_⟩
  have hjn:j < n:=Nat.lt_of_not_le fun h=>tail_waits hs hc hn inv _ i rfl hin hun j h hj
  refine ⟨hjn,?_⟩
  by_cases hji:j = i
  ·subst hji;exact hy.qOp hi H
  ·obtain ⟨hjun,oj,hoj,hall⟩:=mem_ready.1 hj
   have hnot:∀ e∈oj.after,Region.binds md e = true→e.on≠i:=fun e he hb heq=>by
    have h1:=hall e he hb
    rw [heq,getD_both hun] at h1
    cases h1
   have h2:=qOp_put hoj (hfree j oj hoj hji hjun hnot) (fun cs b=>hsel i oi cs b hi) (fun cs b=>hsel j oj cs b hoj) hy (H.2 j (ready_mono hj hji)).2
   refine qOp_mono (fun a' h3=>ih (listed.setIfInBounds j true) a' (inv.set hj hjn) (fun k ok hk hki hu hno=>hfree k ok hk hki ?_ hno) (ready_mono hr (Ne.symm hji)) h3.1 ?_) h2
   ·by_cases hjk:j = k
    ·subst hjk;exact hjun
    ·rw [getD_set_ne true hjk] at hu;exact hu
   ·rw [Array.setIfInBounds_comm _ _ hji];exact h3.2
theorem headQ_lex {n g:Nat} {Lq:Act→Prop} (hsel:Region.noSelect ops = true) (hs:Region.sinkB md ops n = true) (hc:Region.chainB md ops n = true) (hn:n < ops.size) :
  ∀ (l:List Oper) (k:Nat) (listed:Array Bool) (a:Act),(∀ j,j < l.length→l[j]? = ops[k + j]?)→k + l.length = n→HeadInv md ops n listed →
  Region.lexHead md ops g l.length k listed = true→wpQuiet P ops C Lq l a →
  headQ P md ops C n (fun listed' a'=>Region.seqB md ops g n listed' = true∧Lq a') l.length listed a:=by
 intro l
 induction l with
 | nil =>
  intro k listed a _ hk _ hB h
  obtain rfl:k = n:=by simpa using hk
  exact ⟨by simpa [Region.lexHead] using hB,h⟩
 | cons o l ih =>
  intro k listed a hl hk inv hB h
  have h0:ops[k]? = some o:=by simpa using (hl 0 (by simp)).symm
  simp only [List.length_cons,Region.lexHead,Bool.and_eq_true] at hB
  obtain ⟨⟨hr,hf⟩,hB'⟩:=hB
  have hkn:k < n:=by simp only [List.length_cons] at hk;omega
  have hr':k∈Region.ready md ops listed:=by simpa using hr
  obtain ⟨v,hy,hK⟩:=yieldsIn_of_qOp (C:=C) (K:=wpQuiet P ops C Lq l) h0 (by unfold qOp;simp only [h0];exact h)
  refine headQ_first h0 (Region.noSelect_spec hsel) hs hc hn hkn (fun listed' a' hL=>seqB_ready hL.1) l.length listed a inv (Region.free_spec h0 hf) hr' hy (ih (k + 1) _ _ (fun j hj=>?_) ?_ (inv.set hr' hkn) hB' hK)
  ·have:=hl (j + 1) (by simp;omega)
   simpa [Nat.add_assoc,Nat.add_comm 1 j] using this
  ·simp only [List.length_cons] at hk;omega
theorem region_quiet_tail {id:Nat} {Q:Exit→Act→World→Prop} {a:Act} {w:World} {l:List Oper} (n:Nat) (hm:P.follows .mixedOrders = true) (hB:Region.lexTailB .any l.toArray n = true)
  (h:wpQuiet P l.toArray (fun w'=>∃ m,w' = w.drewN m) (fun a'=>∀ w',(∃ m,w' = w.drewN m)→wpList P l.toArray Q (l.drop n) a' w') (l.take n) a):(Code.region id l.toArray true).wp P Q a w:=by
 simp only [Region.lexTailB,Bool.and_eq_true,decide_eq_true_eq] at hB
 obtain ⟨⟨⟨⟨hsel,hn⟩,hs⟩,hc⟩,hlex⟩:=hB
 have hn':n < l.length:=by simpa using hn
 have htl:(l.take n).length = n:=by simp;omega
 have hdl:(l.drop n).length = l.toArray.size - n:=by simp
 have inv0:HeadInv .any l.toArray n (Array.replicate l.toArray.size false) :=
  ⟨by simp,fun j oj _ hj=>(by rw [getD_replicate_false] at hj;cases hj),fun t _ ht=>getD_in (by simpa using ht) (getD_replicate_false _ _)⟩
 have H:=headQ_lex (md:=.any) (g:=l.toArray.size - n) hsel hs hc hn (l.take n) 0 _ a (fun j hj=>by rw [htl] at hj;simp [hj]) (by simpa using htl) inv0 (by rw [htl];exact hlex) h
 refine wp_region_any hm ?_
 have T:=any_of_headQ (Q':=Q) (g:=l.toArray.size - n) (fun listed a' w' hw' hL=>by
  have:=wpAny_of_seq (md:=.any) (Q':=Q) (l.drop n) n listed a' w' (fun j=>by simp [List.getElem?_drop]) (by rw [hdl];exact hL.1) (hL.2 w' hw')
  rwa [hdl] at this) _ _ _ { w with drawn:=w.drawn + 1 } ⟨1,rfl⟩ H
 rw [htl,show n + (l.toArray.size - n) = l.toArray.size by omega] at T
 exact T
end
section
variable {P:Program} {ops:Array Oper} {md:Region.Mode} {X:Type} {val:X→World}
def upM (P:Program) (K:Value→World→Prop):Result Next→Prop
 | .ok (.value u) w'=>K u w'
 | .ok .skip w'=>K undef w'
 | .ok (.enter f args) w'=>Calls P f args w' (fun e w''=>∃ v,e = .returned v∧K v w'')
 | _=>False
def isRd (w:World) (v:Value):Result Next→Prop
 | .ok (.value u) w'=>w' = w∧u = v
 | .ok .skip w'=>w' = w∧v = undef
 | _=>False
theorem upM_mono {K K':Value→World→Prop} (h:∀ v w,K v w→K' v w) {r:Result Next} (hh:upM P K r):upM P K' r:=by
 cases r with
 | ok n w' =>
  cases n <;> simp only [upM] at hh ⊢
  case value u=>exact h _ _ hh
  case skip=>exact h _ _ hh
  case enter f args=>exact hh.mono fun e w'' ⟨v,h1,h2⟩=>⟨v,h1,h _ _ h2⟩
 | halt x w'=>simp only [upM] at hh
theorem upM_of_rd {K:Value→World→Prop} {w:World} {v:Value} {r:Result Next} (h:isRd w v r) (hk:K v w):upM P K r:=by
 cases r with
 | ok n w' =>
  cases n <;> simp only [isRd] at h <;> simp only [upM]
  case value u=>obtain ⟨rfl,rfl⟩:=h;exact hk
  case skip=>obtain ⟨rfl,rfl⟩:=h;exact hk
 | halt x w'=>simp only [isRd] at h
def mOp (P:Program) (ops:Array Oper) (i:Nat) (K:Act→World→Prop) (a:Act) (w:World):Prop :=
 ∃ o,ops[i]? = some o∧Region.wanted o (yielded ops a.tmps) = true∧upM P (fun v w'=>K (a.put o.dst v) w') ((execOp a.eval o).run P w)
theorem mOp_mono {i:Nat} {a:Act} {w:World} {K K':Act→World→Prop} (h:∀ a w,K a w→K' a w) (hh:mOp P ops i K a w):mOp P ops i K' a w:=by
 obtain ⟨o,h1,h2,h3⟩:=hh
 exact ⟨o,h1,h2,upM_mono (fun v w' hk=>h _ _ hk) h3⟩
def YM (P:Program) (ops:Array Oper) (val:X→World) (o:Oper) (v:Value) (a:Act):Prop :=
 Region.wanted o (yielded ops a.tmps) = true∧∀ x,isRd (val x) v ((execOp a.eval o).run P (val x))
theorem YM.of_same {o:Oper} {v:Value} {a a':Act} (hy:YM P ops val o v a) (he:execOp a'.eval o = execOp a.eval o)
  (hw:Region.wanted o (yielded ops a'.tmps) = Region.wanted o (yielded ops a.tmps)):YM P ops val o v a':=by
 unfold YM at *
 rw [he,hw]
 exact hy
theorem YM.mOp {i:Nat} {o:Oper} {v:Value} {a:Act} {x:X} {K:Act→World→Prop} (hi:ops[i]? = some o) (hy:YM P ops val o v a) (h:K (a.put o.dst v) (val x)):mOp P ops i K a (val x) :=
 ⟨o,hi,hy.1,upM_of_rd (hy.2 x) h⟩
theorem mOp_put {j:Nat} {oi oj:Oper} {v:Value} (hj:ops[j]? = some oj) (hap:oi.apart ops oj = true)
  (hsi:∀ cs b,oi.op≠.select cs b) (hsj:∀ cs b,oj.op≠.select cs b) {K:Act→World→Prop} {a:Act} {w:World}
  (hy:YM P ops val oi v a) (h:mOp P ops j K (a.put oi.dst v) w) :
  mOp P ops j (fun a' w'=>YM P ops val oi v a'∧K (a'.put oi.dst v) w') a w:=by
 obtain ⟨h1,h2,h3⟩:=Oper.apart_spec hap
 obtain ⟨o,ho,hw,hu⟩:=h
 obtain rfl:=Option.some.inj (hj.symm.trans ho)
 rw [wanted_put oj a oi.dst v h1] at hw
 rw [execOp_put oj hsj a oi.dst v h1] at hu
 refine ⟨oj,hj,hw,upM_mono (fun u w' hk=>⟨hy.of_same (execOp_put oi hsi a oj.dst u h3) (wanted_put oi a oj.dst u h3),?_⟩) hu⟩
 rw [← Act.put_comm a v u h2]
 exact hk
theorem wpOp_of_mOp {i:Nat} {a:Act} {w:World} {K K':Act→World→Prop} {Q':Exit→Act→World→Prop} (h:∀ a w,K a w→K' a w) (hh:mOp P ops i K a w):wpOp P ops Q' i K' a w:=by
 obtain ⟨o,ho,hw,h3⟩:=hh
 unfold wpOp
 simp only [ho,hw,if_true]
 refine .inl ?_
 unfold Oper.wp
 generalize (execOp a.eval o).run P w = r at *
 cases r with
 | ok n w' =>
  cases n <;> simp only [upM] at h3 <;> simp only [Oper.upon]
  case value u=>exact h _ _ h3
  case skip=>exact h _ _ h3
  case enter f args=>exact h3.mono fun e w'' ⟨v,he,hk⟩=>by subst he;exact h _ _ hk
 | halt x w'=>simp only [upM] at h3
def headM (P:Program) (md:Region.Mode) (ops:Array Oper) (val:X→World) (Q:Act→World→Prop):Nat→Array Bool→Act→World→Prop
 | 0,listed,a,w=>Region.ready md ops listed = []∧Q a w
 | f + 1,listed,a,w=>Region.ready md ops listed≠[]∧∀ i∈Region.ready md ops listed,mOp P ops i (fun a' w'=>(∃ x,val x = w')∧headM P md ops val Q f (listed.setIfInBounds i true) a' w') a w
theorem any_of_headM {Q':Exit→Act→World→Prop} :
  ∀ (f:Nat) (listed:Array Bool) (a:Act) (w:World),headM P md ops val (Q' .normal) f listed a w→wpAny P md ops Q' f listed a w:=by
 intro f
 induction f with
 | zero=>intro listed a w h;exact h
 | succ f ih =>
  intro listed a w h
  exact ⟨fun h0=>absurd h0 h.1,fun i hi=>wpOp_of_mOp (fun a' w' h'=>ih _ a' w' h'.2) (h.2 i hi)⟩
theorem headM_first {i:Nat} {oi:Oper} {v:Value} {Q:Act→World→Prop} (hi:ops[i]? = some oi) (hsel:∀ (j:Nat) (o:Oper) cs b,ops[j]? = some o→o.op≠.select cs b) :
  ∀ (f:Nat) (listed:Array Bool) (a:Act) (x:X),
   (∀ j oj,ops[j]? = some oj→j≠i→listed.getD j true = false→(∀ e∈oj.after,Region.binds md e = true→e.on≠i)→oi.apart ops oj = true) →
   i∈Region.ready md ops listed→YM P ops val oi v a →
   headM P md ops val Q f (listed.setIfInBounds i true) (a.put oi.dst v) (val x)→headM P md ops val Q (f + 1) listed a (val x):=by
 intro f
 induction f with
 | zero =>
  intro listed a x _ hr hy H
  refine ⟨fun h=>(by rw [h] at hr;cases hr),fun j hj=>?_⟩
  by_cases hji:j = i
  ·subst hji;exact hy.mOp hi ⟨⟨x,rfl⟩,H⟩
  ·have:=ready_mono hj hji
   rw [H.1] at this
   cases this
 | succ f ih =>
  intro listed a x hfree hr hy H
  have hun:=(mem_ready.1 hr).1
  refine ⟨fun h=>(by rw [h] at hr;cases hr),fun j hj=>?_⟩
  by_cases hji:j = i
  ·subst hji;exact hy.mOp hi ⟨⟨x,rfl⟩,H⟩
  ·obtain ⟨hjun,oj,hoj,hall⟩:=mem_ready.1 hj
   have hnot:∀ e∈oj.after,Region.binds md e = true→e.on≠i:=fun e he hb heq=>by
    have h1:=hall e he hb
    rw [heq,getD_both hun] at h1
    cases h1
   have h2:=mOp_put hoj (hfree j oj hoj hji hjun hnot) (fun cs b=>hsel i oi cs b hi) (fun cs b=>hsel j oj cs b hoj) hy (H.2 j (ready_mono hj hji))
   refine mOp_mono (fun a' w' h3=>?_) h2
   obtain ⟨hy',⟨x',hx'⟩,h4⟩:=h3
   subst hx'
   refine ⟨⟨x',rfl⟩,ih (listed.setIfInBounds j true) a' x' (fun k ok hk hki hu hno=>hfree k ok hk hki ?_ hno) (ready_mono hr (Ne.symm hji)) hy' ?_⟩
   ·by_cases hjk:j = k
    ·subst hjk;exact hjun
    ·rw [getD_set_ne true hjk] at hu;exact hu
   ·rw [Array.setIfInBounds_comm _ _ hji];exact h4
def ordB (md:Region.Mode) (ops:Array Oper) (sp:List Nat):List Nat→Array Bool→Bool
 | [],listed=>(Region.ready md ops listed).isEmpty
 | i :: r,listed=>(Region.ready md ops listed).contains i&&(if sp.contains i then (Region.ready md ops listed).all (· == i) else Region.free md ops listed i)&&ordB md ops sp r (listed.setIfInBounds i true)
def walkM (P:Program) (ops:Array Oper) (val:X→World) (sp:List Nat) (Q:Act→World→Prop):List Nat→Act→World→Prop
 | [],a,w=>Q a w
 | i :: r,a,w=>∃ o,ops[i]? = some o∧Region.wanted o (yielded ops a.tmps) = true ∧
   if sp.contains i = true then upM P (fun v w'=>(∃ x,val x = w')∧walkM P ops val sp Q r (a.put o.dst v) w') ((execOp a.eval o).run P w)
   else ∃ v,(∀ x,isRd (val x) v ((execOp a.eval o).run P (val x)))∧walkM P ops val sp Q r (a.put o.dst v) w
theorem walkM_nil {sp:List Nat} {Q:Act→World→Prop} {a:Act} {w:World} (h:Q a w):walkM P ops val sp Q [] a w:=h
theorem walkM_read {sp:List Nat} {Q:Act→World→Prop} {i:Nat} {r:List Nat} {a:Act} {w:World} {o:Oper} (ho:ops[i]? = some o) (hs:sp.contains i = false)
  (h:∀ K:Act→Prop,(∀ a,walkM P ops val sp Q r a w→K a)→Region.wanted o (yielded ops a.tmps) = true∧∃ v,(∀ x,isRd (val x) v ((execOp a.eval o).run P (val x)))∧K (a.put o.dst v)):walkM P ops val sp Q (i :: r) a w:=by
 obtain ⟨h1,v,h2,h3⟩:=h _ (fun _ h=>h)
 refine ⟨o,ho,h1,?_⟩
 rw [if_neg (by rw [hs];simp)]
 exact ⟨v,h2,h3⟩
theorem walkM_call {sp:List Nat} {Q:Act→World→Prop} {i:Nat} {r:List Nat} {a:Act} {w:World} {o:Oper} (ho:ops[i]? = some o) (hs:sp.contains i = true)
  (h:∀ K:Act→World→Prop,(∀ a w,walkM P ops val sp Q r a w→K a w)→Region.wanted o (yielded ops a.tmps) = true∧upM P (fun v w'=>(∃ x,val x = w')∧K (a.put o.dst v) w') ((execOp a.eval o).run P w)):walkM P ops val sp Q (i :: r) a w:=by
 obtain ⟨h1,h2⟩:=h _ (fun _ _ h=>h)
 refine ⟨o,ho,h1,?_⟩
 rw [if_pos hs]
 exact h2
theorem headM_ord {sp:List Nat} {Q:Act→World→Prop} (hsel:Region.noSelect ops = true) :
  ∀ (ord:List Nat) (listed:Array Bool) (a:Act) (x:X),ordB md ops sp ord listed = true→walkM P ops val sp Q ord a (val x)→headM P md ops val Q ord.length listed a (val x):=by
 intro ord
 induction ord with
 | nil =>
  intro listed a x hB h
  exact ⟨by simpa [ordB] using hB,h⟩
 | cons i r ih =>
  intro listed a x hB h
  simp only [ordB,Bool.and_eq_true] at hB
  obtain ⟨⟨hr,hf⟩,hB'⟩:=hB
  have hr':i∈Region.ready md ops listed:=by simpa using hr
  obtain ⟨o,ho,hw,h⟩:=h
  by_cases hs:sp.contains i = true
  ·rw [if_pos hs] at hf h
   refine ⟨fun h0=>(by rw [h0] at hr';cases hr'),fun j hj=>?_⟩
   have:j = i:=by
    have:=List.all_eq_true.1 hf j hj
    simpa using this
   subst this
   exact ⟨o,ho,hw,upM_mono (fun v w' ⟨⟨x',hx'⟩,h'⟩=>by subst hx';exact ⟨⟨x',rfl⟩,ih _ _ x' hB' h'⟩) h⟩
  ·rw [if_neg hs] at hf h
   obtain ⟨v,hv,hK⟩:=h
   exact headM_first ho (Region.noSelect_spec hsel) r.length listed a x (Region.free_spec ho hf) hr' ⟨hw,hv⟩ (ih _ _ x hB' hK)
theorem region_many_calls {id:Nat} {Q:Exit→Act→World→Prop} {a:Act} {w:World} {l:List Oper} (sp ord:List Nat) (hm:P.follows .mixedOrders = true)
  (hB:(Region.noSelect l.toArray&&(ord.length == l.length)&&ordB .any l.toArray sp ord (Array.replicate l.toArray.size false)) = true)
  (x0:X) (hx0:val x0 = { w with drawn:=w.drawn + 1 })
  (h:walkM P l.toArray val sp (Q .normal) ord a (val x0)):(Code.region id l.toArray true).wp P Q a w:=by
 simp only [Bool.and_eq_true,beq_iff_eq] at hB
 obtain ⟨⟨hsel,hlen⟩,hB⟩:=hB
 refine wp_region_any hm ?_
 have T:=any_of_headM (Q':=Q) _ _ _ _ (headM_ord (md:=.any) hsel ord _ a x0 hB h)
 rw [hlen,hx0] at T
 simpa using T
end
inductive Plan where
 | done
 | read (i:Nat) (p:Plan)
 | one (i:Nat) (p:Plan)
 | two (i:Nat) (p:Plan) (j:Nat) (q:Plan)
def Plan.len:Plan→Nat
 | .done=>0
 | .read _ p=>p.len + 1
 | .one _ p=>p.len + 1
 | .two _ p _ _=>p.len + 1
section
variable {P:Program} {ops:Array Oper} {md:Region.Mode} {X:Type} {val:X→World}
def planB (md:Region.Mode) (ops:Array Oper):Plan→Array Bool→Bool
 | .done,listed=>(Region.ready md ops listed).isEmpty
 | .read i p,listed=>(Region.ready md ops listed).contains i&&Region.free md ops listed i&&planB md ops p (listed.setIfInBounds i true)
 | .one i p,listed=>(Region.ready md ops listed).contains i&&(Region.ready md ops listed).all (· == i)&&planB md ops p (listed.setIfInBounds i true)
 | .two i p j q,listed=>(Region.ready md ops listed).contains i&&(Region.ready md ops listed).all (fun k=>k == i || k == j)&&(p.len == q.len)&&planB md ops p (listed.setIfInBounds i true)&&planB md ops q (listed.setIfInBounds j true)
def spec (P:Program) (ops:Array Oper) (val:X→World) (i:Nat) (K:Act→World→Prop) (a:Act) (w:World):Prop :=
 ∃ o,ops[i]? = some o∧Region.wanted o (yielded ops a.tmps) = true∧upM P (fun v w'=>(∃ x,val x = w')∧K (a.put o.dst v) w') ((execOp a.eval o).run P w)
def walkP (P:Program) (ops:Array Oper) (val:X→World) (Q:Act→World→Prop):Plan→Act→World→Prop
 | .done,a,w=>Q a w
 | .read i p,a,w=>∃ o,ops[i]? = some o∧Region.wanted o (yielded ops a.tmps) = true∧∃ v,(∀ x,isRd (val x) v ((execOp a.eval o).run P (val x)))∧walkP P ops val Q p (a.put o.dst v) w
 | .one i p,a,w=>spec P ops val i (walkP P ops val Q p) a w
 | .two i p j q,a,w=>spec P ops val i (walkP P ops val Q p) a w∧spec P ops val j (walkP P ops val Q q) a w
theorem walkP_done {Q:Act→World→Prop} {a:Act} {w:World} (h:Q a w):walkP P ops val Q .done a w:=h
theorem walkP_read {Q:Act→World→Prop} {i:Nat} {p:Plan} {a:Act} {w:World} {o:Oper} (ho:ops[i]? = some o)
  (h:∀ K:Act→Prop,(∀ a,walkP P ops val Q p a w→K a)→Region.wanted o (yielded ops a.tmps) = true∧∃ v,(∀ x,isRd (val x) v ((execOp a.eval o).run P (val x)))∧K (a.put o.dst v)):walkP P ops val Q (.read i p) a w:=by
 obtain ⟨h1,v,h2,h3⟩:=h _ (fun _ h=>h)
 exact ⟨o,ho,h1,v,h2,h3⟩
theorem spec_step {i:Nat} {K0:Act→World→Prop} {a:Act} {w:World} {o:Oper} (ho:ops[i]? = some o)
  (h:∀ K:Act→World→Prop,(∀ a w,K0 a w→K a w)→Region.wanted o (yielded ops a.tmps) = true∧upM P (fun v w'=>(∃ x,val x = w')∧K (a.put o.dst v) w') ((execOp a.eval o).run P w)):spec P ops val i K0 a w:=by
 obtain ⟨h1,h2⟩:=h _ (fun _ _ h=>h)
 exact ⟨o,ho,h1,h2⟩
theorem headM_plan {Q:Act→World→Prop} (hsel:Region.noSelect ops = true) :
  ∀ (p:Plan) (listed:Array Bool) (a:Act) (x:X),planB md ops p listed = true→walkP P ops val Q p a (val x)→headM P md ops val Q p.len listed a (val x):=by
 intro p
 induction p with
 | done =>
  intro listed a x hB h
  exact ⟨by simpa [planB] using hB,h⟩
 | read i p ih =>
  intro listed a x hB h
  simp only [planB,Bool.and_eq_true] at hB
  obtain ⟨⟨hr,hf⟩,hB'⟩:=hB
  have hr':i∈Region.ready md ops listed:=by simpa using hr
  obtain ⟨o,ho,hw,v,hv,hK⟩:=h
  exact headM_first ho (Region.noSelect_spec hsel) p.len listed a x (Region.free_spec ho hf) hr' ⟨hw,hv⟩ (ih _ _ x hB' hK)
 | one i p ih =>
  intro listed a x hB h
  simp only [planB,Bool.and_eq_true] at hB
  obtain ⟨⟨hr,hf⟩,hB'⟩:=hB
  have hr':i∈Region.ready md ops listed:=by simpa using hr
  obtain ⟨o,ho,hw,h⟩:=h
  refine ⟨fun h0=>(by rw [h0] at hr';cases hr'),fun j hj=>?_⟩
  have:j = i:=by
   have:=List.all_eq_true.1 hf j hj
   simpa using this
  subst this
  exact ⟨o,ho,hw,upM_mono (fun v w' ⟨⟨x',hx'⟩,h'⟩=>by subst hx';exact ⟨⟨x',rfl⟩,ih _ _ x' hB' h'⟩) h⟩
 | two i p j q ihp ihq =>
  intro listed a x hB h
  simp only [planB,Bool.and_eq_true] at hB
  obtain ⟨⟨⟨⟨hr,hf⟩,hlen⟩,hBp⟩,hBq⟩:=hB
  have hl:p.len = q.len:=by simpa using hlen
  have hr':i∈Region.ready md ops listed:=by simpa using hr
  obtain ⟨⟨o,ho,hw,h1⟩,⟨o2,ho2,hw2,h2⟩⟩:=h
  refine ⟨fun h0=>(by rw [h0] at hr';cases hr'),fun k hk=>?_⟩
  have:k = i∨k = j:=by
   have:=List.all_eq_true.1 hf k hk
   simpa using this
  rcases this with rfl | rfl
  ·exact ⟨o,ho,hw,upM_mono (fun v w' ⟨⟨x',hx'⟩,h'⟩=>by subst hx';exact ⟨⟨x',rfl⟩,ihp _ _ x' hBp h'⟩) h1⟩
  ·exact ⟨o2,ho2,hw2,upM_mono (fun v w' ⟨⟨x',hx'⟩,h'⟩=>by
    subst hx'
    have:=ihq _ _ x' hBq h'
    rw [← hl] at this
    exact ⟨⟨x',rfl⟩,this⟩) h2⟩
theorem region_plan {id:Nat} {Q:Exit→Act→World→Prop} {a:Act} {w:World} {l:List Oper} (p:Plan) (hm:P.follows .mixedOrders = true)
  (hB:(Region.noSelect l.toArray&&(p.len == l.length)&&planB .any l.toArray p (Array.replicate l.toArray.size false)) = true)
  (x0:X) (hx0:val x0 = { w with drawn:=w.drawn + 1 })
  (h:walkP P l.toArray val (Q .normal) p a (val x0)):(Code.region id l.toArray true).wp P Q a w:=by
 simp only [Bool.and_eq_true,beq_iff_eq] at hB
 obtain ⟨⟨hsel,hlen⟩,hB⟩:=hB
 refine wp_region_any hm ?_
 have T:=any_of_headM (Q':=Q) _ _ _ _ (headM_plan (md:=.any) hsel p _ a x0 hB h)
 rw [hlen,hx0] at T
 simpa using T
end
section
variable {P:Program} {ops:Array Oper} {X:Type} {val:X→World}
theorem spec_mono {i:Nat} {K K':Act→World→Prop} {a:Act} {w:World} (h:∀ a w,K a w→K' a w) (hh:spec P ops val i K a w):spec P ops val i K' a w:=by
 obtain ⟨o,h1,h2,h3⟩:=hh
 exact ⟨o,h1,h2,upM_mono (fun v w' ⟨hx,hk⟩=>⟨hx,h _ _ hk⟩) h3⟩
theorem walkP_mono {Q Q':Act→World→Prop} (h:∀ a w,Q a w→Q' a w):∀ (p:Plan) (a:Act) (w:World),walkP P ops val Q p a w→walkP P ops val Q' p a w:=by
 intro p
 induction p with
 | done=>intro a w hh;exact h a w hh
 | read i p ih =>
  intro a w hh
  obtain ⟨o,h1,h2,v,h3,h4⟩:=hh
  exact ⟨o,h1,h2,v,h3,ih _ _ h4⟩
 | one i p ih=>intro a w hh;exact spec_mono (fun a w=>ih a w) hh
 | two i p j q ihp ihq=>intro a w hh;exact ⟨spec_mono (fun a w=>ihp a w) hh.1,spec_mono (fun a w=>ihq a w) hh.2⟩
theorem region_join {id:Nat} {Q:Exit→Act→World→Prop} {a:Act} {w:World} {l:List Oper} (Post:Act→World→Prop) (p:Plan) (hm:P.follows .mixedOrders = true)
  (hB:(Region.noSelect l.toArray&&(p.len == l.length)&&planB .any l.toArray p (Array.replicate l.toArray.size false)) = true)
  (x0:X) (hx0:val x0 = { w with drawn:=w.drawn + 1 })
  (h:walkP P l.toArray val Post p a (val x0)) (hp:∀ a w,Post a w→Q .normal a w):(Code.region id l.toArray true).wp P Q a w :=
 region_plan p hm hB x0 hx0 (walkP_mono hp p a _ h)
theorem region_join1 {id:Nat} {Q:Exit→Act→World→Prop} {a:Act} {w:World} {l:List Oper} (G:Nat→World→Prop) (p:Plan) (hm:P.follows .mixedOrders = true)
  (hB:(Region.noSelect l.toArray&&(p.len == l.length)&&planB .any l.toArray p (Array.replicate l.toArray.size false)) = true)
  (x0:X) (hx0:val x0 = { w with drawn:=w.drawn + 1 })
  (h:∃ fr:Nat→Act,walkP P l.toArray val (fun a' w'=>∃ D,a' = fr D∧G D w') p a (val x0)∧∀ D w',G D w'→Q .normal (fr D) w'):(Code.region id l.toArray true).wp P Q a w:=by
 obtain ⟨fr,h1,h2⟩:=h
 exact region_join _ p hm hB x0 hx0 h1 (fun a' w' ⟨D,e,hg⟩=>by subst e;exact h2 D w' hg)
end
section
variable {P:Program} {ops:Array Oper} {md:Region.Mode} {val:Bool→Nat→World} {z m:Nat} {oz:Oper} {p:Value}
def quietF (P:Program) (val:Bool→Nat→World) (o:Oper) (a:Act) (next:Act→Prop):Prop :=
 ∃ v,(∀ b n,o.quietAt P a (fun w=>∃ k,w = val b k) (val b n) v)∧next (a.put o.dst v)
def walkF (P:Program) (ops:Array Oper) (val:Bool→Nat→World) (Q:Act→Prop):List Oper→Act→Prop
 | [],a=>Q a
 | o :: rest,a=>Region.wanted o (yielded ops a.tmps) = true∧quietF P val o a (walkF P ops val Q rest)
theorem walkF_nil {Q:Act→Prop} {a:Act} (h:Q a):walkF P ops val Q [] a:=h
theorem walkF_step {Q:Act→Prop} {a:Act} {o:Oper} {rest:List Oper}
  (h:∀ K:Act→Prop,(∀ a,walkF P ops val Q rest a→K a)→Region.wanted o (yielded ops a.tmps) = true∧quietF P val o a K):walkF P ops val Q (o :: rest) a:=h _ (fun _ h=>h)
def YieldsF (P:Program) (ops:Array Oper) (val:Bool→Nat→World) (o:Oper) (v:Value) (a:Act):Prop:=∀ b,YieldsIn P ops (fun w=>∃ k,w = val b k) o v a
def headZ (P:Program) (md:Region.Mode) (ops:Array Oper) (val:Bool→Nat→World) (z:Nat) (dz:Option Nat) (p:Value) (L:Array Bool→Act→Prop):Nat→Array Bool→Bool→Act→Prop
 | 0,listed,b,a=>b = true∧L listed a
 | f + 1,listed,b,a=>Region.ready md ops listed≠[]∧∀ i∈Region.ready md ops listed,
   (i = z∧b = false∧headZ P md ops val z dz p L f (listed.setIfInBounds i true) true (a.put dz p)) ∨
   (i≠z∧qOp P ops (fun w=>∃ k,w = val b k) i (headZ P md ops val z dz p L f (listed.setIfInBounds i true) b) a)
theorem any_of_headZ {g:Nat} {L:Array Bool→Act→Prop} {Q':Exit→Act→World→Prop} (hz:ops[z]? = some oz) (hzw:oz.guard = none)
  (hzr:∀ (a:Act) n,(execOp a.eval oz).run P (val false n) = .ok (.value p) (val true n))
  (hL:∀ listed a n,L listed a→wpAny P md ops Q' g listed a (val true n)) :
  ∀ (f:Nat) (listed:Array Bool) (b:Bool) (a:Act) (n:Nat),headZ P md ops val z oz.dst p L f listed b a→wpAny P md ops Q' (f + g) listed a (val b n):=by
 intro f
 induction f with
 | zero=>intro listed b a n h;obtain ⟨rfl,h⟩:=h;rw [Nat.zero_add];exact hL _ _ _ h
 | succ f ih =>
  intro listed b a n h
  rw [show f + 1 + g = (f + g) + 1 by omega]
  refine ⟨fun h0=>absurd h0 h.1,fun i hi=>?_⟩
  rcases h.2 i hi with ⟨rfl,rfl,h2⟩ | ⟨_,h2⟩
  ·unfold wpOp
   simp only [hz]
   have hw:Region.wanted oz (yielded ops a.tmps) = true:=by simp [Region.wanted,hzw]
   simp only [hw,if_true,Oper.wp,hzr,Oper.upon]
   exact .inl (ih _ _ _ n h2)
  ·exact wpOp_of_qOp (C:=fun w=>∃ k,w = val b k) ⟨n,rfl⟩ (fun a' w' ⟨k,hk⟩ h'=>hk ▸ ih _ _ a' k h') h2
theorem headZ_first {i:Nat} {oi:Oper} {v:Value} {L:Array Bool→Act→Prop} (hi:ops[i]? = some oi) (hz:ops[z]? = some oz) (hiz:i≠z) (hsel:∀ (j:Nat) (o:Oper) cs b,ops[j]? = some o→o.op≠.select cs b)
  (hdone:∀ listed a,L listed a→∀ j∈Region.ready md ops listed,j = m) (hwait:Region.waitsFor md ops m i = true) :
  ∀ (f:Nat) (listed:Array Bool) (b:Bool) (a:Act),
   (∀ j oj,ops[j]? = some oj→j≠i→listed.getD j true = false→(∀ e∈oj.after,Region.binds md e = true→e.on≠i)→oi.apart ops oj = true) →
   i∈Region.ready md ops listed→YieldsF P ops val oi v a →
   headZ P md ops val z oz.dst p L f (listed.setIfInBounds i true) b (a.put oi.dst v)→headZ P md ops val z oz.dst p L (f + 1) listed b a:=by
 have hnm:∀ (listed:Array Bool),i∈Region.ready md ops listed→m ∉ Region.ready md ops listed:=by
  intro listed hr hm
  obtain ⟨oj,hoj,e,he,hb,hon⟩:=Region.waitsFor_spec hwait
  obtain ⟨_,oj',hoj',hall⟩:=mem_ready.1 hm
  obtain rfl:=Option.some.inj (hoj.symm.trans hoj')
  have h1:=hall e he hb
  rw [hon,getD_both (mem_ready.1 hr).1] at h1
  cases h1
 intro f
 induction f with
 | zero =>
  intro listed b a _ hr hy H
  refine ⟨fun h=>(by rw [h] at hr;cases hr),fun j hj=>?_⟩
  by_cases hji:j = i
  ·subst hji;exact .inr ⟨hiz,(hy b).qOp hi H⟩
  ·have:=hdone _ _ H.2 j (ready_mono hj hji)
   subst this
   exact absurd hj (hnm listed hr)
 | succ f ih =>
  intro listed b a hfree hr hy H
  refine ⟨fun h=>(by rw [h] at hr;cases hr),fun j hj=>?_⟩
  by_cases hji:j = i
  ·subst hji;exact .inr ⟨hiz,(hy b).qOp hi H⟩
  ·obtain ⟨hjun,oj,hoj,hall⟩:=mem_ready.1 hj
   have hnot:∀ e∈oj.after,Region.binds md e = true→e.on≠i:=fun e he hb heq=>by
    have h1:=hall e he hb
    rw [heq,getD_both (mem_ready.1 hr).1] at h1
    cases h1
   have hap:=hfree j oj hoj hji hjun hnot
   have hfree':∀ k ok,ops[k]? = some ok→k≠i→(listed.setIfInBounds j true).getD k true = false→(∀ e∈ok.after,Region.binds md e = true→e.on≠i)→oi.apart ops ok = true:=fun k ok hk hki hu hno=>by
    refine hfree k ok hk hki ?_ hno
    by_cases hjk:j = k
    ·subst hjk;exact hjun
    ·rw [getD_set_ne true hjk] at hu;exact hu
   rcases H.2 j (ready_mono hj hji) with ⟨rfl,rfl,h2⟩ | ⟨hjz,h2⟩
   ·refine .inl ⟨rfl,rfl,ih _ _ _ hfree' (ready_mono hr (Ne.symm hji)) ?_ ?_⟩
    ·obtain rfl:=Option.some.inj (hz.symm.trans hoj)
     obtain ⟨h1,h2',h3⟩:=Oper.apart_spec hap
     intro b'
     exact (hy b').of_same (execOp_put oi (fun cs b=>hsel i oi cs b hi) a oz.dst p h3) (wanted_put oi a oz.dst p h3)
    ·obtain rfl:=Option.some.inj (hz.symm.trans hoj)
     obtain ⟨_,h2',_⟩:=Oper.apart_spec hap
     rw [Array.setIfInBounds_comm _ _ hji,← Act.put_comm a v p h2']
     exact h2
   ·refine .inr ⟨hjz,?_⟩
    obtain ⟨h1,h2',h3⟩:=Oper.apart_spec hap
    have h4:=qOp_put hoj hap (fun cs b=>hsel i oi cs b hi) (fun cs b=>hsel j oj cs b hoj) (hy b) h2
    obtain ⟨u,hyu,hK⟩:=yieldsIn_of_qOp hoj h4
    refine hyu.qOp hoj (ih _ _ _ hfree' (ready_mono hr (Ne.symm hji)) (fun b'=>(hy b').of_same (execOp_put oi (fun cs b=>hsel i oi cs b hi) a oj.dst u h3) (wanted_put oi a oj.dst u h3)) ?_)
    rw [Array.setIfInBounds_comm _ _ hji]
    exact hK.2
def lexZ (md:Region.Mode) (ops:Array Oper) (z m:Nat):Nat→Nat→Array Bool→Bool
 | 0,_,listed=>decide (Region.ready md ops listed = [z])&&Region.seqB md ops 1 m (listed.setIfInBounds z true)
 | f + 1,k,listed=>(Region.ready md ops listed).contains k&&Region.free md ops listed k&&Region.waitsFor md ops m k&&lexZ md ops z m f (k + 1) (listed.setIfInBounds k true)
theorem headZ_lex {Lq:Act→Prop} (hsel:Region.noSelect ops = true) (hz:ops[z]? = some oz) :
  ∀ (l:List Oper) (k:Nat) (listed:Array Bool) (a:Act),(∀ j,j < l.length→l[j]? = ops[k + j]?)→k + l.length = z →
  lexZ md ops z m l.length k listed = true→walkF P ops val (fun a'=>Lq (a'.put oz.dst p)) l a →
  headZ P md ops val z oz.dst p (fun listed' a'=>Region.seqB md ops 1 m listed' = true∧Lq a') (l.length + 1) listed false a:=by
 intro l
 induction l with
 | nil =>
  intro k listed a _ hk hB h
  simp only [List.length_nil,lexZ,Bool.and_eq_true,decide_eq_true_eq] at hB
  refine ⟨by rw [hB.1];simp,fun i hi=>?_⟩
  rw [hB.1] at hi
  have hiz:i = z:=by simpa using hi
  subst hiz
  exact .inl ⟨rfl,rfl,rfl,hB.2,h⟩
 | cons o l ih =>
  intro k listed a hl hk hB h
  have h0:ops[k]? = some o:=by simpa using (hl 0 (by simp)).symm
  simp only [List.length_cons,lexZ,Bool.and_eq_true] at hB
  obtain ⟨⟨⟨hr,hf⟩,hw⟩,hB'⟩:=hB
  have hr':k∈Region.ready md ops listed:=by simpa using hr
  obtain ⟨hwant,v,hv,hK⟩:=h
  have hkz:k≠z:=by simp only [List.length_cons] at hk;omega
  refine headZ_first (m:=m) h0 hz hkz (Region.noSelect_spec hsel) (fun listed' a' hL j hj=>?_) hw (l.length + 1) listed false a (Region.free_spec h0 hf) hr' (v:=v) (fun b=>.inl ⟨hwant,fun w ⟨n,hn⟩=>hn ▸ hv b n⟩) (ih (k + 1) _ _ (fun j hj=>?_) ?_ hB' hK)
  ·have hs:=hL.1
   simp only [Region.seqB,Bool.and_eq_true,decide_eq_true_eq] at hs
   rw [hs.1] at hj
   simpa using hj
  ·have:=hl (j + 1) (by simp;omega)
   simpa [Nat.add_assoc,Nat.add_comm 1 j] using this
  ·simp only [List.length_cons] at hk;omega
theorem region_free_alloc {id:Nat} {Q:Exit→Act→World→Prop} {a:Act} {w:World} {l:List Oper} {o:Oper} (hm:P.follows .mixedOrders = true)
  (hsel:Region.noSelect (l++[oz,o]).toArray = true) (hB:lexZ .any (l++[oz,o]).toArray l.length (l.length + 1) l.length 0 (Array.replicate (l.length + 2) false) = true) (hzw:oz.guard = none)
  (h0:val false 1 = { w with drawn:=w.drawn + 1 })
  (hzr:∀ (a:Act) n,(execOp a.eval oz).run P (val false n) = .ok (.value p) (val true n))
  (h:walkF P (l++[oz,o]).toArray val (fun a'=>∀ n,wpList P (l++[oz,o]).toArray Q [o] (a'.put oz.dst p) (val true n)) l a):(Code.region id (l++[oz,o]).toArray true).wp P Q a w:=by
 have hz:(l++[oz,o]).toArray[l.length]? = some oz:=by simp
 have H:=headZ_lex (md:=.any) (z:=l.length) (m:=l.length + 1) (p:=p) (val:=val) (P:=P) hsel hz (Lq:=fun a'=>∀ n,wpList P (l++[oz,o]).toArray Q [o] a' (val true n)) l 0 (Array.replicate (l.length + 2) false) a
  (fun j hj=>by simp [List.getElem?_append_left hj]) (by simp) hB h
 refine wp_region_any hm ?_
 have T:=any_of_headZ (Q':=Q) (g:=1) hz hzw hzr (fun listed a' n hL=>wpAny_of_seq (md:=.any) (Q':=Q) [o] (l.length + 1) listed a' (val true n) (fun j=>by
  cases j with
  | zero=>simp
  | succ j=>simp;omega) hL.1 (hL.2 n)) (l.length + 1) _ false a 1 H
 rw [h0] at T
 have hsz:(l++[oz,o]).toArray.size = l.length + 1 + 1:=by simp
 rw [hsz]
 exact T
theorem region_free_alloc_lit {id:Nat} {Q:Exit→Act→World→Prop} {a:Act} {w:World} {L:List Oper} {o:Oper} (n:Nat) (hL:L.take n++[oz,o] = L) (hm:P.follows .mixedOrders = true)
  (hsel:Region.noSelect L.toArray = true) (hB:lexZ .any L.toArray (L.take n).length ((L.take n).length + 1) (L.take n).length 0 (Array.replicate ((L.take n).length + 2) false) = true) (hzw:oz.guard = none)
  (h0:val false 1 = { w with drawn:=w.drawn + 1 })
  (hzr:∀ (a:Act) n,(execOp a.eval oz).run P (val false n) = .ok (.value p) (val true n))
  (h:walkF P L.toArray val (fun a'=>∀ n,wpList P L.toArray Q [o] (a'.put oz.dst p) (val true n)) (L.take n) a):(Code.region id L.toArray true).wp P Q a w:=by
 have:=region_free_alloc (id:=id) (Q:=Q) (a:=a) (w:=w) (l:=L.take n) (oz:=oz) (o:=o) (p:=p) (val:=val) (P:=P) hm
 rw [hL] at this
 exact this hsel hB hzw h0 hzr h
end
section
variable {P:Program} {ops:Array Oper} {md:Region.Mode} {X:Type} {val:X→World}
def ClosedL (md:Region.Mode) (ops:Array Oper) (listed:Array Bool):Prop :=
 ∀ j oj,ops[j]? = some oj→listed.getD j false = true→∀ e∈oj.after,Region.binds md e = true→listed.getD e.on false = true
def needsL (md:Region.Mode) (ops:Array Oper):Nat→Nat→Nat→Bool
 | 0,_,_=>false
 | f + 1,j,i=>match ops[j]? with
  | some o=>o.after.any fun e=>Region.binds md e&&(e.on == i || needsL md ops f e.on i)
  | none=>false
theorem needs_listed {listed:Array Bool} (hc:ClosedL md ops listed) {i:Nat}:∀ (f j:Nat),needsL md ops f j i = true→listed.getD j false = true→listed.getD i false = true
 | 0,j,h,_=>by simp [needsL] at h
 | f + 1,j,h,hj=>by
  unfold needsL at h
  cases ho:ops[j]? with
  | none=>rw [ho] at h;simp at h
  | some o =>
   rw [ho] at h
   simp only [Array.any_eq_true'] at h
   obtain ⟨e,he,h2⟩:=h
   simp only [Bool.and_eq_true,Bool.or_eq_true,beq_iff_eq] at h2
   have hl:=hc j o ho hj e he h2.1
   rcases h2.2 with h3 | h3
   ·rw [← h3];exact hl
   ·exact needs_listed hc f e.on h3 hl
theorem ready_needs {listed:Array Bool} (hc:ClosedL md ops listed) {i z:Nat} {f:Nat} (h:needsL md ops f z i = true) (hz:z∈Region.ready md ops listed):listed.getD i false = true:=by
 obtain ⟨_,o,ho,hall⟩:=mem_ready.1 hz
 cases f with
 | zero=>simp [needsL] at h
 | succ f =>
  unfold needsL at h
  rw [ho] at h
  simp only [Array.any_eq_true'] at h
  obtain ⟨e,he,h2⟩:=h
  simp only [Bool.and_eq_true,Bool.or_eq_true,beq_iff_eq] at h2
  have hl:=hall e he h2.1
  rcases h2.2 with h3 | h3
  ·rw [← h3];exact hl
  ·exact needs_listed hc f e.on h3 hl
theorem closed_set {listed:Array Bool} (hc:ClosedL md ops listed) {i:Nat} (hi:i∈Region.ready md ops listed):ClosedL md ops (listed.setIfInBounds i true):=by
 intro j oj hj hl e he hb
 by_cases hij:i = j
 ·subst hij
  obtain ⟨_,o,ho,hall⟩:=mem_ready.1 hi
  obtain rfl:=Option.some.inj (hj.symm.trans ho)
  exact getD_set_true (hall e he hb)
 ·rw [getD_set_ne false hij] at hl
  exact getD_set_true (hc j oj hj hl e he hb)
def headL (P:Program) (md:Region.Mode) (ops:Array Oper) (val:X→World) (z:Nat) (Q:Act→World→Prop):Nat→Array Bool→Act→World→Prop
 | 0,listed,a,w=>Region.ready md ops listed = []∧Q a w
 | f + 1,listed,a,w=>Region.ready md ops listed≠[]∧∀ i∈Region.ready md ops listed,mOp P ops i (fun a' w'=>(i≠z→∃ x,val x = w')∧headL P md ops val z Q f (listed.setIfInBounds i true) a' w') a w
theorem any_of_headL {z:Nat} {Q':Exit→Act→World→Prop} :
  ∀ (f:Nat) (listed:Array Bool) (a:Act) (w:World),headL P md ops val z (Q' .normal) f listed a w→wpAny P md ops Q' f listed a w:=by
 intro f
 induction f with
 | zero=>intro listed a w h;exact h
 | succ f ih =>
  intro listed a w h
  exact ⟨fun h0=>absurd h0 h.1,fun i hi=>wpOp_of_mOp (fun a' w' h'=>ih _ a' w' h'.2) (h.2 i hi)⟩
theorem headL_first {i z:Nat} {oi:Oper} {v:Value} {Q:Act→World→Prop} (hi:ops[i]? = some oi) (hiz:i≠z) (n:Nat) (hnd:needsL md ops n z i = true) (hsel:∀ (j:Nat) (o:Oper) cs b,ops[j]? = some o→o.op≠.select cs b) :
  ∀ (f:Nat) (listed:Array Bool) (a:Act) (x:X),ClosedL md ops listed →
   (∀ j oj,ops[j]? = some oj→j≠i→listed.getD j true = false→(∀ e∈oj.after,Region.binds md e = true→e.on≠i)→oi.apart ops oj = true) →
   i∈Region.ready md ops listed→YM P ops val oi v a →
   headL P md ops val z Q f (listed.setIfInBounds i true) (a.put oi.dst v) (val x)→headL P md ops val z Q (f + 1) listed a (val x):=by
 intro f
 induction f with
 | zero =>
  intro listed a x _ _ hr hy H
  refine ⟨fun h=>(by rw [h] at hr;cases hr),fun j hj=>?_⟩
  by_cases hji:j = i
  ·subst hji;exact hy.mOp hi ⟨fun _=>⟨x,rfl⟩,H⟩
  ·have:=ready_mono hj hji
   rw [H.1] at this
   cases this
 | succ f ih =>
  intro listed a x hcl hfree hr hy H
  have hun:=(mem_ready.1 hr).1
  refine ⟨fun h=>(by rw [h] at hr;cases hr),fun j hj=>?_⟩
  by_cases hji:j = i
  ·subst hji;exact hy.mOp hi ⟨fun _=>⟨x,rfl⟩,H⟩
  ·obtain ⟨hjun,oj,hoj,hall⟩:=mem_ready.1 hj
   have hjz:j≠z:=fun e=>by
    subst e
    have:=ready_needs hcl hnd hj
    rw [getD_both hun] at this
    cases this
   have hnot:∀ e∈oj.after,Region.binds md e = true→e.on≠i:=fun e he hb heq=>by
    have h1:=hall e he hb
    rw [heq,getD_both hun] at h1
    cases h1
   have h2:=mOp_put hoj (hfree j oj hoj hji hjun hnot) (fun cs b=>hsel i oi cs b hi) (fun cs b=>hsel j oj cs b hoj) hy (H.2 j (ready_mono hj hji))
   refine mOp_mono (fun a' w' h3=>?_) h2
   obtain ⟨hy',hx,h4⟩:=h3
   obtain ⟨x',hx'⟩:=hx hjz
   subst hx'
   refine ⟨fun _=>⟨x',rfl⟩,ih (listed.setIfInBounds j true) a' x' (closed_set hcl hj) (fun k ok hk hki hu hno=>hfree k ok hk hki ?_ hno) (ready_mono hr (Ne.symm hji)) hy' ?_⟩
   ·by_cases hjk:j = k
    ·subst hjk;exact hjun
    ·rw [getD_set_ne true hjk] at hu;exact hu
   ·rw [Array.setIfInBounds_comm _ _ hji];exact h4
def ordL (md:Region.Mode) (ops:Array Oper) (sp:List Nat) (z n:Nat):List Nat→Array Bool→Bool
 | [],_=>false
 | [i],listed=>(Region.ready md ops listed).contains i&&(Region.ready md ops listed).all (· == i)&&(i == z)&&(Region.ready md ops (listed.setIfInBounds i true)).isEmpty
 | i :: r,listed=>(Region.ready md ops listed).contains i&&(if sp.contains i then (Region.ready md ops listed).all (· == i) else Region.free md ops listed i&&needsL md ops n z i)&&(i != z)&&ordL md ops sp z n r (listed.setIfInBounds i true)
def walkL (P:Program) (ops:Array Oper) (val:X→World) (sp:List Nat) (Q:Act→World→Prop):List Nat→Act→World→Prop
 | [],a,w=>Q a w
 | [i],a,w=>∃ o,ops[i]? = some o∧Region.wanted o (yielded ops a.tmps) = true∧upM P (fun v w'=>Q (a.put o.dst v) w') ((execOp a.eval o).run P w)
 | i :: r,a,w=>∃ o,ops[i]? = some o∧Region.wanted o (yielded ops a.tmps) = true ∧
   if sp.contains i = true then upM P (fun v w'=>(∃ x,val x = w')∧walkL P ops val sp Q r (a.put o.dst v) w') ((execOp a.eval o).run P w)
   else ∃ v,(∀ x,isRd (val x) v ((execOp a.eval o).run P (val x)))∧walkL P ops val sp Q r (a.put o.dst v) w
theorem walkL_last {sp:List Nat} {Q:Act→World→Prop} {i:Nat} {a:Act} {w:World} {o:Oper} (ho:ops[i]? = some o)
  (h:∀ K:Act→World→Prop,(∀ a w,Q a w→K a w)→Region.wanted o (yielded ops a.tmps) = true∧upM P (fun v w'=>K (a.put o.dst v) w') ((execOp a.eval o).run P w)):walkL P ops val sp Q [i] a w:=by
 obtain ⟨h1,h2⟩:=h _ (fun _ _ h=>h)
 exact ⟨o,ho,h1,h2⟩
theorem walkL_read {sp:List Nat} {Q:Act→World→Prop} {i j:Nat} {r:List Nat} {a:Act} {w:World} {o:Oper} (ho:ops[i]? = some o) (hs:sp.contains i = false)
  (h:∀ K:Act→Prop,(∀ a,walkL P ops val sp Q (j :: r) a w→K a)→Region.wanted o (yielded ops a.tmps) = true∧∃ v,(∀ x,isRd (val x) v ((execOp a.eval o).run P (val x)))∧K (a.put o.dst v)):walkL P ops val sp Q (i :: j :: r) a w:=by
 obtain ⟨h1,v,h2,h3⟩:=h _ (fun _ h=>h)
 refine ⟨o,ho,h1,?_⟩
 rw [if_neg (by rw [hs];simp)]
 exact ⟨v,h2,h3⟩
theorem walkL_call {sp:List Nat} {Q:Act→World→Prop} {i j:Nat} {r:List Nat} {a:Act} {w:World} {o:Oper} (ho:ops[i]? = some o) (hs:sp.contains i = true)
  (h:∀ K:Act→World→Prop,(∀ a w,walkL P ops val sp Q (j :: r) a w→K a w)→Region.wanted o (yielded ops a.tmps) = true∧upM P (fun v w'=>(∃ x,val x = w')∧K (a.put o.dst v) w') ((execOp a.eval o).run P w)):walkL P ops val sp Q (i :: j :: r) a w:=by
 obtain ⟨h1,h2⟩:=h _ (fun _ _ h=>h)
 refine ⟨o,ho,h1,?_⟩
 rw [if_pos hs]
 exact h2
theorem headL_ord {sp:List Nat} {z n:Nat} {Q:Act→World→Prop} (hsel:Region.noSelect ops = true) :
  ∀ (ord:List Nat) (listed:Array Bool) (a:Act) (x:X),ClosedL md ops listed→ordL md ops sp z n ord listed = true→walkL P ops val sp Q ord a (val x)→headL P md ops val z Q ord.length listed a (val x):=by
 intro ord
 induction ord with
 | nil =>
  intro listed a x _ hB h
  simp [ordL] at hB
 | cons i r ih =>
  intro listed a x hcl hB h
  cases r with
  | nil =>
   simp only [ordL,Bool.and_eq_true] at hB
   obtain ⟨⟨⟨hr,hf⟩,hz⟩,hE⟩:=hB
   have hr':i∈Region.ready md ops listed:=by simpa using hr
   obtain ⟨o,ho,hw,h⟩:=h
   refine ⟨fun h0=>(by rw [h0] at hr';cases hr'),fun j hj=>?_⟩
   have:j = i:=by
    have:=List.all_eq_true.1 hf j hj
    simpa using this
   subst this
   have hzz:j = z:=by simpa using hz
   exact ⟨o,ho,hw,upM_mono (fun v w' h'=>⟨fun hne=>absurd hzz hne,by simpa using hE,h'⟩) h⟩
  | cons j r =>
   simp only [ordL,Bool.and_eq_true] at hB
   obtain ⟨⟨⟨hr,hf⟩,hz⟩,hB'⟩:=hB
   have hr':i∈Region.ready md ops listed:=by simpa using hr
   have hiz:i≠z:=by simpa using hz
   obtain ⟨o,ho,hw,h⟩:=h
   have hcl':=closed_set hcl hr'
   by_cases hs:sp.contains i = true
   ·rw [if_pos hs] at hf h
    refine ⟨fun h0=>(by rw [h0] at hr';cases hr'),fun k hk=>?_⟩
    have:k = i:=by
     have:=List.all_eq_true.1 hf k hk
     simpa using this
    subst this
    exact ⟨o,ho,hw,upM_mono (fun v w' ⟨⟨x',hx'⟩,h'⟩=>by subst hx';exact ⟨fun _=>⟨x',rfl⟩,ih _ _ x' hcl' hB' h'⟩) h⟩
   ·rw [if_neg hs] at hf h
    simp only [Bool.and_eq_true] at hf
    obtain ⟨v,hv,hK⟩:=h
    exact headL_first ho hiz n hf.2 (Region.noSelect_spec hsel) (j :: r).length listed a x hcl (Region.free_spec ho hf.1) hr' ⟨hw,hv⟩ (ih _ _ x hcl' hB' hK)
theorem closed_none (n:Nat):ClosedL md ops (Array.replicate n false):=by
 intro j oj _ hl
 exfalso
 rw [Array.getD_eq_getD_getElem?] at hl
 by_cases h:j < n
 ·simp [h] at hl
 ·simp [h] at hl
theorem region_many_last {id:Nat} {Q:Exit→Act→World→Prop} {a:Act} {w:World} {l:List Oper} (sp:List Nat) (z n:Nat) (ord:List Nat) (hm:P.follows .mixedOrders = true)
  (hB:(Region.noSelect l.toArray&&(ord.length == l.length)&&ordL .any l.toArray sp z n ord (Array.replicate l.toArray.size false)) = true)
  (x0:X) (hx0:val x0 = { w with drawn:=w.drawn + 1 })
  (h:walkL P l.toArray val sp (Q .normal) ord a (val x0)):(Code.region id l.toArray true).wp P Q a w:=by
 simp only [Bool.and_eq_true,beq_iff_eq] at hB
 obtain ⟨⟨hsel,hlen⟩,hB⟩:=hB
 refine wp_region_any hm ?_
 have T:=any_of_headL (Q':=Q) _ _ _ _ (headL_ord (md:=.any) hsel ord _ a x0 (closed_none _) hB h)
 rw [hlen,hx0] at T
 simpa using T
end
theorem region_quiet_class {P:Program} {X:Type} (val:X→World) {id:Nat} {Q:Exit→Act→World→Prop} {a:Act} {w:World} {l:List Oper} (hm:P.follows .mixedOrders = true) (hB:Region.lexB .any l.toArray = true)
  (x0:X) (hx0:val x0 = { w with drawn:=w.drawn + 1 })
  (h:wpQuiet P l.toArray (fun w'=>∃ x,w' = val x) (fun a'=>∀ x,Q .normal a' (val x)) l a):(Code.region id l.toArray true).wp P Q a w:=by
 refine wp_region_quiet (C:=fun w'=>∃ x,w' = val x) hm hB ⟨x0,hx0.symm⟩ ?_
 have hq:(fun a':Act=>∀ w',(∃ x,w' = val x)→Q .normal a' w') = (fun a'=>∀ x,Q .normal a' (val x)):=by
  funext a'
  exact propext ⟨fun h x=>h _ ⟨x,rfl⟩,fun h w' ⟨x,hx⟩=>hx ▸ h x⟩
 rw [hq]
 simpa using h
end Go.Proofs.YtidahfhingdlmaaGreatDoor
