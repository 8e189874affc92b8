/- A law for a walk, of every program: as in Many, where operations behind a guard that is not so are passed by. -/
import Derived.Test.YtidahfhingdlmaaGreatDoorU08
namespace Go.Proofs.YtidahfhingdlmaaGreatDoor
open Go
section
variable {P:Program} {ops:Array Oper} {md:Region.Mode} {X:Type} {val:X→World}
def mOpN (P:Program) (ops:Array Oper) (i:Nat) (K:Act→World→Prop) (a:Act) (w:World):Prop :=
 ∃ o,ops[i]? = some o∧((Region.wanted o (yielded ops a.tmps) = true∧upM P (fun v w'=>K (a.put o.dst v) w') ((execOp a.eval o).run P w))∨(Region.wanted o (yielded ops a.tmps) = false∧K (a.put o.dst undef) w))
theorem mOpN_mono {i:Nat} {a:Act} {w:World} {K K':Act→World→Prop} (h:∀ a w,K a w→K' a w) (hh:mOpN P ops i K a w):mOpN P ops i K' a w:=by
 obtain ⟨o,h1,⟨h2,h3⟩ | ⟨h2,h3⟩⟩:=hh
 ·exact ⟨o,h1,.inl ⟨h2,upM_mono (fun v w' hk=>h _ _ hk) h3⟩⟩
 ·exact ⟨o,h1,.inr ⟨h2,h _ _ h3⟩⟩
def YN (P:Program) (ops:Array Oper) (val:X→World) (o:Oper) (v:Value) (a:Act):Prop :=
 (Region.wanted o (yielded ops a.tmps) = true∧∀ x,isRd (val x) v ((execOp a.eval o).run P (val x)))∨(Region.wanted o (yielded ops a.tmps) = false∧v = undef)
theorem YN.of_same {o:Oper} {v:Value} {a a':Act} (hy:YN P ops val o v a) (he:execOp a'.eval o = execOp a.eval o)
  (hw:Region.wanted o (yielded ops a'.tmps) = Region.wanted o (yielded ops a.tmps)):YN P ops val o v a':=by
 unfold YN at *
 rw [he,hw]
 exact hy
theorem YN.mOpN {i:Nat} {o:Oper} {v:Value} {a:Act} {x:X} {K:Act→World→Prop} (hi:ops[i]? = some o) (hy:YN P ops val o v a) (h:K (a.put o.dst v) (val x)):mOpN P ops i K a (val x):=by
 rcases hy with ⟨h1,h2⟩ | ⟨h1,h2⟩
 ·exact ⟨o,hi,.inl ⟨h1,upM_of_rd (h2 x) h⟩⟩
 ·subst h2;exact ⟨o,hi,.inr ⟨h1,h⟩⟩
theorem mOpN_put {j:Nat} {oi oj:Oper} {v:Value} (hj:ops[j]? = some oj) (hap:oi.apart ops oj = true)
  (hsi:∀ cs b,oi.op≠.select cs b) (hsj:∀ cs b,oj.op≠.select cs b) {K:Act→World→Prop} {a:Act} {w:World}
  (hy:YN P ops val oi v a) (h:mOpN P ops j K (a.put oi.dst v) w) :
  mOpN P ops j (fun a' w'=>YN P ops val oi v a'∧K (a'.put oi.dst v) w') a w:=by
 obtain ⟨h1,h2,h3⟩:=Oper.apart_spec hap
 obtain ⟨o,ho,hu⟩:=h
 obtain rfl:=Option.some.inj (hj.symm.trans ho)
 rw [wanted_put oj a oi.dst v h1,execOp_put oj hsj a oi.dst v h1] at hu
 rcases hu with ⟨hw,hu⟩ | ⟨hw,hu⟩
 ·refine ⟨oj,hj,.inl ⟨hw,upM_mono (fun u w' hk=>⟨hy.of_same (execOp_put oi hsi a oj.dst u h3) (wanted_put oi a oj.dst u h3),?_⟩) hu⟩⟩
  rw [← Act.put_comm a v u h2]
  exact hk
 ·refine ⟨oj,hj,.inr ⟨hw,hy.of_same (execOp_put oi hsi a oj.dst undef h3) (wanted_put oi a oj.dst undef h3),?_⟩⟩
  rw [← Act.put_comm a v undef h2]
  exact hu
theorem wpOp_of_mOpN {i:Nat} {a:Act} {w:World} {K K':Act→World→Prop} {Q':Exit→Act→World→Prop} (h:∀ a w,K a w→K' a w) (hh:mOpN P ops i K a w):wpOp P ops Q' i K' a w:=by
 obtain ⟨o,ho,⟨hw,h3⟩ | ⟨hw,h3⟩⟩:=hh
 ·exact wpOp_of_mOp h ⟨o,ho,hw,h3⟩
 ·unfold wpOp
  simp only [ho,hw]
  exact h _ _ h3
def headN (P:Program) (md:Region.Mode) (ops:Array Oper) (val:X→World) (Q:Act→World→Prop):Nat→Array Bool→Act→World→Prop
 | 0,listed,a,w=>Region.ready md ops listed = []∧Q a w
 | f + 1,listed,a,w=>Region.ready md ops listed≠[]∧∀ i∈Region.ready md ops listed,mOpN P ops i (fun a' w'=>(∃ x,val x = w')∧headN P md ops val Q f (listed.setIfInBounds i true) a' w') a w
theorem any_of_headN {Q':Exit→Act→World→Prop} :
  ∀ (f:Nat) (listed:Array Bool) (a:Act) (w:World),headN P md ops val (Q' .normal) f listed a w→wpAny P md ops Q' f listed a w:=by
 intro f
 induction f with
 | zero=>intro listed a w h;exact h
 | succ f ih =>
  intro listed a w h
  exact ⟨fun h0=>absurd h0 h.1,fun i hi=>wpOp_of_mOpN (fun a' w' h'=>ih _ a' w' h'.2) (h.2 i hi)⟩
theorem headN_first {i:Nat} {oi:Oper} {v:Value} {Q:Act→World→Prop} (hi:ops[i]? = some oi) (hsel:∀ (j:Nat) (o:Oper) cs b,ops[j]? = some o→o.op≠.select cs b) :
  ∀ (f:Nat) (listed:Array Bool) (a:Act) (x:X),
   (∀ j oj,ops[j]? = some oj→j≠i→listed.getD j true = false→(∀ e∈oj.after,Region.binds md e = true→e.on≠i)→oi.apart ops oj = true) →
   i∈Region.ready md ops listed→YN P ops val oi v a →
   headN P md ops val Q f (listed.setIfInBounds i true) (a.put oi.dst v) (val x)→headN P md ops val Q (f + 1) listed a (val x):=by
 intro f
 induction f with
 | zero =>
  intro listed a x _ hr hy H
  refine ⟨fun h=>(by rw [h] at hr;cases hr),fun j hj=>?_⟩
  by_cases hji:j = i
  ·subst hji;exact hy.mOpN hi ⟨⟨x,rfl⟩,H⟩
  ·have:=ready_mono hj hji
   rw [H.1] at this
   cases this
 | succ f ih =>
  intro listed a x hfree hr hy H
  have hun:=(mem_ready.1 hr).1
  refine ⟨fun h=>(by rw [h] at hr;cases hr),fun j hj=>?_⟩
  by_cases hji:j = i
  ·subst hji;exact hy.mOpN hi ⟨⟨x,rfl⟩,H⟩
  ·obtain ⟨hjun,oj,hoj,hall⟩:=mem_ready.1 hj
   have hnot:∀ e∈oj.after,Region.binds md e = true→e.on≠i:=fun e he hb heq=>by
    have h1:=hall e he hb
    rw [heq,getD_both hun] at h1
    cases h1
   have h2:=mOpN_put hoj (hfree j oj hoj hji hjun hnot) (fun cs b=>hsel i oi cs b hi) (fun cs b=>hsel j oj cs b hoj) hy (H.2 j (ready_mono hj hji))
   refine mOpN_mono (fun a' w' h3=>?_) h2
   obtain ⟨hy',⟨x',hx'⟩,h4⟩:=h3
   subst hx'
   refine ⟨⟨x',rfl⟩,ih (listed.setIfInBounds j true) a' x' (fun k ok hk hki hu hno=>hfree k ok hk hki ?_ hno) (ready_mono hr (Ne.symm hji)) hy' ?_⟩
   ·by_cases hjk:j = k
    ·subst hjk;exact hjun
    ·rw [getD_set_ne true hjk] at hu;exact hu
   ·rw [Array.setIfInBounds_comm _ _ hji];exact h4
def walkN (P:Program) (ops:Array Oper) (val:X→World) (sp:List Nat) (Q:Act→World→Prop):List Nat→Act→World→Prop
 | [],a,w=>Q a w
 | i :: r,a,w=>∃ o,ops[i]? = some o∧((Region.wanted o (yielded ops a.tmps) = false∧walkN P ops val sp Q r (a.put o.dst undef) w)∨(Region.wanted o (yielded ops a.tmps) = true ∧
   if sp.contains i = true then upM P (fun v w'=>(∃ x,val x = w')∧walkN P ops val sp Q r (a.put o.dst v) w') ((execOp a.eval o).run P w)
   else ∃ v,(∀ x,isRd (val x) v ((execOp a.eval o).run P (val x)))∧walkN P ops val sp Q r (a.put o.dst v) w))
theorem walkN_nil {sp:List Nat} {Q:Act→World→Prop} {a:Act} {w:World} (h:Q a w):walkN P ops val sp Q [] a w:=h
theorem walkN_read {sp:List Nat} {Q:Act→World→Prop} {i:Nat} {r:List Nat} {a:Act} {w:World} {o:Oper} (ho:ops[i]? = some o) (hs:sp.contains i = false)
  (h:∀ K:Act→Prop,(∀ a,walkN P ops val sp Q r a w→K a)→Region.wanted o (yielded ops a.tmps) = true∧∃ v,(∀ x,isRd (val x) v ((execOp a.eval o).run P (val x)))∧K (a.put o.dst v)):walkN P ops val sp Q (i :: r) a w:=by
 obtain ⟨h1,v,h2,h3⟩:=h _ (fun _ h=>h)
 refine ⟨o,ho,.inr ⟨h1,?_⟩⟩
 rw [if_neg (by rw [hs];simp)]
 exact ⟨v,h2,h3⟩
theorem walkN_skip {sp:List Nat} {Q:Act→World→Prop} {i:Nat} {r:List Nat} {a:Act} {w:World} {o:Oper} (ho:ops[i]? = some o)
  (h:∀ K:Act→Prop,(∀ a,walkN P ops val sp Q r a w→K a)→Region.wanted o (yielded ops a.tmps) = false∧K (a.put o.dst undef)):walkN P ops val sp Q (i :: r) a w:=by
 obtain ⟨h1,h2⟩:=h _ (fun _ h=>h)
 exact ⟨o,ho,.inl ⟨h1,h2⟩⟩
theorem walkN_call {sp:List Nat} {Q:Act→World→Prop} {i:Nat} {r:List Nat} {a:Act} {w:World} {o:Oper} (ho:ops[i]? = some o) (hs:sp.contains i = true)
  (h:∀ K:Act→World→Prop,(∀ a w,walkN P ops val sp Q r a w→K a w)→Region.wanted o (yielded ops a.tmps) = true∧upM P (fun v w'=>(∃ x,val x = w')∧K (a.put o.dst v) w') ((execOp a.eval o).run P w)):walkN P ops val sp Q (i :: r) a w:=by
 obtain ⟨h1,h2⟩:=h _ (fun _ _ h=>h)
 refine ⟨o,ho,.inr ⟨h1,?_⟩⟩
 rw [if_pos hs]
 exact h2
theorem headN_ord {sp:List Nat} {Q:Act→World→Prop} (hsel:Region.noSelect ops = true) :
  ∀ (ord:List Nat) (listed:Array Bool) (a:Act) (x:X),ordB md ops sp ord listed = true→walkN P ops val sp Q ord a (val x)→headN P md ops val Q ord.length listed a (val x):=by
 intro ord
 induction ord with
 | nil =>
  intro listed a x hB h
  exact ⟨by simpa [ordB] using hB,h⟩
 | cons i r ih =>
  intro listed a x hB h
  simp only [ordB,Bool.and_eq_true] at hB
  obtain ⟨⟨hr,hf⟩,hB'⟩:=hB
  have hr':i∈Region.ready md ops listed:=by simpa using hr
  obtain ⟨o,ho,h⟩:=h
  by_cases hs:sp.contains i = true
  ·rw [if_pos hs] at hf h
   refine ⟨fun h0=>(by rw [h0] at hr';cases hr'),fun j hj=>?_⟩
   have:j = i:=by
    have:=List.all_eq_true.1 hf j hj
    simpa using this
   subst this
   rcases h with ⟨hw,h⟩ | ⟨hw,h⟩
   ·exact ⟨o,ho,.inr ⟨hw,⟨x,rfl⟩,ih _ _ x hB' h⟩⟩
   ·exact ⟨o,ho,.inl ⟨hw,upM_mono (fun v w' ⟨⟨x',hx'⟩,h'⟩=>by subst hx';exact ⟨⟨x',rfl⟩,ih _ _ x' hB' h'⟩) h⟩⟩
  ·rw [if_neg hs] at hf h
   rcases h with ⟨hw,hK⟩ | ⟨hw,v,hv,hK⟩
   ·exact headN_first ho (Region.noSelect_spec hsel) r.length listed a x (Region.free_spec ho hf) hr' (.inr ⟨hw,rfl⟩) (ih _ _ x hB' hK)
   ·exact headN_first ho (Region.noSelect_spec hsel) r.length listed a x (Region.free_spec ho hf) hr' (.inl ⟨hw,hv⟩) (ih _ _ x hB' hK)
theorem region_many_skip {id:Nat} {Q:Exit→Act→World→Prop} {a:Act} {w:World} {l:List Oper} (sp ord:List Nat) (hm:P.follows .mixedOrders = true)
  (hB:(Region.noSelect l.toArray&&(ord.length == l.length)&&ordB .any l.toArray sp ord (Array.replicate l.toArray.size false)) = true)
  (x0:X) (hx0:val x0 = { w with drawn:=w.drawn + 1 })
  (h:walkN P l.toArray val sp (Q .normal) ord a (val x0)):(Code.region id l.toArray true).wp P Q a w:=by
 simp only [Bool.and_eq_true,beq_iff_eq] at hB
 obtain ⟨⟨hsel,hlen⟩,hB⟩:=hB
 refine wp_region_any hm ?_
 have T:=any_of_headN (Q':=Q) _ _ _ _ (headN_ord (md:=.any) hsel ord _ a x0 hB h)
 rw [hlen,hx0] at T
 simpa using T
end
end Go.Proofs.YtidahfhingdlmaaGreatDoor
