/- An intake in memory: a block of six slices and a turn, a row of requests behind each slice; which blocks an act may turn. -/
import Derived.Test.YtjolccidheflpaaGreatDoorW11
import Derived.Test.YtjolccidheflpaaGreatDoorW03
import Derived.OneCell
import Derived.Laws.IdiomCopy
import Derived.Maps.AppendAt
import Derived.Deep.RegionLaw
import Derived.Lib.SliceRun
import Derived.Lib.SmallJoins
import Derived.Deep.QuietTactic
import Derived.BigQuiet
namespace Go.Proofs.YtjolccidheflpaaGreatDoor
set_option maxHeartbeats 8000000
set_option maxRecDepth 100000
open Go.RowKit
def lR (a:Ask):List Value:=[.int .u8 a.k,Qa a.c,Qa a.sq,Qa a.it,Qa a.sd,Qa a.pr,Qa a.q,Qa a.id]
def bm (l:List Ask):List Value:=l.flatMap lR
theorem nI:∀ l:List Ask,(bm l).length=l.length*8
 | []=>rfl
 | x::l=>by
  have:=nI l
  simp only[bm,List.flatMap_cons,List.length_append,List.length_cons]at this ⊢;rw[this];show 8+_=_;omega
theorem uH (a b:List Ask):bm (a++b)=bm a++bm b:=by simp[bm]
theorem Un (l:List Ask) (k:Nat) (h:k<=l.length):(bm l).take (k*8)=bm (l.take k):=by
 have e:bm l=bm (l.take k)++bm (l.drop k):=by rw[<- uH,List.take_append_drop]
 have hl:(bm (l.take k)).length=k*8:=by rw[nI,lKq];congr 1;omega
 rw[e,<- hl,List.take_left]
theorem Uj (l:List Ask) (k:Nat) (h:k<=l.length):(bm l).drop (k*8)=bm (l.drop k):=by
 have e:bm l=bm (l.take k)++bm (l.drop k):=by rw[<- uH,List.take_append_drop]
 have hl:(bm (l.take k)).length=k*8:=by rw[nI,lKq];congr 1;omega
 rw[e,<- hl,List.drop_left]
theorem BL (l:List Ask):∀ u∈bm l,u.oneCell'=true:=by
 intro u hu;simp only[bm,List.mem_flatMap]at hu;obtain⟨x,_,hx⟩:=hu;simp only[lR,List.mem_cons,List.not_mem_nil,or_false]at hx;rcases hx with rfl | rfl | rfl | rfl | rfl | rfl | rfl | rfl <;> rfl
theorem afN (l:List Ask) (i j:Nat) (hi:i<l.length) (hj:j<8):(bm l)[i*8+j]?=(lR (cY l i))[j]?:=by
 have e:bm l=bm (l.take i)++(lR (cY l i)++bm (l.drop (i+1))):=by
  have h2:l=l.take i++(cY l i::l.drop (i+1)):=by
   have:=List.getElem?_eq_some_iff.1 (Ms hi)
   obtain⟨h3,h4⟩:=this;rw[<- h4,List.getElem_cons_drop,List.take_append_drop]
  conv=>lhs;rw[h2]
  rw[uH];rfl
 have hl:(bm (l.take i)).length=i*8:=by rw[nI,lKq];congr 1;omega
 rw[e,List.getElem?_append_right (by omega),hl,show i*8+j-i*8=j by omega,List.getElem?_append_left (by show _<8;exact hj)]
structure aJ (w w':World) (S:Nat->Prop):Prop where
 os:w'.os=w.os
 tape:w'.tape=w.tape
 output:w'.output=w.output
 size:w.heap.size<=w'.heap.size
 block:∀ k,k<w.heap.size->¬ S k->w'.heap[k]?=w.heap[k]?
theorem aJ.refl (w:World) (S:Nat->Prop):aJ w w S:=⟨rfl,rfl,rfl,lRq _,fun _ _ _=>rfl⟩
theorem aJ.of_below {w w':World} (h:Qd w w') (S:Nat->Prop):aJ w w' S:=⟨h.os,h.tape,h.output,h.size,fun k hk _=>h.block k hk⟩
theorem aJ.iM {w w':World} {r:Option Nat} (h:w.grownBy w' r):aJ w w' (fun k=>some k=r):=⟨h.os,h.tape,h.output,h.size,fun k hk h2=>h.block k hk h2⟩
theorem aJ.trans {w w1 w2:World} {S S1:Nat->Prop} (h:aJ w w1 S) (h1:aJ w1 w2 S1) (hs:∀ k,S1 k->S k\/w.heap.size<=k):aJ w w2 S :=
 ⟨h1.os.trans h.os,h1.tape.trans h.tape,h1.output.trans h.output,lTq h.size h1.size,fun k hk hn=>by
  rw[h1.block k (Nat.lt_of_lt_of_le hk h.size) (fun e=>?_)]
  .exact h.block k hk hn
  .rcases hs k e with h3 | h3
   .exact hn h3
   .omega⟩
theorem aJ.mono {w w':World} {S S':Nat->Prop} (h:aJ w w' S) (hs:∀ k,S k->S' k):aJ w w' S':=⟨h.os,h.tape,h.output,h.size,fun k hk hn=>h.block k hk (fun e=>hn (hs k e))⟩
theorem aJ.below {w w':World} {S:Nat->Prop} {n:Nat} (h:aJ w w' S) (hn:n<=w.heap.size) (hs:∀ k,S k->n<=k):Below n w w' :=
 ⟨h.os,h.tape,h.output,h.size,fun k hk=>h.block k (by omega) (fun e=>by have:=hs k e;omega)⟩
theorem aJ.setCell (w:World) (g o:Nat) (v:Value):aJ w (w.setCell (Qb g o) v) (fun k=>k=g) :=
 ⟨rfl,rfl,rfl,by simp,fun k _ ha=>Below.heap_setCell _ _ _ _ (fun e=>ha e)⟩
theorem aJ.setCells (w:World) (g:Nat):∀ (vs:List Value) (o:Nat),aJ w (w.setCells g o vs) (fun k=>k=g):=by
 intro vs
 induction vs generalizing w with
 | nil=>intro o;exact aJ.refl w _
 | cons v vs ih =>
  intro o;exact(aJ.setCell w g o v).trans (ih (w.setCell (Qb g o) v) (o+1)) (fun k h=>.inl h)
theorem eM {w w':World} {S:Nat->Prop} {base:Nat} {e:TypeId} {s:Nat} {v:Value} {n:Nat} {xs:List Value} (hr:w.ownsRow base e s v n xs) (h:aJ w w' S) (ha:∀ k,v.ownBlock=some k->¬ S k):w'.ownsRow base e s v n xs:=by
 refine⟨hr.1,?_⟩;rcases hr.2 with hn | ⟨g,cap,cur,rfl,hg,dX,rest⟩
 .exact .inl hn
 .exact .inr ⟨g,cap,cur,rfl,hg,by rw[h.block g (lBq dX) (ha g rfl)];exact dX,rest⟩
theorem gi {w:World} {base:Nat} {e:TypeId} {s:Nat} {v:Value} {n:Nat} {xs:List Value} (hr:w.ownsRow base e s v n xs):∃ a c,v=.slice a n c:=by
 rcases hr.2 with ⟨rfl,rfl⟩ | ⟨g,cap,cur,rfl,_⟩
 .exact⟨_,_,rfl⟩
 .exact⟨_,_,rfl⟩
def yR (V:Nat->Value) (t:Nat):Array Value:=#[V 0,V 1,V 2,V 3,V 4,V 5,Qa (t:Int)]
theorem Uo (V:Nat->Value) (t:Nat) {c:Nat} (hc:c<6):(yR V t)[c]?=some (V c):=by
 match c,hc with
 | 0,_=>rfl
 | 1,_=>rfl
 | 2,_=>rfl
 | 3,_=>rfl
 | 4,_=>rfl
 | 5,_=>rfl
theorem afO (V:Nat->Value) (t:Nat) {c:Nat} (hc:c<6) (v:Value):(yR V t).setIfInBounds c v=yR (ay.upd V c v) t:=by
 match c,hc with
 | 0,_=>rfl
 | 1,_=>rfl
 | 2,_=>rfl
 | 3,_=>rfl
 | 4,_=>rfl
 | 5,_=>rfl
theorem block_setCell {w:World} {p:Nat} {cur:Array Value} {e:TypeId} {fz:Nat×Nat} (h:w.heap[p]?=some (.cells cur e fz)) (o:Nat) (v:Value):(w.setCell (Qb p o) v).heap[p]?=some (.cells (cur.setIfInBounds o v) e fz):=by
 have hlt:=lBq h;have h':w.heap[p]=.cells cur e fz:=by simpa [Array.getElem?_eq_getElem hlt] using h
 show (w.heap.modify p _)[p]?=_;rw[Array.getElem?_eq_getElem (by simpa using hlt),Array.getElem_modify_self,h'];rfl
def nJ (p:Nat) (V:Nat->Value) (k:Nat):Prop:=k=p\/∃ c,c<6/\(V c).ownBlock=some k
structure dF (w:World) (base p:Nat) (V:Nat->Value) (t:Nat) (L:Nat->List Ask):Prop where
 cell:w.heap[p]?=some (.cells (yR V t) 232 (0,0))
 lo:base<=p
 turn:t<6
 row:∀ c,c<6->w.ownsRow base 95 8 (V c) (L c).length (bm (L c))
 few:∀ c,c<6->(L c).length<=6
 apart:∀ c d,c<6->d<6->c≠d->∀ k,(V c).ownBlock=some k->(V d).ownBlock≠some k
structure iq (w w':World) (p:Nat) (V fh:Nat->Value):Prop where
 turned:aJ w w' (nJ p V)
 new:∀ k,nJ p fh k->nJ p V k\/w.heap.size<=k
section
variable {w w' w2:World} {base p t:Nat} {V fh:Nat->Value} {L:Nat->List Ask}
theorem iq.refl (w:World) (p:Nat) (V:Nat->Value):iq w w p V V:=⟨aJ.refl _ _,fun _ h=>.inl h⟩
theorem iq.of_below (h:Qd w w') (p:Nat) (V:Nat->Value):iq w w' p V V:=⟨aJ.of_below h _,fun _ h=>.inl h⟩
theorem iq.trans {V2:Nat->Value} (h:iq w w' p V fh) (h1:iq w' w2 p fh V2):iq w w2 p V V2 :=
 ⟨h.turned.trans h1.turned h.new,fun k hk=>by
  rcases h1.new k hk with h3 | h3
  .exact h.new k h3
  .exact .inr (lTq h.turned.size h3)⟩
theorem dF.lt (h:dF w base p V t L):p<w.heap.size:=lBq h.cell
theorem dF.fj (h:dF w base p V t L) {k:Nat} (hk:nJ p V k):base<=k/\k<w.heap.size:=by
 rcases hk with rfl | ⟨c,hc,hk⟩
 .exact⟨h.lo,h.lt⟩
 .exact(h.row c hc).lt k hk
theorem Up {e e2:TypeId} {s n:Nat} {v:Value} {xs:List Value} {cur:Array Value} {q:Nat} (hr:w.ownsRow base e s v n xs) (hq:w.heap[q]?=some (.cells cur e2 (0,0))) (hne:e≠e2):v.ownBlock≠some q:=by
 intro h;rcases hr.2 with ⟨e1,_⟩ | ⟨r,cap,lh,e1,_,hr2,_⟩
 .rw[e1]at h;cases h
 .rw[e1]at h
  have:r=q:=by simpa [Value.ownBlock] using h
  rw[this,hq]at hr2;simp at hr2;exact hne hr2.2.symm
theorem dF.ne (h:dF w base p V t L) {c:Nat} (hc:c<6):(V c).ownBlock≠some p:=Up (h.row c hc) h.cell (by decide)
theorem dF.turned {S:Nat->Prop} (h:dF w base p V t L) (ho:aJ w w' S) (hs:∀ k,nJ p V k->¬ S k):dF w' base p V t L :=
 ⟨by rw[ho.block p h.lt (hs p (.inl rfl))];exact h.cell,h.lo,h.turn,fun c hc=>eM (h.row c hc) ho (fun k hk=>hs k (.inr ⟨c,hc,hk⟩)),h.few,h.apart⟩
theorem dF.later (h:dF w base p V t L) (hb:Qd w w'):dF w' base p V t L:=h.turned (aJ.of_below hb (fun _=>False)) (fun _ _ h=>h)
theorem dF.at (h:dF w base p V t L) {c:Nat} (hc:c<6):w.cell? (Qb p c)=some (V c):=by
 rw[cR w p c _ _ _ h.cell];exact Uo V t hc
theorem dF.afG (h:dF w base p V t L):w.cell? (Qb p 6)=some (Qa (t:Int)):=by
 rw[cR w p 6 _ _ _ h.cell];rfl
theorem dF.free (h:dF w base p V t L) (c:Nat):w.frozen? (Qb p c)=false:=by simp[World.frozen?,h.cell]
theorem dF.form (h:dF w base p V t L) {c:Nat} (hc:c<6):∃ a k,V c=.slice a (L c).length k:=gi (h.row c hc)
theorem dF.set (h:dF w base p V t L) {c:Nat} (hc:c<6) (hg:w.grownBy w2 (V c).ownBlock) {v':Value} {l':List Ask} (hr:w2.ownsRow base 95 8 v' l'.length (bm l')) (hf:l'.length<=6) (hn:∀ k,v'.ownBlock=some k->(V c).ownBlock=some k\/w.heap.size<=k) :
  dF (w2.setCell (Qb p c) v') base p (ay.upd V c v') t (ay.upd L c l')/\iq w (w2.setCell (Qb p c) v') p V (ay.upd V c v'):=by
 have hcell:w2.heap[p]?=some (.cells (yR V t) 232 (0,0)):=by rw[hg.block p h.lt (fun e=>h.ne hc e.symm)];exact h.cell
 have hp':v'.ownBlock≠some p:=Up hr hcell (by decide);have hsc:=aJ.setCell w2 p c v';have hrow:∀ d,d<6->d≠c->w2.ownsRow base 95 8 (V d) (L d).length (bm (L d)):=fun d hd hdc =>
  eM (h.row d hd) (aJ.iM hg) (fun k hk e=>h.apart d c hd hc hdc k hk e.symm)
 refine⟨⟨?_,h.lo,h.turn,?_,?_,?_⟩,⟨?_,?_⟩⟩
 .rw[block_setCell hcell,afO V t hc]
 .intro d hd
  by_cases hdc:d=c
  .subst hdc
   rw[ay.upd_same,ay.upd_same];exact eM hr hsc (fun k hk e=>hp' (by rw[hk,e]))
  .rw[ay.p8 _ _ hdc,ay.p8 _ _ hdc]
   exact eM (hrow d hd hdc) hsc (fun k hk e=>h.ne hd (by rw[hk,e]))
 .intro d hd
  by_cases hdc:d=c
  .subst hdc;rw[ay.upd_same];exact hf
  .rw[ay.p8 _ _ hdc];exact h.few d hd
 .intro d e hd he Mu k hk
  have Uq:∀ d,d<6->d≠c->∀ k,v'.ownBlock=some k->(V d).ownBlock≠some k:=fun d hd hdc k hk h3=>by
   rcases hn k hk with h4 | h4
   .exact h.apart d c hd hc hdc k h3 h4
   .have:=((h.row d hd).lt k h3).2
    omega
  by_cases hdc:d=c
  .subst hdc
   rw[ay.upd_same]at hk;rw[ay.p8 _ _ (Ne.symm Mu)];exact Uq e he (Ne.symm Mu) k hk
  .rw[ay.p8 _ _ hdc]at hk
   by_cases Ur:e=c
   .subst Ur
    rw[ay.upd_same];exact fun h3=>Uq d hd hdc k h3 hk
   .rw[ay.p8 _ _ Ur]
    exact h.apart d e hd he Mu k hk
 .refine((aJ.iM hg).mono (fun k hk=>.inr ⟨c,hc,hk.symm⟩)).trans hsc (fun k hk=>.inl (.inl hk))
 .intro k hk
  rcases hk with rfl | ⟨d,hd,hk⟩
  .exact .inl (.inl rfl)
  .by_cases hdc:d=c
   .subst hdc
    rw[ay.upd_same]at hk;rcases hn k hk with h4 | h4
    .exact .inl (.inr ⟨d,hd,h4⟩)
    .exact .inr h4
   .rw[ay.p8 _ _ hdc]at hk
    exact .inl (.inr ⟨d,hd,hk⟩)
theorem dF.vO (h:dF w base p V t L) {c:Nat} (hc:c<6) (hg:w.grownBy w2 (V c).ownBlock):w2.cell? (Qb p c)=some (V c)/\w2.frozen? (Qb p c)=false:=by
 have hcell:w2.heap[p]?=some (.cells (yR V t) 232 (0,0)):=by rw[hg.block p h.lt (fun e=>h.ne hc e.symm)];exact h.cell
 exact⟨by rw[cR w2 p c _ _ _ hcell];exact Uo V t hc,by simp[World.frozen?,hcell]⟩
theorem dF.next (h:dF w base p V t L) {t':Nat} (ht:t'<6):dF (w.setCell (Qb p 6) (Qa (t':Int))) base p V t' L/\iq w (w.setCell (Qb p 6) (Qa (t':Int))) p V V:=by
 have hsc:=aJ.setCell w p 6 (Qa (t':Int));refine⟨⟨?_,h.lo,ht,fun d hd=>eM (h.row d hd) hsc (fun k hk e=>h.ne hd (by rw[hk,e])),h.few,h.apart⟩,⟨hsc.mono (fun k hk=>.inl hk),fun _ h=>.inl h⟩⟩;rw[block_setCell h.cell];rfl
end
section
variable {w:World} {base p t:Nat} {V:Nat->Value} {L:Nat->List Ask}
theorem Us (x:Int) (w:World):Calls Tryz.prog 97 #[Qa x] w fun e w'=>e=.returned (.bool (ay.mE x))/\w'=w:=by
 have HW:=hDq (gH x 0 5 w);go_enter Tryz.func97,Tryz.ntmps97
 go_wp2_with fail
 refine HW.out.mono ?_;rintro e w2 ⟨rfl,rfl⟩;simp only[];go_wp2;go_ret;exact⟨rfl,rfl⟩
theorem Ul (n k:Nat) (w:World) (hn:n<6) (hk:k<=6):Calls Tryz.prog 133 #[Qa n,Qa k] w fun e w'=>e=.returned (Qa (ay.who n k:Nat))/\w'=w:=by
 have h1:IntKind.i64.wrap ((n:Int)+k)=(n:Int)+k:=IntWalk.i64_in _ (by omega);have h2:((ay.who n k:Nat):Int)=((n:Int)+k).tmod 6:=by
  unfold ay.who;rw[Int.tmod_eq_emod_of_nonneg (by omega)];omega
 have h3:IntKind.i64.wrap (((n:Int)+k).tmod 6)=((n:Int)+k).tmod 6:=IntWalk.i64_in _ (by rw[<- h2];have:=ay.wW n k;omega);rw[h2];go_enter Tryz.func133,Tryz.ntmps133;go_wp2;go_ret;exact⟨rfl,rfl⟩
theorem afP (w:World):Calls Tryz.prog 96 #[] w fun e w'=>e=.returned (Qc w.heap.size)/\dF w' w.heap.size w.heap.size (fun _=>.slice none 0 0) 0 (fun _=>[])/\Qd w w':=by
 go_enter Tryz.func96,Tryz.ntmps96;go_wp2;go_ret;refine⟨rfl,⟨?_,lRq _,by decide,fun c _=>World.ownsRow_nil _ _ _ _,fun c _=>by simp,fun c d _ _ _ k h=>by simp[Value.ownBlock]at h⟩,(bRq _ _).alloc (lRq _) _⟩;exact hNq _ _
theorem Uf (n:Int) (w:World) (hi:Hid (dF w base p V t L)):Calls Tryz.prog 212 #[Qc p,Qa n] w fun e w'=>e=.returned (Qa (ay.sD L n:Nat))/\w'=w:=by
 have HC:=hDq (Us n w);unfold ay.sD;cases h:ay.mE n with
 | false =>
  rw[h]at HC;clear h;go_enter Tryz.func212,Tryz.ntmps212
  go_wp2_with fail
  refine HC.out.mono ?_;rintro e w2 ⟨rfl,rfl⟩;simp only[];go_wp2;go_ret;exact⟨rfl,rfl⟩
 | true =>
  rw[h]at HC;obtain⟨c,hc,rfl⟩:=ay.Mq h;clear h;have hat:=hi.out.at hc;obtain⟨a,k,hV⟩:=hi.out.form hc;rw[hV]at hat;have hf:=hi.out.few c hc;simp only[Int.toNat_natCast,if_true];generalize (L c).length=m at *;go_enter Tryz.func212,Tryz.ntmps212
  go_wp2_with fail
  refine HC.out.mono ?_;rintro e w2 ⟨rfl,rfl⟩;simp only[];go_wp2;go_ret;exact⟨rfl,rfl⟩
end
def Ue (T:Nat->Value):Nat->Value
 | 0=>.nilIface
 | c+1=>.iface 412 (T c)
structure wV (w:World) (T:Nat->Value):Prop where
 kd:w.cell? (Qb 4 0)=some (.iface 412 (T 3))
 bd:w.cell? (Qb 1 0)=some (.iface 412 (T 1))
 Mm:w.cell? (Qb 8 0)=some (.iface 412 (T 7))
section
variable {w w':World} {base p t:Nat} {V:Nat->Value} {L:Nat->List Ask} {T:Nat->Value}
theorem wV.later (h:wV w T) (hb:Qd w w'):wV w' T:=⟨cell_later hb h.kd,cell_later hb h.bd,cell_later hb h.Mm⟩
theorem wV.size (h:wV w T):4<w.heap.size:=bCq w _ h.kd
theorem afx (n:Int) (w:World) (hi:Hid (dF w base p V t L)):Calls Tryz.prog 182 #[Qc p,Qa n] w fun e w'=>e=.returned (Qa (ay.sD L n:Nat))/\∃ fh,dF w' base p fh t (ay.nH L n)/\iq w w' p V fh:=by
 have HW:=hDq (Uf n w hi);by_cases h:ay.sD L n=0
 .have HE:Hid (ay.nH L n=L):=by
   show _=_;unfold ay.nH ay.sD at *;cases hc:ay.mE n with
   | false=>rfl
   | true =>
    rw[hc]at h;simp only[if_true]at h ⊢;rw[<- List.eq_nil_of_length_eq_zero h,ay.qI]
  rw[h]at HW ⊢;clear h;go_enter Tryz.func182,Tryz.ntmps182
  go_wp2_with fail
  refine HW.out.mono ?_;rintro e w2 ⟨rfl,rfl⟩;simp only[];go_wp2;go_ret;exact⟨rfl,V,by rw[HE.out];exact hi.out,iq.refl _ _ _⟩
 .cases hcc:ay.mE n with
  | false=>exact absurd (by unfold ay.sD;rw[hcc];rfl) h
  | true =>
   have HE:Hid (ay.nH L n=ay.upd L n.toNat []):=by
    show _=_;unfold ay.nH;rw[hcc];rfl
   obtain⟨c,hc,rfl⟩:=ay.Mq hcc;clear hcc;have hset:=hi.out.set (w2:=w) hc ⟨rfl,rfl,rfl,lRq _,fun _ _ _=>rfl⟩ (v':=.slice none 0 0) (l':=[]) (World.ownsRow_nil _ _ _ _) (by simp) (fun k h=>by simp[Value.ownBlock]at h);have HS:=hDq hset;clear hset;have hat:=hi.out.at hc;have hfr:=hi.out.free c;generalize ay.sD L (c:Int)=m at *;have hm:0<(m:Int):=by omega
   go_enter Tryz.func182,Tryz.ntmps182
   go_wp2_with fail
   refine HW.out.mono ?_;rintro e w2 ⟨rfl,rfl⟩;simp only[];go_wp2;go_ret;exact⟨rfl,_,by rw[HE.out];exact HS.out.1,HS.out.2⟩
theorem Gp:∃ i z,Tryz.prog.info? 95=some i/\i.zero=some z/\i.size=8/\i.bytes=64/\z.cells.size=8:=⟨_,_,rfl,rfl,rfl,rfl,rfl⟩
theorem Ug (w:World) (x:Ask) (ty:TypeId) (fz:Nat×Nat) (hf:fz=(0,0)):∀ j u,(lR x)[j]?=some u->(w.alloc (.cells (aT x) ty fz)).cell? ((⟨w.heap.size,0,none⟩:Addr).add j)=some u:=by
 subst hf;intro j u hj;have hp:(⟨w.heap.size,0,none⟩:Addr).add j=(Qb w.heap.size j):=by unfold Addr.add;split <;> simp_all
 rw[hp,World.cell?_alloc_new];have hlt:j<8:=(List.getElem?_eq_some_iff.1 hj).1
 match j,hlt,hj with
 | 0,_,hj=>exact hj
 | 1,_,hj=>exact hj
 | 2,_,hj=>exact hj
 | 3,_,hj=>exact hj
 | 4,_,hj=>exact hj
 | 5,_,hj=>exact hj
 | 6,_,hj=>exact hj
 | 7,_,hj=>exact hj
end
theorem Uh {e:TypeId} {fz:Nat×Nat} (g:Nat):∀ (vs:List Value) (o:Nat) (w:World) (cur:Array Value),w.heap[g]?=some (.cells cur e fz)->o+vs.length<=cur.size ->
  ∃ cur',(w.setCells g o vs).heap[g]?=some (.cells cur' e fz)/\cur'.size=cur.size/\cur'.toList=cur.toList.take o++vs++cur.toList.drop (o+vs.length)
 | [],o,w,cur,h,hs=>⟨cur,h,rfl,by simp⟩
 | v::vs,o,w,cur,h,hs=>by
  have hlt:=lBq h;have h':w.heap[g]=.cells cur e fz:=by simpa [Array.getElem?_eq_getElem hlt] using h
  have h1:(w.setCell (Qb g o) v).heap[g]?=some (.cells (cur.setIfInBounds o v) e fz):=by
   show (w.heap.modify g _)[g]?=_;rw[Array.getElem?_eq_getElem (by simpa using hlt),Array.getElem_modify_self,h'];rfl
  simp only[List.length_cons]at hs;obtain⟨cur',a1,a2,a3⟩:=Uh g vs (o+1) _ _ h1 (by simp;omega);refine⟨cur',a1,by rw[a2];simp,?_⟩;rw[a3];simp only[List.length_cons,Array.toList_setIfInBounds];have ho:o<cur.toList.length:=by simp;omega
  rw[List.take_succ_eq_append_getElem (by simpa using ho),List.take_set_of_le (lRq o),List.getElem_set_self,List.drop_set_of_lt (by omega),show o+1+vs.length=o+(vs.length+1) by omega];simp
theorem Gq {w:World} {base:Nat} {e:TypeId} {s g n cap:Nat} {xs:List Value} (h:w.ownsRow base e s (.slice (some (Qb g 0)) n cap) n xs) (o:Nat) (vs:List Value) (m:Nat) (hm:m<=cap) (hv:o+vs.length<=n*s) (ys:List Value) (hy:ys.length=m*s) (hmn:m<=n) (he:(xs.take o++vs++xs.drop (o+vs.length)).take (m*s)=ys) :
  (w.setCells g o vs).ownsRow base e s (.slice (some (Qb g 0)) m cap) m ys:=by
 rcases h.2 with ⟨e1,_⟩ | ⟨g',cap',cur,e1,hg,dX,h1,h2,h3,h4⟩
 .cases e1
 .obtain⟨rfl,rfl⟩:g=g'/\cap=cap':=by simpa using e1
  have hle:n*s<=cur.size:=by rw[h3];exact Nat.mul_le_mul_right _ h1
  obtain⟨cur',a1,a2,a3⟩:=Uh g vs o w cur dX (by omega);refine⟨hy,.inr ⟨g,cap,cur',rfl,hg,a1,hm,h2,by rw[a2,h3],?_⟩⟩;have z8:m*s<=n*s:=Nat.mul_le_mul_right _ hmn;rw[a3,<- he,<- h4];have hx:cur.toList=cur.toList.take (n*s)++cur.toList.drop (n*s):=(List.take_append_drop _ _).symm;have hl:(cur.toList.take (n*s)).length=n*s:=by rw[lKq];simp;omega
  generalize cur.toList.take (n*s)=A at *;generalize cur.toList.drop (n*s)=C at *;have e1:(A++C).take o=A.take o:=List.take_append_of_le_length (by omega);have e2:(A++C).drop (o+vs.length)=A.drop (o+vs.length)++C:=List.drop_append_of_le_length (by omega);rw[hx,e1,e2,<- aAq];exact List.take_append_of_le_length (by simp only[List.length_append,List.length_take,List.length_drop];omega)
theorem lS {w:World} {base:Nat} {e:TypeId} {s g n cap:Nat} {xs:List Value} (h:w.ownsRow base e s (.slice (some (Qb g 0)) n cap) n xs) (j:Nat) (hj:j<n*s):(w.cell? (Qb g j)).isSome=true/\w.frozen? (Qb g j)=false/\w.cell? (Qb g j)=xs[j]?:=by
 rcases h.2 with ⟨e1,_⟩ | ⟨g',cap',cur,e1,hg,dX,h1,h2,h3,h4⟩
 .cases e1
 .obtain⟨rfl,rfl⟩:g=g'/\cap=cap':=by simpa using e1
  have hle:n*s<=cur.size:=by rw[h3];exact Nat.mul_le_mul_right _ h1
  have e2:w.cell? (Qb g j)=xs[j]?:=by
   rw[cR w g j cur e (0,0) dX,<- h4,List.getElem?_take_of_lt hj];simp
  have e3:(w.cell? (Qb g j)).isSome=true:=by
   rw[cR w g j cur e (0,0) dX];simp;omega
  exact⟨e3,by simp[World.frozen?,dX],e2⟩
def qT (J:Nat):List Value:=bm (List.replicate J Ui)
theorem Mr (J:Nat):(qT J).length=J*8:=by unfold qT;rw[nI];simp
theorem afy (w:World) (ty:TypeId) (b o J c:Nat) (hJ:J=1\/J=2) (hc:∀ j,j<J*8->(w.cell? ⟨b,o+j,none⟩).isSome=true) (hf:∀ j,j<J*8->w.frozen? ⟨b,o+j,none⟩=false) :
  (Builtin.clear_ #[24] ty #[.slice (some (Qb b o)) J c]).run Tryz.prog w=.ok (.tuple #[]) (w.setCells b o (qT J)):=by
 have Ja:(Builtin.zeroCells (Value.agg #[.int .u8 0,Qa 0,Qa 0,Qa 0,Qa 0,Qa 0,Qa 0,Qa 0]).cells J).toList=qT J:=by
  rcases hJ with rfl | rfl <;> kernel_rfl
 have hst:=run_storeCells_cells (P:=Tryz.prog) b o (qT J) 0 w (fun j hj=>by rw[Mr]at hj;simpa using hc j hj) (fun j hj=>by rw[Mr]at hj;simpa using hf j hj) (BL _);simp only[Nat.add_zero]at hst;rcases hJ with rfl | rfl <;> simp[Builtin.clear_,run_underlying Tryz.underlying24,Ja,hst]
theorem afz (v:Value) (n:Nat) (base:Nat) (xs:List Value) (w:World) (hr:Hid (w.ownsRow base 95 8 v n xs)):Calls Tryz.prog 134 #[v,Qa 0,Qa 0] w fun e w'=>e=.returned v/\w'=w:=by
 have hsl:∃ a c,v=.slice a n c/\(a=none->n=0/\c=0)/\n<=c:=by
  rcases hr.out.2 with ⟨rfl,rfl⟩ | ⟨g,cap,cur,rfl,_,_,h,_⟩
  .exact⟨_,_,rfl,fun _=>⟨rfl,rfl⟩,lRq _⟩
  .exact⟨_,_,rfl,fun h=>(by cases h),h⟩
 obtain⟨a,c,rfl,ha,hc⟩:=hsl;cases a with
 | none =>
  obtain⟨rfl,rfl⟩:=ha rfl;clear ha;go_enter Tryz.func134,Tryz.ntmps134;go_wp2;go_ret;exact⟨rfl,rfl⟩
 | some g =>
  clear ha;go_enter Tryz.func134,Tryz.ntmps134;go_wp2;go_ret;exact⟨rfl,rfl⟩
theorem afA (g cap n j base:Nat) (l:List Ask) (w:World) (hn:Hid (l.length=n)) (hrow:w.ownsRow base 95 8 (.slice (some (Qb g 0)) n cap) n (bm l)) (hJ:Hid (j=1\/j=2)) (aou:0<j) (hjn:j<=n) (hcap:n<=cap) :
  Calls Tryz.prog 134 #[.slice (some (Qb g 0)) n cap,Qa 0,Qa j] w fun e w'=>e=.returned (.slice (some (Qb g 0)) (n-j) cap)/\w'.ownsRow base 95 8 (.slice (some (Qb g 0)) (n-j) cap) (n-j) (bm (l.drop j))/\w.grownBy w' (some g):=by
 obtain⟨i0,z0,hi,hz0,hz1,hz2,hz3⟩:=Gp;have hne:¬ ((0:Int)=j):=by omega
 obtain⟨news,hnews⟩:∃ news,news=bm (l.drop j):=⟨_,rfl⟩;have hlen:news.length=(n-j)*8:=by rw[hnews,nI,List.length_drop,hn.out]
 have z1:∀ t u,news[t]?=some u->w.cell? ⟨g,j*8+t,none⟩=some u:=by
  intro t u hu;have ht:t<(n-j)*8:=by
   have:=(List.getElem?_eq_some_iff.1 hu).1
   rwa [hlen]at this
  rw[(lS hrow (j*8+t) (by omega)).2.2];rw[hnews,<- Uj l j (by rw[hn.out];exact hjn),List.getElem?_drop]at hu;exact hu
 obtain⟨A,hA,hsrc⟩:∃ A:Addr,(if cap=j then some (⟨g,0,none⟩:Addr) else some ⟨g,j*8,none⟩)=some A/\Hid (∀ t u,news[t]?=some u->w.drew.cell? (A.add t)=some u):=by
  by_cases h:cap=j
  .refine⟨(Qb g 0),by simp[h],fun t u hu=>?_⟩
   have h0:news.length=0:=by rw[hlen];omega
   rw[List.length_eq_zero_iff.1 h0]at hu;simp at hu
  .refine⟨⟨g,j*8,none⟩,by simp[h],fun t u hu=>?_⟩
   rw[Addr.add_lit];exact z1 t u hu
 have s1:Hid (news.length=(n-j)*8):=hlen;have s2:Hid (∀ u∈news,u.oneCell'=true):=by
  intro u hu;rw[hnews]at hu;exact BL _ u hu
 have s3:Hid (∀ t,t<news.length->(w.drew.cell? ⟨g,0+0*8+t,none⟩).isSome=true/\w.drew.frozen? ⟨g,0+0*8+t,none⟩=false):=by
  intro t ht;rw[hlen]at ht;have h:=lS hrow (0+0*8+t) (by omega);exact⟨h.1,h.2.1⟩
 have z6:w.drew.ownsRow base 95 8 (.slice (some (Qb g 0)) n cap) n (bm l):=hrow;obtain⟨W1,hW1⟩:∃ W1,W1=w.drew.setCells g (0+0*8) news:=⟨_,rfl⟩;have hfl:(bm l).length=n*8:=by rw[nI,hn.out]
 obtain⟨ys,rP⟩:∃ ys,ys=(bm l).take (0+0*8)++news++(bm l).drop (0+0*8+news.length):=⟨_,rfl⟩;have vP:ys.length=n*8:=by
  rw[rP];simp only[List.length_append,List.length_take,List.length_drop,hlen,hfl];omega
 have hr1:W1.ownsRow base 95 8 (.slice (some (Qb g 0)) n cap) n ys:=by
  rw[hW1];exact Gq z6 _ news n hcap (by rw[hlen];omega) ys vP (lRq _) (by rw[<- rP];exact List.take_of_length_le (by omega))
 have hcl:∀ ty,(Builtin.clear_ #[24] ty #[.slice (some ⟨g,(n-j)*8,none⟩) (n-(n-j)) (cap-(n-j))]).run Tryz.prog W1=.ok (.tuple #[]) (W1.setCells g ((n-j)*8) (qT j)):=by
  intro ty;rw[show n-(n-j)=j by omega];exact afy W1 ty g _ j _ hJ.out (fun t ht=>(lS hr1 _ (by omega)).1) (fun t ht=>(lS hr1 _ (by omega)).2.1)
 have HR:Hid ((W1.setCells g ((n-j)*8) (qT j)).ownsRow base 95 8 (.slice (some (Qb g 0)) (n-j) cap) (n-j) (bm (l.drop j))):=by
  have hd:(l.drop j).length=n-j:=by rw[List.length_drop,hn.out]
  refine Gq hr1 _ (qT j) (n-j) (by omega) (by rw[Mr];omega) _ (by rw[nI,hd]) (by omega) ?_;rw[aAq,List.take_append_of_le_length (by rw[lKq,vP];omega),List.take_take,Nat.min_self,rP];rw[List.take_append_of_le_length (by simp only[List.length_append,List.length_take,hlen,hfl];omega),List.take_of_length_le (by simp only[List.length_append,List.length_take,hlen,hfl];omega)];rw[hnews];simp
 have HG:Hid (w.grownBy (W1.setCells g ((n-j)*8) (qT j)) (some g)):=by
  have o1:=aJ.setCells w.drew g news (0+0*8);rw[<- hW1]at o1;have o2:=o1.trans (aJ.setCells W1 g (qT j) ((n-j)*8)) (fun k h=>.inl h);exact⟨o2.os,o2.tape,o2.output,o2.size,fun k hk h=>o2.block k hk (fun e=>h (by rw[e]))⟩
 have hW:Hid (W1=w.drew.setCells g (0+0*8) news):=hW1;have HI:=hDq hi;have av:=hDq hz1;have abr:j<=cap:=by omega
 have aov:n-j<=cap:=by omega
 clear hW1 hr1 rP vP hfl z6 z1 hnews hlen hrow hi hz0 hz1 hz2 hz3;go_enter Tryz.func134,Tryz.ntmps134
 go_wp2_with fail
 go_region_law (refine step_append_room rfl (.tmp 22) (.tmp 25) 24 rfl 95 i0 8 Tryz.underlying24 HI.out av.out g 0 0 cap (by simp[Act.eval,Act.put]) A (n-j) (cap-j) news (by simp[Act.eval,Act.put]) s1.out hsrc.out s2.out (by omega) s3.out ?_;rw[<- hW.out])
 all_goals go_wp2
 all_goals go_ret
 all_goals exact⟨by simp,HR.out,HG.out⟩
end Go.Proofs.YtjolccidheflpaaGreatDoor
