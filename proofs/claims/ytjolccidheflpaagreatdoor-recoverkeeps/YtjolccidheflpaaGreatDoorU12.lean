/- An intake in memory: a block of six slices and a turn, a row of requests behind each slice; which blocks an act may turn. -/
import Derived.Test.YtjolccidheflpaaGreatDoorU11
import Derived.Test.YtjolccidheflpaaGreatDoorU03
import Derived.OneCell
import Derived.Laws.IdiomCopy
import Derived.Maps.AppendAt
import Derived.Deep.RegionLaw
import Derived.Lib.SliceRun
import Derived.Lib.SmallJoins
import Derived.Deep.QuietTactic
import Derived.BigQuiet
namespace Go.Proofs.YtjolccidheflpaaGreatDoor
set_option maxHeartbeats 8000000
open Go.RowKit
set_option maxRecDepth 100000
def kI (a:Ask):List Value:=[.int .u8 a.k,.int .i64 a.c,.int .i64 a.sq,.int .i64 a.it,.int .i64 a.sd,.int .i64 a.pr,.int .i64 a.q,.int .i64 a.id]
def bl (l:List Ask):List Value:=l.flatMap kI
theorem mW:∀ l:List Ask,(bl l).length=l.length*8
 | []=>rfl
 | x::l=>by
  have:=mW l
  simp only[bl,List.flatMap_cons,List.length_append,List.length_cons]at this ⊢;rw[this];show 8+_=_;omega
theorem ug (a b:List Ask):bl (a++b)=bl a++bl b:=by simp[bl]
theorem Uq (l:List Ask) (k:Nat) (h:k<=l.length):(bl l).take (k*8)=bl (l.take k):=by
 have e:bl l=bl (l.take k)++bl (l.drop k):=by rw[<- ug,List.take_append_drop]
 have hl:(bl (l.take k)).length=k*8:=by rw[mW,lKq];congr 1;omega
 rw[e,<- hl,List.take_left]
theorem Um (l:List Ask) (k:Nat) (h:k<=l.length):(bl l).drop (k*8)=bl (l.drop k):=by
 have e:bl l=bl (l.take k)++bl (l.drop k):=by rw[<- ug,List.take_append_drop]
 have hl:(bl (l.take k)).length=k*8:=by rw[mW,lKq];congr 1;omega
 rw[e,<- hl,List.drop_left]
theorem BG (l:List Ask):∀ u∈bl l,u.oneCell'=true:=by
 intro u hu;simp only[bl,List.mem_flatMap]at hu;obtain⟨x,_,hx⟩:=hu;simp only[kI,List.mem_cons,List.not_mem_nil,or_false]at hx;rcases hx with rfl | rfl | rfl | rfl | rfl | rfl | rfl | rfl <;> rfl
theorem af0 (l:List Ask) (i j:Nat) (hi:i<l.length) (hj:j<8):(bl l)[i*8+j]?=(kI (bZ l i))[j]?:=by
 have e:bl l=bl (l.take i)++(kI (bZ l i)++bl (l.drop (i+1))):=by
  have h2:l=l.take i++(bZ l i::l.drop (i+1)):=by
   have:=List.getElem?_eq_some_iff.1 (Mt hi)
   obtain⟨h3,h4⟩:=this;rw[<- h4,List.getElem_cons_drop,List.take_append_drop]
  conv=>lhs;rw[h2]
  rw[ug];rfl
 have hl:(bl (l.take i)).length=i*8:=by rw[mW,lKq];congr 1;omega
 rw[e,List.getElem?_append_right (by omega),hl,show i*8+j-i*8=j by omega,List.getElem?_append_left (by show _<8;exact hj)]
structure aJ (w w':World) (S:Nat->Prop):Prop where
 os:w'.os=w.os
 tape:w'.tape=w.tape
 output:w'.output=w.output
 size:w.heap.size<=w'.heap.size
 block:∀ k,k<w.heap.size->¬ S k->w'.heap[k]?=w.heap[k]?
theorem aJ.refl (w:World) (S:Nat->Prop):aJ w w S:=⟨rfl,rfl,rfl,lRq _,fun _ _ _=>rfl⟩
theorem aJ.of_below {w w':World} (h:Below w.heap.size w w') (S:Nat->Prop):aJ w w' S:=⟨h.os,h.tape,h.output,h.size,fun k hk _=>h.block k hk⟩
theorem aJ.jv {w w':World} {r:Option Nat} (h:w.grownBy w' r):aJ w w' (fun k=>some k=r):=⟨h.os,h.tape,h.output,h.size,fun k hk h2=>h.block k hk h2⟩
theorem aJ.trans {w w1 w2:World} {S S1:Nat->Prop} (h:aJ w w1 S) (h1:aJ w1 w2 S1) (hs:∀ k,S1 k->S k∨w.heap.size<=k):aJ w w2 S :=
 ⟨h1.os.trans h.os,h1.tape.trans h.tape,h1.output.trans h.output,lTq h.size h1.size,fun k hk hn=>by
  rw[h1.block k (Nat.lt_of_lt_of_le hk h.size) (fun e=>?_)]
  ·exact h.block k hk hn
  ·rcases hs k e with h3 | h3
   ·exact hn h3
   ·omega⟩
theorem aJ.mono {w w':World} {S S':Nat->Prop} (h:aJ w w' S) (hs:∀ k,S k->S' k):aJ w w' S':=⟨h.os,h.tape,h.output,h.size,fun k hk hn=>h.block k hk (fun e=>hn (hs k e))⟩
theorem aJ.below {w w':World} {S:Nat->Prop} {n:Nat} (h:aJ w w' S) (hn:n<=w.heap.size) (hs:∀ k,S k->n<=k):Below n w w' :=
 ⟨h.os,h.tape,h.output,h.size,fun k hk=>h.block k (by omega) (fun e=>by have:=hs k e;omega)⟩
theorem aJ.setCell (w:World) (g o:Nat) (v:Value):aJ w (w.setCell ⟨g,o,none⟩ v) (fun k=>k=g) :=
 ⟨rfl,rfl,rfl,by simp,fun k _ ha=>Below.heap_setCell _ _ _ _ (fun e=>ha e)⟩
theorem aJ.setCells (w:World) (g:Nat):∀ (vs:List Value) (o:Nat),aJ w (w.setCells g o vs) (fun k=>k=g):=by
 intro vs
 induction vs generalizing w with
 | nil=>intro o;exact aJ.refl w _
 | cons v vs ih =>
  intro o;exact(aJ.setCell w g o v).trans (ih (w.setCell ⟨g,o,none⟩ v) (o+1)) (fun k h=>.inl h)
theorem fR {w w':World} {S:Nat->Prop} {base:Nat} {e:TypeId} {s:Nat} {v:Value} {n:Nat} {xs:List Value} (hr:w.ownsRow base e s v n xs) (h:aJ w w' S) (ha:∀ k,v.ownBlock=some k->¬ S k):w'.ownsRow base e s v n xs:=by
 refine⟨hr.1,?_⟩;rcases hr.2 with hn | ⟨g,cap,cur,rfl,hg,dL,rest⟩
 ·exact .inl hn
 ·exact .inr ⟨g,cap,cur,rfl,hg,by rw[h.block g (lBq dL) (ha g rfl)];exact dL,rest⟩
theorem fH {w:World} {base:Nat} {e:TypeId} {s:Nat} {v:Value} {n:Nat} {xs:List Value} (hr:w.ownsRow base e s v n xs):∃ a c,v=.slice a n c:=by
 rcases hr.2 with ⟨rfl,rfl⟩ | ⟨g,cap,cur,rfl,_⟩
 ·exact⟨_,_,rfl⟩
 ·exact⟨_,_,rfl⟩
def yE (V:Nat->Value) (t:Nat):Array Value:=#[V 0,V 1,V 2,V 3,V 4,V 5,.int .i64 (t:Int)]
theorem Ur (V:Nat->Value) (t:Nat) {c:Nat} (hc:c<6):(yE V t)[c]?=some (V c):=by
 match c,hc with
 | 0,_=>rfl
 | 1,_=>rfl
 | 2,_=>rfl
 | 3,_=>rfl
 | 4,_=>rfl
 | 5,_=>rfl
theorem af1 (V:Nat->Value) (t:Nat) {c:Nat} (hc:c<6) (v:Value):(yE V t).setIfInBounds c v=yE (ay.upd V c v) t:=by
 match c,hc with
 | 0,_=>rfl
 | 1,_=>rfl
 | 2,_=>rfl
 | 3,_=>rfl
 | 4,_=>rfl
 | 5,_=>rfl
theorem block_setCell {w:World} {p:Nat} {cur:Array Value} {e:TypeId} {fz:Nat×Nat} (h:w.heap[p]?=some (.cells cur e fz)) (o:Nat) (v:Value):(w.setCell ⟨p,o,none⟩ v).heap[p]?=some (.cells (cur.setIfInBounds o v) e fz):=by
 have hlt:=lBq h;have h':w.heap[p]=.cells cur e fz:=by simpa [Array.getElem?_eq_getElem hlt] using h
 show (w.heap.modify p _)[p]?=_;rw[Array.getElem?_eq_getElem (by simpa using hlt),Array.getElem_modify_self,h'];rfl
def mX (p:Nat) (V:Nat->Value) (k:Nat):Prop:=k=p∨∃ c,c<6∧(V c).ownBlock=some k
structure dA (w:World) (base p:Nat) (V:Nat->Value) (t:Nat) (L:Nat->List Ask):Prop where
 cell:w.heap[p]?=some (.cells (yE V t) 232 (0,0))
 lo:base<=p
 turn:t<6
 row:∀ c,c<6->w.ownsRow base 95 8 (V c) (L c).length (bl (L c))
 few:∀ c,c<6->(L c).length<=6
 apart:∀ c d,c<6->d<6->c≠d->∀ k,(V c).ownBlock=some k->(V d).ownBlock≠some k
structure hZ (w w':World) (p:Nat) (V eO:Nat->Value):Prop where
 turned:aJ w w' (mX p V)
 new:∀ k,mX p eO k->mX p V k∨w.heap.size<=k
section
variable {w w' w2:World} {base p t:Nat} {V eO:Nat->Value} {L:Nat->List Ask}
theorem hZ.refl (w:World) (p:Nat) (V:Nat->Value):hZ w w p V V:=⟨aJ.refl _ _,fun _ h=>.inl h⟩
theorem hZ.of_below (h:Below w.heap.size w w') (p:Nat) (V:Nat->Value):hZ w w' p V V:=⟨aJ.of_below h _,fun _ h=>.inl h⟩
theorem hZ.trans {V2:Nat->Value} (h:hZ w w' p V eO) (h1:hZ w' w2 p eO V2):hZ w w2 p V V2 :=
 ⟨h.turned.trans h1.turned h.new,fun k hk=>by
  rcases h1.new k hk with h3 | h3
  ·exact h.new k h3
  ·exact .inr (lTq h.turned.size h3)⟩
theorem dA.lt (h:dA w base p V t L):p<w.heap.size:=lBq h.cell
theorem dA.fe (h:dA w base p V t L) {k:Nat} (hk:mX p V k):base<=k∧k<w.heap.size:=by
 rcases hk with rfl | ⟨c,hc,hk⟩
 ·exact⟨h.lo,h.lt⟩
 ·exact(h.row c hc).lt k hk
theorem Us {e e2:TypeId} {s n:Nat} {v:Value} {xs:List Value} {cur:Array Value} {q:Nat} (hr:w.ownsRow base e s v n xs) (hq:w.heap[q]?=some (.cells cur e2 (0,0))) (hne:e≠e2):v.ownBlock≠some q:=by
 intro h;rcases hr.2 with ⟨e1,_⟩ | ⟨r,cap,kN,e1,_,hr2,_⟩
 ·rw[e1]at h;cases h
 ·rw[e1]at h
  have:r=q:=by simpa [Value.ownBlock] using h
  rw[this,hq]at hr2;simp at hr2;exact hne hr2.2.symm
theorem dA.ne (h:dA w base p V t L) {c:Nat} (hc:c<6):(V c).ownBlock≠some p:=Us (h.row c hc) h.cell (by decide)
theorem dA.turned {S:Nat->Prop} (h:dA w base p V t L) (ho:aJ w w' S) (hs:∀ k,mX p V k->¬ S k):dA w' base p V t L :=
 ⟨by rw[ho.block p h.lt (hs p (.inl rfl))];exact h.cell,h.lo,h.turn,fun c hc=>fR (h.row c hc) ho (fun k hk=>hs k (.inr ⟨c,hc,hk⟩)),h.few,h.apart⟩
theorem dA.later (h:dA w base p V t L) (hb:Below w.heap.size w w'):dA w' base p V t L:=h.turned (aJ.of_below hb (fun _=>False)) (fun _ _ h=>h)
theorem dA.at (h:dA w base p V t L) {c:Nat} (hc:c<6):w.cell? ⟨p,c,none⟩=some (V c):=by
 rw[cR w p c _ _ _ h.cell];exact Ur V t hc
theorem dA.afU (h:dA w base p V t L):w.cell? ⟨p,6,none⟩=some (.int .i64 (t:Int)):=by
 rw[cR w p 6 _ _ _ h.cell];rfl
theorem dA.free (h:dA w base p V t L) (c:Nat):w.frozen? ⟨p,c,none⟩=false:=by simp[World.frozen?,h.cell]
theorem dA.form (h:dA w base p V t L) {c:Nat} (hc:c<6):∃ a k,V c=.slice a (L c).length k:=fH (h.row c hc)
theorem dA.set (h:dA w base p V t L) {c:Nat} (hc:c<6) (hg:w.grownBy w2 (V c).ownBlock) {v':Value} {l':List Ask} (hr:w2.ownsRow base 95 8 v' l'.length (bl l')) (hf:l'.length<=6) (hn:∀ k,v'.ownBlock=some k->(V c).ownBlock=some k∨w.heap.size<=k) :
  dA (w2.setCell ⟨p,c,none⟩ v') base p (ay.upd V c v') t (ay.upd L c l')∧hZ w (w2.setCell ⟨p,c,none⟩ v') p V (ay.upd V c v'):=by
 have hcell:w2.heap[p]?=some (.cells (yE V t) 232 (0,0)):=by rw[hg.block p h.lt (fun e=>h.ne hc e.symm)];exact h.cell
 have hp':v'.ownBlock≠some p:=Us hr hcell (by decide);have hsc:=aJ.setCell w2 p c v';have hrow:∀ d,d<6->d≠c->w2.ownsRow base 95 8 (V d) (L d).length (bl (L d)):=fun d hd hdc =>
  fR (h.row d hd) (aJ.jv hg) (fun k hk e=>h.apart d c hd hc hdc k hk e.symm)
 refine⟨⟨?_,h.lo,h.turn,?_,?_,?_⟩,⟨?_,?_⟩⟩
 ·rw[block_setCell hcell,af1 V t hc]
 ·intro d hd
  by_cases hdc:d=c
  ·subst hdc
   rw[ay.upd_same,ay.upd_same];exact fR hr hsc (fun k hk e=>hp' (by rw[hk,e]))
  ·rw[ay.pI _ _ hdc,ay.pI _ _ hdc]
   exact fR (hrow d hd hdc) hsc (fun k hk e=>h.ne hd (by rw[hk,e]))
 ·intro d hd
  by_cases hdc:d=c
  ·subst hdc;rw[ay.upd_same];exact hf
  ·rw[ay.pI _ _ hdc];exact h.few d hd
 ·intro d e hd he Mv k hk
  have Ut:∀ d,d<6->d≠c->∀ k,v'.ownBlock=some k->(V d).ownBlock≠some k:=fun d hd hdc k hk h3=>by
   rcases hn k hk with h4 | h4
   ·exact h.apart d c hd hc hdc k h3 h4
   ·have:=((h.row d hd).lt k h3).2
    omega
  by_cases hdc:d=c
  ·subst hdc
   rw[ay.upd_same]at hk;rw[ay.pI _ _ (Ne.symm Mv)];exact Ut e he (Ne.symm Mv) k hk
  ·rw[ay.pI _ _ hdc]at hk
   by_cases Uu:e=c
   ·subst Uu
    rw[ay.upd_same];exact fun h3=>Ut d hd hdc k h3 hk
   ·rw[ay.pI _ _ Uu]
    exact h.apart d e hd he Mv k hk
 ·refine((aJ.jv hg).mono (fun k hk=>.inr ⟨c,hc,hk.symm⟩)).trans hsc (fun k hk=>.inl (.inl hk))
 ·intro k hk
  rcases hk with rfl | ⟨d,hd,hk⟩
  ·exact .inl (.inl rfl)
  ·by_cases hdc:d=c
   ·subst hdc
    rw[ay.upd_same]at hk;rcases hn k hk with h4 | h4
    ·exact .inl (.inr ⟨d,hd,h4⟩)
    ·exact .inr h4
   ·rw[ay.pI _ _ hdc]at hk
    exact .inl (.inr ⟨d,hd,hk⟩)
theorem dA.vz (h:dA w base p V t L) {c:Nat} (hc:c<6) (hg:w.grownBy w2 (V c).ownBlock):w2.cell? ⟨p,c,none⟩=some (V c)∧w2.frozen? ⟨p,c,none⟩=false:=by
 have hcell:w2.heap[p]?=some (.cells (yE V t) 232 (0,0)):=by rw[hg.block p h.lt (fun e=>h.ne hc e.symm)];exact h.cell
 exact⟨by rw[cR w2 p c _ _ _ hcell];exact Ur V t hc,by simp[World.frozen?,hcell]⟩
theorem dA.next (h:dA w base p V t L) {t':Nat} (ht:t'<6):dA (w.setCell ⟨p,6,none⟩ (.int .i64 (t':Int))) base p V t' L∧hZ w (w.setCell ⟨p,6,none⟩ (.int .i64 (t':Int))) p V V:=by
 have hsc:=aJ.setCell w p 6 (.int .i64 (t':Int));refine⟨⟨?_,h.lo,ht,fun d hd=>fR (h.row d hd) hsc (fun k hk e=>h.ne hd (by rw[hk,e])),h.few,h.apart⟩,⟨hsc.mono (fun k hk=>.inl hk),fun _ h=>.inl h⟩⟩;rw[block_setCell h.cell];rfl
end
section
variable {w:World} {base p t:Nat} {V:Nat->Value} {L:Nat->List Ask}
theorem Uv (x:Int) (w:World):Calls Tryz.prog 97 #[.int .i64 x] w fun e w'=>e=.returned (.bool (ay.oq x))∧w'=w:=by
 have HW:=hDq (gi x 0 5 w);go_enter Tryz.func97,Tryz.ntmps97
 go_wp2_with fail
 refine HW.out.mono ?_;rintro e w2 ⟨rfl,rfl⟩;simp only[];go_wp2;go_ret;exact⟨rfl,rfl⟩
theorem Uo (n k:Nat) (w:World) (hn:n<6) (hk:k<=6):Calls Tryz.prog 133 #[.int .i64 n,.int .i64 k] w fun e w'=>e=.returned (.int .i64 (ay.who n k:Nat))∧w'=w:=by
 have h1:IntKind.i64.wrap ((n:Int)+k)=(n:Int)+k:=IntWalk.i64_in _ (by omega);have h2:((ay.who n k:Nat):Int)=((n:Int)+k).tmod 6:=by
  unfold ay.who;rw[Int.tmod_eq_emod_of_nonneg (by omega)];omega
 have h3:IntKind.i64.wrap (((n:Int)+k).tmod 6)=((n:Int)+k).tmod 6:=IntWalk.i64_in _ (by rw[<- h2];have:=ay.uj n k;omega);rw[h2];go_enter Tryz.func133,Tryz.ntmps133;go_wp2;go_ret;exact⟨rfl,rfl⟩
theorem af2 (w:World):Calls Tryz.prog 96 #[] w fun e w'=>e=.returned (.pointer (some ⟨w.heap.size,0,none⟩))∧dA w' w.heap.size w.heap.size (fun _=>.slice none 0 0) 0 (fun _=>[])∧Below w.heap.size w w':=by
 go_enter Tryz.func96,Tryz.ntmps96;go_wp2;go_ret;refine⟨rfl,⟨?_,lRq _,by decide,fun c _=>World.ownsRow_nil _ _ _ _,fun c _=>by simp,fun c d _ _ _ k h=>by simp[Value.ownBlock]at h⟩,(bRq _ _).alloc (lRq _) _⟩;exact hNq _ _
theorem Uj (n:Int) (w:World) (hi:Hid (dA w base p V t L)):Calls Tryz.prog 212 #[.pointer (some ⟨p,0,none⟩),.int .i64 n] w fun e w'=>e=.returned (.int .i64 (ay.r8 L n:Nat))∧w'=w:=by
 have HC:=hDq (Uv n w);unfold ay.r8;cases h:ay.oq n with
 | false =>
  rw[h]at HC;clear h;go_enter Tryz.func212,Tryz.ntmps212
  go_wp2_with fail
  refine HC.out.mono ?_;rintro e w2 ⟨rfl,rfl⟩;simp only[];go_wp2;go_ret;exact⟨rfl,rfl⟩
 | true =>
  rw[h]at HC;obtain⟨c,hc,rfl⟩:=ay.Mq h;clear h;have hat:=hi.out.at hc;obtain⟨a,k,hV⟩:=hi.out.form hc;rw[hV]at hat;have hf:=hi.out.few c hc;simp only[Int.toNat_natCast,if_true];generalize (L c).length=m at *;go_enter Tryz.func212,Tryz.ntmps212
  go_wp2_with fail
  refine HC.out.mono ?_;rintro e w2 ⟨rfl,rfl⟩;simp only[];go_wp2;go_ret;exact⟨rfl,rfl⟩
end
def Ui (T:Nat->Value):Nat->Value
 | 0=>.nilIface
 | c+1=>.iface 412 (T c)
structure wF (w:World) (T:Nat->Value):Prop where
 kd:w.cell? ⟨4,0,none⟩=some (.iface 412 (T 3))
 bd:w.cell? ⟨1,0,none⟩=some (.iface 412 (T 1))
 Mm:w.cell? ⟨8,0,none⟩=some (.iface 412 (T 7))
section
variable {w w':World} {base p t:Nat} {V:Nat->Value} {L:Nat->List Ask} {T:Nat->Value}
theorem wF.later (h:wF w T) (hb:Below w.heap.size w w'):wF w' T:=⟨cell_later hb h.kd,cell_later hb h.bd,cell_later hb h.Mm⟩
theorem wF.size (h:wF w T):4<w.heap.size:=bCq w _ h.kd
theorem afL (n:Int) (w:World) (hi:Hid (dA w base p V t L)):Calls Tryz.prog 182 #[.pointer (some ⟨p,0,none⟩),.int .i64 n] w fun e w'=>e=.returned (.int .i64 (ay.r8 L n:Nat))∧∃ eO,dA w' base p eO t (ay.oo L n)∧hZ w w' p V eO:=by
 have HW:=hDq (Uj n w hi);by_cases h:ay.r8 L n=0
 ·have HE:Hid (ay.oo L n=L):=by
   show _=_;unfold ay.oo ay.r8 at *;cases hc:ay.oq n with
   | false=>rfl
   | true =>
    rw[hc]at h;simp only[if_true]at h ⊢;rw[<- List.eq_nil_of_length_eq_zero h,ay.rJ]
  rw[h]at HW ⊢;clear h;go_enter Tryz.func182,Tryz.ntmps182
  go_wp2_with fail
  refine HW.out.mono ?_;rintro e w2 ⟨rfl,rfl⟩;simp only[];go_wp2;go_ret;exact⟨rfl,V,by rw[HE.out];exact hi.out,hZ.refl _ _ _⟩
 ·cases hcc:ay.oq n with
  | false=>exact absurd (by unfold ay.r8;rw[hcc];rfl) h
  | true =>
   have HE:Hid (ay.oo L n=ay.upd L n.toNat []):=by
    show _=_;unfold ay.oo;rw[hcc];rfl
   obtain⟨c,hc,rfl⟩:=ay.Mq hcc;clear hcc;have hset:=hi.out.set (w2:=w) hc ⟨rfl,rfl,rfl,lRq _,fun _ _ _=>rfl⟩ (v':=.slice none 0 0) (l':=[]) (World.ownsRow_nil _ _ _ _) (by simp) (fun k h=>by simp[Value.ownBlock]at h);have HS:=hDq hset;clear hset;have hat:=hi.out.at hc;have hfr:=hi.out.free c;generalize ay.r8 L (c:Int)=m at *;have hm:0<(m:Int):=by omega
   go_enter Tryz.func182,Tryz.ntmps182
   go_wp2_with fail
   refine HW.out.mono ?_;rintro e w2 ⟨rfl,rfl⟩;simp only[];go_wp2;go_ret;exact⟨rfl,_,by rw[HE.out];exact HS.out.1,HS.out.2⟩
theorem Gk:∃ i z,Tryz.prog.info? 95=some i∧i.zero=some z∧i.size=8∧i.bytes=64∧z.cells.size=8:=⟨_,_,rfl,rfl,rfl,rfl,rfl⟩
theorem Uk (w:World) (x:Ask) (ty:TypeId) (fz:Nat×Nat) (hf:fz=(0,0)):∀ j u,(kI x)[j]?=some u->(w.alloc (.cells (aT x) ty fz)).cell? ((⟨w.heap.size,0,none⟩:Addr).add j)=some u:=by
 subst hf;intro j u hj;have hp:(⟨w.heap.size,0,none⟩:Addr).add j=⟨w.heap.size,j,none⟩:=by unfold Addr.add;split <;> simp_all
 rw[hp,World.cell?_alloc_new];have hlt:j<8:=(List.getElem?_eq_some_iff.1 hj).1
 match j,hlt,hj with
 | 0,_,hj=>exact hj
 | 1,_,hj=>exact hj
 | 2,_,hj=>exact hj
 | 3,_,hj=>exact hj
 | 4,_,hj=>exact hj
 | 5,_,hj=>exact hj
 | 6,_,hj=>exact hj
 | 7,_,hj=>exact hj
end
theorem Ul {e:TypeId} {fz:Nat×Nat} (g:Nat):∀ (vs:List Value) (o:Nat) (w:World) (cur:Array Value),w.heap[g]?=some (.cells cur e fz)->o+vs.length<=cur.size ->
  ∃ cur',(w.setCells g o vs).heap[g]?=some (.cells cur' e fz)∧cur'.size=cur.size∧cur'.toList=cur.toList.take o++vs++cur.toList.drop (o+vs.length)
 | [],o,w,cur,h,hs=>⟨cur,h,rfl,by simp⟩
 | v::vs,o,w,cur,h,hs=>by
  have hlt:=lBq h;have h':w.heap[g]=.cells cur e fz:=by simpa [Array.getElem?_eq_getElem hlt] using h
  have h1:(w.setCell ⟨g,o,none⟩ v).heap[g]?=some (.cells (cur.setIfInBounds o v) e fz):=by
   show (w.heap.modify g _)[g]?=_;rw[Array.getElem?_eq_getElem (by simpa using hlt),Array.getElem_modify_self,h'];rfl
  simp only[List.length_cons]at hs;obtain⟨cur',a1,a2,a3⟩:=Ul g vs (o+1) _ _ h1 (by simp;omega);refine⟨cur',a1,by rw[a2];simp,?_⟩;rw[a3];simp only[List.length_cons,Array.toList_setIfInBounds];have ho:o<cur.toList.length:=by simp;omega
  rw[List.take_succ_eq_append_getElem (by simpa using ho),List.take_set_of_le (lRq o),List.getElem_set_self,List.drop_set_of_lt (by omega),show o+1+vs.length=o+(vs.length+1) by omega];simp
theorem Gl {w:World} {base:Nat} {e:TypeId} {s g n cap:Nat} {xs:List Value} (h:w.ownsRow base e s (.slice (some ⟨g,0,none⟩) n cap) n xs) (o:Nat) (vs:List Value) (m:Nat) (hm:m<=cap) (hv:o+vs.length<=n*s) (ys:List Value) (hy:ys.length=m*s) (hmn:m<=n) (he:(xs.take o++vs++xs.drop (o+vs.length)).take (m*s)=ys) :
  (w.setCells g o vs).ownsRow base e s (.slice (some ⟨g,0,none⟩) m cap) m ys:=by
 rcases h.2 with ⟨e1,_⟩ | ⟨g',cap',cur,e1,hg,dL,h1,h2,h3,h4⟩
 ·cases e1
 ·obtain⟨rfl,rfl⟩:g=g'∧cap=cap':=by simpa using e1
  have hle:n*s<=cur.size:=by rw[h3];exact Nat.mul_le_mul_right _ h1
  obtain⟨cur',a1,a2,a3⟩:=Ul g vs o w cur dL (by omega);refine⟨hy,.inr ⟨g,cap,cur',rfl,hg,a1,hm,h2,by rw[a2,h3],?_⟩⟩;have zU:m*s<=n*s:=Nat.mul_le_mul_right _ hmn;rw[a3,<- he,<- h4];have hx:cur.toList=cur.toList.take (n*s)++cur.toList.drop (n*s):=(List.take_append_drop _ _).symm;have hl:(cur.toList.take (n*s)).length=n*s:=by rw[lKq];simp;omega
  generalize cur.toList.take (n*s)=A at *;generalize cur.toList.drop (n*s)=C at *;have e1:(A++C).take o=A.take o:=List.take_append_of_le_length (by omega);have e2:(A++C).drop (o+vs.length)=A.drop (o+vs.length)++C:=List.drop_append_of_le_length (by omega);rw[hx,e1,e2,<- aAq];exact List.take_append_of_le_length (by simp only[List.length_append,List.length_take,List.length_drop];omega)
theorem ly {w:World} {base:Nat} {e:TypeId} {s g n cap:Nat} {xs:List Value} (h:w.ownsRow base e s (.slice (some ⟨g,0,none⟩) n cap) n xs) (j:Nat) (hj:j<n*s):(w.cell? ⟨g,j,none⟩).isSome=true∧w.frozen? ⟨g,j,none⟩=false∧w.cell? ⟨g,j,none⟩=xs[j]?:=by
 rcases h.2 with ⟨e1,_⟩ | ⟨g',cap',cur,e1,hg,dL,h1,h2,h3,h4⟩
 ·cases e1
 ·obtain⟨rfl,rfl⟩:g=g'∧cap=cap':=by simpa using e1
  have hle:n*s<=cur.size:=by rw[h3];exact Nat.mul_le_mul_right _ h1
  have e2:w.cell? ⟨g,j,none⟩=xs[j]?:=by
   rw[cR w g j cur e (0,0) dL,<- h4,List.getElem?_take_of_lt hj];simp
  have e3:(w.cell? ⟨g,j,none⟩).isSome=true:=by
   rw[cR w g j cur e (0,0) dL];simp;omega
  exact⟨e3,by simp[World.frozen?,dL],e2⟩
def qy (J:Nat):List Value:=bl (List.replicate J Mr)
theorem Ms (J:Nat):(qy J).length=J*8:=by unfold qy;rw[mW];simp
theorem afM (w:World) (ty:TypeId) (b o J c:Nat) (hJ:J=1∨J=2) (hc:∀ j,j<J*8->(w.cell? ⟨b,o+j,none⟩).isSome=true) (hf:∀ j,j<J*8->w.frozen? ⟨b,o+j,none⟩=false) :
  (Builtin.clear_ #[24] ty #[.slice (some ⟨b,o,none⟩) J c]).run Tryz.prog w=.ok (.tuple #[]) (w.setCells b o (qy J)):=by
 have I_:(Builtin.zeroCells (Value.agg #[.int .u8 0,.int .i64 0,.int .i64 0,.int .i64 0,.int .i64 0,.int .i64 0,.int .i64 0,.int .i64 0]).cells J).toList=qy J:=by
  rcases hJ with rfl | rfl <;> kernel_rfl
 have hst:=run_storeCells_cells (P:=Tryz.prog) b o (qy J) 0 w (fun j hj=>by rw[Ms]at hj;simpa using hc j hj) (fun j hj=>by rw[Ms]at hj;simpa using hf j hj) (BG _);simp only[Nat.add_zero]at hst;rcases hJ with rfl | rfl <;> simp[Builtin.clear_,run_underlying Tryz.underlying24,I_,hst]
theorem afN (v:Value) (n:Nat) (base:Nat) (xs:List Value) (w:World) (hr:Hid (w.ownsRow base 95 8 v n xs)):Calls Tryz.prog 134 #[v,.int .i64 0,.int .i64 0] w fun e w'=>e=.returned v∧w'=w:=by
 have hsl:∃ a c,v=.slice a n c∧(a=none->n=0∧c=0)∧n<=c:=by
  rcases hr.out.2 with ⟨rfl,rfl⟩ | ⟨g,cap,cur,rfl,_,_,h,_⟩
  ·exact⟨_,_,rfl,fun _=>⟨rfl,rfl⟩,lRq _⟩
  ·exact⟨_,_,rfl,fun h=>(by cases h),h⟩
 obtain⟨a,c,rfl,ha,hc⟩:=hsl;cases a with
 | none =>
  obtain⟨rfl,rfl⟩:=ha rfl;clear ha;go_enter Tryz.func134,Tryz.ntmps134;go_wp2;go_ret;exact⟨rfl,rfl⟩
 | some g =>
  clear ha;go_enter Tryz.func134,Tryz.ntmps134;go_wp2;go_ret;exact⟨rfl,rfl⟩
theorem afO (g cap n j base:Nat) (l:List Ask) (w:World) (hn:Hid (l.length=n)) (hrow:w.ownsRow base 95 8 (.slice (some ⟨g,0,none⟩) n cap) n (bl l)) (hJ:Hid (j=1∨j=2)) (aok:0<j) (hjn:j<=n) (hcap:n<=cap) :
  Calls Tryz.prog 134 #[.slice (some ⟨g,0,none⟩) n cap,.int .i64 0,.int .i64 j] w fun e w'=>e=.returned (.slice (some ⟨g,0,none⟩) (n-j) cap)∧w'.ownsRow base 95 8 (.slice (some ⟨g,0,none⟩) (n-j) cap) (n-j) (bl (l.drop j))∧w.grownBy w' (some g):=by
 obtain⟨i0,z0,hi,hz0,hz1,hz2,hz3⟩:=Gk;have hne:¬ ((0:Int)=j):=by omega
 obtain⟨news,hnews⟩:∃ news,news=bl (l.drop j):=⟨_,rfl⟩;have hlen:news.length=(n-j)*8:=by rw[hnews,mW,List.length_drop,hn.out]
 have zQ:∀ t u,news[t]?=some u->w.cell? ⟨g,j*8+t,none⟩=some u:=by
  intro t u hu;have ht:t<(n-j)*8:=by
   have:=(List.getElem?_eq_some_iff.1 hu).1
   rwa [hlen]at this
  rw[(ly hrow (j*8+t) (by omega)).2.2];rw[hnews,<- Um l j (by rw[hn.out];exact hjn),List.getElem?_drop]at hu;exact hu
 obtain⟨A,hA,hsrc⟩:∃ A:Addr,(if cap=j then some (⟨g,0,none⟩:Addr) else some ⟨g,j*8,none⟩)=some A∧Hid (∀ t u,news[t]?=some u->w.drew.cell? (A.add t)=some u):=by
  by_cases h:cap=j
  ·refine⟨⟨g,0,none⟩,by simp[h],fun t u hu=>?_⟩
   have h0:news.length=0:=by rw[hlen];omega
   rw[List.length_eq_zero_iff.1 h0]at hu;simp at hu
  ·refine⟨⟨g,j*8,none⟩,by simp[h],fun t u hu=>?_⟩
   rw[Addr.add_lit];exact zQ t u hu
 have s1:Hid (news.length=(n-j)*8):=hlen;have s2:Hid (∀ u∈news,u.oneCell'=true):=by
  intro u hu;rw[hnews]at hu;exact BG _ u hu
 have s3:Hid (∀ t,t<news.length->(w.drew.cell? ⟨g,0+0*8+t,none⟩).isSome=true∧w.drew.frozen? ⟨g,0+0*8+t,none⟩=false):=by
  intro t ht;rw[hlen]at ht;have h:=ly hrow (0+0*8+t) (by omega);exact⟨h.1,h.2.1⟩
 have zR:w.drew.ownsRow base 95 8 (.slice (some ⟨g,0,none⟩) n cap) n (bl l):=hrow;obtain⟨W1,hW1⟩:∃ W1,W1=w.drew.setCells g (0+0*8) news:=⟨_,rfl⟩;have hfl:(bl l).length=n*8:=by rw[mW,hn.out]
 obtain⟨ys,rz⟩:∃ ys,ys=(bl l).take (0+0*8)++news++(bl l).drop (0+0*8+news.length):=⟨_,rfl⟩;have vA:ys.length=n*8:=by
  rw[rz];simp only[List.length_append,List.length_take,List.length_drop,hlen,hfl];omega
 have hr1:W1.ownsRow base 95 8 (.slice (some ⟨g,0,none⟩) n cap) n ys:=by
  rw[hW1];exact Gl zR _ news n hcap (by rw[hlen];omega) ys vA (lRq _) (by rw[<- rz];exact List.take_of_length_le (by omega))
 have hcl:∀ ty,(Builtin.clear_ #[24] ty #[.slice (some ⟨g,(n-j)*8,none⟩) (n-(n-j)) (cap-(n-j))]).run Tryz.prog W1=.ok (.tuple #[]) (W1.setCells g ((n-j)*8) (qy j)):=by
  intro ty;rw[show n-(n-j)=j by omega];exact afM W1 ty g _ j _ hJ.out (fun t ht=>(ly hr1 _ (by omega)).1) (fun t ht=>(ly hr1 _ (by omega)).2.1)
 have HR:Hid ((W1.setCells g ((n-j)*8) (qy j)).ownsRow base 95 8 (.slice (some ⟨g,0,none⟩) (n-j) cap) (n-j) (bl (l.drop j))):=by
  have hd:(l.drop j).length=n-j:=by rw[List.length_drop,hn.out]
  refine Gl hr1 _ (qy j) (n-j) (by omega) (by rw[Ms];omega) _ (by rw[mW,hd]) (by omega) ?_;rw[aAq,List.take_append_of_le_length (by rw[lKq,vA];omega),List.take_take,Nat.min_self,rz];rw[List.take_append_of_le_length (by simp only[List.length_append,List.length_take,hlen,hfl];omega),List.take_of_length_le (by simp only[List.length_append,List.length_take,hlen,hfl];omega)];rw[hnews];simp
 have HG:Hid (w.grownBy (W1.setCells g ((n-j)*8) (qy j)) (some g)):=by
  have o1:=aJ.setCells w.drew g news (0+0*8);rw[<- hW1]at o1;have o2:=o1.trans (aJ.setCells W1 g (qy j) ((n-j)*8)) (fun k h=>.inl h);exact⟨o2.os,o2.tape,o2.output,o2.size,fun k hk h=>o2.block k hk (fun e=>h (by rw[e]))⟩
 have hW:Hid (W1=w.drew.setCells g (0+0*8) news):=hW1;have HI:=hDq hi;have au:=hDq hz1;have abk:j<=cap:=by omega
 have aol:n-j<=cap:=by omega
 clear hW1 hr1 rz vA hfl zR zQ hnews hlen hrow hi hz0 hz1 hz2 hz3;go_enter Tryz.func134,Tryz.ntmps134
 go_wp2_with fail
 go_region_law (refine step_append_room rfl (.tmp 22) (.tmp 25) 24 rfl 95 i0 8 Tryz.underlying24 HI.out au.out g 0 0 cap (by simp[Act.eval,Act.put]) A (n-j) (cap-j) news (by simp[Act.eval,Act.put]) s1.out hsrc.out s2.out (by omega) s3.out ?_;rw[<- hW.out])
 all_goals go_wp2
 all_goals go_ret
 all_goals exact⟨by simp,HR.out,HG.out⟩
end Go.Proofs.YtjolccidheflpaaGreatDoor
