/- An intake in memory: a block of six slices and a turn, a row of requests behind each slice; which blocks an act may turn. -/
import Derived.Test.YtjolccidheflpaaGreatDoorX01
import Derived.Test.YtjolccidheflpaaGreatDoorX03
import Derived.Deep.RegionLaw
import Derived.BigQuiet
namespace Go.Proofs.YtjolccidheflpaaGreatDoor
open Go.Proofs.Tryz
set_option maxHeartbeats 8000000
set_option maxRecDepth 100000
open Go.RowKit
def mO(a:Ask):List Value:=[.int .u8 a.k,Z a.c,Z a.sq,Z a.it,Z a.sd,Z a.pr,Z a.q,Z a.id]
def bz(l:List Ask):List Value:=l.flatMap mO
theorem oQ:∀l:List Ask,(bz l).length=l.length*8
 | []=>rfl
 | x::l=>by
  have:=oQ l
  simp only[bz,List.flatMap_cons,List.length_append,List.length_cons]at this ⊢;rw[this];show 8+_=_;omega
theorem vW(a b:List Ask):bz (a++b)=bz a++bz b:=by simp[bz]
theorem Wc(l:List Ask)(k:Nat)(h:k<=l.length):(bz l).take (k*8)=bz (l.take k):=by
 have e:bz l=bz (l.take k)++bz (l.drop k):=by rw[<- vW,List.take_append_drop]
 have hl:(bz (l.take k)).length=k*8:=by rw[oQ,lKq];congr 1;omega
 rw[e,<- hl,List.take_left]
theorem V9(l:List Ask)(k:Nat)(h:k<=l.length):(bz l).drop (k*8)=bz (l.drop k):=by
 have e:bz l=bz (l.take k)++bz (l.drop k):=by rw[<- vW,List.take_append_drop]
 have hl:(bz (l.take k)).length=k*8:=by rw[oQ,lKq];congr 1;omega
 rw[e,<- hl,List.drop_left]
theorem Dk(l:List Ask):∀u∈bz l,u.oneCell'=true:=by intro u hu;simp only[bz,List.mem_flatMap]at hu;obtain⟨x,_,hx⟩:=hu;simp only[mO,List.mem_cons,List.not_mem_nil,or_false]at hx;rcases hx with rfl | rfl | rfl | rfl | rfl | rfl | rfl | rfl <;> rfl
theorem air(l:List Ask)(i j:Nat)(hi:i<l.length)(hj:j<8):(bz l)[i*8+j]?=(mO (dD l i))[j]?:=by
 have e:bz l=bz (l.take i)++(mO (dD l i)++bz (l.drop (i+1))):=by
  have h2:l=l.take i++(dD l i::l.drop (i+1)):=by
   have:=List.getElem?_eq_some_iff.1 (GQ hi)
   obtain⟨h3,h4⟩:=this;rw[<- h4,List.getElem_cons_drop,List.take_append_drop]
  conv=>lhs;rw[h2]
  rw[vW];rfl
 have hl:(bz (l.take i)).length=i*8:=by rw[oQ,lKq];congr 1;omega
 rw[e,List.getElem?_append_right (by omega),hl,show i*8+j-i*8=j by omega,List.getElem?_append_left (by show _<8;exact hj)]
structure aL (w w':World) (S:Nat->Prop):Prop where
 os:w'.os=w.os
 tape:w'.tape=w.tape
 output:w'.output=w.output
 size:w.heap.size<=w'.heap.size
 block:∀k,k<w.heap.size->¬ S k->w'.heap[k]?=w.heap[k]?
theorem aL.refl(w:World)(S:Nat->Prop):aL w w S:=⟨rfl,rfl,rfl,E _,fun _ _ _=>rfl⟩
theorem aL.of_below{w w':World}(h:U w w')(S:Nat->Prop):aL w w' S:=⟨h.os,h.tape,h.output,h.size,fun k hk _=>h.block k hk⟩
theorem aL.j9{w w':World}{r:Option Nat}(h:w.grownBy w' r):aL w w' (fun k=>some k=r):=⟨h.os,h.tape,h.output,h.size,fun k hk h2=>h.block k hk h2⟩
theorem aL.trans{w w1 w2:World}{S S1:Nat->Prop}(h:aL w w1 S)(h1:aL w1 w2 S1)(hs:∀k,S1 k->S k\/w.heap.size<=k):aL w w2 S :=
 ⟨h1.os.trans h.os,h1.tape.trans h.tape,h1.output.trans h.output,lTq h.size h1.size,fun k hk hn=>by
  rw[h1.block k (Nat.lt_of_lt_of_le hk h.size) (fun e=>?_)]
  .exact h.block k hk hn
  .rcases hs k e with h3 | h3
   .exact hn h3
   .omega⟩
theorem aL.mono{w w':World}{S S':Nat->Prop}(h:aL w w' S)(hs:∀k,S k->S' k):aL w w' S':=⟨h.os,h.tape,h.output,h.size,fun k hk hn=>h.block k hk (fun e=>hn (hs k e))⟩
theorem aL.below{w w':World}{S:Nat->Prop}{n:Nat}(h:aL w w' S)(hn:n<=w.heap.size)(hs:∀k,S k->n<=k):Below n w w' :=
 ⟨h.os,h.tape,h.output,h.size,fun k hk=>h.block k (by omega) (fun e=>by have:=hs k e;omega)⟩
theorem aL.setCell(w:World)(g o:Nat)(v:Value):aL w (w.setCell (O g o) v) (fun k=>k=g) :=
 ⟨rfl,rfl,rfl,by simp,fun k _ ha=>Below.heap_setCell _ _ _ _ (fun e=>ha e)⟩
theorem aL.setCells(w:World)(g:Nat):∀(vs:List Value) (o:Nat),aL w (w.setCells g o vs) (fun k=>k=g):=by
 intro vs
 induction vs generalizing w with
 | nil=>intro o;exact aL.refl w _
 | cons v vs ih =>
  intro o;exact(aL.setCell w g o v).trans (ih (w.setCell (O g o) v) (o+1)) (fun k h=>.inl h)
theorem eV{w w':World}{S:Nat->Prop}{base:Nat}{e:TypeId}{s:Nat}{v:Value}{n:Nat}{xs:List Value}(hr:w.ownsRow base e s v n xs)(h:aL w w' S)(ha:∀k,v.ownBlock=some k->¬ S k):w'.ownsRow base e s v n xs:=by
 refine⟨hr.1,?_⟩;rcases hr.2 with hn | ⟨g,cap,cur,rfl,hg,er,rest⟩
 .exact .inl hn
 .exact .inr ⟨g,cap,cur,rfl,hg,by rw[h.block g (lBq er) (ha g rfl)];exact er,rest⟩
theorem fA{w:World}{base:Nat}{e:TypeId}{s:Nat}{v:Value}{n:Nat}{xs:List Value}(hr:w.ownsRow base e s v n xs):∃a c,v=.slice a n c:=by
 rcases hr.2 with ⟨rfl,rfl⟩ | ⟨g,cap,cur,rfl,_⟩
 .exact⟨_,_,rfl⟩
 .exact⟨_,_,rfl⟩
def Ad(V:Nat->Value)(t:Nat):Array Value:=#[V 0,V 1,V 2,V 3,V 4,V 5,Z (t:Int)]
theorem Wd(V:Nat->Value)(t:Nat){c:Nat}(hc:c<6):(Ad V t)[c]?=some (V c):=by
 match c,hc with
 | 0,_=>rfl
 | 1,_=>rfl
 | 2,_=>rfl
 | 3,_=>rfl
 | 4,_=>rfl
 | 5,_=>rfl
theorem ais(V:Nat->Value)(t:Nat){c:Nat}(hc:c<6)(v:Value):(Ad V t).setIfInBounds c v=Ad (az.upd V c v) t:=by
 match c,hc with
 | 0,_=>rfl
 | 1,_=>rfl
 | 2,_=>rfl
 | 3,_=>rfl
 | 4,_=>rfl
 | 5,_=>rfl
theorem block_setCell{w:World}{p:Nat}{cur:Array Value}{e:TypeId}{fz:Nat×Nat}(h:w.heap[p]?=some (.cells cur e fz))(o:Nat)(v:Value):(w.setCell (O p o) v).heap[p]?=some (.cells (cur.setIfInBounds o v) e fz):=by
 have hlt:=lBq h;have h':w.heap[p]=.cells cur e fz:=by simpa [Array.getElem?_eq_getElem hlt] using h
 show (w.heap.modify p _)[p]?=_;rw[Array.getElem?_eq_getElem (by simpa using hlt),Array.getElem_modify_self,h'];rfl
def oT(p:Nat)(V:Nat->Value)(k:Nat):Prop:=k=p\/∃c,c<6/\(V c).ownBlock=some k
structure dS (w:World) (base p:Nat) (V:Nat->Value) (t:Nat) (L:Nat->List Ask):Prop where
 cell:w.heap[p]?=some (.cells (Ad V t) 232 (0,0))
 lo:base<=p
 turn:t<6
 row:∀c,c<6->w.ownsRow base 95 8 (V c) (L c).length (bz (L c))
 few:∀c,c<6->(L c).length<=6
 apart:∀c d,c<6->d<6->c≠d->∀k,(V c).ownBlock=some k->(V d).ownBlock≠some k
structure i_ (w w':World) (p:Nat) (V fK:Nat->Value):Prop where
 turned:aL w w' (oT p V)
 new:∀k,oT p fK k->oT p V k\/w.heap.size<=k
section
variable {w w' w2:World} {base p t:Nat} {V fK:Nat->Value} {L:Nat->List Ask}
theorem i_.refl(w:World)(p:Nat)(V:Nat->Value):i_ w w p V V:=⟨aL.refl _ _,fun _ h=>.inl h⟩
theorem i_.of_below(h:U w w')(p:Nat)(V:Nat->Value):i_ w w' p V V:=⟨aL.of_below h _,fun _ h=>.inl h⟩
theorem i_.trans{V2:Nat->Value}(h:i_ w w' p V fK)(h1:i_ w' w2 p fK V2):i_ w w2 p V V2 :=
 ⟨h.turned.trans h1.turned h.new,fun k hk=>by
  rcases h1.new k hk with h3 | h3
  .exact h.new k h3
  .exact .inr (lTq h.turned.size h3)⟩
theorem dS.lt(h:dS w base p V t L):p<w.heap.size:=lBq h.cell
theorem dS.ig(h:dS w base p V t L){k:Nat}(hk:oT p V k):base<=k/\k<w.heap.size:=by
 rcases hk with rfl | ⟨c,hc,hk⟩
 .exact⟨h.lo,h.lt⟩
 .exact(h.row c hc).lt k hk
theorem Wh{e e2:TypeId}{s n:Nat}{v:Value}{xs:List Value}{cur:Array Value}{q:Nat}(hr:w.ownsRow base e s v n xs)(hq:w.heap[q]?=some (.cells cur e2 (0,0)))(hne:e≠e2):v.ownBlock≠some q:=by
 intro h;rcases hr.2 with ⟨e1,_⟩ | ⟨r,cap,l9,e1,_,hr2,_⟩
 .rw[e1]at h;cases h
 .rw[e1]at h
  have:r=q:=by simpa [Value.ownBlock] using h
  rw[this,hq]at hr2;simp at hr2;exact hne hr2.2.symm
theorem dS.ne(h:dS w base p V t L){c:Nat}(hc:c<6):(V c).ownBlock≠some p:=Wh (h.row c hc) h.cell (by decide)
theorem dS.turned{S:Nat->Prop}(h:dS w base p V t L)(ho:aL w w' S)(hs:∀k,oT p V k->¬ S k):dS w' base p V t L :=
 ⟨by rw[ho.block p h.lt (hs p (.inl rfl))];exact h.cell,h.lo,h.turn,fun c hc=>eV (h.row c hc) ho (fun k hk=>hs k (.inr ⟨c,hc,hk⟩)),h.few,h.apart⟩
theorem dS.later(h:dS w base p V t L)(hb:U w w'):dS w' base p V t L:=h.turned (aL.of_below hb (fun _=>False)) (fun _ _ h=>h)
theorem dS.at(h:dS w base p V t L){c:Nat}(hc:c<6):w.cell? (O p c)=some (V c):=by rw[cR w p c _ _ _ h.cell];exact Wd V t hc
theorem dS.ail(h:dS w base p V t L):w.cell? (O p 6)=some (Z (t:Int)):=by rw[cR w p 6 _ _ _ h.cell];rfl
theorem dS.free(h:dS w base p V t L)(c:Nat):w.frozen? (O p c)=false:=by simp[World.frozen?,h.cell]
theorem dS.form(h:dS w base p V t L){c:Nat}(hc:c<6):∃a k,V c=.slice a (L c).length k:=fA (h.row c hc)
theorem dS.set(h:dS w base p V t L){c:Nat}(hc:c<6)(hg:w.grownBy w2 (V c).ownBlock){v':Value}{l':List Ask}(hr:w2.ownsRow base 95 8 v' l'.length (bz l'))(hf:l'.length<=6)(hn:∀k,v'.ownBlock=some k->(V c).ownBlock=some k\/w.heap.size<=k):
  dS (w2.setCell (O p c) v') base p (az.upd V c v') t (az.upd L c l')/\i_ w (w2.setCell (O p c) v') p V (az.upd V c v'):=by
 have hcell:w2.heap[p]?=some (.cells (Ad V t) 232 (0,0)):=by rw[hg.block p h.lt (fun e=>h.ne hc e.symm)];exact h.cell
 have hp':v'.ownBlock≠some p:=Wh hr hcell (by decide);have hsc:=aL.setCell w2 p c v';have hrow:∀d,d<6->d≠c->w2.ownsRow base 95 8 (V d) (L d).length (bz (L d)):=fun d hd hdc =>
  eV (h.row d hd) (aL.j9 hg) (fun k hk e=>h.apart d c hd hc hdc k hk e.symm)
 refine⟨⟨?_,h.lo,h.turn,?_,?_,?_⟩,⟨?_,?_⟩⟩
 .rw[block_setCell hcell,ais V t hc]
 .intro d hd
  by_cases hdc:d=c
  .subst hdc
   rw[az.upd_same,az.upd_same];exact eV hr hsc (fun k hk e=>hp' (by rw[hk,e]))
  .rw[az.qN _ _ hdc,az.qN _ _ hdc]
   exact eV (hrow d hd hdc) hsc (fun k hk e=>h.ne hd (by rw[hk,e]))
 .intro d hd
  by_cases hdc:d=c
  .subst hdc;rw[az.upd_same];exact hf
  .rw[az.qN _ _ hdc];exact h.few d hd
 .intro d e hd he Nw k hk
  have Wi:∀d,d<6->d≠c->∀k,v'.ownBlock=some k->(V d).ownBlock≠some k:=fun d hd hdc k hk h3=>by
   rcases hn k hk with h4 | h4
   .exact h.apart d c hd hc hdc k h3 h4
   .have:=((h.row d hd).lt k h3).2
    omega
  by_cases hdc:d=c
  .subst hdc
   rw[az.upd_same]at hk;rw[az.qN _ _ (Ne.symm Nw)];exact Wi e he (Ne.symm Nw) k hk
  .rw[az.qN _ _ hdc]at hk
   by_cases Wj:e=c
   .subst Wj
    rw[az.upd_same];exact fun h3=>Wi d hd hdc k h3 hk
   .rw[az.qN _ _ Wj]
    exact h.apart d e hd he Nw k hk
 .refine((aL.j9 hg).mono (fun k hk=>.inr ⟨c,hc,hk.symm⟩)).trans hsc (fun k hk=>.inl (.inl hk))
 .intro k hk
  rcases hk with rfl | ⟨d,hd,hk⟩
  .exact .inl (.inl rfl)
  .by_cases hdc:d=c
   .subst hdc
    rw[az.upd_same]at hk;rcases hn k hk with h4 | h4
    .exact .inl (.inr ⟨d,hd,h4⟩)
    .exact .inr h4
   .rw[az.qN _ _ hdc]at hk
    exact .inl (.inr ⟨d,hd,hk⟩)
theorem dS.xo(h:dS w base p V t L){c:Nat}(hc:c<6)(hg:w.grownBy w2 (V c).ownBlock):w2.cell? (O p c)=some (V c)/\w2.frozen? (O p c)=false:=by
 have hcell:w2.heap[p]?=some (.cells (Ad V t) 232 (0,0)):=by rw[hg.block p h.lt (fun e=>h.ne hc e.symm)];exact h.cell
 exact⟨by rw[cR w2 p c _ _ _ hcell];exact Wd V t hc,by simp[World.frozen?,hcell]⟩
theorem dS.next(h:dS w base p V t L){t':Nat}(ht:t'<6):dS (w.setCell (O p 6) (Z (t':Int))) base p V t' L/\i_ w (w.setCell (O p 6) (Z (t':Int))) p V V:=by have hsc:=aL.setCell w p 6 (Z (t':Int));refine⟨⟨?_,h.lo,ht,fun d hd=>eV (h.row d hd) hsc (fun k hk e=>h.ne hd (by rw[hk,e])),h.few,h.apart⟩,⟨hsc.mono (fun k hk=>.inl hk),fun _ h=>.inl h⟩⟩;rw[block_setCell h.cell];rfl
end
section
variable {w:World} {base p t:Nat} {V:Nat->Value} {L:Nat->List Ask}
theorem Wk(x:Int)(w:World):Calls prog 97 #[Z x] w fun e w'=>e=.returned (.bool (az.nK x))/\w'=w:=by
 have HW:=Y (ib x 0 5 w);go_enter func97,ntmps97
 go_wp2_with fail
 refine HW.mono ?_;rintro e w2 ⟨rfl,rfl⟩;simp only[];go_wp2;go_ret;exact⟨rfl,rfl⟩
theorem V'(n k:Nat)(w:World)(hn:n<6)(hk:k<=6):Calls prog 133 #[Z n,Z k] w fun e w'=>e=.returned (Z (az.who n k:Nat))/\w'=w:=by
 have h1:IntKind.i64.wrap ((n:Int)+k)=(n:Int)+k:=IntWalk.i64_in _ (by omega);have h2:((az.who n k:Nat):Int)=((n:Int)+k).tmod 6:=by unfold az.who;rw[Int.tmod_eq_emod_of_nonneg (by omega)];omega
 have h3:IntKind.i64.wrap (((n:Int)+k).tmod 6)=((n:Int)+k).tmod 6:=IntWalk.i64_in _ (by rw[<- h2];have:=az.vY n k;omega);rw[h2];go_enter func133,ntmps133;go_wp2;go_ret;exact⟨rfl,rfl⟩
theorem ait(w:World):Calls prog 96 #[] w fun e w'=>e=.returned (Rw w.heap.size)/\dS w' w.heap.size w.heap.size (fun _=>.slice none 0 0) 0 (fun _=>[])/\U w w':=by go_enter func96,ntmps96;go_wp2;go_ret;refine⟨rfl,⟨?_,E _,by decide,fun c _=>World.ownsRow_nil _ _ _ _,fun c _=>by simp,fun c d _ _ _ k h=>by simp[Value.ownBlock]at h⟩,aj⟩;exact hNq _ _
theorem V5(n:Int)(w:World)(hi:Hid (dS w base p V t L)):Calls prog 212 #[Rw p,Z n] w fun e w'=>e=.returned (Z (az.tM L n:Nat))/\w'=w:=by
 have HC:=Y (Wk n w);unfold az.tM;cases h:az.nK n with
 | false =>
  rw[h]at HC;clear h;go_enter func212,ntmps212
  go_wp2_with fail
  refine HC.mono ?_;rintro e w2 ⟨rfl,rfl⟩;simp only[];go_wp2;go_ret;exact⟨rfl,rfl⟩
 | true =>
  rw[h]at HC;obtain⟨c,hc,rfl⟩:=az.Ns h;clear h;have hat:=hi.at hc;obtain⟨a,k,hV⟩:=hi.form hc;rw[hV]at hat;have hf:=hi.few c hc;simp only[Int.toNat_natCast,if_true];generalize (L c).length=m at *;go_enter func212,ntmps212
  go_wp2_with fail
  refine HC.mono ?_;rintro e w2 ⟨rfl,rfl⟩;simp only[];go_wp2;go_ret;exact⟨rfl,rfl⟩
end
def V4(T:Nat->Value):Nat->Value
 | 0=>.nilIface
 | c+1=>.iface 412 (T c)
structure yf (w:World) (T:Nat->Value):Prop where
 kd:w.cell? (O 4 0)=some (.iface 412 (T 3))
 bd:w.cell? (O 1 0)=some (.iface 412 (T 1))
 Nr:w.cell? (O 8 0)=some (.iface 412 (T 7))
section
variable {w w':World} {base p t:Nat} {V:Nat->Value} {L:Nat->List Ask} {T:Nat->Value}
theorem yf.later(h:yf w T)(hb:U w w'):yf w' T:=⟨cell_later hb h.kd,cell_later hb h.bd,cell_later hb h.Nr⟩
theorem yf.size(h:yf w T):4<w.heap.size:=bCq w _ h.kd
theorem aib(n:Int)(w:World)(hi:Hid (dS w base p V t L)):Calls prog 182 #[Rw p,Z n] w fun e w'=>e=.returned (Z (az.tM L n:Nat))/\∃fK,dS w' base p fK t (az.pV L n)/\i_ w w' p V fK:=by
 have HW:=Y (V5 n w hi);by_cases h:az.tM L n=0
 .have HE:Hid (az.pV L n=L):=by
   show _=_;unfold az.pV az.tM at *;cases hc:az.nK n with
   | false=>rfl
   | true =>
    rw[hc]at h;simp only[if_true]at h ⊢;rw[<- List.eq_nil_of_length_eq_zero h,az.pB]
  rw[h]at HW ⊢;clear h;go_enter func182,ntmps182
  go_wp2_with fail
  refine HW.mono ?_;rintro e w2 ⟨rfl,rfl⟩;simp only[];go_wp2;go_ret;exact⟨rfl,V,by rw[HE.out];exact hi,i_.refl _ _ _⟩
 .cases hcc:az.nK n with
  | false=>exact absurd (by unfold az.tM;rw[hcc];rfl) h
  | true =>
   have HE:Hid (az.pV L n=az.upd L n.toNat []):=by show _=_;unfold az.pV;rw[hcc];rfl
   obtain⟨c,hc,rfl⟩:=az.Ns hcc;clear hcc;have hset:=hi.set (w2:=w) hc ⟨rfl,rfl,rfl,E _,fun _ _ _=>rfl⟩ (v':=.slice none 0 0) (l':=[]) (World.ownsRow_nil _ _ _ _) (by simp) (fun k h=>by simp[Value.ownBlock]at h);have HS:=Y hset;clear hset;have hat:=hi.at hc;have hfr:=hi.free c;generalize az.tM L (c:Int)=m at *;have hm:0<(m:Int):=by omega
   go_enter func182,ntmps182
   go_wp2_with fail
   refine HW.mono ?_;rintro e w2 ⟨rfl,rfl⟩;simp only[];go_wp2;go_ret;exact⟨rfl,_,by rw[HE.out];exact HS.1,HS.2⟩
theorem GL:∃i z,prog.info? 95=some i/\i.zero=some z/\i.size=8/\i.bytes=64/\z.cells.size=8:=⟨_,_,rfl,rfl,rfl,rfl,rfl⟩
theorem V6(w:World)(x:Ask)(ty:TypeId)(fz:Nat×Nat)(hf:fz=(0,0)):∀j u,(mO x)[j]?=some u->(w.alloc (.cells (aX x) ty fz)).cell? ((⟨w.heap.size,0,none⟩:Addr).add j)=some u:=by
 subst hf;intro j u hj;have hp:(⟨w.heap.size,0,none⟩:Addr).add j=(O w.heap.size j):=by unfold Addr.add;split <;> simp_all
 rw[hp,World.cell?_alloc_new];have hlt:j<8:=(List.getElem?_eq_some_iff.1 hj).1
 match j,hlt,hj with
 | 0,_,hj=>exact hj
 | 1,_,hj=>exact hj
 | 2,_,hj=>exact hj
 | 3,_,hj=>exact hj
 | 4,_,hj=>exact hj
 | 5,_,hj=>exact hj
 | 6,_,hj=>exact hj
 | 7,_,hj=>exact hj
end
theorem V7{e:TypeId}{fz:Nat×Nat}(g:Nat):∀(vs:List Value) (o:Nat) (w:World) (cur:Array Value),w.heap[g]?=some (.cells cur e fz)->o+vs.length<=cur.size ->
  ∃cur',(w.setCells g o vs).heap[g]?=some (.cells cur' e fz)/\cur'.size=cur.size/\cur'.toList=cur.toList.take o++vs++cur.toList.drop (o+vs.length)
 | [],o,w,cur,h,hs=>⟨cur,h,rfl,by simp⟩
 | v::vs,o,w,cur,h,hs=>by
  have hlt:=lBq h;have h':w.heap[g]=.cells cur e fz:=by simpa [Array.getElem?_eq_getElem hlt] using h
  have h1:(w.setCell (O g o) v).heap[g]?=some (.cells (cur.setIfInBounds o v) e fz):=by show (w.heap.modify g _)[g]?=_;rw[Array.getElem?_eq_getElem (by simpa using hlt),Array.getElem_modify_self,h'];rfl
  simp only[List.length_cons]at hs;obtain⟨cur',a1,a2,a3⟩:=V7 g vs (o+1) _ _ h1 (by simp;omega);refine⟨cur',a1,by rw[a2];simp,?_⟩;rw[a3];simp only[List.length_cons,Array.toList_setIfInBounds];have ho:o<cur.toList.length:=by simp;omega
  rw[List.take_succ_eq_append_getElem (by simpa using ho),List.take_set_of_le (E o),List.getElem_set_self,List.drop_set_of_lt (by omega),show o+1+vs.length=o+(vs.length+1) by omega];simp
theorem GM{w:World}{base:Nat}{e:TypeId}{s g n cap:Nat}{xs:List Value}(h:w.ownsRow base e s (.slice (some (O g 0)) n cap) n xs)(o:Nat)(vs:List Value)(m:Nat)(hm:m<=cap)(hv:o+vs.length<=n*s)(ys:List Value)(hy:ys.length=m*s)(hmn:m<=n)(he:(xs.take o++vs++xs.drop (o+vs.length)).take (m*s)=ys):
  (w.setCells g o vs).ownsRow base e s (.slice (some (O g 0)) m cap) m ys:=by
 rcases h.2 with ⟨e1,_⟩ | ⟨g',cap',cur,e1,hg,er,h1,h2,h3,h4⟩
 .cases e1
 .obtain⟨rfl,rfl⟩:g=g'/\cap=cap':=by simpa using e1
  have hle:n*s<=cur.size:=by rw[h3];exact Nat.mul_le_mul_right _ h1
  obtain⟨cur',a1,a2,a3⟩:=V7 g vs o w cur er (by omega);refine⟨hy,.inr ⟨g,cap,cur',rfl,hg,a1,hm,h2,by rw[a2,h3],?_⟩⟩;have BG:m*s<=n*s:=Nat.mul_le_mul_right _ hmn;rw[a3,<- he,<- h4];have hx:cur.toList=cur.toList.take (n*s)++cur.toList.drop (n*s):=(List.take_append_drop _ _).symm;have hl:(cur.toList.take (n*s)).length=n*s:=by rw[lKq];simp;omega
  generalize cur.toList.take (n*s)=A at *;generalize cur.toList.drop (n*s)=C at *;have e1:(A++C).take o=A.take o:=List.take_append_of_le_length (by omega);have e2:(A++C).drop (o+vs.length)=A.drop (o+vs.length)++C:=List.drop_append_of_le_length (by omega);rw[hx,e1,e2,<- aAq];exact List.take_append_of_le_length (by simp only[List.length_append,List.length_take,List.length_drop];omega)
theorem mP{w:World}{base:Nat}{e:TypeId}{s g n cap:Nat}{xs:List Value}(h:w.ownsRow base e s (.slice (some (O g 0)) n cap) n xs)(j:Nat)(hj:j<n*s):(w.cell? (O g j)).isSome=true/\w.frozen? (O g j)=false/\w.cell? (O g j)=xs[j]?:=by
 rcases h.2 with ⟨e1,_⟩ | ⟨g',cap',cur,e1,hg,er,h1,h2,h3,h4⟩
 .cases e1
 .obtain⟨rfl,rfl⟩:g=g'/\cap=cap':=by simpa using e1
  have hle:n*s<=cur.size:=by rw[h3];exact Nat.mul_le_mul_right _ h1
  have e2:w.cell? (O g j)=xs[j]?:=by rw[cR w g j cur e (0,0) er,<- h4,List.getElem?_take_of_lt hj];simp
  have e3:(w.cell? (O g j)).isSome=true:=by rw[cR w g j cur e (0,0) er];simp;omega
  exact⟨e3,by simp[World.frozen?,er],e2⟩
def r5(J:Nat):List Value:=bz (List.replicate J V8)
theorem Nt(J:Nat):(r5 J).length=J*8:=by unfold r5;rw[oQ];simp
theorem aic(w:World)(ty:TypeId)(b o J c:Nat)(hJ:J=1\/J=2)(hc:∀j,j<J*8->(w.cell? ⟨b,o+j,none⟩).isSome=true)(hf:∀j,j<J*8->w.frozen? ⟨b,o+j,none⟩=false):
  (Builtin.clear_ #[24] ty #[.slice (some (O b o)) J c]).run prog w=.ok (.tuple #[]) (w.setCells b o (r5 J)):=by
 have JJ:(Builtin.zeroCells (Value.agg #[.int .u8 0,Z 0,Z 0,Z 0,Z 0,Z 0,Z 0,Z 0]).cells J).toList=r5 J:=by rcases hJ with rfl | rfl <;> kernel_rfl
 have hst:=run_storeCells_cells (P:=prog) b o (r5 J) 0 w (fun j hj=>by rw[Nt]at hj;simpa using hc j hj) (fun j hj=>by rw[Nt]at hj;simpa using hf j hj) (Dk _);simp only[Nat.add_zero]at hst;rcases hJ with rfl | rfl <;> simp[Builtin.clear_,run_underlying underlying24,JJ,hst]
theorem aid(v:Value)(n:Nat)(base:Nat)(xs:List Value)(w:World)(hr:Hid (w.ownsRow base 95 8 v n xs)):Calls prog 134 #[v,Z 0,Z 0] w fun e w'=>e=.returned v/\w'=w:=by
 have hsl:∃a c,v=.slice a n c/\(a=none->n=0/\c=0)/\n<=c:=by
  rcases hr.2 with ⟨rfl,rfl⟩ | ⟨g,cap,cur,rfl,_,_,h,_⟩
  .exact⟨_,_,rfl,fun _=>⟨rfl,rfl⟩,E _⟩
  .exact⟨_,_,rfl,fun h=>(by cases h),h⟩
 obtain⟨a,c,rfl,ha,hc⟩:=hsl;cases a with
 | none =>
  obtain⟨rfl,rfl⟩:=ha rfl;clear ha;go_enter func134,ntmps134;go_wp2;go_ret;exact⟨rfl,rfl⟩
 | some g =>
  clear ha;go_enter func134,ntmps134;go_wp2;go_ret;exact⟨rfl,rfl⟩
theorem aie(g cap n j base:Nat)(l:List Ask)(w:World)(hn:Hid (l.length=n))(hrow:w.ownsRow base 95 8 (.slice (some (O g 0)) n cap) n (bz l))(hJ:Hid (j=1\/j=2))(atk:0<j)(hjn:j<=n)(hcap:n<=cap):
  Calls prog 134 #[.slice (some (O g 0)) n cap,Z 0,Z j] w fun e w'=>e=.returned (.slice (some (O g 0)) (n-j) cap)/\w'.ownsRow base 95 8 (.slice (some (O g 0)) (n-j) cap) (n-j) (bz (l.drop j))/\w.grownBy w' (some g):=by
 obtain⟨i0,z0,hi,hz0,hz1,hz2,hz3⟩:=GL;have hne:¬ ((0:Int)=j):=by omega
 obtain⟨news,hnews⟩:∃news,news=bz (l.drop j):=⟨_,rfl⟩;have hlen:news.length=(n-j)*8:=by rw[hnews,oQ,List.length_drop,hn.out]
 have Bz:∀t u,news[t]?=some u->w.cell? ⟨g,j*8+t,none⟩=some u:=by
  intro t u hu;have ht:t<(n-j)*8:=by
   have:=(List.getElem?_eq_some_iff.1 hu).1
   rwa [hlen]at this
  rw[(mP hrow (j*8+t) (by omega)).2.2];rw[hnews,<- V9 l j (by rw[hn.out];exact hjn),List.getElem?_drop]at hu;exact hu
 obtain⟨A,hA,hsrc⟩:∃A:Addr,(if cap=j then some (⟨g,0,none⟩:Addr) else some ⟨g,j*8,none⟩)=some A/\Hid (∀t u,news[t]?=some u->w.drew.cell? (A.add t)=some u):=by
  by_cases h:cap=j
  .refine⟨(O g 0),by simp[h],fun t u hu=>?_⟩
   have h0:news.length=0:=by rw[hlen];omega
   rw[List.length_eq_zero_iff.1 h0]at hu;simp at hu
  .refine⟨⟨g,j*8,none⟩,by simp[h],fun t u hu=>?_⟩
   rw[Addr.add_lit];exact Bz t u hu
 have s1:Hid (news.length=(n-j)*8):=hlen;have s2:Hid (∀u∈news,u.oneCell'=true):=by intro u hu;rw[hnews]at hu;exact Dk _ u hu
 have s3:Hid (∀t,t<news.length->(w.drew.cell? ⟨g,0+0*8+t,none⟩).isSome=true/\w.drew.frozen? ⟨g,0+0*8+t,none⟩=false):=by intro t ht;rw[hlen]at ht;have h:=mP hrow (0+0*8+t) (by omega);exact⟨h.1,h.2.1⟩
 have BA:w.drew.ownsRow base 95 8 (.slice (some (O g 0)) n cap) n (bz l):=hrow;obtain⟨W1,hW1⟩:∃W1,W1=w.drew.setCells g (0+0*8) news:=⟨_,rfl⟩;have hfl:(bz l).length=n*8:=by rw[oQ,hn.out]
 obtain⟨ys,sV⟩:∃ys,ys=(bz l).take (0+0*8)++news++(bz l).drop (0+0*8+news.length):=⟨_,rfl⟩;have xq:ys.length=n*8:=by rw[sV];simp only[List.length_append,List.length_take,List.length_drop,hlen,hfl];omega
 have hr1:W1.ownsRow base 95 8 (.slice (some (O g 0)) n cap) n ys:=by rw[hW1];exact GM BA _ news n hcap (by rw[hlen];omega) ys xq (E _) (by rw[<- sV];exact List.take_of_length_le (by omega))
 have hcl:∀ty,(Builtin.clear_ #[24] ty #[.slice (some ⟨g,(n-j)*8,none⟩) (n-(n-j)) (cap-(n-j))]).run prog W1=.ok (.tuple #[]) (W1.setCells g ((n-j)*8) (r5 j)):=by intro ty;rw[show n-(n-j)=j by omega];exact aic W1 ty g _ j _ hJ (fun t ht=>(mP hr1 _ (by omega)).1) (fun t ht=>(mP hr1 _ (by omega)).2.1)
 have HR:Hid ((W1.setCells g ((n-j)*8) (r5 j)).ownsRow base 95 8 (.slice (some (O g 0)) (n-j) cap) (n-j) (bz (l.drop j))):=by
  have hd:(l.drop j).length=n-j:=by rw[List.length_drop,hn.out]
  refine GM hr1 _ (r5 j) (n-j) (by omega) (by rw[Nt];omega) _ (by rw[oQ,hd]) (by omega) ?_;rw[aAq,List.take_append_of_le_length (by rw[lKq,xq];omega),List.take_take,Nat.min_self,sV];rw[List.take_append_of_le_length (by simp only[List.length_append,List.length_take,hlen,hfl];omega),List.take_of_length_le (by simp only[List.length_append,List.length_take,hlen,hfl];omega)];rw[hnews];simp
 have HG:Hid (w.grownBy (W1.setCells g ((n-j)*8) (r5 j)) (some g)):=by have o1:=aL.setCells w.drew g news (0+0*8);rw[<- hW1]at o1;have o2:=o1.trans (aL.setCells W1 g (r5 j) ((n-j)*8)) (fun k h=>.inl h);exact⟨o2.os,o2.tape,o2.output,o2.size,fun k hk h=>o2.block k hk (fun e=>h (by rw[e]))⟩
 have hW:Hid (W1=w.drew.setCells g (0+0*8) news):=hW1;have HI:=Y hi;have au:=Y hz1;have adG:j<=cap:=by omega
 have atl:n-j<=cap:=by omega
 clear hW1 hr1 sV xq hfl BA Bz hnews hlen hrow hi hz0 hz1 hz2 hz3;go_enter func134,ntmps134
 go_wp2_with fail
 go_region_law (refine step_append_room rfl (.tmp 22) (.tmp 25) 24 rfl 95 i0 8 underlying24 HI au g 0 0 cap (by simp[Act.eval,Act.put]) A (n-j) (cap-j) news (by simp[Act.eval,Act.put]) s1 hsrc s2 (by omega) s3 ?_;rw[<- hW.out])
 all_goals go_wp2
 all_goals go_ret
 all_goals exact⟨by simp,HR,HG⟩
end Go.Proofs.YtjolccidheflpaaGreatDoor
