/- A floor of package batch in memory: three items with their books and bands, a purse; what an act may turn. -/
import Derived.Test.YtjolccidheflpaaGreatDoorX21
import Derived.Test.YtjolccidheflpaaGreatDoorX23
import Derived.Test.YtjolccidheflpaaGreatDoorX24
namespace Go.Proofs.YtjolccidheflpaaGreatDoor
open Go.Proofs.Tryz
set_option maxHeartbeats 8000000
set_option maxRecDepth 100000
open Go.RowKit
structure eQ (w:World) (ev:Nat->Value):Prop where
 c1:w.cell? (O 1 0)=some (.iface 412 (ev 1))
 c2:w.cell? (O 3 0)=some (.iface 412 (ev 2))
 c3:w.cell? (O 4 0)=some (.iface 412 (ev 3))
 c5:w.cell? (O 6 0)=some (.iface 412 (ev 5))
 c6:w.cell? (O 7 0)=some (.iface 412 (ev 6))
 c7:w.cell? (O 8 0)=some (.iface 412 (ev 7))
 c9:w.cell? (O 9 0)=some (.iface 412 (ev 9))
 c11:w.cell? (O 11 0)=some (.iface 412 (ev 11))
section
variable {w w':World} {ev:Nat->Value}
theorem eQ.below(h:eQ w ev)(hb:U w w'):eQ w' ev:=⟨cell_later hb h.c1,cell_later hb h.c2,cell_later hb h.c3,cell_later hb h.c5,cell_later hb h.c6,cell_later hb h.c7,cell_later hb h.c9,cell_later hb h.c11⟩
theorem eQ.cp(h:eQ w ev):iV w 412 (ev 1) (ev 6) (ev 7):=⟨h.c1,h.c6,h.c7⟩
theorem eQ.FP(h:eQ w ev):xk w 412 (ev 1) (ev 5) (ev 6) (ev 7):=⟨h.cp,h.c5⟩
theorem eQ.per(h:eQ w ev):vF w ev:=⟨h.cp,h.c9⟩
theorem eQ.Ub(h:eQ w ev):zQ w ev:=⟨h.per,h.c2,h.c11⟩
theorem eQ.KS(h:eQ w ev):og w 412 (ev 1):=⟨h.c1⟩
end
def vz(I:Nat->Nat)(P:Nat)(wd h:Int):Array Value :=
 #[Z wd,Z h,.pointer (some ⟨I 0,0,none⟩),.pointer (some ⟨I 1,0,none⟩),.pointer (some ⟨I 2,0,none⟩),Rw P]
def vA(b:Nat)(r l:Int):Array Value:=#[Rw b,Z r,Z l]
structure bB (w W:World) (F P:Nat) (I b:Nat->Nat) (v:Nat->Value) (L:Nat->List Cv.af) (pf n:Nat->Int) (wd h:Int):Prop where
 blk:W.heap[F]?=some (.cells (vz I P wd h) 210 (0,0))
 it:∀i,i<3->W.heap[I i]?=some (.cells (vA (b i) (n (i*2)) (n (i*2+1))) 267 (0,0))
 aO:∀i,i<3->dG W w.heap.size (b i) (v i) (L i)
 qz:∀i j,i<3->j<3->i≠j->I i≠I j
 ne:∀i j,i<3->j<3->i≠j->b i≠b j
 ap:∀i j,i<3->j<3->i≠j->∀k,(v i).ownBlock=some k->(v j).ownBlock≠some k
 dJ:bq W 213 P pf
 lo:w.heap.size<=F
 oH:w.heap.size<=P
 oI:∀i,i<3->w.heap.size<=I i
 bG:U w W
structure bX (W W':World) (P:Nat) (I b:Nat->Nat) (v v':Nat->Value):Prop where
 os:W'.os=W.os
 tape:W'.tape=W.tape
 output:W'.output=W.output
 size:W.heap.size<=W'.heap.size
 keep:∀k,k<W.heap.size->k≠P->(∀i,i<3->k≠I i/\k≠b i/\(v i).ownBlock≠some k)->W'.heap[k]?=W.heap[k]?
 new:∀i,i<3->∀k,(v' i).ownBlock=some k->(v i).ownBlock=some k\/W.heap.size<=k
section
variable {W W' W1 W2:World} {P:Nat} {I b:Nat->Nat} {v v' v1 v2:Nat->Value}
theorem bX.refl(W:World)(P:Nat)(I b:Nat->Nat)(v:Nat->Value):bX W W P I b v v:=⟨rfl,rfl,rfl,E _,fun _ _ _ _=>rfl,fun _ _ _ h=>.inl h⟩
theorem bX.trans(h:bX W W1 P I b v v1)(h1:bX W1 W2 P I b v1 v2):bX W W2 P I b v v2 :=
 ⟨h1.os.trans h.os,h1.tape.trans h.tape,h1.output.trans h.output,lTq h.size h1.size,
  fun k hk hP hi=>by
   rw[h1.keep k (Nat.lt_of_lt_of_le hk h.size) hP fun i bU=>⟨(hi i bU).1,(hi i bU).2.1,fun e=>?_⟩]
   . exact h.keep k hk hP hi
   . rcases h.new i bU k e with h2 | h2
     . exact(hi i bU).2.2 h2
     . omega,
  fun i hi k e=>by
   rcases h1.new i hi k e with h2 | h2
   . exact h.new i hi k h2
   . exact .inr (lTq h.size h2)⟩
theorem bX.of_below(hb:U W W')(P:Nat)(I b:Nat->Nat)(v:Nat->Value):bX W W' P I b v v:=⟨hb.os,hb.tape,hb.output,hb.size,fun k hk _ _=>hb.block k hk,fun _ _ _ h=>.inl h⟩
theorem bX.below(h:bX W W1 P I b v v1)(hb:U W1 W2):bX W W2 P I b v v1:=h.trans (bX.of_below hb P I b v1)
theorem bX.FQ{i:Nat}(hi:i<3){x:Value}(hs:Step W W' (b i) (v i) x)(P:Nat)(I:Nat->Nat):bX W W' P I b v (upd v i x) :=
 ⟨hs.only.os,hs.only.tape,hs.only.output,hs.only.size,
  fun k hk _ hk2=>hs.only.block k hk (fun e=>(hk2 i hi).2.1 (by simpa using e)) (fun e=>(hk2 i hi).2.2 e.symm),
  fun j hj k e=>by
   by_cases bC:j=i
   . subst bC;rw[upd_same]at e;exact hs.new k e
   . rw[upd_ne _ _ bC]at e;exact .inl e⟩
theorem bX.KT(hs:aU W W' P)(I b:Nat->Nat)(v:Nat->Value):bX W W' P I b v v:=⟨hs.os,hs.tape,hs.output,hs.size,fun k hk hP _=>hs.block k hk hP,fun _ _ _ h=>.inl h⟩
theorem bX.Uc{i:Nat}(hi:i<3)(hs:aU W W' (I i))(P:Nat)(b:Nat->Nat)(v:Nat->Value):bX W W' P I b v v:=⟨hs.os,hs.tape,hs.output,hs.size,fun k hk _ h2=>hs.block k hk (h2 i hi).1,fun _ _ _ h=>.inl h⟩
end
section
variable {w W W':World} {F P:Nat} {I b:Nat->Nat} {v:Nat->Value} {L:Nat->List Cv.af} {pf n:Nat->Int} {wd h:Int}
theorem jS{W:World}{base:Nat}{v:Value}{n:Nat}{xs:List Value}{q:Nat}{a:Array Value}{T:TypeId}{fz:Nat×Nat}(h:W.ownsRow base 197 5 v n xs)(hq:W.heap[q]?=some (.cells a T fz))(hT:T≠197):v.ownBlock≠some q:=by
 intro e;rcases h.2 with ⟨e1,_⟩ | ⟨r,cap,cur,e1,_,hr,_⟩
 .rw[e1]at e;cases e
 .rw[e1]at e
  have:r=q:=by simpa [Value.ownBlock] using e
  rw[this,hq]at hr;simp only[Option.some.injEq,Obj.cells.injEq]at hr;exact hT hr.2.1
theorem aN{W:World}{p q:Nat}{a c:Array Value}{T Uqq:TypeId}{fz KU:Nat×Nat}(hp:W.heap[p]?=some (.cells a T fz))(hq:W.heap[q]?=some (.cells c Uqq KU))(hT:T≠Uqq):p≠q:=by intro e;rw[e,hq]at hp;simp only[Option.some.injEq,Obj.cells.injEq]at hp;exact hT hp.2.1.symm
theorem bB.later(hf:bB w W F P I b v L pf n wd h)(hb:U W W'):bB w W' F P I b v L pf n wd h :=
 ⟨by rw[hb.block F (lBq hf.blk)];exact hf.blk,fun i hi=>by rw[hb.block _ (lBq (hf.it i hi))];exact hf.it i hi,fun i hi=>(hf.aO i hi).later hb,hf.qz,hf.ne,hf.ap,hf.dJ.iA hb,hf.lo,hf.oH,hf.oI,hf.bG.trans (hb.mono hf.bG.size)⟩
theorem bB.xF(hf:bB w W F P I b v L pf n wd h){i:Nat}(hi:i<3):W.cell? ⟨F,2+i,none⟩=some (.pointer (some ⟨I i,0,none⟩)):=by
 rw[cR W F (2+i) _ _ _ hf.blk];have:i=0\/i=1\/i=2:=by omega
 rcases this with rfl | rfl | rfl <;> rfl
theorem bB.cellP(hf:bB w W F P I b v L pf n wd h):W.cell? (O F 5)=some (Rw P):=by rw[cR W F 5 _ _ _ hf.blk];rfl
theorem bB.xG(hf:bB w W F P I b v L pf n wd h){i:Nat}(hi:i<3):W.cell? ⟨I i,0,none⟩=some (.pointer (some ⟨b i,0,none⟩)):=by rw[cR W (I i) 0 _ _ _ (hf.it i hi)];rfl
theorem bB.KV(hf:bB w W F P I b v L pf n wd h){i:Nat}(hi:i<3):W.cell? ⟨I i,1,none⟩=some (Z (n (i*2))):=by rw[cR W (I i) 1 _ _ _ (hf.it i hi)];rfl
theorem bB.cellL(hf:bB w W F P I b v L pf n wd h){i:Nat}(hi:i<3):W.cell? ⟨I i,2,none⟩=some (Z (n (i*2+1))):=by rw[cR W (I i) 2 _ _ _ (hf.it i hi)];rfl
theorem bB.lt(hf:bB w W F P I b v L pf n wd h):F<W.heap.size:=lBq hf.blk
theorem bB.cp(hf:bB w W F P I b v L pf n wd h){ev:Nat->Value}(he:eQ w ev):eQ W ev:=he.below hf.bG
theorem bB.book(hf:bB w W F P I b v L pf n wd h){i:Nat}(hi:i<3){v':Value}{L':List Cv.af}(hb:dG W' w.heap.size (b i) v' L')(hs:Step W W' (b i) (v i) v'):bB w W' F P I b (upd v i v') (upd L i L') pf n wd h:=by
 have hbi:=hf.aO i hi;have other:∀{q:Nat} {a:Array Value} {T:TypeId},W.heap[q]?=some (.cells a T (0,0))->T≠197->T≠276->W'.heap[q]?=some (.cells a T (0,0)):=fun {q a T} hq h1 h2=>by
  rw[hs.only.block q (lBq hq) (fun e=>?_) (fun e=>jS hbi.row hq h1 e.symm)]
  .exact hq
  .have:q=b i:=by simpa using e
   exact aN hq hbi.cell h2 this
 refine⟨other hf.blk (by decide) (by decide),fun j hj=>other (hf.it j hj) (by decide) (by decide),fun j hj=>?_,hf.qz,hf.ne,fun j k hj hk hjk m hm=>?_,other hf.dJ (by decide) (by decide),hf.lo,hf.oH,hf.oI,hf.bG.trans (hs.below hbi _ (E _))⟩
 .by_cases bC:j=i
  .subst bC;rw[upd_same,upd_same];exact hb
  .rw[upd_ne _ _ bC,upd_ne _ _ bC]
   refine(hf.aO j hj).only hs.only (by simp;exact hf.ne j i hj hi bC) (fun e=>jS hbi.row (hf.aO j hj).cell (by decide) e.symm) (fun k hk e=>?_) (fun k hk e=>hf.ap j i hj hi bC k hk e.symm);have:k=b i:=by simpa using e
   subst this;exact jS (hf.aO j hj).row hbi.cell (by decide) hk
 .by_cases bC:j=i
  .subst bC
   rw[upd_same]at hm;rw[upd_ne _ _ (Ne.symm hjk)];rcases hs.new m hm with h1 | h1
   .exact hf.ap j k hj hk hjk m h1
   .intro e
    have:=((hf.aO k hk).uY m e).2
    omega
  .rw[upd_ne _ _ bC]at hm
   by_cases aT:k=i
   .subst aT
    rw[upd_same];intro e;rcases hs.new m e with h1 | h1
    .exact hf.ap j k hj hk hjk m hm h1
    .have:=((hf.aO j hj).uY m hm).2
     omega
   .rw[upd_ne _ _ aT];exact hf.ap j k hj hk hjk m hm
theorem aU.KW{W W':World}{q:Nat}(hs:aU W W' q):Only W W' (some q) none:=⟨hs.os,hs.tape,hs.output,hs.size,fun k hk h1 _=>hs.block k hk (fun e=>h1 (by rw[e]))⟩
theorem bB.purse(hf:bB w W F P I b v L pf n wd h){f':Nat->Int}(hp:bq W' 213 P f')(hs:aU W W' P):bB w W' F P I b v L f' n wd h:=by
 refine⟨by rw[hs.block F (lBq hf.blk) (aN hf.blk hf.dJ (by decide))];exact hf.blk,fun i hi=>by rw[hs.block _ (lBq (hf.it i hi)) (aN (hf.it i hi) hf.dJ (by decide))];exact hf.it i hi,fun i hi=>?_,hf.qz,hf.ne,hf.ap,hp,hf.lo,hf.oH,hf.oI,hf.bG.trans (hs.below hf.bG.size hf.oH)⟩;exact(hf.aO i hi).only hs.KW (by simp;exact aN (hf.aO i hi).cell hf.dJ (by decide)) (by simp) (fun k hk e=>by
  have:k=P:=by simpa using e
  subst this;exact jS (hf.aO i hi).row hf.dJ (by decide) hk) (fun _ _=>by simp)
theorem bB.nG(hf:bB w W F P I b v L pf n wd h){i:Nat}(hi:i<3){r l:Int}(hit:W'.heap[I i]?=some (.cells (vA (b i) r l) 267 (0,0)))(hs:aU W W' (I i)):bB w W' F P I b v L pf (upd (upd n (i*2) r) (i*2+1) l) wd h:=by
 refine⟨by rw[hs.block F (lBq hf.blk) (aN hf.blk (hf.it i hi) (by decide))];exact hf.blk,fun j hj=>?_,fun j hj=>?_,hf.qz,hf.ne,hf.ap,hf.dJ.save hs (aN hf.dJ (hf.it i hi) (by decide)),hf.lo,hf.oH,hf.oI,hf.bG.trans (hs.below hf.bG.size (hf.oI i hi))⟩
 .by_cases e:j=i
  .subst e
   rw[upd_same,upd_ne _ _ (by omega),upd_same];exact hit
  .rw[upd_ne _ _ (by omega),upd_ne _ _ (by omega),upd_ne _ _ (by omega),upd_ne _ _ (by omega),hs.block _ (lBq (hf.it j hj)) (hf.qz j i hj hi e)]
   exact hf.it j hj
 .exact(hf.aO j hj).only hs.KW (by simp;exact aN (hf.aO j hj).cell (hf.it i hi) (by decide)) (by simp) (fun k hk e=>by
   have:k=I i:=by simpa using e
   subst this;exact jS (hf.aO j hj).row (hf.it i hi) (by decide) hk) (fun _ _=>by simp)
theorem bB.aside(hf:bB w W F P I b v L pf n wd h){q:Nat}(h1:q≠F)(h2:q≠P)(h3:∀i,i<3->q≠I i/\q≠b i/\(v i).ownBlock≠some q)(hlo:w.heap.size<=q)(hs:aU W W' q):bB w W' F P I b v L pf n wd h:=by
 refine⟨by rw[hs.block F (lBq hf.blk) (Ne.symm h1)];exact hf.blk,fun i hi=>by rw[hs.block _ (lBq (hf.it i hi)) (Ne.symm (h3 i hi).1)];exact hf.it i hi,fun i hi=>?_,hf.qz,hf.ne,hf.ap,hf.dJ.save hs (Ne.symm h2),hf.lo,hf.oH,hf.oI,hf.bG.trans (hs.below hf.bG.size hlo)⟩;exact(hf.aO i hi).only hs.KW (by simp;exact Ne.symm (h3 i hi).2.1) (by simp) (fun k hk e=>by
  have:k=q:=by simpa using e
  subst this;exact(h3 i hi).2.2 hk) (fun _ _=>by simp)
end
def eU(w:World)(g:Nat)(v:Value)(l:List Cv.af):Prop :=
 (l=[]/\∃a cap,v=.slice a 0 cap)\/∃o cap cur,v=.slice (some (O g o)) l.length cap/\l.length<=cap/\fU w g o l/\w.heap[g]?=some (.cells cur 197 (0,0))
theorem eU.save{w w':World}{g p:Nat}{v:Value}{l:List Cv.af}(h:eU w g v l)(hs:aU w w' p)(hne:g≠p):eU w' g v l:=by
 rcases h with h | ⟨o,cap,cur,h1,h2,h3,h4⟩
 .exact .inl h
 .refine .inr ⟨o,cap,cur,h1,h2,fun i hi=>?_,by rw[hs.block g (lBq h4) hne];exact h4⟩
  obtain⟨c0,c1,c2,c3,c4⟩:=h3 i hi;exact⟨CR hs c0 hne,CR hs c1 hne,CR hs c2 hne,CR hs c3 hne,CR hs c4 hne⟩
theorem eU.CS{w:World}{base:Nat}{v:Value}{l:List Cv.af}(h:w.ownsRow base 197 5 v l.length (flat l)):∃g,eU w g v l/\(l=[]\/(base<=g/\v.ownBlock=some g)):=by
 rcases h.2 with ⟨e,e2⟩ | ⟨g,cap,cur,e,hg,er,hle,_,_,_⟩
 .exact⟨0,.inl ⟨List.eq_nil_of_length_eq_zero e2,none,0,e⟩,.inl (List.eq_nil_of_length_eq_zero e2)⟩
 .refine⟨g,.inr ⟨0,cap,cur,e,hle,Bv fun j u hu=>?_,er⟩,.inr ⟨hg,by rw[e];rfl⟩⟩
  have:=World.ownsRow.cells h (g:=g) (by rw[e];rfl) j u hu
  have hp:(⟨g,0,none⟩:Addr).add j=(O g j):=by unfold Addr.add;split <;> simp_all
  rwa [hp]at this
theorem U5(x:Cv.af)(l:List Cv.af):Cv.nth (x::l) 0=x:=rfl
theorem ag0(x:Cv.af)(l:List Cv.af)(i:Nat):Cv.nth (x::l) (i+1)=Cv.nth l i:=rfl
theorem eU.head{w:World}{g:Nat}{v:Value}{x:Cv.af}{l:List Cv.af}(h:eU w g v (x::l)):∃o cap cur,v=.slice (some (O g o)) (l.length+1) cap/\l.length+1<=cap/\fU w g o (x::l)/\w.heap[g]?=some (.cells cur 197 (0,0)):=by
 rcases h with ⟨h,_⟩ | ⟨o,cap,cur,h1,h2,h3,h4⟩
 .cases h
 .exact⟨o,cap,cur,h1,h2,h3,h4⟩
theorem zV{w:World}{g o:Nat}{x:Cv.af}{l:List Cv.af}(h:fU w g o (x::l)):w.cell? (O g o)=some (Z x.id)/\w.cell? ⟨g,o+1,none⟩=some (Z x.ai)/\w.cell? ⟨g,o+2,none⟩=some (Z x.sd)/\w.cell? ⟨g,o+3,none⟩=some (Z x.pr)/\w.cell? ⟨g,o+4,none⟩=some (Z x.q):=by
 have:=h 0 (by simp)
 simpa [U5] using this
theorem ag1{w:World}{g o:Nat}{x:Cv.af}{l:List Cv.af}{cur:Array Value}(h:fU w g o (x::l))(hg:w.heap[g]?=some (.cells cur 197 (0,0)))(q:Int):
  fU (w.setCell ⟨g,o+4,none⟩ (Z (x.q-q))) g o (Bk.less x q::l)/\fU (w.setCell ⟨g,o+4,none⟩ (Z (x.q-q))) g (o+5) l/\∃cur',(w.setCell ⟨g,o+4,none⟩ (Z (x.q-q))).heap[g]?=some (.cells cur' 197 (0,0)):=by
 have he:∀j,j≠o+4->(w.setCell ⟨g,o+4,none⟩ (Z (x.q-q))).cell? (O g j)=w.cell? (O g j):=fun j hj=>by
  rw[setCell_eq_setRow w g (o+4) _ _ _ _ hg,cR _ g j _ _ _ (setRow_heap w g _ _ _ _ hg),cR w g j _ _ _ hg,Array.getElem?_setIfInBounds_ne (by omega)]
 have hs:(w.setCell ⟨g,o+4,none⟩ (Z (x.q-q))).cell? ⟨g,o+4,none⟩=some (Z (x.q-q)):=by
  have hc:=(zV h).2.2.2.2;rw[cR w g (o+4) _ _ _ hg]at hc;have hlt:o+4<cur.size:=by
   rcases Nat.lt_or_ge (o+4) cur.size with h' | h'
   .exact h'
   .rw[Array.getElem?_eq_none h']at hc;cases hc
  rw[setCell_eq_setRow w g (o+4) _ _ _ _ hg,cR _ g (o+4) _ _ _ (setRow_heap w g _ _ _ _ hg),Array.getElem?_setIfInBounds_self_of_lt hlt]
 have htail:∀i,i<l.length->w.cell? ⟨g,o+(i+1)*5,none⟩=some (Z (Cv.nth l i).id)/\w.cell? ⟨g,o+(i+1)*5+1,none⟩=some (Z (Cv.nth l i).ai)/\w.cell? ⟨g,o+(i+1)*5+2,none⟩=some (Z (Cv.nth l i).sd)/\w.cell? ⟨g,o+(i+1)*5+3,none⟩=some (Z (Cv.nth l i).pr)/\w.cell? ⟨g,o+(i+1)*5+4,none⟩=some (Z (Cv.nth l i).q):=fun i hi=>h (i+1) (by simp;omega);refine⟨fun i hi=>?_,fun i hi=>?_,?_⟩
 .cases i with
  | zero =>
   obtain⟨c0,c1,c2,c3,c4⟩:=zV h;rw[U5];refine⟨?_,?_,?_,?_,?_⟩
   .rw[show o+0*5=o by omega,he _ (by omega)];exact c0
   .rw[show o+0*5+1=o+1 by omega,he _ (by omega)];exact c1
   .rw[show o+0*5+2=o+2 by omega,he _ (by omega)];exact c2
   .rw[show o+0*5+3=o+3 by omega,he _ (by omega)];exact c3
   .rw[show o+0*5+4=o+4 by omega];exact hs
  | succ i =>
   obtain⟨c0,c1,c2,c3,c4⟩:=htail i (by simp at hi;omega);rw[ag0,he _ (by omega),he _ (by omega),he _ (by omega),he _ (by omega),he _ (by omega)];exact⟨c0,c1,c2,c3,c4⟩
 .obtain⟨c0,c1,c2,c3,c4⟩:=htail i hi
  rw[show o+5+i*5=o+(i+1)*5 by omega,he _ (by omega),he _ (by omega),he _ (by omega),he _ (by omega),he _ (by omega)];exact⟨c0,c1,c2,c3,c4⟩
 .exact⟨_,by rw[setCell_eq_setRow w g (o+4) _ _ _ _ hg];exact setRow_heap w g _ _ _ _ hg⟩
theorem F6(g:Nat)(v:Value)(x:Cv.af)(l:List Cv.af)(q:Int)(w:World)(hv:Hid (eU w g v (x::l)))(h1:1<=x.q)(h2:x.q<=1000)(h3:1<=q)(h4:q<=1000)(hn:l.length<=1000):
  Calls prog 291 #[v,Z q] w fun e w'=>∃v',e=.returned v'/\eU w' g v' (Fs.gP (x::l) q)/\aU w w' g:=by
 obtain⟨o,cap,cur,rfl,hcap,hl,hg⟩:=hv.head;have hc:=(zV hl).2.2.2.2;obtain⟨oN,hL2,cur',hg'⟩:=ag1 hl hg q;have hfr:w.frozen? ⟨g,o+4,none⟩=false:=by simp[World.frozen?,hg]
 have hc':(w.setCell ⟨g,o+4,none⟩ (Z (x.q-q))).cell? ⟨g,o+4,none⟩=some (Z (x.q-q)):=by
  have:=(zV oN).2.2.2.2
  exact this
 have cP:Hid (aU w (w.setCell ⟨g,o+4,none⟩ (Z (x.q-q))) g):=aU.setCell _ _ _ _;have jh:=Y oN;have lz:=Y hL2;have HG:=Y hg';clear hl hg oN hL2 hg' hv;generalize hW:w.setCell ⟨g,o+4,none⟩ (Z (x.q-q))=W at *;have HW:=Y hW;clear hW;have hpos:(0:Int)<((l.length+1:Nat):Int):=by omega
 generalize hm:l.length=m at *;have CU:=Y hm;clear hm;by_cases he:x.q-q=0
 .have F7:Hid (Fs.gP (x::l) q=l):=by show _=_;rw[Fs.s8,if_pos he]
  rw[he]at HW;by_cases J7:cap=1
  .subst J7
   have lZ:m=0:=by omega
   subst lZ;go_enter func291,ntmps291;go_wp2;go_ret;rw[HW.out];refine⟨_,rfl,?_,cP⟩;rw[F7.out];exact .inl ⟨List.eq_nil_of_length_eq_zero CU,_,_,rfl⟩
  .have atb:(1:Int)<=((m+1:Nat):Int):=by omega
   go_enter func291,ntmps291;go_wp2;go_ret;rw[HW.out];refine⟨_,rfl,?_,cP⟩;rw[F7.out];refine .inr ⟨o+5,cap-1,cur',?_,by rw[CU.out];omega,lz,HG⟩;rw[CU.out];rfl
 .have F7:Hid (Fs.gP (x::l) q=Bk.less x q::l):=by show _=_;rw[Fs.s8,if_neg he]
  go_enter func291,ntmps291;go_wp2;go_ret;rw[HW.out];refine⟨_,rfl,?_,cP⟩;rw[F7.out];exact .inr ⟨o,cap,cur',by simp[CU.out],by simp[CU.out];omega,jh,HG⟩
def xV:Value->Nat
 | .slice _ n _=>n
 | _=>0
theorem eU.len{w:World}{g:Nat}{v:Value}{l:List Cv.af}(h:eU w g v l):xV v=l.length:=by rcases h with ⟨rfl,a,cap,rfl⟩ | ⟨o,cap,cur,rfl,_⟩ <;> rfl
theorem eU.val{w:World}{g:Nat}{v:Value}{l:List Cv.af}(h:eU w g v l):∃a cap,v=.slice a l.length cap:=by
 rcases h with ⟨rfl,a,cap,rfl⟩ | ⟨o,cap,cur,rfl,_⟩
 .exact⟨a,cap,rfl⟩
 .exact⟨_,_,rfl⟩
theorem z1{x:Cv.af}{l:List Cv.af}{q:Int}:(Fs.gP (x::l) q).length=if x.q-q=0 then l.length else l.length+1:=by rw[Fs.s8];split <;> simp
structure MU (w:World) (B p gJ gs i:Nat) (price:Int) (G f0:Nat->Int) (vb vs:Value) (wr:World):Prop where
 ex:∃f bs ss,eU wr gJ vb bs/\eU wr gs vs ss/\bq wr 213 p f/\Fs.lS i price G f bs ss/\bs.length<=200/\ss.length<=200/\Pu.eO f 6=Pu.eO f0 6/\∀k,k<3->Pu.eP f k 6=Pu.eP f0 k 6
 bG:Below B w wr
theorem eU.blk{w:World}{g:Nat}{v:Value}{x:Cv.af}{l:List Cv.af}(h:eU w g v (x::l)){p:Nat}{f:Nat->Int}(hp:bq w 213 p f):g≠p:=by obtain⟨o,cap,cur,_,_,_,hg⟩:=h.head;exact aN hg hp (by decide)
theorem aho(p i B gJ gs:Nat)(price:Int)(vb vs:Value)(bs ss:List Cv.af)(f G:Nat->Int)(ev:Nat->Value)(w:World)(hi:i<3)(hp1:1<=price)(hp2:price<=1000)(he:Hid (∀W,Below B w W->eQ W ev))(hB:Hid (B<=w.heap.size/\B<=p/\B<=gJ/\B<=gs))(hne:Hid (gJ≠gs))(vP:Hid (eU w gJ vb bs))(hos:Hid (eU w gs vs ss))(xU:Hid (bq w 213 p f))(lx:Hid (Fs.lS i price G f bs ss))(hlb:Hid (bs.length<=200))(z6:Hid (ss.length<=200)):
  Calls prog 262 #[Rw p,Z i,Z price,vb,vs] w fun e w'=>e=.returned .nilIface/\(bq w' 213 p G/\Pu.Good G/\Pu.eO G 6=Pu.eO f 6/\∀k,k<3->Pu.eP G k 6=Pu.eP f k 6)/\Below B w w':=by
 have HR:Hid (MU w B p gJ gs i price G f vb vs w):=⟨⟨f,bs,ss,vP,hos,xU,lx,hlb,z6,rfl,fun _ _=>rfl⟩,bRq _ _⟩;clear vP hos xU lx hlb z6;go_enter func262,ntmps262;go_wp2
 go_loopw [3,4] (fun u x wr=>MU w B p gJ gs i price G f u x wr) (fun u x _=>xV u+xV x)
 case atStart=>exact HR
 case round =>
  rename_i ub us wr;obtain⟨⟨f1,b1,s1,hb1,hs1,Vr,MV,Vs,Vt,Vu,Vv⟩,hbl⟩:=hrel;have HB1:=Y hb1;have kq:=Y hs1;have tJ:=Y Vr;have HT1:=Y MV;have vQ:=Y Vs;have iX:=Y Vt;have Gm:=Y Vu;have HST:=Y Vv;have iz:=Y hbl;clear hb1 hs1 Vr MV Vs Vt Vu Vv hbl;have done:(b1=[]\/s1=[])->f1=G:=fun h=>funext (HT1.done h);have HD:=Y done;clear done;cases b1 with
  | nil =>
   obtain⟨ab,cb,rfl⟩:=HB1.val;obtain⟨ahz,cs,rfl⟩:=kq.val;have e:=HD.out (.inl rfl);subst e;rw[show ([]:List Cv.af).length=0 from rfl];go_wp2;go_ret;exact⟨rfl,⟨tJ,HT1.good,Gm,HST⟩,iz⟩
  | cons x bt =>
   cases s1 with
   | nil =>
    obtain⟨ob,cb,Vw,rfl,hcb,MW,hgb⟩:=HB1.head;obtain⟨ahz,cs,rfl⟩:=kq.val;have e:=HD.out (.inr rfl);subst e;rw[show ([]:List Cv.af).length=0 from rfl];have hpos:(0:Int)<((bt.length+1:Nat):Int):=by omega
    generalize bt.length=m at *;go_wp2;go_ret;exact⟨rfl,⟨tJ,HT1.good,Gm,HST⟩,iz⟩
   | cons y st =>
    obtain⟨ob,cb,Vw,rfl,hcb,MW,hgb⟩:=HB1.head;obtain⟨os,cs,ahA,rfl,hcs,Vx,Gj⟩:=kq.head;obtain⟨Gn,Gp,Gq,Gr,Gs⟩:=zV MW;obtain⟨Gt,Gu,Gv,Gw,Gx⟩:=zV Vx;have ahB:(0:Int)<((bt.length+1:Nat):Int):=by omega
    have ahC:(0:Int)<((st.length+1:Nat):Int):=by omega
    have u_:=Cv.gB (Pu.lD (HT1.dm x (mSq ..)).1);have Vy:=Cv.gB (Pu.lD (HT1.ws y (mSq ..)).1);obtain⟨Vz,VA⟩:=u_.2.2.2.2;obtain⟨VB,VC⟩:=Vy.2.2.2.2;clear u_ Vy MW Vx hgb Gj;obtain⟨rZ,MX⟩:=aG bt.length;obtain⟨ms,BG⟩:=aG st.length;rw[MX]at ahB hcb HB1 ⊢;rw[BG]at ahC hcs kq ⊢;have VD:=Y MX;have VE:=Y BG;clear MX BG;rcases Int.lt_or_le y.q x.q with hlt | hle
    .have HQ:Hid (y.q=min x.q y.q):=by show _=_;omega
     go_wp2_with fail
     refine jO 8 (by kernel_rfl) (by kernel_rfl) ?_;simp only[List.take_succ_cons,List.take_zero,List.drop_succ_cons,List.drop_zero]
     repeat (first | go_big_quiet_step (fail) | quiet_step (fail))
     refine wpQuiet_nil ?_;intro _ hw';obtain⟨nq,hw''⟩:=hw';subst hw'';have CY:=Y (iz.trans ((dN nq:U wr (wr.drewN nq)).mono (lTq hB.1 iz.size)));have HB2:Hid (eU (wr.drewN nq) gJ (.slice (some (O gJ ob)) (rZ+1) cb) (x::bt)):=HB1.out;have HS2:Hid (eU (wr.drewN nq) gs (.slice (some (O gs os)) (ms+1) cs) (y::st)):=kq.out;have kQ:Hid (bq (wr.drewN nq) 213 p f1):=tJ.out;have MY:(wr.drewN nq).cell? (O gJ ob)=some (Z x.id):=Gn;have MZ:(wr.drewN nq).cell? ⟨gJ,ob+1,none⟩=some (Z x.ai):=Gp;have M0:(wr.drewN nq).cell? ⟨gJ,ob+2,none⟩=some (Z x.sd):=Gq;have M3:(wr.drewN nq).cell? ⟨gJ,ob+3,none⟩=some (Z x.pr):=Gr;have M4:(wr.drewN nq).cell? ⟨gJ,ob+4,none⟩=some (Z x.q):=Gs;have M5:(wr.drewN nq).cell? (O gs os)=some (Z y.id):=Gt;have M6:(wr.drewN nq).cell? ⟨gs,os+1,none⟩=some (Z y.ai):=Gu;have M7:(wr.drewN nq).cell? ⟨gs,os+2,none⟩=some (Z y.sd):=Gv;have M8:(wr.drewN nq).cell? ⟨gs,os+3,none⟩=some (Z y.pr):=Gw;have M9:(wr.drewN nq).cell? ⟨gs,os+4,none⟩=some (Z y.q):=Gx;clear Gn Gp Gq Gr Gs Gt Gu Gv Gw Gx;generalize wr.drewN nq=w1 at *
     go_wp2_with fail
     refine jO 10 (by kernel_rfl) (by kernel_rfl) ?_;simp only[List.take_succ_cons,List.take_zero,List.drop_succ_cons,List.drop_zero]
     repeat (first | go_big_quiet_step (fail) | quiet_step (fail))
     refine wpQuiet_nil ?_;intro _ hw';obtain⟨nq,hw''⟩:=hw';subst hw'';have iz:=Y (CY.trans ((dN nq:U w1 (w1.drewN nq)).mono (lTq hB.1 CY.size)));have av:Hid (eU (w1.drewN nq) gJ (.slice (some (O gJ ob)) (rZ+1) cb) (x::bt)):=HB2.out;have eJ:Hid (eU (w1.drewN nq) gs (.slice (some (O gs os)) (ms+1) cs) (y::st)):=HS2.out;have iC:Hid (bq (w1.drewN nq) 213 p f1):=kQ.out;clear MY MZ M0 M3 M4 M5 M6 M7 M8 M9;generalize w1.drewN nq=w2 at *;obtain⟨hC,CZ⟩:=HT1.step hi ⟨hp1,hp2⟩ HQ;have hTR:=VF p i x y price y.q f1 ev w2 (he _ iz).Ub iC HT1.good;rw[hC]at hTR;rw[show dz ev 0=.nilIface from rfl]at hTR;have hsum:=Pu.FH f1 i x y price y.q;have M_:=Y CZ;have kR:=Y hTR;have C4:=Y hsum;have C5:=av.blk iC;have C6:=eJ.blk iC;have C8:=Y C5;have C9:=Y C6;clear hC CZ hTR hsum C5 C6;unfold cm at kR
     go_wp2_with fail
     refine kR.mono ?_;rintro e w3 ⟨rfl,qK,hs3⟩;have C_:=Y (iz.trans (hs3.below (lTq hB.1 iz.size) hB.2.1));have tr:=Y qK;have bS:=Y (av.save hs3 C8);have dL:=Y (eJ.save hs3 C9);clear qK hs3;generalize Pu.jU f1 i x y price y.q=f2 at *;simp only[];have hlb:=vQ.out;have z6:=iX.out;simp only[List.length_cons]at hlb z6;have qI:=Y (F6 gJ _ x bt y.q w3 bS Vz VA (by omega) (by omega) (by omega))
     go_wp2_with fail
     refine qI.mono ?_;rintro e w4 ⟨Na,rfl,hb4,cK⟩;have Da:=Y (C_.trans (cK.below (lTq hB.1 C_.size) hB.2.2.1));have pI:=Y (tr.save cK (Ne.symm C8));have fu:=Y (dL.save cK (Ne.symm hne));have cr:=Y hb4;clear hb4 cK;simp only[];have Nb:=Y (F6 gs _ y st y.q w4 fu VB VC (by omega) (by omega) (by omega))
     go_wp2_with fail
     refine Nb.mono ?_;rintro e aI ⟨Nc,rfl,bR,hs5⟩;have Nf:=Y (Da.trans (hs5.below (lTq hB.1 Da.size) hB.2.2.2));have tK:=Y (pI.save hs5 (Ne.symm C9));have bk:=Y (cr.save hs5 hne);have ej:=Y bR;clear bR hs5;simp only[];have hl1:=bk.len;have hl2:=ej.len;rw[z1]at hl1 hl2
     go_wp2_with fail
     refine⟨⟨⟨f2,_,_,bk,ej,tK,M_,?_,?_,?_,?_⟩,Nf⟩,?_⟩
     .rw[z1];split <;> omega
     .rw[z1];split <;> omega
     .rw[C4.out.1];exact Gm
     .intro k hk;rw[C4.out.2 k hk];exact HST k hk
     .have hqq:=HQ.out
      show xV Na+xV Nc<(rZ+1)+(ms+1);rw[hl1,hl2,VD.out,VE.out];split <;> split <;> omega
    .have HQ:Hid (x.q=min x.q y.q):=by show _=_;omega
     go_wp2_with fail
     refine jO 8 (by kernel_rfl) (by kernel_rfl) ?_;simp only[List.take_succ_cons,List.take_zero,List.drop_succ_cons,List.drop_zero]
     repeat (first | go_big_quiet_step (fail) | quiet_step (fail))
     refine wpQuiet_nil ?_;intro _ hw';obtain⟨nq,hw''⟩:=hw';subst hw'';have CY:=Y (iz.trans ((dN nq:U wr (wr.drewN nq)).mono (lTq hB.1 iz.size)));have HB2:Hid (eU (wr.drewN nq) gJ (.slice (some (O gJ ob)) (rZ+1) cb) (x::bt)):=HB1.out;have HS2:Hid (eU (wr.drewN nq) gs (.slice (some (O gs os)) (ms+1) cs) (y::st)):=kq.out;have kQ:Hid (bq (wr.drewN nq) 213 p f1):=tJ.out;have MY:(wr.drewN nq).cell? (O gJ ob)=some (Z x.id):=Gn;have MZ:(wr.drewN nq).cell? ⟨gJ,ob+1,none⟩=some (Z x.ai):=Gp;have M0:(wr.drewN nq).cell? ⟨gJ,ob+2,none⟩=some (Z x.sd):=Gq;have M3:(wr.drewN nq).cell? ⟨gJ,ob+3,none⟩=some (Z x.pr):=Gr;have M4:(wr.drewN nq).cell? ⟨gJ,ob+4,none⟩=some (Z x.q):=Gs;have M5:(wr.drewN nq).cell? (O gs os)=some (Z y.id):=Gt;have M6:(wr.drewN nq).cell? ⟨gs,os+1,none⟩=some (Z y.ai):=Gu;have M7:(wr.drewN nq).cell? ⟨gs,os+2,none⟩=some (Z y.sd):=Gv;have M8:(wr.drewN nq).cell? ⟨gs,os+3,none⟩=some (Z y.pr):=Gw;have M9:(wr.drewN nq).cell? ⟨gs,os+4,none⟩=some (Z y.q):=Gx;clear Gn Gp Gq Gr Gs Gt Gu Gv Gw Gx;generalize wr.drewN nq=w1 at *
     go_wp2_with fail
     refine jO 10 (by kernel_rfl) (by kernel_rfl) ?_;simp only[List.take_succ_cons,List.take_zero,List.drop_succ_cons,List.drop_zero]
     repeat (first | go_big_quiet_step (fail) | quiet_step (fail))
     refine wpQuiet_nil ?_;intro _ hw';obtain⟨nq,hw''⟩:=hw';subst hw'';have iz:=Y (CY.trans ((dN nq:U w1 (w1.drewN nq)).mono (lTq hB.1 CY.size)));have av:Hid (eU (w1.drewN nq) gJ (.slice (some (O gJ ob)) (rZ+1) cb) (x::bt)):=HB2.out;have eJ:Hid (eU (w1.drewN nq) gs (.slice (some (O gs os)) (ms+1) cs) (y::st)):=HS2.out;have iC:Hid (bq (w1.drewN nq) 213 p f1):=kQ.out;clear MY MZ M0 M3 M4 M5 M6 M7 M8 M9;generalize w1.drewN nq=w2 at *;obtain⟨hC,CZ⟩:=HT1.step hi ⟨hp1,hp2⟩ HQ;have hTR:=VF p i x y price x.q f1 ev w2 (he _ iz).Ub iC HT1.good;rw[hC]at hTR;rw[show dz ev 0=.nilIface from rfl]at hTR;have hsum:=Pu.FH f1 i x y price x.q;have M_:=Y CZ;have kR:=Y hTR;have C4:=Y hsum;have C5:=av.blk iC;have C6:=eJ.blk iC;have C8:=Y C5;have C9:=Y C6;clear hC CZ hTR hsum C5 C6;unfold cm at kR
     go_wp2_with fail
     refine kR.mono ?_;rintro e w3 ⟨rfl,qK,hs3⟩;have C_:=Y (iz.trans (hs3.below (lTq hB.1 iz.size) hB.2.1));have tr:=Y qK;have bS:=Y (av.save hs3 C8);have dL:=Y (eJ.save hs3 C9);clear qK hs3;generalize Pu.jU f1 i x y price x.q=f2 at *;simp only[];have hlb:=vQ.out;have z6:=iX.out;simp only[List.length_cons]at hlb z6;have qI:=Y (F6 gJ _ x bt x.q w3 bS Vz VA (by omega) (by omega) (by omega))
     go_wp2_with fail
     refine qI.mono ?_;rintro e w4 ⟨Na,rfl,hb4,cK⟩;have Da:=Y (C_.trans (cK.below (lTq hB.1 C_.size) hB.2.2.1));have pI:=Y (tr.save cK (Ne.symm C8));have fu:=Y (dL.save cK (Ne.symm hne));have cr:=Y hb4;clear hb4 cK;simp only[];have Nb:=Y (F6 gs _ y st x.q w4 fu VB VC (by omega) (by omega) (by omega))
     go_wp2_with fail
     refine Nb.mono ?_;rintro e aI ⟨Nc,rfl,bR,hs5⟩;have Nf:=Y (Da.trans (hs5.below (lTq hB.1 Da.size) hB.2.2.2));have tK:=Y (pI.save hs5 (Ne.symm C9));have bk:=Y (cr.save hs5 hne);have ej:=Y bR;clear bR hs5;simp only[];have hl1:=bk.len;have hl2:=ej.len;rw[z1]at hl1 hl2
     go_wp2_with fail
     refine⟨⟨⟨f2,_,_,bk,ej,tK,M_,?_,?_,?_,?_⟩,Nf⟩,?_⟩
     .rw[z1];split <;> omega
     .rw[z1];split <;> omega
     .rw[C4.out.1];exact Gm
     .intro k hk;rw[C4.out.2 k hk];exact HST k hk
     .have hqq:=HQ.out
      show xV Na+xV Nc<(rZ+1)+(ms+1);rw[hl1,hl2,VD.out,VE.out];split <;> split <;> omega
namespace Fl
def oF(a:Ask)(k:Int):Nat:=(gY a k-1).toNat
theorem Kv{a:Ask}{k:Int}(h:gY a k=0):oF a k=0:=by unfold oF;rw[h];rfl
end Fl
section
variable {ev:Nat->Value}
theorem ahs(a:Ask)(w:World)(he:eQ w ev)(hz:11<w.heap.size):Calls prog 151 #[bM a] w fun e w'=>e=.returned (dz ev (ah.code a.k a.c a.sq a.it a.sd a.pr a.q a.id-1))/\U w w':=by
 obtain⟨aW,ac,bn,bw,asd,aR,aq,aP⟩:=a;show Calls prog 151 #[.agg #[.int .u8 aW,Z ac,Z bn,Z bw,Z asd,Z aR,Z aq,Z aP]] w fun e w'=>e=.returned (dz ev (ah.code aW ac bn bw asd aR aq aP-1))/\_;unfold ah.code;cases hk:ah.ny aW with
 | false=>exact JQ aW ac bn bw asd aR aq aP _ w (by omega) he.c3 hk
 | true =>
  cases hb:ah.kF aW ac bn bw asd aR aq aP with
  | false=>exact JR aW ac bn bw asd aR aq aP _ w (by omega) he.c1 hk hb
  | true =>
   cases hs:ah.ot aW bw asd aR aq aP with
   | false=>exact JU aW ac bn bw asd aR aq aP _ w (by omega) he.c2 hk hb hs
   | true=>exact Fq aW ac bn bw asd aR aq aP w hk hb hs
theorem eQ.size{w:World}(h:eQ w ev):11<w.heap.size:=bCq w _ h.c11
theorem Cb(a:Ask)(k:Int)(w:World)(he:Hid (eQ w ev))(hk:0<=k/\k<256):Calls prog 246 #[bM a,.int .u8 k] w fun e w'=>e=.returned (dz ev (Fl.oF a k))/\U w w':=by
 have HA:=Y (fun W (hb:U w W)=>ahs a W (he.below hb) (he.below hb).size);have HK:Hid (Fl.oF a k=((if ah.code a.k a.c a.sq a.it a.sd a.pr a.q a.id=0/\a.k≠k then (4:Int) else ((ah.code a.k a.c a.sq a.it a.sd a.pr a.q a.id:Nat):Int))-1).toNat):=rfl;generalize Fl.oF a k=aht at *;obtain⟨aW,ac,bn,bw,asd,aR,aq,aP⟩:=a;unfold bM aX at HA ⊢;simp only[]at HA HK ⊢;have h1:ah.code aW ac bn bw asd aR aq aP≠1:=by unfold ah.code;split <;> (try split) <;> (try split) <;> decide
 generalize ah.code aW ac bn bw asd aR aq aP=cd at *;have hb0:U w (w.alloc (.cells #[.int .u8 aW,Z ac,Z bn,Z bw,Z asd,Z aR,Z aq,Z aP] 95)):=aj;have l4:(w.alloc (.cells #[.int .u8 aW,Z ac,Z bn,Z bw,Z asd,Z aR,Z aq,Z aP] 95)).heap[w.heap.size]?=some (.cells #[.int .u8 aW,Z ac,Z bn,Z bw,Z asd,Z aR,Z aq,Z aP] 95 (0,0)):=hNq _ _;have cG:=Y hb0;have gi:=Y l4;clear hb0 l4;go_enter func246,ntmps246
 go_wp2_with fail
 refine(HA _ cG).mono ?_;rintro e w2 ⟨rfl,hb2⟩;have HB2:=Y (ar cG hb2);have c0:w2.cell? (O w.heap.size 0)=some (.int .u8 aW):=by rw[cR w2 _ 0 _ _ _ (by rw[hb2.block _ (lBq gi.out)];exact gi.out)];rfl
 have c3:=(he.below HB2).c3;clear hb2;simp only[];by_cases hc:cd=0
 .subst hc
  rw[show dz ev (0-1)=.nilIface from rfl];by_cases hk2:aW=k
  .subst hk2
   have:(aW != aW)=false:=by simp
   go_wp2;go_ret;exact⟨by rw[HK.out];simp[dz],HB2⟩
  .have hk':(aW != k)=true:=by simpa using hk2
   have hz:=(he.below HB2).size;go_wp2
   try go_quiet (fail)
   go_ret;exact⟨by rw[HK.out];simp[dz,hk2],HB2⟩
 .obtain⟨d,rfl⟩:∃d,cd=d+1+1:=⟨cd-2,by omega⟩
  have hne:¬ (d+1+1=0/\aW≠k):=fun h=>by omega
  have ahu:aht=d+1:=by rw[HK.out,if_neg hne];omega
  subst ahu;rw[show dz ev (d+1+1-1)=.iface 412 (ev (d+1)) from rfl];clear hne hc h1;go_wp2;go_ret;exact⟨rfl,HB2⟩
section
variable {w W:World} {F P:Nat} {I b:Nat->Nat} {v:Nat->Value} {L:Nat->List Cv.af} {pf n:Nat->Int} {wd h:Int}
theorem F0(i:Nat)(hi:i<3)(hF:Hid (bB w W F P I b v L pf n wd h)):Calls prog 170 #[Rw F,Z i] W fun e w'=>e=.returned (.pointer (some ⟨I i,0,none⟩))/\w'=W:=by
 have HW:=Y (fun W=>ib (i:Int) 0 2 W);rw[show ah.aK (i:Int) 0 2=true by simp[ah.aK];omega]at HW;have ci:=hF.xF hi;have h0:(0:Int)<=(i:Int):=by omega
 have h3:(i:Int)<3:=by omega
 go_enter func170,ntmps170
 go_wp2_with fail
 refine(HW _).mono ?_;rintro e w2 ⟨rfl,rfl⟩;simp only[];go_wp2;go_ret;exact⟨rfl,rfl⟩
theorem Vq(i:Nat)(hi:i<3)(hF:Hid (bB w W F P I b v L pf n wd h)):Calls prog 108 #[Rw F,Z i] W fun e w'=>e=.returned (.pointer (some ⟨b i,0,none⟩))/\w'=W:=by
 have HW:=Y (F0 i hi hF);have ci:=hF.xG hi;go_enter func108,ntmps108
 go_wp2_with fail
 refine(HW).mono ?_;rintro e w2 ⟨rfl,rfl⟩;simp only[];go_wp2;go_ret;exact⟨rfl,rfl⟩
theorem ahv(hF:Hid (bB w W F P I b v L pf n wd h)):Calls prog 69 #[Rw F] W fun e w'=>e=.returned (Rw P)/\w'=W:=by have ci:=hF.cellP;go_enter func69,ntmps69;go_wp2;go_ret;exact⟨rfl,rfl⟩
theorem ahw:(prog.info? 192).map (·.size)=some 2:=by kernel_rfl
theorem ahx{w:World}{B:Nat}{r l:Int}(h:w.heap[B]?=some (.cells #[Z r,Z l] 192 (0,0))):(loadVar 192 (O B 0)).run prog w=.ok (.agg #[Z r,Z l]) w :=
 run_loadVar_row w B 192 192 _ (0,0) _ h underlying192 rfl ahw
theorem ahy(i:Nat)(hi:i<3)(hF:Hid (bB w W F P I b v L pf n wd h)):Calls prog 106 #[Rw F,Z i] W fun e w'=>e=.returned (eo (n (i*2)) (n (i*2+1)))/\U W w':=by
 have hb0:U W (W.alloc (.cells #[Z 0,Z 0] 192)):=aj;have HW:=Y (F0 (W:=W.alloc (.cells #[Z 0,Z 0] 192)) i hi (hF.later hb0));have c1:=(hF.later hb0).KV hi;have c2:=(hF.later hb0).cellL hi;have cG:=Y hb0;clear hb0;unfold eo;go_enter func106,ntmps106
 go_wp2_with fail
 refine(HW).mono ?_;rintro e w2 ⟨rfl,rfl⟩;simp only[];go_wp2;refine bodyPost_ret (v:=.agg #[Z (n (i*2)),Z (n (i*2+1))]) ?_ rfl ⟨rfl,aj⟩;rw[BN rfl];simp[asAddr,Result.andThen,ahx (heap_alloc_new W _)]
end
end
theorem ag2{l:List Cv.af}{x:Cv.af}(hn:Cv.has l x.id=false):Bk.dP (l++[x]) x.id=0/\Bk.eZ (l++[x]) x.id=l:=by
 have hh:Cv.has (l++[x]) x.id=true:=by unfold Cv.has;simp
 have hc:Bk.dP (l++[x]) x.id=0:=by unfold Bk.dP;rw[if_pos hh]
 have hp:Bk.pos (l++[x]) x.id=l.length:=by unfold Bk.pos;have h0:l.findIdx (fun y=>y.id==x.id)=l.length:=Bk.RX.1 hn;rw[List.findIdx_append,h0,if_neg (by omega)];simp
 refine⟨hc,?_⟩;unfold Bk.eZ;rw[if_pos hc,hp];unfold Bk.del;simp
section
variable {w W:World} {F P:Nat} {I b:Nat->Nat} {v:Nat->Value} {L:Nat->List Cv.af} {pf n:Nat->Int} {wd h:Int} {ev:Nat->Value}
theorem ag3(a:Ask)(hF:Hid (bB w W F P I b v L pf n wd h))(he:Hid (eQ w ev))(hk:Hid (Fl.gY a 111≠0)):
  Calls prog 215 #[Rw F,bM a] W fun e W'=>e=.returned (dz ev (Fl.eN L pf a))/\∃v',bB w W' F P I b v' (Fl.kK L pf a) (Fl.kL L pf a) n wd h/\bX W W' P I b v v':=by
 have hpos:=Fl.Kl hk;have hC:Fl.eN L pf a=Fl.oF a 111:=by unfold Fl.eN Fl.oF;rw[if_neg hk.out]
 have hne:Fl.eN L pf a≠0:=by rw[hC];unfold Fl.oF;omega
 rw[show Fl.kK L pf a=L by unfold Fl.kK;rw[if_neg hne],show Fl.kL L pf a=pf by unfold Fl.kL;rw[if_neg hne],hC];rw[hC]at hne;have HK:=Y (fun W' (hb:U W W')=>Cb a 111 W' ((hF.cp he).below hb) (by decide));generalize Fl.oF a 111=Cc at *;obtain⟨d,rfl⟩:∃d,Cc=d+1:=⟨Cc-1,by omega⟩;rw[show dz ev (d+1)=.iface 412 (ev (d+1)) from rfl]at HK ⊢;clear hC hne;obtain⟨aW,ac,bn,bw,asd,aR,aq,aP⟩:=a;unfold bM aX at HK ⊢;simp only[]at HK ⊢;have hb0:U W (W.alloc (.cells #[.int .u8 aW,Z ac,Z bn,Z bw,Z asd,Z aR,Z aq,Z aP] 95)):=aj;have cG:=Y hb0;clear hb0;go_enter func215,ntmps215
 go_wp2_with fail
 refine(HK _ cG).mono ?_;rintro e w2 ⟨rfl,hb2⟩;have HB2:=Y (ar cG hb2);clear hb2;simp only[];go_wp2;go_ret;exact⟨rfl,v,hF.later HB2,bX.of_below HB2 P I b v⟩
theorem ag4(a:Ask)(hF:Hid (bB w W F P I b v L pf n wd h))(he:Hid (eQ w ev))(hok:Hid (Fs.dI L pf))(hk:Hid (Fl.gY a 111=0)):
  Calls prog 215 #[Rw F,bM a] W fun e W'=>e=.returned (dz ev (Fl.eN L pf a))/\∃v',bB w W' F P I b v' (Fl.kK L pf a) (Fl.kL L pf a) n wd h/\bX W W' P I b v v':=by
 have hit:=Fl.Tg hk;obtain⟨i,hi⟩:∃i:Nat,a.it=i:=⟨a.it.toNat,by omega⟩;have bU:i<3:=by omega
 have xQ:Fl.eN L pf a=if Cv.ok (Fl.gO a)=true then (if Cv.has (L i) a.id=true then 6 else if 60<=(L i).length then 7 else Pu.kJ pf a.it (Fl.gO a)) else 1:=by unfold Fl.eN;rw[if_pos hk.out,show a.it.toNat=i by omega]
 have Mu:Bk.fF (L i) (Fl.gO a)=1->Fl.eN L pf a=1:=fun h=>by
  rw[xQ];unfold Bk.fF at h;split at h
  .split at h
   .cases h
   .split at h <;> cases h
  .rename_i hn;rw[if_neg hn]
 have hC2:Bk.fF (L i) (Fl.gO a)=2->Fl.eN L pf a=6:=fun h=>by
  rw[xQ];unfold Bk.fF at h;split at h
  .rename_i h1;rw[if_pos h1]
   split at h
   .rename_i h2;rw[if_pos (by simpa [Fl.gO] using h2)]
   .split at h <;> cases h
  .cases h
 have Mv:Bk.fF (L i) (Fl.gO a)=3->Fl.eN L pf a=7:=fun h=>by
  rw[xQ];unfold Bk.fF at h;split at h
  .rename_i h1;rw[if_pos h1]
   split at h
   .cases h
   .rename_i h2;rw[if_neg (by simpa [Fl.gO] using h2)]
    split at h
    .rename_i h3;rw[if_pos h3]
    .cases h
  .cases h
 have Mw:Bk.fF (L i) (Fl.gO a)=0->Fl.eN L pf a=Pu.kJ pf a.it (Fl.gO a):=fun h=>by
  obtain⟨h1,h2,h3⟩:=Bk.RZ h;rw[xQ,if_pos h1,if_neg (by rw[show a.id=(Fl.gO a).id from rfl,h2];simp),if_neg (by omega)]
 have zK:Bk.fF (L i) (Fl.gO a)=0\/Bk.fF (L i) (Fl.gO a)=1\/Bk.fF (L i) (Fl.gO a)=2\/Bk.fF (L i) (Fl.gO a)=3:=by unfold Bk.fF;split <;> (try split) <;> (try split) <;> simp
 clear xQ;have Mx:Fl.eN L pf a=0->Fl.kK L pf a=upd L i (L i++[Fl.gO a]):=fun h=>by unfold Fl.kK;rw[if_pos h,show a.it.toNat=i by omega]
 have oN:Fl.eN L pf a≠0->Fl.kK L pf a=L:=fun h=>by unfold Fl.kK;rw[if_neg h]
 have CV:Fl.eN L pf a=0->Fl.kL L pf a=Pu.lw pf a.it (Fl.gO a):=fun h=>by unfold Fl.kL;rw[if_pos h]
 have F8:Fl.eN L pf a≠0->Fl.kL L pf a=pf:=fun h=>by unfold Fl.kL;rw[if_neg h]
 have HK:=Y (fun W' (hb:U W W')=>Cb a 111 W' ((hF.cp he).below hb) (by decide));rw[Fl.Kv hk.out,show dz ev 0=.nilIface from rfl]at HK;generalize Fl.eN L pf a=pc at *;generalize Fl.kK L pf a=atc at *;generalize Fl.kL L pf a=atd at *;obtain⟨aW,ac,bn,bw,asd,aR,aq,aP⟩:=a;simp only[]at hi;subst hi;unfold bM aX at HK ⊢;simp only[Fl.gO]at HK Mu hC2 Mv Mw Mx CV zK;simp only[];have cy:=Y Mu;have zW:=Y hC2;have rX:=Y Mv;have F9:=Y Mw;have Ga:=Y zK;have ag5:=Y Mx;have jh:=Y oN;have My:=Y CV;have i6:=Y F8;clear Mu hC2 Mv Mw Mx oN CV F8 hit hk zK;have hb0:U W (W.alloc (.cells #[.int .u8 aW,Z ac,Z bn,Z i,Z asd,Z aR,Z aq,Z aP] 95)):=aj;have l4:(W.alloc (.cells #[.int .u8 aW,Z ac,Z bn,Z i,Z asd,Z aR,Z aq,Z aP] 95)).heap[W.heap.size]?=some (.cells #[.int .u8 aW,Z ac,Z bn,Z i,Z asd,Z aR,Z aq,Z aP] 95 (0,0)):=hNq _ _;have cG:=Y hb0;have gi:=Y l4;clear hb0 l4;obtain⟨A,hA⟩:=aG W.heap.size;have vy:=Y hA;clear hA;go_enter func215,ntmps215
 go_wp2_with fail
 refine(HK _ cG).mono ?_;rintro e w2 ⟨rfl,hb2⟩;have HB2:=Y (ar cG hb2);have b_:Hid (w2.heap[A]?=some (.cells #[.int .u8 aW,Z ac,Z bn,Z i,Z asd,Z aR,Z aq,Z aP] 95 (0,0))):=by show _=_;rw[<- vy.out,hb2.block _ (lBq gi.out)];exact gi
 have dB:=Y (hF.later HB2);have HS2:=Y (bX.of_below HB2 P I b v);rw[vy.out];clear hb2;have k1:=ag b_ 1 rfl;have k4:=ag b_ 4 rfl;have vL:=ag b_ 5 rfl;have k6:=ag b_ 6 rfl;have k7:=ag b_ 7 rfl;obtain⟨w3,hw3⟩:=aG (w2.alloc (.cells #[Z aP,Z ac,Z asd,Z aR,Z aq] 197));obtain⟨B,hB⟩:=aG w2.heap.size;have hb3:U w2 w3:=by rw[<- hw3];exact aj
 have gC:Hid (w3.heap[B]?=some (.cells #[Z aP,Z ac,Z asd,Z aR,Z aq] 197 (0,0))):=by show _=_;rw[<- hw3,<- hB];exact hNq _ _
 have HR3:=Y ((hb3.block _ (lBq b_)).trans b_);have jq:=Y (dB.later hb3);have eJ:=Y (HS2.below hb3);have U6:Hid (∀j,j<3->B≠b j/\(v j).ownBlock≠some B):=fun j hj=>⟨fun e=>by have:=(dB.aO j hj).lt;omega,fun e=>by have:=((dB.aO j hj).uY _ e).2;omega⟩;have HW3:=Y hw3;have rI:=Y hB;clear hb3 hw3 hB;simp only[]
 go_wp2_with fail
 rw[HW3.out,rI.out];have a3:=ag HR3 3 rfl;have fi:=jq.xF bU;have fb:=jq.xG bU;have Cg:(0:Int)<=(i:Int):=by omega
 have TE:(i:Int)<3:=by omega
 clear k1 k4 vL k6 k7
 go_quiet (fail)
 have Gb:U w3 (w3.drewN nq):=dN nq;have oO:Hid ((w3.drewN nq).heap[B]?=some (.cells #[Z aP,Z ac,Z asd,Z aR,Z aq] 197 (0,0))):=gC.out;have bE:Hid ((w3.drewN nq).heap[A]?=some (.cells #[.int .u8 aW,Z ac,Z bn,Z i,Z asd,Z aR,Z aq,Z aP] 95 (0,0))):=HR3.out;have lX:=Y (jq.later Gb);have fu:=Y (eJ.below Gb);clear Gb a3 fi fb;generalize w3.drewN nq=aI at *;have x0:=ag oO 0 rfl;have x1:=ag oO 1 rfl;have x2:=ag oO 2 rfl;have x3:=ag oO 3 rfl;have x4:=ag oO 4 rfl;have zX:=adC (b i) w.heap.size (v i) ⟨aP,ac,asd,aR,aq⟩ (L i) 412 (ev 1) (ev 5) (ev 6) (ev 7) aI (lX.cp he).FP (lX.aO i bU) (hok.aO i bU).len;have MA:=Y zX;unfold cm at MA;simp only[]at MA;clear zX
 go_wp2_with fail
 refine MA.mono ?_;rintro e aA ⟨rfl,v6,hb6,gR⟩;have gH:=Y (lX.book bU hb6 gR);have ej:=Y (fu.trans (bX.FQ bU gR P I));have vM:Hid (aA.heap[B]?=some (.cells #[Z aP,Z ac,Z asd,Z aR,Z aq] 197 (0,0))):=by show _=_;rw[gR.only.block B (lBq oO.out) (fun e=>(U6.out i bU).1 (by simpa using e)) (fun e=>(U6.out i bU).2 e.symm)];exact oO
 have bT:Hid (aA.heap[A]?=some (.cells #[.int .u8 aW,Z ac,Z bn,Z i,Z asd,Z aR,Z aq,Z aP] 95 (0,0))):=by show _=_;rw[gR.only.block A (lBq bE.out) (fun e=>aN bE.out (lX.out.aO i bU).cell (by decide) (by simpa using e)) (fun e=>jS (lX.out.aO i bU).row bE.out (by decide) e.symm)];exact bE
 clear hb6 gR x0 x1 x2 x3 x4;simp only[];rcases Ga.out with hc | hc | hc | hc
 .have hpc:=F9.out hc
  rw[show uW 412 (ev 1) (ev 5) (ev 6) (ev 7) (Bk.fF (L i) ⟨aP,ac,asd,aR,aq⟩)=.nilIface by rw[hc];rfl];have qJ:Bk.lq (L i) ⟨aP,ac,asd,aR,aq⟩=L i++[⟨aP,ac,asd,aR,aq⟩]:=by unfold Bk.lq;rw[if_pos hc]
  rw[qJ]at gH;obtain⟨hok1,MB,hl1⟩:=Bk.RZ hc;have ag6:=Y (ag2 (l:=L i) (x:=⟨aP,ac,asd,aR,aq⟩) MB);have U7:=Y hpc;have vC:Hid ((L i++[(⟨aP,ac,asd,aR,aq⟩:Cv.af)]).length<=60):=by show _<=_;simp;omega
  clear hc qJ hpc hok1 MB hl1;have x0:=ag vM 0 rfl;have x1:=ag vM 1 rfl;have x2:=ag vM 2 rfl;have x3:=ag vM 3 rfl;have x4:=ag vM 4 rfl;have a3:=ag bT 3 rfl;have fp:=gH.cellP
  go_wp2_with fail
  refine jO 7 (by kernel_rfl) (by kernel_rfl) ?_;simp only[List.take_succ_cons,List.take_zero,List.drop_succ_cons,List.drop_zero]
  repeat (first | go_big_quiet_step (fail) | quiet_step (fail))
  refine wpQuiet_nil ?_;intro _ hw';obtain⟨nq,hw''⟩:=hw';subst hw'';have pG:Hid ((aA.drewN nq).heap[B]?=some (.cells #[Z aP,Z ac,Z asd,Z aR,Z aq] 197 (0,0))):=vM.out;have mH:=Y (gH.later (dN nq));have lV:=Y (ej.below (dN nq));clear x0 x1 x2 x3 x4 a3 fp;generalize aA.drewN nq=dH at *;have HH:=Y (ag7 P i ⟨aP,ac,asd,aR,aq⟩ pf ev dH (mH.cp he).per mH.dJ hok.good);unfold cm at HH;simp only[]at HH
  go_wp2_with fail
  refine HH.mono ?_;rintro e fJ ⟨rfl,U8,Gc⟩;have pO:=Y (mH.purse U8 Gc);have pP:=Y (lV.trans (bX.KT Gc I b _));have CK:Hid (fJ.heap[B]?=some (.cells #[Z aP,Z ac,Z asd,Z aR,Z aq] 197 (0,0))):=by show _=_;rw[Gc.block _ (lBq pG.out) (aN pG.out mH.out.dJ (by decide))];exact pG
  clear U8 Gc;rw[<- U7.out];simp only[];by_cases h0:pc=0
  .subst h0
   rw[show dz ev 0=.nilIface from rfl];go_wp2;go_ret;refine⟨rfl,_,?_,pP⟩;rw[ag5.out (by simp),My.out (by simp)];exact pO
  .obtain⟨d,rfl⟩:∃d,pc=d+1:=⟨pc-1,by omega⟩
   rw[show dz ev (d+1)=.iface 412 (ev (d+1)) from rfl];have U9:Pu.lw pf i ⟨aP,ac,asd,aR,aq⟩=pf:=by unfold Pu.lw;rw[if_neg (by rw[<- U7.out];omega)]
   rw[U9]at pO;have x0:=ag CK 0 rfl;have hbk:=pO.aO i bU;rw[upd_same,upd_same]at hbk;have hcan:=RF (b i) w.heap.size v6 aP (L i++[(⟨aP,ac,asd,aR,aq⟩:Cv.af)]) 412 (ev 1) (ev 5) (ev 6) (ev 7) fJ (pO.cp he).FP hbk vC;have hcl:Bk.eZ (L i++[(⟨aP,ac,asd,aR,aq⟩:Cv.af)]) aP=L i:=ag6.2;rw[hcl]at hcan;have MC:=Y hcan;clear U9 hbk hcan hcl
   go_wp2_with fail
   refine MC.mono ?_;rintro e jP ⟨rfl,v9,lU,ly⟩;have MD:Step fJ jP (b i) (upd v i v6 i) v9:=by rw[upd_same];exact ly
   have vK:=Y (pO.book bU lU MD);have F3:=Y (pP.trans (bX.FQ bU MD P I));rw[s7,s7,pB L i]at vK;rw[s7]at F3;clear lU ly MD;simp only[];go_wp2;go_ret;refine⟨rfl,_,?_,F3⟩;rw[jh.out (by omega),i6.out (by omega)];exact vK
 .have hpc:pc=1:=cy.out hc
  rw[show uW 412 (ev 1) (ev 5) (ev 6) (ev 7) (Bk.fF (L i) ⟨aP,ac,asd,aR,aq⟩)=.iface 412 (ev 1) by rw[hc];rfl];have qJ:Bk.lq (L i) ⟨aP,ac,asd,aR,aq⟩=L i:=by unfold Bk.lq;rw[if_neg (by rw[hc];decide)]
  rw[qJ,pB]at gH;clear hc qJ;go_wp2;go_ret;exact⟨by rw[hpc];rfl,_,by rw[jh.out (by omega),i6.out (by omega)];exact gH,ej⟩
 .have hpc:pc=6:=zW.out hc
  rw[show uW 412 (ev 1) (ev 5) (ev 6) (ev 7) (Bk.fF (L i) ⟨aP,ac,asd,aR,aq⟩)=.iface 412 (ev 6) by rw[hc];rfl];have qJ:Bk.lq (L i) ⟨aP,ac,asd,aR,aq⟩=L i:=by unfold Bk.lq;rw[if_neg (by rw[hc];decide)]
  rw[qJ,pB]at gH;clear hc qJ;go_wp2;go_ret;exact⟨by rw[hpc];rfl,_,by rw[jh.out (by omega),i6.out (by omega)];exact gH,ej⟩
 .have hpc:pc=7:=rX.out hc
  rw[show uW 412 (ev 1) (ev 5) (ev 6) (ev 7) (Bk.fF (L i) ⟨aP,ac,asd,aR,aq⟩)=.iface 412 (ev 7) by rw[hc];rfl];have qJ:Bk.lq (L i) ⟨aP,ac,asd,aR,aq⟩=L i:=by unfold Bk.lq;rw[if_neg (by rw[hc];decide)]
  rw[qJ,pB]at gH;clear hc qJ;go_wp2;go_ret;exact⟨by rw[hpc];rfl,_,by rw[jh.out (by omega),i6.out (by omega)];exact gH,ej⟩
theorem ag8(a:Ask)(hF:bB w W F P I b v L pf n wd h)(he:eQ w ev)(hok:Fs.dI L pf):
  Calls prog 215 #[Rw F,bM a] W fun e W'=>e=.returned (dz ev (Fl.eN L pf a))/\∃v',bB w W' F P I b v' (Fl.kK L pf a) (Fl.kL L pf a) n wd h/\bX W W' P I b v v':=by
 by_cases hk:Fl.gY a 111=0
 .exact ag4 a hF he hok hk
 .exact ag3 a hF he hk
end
section
variable {w W:World} {F P:Nat} {I b:Nat->Nat} {v:Nat->Value} {L:Nat->List Cv.af} {pf n:Nat->Int} {wd h:Int} {ev:Nat->Value}
theorem bB.fresh(hF:bB w W F P I b v L pf n wd h){q:Nat}(hq:W.heap.size<=q):q≠F/\q≠P/\∀i,i<3->q≠I i/\q≠b i/\(v i).ownBlock≠some q:=by have h1:=hF.lt;have h2:=hF.dJ.lt;refine⟨by omega,by omega,fun i hi=>?_⟩;have h3:=lBq (hF.it i hi);have h4:=(hF.aO i hi).lt;exact⟨by omega,by omega,fun e=>by have:=((hF.aO i hi).uY _ e).2;omega⟩
theorem TH(i:Nat)(hi:i<3)(x:Cv.af)(hF:Hid (bB w W F P I b v L pf n wd h))(he:Hid (eQ w ev))(hg:Hid (Pu.Good pf))(hl:Hid ((L i).length<=60)):
  Calls prog 214 #[Rw F,Z i,cm x] W fun e W'=>e=.returned (.tuple #[])/\∃v',bB w W' F P I b v' (upd L i (Bk.eZ (L i) x.id)) (Pu.gp pf i x) n wd h/\bX W W' P I b v v':=by
 obtain⟨x0,x1,x2,x3,x4⟩:=x;unfold cm;simp only[];obtain⟨B,hB⟩:=aG W.heap.size;obtain⟨w1,d6⟩:=aG (W.alloc (.cells #[Z x0,Z x1,Z x2,Z x3,Z x4] 197));have hb1:U W w1:=by rw[<- d6];exact aj
 have bW:Hid (w1.heap[B]?=some (.cells #[Z x0,Z x1,Z x2,Z x3,Z x4] 197 (0,0))):=by show _=_;rw[<- d6,<- hB];exact hNq _ _
 have i6:=Y (hF.later hb1);have kq:=Y (bX.of_below hb1 P I b v);have U_:=Y (hF.fresh (q:=B) (by omega));have HW1:=Y d6;have rI:=Y hB;clear hb1 d6 hB;have lW:=ag bW 0 rfl;have fi:=i6.xF hi;have fb:=i6.xG hi;have h0:(0:Int)<=(i:Int):=by omega
 have h3:(i:Int)<3:=by omega
 go_enter func214,ntmps214
 go_wp2_with fail
 rw[HW1.out,rI.out];refine jO 11 (by kernel_rfl) (by kernel_rfl) ?_;simp only[List.take_succ_cons,List.take_zero,List.drop_succ_cons,List.drop_zero]
 repeat (first | go_big_quiet_step (fail) | quiet_step (fail))
 refine wpQuiet_nil ?_;intro _ hw';obtain⟨nq,hw''⟩:=hw';subst hw'';have tH:Hid ((w1.drewN nq).heap[B]?=some (.cells #[Z x0,Z x1,Z x2,Z x3,Z x4] 197 (0,0))):=bW.out;have dB:=Y (i6.later (dN nq));have HS2:=Y (kq.below (dN nq));clear lW fi fb;generalize w1.drewN nq=w2 at *;have MC:=Y (RF (b i) w.heap.size (v i) x0 (L i) 412 (ev 1) (ev 5) (ev 6) (ev 7) w2 (dB.cp he).FP (dB.aO i hi) hl)
 go_wp2_with fail
 refine MC.mono ?_;rintro e w3 ⟨rfl,v3,hb3,hs3⟩;have jq:=Y (dB.book hi hb3 hs3);have eJ:=Y (HS2.trans (bX.FQ hi hs3 P I));have gC:Hid (w3.heap[B]?=some (.cells #[Z x0,Z x1,Z x2,Z x3,Z x4] 197 (0,0))):=by show _=_;rw[hs3.only.block B (lBq tH.out) (fun e=>(U_.out.2.2 i hi).2.1 (by simpa using e)) (fun e=>(U_.out.2.2 i hi).2.2 e.symm)];exact tH
 clear hb3 hs3;simp only[];have lW:=ag gC 0 rfl;have k1:=ag gC 1 rfl;have k2:=ag gC 2 rfl;have k3:=ag gC 3 rfl;have k4:=ag gC 4 rfl;have fp:=jq.cellP
 go_wp2_with fail
 refine jO 6 (by kernel_rfl) (by kernel_rfl) ?_;simp only[List.take_succ_cons,List.take_zero,List.drop_succ_cons,List.drop_zero]
 repeat (first | go_big_quiet_step (fail) | quiet_step (fail))
 refine wpQuiet_nil ?_;intro _ hw';obtain⟨nq,hw''⟩:=hw';subst hw'';have eR:=Y (jq.later (dN nq));have dL:=Y (eJ.below (dN nq));clear lW k1 k2 k3 k4 fp;generalize w3.drewN nq=w4 at *;have ME:=Y (MF P i ⟨x0,x1,x2,x3,x4⟩ pf ev w4 (eR.cp he).per eR.dJ hg);unfold cm at ME;simp only[]at ME
 go_wp2_with fail
 refine ME.mono ?_;rintro e aI ⟨rfl,vN,hs5⟩;have lX:=Y (eR.purse vN hs5);have fu:=Y (dL.trans (bX.KT hs5 I b _));clear vN hs5;simp only[];go_wp2;go_end0;exact⟨rfl,_,lX,fu⟩
end
end Go.Proofs.YtjolccidheflpaaGreatDoor
