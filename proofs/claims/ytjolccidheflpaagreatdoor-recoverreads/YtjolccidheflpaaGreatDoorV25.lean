/- A floor of package batch in memory: three items with their books and bands, a purse; what an act may turn. -/
import Derived.Test.YtjolccidheflpaaGreatDoorV11
import Derived.Test.YtjolccidheflpaaGreatDoorV22
import Derived.Test.YtjolccidheflpaaGreatDoorV24
import Derived.Test.YtjolccidheflpaaGreatDoorV09
import Derived.Test.YtjolccidheflpaaGreatDoorV08
import Derived.BigRegion
import Derived.BigQuiet
import Derived.Test.YtjolccidheflpaaGreatDoorV03
namespace Go.Proofs.YtjolccidheflpaaGreatDoor
set_option maxHeartbeats 8000000
open Go.RowKit
set_option maxRecDepth 100000
structure dR (w:World) (ev:Nat->Value):Prop where
 c1:w.cell? ⟨1,0,none⟩=some (.iface 412 (ev 1))
 c2:w.cell? ⟨3,0,none⟩=some (.iface 412 (ev 2))
 c3:w.cell? ⟨4,0,none⟩=some (.iface 412 (ev 3))
 c5:w.cell? ⟨6,0,none⟩=some (.iface 412 (ev 5))
 c6:w.cell? ⟨7,0,none⟩=some (.iface 412 (ev 6))
 c7:w.cell? ⟨8,0,none⟩=some (.iface 412 (ev 7))
 c9:w.cell? ⟨9,0,none⟩=some (.iface 412 (ev 9))
 c11:w.cell? ⟨11,0,none⟩=some (.iface 412 (ev 11))
section
variable {w w':World} {ev:Nat->Value}
theorem dR.below (h:dR w ev) (hb:Below w.heap.size w w'):dR w' ev:=⟨cell_later hb h.c1,cell_later hb h.c2,cell_later hb h.c3,cell_later hb h.c5,cell_later hb h.c6,cell_later hb h.c7,cell_later hb h.c9,cell_later hb h.c11⟩
theorem dR.bP (h:dR w ev):gK w 412 (ev 1) (ev 6) (ev 7):=⟨h.c1,h.c6,h.c7⟩
theorem dR.Eo (h:dR w ev):uX w 412 (ev 1) (ev 5) (ev 6) (ev 7):=⟨h.bP,h.c5⟩
theorem dR.per (h:dR w ev):s8 w ev:=⟨h.bP,h.c9⟩
theorem dR.SK (h:dR w ev):ye w ev:=⟨h.per,h.c2,h.c11⟩
theorem dR.KA (h:dR w ev):mq w 412 (ev 1):=⟨h.c1⟩
end
def sZ (I:Nat->Nat) (P:Nat) (wd h:Int):Array Value :=
 #[.int .i64 wd,.int .i64 h,.pointer (some ⟨I 0,0,none⟩),.pointer (some ⟨I 1,0,none⟩),.pointer (some ⟨I 2,0,none⟩),.pointer (some ⟨P,0,none⟩)]
def s4 (b:Nat) (r l:Int):Array Value:=#[.pointer (some ⟨b,0,none⟩),.int .i64 r,.int .i64 l]
structure aU (w W:World) (F P:Nat) (I b:Nat->Nat) (v:Nat->Value) (L:Nat->List Cv.ag) (pf n:Nat->Int) (wd h:Int):Prop where
 blk:W.heap[F]?=some (.cells (sZ I P wd h) 210 (0,0))
 it:∀ i,i<3->W.heap[I i]?=some (.cells (s4 (b i) (n (i*2)) (n (i*2+1))) 267 (0,0))
 aB:∀ i,i<3->cA W w.heap.size (b i) (v i) (L i)
 o5:∀ i j,i<3->j<3->i≠j->I i≠I j
 ne:∀ i j,i<3->j<3->i≠j->b i≠b j
 ap:∀ i j,i<3->j<3->i≠j->∀ k,(v i).ownBlock=some k->(v j).ownBlock≠some k
 cy:aN W 213 P pf
 lo:w.heap.size<=F
 mG:w.heap.size<=P
 mH:∀ i,i<3->w.heap.size<=I i
 dv:Below w.heap.size w W
structure bC (W W':World) (P:Nat) (I b:Nat->Nat) (v v':Nat->Value):Prop where
 os:W'.os=W.os
 tape:W'.tape=W.tape
 output:W'.output=W.output
 size:W.heap.size<=W'.heap.size
 keep:∀ k,k<W.heap.size->k≠P->(∀ i,i<3->k≠I i∧k≠b i∧(v i).ownBlock≠some k)->W'.heap[k]?=W.heap[k]?
 new:∀ i,i<3->∀ k,(v' i).ownBlock=some k->(v i).ownBlock=some k∨W.heap.size<=k
section
variable {W W' W1 W2:World} {P:Nat} {I b:Nat->Nat} {v v' v1 v2:Nat->Value}
theorem bC.refl (W:World) (P:Nat) (I b:Nat->Nat) (v:Nat->Value):bC W W P I b v v:=⟨rfl,rfl,rfl,lRq _,fun _ _ _ _=>rfl,fun _ _ _ h=>.inl h⟩
theorem bC.trans (h:bC W W1 P I b v v1) (h1:bC W1 W2 P I b v1 v2):bC W W2 P I b v v2 :=
 ⟨h1.os.trans h.os,h1.tape.trans h.tape,h1.output.trans h.output,lTq h.size h1.size,
  fun k hk hP hi=>by
   rw[h1.keep k (Nat.lt_of_lt_of_le hk h.size) hP fun i bO=>⟨(hi i bO).1,(hi i bO).2.1,fun e=>?_⟩]
   · exact h.keep k hk hP hi
   · rcases h.new i bO k e with h2 | h2
     · exact(hi i bO).2.2 h2
     · omega,
  fun i hi k e=>by
   rcases h1.new i hi k e with h2 | h2
   · exact h.new i hi k h2
   · exact .inr (lTq h.size h2)⟩
theorem bC.of_below (hb:Below W.heap.size W W') (P:Nat) (I b:Nat->Nat) (v:Nat->Value):bC W W' P I b v v:=⟨hb.os,hb.tape,hb.output,hb.size,fun k hk _ _=>hb.block k hk,fun _ _ _ h=>.inl h⟩
theorem bC.below (h:bC W W1 P I b v v1) (hb:Below W1.heap.size W1 W2):bC W W2 P I b v v1:=h.trans (bC.of_below hb P I b v1)
theorem bC.Ep {i:Nat} (hi:i<3) {x:Value} (hs:Step W W' (b i) (v i) x) (P:Nat) (I:Nat->Nat):bC W W' P I b v (upd v i x) :=
 ⟨hs.only.os,hs.only.tape,hs.only.output,hs.only.size,
  fun k hk _ hk2=>hs.only.block k hk (fun e=>(hk2 i hi).2.1 (by simpa using e)) (fun e=>(hk2 i hi).2.2 e.symm),
  fun j hj k e=>by
   by_cases a_:j=i
   · subst a_;rw[upd_same]at e;exact hs.new k e
   · rw[upd_ne _ _ a_]at e;exact .inl e⟩
theorem bC.KB (hs:aH W W' P) (I b:Nat->Nat) (v:Nat->Value):bC W W' P I b v v:=⟨hs.os,hs.tape,hs.output,hs.size,fun k hk hP _=>hs.block k hk hP,fun _ _ _ h=>.inl h⟩
theorem bC.SL {i:Nat} (hi:i<3) (hs:aH W W' (I i)) (P:Nat) (b:Nat->Nat) (v:Nat->Value):bC W W' P I b v v:=⟨hs.os,hs.tape,hs.output,hs.size,fun k hk _ h2=>hs.block k hk (h2 i hi).1,fun _ _ _ h=>.inl h⟩
end
section
variable {w W W':World} {F P:Nat} {I b:Nat->Nat} {v:Nat->Value} {L:Nat->List Cv.ag} {pf n:Nat->Int} {wd h:Int}
theorem iM {W:World} {base:Nat} {v:Value} {n:Nat} {xs:List Value} {q:Nat} {a:Array Value} {T:TypeId} {fz:Nat×Nat} (h:W.ownsRow base 197 5 v n xs) (hq:W.heap[q]?=some (.cells a T fz)) (hT:T≠197):v.ownBlock≠some q:=by
 intro e;rcases h.2 with ⟨e1,_⟩ | ⟨r,cap,cur,e1,_,hr,_⟩
 ·rw[e1]at e;cases e
 ·rw[e1]at e
  have:r=q:=by simpa [Value.ownBlock] using e
  rw[this,hq]at hr;simp only[Option.some.injEq,Obj.cells.injEq]at hr;exact hT hr.2.1
theorem aA {W:World} {p q:Nat} {a c:Array Value} {T U:TypeId} {fz KC:Nat×Nat} (hp:W.heap[p]?=some (.cells a T fz)) (hq:W.heap[q]?=some (.cells c U KC)) (hT:T≠U):p≠q:=by
 intro e;rw[e,hq]at hp;simp only[Option.some.injEq,Obj.cells.injEq]at hp;exact hT hp.2.1.symm
theorem aU.later (hf:aU w W F P I b v L pf n wd h) (hb:Below W.heap.size W W'):aU w W' F P I b v L pf n wd h :=
 ⟨by rw[hb.block F (lBq hf.blk)];exact hf.blk,fun i hi=>by rw[hb.block _ (lBq (hf.it i hi))];exact hf.it i hi,fun i hi=>(hf.aB i hi).later hb,hf.o5,hf.ne,hf.ap,hf.cy.gi hb,hf.lo,hf.mG,hf.mH,hf.dv.trans (hb.mono hf.dv.size)⟩
theorem aU.vw (hf:aU w W F P I b v L pf n wd h) {i:Nat} (hi:i<3):W.cell? ⟨F,2+i,none⟩=some (.pointer (some ⟨I i,0,none⟩)):=by
 rw[cR W F (2+i) _ _ _ hf.blk];have:i=0∨i=1∨i=2:=by omega
 rcases this with rfl | rfl | rfl <;> rfl
theorem aU.cellP (hf:aU w W F P I b v L pf n wd h):W.cell? ⟨F,5,none⟩=some (.pointer (some ⟨P,0,none⟩)):=by
 rw[cR W F 5 _ _ _ hf.blk];rfl
theorem aU.vy (hf:aU w W F P I b v L pf n wd h) {i:Nat} (hi:i<3):W.cell? ⟨I i,0,none⟩=some (.pointer (some ⟨b i,0,none⟩)):=by
 rw[cR W (I i) 0 _ _ _ (hf.it i hi)];rfl
theorem aU.KD (hf:aU w W F P I b v L pf n wd h) {i:Nat} (hi:i<3):W.cell? ⟨I i,1,none⟩=some (.int .i64 (n (i*2))):=by
 rw[cR W (I i) 1 _ _ _ (hf.it i hi)];rfl
theorem aU.cellL (hf:aU w W F P I b v L pf n wd h) {i:Nat} (hi:i<3):W.cell? ⟨I i,2,none⟩=some (.int .i64 (n (i*2+1))):=by
 rw[cR W (I i) 2 _ _ _ (hf.it i hi)];rfl
theorem aU.lt (hf:aU w W F P I b v L pf n wd h):F<W.heap.size:=lBq hf.blk
theorem aU.bP (hf:aU w W F P I b v L pf n wd h) {ev:Nat->Value} (he:dR w ev):dR W ev:=he.below hf.dv
theorem aU.book (hf:aU w W F P I b v L pf n wd h) {i:Nat} (hi:i<3) {v':Value} {L':List Cv.ag} (hb:cA W' w.heap.size (b i) v' L') (hs:Step W W' (b i) (v i) v'):aU w W' F P I b (upd v i v') (upd L i L') pf n wd h:=by
 have hbi:=hf.aB i hi;have other:∀ {q:Nat} {a:Array Value} {T:TypeId},W.heap[q]?=some (.cells a T (0,0))->T≠197->T≠276->W'.heap[q]?=some (.cells a T (0,0)):=fun {q a T} hq h1 h2=>by
  rw[hs.only.block q (lBq hq) (fun e=>?_) (fun e=>iM hbi.row hq h1 e.symm)]
  ·exact hq
  ·have:q=b i:=by simpa using e
   exact aA hq hbi.cell h2 this
 refine⟨other hf.blk (by decide) (by decide),fun j hj=>other (hf.it j hj) (by decide) (by decide),fun j hj=>?_,hf.o5,hf.ne,fun j k hj hk hjk m hm=>?_,other hf.cy (by decide) (by decide),hf.lo,hf.mG,hf.mH,hf.dv.trans (hs.below hbi _ (lRq _))⟩
 ·by_cases a_:j=i
  ·subst a_;rw[upd_same,upd_same];exact hb
  ·rw[upd_ne _ _ a_,upd_ne _ _ a_]
   refine(hf.aB j hj).only hs.only (by simp;exact hf.ne j i hj hi a_) (fun e=>iM hbi.row (hf.aB j hj).cell (by decide) e.symm) (fun k hk e=>?_) (fun k hk e=>hf.ap j i hj hi a_ k hk e.symm);have:k=b i:=by simpa using e
   subst this;exact iM (hf.aB j hj).row hbi.cell (by decide) hk
 ·by_cases a_:j=i
  ·subst a_
   rw[upd_same]at hm;rw[upd_ne _ _ (Ne.symm hjk)];rcases hs.new m hm with h1 | h1
   ·exact hf.ap j k hj hk hjk m h1
   ·intro e
    have:=((hf.aB k hk).sO m e).2
    omega
  ·rw[upd_ne _ _ a_]at hm
   by_cases aK:k=i
   ·subst aK
    rw[upd_same];intro e;rcases hs.new m e with h1 | h1
    ·exact hf.ap j k hj hk hjk m hm h1
    ·have:=((hf.aB j hj).sO m hm).2
     omega
   ·rw[upd_ne _ _ aK];exact hf.ap j k hj hk hjk m hm
theorem aH.KE {W W':World} {q:Nat} (hs:aH W W' q):Only W W' (some q) none:=⟨hs.os,hs.tape,hs.output,hs.size,fun k hk h1 _=>hs.block k hk (fun e=>h1 (by rw[e]))⟩
theorem aU.purse (hf:aU w W F P I b v L pf n wd h) {f':Nat->Int} (hp:aN W' 213 P f') (hs:aH W W' P):aU w W' F P I b v L f' n wd h:=by
 refine⟨by rw[hs.block F (lBq hf.blk) (aA hf.blk hf.cy (by decide))];exact hf.blk,fun i hi=>by rw[hs.block _ (lBq (hf.it i hi)) (aA (hf.it i hi) hf.cy (by decide))];exact hf.it i hi,fun i hi=>?_,hf.o5,hf.ne,hf.ap,hp,hf.lo,hf.mG,hf.mH,hf.dv.trans (hs.below hf.dv.size hf.mG)⟩;exact(hf.aB i hi).only hs.KE (by simp;exact aA (hf.aB i hi).cell hf.cy (by decide)) (by simp) (fun k hk e=>by
  have:k=P:=by simpa using e
  subst this;exact iM (hf.aB i hi).row hf.cy (by decide) hk) (fun _ _=>by simp)
theorem aU.qc (hf:aU w W F P I b v L pf n wd h) {i:Nat} (hi:i<3) {r l:Int} (hit:W'.heap[I i]?=some (.cells (s4 (b i) r l) 267 (0,0))) (hs:aH W W' (I i)):aU w W' F P I b v L pf (upd (upd n (i*2) r) (i*2+1) l) wd h:=by
 refine⟨by rw[hs.block F (lBq hf.blk) (aA hf.blk (hf.it i hi) (by decide))];exact hf.blk,fun j hj=>?_,fun j hj=>?_,hf.o5,hf.ne,hf.ap,hf.cy.save hs (aA hf.cy (hf.it i hi) (by decide)),hf.lo,hf.mG,hf.mH,hf.dv.trans (hs.below hf.dv.size (hf.mH i hi))⟩
 ·by_cases e:j=i
  ·subst e
   rw[upd_same,upd_ne _ _ (by omega),upd_same];exact hit
  ·rw[upd_ne _ _ (by omega),upd_ne _ _ (by omega),upd_ne _ _ (by omega),upd_ne _ _ (by omega),hs.block _ (lBq (hf.it j hj)) (hf.o5 j i hj hi e)]
   exact hf.it j hj
 ·exact(hf.aB j hj).only hs.KE (by simp;exact aA (hf.aB j hj).cell (hf.it i hi) (by decide)) (by simp) (fun k hk e=>by
   have:k=I i:=by simpa using e
   subst this;exact iM (hf.aB j hj).row (hf.it i hi) (by decide) hk) (fun _ _=>by simp)
theorem aU.aside (hf:aU w W F P I b v L pf n wd h) {q:Nat} (h1:q≠F) (h2:q≠P) (h3:∀ i,i<3->q≠I i∧q≠b i∧(v i).ownBlock≠some q) (hlo:w.heap.size<=q) (hs:aH W W' q):aU w W' F P I b v L pf n wd h:=by
 refine⟨by rw[hs.block F (lBq hf.blk) (Ne.symm h1)];exact hf.blk,fun i hi=>by rw[hs.block _ (lBq (hf.it i hi)) (Ne.symm (h3 i hi).1)];exact hf.it i hi,fun i hi=>?_,hf.o5,hf.ne,hf.ap,hf.cy.save hs (Ne.symm h2),hf.lo,hf.mG,hf.mH,hf.dv.trans (hs.below hf.dv.size hlo)⟩;exact(hf.aB i hi).only hs.KE (by simp;exact Ne.symm (h3 i hi).2.1) (by simp) (fun k hk e=>by
  have:k=q:=by simpa using e
  subst this;exact(h3 i hi).2.2 hk) (fun _ _=>by simp)
end
def dV (w:World) (g:Nat) (v:Value) (l:List Cv.ag):Prop :=
 (l=[]∧∃ a cap,v=.slice a 0 cap)∨∃ o cap cur,v=.slice (some ⟨g,o,none⟩) l.length cap∧l.length<=cap∧ew w g o l∧w.heap[g]?=some (.cells cur 197 (0,0))
theorem dV.save {w w':World} {g p:Nat} {v:Value} {l:List Cv.ag} (h:dV w g v l) (hs:aH w w' p) (hne:g≠p):dV w' g v l:=by
 rcases h with h | ⟨o,cap,cur,h1,h2,h3,h4⟩
 ·exact .inl h
 ·refine .inr ⟨o,cap,cur,h1,h2,fun i hi=>?_,by rw[hs.block g (lBq h4) hne];exact h4⟩
  obtain⟨c0,c1,c2,c3,c4⟩:=h3 i hi;exact⟨Bg hs c0 hne,Bg hs c1 hne,Bg hs c2 hne,Bg hs c3 hne,Bg hs c4 hne⟩
theorem dV.Bh {w:World} {base:Nat} {v:Value} {l:List Cv.ag} (h:w.ownsRow base 197 5 v l.length (flat l)):∃ g,dV w g v l∧(l=[]∨(base<=g∧v.ownBlock=some g)):=by
 rcases h.2 with ⟨e,e2⟩ | ⟨g,cap,cur,e,hg,dF,hle,_,_,_⟩
 ·exact⟨0,.inl ⟨List.eq_nil_of_length_eq_zero e2,none,0,e⟩,.inl (List.eq_nil_of_length_eq_zero e2)⟩
 ·refine⟨g,.inr ⟨0,cap,cur,e,hle,z6 fun j u hu=>?_,dF⟩,.inr ⟨hg,by rw[e];rfl⟩⟩
  have:=World.ownsRow.cells h (g:=g) (by rw[e];rfl) j u hu
  have hp:(⟨g,0,none⟩:Addr).add j=⟨g,j,none⟩:=by unfold Addr.add;split <;> simp_all
  rwa [hp]at this
theorem TD (x:Cv.ag) (l:List Cv.ag):Cv.nth (x::l) 0=x:=rfl
theorem aew (x:Cv.ag) (l:List Cv.ag) (i:Nat):Cv.nth (x::l) (i+1)=Cv.nth l i:=rfl
theorem dV.head {w:World} {g:Nat} {v:Value} {x:Cv.ag} {l:List Cv.ag} (h:dV w g v (x::l)):∃ o cap cur,v=.slice (some ⟨g,o,none⟩) (l.length+1) cap∧l.length+1<=cap∧ew w g o (x::l)∧w.heap[g]?=some (.cells cur 197 (0,0)):=by
 rcases h with ⟨h,_⟩ | ⟨o,cap,cur,h1,h2,h3,h4⟩
 ·cases h
 ·exact⟨o,cap,cur,h1,h2,h3,h4⟩
theorem yr {w:World} {g o:Nat} {x:Cv.ag} {l:List Cv.ag} (h:ew w g o (x::l)):w.cell? ⟨g,o,none⟩=some (.int .i64 x.id)∧w.cell? ⟨g,o+1,none⟩=some (.int .i64 x.ak)∧w.cell? ⟨g,o+2,none⟩=some (.int .i64 x.sd)∧w.cell? ⟨g,o+3,none⟩=some (.int .i64 x.pr)∧w.cell? ⟨g,o+4,none⟩=some (.int .i64 x.q):=by
 have:=h 0 (by simp)
 simpa [TD] using this
theorem aex {w:World} {g o:Nat} {x:Cv.ag} {l:List Cv.ag} {cur:Array Value} (h:ew w g o (x::l)) (hg:w.heap[g]?=some (.cells cur 197 (0,0))) (q:Int) :
  ew (w.setCell ⟨g,o+4,none⟩ (.int .i64 (x.q-q))) g o (Bk.less x q::l)∧ew (w.setCell ⟨g,o+4,none⟩ (.int .i64 (x.q-q))) g (o+5) l∧∃ cur',(w.setCell ⟨g,o+4,none⟩ (.int .i64 (x.q-q))).heap[g]?=some (.cells cur' 197 (0,0)):=by
 have he:∀ j,j≠o+4->(w.setCell ⟨g,o+4,none⟩ (.int .i64 (x.q-q))).cell? ⟨g,j,none⟩=w.cell? ⟨g,j,none⟩:=fun j hj=>by
  rw[setCell_eq_setRow w g (o+4) _ _ _ _ hg,cR _ g j _ _ _ (setRow_heap w g _ _ _ _ hg),cR w g j _ _ _ hg,Array.getElem?_setIfInBounds_ne (by omega)]
 have hs:(w.setCell ⟨g,o+4,none⟩ (.int .i64 (x.q-q))).cell? ⟨g,o+4,none⟩=some (.int .i64 (x.q-q)):=by
  have hc:=(yr h).2.2.2.2;rw[cR w g (o+4) _ _ _ hg]at hc;have hlt:o+4<cur.size:=by
   rcases Nat.lt_or_ge (o+4) cur.size with h' | h'
   ·exact h'
   ·rw[Array.getElem?_eq_none h']at hc;cases hc
  rw[setCell_eq_setRow w g (o+4) _ _ _ _ hg,cR _ g (o+4) _ _ _ (setRow_heap w g _ _ _ _ hg),Array.getElem?_setIfInBounds_self_of_lt hlt]
 have htail:∀ i,i<l.length->w.cell? ⟨g,o+(i+1)*5,none⟩=some (.int .i64 (Cv.nth l i).id)∧w.cell? ⟨g,o+(i+1)*5+1,none⟩=some (.int .i64 (Cv.nth l i).ak)∧w.cell? ⟨g,o+(i+1)*5+2,none⟩=some (.int .i64 (Cv.nth l i).sd)∧w.cell? ⟨g,o+(i+1)*5+3,none⟩=some (.int .i64 (Cv.nth l i).pr)∧w.cell? ⟨g,o+(i+1)*5+4,none⟩=some (.int .i64 (Cv.nth l i).q):=fun i hi=>h (i+1) (by simp;omega);refine⟨fun i hi=>?_,fun i hi=>?_,?_⟩
 ·cases i with
  | zero =>
   obtain⟨c0,c1,c2,c3,c4⟩:=yr h;rw[TD];refine⟨?_,?_,?_,?_,?_⟩
   ·rw[show o+0*5=o by omega,he _ (by omega)];exact c0
   ·rw[show o+0*5+1=o+1 by omega,he _ (by omega)];exact c1
   ·rw[show o+0*5+2=o+2 by omega,he _ (by omega)];exact c2
   ·rw[show o+0*5+3=o+3 by omega,he _ (by omega)];exact c3
   ·rw[show o+0*5+4=o+4 by omega];exact hs
  | succ i =>
   obtain⟨c0,c1,c2,c3,c4⟩:=htail i (by simp at hi;omega);rw[aew,he _ (by omega),he _ (by omega),he _ (by omega),he _ (by omega),he _ (by omega)];exact⟨c0,c1,c2,c3,c4⟩
 ·obtain⟨c0,c1,c2,c3,c4⟩:=htail i hi
  rw[show o+5+i*5=o+(i+1)*5 by omega,he _ (by omega),he _ (by omega),he _ (by omega),he _ (by omega),he _ (by omega)];exact⟨c0,c1,c2,c3,c4⟩
 ·exact⟨_,by rw[setCell_eq_setRow w g (o+4) _ _ _ _ hg];exact setRow_heap w g _ _ _ _ hg⟩
theorem FO (g:Nat) (v:Value) (x:Cv.ag) (l:List Cv.ag) (q:Int) (w:World) (hv:Hid (dV w g v (x::l))) (h1:1<=x.q) (h2:x.q<=1000) (h3:1<=q) (h4:q<=1000) (hn:l.length<=1000) :
  Calls Tryz.prog 291 #[v,.int .i64 q] w fun e w'=>∃ v',e=.returned v'∧dV w' g v' (Fs.fQ (x::l) q)∧aH w w' g:=by
 obtain⟨o,cap,cur,rfl,hcap,hl,hg⟩:=hv.out.head;have hc:=(yr hl).2.2.2.2;obtain⟨q_,hL2,cur',hg'⟩:=aex hl hg q;have hfr:w.frozen? ⟨g,o+4,none⟩=false:=by simp[World.frozen?,hg]
 have hc':(w.setCell ⟨g,o+4,none⟩ (.int .i64 (x.q-q))).cell? ⟨g,o+4,none⟩=some (.int .i64 (x.q-q)):=by
  have:=(yr q_).2.2.2.2
  exact this
 have dW:Hid (aH w (w.setCell ⟨g,o+4,none⟩ (.int .i64 (x.q-q))) g):=aH.setCell _ _ _ _;have gL:=hDq q_;have iN:=hDq hL2;have HG:=hDq hg';clear hl hg q_ hL2 hg' hv;generalize hW:w.setCell ⟨g,o+4,none⟩ (.int .i64 (x.q-q))=W at *;have HW:=hDq hW;clear hW;have hpos:(0:Int)<((l.length+1:Nat):Int):=by omega
 generalize hm:l.length=m at *;have Bi:=hDq hm;clear hm;by_cases he:x.q-q=0
 ·have FP:Hid (Fs.fQ (x::l) q=l):=by show _=_;rw[Fs.vq,if_pos he]
  rw[he]at HW;by_cases mB:cap=1
  ·subst mB
   have yt:m=0:=by omega
   subst yt;go_enter Tryz.func291,Tryz.ntmps291;go_wp2;go_ret;rw[HW.out];refine⟨_,rfl,?_,dW.out⟩;rw[FP.out];exact .inl ⟨List.eq_nil_of_length_eq_zero Bi.out,_,_,rfl⟩
  ·have an1:(1:Int)<=((m+1:Nat):Int):=by omega
   go_enter Tryz.func291,Tryz.ntmps291;go_wp2;go_ret;rw[HW.out];refine⟨_,rfl,?_,dW.out⟩;rw[FP.out];refine .inr ⟨o+5,cap-1,cur',?_,by rw[Bi.out];omega,iN.out,HG.out⟩;rw[Bi.out];rfl
 ·have FP:Hid (Fs.fQ (x::l) q=Bk.less x q::l):=by show _=_;rw[Fs.vq,if_neg he]
  go_enter Tryz.func291,Tryz.ntmps291;go_wp2;go_ret;rw[HW.out];refine⟨_,rfl,?_,dW.out⟩;rw[FP.out];exact .inr ⟨o,cap,cur',by simp[Bi.out],by simp[Bi.out];omega,gL.out,HG.out⟩
def vL:Value->Nat
 | .slice _ n _=>n
 | _=>0
theorem dV.len {w:World} {g:Nat} {v:Value} {l:List Cv.ag} (h:dV w g v l):vL v=l.length:=by
 rcases h with ⟨rfl,a,cap,rfl⟩ | ⟨o,cap,cur,rfl,_⟩ <;> rfl
theorem dV.val {w:World} {g:Nat} {v:Value} {l:List Cv.ag} (h:dV w g v l):∃ a cap,v=.slice a l.length cap:=by
 rcases h with ⟨rfl,a,cap,rfl⟩ | ⟨o,cap,cur,rfl,_⟩
 ·exact⟨a,cap,rfl⟩
 ·exact⟨_,_,rfl⟩
theorem yx {x:Cv.ag} {l:List Cv.ag} {q:Int}:(Fs.fQ (x::l) q).length=if x.q-q=0 then l.length else l.length+1:=by
 rw[Fs.vq];split <;> simp
structure Me (w:World) (B p fh gs i:Nat) (price:Int) (G f0:Nat->Int) (vb vs:Value) (wr:World):Prop where
 ex:∃ f bs ss,dV wr fh vb bs∧dV wr gs vs ss∧aN wr 213 p f∧Fs.nE i price G f bs ss∧bs.length<=200∧ss.length<=200∧Pu.dP f 6=Pu.dP f0 6∧∀ k,k<3->Pu.dQ f k 6=Pu.dQ f0 k 6
 dv:Below B w wr
theorem dV.blk {w:World} {g:Nat} {v:Value} {x:Cv.ag} {l:List Cv.ag} (h:dV w g v (x::l)) {p:Nat} {f:Nat->Int} (hp:aN w 213 p f):g≠p:=by
 obtain⟨o,cap,cur,_,_,_,hg⟩:=h.head;exact aA hg hp (by decide)
theorem aeR (p i B fh gs:Nat) (price:Int) (vb vs:Value) (bs ss:List Cv.ag) (f G:Nat->Int) (ev:Nat->Value) (w:World) (hi:i<3) (hp1:1<=price) (hp2:price<=1000) (he:Hid (∀ W,Below B w W->dR W ev))
  (hB:Hid (B<=w.heap.size∧B<=p∧B<=fh∧B<=gs)) (hne:Hid (fh≠gs)) (tC:Hid (dV w fh vb bs)) (hos:Hid (dV w gs vs ss)) (vK:Hid (aN w 213 p f)) (j0:Hid (Fs.nE i price G f bs ss)) (hlb:Hid (bs.length<=200)) (yy:Hid (ss.length<=200)) :
  Calls Tryz.prog 262 #[.pointer (some ⟨p,0,none⟩),.int .i64 i,.int .i64 price,vb,vs] w fun e w'=>e=.returned .nilIface∧(aN w' 213 p G∧Pu.Good G∧Pu.dP G 6=Pu.dP f 6∧∀ k,k<3->Pu.dQ G k 6=Pu.dQ f k 6)∧Below B w w':=by
 have HR:Hid (Me w B p fh gs i price G f vb vs w):=⟨⟨f,bs,ss,tC.out,hos.out,vK.out,j0.out,hlb.out,yy.out,rfl,fun _ _=>rfl⟩,bRq _ _⟩;clear tC hos vK j0 hlb yy;go_enter Tryz.func262,Tryz.ntmps262;go_wp2
 go_loopw [3,4] (fun u x wr=>Me w B p fh gs i price G f u x wr) (fun u x _=>vL u+vL x)
 case atStart=>exact HR.out
 case round =>
  rename_i ub us wr;obtain⟨⟨f1,b1,s1,hb1,hs1,Ub,Mf,Uc,Ud,Ue,Uf⟩,hbl⟩:=hrel;have HB1:=hDq hb1;have fg:=hDq hs1;have mO:=hDq Ub;have HT1:=hDq Mf;have Ug:=hDq Uc;have jT:=hDq Ud;have F7:=hDq Ue;have HST:=hDq Uf;have gh:=hDq hbl;clear hb1 hs1 Ub Mf Uc Ud Ue Uf hbl HR;have done:(b1=[]∨s1=[])->f1=G:=fun h=>funext (HT1.out.done h);have HD:=hDq done;clear done;cases b1 with
  | nil =>
   obtain⟨ab,cb,rfl⟩:=HB1.out.val;obtain⟨aeY,cs,rfl⟩:=fg.out.val;have e:=HD.out (.inl rfl);subst e;rw[show ([]:List Cv.ag).length=0 from rfl];go_wp2;go_ret;exact⟨rfl,⟨mO.out,HT1.out.good,F7.out,HST.out⟩,gh.out⟩
  | cons x bt =>
   cases s1 with
   | nil =>
    obtain⟨ob,cb,Uh,rfl,hcb,Mg,hgb⟩:=HB1.out.head;obtain⟨aeY,cs,rfl⟩:=fg.out.val;have e:=HD.out (.inr rfl);subst e;rw[show ([]:List Cv.ag).length=0 from rfl];have hpos:(0:Int)<((bt.length+1:Nat):Int):=by omega
    generalize bt.length=m at *;go_wp2;go_ret;exact⟨rfl,⟨mO.out,HT1.out.good,F7.out,HST.out⟩,gh.out⟩
   | cons y st =>
    obtain⟨ob,cb,Uh,rfl,hcb,Mg,hgb⟩:=HB1.out.head;obtain⟨os,cs,aeZ,rfl,hcs,Ui,F3⟩:=fg.out.head;obtain⟨F8,F9,Ga,Gb,Gc⟩:=yr Mg;obtain⟨Gd,Ge,Gf,Gg,Gh⟩:=yr Ui;have ae0:(0:Int)<((bt.length+1:Nat):Int):=by omega
    have ae1:(0:Int)<((st.length+1:Nat):Int):=by omega
    have sP:=Cv.fP (Pu.j8 (HT1.out.bK x (mSq ..)).1);have Uj:=Cv.fP (Pu.j8 (HT1.out.ws y (mSq ..)).1);obtain⟨Uk,Ul⟩:=sP.2.2.2.2;obtain⟨Um,Un⟩:=Uj.2.2.2.2;clear sP Uj Mg Ui hgb F3 HD;obtain⟨nU,Mh⟩:∃ nU,bt.length=nU:=⟨_,rfl⟩;obtain⟨ms,Ae⟩:∃ ms,st.length=ms:=⟨_,rfl⟩;rw[Mh]at ae0 hcb HB1 ⊢;rw[Ae]at ae1 hcs fg ⊢;have Uo:=hDq Mh;have Up:=hDq Ae;clear Mh Ae;rcases Int.lt_or_le y.q x.q with hlt | hle
    ·have HQ:Hid (y.q=min x.q y.q):=by show _=_;omega
     go_wp2_with fail
     refine jW 8 (by kernel_rfl) (by kernel_rfl) ?_;simp only[List.take_succ_cons,List.take_zero,List.drop_succ_cons,List.drop_zero]
     repeat (first | go_big_quiet_step (fail) | quiet_step (fail))
     refine wpQuiet_nil ?_;intro _ hw';obtain⟨nq,hw''⟩:=hw';subst hw'';have vM:=hDq (gh.out.trans ((dn nq:Below wr.heap.size wr (wr.drewN nq)).mono (lTq hB.out.1 gh.out.size)));have HB2:Hid (dV (wr.drewN nq) fh (.slice (some ⟨fh,ob,none⟩) (nU+1) cb) (x::bt)):=HB1.out;have HS2:Hid (dV (wr.drewN nq) gs (.slice (some ⟨gs,os,none⟩) (ms+1) cs) (y::st)):=fg.out;have fT:Hid (aN (wr.drewN nq) 213 p f1):=mO.out;have Mi:(wr.drewN nq).cell? ⟨fh,ob,none⟩=some (.int .i64 x.id):=F8;have Mj:(wr.drewN nq).cell? ⟨fh,ob+1,none⟩=some (.int .i64 x.ak):=F9;have Mk:(wr.drewN nq).cell? ⟨fh,ob+2,none⟩=some (.int .i64 x.sd):=Ga;have Ml:(wr.drewN nq).cell? ⟨fh,ob+3,none⟩=some (.int .i64 x.pr):=Gb;have Mm:(wr.drewN nq).cell? ⟨fh,ob+4,none⟩=some (.int .i64 x.q):=Gc;have Mq:(wr.drewN nq).cell? ⟨gs,os,none⟩=some (.int .i64 y.id):=Gd;have Mr:(wr.drewN nq).cell? ⟨gs,os+1,none⟩=some (.int .i64 y.ak):=Ge;have Ms:(wr.drewN nq).cell? ⟨gs,os+2,none⟩=some (.int .i64 y.sd):=Gf;have Mt:(wr.drewN nq).cell? ⟨gs,os+3,none⟩=some (.int .i64 y.pr):=Gg;have Mu:(wr.drewN nq).cell? ⟨gs,os+4,none⟩=some (.int .i64 y.q):=Gh;clear gh HB1 fg mO F8 F9 Ga Gb Gc Gd Ge Gf Gg Gh;generalize wr.drewN nq=w1 at *
     go_wp2_with fail
     refine jW 10 (by kernel_rfl) (by kernel_rfl) ?_;simp only[List.take_succ_cons,List.take_zero,List.drop_succ_cons,List.drop_zero]
     repeat (first | go_big_quiet_step (fail) | quiet_step (fail))
     refine wpQuiet_nil ?_;intro _ hw';obtain⟨nq,hw''⟩:=hw';subst hw'';have gh:=hDq (vM.out.trans ((dn nq:Below w1.heap.size w1 (w1.drewN nq)).mono (lTq hB.out.1 vM.out.size)));have au:Hid (dV (w1.drewN nq) fh (.slice (some ⟨fh,ob,none⟩) (nU+1) cb) (x::bt)):=HB2.out;have dy:Hid (dV (w1.drewN nq) gs (.slice (some ⟨gs,os,none⟩) (ms+1) cs) (y::st)):=HS2.out;have gq:Hid (aN (w1.drewN nq) 213 p f1):=fT.out;clear vM HB2 HS2 fT Mi Mj Mk Ml Mm Mq Mr Ms Mt Mu;generalize w1.drewN nq=w2 at *;obtain⟨hC,Bt⟩:=HT1.out.step hi ⟨hp1,hp2⟩ HQ.out;have hTR:=Uq p i x y price y.q f1 ev w2 (he.out _ gh.out).SK gq.out HT1.out.good;rw[hC]at hTR;rw[show cw ev 0=.nilIface from rfl]at hTR;have hsum:=Pu.Ee f1 i x y price y.q;have Mv:=hDq Bt;have iD:=hDq hTR;have Bu:=hDq hsum;have Bv:=au.out.blk gq.out;have Bw:=dy.out.blk gq.out;have Bz:=hDq Bv;have BA:=hDq Bw;clear hC Bt hTR hsum Bv Bw;unfold bJ at iD
     go_wp2_with fail
     refine iD.out.mono ?_;rintro e w3 ⟨rfl,py,hs3⟩;have vN:=hDq (gh.out.trans (hs3.below (lTq hB.out.1 gh.out.size) hB.out.2.1));have mI:=hDq py;have bg:=hDq (au.out.save hs3 Bz.out);have cY:=hDq (dy.out.save hs3 BA.out);clear py hs3 iD gh au dy gq;generalize Pu.iQ f1 i x y price y.q=f2 at *;simp only[];have hlb:=Ug.out;have yy:=jT.out;simp only[List.length_cons]at hlb yy;have mN:=hDq (FO fh _ x bt y.q w3 bg.out Uk Ul (by omega) (by omega) (by omega))
     go_wp2_with fail
     refine mN.out.mono ?_;rintro e w4 ⟨Mw,rfl,hb4,fA⟩;have vO:=hDq (vN.out.trans (fA.below (lTq hB.out.1 vN.out.size) hB.out.2.2.1));have mJ:=hDq (mI.out.save fA (Ne.symm Bz.out));have ib:=hDq (cY.out.save fA (Ne.symm hne.out));have bE:=hDq hb4;clear hb4 fA mN vN mI bg cY;simp only[];have BD:=hDq (FO gs _ y st y.q w4 ib.out Um Un (by omega) (by omega) (by omega))
     go_wp2_with fail
     refine BD.out.mono ?_;rintro e aQ ⟨Mx,rfl,cB,hs5⟩;have My:=hDq (vO.out.trans (hs5.below (lTq hB.out.1 vO.out.size) hB.out.2.2.2));have qj:=hDq (mJ.out.save hs5 (Ne.symm BA.out));have aS:=hDq (bE.out.save hs5 hne.out);have d_:=hDq cB;clear cB hs5 BD vO mJ bE ib;simp only[];have hl1:=aS.out.len;have hl2:=d_.out.len;rw[yx]at hl1 hl2
     go_wp2_with fail
     refine⟨⟨⟨f2,_,_,aS.out,d_.out,qj.out,Mv.out,?_,?_,?_,?_⟩,My.out⟩,?_⟩
     ·rw[yx];split <;> omega
     ·rw[yx];split <;> omega
     ·rw[Bu.out.1];exact F7.out
     ·intro k hk;rw[Bu.out.2 k hk];exact HST.out k hk
     ·have hqq:=HQ.out
      show vL Mw+vL Mx<(nU+1)+(ms+1);rw[hl1,hl2,Uo.out,Up.out];split <;> split <;> omega
    ·have HQ:Hid (x.q=min x.q y.q):=by show _=_;omega
     go_wp2_with fail
     refine jW 8 (by kernel_rfl) (by kernel_rfl) ?_;simp only[List.take_succ_cons,List.take_zero,List.drop_succ_cons,List.drop_zero]
     repeat (first | go_big_quiet_step (fail) | quiet_step (fail))
     refine wpQuiet_nil ?_;intro _ hw';obtain⟨nq,hw''⟩:=hw';subst hw'';have vM:=hDq (gh.out.trans ((dn nq:Below wr.heap.size wr (wr.drewN nq)).mono (lTq hB.out.1 gh.out.size)));have HB2:Hid (dV (wr.drewN nq) fh (.slice (some ⟨fh,ob,none⟩) (nU+1) cb) (x::bt)):=HB1.out;have HS2:Hid (dV (wr.drewN nq) gs (.slice (some ⟨gs,os,none⟩) (ms+1) cs) (y::st)):=fg.out;have fT:Hid (aN (wr.drewN nq) 213 p f1):=mO.out;have Mi:(wr.drewN nq).cell? ⟨fh,ob,none⟩=some (.int .i64 x.id):=F8;have Mj:(wr.drewN nq).cell? ⟨fh,ob+1,none⟩=some (.int .i64 x.ak):=F9;have Mk:(wr.drewN nq).cell? ⟨fh,ob+2,none⟩=some (.int .i64 x.sd):=Ga;have Ml:(wr.drewN nq).cell? ⟨fh,ob+3,none⟩=some (.int .i64 x.pr):=Gb;have Mm:(wr.drewN nq).cell? ⟨fh,ob+4,none⟩=some (.int .i64 x.q):=Gc;have Mq:(wr.drewN nq).cell? ⟨gs,os,none⟩=some (.int .i64 y.id):=Gd;have Mr:(wr.drewN nq).cell? ⟨gs,os+1,none⟩=some (.int .i64 y.ak):=Ge;have Ms:(wr.drewN nq).cell? ⟨gs,os+2,none⟩=some (.int .i64 y.sd):=Gf;have Mt:(wr.drewN nq).cell? ⟨gs,os+3,none⟩=some (.int .i64 y.pr):=Gg;have Mu:(wr.drewN nq).cell? ⟨gs,os+4,none⟩=some (.int .i64 y.q):=Gh;clear gh HB1 fg mO F8 F9 Ga Gb Gc Gd Ge Gf Gg Gh;generalize wr.drewN nq=w1 at *
     go_wp2_with fail
     refine jW 10 (by kernel_rfl) (by kernel_rfl) ?_;simp only[List.take_succ_cons,List.take_zero,List.drop_succ_cons,List.drop_zero]
     repeat (first | go_big_quiet_step (fail) | quiet_step (fail))
     refine wpQuiet_nil ?_;intro _ hw';obtain⟨nq,hw''⟩:=hw';subst hw'';have gh:=hDq (vM.out.trans ((dn nq:Below w1.heap.size w1 (w1.drewN nq)).mono (lTq hB.out.1 vM.out.size)));have au:Hid (dV (w1.drewN nq) fh (.slice (some ⟨fh,ob,none⟩) (nU+1) cb) (x::bt)):=HB2.out;have dy:Hid (dV (w1.drewN nq) gs (.slice (some ⟨gs,os,none⟩) (ms+1) cs) (y::st)):=HS2.out;have gq:Hid (aN (w1.drewN nq) 213 p f1):=fT.out;clear vM HB2 HS2 fT Mi Mj Mk Ml Mm Mq Mr Ms Mt Mu;generalize w1.drewN nq=w2 at *;obtain⟨hC,Bt⟩:=HT1.out.step hi ⟨hp1,hp2⟩ HQ.out;have hTR:=Uq p i x y price x.q f1 ev w2 (he.out _ gh.out).SK gq.out HT1.out.good;rw[hC]at hTR;rw[show cw ev 0=.nilIface from rfl]at hTR;have hsum:=Pu.Ee f1 i x y price x.q;have Mv:=hDq Bt;have iD:=hDq hTR;have Bu:=hDq hsum;have Bv:=au.out.blk gq.out;have Bw:=dy.out.blk gq.out;have Bz:=hDq Bv;have BA:=hDq Bw;clear hC Bt hTR hsum Bv Bw;unfold bJ at iD
     go_wp2_with fail
     refine iD.out.mono ?_;rintro e w3 ⟨rfl,py,hs3⟩;have vN:=hDq (gh.out.trans (hs3.below (lTq hB.out.1 gh.out.size) hB.out.2.1));have mI:=hDq py;have bg:=hDq (au.out.save hs3 Bz.out);have cY:=hDq (dy.out.save hs3 BA.out);clear py hs3 iD gh au dy gq;generalize Pu.iQ f1 i x y price x.q=f2 at *;simp only[];have hlb:=Ug.out;have yy:=jT.out;simp only[List.length_cons]at hlb yy;have mN:=hDq (FO fh _ x bt x.q w3 bg.out Uk Ul (by omega) (by omega) (by omega))
     go_wp2_with fail
     refine mN.out.mono ?_;rintro e w4 ⟨Mw,rfl,hb4,fA⟩;have vO:=hDq (vN.out.trans (fA.below (lTq hB.out.1 vN.out.size) hB.out.2.2.1));have mJ:=hDq (mI.out.save fA (Ne.symm Bz.out));have ib:=hDq (cY.out.save fA (Ne.symm hne.out));have bE:=hDq hb4;clear hb4 fA mN vN mI bg cY;simp only[];have BD:=hDq (FO gs _ y st x.q w4 ib.out Um Un (by omega) (by omega) (by omega))
     go_wp2_with fail
     refine BD.out.mono ?_;rintro e aQ ⟨Mx,rfl,cB,hs5⟩;have My:=hDq (vO.out.trans (hs5.below (lTq hB.out.1 vO.out.size) hB.out.2.2.2));have qj:=hDq (mJ.out.save hs5 (Ne.symm BA.out));have aS:=hDq (bE.out.save hs5 hne.out);have d_:=hDq cB;clear cB hs5 BD vO mJ bE ib;simp only[];have hl1:=aS.out.len;have hl2:=d_.out.len;rw[yx]at hl1 hl2
     go_wp2_with fail
     refine⟨⟨⟨f2,_,_,aS.out,d_.out,qj.out,Mv.out,?_,?_,?_,?_⟩,My.out⟩,?_⟩
     ·rw[yx];split <;> omega
     ·rw[yx];split <;> omega
     ·rw[Bu.out.1];exact F7.out
     ·intro k hk;rw[Bu.out.2 k hk];exact HST.out k hk
     ·have hqq:=HQ.out
      show vL Mw+vL Mx<(nU+1)+(ms+1);rw[hl1,hl2,Uo.out,Up.out];split <;> split <;> omega
namespace Fl
def mE (a:Ask) (k:Int):Nat:=(fH a k-1).toNat
theorem Kd {a:Ask} {k:Int} (h:fH a k=0):mE a k=0:=by unfold mE;rw[h];rfl
end Fl
section
variable {ev:Nat->Value}
theorem aeT (a:Ask) (w:World) (he:dR w ev) (hz:11<w.heap.size):Calls Tryz.prog 151 #[cr a] w fun e w'=>e=.returned (cw ev (ah.code a.k a.c a.sq a.it a.sd a.pr a.q a.id-1))∧Below w.heap.size w w':=by
 obtain⟨aY,ac,ck,gO,asd,bA,aq,aZ⟩:=a;show Calls Tryz.prog 151 #[.agg #[.int .u8 aY,.int .i64 ac,.int .i64 ck,.int .i64 gO,.int .i64 asd,.int .i64 bA,.int .i64 aq,.int .i64 aZ]] w fun e w'=>e=.returned (cw ev (ah.code aY ac ck gO asd bA aq aZ-1))∧_;unfold ah.code;cases hk:ah.lH aY with
 | false=>exact QZ aY ac ck gO asd bA aq aZ _ w (by omega) he.c3 hk
 | true =>
  cases hb:ah.ky aY ac ck gO asd bA aq aZ with
  | false=>exact Q0 aY ac ck gO asd bA aq aZ _ w (by omega) he.c1 hk hb
  | true =>
   cases hs:ah.mg aY gO asd bA aq aZ with
   | false=>exact Q5 aY ac ck gO asd bA aq aZ _ w (by omega) he.c2 hk hb hs
   | true=>exact JH aY ac ck gO asd bA aq aZ w hk hb hs
theorem dR.size {w:World} (h:dR w ev):11<w.heap.size:=bCq w _ h.c11
theorem AL (a:Ask) (k:Int) (w:World) (he:Hid (dR w ev)) (hk:0<=k∧k<256):Calls Tryz.prog 246 #[cr a,.int .u8 k] w fun e w'=>e=.returned (cw ev (Fl.mE a k))∧Below w.heap.size w w':=by
 have HA:=hDq (fun W (hb:Below w.heap.size w W)=>aeT a W (he.out.below hb) (he.out.below hb).size);have HK:Hid (Fl.mE a k=((if ah.code a.k a.c a.sq a.it a.sd a.pr a.q a.id=0∧a.k≠k then (4:Int) else ((ah.code a.k a.c a.sq a.it a.sd a.pr a.q a.id:Nat):Int))-1).toNat):=rfl;generalize Fl.mE a k=aeU at *;obtain⟨aY,ac,ck,gO,asd,bA,aq,aZ⟩:=a;unfold cr bw at HA ⊢;simp only[]at HA HK ⊢;have h1:ah.code aY ac ck gO asd bA aq aZ≠1:=by
  unfold ah.code;split <;> (try split) <;> (try split) <;> decide
 generalize ah.code aY ac ck gO asd bA aq aZ=cd at *;have hb0:Below w.heap.size w (w.alloc (.cells #[.int .u8 aY,.int .i64 ac,.int .i64 ck,.int .i64 gO,.int .i64 asd,.int .i64 bA,.int .i64 aq,.int .i64 aZ] 95)):=(bRq _ _).alloc (lRq _) _;have Bn:(w.alloc (.cells #[.int .u8 aY,.int .i64 ac,.int .i64 ck,.int .i64 gO,.int .i64 asd,.int .i64 bA,.int .i64 aq,.int .i64 aZ] 95)).heap[w.heap.size]?=some (.cells #[.int .u8 aY,.int .i64 ac,.int .i64 ck,.int .i64 gO,.int .i64 asd,.int .i64 bA,.int .i64 aq,.int .i64 aZ] 95 (0,0)):=hNq _ _;have bD:=hDq hb0;have f_:=hDq Bn;clear hb0 Bn;go_enter Tryz.func246,Tryz.ntmps246
 go_wp2_with fail
 refine(HA.out _ bD.out).mono ?_;rintro e w2 ⟨rfl,hb2⟩;have HB2:=hDq (bD.out.trans (hb2.mono bD.out.size));have c0:w2.cell? ⟨w.heap.size,0,none⟩=some (.int .u8 aY):=by rw[cR w2 _ 0 _ _ _ (by rw[hb2.block _ (lBq f_.out)];exact f_.out)];rfl
 have c3:=(he.out.below HB2.out).c3;clear hb2 HA bD f_;simp only[];by_cases hc:cd=0
 ·subst hc
  rw[show cw ev (0-1)=.nilIface from rfl];by_cases hk2:aY=k
  ·subst hk2
   have:(aY != aY)=false:=by simp
   go_wp2;go_ret;exact⟨by rw[HK.out];simp[cw],HB2.out⟩
  ·have hk':(aY != k)=true:=by simpa using hk2
   have hz:=(he.out.below HB2.out).size;go_wp2
   try go_quiet (fail)
   go_ret;exact⟨by rw[HK.out];simp[cw,hk2],HB2.out⟩
 ·obtain⟨d,rfl⟩:∃ d,cd=d+1+1:=⟨cd-2,by omega⟩
  have hne:¬ (d+1+1=0∧aY≠k):=fun h=>by omega
  have aeV:aeU=d+1:=by rw[HK.out,if_neg hne];omega
  subst aeV;rw[show cw ev (d+1+1-1)=.iface 412 (ev (d+1)) from rfl];clear HK hne hc h1;go_wp2;go_ret;exact⟨rfl,HB2.out⟩
section
variable {w W:World} {F P:Nat} {I b:Nat->Nat} {v:Nat->Value} {L:Nat->List Cv.ag} {pf n:Nat->Int} {wd h:Int}
theorem FL (i:Nat) (hi:i<3) (hF:Hid (aU w W F P I b v L pf n wd h)):Calls Tryz.prog 170 #[.pointer (some ⟨F,0,none⟩),.int .i64 i] W fun e w'=>e=.returned (.pointer (some ⟨I i,0,none⟩))∧w'=W:=by
 have HW:=hDq (fun W=>fY (i:Int) 0 2 W);rw[show ah.aC (i:Int) 0 2=true by simp[ah.aC];omega]at HW;have ci:=hF.out.vw hi;have h0:(0:Int)<=(i:Int):=by omega
 have h3:(i:Int)<3:=by omega
 go_enter Tryz.func170,Tryz.ntmps170
 go_wp2_with fail
 refine(HW.out _).mono ?_;rintro e w2 ⟨rfl,rfl⟩;simp only[];go_wp2;go_ret;exact⟨rfl,rfl⟩
theorem Md (i:Nat) (hi:i<3) (hF:Hid (aU w W F P I b v L pf n wd h)):Calls Tryz.prog 108 #[.pointer (some ⟨F,0,none⟩),.int .i64 i] W fun e w'=>e=.returned (.pointer (some ⟨b i,0,none⟩))∧w'=W:=by
 have HW:=hDq (FL i hi hF);have ci:=hF.out.vy hi;go_enter Tryz.func108,Tryz.ntmps108
 go_wp2_with fail
 refine(HW.out).mono ?_;rintro e w2 ⟨rfl,rfl⟩;simp only[];go_wp2;go_ret;exact⟨rfl,rfl⟩
theorem T_ (hF:Hid (aU w W F P I b v L pf n wd h)):Calls Tryz.prog 69 #[.pointer (some ⟨F,0,none⟩)] W fun e w'=>e=.returned (.pointer (some ⟨P,0,none⟩))∧w'=W:=by
 have ci:=hF.out.cellP;go_enter Tryz.func69,Tryz.ntmps69;go_wp2;go_ret;exact⟨rfl,rfl⟩
theorem aeW:(Tryz.prog.info? 192).map (·.size)=some 2:=by kernel_rfl
theorem aeX {w:World} {B:Nat} {r l:Int} (h:w.heap[B]?=some (.cells #[.int .i64 r,.int .i64 l] 192 (0,0))):(loadVar 192 ⟨B,0,none⟩).run Tryz.prog w=.ok (.agg #[.int .i64 r,.int .i64 l]) w :=
 run_loadVar_row w B 192 192 _ (0,0) _ h Tryz.underlying192 rfl aeW
theorem Ua (i:Nat) (hi:i<3) (hF:Hid (aU w W F P I b v L pf n wd h)):Calls Tryz.prog 106 #[.pointer (some ⟨F,0,none⟩),.int .i64 i] W fun e w'=>e=.returned (dx (n (i*2)) (n (i*2+1)))∧Below W.heap.size W w':=by
 have hb0:Below W.heap.size W (W.alloc (.cells #[.int .i64 0,.int .i64 0] 192)):=(bRq _ _).alloc (lRq _) _;have HW:=hDq (FL (W:=W.alloc (.cells #[.int .i64 0,.int .i64 0] 192)) i hi (hF.out.later hb0));have c1:=(hF.out.later hb0).KD hi;have c2:=(hF.out.later hb0).cellL hi;have bD:=hDq hb0;clear hb0;unfold dx;go_enter Tryz.func106,Tryz.ntmps106
 go_wp2_with fail
 refine(HW.out).mono ?_;rintro e w2 ⟨rfl,rfl⟩;simp only[];go_wp2;refine bodyPost_ret (v:=.agg #[.int .i64 (n (i*2)),.int .i64 (n (i*2+1))]) ?_ rfl ⟨rfl,(bRq _ _).alloc (lRq _) _⟩;rw[Am rfl];simp[asAddr,Result.andThen,aeX (heap_alloc_new W _)]
end
end
theorem aey {l:List Cv.ag} {x:Cv.ag} (hn:Cv.has l x.id=false):Bk.cW (l++[x]) x.id=0∧Bk.dZ (l++[x]) x.id=l:=by
 have hh:Cv.has (l++[x]) x.id=true:=by unfold Cv.has;simp
 have hc:Bk.cW (l++[x]) x.id=0:=by unfold Bk.cW;rw[if_pos hh]
 have hp:Bk.pos (l++[x]) x.id=l.length:=by
  unfold Bk.pos;have h0:l.findIdx (fun y=>y.id==x.id)=l.length:=Bk.QQ.1 hn;rw[List.findIdx_append,h0,if_neg (by omega)];simp
 refine⟨hc,?_⟩;unfold Bk.dZ;rw[if_pos hc,hp];unfold Bk.del;simp
section
variable {w W:World} {F P:Nat} {I b:Nat->Nat} {v:Nat->Value} {L:Nat->List Cv.ag} {pf n:Nat->Int} {wd h:Int} {ev:Nat->Value}
theorem aez (a:Ask) (hF:Hid (aU w W F P I b v L pf n wd h)) (he:Hid (dR w ev)) (hk:Hid (Fl.fH a 111≠0)) :
  Calls Tryz.prog 215 #[.pointer (some ⟨F,0,none⟩),cr a] W fun e W'=>e=.returned (cw ev (Fl.eC L pf a))∧∃ v',aU w W' F P I b v' (Fl.kB L pf a) (Fl.jD L pf a) n wd h∧bC W W' P I b v v':=by
 have hpos:=Fl.J7 hk.out;have hC:Fl.eC L pf a=Fl.mE a 111:=by unfold Fl.eC Fl.mE;rw[if_neg hk.out]
 have hne:Fl.eC L pf a≠0:=by rw[hC];unfold Fl.mE;omega
 rw[show Fl.kB L pf a=L by unfold Fl.kB;rw[if_neg hne],show Fl.jD L pf a=pf by unfold Fl.jD;rw[if_neg hne],hC];rw[hC]at hne;have HK:=hDq (fun W' (hb:Below W.heap.size W W')=>AL a 111 W' ((hF.out.bP he.out).below hb) (by decide));generalize Fl.mE a 111=AO at *;obtain⟨d,rfl⟩:∃ d,AO=d+1:=⟨AO-1,by omega⟩;rw[show cw ev (d+1)=.iface 412 (ev (d+1)) from rfl]at HK ⊢;clear hC hne;obtain⟨aY,ac,ck,gO,asd,bA,aq,aZ⟩:=a;unfold cr bw at HK ⊢;simp only[]at HK ⊢;have hb0:Below W.heap.size W (W.alloc (.cells #[.int .u8 aY,.int .i64 ac,.int .i64 ck,.int .i64 gO,.int .i64 asd,.int .i64 bA,.int .i64 aq,.int .i64 aZ] 95)):=(bRq _ _).alloc (lRq _) _;have bD:=hDq hb0;clear hb0;go_enter Tryz.func215,Tryz.ntmps215
 go_wp2_with fail
 refine(HK.out _ bD.out).mono ?_;rintro e w2 ⟨rfl,hb2⟩;have HB2:=hDq (bD.out.trans (hb2.mono bD.out.size));clear hb2 HK bD;simp only[];go_wp2;go_ret;exact⟨rfl,v,hF.out.later HB2.out,bC.of_below HB2.out P I b v⟩
theorem aeA (a:Ask) (hF:Hid (aU w W F P I b v L pf n wd h)) (he:Hid (dR w ev)) (hok:Hid (Fs.dO L pf)) (hk:Hid (Fl.fH a 111=0)) :
  Calls Tryz.prog 215 #[.pointer (some ⟨F,0,none⟩),cr a] W fun e W'=>e=.returned (cw ev (Fl.eC L pf a))∧∃ v',aU w W' F P I b v' (Fl.kB L pf a) (Fl.jD L pf a) n wd h∧bC W W' P I b v v':=by
 have hit:=Fl.RZ hk.out;obtain⟨i,hi⟩:∃ i:Nat,a.it=i:=⟨a.it.toNat,by omega⟩;have bO:i<3:=by omega
 have vH:Fl.eC L pf a=if Cv.ok (Fl.fB a)=true then (if Cv.has (L i) a.id=true then 6 else if 60<=(L i).length then 7 else Pu.jC pf a.it (Fl.fB a)) else 1:=by
  unfold Fl.eC;rw[if_pos hk.out,show a.it.toNat=i by omega]
 have LJ:Bk.er (L i) (Fl.fB a)=1->Fl.eC L pf a=1:=fun h=>by
  rw[vH];unfold Bk.er at h;split at h
  ·split at h
   ·cases h
   ·split at h <;> cases h
  ·rename_i hn;rw[if_neg hn]
 have hC2:Bk.er (L i) (Fl.fB a)=2->Fl.eC L pf a=6:=fun h=>by
  rw[vH];unfold Bk.er at h;split at h
  ·rename_i h1;rw[if_pos h1]
   split at h
   ·rename_i h2;rw[if_pos (by simpa [Fl.fB] using h2)]
   ·split at h <;> cases h
  ·cases h
 have LK:Bk.er (L i) (Fl.fB a)=3->Fl.eC L pf a=7:=fun h=>by
  rw[vH];unfold Bk.er at h;split at h
  ·rename_i h1;rw[if_pos h1]
   split at h
   ·cases h
   ·rename_i h2;rw[if_neg (by simpa [Fl.fB] using h2)]
    split at h
    ·rename_i h3;rw[if_pos h3]
    ·cases h
  ·cases h
 have LM:Bk.er (L i) (Fl.fB a)=0->Fl.eC L pf a=Pu.jC pf a.it (Fl.fB a):=fun h=>by
  obtain⟨h1,h2,h3⟩:=Bk.QS h;rw[vH,if_pos h1,if_neg (by rw[show a.id=(Fl.fB a).id from rfl,h2];simp),if_neg (by omega)]
 have xT:Bk.er (L i) (Fl.fB a)=0∨Bk.er (L i) (Fl.fB a)=1∨Bk.er (L i) (Fl.fB a)=2∨Bk.er (L i) (Fl.fB a)=3:=by
  unfold Bk.er;split <;> (try split) <;> (try split) <;> simp
 clear vH;have LO:Fl.eC L pf a=0->Fl.kB L pf a=upd L i (L i++[Fl.fB a]):=fun h=>by unfold Fl.kB;rw[if_pos h,show a.it.toNat=i by omega]
 have q_:Fl.eC L pf a≠0->Fl.kB L pf a=L:=fun h=>by unfold Fl.kB;rw[if_neg h]
 have Bj:Fl.eC L pf a=0->Fl.jD L pf a=Pu.jX pf a.it (Fl.fB a):=fun h=>by unfold Fl.jD;rw[if_pos h]
 have FQ:Fl.eC L pf a≠0->Fl.jD L pf a=pf:=fun h=>by unfold Fl.jD;rw[if_neg h]
 have HK:=hDq (fun W' (hb:Below W.heap.size W W')=>AL a 111 W' ((hF.out.bP he.out).below hb) (by decide));rw[Fl.Kd hk.out,show cw ev 0=.nilIface from rfl]at HK;generalize Fl.eC L pf a=pc at *;generalize Fl.kB L pf a=an2 at *;generalize Fl.jD L pf a=an3 at *;obtain⟨aY,ac,ck,gO,asd,bA,aq,aZ⟩:=a;simp only[]at hi;subst hi;unfold cr bw at HK ⊢;simp only[Fl.fB]at HK LJ hC2 LK LM LO Bj xT;simp only[];have vI:=hDq LJ;have nN:=hDq hC2;have yu:=hDq LK;have Bl:=hDq LM;have TE:=hDq xT;have FR:=hDq LO;have gL:=hDq q_;have LP:=hDq Bj;have fe:=hDq FQ;clear LJ hC2 LK LM LO q_ Bj FQ hit hk xT;have hb0:Below W.heap.size W (W.alloc (.cells #[.int .u8 aY,.int .i64 ac,.int .i64 ck,.int .i64 i,.int .i64 asd,.int .i64 bA,.int .i64 aq,.int .i64 aZ] 95)):=(bRq _ _).alloc (lRq _) _;have Bn:(W.alloc (.cells #[.int .u8 aY,.int .i64 ac,.int .i64 ck,.int .i64 i,.int .i64 asd,.int .i64 bA,.int .i64 aq,.int .i64 aZ] 95)).heap[W.heap.size]?=some (.cells #[.int .u8 aY,.int .i64 ac,.int .i64 ck,.int .i64 i,.int .i64 asd,.int .i64 bA,.int .i64 aq,.int .i64 aZ] 95 (0,0)):=hNq _ _;have bD:=hDq hb0;have f_:=hDq Bn;clear hb0 Bn;obtain⟨A,hA⟩:∃ A,W.heap.size=A:=⟨_,rfl⟩;have oV:=hDq hA;clear hA;go_enter Tryz.func215,Tryz.ntmps215
 go_wp2_with fail
 refine(HK.out _ bD.out).mono ?_;rintro e w2 ⟨rfl,hb2⟩;have HB2:=hDq (bD.out.trans (hb2.mono bD.out.size));have aT:Hid (w2.heap[A]?=some (.cells #[.int .u8 aY,.int .i64 ac,.int .i64 ck,.int .i64 i,.int .i64 asd,.int .i64 bA,.int .i64 aq,.int .i64 aZ] 95 (0,0))):=by show _=_;rw[<- oV.out,hb2.block _ (lBq f_.out)];exact f_.out
 have bT:=hDq (hF.out.later HB2.out);have HS2:=hDq (bC.of_below HB2.out P I b v);rw[oV.out];clear hb2 HK bD f_ HB2 oV;have k1:w2.cell? ⟨A,1,none⟩=some (.int .i64 ac):=by rw[cR w2 _ 1 _ _ _ aT.out];rfl
 have k4:w2.cell? ⟨A,4,none⟩=some (.int .i64 asd):=by rw[cR w2 _ 4 _ _ _ aT.out];rfl
 have tv:w2.cell? ⟨A,5,none⟩=some (.int .i64 bA):=by rw[cR w2 _ 5 _ _ _ aT.out];rfl
 have k6:w2.cell? ⟨A,6,none⟩=some (.int .i64 aq):=by rw[cR w2 _ 6 _ _ _ aT.out];rfl
 have k7:w2.cell? ⟨A,7,none⟩=some (.int .i64 aZ):=by rw[cR w2 _ 7 _ _ _ aT.out];rfl
 obtain⟨w3,hw3⟩:∃ w3,w2.alloc (.cells #[.int .i64 aZ,.int .i64 ac,.int .i64 asd,.int .i64 bA,.int .i64 aq] 197)=w3:=⟨_,rfl⟩;obtain⟨B,hB⟩:∃ B,w2.heap.size=B:=⟨_,rfl⟩;have hb3:Below w2.heap.size w2 w3:=by rw[<- hw3];exact(bRq _ _).alloc (lRq _) _
 have dL:Hid (w3.heap[B]?=some (.cells #[.int .i64 aZ,.int .i64 ac,.int .i64 asd,.int .i64 bA,.int .i64 aq] 197 (0,0))):=by show _=_;rw[<- hw3,<- hB];exact hNq _ _
 have HR3:Hid (w3.heap[A]?=some (.cells #[.int .u8 aY,.int .i64 ac,.int .i64 ck,.int .i64 i,.int .i64 asd,.int .i64 bA,.int .i64 aq,.int .i64 aZ] 95 (0,0))):=by show _=_;rw[hb3.block _ (lBq aT.out)];exact aT.out
 have fR:=hDq (bT.out.later hb3);have dy:=hDq (HS2.out.below hb3);have TF:Hid (∀ j,j<3->B≠b j∧(v j).ownBlock≠some B):=fun j hj=>⟨fun e=>by have:=(bT.out.aB j hj).lt;omega,fun e=>by have:=((bT.out.aB j hj).sO _ e).2;omega⟩;have HW3:=hDq hw3;have kV:=hDq hB;clear hb3 hw3 hB;simp only[]
 go_wp2_with fail
 rw[HW3.out,kV.out];have a3:w3.cell? ⟨A,3,none⟩=some (.int .i64 i):=by rw[cR w3 _ 3 _ _ _ HR3.out];rfl
 have fi:=fR.out.vw bO;have fb:=fR.out.vy bO;have j3:(0:Int)<=(i:Int):=by omega
 have Sf:(i:Int)<3:=by omega
 clear k1 k4 tv k6 k7 aT bT HS2 HW3 kV
 go_quiet (fail)
 have FT:Below w3.heap.size w3 (w3.drewN nq):=dn nq;have nO:Hid ((w3.drewN nq).heap[B]?=some (.cells #[.int .i64 aZ,.int .i64 ac,.int .i64 asd,.int .i64 bA,.int .i64 aq] 197 (0,0))):=dL.out;have jb:Hid ((w3.drewN nq).heap[A]?=some (.cells #[.int .u8 aY,.int .i64 ac,.int .i64 ck,.int .i64 i,.int .i64 asd,.int .i64 bA,.int .i64 aq,.int .i64 aZ] 95 (0,0))):=HR3.out;have jg:=hDq (fR.out.later FT);have ib:=hDq (dy.out.below FT);clear FT dL HR3 fR dy a3 fi fb;generalize w3.drewN nq=aQ at *;have x0:aQ.cell? ⟨B,0,none⟩=some (.int .i64 aZ):=by rw[cR aQ _ 0 _ _ _ nO.out];rfl
 have x1:aQ.cell? ⟨B,1,none⟩=some (.int .i64 ac):=by rw[cR aQ _ 1 _ _ _ nO.out];rfl
 have x2:aQ.cell? ⟨B,2,none⟩=some (.int .i64 asd):=by rw[cR aQ _ 2 _ _ _ nO.out];rfl
 have x3:aQ.cell? ⟨B,3,none⟩=some (.int .i64 bA):=by rw[cR aQ _ 3 _ _ _ nO.out];rfl
 have x4:aQ.cell? ⟨B,4,none⟩=some (.int .i64 aq):=by rw[cR aQ _ 4 _ _ _ nO.out];rfl
 have yw:=abz (b i) w.heap.size (v i) ⟨aZ,ac,asd,bA,aq⟩ (L i) 412 (ev 1) (ev 5) (ev 6) (ev 7) aQ (jg.out.bP he.out).Eo (jg.out.aB i bO) (hok.out.aB i bO).len;have FU:=hDq yw;unfold bJ at FU;simp only[]at FU;clear yw
 go_wp2_with fail
 refine FU.out.mono ?_;rintro e aj ⟨rfl,v6,hb6,gp⟩;have eA:=hDq (jg.out.book bO hb6 gp);have d_:=hDq (ib.out.trans (bC.Ep bO gp P I));have qi:Hid (aj.heap[B]?=some (.cells #[.int .i64 aZ,.int .i64 ac,.int .i64 asd,.int .i64 bA,.int .i64 aq] 197 (0,0))):=by
  show _=_;rw[gp.only.block B (lBq nO.out) (fun e=>(TF.out i bO).1 (by simpa using e)) (fun e=>(TF.out i bO).2 e.symm)];exact nO.out
 have bu:Hid (aj.heap[A]?=some (.cells #[.int .u8 aY,.int .i64 ac,.int .i64 ck,.int .i64 i,.int .i64 asd,.int .i64 bA,.int .i64 aq,.int .i64 aZ] 95 (0,0))):=by
  show _=_;rw[gp.only.block A (lBq jb.out) (fun e=>aA jb.out (jg.out.aB i bO).cell (by decide) (by simpa using e)) (fun e=>iM (jg.out.aB i bO).row jb.out (by decide) e.symm)];exact jb.out
 clear hb6 gp x0 x1 x2 x3 x4 jg ib nO jb FU;simp only[];rcases TE.out with hc | hc | hc | hc
 ·have hpc:=Bl.out hc
  rw[show sN 412 (ev 1) (ev 5) (ev 6) (ev 7) (Bk.er (L i) ⟨aZ,ac,asd,bA,aq⟩)=.nilIface by rw[hc];rfl];have px:Bk.jU (L i) ⟨aZ,ac,asd,bA,aq⟩=L i++[⟨aZ,ac,asd,bA,aq⟩]:=by unfold Bk.jU;rw[if_pos hc]
  rw[px]at eA;obtain⟨hok1,LQ,hl1⟩:=Bk.QS hc;have LR:=hDq (aey (l:=L i) (x:=⟨aZ,ac,asd,bA,aq⟩) LQ);have TG:=hDq hpc;have s5:Hid ((L i++[(⟨aZ,ac,asd,bA,aq⟩:Cv.ag)]).length<=60):=by show _<=_;simp;omega
  clear hc px hpc hok1 LQ hl1 vI nN yu Bl TE;have x0:aj.cell? ⟨B,0,none⟩=some (.int .i64 aZ):=by rw[cR aj _ 0 _ _ _ qi.out];rfl
  have x1:aj.cell? ⟨B,1,none⟩=some (.int .i64 ac):=by rw[cR aj _ 1 _ _ _ qi.out];rfl
  have x2:aj.cell? ⟨B,2,none⟩=some (.int .i64 asd):=by rw[cR aj _ 2 _ _ _ qi.out];rfl
  have x3:aj.cell? ⟨B,3,none⟩=some (.int .i64 bA):=by rw[cR aj _ 3 _ _ _ qi.out];rfl
  have x4:aj.cell? ⟨B,4,none⟩=some (.int .i64 aq):=by rw[cR aj _ 4 _ _ _ qi.out];rfl
  have a3:aj.cell? ⟨A,3,none⟩=some (.int .i64 i):=by rw[cR aj _ 3 _ _ _ bu.out];rfl
  have fp:=eA.out.cellP
  go_wp2_with fail
  refine jW 7 (by kernel_rfl) (by kernel_rfl) ?_;simp only[List.take_succ_cons,List.take_zero,List.drop_succ_cons,List.drop_zero]
  repeat (first | go_big_quiet_step (fail) | quiet_step (fail))
  refine wpQuiet_nil ?_;intro _ hw';obtain⟨nq,hw''⟩:=hw';subst hw'';have lQ:Hid ((aj.drewN nq).heap[B]?=some (.cells #[.int .i64 aZ,.int .i64 ac,.int .i64 asd,.int .i64 bA,.int .i64 aq] 197 (0,0))):=qi.out;have j5:=hDq (eA.out.later (dn nq));have lf:=hDq (d_.out.below (dn nq));clear x0 x1 x2 x3 x4 a3 fp qi bu eA d_;generalize aj.drewN nq=bh at *;have HH:=hDq (aeB P i ⟨aZ,ac,asd,bA,aq⟩ pf ev bh (j5.out.bP he.out).per j5.out.cy hok.out.good);unfold bJ at HH;simp only[]at HH
  go_wp2_with fail
  refine HH.out.mono ?_;rintro e bY ⟨rfl,TH,FV⟩;have lS:=hDq (j5.out.purse TH FV);have yi:=hDq (lf.out.trans (bC.KB FV I b _));have yj:Hid (bY.heap[B]?=some (.cells #[.int .i64 aZ,.int .i64 ac,.int .i64 asd,.int .i64 bA,.int .i64 aq] 197 (0,0))):=by
   show _=_;rw[FV.block _ (lBq lQ.out) (aA lQ.out j5.out.cy (by decide))];exact lQ.out
  clear TH FV HH lQ j5 lf;rw[<- TG.out];simp only[];by_cases h0:pc=0
  ·subst h0
   rw[show cw ev 0=.nilIface from rfl];go_wp2;go_ret;refine⟨rfl,_,?_,yi.out⟩;rw[FR.out (by simp),LP.out (by simp)];exact lS.out
  ·obtain⟨d,rfl⟩:∃ d,pc=d+1:=⟨pc-1,by omega⟩
   rw[show cw ev (d+1)=.iface 412 (ev (d+1)) from rfl];have TI:Pu.jX pf i ⟨aZ,ac,asd,bA,aq⟩=pf:=by unfold Pu.jX;rw[if_neg (by rw[<- TG.out];omega)]
   rw[TI]at lS;have x0:bY.cell? ⟨B,0,none⟩=some (.int .i64 aZ):=by rw[cR bY _ 0 _ _ _ yj.out];rfl
   have hbk:=lS.out.aB i bO;rw[upd_same,upd_same]at hbk;have hcan:=QE (b i) w.heap.size v6 aZ (L i++[(⟨aZ,ac,asd,bA,aq⟩:Cv.ag)]) 412 (ev 1) (ev 5) (ev 6) (ev 7) bY (lS.out.bP he.out).Eo hbk s5.out;have hcl:Bk.dZ (L i++[(⟨aZ,ac,asd,bA,aq⟩:Cv.ag)]) aZ=L i:=LR.out.2;rw[hcl]at hcan;have Bo:=hDq hcan;clear TI hbk hcan hcl
   go_wp2_with fail
   refine Bo.out.mono ?_;rintro e g_ ⟨rfl,v9,mF,j4⟩;have LU:Step bY g_ (b i) (upd v i v6 i) v9:=by rw[upd_same];exact j4
   have q9:=hDq (lS.out.book bO mF LU);have Bd:=hDq (yi.out.trans (bC.Ep bO LU P I));rw[vo,vo,qO L i]at q9;rw[vo]at Bd;clear mF j4 LU Bo lS yi;simp only[];go_wp2;go_ret;refine⟨rfl,_,?_,Bd.out⟩;rw[gL.out (by omega),fe.out (by omega)];exact q9.out
 ·have hpc:pc=1:=vI.out hc
  rw[show sN 412 (ev 1) (ev 5) (ev 6) (ev 7) (Bk.er (L i) ⟨aZ,ac,asd,bA,aq⟩)=.iface 412 (ev 1) by rw[hc];rfl];have px:Bk.jU (L i) ⟨aZ,ac,asd,bA,aq⟩=L i:=by unfold Bk.jU;rw[if_neg (by rw[hc];decide)]
  rw[px,qO]at eA;clear hc px;go_wp2;go_ret;exact⟨by rw[hpc];rfl,_,by rw[gL.out (by omega),fe.out (by omega)];exact eA.out,d_.out⟩
 ·have hpc:pc=6:=nN.out hc
  rw[show sN 412 (ev 1) (ev 5) (ev 6) (ev 7) (Bk.er (L i) ⟨aZ,ac,asd,bA,aq⟩)=.iface 412 (ev 6) by rw[hc];rfl];have px:Bk.jU (L i) ⟨aZ,ac,asd,bA,aq⟩=L i:=by unfold Bk.jU;rw[if_neg (by rw[hc];decide)]
  rw[px,qO]at eA;clear hc px;go_wp2;go_ret;exact⟨by rw[hpc];rfl,_,by rw[gL.out (by omega),fe.out (by omega)];exact eA.out,d_.out⟩
 ·have hpc:pc=7:=yu.out hc
  rw[show sN 412 (ev 1) (ev 5) (ev 6) (ev 7) (Bk.er (L i) ⟨aZ,ac,asd,bA,aq⟩)=.iface 412 (ev 7) by rw[hc];rfl];have px:Bk.jU (L i) ⟨aZ,ac,asd,bA,aq⟩=L i:=by unfold Bk.jU;rw[if_neg (by rw[hc];decide)]
  rw[px,qO]at eA;clear hc px;go_wp2;go_ret;exact⟨by rw[hpc];rfl,_,by rw[gL.out (by omega),fe.out (by omega)];exact eA.out,d_.out⟩
theorem aeC (a:Ask) (hF:aU w W F P I b v L pf n wd h) (he:dR w ev) (hok:Fs.dO L pf) :
  Calls Tryz.prog 215 #[.pointer (some ⟨F,0,none⟩),cr a] W fun e W'=>e=.returned (cw ev (Fl.eC L pf a))∧∃ v',aU w W' F P I b v' (Fl.kB L pf a) (Fl.jD L pf a) n wd h∧bC W W' P I b v v':=by
 by_cases hk:Fl.fH a 111=0
 ·exact aeA a hF he hok hk
 ·exact aez a hF he hk
end
section
variable {w W:World} {F P:Nat} {I b:Nat->Nat} {v:Nat->Value} {L:Nat->List Cv.ag} {pf n:Nat->Int} {wd h:Int} {ev:Nat->Value}
theorem aU.fresh (hF:aU w W F P I b v L pf n wd h) {q:Nat} (hq:W.heap.size<=q):q≠F∧q≠P∧∀ i,i<3->q≠I i∧q≠b i∧(v i).ownBlock≠some q:=by
 have h1:=hF.lt;have h2:=hF.cy.lt;refine⟨by omega,by omega,fun i hi=>?_⟩;have h3:=lBq (hF.it i hi);have h4:=(hF.aB i hi).lt;exact⟨by omega,by omega,fun e=>by have:=((hF.aB i hi).sO _ e).2;omega⟩
theorem Sj (i:Nat) (hi:i<3) (x:Cv.ag) (hF:Hid (aU w W F P I b v L pf n wd h)) (he:Hid (dR w ev)) (hg:Hid (Pu.Good pf)) (hl:Hid ((L i).length<=60)) :
  Calls Tryz.prog 214 #[.pointer (some ⟨F,0,none⟩),.int .i64 i,bJ x] W fun e W'=>e=.returned (.tuple #[])∧∃ v',aU w W' F P I b v' (upd L i (Bk.dZ (L i) x.id)) (Pu.eP pf i x) n wd h∧bC W W' P I b v v':=by
 obtain⟨x0,x1,x2,x3,x4⟩:=x;unfold bJ;simp only[];obtain⟨B,hB⟩:∃ B,W.heap.size=B:=⟨_,rfl⟩;obtain⟨w1,dS⟩:∃ w1,W.alloc (.cells #[.int .i64 x0,.int .i64 x1,.int .i64 x2,.int .i64 x3,.int .i64 x4] 197)=w1:=⟨_,rfl⟩;have hb1:Below W.heap.size W w1:=by rw[<- dS];exact(bRq _ _).alloc (lRq _) _
 have qK:Hid (w1.heap[B]?=some (.cells #[.int .i64 x0,.int .i64 x1,.int .i64 x2,.int .i64 x3,.int .i64 x4] 197 (0,0))):=by show _=_;rw[<- dS,<- hB];exact hNq _ _
 have fe:=hDq (hF.out.later hb1);have fg:=hDq (bC.of_below hb1 P I b v);have vJ:=hDq (hF.out.fresh (q:=B) (by omega));have HW1:=hDq dS;have kV:=hDq hB;clear hb1 dS hB;have kF:w1.cell? ⟨B,0,none⟩=some (.int .i64 x0):=by rw[cR w1 _ 0 _ _ _ qK.out];rfl
 have fi:=fe.out.vw hi;have fb:=fe.out.vy hi;have h0:(0:Int)<=(i:Int):=by omega
 have h3:(i:Int)<3:=by omega
 go_enter Tryz.func214,Tryz.ntmps214
 go_wp2_with fail
 rw[HW1.out,kV.out];refine jW 11 (by kernel_rfl) (by kernel_rfl) ?_;simp only[List.take_succ_cons,List.take_zero,List.drop_succ_cons,List.drop_zero]
 repeat (first | go_big_quiet_step (fail) | quiet_step (fail))
 refine wpQuiet_nil ?_;intro _ hw';obtain⟨nq,hw''⟩:=hw';subst hw'';have LV:Hid ((w1.drewN nq).heap[B]?=some (.cells #[.int .i64 x0,.int .i64 x1,.int .i64 x2,.int .i64 x3,.int .i64 x4] 197 (0,0))):=qK.out;have bT:=hDq (fe.out.later (dn nq));have HS2:=hDq (fg.out.below (dn nq));clear kF fi fb qK fe fg HW1;generalize w1.drewN nq=w2 at *;have Bo:=hDq (QE (b i) w.heap.size (v i) x0 (L i) 412 (ev 1) (ev 5) (ev 6) (ev 7) w2 (bT.out.bP he.out).Eo (bT.out.aB i hi) hl.out)
 go_wp2_with fail
 refine Bo.out.mono ?_;rintro e w3 ⟨rfl,v3,hb3,hs3⟩;have fR:=hDq (bT.out.book hi hb3 hs3);have dy:=hDq (HS2.out.trans (bC.Ep hi hs3 P I));have dL:Hid (w3.heap[B]?=some (.cells #[.int .i64 x0,.int .i64 x1,.int .i64 x2,.int .i64 x3,.int .i64 x4] 197 (0,0))):=by
  show _=_;rw[hs3.only.block B (lBq LV.out) (fun e=>(vJ.out.2.2 i hi).2.1 (by simpa using e)) (fun e=>(vJ.out.2.2 i hi).2.2 e.symm)];exact LV.out
 clear hb3 hs3 Bo LV bT HS2;simp only[];have kF:w3.cell? ⟨B,0,none⟩=some (.int .i64 x0):=by rw[cR w3 _ 0 _ _ _ dL.out];rfl
 have k1:w3.cell? ⟨B,1,none⟩=some (.int .i64 x1):=by rw[cR w3 _ 1 _ _ _ dL.out];rfl
 have k2:w3.cell? ⟨B,2,none⟩=some (.int .i64 x2):=by rw[cR w3 _ 2 _ _ _ dL.out];rfl
 have k3:w3.cell? ⟨B,3,none⟩=some (.int .i64 x3):=by rw[cR w3 _ 3 _ _ _ dL.out];rfl
 have k4:w3.cell? ⟨B,4,none⟩=some (.int .i64 x4):=by rw[cR w3 _ 4 _ _ _ dL.out];rfl
 have fp:=fR.out.cellP
 go_wp2_with fail
 refine jW 6 (by kernel_rfl) (by kernel_rfl) ?_;simp only[List.take_succ_cons,List.take_zero,List.drop_succ_cons,List.drop_zero]
 repeat (first | go_big_quiet_step (fail) | quiet_step (fail))
 refine wpQuiet_nil ?_;intro _ hw';obtain⟨nq,hw''⟩:=hw';subst hw'';have cG:=hDq (fR.out.later (dn nq));have cY:=hDq (dy.out.below (dn nq));clear kF k1 k2 k3 k4 fp dL fR dy;generalize w3.drewN nq=w4 at *;have FW:=hDq (LW P i ⟨x0,x1,x2,x3,x4⟩ pf ev w4 (cG.out.bP he.out).per cG.out.cy hg.out);unfold bJ at FW;simp only[]at FW
 go_wp2_with fail
 refine FW.out.mono ?_;rintro e aQ ⟨rfl,tx,hs5⟩;have jg:=hDq (cG.out.purse tx hs5);have ib:=hDq (cY.out.trans (bC.KB hs5 I b _));clear tx hs5 FW cG cY;simp only[];go_wp2;go_end0;exact⟨rfl,_,jg.out,ib.out⟩
end
end Go.Proofs.YtjolccidheflpaaGreatDoor
