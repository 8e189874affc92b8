/- A floor of package batch in memory: three items with their books and bands, a purse; what an act may turn. -/
import Derived.Test.YtjolccidheflpaaGreatDoorU11
import Derived.Test.YtjolccidheflpaaGreatDoorU22
import Derived.Test.YtjolccidheflpaaGreatDoorU24
import Derived.Test.YtjolccidheflpaaGreatDoorU09
import Derived.Test.YtjolccidheflpaaGreatDoorU08
import Derived.BigRegion
import Derived.BigQuiet
import Derived.Test.YtjolccidheflpaaGreatDoorU03
namespace Go.Proofs.YtjolccidheflpaaGreatDoor
set_option maxHeartbeats 8000000
open Go.RowKit
set_option maxRecDepth 100000
structure ee (w:World) (ev:Nat->Value):Prop where
 c1:w.cell? ⟨1,0,none⟩=some (.iface 412 (ev 1))
 c2:w.cell? ⟨3,0,none⟩=some (.iface 412 (ev 2))
 c3:w.cell? ⟨4,0,none⟩=some (.iface 412 (ev 3))
 c5:w.cell? ⟨6,0,none⟩=some (.iface 412 (ev 5))
 c6:w.cell? ⟨7,0,none⟩=some (.iface 412 (ev 6))
 c7:w.cell? ⟨8,0,none⟩=some (.iface 412 (ev 7))
 c9:w.cell? ⟨9,0,none⟩=some (.iface 412 (ev 9))
 c11:w.cell? ⟨11,0,none⟩=some (.iface 412 (ev 11))
section
variable {w w':World} {ev:Nat->Value}
theorem ee.below (h:ee w ev) (hb:Below w.heap.size w w'):ee w' ev:=⟨cell_later hb h.c1,cell_later hb h.c2,cell_later hb h.c3,cell_later hb h.c5,cell_later hb h.c6,cell_later hb h.c7,cell_later hb h.c9,cell_later hb h.c11⟩
theorem ee.bN (h:ee w ev):gU w 412 (ev 1) (ev 6) (ev 7):=⟨h.c1,h.c6,h.c7⟩
theorem ee.Ef (h:ee w ev):vx w 412 (ev 1) (ev 5) (ev 6) (ev 7):=⟨h.bN,h.c5⟩
theorem ee.per (h:ee w ev):tN w ev:=⟨h.bN,h.c9⟩
theorem ee.R8 (h:ee w ev):ye w ev:=⟨h.per,h.c2,h.c11⟩
theorem ee.Kg (h:ee w ev):my w 412 (ev 1):=⟨h.c1⟩
end
def tG (I:Nat->Nat) (P:Nat) (wd h:Int):Array Value :=
 #[.int .i64 wd,.int .i64 h,.pointer (some ⟨I 0,0,none⟩),.pointer (some ⟨I 1,0,none⟩),.pointer (some ⟨I 2,0,none⟩),.pointer (some ⟨P,0,none⟩)]
def tH (b:Nat) (r l:Int):Array Value:=#[.pointer (some ⟨b,0,none⟩),.int .i64 r,.int .i64 l]
structure bk (w W:World) (F P:Nat) (I b:Nat->Nat) (v:Nat->Value) (L:Nat->List Cv.ag) (pf n:Nat->Int) (wd h:Int):Prop where
 blk:W.heap[F]?=some (.cells (tG I P wd h) 210 (0,0))
 it:∀ i,i<3->W.heap[I i]?=some (.cells (tH (b i) (n (i*2)) (n (i*2+1))) 267 (0,0))
 aG:∀ i,i<3->df W w.heap.size (b i) (v i) (L i)
 o_:∀ i j,i<3->j<3->i≠j->I i≠I j
 ne:∀ i j,i<3->j<3->i≠j->b i≠b j
 ap:∀ i j,i<3->j<3->i≠j->∀ k,(v i).ownBlock=some k->(v j).ownBlock≠some k
 cY:a_ W 213 P pf
 lo:w.heap.size<=F
 mI:w.heap.size<=P
 mJ:∀ i,i<3->w.heap.size<=I i
 cp:Below w.heap.size w W
structure bJ (W W':World) (P:Nat) (I b:Nat->Nat) (v v':Nat->Value):Prop where
 os:W'.os=W.os
 tape:W'.tape=W.tape
 output:W'.output=W.output
 size:W.heap.size<=W'.heap.size
 keep:∀ k,k<W.heap.size->k≠P->(∀ i,i<3->k≠I i∧k≠b i∧(v i).ownBlock≠some k)->W'.heap[k]?=W.heap[k]?
 new:∀ i,i<3->∀ k,(v' i).ownBlock=some k->(v i).ownBlock=some k∨W.heap.size<=k
section
variable {W W' W1 W2:World} {P:Nat} {I b:Nat->Nat} {v v' v1 v2:Nat->Value}
theorem bJ.refl (W:World) (P:Nat) (I b:Nat->Nat) (v:Nat->Value):bJ W W P I b v v:=⟨rfl,rfl,rfl,lRq _,fun _ _ _ _=>rfl,fun _ _ _ h=>.inl h⟩
theorem bJ.trans (h:bJ W W1 P I b v v1) (h1:bJ W1 W2 P I b v1 v2):bJ W W2 P I b v v2 :=
 ⟨h1.os.trans h.os,h1.tape.trans h.tape,h1.output.trans h.output,lTq h.size h1.size,
  fun k hk hP hi=>by
   rw[h1.keep k (Nat.lt_of_lt_of_le hk h.size) hP fun i bY=>⟨(hi i bY).1,(hi i bY).2.1,fun e=>?_⟩]
   · exact h.keep k hk hP hi
   · rcases h.new i bY k e with h2 | h2
     · exact(hi i bY).2.2 h2
     · omega,
  fun i hi k e=>by
   rcases h1.new i hi k e with h2 | h2
   · exact h.new i hi k h2
   · exact .inr (lTq h.size h2)⟩
theorem bJ.of_below (hb:Below W.heap.size W W') (P:Nat) (I b:Nat->Nat) (v:Nat->Value):bJ W W' P I b v v:=⟨hb.os,hb.tape,hb.output,hb.size,fun k hk _ _=>hb.block k hk,fun _ _ _ h=>.inl h⟩
theorem bJ.below (h:bJ W W1 P I b v v1) (hb:Below W1.heap.size W1 W2):bJ W W2 P I b v v1:=h.trans (bJ.of_below hb P I b v1)
theorem bJ.Eg {i:Nat} (hi:i<3) {x:Value} (hs:Step W W' (b i) (v i) x) (P:Nat) (I:Nat->Nat):bJ W W' P I b v (upd v i x) :=
 ⟨hs.only.os,hs.only.tape,hs.only.output,hs.only.size,
  fun k hk _ hk2=>hs.only.block k hk (fun e=>(hk2 i hi).2.1 (by simpa using e)) (fun e=>(hk2 i hi).2.2 e.symm),
  fun j hj k e=>by
   by_cases bC:j=i
   · subst bC;rw[upd_same]at e;exact hs.new k e
   · rw[upd_ne _ _ bC]at e;exact .inl e⟩
theorem bJ.Kh (hs:aM W W' P) (I b:Nat->Nat) (v:Nat->Value):bJ W W' P I b v v:=⟨hs.os,hs.tape,hs.output,hs.size,fun k hk hP _=>hs.block k hk hP,fun _ _ _ h=>.inl h⟩
theorem bJ.R9 {i:Nat} (hi:i<3) (hs:aM W W' (I i)) (P:Nat) (b:Nat->Nat) (v:Nat->Value):bJ W W' P I b v v:=⟨hs.os,hs.tape,hs.output,hs.size,fun k hk _ h2=>hs.block k hk (h2 i hi).1,fun _ _ _ h=>.inl h⟩
end
section
variable {w W W':World} {F P:Nat} {I b:Nat->Nat} {v:Nat->Value} {L:Nat->List Cv.ag} {pf n:Nat->Int} {wd h:Int}
theorem iV {W:World} {base:Nat} {v:Value} {n:Nat} {xs:List Value} {q:Nat} {a:Array Value} {T:TypeId} {fz:Nat×Nat} (h:W.ownsRow base 197 5 v n xs) (hq:W.heap[q]?=some (.cells a T fz)) (hT:T≠197):v.ownBlock≠some q:=by
 intro e;rcases h.2 with ⟨e1,_⟩ | ⟨r,cap,cur,e1,_,hr,_⟩
 ·rw[e1]at e;cases e
 ·rw[e1]at e
  have:r=q:=by simpa [Value.ownBlock] using e
  rw[this,hq]at hr;simp only[Option.some.injEq,Obj.cells.injEq]at hr;exact hT hr.2.1
theorem aF {W:World} {p q:Nat} {a c:Array Value} {T U:TypeId} {fz Ki:Nat×Nat} (hp:W.heap[p]?=some (.cells a T fz)) (hq:W.heap[q]?=some (.cells c U Ki)) (hT:T≠U):p≠q:=by
 intro e;rw[e,hq]at hp;simp only[Option.some.injEq,Obj.cells.injEq]at hp;exact hT hp.2.1.symm
theorem bk.later (hf:bk w W F P I b v L pf n wd h) (hb:Below W.heap.size W W'):bk w W' F P I b v L pf n wd h :=
 ⟨by rw[hb.block F (lBq hf.blk)];exact hf.blk,fun i hi=>by rw[hb.block _ (lBq (hf.it i hi))];exact hf.it i hi,fun i hi=>(hf.aG i hi).later hb,hf.o_,hf.ne,hf.ap,hf.cY.gy hb,hf.lo,hf.mI,hf.mJ,hf.cp.trans (hb.mono hf.cp.size)⟩
theorem bk.vR (hf:bk w W F P I b v L pf n wd h) {i:Nat} (hi:i<3):W.cell? ⟨F,2+i,none⟩=some (.pointer (some ⟨I i,0,none⟩)):=by
 rw[cR W F (2+i) _ _ _ hf.blk];have:i=0∨i=1∨i=2:=by omega
 rcases this with rfl | rfl | rfl <;> rfl
theorem bk.cellP (hf:bk w W F P I b v L pf n wd h):W.cell? ⟨F,5,none⟩=some (.pointer (some ⟨P,0,none⟩)):=by
 rw[cR W F 5 _ _ _ hf.blk];rfl
theorem bk.vS (hf:bk w W F P I b v L pf n wd h) {i:Nat} (hi:i<3):W.cell? ⟨I i,0,none⟩=some (.pointer (some ⟨b i,0,none⟩)):=by
 rw[cR W (I i) 0 _ _ _ (hf.it i hi)];rfl
theorem bk.Kj (hf:bk w W F P I b v L pf n wd h) {i:Nat} (hi:i<3):W.cell? ⟨I i,1,none⟩=some (.int .i64 (n (i*2))):=by
 rw[cR W (I i) 1 _ _ _ (hf.it i hi)];rfl
theorem bk.cellL (hf:bk w W F P I b v L pf n wd h) {i:Nat} (hi:i<3):W.cell? ⟨I i,2,none⟩=some (.int .i64 (n (i*2+1))):=by
 rw[cR W (I i) 2 _ _ _ (hf.it i hi)];rfl
theorem bk.lt (hf:bk w W F P I b v L pf n wd h):F<W.heap.size:=lBq hf.blk
theorem bk.bN (hf:bk w W F P I b v L pf n wd h) {ev:Nat->Value} (he:ee w ev):ee W ev:=he.below hf.cp
theorem bk.book (hf:bk w W F P I b v L pf n wd h) {i:Nat} (hi:i<3) {v':Value} {L':List Cv.ag} (hb:df W' w.heap.size (b i) v' L') (hs:Step W W' (b i) (v i) v'):bk w W' F P I b (upd v i v') (upd L i L') pf n wd h:=by
 have hbi:=hf.aG i hi;have other:∀ {q:Nat} {a:Array Value} {T:TypeId},W.heap[q]?=some (.cells a T (0,0))->T≠197->T≠276->W'.heap[q]?=some (.cells a T (0,0)):=fun {q a T} hq h1 h2=>by
  rw[hs.only.block q (lBq hq) (fun e=>?_) (fun e=>iV hbi.row hq h1 e.symm)]
  ·exact hq
  ·have:q=b i:=by simpa using e
   exact aF hq hbi.cell h2 this
 refine⟨other hf.blk (by decide) (by decide),fun j hj=>other (hf.it j hj) (by decide) (by decide),fun j hj=>?_,hf.o_,hf.ne,fun j k hj hk hjk m hm=>?_,other hf.cY (by decide) (by decide),hf.lo,hf.mI,hf.mJ,hf.cp.trans (hs.below hbi _ (lRq _))⟩
 ·by_cases bC:j=i
  ·subst bC;rw[upd_same,upd_same];exact hb
  ·rw[upd_ne _ _ bC,upd_ne _ _ bC]
   refine(hf.aG j hj).only hs.only (by simp;exact hf.ne j i hj hi bC) (fun e=>iV hbi.row (hf.aG j hj).cell (by decide) e.symm) (fun k hk e=>?_) (fun k hk e=>hf.ap j i hj hi bC k hk e.symm);have:k=b i:=by simpa using e
   subst this;exact iV (hf.aG j hj).row hbi.cell (by decide) hk
 ·by_cases bC:j=i
  ·subst bC
   rw[upd_same]at hm;rw[upd_ne _ _ (Ne.symm hjk)];rcases hs.new m hm with h1 | h1
   ·exact hf.ap j k hj hk hjk m h1
   ·intro e
    have:=((hf.aG k hk).s7 m e).2
    omega
  ·rw[upd_ne _ _ bC]at hm
   by_cases aX:k=i
   ·subst aX
    rw[upd_same];intro e;rcases hs.new m e with h1 | h1
    ·exact hf.ap j k hj hk hjk m hm h1
    ·have:=((hf.aG j hj).s7 m hm).2
     omega
   ·rw[upd_ne _ _ aX];exact hf.ap j k hj hk hjk m hm
theorem aM.Kk {W W':World} {q:Nat} (hs:aM W W' q):Only W W' (some q) none:=⟨hs.os,hs.tape,hs.output,hs.size,fun k hk h1 _=>hs.block k hk (fun e=>h1 (by rw[e]))⟩
theorem bk.purse (hf:bk w W F P I b v L pf n wd h) {f':Nat->Int} (hp:a_ W' 213 P f') (hs:aM W W' P):bk w W' F P I b v L f' n wd h:=by
 refine⟨by rw[hs.block F (lBq hf.blk) (aF hf.blk hf.cY (by decide))];exact hf.blk,fun i hi=>by rw[hs.block _ (lBq (hf.it i hi)) (aF (hf.it i hi) hf.cY (by decide))];exact hf.it i hi,fun i hi=>?_,hf.o_,hf.ne,hf.ap,hp,hf.lo,hf.mI,hf.mJ,hf.cp.trans (hs.below hf.cp.size hf.mI)⟩;exact(hf.aG i hi).only hs.Kk (by simp;exact aF (hf.aG i hi).cell hf.cY (by decide)) (by simp) (fun k hk e=>by
  have:k=P:=by simpa using e
  subst this;exact iV (hf.aG i hi).row hf.cY (by decide) hk) (fun _ _=>by simp)
theorem bk.ql (hf:bk w W F P I b v L pf n wd h) {i:Nat} (hi:i<3) {r l:Int} (hit:W'.heap[I i]?=some (.cells (tH (b i) r l) 267 (0,0))) (hs:aM W W' (I i)):bk w W' F P I b v L pf (upd (upd n (i*2) r) (i*2+1) l) wd h:=by
 refine⟨by rw[hs.block F (lBq hf.blk) (aF hf.blk (hf.it i hi) (by decide))];exact hf.blk,fun j hj=>?_,fun j hj=>?_,hf.o_,hf.ne,hf.ap,hf.cY.save hs (aF hf.cY (hf.it i hi) (by decide)),hf.lo,hf.mI,hf.mJ,hf.cp.trans (hs.below hf.cp.size (hf.mJ i hi))⟩
 ·by_cases e:j=i
  ·subst e
   rw[upd_same,upd_ne _ _ (by omega),upd_same];exact hit
  ·rw[upd_ne _ _ (by omega),upd_ne _ _ (by omega),upd_ne _ _ (by omega),upd_ne _ _ (by omega),hs.block _ (lBq (hf.it j hj)) (hf.o_ j i hj hi e)]
   exact hf.it j hj
 ·exact(hf.aG j hj).only hs.Kk (by simp;exact aF (hf.aG j hj).cell (hf.it i hi) (by decide)) (by simp) (fun k hk e=>by
   have:k=I i:=by simpa using e
   subst this;exact iV (hf.aG j hj).row (hf.it i hi) (by decide) hk) (fun _ _=>by simp)
theorem bk.aside (hf:bk w W F P I b v L pf n wd h) {q:Nat} (h1:q≠F) (h2:q≠P) (h3:∀ i,i<3->q≠I i∧q≠b i∧(v i).ownBlock≠some q) (hlo:w.heap.size<=q) (hs:aM W W' q):bk w W' F P I b v L pf n wd h:=by
 refine⟨by rw[hs.block F (lBq hf.blk) (Ne.symm h1)];exact hf.blk,fun i hi=>by rw[hs.block _ (lBq (hf.it i hi)) (Ne.symm (h3 i hi).1)];exact hf.it i hi,fun i hi=>?_,hf.o_,hf.ne,hf.ap,hf.cY.save hs (Ne.symm h2),hf.lo,hf.mI,hf.mJ,hf.cp.trans (hs.below hf.cp.size hlo)⟩;exact(hf.aG i hi).only hs.Kk (by simp;exact Ne.symm (h3 i hi).2.1) (by simp) (fun k hk e=>by
  have:k=q:=by simpa using e
  subst this;exact(h3 i hi).2.2 hk) (fun _ _=>by simp)
end
def ek (w:World) (g:Nat) (v:Value) (l:List Cv.ag):Prop :=
 (l=[]∧∃ a cap,v=.slice a 0 cap)∨∃ o cap cur,v=.slice (some ⟨g,o,none⟩) l.length cap∧l.length<=cap∧eJ w g o l∧w.heap[g]?=some (.cells cur 197 (0,0))
theorem ek.save {w w':World} {g p:Nat} {v:Value} {l:List Cv.ag} (h:ek w g v l) (hs:aM w w' p) (hne:g≠p):ek w' g v l:=by
 rcases h with h | ⟨o,cap,cur,h1,h2,h3,h4⟩
 ·exact .inl h
 ·refine .inr ⟨o,cap,cur,h1,h2,fun i hi=>?_,by rw[hs.block g (lBq h4) hne];exact h4⟩
  obtain⟨c0,c1,c2,c3,c4⟩:=h3 i hi;exact⟨A8 hs c0 hne,A8 hs c1 hne,A8 hs c2 hne,A8 hs c3 hne,A8 hs c4 hne⟩
theorem ek.A9 {w:World} {base:Nat} {v:Value} {l:List Cv.ag} (h:w.ownsRow base 197 5 v l.length (flat l)):∃ g,ek w g v l∧(l=[]∨(base<=g∧v.ownBlock=some g)):=by
 rcases h.2 with ⟨e,e2⟩ | ⟨g,cap,cur,e,hg,dL,hle,_,_,_⟩
 ·exact⟨0,.inl ⟨List.eq_nil_of_length_eq_zero e2,none,0,e⟩,.inl (List.eq_nil_of_length_eq_zero e2)⟩
 ·refine⟨g,.inr ⟨0,cap,cur,e,hle,zO fun j u hu=>?_,dL⟩,.inr ⟨hg,by rw[e];rfl⟩⟩
  have:=World.ownsRow.cells h (g:=g) (by rw[e];rfl) j u hu
  have hp:(⟨g,0,none⟩:Addr).add j=⟨g,j,none⟩:=by unfold Addr.add;split <;> simp_all
  rwa [hp]at this
theorem SV (x:Cv.ag) (l:List Cv.ag):Cv.nth (x::l) 0=x:=rfl
theorem aex (x:Cv.ag) (l:List Cv.ag) (i:Nat):Cv.nth (x::l) (i+1)=Cv.nth l i:=rfl
theorem ek.head {w:World} {g:Nat} {v:Value} {x:Cv.ag} {l:List Cv.ag} (h:ek w g v (x::l)):∃ o cap cur,v=.slice (some ⟨g,o,none⟩) (l.length+1) cap∧l.length+1<=cap∧eJ w g o (x::l)∧w.heap[g]?=some (.cells cur 197 (0,0)):=by
 rcases h with ⟨h,_⟩ | ⟨o,cap,cur,h1,h2,h3,h4⟩
 ·cases h
 ·exact⟨o,cap,cur,h1,h2,h3,h4⟩
theorem yn {w:World} {g o:Nat} {x:Cv.ag} {l:List Cv.ag} (h:eJ w g o (x::l)):w.cell? ⟨g,o,none⟩=some (.int .i64 x.id)∧w.cell? ⟨g,o+1,none⟩=some (.int .i64 x.ak)∧w.cell? ⟨g,o+2,none⟩=some (.int .i64 x.sd)∧w.cell? ⟨g,o+3,none⟩=some (.int .i64 x.pr)∧w.cell? ⟨g,o+4,none⟩=some (.int .i64 x.q):=by
 have:=h 0 (by simp)
 simpa [SV] using this
theorem aey {w:World} {g o:Nat} {x:Cv.ag} {l:List Cv.ag} {cur:Array Value} (h:eJ w g o (x::l)) (hg:w.heap[g]?=some (.cells cur 197 (0,0))) (q:Int) :
  eJ (w.setCell ⟨g,o+4,none⟩ (.int .i64 (x.q-q))) g o (Bk.less x q::l)∧eJ (w.setCell ⟨g,o+4,none⟩ (.int .i64 (x.q-q))) g (o+5) l∧∃ cur',(w.setCell ⟨g,o+4,none⟩ (.int .i64 (x.q-q))).heap[g]?=some (.cells cur' 197 (0,0)):=by
 have he:∀ j,j≠o+4->(w.setCell ⟨g,o+4,none⟩ (.int .i64 (x.q-q))).cell? ⟨g,j,none⟩=w.cell? ⟨g,j,none⟩:=fun j hj=>by
  rw[setCell_eq_setRow w g (o+4) _ _ _ _ hg,cR _ g j _ _ _ (setRow_heap w g _ _ _ _ hg),cR w g j _ _ _ hg,Array.getElem?_setIfInBounds_ne (by omega)]
 have hs:(w.setCell ⟨g,o+4,none⟩ (.int .i64 (x.q-q))).cell? ⟨g,o+4,none⟩=some (.int .i64 (x.q-q)):=by
  have hc:=(yn h).2.2.2.2;rw[cR w g (o+4) _ _ _ hg]at hc;have hlt:o+4<cur.size:=by
   rcases Nat.lt_or_ge (o+4) cur.size with h' | h'
   ·exact h'
   ·rw[Array.getElem?_eq_none h']at hc;cases hc
  rw[setCell_eq_setRow w g (o+4) _ _ _ _ hg,cR _ g (o+4) _ _ _ (setRow_heap w g _ _ _ _ hg),Array.getElem?_setIfInBounds_self_of_lt hlt]
 have htail:∀ i,i<l.length->w.cell? ⟨g,o+(i+1)*5,none⟩=some (.int .i64 (Cv.nth l i).id)∧w.cell? ⟨g,o+(i+1)*5+1,none⟩=some (.int .i64 (Cv.nth l i).ak)∧w.cell? ⟨g,o+(i+1)*5+2,none⟩=some (.int .i64 (Cv.nth l i).sd)∧w.cell? ⟨g,o+(i+1)*5+3,none⟩=some (.int .i64 (Cv.nth l i).pr)∧w.cell? ⟨g,o+(i+1)*5+4,none⟩=some (.int .i64 (Cv.nth l i).q):=fun i hi=>h (i+1) (by simp;omega);refine⟨fun i hi=>?_,fun i hi=>?_,?_⟩
 ·cases i with
  | zero =>
   obtain⟨c0,c1,c2,c3,c4⟩:=yn h;rw[SV];refine⟨?_,?_,?_,?_,?_⟩
   ·rw[show o+0*5=o by omega,he _ (by omega)];exact c0
   ·rw[show o+0*5+1=o+1 by omega,he _ (by omega)];exact c1
   ·rw[show o+0*5+2=o+2 by omega,he _ (by omega)];exact c2
   ·rw[show o+0*5+3=o+3 by omega,he _ (by omega)];exact c3
   ·rw[show o+0*5+4=o+4 by omega];exact hs
  | succ i =>
   obtain⟨c0,c1,c2,c3,c4⟩:=htail i (by simp at hi;omega);rw[aex,he _ (by omega),he _ (by omega),he _ (by omega),he _ (by omega),he _ (by omega)];exact⟨c0,c1,c2,c3,c4⟩
 ·obtain⟨c0,c1,c2,c3,c4⟩:=htail i hi
  rw[show o+5+i*5=o+(i+1)*5 by omega,he _ (by omega),he _ (by omega),he _ (by omega),he _ (by omega),he _ (by omega)];exact⟨c0,c1,c2,c3,c4⟩
 ·exact⟨_,by rw[setCell_eq_setRow w g (o+4) _ _ _ _ hg];exact setRow_heap w g _ _ _ _ hg⟩
theorem FD (g:Nat) (v:Value) (x:Cv.ag) (l:List Cv.ag) (q:Int) (w:World) (hv:Hid (ek w g v (x::l))) (h1:1<=x.q) (h2:x.q<=1000) (h3:1<=q) (h4:q<=1000) (hn:l.length<=1000) :
  Calls Tryz.prog 291 #[v,.int .i64 q] w fun e w'=>∃ v',e=.returned v'∧ek w' g v' (Fs.fV (x::l) q)∧aM w w' g:=by
 obtain⟨o,cap,cur,rfl,hcap,hl,hg⟩:=hv.out.head;have hc:=(yn hl).2.2.2.2;obtain⟨rZ,hL2,cur',hg'⟩:=aey hl hg q;have hfr:w.frozen? ⟨g,o+4,none⟩=false:=by simp[World.frozen?,hg]
 have hc':(w.setCell ⟨g,o+4,none⟩ (.int .i64 (x.q-q))).cell? ⟨g,o+4,none⟩=some (.int .i64 (x.q-q)):=by
  have:=(yn rZ).2.2.2.2
  exact this
 have cG:Hid (aM w (w.setCell ⟨g,o+4,none⟩ (.int .i64 (x.q-q))) g):=aM.setCell _ _ _ _;have jb:=hDq rZ;have iW:=hDq hL2;have HG:=hDq hg';clear hl hg rZ hL2 hg' hv;generalize hW:w.setCell ⟨g,o+4,none⟩ (.int .i64 (x.q-q))=W at *;have HW:=hDq hW;clear hW;have hpos:(0:Int)<((l.length+1:Nat):Int):=by omega
 generalize hm:l.length=m at *;have A_:=hDq hm;clear hm;by_cases he:x.q-q=0
 ·have FE:Hid (Fs.fV (x::l) q=l):=by show _=_;rw[Fs.vL,if_pos he]
  rw[he]at HW;by_cases Jv:cap=1
  ·subst Jv
   have Ba:m=0:=by omega
   subst Ba;go_enter Tryz.func291,Tryz.ntmps291;go_wp2;go_ret;rw[HW.out];refine⟨_,rfl,?_,cG.out⟩;rw[FE.out];exact .inl ⟨List.eq_nil_of_length_eq_zero A_.out,_,_,rfl⟩
  ·have aoa:(1:Int)<=((m+1:Nat):Int):=by omega
   go_enter Tryz.func291,Tryz.ntmps291;go_wp2;go_ret;rw[HW.out];refine⟨_,rfl,?_,cG.out⟩;rw[FE.out];refine .inr ⟨o+5,cap-1,cur',?_,by rw[A_.out];omega,iW.out,HG.out⟩;rw[A_.out];rfl
 ·have FE:Hid (Fs.fV (x::l) q=Bk.less x q::l):=by show _=_;rw[Fs.vL,if_neg he]
  go_enter Tryz.func291,Tryz.ntmps291;go_wp2;go_ret;rw[HW.out];refine⟨_,rfl,?_,cG.out⟩;rw[FE.out];exact .inr ⟨o,cap,cur',by simp[A_.out],by simp[A_.out];omega,jb.out,HG.out⟩
def wh:Value->Nat
 | .slice _ n _=>n
 | _=>0
theorem ek.len {w:World} {g:Nat} {v:Value} {l:List Cv.ag} (h:ek w g v l):wh v=l.length:=by
 rcases h with ⟨rfl,a,cap,rfl⟩ | ⟨o,cap,cur,rfl,_⟩ <;> rfl
theorem ek.val {w:World} {g:Nat} {v:Value} {l:List Cv.ag} (h:ek w g v l):∃ a cap,v=.slice a l.length cap:=by
 rcases h with ⟨rfl,a,cap,rfl⟩ | ⟨o,cap,cur,rfl,_⟩
 ·exact⟨a,cap,rfl⟩
 ·exact⟨_,_,rfl⟩
theorem yu {x:Cv.ag} {l:List Cv.ag} {q:Int}:(Fs.fV (x::l) q).length=if x.q-q=0 then l.length else l.length+1:=by
 rw[Fs.vL];split <;> simp
structure LK (w:World) (B p fA gs i:Nat) (price:Int) (G f0:Nat->Int) (vb vs:Value) (wr:World):Prop where
 ex:∃ f bs ss,ek wr fA vb bs∧ek wr gs vs ss∧a_ wr 213 p f∧Fs.nN i price G f bs ss∧bs.length<=200∧ss.length<=200∧Pu.d8 f 6=Pu.d8 f0 6∧∀ k,k<3->Pu.d9 f k 6=Pu.d9 f0 k 6
 cp:Below B w wr
theorem ek.blk {w:World} {g:Nat} {v:Value} {x:Cv.ag} {l:List Cv.ag} (h:ek w g v (x::l)) {p:Nat} {f:Nat->Int} (hp:a_ w 213 p f):g≠p:=by
 obtain⟨o,cap,cur,_,_,_,hg⟩:=h.head;exact aF hg hp (by decide)
theorem aeU (p i B fA gs:Nat) (price:Int) (vb vs:Value) (bs ss:List Cv.ag) (f G:Nat->Int) (ev:Nat->Value) (w:World) (hi:i<3) (hp1:1<=price) (hp2:price<=1000) (he:Hid (∀ W,Below B w W->ee W ev))
  (hB:Hid (B<=w.heap.size∧B<=p∧B<=fA∧B<=gs)) (hne:Hid (fA≠gs)) (tY:Hid (ek w fA vb bs)) (hos:Hid (ek w gs vs ss)) (wb:Hid (a_ w 213 p f)) (j_:Hid (Fs.nN i price G f bs ss)) (hlb:Hid (bs.length<=200)) (yw:Hid (ss.length<=200)) :
  Calls Tryz.prog 262 #[.pointer (some ⟨p,0,none⟩),.int .i64 i,.int .i64 price,vb,vs] w fun e w'=>e=.returned .nilIface∧(a_ w' 213 p G∧Pu.Good G∧Pu.d8 G 6=Pu.d8 f 6∧∀ k,k<3->Pu.d9 G k 6=Pu.d9 f k 6)∧Below B w w':=by
 have HR:Hid (LK w B p fA gs i price G f vb vs w):=⟨⟨f,bs,ss,tY.out,hos.out,wb.out,j_.out,hlb.out,yw.out,rfl,fun _ _=>rfl⟩,bRq _ _⟩;clear tY hos wb j_ hlb yw;go_enter Tryz.func262,Tryz.ntmps262;go_wp2
 go_loopw [3,4] (fun u x wr=>LK w B p fA gs i price G f u x wr) (fun u x _=>wh u+wh x)
 case atStart=>exact HR.out
 case round =>
  rename_i ub us wr;obtain⟨⟨f1,b1,s1,hb1,hs1,TB,LM,TC,TD,TE,TF⟩,hbl⟩:=hrel;have HB1:=hDq hb1;have eZ:=hDq hs1;have mU:=hDq TB;have HT1:=hDq LM;have TG:=hDq TC;have j3:=hDq TD;have FV:=hDq TE;have HST:=hDq TF;have fG:=hDq hbl;clear hb1 hs1 TB LM TC TD TE TF hbl HR;have done:(b1=[]∨s1=[])->f1=G:=fun h=>funext (HT1.out.done h);have HD:=hDq done;clear done;cases b1 with
  | nil =>
   obtain⟨ab,cb,rfl⟩:=HB1.out.val;obtain⟨ae1,cs,rfl⟩:=eZ.out.val;have e:=HD.out (.inl rfl);subst e;rw[show ([]:List Cv.ag).length=0 from rfl];go_wp2;go_ret;exact⟨rfl,⟨mU.out,HT1.out.good,FV.out,HST.out⟩,fG.out⟩
  | cons x bt =>
   cases s1 with
   | nil =>
    obtain⟨ob,cb,TH,rfl,hcb,LO,hgb⟩:=HB1.out.head;obtain⟨ae1,cs,rfl⟩:=eZ.out.val;have e:=HD.out (.inr rfl);subst e;rw[show ([]:List Cv.ag).length=0 from rfl];have hpos:(0:Int)<((bt.length+1:Nat):Int):=by omega
    generalize bt.length=m at *;go_wp2;go_ret;exact⟨rfl,⟨mU.out,HT1.out.good,FV.out,HST.out⟩,fG.out⟩
   | cons y st =>
    obtain⟨ob,cb,TH,rfl,hcb,LO,hgb⟩:=HB1.out.head;obtain⟨os,cs,ae2,rfl,hcs,TI,FP⟩:=eZ.out.head;obtain⟨FW,FX,FY,FZ,F0⟩:=yn LO;obtain⟨F2,F3,F4,F5,F6⟩:=yn TI;have ae3:(0:Int)<((bt.length+1:Nat):Int):=by omega
    have ae4:(0:Int)<((st.length+1:Nat):Int):=by omega
    have s8:=Cv.fU (Pu.kj (HT1.out.bU x (mSq ..)).1);have TJ:=Cv.fU (Pu.kj (HT1.out.ws y (mSq ..)).1);obtain⟨TK,TL⟩:=s8.2.2.2.2;obtain⟨TM,TN⟩:=TJ.2.2.2.2;clear s8 TJ LO TI hgb FP HD;obtain⟨od,LP⟩:∃ od,bt.length=od:=⟨_,rfl⟩;obtain⟨ms,zU⟩:∃ ms,st.length=ms:=⟨_,rfl⟩;rw[LP]at ae3 hcb HB1 ⊢;rw[zU]at ae4 hcs eZ ⊢;have TP:=hDq LP;have TQ:=hDq zU;clear LP zU;rcases Int.lt_or_le y.q x.q with hlt | hle
    ·have HQ:Hid (y.q=min x.q y.q):=by show _=_;omega
     go_wp2_with fail
     refine j5 8 (by kernel_rfl) (by kernel_rfl) ?_;simp only[List.take_succ_cons,List.take_zero,List.drop_succ_cons,List.drop_zero]
     repeat (first | go_big_quiet_step (fail) | quiet_step (fail))
     refine wpQuiet_nil ?_;intro _ hw';obtain⟨nq,hw''⟩:=hw';subst hw'';have wj:=hDq (fG.out.trans ((dQ nq:Below wr.heap.size wr (wr.drewN nq)).mono (lTq hB.out.1 fG.out.size)));have HB2:Hid (ek (wr.drewN nq) fA (.slice (some ⟨fA,ob,none⟩) (od+1) cb) (x::bt)):=HB1.out;have HS2:Hid (ek (wr.drewN nq) gs (.slice (some ⟨gs,os,none⟩) (ms+1) cs) (y::st)):=eZ.out;have fY:Hid (a_ (wr.drewN nq) 213 p f1):=mU.out;have LQ:(wr.drewN nq).cell? ⟨fA,ob,none⟩=some (.int .i64 x.id):=FW;have LR:(wr.drewN nq).cell? ⟨fA,ob+1,none⟩=some (.int .i64 x.ak):=FX;have LU:(wr.drewN nq).cell? ⟨fA,ob+2,none⟩=some (.int .i64 x.sd):=FY;have LV:(wr.drewN nq).cell? ⟨fA,ob+3,none⟩=some (.int .i64 x.pr):=FZ;have LW:(wr.drewN nq).cell? ⟨fA,ob+4,none⟩=some (.int .i64 x.q):=F0;have LX:(wr.drewN nq).cell? ⟨gs,os,none⟩=some (.int .i64 y.id):=F2;have LY:(wr.drewN nq).cell? ⟨gs,os+1,none⟩=some (.int .i64 y.ak):=F3;have LZ:(wr.drewN nq).cell? ⟨gs,os+2,none⟩=some (.int .i64 y.sd):=F4;have L5:(wr.drewN nq).cell? ⟨gs,os+3,none⟩=some (.int .i64 y.pr):=F5;have L6:(wr.drewN nq).cell? ⟨gs,os+4,none⟩=some (.int .i64 y.q):=F6;clear fG HB1 eZ mU FW FX FY FZ F0 F2 F3 F4 F5 F6;generalize wr.drewN nq=w1 at *
     go_wp2_with fail
     refine j5 10 (by kernel_rfl) (by kernel_rfl) ?_;simp only[List.take_succ_cons,List.take_zero,List.drop_succ_cons,List.drop_zero]
     repeat (first | go_big_quiet_step (fail) | quiet_step (fail))
     refine wpQuiet_nil ?_;intro _ hw';obtain⟨nq,hw''⟩:=hw';subst hw'';have fG:=hDq (wj.out.trans ((dQ nq:Below w1.heap.size w1 (w1.drewN nq)).mono (lTq hB.out.1 wj.out.size)));have ar:Hid (ek (w1.drewN nq) fA (.slice (some ⟨fA,ob,none⟩) (od+1) cb) (x::bt)):=HB2.out;have cQ:Hid (ek (w1.drewN nq) gs (.slice (some ⟨gs,os,none⟩) (ms+1) cs) (y::st)):=HS2.out;have gA:Hid (a_ (w1.drewN nq) 213 p f1):=fY.out;clear wj HB2 HS2 fY LQ LR LU LV LW LX LY LZ L5 L6;generalize w1.drewN nq=w2 at *;obtain⟨hC,Bl⟩:=HT1.out.step hi ⟨hp1,hp2⟩ HQ.out;have hTR:=TR p i x y price y.q f1 ev w2 (he.out _ fG.out).R8 gA.out HT1.out.good;rw[hC]at hTR;rw[show cV ev 0=.nilIface from rfl]at hTR;have hsum:=Pu.D7 f1 i x y price y.q;have L8:=hDq Bl;have iK:=hDq hTR;have Bn:=hDq hsum;have Bo:=ar.out.blk gA.out;have Bp:=cQ.out.blk gA.out;have Bq:=hDq Bo;have Br:=hDq Bp;clear hC Bl hTR hsum Bo Bp;unfold bS at iK
     go_wp2_with fail
     refine iK.out.mono ?_;rintro e w3 ⟨rfl,pE,hs3⟩;have wm:=hDq (fG.out.trans (hs3.below (lTq hB.out.1 fG.out.size) hB.out.2.1));have mK:=hDq pE;have bQ:=hDq (ar.out.save hs3 Bq.out);have cr:=hDq (cQ.out.save hs3 Br.out);clear pE hs3 iK fG ar cQ gA;generalize Pu.iY f1 i x y price y.q=f2 at *;simp only[];have hlb:=TG.out;have yw:=j3.out;simp only[List.length_cons]at hlb yw;have mR:=hDq (FD fA _ x bt y.q w3 bQ.out TK TL (by omega) (by omega) (by omega))
     go_wp2_with fail
     refine mR.out.mono ?_;rintro e w4 ⟨L9,rfl,hb4,bX⟩;have wo:=hDq (wm.out.trans (bX.below (lTq hB.out.1 wm.out.size) hB.out.2.2.1));have mL:=hDq (mK.out.save bX (Ne.symm Bq.out));have dR:=hDq (cr.out.save bX (Ne.symm hne.out));have cA:=hDq hb4;clear hb4 bX mR wm mK bQ cr;simp only[];have Bt:=hDq (FD gs _ y st y.q w4 dR.out TM TN (by omega) (by omega) (by omega))
     go_wp2_with fail
     refine Bt.out.mono ?_;rintro e aC ⟨L_,rfl,b_,hs5⟩;have Ma:=hDq (wo.out.trans (hs5.below (lTq hB.out.1 wo.out.size) hB.out.2.2.2));have qx:=hDq (mL.out.save hs5 (Ne.symm Br.out));have aS:=hDq (cA.out.save hs5 hne.out);have dv:=hDq b_;clear b_ hs5 Bt wo mL cA dR;simp only[];have hl1:=aS.out.len;have hl2:=dv.out.len;rw[yu]at hl1 hl2
     go_wp2_with fail
     refine⟨⟨⟨f2,_,_,aS.out,dv.out,qx.out,L8.out,?_,?_,?_,?_⟩,Ma.out⟩,?_⟩
     ·rw[yu];split <;> omega
     ·rw[yu];split <;> omega
     ·rw[Bn.out.1];exact FV.out
     ·intro k hk;rw[Bn.out.2 k hk];exact HST.out k hk
     ·have hqq:=HQ.out
      show wh L9+wh L_<(od+1)+(ms+1);rw[hl1,hl2,TP.out,TQ.out];split <;> split <;> omega
    ·have HQ:Hid (x.q=min x.q y.q):=by show _=_;omega
     go_wp2_with fail
     refine j5 8 (by kernel_rfl) (by kernel_rfl) ?_;simp only[List.take_succ_cons,List.take_zero,List.drop_succ_cons,List.drop_zero]
     repeat (first | go_big_quiet_step (fail) | quiet_step (fail))
     refine wpQuiet_nil ?_;intro _ hw';obtain⟨nq,hw''⟩:=hw';subst hw'';have wj:=hDq (fG.out.trans ((dQ nq:Below wr.heap.size wr (wr.drewN nq)).mono (lTq hB.out.1 fG.out.size)));have HB2:Hid (ek (wr.drewN nq) fA (.slice (some ⟨fA,ob,none⟩) (od+1) cb) (x::bt)):=HB1.out;have HS2:Hid (ek (wr.drewN nq) gs (.slice (some ⟨gs,os,none⟩) (ms+1) cs) (y::st)):=eZ.out;have fY:Hid (a_ (wr.drewN nq) 213 p f1):=mU.out;have LQ:(wr.drewN nq).cell? ⟨fA,ob,none⟩=some (.int .i64 x.id):=FW;have LR:(wr.drewN nq).cell? ⟨fA,ob+1,none⟩=some (.int .i64 x.ak):=FX;have LU:(wr.drewN nq).cell? ⟨fA,ob+2,none⟩=some (.int .i64 x.sd):=FY;have LV:(wr.drewN nq).cell? ⟨fA,ob+3,none⟩=some (.int .i64 x.pr):=FZ;have LW:(wr.drewN nq).cell? ⟨fA,ob+4,none⟩=some (.int .i64 x.q):=F0;have LX:(wr.drewN nq).cell? ⟨gs,os,none⟩=some (.int .i64 y.id):=F2;have LY:(wr.drewN nq).cell? ⟨gs,os+1,none⟩=some (.int .i64 y.ak):=F3;have LZ:(wr.drewN nq).cell? ⟨gs,os+2,none⟩=some (.int .i64 y.sd):=F4;have L5:(wr.drewN nq).cell? ⟨gs,os+3,none⟩=some (.int .i64 y.pr):=F5;have L6:(wr.drewN nq).cell? ⟨gs,os+4,none⟩=some (.int .i64 y.q):=F6;clear fG HB1 eZ mU FW FX FY FZ F0 F2 F3 F4 F5 F6;generalize wr.drewN nq=w1 at *
     go_wp2_with fail
     refine j5 10 (by kernel_rfl) (by kernel_rfl) ?_;simp only[List.take_succ_cons,List.take_zero,List.drop_succ_cons,List.drop_zero]
     repeat (first | go_big_quiet_step (fail) | quiet_step (fail))
     refine wpQuiet_nil ?_;intro _ hw';obtain⟨nq,hw''⟩:=hw';subst hw'';have fG:=hDq (wj.out.trans ((dQ nq:Below w1.heap.size w1 (w1.drewN nq)).mono (lTq hB.out.1 wj.out.size)));have ar:Hid (ek (w1.drewN nq) fA (.slice (some ⟨fA,ob,none⟩) (od+1) cb) (x::bt)):=HB2.out;have cQ:Hid (ek (w1.drewN nq) gs (.slice (some ⟨gs,os,none⟩) (ms+1) cs) (y::st)):=HS2.out;have gA:Hid (a_ (w1.drewN nq) 213 p f1):=fY.out;clear wj HB2 HS2 fY LQ LR LU LV LW LX LY LZ L5 L6;generalize w1.drewN nq=w2 at *;obtain⟨hC,Bl⟩:=HT1.out.step hi ⟨hp1,hp2⟩ HQ.out;have hTR:=TR p i x y price x.q f1 ev w2 (he.out _ fG.out).R8 gA.out HT1.out.good;rw[hC]at hTR;rw[show cV ev 0=.nilIface from rfl]at hTR;have hsum:=Pu.D7 f1 i x y price x.q;have L8:=hDq Bl;have iK:=hDq hTR;have Bn:=hDq hsum;have Bo:=ar.out.blk gA.out;have Bp:=cQ.out.blk gA.out;have Bq:=hDq Bo;have Br:=hDq Bp;clear hC Bl hTR hsum Bo Bp;unfold bS at iK
     go_wp2_with fail
     refine iK.out.mono ?_;rintro e w3 ⟨rfl,pE,hs3⟩;have wm:=hDq (fG.out.trans (hs3.below (lTq hB.out.1 fG.out.size) hB.out.2.1));have mK:=hDq pE;have bQ:=hDq (ar.out.save hs3 Bq.out);have cr:=hDq (cQ.out.save hs3 Br.out);clear pE hs3 iK fG ar cQ gA;generalize Pu.iY f1 i x y price x.q=f2 at *;simp only[];have hlb:=TG.out;have yw:=j3.out;simp only[List.length_cons]at hlb yw;have mR:=hDq (FD fA _ x bt x.q w3 bQ.out TK TL (by omega) (by omega) (by omega))
     go_wp2_with fail
     refine mR.out.mono ?_;rintro e w4 ⟨L9,rfl,hb4,bX⟩;have wo:=hDq (wm.out.trans (bX.below (lTq hB.out.1 wm.out.size) hB.out.2.2.1));have mL:=hDq (mK.out.save bX (Ne.symm Bq.out));have dR:=hDq (cr.out.save bX (Ne.symm hne.out));have cA:=hDq hb4;clear hb4 bX mR wm mK bQ cr;simp only[];have Bt:=hDq (FD gs _ y st x.q w4 dR.out TM TN (by omega) (by omega) (by omega))
     go_wp2_with fail
     refine Bt.out.mono ?_;rintro e aC ⟨L_,rfl,b_,hs5⟩;have Ma:=hDq (wo.out.trans (hs5.below (lTq hB.out.1 wo.out.size) hB.out.2.2.2));have qx:=hDq (mL.out.save hs5 (Ne.symm Br.out));have aS:=hDq (cA.out.save hs5 hne.out);have dv:=hDq b_;clear b_ hs5 Bt wo mL cA dR;simp only[];have hl1:=aS.out.len;have hl2:=dv.out.len;rw[yu]at hl1 hl2
     go_wp2_with fail
     refine⟨⟨⟨f2,_,_,aS.out,dv.out,qx.out,L8.out,?_,?_,?_,?_⟩,Ma.out⟩,?_⟩
     ·rw[yu];split <;> omega
     ·rw[yu];split <;> omega
     ·rw[Bn.out.1];exact FV.out
     ·intro k hk;rw[Bn.out.2 k hk];exact HST.out k hk
     ·have hqq:=HQ.out
      show wh L9+wh L_<(od+1)+(ms+1);rw[hl1,hl2,TP.out,TQ.out];split <;> split <;> omega
namespace Fl
def mH (a:Ask) (k:Int):Nat:=(fP a k-1).toNat
theorem JW {a:Ask} {k:Int} (h:fP a k=0):mH a k=0:=by unfold mH;rw[h];rfl
end Fl
section
variable {ev:Nat->Value}
theorem aeW (a:Ask) (w:World) (he:ee w ev) (hz:11<w.heap.size):Calls Tryz.prog 151 #[bM a] w fun e w'=>e=.returned (cV ev (ah.code a.k a.c a.sq a.it a.sd a.pr a.q a.id-1))∧Below w.heap.size w w':=by
 obtain⟨aU,ac,aZ,bB,asd,aK,aq,aH⟩:=a;show Calls Tryz.prog 151 #[.agg #[.int .u8 aU,.int .i64 ac,.int .i64 aZ,.int .i64 bB,.int .i64 asd,.int .i64 aK,.int .i64 aq,.int .i64 aH]] w fun e w'=>e=.returned (cV ev (ah.code aU ac aZ bB asd aK aq aH-1))∧_;unfold ah.code;cases hk:ah.kX aU with
 | false=>exact Jg aU ac aZ bB asd aK aq aH _ w (by omega) he.c3 hk
 | true =>
  cases hb:ah.ju aU ac aZ bB asd aK aq aH with
  | false=>exact Jh aU ac aZ bB asd aK aq aH _ w (by omega) he.c1 hk hb
  | true =>
   cases hs:ah.lJ aU bB asd aK aq aH with
   | false=>exact Ji aU ac aZ bB asd aK aq aH _ w (by omega) he.c2 hk hb hs
   | true=>exact DI aU ac aZ bB asd aK aq aH w hk hb hs
theorem ee.size {w:World} (h:ee w ev):11<w.heap.size:=bCq w _ h.c11
theorem Ao (a:Ask) (k:Int) (w:World) (he:Hid (ee w ev)) (hk:0<=k∧k<256):Calls Tryz.prog 246 #[bM a,.int .u8 k] w fun e w'=>e=.returned (cV ev (Fl.mH a k))∧Below w.heap.size w w':=by
 have HA:=hDq (fun W (hb:Below w.heap.size w W)=>aeW a W (he.out.below hb) (he.out.below hb).size);have HK:Hid (Fl.mH a k=((if ah.code a.k a.c a.sq a.it a.sd a.pr a.q a.id=0∧a.k≠k then (4:Int) else ((ah.code a.k a.c a.sq a.it a.sd a.pr a.q a.id:Nat):Int))-1).toNat):=rfl;generalize Fl.mH a k=aeX at *;obtain⟨aU,ac,aZ,bB,asd,aK,aq,aH⟩:=a;unfold bM aT at HA ⊢;simp only[]at HA HK ⊢;have h1:ah.code aU ac aZ bB asd aK aq aH≠1:=by
  unfold ah.code;split <;> (try split) <;> (try split) <;> decide
 generalize ah.code aU ac aZ bB asd aK aq aH=cd at *;have hb0:Below w.heap.size w (w.alloc (.cells #[.int .u8 aU,.int .i64 ac,.int .i64 aZ,.int .i64 bB,.int .i64 asd,.int .i64 aK,.int .i64 aq,.int .i64 aH] 95)):=(bRq _ _).alloc (lRq _) _;have Bd:(w.alloc (.cells #[.int .u8 aU,.int .i64 ac,.int .i64 aZ,.int .i64 bB,.int .i64 asd,.int .i64 aK,.int .i64 aq,.int .i64 aH] 95)).heap[w.heap.size]?=some (.cells #[.int .u8 aU,.int .i64 ac,.int .i64 aZ,.int .i64 bB,.int .i64 asd,.int .i64 aK,.int .i64 aq,.int .i64 aH] 95 (0,0)):=hNq _ _;have bF:=hDq hb0;have gu:=hDq Bd;clear hb0 Bd;go_enter Tryz.func246,Tryz.ntmps246
 go_wp2_with fail
 refine(HA.out _ bF.out).mono ?_;rintro e w2 ⟨rfl,hb2⟩;have HB2:=hDq (bF.out.trans (hb2.mono bF.out.size));have c0:w2.cell? ⟨w.heap.size,0,none⟩=some (.int .u8 aU):=by rw[cR w2 _ 0 _ _ _ (by rw[hb2.block _ (lBq gu.out)];exact gu.out)];rfl
 have c3:=(he.out.below HB2.out).c3;clear hb2 HA bF gu;simp only[];by_cases hc:cd=0
 ·subst hc
  rw[show cV ev (0-1)=.nilIface from rfl];by_cases hk2:aU=k
  ·subst hk2
   have:(aU != aU)=false:=by simp
   go_wp2;go_ret;exact⟨by rw[HK.out];simp[cV],HB2.out⟩
  ·have hk':(aU != k)=true:=by simpa using hk2
   have hz:=(he.out.below HB2.out).size;go_wp2
   try go_quiet (fail)
   go_ret;exact⟨by rw[HK.out];simp[cV,hk2],HB2.out⟩
 ·obtain⟨d,rfl⟩:∃ d,cd=d+1+1:=⟨cd-2,by omega⟩
  have hne:¬ (d+1+1=0∧aU≠k):=fun h=>by omega
  have aeY:aeX=d+1:=by rw[HK.out,if_neg hne];omega
  subst aeY;rw[show cV ev (d+1+1-1)=.iface 412 (ev (d+1)) from rfl];clear HK hne hc h1;go_wp2;go_ret;exact⟨rfl,HB2.out⟩
section
variable {w W:World} {F P:Nat} {I b:Nat->Nat} {v:Nat->Value} {L:Nat->List Cv.ag} {pf n:Nat->Int} {wd h:Int}
theorem Fz (i:Nat) (hi:i<3) (hF:Hid (bk w W F P I b v L pf n wd h)):Calls Tryz.prog 170 #[.pointer (some ⟨F,0,none⟩),.int .i64 i] W fun e w'=>e=.returned (.pointer (some ⟨I i,0,none⟩))∧w'=W:=by
 have HW:=hDq (fun W=>gi (i:Int) 0 2 W);rw[show ah.aB (i:Int) 0 2=true by simp[ah.aB];omega]at HW;have ci:=hF.out.vR hi;have h0:(0:Int)<=(i:Int):=by omega
 have h3:(i:Int)<3:=by omega
 go_enter Tryz.func170,Tryz.ntmps170
 go_wp2_with fail
 refine(HW.out _).mono ?_;rintro e w2 ⟨rfl,rfl⟩;simp only[];go_wp2;go_ret;exact⟨rfl,rfl⟩
theorem LJ (i:Nat) (hi:i<3) (hF:Hid (bk w W F P I b v L pf n wd h)):Calls Tryz.prog 108 #[.pointer (some ⟨F,0,none⟩),.int .i64 i] W fun e w'=>e=.returned (.pointer (some ⟨b i,0,none⟩))∧w'=W:=by
 have HW:=hDq (Fz i hi hF);have ci:=hF.out.vS hi;go_enter Tryz.func108,Tryz.ntmps108
 go_wp2_with fail
 refine(HW.out).mono ?_;rintro e w2 ⟨rfl,rfl⟩;simp only[];go_wp2;go_ret;exact⟨rfl,rfl⟩
theorem Tz (hF:Hid (bk w W F P I b v L pf n wd h)):Calls Tryz.prog 69 #[.pointer (some ⟨F,0,none⟩)] W fun e w'=>e=.returned (.pointer (some ⟨P,0,none⟩))∧w'=W:=by
 have ci:=hF.out.cellP;go_enter Tryz.func69,Tryz.ntmps69;go_wp2;go_ret;exact⟨rfl,rfl⟩
theorem aeZ:(Tryz.prog.info? 192).map (·.size)=some 2:=by kernel_rfl
theorem ae0 {w:World} {B:Nat} {r l:Int} (h:w.heap[B]?=some (.cells #[.int .i64 r,.int .i64 l] 192 (0,0))):(loadVar 192 ⟨B,0,none⟩).run Tryz.prog w=.ok (.agg #[.int .i64 r,.int .i64 l]) w :=
 run_loadVar_row w B 192 192 _ (0,0) _ h Tryz.underlying192 rfl aeZ
theorem TA (i:Nat) (hi:i<3) (hF:Hid (bk w W F P I b v L pf n wd h)):Calls Tryz.prog 106 #[.pointer (some ⟨F,0,none⟩),.int .i64 i] W fun e w'=>e=.returned (dJ (n (i*2)) (n (i*2+1)))∧Below W.heap.size W w':=by
 have hb0:Below W.heap.size W (W.alloc (.cells #[.int .i64 0,.int .i64 0] 192)):=(bRq _ _).alloc (lRq _) _;have HW:=hDq (Fz (W:=W.alloc (.cells #[.int .i64 0,.int .i64 0] 192)) i hi (hF.out.later hb0));have c1:=(hF.out.later hb0).Kj hi;have c2:=(hF.out.later hb0).cellL hi;have bF:=hDq hb0;clear hb0;unfold dJ;go_enter Tryz.func106,Tryz.ntmps106
 go_wp2_with fail
 refine(HW.out).mono ?_;rintro e w2 ⟨rfl,rfl⟩;simp only[];go_wp2;refine bodyPost_ret (v:=.agg #[.int .i64 (n (i*2)),.int .i64 (n (i*2+1))]) ?_ rfl ⟨rfl,(bRq _ _).alloc (lRq _) _⟩;rw[z6 rfl];simp[asAddr,Result.andThen,ae0 (heap_alloc_new W _)]
end
end
theorem aez {l:List Cv.ag} {x:Cv.ag} (hn:Cv.has l x.id=false):Bk.dx (l++[x]) x.id=0∧Bk.eu (l++[x]) x.id=l:=by
 have hh:Cv.has (l++[x]) x.id=true:=by unfold Cv.has;simp
 have hc:Bk.dx (l++[x]) x.id=0:=by unfold Bk.dx;rw[if_pos hh]
 have hp:Bk.pos (l++[x]) x.id=l.length:=by
  unfold Bk.pos;have h0:l.findIdx (fun y=>y.id==x.id)=l.length:=Bk.Qj.1 hn;rw[List.findIdx_append,h0,if_neg (by omega)];simp
 refine⟨hc,?_⟩;unfold Bk.eu;rw[if_pos hc,hp];unfold Bk.del;simp
section
variable {w W:World} {F P:Nat} {I b:Nat->Nat} {v:Nat->Value} {L:Nat->List Cv.ag} {pf n:Nat->Int} {wd h:Int} {ev:Nat->Value}
theorem aeA (a:Ask) (hF:Hid (bk w W F P I b v L pf n wd h)) (he:Hid (ee w ev)) (hk:Hid (Fl.fP a 111≠0)) :
  Calls Tryz.prog 215 #[.pointer (some ⟨F,0,none⟩),bM a] W fun e W'=>e=.returned (cV ev (Fl.eQ L pf a))∧∃ v',bk w W' F P I b v' (Fl.kF L pf a) (Fl.jF L pf a) n wd h∧bJ W W' P I b v v':=by
 have hpos:=Fl.JM hk.out;have hC:Fl.eQ L pf a=Fl.mH a 111:=by unfold Fl.eQ Fl.mH;rw[if_neg hk.out]
 have hne:Fl.eQ L pf a≠0:=by rw[hC];unfold Fl.mH;omega
 rw[show Fl.kF L pf a=L by unfold Fl.kF;rw[if_neg hne],show Fl.jF L pf a=pf by unfold Fl.jF;rw[if_neg hne],hC];rw[hC]at hne;have HK:=hDq (fun W' (hb:Below W.heap.size W W')=>Ao a 111 W' ((hF.out.bN he.out).below hb) (by decide));generalize Fl.mH a 111=Ap at *;obtain⟨d,rfl⟩:∃ d,Ap=d+1:=⟨Ap-1,by omega⟩;rw[show cV ev (d+1)=.iface 412 (ev (d+1)) from rfl]at HK ⊢;clear hC hne;obtain⟨aU,ac,aZ,bB,asd,aK,aq,aH⟩:=a;unfold bM aT at HK ⊢;simp only[]at HK ⊢;have hb0:Below W.heap.size W (W.alloc (.cells #[.int .u8 aU,.int .i64 ac,.int .i64 aZ,.int .i64 bB,.int .i64 asd,.int .i64 aK,.int .i64 aq,.int .i64 aH] 95)):=(bRq _ _).alloc (lRq _) _;have bF:=hDq hb0;clear hb0;go_enter Tryz.func215,Tryz.ntmps215
 go_wp2_with fail
 refine(HK.out _ bF.out).mono ?_;rintro e w2 ⟨rfl,hb2⟩;have HB2:=hDq (bF.out.trans (hb2.mono bF.out.size));clear hb2 HK bF;simp only[];go_wp2;go_ret;exact⟨rfl,v,hF.out.later HB2.out,bJ.of_below HB2.out P I b v⟩
theorem aeB (a:Ask) (hF:Hid (bk w W F P I b v L pf n wd h)) (he:Hid (ee w ev)) (hok:Hid (Fs.d7 L pf)) (hk:Hid (Fl.fP a 111=0)) :
  Calls Tryz.prog 215 #[.pointer (some ⟨F,0,none⟩),bM a] W fun e W'=>e=.returned (cV ev (Fl.eQ L pf a))∧∃ v',bk w W' F P I b v' (Fl.kF L pf a) (Fl.jF L pf a) n wd h∧bJ W W' P I b v v':=by
 have hit:=Fl.Rp hk.out;obtain⟨i,hi⟩:∃ i:Nat,a.it=i:=⟨a.it.toNat,by omega⟩;have bY:i<3:=by omega
 have vY:Fl.eQ L pf a=if Cv.ok (Fl.fE a)=true then (if Cv.has (L i) a.id=true then 6 else if 60<=(L i).length then 7 else Pu.jE pf a.it (Fl.fE a)) else 1:=by
  unfold Fl.eQ;rw[if_pos hk.out,show a.it.toNat=i by omega]
 have Lm:Bk.eH (L i) (Fl.fE a)=1->Fl.eQ L pf a=1:=fun h=>by
  rw[vY];unfold Bk.eH at h;split at h
  ·split at h
   ·cases h
   ·split at h <;> cases h
  ·rename_i hn;rw[if_neg hn]
 have hC2:Bk.eH (L i) (Fl.fE a)=2->Fl.eQ L pf a=6:=fun h=>by
  rw[vY];unfold Bk.eH at h;split at h
  ·rename_i h1;rw[if_pos h1]
   split at h
   ·rename_i h2;rw[if_pos (by simpa [Fl.fE] using h2)]
   ·split at h <;> cases h
  ·cases h
 have Ln:Bk.eH (L i) (Fl.fE a)=3->Fl.eQ L pf a=7:=fun h=>by
  rw[vY];unfold Bk.eH at h;split at h
  ·rename_i h1;rw[if_pos h1]
   split at h
   ·cases h
   ·rename_i h2;rw[if_neg (by simpa [Fl.fE] using h2)]
    split at h
    ·rename_i h3;rw[if_pos h3]
    ·cases h
  ·cases h
 have Lp:Bk.eH (L i) (Fl.fE a)=0->Fl.eQ L pf a=Pu.jE pf a.it (Fl.fE a):=fun h=>by
  obtain⟨h1,h2,h3⟩:=Bk.Ql h;rw[vY,if_pos h1,if_neg (by rw[show a.id=(Fl.fE a).id from rfl,h2];simp),if_neg (by omega)]
 have xU:Bk.eH (L i) (Fl.fE a)=0∨Bk.eH (L i) (Fl.fE a)=1∨Bk.eH (L i) (Fl.fE a)=2∨Bk.eH (L i) (Fl.fE a)=3:=by
  unfold Bk.eH;split <;> (try split) <;> (try split) <;> simp
 clear vY;have Lr:Fl.eQ L pf a=0->Fl.kF L pf a=upd L i (L i++[Fl.fE a]):=fun h=>by unfold Fl.kF;rw[if_pos h,show a.it.toNat=i by omega]
 have rZ:Fl.eQ L pf a≠0->Fl.kF L pf a=L:=fun h=>by unfold Fl.kF;rw[if_neg h]
 have Bb:Fl.eQ L pf a=0->Fl.jF L pf a=Pu.j7 pf a.it (Fl.fE a):=fun h=>by unfold Fl.jF;rw[if_pos h]
 have FF:Fl.eQ L pf a≠0->Fl.jF L pf a=pf:=fun h=>by unfold Fl.jF;rw[if_neg h]
 have HK:=hDq (fun W' (hb:Below W.heap.size W W')=>Ao a 111 W' ((hF.out.bN he.out).below hb) (by decide));rw[Fl.JW hk.out,show cV ev 0=.nilIface from rfl]at HK;generalize Fl.eQ L pf a=pc at *;generalize Fl.kF L pf a=aob at *;generalize Fl.jF L pf a=aoc at *;obtain⟨aU,ac,aZ,bB,asd,aK,aq,aH⟩:=a;simp only[]at hi;subst hi;unfold bM aT at HK ⊢;simp only[Fl.fE]at HK Lm hC2 Ln Lp Lr Bb xU;simp only[];have qw:=hDq Lm;have r5:=hDq hC2;have yo:=hDq Ln;have Bc:=hDq Lp;have SX:=hDq xU;have aeC:=hDq Lr;have jb:=hDq rZ;have Ls:=hDq Bb;have fy:=hDq FF;clear Lm hC2 Ln Lp Lr rZ Bb FF hit hk xU;have hb0:Below W.heap.size W (W.alloc (.cells #[.int .u8 aU,.int .i64 ac,.int .i64 aZ,.int .i64 i,.int .i64 asd,.int .i64 aK,.int .i64 aq,.int .i64 aH] 95)):=(bRq _ _).alloc (lRq _) _;have Bd:(W.alloc (.cells #[.int .u8 aU,.int .i64 ac,.int .i64 aZ,.int .i64 i,.int .i64 asd,.int .i64 aK,.int .i64 aq,.int .i64 aH] 95)).heap[W.heap.size]?=some (.cells #[.int .u8 aU,.int .i64 ac,.int .i64 aZ,.int .i64 i,.int .i64 asd,.int .i64 aK,.int .i64 aq,.int .i64 aH] 95 (0,0)):=hNq _ _;have bF:=hDq hb0;have gu:=hDq Bd;clear hb0 Bd;obtain⟨A,hA⟩:∃ A,W.heap.size=A:=⟨_,rfl⟩;have o5:=hDq hA;clear hA;go_enter Tryz.func215,Tryz.ntmps215
 go_wp2_with fail
 refine(HK.out _ bF.out).mono ?_;rintro e w2 ⟨rfl,hb2⟩;have HB2:=hDq (bF.out.trans (hb2.mono bF.out.size));have bg:Hid (w2.heap[A]?=some (.cells #[.int .u8 aU,.int .i64 ac,.int .i64 aZ,.int .i64 i,.int .i64 asd,.int .i64 aK,.int .i64 aq,.int .i64 aH] 95 (0,0))):=by show _=_;rw[<- o5.out,hb2.block _ (lBq gu.out)];exact gu.out
 have cn:=hDq (hF.out.later HB2.out);have HS2:=hDq (bJ.of_below HB2.out P I b v);rw[o5.out];clear hb2 HK bF gu HB2 o5;have k1:w2.cell? ⟨A,1,none⟩=some (.int .i64 ac):=by rw[cR w2 _ 1 _ _ _ bg.out];rfl
 have k4:w2.cell? ⟨A,4,none⟩=some (.int .i64 asd):=by rw[cR w2 _ 4 _ _ _ bg.out];rfl
 have pC:w2.cell? ⟨A,5,none⟩=some (.int .i64 aK):=by rw[cR w2 _ 5 _ _ _ bg.out];rfl
 have k6:w2.cell? ⟨A,6,none⟩=some (.int .i64 aq):=by rw[cR w2 _ 6 _ _ _ bg.out];rfl
 have k7:w2.cell? ⟨A,7,none⟩=some (.int .i64 aH):=by rw[cR w2 _ 7 _ _ _ bg.out];rfl
 obtain⟨w3,hw3⟩:∃ w3,w2.alloc (.cells #[.int .i64 aH,.int .i64 ac,.int .i64 asd,.int .i64 aK,.int .i64 aq] 197)=w3:=⟨_,rfl⟩;obtain⟨B,hB⟩:∃ B,w2.heap.size=B:=⟨_,rfl⟩;have hb3:Below w2.heap.size w2 w3:=by rw[<- hw3];exact(bRq _ _).alloc (lRq _) _
 have dX:Hid (w3.heap[B]?=some (.cells #[.int .i64 aH,.int .i64 ac,.int .i64 asd,.int .i64 aK,.int .i64 aq] 197 (0,0))):=by show _=_;rw[<- hw3,<- hB];exact hNq _ _
 have HR3:Hid (w3.heap[A]?=some (.cells #[.int .u8 aU,.int .i64 ac,.int .i64 aZ,.int .i64 i,.int .i64 asd,.int .i64 aK,.int .i64 aq,.int .i64 aH] 95 (0,0))):=by show _=_;rw[hb3.block _ (lBq bg.out)];exact bg.out
 have fW:=hDq (cn.out.later hb3);have cQ:=hDq (HS2.out.below hb3);have yq:Hid (∀ j,j<3->B≠b j∧(v j).ownBlock≠some B):=fun j hj=>⟨fun e=>by have:=(cn.out.aG j hj).lt;omega,fun e=>by have:=((cn.out.aG j hj).s7 _ e).2;omega⟩;have HW3:=hDq hw3;have k0:=hDq hB;clear hb3 hw3 hB;simp only[]
 go_wp2_with fail
 rw[HW3.out,k0.out];have a3:w3.cell? ⟨A,3,none⟩=some (.int .i64 i):=by rw[cR w3 _ 3 _ _ _ HR3.out];rfl
 have fi:=fW.out.vR bY;have fb:=fW.out.vS bY;have vO:(0:Int)<=(i:Int):=by omega
 have RF:(i:Int)<3:=by omega
 clear k1 k4 pC k6 k7 bg cn HS2 HW3 k0
 go_quiet (fail)
 have FH:Below w3.heap.size w3 (w3.drewN nq):=dQ nq;have nY:Hid ((w3.drewN nq).heap[B]?=some (.cells #[.int .i64 aH,.int .i64 ac,.int .i64 asd,.int .i64 aK,.int .i64 aq] 197 (0,0))):=dX.out;have bL:Hid ((w3.drewN nq).heap[A]?=some (.cells #[.int .u8 aU,.int .i64 ac,.int .i64 aZ,.int .i64 i,.int .i64 asd,.int .i64 aK,.int .i64 aq,.int .i64 aH] 95 (0,0))):=HR3.out;have jh:=hDq (fW.out.later FH);have dR:=hDq (cQ.out.below FH);clear FH dX HR3 fW cQ a3 fi fb;generalize w3.drewN nq=aC at *;have x0:aC.cell? ⟨B,0,none⟩=some (.int .i64 aH):=by rw[cR aC _ 0 _ _ _ nY.out];rfl
 have x1:aC.cell? ⟨B,1,none⟩=some (.int .i64 ac):=by rw[cR aC _ 1 _ _ _ nY.out];rfl
 have x2:aC.cell? ⟨B,2,none⟩=some (.int .i64 asd):=by rw[cR aC _ 2 _ _ _ nY.out];rfl
 have x3:aC.cell? ⟨B,3,none⟩=some (.int .i64 aK):=by rw[cR aC _ 3 _ _ _ nY.out];rfl
 have x4:aC.cell? ⟨B,4,none⟩=some (.int .i64 aq):=by rw[cR aC _ 4 _ _ _ nY.out];rfl
 have yr:=abd (b i) w.heap.size (v i) ⟨aH,ac,asd,aK,aq⟩ (L i) 412 (ev 1) (ev 5) (ev 6) (ev 7) aC (jh.out.bN he.out).Ef (jh.out.aG i bY) (hok.out.aG i bY).len;have FI:=hDq yr;unfold bS at FI;simp only[]at FI;clear yr
 go_wp2_with fail
 refine FI.out.mono ?_;rintro e ai ⟨rfl,v6,hb6,gz⟩;have eM:=hDq (jh.out.book bY hb6 gz);have dv:=hDq (dR.out.trans (bJ.Eg bY gz P I));have mS:Hid (ai.heap[B]?=some (.cells #[.int .i64 aH,.int .i64 ac,.int .i64 asd,.int .i64 aK,.int .i64 aq] 197 (0,0))):=by
  show _=_;rw[gz.only.block B (lBq nY.out) (fun e=>(yq.out i bY).1 (by simpa using e)) (fun e=>(yq.out i bY).2 e.symm)];exact nY.out
 have bA:Hid (ai.heap[A]?=some (.cells #[.int .u8 aU,.int .i64 ac,.int .i64 aZ,.int .i64 i,.int .i64 asd,.int .i64 aK,.int .i64 aq,.int .i64 aH] 95 (0,0))):=by
  show _=_;rw[gz.only.block A (lBq bL.out) (fun e=>aF bL.out (jh.out.aG i bY).cell (by decide) (by simpa using e)) (fun e=>iV (jh.out.aG i bY).row bL.out (by decide) e.symm)];exact bL.out
 clear hb6 gz x0 x1 x2 x3 x4 jh dR nY bL FI;simp only[];rcases SX.out with hc | hc | hc | hc
 ·have hpc:=Bc.out hc
  rw[show s6 412 (ev 1) (ev 5) (ev 6) (ev 7) (Bk.eH (L i) ⟨aH,ac,asd,aK,aq⟩)=.nilIface by rw[hc];rfl];have pD:Bk.j4 (L i) ⟨aH,ac,asd,aK,aq⟩=L i++[⟨aH,ac,asd,aK,aq⟩]:=by unfold Bk.j4;rw[if_pos hc]
  rw[pD]at eM;obtain⟨hok1,Be,hl1⟩:=Bk.Ql hc;have aeD:=hDq (aez (l:=L i) (x:=⟨aH,ac,asd,aK,aq⟩) Be);have SY:=hDq hpc;have tK:Hid ((L i++[(⟨aH,ac,asd,aK,aq⟩:Cv.ag)]).length<=60):=by show _<=_;simp;omega
  clear hc pD hpc hok1 Be hl1 qw r5 yo Bc SX;have x0:ai.cell? ⟨B,0,none⟩=some (.int .i64 aH):=by rw[cR ai _ 0 _ _ _ mS.out];rfl
  have x1:ai.cell? ⟨B,1,none⟩=some (.int .i64 ac):=by rw[cR ai _ 1 _ _ _ mS.out];rfl
  have x2:ai.cell? ⟨B,2,none⟩=some (.int .i64 asd):=by rw[cR ai _ 2 _ _ _ mS.out];rfl
  have x3:ai.cell? ⟨B,3,none⟩=some (.int .i64 aK):=by rw[cR ai _ 3 _ _ _ mS.out];rfl
  have x4:ai.cell? ⟨B,4,none⟩=some (.int .i64 aq):=by rw[cR ai _ 4 _ _ _ mS.out];rfl
  have a3:ai.cell? ⟨A,3,none⟩=some (.int .i64 i):=by rw[cR ai _ 3 _ _ _ bA.out];rfl
  have fp:=eM.out.cellP
  go_wp2_with fail
  refine j5 7 (by kernel_rfl) (by kernel_rfl) ?_;simp only[List.take_succ_cons,List.take_zero,List.drop_succ_cons,List.drop_zero]
  repeat (first | go_big_quiet_step (fail) | quiet_step (fail))
  refine wpQuiet_nil ?_;intro _ hw';obtain⟨nq,hw''⟩:=hw';subst hw'';have lR:Hid ((ai.drewN nq).heap[B]?=some (.cells #[.int .i64 aH,.int .i64 ac,.int .i64 asd,.int .i64 aK,.int .i64 aq] 197 (0,0))):=mS.out;have kg:=hDq (eM.out.later (dQ nq));have lh:=hDq (dv.out.below (dQ nq));clear x0 x1 x2 x3 x4 a3 fp mS bA eM dv;generalize ai.drewN nq=bq at *;have HH:=hDq (aeE P i ⟨aH,ac,asd,aK,aq⟩ pf ev bq (kg.out.bN he.out).per kg.out.cY hok.out.good);unfold bS at HH;simp only[]at HH
  go_wp2_with fail
  refine HH.out.mono ?_;rintro e b9 ⟨rfl,SZ,vZ⟩;have lU:=hDq (kg.out.purse SZ vZ);have tV:=hDq (lh.out.trans (bJ.Kh vZ I b _));have yh:Hid (b9.heap[B]?=some (.cells #[.int .i64 aH,.int .i64 ac,.int .i64 asd,.int .i64 aK,.int .i64 aq] 197 (0,0))):=by
   show _=_;rw[vZ.block _ (lBq lR.out) (aF lR.out kg.out.cY (by decide))];exact lR.out
  clear SZ vZ HH lR kg lh;rw[<- SY.out];simp only[];by_cases h0:pc=0
  ·subst h0
   rw[show cV ev 0=.nilIface from rfl];go_wp2;go_ret;refine⟨rfl,_,?_,tV.out⟩;rw[aeC.out (by simp),Ls.out (by simp)];exact lU.out
  ·obtain⟨d,rfl⟩:∃ d,pc=d+1:=⟨pc-1,by omega⟩
   rw[show cV ev (d+1)=.iface 412 (ev (d+1)) from rfl];have S4:Pu.j7 pf i ⟨aH,ac,asd,aK,aq⟩=pf:=by unfold Pu.j7;rw[if_neg (by rw[<- SY.out];omega)]
   rw[S4]at lU;have x0:b9.cell? ⟨B,0,none⟩=some (.int .i64 aH):=by rw[cR b9 _ 0 _ _ _ yh.out];rfl
   have hbk:=lU.out.aG i bY;rw[upd_same,upd_same]at hbk;have hcan:=P8 (b i) w.heap.size v6 aH (L i++[(⟨aH,ac,asd,aK,aq⟩:Cv.ag)]) 412 (ev 1) (ev 5) (ev 6) (ev 7) b9 (lU.out.bN he.out).Ef hbk tK.out;have hcl:Bk.eu (L i++[(⟨aH,ac,asd,aK,aq⟩:Cv.ag)]) aH=L i:=aeD.out.2;rw[hcl]at hcan;have Bf:=hDq hcan;clear S4 hbk hcan hcl
   go_wp2_with fail
   refine Bf.out.mono ?_;rintro e gw ⟨rfl,v9,je,iI⟩;have Lt:Step b9 gw (b i) (upd v i v6 i) v9:=by rw[upd_same];exact iI
   have rX:=hDq (lU.out.book bY je Lt);have A5:=hDq (tV.out.trans (bJ.Eg bY Lt P I));rw[vK,vK,rJ L i]at rX;rw[vK]at A5;clear je iI Lt Bf lU tV;simp only[];go_wp2;go_ret;refine⟨rfl,_,?_,A5.out⟩;rw[jb.out (by omega),fy.out (by omega)];exact rX.out
 ·have hpc:pc=1:=qw.out hc
  rw[show s6 412 (ev 1) (ev 5) (ev 6) (ev 7) (Bk.eH (L i) ⟨aH,ac,asd,aK,aq⟩)=.iface 412 (ev 1) by rw[hc];rfl];have pD:Bk.j4 (L i) ⟨aH,ac,asd,aK,aq⟩=L i:=by unfold Bk.j4;rw[if_neg (by rw[hc];decide)]
  rw[pD,rJ]at eM;clear hc pD;go_wp2;go_ret;exact⟨by rw[hpc];rfl,_,by rw[jb.out (by omega),fy.out (by omega)];exact eM.out,dv.out⟩
 ·have hpc:pc=6:=r5.out hc
  rw[show s6 412 (ev 1) (ev 5) (ev 6) (ev 7) (Bk.eH (L i) ⟨aH,ac,asd,aK,aq⟩)=.iface 412 (ev 6) by rw[hc];rfl];have pD:Bk.j4 (L i) ⟨aH,ac,asd,aK,aq⟩=L i:=by unfold Bk.j4;rw[if_neg (by rw[hc];decide)]
  rw[pD,rJ]at eM;clear hc pD;go_wp2;go_ret;exact⟨by rw[hpc];rfl,_,by rw[jb.out (by omega),fy.out (by omega)];exact eM.out,dv.out⟩
 ·have hpc:pc=7:=yo.out hc
  rw[show s6 412 (ev 1) (ev 5) (ev 6) (ev 7) (Bk.eH (L i) ⟨aH,ac,asd,aK,aq⟩)=.iface 412 (ev 7) by rw[hc];rfl];have pD:Bk.j4 (L i) ⟨aH,ac,asd,aK,aq⟩=L i:=by unfold Bk.j4;rw[if_neg (by rw[hc];decide)]
  rw[pD,rJ]at eM;clear hc pD;go_wp2;go_ret;exact⟨by rw[hpc];rfl,_,by rw[jb.out (by omega),fy.out (by omega)];exact eM.out,dv.out⟩
theorem aeF (a:Ask) (hF:bk w W F P I b v L pf n wd h) (he:ee w ev) (hok:Fs.d7 L pf) :
  Calls Tryz.prog 215 #[.pointer (some ⟨F,0,none⟩),bM a] W fun e W'=>e=.returned (cV ev (Fl.eQ L pf a))∧∃ v',bk w W' F P I b v' (Fl.kF L pf a) (Fl.jF L pf a) n wd h∧bJ W W' P I b v v':=by
 by_cases hk:Fl.fP a 111=0
 ·exact aeB a hF he hok hk
 ·exact aeA a hF he hk
end
section
variable {w W:World} {F P:Nat} {I b:Nat->Nat} {v:Nat->Value} {L:Nat->List Cv.ag} {pf n:Nat->Int} {wd h:Int} {ev:Nat->Value}
theorem bk.fresh (hF:bk w W F P I b v L pf n wd h) {q:Nat} (hq:W.heap.size<=q):q≠F∧q≠P∧∀ i,i<3->q≠I i∧q≠b i∧(v i).ownBlock≠some q:=by
 have h1:=hF.lt;have h2:=hF.cY.lt;refine⟨by omega,by omega,fun i hi=>?_⟩;have h3:=lBq (hF.it i hi);have h4:=(hF.aG i hi).lt;exact⟨by omega,by omega,fun e=>by have:=((hF.aG i hi).s7 _ e).2;omega⟩
theorem RI (i:Nat) (hi:i<3) (x:Cv.ag) (hF:Hid (bk w W F P I b v L pf n wd h)) (he:Hid (ee w ev)) (hg:Hid (Pu.Good pf)) (hl:Hid ((L i).length<=60)) :
  Calls Tryz.prog 214 #[.pointer (some ⟨F,0,none⟩),.int .i64 i,bS x] W fun e W'=>e=.returned (.tuple #[])∧∃ v',bk w W' F P I b v' (upd L i (Bk.eu (L i) x.id)) (Pu.eX pf i x) n wd h∧bJ W W' P I b v v':=by
 obtain⟨x0,x1,x2,x3,x4⟩:=x;unfold bS;simp only[];obtain⟨B,hB⟩:∃ B,W.heap.size=B:=⟨_,rfl⟩;obtain⟨w1,dM⟩:∃ w1,W.alloc (.cells #[.int .i64 x0,.int .i64 x1,.int .i64 x2,.int .i64 x3,.int .i64 x4] 197)=w1:=⟨_,rfl⟩;have hb1:Below W.heap.size W w1:=by rw[<- dM];exact(bRq _ _).alloc (lRq _) _
 have rD:Hid (w1.heap[B]?=some (.cells #[.int .i64 x0,.int .i64 x1,.int .i64 x2,.int .i64 x3,.int .i64 x4] 197 (0,0))):=by show _=_;rw[<- dM,<- hB];exact hNq _ _
 have fy:=hDq (hF.out.later hb1);have eZ:=hDq (bJ.of_below hb1 P I b v);have Bg:=hDq (hF.out.fresh (q:=B) (by omega));have HW1:=hDq dM;have k0:=hDq hB;clear hb1 dM hB;have jg:w1.cell? ⟨B,0,none⟩=some (.int .i64 x0):=by rw[cR w1 _ 0 _ _ _ rD.out];rfl
 have fi:=fy.out.vR hi;have fb:=fy.out.vS hi;have h0:(0:Int)<=(i:Int):=by omega
 have h3:(i:Int)<3:=by omega
 go_enter Tryz.func214,Tryz.ntmps214
 go_wp2_with fail
 rw[HW1.out,k0.out];refine j5 11 (by kernel_rfl) (by kernel_rfl) ?_;simp only[List.take_succ_cons,List.take_zero,List.drop_succ_cons,List.drop_zero]
 repeat (first | go_big_quiet_step (fail) | quiet_step (fail))
 refine wpQuiet_nil ?_;intro _ hw';obtain⟨nq,hw''⟩:=hw';subst hw'';have yt:Hid ((w1.drewN nq).heap[B]?=some (.cells #[.int .i64 x0,.int .i64 x1,.int .i64 x2,.int .i64 x3,.int .i64 x4] 197 (0,0))):=rD.out;have cn:=hDq (fy.out.later (dQ nq));have HS2:=hDq (eZ.out.below (dQ nq));clear jg fi fb rD fy eZ HW1;generalize w1.drewN nq=w2 at *;have Bf:=hDq (P8 (b i) w.heap.size (v i) x0 (L i) 412 (ev 1) (ev 5) (ev 6) (ev 7) w2 (cn.out.bN he.out).Ef (cn.out.aG i hi) hl.out)
 go_wp2_with fail
 refine Bf.out.mono ?_;rintro e w3 ⟨rfl,v3,hb3,hs3⟩;have fW:=hDq (cn.out.book hi hb3 hs3);have cQ:=hDq (HS2.out.trans (bJ.Eg hi hs3 P I));have dX:Hid (w3.heap[B]?=some (.cells #[.int .i64 x0,.int .i64 x1,.int .i64 x2,.int .i64 x3,.int .i64 x4] 197 (0,0))):=by
  show _=_;rw[hs3.only.block B (lBq yt.out) (fun e=>(Bg.out.2.2 i hi).2.1 (by simpa using e)) (fun e=>(Bg.out.2.2 i hi).2.2 e.symm)];exact yt.out
 clear hb3 hs3 Bf yt cn HS2;simp only[];have jg:w3.cell? ⟨B,0,none⟩=some (.int .i64 x0):=by rw[cR w3 _ 0 _ _ _ dX.out];rfl
 have k1:w3.cell? ⟨B,1,none⟩=some (.int .i64 x1):=by rw[cR w3 _ 1 _ _ _ dX.out];rfl
 have k2:w3.cell? ⟨B,2,none⟩=some (.int .i64 x2):=by rw[cR w3 _ 2 _ _ _ dX.out];rfl
 have k3:w3.cell? ⟨B,3,none⟩=some (.int .i64 x3):=by rw[cR w3 _ 3 _ _ _ dX.out];rfl
 have k4:w3.cell? ⟨B,4,none⟩=some (.int .i64 x4):=by rw[cR w3 _ 4 _ _ _ dX.out];rfl
 have fp:=fW.out.cellP
 go_wp2_with fail
 refine j5 6 (by kernel_rfl) (by kernel_rfl) ?_;simp only[List.take_succ_cons,List.take_zero,List.drop_succ_cons,List.drop_zero]
 repeat (first | go_big_quiet_step (fail) | quiet_step (fail))
 refine wpQuiet_nil ?_;intro _ hw';obtain⟨nq,hw''⟩:=hw';subst hw'';have dh:=hDq (fW.out.later (dQ nq));have cr:=hDq (cQ.out.below (dQ nq));clear jg k1 k2 k3 k4 fp dX fW cQ;generalize w3.drewN nq=w4 at *;have FJ:=hDq (Lu P i ⟨x0,x1,x2,x3,x4⟩ pf ev w4 (dh.out.bN he.out).per dh.out.cY hg.out);unfold bS at FJ;simp only[]at FJ
 go_wp2_with fail
 refine FJ.out.mono ?_;rintro e aC ⟨rfl,tW,hs5⟩;have jh:=hDq (dh.out.purse tW hs5);have dR:=hDq (cr.out.trans (bJ.Kh hs5 I b _));clear tW hs5 FJ dh cr;simp only[];go_wp2;go_end0;exact⟨rfl,_,jh.out,dR.out⟩
end
end Go.Proofs.YtjolccidheflpaaGreatDoor
