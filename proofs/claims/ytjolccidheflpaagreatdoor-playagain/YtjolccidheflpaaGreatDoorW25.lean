/- A floor of package batch in memory: three items with their books and bands, a purse; what an act may turn. -/
import Derived.Test.YtjolccidheflpaaGreatDoorW11
import Derived.Test.YtjolccidheflpaaGreatDoorW22
import Derived.Test.YtjolccidheflpaaGreatDoorW24
import Derived.Test.YtjolccidheflpaaGreatDoorW09
import Derived.Test.YtjolccidheflpaaGreatDoorW08
import Derived.BigRegion
import Derived.BigQuiet
import Derived.Test.YtjolccidheflpaaGreatDoorW03
namespace Go.Proofs.YtjolccidheflpaaGreatDoor
set_option maxHeartbeats 8000000
set_option maxRecDepth 100000
open Go.RowKit
structure eA (w:World) (ev:Nat->Value):Prop where
 c1:w.cell? (Qb 1 0)=some (.iface 412 (ev 1))
 c2:w.cell? (Qb 3 0)=some (.iface 412 (ev 2))
 c3:w.cell? (Qb 4 0)=some (.iface 412 (ev 3))
 c5:w.cell? (Qb 6 0)=some (.iface 412 (ev 5))
 c6:w.cell? (Qb 7 0)=some (.iface 412 (ev 6))
 c7:w.cell? (Qb 8 0)=some (.iface 412 (ev 7))
 c9:w.cell? (Qb 9 0)=some (.iface 412 (ev 9))
 c11:w.cell? (Qb 11 0)=some (.iface 412 (ev 11))
section
variable {w w':World} {ev:Nat->Value}
theorem eA.below (h:eA w ev) (hb:Qd w w'):eA w' ev:=⟨cell_later hb h.c1,cell_later hb h.c2,cell_later hb h.c3,cell_later hb h.c5,cell_later hb h.c6,cell_later hb h.c7,cell_later hb h.c9,cell_later hb h.c11⟩
theorem eA.bY (h:eA w ev):h9 w 412 (ev 1) (ev 6) (ev 7):=⟨h.c1,h.c6,h.c7⟩
theorem eA.Ej (h:eA w ev):vM w 412 (ev 1) (ev 5) (ev 6) (ev 7):=⟨h.bY,h.c5⟩
theorem eA.per (h:eA w ev):uh w ev:=⟨h.bY,h.c9⟩
theorem eA.R8 (h:eA w ev):yy w ev:=⟨h.per,h.c2,h.c11⟩
theorem eA.Kh (h:eA w ev):mW w 412 (ev 1):=⟨h.c1⟩
end
def t6 (I:Nat->Nat) (P:Nat) (wd h:Int):Array Value :=
 #[Qa wd,Qa h,.pointer (some ⟨I 0,0,none⟩),.pointer (some ⟨I 1,0,none⟩),.pointer (some ⟨I 2,0,none⟩),Qc P]
def t7 (b:Nat) (r l:Int):Array Value:=#[Qc b,Qa r,Qa l]
structure bk (w W:World) (F P:Nat) (I b:Nat->Nat) (v:Nat->Value) (L:Nat->List Cv.ag) (pf n:Nat->Int) (wd h:Int):Prop where
 blk:W.heap[F]?=some (.cells (t6 I P wd h) 210 (0,0))
 it:∀ i,i<3->W.heap[I i]?=some (.cells (t7 (b i) (n (i*2)) (n (i*2+1))) 267 (0,0))
 aH:∀ i,i<3->df W w.heap.size (b i) (v i) (L i)
 pJ:∀ i j,i<3->j<3->i≠j->I i≠I j
 ne:∀ i j,i<3->j<3->i≠j->b i≠b j
 ap:∀ i j,i<3->j<3->i≠j->∀ k,(v i).ownBlock=some k->(v j).ownBlock≠some k
 cQ:a_ W 213 P pf
 lo:w.heap.size<=F
 nt:w.heap.size<=P
 nu:∀ i,i<3->w.heap.size<=I i
 bG:Qd w W
structure bK (W W':World) (P:Nat) (I b:Nat->Nat) (v v':Nat->Value):Prop where
 os:W'.os=W.os
 tape:W'.tape=W.tape
 output:W'.output=W.output
 size:W.heap.size<=W'.heap.size
 keep:∀ k,k<W.heap.size->k≠P->(∀ i,i<3->k≠I i/\k≠b i/\(v i).ownBlock≠some k)->W'.heap[k]?=W.heap[k]?
 new:∀ i,i<3->∀ k,(v' i).ownBlock=some k->(v i).ownBlock=some k\/W.heap.size<=k
section
variable {W W' W1 W2:World} {P:Nat} {I b:Nat->Nat} {v v' v1 v2:Nat->Value}
theorem bK.refl (W:World) (P:Nat) (I b:Nat->Nat) (v:Nat->Value):bK W W P I b v v:=⟨rfl,rfl,rfl,lRq _,fun _ _ _ _=>rfl,fun _ _ _ h=>.inl h⟩
theorem bK.trans (h:bK W W1 P I b v v1) (h1:bK W1 W2 P I b v1 v2):bK W W2 P I b v v2 :=
 ⟨h1.os.trans h.os,h1.tape.trans h.tape,h1.output.trans h.output,lTq h.size h1.size,
  fun k hk hP hi=>by
   rw[h1.keep k (Nat.lt_of_lt_of_le hk h.size) hP fun i bQ=>⟨(hi i bQ).1,(hi i bQ).2.1,fun e=>?_⟩]
   . exact h.keep k hk hP hi
   . rcases h.new i bQ k e with h2 | h2
     . exact(hi i bQ).2.2 h2
     . omega,
  fun i hi k e=>by
   rcases h1.new i hi k e with h2 | h2
   . exact h.new i hi k h2
   . exact .inr (lTq h.size h2)⟩
theorem bK.of_below (hb:Qd W W') (P:Nat) (I b:Nat->Nat) (v:Nat->Value):bK W W' P I b v v:=⟨hb.os,hb.tape,hb.output,hb.size,fun k hk _ _=>hb.block k hk,fun _ _ _ h=>.inl h⟩
theorem bK.below (h:bK W W1 P I b v v1) (hb:Qd W1 W2):bK W W2 P I b v v1:=h.trans (bK.of_below hb P I b v1)
theorem bK.Ek {i:Nat} (hi:i<3) {x:Value} (hs:Step W W' (b i) (v i) x) (P:Nat) (I:Nat->Nat):bK W W' P I b v (upd v i x) :=
 ⟨hs.only.os,hs.only.tape,hs.only.output,hs.only.size,
  fun k hk _ hk2=>hs.only.block k hk (fun e=>(hk2 i hi).2.1 (by simpa using e)) (fun e=>(hk2 i hi).2.2 e.symm),
  fun j hj k e=>by
   by_cases bI:j=i
   . subst bI;rw[upd_same]at e;exact hs.new k e
   . rw[upd_ne _ _ bI]at e;exact .inl e⟩
theorem bK.Ki (hs:aM W W' P) (I b:Nat->Nat) (v:Nat->Value):bK W W' P I b v v:=⟨hs.os,hs.tape,hs.output,hs.size,fun k hk hP _=>hs.block k hk hP,fun _ _ _ h=>.inl h⟩
theorem bK.R9 {i:Nat} (hi:i<3) (hs:aM W W' (I i)) (P:Nat) (b:Nat->Nat) (v:Nat->Value):bK W W' P I b v v:=⟨hs.os,hs.tape,hs.output,hs.size,fun k hk _ h2=>hs.block k hk (h2 i hi).1,fun _ _ _ h=>.inl h⟩
end
section
variable {w W W':World} {F P:Nat} {I b:Nat->Nat} {v:Nat->Value} {L:Nat->List Cv.ag} {pf n:Nat->Int} {wd h:Int}
theorem jc {W:World} {base:Nat} {v:Value} {n:Nat} {xs:List Value} {q:Nat} {a:Array Value} {T:TypeId} {fz:Nat×Nat} (h:W.ownsRow base 197 5 v n xs) (hq:W.heap[q]?=some (.cells a T fz)) (hT:T≠197):v.ownBlock≠some q:=by
 intro e;rcases h.2 with ⟨e1,_⟩ | ⟨r,cap,cur,e1,_,hr,_⟩
 .rw[e1]at e;cases e
 .rw[e1]at e
  have:r=q:=by simpa [Value.ownBlock] using e
  rw[this,hq]at hr;simp only[Option.some.injEq,Obj.cells.injEq]at hr;exact hT hr.2.1
theorem aI {W:World} {p q:Nat} {a c:Array Value} {T U:TypeId} {fz Kj:Nat×Nat} (hp:W.heap[p]?=some (.cells a T fz)) (hq:W.heap[q]?=some (.cells c U Kj)) (hT:T≠U):p≠q:=by
 intro e;rw[e,hq]at hp;simp only[Option.some.injEq,Obj.cells.injEq]at hp;exact hT hp.2.1.symm
theorem bk.later (hf:bk w W F P I b v L pf n wd h) (hb:Qd W W'):bk w W' F P I b v L pf n wd h :=
 ⟨by rw[hb.block F (lBq hf.blk)];exact hf.blk,fun i hi=>by rw[hb.block _ (lBq (hf.it i hi))];exact hf.it i hi,fun i hi=>(hf.aH i hi).later hb,hf.pJ,hf.ne,hf.ap,hf.cQ.gK hb,hf.lo,hf.nt,hf.nu,hf.bG.trans (hb.mono hf.bG.size)⟩
theorem bk.wy (hf:bk w W F P I b v L pf n wd h) {i:Nat} (hi:i<3):W.cell? ⟨F,2+i,none⟩=some (.pointer (some ⟨I i,0,none⟩)):=by
 rw[cR W F (2+i) _ _ _ hf.blk];have:i=0\/i=1\/i=2:=by omega
 rcases this with rfl | rfl | rfl <;> rfl
theorem bk.cellP (hf:bk w W F P I b v L pf n wd h):W.cell? (Qb F 5)=some (Qc P):=by
 rw[cR W F 5 _ _ _ hf.blk];rfl
theorem bk.wz (hf:bk w W F P I b v L pf n wd h) {i:Nat} (hi:i<3):W.cell? ⟨I i,0,none⟩=some (.pointer (some ⟨b i,0,none⟩)):=by
 rw[cR W (I i) 0 _ _ _ (hf.it i hi)];rfl
theorem bk.Kk (hf:bk w W F P I b v L pf n wd h) {i:Nat} (hi:i<3):W.cell? ⟨I i,1,none⟩=some (Qa (n (i*2))):=by
 rw[cR W (I i) 1 _ _ _ (hf.it i hi)];rfl
theorem bk.cellL (hf:bk w W F P I b v L pf n wd h) {i:Nat} (hi:i<3):W.cell? ⟨I i,2,none⟩=some (Qa (n (i*2+1))):=by
 rw[cR W (I i) 2 _ _ _ (hf.it i hi)];rfl
theorem bk.lt (hf:bk w W F P I b v L pf n wd h):F<W.heap.size:=lBq hf.blk
theorem bk.bY (hf:bk w W F P I b v L pf n wd h) {ev:Nat->Value} (he:eA w ev):eA W ev:=he.below hf.bG
theorem bk.book (hf:bk w W F P I b v L pf n wd h) {i:Nat} (hi:i<3) {v':Value} {L':List Cv.ag} (hb:df W' w.heap.size (b i) v' L') (hs:Step W W' (b i) (v i) v'):bk w W' F P I b (upd v i v') (upd L i L') pf n wd h:=by
 have hbi:=hf.aH i hi;have other:∀ {q:Nat} {a:Array Value} {T:TypeId},W.heap[q]?=some (.cells a T (0,0))->T≠197->T≠276->W'.heap[q]?=some (.cells a T (0,0)):=fun {q a T} hq h1 h2=>by
  rw[hs.only.block q (lBq hq) (fun e=>?_) (fun e=>jc hbi.row hq h1 e.symm)]
  .exact hq
  .have:q=b i:=by simpa using e
   exact aI hq hbi.cell h2 this
 refine⟨other hf.blk (by decide) (by decide),fun j hj=>other (hf.it j hj) (by decide) (by decide),fun j hj=>?_,hf.pJ,hf.ne,fun j k hj hk hjk m hm=>?_,other hf.cQ (by decide) (by decide),hf.lo,hf.nt,hf.nu,hf.bG.trans (hs.below hbi _ (lRq _))⟩
 .by_cases bI:j=i
  .subst bI;rw[upd_same,upd_same];exact hb
  .rw[upd_ne _ _ bI,upd_ne _ _ bI]
   refine(hf.aH j hj).only hs.only (by simp;exact hf.ne j i hj hi bI) (fun e=>jc hbi.row (hf.aH j hj).cell (by decide) e.symm) (fun k hk e=>?_) (fun k hk e=>hf.ap j i hj hi bI k hk e.symm);have:k=b i:=by simpa using e
   subst this;exact jc (hf.aH j hj).row hbi.cell (by decide) hk
 .by_cases bI:j=i
  .subst bI
   rw[upd_same]at hm;rw[upd_ne _ _ (Ne.symm hjk)];rcases hs.new m hm with h1 | h1
   .exact hf.ap j k hj hk hjk m h1
   .intro e
    have:=((hf.aH k hk).tJ m e).2
    omega
  .rw[upd_ne _ _ bI]at hm
   by_cases aX:k=i
   .subst aX
    rw[upd_same];intro e;rcases hs.new m e with h1 | h1
    .exact hf.ap j k hj hk hjk m hm h1
    .have:=((hf.aH j hj).tJ m hm).2
     omega
   .rw[upd_ne _ _ aX];exact hf.ap j k hj hk hjk m hm
theorem aM.Kl {W W':World} {q:Nat} (hs:aM W W' q):Only W W' (some q) none:=⟨hs.os,hs.tape,hs.output,hs.size,fun k hk h1 _=>hs.block k hk (fun e=>h1 (by rw[e]))⟩
theorem bk.purse (hf:bk w W F P I b v L pf n wd h) {f':Nat->Int} (hp:a_ W' 213 P f') (hs:aM W W' P):bk w W' F P I b v L f' n wd h:=by
 refine⟨by rw[hs.block F (lBq hf.blk) (aI hf.blk hf.cQ (by decide))];exact hf.blk,fun i hi=>by rw[hs.block _ (lBq (hf.it i hi)) (aI (hf.it i hi) hf.cQ (by decide))];exact hf.it i hi,fun i hi=>?_,hf.pJ,hf.ne,hf.ap,hp,hf.lo,hf.nt,hf.nu,hf.bG.trans (hs.below hf.bG.size hf.nt)⟩;exact(hf.aH i hi).only hs.Kl (by simp;exact aI (hf.aH i hi).cell hf.cQ (by decide)) (by simp) (fun k hk e=>by
  have:k=P:=by simpa using e
  subst this;exact jc (hf.aH i hi).row hf.cQ (by decide) hk) (fun _ _=>by simp)
theorem bk.kZ (hf:bk w W F P I b v L pf n wd h) {i:Nat} (hi:i<3) {r l:Int} (hit:W'.heap[I i]?=some (.cells (t7 (b i) r l) 267 (0,0))) (hs:aM W W' (I i)):bk w W' F P I b v L pf (upd (upd n (i*2) r) (i*2+1) l) wd h:=by
 refine⟨by rw[hs.block F (lBq hf.blk) (aI hf.blk (hf.it i hi) (by decide))];exact hf.blk,fun j hj=>?_,fun j hj=>?_,hf.pJ,hf.ne,hf.ap,hf.cQ.save hs (aI hf.cQ (hf.it i hi) (by decide)),hf.lo,hf.nt,hf.nu,hf.bG.trans (hs.below hf.bG.size (hf.nu i hi))⟩
 .by_cases e:j=i
  .subst e
   rw[upd_same,upd_ne _ _ (by omega),upd_same];exact hit
  .rw[upd_ne _ _ (by omega),upd_ne _ _ (by omega),upd_ne _ _ (by omega),upd_ne _ _ (by omega),hs.block _ (lBq (hf.it j hj)) (hf.pJ j i hj hi e)]
   exact hf.it j hj
 .exact(hf.aH j hj).only hs.Kl (by simp;exact aI (hf.aH j hj).cell (hf.it i hi) (by decide)) (by simp) (fun k hk e=>by
   have:k=I i:=by simpa using e
   subst this;exact jc (hf.aH j hj).row (hf.it i hi) (by decide) hk) (fun _ _=>by simp)
theorem bk.aside (hf:bk w W F P I b v L pf n wd h) {q:Nat} (h1:q≠F) (h2:q≠P) (h3:∀ i,i<3->q≠I i/\q≠b i/\(v i).ownBlock≠some q) (hlo:w.heap.size<=q) (hs:aM W W' q):bk w W' F P I b v L pf n wd h:=by
 refine⟨by rw[hs.block F (lBq hf.blk) (Ne.symm h1)];exact hf.blk,fun i hi=>by rw[hs.block _ (lBq (hf.it i hi)) (Ne.symm (h3 i hi).1)];exact hf.it i hi,fun i hi=>?_,hf.pJ,hf.ne,hf.ap,hf.cQ.save hs (Ne.symm h2),hf.lo,hf.nt,hf.nu,hf.bG.trans (hs.below hf.bG.size hlo)⟩;exact(hf.aH i hi).only hs.Kl (by simp;exact Ne.symm (h3 i hi).2.1) (by simp) (fun k hk e=>by
  have:k=q:=by simpa using e
  subst this;exact(h3 i hi).2.2 hk) (fun _ _=>by simp)
end
def eC (w:World) (g:Nat) (v:Value) (l:List Cv.ag):Prop :=
 (l=[]/\∃ a cap,v=.slice a 0 cap)\/∃ o cap cur,v=.slice (some (Qb g o)) l.length cap/\l.length<=cap/\dR w g o l/\w.heap[g]?=some (.cells cur 197 (0,0))
theorem eC.save {w w':World} {g p:Nat} {v:Value} {l:List Cv.ag} (h:eC w g v l) (hs:aM w w' p) (hne:g≠p):eC w' g v l:=by
 rcases h with h | ⟨o,cap,cur,h1,h2,h3,h4⟩
 .exact .inl h
 .refine .inr ⟨o,cap,cur,h1,h2,fun i hi=>?_,by rw[hs.block g (lBq h4) hne];exact h4⟩
  obtain⟨c0,c1,c2,c3,c4⟩:=h3 i hi;exact⟨Bd hs c0 hne,Bd hs c1 hne,Bd hs c2 hne,Bd hs c3 hne,Bd hs c4 hne⟩
theorem eC.Be {w:World} {base:Nat} {v:Value} {l:List Cv.ag} (h:w.ownsRow base 197 5 v l.length (flat l)):∃ g,eC w g v l/\(l=[]\/(base<=g/\v.ownBlock=some g)):=by
 rcases h.2 with ⟨e,e2⟩ | ⟨g,cap,cur,e,hg,dX,hle,_,_,_⟩
 .exact⟨0,.inl ⟨List.eq_nil_of_length_eq_zero e2,none,0,e⟩,.inl (List.eq_nil_of_length_eq_zero e2)⟩
 .refine⟨g,.inr ⟨0,cap,cur,e,hle,zY fun j u hu=>?_,dX⟩,.inr ⟨hg,by rw[e];rfl⟩⟩
  have:=World.ownsRow.cells h (g:=g) (by rw[e];rfl) j u hu
  have hp:(⟨g,0,none⟩:Addr).add j=(Qb g j):=by unfold Addr.add;split <;> simp_all
  rwa [hp]at this
theorem SV (x:Cv.ag) (l:List Cv.ag):Cv.nth (x::l) 0=x:=rfl
theorem aep (x:Cv.ag) (l:List Cv.ag) (i:Nat):Cv.nth (x::l) (i+1)=Cv.nth l i:=rfl
theorem eC.head {w:World} {g:Nat} {v:Value} {x:Cv.ag} {l:List Cv.ag} (h:eC w g v (x::l)):∃ o cap cur,v=.slice (some (Qb g o)) (l.length+1) cap/\l.length+1<=cap/\dR w g o (x::l)/\w.heap[g]?=some (.cells cur 197 (0,0)):=by
 rcases h with ⟨h,_⟩ | ⟨o,cap,cur,h1,h2,h3,h4⟩
 .cases h
 .exact⟨o,cap,cur,h1,h2,h3,h4⟩
theorem yE {w:World} {g o:Nat} {x:Cv.ag} {l:List Cv.ag} (h:dR w g o (x::l)):w.cell? (Qb g o)=some (Qa x.id)/\w.cell? ⟨g,o+1,none⟩=some (Qa x.ak)/\w.cell? ⟨g,o+2,none⟩=some (Qa x.sd)/\w.cell? ⟨g,o+3,none⟩=some (Qa x.pr)/\w.cell? ⟨g,o+4,none⟩=some (Qa x.q):=by
 have:=h 0 (by simp)
 simpa [SV] using this
theorem aeq {w:World} {g o:Nat} {x:Cv.ag} {l:List Cv.ag} {cur:Array Value} (h:dR w g o (x::l)) (hg:w.heap[g]?=some (.cells cur 197 (0,0))) (q:Int) :
  dR (w.setCell ⟨g,o+4,none⟩ (Qa (x.q-q))) g o (Bk.less x q::l)/\dR (w.setCell ⟨g,o+4,none⟩ (Qa (x.q-q))) g (o+5) l/\∃ cur',(w.setCell ⟨g,o+4,none⟩ (Qa (x.q-q))).heap[g]?=some (.cells cur' 197 (0,0)):=by
 have he:∀ j,j≠o+4->(w.setCell ⟨g,o+4,none⟩ (Qa (x.q-q))).cell? (Qb g j)=w.cell? (Qb g j):=fun j hj=>by
  rw[setCell_eq_setRow w g (o+4) _ _ _ _ hg,cR _ g j _ _ _ (setRow_heap w g _ _ _ _ hg),cR w g j _ _ _ hg,Array.getElem?_setIfInBounds_ne (by omega)]
 have hs:(w.setCell ⟨g,o+4,none⟩ (Qa (x.q-q))).cell? ⟨g,o+4,none⟩=some (Qa (x.q-q)):=by
  have hc:=(yE h).2.2.2.2;rw[cR w g (o+4) _ _ _ hg]at hc;have hlt:o+4<cur.size:=by
   rcases Nat.lt_or_ge (o+4) cur.size with h' | h'
   .exact h'
   .rw[Array.getElem?_eq_none h']at hc;cases hc
  rw[setCell_eq_setRow w g (o+4) _ _ _ _ hg,cR _ g (o+4) _ _ _ (setRow_heap w g _ _ _ _ hg),Array.getElem?_setIfInBounds_self_of_lt hlt]
 have htail:∀ i,i<l.length->w.cell? ⟨g,o+(i+1)*5,none⟩=some (Qa (Cv.nth l i).id)/\w.cell? ⟨g,o+(i+1)*5+1,none⟩=some (Qa (Cv.nth l i).ak)/\w.cell? ⟨g,o+(i+1)*5+2,none⟩=some (Qa (Cv.nth l i).sd)/\w.cell? ⟨g,o+(i+1)*5+3,none⟩=some (Qa (Cv.nth l i).pr)/\w.cell? ⟨g,o+(i+1)*5+4,none⟩=some (Qa (Cv.nth l i).q):=fun i hi=>h (i+1) (by simp;omega);refine⟨fun i hi=>?_,fun i hi=>?_,?_⟩
 .cases i with
  | zero =>
   obtain⟨c0,c1,c2,c3,c4⟩:=yE h;rw[SV];refine⟨?_,?_,?_,?_,?_⟩
   .rw[show o+0*5=o by omega,he _ (by omega)];exact c0
   .rw[show o+0*5+1=o+1 by omega,he _ (by omega)];exact c1
   .rw[show o+0*5+2=o+2 by omega,he _ (by omega)];exact c2
   .rw[show o+0*5+3=o+3 by omega,he _ (by omega)];exact c3
   .rw[show o+0*5+4=o+4 by omega];exact hs
  | succ i =>
   obtain⟨c0,c1,c2,c3,c4⟩:=htail i (by simp at hi;omega);rw[aep,he _ (by omega),he _ (by omega),he _ (by omega),he _ (by omega),he _ (by omega)];exact⟨c0,c1,c2,c3,c4⟩
 .obtain⟨c0,c1,c2,c3,c4⟩:=htail i hi
  rw[show o+5+i*5=o+(i+1)*5 by omega,he _ (by omega),he _ (by omega),he _ (by omega),he _ (by omega),he _ (by omega)];exact⟨c0,c1,c2,c3,c4⟩
 .exact⟨_,by rw[setCell_eq_setRow w g (o+4) _ _ _ _ hg];exact setRow_heap w g _ _ _ _ hg⟩
theorem FK (g:Nat) (v:Value) (x:Cv.ag) (l:List Cv.ag) (q:Int) (w:World) (hv:Hid (eC w g v (x::l))) (h1:1<=x.q) (h2:x.q<=1000) (h3:1<=q) (h4:q<=1000) (hn:l.length<=1000) :
  Calls Tryz.prog 291 #[v,Qa q] w fun e w'=>∃ v',e=.returned v'/\eC w' g v' (Fs.gz (x::l) q)/\aM w w' g:=by
 obtain⟨o,cap,cur,rfl,hcap,hl,hg⟩:=hv.out.head;have hc:=(yE hl).2.2.2.2;obtain⟨sy,hL2,cur',hg'⟩:=aeq hl hg q;have hfr:w.frozen? ⟨g,o+4,none⟩=false:=by simp[World.frozen?,hg]
 have hc':(w.setCell ⟨g,o+4,none⟩ (Qa (x.q-q))).cell? ⟨g,o+4,none⟩=some (Qa (x.q-q)):=by
  have:=(yE sy).2.2.2.2
  exact this
 have b9:Hid (aM w (w.setCell ⟨g,o+4,none⟩ (Qa (x.q-q))) g):=aM.setCell _ _ _ _;have jw:=hDq sy;have jd:=hDq hL2;have HG:=hDq hg';clear hl hg sy hL2 hg' hv;generalize hW:w.setCell ⟨g,o+4,none⟩ (Qa (x.q-q))=W at *;have HW:=hDq hW;clear hW;have hpos:(0:Int)<((l.length+1:Nat):Int):=by omega
 generalize hm:l.length=m at *;have Bf:=hDq hm;clear hm;by_cases he:x.q-q=0
 .have FL:Hid (Fs.gz (x::l) q=l):=by show _=_;rw[Fs.wh,if_pos he]
  rw[he]at HW;by_cases Jw:cap=1
  .subst Jw
   have yF:m=0:=by omega
   subst yF;go_enter Tryz.func291,Tryz.ntmps291;go_wp2;go_ret;rw[HW.out];refine⟨_,rfl,?_,b9.out⟩;rw[FL.out];exact .inl ⟨List.eq_nil_of_length_eq_zero Bf.out,_,_,rfl⟩
  .have aol:(1:Int)<=((m+1:Nat):Int):=by omega
   go_enter Tryz.func291,Tryz.ntmps291;go_wp2;go_ret;rw[HW.out];refine⟨_,rfl,?_,b9.out⟩;rw[FL.out];refine .inr ⟨o+5,cap-1,cur',?_,by rw[Bf.out];omega,jd.out,HG.out⟩;rw[Bf.out];rfl
 .have FL:Hid (Fs.gz (x::l) q=Bk.less x q::l):=by show _=_;rw[Fs.wh,if_neg he]
  go_enter Tryz.func291,Tryz.ntmps291;go_wp2;go_ret;rw[HW.out];refine⟨_,rfl,?_,b9.out⟩;rw[FL.out];exact .inr ⟨o,cap,cur',by simp[Bf.out],by simp[Bf.out];omega,jw.out,HG.out⟩
def wI:Value->Nat
 | .slice _ n _=>n
 | _=>0
theorem eC.len {w:World} {g:Nat} {v:Value} {l:List Cv.ag} (h:eC w g v l):wI v=l.length:=by
 rcases h with ⟨rfl,a,cap,rfl⟩ | ⟨o,cap,cur,rfl,_⟩ <;> rfl
theorem eC.val {w:World} {g:Nat} {v:Value} {l:List Cv.ag} (h:eC w g v l):∃ a cap,v=.slice a l.length cap:=by
 rcases h with ⟨rfl,a,cap,rfl⟩ | ⟨o,cap,cur,rfl,_⟩
 .exact⟨a,cap,rfl⟩
 .exact⟨_,_,rfl⟩
theorem yK {x:Cv.ag} {l:List Cv.ag} {q:Int}:(Fs.gz (x::l) q).length=if x.q-q=0 then l.length else l.length+1:=by
 rw[Fs.wh];split <;> simp
structure LM (w:World) (B p fP gs i:Nat) (price:Int) (G f0:Nat->Int) (vb vs:Value) (wr:World):Prop where
 ex:∃ f bs ss,eC wr fP vb bs/\eC wr gs vs ss/\a_ wr 213 p f/\Fs.ou i price G f bs ss/\bs.length<=200/\ss.length<=200/\Pu.ew f 6=Pu.ew f0 6/\∀ k,k<3->Pu.ez f k 6=Pu.ez f0 k 6
 bG:Below B w wr
theorem eC.blk {w:World} {g:Nat} {v:Value} {x:Cv.ag} {l:List Cv.ag} (h:eC w g v (x::l)) {p:Nat} {f:Nat->Int} (hp:a_ w 213 p f):g≠p:=by
 obtain⟨o,cap,cur,_,_,_,hg⟩:=h.head;exact aI hg hp (by decide)
theorem aeM (p i B fP gs:Nat) (price:Int) (vb vs:Value) (bs ss:List Cv.ag) (f G:Nat->Int) (ev:Nat->Value) (w:World) (hi:i<3) (hp1:1<=price) (hp2:price<=1000) (he:Hid (∀ W,Below B w W->eA W ev))
  (hB:Hid (B<=w.heap.size/\B<=p/\B<=fP/\B<=gs)) (hne:Hid (fP≠gs)) (uy:Hid (eC w fP vb bs)) (hos:Hid (eC w gs vs ss)) (wH:Hid (a_ w 213 p f)) (kA:Hid (Fs.ou i price G f bs ss)) (hlb:Hid (bs.length<=200)) (yL:Hid (ss.length<=200)) :
  Calls Tryz.prog 262 #[Qc p,Qa i,Qa price,vb,vs] w fun e w'=>e=.returned .nilIface/\(a_ w' 213 p G/\Pu.Good G/\Pu.ew G 6=Pu.ew f 6/\∀ k,k<3->Pu.ez G k 6=Pu.ez f k 6)/\Below B w w':=by
 have HR:Hid (LM w B p fP gs i price G f vb vs w):=⟨⟨f,bs,ss,uy.out,hos.out,wH.out,kA.out,hlb.out,yL.out,rfl,fun _ _=>rfl⟩,bRq _ _⟩;clear uy hos wH kA hlb yL;go_enter Tryz.func262,Tryz.ntmps262;go_wp2
 go_loopw [3,4] (fun u x wr=>LM w B p fP gs i price G f u x wr) (fun u x _=>wI u+wI x)
 case atStart=>exact HR.out
 case round =>
  rename_i ub us wr;obtain⟨⟨f1,b1,s1,hb1,hs1,TA,LO,TB,TC,TD,TE⟩,hbl⟩:=hrel;have HB1:=hDq hb1;have dB:=hDq hs1;have k0:=hDq TA;have HT1:=hDq LO;have TF:=hDq TB;have kr:=hDq TC;have F3:=hDq TD;have HST:=hDq TE;have gJ:=hDq hbl;clear hb1 hs1 TA LO TB TC TD TE hbl HR;have done:(b1=[]\/s1=[])->f1=G:=fun h=>funext (HT1.out.done h);have HD:=hDq done;clear done;cases b1 with
  | nil =>
   obtain⟨ab,cb,rfl⟩:=HB1.out.val;obtain⟨aeT,cs,rfl⟩:=dB.out.val;have e:=HD.out (.inl rfl);subst e;rw[show ([]:List Cv.ag).length=0 from rfl];go_wp2;go_ret;exact⟨rfl,⟨k0.out,HT1.out.good,F3.out,HST.out⟩,gJ.out⟩
  | cons x bt =>
   cases s1 with
   | nil =>
    obtain⟨ob,cb,TG,rfl,hcb,LP,hgb⟩:=HB1.out.head;obtain⟨aeT,cs,rfl⟩:=dB.out.val;have e:=HD.out (.inr rfl);subst e;rw[show ([]:List Cv.ag).length=0 from rfl];have hpos:(0:Int)<((bt.length+1:Nat):Int):=by omega
    generalize bt.length=m at *;go_wp2;go_ret;exact⟨rfl,⟨k0.out,HT1.out.good,F3.out,HST.out⟩,gJ.out⟩
   | cons y st =>
    obtain⟨ob,cb,TG,rfl,hcb,LP,hgb⟩:=HB1.out.head;obtain⟨os,cs,aeU,rfl,hcs,TH,FW⟩:=dB.out.head;obtain⟨F4,F5,F6,F7,F8⟩:=yE LP;obtain⟨F9,Ga,Gb,Gc,Gd⟩:=yE TH;have aeV:(0:Int)<((bt.length+1:Nat):Int):=by omega
    have aeW:(0:Int)<((st.length+1:Nat):Int):=by omega
    have tK:=Cv.gw (Pu.kG (HT1.out.bN x (mSq ..)).1);have TI:=Cv.gw (Pu.kG (HT1.out.ws y (mSq ..)).1);obtain⟨TJ,TK⟩:=tK.2.2.2.2;obtain⟨TL,TM⟩:=TI.2.2.2.2;clear tK TI LP TH hgb FW HD;obtain⟨oM,LQ⟩:∃ oM,bt.length=oM:=⟨_,rfl⟩;obtain⟨ms,z8⟩:∃ ms,st.length=ms:=⟨_,rfl⟩;rw[LQ]at aeV hcb HB1 ⊢;rw[z8]at aeW hcs dB ⊢;have TN:=hDq LQ;have TP:=hDq z8;clear LQ z8;rcases Int.lt_or_le y.q x.q with hlt | hle
    .have HQ:Hid (y.q=min x.q y.q):=by show _=_;omega
     go_wp2_with fail
     refine jT 8 (by kernel_rfl) (by kernel_rfl) ?_;simp only[List.take_succ_cons,List.take_zero,List.drop_succ_cons,List.drop_zero]
     repeat (first | go_big_quiet_step (fail) | quiet_step (fail))
     refine wpQuiet_nil ?_;intro _ hw';obtain⟨nq,hw''⟩:=hw';subst hw'';have wJ:=hDq (gJ.out.trans ((dL nq:Qd wr (wr.drewN nq)).mono (lTq hB.out.1 gJ.out.size)));have HB2:Hid (eC (wr.drewN nq) fP (.slice (some (Qb fP ob)) (oM+1) cb) (x::bt)):=HB1.out;have HS2:Hid (eC (wr.drewN nq) gs (.slice (some (Qb gs os)) (ms+1) cs) (y::st)):=dB.out;have eT:Hid (a_ (wr.drewN nq) 213 p f1):=k0.out;have LR:(wr.drewN nq).cell? (Qb fP ob)=some (Qa x.id):=F4;have LU:(wr.drewN nq).cell? ⟨fP,ob+1,none⟩=some (Qa x.ak):=F5;have LV:(wr.drewN nq).cell? ⟨fP,ob+2,none⟩=some (Qa x.sd):=F6;have LW:(wr.drewN nq).cell? ⟨fP,ob+3,none⟩=some (Qa x.pr):=F7;have LX:(wr.drewN nq).cell? ⟨fP,ob+4,none⟩=some (Qa x.q):=F8;have LY:(wr.drewN nq).cell? (Qb gs os)=some (Qa y.id):=F9;have LZ:(wr.drewN nq).cell? ⟨gs,os+1,none⟩=some (Qa y.ak):=Ga;have L5:(wr.drewN nq).cell? ⟨gs,os+2,none⟩=some (Qa y.sd):=Gb;have L6:(wr.drewN nq).cell? ⟨gs,os+3,none⟩=some (Qa y.pr):=Gc;have L8:(wr.drewN nq).cell? ⟨gs,os+4,none⟩=some (Qa y.q):=Gd;clear gJ HB1 dB k0 F4 F5 F6 F7 F8 F9 Ga Gb Gc Gd;generalize wr.drewN nq=w1 at *
     go_wp2_with fail
     refine jT 10 (by kernel_rfl) (by kernel_rfl) ?_;simp only[List.take_succ_cons,List.take_zero,List.drop_succ_cons,List.drop_zero]
     repeat (first | go_big_quiet_step (fail) | quiet_step (fail))
     refine wpQuiet_nil ?_;intro _ hw';obtain⟨nq,hw''⟩:=hw';subst hw'';have gJ:=hDq (wJ.out.trans ((dL nq:Qd w1 (w1.drewN nq)).mono (lTq hB.out.1 wJ.out.size)));have au:Hid (eC (w1.drewN nq) fP (.slice (some (Qb fP ob)) (oM+1) cb) (x::bt)):=HB2.out;have cK:Hid (eC (w1.drewN nq) gs (.slice (some (Qb gs os)) (ms+1) cs) (y::st)):=HS2.out;have gM:Hid (a_ (w1.drewN nq) 213 p f1):=eT.out;clear wJ HB2 HS2 eT LR LU LV LW LX LY LZ L5 L6 L8;generalize w1.drewN nq=w2 at *;obtain⟨hC,Bq⟩:=HT1.out.step hi ⟨hp1,hp2⟩ HQ.out;have hTR:=TQ p i x y price y.q f1 ev w2 (he.out _ gJ.out).R8 gM.out HT1.out.good;rw[hC]at hTR;rw[show cV ev 0=.nilIface from rfl]at hTR;have hsum:=Pu.Ea f1 i x y price y.q;have L9:=hDq Bq;have iP:=hDq hTR;have Br:=hDq hsum;have Bt:=au.out.blk gM.out;have Bu:=cK.out.blk gM.out;have Bv:=hDq Bt;have Bw:=hDq Bu;clear hC Bq hTR hsum Bt Bu;unfold bU at iP
     go_wp2_with fail
     refine iP.out.mono ?_;rintro e w3 ⟨rfl,pZ,hs3⟩;have wK:=hDq (gJ.out.trans (hs3.below (lTq hB.out.1 gJ.out.size) hB.out.2.1));have nx:=hDq pZ;have bJ:=hDq (au.out.save hs3 Bv.out);have cq:=hDq (cK.out.save hs3 Bw.out);clear pZ hs3 iP gJ au cK gM;generalize Pu.jg f1 i x y price y.q=f2 at *;simp only[];have hlb:=TF.out;have yL:=kr.out;simp only[List.length_cons]at hlb yL;have nD:=hDq (FK fP _ x bt y.q w3 bJ.out TJ TK (by omega) (by omega) (by omega))
     go_wp2_with fail
     refine nD.out.mono ?_;rintro e w4 ⟨L_,rfl,hb4,dm⟩;have wL:=hDq (wK.out.trans (dm.below (lTq hB.out.1 wK.out.size) hB.out.2.2.1));have jZ:=hDq (nx.out.save dm (Ne.symm Bv.out));have d_:=hDq (cq.out.save dm (Ne.symm hne.out));have ck:=hDq hb4;clear hb4 dm nD wK nx bJ cq;simp only[];have Bz:=hDq (FK gs _ y st y.q w4 d_.out TL TM (by omega) (by omega) (by omega))
     go_wp2_with fail
     refine Bz.out.mono ?_;rintro e aC ⟨Ma,rfl,di,hs5⟩;have Mc:=hDq (wL.out.trans (hs5.below (lTq hB.out.1 wL.out.size) hB.out.2.2.2));have qR:=hDq (jZ.out.save hs5 (Ne.symm Bw.out));have aY:=hDq (ck.out.save hs5 hne.out);have dA:=hDq di;clear di hs5 Bz wL jZ ck d_;simp only[];have hl1:=aY.out.len;have hl2:=dA.out.len;rw[yK]at hl1 hl2
     go_wp2_with fail
     refine⟨⟨⟨f2,_,_,aY.out,dA.out,qR.out,L9.out,?_,?_,?_,?_⟩,Mc.out⟩,?_⟩
     .rw[yK];split <;> omega
     .rw[yK];split <;> omega
     .rw[Br.out.1];exact F3.out
     .intro k hk;rw[Br.out.2 k hk];exact HST.out k hk
     .have hqq:=HQ.out
      show wI L_+wI Ma<(oM+1)+(ms+1);rw[hl1,hl2,TN.out,TP.out];split <;> split <;> omega
    .have HQ:Hid (x.q=min x.q y.q):=by show _=_;omega
     go_wp2_with fail
     refine jT 8 (by kernel_rfl) (by kernel_rfl) ?_;simp only[List.take_succ_cons,List.take_zero,List.drop_succ_cons,List.drop_zero]
     repeat (first | go_big_quiet_step (fail) | quiet_step (fail))
     refine wpQuiet_nil ?_;intro _ hw';obtain⟨nq,hw''⟩:=hw';subst hw'';have wJ:=hDq (gJ.out.trans ((dL nq:Qd wr (wr.drewN nq)).mono (lTq hB.out.1 gJ.out.size)));have HB2:Hid (eC (wr.drewN nq) fP (.slice (some (Qb fP ob)) (oM+1) cb) (x::bt)):=HB1.out;have HS2:Hid (eC (wr.drewN nq) gs (.slice (some (Qb gs os)) (ms+1) cs) (y::st)):=dB.out;have eT:Hid (a_ (wr.drewN nq) 213 p f1):=k0.out;have LR:(wr.drewN nq).cell? (Qb fP ob)=some (Qa x.id):=F4;have LU:(wr.drewN nq).cell? ⟨fP,ob+1,none⟩=some (Qa x.ak):=F5;have LV:(wr.drewN nq).cell? ⟨fP,ob+2,none⟩=some (Qa x.sd):=F6;have LW:(wr.drewN nq).cell? ⟨fP,ob+3,none⟩=some (Qa x.pr):=F7;have LX:(wr.drewN nq).cell? ⟨fP,ob+4,none⟩=some (Qa x.q):=F8;have LY:(wr.drewN nq).cell? (Qb gs os)=some (Qa y.id):=F9;have LZ:(wr.drewN nq).cell? ⟨gs,os+1,none⟩=some (Qa y.ak):=Ga;have L5:(wr.drewN nq).cell? ⟨gs,os+2,none⟩=some (Qa y.sd):=Gb;have L6:(wr.drewN nq).cell? ⟨gs,os+3,none⟩=some (Qa y.pr):=Gc;have L8:(wr.drewN nq).cell? ⟨gs,os+4,none⟩=some (Qa y.q):=Gd;clear gJ HB1 dB k0 F4 F5 F6 F7 F8 F9 Ga Gb Gc Gd;generalize wr.drewN nq=w1 at *
     go_wp2_with fail
     refine jT 10 (by kernel_rfl) (by kernel_rfl) ?_;simp only[List.take_succ_cons,List.take_zero,List.drop_succ_cons,List.drop_zero]
     repeat (first | go_big_quiet_step (fail) | quiet_step (fail))
     refine wpQuiet_nil ?_;intro _ hw';obtain⟨nq,hw''⟩:=hw';subst hw'';have gJ:=hDq (wJ.out.trans ((dL nq:Qd w1 (w1.drewN nq)).mono (lTq hB.out.1 wJ.out.size)));have au:Hid (eC (w1.drewN nq) fP (.slice (some (Qb fP ob)) (oM+1) cb) (x::bt)):=HB2.out;have cK:Hid (eC (w1.drewN nq) gs (.slice (some (Qb gs os)) (ms+1) cs) (y::st)):=HS2.out;have gM:Hid (a_ (w1.drewN nq) 213 p f1):=eT.out;clear wJ HB2 HS2 eT LR LU LV LW LX LY LZ L5 L6 L8;generalize w1.drewN nq=w2 at *;obtain⟨hC,Bq⟩:=HT1.out.step hi ⟨hp1,hp2⟩ HQ.out;have hTR:=TQ p i x y price x.q f1 ev w2 (he.out _ gJ.out).R8 gM.out HT1.out.good;rw[hC]at hTR;rw[show cV ev 0=.nilIface from rfl]at hTR;have hsum:=Pu.Ea f1 i x y price x.q;have L9:=hDq Bq;have iP:=hDq hTR;have Br:=hDq hsum;have Bt:=au.out.blk gM.out;have Bu:=cK.out.blk gM.out;have Bv:=hDq Bt;have Bw:=hDq Bu;clear hC Bq hTR hsum Bt Bu;unfold bU at iP
     go_wp2_with fail
     refine iP.out.mono ?_;rintro e w3 ⟨rfl,pZ,hs3⟩;have wK:=hDq (gJ.out.trans (hs3.below (lTq hB.out.1 gJ.out.size) hB.out.2.1));have nx:=hDq pZ;have bJ:=hDq (au.out.save hs3 Bv.out);have cq:=hDq (cK.out.save hs3 Bw.out);clear pZ hs3 iP gJ au cK gM;generalize Pu.jg f1 i x y price x.q=f2 at *;simp only[];have hlb:=TF.out;have yL:=kr.out;simp only[List.length_cons]at hlb yL;have nD:=hDq (FK fP _ x bt x.q w3 bJ.out TJ TK (by omega) (by omega) (by omega))
     go_wp2_with fail
     refine nD.out.mono ?_;rintro e w4 ⟨L_,rfl,hb4,dm⟩;have wL:=hDq (wK.out.trans (dm.below (lTq hB.out.1 wK.out.size) hB.out.2.2.1));have jZ:=hDq (nx.out.save dm (Ne.symm Bv.out));have d_:=hDq (cq.out.save dm (Ne.symm hne.out));have ck:=hDq hb4;clear hb4 dm nD wK nx bJ cq;simp only[];have Bz:=hDq (FK gs _ y st x.q w4 d_.out TL TM (by omega) (by omega) (by omega))
     go_wp2_with fail
     refine Bz.out.mono ?_;rintro e aC ⟨Ma,rfl,di,hs5⟩;have Mc:=hDq (wL.out.trans (hs5.below (lTq hB.out.1 wL.out.size) hB.out.2.2.2));have qR:=hDq (jZ.out.save hs5 (Ne.symm Bw.out));have aY:=hDq (ck.out.save hs5 hne.out);have dA:=hDq di;clear di hs5 Bz wL jZ ck d_;simp only[];have hl1:=aY.out.len;have hl2:=dA.out.len;rw[yK]at hl1 hl2
     go_wp2_with fail
     refine⟨⟨⟨f2,_,_,aY.out,dA.out,qR.out,L9.out,?_,?_,?_,?_⟩,Mc.out⟩,?_⟩
     .rw[yK];split <;> omega
     .rw[yK];split <;> omega
     .rw[Br.out.1];exact F3.out
     .intro k hk;rw[Br.out.2 k hk];exact HST.out k hk
     .have hqq:=HQ.out
      show wI L_+wI Ma<(oM+1)+(ms+1);rw[hl1,hl2,TN.out,TP.out];split <;> split <;> omega
namespace Fl
def nk (a:Ask) (k:Int):Nat:=(fV a k-1).toNat
theorem JW {a:Ask} {k:Int} (h:fV a k=0):nk a k=0:=by unfold nk;rw[h];rfl
end Fl
section
variable {ev:Nat->Value}
theorem aeO (a:Ask) (w:World) (he:eA w ev) (hz:11<w.heap.size):Calls Tryz.prog 151 #[bu a] w fun e w'=>e=.returned (cV ev (ah.code a.k a.c a.sq a.it a.sd a.pr a.q a.id-1))/\Qd w w':=by
 obtain⟨aO,ac,aV,bl,asd,aK,aq,aF⟩:=a;show Calls Tryz.prog 151 #[.agg #[.int .u8 aO,Qa ac,Qa aV,Qa bl,Qa asd,Qa aK,Qa aq,Qa aF]] w fun e w'=>e=.returned (cV ev (ah.code aO ac aV bl asd aK aq aF-1))/\_;unfold ah.code;cases hk:ah.mg aO with
 | false=>exact Jf aO ac aV bl asd aK aq aF _ w (by omega) he.c3 hk
 | true =>
  cases hb:ah.ku aO ac aV bl asd aK aq aF with
  | false=>exact Jg aO ac aV bl asd aK aq aF _ w (by omega) he.c1 hk hb
  | true =>
   cases hs:ah.m_ aO bl asd aK aq aF with
   | false=>exact Jh aO ac aV bl asd aK aq aF _ w (by omega) he.c2 hk hb hs
   | true=>exact DV aO ac aV bl asd aK aq aF w hk hb hs
theorem eA.size {w:World} (h:eA w ev):11<w.heap.size:=bCq w _ h.c11
theorem Ax (a:Ask) (k:Int) (w:World) (he:Hid (eA w ev)) (hk:0<=k/\k<256):Calls Tryz.prog 246 #[bu a,.int .u8 k] w fun e w'=>e=.returned (cV ev (Fl.nk a k))/\Qd w w':=by
 have HA:=hDq (fun W (hb:Qd w W)=>aeO a W (he.out.below hb) (he.out.below hb).size);have HK:Hid (Fl.nk a k=((if ah.code a.k a.c a.sq a.it a.sd a.pr a.q a.id=0/\a.k≠k then (4:Int) else ((ah.code a.k a.c a.sq a.it a.sd a.pr a.q a.id:Nat):Int))-1).toNat):=rfl;generalize Fl.nk a k=aeP at *;obtain⟨aO,ac,aV,bl,asd,aK,aq,aF⟩:=a;unfold bu aT at HA ⊢;simp only[]at HA HK ⊢;have h1:ah.code aO ac aV bl asd aK aq aF≠1:=by
  unfold ah.code;split <;> (try split) <;> (try split) <;> decide
 generalize ah.code aO ac aV bl asd aK aq aF=cd at *;have hb0:Qd w (w.alloc (.cells #[.int .u8 aO,Qa ac,Qa aV,Qa bl,Qa asd,Qa aK,Qa aq,Qa aF] 95)):=(bRq _ _).alloc (lRq _) _;have kE:(w.alloc (.cells #[.int .u8 aO,Qa ac,Qa aV,Qa bl,Qa asd,Qa aK,Qa aq,Qa aF] 95)).heap[w.heap.size]?=some (.cells #[.int .u8 aO,Qa ac,Qa aV,Qa bl,Qa asd,Qa aK,Qa aq,Qa aF] 95 (0,0)):=hNq _ _;have bD:=hDq hb0;have fy:=hDq kE;clear hb0 kE;go_enter Tryz.func246,Tryz.ntmps246
 go_wp2_with fail
 refine(HA.out _ bD.out).mono ?_;rintro e w2 ⟨rfl,hb2⟩;have HB2:=hDq (bD.out.trans (hb2.mono bD.out.size));have c0:w2.cell? (Qb w.heap.size 0)=some (.int .u8 aO):=by rw[cR w2 _ 0 _ _ _ (by rw[hb2.block _ (lBq fy.out)];exact fy.out)];rfl
 have c3:=(he.out.below HB2.out).c3;clear hb2 HA bD fy;simp only[];by_cases hc:cd=0
 .subst hc
  rw[show cV ev (0-1)=.nilIface from rfl];by_cases hk2:aO=k
  .subst hk2
   have:(aO != aO)=false:=by simp
   go_wp2;go_ret;exact⟨by rw[HK.out];simp[cV],HB2.out⟩
  .have hk':(aO != k)=true:=by simpa using hk2
   have hz:=(he.out.below HB2.out).size;go_wp2
   try go_quiet (fail)
   go_ret;exact⟨by rw[HK.out];simp[cV,hk2],HB2.out⟩
 .obtain⟨d,rfl⟩:∃ d,cd=d+1+1:=⟨cd-2,by omega⟩
  have hne:¬ (d+1+1=0/\aO≠k):=fun h=>by omega
  have aeQ:aeP=d+1:=by rw[HK.out,if_neg hne];omega
  subst aeQ;rw[show cV ev (d+1+1-1)=.iface 412 (ev (d+1)) from rfl];clear HK hne hc h1;go_wp2;go_ret;exact⟨rfl,HB2.out⟩
section
variable {w W:World} {F P:Nat} {I b:Nat->Nat} {v:Nat->Value} {L:Nat->List Cv.ag} {pf n:Nat->Int} {wd h:Int}
theorem FF (i:Nat) (hi:i<3) (hF:Hid (bk w W F P I b v L pf n wd h)):Calls Tryz.prog 170 #[Qc F,Qa i] W fun e w'=>e=.returned (.pointer (some ⟨I i,0,none⟩))/\w'=W:=by
 have HW:=hDq (fun W=>gH (i:Int) 0 2 W);rw[show ah.aG (i:Int) 0 2=true by simp[ah.aG];omega]at HW;have ci:=hF.out.wy hi;have h0:(0:Int)<=(i:Int):=by omega
 have h3:(i:Int)<3:=by omega
 go_enter Tryz.func170,Tryz.ntmps170
 go_wp2_with fail
 refine(HW.out _).mono ?_;rintro e w2 ⟨rfl,rfl⟩;simp only[];go_wp2;go_ret;exact⟨rfl,rfl⟩
theorem F2 (i:Nat) (hi:i<3) (hF:Hid (bk w W F P I b v L pf n wd h)):Calls Tryz.prog 108 #[Qc F,Qa i] W fun e w'=>e=.returned (.pointer (some ⟨b i,0,none⟩))/\w'=W:=by
 have HW:=hDq (FF i hi hF);have ci:=hF.out.wz hi;go_enter Tryz.func108,Tryz.ntmps108
 go_wp2_with fail
 refine(HW.out).mono ?_;rintro e w2 ⟨rfl,rfl⟩;simp only[];go_wp2;go_ret;exact⟨rfl,rfl⟩
theorem LJ (hF:Hid (bk w W F P I b v L pf n wd h)):Calls Tryz.prog 69 #[Qc F] W fun e w'=>e=.returned (Qc P)/\w'=W:=by
 have ci:=hF.out.cellP;go_enter Tryz.func69,Tryz.ntmps69;go_wp2;go_ret;exact⟨rfl,rfl⟩
theorem aeR:(Tryz.prog.info? 192).map (·.size)=some 2:=by kernel_rfl
theorem aeS {w:World} {B:Nat} {r l:Int} (h:w.heap[B]?=some (.cells #[Qa r,Qa l] 192 (0,0))):(loadVar 192 (Qb B 0)).run Tryz.prog w=.ok (.agg #[Qa r,Qa l]) w :=
 run_loadVar_row w B 192 192 _ (0,0) _ h Tryz.underlying192 rfl aeR
theorem LK (i:Nat) (hi:i<3) (hF:Hid (bk w W F P I b v L pf n wd h)):Calls Tryz.prog 106 #[Qc F,Qa i] W fun e w'=>e=.returned (dP (n (i*2)) (n (i*2+1)))/\Qd W w':=by
 have hb0:Qd W (W.alloc (.cells #[Qa 0,Qa 0] 192)):=(bRq _ _).alloc (lRq _) _;have HW:=hDq (FF (W:=W.alloc (.cells #[Qa 0,Qa 0] 192)) i hi (hF.out.later hb0));have c1:=(hF.out.later hb0).Kk hi;have c2:=(hF.out.later hb0).cellL hi;have bD:=hDq hb0;clear hb0;unfold dP;go_enter Tryz.func106,Tryz.ntmps106
 go_wp2_with fail
 refine(HW.out).mono ?_;rintro e w2 ⟨rfl,rfl⟩;simp only[];go_wp2;refine bodyPost_ret (v:=.agg #[Qa (n (i*2)),Qa (n (i*2+1))]) ?_ rfl ⟨rfl,(bRq _ _).alloc (lRq _) _⟩;rw[Ah rfl];simp[asAddr,Result.andThen,aeS (heap_alloc_new W _)]
end
end
theorem aer {l:List Cv.ag} {x:Cv.ag} (hn:Cv.has l x.id=false):Bk.dh (l++[x]) x.id=0/\Bk.dQ (l++[x]) x.id=l:=by
 have hh:Cv.has (l++[x]) x.id=true:=by unfold Cv.has;simp
 have hc:Bk.dh (l++[x]) x.id=0:=by unfold Bk.dh;rw[if_pos hh]
 have hp:Bk.pos (l++[x]) x.id=l.length:=by
  unfold Bk.pos;have h0:l.findIdx (fun y=>y.id==x.id)=l.length:=Bk.Qq.1 hn;rw[List.findIdx_append,h0,if_neg (by omega)];simp
 refine⟨hc,?_⟩;unfold Bk.dQ;rw[if_pos hc,hp];unfold Bk.del;simp
section
variable {w W:World} {F P:Nat} {I b:Nat->Nat} {v:Nat->Value} {L:Nat->List Cv.ag} {pf n:Nat->Int} {wd h:Int} {ev:Nat->Value}
theorem aes (a:Ask) (hF:Hid (bk w W F P I b v L pf n wd h)) (he:Hid (eA w ev)) (hk:Hid (Fl.fV a 111≠0)) :
  Calls Tryz.prog 215 #[Qc F,bu a] W fun e W'=>e=.returned (cV ev (Fl.fA L pf a))/\∃ v',bk w W' F P I b v' (Fl.iB L pf a) (Fl.jV L pf a) n wd h/\bK W W' P I b v v':=by
 have hpos:=Fl.D9 hk.out;have hC:Fl.fA L pf a=Fl.nk a 111:=by unfold Fl.fA Fl.nk;rw[if_neg hk.out]
 have hne:Fl.fA L pf a≠0:=by rw[hC];unfold Fl.nk;omega
 rw[show Fl.iB L pf a=L by unfold Fl.iB;rw[if_neg hne],show Fl.jV L pf a=pf by unfold Fl.jV;rw[if_neg hne],hC];rw[hC]at hne;have HK:=hDq (fun W' (hb:Qd W W')=>Ax a 111 W' ((hF.out.bY he.out).below hb) (by decide));generalize Fl.nk a 111=Ay at *;obtain⟨d,rfl⟩:∃ d,Ay=d+1:=⟨Ay-1,by omega⟩;rw[show cV ev (d+1)=.iface 412 (ev (d+1)) from rfl]at HK ⊢;clear hC hne;obtain⟨aO,ac,aV,bl,asd,aK,aq,aF⟩:=a;unfold bu aT at HK ⊢;simp only[]at HK ⊢;have hb0:Qd W (W.alloc (.cells #[.int .u8 aO,Qa ac,Qa aV,Qa bl,Qa asd,Qa aK,Qa aq,Qa aF] 95)):=(bRq _ _).alloc (lRq _) _;have bD:=hDq hb0;clear hb0;go_enter Tryz.func215,Tryz.ntmps215
 go_wp2_with fail
 refine(HK.out _ bD.out).mono ?_;rintro e w2 ⟨rfl,hb2⟩;have HB2:=hDq (bD.out.trans (hb2.mono bD.out.size));clear hb2 HK bD;simp only[];go_wp2;go_ret;exact⟨rfl,v,hF.out.later HB2.out,bK.of_below HB2.out P I b v⟩
theorem aet (a:Ask) (hF:Hid (bk w W F P I b v L pf n wd h)) (he:Hid (eA w ev)) (hok:Hid (Fs.dM L pf)) (hk:Hid (Fl.fV a 111=0)) :
  Calls Tryz.prog 215 #[Qc F,bu a] W fun e W'=>e=.returned (cV ev (Fl.fA L pf a))/\∃ v',bk w W' F P I b v' (Fl.iB L pf a) (Fl.jV L pf a) n wd h/\bK W W' P I b v v':=by
 have hit:=Fl.Ro hk.out;obtain⟨i,hi⟩:∃ i:Nat,a.it=i:=⟨a.it.toNat,by omega⟩;have bQ:i<3:=by omega
 have wG:Fl.fA L pf a=if Cv.ok (Fl.eZ a)=true then (if Cv.has (L i) a.id=true then 6 else if 60<=(L i).length then 7 else Pu.jU pf a.it (Fl.eZ a)) else 1:=by
  unfold Fl.fA;rw[if_pos hk.out,show a.it.toNat=i by omega]
 have Ll:Bk.eV (L i) (Fl.eZ a)=1->Fl.fA L pf a=1:=fun h=>by
  rw[wG];unfold Bk.eV at h;split at h
  .split at h
   .cases h
   .split at h <;> cases h
  .rename_i hn;rw[if_neg hn]
 have hC2:Bk.eV (L i) (Fl.eZ a)=2->Fl.fA L pf a=6:=fun h=>by
  rw[wG];unfold Bk.eV at h;split at h
  .rename_i h1;rw[if_pos h1]
   split at h
   .rename_i h2;rw[if_pos (by simpa [Fl.eZ] using h2)]
   .split at h <;> cases h
  .cases h
 have Lm:Bk.eV (L i) (Fl.eZ a)=3->Fl.fA L pf a=7:=fun h=>by
  rw[wG];unfold Bk.eV at h;split at h
  .rename_i h1;rw[if_pos h1]
   split at h
   .cases h
   .rename_i h2;rw[if_neg (by simpa [Fl.eZ] using h2)]
    split at h
    .rename_i h3;rw[if_pos h3]
    .cases h
  .cases h
 have Ln:Bk.eV (L i) (Fl.eZ a)=0->Fl.fA L pf a=Pu.jU pf a.it (Fl.eZ a):=fun h=>by
  obtain⟨h1,h2,h3⟩:=Bk.Qs h;rw[wG,if_pos h1,if_neg (by rw[show a.id=(Fl.eZ a).id from rfl,h2];simp),if_neg (by omega)]
 have yq:Bk.eV (L i) (Fl.eZ a)=0\/Bk.eV (L i) (Fl.eZ a)=1\/Bk.eV (L i) (Fl.eZ a)=2\/Bk.eV (L i) (Fl.eZ a)=3:=by
  unfold Bk.eV;split <;> (try split) <;> (try split) <;> simp
 clear wG;have Lp:Fl.fA L pf a=0->Fl.iB L pf a=upd L i (L i++[Fl.eZ a]):=fun h=>by unfold Fl.iB;rw[if_pos h,show a.it.toNat=i by omega]
 have sy:Fl.fA L pf a≠0->Fl.iB L pf a=L:=fun h=>by unfold Fl.iB;rw[if_neg h]
 have Bg:Fl.fA L pf a=0->Fl.jV L pf a=Pu.ky pf a.it (Fl.eZ a):=fun h=>by unfold Fl.jV;rw[if_pos h]
 have FM:Fl.fA L pf a≠0->Fl.jV L pf a=pf:=fun h=>by unfold Fl.jV;rw[if_neg h]
 have HK:=hDq (fun W' (hb:Qd W W')=>Ax a 111 W' ((hF.out.bY he.out).below hb) (by decide));rw[Fl.JW hk.out,show cV ev 0=.nilIface from rfl]at HK;generalize Fl.fA L pf a=pc at *;generalize Fl.iB L pf a=aom at *;generalize Fl.jV L pf a=aon at *;obtain⟨aO,ac,aV,bl,asd,aK,aq,aF⟩:=a;simp only[]at hi;subst hi;unfold bu aT at HK ⊢;simp only[Fl.eZ]at HK Ll hC2 Lm Ln Lp Bg yq;simp only[];have Bh:=hDq Ll;have Bi:=hDq hC2;have yG:=hDq Lm;have Bj:=hDq Ln;have SX:=hDq yq;have aeu:=hDq Lp;have jw:=hDq sy;have Lr:=hDq Bg;have fO:=hDq FM;clear Ll hC2 Lm Ln Lp sy Bg FM hit hk yq;have hb0:Qd W (W.alloc (.cells #[.int .u8 aO,Qa ac,Qa aV,Qa i,Qa asd,Qa aK,Qa aq,Qa aF] 95)):=(bRq _ _).alloc (lRq _) _;have kE:(W.alloc (.cells #[.int .u8 aO,Qa ac,Qa aV,Qa i,Qa asd,Qa aK,Qa aq,Qa aF] 95)).heap[W.heap.size]?=some (.cells #[.int .u8 aO,Qa ac,Qa aV,Qa i,Qa asd,Qa aK,Qa aq,Qa aF] 95 (0,0)):=hNq _ _;have bD:=hDq hb0;have fy:=hDq kE;clear hb0 kE;obtain⟨A,hA⟩:∃ A,W.heap.size=A:=⟨_,rfl⟩;have pF:=hDq hA;clear hA;go_enter Tryz.func215,Tryz.ntmps215
 go_wp2_with fail
 refine(HK.out _ bD.out).mono ?_;rintro e w2 ⟨rfl,hb2⟩;have HB2:=hDq (bD.out.trans (hb2.mono bD.out.size));have bq:Hid (w2.heap[A]?=some (.cells #[.int .u8 aO,Qa ac,Qa aV,Qa i,Qa asd,Qa aK,Qa aq,Qa aF] 95 (0,0))):=by show _=_;rw[<- pF.out,hb2.block _ (lBq fy.out)];exact fy.out
 have cm:=hDq (hF.out.later HB2.out);have HS2:=hDq (bK.of_below HB2.out P I b v);rw[pF.out];clear hb2 HK bD fy HB2 pF;have k1:w2.cell? (Qb A 1)=some (Qa ac):=by rw[cR w2 _ 1 _ _ _ bq.out];rfl
 have k4:w2.cell? (Qb A 4)=some (Qa asd):=by rw[cR w2 _ 4 _ _ _ bq.out];rfl
 have uu:w2.cell? (Qb A 5)=some (Qa aK):=by rw[cR w2 _ 5 _ _ _ bq.out];rfl
 have k6:w2.cell? (Qb A 6)=some (Qa aq):=by rw[cR w2 _ 6 _ _ _ bq.out];rfl
 have k7:w2.cell? (Qb A 7)=some (Qa aF):=by rw[cR w2 _ 7 _ _ _ bq.out];rfl
 obtain⟨w3,hw3⟩:∃ w3,w2.alloc (.cells #[Qa aF,Qa ac,Qa asd,Qa aK,Qa aq] 197)=w3:=⟨_,rfl⟩;obtain⟨B,hB⟩:∃ B,w2.heap.size=B:=⟨_,rfl⟩;have hb3:Qd w2 w3:=by rw[<- hw3];exact(bRq _ _).alloc (lRq _) _
 have er:Hid (w3.heap[B]?=some (.cells #[Qa aF,Qa ac,Qa asd,Qa aK,Qa aq] 197 (0,0))):=by show _=_;rw[<- hw3,<- hB];exact hNq _ _
 have HR3:Hid (w3.heap[A]?=some (.cells #[.int .u8 aO,Qa ac,Qa aV,Qa i,Qa asd,Qa aK,Qa aq,Qa aF] 95 (0,0))):=by show _=_;rw[hb3.block _ (lBq bq.out)];exact bq.out
 have gA:=hDq (cm.out.later hb3);have cK:=hDq (HS2.out.below hb3);have SY:Hid (∀ j,j<3->B≠b j/\(v j).ownBlock≠some B):=fun j hj=>⟨fun e=>by have:=(cm.out.aH j hj).lt;omega,fun e=>by have:=((cm.out.aH j hj).tJ _ e).2;omega⟩;have HW3:=hDq hw3;have lB:=hDq hB;clear hb3 hw3 hB;simp only[]
 go_wp2_with fail
 rw[HW3.out,lB.out];have a3:w3.cell? (Qb A 3)=some (Qa i):=by rw[cR w3 _ 3 _ _ _ HR3.out];rfl
 have fi:=gA.out.wy bQ;have fb:=gA.out.wz bQ;have r7:(0:Int)<=(i:Int):=by omega
 have AA:(i:Int)<3:=by omega
 clear k1 k4 uu k6 k7 bq cm HS2 HW3 lB
 go_quiet (fail)
 have FN:Qd w3 (w3.drewN nq):=dL nq;have lN:Hid ((w3.drewN nq).heap[B]?=some (.cells #[Qa aF,Qa ac,Qa asd,Qa aK,Qa aq] 197 (0,0))):=er.out;have bA:Hid ((w3.drewN nq).heap[A]?=some (.cells #[.int .u8 aO,Qa ac,Qa aV,Qa i,Qa asd,Qa aK,Qa aq,Qa aF] 95 (0,0))):=HR3.out;have jD:=hDq (gA.out.later FN);have d_:=hDq (cK.out.below FN);clear FN er HR3 gA cK a3 fi fb;generalize w3.drewN nq=aC at *;have x0:aC.cell? (Qb B 0)=some (Qa aF):=by rw[cR aC _ 0 _ _ _ lN.out];rfl
 have x1:aC.cell? (Qb B 1)=some (Qa ac):=by rw[cR aC _ 1 _ _ _ lN.out];rfl
 have x2:aC.cell? (Qb B 2)=some (Qa asd):=by rw[cR aC _ 2 _ _ _ lN.out];rfl
 have x3:aC.cell? (Qb B 3)=some (Qa aK):=by rw[cR aC _ 3 _ _ _ lN.out];rfl
 have x4:aC.cell? (Qb B 4)=some (Qa aq):=by rw[cR aC _ 4 _ _ _ lN.out];rfl
 have yH:=abl (b i) w.heap.size (v i) ⟨aF,ac,asd,aK,aq⟩ (L i) 412 (ev 1) (ev 5) (ev 6) (ev 7) aC (jD.out.bY he.out).Ej (jD.out.aH i bQ) (hok.out.aH i bQ).len;have FO:=hDq yH;unfold bU at FO;simp only[]at FO;clear yH
 go_wp2_with fail
 refine FO.out.mono ?_;rintro e ai ⟨rfl,v6,hb6,gL⟩;have fe:=hDq (jD.out.book bQ hb6 gL);have dA:=hDq (d_.out.trans (bK.Ek bQ gL P I));have qQ:Hid (ai.heap[B]?=some (.cells #[Qa aF,Qa ac,Qa asd,Qa aK,Qa aq] 197 (0,0))):=by
  show _=_;rw[gL.only.block B (lBq lN.out) (fun e=>(SY.out i bQ).1 (by simpa using e)) (fun e=>(SY.out i bQ).2 e.symm)];exact lN.out
 have bz:Hid (ai.heap[A]?=some (.cells #[.int .u8 aO,Qa ac,Qa aV,Qa i,Qa asd,Qa aK,Qa aq,Qa aF] 95 (0,0))):=by
  show _=_;rw[gL.only.block A (lBq bA.out) (fun e=>aI bA.out (jD.out.aH i bQ).cell (by decide) (by simpa using e)) (fun e=>jc (jD.out.aH i bQ).row bA.out (by decide) e.symm)];exact bA.out
 clear hb6 gL x0 x1 x2 x3 x4 jD d_ lN bA FO;simp only[];rcases SX.out with hc | hc | hc | hc
 .have hpc:=Bj.out hc
  rw[show tH 412 (ev 1) (ev 5) (ev 6) (ev 7) (Bk.eV (L i) ⟨aF,ac,asd,aK,aq⟩)=.nilIface by rw[hc];rfl];have pY:Bk.kt (L i) ⟨aF,ac,asd,aK,aq⟩=L i++[⟨aF,ac,asd,aK,aq⟩]:=by unfold Bk.kt;rw[if_pos hc]
  rw[pY]at fe;obtain⟨hok1,Ls,hl1⟩:=Bk.Qs hc;have aev:=hDq (aer (l:=L i) (x:=⟨aF,ac,asd,aK,aq⟩) Ls);have SZ:=hDq hpc;have ua:Hid ((L i++[(⟨aF,ac,asd,aK,aq⟩:Cv.ag)]).length<=60):=by show _<=_;simp;omega
  clear hc pY hpc hok1 Ls hl1 Bh Bi yG Bj SX;have x0:ai.cell? (Qb B 0)=some (Qa aF):=by rw[cR ai _ 0 _ _ _ qQ.out];rfl
  have x1:ai.cell? (Qb B 1)=some (Qa ac):=by rw[cR ai _ 1 _ _ _ qQ.out];rfl
  have x2:ai.cell? (Qb B 2)=some (Qa asd):=by rw[cR ai _ 2 _ _ _ qQ.out];rfl
  have x3:ai.cell? (Qb B 3)=some (Qa aK):=by rw[cR ai _ 3 _ _ _ qQ.out];rfl
  have x4:ai.cell? (Qb B 4)=some (Qa aq):=by rw[cR ai _ 4 _ _ _ qQ.out];rfl
  have a3:ai.cell? (Qb A 3)=some (Qa i):=by rw[cR ai _ 3 _ _ _ bz.out];rfl
  have fp:=fe.out.cellP
  go_wp2_with fail
  refine jT 7 (by kernel_rfl) (by kernel_rfl) ?_;simp only[List.take_succ_cons,List.take_zero,List.drop_succ_cons,List.drop_zero]
  repeat (first | go_big_quiet_step (fail) | quiet_step (fail))
  refine wpQuiet_nil ?_;intro _ hw';obtain⟨nq,hw''⟩:=hw';subst hw'';have mr:Hid ((ai.drewN nq).heap[B]?=some (.cells #[Qa aF,Qa ac,Qa asd,Qa aK,Qa aq] 197 (0,0))):=qQ.out;have kC:=hDq (fe.out.later (dL nq));have lI:=hDq (dA.out.below (dL nq));clear x0 x1 x2 x3 x4 a3 fp qQ bz fe dA;generalize ai.drewN nq=br at *;have HH:=hDq (aew P i ⟨aF,ac,asd,aK,aq⟩ pf ev br (kC.out.bY he.out).per kC.out.cQ hok.out.good);unfold bU at HH;simp only[]at HH
  go_wp2_with fail
  refine HH.out.mono ?_;rintro e cn ⟨rfl,S4,FP⟩;have mC:=hDq (kC.out.purse S4 FP);have uo:=hDq (lI.out.trans (bK.Ki FP I b _));have yA:Hid (cn.heap[B]?=some (.cells #[Qa aF,Qa ac,Qa asd,Qa aK,Qa aq] 197 (0,0))):=by
   show _=_;rw[FP.block _ (lBq mr.out) (aI mr.out kC.out.cQ (by decide))];exact mr.out
  clear S4 FP HH mr kC lI;rw[<- SZ.out];simp only[];by_cases h0:pc=0
  .subst h0
   rw[show cV ev 0=.nilIface from rfl];go_wp2;go_ret;refine⟨rfl,_,?_,uo.out⟩;rw[aeu.out (by simp),Lr.out (by simp)];exact mC.out
  .obtain⟨d,rfl⟩:∃ d,pc=d+1:=⟨pc-1,by omega⟩
   rw[show cV ev (d+1)=.iface 412 (ev (d+1)) from rfl];have Bl:Pu.ky pf i ⟨aF,ac,asd,aK,aq⟩=pf:=by unfold Pu.ky;rw[if_neg (by rw[<- SZ.out];omega)]
   rw[Bl]at mC;have x0:cn.cell? (Qb B 0)=some (Qa aF):=by rw[cR cn _ 0 _ _ _ yA.out];rfl
   have hbk:=mC.out.aH i bQ;rw[upd_same,upd_same]at hbk;have hcan:=Qe (b i) w.heap.size v6 aF (L i++[(⟨aF,ac,asd,aK,aq⟩:Cv.ag)]) 412 (ev 1) (ev 5) (ev 6) (ev 7) cn (mC.out.bY he.out).Ej hbk ua.out;have hcl:Bk.dQ (L i++[(⟨aF,ac,asd,aK,aq⟩:Cv.ag)]) aF=L i:=aev.out.2;rw[hcl]at hcan;have Bn:=hDq hcan;clear Bl hbk hcan hcl
   go_wp2_with fail
   refine Bn.out.mono ?_;rintro e i7 ⟨rfl,v9,jB,kB⟩;have Lt:Step cn i7 (b i) (upd v i v6 i) v9:=by rw[upd_same];exact kB
   have sx:=hDq (mC.out.book bQ jB Lt);have Ba:=hDq (uo.out.trans (bK.Ek bQ Lt P I));rw[rZ,rZ,qI L i]at sx;rw[rZ]at Ba;clear jB kB Lt Bn mC uo;simp only[];go_wp2;go_ret;refine⟨rfl,_,?_,Ba.out⟩;rw[jw.out (by omega),fO.out (by omega)];exact sx.out
 .have hpc:pc=1:=Bh.out hc
  rw[show tH 412 (ev 1) (ev 5) (ev 6) (ev 7) (Bk.eV (L i) ⟨aF,ac,asd,aK,aq⟩)=.iface 412 (ev 1) by rw[hc];rfl];have pY:Bk.kt (L i) ⟨aF,ac,asd,aK,aq⟩=L i:=by unfold Bk.kt;rw[if_neg (by rw[hc];decide)]
  rw[pY,qI]at fe;clear hc pY;go_wp2;go_ret;exact⟨by rw[hpc];rfl,_,by rw[jw.out (by omega),fO.out (by omega)];exact fe.out,dA.out⟩
 .have hpc:pc=6:=Bi.out hc
  rw[show tH 412 (ev 1) (ev 5) (ev 6) (ev 7) (Bk.eV (L i) ⟨aF,ac,asd,aK,aq⟩)=.iface 412 (ev 6) by rw[hc];rfl];have pY:Bk.kt (L i) ⟨aF,ac,asd,aK,aq⟩=L i:=by unfold Bk.kt;rw[if_neg (by rw[hc];decide)]
  rw[pY,qI]at fe;clear hc pY;go_wp2;go_ret;exact⟨by rw[hpc];rfl,_,by rw[jw.out (by omega),fO.out (by omega)];exact fe.out,dA.out⟩
 .have hpc:pc=7:=yG.out hc
  rw[show tH 412 (ev 1) (ev 5) (ev 6) (ev 7) (Bk.eV (L i) ⟨aF,ac,asd,aK,aq⟩)=.iface 412 (ev 7) by rw[hc];rfl];have pY:Bk.kt (L i) ⟨aF,ac,asd,aK,aq⟩=L i:=by unfold Bk.kt;rw[if_neg (by rw[hc];decide)]
  rw[pY,qI]at fe;clear hc pY;go_wp2;go_ret;exact⟨by rw[hpc];rfl,_,by rw[jw.out (by omega),fO.out (by omega)];exact fe.out,dA.out⟩
theorem aex (a:Ask) (hF:bk w W F P I b v L pf n wd h) (he:eA w ev) (hok:Fs.dM L pf) :
  Calls Tryz.prog 215 #[Qc F,bu a] W fun e W'=>e=.returned (cV ev (Fl.fA L pf a))/\∃ v',bk w W' F P I b v' (Fl.iB L pf a) (Fl.jV L pf a) n wd h/\bK W W' P I b v v':=by
 by_cases hk:Fl.fV a 111=0
 .exact aet a hF he hok hk
 .exact aes a hF he hk
end
section
variable {w W:World} {F P:Nat} {I b:Nat->Nat} {v:Nat->Value} {L:Nat->List Cv.ag} {pf n:Nat->Int} {wd h:Int} {ev:Nat->Value}
theorem bk.fresh (hF:bk w W F P I b v L pf n wd h) {q:Nat} (hq:W.heap.size<=q):q≠F/\q≠P/\∀ i,i<3->q≠I i/\q≠b i/\(v i).ownBlock≠some q:=by
 have h1:=hF.lt;have h2:=hF.cQ.lt;refine⟨by omega,by omega,fun i hi=>?_⟩;have h3:=lBq (hF.it i hi);have h4:=(hF.aH i hi).lt;exact⟨by omega,by omega,fun e=>by have:=((hF.aH i hi).tJ _ e).2;omega⟩
theorem RH (i:Nat) (hi:i<3) (x:Cv.ag) (hF:Hid (bk w W F P I b v L pf n wd h)) (he:Hid (eA w ev)) (hg:Hid (Pu.Good pf)) (hl:Hid ((L i).length<=60)) :
  Calls Tryz.prog 214 #[Qc F,Qa i,bU x] W fun e W'=>e=.returned (.tuple #[])/\∃ v',bk w W' F P I b v' (upd L i (Bk.dQ (L i) x.id)) (Pu.fE pf i x) n wd h/\bK W W' P I b v v':=by
 obtain⟨x0,x1,x2,x3,x4⟩:=x;unfold bU;simp only[];obtain⟨B,hB⟩:∃ B,W.heap.size=B:=⟨_,rfl⟩;obtain⟨w1,dz⟩:∃ w1,W.alloc (.cells #[Qa x0,Qa x1,Qa x2,Qa x3,Qa x4] 197)=w1:=⟨_,rfl⟩;have hb1:Qd W w1:=by rw[<- dz];exact(bRq _ _).alloc (lRq _) _
 have rR:Hid (w1.heap[B]?=some (.cells #[Qa x0,Qa x1,Qa x2,Qa x3,Qa x4] 197 (0,0))):=by show _=_;rw[<- dz,<- hB];exact hNq _ _
 have fO:=hDq (hF.out.later hb1);have dB:=hDq (bK.of_below hb1 P I b v);have S7:=hDq (hF.out.fresh (q:=B) (by omega));have HW1:=hDq dz;have lB:=hDq hB;clear hb1 dz hB;have kY:w1.cell? (Qb B 0)=some (Qa x0):=by rw[cR w1 _ 0 _ _ _ rR.out];rfl
 have fi:=fO.out.wy hi;have fb:=fO.out.wz hi;have h0:(0:Int)<=(i:Int):=by omega
 have h3:(i:Int)<3:=by omega
 go_enter Tryz.func214,Tryz.ntmps214
 go_wp2_with fail
 rw[HW1.out,lB.out];refine jT 11 (by kernel_rfl) (by kernel_rfl) ?_;simp only[List.take_succ_cons,List.take_zero,List.drop_succ_cons,List.drop_zero]
 repeat (first | go_big_quiet_step (fail) | quiet_step (fail))
 refine wpQuiet_nil ?_;intro _ hw';obtain⟨nq,hw''⟩:=hw';subst hw'';have yI:Hid ((w1.drewN nq).heap[B]?=some (.cells #[Qa x0,Qa x1,Qa x2,Qa x3,Qa x4] 197 (0,0))):=rR.out;have cm:=hDq (fO.out.later (dL nq));have HS2:=hDq (dB.out.below (dL nq));clear kY fi fb rR fO dB HW1;generalize w1.drewN nq=w2 at *;have Bn:=hDq (Qe (b i) w.heap.size (v i) x0 (L i) 412 (ev 1) (ev 5) (ev 6) (ev 7) w2 (cm.out.bY he.out).Ej (cm.out.aH i hi) hl.out)
 go_wp2_with fail
 refine Bn.out.mono ?_;rintro e w3 ⟨rfl,v3,hb3,hs3⟩;have gA:=hDq (cm.out.book hi hb3 hs3);have cK:=hDq (HS2.out.trans (bK.Ek hi hs3 P I));have er:Hid (w3.heap[B]?=some (.cells #[Qa x0,Qa x1,Qa x2,Qa x3,Qa x4] 197 (0,0))):=by
  show _=_;rw[hs3.only.block B (lBq yI.out) (fun e=>(S7.out.2.2 i hi).2.1 (by simpa using e)) (fun e=>(S7.out.2.2 i hi).2.2 e.symm)];exact yI.out
 clear hb3 hs3 Bn yI cm HS2;simp only[];have kY:w3.cell? (Qb B 0)=some (Qa x0):=by rw[cR w3 _ 0 _ _ _ er.out];rfl
 have k1:w3.cell? (Qb B 1)=some (Qa x1):=by rw[cR w3 _ 1 _ _ _ er.out];rfl
 have k2:w3.cell? (Qb B 2)=some (Qa x2):=by rw[cR w3 _ 2 _ _ _ er.out];rfl
 have k3:w3.cell? (Qb B 3)=some (Qa x3):=by rw[cR w3 _ 3 _ _ _ er.out];rfl
 have k4:w3.cell? (Qb B 4)=some (Qa x4):=by rw[cR w3 _ 4 _ _ _ er.out];rfl
 have fp:=gA.out.cellP
 go_wp2_with fail
 refine jT 6 (by kernel_rfl) (by kernel_rfl) ?_;simp only[List.take_succ_cons,List.take_zero,List.drop_succ_cons,List.drop_zero]
 repeat (first | go_big_quiet_step (fail) | quiet_step (fail))
 refine wpQuiet_nil ?_;intro _ hw';obtain⟨nq,hw''⟩:=hw';subst hw'';have dr:=hDq (gA.out.later (dL nq));have cq:=hDq (cK.out.below (dL nq));clear kY k1 k2 k3 k4 fp er gA cK;generalize w3.drewN nq=w4 at *;have FQ:=hDq (Lu P i ⟨x0,x1,x2,x3,x4⟩ pf ev w4 (dr.out.bY he.out).per dr.out.cQ hg.out);unfold bU at FQ;simp only[]at FQ
 go_wp2_with fail
 refine FQ.out.mono ?_;rintro e aC ⟨rfl,uv,hs5⟩;have jD:=hDq (dr.out.purse uv hs5);have d_:=hDq (cq.out.trans (bK.Ki hs5 I b _));clear uv hs5 FQ dr cq;simp only[];go_wp2;go_end0;exact⟨rfl,_,jD.out,d_.out⟩
end
end Go.Proofs.YtjolccidheflpaaGreatDoor
