/- recover.partsOf, by its contract. -/
import Derived.Test.YtjolccidheflpaaGreatDoorV39
import Derived.Test.YtjolccidheflpaaGreatDoorV17
import Derived.Test.YtjolccidheflpaaGreatDoorV40
import Derived.Test.YtjolccidheflpaaGreatDoorV41
import Derived.Test.YtjolccidheflpaaGreatDoorV43
import Derived.Test.YtjolccidheflpaaGreatDoorV35
import Derived.Test.YtjolccidheflpaaGreatDoorV32
import Derived.Test.YtjolccidheflpaaGreatDoorV34
namespace Go.Proofs.YtjolccidheflpaaGreatDoor
set_option maxHeartbeats 8000000
open Go.RowKit Go.Shelf
attribute [local go_sem] Oper.semAt_some
set_option maxRecDepth 100000
structure jN (w W:World) (N:Nat) (n:Int) (bf vf:Value) (ok:Bool):Prop where
 r0:W.heap[N]?=some (.cells #[.int .i64 n,bf,vf] 86 (0,0))
 r1:W.heap[N+1]?=some (.cells #[.bool ok] 4 (0,0))
 below:Below N w W
theorem jN.lt {w W:World} {N:Nat} {n:Int} {bf vf:Value} {ok:Bool} (h:jN w W N n bf vf ok):N+1<W.heap.size:=lBq h.r1
theorem jN.later {w W V:World} {N:Nat} {n:Int} {bf vf:Value} {ok:Bool} (h:jN w W N n bf vf ok) (hb:Below W.heap.size W V):jN w V N n bf vf ok :=
 ⟨(hb.block _ (lBq h.r0)).trans h.r0,(hb.block _ (lBq h.r1)).trans h.r1,h.below.trans (hb.mono (by have:=h.lt;omega))⟩
theorem jN.put {w W:World} {N:Nat} {n:Int} {bf vf:Value} {ok:Bool} (h:jN w W N n bf vf ok) (n':Int) (pQ pR:Value) (zA:Bool) :
  jN w ((((W.setCell ⟨N,0,none⟩ (.int .i64 n')).setCell ⟨N,1,none⟩ pQ).setCell ⟨N,2,none⟩ pR).setCell ⟨N+1,0,none⟩ (.bool zA)) N n' pQ pR zA:=by
 refine⟨?_,?_,(((h.below.setCell (p:=⟨N,0,none⟩) (lRq _) _).setCell (p:=⟨N,1,none⟩) (lRq _) _).setCell (p:=⟨N,2,none⟩) (lRq _) _).setCell (p:=⟨N+1,0,none⟩) (Nat.le_succ _) _⟩
 ·rw[Below.heap_setCell _ _ _ _ (show N≠N+1 by omega)]
  exact heap_setCell_same _ N 2 _ _ _ (heap_setCell_same _ N 1 _ _ _ (heap_setCell_same _ N 0 _ _ _ h.r0))
 ·exact heap_setCell_same _ (N+1) 0 #[.bool ok] 4 (.bool zA) (by
   rw[Below.heap_setCell _ _ _ _ (show N+1≠N by omega),Below.heap_setCell _ _ _ _ (show N+1≠N by omega),Below.heap_setCell _ _ _ _ (show N+1≠N by omega)];exact h.r1)
theorem ZB (W:World) (N:Nat) (a b c d:Value):KeepsOthers W ((((W.setCell ⟨N,0,none⟩ a).setCell ⟨N,1,none⟩ b).setCell ⟨N,2,none⟩ c).setCell ⟨N+1,0,none⟩ d) :=
 (((KeepsOthers.setCell _ _ _).trans (KeepsOthers.setCell _ _ _)).trans (KeepsOthers.setCell _ _ _)).trans (KeepsOthers.setCell _ _ _)
theorem PH {W:World} {N:Nat} {e:TypeId} {sz k:Nat} {v:Value} {xs:List Value} (h:W.ownsRow (N+2) e sz v k xs) (a b c d:Value):((((W.setCell ⟨N,0,none⟩ a).setCell ⟨N,1,none⟩ b).setCell ⟨N,2,none⟩ c).setCell ⟨N+1,0,none⟩ d).ownsRow (N+2) e sz v k xs:=by
 have ne:∀ p,p<N+2->v.ownBlock=none∨v.ownBlock≠some p:=fun p hp=>by
  cases hv:v.ownBlock with
  | none=>exact .inl rfl
  | some g=>exact .inr fun e=>by cases e;have:=pT h hv;omega
 exact(((h.kept (Lib.grownBy_setCell _ _ _ _) (ne N (by omega))).kept (Lib.grownBy_setCell _ _ _ _) (ne N (by omega))).kept (Lib.grownBy_setCell _ _ _ _) (ne N (by omega))).kept (Lib.grownBy_setCell _ _ _ _) (ne (N+1) (by omega))
theorem jN.cells {w W:World} {N:Nat} {n:Int} {bf vf:Value} {ok:Bool} (h:jN w W N n bf vf ok):W.cell? ⟨N,0,none⟩=some (.int .i64 n)∧W.cell? ⟨N,1,none⟩=some bf∧W.cell? ⟨N,2,none⟩=some vf∧W.cell? ⟨N+1,0,none⟩=some (.bool ok)∧(∀ j,W.frozen? ⟨N,j,none⟩=false)∧W.frozen? ⟨N+1,0,none⟩=false :=
 ⟨by rw[cR W _ 0 _ _ _ h.r0];rfl,by rw[cR W _ 1 _ _ _ h.r0];rfl,by rw[cR W _ 2 _ _ _ h.r0];rfl,by rw[cR W _ 0 _ _ _ h.r1];rfl,fun j=>by simp[World.frozen?,h.r0],by simp[World.frozen?,h.r1]⟩
theorem jN.kept {w W V:World} {N:Nat} {n:Int} {bf vf:Value} {ok:Bool} {row:Option Nat} (h:jN w W N n bf vf ok) (hg:W.grownBy V row) (hr:∀ r,row=some r->N+1<r):jN w V N n bf vf ok :=
 ⟨(hg.block _ (lBq h.r0) (fun e=>by have:=hr _ e.symm;omega)).trans h.r0,(hg.block _ (lBq h.r1) (fun e=>by have:=hr _ e.symm;omega)).trans h.r1,h.below.grown hg (by have:=h.lt;omega) (fun k e=>by have:=hr k e;omega)⟩
def pU (pre:List ByteArray) (fs:List (List UInt8)):Prop:=(∀ qs,bW (pre.map (·.data.toList)++qs)=(bW qs).map (fs++·))∧fs.length=pre.length
theorem pU.nil:pU [] []:=⟨fun qs=>by cases h:bW qs <;> simp[h],rfl⟩
theorem pU.step {pre:List ByteArray} {fs:List (List UInt8)} (h:pU pre fs) {p:ByteArray} {x:List UInt8} (hp:unhex p.data.toList=some x):pU (pre++[p]) (fs++[x]):=by
 refine⟨fun qs=>?_,by rw[lAq,lAq,h.2];rfl⟩;rw[List.map_append,aAq,h.1];simp only[List.map_cons,List.map_nil,List.singleton_append,bW,hp];cases bW qs <;> simp
theorem pU.bad {pre:List ByteArray} {fs:List (List UInt8)} (h:pU pre fs) {p:ByteArray} (hp:unhex p.data.toList=none) (qs:List (List UInt8)):bW (pre.map (·.data.toList)++p.data.toList::qs)=none:=by
 rw[h.1];simp only[bW,hp];rfl
theorem pU.all {pre:List ByteArray} {fs:List (List UInt8)} (h:pU pre fs):bW (pre.map (·.data.toList))=some fs:=by have:=h.1 [];simpa [bW] using this
theorem zB (c:UInt8):∀ l:List UInt8,(pieces c l).length<=l.length+1
 | []=>lRq _
 | x::l=>by
  have:=zB c l
  unfold pieces;split
  ·simp;omega
  ·simp;omega
theorem PI (c:UInt8):∀ (l:List UInt8) (p:List UInt8),p∈pieces c l->p.length<=l.length
 | [],p,h=>by simp[pieces]at h;simp[h]
 | x::l,p,h=>by
  have ih:=PI c l;unfold pieces at h;split at h
  ·rcases List.mem_cons.1 h with rfl | h1
   ·exact Nat.zero_le _
   ·have:=ih p h1;simp;omega
  ·have hne:pieces c l≠[]:=by cases l with
    | nil=>simp[pieces]
    | cons y l=>unfold pieces;split <;> simp
   obtain⟨q,r,hq⟩:=List.exists_cons_of_ne_nil hne;rw[hq]at h ih;simp only[List.headD_cons,List.tail_cons]at h;rcases List.mem_cons.1 h with rfl | h1
   ·have:=ih q mSq;simp;omega
   ·have:=ih p (mOq _ h1);simp;omega
theorem ZC (l:List (List UInt8)):(l.map ai).map (·.data.toList)=l:=by rw[List.map_map];exact List.map_id l
def lD (fs:List (List UInt8)):List Value:=fs.map fun f=>Value.string (ai f)
structure lF (w:World) (N R:Nat) (n:Int) (bf:Value) (ds:List Nat) (fs:List (List UInt8)) (vf:Value) (W:World):Prop where
 pb:∃ n' pQ pR ok,jN w W N n' pQ pR ok
 rb:W.heap[R]?=some (.cells #[.int .i64 n,bf,vf] 86 (0,0))
 rd:W.ownsRow N 3 1 bf ds.length (eF ds)
 dl:∀ g,bf.ownBlock=some g->N+1<g∧g<R
 j6:W.ownsRow (R+4) 9 1 vf fs.length (lD fs)
 big:R+4<=W.heap.size
 lo:N+1<R
section
variable {w W V:World} {N R:Nat} {n:Int} {bf vf:Value} {ds:List Nat} {fs:List (List UInt8)}
theorem lF.grown {row:Option Nat} (h:lF w N R n bf ds fs vf W) (hg:W.grownBy V row) (hr:∀ r,row=some r->r=R+1∨(R+4<=r∧∃ o:Obj,W.heap[r]?=some o∧o.isCells=false)):lF w N R n bf ds fs vf V:=by
 have hlo:=h.lo;obtain⟨n',pQ,pR,ok,hp⟩:=h.pb;have hle:∀ r,row=some r->R<r:=fun r e=>by rcases hr r e with h' | ⟨h',_⟩ <;> omega
 refine⟨⟨_,_,_,_,hp.kept hg (fun r e=>by have:=hle r e;omega)⟩,(hg.block _ (lBq h.rb) (fun e=>by have:=hle _ e.symm;omega)).trans h.rb,h.rd.kept hg ?_,h.dl,h.j6.kept hg ?_,lTq h.big hg.size,hlo⟩
 ·cases hv:bf.ownBlock with
  | none=>exact .inl rfl
  | some g=>exact .inr fun e=>by have:=h.dl g hv;have:=hle g e.symm;omega
 ·cases hv:vf.ownBlock with
  | none=>exact .inl rfl
  | some g =>
   refine .inr fun e=>?_;have kM:=pT h.j6 hv;rcases hr g e.symm with h' | ⟨_,o,ho,hc⟩
   ·omega
   ·rcases h.j6.2 with ⟨rfl,_⟩ | ⟨g',cap,cur,rfl,_,hgb,_⟩
    ·simp[Value.ownBlock]at hv
    ·obtain rfl:g'=g:=by simpa [Value.ownBlock] using hv
     rw[hgb]at ho;cases ho;cases hc
theorem lF.later (h:lF w N R n bf ds fs vf W) (hb:Below W.heap.size W V):lF w N R n bf ds fs vf V :=
 h.grown (row:=none) ⟨hb.os,hb.tape,hb.output,hb.size,fun i hi _=>hb.block i hi⟩ (fun r e=>by cases e)
theorem lF.pushed {w1:World} {x:List UInt8} {v':Value} {tmp:Obj} (h:lF w N R n bf ds fs vf W) (hg:(W.alloc tmp).grownBy w1 vf.ownBlock) (hr:w1.ownsRow (R+4) 9 1 v' (fs.length+1) (lD fs++[.string (ai x)])) :
  w1.heap[R]?=some (.cells #[.int .i64 n,bf,vf] 86 (0,0))∧lF w N R n bf ds (fs++[x]) v' (w1.setCell ⟨R,2,none⟩ v')∧KeepsOthers W (w1.setCell ⟨R,2,none⟩ v')∧tY.At [R+1,R+2,R+3] W (w1.setCell ⟨R,2,none⟩ v'):=by
 have ha:=h.grown (World.grownBy_alloc W tmp none) (fun r e=>by cases e);have hlo:=h.lo;have IJ:=h.big;have kM:∀ k,vf.ownBlock=some k->R+4<=k:=fun k e=>pT h.j6 e;have amd:∀ k,v'.ownBlock=some k->R+4<=k:=fun k e=>pT hr e;obtain⟨n',pQ,pR,ok,hp⟩:=ha.pb;have hrb:=(hg.block _ (lBq ha.rb) (fun e=>by have:=kM _ e.symm;omega)).trans ha.rb;have hg2:w1.grownBy (w1.setCell ⟨R,2,none⟩ v') (some R):=⟨rfl,rfl,rfl,by simp[World.setCell],fun k _ hk=>Below.heap_setCell _ _ _ _ (fun e=>hk (by simp[e]))⟩;refine⟨hrb,⟨⟨_,_,_,_,(hp.kept hg (fun r e=>by have:=kM r e;omega)).kept hg2 (fun r e=>by cases e;omega)⟩,heap_setCell_same w1 R 2 _ _ _ hrb,?_,h.dl,?_,?_,hlo⟩,?_,?_⟩
 ·refine(ha.rd.kept hg ?_).kept hg2 ?_
  ·cases hv:bf.ownBlock with
   | none=>exact .inl rfl
   | some g=>exact .inr fun e=>by have:=h.dl g hv;have:=kM g e.symm;omega
  ·cases hv:bf.ownBlock with
   | none=>exact .inl rfl
   | some g=>exact .inr fun e=>by cases e;have:=h.dl _ hv;omega
 ·have:=hr.kept hg2 (by
   cases hv:v'.ownBlock with
   | none=>exact .inl rfl
   | some g=>exact .inr fun e=>by cases e;have:=amd _ hv;omega)
  simpa [lD] using this
 ·have:=hg.size;simp at this ⊢;omega
 ·exact((KeepsOthers.alloc W tmp).trans (ZD ha.j6 hg)).trans (KeepsOthers.setCell _ _ _)
 ·intro k hk
  have hk':R+1<=k∧k<R+4:=by simp at hk;omega
  have hsz:=hg.size;refine(hg2.block k ?_ ?_).trans ((hg.block k ?_ (fun e=>by have:=kM k e.symm;omega)).trans (Below.heap_alloc W tmp k ?_))
  ·simp at hsz;omega
  ·simp;omega
  ·simp;omega
  ·omega
theorem PK {W:World} {b c e sz k:Nat} {v:Value} {xs:List Value} (h:W.ownsRow b e sz v k xs) (hv:∀ g,v.ownBlock=some g->c<=g):W.ownsRow c e sz v k xs :=
 ⟨h.1,h.2.imp id fun ⟨g,cap,cur,e1,_,rest⟩=>⟨g,cap,cur,e1,hv g (by rw[e1];rfl),rest⟩⟩
theorem lF.put (h:lF w N R n bf ds fs vf W) (n':Int) (pQ pR:Value) (zA:Bool):lF w N R n bf ds fs vf ((((W.setCell ⟨N,0,none⟩ (.int .i64 n')).setCell ⟨N,1,none⟩ pQ).setCell ⟨N,2,none⟩ pR).setCell ⟨N+1,0,none⟩ (.bool zA)):=by
 obtain⟨_,_,_,_,hp⟩:=h.pb;have hlo:=h.lo;refine⟨⟨_,_,_,_,hp.put n' pQ pR zA⟩,?_,gw (PH (PK h.rd fun g e=>by have:=h.dl g e;omega) _ _ _ _) (by omega),h.dl,PK (PH (PK h.j6 fun g e=>by have:=pT h.j6 e;omega) _ _ _ _) (fun g e=>pT h.j6 e),by simpa using h.big,hlo⟩;rw[Below.heap_setCell _ _ _ _ (show R≠N+1 by omega),Below.heap_setCell _ _ _ _ (show R≠N by omega),Below.heap_setCell _ _ _ _ (show R≠N by omega),Below.heap_setCell _ _ _ _ (show R≠N by omega)];exact h.rb
end
theorem zC (l sep:List UInt8):(Lib.cut l sep).1.length<=l.length∧(Lib.cut l sep).2.1.length<=l.length:=by
 unfold Lib.cut;split
 ·simp only[List.length_take,List.length_drop];omega
 ·exact⟨lRq _,Nat.zero_le _⟩
theorem Dm (l:List UInt8):(ai l).data.toList=l:=rfl
theorem ma (l:List UInt8):(ai l).size=l.length:=rfl
def uJ (C D:List UInt8×List UInt8×Bool):Option (Nat×List Nat×List (List UInt8)) :=
 if C.2.2=true then
  match dX 9 (ai C.1),iY (ai D.1) with
  | some n,some ds=>if D.2.2=true then (bW (pieces 32 D.2.1)).map fun fs=>(n,ds,fs) else some (n,ds,[])
  | _,_=>none
 else none
theorem Dj (s:ByteArray):dY s=uJ (Lib.cut s.data.toList [58]) (Lib.cut (Lib.cut s.data.toList [58]).2.1 [32]):=rfl
def PL (w:World) (R:Option (Nat×List Nat×List (List UInt8))) (e:Ending) (w':World):Prop :=
 ∃ n bf vf,e=.returned (.tuple #[.agg #[.int .i64 n,bf,vf],.bool R.isSome])∧Below w.heap.size w w' ∧
  (∀ m ds fs,R=some (m,ds,fs)->n=m∧w'.ownsRow w.heap.size 3 1 bf ds.length (eF ds)∧w'.ownsRow w.heap.size 9 1 vf fs.length (lD fs))∧(∃ a k c,bf=.slice a k c)∧∃ a k c,vf=.slice a k c
theorem ame (s:ByteArray) (w:World) (hL:jM w) (hs:s.size<=1000000) :
  Calls Tryz.prog 42 #[.string s] w (PL w (dY s)):=by
 obtain⟨N,hN⟩:∃ N,w.heap.size=N:=⟨_,rfl⟩;have hB0:jN w ((w.alloc (.cells #[.int .i64 0,.slice none 0 0,.slice none 0 0] 86)).alloc (.cells #[.bool false] 4)) N 0 (.slice none 0 0) (.slice none 0 0) false:=by
  subst hN;refine⟨?_,?_,((bRq _ _).alloc (lRq _) _).alloc (by simp) _⟩
  ·rw[Below.heap_alloc _ _ _ (by simp)];exact hNq _ _
  ·have:=hNq (w.alloc (.cells #[.int .i64 0,.slice none 0 0,.slice none 0 0] 86)) (.cells #[.bool false] 4)
   rwa [World.size_alloc]at this
 obtain⟨ou,Dn⟩:∃ ou,(w.alloc (.cells #[.int .i64 0,.slice none 0 0,.slice none 0 0] 86)).alloc (.cells #[.bool false] 4)=ou:=⟨_,rfl⟩;have PN:jM ou:=by rw[Dn]at hB0;exact hL.later (by rw[hN];exact hB0.below)
 have hl1:=zC s.data.toList [58];have hc1:=Zp s 58 ou PN (by omega);rw[Dn]at hB0;rw[Dj];generalize Lib.cut s.data.toList [58]=C1 at *;obtain⟨a1,a2,a3⟩:=C1;simp only[]at hl1 hc1 ⊢;have hs':s.data.toList.length<=1000000:=by rw[Array.length_toList];exact hs
 have hl2:=zC a2 [32];have hc2:∀ W,jM W->Calls Tryz.prog 81 #[.string (ai a2),.string ⟨#[32]⟩] W fun e w'=>e=.returned (.tuple #[.string (ai (Lib.cut a2 [32]).1),.string (ai (Lib.cut a2 [32]).2.1),.bool (Lib.cut a2 [32]).2.2])∧Below W.heap.size W w' :=
  fun W hW=>Zp (ai a2) 32 W hW (by rw[ma];omega)
 generalize Lib.cut a2 [32]=C2 at *;obtain⟨b1,b2,b3⟩:=C2;simp only[]at hl2 hc2 ⊢;have oq:∀ W,jM W->Calls Tryz.prog 82 #[.string (ai a1),.int .i64 9] W fun e w'=>e=.returned (.tuple #[.int .i64 ((dX 9 (ai a1)).getD 0),.bool (dX 9 (ai a1)).isSome])∧Below W.heap.size W w' :=
  fun W hW=>Zq 9 (by omega) (ai a1) W hW.num
 have qC:∀ W,jM W->_:=fun W hW=>amf strings_Index_one (ai b1) W hW.num (by rw[ma];omega);have bD:=hDq hB0;have vI:=hDq hc1;have nN:=hDq hc2;have ZE:=hDq oq;have uL:=hDq qC;have rZ:=hDq PN;clear hB0 hc1 hc2 oq qC PN;obtain⟨R,hR⟩:∃ R,uJ (a1,a2,a3) (b1,b2,b3)=R:=⟨_,rfl⟩;rw[hR];have HR:=hDq hR;clear hR;refine(callsIn_wide (n:=5)).1 ?_;refine callsIn_of_wp_marks Tryz.func42 rfl trivial ?_ rfl;simp only[Tryz.ntmps42,List.size_toArray,List.length_cons,List.length_nil,Nat.reduceAdd,Nat.reduceSub,Array.replicate_succ,Array.replicate_zero,List.push_toArray,List.append_toArray,List.nil_append,List.cons_append]
 gi_wp2
 refine⟨trivial,(callsIn_wide.2 vI.out).mono ?_⟩;rintro e w1 ⟨rfl,hb1⟩;have HB1:=hDq (bD.out.later hb1);have gL:=hDq (rZ.out.later hb1);clear hb1 bD rZ vI Dn;simp only[]
 gi_wp2
 refine⟨trivial,(callsIn_wide.2 (ZE.out w1 gL.out)).mono ?_⟩;rintro e w2 ⟨rfl,hb2⟩;have HB2:=hDq (HB1.out.later hb2);have iN:=hDq (gL.out.later hb2);clear hb2 HB1 gL ZE;simp only[]
 gi_wp2
 refine⟨trivial,(callsIn_wide.2 (nN.out w2 iN.out)).mono ?_⟩;rintro e w3 ⟨rfl,hb3⟩;have au:=hDq (HB2.out.later hb3);have qf:=hDq (iN.out.later hb3);clear hb3 HB2 iN nN;simp only[]
 gi_wp2
 refine⟨trivial,(callsIn_wide.2 (uL.out w3 qf.out)).mono ?_⟩;rintro e w4 ⟨bf,rfl,hb4,hrd⟩;have bg:=hDq (au.out.later hb4);have kH:=hDq (qf.out.later hb4);have iZ:=hDq (gw hrd (show N+2<=w3.heap.size by have:=au.out.lt;omega));clear hb4 au qf uL hrd;simp only[];obtain⟨n0,n1,n2,n3,z0,z3⟩:=bg.out.cells;have HBAD:Hid (R=none->∀ W,jN w W N 0 (.slice none 0 0) (.slice none 0 0) false->PL w R (.returned (.tuple #[.agg #[.int .i64 0,.slice none 0 0,.slice none 0 0],.bool false])) W):=hDq fun e W hp=>by
  subst e;exact⟨0,_,_,rfl,by rw[hN];exact hp.below,fun m ds fs e=>(by cases e),⟨_,_,_,rfl⟩,_,_,_,rfl⟩
 by_cases hok:a3=true∧(dX 9 (ai a1)).isSome=true∧(iY (ai b1)).isSome=true
 ·obtain⟨rfl,h1,h2⟩:=hok
  obtain⟨n,hn⟩:=Option.isSome_iff_exists.1 h1;obtain⟨ds,IQ⟩:=Option.isSome_iff_exists.1 h2;rw[hn,IQ];rw[IQ]at iZ;simp only[Option.getD_some,Option.isSome_some]at iZ ⊢;have aT:Hid (R=if b3=true then (bW (pieces 32 b2)).map fun fs=>(n,ds,fs) else some (n,ds,[])):=hDq (by rw[<- HR.out];unfold uJ;simp only[hn,IQ];rfl);clear h1 h2 hn IQ HR HBAD;obtain⟨da,eT,gX⟩:=eo iZ.out;subst gX;obtain⟨i6,yT⟩:∃ i6,w4.heap.size=i6:=⟨_,rfl⟩;have hlt:=bg.out.lt;have hI:lF w N i6 n (.slice da ds.length eT) ds [] (.slice none 0 0) (mb (ai b2) ⟨#[32]⟩ (w4.alloc (.cells #[.int .i64 n,.slice da ds.length eT,.slice none 0 0] 86))):=by
   have hg:=(World.grownBy_alloc w4 (.cells #[.int .i64 n,.slice da ds.length eT,.slice none 0 0] 86) none).trans (PO (ai b2) ⟨#[32]⟩ _);have hg2:=PO (ai b2) ⟨#[32]⟩ (w4.alloc (.cells #[.int .i64 n,.slice da ds.length eT,.slice none 0 0] 86));refine⟨⟨_,_,_,_,bg.out.kept hg (fun r e=>by cases e)⟩,?_,gw (iZ.out.kept hg (Classical.em _)) (by omega),?_,World.ownsRow_nil _ _ _ _,?_,by omega⟩
   ·rw[<- yT];exact(hg2.block _ (by simp) (by simp)).trans (hNq w4 _)
   ·intro g hgv
    have:=iZ.out.lt g hgv
    omega
   ·rw[IU];simp;omega
  have bE:=hDq (bg.out.later ((bRq _ _).alloc (lRq _) (.cells #[.int .i64 n,.slice da ds.length eT,.slice none 0 0] 86)));have jb:=hDq (iZ.out.alloc (.cells #[.int .i64 n,.slice da ds.length eT,.slice none 0 0] 86));have qL:=hNq w4 (.cells #[.int .i64 n,.slice da ds.length eT,.slice none 0 0] 86);rw[yT]at qL;have hs5:(w4.alloc (.cells #[.int .i64 n,.slice da ds.length eT,.slice none 0 0] 86)).heap.size=i6+1:=by simp[yT]
  clear n0 n1 n2 n3 z0 z3;obtain⟨n0,n1,n2,n3,z0,z3⟩:=bE.out.cells;have HI:=hDq hI;have ao7:=hDq qL;have ib:=hDq hs5;clear hI qL hs5;cases b3 with
  | false =>
   have qa:R=some (n,ds,[]):=aT.out;have amg:Hid (∀ W,jN w W N n (.slice da ds.length eT) (.slice none 0 0) true->W.ownsRow w.heap.size 3 1 (.slice da ds.length eT) ds.length (eF ds)->PL w R (.returned (.tuple #[.agg #[.int .i64 n,.slice da ds.length eT,.slice none 0 0],.bool true])) W):=hDq fun W hp hd=>by
    subst qa;exact⟨n,_,_,rfl,by rw[hN];exact hp.below,fun m ds' fs e=>(by cases e;exact⟨rfl,hd,World.ownsRow_nil _ _ _ _⟩),⟨_,_,_,rfl⟩,_,_,_,rfl⟩
   clear qa
   gi_wp2
   generalize w4.alloc (.cells #[.int .i64 n,.slice da ds.length eT,.slice none 0 0] 86)=aQ at *;have HE:=hDq (bE.out.put n (.slice da ds.length eT) (.slice none 0 0) true);have vE:=hDq (PH jb.out (.int .i64 n) (.slice da ds.length eT) (.slice none 0 0) (.bool true));generalize (((aQ.setCell ⟨N,0,none⟩ (.int .i64 n)).setCell ⟨N,1,none⟩ (.slice da ds.length eT)).setCell ⟨N,2,none⟩ (.slice none 0 0)).setCell ⟨N+1,0,none⟩ (.bool true)=W5 at *;obtain⟨m0,m1,m2,m3,y0,y3⟩:=HE.out.cells;refine⟨.tuple #[.agg #[.int .i64 n,.slice da ds.length eT,.slice none 0 0],.bool true],?_,amg.out _ HE.out (gw vE.out (by omega))⟩;simp[results,Tryz.f42,go_sem,m0,m1,m2,m3]
  | true =>
   gi_wp2
   refine⟨trivial,(callsIn_wide.2 (ZF (ai b2) ⟨#[32]⟩ _)).mono ?_⟩;rintro e aj ⟨rfl,rfl⟩;simp only[];generalize w4.alloc (.cells #[.int .i64 n,.slice da ds.length eT,.slice none 0 0] 86)=aQ at *
   gi_wp2
   have hsz:=ib.out;have hW0:(mb (ai b2) ⟨#[32]⟩ aQ).heap.size=i6+4:=by rw[IU,hsz]
   have zD:((pieces 32 b2).map ai).length<=1000001:=by rw[List.length_map];have:=zB 32 b2;omega
   refine tY.WW rfl (by omega) (gf:=197) (lb:=#[.pointer (some ⟨i6+2,0,none⟩),.pointer (some ⟨i6+1,0,none⟩),.pointer (some ⟨i6+3,0,none⟩)]) (by simp only[Dp,hsz];rfl) trivial (enters_of Tryz.func197 (by kernel_rfl) rfl)
    (ZG strings_Index_one _ (by omega) (ai b2) 32 (by rw[ma];omega) (i6+1) (i6+2) (i6+3) (by omega) (by omega)) ?H (by omega) ?K (fun _=>rfl)
    (fun pre W=>∃ fs vf,pU pre fs∧lF w N i6 n (.slice da ds.length eT) ds fs vf W)
    (fun c _ W=>c=.ret∧bW (pieces 32 b2)=none∧∃ fs vf,lF w N i6 n (.slice da ds.length eT) ds fs vf W∧jN w W N 0 (.slice none 0 0) (.slice none 0 0) false)
    ?I ?Ix ⟨[],_,pU.nil,HI.out⟩ ?a1 ?assign ?body ?done ?stop
   case assign =>
    intro l x W K hK
    gi_wp2
    exact hK
   case H =>
    intro o o';have e1:=(((ZH (ai b2) ⟨#[32]⟩ aQ).alloc o).alloc o');have e2:=(((ZI (ai b2) ⟨#[32]⟩ aQ).alloc o).alloc o');have e3:=(((ZJ (ai b2) ⟨#[32]⟩ aQ).alloc o).alloc o');rw[hsz]at e1 e2 e3;exact⟨e1,e2,e3⟩
   case K=>intro k hk;simp at hk;omega
   case I =>
    rintro s' A B row ⟨fs,vf,hF,hi⟩ hg hr;exact⟨fs,vf,hF,hi.grown hg (fun r e=>by rw[hW0]at hr;exact hr r e)⟩
   case Ix =>
    rintro c s' A B row ⟨hc,hn,fs,vf,hi,hp⟩ hg hr;exact⟨hc,hn,fs,vf,hi.grown hg (fun r e=>by rw[hW0]at hr;exact hr r e),hp.kept hg (fun r e=>by have:=hi.lo;rw[hW0]at hr;rcases hr r e with h' | ⟨h',_⟩ <;> omega)⟩
   case body =>
    rintro l pre x W ⟨fs,vf,hF,hi⟩ ⟨qs,kN⟩;have hxs:(pieces 32 b2).map ai=pre++x::qs:=by rw[Dm]at kN;rw[<- kN];simp
    have hps:pieces 32 b2=pre.map (·.data.toList)++x.data.toList::qs.map (·.data.toList):=by
     have:=congrArg (List.map (fun y:ByteArray=>y.data.toList)) hxs
     rw[ZC]at this;simpa using this
    have hx:x.size<=1000000:=by
     have:=PI 32 b2 x.data.toList (by rw[hps];simp)
     rw[Array.length_toList]at this;have h3:x.data.size=x.size:=rfl;omega
    have hfl:fs.length<=1000001:=by have:=congrArg List.length hxs;rw[lAq]at this;rw[hF.2];omega
    have hby:=alD x W hx;cases hu:unhex x.data.toList with
    | none =>
     have lM:bW (pieces 32 b2)=none:=by rw[hps];exact hF.bad hu _
     rw[hu]at hby
     gi_wp2_with (first | (refine⟨trivial,?_⟩;gi_at_call 85;refine(CallsIn.inRound l (callsIn_wide.2 hby)).mono ?_;rintro e bh ⟨rfl,hb⟩;have xk:=hi.later hb;obtain⟨n',pQ,pR,ok,ZK⟩:=xk.pb;obtain⟨m0,m1,m2,m3,y0,y3⟩:=ZK.cells) | (refine⟨trivial,?_⟩))
     exact⟨(zE hb).trans (ZB _ _ _ _ _ _),rfl,lM,fs,vf,xk.put _ _ _ _,ZK.put _ _ _ _⟩
    | some y =>
     rw[hu]at hby;obtain⟨i9,hi9,hz0,hz1,hz2⟩:=N6
     gi_wp2_with (first | (refine⟨trivial,?_⟩;gi_at_call 85;refine(CallsIn.inRound l (callsIn_wide.2 hby)).mono ?_;rintro e bh ⟨rfl,hb⟩;have xk:=hi.later hb;have d2:bh.cell? ⟨i6,2,none⟩=some vf:=(by rw[cR bh _ 2 _ _ _ xk.rb];rfl)) | (gi_at_builtin;refine wpListIn_append_own _ rfl _ _ 70 rfl (i6+4) 9 i9 (.string ⟨#[]⟩) 1 16 Tryz.underlying70 hi9 hz0 hz1 hz2 rfl (by decide) _ _ _ rfl (xk.j6.alloc _) ⟨_,0,none⟩ 1 1 [.string (ai y)] rfl rfl (cell_one_new _ _ _) (by simp[Value.oneCell']) (by simp[maxLen];omega) (by omega) (by have:=xk.big;simp;omega) ?_;intro v' bY hown' hgrow _;obtain⟨g',cap',rfl⟩:=ownsRow_succ hown';obtain⟨k2,amh,ami,amj⟩:=xk.pushed hgrow hown';have f2:bY.cell? ⟨i6,2,none⟩=some vf:=(by rw[cR bY _ 2 _ _ _ k2];rfl);have f3:bY.frozen? ⟨i6,2,none⟩=false:=(by simp[World.frozen?,k2])) | (refine⟨trivial,?_⟩))
     exact⟨(zE hb).trans ami,tY.At.trans (fun k hk=>hb.block k (by have:=hi.big;simp at hk;omega)) amj,_,_,hF.step hu,amh⟩
   case done =>
    rintro W ⟨fs,vf,hF,hi⟩ hD;obtain⟨n',pQ,pR,ok,hp⟩:=hi.pb;obtain⟨m0,m1,m2,m3,y0,y3⟩:=hp.cells;have d0:W.cell? ⟨i6,0,none⟩=some (.int .i64 n):=by rw[cR W _ 0 _ _ _ hi.rb];rfl
    have d1:W.cell? ⟨i6,1,none⟩=some (.slice da ds.length eT):=by rw[cR W _ 1 _ _ _ hi.rb];rfl
    obtain⟨fa,fc,rfl⟩:=eo hi.j6;have d2:W.cell? ⟨i6,2,none⟩=some (.slice fa fs.length fc):=by rw[cR W _ 2 _ _ _ hi.rb];rfl
    have hall:bW (pieces 32 b2)=some fs:=by have:=hF.all;rwa [Dm,ZC]at this
    have qa:R=some (n,ds,fs):=by rw[aT.out,if_pos (by trivial),hall];rfl
    have HR1:=hDq qa;clear qa hall
    gi_wp2
    have hi2:=hi.put n (.slice da ds.length eT) (.slice fa fs.length fc) true;have hp2:=hp.put n (.slice da ds.length eT) (.slice fa fs.length fc) true;have Dq:=(ZB W N (.int .i64 n) (.slice da ds.length eT) (.slice fa fs.length fc) (.bool true)).same _ _ hD rfl;generalize (((W.setCell ⟨N,0,none⟩ (.int .i64 n)).setCell ⟨N,1,none⟩ (.slice da ds.length eT)).setCell ⟨N,2,none⟩ (.slice fa fs.length fc)).setCell ⟨N+1,0,none⟩ (.bool true)=W2 at *;have bO:=hi2.grown (grownBy_putObj' _ _ (.deferred none)) (fun r e=>by cases e;exact .inr ⟨by omega,_,Dq,rfl⟩);have py:=hp2.kept (grownBy_putObj' _ (mb (ai b2) ⟨#[32]⟩ aQ).heap.size (.deferred none)) (fun r e=>by cases e;rw[hW0];have:=hi.lo;omega);obtain⟨g0,g1,g2,g3,_,_⟩:=py.cells;refine⟨by simp,.inl ⟨_,_,rfl,run_takeDeferred Dq,.tuple #[.agg #[.int .i64 n,.slice da ds.length eT,.slice fa fs.length fc],.bool true],?_,n,_,_,by rw[HR1.out];rfl,by rw[hN];exact py.below,fun m ds' fs' e=>?_,⟨_,_,_,rfl⟩,_,_,_,rfl⟩⟩
    ·simp[results,Tryz.f42,go_sem,g0,g1,g2,g3]
    ·have e':=HR1.out.symm.trans e
     cases e';exact⟨rfl,by rw[hN];exact bO.rd,gw bO.j6 (by have:=hi.lo;omega)⟩
   case stop =>
    rintro c pre W _ ⟨rfl,hn,fs,vf,hi,hp⟩ hD;have qa:R=none:=by rw[aT.out,if_pos (by trivial),hn];rfl
    have HR1:=hDq qa;clear qa
    gi_wp2
    have py:=hp.kept (grownBy_putObj' _ (mb (ai b2) ⟨#[32]⟩ aQ).heap.size (.deferred none)) (fun r e=>by cases e;rw[hW0];have:=hi.lo;omega);obtain⟨g0,g1,g2,g3,_,_⟩:=py.cells;refine⟨by simp,.inl ⟨_,_,rfl,run_takeDeferred hD,.tuple #[.agg #[.int .i64 0,.slice none 0 0,.slice none 0 0],.bool false],?_,0,_,_,by rw[HR1.out];rfl,by rw[hN];exact py.below,fun m ds' fs' e=>?_,⟨_,_,_,rfl⟩,_,_,_,rfl⟩⟩
    ·simp[results,Tryz.f42,go_sem,g0,g1,g2,g3]
    ·have e':=HR1.out.symm.trans e
     cases e'
 ·have ZL:R=none:=by
   rw[<- HR.out];unfold uJ;simp only[];split
   ·rename_i h3
    cases h1:dX 9 (ai a1) with
    | none=>rfl
    | some n =>
     cases h2:iY (ai b1) with
     | none=>rfl
     | some ds=>exact absurd ⟨h3,by rw[h1];rfl,by rw[h2];rfl⟩ hok
   ·rfl
  have HE:=hDq (bg.out.put 0 (.slice none 0 0) (.slice none 0 0) false);generalize (dX 9 (ai a1)).isSome=k1 at *;generalize (iY (ai b1)).isSome=k2 at *;have HX:=hDq (HBAD.out ZL);clear HBAD ZL;cases a3 with
  | false =>
   gi_wp2
   generalize (((w4.setCell ⟨N,0,none⟩ (.int .i64 0)).setCell ⟨N,1,none⟩ (.slice none 0 0)).setCell ⟨N,2,none⟩ (.slice none 0 0)).setCell ⟨N+1,0,none⟩ (.bool false)=W5 at *;obtain⟨m0,m1,m2,m3,y0,y3⟩:=HE.out.cells;refine⟨.tuple #[.agg #[.int .i64 0,.slice none 0 0,.slice none 0 0],.bool false],?_,HX.out _ HE.out⟩;simp[results,Tryz.f42,go_sem,m0,m1,m2,m3]
  | true =>
   cases k1 with
   | false =>
    gi_wp2
    generalize (((w4.setCell ⟨N,0,none⟩ (.int .i64 0)).setCell ⟨N,1,none⟩ (.slice none 0 0)).setCell ⟨N,2,none⟩ (.slice none 0 0)).setCell ⟨N+1,0,none⟩ (.bool false)=W5 at *;obtain⟨m0,m1,m2,m3,y0,y3⟩:=HE.out.cells;refine⟨.tuple #[.agg #[.int .i64 0,.slice none 0 0,.slice none 0 0],.bool false],?_,HX.out _ HE.out⟩;simp[results,Tryz.f42,go_sem,m0,m1,m2,m3]
   | true =>
    cases k2 with
    | true=>exact absurd ⟨rfl,rfl,rfl⟩ hok
    | false =>
     gi_wp2
     generalize (((w4.setCell ⟨N,0,none⟩ (.int .i64 0)).setCell ⟨N,1,none⟩ (.slice none 0 0)).setCell ⟨N,2,none⟩ (.slice none 0 0)).setCell ⟨N+1,0,none⟩ (.bool false)=W5 at *;obtain⟨m0,m1,m2,m3,y0,y3⟩:=HE.out.cells;refine⟨.tuple #[.agg #[.int .i64 0,.slice none 0 0,.slice none 0 0],.bool false],?_,HX.out _ HE.out⟩;simp[results,Tryz.f42,go_sem,m0,m1,m2,m3]
end Go.Proofs.YtjolccidheflpaaGreatDoor
namespace Go.Proofs.YtjolccidheflpaaGreatDoor
set_option maxHeartbeats 8000000
open Go.RowKit
set_option maxRecDepth 100000
def uI (l:List UInt8):Option Nat:=if l.length<1∨9<l.length∨(1<l.length∧l.head?=some 48) then none else Lib.decFrom 0 l
theorem Pn (b:UInt8):∀ (l:List UInt8) (a n:Nat),Lib.decFrom a (l++[b])=some n->∃ m d,Lib.decFrom a l=some m∧Lib.digitVal b=some d∧n=m*10+d
 | [],a,n,h=>by
  cases hb:Lib.digitVal b with
  | none=>simp[Lib.decFrom,hb]at h
  | some d=>simp[Lib.decFrom,hb]at h;exact⟨a,d,rfl,rfl,h.symm⟩
 | x::l,a,n,h=>by
  simp only[Lib.decFrom,List.cons_append]at h ⊢;cases hx:Lib.digitVal x with
  | none=>simp[hx]at h
  | some y=>simp only[hx]at h ⊢;exact Pn b l _ n h
theorem Po {b:UInt8} {d:Nat} (h:Lib.digitVal b=some d):d<10∧UInt8.ofNat (48+d)=b:=by
 unfold Lib.digitVal at h;split at h
 ·cases h
  refine⟨by omega,?_⟩;rw[show 48+(b.toNat-48)=b.toNat by omega];simp
 ·cases h
theorem Y5:∀ (k:Nat) (l:List UInt8) (n:Nat),l.length=k+1->(k=0∨l.head?≠some 48)->Lib.decFrom 0 l=some n->Lib.decDigits n=l
 | 0,l,n,hl,_,h=>by
  obtain⟨b,rfl⟩:=List.length_eq_one_iff.1 hl;obtain⟨m,d,hm,hd,rfl⟩:=Pn b [] 0 n h;obtain⟨h1,h2⟩:=Po hd;simp[Lib.decFrom]at hm;subst hm;rw[Lib.decDigits,dif_pos (by omega)];simp[h2]
 | k+1,l,n,hl,h0,h=>by
  rcases List.eq_nil_or_concat l with rfl | ⟨l',b,rfl⟩
  ·simp at hl
  ·rw[List.concat_eq_append]at *
   obtain⟨m,d,hm,hd,rfl⟩:=Pn b l' 0 n h;obtain⟨h1,h2⟩:=Po hd;have hl':l'.length=k+1:=by simpa using hl
   have hh:l'.head?≠some 48:=by
    rcases h0 with h0 | h0
    ·omega
    ·cases l' with
     | nil=>simp at hl'
     | cons x l'=>simpa using h0
   have e:=Y5 k l' m hl' (.inr hh) hm;have yt:m≠0:=fun e0=>by
    rw[e0,Lib.decDigits,dif_pos (by omega)]at e;rw[<- e]at hh;exact hh rfl
   rw[Lib.decDigits,dif_neg (by omega),show (m*10+d)/10=m by omega,show (m*10+d)%10=d by omega,e,h2]
theorem alK:∀ n,10<=n->(Lib.decDigits n).head?≠some 48:=by
 intro n
 induction n using Nat.strongRecOn with
 | _ n ih =>
  intro hn;rw[Lib.decDigits,dif_neg (by omega)];by_cases h:n/10<10
  ·rw[Lib.decDigits,dif_pos h]
   have:∀ i:Fin 10,i.val≠0->UInt8.ofNat (48+i.val)≠48:=by decide +kernel
   have h2:=this ⟨n/10,h⟩ (by show n/10≠0;omega);simpa using h2
  ·have:=ih (n/10) (by omega) (by omega)
   have hne:=Iy (n/10);cases hd:Lib.decDigits (n/10) with
   | nil=>exact absurd hd hne
   | cons x t=>rw[hd]at this;simpa using this
theorem decFrom_lt:∀ (l:List UInt8) (a n:Nat),Lib.decFrom a l=some n->n<(a+1)*10 ^ l.length
 | [],a,n,h=>by simp[Lib.decFrom]at h;simp;omega
 | b::l,a,n,h=>by
  cases hb:Lib.digitVal b with
  | none=>simp[Lib.decFrom,hb]at h
  | some d =>
   simp only[Lib.decFrom,hb]at h;have h1:=decFrom_lt l _ n h;have h2:=(Po hb).1;rw[lCq,Nat.pow_succ]
   calc n<(a*10+d+1)*10 ^ l.length:=h1
    _<=((a+1)*10)*10 ^ l.length:=Nat.mul_le_mul_right _ (by omega)
    _=(a+1)*(10 ^ l.length*10):=by rw[Nat.mul_assoc,Nat.mul_comm 10]
theorem Pp {s:ByteArray} {n:Nat} (h:dX 9 s=some n):s.data.toList=Lib.decDigits n∧s.size<=9:=by
 unfold dX at h;split at h
 ·cases h
 ·split at h
  ·cases h
  ·rename_i m hm
   split at h
   ·cases h
   ·split at h
    ·rename_i h0 hi
     cases h;refine⟨?_,by omega⟩;rw[<- hi];show Lib.itoa m=_;unfold Lib.itoa;rw[if_neg h0]
    ·cases h
theorem IC (l:List UInt8):dX 9 (ai l)=uI l:=by
 apply Option.ext;intro n;constructor
 ·intro h
  obtain⟨h1,h2⟩:=Pp h;have e:l=Lib.decDigits n:=h1;have h2':l.length<=9:=h2;unfold uI;have hne:=Iy n;rw[if_neg,e,YS];rw[e]at h2' ⊢;rintro (h3 | h3 | ⟨h3,h4⟩)
  ·exact hne (List.eq_nil_of_length_eq_zero (by omega))
  ·omega
  ·by_cases hn:10<=n
   ·exact alK n hn h4
   ·rw[Lib.decDigits,dif_pos (by omega)]at h3
    simp at h3
 ·intro h
  unfold uI at h;split at h
  ·cases h
  ·rename_i hc
   have nc:l.length<=9:=by omega
   have hd:=Y5 (l.length-1) l n (by omega) (by
    by_cases h1:l.length=1
    ·exact .inl (by omega)
    ·exact .inr fun e=>hc (.inr (.inr ⟨by omega,e⟩))) h
   have hlt:=decFrom_lt l 0 n h;rw[<- hd];refine Pg 8 n (Nat.lt_of_lt_of_le hlt ?_);rw[Nat.zero_add,Nat.one_mul];exact Nat.pow_le_pow_right (by decide) nc
def zv (c:UInt8):Int:=if 48<=c.toNat∧c.toNat<=57 then (c.toNat:Int)-48 else if 97<=c.toNat∧c.toNat<=102 then (c.toNat:Int)-97+10 else -1
theorem alL (c:UInt8):di c=zv c:=by
 have:∀ i:Fin 256,di (UInt8.ofNat i.val)=zv (UInt8.ofNat i.val):=by decide +kernel
 have h:=this ⟨c.toNat,c.toNat_lt⟩;simpa using h
theorem Y6 (c:UInt8) (h:¬ di c<0):gI (di c).toNat=c:=by
 have:∀ i:Fin 256,¬ di (UInt8.ofNat i.val)<0->gI (di (UInt8.ofNat i.val)).toNat=UInt8.ofNat i.val:=by decide +kernel
 have h:=this ⟨c.toNat,c.toNat_lt⟩;simp at h;exact h (by omega)
theorem Y7:∀ (p x:List UInt8),unhex p=some x->dH x=p
 | [],x,h=>by simp[unhex]at h;subst h;rfl
 | [_],x,h=>by simp[unhex]at h
 | a::b::r,x,h=>by
  unfold unhex at h;split at h
  ·cases h
  ·rename_i hc
   obtain⟨y,hy,rfl⟩:=Option.map_eq_some_iff.1 h;have h1:=(uH a).1;have h2:=(uH b).1;have e1:=Y6 a (by omega);have e2:=Y6 b (by omega);have hv:(UInt8.ofNat ((di a).toNat*16+(di b).toNat)).toNat=(di a).toNat*16+(di b).toNat:=by
    simp;omega
   show gI _::gI _::dH y=_;rw[hv,show ((di a).toNat*16+(di b).toNat)/16=(di a).toNat by omega,show ((di a).toNat*16+(di b).toNat)%16=(di b).toNat by omega,e1,e2,Y7 r y hy]
theorem Pq (c:UInt8):∀ l:List UInt8,eG c (pieces c l)=l
 | []=>rfl
 | x::l=>by
  have ih:=Pq c l;unfold pieces;cases hp:pieces c l with
  | nil =>
   exfalso;cases l with
   | nil=>simp[pieces]at hp
   | cons y l=>unfold pieces at hp;split at hp <;> simp at hp
  | cons p ps =>
   rw[hp]at ih;split
   ·rename_i hx
    have hx':x=c:=by simpa using hx
    subst hx';show eG x ([]::p::ps)=_;simp only[eG]at ih ⊢;simpa using ih
   ·show eG c ((x::p)::ps)=_
    cases ps with
    | nil=>simp only[eG]at ih ⊢;simpa using ih
    | cons q ps=>simp only[eG]at ih ⊢;simpa using ih
def Di (C:List UInt8×List UInt8×Bool) (ps:List (List UInt8)):Option (Nat×List Nat×List (List UInt8)) :=
 if C.2.2=true then
  match dX 9 (ai C.1),iY (ai C.2.1) with
  | some n,some ds=>(bW ps).map fun fs=>(n,ds,fs)
  | _,_=>none
 else none
def xh (l:List UInt8):Option (Nat×List Nat×List (List UInt8)):=Di (Lib.cut ((pieces 32 l).headD []) [58]) (pieces 32 l).tail
theorem IE (c:UInt8) (l:List UInt8):pieces c l≠[]:=by
 cases l with
 | nil=>simp[pieces]
 | cons x l=>unfold pieces;split <;> simp
theorem Y8 (c:UInt8):∀ (a l:List UInt8),(∀ b∈a,b≠c)->pieces c (a++l)=(a++(pieces c l).headD [])::(pieces c l).tail
 | [],l,_=>by
  cases h:pieces c l with
  | nil=>exact absurd h (IE c l)
  | cons p ps=>simp[h]
 | x::a,l,h=>by
  have hx:(x==c)=false:=by simpa using h x mSq
  have e:pieces c (x::(a++l))=if x==c then []::pieces c (a++l) else (x::(pieces c (a++l)).headD [])::(pieces c (a++l)).tail:=rfl;show pieces c (x::(a++l))=_;rw[e,hx,Y8 c a l (fun b hb=>h b (mOq _ hb))];rfl
theorem Y9:∀ (l:List UInt8) (a n:Nat),Lib.decFrom a l=some n->∀ b∈l,48<=b.toNat∧b.toNat<=57
 | [],_,_,_,b,hb=>by cases hb
 | x::l,a,n,h,b,hb=>by
  unfold Lib.decFrom at h;cases hx:Lib.digitVal x with
  | none=>rw[hx]at h;cases h
  | some d =>
   rw[hx]at h;rcases List.mem_cons.1 hb with rfl | hb
   ·unfold Lib.digitVal at hx
    split at hx
    ·assumption
    ·cases hx
   ·exact Y9 l _ n h b hb
theorem alM {l:List UInt8} (h:(32:UInt8)∈l):dX 9 (ai l)=none:=by
 cases hn:dX 9 (ai l) with
 | none=>rfl
 | some n =>
  exfalso;rw[IC]at hn;unfold uI at hn;split at hn
  ·cases hn
  ·have:=Y9 l 0 n hn 32 h
   exact absurd this.1 (by decide)
theorem Y_ (l:List UInt8):dY (ai l)=xh l:=by
 have e0:(ai l).data.toList=l:=rfl;by_cases xg:(58:UInt8)∈l
 ·obtain⟨a,r,rfl,ha⟩:=List.eq_append_cons_of_mem xg
  have ha':∀ b∈a,b≠58:=fun b hb e=>ha (e▸hb);rw[Dj,e0,xd 58 a r ha'];by_cases pE:(32:UInt8)∈a
  ·have e1:∀ D,uJ (a,r,true) D=none:=fun D=>by
    unfold uJ;rw[if_pos rfl,alM pE]
   rw[e1];obtain⟨a1,a2,rfl,h1⟩:=List.eq_append_cons_of_mem pE;have h1':∀ b∈a1,b≠32:=fun b hb e=>h1 (e▸hb);have hp:pieces 32 ((a1++32::a2)++58::r)=a1::pieces 32 (a2++58::r):=by
    rw[aAq,List.cons_append];exact zu 32 a1 _ h1'
   unfold xh;rw[hp,List.headD_cons,xe 58 a1 (fun b hb=>ha' b (List.mem_append_left _ hb))];rfl
  ·have alN:∀ b∈a,b≠32:=fun b hb e=>pE (e▸hb)
   have hp:pieces 32 (a++58::r)=(a++58::(pieces 32 r).headD [])::(pieces 32 r).tail:=by
    have:=Y8 32 (a++[58]) r (fun b hb=>by
     rcases List.mem_append.1 hb with hb | hb
     ·exact alN b hb
     ·rw[List.mem_singleton.1 hb];decide)
    simpa using this
   unfold xh;rw[hp,List.headD_cons,List.tail_cons,xd 58 a _ ha'];by_cases hr:(32:UInt8)∈r
   ·obtain⟨r1,r2,rfl,hr1⟩:=List.eq_append_cons_of_mem hr
    have Y':∀ b∈r1,b≠32:=fun b hb e=>hr1 (e▸hb);rw[show ((a,r1++32::r2,true):List UInt8×List UInt8×Bool).2.1=r1++32::r2 from rfl,xd 32 r1 r2 Y',zu 32 r1 r2 Y',List.headD_cons,List.tail_cons];rfl
   ·have d9:∀ b∈r,b≠32:=fun b hb e=>hr (e▸hb)
    rw[show ((a,r,true):List UInt8×List UInt8×Bool).2.1=r from rfl,xe 32 r d9,Dh 32 r d9,List.headD_cons,List.tail_cons];rfl
 ·have Pr:∀ b∈l,b≠58:=fun b hb e=>xg (e▸hb)
  rw[Dj,e0,xe 58 l Pr];unfold xh;have hh:∀ b∈(pieces 32 l).headD [],b≠58:=by
   by_cases pE:(32:UInt8)∈l
   ·obtain⟨a1,a2,rfl,h1⟩:=List.eq_append_cons_of_mem pE
    rw[zu 32 a1 a2 (fun b hb e=>h1 (e▸hb))];exact fun b hb=>Pr b (List.mem_append_left _ hb)
   ·rw[Dh 32 l (fun b hb e=>pE (e▸hb))]
    exact Pr
  rw[xe 58 _ hh];rfl
theorem Za:∀ (ps:List (List UInt8)) (last:Int) (ds:List Nat),gz last (ps.map ai)=some ds->ps=ds.map Lib.decDigits
 | [],_,ds,h=>by simp[gz]at h;subst h;rfl
 | p::ps,last,ds,h=>by
  simp only[List.map_cons,gz]at h;split at h
  ·cases h
  ·rename_i n hn
   split at h
   ·obtain⟨q,hq,rfl⟩:=Option.map_eq_some_iff.1 h
    rw[List.map_cons,<- Za ps n q hq,<- (Pp hn).1];rfl
   ·cases h
theorem alO {l:List UInt8} {ds:List Nat} (h:iY (ai l)=some ds):l=eG 44 (ds.map Lib.decDigits):=by
 unfold iY at h;split at h
 ·rename_i h0
  cases h;exact List.eq_nil_of_length_eq_zero h0
 ·have:=Za _ _ _ h
  rw[<- this];exact(Pq 44 l).symm
theorem Zb:∀ (ps fs:List (List UInt8)),bW ps=some fs->ps=fs.map dH
 | [],fs,h=>by simp[bW]at h;subst h;rfl
 | p::ps,fs,h=>by
  unfold bW at h;split at h
  ·cases h
  ·rename_i x hx
   obtain⟨q,hq,rfl⟩:=Option.map_eq_some_iff.1 h;rw[List.map_cons,<- Zb ps q hq,Y7 p x hx]
theorem Zc {s:ByteArray} {n:Nat} {ds:List Nat} {fs:List (List UInt8)} (h:dY s=some (n,ds,fs)) :
  s.data.toList=Lib.decDigits n++58::(eG 44 (ds.map Lib.decDigits)++fs.flatMap fun f=>32::dH f):=by
 have key:∀ l:List UInt8,xh l=some (n,ds,fs)->l=Lib.decDigits n++58::(eG 44 (ds.map Lib.decDigits)++fs.flatMap fun f=>32::dH f):=by
  intro l h;have hl:=Pq 32 l;unfold xh at h;cases hp:pieces 32 l with
  | nil=>exact absurd hp (IE 32 l)
  | cons p ps =>
   rw[hp]at h hl;rw[List.headD_cons,List.tail_cons]at h;by_cases xg:(58:UInt8)∈p
   ·obtain⟨a,r,rfl,ha⟩:=List.eq_append_cons_of_mem xg
    rw[xd 58 a r (fun b hb e=>ha (e▸hb))]at h;unfold Di at h;rw[if_pos rfl]at h;split at h
    ·rename_i n' ds' hn hd
     obtain⟨q,hq,e⟩:=Option.map_eq_some_iff.1 h;cases e;have e1:a=Lib.decDigits n:=(Pp hn).1;have e2:r=_:=alO hd;have e3:=Zb ps fs hq;rw[<- hl,e1,e2,e3];simp[eG,List.flatMap_map]
    ·cases h
   ·rw[xe 58 p (fun b hb e=>xg (e▸hb))]at h
    cases h
 exact key s.data.toList ((Y_ s.data.toList).symm.trans h)
theorem amJ (c:UInt8):(48<=c.toNat∧c.toNat<=57∧zv c=(c.toNat:Int)-48)∨(97<=c.toNat∧c.toNat<=102∧zv c=(c.toNat:Int)-97+10)∨(¬ (48<=c.toNat∧c.toNat<=57)∧¬ (97<=c.toNat∧c.toNat<=102)∧zv c = -1):=by
 unfold zv;split
 ·rename_i h;exact .inl ⟨h.1,h.2,rfl⟩
 ·rename_i h
  split
  ·rename_i h2;exact .inr (.inl ⟨h2.1,h2.2,rfl⟩)
  ·rename_i h2;exact .inr (.inr ⟨h,h2,rfl⟩)
theorem I0 (c:UInt8) (w:World):Calls Tryz.prog 46 #[.int .u8 c.toNat] w fun e w'=>e=.returned (.int .i64 (di c))∧w'=w:=by
 rw[alL];have hlt:=c.toNat_lt;rcases amJ c with ⟨h1,h2,h3⟩ | ⟨h1,h2,h3⟩ | ⟨h1,h2,h3⟩
 ·rw[h3]
  generalize c.toNat=n at *;have k1:(48:Int)<=n:=by omega
  have k2:(n:Int)<=57:=by omega
  clear h3;go_enter Tryz.func46,Tryz.ntmps46;go_wp2;go_ret;exact⟨kR (by omega),rfl⟩
 ·rw[h3]
  generalize c.toNat=n at *;have kF:(48:Int)<=n:=by omega
  have k1:¬ (n:Int)<=57:=by omega
  have k2:(97:Int)<=n:=by omega
  have k3:(n:Int)<=102:=by omega
  clear h3;go_enter Tryz.func46,Tryz.ntmps46;go_wp2;go_ret;exact⟨kR (by omega),rfl⟩
 ·rw[h3]
  generalize c.toNat=n at *;clear h3;by_cases k1:(48:Int)<=n
  ·have k2:¬ (n:Int)<=57:=by omega
   by_cases k3:(97:Int)<=n
   ·have k4:¬ (n:Int)<=102:=by omega
    go_enter Tryz.func46,Tryz.ntmps46;go_wp2;go_ret;exact⟨rfl,rfl⟩
   ·go_enter Tryz.func46,Tryz.ntmps46
    go_wp2;go_ret;exact⟨rfl,rfl⟩
  ·have k3:¬ (97:Int)<=n:=by omega
   go_enter Tryz.func46,Tryz.ntmps46;go_wp2;go_ret;exact⟨rfl,rfl⟩
def pV (s:ByteArray):Int:=match dX 9 s with
 | some n=>n
 | none=>-1
theorem amK (s:ByteArray):pV s=match uI s.data.toList with
 | some n=>(n:Int)
 | none=>-1:=by
 unfold pV;rw[<- IC];rfl
theorem decFrom_none (l:List UInt8) (k a:Nat) (b:UInt8) (hb:l[k]?=some b) (hd:Lib.digitVal b=none):Lib.decFrom a l=none:=by
 induction l generalizing k a with
 | nil=>simp at hb
 | cons x t ih =>
  unfold Lib.decFrom;cases k with
  | zero=>simp at hb;subst hb;rw[hd]
  | succ k =>
   cases hx:Lib.digitVal x with
   | none=>rfl
   | some y=>exact ih k _ (by simpa using hb)
theorem uM (s:ByteArray) (k:Nat) (h:k<s.size):s.data.toList[k]?=some s[k]:=by
 rw[Array.getElem?_toList];exact Array.getElem?_eq_getElem h
theorem Z0 (s:ByteArray) (w:World):Calls Tryz.prog 45 #[.string s] w fun e w'=>e=.returned (.int .i64 (pV s))∧w'=w:=by
 rw[amK];have hsz:s.data.toList.length=s.size:=Array.length_toList;unfold uI;rw[hsz];by_cases h1:s.size<1
 ·rw[if_pos (.inl h1)]
  have h1':(s.size:Int)<1:=by omega
  go_enter Tryz.func45,Tryz.ntmps45;go_wp2;go_ret;exact⟨rfl,rfl⟩
 by_cases h2:9<s.size
 ·rw[if_pos (.inr (.inl h2))]
  have h1':¬ (s.size:Int)<1:=by omega
  have h2':(9:Int)<s.size:=by omega
  go_enter Tryz.func45,Tryz.ntmps45;go_wp2;go_ret;exact⟨rfl,rfl⟩
 have h1':¬ (s.size:Int)<1:=by omega
 have h2':¬ (9:Int)<s.size:=by omega
 have g0:0<s.size:=by omega
 have hh:s.data.toList.head?=some s[0]:=by
  rw[List.head?_eq_getElem?];exact uM s 0 g0
 rw[hh];by_cases h3:1<s.size∧s[0]=48
 ·rw[if_pos (.inr (.inr ⟨h3.1,by rw[h3.2]⟩))]
  have h3':(1:Int)<s.size:=by omega
  have h4:((s[0].toNat:Int)==48)=true:=by rw[h3.2];rfl
  go_enter Tryz.func45,Tryz.ntmps45;go_wp2;go_ret;exact⟨rfl,rfl⟩
 ·rw[if_neg (by
   rintro (k1 | k1 | ⟨k1,k2⟩)
   ·exact h1 k1
   ·exact h2 k1
   ·exact h3 ⟨k1,by simpa using k2⟩)]
  have HD:∀ R,R=(match Lib.decFrom 0 s.data.toList with
   | some n=>(n:Int)
   | none=>-1)->Hid (R=match Lib.decFrom 0 s.data.toList with
   | some n=>(n:Int)
   | none=>-1):=fun R h=>h
  obtain⟨R,hR⟩:∃ R,R=(match Lib.decFrom 0 s.data.toList with
   | some n=>(n:Int)
   | none=>-1):=⟨_,rfl⟩
  rw[<- hR];have HR:=HD R hR;clear HD hR hh;have kE:=hDq hsz;clear hsz;have amL:(¬ (1:Int)<s.size)∨((1:Int)<s.size∧((s[0].toNat:Int)==48)=false):=by
   by_cases k:1<s.size
   ·refine .inr ⟨by omega,?_⟩
    have:s[0].toNat≠48:=fun e=>h3 ⟨k,by apply UInt8.toNat_inj.1;rw[e];rfl⟩;simp;omega
   ·exact .inl (by omega)
  clear h3;rcases amL with ht1 | ⟨ht1,pJ⟩
  all_goals
   go_enter Tryz.func45,Tryz.ntmps45;go_wp2
   go_loop [3,4] (fun n i=>∃ k m:Nat,k<=s.size∧i=.int .i64 k∧n=.int .i64 m∧Lib.decFrom 0 (s.data.toList.take k)=some m) (fun _ i=>s.size-(intOf i).toNat)
   case atStart=>exact⟨0,0,Nat.zero_le _,rfl,rfl,rfl⟩
   case round =>
    obtain⟨k,m,hk,rfl,rfl,hm⟩:=hrel;have HM:=hDq hm;have I4:m<10 ^ 9:=by
     have h5:=decFrom_lt _ 0 m hm;rw[Nat.zero_add,Nat.one_mul]at h5;refine Nat.lt_of_lt_of_le h5 (Nat.pow_le_pow_right (by decide) ?_);rw[lKq];omega
    clear hm;by_cases hlt:k<s.size
    ·have aK:(k:Int)<s.size:=by omega
     have hb:=uM s k hlt;have hbl:=s[k].toNat_lt;obtain⟨b,iE⟩:∃ b,s[k]=b:=⟨_,rfl⟩;by_cases c1:48<=s[k].toNat
     ·by_cases c2:s[k].toNat<=57
      ·have HN:Hid (Lib.decFrom 0 (s.data.toList.take (k+1))=some (m*10+(s[k].toNat-48))):=Lib.decFrom_take _ k 0 m _ _ HM.out hb (by unfold Lib.digitVal;rw[if_pos ⟨c1,c2⟩])
       have k1:¬ (s[k].toNat:Int)<48:=by omega
       have k2:¬ (57:Int)<s[k].toNat:=by omega
       clear hb iE;go_wp2;refine⟨⟨k+1,m*10+(s[k].toNat-48),hlt,by go_num,qJ ?_,HN.out⟩,by simp[intOf];omega⟩;omega
      ·have HN:Hid (Lib.decFrom 0 s.data.toList=none):=decFrom_none _ k 0 _ hb (by unfold Lib.digitVal;rw[if_neg (fun h=>c2 h.2)])
       have k1:¬ (s[k].toNat:Int)<48:=by omega
       have k2:(57:Int)<s[k].toNat:=by omega
       clear hb iE;go_wp2;go_ret;refine⟨kR ?_,rfl⟩;rw[HR.out,HN.out]
     ·have HN:Hid (Lib.decFrom 0 s.data.toList=none):=decFrom_none _ k 0 _ hb (by unfold Lib.digitVal;rw[if_neg (fun h=>c1 h.1)])
      have k1:(s[k].toNat:Int)<48:=by omega
      clear hb iE;go_wp2;go_ret;refine⟨kR ?_,rfl⟩;rw[HR.out,HN.out]
    ·have aK:¬ (k:Int)<s.size:=by omega
     go_wp2;go_ret;refine⟨kR ?_,rfl⟩
     have:=HM.out
     rw[List.take_of_length_le (by rw[kE.out];omega)]at this;rw[HR.out,this]
theorem I1 {b0:Nat} (W:World) (v:Value) (l:List (List UInt8)) (x:List UInt8) (hr:W.ownsRow b0 9 1 v l.length (lD l)) (hl:l.length<=1000000) (hb:b0<=W.heap.size) :
  ∃ v' W',(Builtin.append_ #[70,70] 70 #[v,.slice (some ⟨W.heap.size,0,none⟩) 1 1]).run Tryz.prog (W.alloc (.cells #[.string (ai x)] 9))=.ok v' W'∧W'.ownsRow b0 9 1 v' (l++[x]).length (lD (l++[x]))∧(W.alloc (.cells #[.string (ai x)] 9)).grownBy W' v.ownBlock:=by
 obtain⟨i0,hi,hz0,hz1,hz2⟩:=N6;obtain⟨v4,w4,hap,hrow,hg,_,_⟩:=run_append_own_at (P:=Tryz.prog) (w:=W.alloc (.cells #[.string (ai x)] 9)) b0 70 70 9 i0 (.string ⟨#[]⟩) 1 16 Tryz.underlying70 hi hz0 hz1 hz2 rfl (by decide) v l.length (lD l) (World.ownsRow.alloc hr _) ⟨W.heap.size,0,none⟩ 1 1 [.string (ai x)] rfl
  (cell_one_new _ _ _) (fun u hu=>by simp at hu;rw[hu];rfl) (by unfold maxLen;omega) (by omega) (by simp;omega)
 refine⟨v4,w4,hap,?_,hg⟩;unfold lD at hrow ⊢;rw[List.map_append,lAq];exact hrow
def Cut (c:UInt8) (l:List UInt8) (done:List (List UInt8)) (from_ i:Nat):Prop:=pieces c l=done++pieces c (l.drop from_)∧from_<=i∧∀ j b,from_<=j->j<i->l[j]?=some b->b≠c
theorem Cut.start (c:UInt8) (l:List UInt8):Cut c l [] 0 0:=⟨rfl,lRq _,fun j b h1 h2=>by omega⟩
theorem Cut.mid {c:UInt8} {l:List UInt8} {done:List (List UInt8)} {f i:Nat} (h:Cut c l done f i):∀ b∈(l.drop f).take (i-f),b≠c:=by
 intro b hb;obtain⟨j,hj⟩:=List.getElem?_of_mem hb;by_cases hlt:j<i-f
 ·rw[List.getElem?_take_of_lt hlt,List.getElem?_drop]at hj
  exact h.2.2 (f+j) b (by omega) (by omega) hj
 ·rw[List.getElem?_eq_none (by rw[lKq];omega)]at hj;cases hj
theorem Cut.hit {c:UInt8} {l:List UInt8} {done:List (List UInt8)} {f i:Nat} (h:Cut c l done f i) (hi:l[i]?=some c):Cut c l (done++[(l.drop f).take (i-f)]) (i+1) (i+1):=by
 refine⟨?_,lRq _,fun j b h1 h2=>by omega⟩;have hlt:i<l.length:=(List.getElem?_eq_some_iff.1 hi).1;have e:l.drop f=(l.drop f).take (i-f)++c::l.drop (i+1):=by
  have h1:l.drop i=c::l.drop (i+1):=by
   rw[List.drop_eq_getElem_cons hlt]
   have:=(List.getElem?_eq_some_iff.1 hi).2
   rw[this]
  have h2:(l.drop f).drop (i-f)=l.drop i:=by rw[List.drop_drop];congr 1;have:=h.2.1;omega
  rw[<- h1,<- h2,List.take_append_drop]
 have h3:=h.1;rw[e,zu c _ _ h.mid]at h3;rw[h3];simp
theorem Cut.miss {c b:UInt8} {l:List UInt8} {done:List (List UInt8)} {f i:Nat} (h:Cut c l done f i) (hi:l[i]?=some b) (hb:b≠c):Cut c l done f (i+1):=by
 refine⟨h.1,by have:=h.2.1;omega,fun j x h1 h2 hx=>?_⟩;by_cases e:j=i
 ·subst e;rw[hi]at hx;cases hx;exact hb
 ·exact h.2.2 j x h1 (by omega) hx
theorem Cut.amM {c:UInt8} {l:List UInt8} {done:List (List UInt8)} {f:Nat} (h:Cut c l done f l.length):pieces c l=done++[l.drop f]:=by
 rw[h.1,Dh c _ (fun b hb=>?_)]
 have:=h.mid
 rw[List.take_of_length_le (by rw[List.length_drop];omega)]at this;exact this b hb
theorem ZT (s:ByteArray) (c:UInt8) (w:World) (hs:s.size<=100000):Calls Tryz.prog 44 #[.string s,.int .u8 c.toNat] w fun e w'=>∃ v,e=.returned v∧Below w.heap.size w w'∧w'.ownsRow w.heap.size 9 1 v (pieces c s.data.toList).length (lD (pieces c s.data.toList)):=by
 have kE:Hid (s.data.toList.length=s.size):=hDq (Array.length_toList);have wW:=hDq (Cut.start c s.data.toList);obtain⟨P,hP⟩:∃ P,pieces c s.data.toList=P:=⟨_,rfl⟩;rw[hP];have HP:=hDq hP;clear hP;go_enter Tryz.func44,Tryz.ntmps44;go_wp2
 go_loopw [5,6,7] (fun v fv iv wr=>∃ (f i:Nat) (sw:List (List UInt8)),i<=s.size∧f<=s.size∧fv=.int .i64 f∧iv=.int .i64 i∧sw.length<=i∧Cut c s.data.toList sw f i∧wr.ownsRow w.heap.size 9 1 v sw.length (lD sw)∧Below w.heap.size w wr) (fun _ _ iv _=>s.size-(intOf iv).toNat)
 case atStart=>exact⟨0,0,[],Nat.zero_le _,Nat.zero_le _,rfl,rfl,lRq _,wW.out,World.ownsRow_nil _ _ _ _,bRq _ _⟩
 case round =>
  obtain⟨f,i,sw,hi,hf,rfl,rfl,Zn,hcut,hrow,hb⟩:=hrel;have HC:=hDq hcut;have HR:=hDq hrow;have HB:=hDq hb;have uN:=hcut.2.1;clear hcut hrow hb wW;by_cases hlt:i<s.size
  ·have j3:(i:Int)<s.size:=by omega
   have hbi:=uM s i hlt;have aag:=hDq hbi;clear hbi;by_cases he:s[i]=c
   ·have jh:((s[i].toNat:Int)==(c.toNat:Int))=true:=by rw[he];simp
    have HN:=hDq (HC.out.hit (by rw[aag.out,he]));have hex:s.extract f i=ai ((s.data.toList.drop f).take (i-f)):=by
     apply ByteArray.ext;rw[ByteArray.data_extract];apply Array.ext';rw[Array.toList_extract];rfl
    have qD:=hDq hex;obtain⟨x,hx⟩:∃ x,(s.data.toList.drop f).take (i-f)=x:=⟨_,rfl⟩;rw[hx]at HN qD;obtain⟨v4,w4,hap,hr4,hg4⟩:=I1 wr u5 sw x HR.out (by omega) HB.out.size;have bg:Hid (Below w.heap.size w w4):=hDq (below_grown (HB.out.alloc HB.out.size _) (World.ownsRow.alloc HR.out _) (lTq HB.out.size (by simp)) hg4);have bF:=hDq hr4;rw[<- qD.out]at hap;have cO:=hDq hap;clear hap hr4 hg4 hex hx;have wU:(f:Int)<=i:=by omega
    go_wp2_with (at_builtin;refine wpList_append_run rfl _ _ 70 rfl _ _ _ rfl rfl cO.out ?_)
    go_roundw
    case rel=>exact⟨i+1,i+1,_,hlt,hlt,by go_num,by go_num,by rw[lAq,List.length_singleton];omega,HN.out,bF.out,bg.out⟩
    case measure=>simp[intOf];omega
   ·have jh:((s[i].toNat:Int)==(c.toNat:Int))=false:=by
     have:s[i].toNat≠c.toNat:=fun e=>he (UInt8.toNat_inj.1 e);simp;omega
    have HN:=hDq (HC.out.miss aag.out he);go_wp2;exact⟨⟨f,i+1,sw,hlt,hf,rfl,by go_num,by omega,HN.out,HR.out,HB.out⟩,by simp[intOf];omega⟩
  ·have j3:¬ (i:Int)<s.size:=by omega
   have si:i=s.size:=by omega
   have hct:Cut c s.data.toList sw f s.data.toList.length:=by rw[kE.out,<- si];exact HC.out
   have HD:=hDq hct.amM;clear hct;have hex:s.extract f s.size=ai (s.data.toList.drop f):=PW s f;have qD:=hDq hex;obtain⟨x,hx⟩:∃ x,s.data.toList.drop f=x:=⟨_,rfl⟩;rw[hx]at HD qD;obtain⟨v4,w4,hap,hr4,hg4⟩:=I1 wr u5 sw x HR.out (by omega) HB.out.size;have bg:Hid (Below w.heap.size w w4):=hDq (below_grown (HB.out.alloc HB.out.size _) (World.ownsRow.alloc HR.out _) (lTq HB.out.size (by simp)) hg4);have bF:=hDq hr4;rw[<- qD.out]at hap;have cO:=hDq hap;clear hap hr4 hg4 hex hx;have wU:(f:Int)<=s.size:=by omega
   go_wp2_with (at_builtin;refine wpList_append_run rfl _ _ 70 rfl _ _ _ rfl rfl cO.out ?_)
   go_ret;refine⟨_,rfl,bg.out,?_⟩;rw[<- HP.out,HD.out];exact bF.out
end Go.Proofs.YtjolccidheflpaaGreatDoor
namespace Go.Proofs.YtjolccidheflpaaGreatDoor
set_option maxHeartbeats 8000000
open Go.RowKit Go.Shelf
set_option maxRecDepth 100000
def dI (s:ByteArray):Nat:=match dY s with
 | none=>1
 | some (_,_,fs)=>eI (fs.map ai)
def PQ (w:World) (ad:Nat->Addr) (s:ByteArray) (e:Ending) (w':World):Prop :=
 ∃ n bf va,e=.returned (.tuple #[.int .i64 n,bf,va,ja ad (dI s)])∧Below w.heap.size w w' ∧
  (∀ m ds fs,dY s=some (m,ds,fs)->dI s=0->n=m∧w'.ownsRow w.heap.size 3 1 bf ds.length (eF ds)∧w'.ownsRow w.heap.size 95 8 va (fs.map ai).length (aL ((fs.map ai).map af.bq)))∧(dI s≠0->n=0∧bf=.slice none 0 0∧va=.slice none 0 0)
theorem ZM:∀ (l r:List (List UInt8)),bW l=some r->r.length=l.length
 | [],r,h=>by simp[bW]at h;simp[h]
 | p::l,r,h=>by
  unfold bW at h;split at h
  ·cases h
  ·obtain⟨q,hq,rfl⟩:=Option.map_eq_some_iff.1 h
   simp[ZM l q hq]
theorem ZN {s:ByteArray} {m:Nat} {ds:List Nat} {fs:List (List UInt8)} (h:dY s=some (m,ds,fs)):fs.length<=s.size+1:=by
 rw[Dj]at h;have h1:=(zC s.data.toList [58]).2;have h2:=(zC (Lib.cut s.data.toList [58]).2.1 [32]).2;have h3:=zB 32 (Lib.cut (Lib.cut s.data.toList [58]).2.1 [32]).2.1;have h4:s.data.toList.length=s.size:=Array.length_toList;unfold uJ at h;split at h
 ·split at h
  ·split at h
   ·obtain⟨q,hq,e⟩:=Option.map_eq_some_iff.1 h
    cases e
    have:=ZM _ _ hq
    omega
   ·cases h;simp
  ·cases h
 ·cases h
theorem PE {ad:Nat->Addr} (s:ByteArray) (w:World) (hL:jM w) (hS:cP w ad) (hs:s.size<=99999) :
  Calls Tryz.prog 9 #[.string s] w (PQ w ad s):=by
 have hp:=ame s w hL (by omega);have HL:=hDq hL;have HS:=hDq hS;clear hL hS;cases hR:dY s with
 | none =>
  have hA:∀ W,Below w.heap.size w W->PQ w ad s (.returned (.tuple #[.int .i64 0,.slice none 0 0,.slice none 0 0,.iface 412 (.pointer (some (ad 0)))])) W:=fun W hb=>by
   have hC:dI s=1:=by unfold dI;rw[hR]
   exact⟨0,_,_,by rw[hC];rfl,hb,fun m ds fs e=>(by rw[hR]at e;cases e),fun _=>⟨rfl,rfl,rfl⟩⟩
  have HA:=hDq hA;clear hA;rw[hR]at hp;have HP:=hDq hp;clear hp hR;go_enter Tryz.func9,Tryz.ntmps9
  go_wp2_with fail
  refine HP.out.mono ?_;rintro e w1 ⟨n,bf,vf,rfl,hb1,_,⟨a,k,c,rfl⟩,a',k',c',rfl⟩;have c0:w1.cell? ⟨0,0,none⟩=some (.iface 412 (.pointer (some (ad 0)))):=(HS.out.later hb1).cell 0 (by decide);have pI:(w1.alloc (.cells #[.int .i64 n,.slice a k c,.slice a' k' c'] 86)).cell? ⟨0,0,none⟩=some (.iface 412 (.pointer (some (ad 0)))):=by
   rw[((bRq _ w1).alloc (lRq _) _).cell (bCq _ _ c0)];exact c0
  have HB2:=hDq (hb1.alloc hb1.size (.cells #[.int .i64 n,.slice a k c,.slice a' k' c'] 86));clear hb1 c0;simp only[Option.isSome_none];go_wp2;generalize w1.alloc (.cells #[.int .i64 n,.slice a k c,.slice a' k' c'] 86)=w2 at *
  go_quiet (fail)
  go_wp2;refine bodyPost_ret (v:=.tuple #[.int .i64 0,.slice none 0 0,.slice none 0 0,.iface 412 (.pointer (some (ad 0)))]) (by simp[results,Tryz.results9,go_sem]) rfl ?_;exact HA.out _ (HB2.out.trans ((below_drewN _).mono HB2.out.size))
 | some r =>
  obtain⟨m,ds,fs⟩:=r;rw[hR]at hp;have HP:=hDq hp;have HA:Hid (∀ n bf va W,Below w.heap.size w W->(eI (fs.map ai)=0->n=(m:Int)∧W.ownsRow w.heap.size 3 1 bf ds.length (eF ds)∧W.ownsRow w.heap.size 95 8 va (fs.map ai).length (aL ((fs.map ai).map af.bq)))->(eI (fs.map ai)≠0->n=0∧bf=.slice none 0 0∧va=.slice none 0 0) ->
    PQ w ad s (.returned (.tuple #[.int .i64 n,bf,va,ja ad (eI (fs.map ai))])) W):=hDq fun n bf va W hb h1 h2=>by
   have hC:dI s=eI (fs.map ai):=by unfold dI;rw[hR]
   exact⟨n,bf,va,by rw[hC],hb,fun m' ds' fs' e e0=>(by rw[hR]at e;cases e;exact h1 (hC▸e0)),fun e0=>h2 (hC▸e0)⟩
  have hfl:fs.length<=100000:=by have:=ZN hR;omega
  clear hp hR;go_enter Tryz.func9,Tryz.ntmps9
  go_wp2_with fail
  refine HP.out.mono ?_;rintro e w1 ⟨n,bf,vf,rfl,hb1,hrows,⟨a,k,c,rfl⟩,a',k',c',rfl⟩;obtain⟨rfl,hrd,ZO⟩:=hrows m ds fs rfl;have HB2:=hDq (hb1.alloc hb1.size (.cells #[.int .i64 m,.slice a k c,.slice a' k' c'] 86));have iZ:=hDq (hrd.alloc (.cells #[.int .i64 m,.slice a k c,.slice a' k' c'] 86));have ZP:=ZO.alloc (.cells #[.int .i64 m,.slice a k c,.slice a' k' c'] 86);have hrb:=hNq w1 (.cells #[.int .i64 m,.slice a k c,.slice a' k' c'] 86);have hsz:(w1.alloc (.cells #[.int .i64 m,.slice a k c,.slice a' k' c'] 86)).heap.size=w1.heap.size+1:=by simp
  have ZQ:=hDq (alJ (fs.map ai) (.slice a' k' c') w.heap.size fs.length (w1.alloc (.cells #[.int .i64 m,.slice a k c,.slice a' k' c'] 86)) (ad:=ad) (hDq (HS.out.later HB2.out)) (hDq (List.length_map _)) (hDq (by
   have:=ZP;unfold lD at this;rw[List.map_map];exact this)) hfl)
  have y5:=hDq hrb;have kE:=hDq hsz;clear hb1 hrows hrd ZO ZP hrb hsz HP;simp only[Option.isSome_some]
  go_wp2_with fail
  generalize w1.alloc (.cells #[.int .i64 m,.slice a k c,.slice a' k' c'] 86)=w2 at *;generalize eI (fs.map ai)=D at *;refine ZQ.out.mono ?_;rintro e w3 ⟨va,rfl,hb3,h1,h2⟩;have au:=hDq (HB2.out.trans (hb3.mono HB2.out.size));have IV:=hDq (bR iZ.out hb3);have PR:w3.heap[w1.heap.size]?=some (.cells #[.int .i64 m,.slice a k c,.slice a' k' c'] 86 (0,0)):=by rw[hb3.block _ (by rw[kE.out];omega)];exact y5.out
  have q0:w3.cell? ⟨w1.heap.size,0,none⟩=some (.int .i64 m):=by rw[cR w3 _ 0 _ _ _ PR];rfl
  have q1:w3.cell? ⟨w1.heap.size,1,none⟩=some (.slice a k c):=by rw[cR w3 _ 1 _ _ _ PR];rfl
  have HR3:=hDq h1;have ao8:=hDq h2;clear hb3 PR h1 h2 ZQ;by_cases hD:D=0
  ·subst hD
   rw[show ja ad 0=.nilIface from rfl]at HA ⊢;simp only[];go_wp2
   go_quiet (fail)
   go_wp2;refine bodyPost_ret (v:=.tuple #[.int .i64 m,.slice a k c,va,.nilIface]) (by simp[results,Tryz.results9,go_sem]) rfl ?_;have hbd:=below_drewN (w:=w3) nq;exact HA.out m (.slice a k c) va _ (au.out.trans (hbd.mono au.out.size)) (fun _=>⟨rfl,bR IV.out hbd,bR (gw (HR3.out trivial) HB2.out.size) hbd⟩) (fun e=>absurd rfl e)
  ·have HF:=hDq (HA.out 0 (.slice none 0 0) (.slice none 0 0) w3 au.out (fun e=>absurd e hD) (fun _=>⟨rfl,rfl,rfl⟩))
   rw[xL ad hD]at HF ⊢;simp only[];go_wp2;exact bodyPost_ret (v:=.tuple #[.int .i64 0,.slice none 0 0,.slice none 0 0,.iface 412 (.pointer (some (ad (D-1))))]) (by simp[results,Tryz.results9,go_sem]) rfl HF.out
def xm (w:World) (s:ByteArray) (e:Ending) (w':World):Prop :=
 ∃ n bf va,e=.returned (.tuple #[.int .i64 n,bf,va,.int .i64 (dI s)])∧Below w.heap.size w w' ∧
  (∀ m ds fs,dY s=some (m,ds,fs)->dI s=0->n=m∧w'.ownsRow w.heap.size 3 1 bf ds.length (eF ds)∧w'.ownsRow w.heap.size 95 8 va fs.length (aL ((fs.map ai).map af.bq)))∧(dI s≠0->n=0∧bf=.slice none 0 0∧va=.slice none 0 0)
theorem amk {w W:World} {s:ByteArray} (h:dY s=none) (hb:Below w.heap.size w W):xm w s (.returned (.tuple #[.int .i64 0,.slice none 0 0,.slice none 0 0,.int .i64 1])) W:=by
 have hC:dI s=1:=by unfold dI;rw[h]
 exact⟨0,_,_,by rw[hC];rfl,hb,fun m ds fs e=>(by rw[h]at e;cases e),fun _=>⟨rfl,rfl,rfl⟩⟩
theorem IW {W:World} {base:Nat} {v:Value} {l:List (List UInt8)} (h:W.ownsRow base 9 1 v l.length (lD l)) (hl:l≠[]):∃ g cap,v=.slice (some ⟨g,0,none⟩) l.length cap∧∀ W',Below W.heap.size W W'->∀ (i:Nat) p,l[i]?=some p->W'.cell? ⟨g,i,none⟩=some (.string (ai p)):=by
 rcases h.2 with ⟨_,e⟩ | ⟨g,cap,cur,e,_,hg,_,_,_,ht⟩
 ·exact absurd (List.eq_nil_of_length_eq_zero e) hl
 ·refine⟨g,cap,e,fun W' hb i p hp=>?_⟩
  have hlt:=(List.getElem?_eq_some_iff.1 hp).1;rw[cR W' g i _ _ _ ((hb.block g (lBq hg)).trans hg),<- Array.getElem?_toList];have h2:=congrArg (·[i]?) ht;simp only[lD,List.getElem?_map,hp,Option.map_some]at h2;rw[List.getElem?_take_of_lt (by omega)]at h2;exact h2
theorem ZR {W:World} {base:Nat} {v:Value} {l:List Nat} (h:W.ownsRow base 3 1 v l.length (eF l)) {i n:Nat} (hi:l[i]?=some n):∃ g cap,v=.slice (some ⟨g,0,none⟩) l.length cap∧W.cell? ⟨g,i,none⟩=some (.int .i64 n):=by
 have hlt:=(List.getElem?_eq_some_iff.1 hi).1;rcases h.2 with ⟨_,e⟩ | ⟨g,cap,cur,e,_,hg,_,_,_,ht⟩
 ·omega
 ·refine⟨g,cap,e,?_⟩
  rw[cR W g i _ _ _ hg,<- Array.getElem?_toList];have h2:=congrArg (·[i]?) ht;simp only[eF,List.getElem?_map,hi,Option.map_some]at h2;rw[List.getElem?_take_of_lt (by omega)]at h2;exact h2
theorem aml {b0:Nat} (W:World) (v:Value) (l:List Nat) (x:Nat) (hr:W.ownsRow b0 3 1 v l.length (eF l)) (hl:l.length<=1000000) (hb:b0<=W.heap.size) :
  ∃ v' W',(Builtin.append_ #[23,23] 23 #[v,.slice (some ⟨W.heap.size,0,none⟩) 1 1]).run Tryz.prog (W.alloc (.cells #[.int .i64 x] 3))=.ok v' W'∧W'.ownsRow b0 3 1 v' (l++[x]).length (eF (l++[x]))∧(W.alloc (.cells #[.int .i64 x] 3)).grownBy W' v.ownBlock:=by
 obtain⟨i0,hi,hz0,hz1,hz2⟩:∃ i,Tryz.prog.info? 3=some i∧i.zero=some (.int .i64 0)∧i.size=1∧i.bytes=8:=⟨_,rfl,rfl,rfl,rfl⟩;obtain⟨v4,w4,hap,hrow,hg,_,_⟩:=run_append_own_at (P:=Tryz.prog) (w:=W.alloc (.cells #[.int .i64 x] 3)) b0 23 23 3 i0 (.int .i64 0) 1 8 Tryz.underlying23 hi hz0 hz1 hz2 rfl (by decide) v l.length (eF l) (World.ownsRow.alloc hr _) ⟨W.heap.size,0,none⟩ 1 1 [.int .i64 x] rfl
  (cell_one_new _ _ _) (fun u hu=>by simp at hu;rw[hu];rfl) (by unfold maxLen;omega) (by omega) (by simp;omega)
 refine⟨v4,w4,hap,?_,hg⟩;unfold eF at hrow ⊢;rw[List.map_append,lAq];exact hrow
theorem ZS (s:ByteArray) (w:World) (hs:s.size<=800):Calls Tryz.prog 10 #[.string s] w (xm w s):=by
 have PS:=hDq (ZT s 32 w (by omega));have HF:Hid (dY s=none->∀ W',Below w.heap.size w W'->xm w s (.returned (.tuple #[.int .i64 0,.slice none 0 0,.slice none 0 0,.int .i64 1])) W'):=hDq fun h _ hb=>amk h hb;have Dr:=hDq (Y_ s.data.toList);have IX:Hid (∀ p∈pieces 32 s.data.toList,p.length<=800):=hDq fun p hp=>by
  have h1:=PI 32 s.data.toList p hp;have h2:s.data.toList.length=s.size:=Array.length_toList;omega
 have vh:=zB 32 s.data.toList;have ig:s.data.toList.length=s.size:=Array.length_toList;unfold xh at Dr;obtain⟨hd,tl,hpc⟩:∃ hd tl,pieces 32 s.data.toList=hd::tl:=by
  cases h:pieces 32 s.data.toList with
  | nil=>exact absurd h (IE _ _)
  | cons a b=>exact⟨a,b,rfl⟩
 rw[hpc]at PS Dr IX vh;rw[List.headD_cons,List.tail_cons]at Dr;have xo:Hid (dY s=Di (Lib.cut hd [58]) tl):=Dr.out;have ZU:Hid (∀ p∈tl,p.length<=800):=hDq fun p hp=>IX.out p (mOq _ hp);have amm:hd.length<=800:=IX.out hd mSq;have hmw:tl.length+1<=801:=by rw[lCq,ig]at vh;omega
 clear Dr IX hpc vh ig;go_enter Tryz.func10,Tryz.ntmps10
 go_wp2_with fail
 refine PS.out.mono ?_;rintro e w1 ⟨v,rfl,hb1,hrow⟩;obtain⟨g,cap,rfl,hcw⟩:=IW hrow (by simp);rw[lCq];have HB1:=hDq hb1;have ZV:=hDq hcw;have c0:w1.cell? ⟨g,0,none⟩=some (.string (ai hd)):=hcw w1 (bRq _ _) 0 hd rfl;obtain⟨S,hS⟩:∃ S,ai hd=S:=⟨_,rfl⟩;have PT:S.size=hd.length:=by rw[<- hS];rfl
 have ZW:S.data.toList=hd:=by rw[<- hS];rfl
 rw[hS]at c0;have ZX:=hDq PT;have PU:=hDq ZW;have ao9:S.size<=800:=by rw[PT];exact amm
 clear hb1 hrow hcw PS hS PT ZW;have ZY:(0:Int)<((tl.length+1:Nat):Int):=by omega
 simp only[]
 go_wp2_with fail
 go_loopw [7] (fun kv wr=>∃ k:Nat,k<=S.size∧kv=.int .i64 k∧wr=w1∧∀ j b,j<k->hd[j]?=some b->b≠58) (fun kv _=>S.size-(intOf kv).toNat)
 case atStart=>exact⟨0,Nat.zero_le _,rfl,rfl,fun j b hj=>by omega⟩
 case round =>
  obtain⟨k,hk,rfl,hwr,hno⟩:=hrel;subst wr;have rR:=hDq hno;clear hno;by_cases hlt:k<S.size
  ·have aK:(k:Int)<S.size:=by omega
   have hbk:hd[k]?=some S[k]:=by have:=uM S k hlt;rw[PU.out]at this;exact this
   have zq:=hDq hbk;clear hbk;by_cases he:S[k]=58
   ·have jh:((S[k].toNat:Int) != 58)=false:=by rw[he];rfl
    have PV:((k:Int)==(S.size:Int))=false:=by simp;omega
    have hda:∀ b∈hd.take k,b≠58:=fun b hb=>by
     obtain⟨j,hj⟩:=List.getElem?_of_mem hb;by_cases hjk:j<k
     ·rw[List.getElem?_take_of_lt hjk]at hj;exact rR.out j b hjk hj
     ·rw[List.getElem?_eq_none (by rw[lKq];omega)]at hj;cases hj
    have hsp:hd=hd.take k++58::hd.drop (k+1):=by
     have h1:k<hd.length:=by rw[<- ZX.out];exact hlt
     have h2:hd.drop k=58::hd.drop (k+1):=by
      rw[List.drop_eq_getElem_cons h1]
      have:=(List.getElem?_eq_some_iff.1 zq.out).2
      rw[this,he]
     rw[<- h2,List.take_append_drop]
    have hcf:=xd 58 (hd.take k) (hd.drop (k+1)) hda;rw[<- hsp]at hcf;rw[hcf]at xo;have qD:Hid (S.extract 0 k=ai (hd.take k)):=hDq (by rw[ZZ,PU.out]);have zF:Hid (S.extract (k+1) S.size=ai (hd.drop (k+1))):=hDq (by rw[PW,PU.out]);have fU:=hDq (Z0 (S.extract 0 k) w1);obtain⟨a,ha⟩:∃ a,hd.take k=a:=⟨_,rfl⟩;obtain⟨r,hr⟩:∃ r,hd.drop (k+1)=r:=⟨_,rfl⟩;have N4:r.length<=800:=by rw[<- hr,List.length_drop];omega
    rw[ha,hr]at xo;rw[ha]at qD;rw[hr]at zF;clear ha hr hcf hsp hda rR zq;cases hn:dX 9 (ai a) with
    | none =>
     have HN:Hid (dY s=none):=hDq (by rw[xo.out];unfold Di;rw[if_pos rfl,hn]);have hI:pV (S.extract 0 k) = -1:=by rw[qD.out];unfold pV;rw[hn]
     rw[hI]at fU;clear hI hn
     go_wp2_with fail
     refine fU.out.mono ?_;rintro e w2 ⟨rfl,hw2⟩;subst w2;simp only[];go_wp2;refine bodyPost_ret (v:=.tuple #[.int .i64 0,.slice none 0 0,.slice none 0 0,.int .i64 1]) (by simp[results,Tryz.results10,go_sem]) rfl ?_;exact HF.out HN.out _ HB1.out
    | some n =>
     have hI:pV (S.extract 0 k)=n:=by rw[qD.out];unfold pV;rw[hn]
     have amn:n<10 ^ 9:=by
      rw[IC]at hn;unfold uI at hn;split at hn
      ·cases hn
      ·have h5:=decFrom_lt _ 0 n hn
       rw[Nat.zero_add,Nat.one_mul]at h5;exact Nat.lt_of_lt_of_le h5 (Nat.pow_le_pow_right (by decide) (by omega))
     have zG:Hid (∀ R,iY (ai r)=R->dY s=match R with
       | some ds=>(bW tl).map fun fs=>(n,ds,fs)
       | none=>none):=hDq fun R hR=>by
      rw[xo.out];unfold Di;rw[if_pos rfl,hn];show (match some n,iY (ai r) with | some n,some ds=>_ | _,_=>none)=_;rw[hR];cases R <;> rfl
     rw[hI]at fU;clear hI hn qD;have hn0:¬ (n:Int)<0:=by omega
     cases r with
     | nil =>
      have hrest:(S.extract (k+1) S.size)=⟨#[]⟩:=zF.out;have se:Hid (dY s=(bW tl).map fun fs=>(n,([]:List Nat),fs)):=hDq (zG.out (some []) rfl)
      go_wp2_with fail
      refine fU.out.mono ?_;rintro e w3 ⟨rfl,hw3⟩;subst w3;have au:=HB1;have IY:=ZV;have IZ:Hid (w1.ownsRow w.heap.size 3 1 (.slice none 0 0) ([]:List Nat).length (eF [])):=hDq (World.ownsRow_nil _ _ _ _);simp only[]
      go_wp2_with fail
      clear he jh PV aK hlt fU zF xo hrest zG;obtain⟨m3,qy⟩:∃ m3,tl.length+1=m3:=⟨_,rfl⟩;rw[qy]at hmw ZY ⊢;have xq:=hDq qy;clear qy
      go_loopw [14,15] (fun fv iv wr=>∃ (ii:Nat) (fs:List (List UInt8)),ii<=m3∧iv=.int .i64 ii∧fs.length+1=ii∧bW tl=(bW (tl.drop fs.length)).map (fs++·)∧wr.ownsRow w1.heap.size 9 1 fv fs.length (lD fs)∧Below w1.heap.size w1 wr) (fun _ iv _=>m3-(intOf iv).toNat)
      case atStart=>exact⟨1,[],by have:=xq.out;omega,rfl,rfl,by cases h:bW tl <;> simp[h],World.ownsRow_nil _ _ _ _,bRq _ _⟩
      case round =>
       obtain⟨ii,fs,hi,rfl,hfl,kg,hrow,hb⟩:=hrel;obtain⟨i,uN⟩:∃ i,fs.length=i:=⟨_,rfl⟩;rw[uN]at kg hfl;have HU:=hDq kg;have HR:=hDq hrow;have HB:=hDq hb;have iO:=hDq uN;have sg:=hDq hfl;clear kg hrow hb hfl uN;have G9:=xq.out;by_cases hlt:ii<m3
       ·have j3:(ii:Int)<m3:=by omega
        have si:=sg.out;obtain⟨p,hp⟩:∃ p,tl[i]?=some p:=⟨_,List.getElem?_eq_getElem (by omega)⟩;have nT:Hid (∀ W',Below wr.heap.size wr W'->W'.cell? ⟨g,ii,none⟩=some (.string (ai p))):=hDq fun W' hW=>IY.out W' (HB.out.trans (hW.mono HB.out.size)) ii p (by rw[<- si];simpa using hp);have iA:Hid (tl.drop i=p::tl.drop (i+1)):=hDq (by
         obtain⟨h1,h2⟩:=List.getElem?_eq_some_iff.1 hp;rw[List.drop_eq_getElem_cons h1,h2])
        have hpl:p.length<=800:=ZU.out p (List.mem_of_getElem? hp);obtain⟨T,hT⟩:∃ T,ai p=T:=⟨_,rfl⟩;have Dt:T.size=p.length:=by rw[<- hT];rfl
        have Du:T.data.toList=p:=by rw[<- hT];rfl
        rw[hT]at nT;have mB:=nT.out wr (bRq _ _);have gZ:=hDq Dt;have Dv:=hDq Du;clear hT Dt Du hp si G9;have amo:T.size<=800:=by rw[gZ.out];exact hpl
        by_cases PX:T.size%2=1
        ·have PY:((T.size:Int).tmod 2 != 0)=true:=by
          rw[Int.tmod_eq_emod_of_nonneg (by omega)];simp;omega
         have HN:Hid (dY s=none):=hDq (by
          rw[se.out,HU.out,iA.out];unfold bW;rw[Iw p (by rw[<- gZ.out];exact PX)];rfl)
         go_wp2;refine bodyPost_ret (v:=.tuple #[.int .i64 0,.slice none 0 0,.slice none 0 0,.int .i64 1]) (by simp[results,Tryz.results10,go_sem]) rfl ?_;exact HF.out HN.out _ (au.out.trans (HB.out.mono au.out.size))
        ·have hev:T.size%2=0:=by omega
         have PY:((T.size:Int).tmod 2 != 0)=false:=by
          rw[Int.tmod_eq_emod_of_nonneg (by omega)];simp;omega
         have amq:((T.size:Int)%2 != 0)=false:=by simp;omega
         go_wp2_with fail
         obtain⟨wq,mf⟩:∃ wq,wq=wr:=⟨_,rfl⟩;rw[<- mf]at HB HR nT mB ⊢;clear mf
         go_loopw [16,17] (fun bv lz wx=>∃ (jj:Nat) (x:List UInt8),jj<=T.size∧jj%2=0∧lz=.int .i64 jj∧bv=.string (ai x)∧2*x.length=jj∧unhex p=(unhex (p.drop jj)).map (x++·)∧Below wq.heap.size wq wx) (fun _ lz _=>T.size-(intOf lz).toNat)
         case atStart=>exact⟨0,[],Nat.zero_le _,rfl,rfl,rfl,rfl,by cases h:unhex p <;> simp[h],bRq _ _⟩
         case round =>
          obtain⟨jj,x,ht,amr,rfl,rfl,zD,Dw,hbx⟩:=hrel;have sj:=hDq Dw;have eO:=hDq hbx;have lx:=hDq zD;clear Dw hbx zD;have hcx:=nT.out wr eO.out;by_cases hjt:jj<T.size
          ·have PZ:jj+1<T.size:=by omega
           have a_:(jj:Int)<T.size:=by omega
           have ams:(jj:Int)+1<T.size:=by omega
           have q0:p[jj]?=some T[jj]:=by have:=uM T jj hjt;rw[Dv.out]at this;exact this
           have q1:p[jj+1]?=some T[jj+1]:=by have:=uM T (jj+1) PZ;rw[Dv.out]at this;exact this
           have oo:=hDq (Pe p jj _ _ q0 q1);have HD0:=hDq (fun W'=>I0 T[jj] W');have HD1:=hDq (fun W'=>I0 T[jj+1] W');have hz0:=uH T[jj];have hz1:=uH T[jj+1];clear q0 q1 mB
           go_wp2_with fail
           refine(HD0.out _).mono ?_;rintro e cq ⟨rfl,jf⟩;subst cq;simp only[]
           go_wp2_with fail
           refine(HD1.out _).mono ?_;rintro e cq ⟨rfl,jf⟩;subst cq;clear HD0 HD1;generalize hA:di T[jj]=A at *;generalize P0:di T[jj+1]=kx at *;clear hA P0;by_cases hna:A<0
           ·have HN:Hid (dY s=none):=hDq (by
             rw[se.out,HU.out,iA.out];unfold bW;rw[sj.out,oo.out,if_pos (.inl hna)];rfl)
            simp only[];go_wp2;refine bodyPost_ret (v:=.tuple #[.int .i64 0,.slice none 0 0,.slice none 0 0,.int .i64 1]) (by simp[results,Tryz.results10,go_sem]) rfl ?_;exact HF.out HN.out _ (au.out.trans ((HB.out.trans (eO.out.mono HB.out.size)).mono au.out.size))
           by_cases hnb:kx<0
           ·have HN:Hid (dY s=none):=hDq (by
             rw[se.out,HU.out,iA.out];unfold bW;rw[sj.out,oo.out,if_pos (.inr hnb)];rfl)
            simp only[];go_wp2;refine bodyPost_ret (v:=.tuple #[.int .i64 0,.slice none 0 0,.slice none 0 0,.int .i64 1]) (by simp[results,Tryz.results10,go_sem]) rfl ?_;exact HF.out HN.out _ (au.out.trans ((HB.out.trans (eO.out.mono HB.out.size)).mono au.out.size))
           have pW:=hDq (fun W'=>my (16*A+kx) W');obtain⟨y,hy⟩:∃ y,UInt8.ofNat (A.toNat*16+kx.toNat)=y:=⟨_,rfl⟩;have HE:Hid (unhex p=(unhex (p.drop (jj+2))).map ((x++[y])++·)):=hDq (by
            rw[sj.out,oo.out,if_neg (by omega),hy];cases unhex (p.drop (jj+2)) <;> simp)
           have HST:Hid (ai x++strOfNums [(16*A+kx)%256]=ai (x++[y])):=hDq (by
            have e1:strOfNums [(16*A+kx)%256]=ai [y]:=by
             unfold strOfNums ai;simp only[List.map_cons,List.map_nil];rw[<- hy,show ((16*A+kx)%256).toNat=A.toNat*16+kx.toNat by omega]
            rw[e1];apply ByteArray.ext;rw[ByteArray.data_append];apply Array.ext';simp[ai])
           have wR:¬ 9223372036854775807<(ai x).size+(strOfNums [(16*A+kx)%256]).size:=by
            have oL:=lx.out;rw[ma,strOfNums_size];simp only[List.length_singleton];omega
           have gL:Hid (2*(x++[y]).length=jj+2):=hDq (by rw[lAq,List.length_singleton];have:=lx.out;omega);clear hy;simp only[]
           go_wp2_with fail
           refine(pW.out _).mono ?_;rintro e cq ⟨rfl,hba⟩;have z_:=hDq (eO.out.trans (hba.mono eO.out.size));clear hba pW;simp only[];go_wp2;go_roundw
           case rel=>exact⟨jj+2,x++[y],by omega,by omega,by go_num,by rw[HST.out],gL.out,HE.out,z_.out⟩
           case measure=>simp[intOf];omega
          ·have a_:¬ (jj:Int)<T.size:=by omega
           have HE:Hid (unhex p=some x):=hDq (by
            rw[sj.out,List.drop_of_length_le (by rw[<- gZ.out];omega)];simp[unhex])
           have HRW:=hDq (bR HR.out eO.out);obtain⟨v4,w4,hap,hr4,hg4⟩:=I1 wr u14 fs x HRW.out (by rw[iO.out];have:=sg.out;omega) (lTq HB.out.size eO.out.size);have bD:=hDq (HB.out.trans (eO.out.mono HB.out.size));have bg:Hid (Below w1.heap.size w1 w4):=hDq (below_grown (bD.out.alloc bD.out.size _) (World.ownsRow.alloc HRW.out _) (lTq bD.out.size (by simp)) hg4);have bF:=hDq hr4;have cO:=hDq hap;have P2:Hid (bW tl=(bW (tl.drop (fs++[x]).length)).map ((fs++[x])++·)):=hDq (by
            rw[show (fs++[x]).length=i+1 by rw[lAq,iO.out];rfl,HU.out,iA.out];show Option.map _ (match unhex p with | none=>none | some x=>(bW (tl.drop (i+1))).map (x :: ·))=_;rw[HE.out];cases bW (tl.drop (i+1)) <;> simp)
           have kH:Hid ((fs++[x]).length+1=ii+1):=hDq (by rw[lAq,iO.out,<- sg.out];rfl);clear hap hr4 hg4 mB
           go_wp2_with (at_builtin;refine wpList_append_run rfl _ _ 70 rfl _ _ _ rfl rfl cO.out ?_)
           go_roundw
           case rel=>exact⟨ii+1,fs++[x],hlt,by go_num,kH.out,P2.out,bF.out,bg.out⟩
           case measure=>simp[intOf];omega
       ·have j3:¬ (ii:Int)<m3:=by omega
        have si:=sg.out;have P4:Hid (bW tl=some fs):=hDq (by
         rw[HU.out,List.drop_of_length_le (by omega)];simp[bW])
        have Dx:Hid (dY s=some (n,([]:List Nat),fs)):=hDq (by rw[se.out,P4.out];rfl);have ju:Hid (dI s=eI (fs.map ai)):=hDq (by unfold dI;rw[Dx.out]);have P5:fs.length<=801:=by rw[iO.out];omega
        obtain⟨a5,c5,xt⟩:=eo HR.out;obtain⟨m5,sr⟩:∃ m5,fs.length=m5:=⟨_,rfl⟩;have Dy:Hid (∀ W',Below wr.heap.size wr W'->∀ (k:Nat) f,fs[k]?=some f->∃ g5,a5=some ⟨g5,0,none⟩∧k<m5∧W'.cell? ⟨g5,k,none⟩=some (.string (ai f))):=hDq fun W' hW k f hf=>by
         have hne:fs≠[]:=by intro e;rw[e]at hf;simp at hf
         obtain⟨g5,amt,e5,h5⟩:=IW HR.out hne;rw[xt]at e5;cases e5;exact⟨g5,rfl,by rw[<- sr];exact(List.getElem?_eq_some_iff.1 hf).1,h5 W' hW k f hf⟩
        have uF:=hDq (bR IZ.out HB.out);have bz:=hDq (au.out.trans (HB.out.mono au.out.size));rw[sr]at xt P5;have su:=hDq sr;clear sr HR HU xq HB;subst xt
        go_wp2_with fail
        obtain⟨wq,mf⟩:∃ wq,wq=wr:=⟨_,rfl⟩;rw[<- mf]at Dy uF bz ⊢;clear mf
        go_loopw [20,21] (fun Hz kv wx=>∃ k:Nat,k<=m5∧kv=.int .i64 k∧dI s=eI ((fs.map ai).drop k)∧wx.ownsRow wq.heap.size 95 8 Hz (((fs.take k).map ai).map af.bq).length (aL (((fs.take k).map ai).map af.bq))∧Below wq.heap.size wq wx) (fun _ kv _=>m5-(intOf kv).toNat)
        case atStart=>exact⟨0,Nat.zero_le _,rfl,ju.out,World.ownsRow_nil _ _ _ _,bRq _ _⟩
        case round =>
         obtain⟨k,hk,rfl,kZ,hrow,hb⟩:=hrel;have o7:=hDq kZ;have HR:=hDq hrow;have HB:=hDq hb;clear kZ hrow hb ju;by_cases hlt:k<m5
         ·have aK:(k:Int)<m5:=by omega
          obtain⟨f,hf⟩:∃ f,fs[k]?=some f:=⟨_,List.getElem?_eq_getElem (by rw[su.out];exact hlt)⟩;obtain⟨g5,rfl,_,hc⟩:=Dy.out wr HB.out k f hf;have HS:=hDq (Pj (fs.map ai) k (ai f) (by rw[List.getElem?_map,hf];rfl));have HT:Hid (((fs.take (k+1)).map ai).map af.bq=((fs.take k).map ai).map af.bq++[af.bq (ai f)]):=hDq (by rw[List.take_add_one,hf];simp);have fM:=hDq (Qu (ai f) wr);have HL:Hid ((((fs.take k).map ai).map af.bq).length=k):=hDq (by rw[List.length_map,List.length_map,lKq];have:=su.out;omega);clear hf;rw[Pk]at fM;by_cases hc0:bM (ai f)=0
          ·rw[hc0]at fM
           have P6:Hid (dI s=eI ((fs.map ai).drop (k+1))):=hDq (by rw[o7.out,HS.out,if_pos hc0]);generalize af.bq (ai f)=aY at *;unfold cr bw at fM
           go_wp2_with fail
           refine fM.out.mono ?_;rintro e pX ⟨rfl,hb1'⟩;have hb2:Below wq.heap.size wq pX:=HB.out.trans (hb1'.mono HB.out.size);have bE:=hDq (hb2.alloc hb2.size (.cells (bw aY) 95));have hr2:(pX.alloc (.cells (bw aY) 95)).ownsRow wq.heap.size 95 8 u20 (((fs.take k).map ai).map af.bq).length (aL (((fs.take k).map ai).map af.bq)) :=
            (bR HR.out hb1').alloc _
           obtain⟨v4,w4,hap,hr4,hg4⟩:=Hs (pX.alloc (.cells (bw aY) 95)) u20 (((fs.take k).map ai).map af.bq) aY hr2 (by rw[HL.out];omega) bE.out.size;have bg:Hid (Below wq.heap.size wq w4):=hDq (below_grown (bE.out.alloc bE.out.size _) (World.ownsRow.alloc hr2 _) (lTq bE.out.size (by simp)) hg4);have bF:Hid (w4.ownsRow wq.heap.size 95 8 v4 (((fs.take (k+1)).map ai).map af.bq).length (aL (((fs.take (k+1)).map ai).map af.bq))):=hDq (by rw[HT.out];exact hr4);rw[World.size_alloc]at hap;have cO:=hDq hap;unfold bw at cO;clear hap hr4 hg4 hr2 hb2 hb1' fM hc0;simp only[]
           go_wp2_with (at_builtin;refine wpList_append_run rfl _ _ 24 rfl _ _ _ rfl rfl cO.out ?_)
           go_roundw
           case rel=>exact⟨k+1,hlt,by go_num,P6.out,bF.out,bg.out⟩
           case measure=>simp[intOf];omega
          ·have hce:dI s=bM (ai f):=by rw[o7.out,HS.out,if_neg hc0]
           have mB:(0:Int)<bM (ai f):=by omega
           have HA:Hid (∀ W',Below w.heap.size w W'->xm w s (.returned (.tuple #[.int .i64 0,.slice none 0 0,.slice none 0 0,.int .i64 (bM (ai f))])) W'):=hDq fun W' hb=>⟨0,_,_,by rw[hce],hb,fun _ _ _ _ e0=>absurd (hce.symm.trans e0) hc0,fun _=>⟨rfl,rfl,rfl⟩⟩;generalize af.bq (ai f)=aY at *;generalize bM (ai f)=eT at *;unfold cr bw at fM;clear hce
           go_wp2_with fail
           refine fM.out.mono ?_;rintro e pX ⟨rfl,hb1'⟩;have hb2:Below wq.heap.size wq pX:=HB.out.trans (hb1'.mono HB.out.size);have bE:=hDq (hb2.alloc hb2.size (.cells #[.int .u8 aY.k,.int .i64 aY.c,.int .i64 aY.sq,.int .i64 aY.it,.int .i64 aY.sd,.int .i64 aY.pr,.int .i64 aY.q,.int .i64 aY.id] 95));clear hb1' hb2 fM;simp only[];go_wp2;refine bodyPost_ret (v:=.tuple #[.int .i64 0,.slice none 0 0,.slice none 0 0,.int .i64 eT]) (by simp[results,Tryz.results10,go_sem]) rfl ?_;exact HA.out _ (bz.out.trans (bE.out.mono bz.out.size))
         ·have aK:¬ (k:Int)<m5:=by omega
          have hkm:k=m5:=by omega
          have hC:dI s=0:=by rw[o7.out,List.drop_of_length_le (by rw[List.length_map,su.out];omega)];rfl
          have HA:Hid (∀ va W',W'.ownsRow wq.heap.size 95 8 va (((fs.take k).map ai).map af.bq).length (aL (((fs.take k).map ai).map af.bq))->Below wq.heap.size wq W'->xm w s (.returned (.tuple #[.int .i64 n,.slice none 0 0,va,.int .i64 0])) W'):=hDq fun va W' hr hb=>by
           rw[List.take_of_length_le (by rw[su.out];omega)]at hr;refine⟨n,.slice none 0 0,va,by rw[hC];rfl,bz.out.trans (hb.mono bz.out.size),fun m' ds' fs' e _=>?_,fun e=>absurd hC e⟩;rw[Dx.out]at e;cases e;refine⟨rfl,bR uF.out hb,gw ?_ bz.out.size⟩;simpa using hr
          clear hC;go_wp2;refine bodyPost_ret (v:=.tuple #[.int .i64 n,.slice none 0 0,u20,.int .i64 0]) (by simp[results,Tryz.results10,go_sem]) rfl ?_;exact HA.out _ _ HR.out HB.out
     | cons rb rt =>
      have P7:(rb::rt)≠[]:=by simp
      have hrs:(ai (rb::rt)).size≠0:=by rw[ma];simp
      obtain⟨r,hr⟩:∃ r,r=rb::rt:=⟨_,rfl⟩;rw[<- hr]at P7 hrs zF zG N4;have I3:Hid ((S.extract (k+1) S.size).data.toList=r):=hDq (by rw[zF.out];rfl);have hne:((S.extract (k+1) S.size).toList==[])=false:=by
       rw[ByteArray.toList_eq,I3.out];cases hq:r with
       | nil=>exact absurd hq P7
       | cons a b=>rfl
      have hxs:(S.extract (k+1) S.size).size<=800:=by
       have:(S.extract (k+1) S.size).data.toList.length=(S.extract (k+1) S.size).size:=Array.length_toList;rw[<- this,I3.out];exact N4
      have nN:=hDq (ZT (S.extract (k+1) S.size) 44 w1 (by omega));rw[I3.out]at nN;obtain⟨qs,kN⟩:∃ qs,pieces 44 r=qs:=⟨_,rfl⟩;have P8:Hid (iY (ai r)=gz (-1) (qs.map ai)):=hDq (by unfold iY;rw[if_neg hrs,Dm,kN]);have Z1:qs≠[]:=by rw[<- kN];exact IE _ _
      have rH:qs.length<=801:=by have:=zB 44 r;rw[kN]at this;omega
      rw[kN]at nN;clear kN hrs P7 hr xo zF I3
      go_wp2_with fail
      refine fU.out.mono ?_;rintro e w2 ⟨rfl,hw2⟩;subst w2;simp only[]
      go_wp2_with fail
      refine nN.out.mono ?_;rintro e w2 ⟨v2,rfl,hb2,hrow2⟩;obtain⟨g2,apa,rfl,Z2⟩:=IW hrow2 Z1;have HB2:=hDq (HB1.out.trans (hb2.mono HB1.out.size));have mP:=hDq hb2;have Z3:=hDq Z2;obtain⟨m2,Ca⟩:∃ m2,qs.length=m2:=⟨_,rfl⟩;rw[Ca]at rH ⊢;have xZ:=hDq Ca;clear hb2 Z2 hrow2 nN fU Ca Z1 he jh PV aK hlt hne hxs;simp only[]
      go_wp2_with fail
      go_loopw [9,12] (fun bH iv wr=>∃ (i:Nat) (ns:List Nat) (last:Int),i<=m2∧iv=.int .i64 i∧ns.length=i∧nj ((qs.take i).map ai) ns last∧(∀ j,j+1=i->ns[j]?=some last.toNat∧0<=last)∧(i=0->last = -1)∧wr.ownsRow w2.heap.size 3 1 bH ns.length (eF ns)∧Below w2.heap.size w2 wr) (fun _ iv _=>m2-(intOf iv).toNat)
      case atStart=>exact⟨0,[],-1,Nat.zero_le _,rfl,rfl,nj.nil,fun j hj=>by omega,fun _=>rfl,World.ownsRow_nil _ _ _ _,bRq _ _⟩
      case round =>
       obtain⟨i,ns,last,hi,rfl,hnl,qC,Z4,hl0,hrow,hb⟩:=hrel;have uL:=hDq qC;have CY:=hDq Z4;have HR:=hDq hrow;have HB:=hDq hb;have Dz:=hDq hnl;have FR:=hDq hl0;clear qC Z4 hrow hb hnl hl0;by_cases hlt:i<m2
       ·have j3:(i:Int)<m2:=by omega
        obtain⟨q,hq⟩:∃ q,qs[i]?=some q:=⟨_,List.getElem?_eq_getElem (by rw[xZ.out];exact hlt)⟩;have apb:=Z3.out wr HB.out i q hq;have amu:Hid (qs.map ai=(qs.take i).map ai++ai q::(qs.drop (i+1)).map ai):=hDq (by
         obtain⟨h1,h2⟩:=List.getElem?_eq_some_iff.1 hq;have h3:qs.drop i=q::qs.drop (i+1):=by rw[List.drop_eq_getElem_cons h1,h2]
         rw[<- List.map_cons,<- h3,<- List.map_append,List.take_append_drop])
        have j7:Hid ((qs.take (i+1)).map ai=(qs.take i).map ai++[ai q]):=hDq (by rw[List.take_add_one,hq];simp);have fU:=hDq (Z0 (ai q) wr);have gU:Hid ((∀ n,dX 9 (ai q)=some n->¬ (n<=5∧last<(n:Int)))->dY s=none):=hDq fun lM=>zG.out none (by rw[P8.out,amu.out];exact uL.out.bad lM _);have bz:=hDq (HB2.out.trans (HB.out.mono HB2.out.size));clear hq;cases hn:dX 9 (ai q) with
        | none =>
         have HN:Hid (dY s=none):=hDq (gU.out (fun n e=>by rw[hn]at e;cases e));have hI:pV (ai q) = -1:=by unfold pV;rw[hn]
         rw[hI]at fU;clear hI hn
         go_wp2_with fail
         refine fU.out.mono ?_;rintro e cq ⟨rfl,jf⟩;subst cq;simp only[];go_wp2;refine bodyPost_ret (v:=.tuple #[.int .i64 0,.slice none 0 0,.slice none 0 0,.int .i64 1]) (by simp[results,Tryz.results10,go_sem]) rfl ?_;exact HF.out HN.out _ bz.out
        | some c =>
         have hI:pV (ai q)=c:=by unfold pV;rw[hn]
         rw[hI]at fU;by_cases P9:c<=5
         ·have hc0:¬ (c:Int)<0:=by omega
          have kn:¬ (6:Int)<=c:=by omega
          obtain⟨v4,w4,hap,hr4,hg4⟩:=aml wr u9 ns c HR.out (by rw[Dz.out];omega) HB.out.size;have bg:Hid (Below w2.heap.size w2 w4):=hDq (below_grown (HB.out.alloc HB.out.size _) (World.ownsRow.alloc HR.out _) (lTq HB.out.size (by simp)) hg4);have bF:=hDq hr4;have cO:=hDq hap;clear hap hr4 hg4;by_cases mS:i=0
          ·have hl1:last = -1:=FR.out mS
           have HST:=hDq (uL.out.step hn P9 (by omega));have P_:¬ (0:Int)<i:=by omega
           rw[<- j7.out]at HST;clear hI hn hl1 mS
           go_wp2_with fail
           refine fU.out.mono ?_;rintro e cq ⟨rfl,jf⟩;subst cq;simp only[]
           go_wp2_with (at_builtin;refine wpList_append_run rfl _ _ 23 rfl _ _ _ rfl rfl cO.out ?_)
           go_roundw
           case rel=>exact⟨i+1,ns++[c],c,hlt,by go_num,by rw[lAq,Dz.out];rfl,HST.out,fun j hj=>⟨by rw[show j=ns.length by rw[Dz.out];omega,List.getElem?_append_right (lRq _)];simp,by omega⟩,fun e=>by omega,bF.out,bg.out⟩
           case measure=>simp[intOf];omega
          ·obtain⟨j,hj⟩:∃ j,j+1=i:=⟨i-1,by omega⟩
           obtain⟨BM,hl1⟩:=CY.out j hj;obtain⟨g3,y7,hv3,hc3⟩:=ZR HR.out BM;have P_:(0:Int)<i:=by omega
           have hij:(i:Int)-1=(j:Int):=by omega
           have amv:((last.toNat:Nat):Int)=last:=by omega
           rw[amv]at hc3;have hjn:j<ns.length:=(List.getElem?_eq_some_iff.1 BM).1;have a_:(j:Int)<ns.length:=by omega
           obtain⟨nl,hnl⟩:∃ nl,ns.length=nl:=⟨_,rfl⟩;rw[hnl]at hv3 hjn a_;subst hv3;by_cases hle:(c:Int)<=last
           ·have HN:Hid (dY s=none):=hDq (gU.out (fun n e h=>by rw[hn]at e;cases e;omega))
            clear hI hn BM hnl
            go_wp2_with fail
            refine fU.out.mono ?_;rintro e cq ⟨rfl,jf⟩;subst cq;simp only[];go_wp2;refine bodyPost_ret (v:=.tuple #[.int .i64 0,.slice none 0 0,.slice none 0 0,.int .i64 1]) (by simp[results,Tryz.results10,go_sem]) rfl ?_;exact HF.out HN.out _ bz.out
           ·have HST:=hDq (uL.out.step hn P9 (by omega))
            rw[<- j7.out]at HST;clear hI hn BM hnl
            go_wp2_with fail
            refine fU.out.mono ?_;rintro e cq ⟨rfl,jf⟩;subst cq;simp only[]
            go_wp2_with (at_builtin;refine wpList_append_run rfl _ _ 23 rfl _ _ _ rfl rfl cO.out ?_)
            go_roundw
            case rel=>exact⟨i+1,ns++[c],c,hlt,by go_num,by rw[lAq,Dz.out];rfl,HST.out,fun j hj=>⟨by rw[show j=ns.length by rw[Dz.out];omega,List.getElem?_append_right (lRq _)];simp,by omega⟩,fun e=>by omega,bF.out,bg.out⟩
            case measure=>simp[intOf];omega
         ·have HN:Hid (dY s=none):=hDq (gU.out (fun n e h=>by rw[hn]at e;cases e;exact P9 h.1))
          have hc0:¬ (c:Int)<0:=by omega
          have kn:(6:Int)<=c:=by omega
          clear hI hn
          go_wp2_with fail
          refine fU.out.mono ?_;rintro e cq ⟨rfl,jf⟩;subst cq;simp only[];go_wp2;refine bodyPost_ret (v:=.tuple #[.int .i64 0,.slice none 0 0,.slice none 0 0,.int .i64 1]) (by simp[results,Tryz.results10,go_sem]) rfl ?_;exact HF.out HN.out _ bz.out
       ·have j3:¬ (i:Int)<m2:=by omega
        have se:Hid (dY s=(bW tl).map fun fs=>(n,ns,fs)):=hDq (zG.out (some ns) (by
         rw[P8.out]
         have:=uL.out.all
         rw[List.take_of_length_le (by rw[xZ.out];omega)]at this;exact this))
        have au:=hDq (HB2.out.trans (HB.out.mono HB2.out.size));have IZ:=hDq (gw HR.out HB2.out.size);have IY:Hid (∀ W',Below wr.heap.size wr W'->∀ (i:Nat) p,(hd::tl)[i]?=some p->W'.cell? ⟨g,i,none⟩=some (.string (ai p))):=hDq fun W' hW=>ZV.out W' (mP.out.trans ((HB.out.trans (hW.mono HB.out.size)).mono mP.out.size));obtain⟨w3,hw3⟩:∃ w3,w3=wr:=⟨_,rfl⟩;rw[<- hw3]at au IZ IY ⊢;clear hw3 uL CY FR HR HB zG P8 Z3 xZ mP HB2
        go_wp2_with fail
        obtain⟨m3,qy⟩:∃ m3,tl.length+1=m3:=⟨_,rfl⟩;rw[qy]at hmw ZY ⊢;have xq:=hDq qy;clear qy
        go_loopw [14,15] (fun fv iv wr=>∃ (ii:Nat) (fs:List (List UInt8)),ii<=m3∧iv=.int .i64 ii∧fs.length+1=ii∧bW tl=(bW (tl.drop fs.length)).map (fs++·)∧wr.ownsRow w3.heap.size 9 1 fv fs.length (lD fs)∧Below w3.heap.size w3 wr) (fun _ iv _=>m3-(intOf iv).toNat)
        case atStart=>exact⟨1,[],by have:=xq.out;omega,rfl,rfl,by cases h:bW tl <;> simp[h],World.ownsRow_nil _ _ _ _,bRq _ _⟩
        case round =>
         obtain⟨ii,fs,hi,rfl,hfl,kg,hrow,hb⟩:=hrel;obtain⟨i,uN⟩:∃ i,fs.length=i:=⟨_,rfl⟩;rw[uN]at kg hfl;have HU:=hDq kg;have HR:=hDq hrow;have HB:=hDq hb;have iO:=hDq uN;have sg:=hDq hfl;clear kg hrow hb hfl uN;have G9:=xq.out;by_cases hlt:ii<m3
         ·have j3:(ii:Int)<m3:=by omega
          have si:=sg.out;obtain⟨p,hp⟩:∃ p,tl[i]?=some p:=⟨_,List.getElem?_eq_getElem (by omega)⟩;have nT:Hid (∀ W',Below wr.heap.size wr W'->W'.cell? ⟨g,ii,none⟩=some (.string (ai p))):=hDq fun W' hW=>IY.out W' (HB.out.trans (hW.mono HB.out.size)) ii p (by rw[<- si];simpa using hp);have iA:Hid (tl.drop i=p::tl.drop (i+1)):=hDq (by
           obtain⟨h1,h2⟩:=List.getElem?_eq_some_iff.1 hp;rw[List.drop_eq_getElem_cons h1,h2])
          have hpl:p.length<=800:=ZU.out p (List.mem_of_getElem? hp);obtain⟨T,hT⟩:∃ T,ai p=T:=⟨_,rfl⟩;have Dt:T.size=p.length:=by rw[<- hT];rfl
          have Du:T.data.toList=p:=by rw[<- hT];rfl
          rw[hT]at nT;have mB:=nT.out wr (bRq _ _);have gZ:=hDq Dt;have Dv:=hDq Du;clear hT Dt Du hp si G9;have amo:T.size<=800:=by rw[gZ.out];exact hpl
          by_cases PX:T.size%2=1
          ·have PY:((T.size:Int).tmod 2 != 0)=true:=by
            rw[Int.tmod_eq_emod_of_nonneg (by omega)];simp;omega
           have HN:Hid (dY s=none):=hDq (by
            rw[se.out,HU.out,iA.out];unfold bW;rw[Iw p (by rw[<- gZ.out];exact PX)];rfl)
           go_wp2;refine bodyPost_ret (v:=.tuple #[.int .i64 0,.slice none 0 0,.slice none 0 0,.int .i64 1]) (by simp[results,Tryz.results10,go_sem]) rfl ?_;exact HF.out HN.out _ (au.out.trans (HB.out.mono au.out.size))
          ·have hev:T.size%2=0:=by omega
           have PY:((T.size:Int).tmod 2 != 0)=false:=by
            rw[Int.tmod_eq_emod_of_nonneg (by omega)];simp;omega
           have amq:((T.size:Int)%2 != 0)=false:=by simp;omega
           go_wp2_with fail
           obtain⟨wq,mf⟩:∃ wq,wq=wr:=⟨_,rfl⟩;rw[<- mf]at HB HR nT mB ⊢;clear mf
           go_loopw [16,17] (fun bv lz wx=>∃ (jj:Nat) (x:List UInt8),jj<=T.size∧jj%2=0∧lz=.int .i64 jj∧bv=.string (ai x)∧2*x.length=jj∧unhex p=(unhex (p.drop jj)).map (x++·)∧Below wq.heap.size wq wx) (fun _ lz _=>T.size-(intOf lz).toNat)
           case atStart=>exact⟨0,[],Nat.zero_le _,rfl,rfl,rfl,rfl,by cases h:unhex p <;> simp[h],bRq _ _⟩
           case round =>
            obtain⟨jj,x,ht,amr,rfl,rfl,zD,Dw,hbx⟩:=hrel;have sj:=hDq Dw;have eO:=hDq hbx;have lx:=hDq zD;clear Dw hbx zD;have hcx:=nT.out wr eO.out;by_cases hjt:jj<T.size
            ·have PZ:jj+1<T.size:=by omega
             have a_:(jj:Int)<T.size:=by omega
             have ams:(jj:Int)+1<T.size:=by omega
             have q0:p[jj]?=some T[jj]:=by have:=uM T jj hjt;rw[Dv.out]at this;exact this
             have q1:p[jj+1]?=some T[jj+1]:=by have:=uM T (jj+1) PZ;rw[Dv.out]at this;exact this
             have oo:=hDq (Pe p jj _ _ q0 q1);have HD0:=hDq (fun W'=>I0 T[jj] W');have HD1:=hDq (fun W'=>I0 T[jj+1] W');have hz0:=uH T[jj];have hz1:=uH T[jj+1];clear q0 q1 mB
             go_wp2_with fail
             refine(HD0.out _).mono ?_;rintro e cq ⟨rfl,jf⟩;subst cq;simp only[]
             go_wp2_with fail
             refine(HD1.out _).mono ?_;rintro e cq ⟨rfl,jf⟩;subst cq;clear HD0 HD1;generalize hA:di T[jj]=A at *;generalize P0:di T[jj+1]=kx at *;clear hA P0;by_cases hna:A<0
             ·have HN:Hid (dY s=none):=hDq (by
               rw[se.out,HU.out,iA.out];unfold bW;rw[sj.out,oo.out,if_pos (.inl hna)];rfl)
              simp only[];go_wp2;refine bodyPost_ret (v:=.tuple #[.int .i64 0,.slice none 0 0,.slice none 0 0,.int .i64 1]) (by simp[results,Tryz.results10,go_sem]) rfl ?_;exact HF.out HN.out _ (au.out.trans ((HB.out.trans (eO.out.mono HB.out.size)).mono au.out.size))
             by_cases hnb:kx<0
             ·have HN:Hid (dY s=none):=hDq (by
               rw[se.out,HU.out,iA.out];unfold bW;rw[sj.out,oo.out,if_pos (.inr hnb)];rfl)
              simp only[];go_wp2;refine bodyPost_ret (v:=.tuple #[.int .i64 0,.slice none 0 0,.slice none 0 0,.int .i64 1]) (by simp[results,Tryz.results10,go_sem]) rfl ?_;exact HF.out HN.out _ (au.out.trans ((HB.out.trans (eO.out.mono HB.out.size)).mono au.out.size))
             have pW:=hDq (fun W'=>my (16*A+kx) W');obtain⟨y,hy⟩:∃ y,UInt8.ofNat (A.toNat*16+kx.toNat)=y:=⟨_,rfl⟩;have HE:Hid (unhex p=(unhex (p.drop (jj+2))).map ((x++[y])++·)):=hDq (by
              rw[sj.out,oo.out,if_neg (by omega),hy];cases unhex (p.drop (jj+2)) <;> simp)
             have HST:Hid (ai x++strOfNums [(16*A+kx)%256]=ai (x++[y])):=hDq (by
              have e1:strOfNums [(16*A+kx)%256]=ai [y]:=by
               unfold strOfNums ai;simp only[List.map_cons,List.map_nil];rw[<- hy,show ((16*A+kx)%256).toNat=A.toNat*16+kx.toNat by omega]
              rw[e1];apply ByteArray.ext;rw[ByteArray.data_append];apply Array.ext';simp[ai])
             have wR:¬ 9223372036854775807<(ai x).size+(strOfNums [(16*A+kx)%256]).size:=by
              have oL:=lx.out;rw[ma,strOfNums_size];simp only[List.length_singleton];omega
             have gL:Hid (2*(x++[y]).length=jj+2):=hDq (by rw[lAq,List.length_singleton];have:=lx.out;omega);clear hy;simp only[]
             go_wp2_with fail
             refine(pW.out _).mono ?_;rintro e cq ⟨rfl,hba⟩;have z_:=hDq (eO.out.trans (hba.mono eO.out.size));clear hba pW;simp only[];go_wp2;go_roundw
             case rel=>exact⟨jj+2,x++[y],by omega,by omega,by go_num,by rw[HST.out],gL.out,HE.out,z_.out⟩
             case measure=>simp[intOf];omega
            ·have a_:¬ (jj:Int)<T.size:=by omega
             have HE:Hid (unhex p=some x):=hDq (by
              rw[sj.out,List.drop_of_length_le (by rw[<- gZ.out];omega)];simp[unhex])
             have HRW:=hDq (bR HR.out eO.out);obtain⟨v4,w4,hap,hr4,hg4⟩:=I1 wr u14 fs x HRW.out (by rw[iO.out];have:=sg.out;omega) (lTq HB.out.size eO.out.size);have bD:=hDq (HB.out.trans (eO.out.mono HB.out.size));have bg:Hid (Below w3.heap.size w3 w4):=hDq (below_grown (bD.out.alloc bD.out.size _) (World.ownsRow.alloc HRW.out _) (lTq bD.out.size (by simp)) hg4);have bF:=hDq hr4;have cO:=hDq hap;have P2:Hid (bW tl=(bW (tl.drop (fs++[x]).length)).map ((fs++[x])++·)):=hDq (by
              rw[show (fs++[x]).length=i+1 by rw[lAq,iO.out];rfl,HU.out,iA.out];show Option.map _ (match unhex p with | none=>none | some x=>(bW (tl.drop (i+1))).map (x :: ·))=_;rw[HE.out];cases bW (tl.drop (i+1)) <;> simp)
             have kH:Hid ((fs++[x]).length+1=ii+1):=hDq (by rw[lAq,iO.out,<- sg.out];rfl);clear hap hr4 hg4 mB
             go_wp2_with (at_builtin;refine wpList_append_run rfl _ _ 70 rfl _ _ _ rfl rfl cO.out ?_)
             go_roundw
             case rel=>exact⟨ii+1,fs++[x],hlt,by go_num,kH.out,P2.out,bF.out,bg.out⟩
             case measure=>simp[intOf];omega
         ·have j3:¬ (ii:Int)<m3:=by omega
          have si:=sg.out;have P4:Hid (bW tl=some fs):=hDq (by
           rw[HU.out,List.drop_of_length_le (by omega)];simp[bW])
          have Dx:Hid (dY s=some (n,ns,fs)):=hDq (by rw[se.out,P4.out];rfl);have ju:Hid (dI s=eI (fs.map ai)):=hDq (by unfold dI;rw[Dx.out]);have P5:fs.length<=801:=by rw[iO.out];omega
          obtain⟨a5,c5,xt⟩:=eo HR.out;obtain⟨m5,sr⟩:∃ m5,fs.length=m5:=⟨_,rfl⟩;have Dy:Hid (∀ W',Below wr.heap.size wr W'->∀ (k:Nat) f,fs[k]?=some f->∃ g5,a5=some ⟨g5,0,none⟩∧k<m5∧W'.cell? ⟨g5,k,none⟩=some (.string (ai f))):=hDq fun W' hW k f hf=>by
           have hne:fs≠[]:=by intro e;rw[e]at hf;simp at hf
           obtain⟨g5,amt,e5,h5⟩:=IW HR.out hne;rw[xt]at e5;cases e5;exact⟨g5,rfl,by rw[<- sr];exact(List.getElem?_eq_some_iff.1 hf).1,h5 W' hW k f hf⟩
          have uF:=hDq (bR IZ.out HB.out);have bz:=hDq (au.out.trans (HB.out.mono au.out.size));rw[sr]at xt P5;have su:=hDq sr;clear sr HR HU xq HB;subst xt
          go_wp2_with fail
          obtain⟨wq,mf⟩:∃ wq,wq=wr:=⟨_,rfl⟩;rw[<- mf]at Dy uF bz ⊢;clear mf
          go_loopw [20,21] (fun Hz kv wx=>∃ k:Nat,k<=m5∧kv=.int .i64 k∧dI s=eI ((fs.map ai).drop k)∧wx.ownsRow wq.heap.size 95 8 Hz (((fs.take k).map ai).map af.bq).length (aL (((fs.take k).map ai).map af.bq))∧Below wq.heap.size wq wx) (fun _ kv _=>m5-(intOf kv).toNat)
          case atStart=>exact⟨0,Nat.zero_le _,rfl,ju.out,World.ownsRow_nil _ _ _ _,bRq _ _⟩
          case round =>
           obtain⟨k,hk,rfl,kZ,hrow,hb⟩:=hrel;have o7:=hDq kZ;have HR:=hDq hrow;have HB:=hDq hb;clear kZ hrow hb ju;by_cases hlt:k<m5
           ·have aK:(k:Int)<m5:=by omega
            obtain⟨f,hf⟩:∃ f,fs[k]?=some f:=⟨_,List.getElem?_eq_getElem (by rw[su.out];exact hlt)⟩;obtain⟨g5,rfl,_,hc⟩:=Dy.out wr HB.out k f hf;have HS:=hDq (Pj (fs.map ai) k (ai f) (by rw[List.getElem?_map,hf];rfl));have HT:Hid (((fs.take (k+1)).map ai).map af.bq=((fs.take k).map ai).map af.bq++[af.bq (ai f)]):=hDq (by rw[List.take_add_one,hf];simp);have fM:=hDq (Qu (ai f) wr);have HL:Hid ((((fs.take k).map ai).map af.bq).length=k):=hDq (by rw[List.length_map,List.length_map,lKq];have:=su.out;omega);clear hf;rw[Pk]at fM;by_cases hc0:bM (ai f)=0
            ·rw[hc0]at fM
             have P6:Hid (dI s=eI ((fs.map ai).drop (k+1))):=hDq (by rw[o7.out,HS.out,if_pos hc0]);generalize af.bq (ai f)=aY at *;unfold cr bw at fM
             go_wp2_with fail
             refine fM.out.mono ?_;rintro e pX ⟨rfl,hb1'⟩;have hb2:Below wq.heap.size wq pX:=HB.out.trans (hb1'.mono HB.out.size);have bE:=hDq (hb2.alloc hb2.size (.cells (bw aY) 95));have hr2:(pX.alloc (.cells (bw aY) 95)).ownsRow wq.heap.size 95 8 u20 (((fs.take k).map ai).map af.bq).length (aL (((fs.take k).map ai).map af.bq)) :=
              (bR HR.out hb1').alloc _
             obtain⟨v4,w4,hap,hr4,hg4⟩:=Hs (pX.alloc (.cells (bw aY) 95)) u20 (((fs.take k).map ai).map af.bq) aY hr2 (by rw[HL.out];omega) bE.out.size;have bg:Hid (Below wq.heap.size wq w4):=hDq (below_grown (bE.out.alloc bE.out.size _) (World.ownsRow.alloc hr2 _) (lTq bE.out.size (by simp)) hg4);have bF:Hid (w4.ownsRow wq.heap.size 95 8 v4 (((fs.take (k+1)).map ai).map af.bq).length (aL (((fs.take (k+1)).map ai).map af.bq))):=hDq (by rw[HT.out];exact hr4);rw[World.size_alloc]at hap;have cO:=hDq hap;unfold bw at cO;clear hap hr4 hg4 hr2 hb2 hb1' fM hc0;simp only[]
             go_wp2_with (at_builtin;refine wpList_append_run rfl _ _ 24 rfl _ _ _ rfl rfl cO.out ?_)
             go_roundw
             case rel=>exact⟨k+1,hlt,by go_num,P6.out,bF.out,bg.out⟩
             case measure=>simp[intOf];omega
            ·have hce:dI s=bM (ai f):=by rw[o7.out,HS.out,if_neg hc0]
             have mB:(0:Int)<bM (ai f):=by omega
             have HA:Hid (∀ W',Below w.heap.size w W'->xm w s (.returned (.tuple #[.int .i64 0,.slice none 0 0,.slice none 0 0,.int .i64 (bM (ai f))])) W'):=hDq fun W' hb=>⟨0,_,_,by rw[hce],hb,fun _ _ _ _ e0=>absurd (hce.symm.trans e0) hc0,fun _=>⟨rfl,rfl,rfl⟩⟩;generalize af.bq (ai f)=aY at *;generalize bM (ai f)=eT at *;unfold cr bw at fM;clear hce
             go_wp2_with fail
             refine fM.out.mono ?_;rintro e pX ⟨rfl,hb1'⟩;have hb2:Below wq.heap.size wq pX:=HB.out.trans (hb1'.mono HB.out.size);have bE:=hDq (hb2.alloc hb2.size (.cells #[.int .u8 aY.k,.int .i64 aY.c,.int .i64 aY.sq,.int .i64 aY.it,.int .i64 aY.sd,.int .i64 aY.pr,.int .i64 aY.q,.int .i64 aY.id] 95));clear hb1' hb2 fM;simp only[];go_wp2;refine bodyPost_ret (v:=.tuple #[.int .i64 0,.slice none 0 0,.slice none 0 0,.int .i64 eT]) (by simp[results,Tryz.results10,go_sem]) rfl ?_;exact HA.out _ (bz.out.trans (bE.out.mono bz.out.size))
           ·have aK:¬ (k:Int)<m5:=by omega
            have hkm:k=m5:=by omega
            have hC:dI s=0:=by rw[o7.out,List.drop_of_length_le (by rw[List.length_map,su.out];omega)];rfl
            have HA:Hid (∀ va W',W'.ownsRow wq.heap.size 95 8 va (((fs.take k).map ai).map af.bq).length (aL (((fs.take k).map ai).map af.bq))->Below wq.heap.size wq W'->xm w s (.returned (.tuple #[.int .i64 n,u9,va,.int .i64 0])) W'):=hDq fun va W' hr hb=>by
             rw[List.take_of_length_le (by rw[su.out];omega)]at hr;refine⟨n,u9,va,by rw[hC];rfl,bz.out.trans (hb.mono bz.out.size),fun m' ds' fs' e _=>?_,fun e=>absurd hC e⟩;rw[Dx.out]at e;cases e;refine⟨rfl,bR uF.out hb,gw ?_ bz.out.size⟩;simpa using hr
            clear hC;go_wp2;refine bodyPost_ret (v:=.tuple #[.int .i64 n,u9,u20,.int .i64 0]) (by simp[results,Tryz.results10,go_sem]) rfl ?_;exact HA.out _ _ HR.out HB.out
   ·have jh:((S[k].toNat:Int) != 58)=true:=by
     have:S[k].toNat≠58:=fun e=>he (UInt8.toNat_inj.1 (by rw[e];rfl));simp;omega
    have kX:Hid (∀ j b,j<k+1->hd[j]?=some b->b≠58):=hDq fun j b hj hb=>by
     by_cases e:j=k
     ·subst e;rw[zq.out]at hb;cases hb;exact he
     ·exact rR.out j b (by omega) hb
    go_wp2;exact⟨⟨k+1,hlt,by go_num,by first | trivial | rfl,kX.out⟩,by simp[intOf];omega⟩
  ·have aK:¬ (k:Int)<S.size:=by omega
   have PV:((k:Int)==(S.size:Int))=true:=by simp;omega
   have HN:Hid (dY s=none):=hDq (by
    rw[xo.out,xe 58 hd (fun b hb=>by
     obtain⟨j,hj⟩:=List.getElem?_of_mem hb;refine rR.out j b ?_ hj
     have:=(List.getElem?_eq_some_iff.1 hj).1
     rw[<- ZX.out]at this;omega)]
    rfl)
   go_wp2;refine bodyPost_ret (v:=.tuple #[.int .i64 0,.slice none 0 0,.slice none 0 0,.int .i64 1]) (by simp[results,Tryz.results10,go_sem]) rfl ?_;exact HF.out HN.out _ HB1.out
end Go.Proofs.YtjolccidheflpaaGreatDoor
namespace Go.Proofs.YtjolccidheflpaaGreatDoor
set_option maxHeartbeats 8000000
open Go.RowKit
set_option maxRecDepth 100000
theorem Z5 (d:Nat) (h:d<10):strOfNums [(48+(d:Int))%256]=ai [UInt8.ofNat (48+d)]:=by
 unfold strOfNums ai;simp only[List.map_cons,List.map_nil];rw[show ((48+(d:Int))%256).toNat=48+d by omega]
theorem uO (a b:List UInt8):ai a++ai b=ai (a++b):=by
 apply ByteArray.ext;rw[ByteArray.data_append];apply Array.ext';simp[ai]
theorem amw (m:Nat):∀ (w:World),m<=1000000000000->Calls Tryz.prog 93 #[.int .i64 (-(m:Int))] w fun e w'=>e=.returned (.string (ai (Lib.decDigits m)))∧Below w.heap.size w w':=by
 induction m using Nat.strongRecOn with
 | _ m ih =>
  intro w hm;by_cases h:m<10
  ·have h1:(-10:Int) < -(m:Int):=by omega
   have pW:=hDq (fun W'=>my (48+(m:Int)) W');rw[Z5 m h]at pW;have HD:Hid (Lib.decDigits m=[UInt8.ofNat (48+m)]):=hDq (by rw[Lib.decDigits,dif_pos h]);have hsub:(48:Int) - -(m:Int)=48+(m:Int):=by omega
   clear ih;go_enter Tryz.func93,Tryz.ntmps93
   go_wp2_with fail
   refine(pW.out _).mono ?_;rintro e w1 ⟨rfl,hb1⟩;simp only[];go_wp2;go_ret;exact⟨xH (by rw[HD.out]),hb1⟩
  ·have h1:¬ (-10:Int) < -(m:Int):=by omega
   have amx:=hDq (fun W'=>ih (m/10) (by omega) W' (by omega));have pW:=hDq (fun W'=>my (48+((m%10:Nat):Int)) W');rw[Z5 (m%10) (by omega)]at pW;have HD:Hid (Lib.decDigits m=Lib.decDigits (m/10)++[UInt8.ofNat (48+m%10)]):=hDq (by rw[Lib.decDigits,dif_neg h]);have hq:(-(m:Int)).tdiv 10 = -((m/10:Nat):Int):=by
    rw[Int.neg_tdiv,Int.tdiv_eq_ediv_of_nonneg (by omega)];omega
   have hr:(-(m:Int)).tmod 10 = -((m%10:Nat):Int):=by
    rw[Int.neg_tmod,Int.tmod_eq_emod_of_nonneg (by omega)];omega
   have hsub:(48:Int) - -((m%10:Nat):Int)=48+((m%10:Nat):Int):=by omega
   have hdl:(Lib.decDigits (m/10)).length<=20:=lTq (Iz 19 (m/10) (by omega)) (by decide);have hsz:¬ 9223372036854775807<(ai (Lib.decDigits (m/10))).size+(ai [UInt8.ofNat (48+m%10)]).size:=by
    rw[ma,ma,List.length_singleton];omega
   clear ih;generalize UInt8.ofNat (48+m%10)=y at *;generalize hA:((m/10:Nat):Int)=A at *;generalize hB:((m%10:Nat):Int)=B at *;have hA':0<=A∧A<=100000000000:=by omega
   have hB':0<=B∧B<10:=by omega
   clear hA hB;go_enter Tryz.func93,Tryz.ntmps93
   go_wp2_with fail
   refine(amx.out _).mono ?_;rintro e w1 ⟨rfl,hb1⟩;have HB1:=hDq hb1;clear hb1;simp only[]
   go_wp2_with fail
   refine(pW.out _).mono ?_;rintro e w2 ⟨rfl,hb2⟩;have HB2:=hDq (HB1.out.trans (hb2.mono HB1.out.size));clear hb2;simp only[];go_wp2;go_ret;exact⟨xH (by rw[HD.out,uO]),HB2.out⟩
theorem Z6 (n:Nat) (hn:n<=1000000000000) (w:World):Calls Tryz.prog 50 #[.int .i64 n] w fun e w'=>e=.returned (.string (ai (Lib.decDigits n)))∧Below w.heap.size w w':=by
 have HB:=hDq (fun W'=>amw n W' hn);have h0:¬ (n:Int)<0:=by omega
 go_enter Tryz.func50,Tryz.ntmps50
 go_wp2_with fail
 refine(HB.out _).mono ?_;rintro e w1 ⟨rfl,hb1⟩;simp only[];go_wp2;go_ret;exact⟨rfl,hb1⟩
def iq (n:Nat) (ds:List Nat):List UInt8:=Lib.decDigits n++58::eG 44 (ds.map Lib.decDigits)
def jr (l:List Ask):List UInt8:=l.flatMap fun a=>32::dH (af.cQ a).data.toList
theorem amy (l:List Ask) (a:Ask):jr (l++[a])=jr l++32::dH (af.cQ a).data.toList:=by unfold jr;simp
theorem Z7 (n:Nat) (ds:List Nat) (l:List Ask):af.eQ n ds l=ai (iq n ds++jr l):=by
 apply ByteArray.ext;apply Array.ext';show (af.eQ n ds l).data.toList=_;rw[YZ];unfold iq jr ai;simp
theorem Z8:∀ x,x<16->(⟨#[48,49,50,51,52,53,54,55,56,57,97,98,99,100,101,102]⟩:ByteArray).extract x (x+1)=ai [gI x]:=by
 have:∀ i:Fin 16,(⟨#[48,49,50,51,52,53,54,55,56,57,97,98,99,100,101,102]⟩:ByteArray).extract i.val (i.val+1)=ai [gI i.val]:=by decide +kernel
 exact fun x h=>this ⟨x,h⟩
theorem amz (l:List UInt8) (b:UInt8):dH (l++[b])=dH l++[gI (b.toNat/16),gI (b.toNat%16)]:=by unfold dH;simp
theorem amA (n:Nat) (ds:List Nat) (d:Nat):iq n (ds++[d])=iq n ds++((if 0<ds.length then [44] else [])++Lib.decDigits d):=by
 unfold iq;rw[List.map_append,List.map_cons,List.map_nil,YW,List.length_map];simp
theorem Qa {W:World} {base:Nat} {a:Option Addr} {n c:Nat} {l:List Nat} (h:W.ownsRow base 3 1 (.slice a n c) l.length (eF l)):∀ W',Below W.heap.size W W'->∀ (i d:Nat),l[i]?=some d->∃ g,a=some ⟨g,0,none⟩∧W'.cell? ⟨g,i,none⟩=some (.int .i64 d):=fun W' hb i d hi=>by
 obtain⟨g,cap,e,hc⟩:=ZR h hi;cases e;exact⟨g,rfl,by rw[hb.cell (bCq _ _ hc)];exact hc⟩
theorem amB (n:Nat) (ds:List Nat) (l:List Ask) (bf va:Value) (bd be:Nat) (W:World) (hn:n<=1000000000) (hrd:Hid (W.ownsRow bd 3 1 bf ds.length (eF ds))) (ee:Hid (W.ownsRow be 95 8 va l.length (aL l))) (hdl:ds.length<=1000) (hd:Hid (∀ d∈ds,d<=1000000000)) (hl:l.length<=1000) (hac:Hid (∀ a∈l,jm.ac a=0)) :
  Calls Tryz.prog 14 #[.int .i64 n,bf,va] W fun e w'=>e=.returned (.string (af.eQ n ds l))∧Below W.heap.size W w':=by
 rw[Z7];have Qb:∀ d,d<=1000000000->(Lib.decDigits d).length<=18:=fun d h=>lTq (Iz 17 d (by omega)) (by decide);have hnl:=Qb n hn;have vx:=hDq Qb;have Z9:=hDq (Z6 n (by omega) W);obtain⟨da,eT,gX⟩:=eo hrd.out;obtain⟨aa,ac,r8⟩:=eo ee.out;subst gX r8;have ko:=hDq (Qa hrd.out);obtain⟨md,l9⟩:∃ md,ds.length=md:=⟨_,rfl⟩;obtain⟨xu,I4⟩:∃ xu,l.length=xu:=⟨_,rfl⟩;rw[l9]at hdl ⊢;rw[I4]at hl ⊢;have wT:=hDq l9;have Z_:=hDq I4;have hsz0:¬ 9223372036854775807<(ai (Lib.decDigits n)).size+1:=by rw[ma];omega
 have CO:Hid (ai (Lib.decDigits n)++⟨#[58]⟩=ai (iq n (ds.take 0))):=hDq (by
  rw[show (⟨#[58]⟩:ByteArray)=ai [58] from rfl,uO];unfold iq;simp[eG])
 clear Qb l9 I4;go_enter Tryz.func14,Tryz.ntmps14
 go_wp2_with fail
 refine Z9.out.mono ?_;rintro e w1 ⟨rfl,hb1⟩;have HB1:=hDq hb1;clear hb1 Z9;simp only[]
 go_wp2_with fail
 go_loopw [7,8] (fun DC iv wr=>∃ (i:Nat) (o:ByteArray),i<=md∧iv=.int .i64 i∧DC=.string o∧o=ai (iq n (ds.take i))∧o.size<=20+20*i∧Below W.heap.size W wr) (fun _ iv _=>md-(intOf iv).toNat)
 case atStart=>exact⟨0,_,Nat.zero_le _,rfl,rfl,CO.out,by rw[CO.out,ma];unfold iq;simp[eG];omega,HB1.out⟩
 case round =>
  obtain⟨i,o,hi,rfl,rfl,ho,hos,hb⟩:=hrel;have HO:=hDq ho;have HB:=hDq hb;clear ho hb CO;by_cases hlt:i<md
  ·have j3:(i:Int)<md:=by omega
   obtain⟨d,hdd⟩:∃ d,ds[i]?=some d:=⟨_,List.getElem?_eq_getElem (by rw[wT.out];exact hlt)⟩;obtain⟨g,rfl,hc⟩:=ko.out wr HB.out i d hdd;have amC:=hd.out d (List.mem_of_getElem? hdd);have amD:=vx.out d amC;have I5:=hDq (fun W'=>Z6 d (by omega) W');have kG:Hid (iq n (ds.take (i+1))=iq n (ds.take i)++((if 0<i then [44] else [])++Lib.decDigits d)):=hDq (by
    rw[List.take_add_one,hdd];show iq n (ds.take i++[d])=_;rw[amA,show (ds.take i).length=i by rw[lKq,wT.out];omega])
   have kh:(ai (Lib.decDigits d)).size<=18:=by rw[ma];exact amD
   clear hdd;by_cases mS:0<i
   ·have P_:(0:Int)<i:=by omega
    have hs1:¬ 9223372036854775807<o.size+1:=by omega
    have hs2:¬ 9223372036854775807<(o++⟨#[44]⟩).size+(ai (Lib.decDigits d)).size:=by
     rw[ByteArray.size_append];show ¬ 9223372036854775807<o.size+1+_;omega
    have l4:Hid ((o++⟨#[44]⟩)++ai (Lib.decDigits d)=ai (iq n (ds.take (i+1)))):=hDq (by
     rw[kG.out,if_pos mS,HO.out,show (⟨#[44]⟩:ByteArray)=ai [44] from rfl,uO,uO,aAq])
    have Qc:((o++⟨#[44]⟩)++ai (Lib.decDigits d)).size<=20+20*(i+1):=by
     rw[ByteArray.size_append,ByteArray.size_append];show o.size+1+_<=_;omega
    clear mS
    go_wp2_with fail
    refine(I5.out _).mono ?_;rintro e w2 ⟨rfl,hb2⟩;have HB2:=hDq (HB.out.trans (hb2.mono HB.out.size));clear hb2 I5;simp only[];go_wp2;go_roundw
    case rel=>exact⟨i+1,_,hlt,by go_num,rfl,l4.out,Qc,HB2.out⟩
    case measure=>simp[intOf];omega
   ·have P_:¬ (0:Int)<i:=by omega
    have hs2:¬ 9223372036854775807<o.size+(ai (Lib.decDigits d)).size:=by omega
    have l4:Hid (o++ai (Lib.decDigits d)=ai (iq n (ds.take (i+1)))):=hDq (by
     rw[kG.out,if_neg mS,HO.out,uO,List.nil_append])
    have Qc:(o++ai (Lib.decDigits d)).size<=20+20*(i+1):=by
     rw[ByteArray.size_append];omega
    clear mS
    go_wp2_with fail
    refine(I5.out _).mono ?_;rintro e w2 ⟨rfl,hb2⟩;have HB2:=hDq (HB.out.trans (hb2.mono HB.out.size));clear hb2 I5;simp only[];go_wp2;go_roundw
    case rel=>exact⟨i+1,_,hlt,by go_num,rfl,l4.out,Qc,HB2.out⟩
    case measure=>simp[intOf];omega
  ·have j3:¬ (i:Int)<md:=by omega
   have aaa:Hid (o=ai (iq n ds++jr (l.take 0))):=hDq (by
    rw[HO.out,List.take_of_length_le (by rw[wT.out];omega)];simp[jr])
   have apc:o.size<=30000:=by omega
   clear HO
   go_wp2_with fail
   obtain⟨wq,mf⟩:∃ wq,wq=wr:=⟨_,rfl⟩;rw[<- mf]at HB ⊢;clear mf
   go_loopw [7,9] (fun DC iv wr=>∃ (k:Nat) (o:ByteArray),k<=xu∧iv=.int .i64 k∧DC=.string o∧o=ai (iq n ds++jr (l.take k))∧o.size<=30000+100*k∧Below W.heap.size W wr) (fun _ iv _=>xu-(intOf iv).toNat)
   case atStart=>exact⟨0,o,Nat.zero_le _,rfl,rfl,aaa.out,by omega,HB.out⟩
   case round =>
    obtain⟨k,o,hk,rfl,rfl,ho,hos,hb⟩:=hrel;have HO:=hDq ho;have rf:=hDq hb;clear ho hb aaa;by_cases hlt:k<xu
    ·have aK:(k:Int)<xu:=by omega
     have hkl:k<l.length:=by rw[Z_.out];exact hlt
     obtain⟨g,hg⟩:∃ g,aa=some ⟨g,0,none⟩:=by
      rcases ee.out.2 with ⟨_,e⟩ | ⟨g,cap,cur,e,_⟩
      ·omega
      ·cases e;exact⟨g,rfl⟩
     subst hg;obtain⟨d0,d1,d2,d3,d4,d5,jA,pG⟩:=rQ (bR ee.out rf.out) hkl hkl;obtain⟨x,hx⟩:∃ x,cg l k=x:=⟨_,rfl⟩;have aab:x∈l:=by rw[<- hx];unfold cg;rw[gE,List.getElem?_eq_getElem hkl];exact List.getElem_mem hkl
     have aac:=hac.out x aab;have j7:Hid (jr (l.take (k+1))=jr (l.take k)++32::dH (af.cQ x).data.toList):=hDq (by
      rw[List.take_add_one,List.getElem?_eq_getElem hkl];show jr (l.take k++[l[k]])=_;rw[amy,<- hx];unfold cg;rw[gE,List.getElem?_eq_getElem hkl];rfl)
     rw[hx]at d0 d1 d2 d3 d4 d5 jA pG;have zt:ah.code x.k x.c x.sq x.it x.sd x.pr x.q x.id=0:=aac;have Qd:af.cQ x=strOfNums (ah.frame x.k x.c x.sq x.it x.sd x.pr x.q x.id):=by
      unfold af.cQ p9;rw[if_pos zt]
     have vJ:=hDq (fun W'=>ae7 x.k x.c x.sq x.it x.sd x.pr x.q x.id W' zt);rw[<- Qd]at vJ;have wU:(af.cQ x).size=30:=by rw[Qd,strOfNums_size,ah.Gi]
     obtain⟨fO,aad⟩:∃ fO,af.cQ x=fO:=⟨_,rfl⟩;rw[aad]at vJ j7 wU;have apd:=hDq wU;have ape:fO.size<=30:=by rw[wU];exact lRq _
     have hs1:¬ 9223372036854775807<o.size+1:=by omega
     have xw:Hid (o++⟨#[32]⟩=ai (iq n ds++jr (l.take k)++[32]++dH (fO.data.toList.take 0))):=hDq (by
      rw[HO.out,show (⟨#[32]⟩:ByteArray)=ai [32] from rfl,uO];simp[dH])
     have amE:(o++⟨#[32]⟩).size<=30001+100*k:=by rw[ByteArray.size_append];show o.size+1<=_;omega
     clear hx aab aac zt Qd aad wU hkl
     go_wp2_with fail
     refine(vJ.out _).mono ?_;rintro e w4 ⟨rfl,hb4⟩;have bg:=hDq (rf.out.trans (hb4.mono rf.out.size));clear hb4 vJ d0 d1 d2 d3 d4 d5 jA pG HO;simp only[]
     go_wp2_with fail
     go_loopw [7,11] (fun DC lz wx=>∃ (j:Nat) (p:ByteArray),j<=fO.size∧lz=.int .i64 j∧DC=.string p∧p=ai (iq n ds++jr (l.take k)++[32]++dH (fO.data.toList.take j))∧p.size<=30001+100*k+2*j∧Below W.heap.size W wx) (fun _ lz _=>fO.size-(intOf lz).toNat)
     case atStart=>exact⟨0,_,Nat.zero_le _,rfl,rfl,xw.out,amE,bg.out⟩
     case round =>
      obtain⟨j,p,hj,rfl,rfl,hp,hps,hbx⟩:=hrel;have tu:=hDq hp;have eO:=hDq hbx;clear hp hbx xw bg;by_cases hjt:j<fO.size
      ·have a_:(j:Int)<fO.size:=by omega
       have hbl:=fO[j].toNat_lt;have kG:Hid (fO.data.toList.take (j+1)=fO.data.toList.take j++[fO[j]]):=hDq (p6 fO j hjt);have hq:((fO[j].toNat:Int)).tdiv 16=((fO[j].toNat/16:Nat):Int):=by rw[Int.tdiv_eq_ediv_of_nonneg (by omega)];omega
       have hr:((fO[j].toNat:Int)).tmod 16=((fO[j].toNat%16:Nat):Int):=by rw[Int.tmod_eq_emod_of_nonneg (by omega)];omega
       obtain⟨A,hA⟩:∃ A,fO[j].toNat/16=A:=⟨_,rfl⟩;obtain⟨C,hC⟩:∃ C,fO[j].toNat%16=C:=⟨_,rfl⟩;have amF:A<16:=by omega
       have amG:C<16:=by omega
       rw[hA]at hq;rw[hC]at hr;have aae:=hDq (Z8 A amF);have aaf:=hDq (Z8 C amG);have amH:Hid (dH (fO.data.toList.take (j+1))=dH (fO.data.toList.take j)++[gI A,gI C]):=hDq (by rw[kG.out,amz,hA,hC]);have apf:(A:Int)+1<=16:=by omega
       have apg:(C:Int)+1<=16:=by omega
       clear hA hC;have hs3:¬ 9223372036854775807<p.size+1:=by omega
       have fA:¬ 9223372036854775807<(p++ai [gI A]).size+1:=by rw[ByteArray.size_append,ma];simp only[List.length_singleton];omega
       have HFin:Hid (p++ai [gI A]++ai [gI C]=ai (iq n ds++jr (l.take k)++[32]++dH (fO.data.toList.take (j+1)))):=hDq (by
        rw[amH.out,tu.out,uO,uO];simp)
       have amI:(p++ai [gI A]++ai [gI C]).size<=30001+100*k+2*(j+1):=by rw[ByteArray.size_append,ByteArray.size_append,ma,ma];simp only[List.length_singleton];omega
       go_wp2
       go_quiet (fail)
       go_wp2;go_roundw
       case rel=>exact⟨j+1,_,hjt,by go_num,rfl,by rw[aae.out,aaf.out];exact HFin.out,by rw[aae.out,aaf.out];exact amI,eO.out.trans ((dn nq).mono eO.out.size)⟩
       case measure=>simp[intOf];omega
      ·have a_:¬ (j:Int)<fO.size:=by omega
       have HE:Hid (p=ai (iq n ds++jr (l.take (k+1)))):=hDq (by
        have e:fO.data.toList.take j=fO.data.toList:=List.take_of_length_le (by rw[Array.length_toList];show fO.size<=j;omega);rw[tu.out,e,j7.out];simp)
       go_wp2;go_roundw
       case rel=>exact⟨k+1,p,hlt,by go_num,rfl,HE.out,by omega,eO.out⟩
       case measure=>simp[intOf];omega
    ·have aK:¬ (k:Int)<xu:=by omega
     have HE:Hid (o=ai (iq n ds++jr l)):=hDq (by rw[HO.out,List.take_of_length_le (by rw[Z_.out];omega)]);go_wp2;go_ret;exact⟨xH HE.out,rf.out⟩
theorem eR {α:Type} {l:List α} {n:Nat} (h:l.length=n+1):∃ b t,l=b::t∧t.length=n:=by
 cases l with
 | nil=>cases h
 | cons b t=>exact⟨b,t,rfl,by simpa using h⟩
theorem ofNat_eq {x:Int} {b:UInt8} (h:x=(b.toNat:Int)):UInt8.ofNat x.toNat=b:=by rw[h];simp
theorem Io (a b c d:UInt8) (x:Nat) (hx:x=16777216*a.toNat+65536*b.toNat+256*c.toNat+d.toNat):ik (ah.high x)=[a,b,c,d]:=by
 have:=a.toNat_lt;have:=b.toNat_lt;have:=c.toNat_lt;have:=d.toNat_lt
 unfold ik ah.high;simp only[List.map_cons,List.map_nil];rw[ofNat_eq (b:=a) (by omega),ofNat_eq (b:=b) (by omega),ofNat_eq (b:=c) (by omega),ofNat_eq (b:=d) (by omega)]
theorem ak5 (a b c d:UInt8) (x:Nat) (hx:x=a.toNat+256*b.toNat+65536*c.toNat+16777216*d.toNat):ik (ah.low x)=[a,b,c,d]:=by
 have:=a.toNat_lt;have:=b.toNat_lt;have:=c.toNat_lt;have:=d.toNat_lt
 unfold ik ah.low;simp only[List.map_cons,List.map_nil];rw[ofNat_eq (b:=a) (by omega),ofNat_eq (b:=b) (by omega),ofNat_eq (b:=c) (by omega),ofNat_eq (b:=d) (by omega)]
theorem ao0 (a:UInt8):ik [(a.toNat:Int)%256]=[a]:=by
 have:=a.toNat_lt
 unfold ik;simp only[List.map_cons,List.map_nil];rw[ofNat_eq (b:=a) (by omega)]
theorem ak6 (a b:UInt8):ik [(a.toNat:Int),(b.toNat:Int)%256]=[a,b]:=by
 have:=b.toNat_lt
 unfold ik;simp only[List.map_cons,List.map_nil];rw[ofNat_eq (b:=a) rfl,ofNat_eq (b:=b) (by omega)]
theorem ak7 (a b:UInt8):ik [(a.toNat:Int)%256,(b.toNat:Int)%256]=[a,b]:=by
 have:=a.toNat_lt;have:=b.toNat_lt
 unfold ik;simp only[List.map_cons,List.map_nil];rw[ofNat_eq (b:=a) (by omega),ofNat_eq (b:=b) (by omega)]
theorem ak8 {l:List UInt8} (hl0:l.length=30):∃ b0 b1 b2 b3 b4 b5 b6 b7 b8 wY wZ sS sT w5 w6 w7 w8 w9 w_ xb Ip Ai Aj Iq Ir Iu Db Dc De Df,l=[b0,b1,b2,b3,b4,b5,b6,b7,b8,wY,wZ,sS,sT,w5,w6,w7,w8,w9,w_,xb,Ip,Ai,Aj,Iq,Ir,Iu,Db,Dc,De,Df]:=by
 obtain⟨b0,l,rfl,hl1⟩:=eR hl0;obtain⟨b1,l,rfl,hl2⟩:=eR hl1;obtain⟨b2,l,rfl,ak9⟩:=eR hl2;obtain⟨b3,l,rfl,hl4⟩:=eR ak9;obtain⟨b4,l,rfl,Iv⟩:=eR hl4;obtain⟨b5,l,rfl,ala⟩:=eR Iv;obtain⟨b6,l,rfl,alb⟩:=eR ala;obtain⟨b7,l,rfl,alc⟩:=eR alb;obtain⟨b8,l,rfl,ald⟩:=eR alc;obtain⟨wY,l,rfl,ale⟩:=eR ald;obtain⟨wZ,l,rfl,alf⟩:=eR ale;obtain⟨sS,l,rfl,G3⟩:=eR alf;obtain⟨sT,l,rfl,alg⟩:=eR G3;obtain⟨w5,l,rfl,alh⟩:=eR alg;obtain⟨w6,l,rfl,ali⟩:=eR alh;obtain⟨w7,l,rfl,alj⟩:=eR ali;obtain⟨w8,l,rfl,alk⟩:=eR alj;obtain⟨w9,l,rfl,alm⟩:=eR alk;obtain⟨w_,l,rfl,aln⟩:=eR alm;obtain⟨xb,l,rfl,alo⟩:=eR aln;obtain⟨Ip,l,rfl,alp⟩:=eR alo;obtain⟨Ai,l,rfl,alq⟩:=eR alp;obtain⟨Aj,l,rfl,alr⟩:=eR alq;obtain⟨Iq,l,rfl,als⟩:=eR alr;obtain⟨Ir,l,rfl,alu⟩:=eR als;obtain⟨Iu,l,rfl,alv⟩:=eR alu;obtain⟨Db,l,rfl,alw⟩:=eR alv;obtain⟨Dc,l,rfl,alx⟩:=eR alw;obtain⟨De,l,rfl,aly⟩:=eR alx;obtain⟨Df,l,rfl,alz⟩:=eR aly;obtain rfl:=List.eq_nil_of_length_eq_zero alz;exact⟨b0,b1,b2,b3,b4,b5,b6,b7,b8,wY,wZ,sS,sT,w5,w6,w7,w8,w9,w_,xb,Ip,Ai,Aj,Iq,Ir,Iu,Db,Dc,De,Df,rfl⟩
theorem alA {f:ByteArray} (h:bM f=0):af.cQ (af.bq f)=f:=by
 have hd:=h;unfold bM at hd;split at hd
 ·rename_i Hg
  split at hd
  ·rename_i hsum
   split at hd
   ·rename_i hz
    have zt:=hd;clear hd;unfold af.cQ af.bq fj;simp only[h,if_true];unfold p9;rw[if_pos zt];have hl0:f.data.toList.length=30:=by rw[Array.length_toList];exact Hg
    have YM:(f.data.toList.drop 20).take 6=[0,0,0,0,0,0]:=by
     rw[ByteArray.toList_eq,ByteArray.data_extract,Array.toList_extract]at hz;simpa [List.extract_eq_take_drop] using hz
    apply ByteArray.ext;apply Array.ext';show (strOfNums _).data.toList=_;rw[Pb];unfold dm at hsum;unfold av;unfold az at hsum ⊢;clear zt hz Hg h;generalize f.data.toList=l at *;obtain⟨b0,b1,b2,b3,b4,b5,b6,b7,b8,wY,wZ,sS,sT,w5,w6,w7,w8,w9,w_,xb,Ip,Ai,Aj,Iq,Ir,Iu,Db,Dc,De,Df,rfl⟩:=ak8 hl0;simp only[List.drop_succ_cons,List.drop_zero,List.take_succ_cons,List.take_zero,List.cons.injEq,and_true]at YM;obtain⟨rfl,rfl,rfl,rfl,rfl,rfl⟩:=YM;simp only[List.getD_cons_zero,List.getD_cons_succ,List.take_succ_cons,List.take_zero,Nat.reduceAdd]at hsum ⊢;unfold ah.frame;rw[lC,Pb];have hb:ik (ah.body b0.toNat b1.toNat (16777216*b2.toNat+65536*b3.toNat+256*b4.toNat+b5.toNat:Nat) b6.toNat b7.toNat (16777216*b8.toNat+65536*wY.toNat+256*wZ.toNat+sS.toNat:Nat) (16777216*sT.toNat+65536*w5.toNat+256*w6.toNat+w7.toNat:Nat) (16777216*w8.toNat+65536*w9.toNat+256*w_.toNat+xb.toNat:Nat))=[b0,b1,b2,b3,b4,b5,b6,b7,b8,wY,wZ,sS,sT,w5,w6,w7,w8,w9,w_,xb,0,0,0,0,0,0]:=by
     unfold ah.body;rw[lC,lC,lC,lC,lC,lC,ak6,ak7,Io b2 b3 b4 b5 _ rfl,Io b8 wY wZ sS _ rfl,Io sT w5 w6 w7 _ rfl,Io w8 w9 w_ xb _ rfl];rfl
    rw[hb,ak5 Db Dc De Df _ hsum.symm];rfl
   ·cases hd
  ·cases hd
 ·cases hd
theorem aaz {b1 b2:Nat} (v1 v2:Value) (ds:List Nat) (w:World) (hn:ds.length<=1000) (h1:w.ownsRow b1 3 1 v1 ds.length (eF ds)) (h2:w.ownsRow b2 3 1 v2 ds.length (eF ds)) :
  Calls Tryz.prog 12 #[v1,v2] w fun e w'=>e=.returned (.bool true)∧Below w.heap.size w w':=by
 obtain⟨a1,c1,rfl⟩:=eo h1;obtain⟨a2,c2,rfl⟩:=eo h2;have vI:=hDq (Qa h1);have nN:=hDq (Qa h2);obtain⟨n,ig⟩:∃ n,ds.length=n:=⟨_,rfl⟩;rw[ig]at hn ⊢;have ij:=hDq ig;clear h1 h2 ig;go_enter Tryz.func12,Tryz.ntmps12;go_wp2
 go_loopw [5] (fun iv wr=>∃ k:Nat,k<=n∧iv=.int .i64 k∧Below w.heap.size w wr) (fun iv _=>n-(intOf iv).toNat)
 case atStart=>exact⟨0,by omega,rfl,bRq _ _⟩
 case round =>
  obtain⟨k,hk,rfl,hb⟩:=hrel;have HB:=hDq hb;clear hb;by_cases hlt:k<n
  ·have aK:(k:Int)<n:=by omega
   obtain⟨d,hd⟩:∃ d,ds[k]?=some d:=⟨_,List.getElem?_eq_getElem (by rw[ij.out];exact hlt)⟩;obtain⟨g1,rfl,e1⟩:=vI.out wr HB.out k d hd;obtain⟨g2,rfl,e2⟩:=nN.out wr HB.out k d hd;clear hd;go_wp2
   go_quiet (fail)
   go_wp2;exact⟨⟨k+1,by omega,by go_num,HB.out.trans ((dn nq).mono HB.out.size)⟩,by simp[intOf];omega⟩
  ·have aK:¬ (k:Int)<n:=by omega
   go_wp2;go_ret;exact⟨rfl,HB.out⟩
theorem aaA {b1 b2:Nat} (v1 v2:Value) (l:List Ask) (w:World) (hn:l.length<=1000) (h1:w.ownsRow b1 95 8 v1 l.length (aL l)) (h2:w.ownsRow b2 95 8 v2 l.length (aL l)) :
  Calls Tryz.prog 13 #[v1,v2] w fun e w'=>e=.returned (.bool true)∧Below w.heap.size w w':=by
 obtain⟨a1,c1,rfl⟩:=eo h1;obtain⟨a2,c2,rfl⟩:=eo h2;have HR1:=hDq h1;have aT:=hDq h2;have Qj:∀ {a:Option Addr} {c b:Nat},w.ownsRow b 95 8 (.slice a l.length c) l.length (aL l)->0<l.length->∃ g,a=some ⟨g,0,none⟩:=fun {a c b} h h0=>by
  rcases h.2 with ⟨_,e⟩ | ⟨g,cap,cur,e,_⟩
  ·omega
  ·cases e;exact⟨g,rfl⟩
 have fg:=hDq (Qj h1);have HS2:=hDq (Qj h2);obtain⟨n,ig⟩:∃ n,l.length=n:=⟨_,rfl⟩;rw[ig]at hn ⊢;have ij:=hDq ig;clear h1 h2 ig Qj;go_enter Tryz.func13,Tryz.ntmps13;go_wp2
 go_loopw [5] (fun iv wr=>∃ k:Nat,k<=n∧iv=.int .i64 k∧Below w.heap.size w wr) (fun iv _=>n-(intOf iv).toNat)
 case atStart=>exact⟨0,by omega,rfl,bRq _ _⟩
 case round =>
  obtain⟨k,hk,rfl,hb⟩:=hrel;have HB:=hDq hb;clear hb;by_cases hlt:k<n
  ·have aK:(k:Int)<n:=by omega
   have hkl:k<l.length:=by rw[ij.out];exact hlt
   obtain⟨g1,rfl⟩:=fg.out (by omega);obtain⟨g2,rfl⟩:=HS2.out (by omega);obtain⟨c0,c1,c2,c3,c4,c5,c6,c7⟩:=rQ (bR HR1.out HB.out) hkl hkl;obtain⟨d0,d1,d2,d3,d4,d5,jA,pG⟩:=rQ (bR aT.out HB.out) hkl hkl;generalize cg l k=x at *;clear hkl;go_wp2
   go_quiet (fail)
   go_wp2;exact⟨⟨k+1,by omega,by go_num,HB.out.trans ((dn nq).mono HB.out.size)⟩,by simp[intOf];omega⟩
  ·have aK:¬ (k:Int)<n:=by omega
   go_wp2;go_ret;exact⟨rfl,HB.out⟩
theorem aaB (n:Nat) (hn:n<=12) (ad:Nat->Addr) (w:World) (hs:Hid (cP w ad)):Calls Tryz.prog 11 #[ja ad n,.int .i64 n] w fun e w'=>e=.returned (.bool true)∧Below w.heap.size w w':=by
 have HC:=hDq (W9 n hn ad w hs.out);generalize ja ad n=u at *;go_enter Tryz.func11,Tryz.ntmps11
 go_wp2_with fail
 refine HC.out.mono ?_;rintro e w1 ⟨rfl,hb1⟩;simp only[];go_wp2;go_ret;exact⟨rfl,hb1⟩
theorem Qk:∀ (fs:List ByteArray),eI fs=0->∀ f∈fs,bM f=0
 | [],_,f,hf=>by cases hf
 | a::fs,h,f,hf=>by
  have h':(if bM a=0 then eI fs else bM a)=0:=h;by_cases h0:bM a=0
  ·rw[if_pos h0]at h'
   rcases List.mem_cons.1 hf with rfl | h1
   ·exact h0
   ·exact Qk fs h' f h1
  ·rw[if_neg h0]at h';exact absurd h' h0
theorem aaC:∀ (fs:List ByteArray),eI fs<=5
 | []=>Nat.zero_le _
 | a::fs=>by
  show (if bM a=0 then eI fs else bM a)<=5;split
  ·exact aaC fs
  ·exact adl a
theorem anf {f:ByteArray} (h:bM f=0):jm.ac (af.bq f)=0:=by
 have hd:=h;unfold bM at hd;split at hd
 ·split at hd
  ·split at hd
   ·unfold jm.ac af.bq fj
    simp only[h,if_true];exact hd
   ·cases hd
  ·cases hd
 ·cases hd
theorem ang {s:ByteArray} {n:Nat} {ds:List Nat} {fs:List (List UInt8)} (h:dY s=some (n,ds,fs)) (h0:eI (fs.map ai)=0):af.eQ n ds ((fs.map ai).map af.bq)=s:=by
 rw[Z7];have e:=Zc h;have hf:jr ((fs.map ai).map af.bq)=fs.flatMap fun f=>32::dH f:=by
  have key:∀ fs:List (List UInt8),(∀ f∈fs.map ai,bM f=0)->jr ((fs.map ai).map af.bq)=fs.flatMap fun f=>32::dH f:=by
   intro fs
   induction fs with
   | nil=>intro _;rfl
   | cons f fs ih =>
    intro hall;have h1:=alA (hall (ai f) (by simp));show (32::dH (af.cQ (af.bq (ai f))).data.toList)++jr ((fs.map ai).map af.bq)=_;rw[h1,ih (fun g hg=>hall g (by simp only[List.map_cons,List.mem_cons];exact .inr hg))];rfl
  exact key fs (Qk _ h0)
 rw[hf];unfold iq;rw[aAq,List.cons_append,<- e];rfl
theorem aaD:∀ (ps:List ByteArray) (last:Int) (ds:List Nat),gz last ps=some ds->(∀ d∈ds,d<=5)∧ds.length=ps.length
 | [],_,ds,h=>by simp[gz]at h;subst h;exact⟨fun _ h=>(by cases h),rfl⟩
 | p::ps,last,ds,h=>by
  simp only[gz]at h;split at h
  ·cases h
  ·rename_i n hn
   split at h
   ·rename_i hc
    obtain⟨q,hq,rfl⟩:=Option.map_eq_some_iff.1 h;obtain⟨h1,h2⟩:=aaD ps n q hq;refine⟨fun d hd=>?_,by simp[h2]⟩;rcases List.mem_cons.1 hd with rfl | hd
    ·exact hc.1
    ·exact h1 d hd
   ·cases h
theorem anh {s:ByteArray} {n:Nat} {ds:List Nat} {fs:List (List UInt8)} (h:dY s=some (n,ds,fs)) (hs:s.size<=800):n<1000000000∧(∀ d∈ds,d<=5)∧ds.length<=801∧fs.length<=801:=by
 have hb:=Zc h;have hl:s.data.toList.length=s.size:=Array.length_toList;have hfl:=ZN h;rw[Dj]at h;unfold uJ at h;split at h
 ·split at h
  ·rename_i n' ds' hn hd
   have h1:n'=n∧ds'=ds:=by
    split at h
    ·obtain⟨q,hq,e⟩:=Option.map_eq_some_iff.1 h;cases e;exact⟨rfl,rfl⟩
    ·cases h;exact⟨rfl,rfl⟩
   obtain⟨rfl,rfl⟩:=h1;have amn:n'<10 ^ 9:=by
    rw[IC]at hn;unfold uI at hn;split at hn
    ·cases hn
    ·have h5:=decFrom_lt _ 0 n' hn
     rw[Nat.zero_add,Nat.one_mul]at h5;exact Nat.lt_of_lt_of_le h5 (Nat.pow_le_pow_right (by decide) (by omega))
   have hr:(∀ d∈ds',d<=5)∧ds'.length<=801:=by
    unfold iY at hd;split at hd
    ·cases hd;exact⟨fun _ h=>(by cases h),Nat.zero_le _⟩
    ·obtain⟨k1,k2⟩:=aaD _ _ _ hd
     refine⟨k1,?_⟩;rw[k2,List.length_map,Dm]
     have:=zB 44 (ai (Lib.cut (Lib.cut s.data.toList [58]).2.1 [32]).1).data.toList
     have c1:=(zC s.data.toList [58]).2;have c2:=(zC (Lib.cut s.data.toList [58]).2.1 [32]).1;rw[Dm]at this;omega
   exact⟨by omega,hr.1,hr.2,by omega⟩
  ·cases h
 ·cases h
end Go.Proofs.YtjolccidheflpaaGreatDoor
