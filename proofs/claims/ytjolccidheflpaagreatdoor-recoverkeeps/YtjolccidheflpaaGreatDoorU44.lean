/- Own. -/
import Derived.Test.YtjolccidheflpaaGreatDoorU39
import Derived.Test.YtjolccidheflpaaGreatDoorU17
import Derived.Test.YtjolccidheflpaaGreatDoorU40
import Derived.Test.YtjolccidheflpaaGreatDoorU41
import Derived.Test.YtjolccidheflpaaGreatDoorU43
import Derived.Test.YtjolccidheflpaaGreatDoorU35
namespace Go.Proofs.YtjolccidheflpaaGreatDoor
set_option maxHeartbeats 8000000
open Go.RowKit Go.Shelf
attribute [local go_sem] Oper.semAt_some
set_option maxRecDepth 100000
structure jZ (w W:World) (N:Nat) (n:Int) (bK vf:Value) (ok:Bool):Prop where
 r0:W.heap[N]?=some (.cells #[.int .i64 n,bK,vf] 86 (0,0))
 r1:W.heap[N+1]?=some (.cells #[.bool ok] 4 (0,0))
 below:Below N w W
theorem jZ.lt {w W:World} {N:Nat} {n:Int} {bK vf:Value} {ok:Bool} (h:jZ w W N n bK vf ok):N+1<W.heap.size:=lBq h.r1
theorem jZ.later {w W V:World} {N:Nat} {n:Int} {bK vf:Value} {ok:Bool} (h:jZ w W N n bK vf ok) (hb:Below W.heap.size W V):jZ w V N n bK vf ok :=
 ⟨(hb.block _ (lBq h.r0)).trans h.r0,(hb.block _ (lBq h.r1)).trans h.r1,h.below.trans (hb.mono (by have:=h.lt;omega))⟩
theorem jZ.put {w W:World} {N:Nat} {n:Int} {bK vf:Value} {ok:Bool} (h:jZ w W N n bK vf ok) (n':Int) (p5 p6:Value) (zE:Bool) :
  jZ w ((((W.setCell ⟨N,0,none⟩ (.int .i64 n')).setCell ⟨N,1,none⟩ p5).setCell ⟨N,2,none⟩ p6).setCell ⟨N+1,0,none⟩ (.bool zE)) N n' p5 p6 zE:=by
 refine⟨?_,?_,(((h.below.setCell (p:=⟨N,0,none⟩) (lRq _) _).setCell (p:=⟨N,1,none⟩) (lRq _) _).setCell (p:=⟨N,2,none⟩) (lRq _) _).setCell (p:=⟨N+1,0,none⟩) (Nat.le_succ _) _⟩
 ·rw[Below.heap_setCell _ _ _ _ (show N≠N+1 by omega)]
  exact heap_setCell_same _ N 2 _ _ _ (heap_setCell_same _ N 1 _ _ _ (heap_setCell_same _ N 0 _ _ _ h.r0))
 ·exact heap_setCell_same _ (N+1) 0 #[.bool ok] 4 (.bool zE) (by
   rw[Below.heap_setCell _ _ _ _ (show N+1≠N by omega),Below.heap_setCell _ _ _ _ (show N+1≠N by omega),Below.heap_setCell _ _ _ _ (show N+1≠N by omega)];exact h.r1)
theorem Z8 (W:World) (N:Nat) (a b c d:Value):KeepsOthers W ((((W.setCell ⟨N,0,none⟩ a).setCell ⟨N,1,none⟩ b).setCell ⟨N,2,none⟩ c).setCell ⟨N+1,0,none⟩ d) :=
 (((KeepsOthers.setCell _ _ _).trans (KeepsOthers.setCell _ _ _)).trans (KeepsOthers.setCell _ _ _)).trans (KeepsOthers.setCell _ _ _)
theorem PL {W:World} {N:Nat} {e:TypeId} {sz k:Nat} {v:Value} {xs:List Value} (h:W.ownsRow (N+2) e sz v k xs) (a b c d:Value):((((W.setCell ⟨N,0,none⟩ a).setCell ⟨N,1,none⟩ b).setCell ⟨N,2,none⟩ c).setCell ⟨N+1,0,none⟩ d).ownsRow (N+2) e sz v k xs:=by
 have ne:∀ p,p<N+2->v.ownBlock=none\/v.ownBlock≠some p:=fun p hp=>by
  cases hv:v.ownBlock with
  | none=>exact .inl rfl
  | some g=>exact .inr fun e=>by cases e;have:=p7 h hv;omega
 exact(((h.kept (Lib.grownBy_setCell _ _ _ _) (ne N (by omega))).kept (Lib.grownBy_setCell _ _ _ _) (ne N (by omega))).kept (Lib.grownBy_setCell _ _ _ _) (ne N (by omega))).kept (Lib.grownBy_setCell _ _ _ _) (ne (N+1) (by omega))
theorem jZ.cells {w W:World} {N:Nat} {n:Int} {bK vf:Value} {ok:Bool} (h:jZ w W N n bK vf ok):W.cell? ⟨N,0,none⟩=some (.int .i64 n)/\W.cell? ⟨N,1,none⟩=some bK/\W.cell? ⟨N,2,none⟩=some vf/\W.cell? ⟨N+1,0,none⟩=some (.bool ok)/\(∀ j,W.frozen? ⟨N,j,none⟩=false)/\W.frozen? ⟨N+1,0,none⟩=false :=
 ⟨by rw[cR W _ 0 _ _ _ h.r0];rfl,by rw[cR W _ 1 _ _ _ h.r0];rfl,by rw[cR W _ 2 _ _ _ h.r0];rfl,by rw[cR W _ 0 _ _ _ h.r1];rfl,fun j=>by simp[World.frozen?,h.r0],by simp[World.frozen?,h.r1]⟩
theorem jZ.kept {w W V:World} {N:Nat} {n:Int} {bK vf:Value} {ok:Bool} {row:Option Nat} (h:jZ w W N n bK vf ok) (hg:W.grownBy V row) (hr:∀ r,row=some r->N+1<r):jZ w V N n bK vf ok :=
 ⟨(hg.block _ (lBq h.r0) (fun e=>by have:=hr _ e.symm;omega)).trans h.r0,(hg.block _ (lBq h.r1) (fun e=>by have:=hr _ e.symm;omega)).trans h.r1,h.below.grown hg (by have:=h.lt;omega) (fun k e=>by have:=hr k e;omega)⟩
def p8 (pre:List ByteArray) (fs:List (List UInt8)):Prop:=(∀ qs,iP (pre.map (·.data.toList)++qs)=(iP qs).map (fs++·))/\fs.length=pre.length
theorem p8.nil:p8 [] []:=⟨fun qs=>by cases h:iP qs <;> simp[h],rfl⟩
theorem p8.step {pre:List ByteArray} {fs:List (List UInt8)} (h:p8 pre fs) {p:ByteArray} {x:List UInt8} (hp:unhex p.data.toList=some x):p8 (pre++[p]) (fs++[x]):=by
 refine⟨fun qs=>?_,by rw[lAq,lAq,h.2];rfl⟩;rw[List.map_append,aAq,h.1];simp only[List.map_cons,List.map_nil,List.singleton_append,iP,hp];cases iP qs <;> simp
theorem p8.bad {pre:List ByteArray} {fs:List (List UInt8)} (h:p8 pre fs) {p:ByteArray} (hp:unhex p.data.toList=none) (qs:List (List UInt8)):iP (pre.map (·.data.toList)++p.data.toList::qs)=none:=by
 rw[h.1];simp only[iP,hp];rfl
theorem p8.all {pre:List ByteArray} {fs:List (List UInt8)} (h:p8 pre fs):iP (pre.map (·.data.toList))=some fs:=by have:=h.1 [];simpa [iP] using this
theorem PN (c:UInt8):∀ l:List UInt8,(pieces c l).length<=l.length+1
 | []=>lRq _
 | x::l=>by
  have:=PN c l
  unfold pieces;split
  ·simp;omega
  ·simp;omega
theorem Z9 (c:UInt8):∀ (l:List UInt8) (p:List UInt8),p∈pieces c l->p.length<=l.length
 | [],p,h=>by simp[pieces]at h;simp[h]
 | x::l,p,h=>by
  have ih:=Z9 c l;unfold pieces at h;split at h
  ·rcases List.mem_cons.1 h with rfl | h1
   ·exact Nat.zero_le _
   ·have:=ih p h1;simp;omega
  ·have hne:pieces c l≠[]:=by cases l with
    | nil=>simp[pieces]
    | cons y l=>unfold pieces;split <;> simp
   obtain⟨q,r,hq⟩:=List.exists_cons_of_ne_nil hne;rw[hq]at h ih;simp only[List.headD_cons,List.tail_cons]at h;rcases List.mem_cons.1 h with rfl | h1
   ·have:=ih q mSq;simp;omega
   ·have:=ih p (mOq _ h1);simp;omega
theorem Z_ (l:List (List UInt8)):(l.map bn).map (·.data.toList)=l:=by rw[List.map_map];exact List.map_id l
def Dk (fs:List (List UInt8)):List Value:=fs.map fun f=>Value.string (bn f)
structure lH (w:World) (N R:Nat) (n:Int) (bK:Value) (ds:List Nat) (fs:List (List UInt8)) (vf:Value) (W:World):Prop where
 pb:∃ n' p5 p6 ok,jZ w W N n' p5 p6 ok
 rb:W.heap[R]?=some (.cells #[.int .i64 n,bK,vf] 86 (0,0))
 rd:W.ownsRow N 3 1 bK ds.length (jT ds)
 dl:∀ g,bK.ownBlock=some g->N+1<g/\g<R
 kh:W.ownsRow (R+4) 9 1 vf fs.length (Dk fs)
 big:R+4<=W.heap.size
 lo:N+1<R
section
variable {w W V:World} {N R:Nat} {n:Int} {bK vf:Value} {ds:List Nat} {fs:List (List UInt8)}
theorem lH.grown {row:Option Nat} (h:lH w N R n bK ds fs vf W) (hg:W.grownBy V row) (hr:∀ r,row=some r->r=R+1\/(R+4<=r/\∃ o:Obj,W.heap[r]?=some o/\o.isCells=false)):lH w N R n bK ds fs vf V:=by
 have hlo:=h.lo;obtain⟨n',p5,p6,ok,hp⟩:=h.pb;have hle:∀ r,row=some r->R<r:=fun r e=>by rcases hr r e with h' | ⟨h',_⟩ <;> omega
 refine⟨⟨_,_,_,_,hp.kept hg (fun r e=>by have:=hle r e;omega)⟩,(hg.block _ (lBq h.rb) (fun e=>by have:=hle _ e.symm;omega)).trans h.rb,h.rd.kept hg ?_,h.dl,h.kh.kept hg ?_,lTq h.big hg.size,hlo⟩
 ·cases hv:bK.ownBlock with
  | none=>exact .inl rfl
  | some g=>exact .inr fun e=>by have:=h.dl g hv;have:=hle g e.symm;omega
 ·cases hv:vf.ownBlock with
  | none=>exact .inl rfl
  | some g =>
   refine .inr fun e=>?_;have kQ:=p7 h.kh hv;rcases hr g e.symm with h' | ⟨_,o,ho,hc⟩
   ·omega
   ·rcases h.kh.2 with ⟨rfl,_⟩ | ⟨g',cap,cur,rfl,_,hgb,_⟩
    ·simp[Value.ownBlock]at hv
    ·obtain rfl:g'=g:=by simpa [Value.ownBlock] using hv
     rw[hgb]at ho;cases ho;cases hc
theorem lH.later (h:lH w N R n bK ds fs vf W) (hb:Below W.heap.size W V):lH w N R n bK ds fs vf V :=
 h.grown (row:=none) ⟨hb.os,hb.tape,hb.output,hb.size,fun i hi _=>hb.block i hi⟩ (fun r e=>by cases e)
theorem lH.pushed {w1:World} {x:List UInt8} {v':Value} {tmp:Obj} (h:lH w N R n bK ds fs vf W) (hg:(W.alloc tmp).grownBy w1 vf.ownBlock) (hr:w1.ownsRow (R+4) 9 1 v' (fs.length+1) (Dk fs++[.string (bn x)])) :
  w1.heap[R]?=some (.cells #[.int .i64 n,bK,vf] 86 (0,0))/\lH w N R n bK ds (fs++[x]) v' (w1.setCell ⟨R,2,none⟩ v')/\KeepsOthers W (w1.setCell ⟨R,2,none⟩ v')/\uG.At [R+1,R+2,R+3] W (w1.setCell ⟨R,2,none⟩ v'):=by
 have ha:=h.grown (World.grownBy_alloc W tmp none) (fun r e=>by cases e);have hlo:=h.lo;have IV:=h.big;have kQ:∀ k,vf.ownBlock=some k->R+4<=k:=fun k e=>p7 h.kh e;have amJ:∀ k,v'.ownBlock=some k->R+4<=k:=fun k e=>p7 hr e;obtain⟨n',p5,p6,ok,hp⟩:=ha.pb;have hrb:=(hg.block _ (lBq ha.rb) (fun e=>by have:=kQ _ e.symm;omega)).trans ha.rb;have hg2:w1.grownBy (w1.setCell ⟨R,2,none⟩ v') (some R):=⟨rfl,rfl,rfl,by simp[World.setCell],fun k _ hk=>Below.heap_setCell _ _ _ _ (fun e=>hk (by simp[e]))⟩;refine⟨hrb,⟨⟨_,_,_,_,(hp.kept hg (fun r e=>by have:=kQ r e;omega)).kept hg2 (fun r e=>by cases e;omega)⟩,heap_setCell_same w1 R 2 _ _ _ hrb,?_,h.dl,?_,?_,hlo⟩,?_,?_⟩
 ·refine(ha.rd.kept hg ?_).kept hg2 ?_
  ·cases hv:bK.ownBlock with
   | none=>exact .inl rfl
   | some g=>exact .inr fun e=>by have:=h.dl g hv;have:=kQ g e.symm;omega
  ·cases hv:bK.ownBlock with
   | none=>exact .inl rfl
   | some g=>exact .inr fun e=>by cases e;have:=h.dl _ hv;omega
 ·have:=hr.kept hg2 (by
   cases hv:v'.ownBlock with
   | none=>exact .inl rfl
   | some g=>exact .inr fun e=>by cases e;have:=amJ _ hv;omega)
  simpa [Dk] using this
 ·have:=hg.size;simp at this ⊢;omega
 ·exact((KeepsOthers.alloc W tmp).trans (aaa ha.kh hg)).trans (KeepsOthers.setCell _ _ _)
 ·intro k hk
  have hk':R+1<=k/\k<R+4:=by simp at hk;omega
  have hsz:=hg.size;refine(hg2.block k ?_ ?_).trans ((hg.block k ?_ (fun e=>by have:=kQ k e.symm;omega)).trans (Below.heap_alloc W tmp k ?_))
  ·simp at hsz;omega
  ·simp;omega
  ·simp;omega
  ·omega
theorem PO {W:World} {b c e sz k:Nat} {v:Value} {xs:List Value} (h:W.ownsRow b e sz v k xs) (hv:∀ g,v.ownBlock=some g->c<=g):W.ownsRow c e sz v k xs :=
 ⟨h.1,h.2.imp id fun ⟨g,cap,cur,e1,_,rest⟩=>⟨g,cap,cur,e1,hv g (by rw[e1];rfl),rest⟩⟩
theorem lH.put (h:lH w N R n bK ds fs vf W) (n':Int) (p5 p6:Value) (zE:Bool):lH w N R n bK ds fs vf ((((W.setCell ⟨N,0,none⟩ (.int .i64 n')).setCell ⟨N,1,none⟩ p5).setCell ⟨N,2,none⟩ p6).setCell ⟨N+1,0,none⟩ (.bool zE)):=by
 obtain⟨_,_,_,_,hp⟩:=h.pb;have hlo:=h.lo;refine⟨⟨_,_,_,_,hp.put n' p5 p6 zE⟩,?_,iy (PL (PO h.rd fun g e=>by have:=h.dl g e;omega) _ _ _ _) (by omega),h.dl,PO (PL (PO h.kh fun g e=>by have:=p7 h.kh e;omega) _ _ _ _) (fun g e=>p7 h.kh e),by simpa using h.big,hlo⟩;rw[Below.heap_setCell _ _ _ _ (show R≠N+1 by omega),Below.heap_setCell _ _ _ _ (show R≠N by omega),Below.heap_setCell _ _ _ _ (show R≠N by omega),Below.heap_setCell _ _ _ _ (show R≠N by omega)];exact h.rb
end
theorem IX (l sep:List UInt8):(Lib.cut l sep).1.length<=l.length/\(Lib.cut l sep).2.1.length<=l.length:=by
 unfold Lib.cut;split
 ·simp only[List.length_take,List.length_drop];omega
 ·exact⟨lRq _,Nat.zero_le _⟩
theorem aab (l:List UInt8):(bn l).data.toList=l:=rfl
theorem PQ (l:List UInt8):(bn l).size=l.length:=rfl
def Dl (C D:List UInt8×List UInt8×Bool):Option (Nat×List Nat×List (List UInt8)) :=
 if C.2.2=true then
  match gF 9 (bn C.1),oH (bn D.1) with
  | some n,some ds=>if D.2.2=true then (iP (pieces 32 D.2.1)).map fun fs=>(n,ds,fs) else some (n,ds,[])
  | _,_=>none
 else none
theorem aac (s:ByteArray):vo s=Dl (Lib.cut s.data.toList [58]) (Lib.cut (Lib.cut s.data.toList [58]).2.1 [32]):=rfl
def PR (w:World) (R:Option (Nat×List Nat×List (List UInt8))) (e:Ending) (w':World):Prop :=
 ∃ n bK vf,e=.returned (.tuple #[.agg #[.int .i64 n,bK,vf],.bool R.isSome])/\Below w.heap.size w w' /\
  (∀ m ds fs,R=some (m,ds,fs)->n=m/\w'.ownsRow w.heap.size 3 1 bK ds.length (jT ds)/\w'.ownsRow w.heap.size 9 1 vf fs.length (Dk fs))/\(∃ a k c,bK=.slice a k c)/\∃ a k c,vf=.slice a k c
theorem amK (s:ByteArray) (w:World) (hL:jY w) (hs:s.size<=1000000) :
  Calls Tryz.prog 42 #[.string s] w (PR w (vo s)):=by
 obtain⟨N,hN⟩:∃ N,w.heap.size=N:=⟨_,rfl⟩;have hB0:jZ w ((w.alloc (.cells #[.int .i64 0,.slice none 0 0,.slice none 0 0] 86)).alloc (.cells #[.bool false] 4)) N 0 (.slice none 0 0) (.slice none 0 0) false:=by
  subst hN;refine⟨?_,?_,((bRq _ _).alloc (lRq _) _).alloc (by simp) _⟩
  ·rw[Below.heap_alloc _ _ _ (by simp)];exact hNq _ _
  ·have:=hNq (w.alloc (.cells #[.int .i64 0,.slice none 0 0,.slice none 0 0] 86)) (.cells #[.bool false] 4)
   rwa [World.size_alloc]at this
 obtain⟨oJ,Dm⟩:∃ oJ,(w.alloc (.cells #[.int .i64 0,.slice none 0 0,.slice none 0 0] 86)).alloc (.cells #[.bool false] 4)=oJ:=⟨_,rfl⟩;have PS:jY oJ:=by rw[Dm]at hB0;exact hL.later (by rw[hN];exact hB0.below)
 have hl1:=IX s.data.toList [58];have hc1:=ZX s 58 oJ PS (by omega);rw[Dm]at hB0;rw[aac];generalize Lib.cut s.data.toList [58]=C1 at *;obtain⟨a1,a2,a3⟩:=C1;simp only[]at hl1 hc1 ⊢;have hs':s.data.toList.length<=1000000:=by rw[Array.length_toList];exact hs
 have hl2:=IX a2 [32];have hc2:∀ W,jY W->Calls Tryz.prog 81 #[.string (bn a2),.string ⟨#[32]⟩] W fun e w'=>e=.returned (.tuple #[.string (bn (Lib.cut a2 [32]).1),.string (bn (Lib.cut a2 [32]).2.1),.bool (Lib.cut a2 [32]).2.2])/\Below W.heap.size W w' :=
  fun W hW=>ZX (bn a2) 32 W hW (by rw[PQ];omega)
 generalize Lib.cut a2 [32]=C2 at *;obtain⟨b1,b2,b3⟩:=C2;simp only[]at hl2 hc2 ⊢;have oI:∀ W,jY W->Calls Tryz.prog 82 #[.string (bn a1),.int .i64 9] W fun e w'=>e=.returned (.tuple #[.int .i64 ((gF 9 (bn a1)).getD 0),.bool (gF 9 (bn a1)).isSome])/\Below W.heap.size W w' :=
  fun W hW=>ZY 9 (by omega) (bn a1) W hW.num
 have xx:∀ W,jY W->_:=fun W hW=>amL strings_Index_one (bn b1) W hW.num (by rw[PQ];omega);have bF:=hDq hB0;have qw:=hDq hc1;have r5:=hDq hc2;have aad:=hDq oI;have aae:=hDq xx;have sT:=hDq PS;clear hB0 hc1 hc2 oI xx PS;obtain⟨R,hR⟩:∃ R,Dl (a1,a2,a3) (b1,b2,b3)=R:=⟨_,rfl⟩;rw[hR];have HR:=hDq hR;clear hR;refine(callsIn_wide (n:=5)).1 ?_;refine callsIn_of_wp_marks Tryz.func42 rfl trivial ?_ rfl;simp only[Tryz.ntmps42,List.size_toArray,List.length_cons,List.length_nil,Nat.reduceAdd,Nat.reduceSub,Array.replicate_succ,Array.replicate_zero,List.push_toArray,List.append_toArray,List.nil_append,List.cons_append]
 gi_wp2
 refine⟨trivial,(callsIn_wide.2 qw.out).mono ?_⟩;rintro e w1 ⟨rfl,hb1⟩;have HB1:=hDq (bF.out.later hb1);have jb:=hDq (sT.out.later hb1);clear hb1 bF sT qw Dm;simp only[]
 gi_wp2
 refine⟨trivial,(callsIn_wide.2 (aad.out w1 jb.out)).mono ?_⟩;rintro e w2 ⟨rfl,hb2⟩;have HB2:=hDq (HB1.out.later hb2);have iW:=hDq (jb.out.later hb2);clear hb2 HB1 jb aad;simp only[]
 gi_wp2
 refine⟨trivial,(callsIn_wide.2 (r5.out w2 iW.out)).mono ?_⟩;rintro e w3 ⟨rfl,hb3⟩;have ar:=hDq (HB2.out.later hb3);have lS:=hDq (iW.out.later hb3);clear hb3 HB2 iW r5;simp only[]
 gi_wp2
 refine⟨trivial,(callsIn_wide.2 (aae.out w3 lS.out)).mono ?_⟩;rintro e w4 ⟨bK,rfl,hb4,hrd⟩;have bQ:=hDq (ar.out.later hb4);have nV:=hDq (lS.out.later hb4);have ml:=hDq (iy hrd (show N+2<=w3.heap.size by have:=ar.out.lt;omega));clear hb4 ar lS aae hrd;simp only[];obtain⟨n0,n1,n2,n3,z0,z3⟩:=bQ.out.cells;have HBAD:Hid (R=none->∀ W,jZ w W N 0 (.slice none 0 0) (.slice none 0 0) false->PR w R (.returned (.tuple #[.agg #[.int .i64 0,.slice none 0 0,.slice none 0 0],.bool false])) W):=hDq fun e W hp=>by
  subst e;exact⟨0,_,_,rfl,by rw[hN];exact hp.below,fun m ds fs e=>(by cases e),⟨_,_,_,rfl⟩,_,_,_,rfl⟩
 by_cases hok:a3=true/\(gF 9 (bn a1)).isSome=true/\(oH (bn b1)).isSome=true
 ·obtain⟨rfl,h1,h2⟩:=hok
  obtain⟨n,hn⟩:=Option.isSome_iff_exists.1 h1;obtain⟨ds,IY⟩:=Option.isSome_iff_exists.1 h2;rw[hn,IY];rw[IY]at ml;simp only[Option.getD_some,Option.isSome_some]at ml ⊢;have bg:Hid (R=if b3=true then (iP (pieces 32 b2)).map fun fs=>(n,ds,fs) else some (n,ds,[])):=hDq (by rw[<- HR.out];unfold Dl;simp only[hn,IY];rfl);clear h1 h2 hn IY HR HBAD;obtain⟨da,eL,ib⟩:=fH ml.out;subst ib;obtain⟨i_,yT⟩:∃ i_,w4.heap.size=i_:=⟨_,rfl⟩;have hlt:=bQ.out.lt;have hI:lH w N i_ n (.slice da ds.length eL) ds [] (.slice none 0 0) (mq (bn b2) ⟨#[32]⟩ (w4.alloc (.cells #[.int .i64 n,.slice da ds.length eL,.slice none 0 0] 86))):=by
   have hg:=(World.grownBy_alloc w4 (.cells #[.int .i64 n,.slice da ds.length eL,.slice none 0 0] 86) none).trans (PT (bn b2) ⟨#[32]⟩ _);have hg2:=PT (bn b2) ⟨#[32]⟩ (w4.alloc (.cells #[.int .i64 n,.slice da ds.length eL,.slice none 0 0] 86));refine⟨⟨_,_,_,_,bQ.out.kept hg (fun r e=>by cases e)⟩,?_,iy (ml.out.kept hg (Classical.em _)) (by omega),?_,World.ownsRow_nil _ _ _ _,?_,by omega⟩
   ·rw[<- yT];exact(hg2.block _ (by simp) (by simp)).trans (hNq w4 _)
   ·intro g hgv
    have:=ml.out.lt g hgv
    omega
   ·rw[IZ];simp;omega
  have cA:=hDq (bQ.out.later ((bRq _ _).alloc (lRq _) (.cells #[.int .i64 n,.slice da ds.length eL,.slice none 0 0] 86)));have bL:=hDq (ml.out.alloc (.cells #[.int .i64 n,.slice da ds.length eL,.slice none 0 0] 86));have nK:=hNq w4 (.cells #[.int .i64 n,.slice da ds.length eL,.slice none 0 0] 86);rw[yT]at nK;have hs5:(w4.alloc (.cells #[.int .i64 n,.slice da ds.length eL,.slice none 0 0] 86)).heap.size=i_+1:=by simp[yT]
  clear n0 n1 n2 n3 z0 z3;obtain⟨n0,n1,n2,n3,z0,z3⟩:=cA.out.cells;have HI:=hDq hI;have apR:=hDq nK;have dR:=hDq hs5;clear hI nK hs5;cases b3 with
  | false =>
   have qh:R=some (n,ds,[]):=bg.out;have IG:Hid (∀ W,jZ w W N n (.slice da ds.length eL) (.slice none 0 0) true->W.ownsRow w.heap.size 3 1 (.slice da ds.length eL) ds.length (jT ds)->PR w R (.returned (.tuple #[.agg #[.int .i64 n,.slice da ds.length eL,.slice none 0 0],.bool true])) W):=hDq fun W hp hd=>by
    subst qh;exact⟨n,_,_,rfl,by rw[hN];exact hp.below,fun m ds' fs e=>(by cases e;exact⟨rfl,hd,World.ownsRow_nil _ _ _ _⟩),⟨_,_,_,rfl⟩,_,_,_,rfl⟩
   clear qh
   gi_wp2
   generalize w4.alloc (.cells #[.int .i64 n,.slice da ds.length eL,.slice none 0 0] 86)=aC at *;have HE:=hDq (cA.out.put n (.slice da ds.length eL) (.slice none 0 0) true);have qq:=hDq (PL bL.out (.int .i64 n) (.slice da ds.length eL) (.slice none 0 0) (.bool true));generalize (((aC.setCell ⟨N,0,none⟩ (.int .i64 n)).setCell ⟨N,1,none⟩ (.slice da ds.length eL)).setCell ⟨N,2,none⟩ (.slice none 0 0)).setCell ⟨N+1,0,none⟩ (.bool true)=W5 at *;obtain⟨m0,m1,m2,m3,y0,y3⟩:=HE.out.cells;refine⟨.tuple #[.agg #[.int .i64 n,.slice da ds.length eL,.slice none 0 0],.bool true],?_,IG.out _ HE.out (iy qq.out (by omega))⟩;simp[results,Tryz.f42,go_sem,m0,m1,m2,m3]
  | true =>
   gi_wp2
   refine⟨trivial,(callsIn_wide.2 (aaf (bn b2) ⟨#[32]⟩ _)).mono ?_⟩;rintro e ai ⟨rfl,rfl⟩;simp only[];generalize w4.alloc (.cells #[.int .i64 n,.slice da ds.length eL,.slice none 0 0] 86)=aC at *
   gi_wp2
   have hsz:=dR.out;have hW0:(mq (bn b2) ⟨#[32]⟩ aC).heap.size=i_+4:=by rw[IZ,hsz]
   have Ir:((pieces 32 b2).map bn).length<=1000001:=by rw[List.length_map];have:=PN 32 b2;omega
   refine uG.Wp rfl (by omega) (gf:=197) (lb:=#[.pointer (some ⟨i_+2,0,none⟩),.pointer (some ⟨i_+1,0,none⟩),.pointer (some ⟨i_+3,0,none⟩)]) (by simp only[Dn,hsz];rfl) trivial (enters_of Tryz.func197 (by kernel_rfl) rfl)
    (aag strings_Index_one _ (by omega) (bn b2) 32 (by rw[PQ];omega) (i_+1) (i_+2) (i_+3) (by omega) (by omega)) ?H (by omega) ?K (fun _=>rfl)
    (fun pre W=>∃ fs vf,p8 pre fs/\lH w N i_ n (.slice da ds.length eL) ds fs vf W)
    (fun c _ W=>c=.ret/\iP (pieces 32 b2)=none/\∃ fs vf,lH w N i_ n (.slice da ds.length eL) ds fs vf W/\jZ w W N 0 (.slice none 0 0) (.slice none 0 0) false)
    ?I ?Ix ⟨[],_,p8.nil,HI.out⟩ ?a1 ?assign ?body ?done ?stop
   case assign =>
    intro l x W K hK
    gi_wp2
    exact hK
   case H =>
    intro o o';have e1:=(((aah (bn b2) ⟨#[32]⟩ aC).alloc o).alloc o');have e2:=(((aai (bn b2) ⟨#[32]⟩ aC).alloc o).alloc o');have e3:=(((aaj (bn b2) ⟨#[32]⟩ aC).alloc o).alloc o');rw[hsz]at e1 e2 e3;exact⟨e1,e2,e3⟩
   case K=>intro k hk;simp at hk;omega
   case I =>
    rintro s' A B row ⟨fs,vf,hF,hi⟩ hg hr;exact⟨fs,vf,hF,hi.grown hg (fun r e=>by rw[hW0]at hr;exact hr r e)⟩
   case Ix =>
    rintro c s' A B row ⟨hc,hn,fs,vf,hi,hp⟩ hg hr;exact⟨hc,hn,fs,vf,hi.grown hg (fun r e=>by rw[hW0]at hr;exact hr r e),hp.kept hg (fun r e=>by have:=hi.lo;rw[hW0]at hr;rcases hr r e with h' | ⟨h',_⟩ <;> omega)⟩
   case body =>
    rintro l pre x W ⟨fs,vf,hF,hi⟩ ⟨qs,qE⟩;have hxs:(pieces 32 b2).map bn=pre++x::qs:=by rw[aab]at qE;rw[<- qE];simp
    have hps:pieces 32 b2=pre.map (·.data.toList)++x.data.toList::qs.map (·.data.toList):=by
     have:=congrArg (List.map (fun y:ByteArray=>y.data.toList)) hxs
     rw[Z_]at this;simpa using this
    have hx:x.size<=1000000:=by
     have:=Z9 32 b2 x.data.toList (by rw[hps];simp)
     rw[Array.length_toList]at this;have h3:x.data.size=x.size:=rfl;omega
    have hfl:fs.length<=1000001:=by have:=congrArg List.length hxs;rw[lAq]at this;rw[hF.2];omega
    have hby:=alE x W hx;cases hu:unhex x.data.toList with
    | none =>
     have xK:iP (pieces 32 b2)=none:=by rw[hps];exact hF.bad hu _
     rw[hu]at hby
     gi_wp2_with (first | (refine⟨trivial,?_⟩;gi_at_call 85;refine(CallsIn.inRound l (callsIn_wide.2 hby)).mono ?_;rintro e bq ⟨rfl,hb⟩;have xy:=hi.later hb;obtain⟨n',p5,p6,ok,aak⟩:=xy.pb;obtain⟨m0,m1,m2,m3,y0,y3⟩:=aak.cells) | (refine⟨trivial,?_⟩))
     exact⟨(zF hb).trans (Z8 _ _ _ _ _ _),rfl,xK,fs,vf,xy.put _ _ _ _,aak.put _ _ _ _⟩
    | some y =>
     rw[hu]at hby;obtain⟨i9,hi9,hz0,hz1,hz2⟩:=WU
     gi_wp2_with (first | (refine⟨trivial,?_⟩;gi_at_call 85;refine(CallsIn.inRound l (callsIn_wide.2 hby)).mono ?_;rintro e bq ⟨rfl,hb⟩;have xy:=hi.later hb;have d2:bq.cell? ⟨i_,2,none⟩=some vf:=(by rw[cR bq _ 2 _ _ _ xy.rb];rfl)) | (gi_at_builtin;refine wpListIn_append_own _ rfl _ _ 70 rfl (i_+4) 9 i9 (.string ⟨#[]⟩) 1 16 Tryz.underlying70 hi9 hz0 hz1 hz2 rfl (by decide) _ _ _ rfl (xy.kh.alloc _) ⟨_,0,none⟩ 1 1 [.string (bn y)] rfl rfl (cell_one_new _ _ _) (by simp[Value.oneCell']) (by simp[maxLen];omega) (by omega) (by have:=xy.big;simp;omega) ?_;intro v' b9 hown' hgrow _;obtain⟨g',cap',rfl⟩:=ownsRow_succ hown';obtain⟨k2,amM,amN,amO⟩:=xy.pushed hgrow hown';have f2:b9.cell? ⟨i_,2,none⟩=some vf:=(by rw[cR b9 _ 2 _ _ _ k2];rfl);have f3:b9.frozen? ⟨i_,2,none⟩=false:=(by simp[World.frozen?,k2])) | (refine⟨trivial,?_⟩))
     exact⟨(zF hb).trans amN,uG.At.trans (fun k hk=>hb.block k (by have:=hi.big;simp at hk;omega)) amO,_,_,hF.step hu,amM⟩
   case done =>
    rintro W ⟨fs,vf,hF,hi⟩ hD;obtain⟨n',p5,p6,ok,hp⟩:=hi.pb;obtain⟨m0,m1,m2,m3,y0,y3⟩:=hp.cells;have d0:W.cell? ⟨i_,0,none⟩=some (.int .i64 n):=by rw[cR W _ 0 _ _ _ hi.rb];rfl
    have d1:W.cell? ⟨i_,1,none⟩=some (.slice da ds.length eL):=by rw[cR W _ 1 _ _ _ hi.rb];rfl
    obtain⟨fa,fc,rfl⟩:=fH hi.kh;have d2:W.cell? ⟨i_,2,none⟩=some (.slice fa fs.length fc):=by rw[cR W _ 2 _ _ _ hi.rb];rfl
    have hall:iP (pieces 32 b2)=some fs:=by have:=hF.all;rwa [aab,Z_]at this
    have qh:R=some (n,ds,fs):=by rw[bg.out,if_pos (by trivial),hall];rfl
    have HR1:=hDq qh;clear qh hall
    gi_wp2
    have hi2:=hi.put n (.slice da ds.length eL) (.slice fa fs.length fc) true;have hp2:=hp.put n (.slice da ds.length eL) (.slice fa fs.length fc) true;have Dp:=(Z8 W N (.int .i64 n) (.slice da ds.length eL) (.slice fa fs.length fc) (.bool true)).same _ _ hD rfl;generalize (((W.setCell ⟨N,0,none⟩ (.int .i64 n)).setCell ⟨N,1,none⟩ (.slice da ds.length eL)).setCell ⟨N,2,none⟩ (.slice fa fs.length fc)).setCell ⟨N+1,0,none⟩ (.bool true)=W2 at *;have bY:=hi2.grown (grownBy_putObj' _ _ (.deferred none)) (fun r e=>by cases e;exact .inr ⟨by omega,_,Dp,rfl⟩);have pE:=hp2.kept (grownBy_putObj' _ (mq (bn b2) ⟨#[32]⟩ aC).heap.size (.deferred none)) (fun r e=>by cases e;rw[hW0];have:=hi.lo;omega);obtain⟨g0,g1,g2,g3,_,_⟩:=pE.cells;refine⟨by simp,.inl ⟨_,_,rfl,run_takeDeferred Dp,.tuple #[.agg #[.int .i64 n,.slice da ds.length eL,.slice fa fs.length fc],.bool true],?_,n,_,_,by rw[HR1.out];rfl,by rw[hN];exact pE.below,fun m ds' fs' e=>?_,⟨_,_,_,rfl⟩,_,_,_,rfl⟩⟩
    ·simp[results,Tryz.f42,go_sem,g0,g1,g2,g3]
    ·have e':=HR1.out.symm.trans e
     cases e';exact⟨rfl,by rw[hN];exact bY.rd,iy bY.kh (by have:=hi.lo;omega)⟩
   case stop =>
    rintro c pre W _ ⟨rfl,hn,fs,vf,hi,hp⟩ hD;have qh:R=none:=by rw[bg.out,if_pos (by trivial),hn];rfl
    have HR1:=hDq qh;clear qh
    gi_wp2
    have pE:=hp.kept (grownBy_putObj' _ (mq (bn b2) ⟨#[32]⟩ aC).heap.size (.deferred none)) (fun r e=>by cases e;rw[hW0];have:=hi.lo;omega);obtain⟨g0,g1,g2,g3,_,_⟩:=pE.cells;refine⟨by simp,.inl ⟨_,_,rfl,run_takeDeferred hD,.tuple #[.agg #[.int .i64 0,.slice none 0 0,.slice none 0 0],.bool false],?_,0,_,_,by rw[HR1.out];rfl,by rw[hN];exact pE.below,fun m ds' fs' e=>?_,⟨_,_,_,rfl⟩,_,_,_,rfl⟩⟩
    ·simp[results,Tryz.f42,go_sem,g0,g1,g2,g3]
    ·have e':=HR1.out.symm.trans e
     cases e'
 ·have aal:R=none:=by
   rw[<- HR.out];unfold Dl;simp only[];split
   ·rename_i h3
    cases h1:gF 9 (bn a1) with
    | none=>rfl
    | some n =>
     cases h2:oH (bn b1) with
     | none=>rfl
     | some ds=>exact absurd ⟨h3,by rw[h1];rfl,by rw[h2];rfl⟩ hok
   ·rfl
  have HE:=hDq (bQ.out.put 0 (.slice none 0 0) (.slice none 0 0) false);generalize (gF 9 (bn a1)).isSome=k1 at *;generalize (oH (bn b1)).isSome=k2 at *;have HX:=hDq (HBAD.out aal);clear HBAD aal;cases a3 with
  | false =>
   gi_wp2
   generalize (((w4.setCell ⟨N,0,none⟩ (.int .i64 0)).setCell ⟨N,1,none⟩ (.slice none 0 0)).setCell ⟨N,2,none⟩ (.slice none 0 0)).setCell ⟨N+1,0,none⟩ (.bool false)=W5 at *;obtain⟨m0,m1,m2,m3,y0,y3⟩:=HE.out.cells;refine⟨.tuple #[.agg #[.int .i64 0,.slice none 0 0,.slice none 0 0],.bool false],?_,HX.out _ HE.out⟩;simp[results,Tryz.f42,go_sem,m0,m1,m2,m3]
  | true =>
   cases k1 with
   | false =>
    gi_wp2
    generalize (((w4.setCell ⟨N,0,none⟩ (.int .i64 0)).setCell ⟨N,1,none⟩ (.slice none 0 0)).setCell ⟨N,2,none⟩ (.slice none 0 0)).setCell ⟨N+1,0,none⟩ (.bool false)=W5 at *;obtain⟨m0,m1,m2,m3,y0,y3⟩:=HE.out.cells;refine⟨.tuple #[.agg #[.int .i64 0,.slice none 0 0,.slice none 0 0],.bool false],?_,HX.out _ HE.out⟩;simp[results,Tryz.f42,go_sem,m0,m1,m2,m3]
   | true =>
    cases k2 with
    | true=>exact absurd ⟨rfl,rfl,rfl⟩ hok
    | false =>
     gi_wp2
     generalize (((w4.setCell ⟨N,0,none⟩ (.int .i64 0)).setCell ⟨N,1,none⟩ (.slice none 0 0)).setCell ⟨N,2,none⟩ (.slice none 0 0)).setCell ⟨N+1,0,none⟩ (.bool false)=W5 at *;obtain⟨m0,m1,m2,m3,y0,y3⟩:=HE.out.cells;refine⟨.tuple #[.agg #[.int .i64 0,.slice none 0 0,.slice none 0 0],.bool false],?_,HX.out _ HE.out⟩;simp[results,Tryz.f42,go_sem,m0,m1,m2,m3]
end Go.Proofs.YtjolccidheflpaaGreatDoor
namespace Go.Proofs.YtjolccidheflpaaGreatDoor
set_option maxHeartbeats 8000000
open Go.RowKit Go.Shelf
set_option maxRecDepth 100000
def s5 (s:ByteArray):Nat:=match vo s with
 | none=>1
 | some (_,_,fs)=>jq (fs.map bn)
def PU (w:World) (ad:Nat->Addr) (s:ByteArray) (e:Ending) (w':World):Prop :=
 ∃ n bK va,e=.returned (.tuple #[.int .i64 n,bK,va,gq ad (s5 s)])/\Below w.heap.size w w' /\
  (∀ m ds fs,vo s=some (m,ds,fs)->s5 s=0->n=m/\w'.ownsRow w.heap.size 3 1 bK ds.length (jT ds)/\w'.ownsRow w.heap.size 95 8 va (fs.map bn).length (bl ((fs.map bn).map af.cB)))/\(s5 s≠0->n=0/\bK=.slice none 0 0/\va=.slice none 0 0)
theorem aam:∀ (l r:List (List UInt8)),iP l=some r->r.length=l.length
 | [],r,h=>by simp[iP]at h;simp[h]
 | p::l,r,h=>by
  unfold iP at h;split at h
  ·cases h
  ·obtain⟨q,hq,rfl⟩:=Option.map_eq_some_iff.1 h
   simp[aam l q hq]
theorem amP {s:ByteArray} {m:Nat} {ds:List Nat} {fs:List (List UInt8)} (h:vo s=some (m,ds,fs)):fs.length<=s.size+1:=by
 rw[aac]at h;have h1:=(IX s.data.toList [58]).2;have h2:=(IX (Lib.cut s.data.toList [58]).2.1 [32]).2;have h3:=PN 32 (Lib.cut (Lib.cut s.data.toList [58]).2.1 [32]).2.1;have h4:s.data.toList.length=s.size:=Array.length_toList;unfold Dl at h;split at h
 ·split at h
  ·split at h
   ·obtain⟨q,hq,e⟩:=Option.map_eq_some_iff.1 h
    cases e
    have:=aam _ _ hq
    omega
   ·cases h;simp
  ·cases h
 ·cases h
theorem amD {ad:Nat->Addr} (s:ByteArray) (w:World) (hL:jY w) (hS:bT w ad) (hs:s.size<=99999) :
  Calls Tryz.prog 9 #[.string s] w (PU w ad s):=by
 have hp:=amK s w hL (by omega);have HL:=hDq hL;have HS:=hDq hS;clear hL hS;cases hR:vo s with
 | none =>
  have hA:∀ W,Below w.heap.size w W->PU w ad s (.returned (.tuple #[.int .i64 0,.slice none 0 0,.slice none 0 0,.iface 412 (.pointer (some (ad 0)))])) W:=fun W hb=>by
   have hC:s5 s=1:=by unfold s5;rw[hR]
   exact⟨0,_,_,by rw[hC];rfl,hb,fun m ds fs e=>(by rw[hR]at e;cases e),fun _=>⟨rfl,rfl,rfl⟩⟩
  have HA:=hDq hA;clear hA;rw[hR]at hp;have HP:=hDq hp;clear hp hR;go_enter Tryz.func9,Tryz.ntmps9
  go_wp2_with fail
  refine HP.out.mono ?_;rintro e w1 ⟨n,bK,vf,rfl,hb1,_,⟨a,k,c,rfl⟩,a',k',c',rfl⟩;have c0:w1.cell? ⟨0,0,none⟩=some (.iface 412 (.pointer (some (ad 0)))):=(HS.out.later hb1).cell 0 (by decide);have pM:(w1.alloc (.cells #[.int .i64 n,.slice a k c,.slice a' k' c'] 86)).cell? ⟨0,0,none⟩=some (.iface 412 (.pointer (some (ad 0)))):=by
   rw[((bRq _ w1).alloc (lRq _) _).cell (bCq _ _ c0)];exact c0
  have HB2:=hDq (hb1.alloc hb1.size (.cells #[.int .i64 n,.slice a k c,.slice a' k' c'] 86));clear hb1 c0;simp only[Option.isSome_none];go_wp2;generalize w1.alloc (.cells #[.int .i64 n,.slice a k c,.slice a' k' c'] 86)=w2 at *
  go_quiet (fail)
  go_wp2;refine bodyPost_ret (v:=.tuple #[.int .i64 0,.slice none 0 0,.slice none 0 0,.iface 412 (.pointer (some (ad 0)))]) (by simp[results,Tryz.results9,go_sem]) rfl ?_;exact HA.out _ (HB2.out.trans ((below_drewN _).mono HB2.out.size))
 | some r =>
  obtain⟨m,ds,fs⟩:=r;rw[hR]at hp;have HP:=hDq hp;have HA:Hid (∀ n bK va W,Below w.heap.size w W->(jq (fs.map bn)=0->n=(m:Int)/\W.ownsRow w.heap.size 3 1 bK ds.length (jT ds)/\W.ownsRow w.heap.size 95 8 va (fs.map bn).length (bl ((fs.map bn).map af.cB)))->(jq (fs.map bn)≠0->n=0/\bK=.slice none 0 0/\va=.slice none 0 0) ->
    PU w ad s (.returned (.tuple #[.int .i64 n,bK,va,gq ad (jq (fs.map bn))])) W):=hDq fun n bK va W hb h1 h2=>by
   have hC:s5 s=jq (fs.map bn):=by unfold s5;rw[hR]
   exact⟨n,bK,va,by rw[hC],hb,fun m' ds' fs' e e0=>(by rw[hR]at e;cases e;exact h1 (hC▸e0)),fun e0=>h2 (hC▸e0)⟩
  have hfl:fs.length<=100000:=by have:=amP hR;omega
  clear hp hR;go_enter Tryz.func9,Tryz.ntmps9
  go_wp2_with fail
  refine HP.out.mono ?_;rintro e w1 ⟨n,bK,vf,rfl,hb1,hrows,⟨a,k,c,rfl⟩,a',k',c',rfl⟩;obtain⟨rfl,hrd,aan⟩:=hrows m ds fs rfl;have HB2:=hDq (hb1.alloc hb1.size (.cells #[.int .i64 m,.slice a k c,.slice a' k' c'] 86));have ml:=hDq (hrd.alloc (.cells #[.int .i64 m,.slice a k c,.slice a' k' c'] 86));have aao:=aan.alloc (.cells #[.int .i64 m,.slice a k c,.slice a' k' c'] 86);have hrb:=hNq w1 (.cells #[.int .i64 m,.slice a k c,.slice a' k' c'] 86);have hsz:(w1.alloc (.cells #[.int .i64 m,.slice a k c,.slice a' k' c'] 86)).heap.size=w1.heap.size+1:=by simp
  have aap:=hDq (alT (fs.map bn) (.slice a' k' c') w.heap.size fs.length (w1.alloc (.cells #[.int .i64 m,.slice a k c,.slice a' k' c'] 86)) (ad:=ad) (hDq (HS.out.later HB2.out)) (hDq (List.length_map _)) (hDq (by
   have:=aao;unfold Dk at this;rw[List.map_map];exact this)) hfl)
  have qD:=hDq hrb;have nS:=hDq hsz;clear hb1 hrows hrd aan aao hrb hsz HP;simp only[Option.isSome_some]
  go_wp2_with fail
  generalize w1.alloc (.cells #[.int .i64 m,.slice a k c,.slice a' k' c'] 86)=w2 at *;generalize jq (fs.map bn)=D at *;refine aap.out.mono ?_;rintro e w3 ⟨va,rfl,hb3,h1,h2⟩;have ar:=hDq (HB2.out.trans (hb3.mono HB2.out.size));have amQ:=hDq (dy ml.out hb3);have PV:w3.heap[w1.heap.size]?=some (.cells #[.int .i64 m,.slice a k c,.slice a' k' c'] 86 (0,0)):=by rw[hb3.block _ (by rw[nS.out];omega)];exact qD.out
  have q0:w3.cell? ⟨w1.heap.size,0,none⟩=some (.int .i64 m):=by rw[cR w3 _ 0 _ _ _ PV];rfl
  have q1:w3.cell? ⟨w1.heap.size,1,none⟩=some (.slice a k c):=by rw[cR w3 _ 1 _ _ _ PV];rfl
  have HR3:=hDq h1;have apS:=hDq h2;clear hb3 PV h1 h2 aap;by_cases hD:D=0
  ·subst hD
   rw[show gq ad 0=.nilIface from rfl]at HA ⊢;simp only[];go_wp2
   go_quiet (fail)
   go_wp2;refine bodyPost_ret (v:=.tuple #[.int .i64 m,.slice a k c,va,.nilIface]) (by simp[results,Tryz.results9,go_sem]) rfl ?_;have hbd:=below_drewN (w:=w3) nq;exact HA.out m (.slice a k c) va _ (ar.out.trans (hbd.mono ar.out.size)) (fun _=>⟨rfl,dy amQ.out hbd,dy (iy (HR3.out trivial) HB2.out.size) hbd⟩) (fun e=>absurd rfl e)
  ·have HF:=hDq (HA.out 0 (.slice none 0 0) (.slice none 0 0) w3 ar.out (fun e=>absurd e hD) (fun _=>⟨rfl,rfl,rfl⟩))
   rw[xN ad hD]at HF ⊢;simp only[];go_wp2;exact bodyPost_ret (v:=.tuple #[.int .i64 0,.slice none 0 0,.slice none 0 0,.iface 412 (.pointer (some (ad (D-1))))]) (by simp[results,Tryz.results9,go_sem]) rfl HF.out
end Go.Proofs.YtjolccidheflpaaGreatDoor
