/- recover.partsOf, by its contract. -/
import Derived.Test.YtjolccidheflpaaGreatDoorW40
import Derived.Test.YtjolccidheflpaaGreatDoorW17
import Derived.Test.YtjolccidheflpaaGreatDoorW41
import Derived.Test.YtjolccidheflpaaGreatDoorW42
import Derived.Test.YtjolccidheflpaaGreatDoorW44
import Derived.Test.YtjolccidheflpaaGreatDoorW35
namespace Go.Proofs.YtjolccidheflpaaGreatDoor
set_option maxHeartbeats 8000000
set_option maxRecDepth 100000
open Go.RowKit Go.Shelf
attribute [local go_sem] Oper.semAt_some
set_option maxRecDepth 100000
structure ko (w W:World) (N:Nat) (n:Int) (bM vf:Value) (ok:Bool):Prop where
 r0:W.heap[N]?=some (.cells #[Qa n,bM,vf] 86 (0,0))
 r1:W.heap[N+1]?=some (.cells #[.bool ok] 4 (0,0))
 below:Below N w W
theorem ko.lt {w W:World} {N:Nat} {n:Int} {bM vf:Value} {ok:Bool} (h:ko w W N n bM vf ok):N+1<W.heap.size:=lBq h.r1
theorem ko.later {w W V:World} {N:Nat} {n:Int} {bM vf:Value} {ok:Bool} (h:ko w W N n bM vf ok) (hb:Below W.heap.size W V):ko w V N n bM vf ok :=
 ⟨(hb.block _ (lBq h.r0)).trans h.r0,(hb.block _ (lBq h.r1)).trans h.r1,h.below.trans (hb.mono (by have:=h.lt;omega))⟩
theorem ko.put {w W:World} {N:Nat} {n:Int} {bM vf:Value} {ok:Bool} (h:ko w W N n bM vf ok) (n':Int) (qx qy:Value) (zP:Bool) :
  ko w ((((W.setCell (Qb N 0) (Qa n')).setCell (Qb N 1) qx).setCell (Qb N 2) qy).setCell ⟨N+1,0,none⟩ (.bool zP)) N n' qx qy zP:=by
 refine⟨?_,?_,(((h.below.setCell (p:=(Qb N 0)) (lRq _) _).setCell (p:=(Qb N 1)) (lRq _) _).setCell (p:=(Qb N 2)) (lRq _) _).setCell (p:=⟨N+1,0,none⟩) (Nat.le_succ _) _⟩
 .rw[Below.heap_setCell _ _ _ _ (show N≠N+1 by omega)]
  exact heap_setCell_same _ N 2 _ _ _ (heap_setCell_same _ N 1 _ _ _ (heap_setCell_same _ N 0 _ _ _ h.r0))
 .exact heap_setCell_same _ (N+1) 0 #[.bool ok] 4 (.bool zP) (by
   rw[Below.heap_setCell _ _ _ _ (show N+1≠N by omega),Below.heap_setCell _ _ _ _ (show N+1≠N by omega),Below.heap_setCell _ _ _ _ (show N+1≠N by omega)];exact h.r1)
theorem aaf (W:World) (N:Nat) (a b c d:Value):KeepsOthers W ((((W.setCell (Qb N 0) a).setCell (Qb N 1) b).setCell (Qb N 2) c).setCell ⟨N+1,0,none⟩ d) :=
 (((KeepsOthers.setCell _ _ _).trans (KeepsOthers.setCell _ _ _)).trans (KeepsOthers.setCell _ _ _)).trans (KeepsOthers.setCell _ _ _)
theorem PU {W:World} {N:Nat} {e:TypeId} {sz k:Nat} {v:Value} {xs:List Value} (h:W.ownsRow (N+2) e sz v k xs) (a b c d:Value):((((W.setCell (Qb N 0) a).setCell (Qb N 1) b).setCell (Qb N 2) c).setCell ⟨N+1,0,none⟩ d).ownsRow (N+2) e sz v k xs:=by
 have ne:∀ p,p<N+2->v.ownBlock=none\/v.ownBlock≠some p:=fun p hp=>by
  cases hv:v.ownBlock with
  | none=>exact .inl rfl
  | some g=>exact .inr fun e=>by cases e;have:=qz h hv;omega
 exact(((h.kept (Lib.grownBy_setCell _ _ _ _) (ne N (by omega))).kept (Lib.grownBy_setCell _ _ _ _) (ne N (by omega))).kept (Lib.grownBy_setCell _ _ _ _) (ne N (by omega))).kept (Lib.grownBy_setCell _ _ _ _) (ne (N+1) (by omega))
theorem ko.cells {w W:World} {N:Nat} {n:Int} {bM vf:Value} {ok:Bool} (h:ko w W N n bM vf ok):W.cell? (Qb N 0)=some (Qa n)/\W.cell? (Qb N 1)=some bM/\W.cell? (Qb N 2)=some vf/\W.cell? ⟨N+1,0,none⟩=some (.bool ok)/\(∀ j,W.frozen? (Qb N j)=false)/\W.frozen? ⟨N+1,0,none⟩=false :=
 ⟨by rw[cR W _ 0 _ _ _ h.r0];rfl,by rw[cR W _ 1 _ _ _ h.r0];rfl,by rw[cR W _ 2 _ _ _ h.r0];rfl,by rw[cR W _ 0 _ _ _ h.r1];rfl,fun j=>by simp[World.frozen?,h.r0],by simp[World.frozen?,h.r1]⟩
theorem ko.kept {w W V:World} {N:Nat} {n:Int} {bM vf:Value} {ok:Bool} {row:Option Nat} (h:ko w W N n bM vf ok) (hg:W.grownBy V row) (hr:∀ r,row=some r->N+1<r):ko w V N n bM vf ok :=
 ⟨(hg.block _ (lBq h.r0) (fun e=>by have:=hr _ e.symm;omega)).trans h.r0,(hg.block _ (lBq h.r1) (fun e=>by have:=hr _ e.symm;omega)).trans h.r1,h.below.grown hg (by have:=h.lt;omega) (fun k e=>by have:=hr k e;omega)⟩
def qA (pre:List ByteArray) (fs:List (List UInt8)):Prop:=(∀ qs,iV (pre.map (·.data.toList)++qs)=(iV qs).map (fs++·))/\fs.length=pre.length
theorem qA.nil:qA [] []:=⟨fun qs=>by cases h:iV qs <;> simp[h],rfl⟩
theorem qA.step {pre:List ByteArray} {fs:List (List UInt8)} (h:qA pre fs) {p:ByteArray} {x:List UInt8} (hp:unhex p.data.toList=some x):qA (pre++[p]) (fs++[x]):=by
 refine⟨fun qs=>?_,by rw[lAq,lAq,h.2];rfl⟩;rw[List.map_append,aAq,h.1];simp only[List.map_cons,List.map_nil,List.singleton_append,iV,hp];cases iV qs <;> simp
theorem qA.bad {pre:List ByteArray} {fs:List (List UInt8)} (h:qA pre fs) {p:ByteArray} (hp:unhex p.data.toList=none) (qs:List (List UInt8)):iV (pre.map (·.data.toList)++p.data.toList::qs)=none:=by
 rw[h.1];simp only[iV,hp];rfl
theorem qA.all {pre:List ByteArray} {fs:List (List UInt8)} (h:qA pre fs):iV (pre.map (·.data.toList))=some fs:=by have:=h.1 [];simpa [iV] using this
theorem PV (c:UInt8):∀ l:List UInt8,(pieces c l).length<=l.length+1
 | []=>lRq _
 | x::l=>by
  have:=PV c l
  unfold pieces;split
  .simp;omega
  .simp;omega
theorem aag (c:UInt8):∀ (l:List UInt8) (p:List UInt8),p∈pieces c l->p.length<=l.length
 | [],p,h=>by simp[pieces]at h;simp[h]
 | x::l,p,h=>by
  have ih:=aag c l;unfold pieces at h;split at h
  .rcases List.mem_cons.1 h with rfl | h1
   .exact Nat.zero_le _
   .have:=ih p h1;simp;omega
  .have hne:pieces c l≠[]:=by cases l with
    | nil=>simp[pieces]
    | cons y l=>unfold pieces;split <;> simp
   obtain⟨q,r,hq⟩:=List.exists_cons_of_ne_nil hne;rw[hq]at h ih;simp only[List.headD_cons,List.tail_cons]at h;rcases List.mem_cons.1 h with rfl | h1
   .have:=ih q mSq;simp;omega
   .have:=ih p (mOq _ h1);simp;omega
theorem aah (l:List (List UInt8)):(l.map bn).map (·.data.toList)=l:=by rw[List.map_map];exact List.map_id l
def Dv (fs:List (List UInt8)):List Value:=fs.map fun f=>Value.string (bn f)
structure l7 (w:World) (N R:Nat) (n:Int) (bM:Value) (ds:List Nat) (fs:List (List UInt8)) (vf:Value) (W:World):Prop where
 pb:∃ n' qx qy ok,ko w W N n' qx qy ok
 rb:W.heap[R]?=some (.cells #[Qa n,bM,vf] 86 (0,0))
 rd:W.ownsRow N 3 1 bM ds.length (kg ds)
 dl:∀ g,bM.ownBlock=some g->N+1<g/\g<R
 kF:W.ownsRow (R+4) 9 1 vf fs.length (Dv fs)
 big:R+4<=W.heap.size
 lo:N+1<R
section
variable {w W V:World} {N R:Nat} {n:Int} {bM vf:Value} {ds:List Nat} {fs:List (List UInt8)}
theorem l7.grown {row:Option Nat} (h:l7 w N R n bM ds fs vf W) (hg:W.grownBy V row) (hr:∀ r,row=some r->r=R+1\/(R+4<=r/\∃ o:Obj,W.heap[r]?=some o/\o.isCells=false)):l7 w N R n bM ds fs vf V:=by
 have hlo:=h.lo;obtain⟨n',qx,qy,ok,hp⟩:=h.pb;have hle:∀ r,row=some r->R<r:=fun r e=>by rcases hr r e with h' | ⟨h',_⟩ <;> omega
 refine⟨⟨_,_,_,_,hp.kept hg (fun r e=>by have:=hle r e;omega)⟩,(hg.block _ (lBq h.rb) (fun e=>by have:=hle _ e.symm;omega)).trans h.rb,h.rd.kept hg ?_,h.dl,h.kF.kept hg ?_,lTq h.big hg.size,hlo⟩
 .cases hv:bM.ownBlock with
  | none=>exact .inl rfl
  | some g=>exact .inr fun e=>by have:=h.dl g hv;have:=hle g e.symm;omega
 .cases hv:vf.ownBlock with
  | none=>exact .inl rfl
  | some g =>
   refine .inr fun e=>?_;have lm:=qz h.kF hv;rcases hr g e.symm with h' | ⟨_,o,ho,hc⟩
   .omega
   .rcases h.kF.2 with ⟨rfl,_⟩ | ⟨g',cap,cur,rfl,_,hgb,_⟩
    .simp[Value.ownBlock]at hv
    .obtain rfl:g'=g:=by simpa [Value.ownBlock] using hv
     rw[hgb]at ho;cases ho;cases hc
theorem l7.later (h:l7 w N R n bM ds fs vf W) (hb:Below W.heap.size W V):l7 w N R n bM ds fs vf V :=
 h.grown (row:=none) ⟨hb.os,hb.tape,hb.output,hb.size,fun i hi _=>hb.block i hi⟩ (fun r e=>by cases e)
theorem l7.pushed {w1:World} {x:List UInt8} {v':Value} {tmp:Obj} (h:l7 w N R n bM ds fs vf W) (hg:(W.alloc tmp).grownBy w1 vf.ownBlock) (hr:w1.ownsRow (R+4) 9 1 v' (fs.length+1) (Dv fs++[.string (bn x)])) :
  w1.heap[R]?=some (.cells #[Qa n,bM,vf] 86 (0,0))/\l7 w N R n bM ds (fs++[x]) v' (w1.setCell (Qb R 2) v')/\KeepsOthers W (w1.setCell (Qb R 2) v')/\uY.At [R+1,R+2,R+3] W (w1.setCell (Qb R 2) v'):=by
 have ha:=h.grown (World.grownBy_alloc W tmp none) (fun r e=>by cases e);have hlo:=h.lo;have IX:=h.big;have lm:∀ k,vf.ownBlock=some k->R+4<=k:=fun k e=>qz h.kF e;have amU:∀ k,v'.ownBlock=some k->R+4<=k:=fun k e=>qz hr e;obtain⟨n',qx,qy,ok,hp⟩:=ha.pb;have hrb:=(hg.block _ (lBq ha.rb) (fun e=>by have:=lm _ e.symm;omega)).trans ha.rb;have hg2:w1.grownBy (w1.setCell (Qb R 2) v') (some R):=⟨rfl,rfl,rfl,by simp[World.setCell],fun k _ hk=>Below.heap_setCell _ _ _ _ (fun e=>hk (by simp[e]))⟩;refine⟨hrb,⟨⟨_,_,_,_,(hp.kept hg (fun r e=>by have:=lm r e;omega)).kept hg2 (fun r e=>by cases e;omega)⟩,heap_setCell_same w1 R 2 _ _ _ hrb,?_,h.dl,?_,?_,hlo⟩,?_,?_⟩
 .refine(ha.rd.kept hg ?_).kept hg2 ?_
  .cases hv:bM.ownBlock with
   | none=>exact .inl rfl
   | some g=>exact .inr fun e=>by have:=h.dl g hv;have:=lm g e.symm;omega
  .cases hv:bM.ownBlock with
   | none=>exact .inl rfl
   | some g=>exact .inr fun e=>by cases e;have:=h.dl _ hv;omega
 .have:=hr.kept hg2 (by
   cases hv:v'.ownBlock with
   | none=>exact .inl rfl
   | some g=>exact .inr fun e=>by cases e;have:=amU _ hv;omega)
  simpa [Dv] using this
 .have:=hg.size;simp at this ⊢;omega
 .exact((KeepsOthers.alloc W tmp).trans (aai ha.kF hg)).trans (KeepsOthers.setCell _ _ _)
 .intro k hk
  have hk':R+1<=k/\k<R+4:=by simp at hk;omega
  have hsz:=hg.size;refine(hg2.block k ?_ ?_).trans ((hg.block k ?_ (fun e=>by have:=lm k e.symm;omega)).trans (Below.heap_alloc W tmp k ?_))
  .simp at hsz;omega
  .simp;omega
  .simp;omega
  .omega
theorem PW {W:World} {b c e sz k:Nat} {v:Value} {xs:List Value} (h:W.ownsRow b e sz v k xs) (hv:∀ g,v.ownBlock=some g->c<=g):W.ownsRow c e sz v k xs :=
 ⟨h.1,h.2.imp id fun ⟨g,cap,cur,e1,_,rest⟩=>⟨g,cap,cur,e1,hv g (by rw[e1];rfl),rest⟩⟩
theorem l7.put (h:l7 w N R n bM ds fs vf W) (n':Int) (qx qy:Value) (zP:Bool):l7 w N R n bM ds fs vf ((((W.setCell (Qb N 0) (Qa n')).setCell (Qb N 1) qx).setCell (Qb N 2) qy).setCell ⟨N+1,0,none⟩ (.bool zP)):=by
 obtain⟨_,_,_,_,hp⟩:=h.pb;have hlo:=h.lo;refine⟨⟨_,_,_,_,hp.put n' qx qy zP⟩,?_,gP (PU (PW h.rd fun g e=>by have:=h.dl g e;omega) _ _ _ _) (by omega),h.dl,PW (PU (PW h.kF fun g e=>by have:=qz h.kF e;omega) _ _ _ _) (fun g e=>qz h.kF e),by simpa using h.big,hlo⟩;rw[Below.heap_setCell _ _ _ _ (show R≠N+1 by omega),Below.heap_setCell _ _ _ _ (show R≠N by omega),Below.heap_setCell _ _ _ _ (show R≠N by omega),Below.heap_setCell _ _ _ _ (show R≠N by omega)];exact h.rb
end
theorem IZ (l sep:List UInt8):(Lib.cut l sep).1.length<=l.length/\(Lib.cut l sep).2.1.length<=l.length:=by
 unfold Lib.cut;split
 .simp only[List.length_take,List.length_drop];omega
 .exact⟨lRq _,Nat.zero_le _⟩
theorem aaj (l:List UInt8):(bn l).data.toList=l:=rfl
theorem PX (l:List UInt8):(bn l).size=l.length:=rfl
def Dw (C D:List UInt8×List UInt8×Bool):Option (Nat×List Nat×List (List UInt8)) :=
 if C.2.2=true then
  match gR 9 (bn C.1),o8 (bn D.1) with
  | some n,some ds=>if D.2.2=true then (iV (pieces 32 D.2.1)).map fun fs=>(n,ds,fs) else some (n,ds,[])
  | _,_=>none
 else none
theorem aak (s:ByteArray):vH s=Dw (Lib.cut s.data.toList [58]) (Lib.cut (Lib.cut s.data.toList [58]).2.1 [32]):=rfl
def PY (w:World) (R:Option (Nat×List Nat×List (List UInt8))) (e:Ending) (w':World):Prop :=
 ∃ n bM vf,e=.returned (.tuple #[.agg #[Qa n,bM,vf],.bool R.isSome])/\Below w.heap.size w w' /\
  (∀ m ds fs,R=some (m,ds,fs)->n=m/\w'.ownsRow w.heap.size 3 1 bM ds.length (kg ds)/\w'.ownsRow w.heap.size 9 1 vf fs.length (Dv fs))/\(∃ a k c,bM=.slice a k c)/\∃ a k c,vf=.slice a k c
theorem amV (s:ByteArray) (w:World) (hL:kI w) (hs:s.size<=1000000) :
  Calls Tryz.prog 42 #[.string s] w (PY w (vH s)):=by
 obtain⟨N,hN⟩:∃ N,w.heap.size=N:=⟨_,rfl⟩;have hB0:ko w ((w.alloc (.cells #[Qa 0,.slice none 0 0,.slice none 0 0] 86)).alloc (.cells #[.bool false] 4)) N 0 (.slice none 0 0) (.slice none 0 0) false:=by
  subst hN;refine⟨?_,?_,((bRq _ _).alloc (lRq _) _).alloc (by simp) _⟩
  .rw[Below.heap_alloc _ _ _ (by simp)];exact hNq _ _
  .have:=hNq (w.alloc (.cells #[Qa 0,.slice none 0 0,.slice none 0 0] 86)) (.cells #[.bool false] 4)
   rwa [World.size_alloc]at this
 obtain⟨o_,Dx⟩:∃ o_,(w.alloc (.cells #[Qa 0,.slice none 0 0,.slice none 0 0] 86)).alloc (.cells #[.bool false] 4)=o_:=⟨_,rfl⟩;have PZ:kI o_:=by rw[Dx]at hB0;exact hL.later (by show Below w.heap.size w o_;rw[hN];exact hB0.below)
 have hl1:=IZ s.data.toList [58];have hc1:=Z4 s 58 o_ PZ (by omega);rw[Dx]at hB0;rw[aak];generalize Lib.cut s.data.toList [58]=C1 at *;obtain⟨a1,a2,a3⟩:=C1;simp only[]at hl1 hc1 ⊢;have hs':s.data.toList.length<=1000000:=by rw[Array.length_toList];exact hs
 have hl2:=IZ a2 [32];have hc2:∀ W,kI W->Calls Tryz.prog 81 #[.string (bn a2),.string ⟨#[32]⟩] W fun e w'=>e=.returned (.tuple #[.string (bn (Lib.cut a2 [32]).1),.string (bn (Lib.cut a2 [32]).2.1),.bool (Lib.cut a2 [32]).2.2])/\Below W.heap.size W w' :=
  fun W hW=>Z4 (bn a2) 32 W hW (by rw[PX];omega)
 generalize Lib.cut a2 [32]=C2 at *;obtain⟨b1,b2,b3⟩:=C2;simp only[]at hl2 hc2 ⊢;have o9:∀ W,kI W->Calls Tryz.prog 82 #[.string (bn a1),Qa 9] W fun e w'=>e=.returned (.tuple #[Qa ((gR 9 (bn a1)).getD 0),.bool (gR 9 (bn a1)).isSome])/\Below W.heap.size W w' :=
  fun W hW=>Z5 9 (by omega) (bn a1) W hW.num
 have xR:∀ W,kI W->_:=fun W hW=>amW strings_Index_one (bn b1) W hW.num (by rw[PX];omega);have bD:=hDq hB0;have Bh:=hDq hc1;have Bi:=hDq hc2;have y9:=hDq o9;have aal:=hDq xR;have tu:=hDq PZ;clear hB0 hc1 hc2 o9 xR PZ;obtain⟨R,hR⟩:∃ R,Dw (a1,a2,a3) (b1,b2,b3)=R:=⟨_,rfl⟩;rw[hR];have HR:=hDq hR;clear hR;refine(callsIn_wide (n:=5)).1 ?_;refine callsIn_of_wp_marks Tryz.func42 rfl trivial ?_ rfl;simp only[Tryz.ntmps42,List.size_toArray,List.length_cons,List.length_nil,Nat.reduceAdd,Nat.reduceSub,Array.replicate_succ,Array.replicate_zero,List.push_toArray,List.append_toArray,List.nil_append,List.cons_append]
 gi_wp2
 refine⟨trivial,(callsIn_wide.2 Bh.out).mono ?_⟩;rintro e w1 ⟨rfl,hb1⟩;have HB1:=hDq (bD.out.later hb1);have jw:=hDq (tu.out.later hb1);clear hb1 bD tu Bh Dx;simp only[]
 gi_wp2
 refine⟨trivial,(callsIn_wide.2 (y9.out w1 jw.out)).mono ?_⟩;rintro e w2 ⟨rfl,hb2⟩;have HB2:=hDq (HB1.out.later hb2);have jd:=hDq (jw.out.later hb2);clear hb2 HB1 jw y9;simp only[]
 gi_wp2
 refine⟨trivial,(callsIn_wide.2 (Bi.out w2 jd.out)).mono ?_⟩;rintro e w3 ⟨rfl,hb3⟩;have au:=hDq (HB2.out.later hb3);have qN:=hDq (jd.out.later hb3);clear hb3 HB2 jd Bi;simp only[]
 gi_wp2
 refine⟨trivial,(callsIn_wide.2 (aal.out w3 qN.out)).mono ?_⟩;rintro e w4 ⟨bM,rfl,hb4,hrd⟩;have bJ:=hDq (au.out.later hb4);have oF:=hDq (qN.out.later hb4);have mS:=hDq (gP hrd (show N+2<=w3.heap.size by have:=au.out.lt;omega));clear hb4 au qN aal hrd;simp only[];obtain⟨n0,n1,n2,n3,z0,z3⟩:=bJ.out.cells;have HBAD:Hid (R=none->∀ W,ko w W N 0 (.slice none 0 0) (.slice none 0 0) false->PY w R (.returned (.tuple #[.agg #[Qa 0,.slice none 0 0,.slice none 0 0],.bool false])) W):=hDq fun e W hp=>by
  subst e;exact⟨0,_,_,rfl,by rw[hN];exact hp.below,fun m ds fs e=>(by cases e),⟨_,_,_,rfl⟩,_,_,_,rfl⟩
 by_cases hok:a3=true/\(gR 9 (bn a1)).isSome=true/\(o8 (bn b1)).isSome=true
 .obtain⟨rfl,h1,h2⟩:=hok
  obtain⟨n,hn⟩:=Option.isSome_iff_exists.1 h1;obtain⟨ds,I0⟩:=Option.isSome_iff_exists.1 h2;rw[hn,I0];rw[I0]at mS;simp only[Option.getD_some,Option.isSome_some]at mS ⊢;have bq:Hid (R=if b3=true then (iV (pieces 32 b2)).map fun fs=>(n,ds,fs) else some (n,ds,[])):=hDq (by rw[<- HR.out];unfold Dw;simp only[hn,I0];rfl);clear h1 h2 hn I0 HR HBAD;obtain⟨da,eY,iY⟩:=gi mS.out;subst iY;obtain⟨ju,zl⟩:∃ ju,w4.heap.size=ju:=⟨_,rfl⟩;have hlt:=bJ.out.lt;have hI:l7 w N ju n (.slice da ds.length eY) ds [] (.slice none 0 0) (mU (bn b2) ⟨#[32]⟩ (w4.alloc (.cells #[Qa n,.slice da ds.length eY,.slice none 0 0] 86))):=by
   have hg:=(World.grownBy_alloc w4 (.cells #[Qa n,.slice da ds.length eY,.slice none 0 0] 86) none).trans (P0 (bn b2) ⟨#[32]⟩ _);have hg2:=P0 (bn b2) ⟨#[32]⟩ (w4.alloc (.cells #[Qa n,.slice da ds.length eY,.slice none 0 0] 86));refine⟨⟨_,_,_,_,bJ.out.kept hg (fun r e=>by cases e)⟩,?_,gP (mS.out.kept hg (Classical.em _)) (by omega),?_,World.ownsRow_nil _ _ _ _,?_,by omega⟩
   .rw[<- zl];exact(hg2.block _ (by simp) (by simp)).trans (hNq w4 _)
   .intro g hgv
    have:=mS.out.lt g hgv
    omega
   .rw[I1];simp;omega
  have ck:=hDq (bJ.out.later ((bRq _ _).alloc (lRq _) (.cells #[Qa n,.slice da ds.length eY,.slice none 0 0] 86)));have bA:=hDq (mS.out.alloc (.cells #[Qa n,.slice da ds.length eY,.slice none 0 0] 86));have fG:=hNq w4 (.cells #[Qa n,.slice da ds.length eY,.slice none 0 0] 86);rw[zl]at fG;have hs5:(w4.alloc (.cells #[Qa n,.slice da ds.length eY,.slice none 0 0] 86)).heap.size=ju+1:=by simp[zl]
  clear n0 n1 n2 n3 z0 z3;obtain⟨n0,n1,n2,n3,z0,z3⟩:=ck.out.cells;have HI:=hDq hI;have apK:=hDq fG;have d_:=hDq hs5;clear hI fG hs5;cases b3 with
  | false =>
   have qJ:R=some (n,ds,[]):=bq.out;have xh:Hid (∀ W,ko w W N n (.slice da ds.length eY) (.slice none 0 0) true->W.ownsRow w.heap.size 3 1 (.slice da ds.length eY) ds.length (kg ds)->PY w R (.returned (.tuple #[.agg #[Qa n,.slice da ds.length eY,.slice none 0 0],.bool true])) W):=hDq fun W hp hd=>by
    subst qJ;exact⟨n,_,_,rfl,by rw[hN];exact hp.below,fun m ds' fs e=>(by cases e;exact⟨rfl,hd,World.ownsRow_nil _ _ _ _⟩),⟨_,_,_,rfl⟩,_,_,_,rfl⟩
   clear qJ
   gi_wp2
   generalize w4.alloc (.cells #[Qa n,.slice da ds.length eY,.slice none 0 0] 86)=aC at *;have HE:=hDq (ck.out.put n (.slice da ds.length eY) (.slice none 0 0) true);have qP:=hDq (PU bA.out (Qa n) (.slice da ds.length eY) (.slice none 0 0) (.bool true));generalize (((aC.setCell (Qb N 0) (Qa n)).setCell (Qb N 1) (.slice da ds.length eY)).setCell (Qb N 2) (.slice none 0 0)).setCell ⟨N+1,0,none⟩ (.bool true)=W5 at *;obtain⟨m0,m1,m2,m3,y0,y3⟩:=HE.out.cells;refine⟨.tuple #[.agg #[Qa n,.slice da ds.length eY,.slice none 0 0],.bool true],?_,xh.out _ HE.out (gP qP.out (by omega))⟩;simp[results,Tryz.f42,go_sem,m0,m1,m2,m3]
  | true =>
   gi_wp2
   refine⟨trivial,(callsIn_wide.2 (aam (bn b2) ⟨#[32]⟩ _)).mono ?_⟩;rintro e ai ⟨rfl,rfl⟩;simp only[];generalize w4.alloc (.cells #[Qa n,.slice da ds.length eY,.slice none 0 0] 86)=aC at *
   gi_wp2
   have hsz:=d_.out;have hW0:(mU (bn b2) ⟨#[32]⟩ aC).heap.size=ju+4:=by rw[I1,hsz]
   have Vg:((pieces 32 b2).map bn).length<=1000001:=by rw[List.length_map];have:=PV 32 b2;omega
   refine uY.Xu rfl (by omega) (gf:=197) (lb:=#[.pointer (some ⟨ju+2,0,none⟩),.pointer (some ⟨ju+1,0,none⟩),.pointer (some ⟨ju+3,0,none⟩)]) (by simp only[Dy,hsz];rfl) trivial (enters_of Tryz.func197 (by kernel_rfl) rfl)
    (aan strings_Index_one _ (by omega) (bn b2) 32 (by rw[PX];omega) (ju+1) (ju+2) (ju+3) (by omega) (by omega)) ?H (by omega) ?K (fun _=>rfl)
    (fun pre W=>∃ fs vf,qA pre fs/\l7 w N ju n (.slice da ds.length eY) ds fs vf W)
    (fun c _ W=>c=.ret/\iV (pieces 32 b2)=none/\∃ fs vf,l7 w N ju n (.slice da ds.length eY) ds fs vf W/\ko w W N 0 (.slice none 0 0) (.slice none 0 0) false)
    ?I ?Ix ⟨[],_,qA.nil,HI.out⟩ ?a1 ?assign ?body ?done ?stop
   case assign =>
    intro l x W K hK
    gi_wp2
    exact hK
   case H =>
    intro o o';have e1:=(((aao (bn b2) ⟨#[32]⟩ aC).alloc o).alloc o');have e2:=(((aap (bn b2) ⟨#[32]⟩ aC).alloc o).alloc o');have e3:=(((aaq (bn b2) ⟨#[32]⟩ aC).alloc o).alloc o');rw[hsz]at e1 e2 e3;exact⟨e1,e2,e3⟩
   case K=>intro k hk;simp at hk;omega
   case I =>
    rintro s' A B row ⟨fs,vf,hF,hi⟩ hg hr;exact⟨fs,vf,hF,hi.grown hg (fun r e=>by rw[hW0]at hr;exact hr r e)⟩
   case Ix =>
    rintro c s' A B row ⟨hc,hn,fs,vf,hi,hp⟩ hg hr;exact⟨hc,hn,fs,vf,hi.grown hg (fun r e=>by rw[hW0]at hr;exact hr r e),hp.kept hg (fun r e=>by have:=hi.lo;rw[hW0]at hr;rcases hr r e with h' | ⟨h',_⟩ <;> omega)⟩
   case body =>
    rintro l pre x W ⟨fs,vf,hF,hi⟩ ⟨qs,q_⟩;have hxs:(pieces 32 b2).map bn=pre++x::qs:=by rw[aaj]at q_;rw[<- q_];simp
    have hps:pieces 32 b2=pre.map (·.data.toList)++x.data.toList::qs.map (·.data.toList):=by
     have:=congrArg (List.map (fun y:ByteArray=>y.data.toList)) hxs
     rw[aah]at this;simpa using this
    have hx:x.size<=1000000:=by
     have:=aag 32 b2 x.data.toList (by rw[hps];simp)
     rw[Array.length_toList]at this;have h3:x.data.size=x.size:=rfl;omega
    have hfl:fs.length<=1000001:=by have:=congrArg List.length hxs;rw[lAq]at this;rw[hF.2];omega
    have hby:=amj x W hx;cases hu:unhex x.data.toList with
    | none =>
     have ye:iV (pieces 32 b2)=none:=by rw[hps];exact hF.bad hu _
     rw[hu]at hby
     gi_wp2_with (first | (refine⟨trivial,?_⟩;gi_at_call 85;refine(CallsIn.inRound l (callsIn_wide.2 hby)).mono ?_;rintro e br ⟨rfl,hb⟩;have xS:=hi.later hb;obtain⟨n',qx,qy,ok,aar⟩:=xS.pb;obtain⟨m0,m1,m2,m3,y0,y3⟩:=aar.cells) | (refine⟨trivial,?_⟩))
     exact⟨(zQ hb).trans (aaf _ _ _ _ _ _),rfl,ye,fs,vf,xS.put _ _ _ _,aar.put _ _ _ _⟩
    | some y =>
     rw[hu]at hby;obtain⟨i9,hi9,hz0,hz1,hz2⟩:=XU
     gi_wp2_with (first | (refine⟨trivial,?_⟩;gi_at_call 85;refine(CallsIn.inRound l (callsIn_wide.2 hby)).mono ?_;rintro e br ⟨rfl,hb⟩;have xS:=hi.later hb;have d2:br.cell? (Qb ju 2)=some vf:=(by rw[cR br _ 2 _ _ _ xS.rb];rfl)) | (gi_at_builtin;refine wpListIn_append_own _ rfl _ _ 70 rfl (ju+4) 9 i9 (.string ⟨#[]⟩) 1 16 Tryz.underlying70 hi9 hz0 hz1 hz2 rfl (by decide) _ _ _ rfl (xS.kF.alloc _) (Qb _ 0) 1 1 [.string (bn y)] rfl rfl (cell_one_new _ _ _) (by simp[Value.oneCell']) (by simp[maxLen];omega) (by omega) (by have:=xS.big;simp;omega) ?_;intro v' cn hown' hgrow _;obtain⟨g',cap',rfl⟩:=ownsRow_succ hown';obtain⟨k2,amX,amY,amZ⟩:=xS.pushed hgrow hown';have f2:cn.cell? (Qb ju 2)=some vf:=(by rw[cR cn _ 2 _ _ _ k2];rfl);have f3:cn.frozen? (Qb ju 2)=false:=(by simp[World.frozen?,k2])) | (refine⟨trivial,?_⟩))
     exact⟨(zQ hb).trans amY,uY.At.trans (fun k hk=>hb.block k (by have:=hi.big;simp at hk;omega)) amZ,_,_,hF.step hu,amX⟩
   case done =>
    rintro W ⟨fs,vf,hF,hi⟩ hD;obtain⟨n',qx,qy,ok,hp⟩:=hi.pb;obtain⟨m0,m1,m2,m3,y0,y3⟩:=hp.cells;have d0:W.cell? (Qb ju 0)=some (Qa n):=by rw[cR W _ 0 _ _ _ hi.rb];rfl
    have d1:W.cell? (Qb ju 1)=some (.slice da ds.length eY):=by rw[cR W _ 1 _ _ _ hi.rb];rfl
    obtain⟨fa,fc,rfl⟩:=gi hi.kF;have d2:W.cell? (Qb ju 2)=some (.slice fa fs.length fc):=by rw[cR W _ 2 _ _ _ hi.rb];rfl
    have hall:iV (pieces 32 b2)=some fs:=by have:=hF.all;rwa [aaj,aah]at this
    have qJ:R=some (n,ds,fs):=by rw[bq.out,if_pos (by trivial),hall];rfl
    have HR1:=hDq qJ;clear qJ hall
    gi_wp2
    have hi2:=hi.put n (.slice da ds.length eY) (.slice fa fs.length fc) true;have hp2:=hp.put n (.slice da ds.length eY) (.slice fa fs.length fc) true;have Dz:=(aaf W N (Qa n) (.slice da ds.length eY) (.slice fa fs.length fc) (.bool true)).same _ _ hD rfl;generalize (((W.setCell (Qb N 0) (Qa n)).setCell (Qb N 1) (.slice da ds.length eY)).setCell (Qb N 2) (.slice fa fs.length fc)).setCell ⟨N+1,0,none⟩ (.bool true)=W2 at *;have bQ:=hi2.grown (grownBy_putObj' _ _ (.deferred none)) (fun r e=>by cases e;exact .inr ⟨by omega,_,Dz,rfl⟩);have pZ:=hp2.kept (grownBy_putObj' _ (mU (bn b2) ⟨#[32]⟩ aC).heap.size (.deferred none)) (fun r e=>by cases e;rw[hW0];have:=hi.lo;omega);obtain⟨g0,g1,g2,g3,_,_⟩:=pZ.cells;refine⟨by simp,.inl ⟨_,_,rfl,run_takeDeferred Dz,.tuple #[.agg #[Qa n,.slice da ds.length eY,.slice fa fs.length fc],.bool true],?_,n,_,_,by rw[HR1.out];rfl,by rw[hN];exact pZ.below,fun m ds' fs' e=>?_,⟨_,_,_,rfl⟩,_,_,_,rfl⟩⟩
    .simp[results,Tryz.f42,go_sem,g0,g1,g2,g3]
    .have e':=HR1.out.symm.trans e
     cases e';exact⟨rfl,by rw[hN];exact bQ.rd,gP bQ.kF (by have:=hi.lo;omega)⟩
   case stop =>
    rintro c pre W _ ⟨rfl,hn,fs,vf,hi,hp⟩ hD;have qJ:R=none:=by rw[bq.out,if_pos (by trivial),hn];rfl
    have HR1:=hDq qJ;clear qJ
    gi_wp2
    have pZ:=hp.kept (grownBy_putObj' _ (mU (bn b2) ⟨#[32]⟩ aC).heap.size (.deferred none)) (fun r e=>by cases e;rw[hW0];have:=hi.lo;omega);obtain⟨g0,g1,g2,g3,_,_⟩:=pZ.cells;refine⟨by simp,.inl ⟨_,_,rfl,run_takeDeferred hD,.tuple #[.agg #[Qa 0,.slice none 0 0,.slice none 0 0],.bool false],?_,0,_,_,by rw[HR1.out];rfl,by rw[hN];exact pZ.below,fun m ds' fs' e=>?_,⟨_,_,_,rfl⟩,_,_,_,rfl⟩⟩
    .simp[results,Tryz.f42,go_sem,g0,g1,g2,g3]
    .have e':=HR1.out.symm.trans e
     cases e'
 .have aas:R=none:=by
   rw[<- HR.out];unfold Dw;simp only[];split
   .rename_i h3
    cases h1:gR 9 (bn a1) with
    | none=>rfl
    | some n =>
     cases h2:o8 (bn b1) with
     | none=>rfl
     | some ds=>exact absurd ⟨h3,by rw[h1];rfl,by rw[h2];rfl⟩ hok
   .rfl
  have HE:=hDq (bJ.out.put 0 (.slice none 0 0) (.slice none 0 0) false);generalize (gR 9 (bn a1)).isSome=k1 at *;generalize (o8 (bn b1)).isSome=k2 at *;have HX:=hDq (HBAD.out aas);clear HBAD aas;cases a3 with
  | false =>
   gi_wp2
   generalize (((w4.setCell (Qb N 0) (Qa 0)).setCell (Qb N 1) (.slice none 0 0)).setCell (Qb N 2) (.slice none 0 0)).setCell ⟨N+1,0,none⟩ (.bool false)=W5 at *;obtain⟨m0,m1,m2,m3,y0,y3⟩:=HE.out.cells;refine⟨.tuple #[.agg #[Qa 0,.slice none 0 0,.slice none 0 0],.bool false],?_,HX.out _ HE.out⟩;simp[results,Tryz.f42,go_sem,m0,m1,m2,m3]
  | true =>
   cases k1 with
   | false =>
    gi_wp2
    generalize (((w4.setCell (Qb N 0) (Qa 0)).setCell (Qb N 1) (.slice none 0 0)).setCell (Qb N 2) (.slice none 0 0)).setCell ⟨N+1,0,none⟩ (.bool false)=W5 at *;obtain⟨m0,m1,m2,m3,y0,y3⟩:=HE.out.cells;refine⟨.tuple #[.agg #[Qa 0,.slice none 0 0,.slice none 0 0],.bool false],?_,HX.out _ HE.out⟩;simp[results,Tryz.f42,go_sem,m0,m1,m2,m3]
   | true =>
    cases k2 with
    | true=>exact absurd ⟨rfl,rfl,rfl⟩ hok
    | false =>
     gi_wp2
     generalize (((w4.setCell (Qb N 0) (Qa 0)).setCell (Qb N 1) (.slice none 0 0)).setCell (Qb N 2) (.slice none 0 0)).setCell ⟨N+1,0,none⟩ (.bool false)=W5 at *;obtain⟨m0,m1,m2,m3,y0,y3⟩:=HE.out.cells;refine⟨.tuple #[.agg #[Qa 0,.slice none 0 0,.slice none 0 0],.bool false],?_,HX.out _ HE.out⟩;simp[results,Tryz.f42,go_sem,m0,m1,m2,m3]
def tG (s:ByteArray):Nat:=match vH s with
 | none=>1
 | some (_,_,fs)=>jN (fs.map bn)
def P2 (w:World) (ad:Nat->Addr) (s:ByteArray) (e:Ending) (w':World):Prop :=
 ∃ n bM va,e=.returned (.tuple #[Qa n,bM,va,gy ad (tG s)])/\Qd w w' /\
  (∀ m ds fs,vH s=some (m,ds,fs)->tG s=0->n=m/\w'.ownsRow w.heap.size 3 1 bM ds.length (kg ds)/\w'.ownsRow w.heap.size 95 8 va (fs.map bn).length (bm ((fs.map bn).map af.cA)))/\(tG s≠0->n=0/\bM=.slice none 0 0/\va=.slice none 0 0)
theorem aat:∀ (l r:List (List UInt8)),iV l=some r->r.length=l.length
 | [],r,h=>by simp[iV]at h;simp[h]
 | p::l,r,h=>by
  unfold iV at h;split at h
  .cases h
  .obtain⟨q,hq,rfl⟩:=Option.map_eq_some_iff.1 h
   simp[aat l q hq]
theorem am0 {s:ByteArray} {m:Nat} {ds:List Nat} {fs:List (List UInt8)} (h:vH s=some (m,ds,fs)):fs.length<=s.size+1:=by
 rw[aak]at h;have h1:=(IZ s.data.toList [58]).2;have h2:=(IZ (Lib.cut s.data.toList [58]).2.1 [32]).2;have h3:=PV 32 (Lib.cut (Lib.cut s.data.toList [58]).2.1 [32]).2.1;have h4:s.data.toList.length=s.size:=Array.length_toList;unfold Dw at h;split at h
 .split at h
  .split at h
   .obtain⟨q,hq,e⟩:=Option.map_eq_some_iff.1 h
    cases e
    have:=aat _ _ hq
    omega
   .cases h;simp
  .cases h
 .cases h
theorem amO {ad:Nat->Addr} (s:ByteArray) (w:World) (hL:kI w) (hS:bO w ad) (hs:s.size<=99999) :
  Calls Tryz.prog 9 #[.string s] w (P2 w ad s):=by
 have hp:=amV s w hL (by omega);have HL:=hDq hL;have HS:=hDq hS;clear hL hS;cases hR:vH s with
 | none =>
  have hA:∀ W,Qd w W->P2 w ad s (.returned (.tuple #[Qa 0,.slice none 0 0,.slice none 0 0,.iface 412 (.pointer (some (ad 0)))])) W:=fun W hb=>by
   have hC:tG s=1:=by unfold tG;rw[hR]
   exact⟨0,_,_,by rw[hC];rfl,hb,fun m ds fs e=>(by rw[hR]at e;cases e),fun _=>⟨rfl,rfl,rfl⟩⟩
  have HA:=hDq hA;clear hA;rw[hR]at hp;have HP:=hDq hp;clear hp hR;go_enter Tryz.func9,Tryz.ntmps9
  go_wp2_with fail
  refine HP.out.mono ?_;rintro e w1 ⟨n,bM,vf,rfl,hb1,_,⟨a,k,c,rfl⟩,a',k',c',rfl⟩;have c0:w1.cell? (Qb 0 0)=some (.iface 412 (.pointer (some (ad 0)))):=(HS.out.later hb1).cell 0 (by decide);have qh:(w1.alloc (.cells #[Qa n,.slice a k c,.slice a' k' c'] 86)).cell? (Qb 0 0)=some (.iface 412 (.pointer (some (ad 0)))):=by
   rw[((bRq _ w1).alloc (lRq _) _).cell (bCq _ _ c0)];exact c0
  have HB2:=hDq (hb1.alloc hb1.size (.cells #[Qa n,.slice a k c,.slice a' k' c'] 86));clear hb1 c0;simp only[Option.isSome_none];go_wp2;generalize w1.alloc (.cells #[Qa n,.slice a k c,.slice a' k' c'] 86)=w2 at *
  go_quiet (fail)
  go_wp2;refine bodyPost_ret (v:=.tuple #[Qa 0,.slice none 0 0,.slice none 0 0,.iface 412 (.pointer (some (ad 0)))]) (by simp[results,Tryz.results9,go_sem]) rfl ?_;exact HA.out _ (HB2.out.trans ((below_drewN _).mono HB2.out.size))
 | some r =>
  obtain⟨m,ds,fs⟩:=r;rw[hR]at hp;have HP:=hDq hp;have HA:Hid (∀ n bM va W,Qd w W->(jN (fs.map bn)=0->n=(m:Int)/\W.ownsRow w.heap.size 3 1 bM ds.length (kg ds)/\W.ownsRow w.heap.size 95 8 va (fs.map bn).length (bm ((fs.map bn).map af.cA)))->(jN (fs.map bn)≠0->n=0/\bM=.slice none 0 0/\va=.slice none 0 0) ->
    P2 w ad s (.returned (.tuple #[Qa n,bM,va,gy ad (jN (fs.map bn))])) W):=hDq fun n bM va W hb h1 h2=>by
   have hC:tG s=jN (fs.map bn):=by unfold tG;rw[hR]
   exact⟨n,bM,va,by rw[hC],hb,fun m' ds' fs' e e0=>(by rw[hR]at e;cases e;exact h1 (hC▸e0)),fun e0=>h2 (hC▸e0)⟩
  have hfl:fs.length<=100000:=by have:=am0 hR;omega
  clear hp hR;go_enter Tryz.func9,Tryz.ntmps9
  go_wp2_with fail
  refine HP.out.mono ?_;rintro e w1 ⟨n,bM,vf,rfl,hb1,hrows,⟨a,k,c,rfl⟩,a',k',c',rfl⟩;obtain⟨rfl,hrd,aau⟩:=hrows m ds fs rfl;have HB2:=hDq (hb1.alloc hb1.size (.cells #[Qa m,.slice a k c,.slice a' k' c'] 86));have mS:=hDq (hrd.alloc (.cells #[Qa m,.slice a k c,.slice a' k' c'] 86));have aav:=aau.alloc (.cells #[Qa m,.slice a k c,.slice a' k' c'] 86);have hrb:=hNq w1 (.cells #[Qa m,.slice a k c,.slice a' k' c'] 86);have hsz:(w1.alloc (.cells #[Qa m,.slice a k c,.slice a' k' c'] 86)).heap.size=w1.heap.size+1:=by simp
  have aaw:=hDq (amz (fs.map bn) (.slice a' k' c') w.heap.size fs.length (w1.alloc (.cells #[Qa m,.slice a k c,.slice a' k' c'] 86)) (ad:=ad) (hDq (HS.out.later HB2.out)) (hDq (List.length_map _)) (hDq (by
   have:=aav;unfold Dv at this;rw[List.map_map];exact this)) hfl)
  have zt:=hDq hrb;have oC:=hDq hsz;clear hb1 hrows hrd aau aav hrb hsz HP;simp only[Option.isSome_some]
  go_wp2_with fail
  generalize w1.alloc (.cells #[Qa m,.slice a k c,.slice a' k' c'] 86)=w2 at *;generalize jN (fs.map bn)=D at *;refine aaw.out.mono ?_;rintro e w3 ⟨va,rfl,hb3,h1,h2⟩;have au:=hDq (HB2.out.trans (hb3.mono HB2.out.size));have am1:=hDq (cO mS.out hb3);have P4:w3.heap[w1.heap.size]?=some (.cells #[Qa m,.slice a k c,.slice a' k' c'] 86 (0,0)):=by rw[hb3.block _ (by rw[oC.out];omega)];exact zt.out
  have q0:w3.cell? (Qb w1.heap.size 0)=some (Qa m):=by rw[cR w3 _ 0 _ _ _ P4];rfl
  have q1:w3.cell? (Qb w1.heap.size 1)=some (.slice a k c):=by rw[cR w3 _ 1 _ _ _ P4];rfl
  have HR3:=hDq h1;have mI:=hDq h2;clear hb3 P4 h1 h2 aaw;by_cases hD:D=0
  .subst hD
   rw[show gy ad 0=.nilIface from rfl]at HA ⊢;simp only[];go_wp2
   go_quiet (fail)
   go_wp2;refine bodyPost_ret (v:=.tuple #[Qa m,.slice a k c,va,.nilIface]) (by simp[results,Tryz.results9,go_sem]) rfl ?_;have hbd:=below_drewN (w:=w3) nq;exact HA.out m (.slice a k c) va _ (au.out.trans (hbd.mono au.out.size)) (fun _=>⟨rfl,cO am1.out hbd,cO (gP (HR3.out trivial) HB2.out.size) hbd⟩) (fun e=>absurd rfl e)
  .have HF:=hDq (HA.out 0 (.slice none 0 0) (.slice none 0 0) w3 au.out (fun e=>absurd e hD) (fun _=>⟨rfl,rfl,rfl⟩))
   rw[vX ad hD]at HF ⊢;simp only[];go_wp2;exact bodyPost_ret (v:=.tuple #[Qa 0,.slice none 0 0,.slice none 0 0,.iface 412 (.pointer (some (ad (D-1))))]) (by simp[results,Tryz.results9,go_sem]) rfl HF.out
end Go.Proofs.YtjolccidheflpaaGreatDoor
