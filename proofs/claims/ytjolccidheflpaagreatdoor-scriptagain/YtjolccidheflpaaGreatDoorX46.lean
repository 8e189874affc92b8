/- recover.partsOf, by its contract. -/
import Derived.Test.YtjolccidheflpaaGreatDoorX42
import Derived.Test.YtjolccidheflpaaGreatDoorX43
import Derived.Test.YtjolccidheflpaaGreatDoorX45
namespace Go.Proofs.YtjolccidheflpaaGreatDoor
open Go.Proofs.Tryz
set_option maxHeartbeats 8000000
set_option maxRecDepth 100000
section
open Go.RowKit Go.Shelf
attribute [local go_sem] Oper.semAt_some
set_option maxRecDepth 100000
structure ln (w W:World) (N:Nat) (n:Int) (bY vf:Value) (ok:Bool):Prop where
 r0:W.heap[N]?=some (.cells #[Z n,bY,vf] 86 (0,0))
 r1:W.heap[N+1]?=some (.cells #[.bool ok] 4 (0,0))
 below:Below N w W
theorem ln.lt{w W:World}{N:Nat}{n:Int}{bY vf:Value}{ok:Bool}(h:ln w W N n bY vf ok):N+1<W.heap.size:=lBq h.r1
theorem ln.later{w W V:World}{N:Nat}{n:Int}{bY vf:Value}{ok:Bool}(h:ln w W N n bY vf ok)(hb:Below W.heap.size W V):ln w V N n bY vf ok :=
 ⟨(hb.block _ (lBq h.r0)).trans h.r0,(hb.block _ (lBq h.r1)).trans h.r1,h.below.trans (hb.mono (by have:=h.lt;omega))⟩
theorem ln.put{w W:World}{N:Nat}{n:Int}{bY vf:Value}{ok:Bool}(h:ln w W N n bY vf ok)(n':Int)(rD rE:Value)(Bl:Bool):
  ln w ((((W.setCell (O N 0) (Z n')).setCell (O N 1) rD).setCell (O N 2) rE).setCell ⟨N+1,0,none⟩ (.bool Bl)) N n' rD rE Bl:=by
 refine⟨?_,?_,(((h.below.setCell (p:=(O N 0)) (E _) _).setCell (p:=(O N 1)) (E _) _).setCell (p:=(O N 2)) (E _) _).setCell (p:=⟨N+1,0,none⟩) (Nat.le_succ _) _⟩
 .rw[Below.heap_setCell _ _ _ _ (show N≠N+1 by omega)]
  exact heap_setCell_same _ N 2 _ _ _ (heap_setCell_same _ N 1 _ _ _ (heap_setCell_same _ N 0 _ _ _ h.r0))
 .exact heap_setCell_same _ (N+1) 0 #[.bool ok] 4 (.bool Bl) (by
   rw[Below.heap_setCell _ _ _ _ (show N+1≠N by omega),Below.heap_setCell _ _ _ _ (show N+1≠N by omega),Below.heap_setCell _ _ _ _ (show N+1≠N by omega)];exact h.r1)
theorem acC(W:World)(N:Nat)(a b c d:Value):KeepsOthers W ((((W.setCell (O N 0) a).setCell (O N 1) b).setCell (O N 2) c).setCell ⟨N+1,0,none⟩ d) :=
 (((KeepsOthers.setCell _ _ _).trans (KeepsOthers.setCell _ _ _)).trans (KeepsOthers.setCell _ _ _)).trans (KeepsOthers.setCell _ _ _)
theorem Rk{W:World}{N:Nat}{e:TypeId}{sz k:Nat}{v:Value}{xs:List Value}(h:W.ownsRow (N+2) e sz v k xs)(a b c d:Value):((((W.setCell (O N 0) a).setCell (O N 1) b).setCell (O N 2) c).setCell ⟨N+1,0,none⟩ d).ownsRow (N+2) e sz v k xs:=by
 have ne:∀p,p<N+2->v.ownBlock=none\/v.ownBlock≠some p:=fun p hp=>by
  cases hv:v.ownBlock with
  | none=>exact .inl rfl
  | some g=>exact .inr fun e=>by cases e;have:=rF h hv;omega
 exact(((h.kept (Lib.grownBy_setCell _ _ _ _) (ne N (by omega))).kept (Lib.grownBy_setCell _ _ _ _) (ne N (by omega))).kept (Lib.grownBy_setCell _ _ _ _) (ne N (by omega))).kept (Lib.grownBy_setCell _ _ _ _) (ne (N+1) (by omega))
theorem ln.cells{w W:World}{N:Nat}{n:Int}{bY vf:Value}{ok:Bool}(h:ln w W N n bY vf ok):W.cell? (O N 0)=some (Z n)/\W.cell? (O N 1)=some bY/\W.cell? (O N 2)=some vf/\W.cell? ⟨N+1,0,none⟩=some (.bool ok)/\(∀j,W.frozen? (O N j)=false)/\W.frozen? ⟨N+1,0,none⟩=false :=
 ⟨by rw[cR W _ 0 _ _ _ h.r0];rfl,by rw[cR W _ 1 _ _ _ h.r0];rfl,by rw[cR W _ 2 _ _ _ h.r0];rfl,by rw[cR W _ 0 _ _ _ h.r1];rfl,fun j=>by simp[World.frozen?,h.r0],by simp[World.frozen?,h.r1]⟩
theorem ln.kept{w W V:World}{N:Nat}{n:Int}{bY vf:Value}{ok:Bool}{row:Option Nat}(h:ln w W N n bY vf ok)(hg:W.grownBy V row)(hr:∀r,row=some r->N+1<r):ln w V N n bY vf ok :=
 ⟨(hg.block _ (lBq h.r0) (fun e=>by have:=hr _ e.symm;omega)).trans h.r0,(hg.block _ (lBq h.r1) (fun e=>by have:=hr _ e.symm;omega)).trans h.r1,h.below.grown hg (by have:=h.lt;omega) (fun k e=>by have:=hr k e;omega)⟩
def rG(pre:List ByteArray)(fs:List (List UInt8)):Prop:=(∀qs,jI (pre.map (·.data.toList)++qs)=(jI qs).map (fs++·))/\fs.length=pre.length
theorem rG.nil:rG [] []:=⟨fun qs=>by cases h:jI qs <;> simp[h],rfl⟩
theorem rG.step{pre:List ByteArray}{fs:List (List UInt8)}(h:rG pre fs){p:ByteArray}{x:List UInt8}(hp:unhex p.data.toList=some x):rG (pre++[p]) (fs++[x]):=by refine⟨fun qs=>?_,by rw[lAq,lAq,h.2];rfl⟩;rw[List.map_append,aAq,h.1];simp only[List.map_cons,List.map_nil,List.singleton_append,jI,hp];cases jI qs <;> simp
theorem rG.bad{pre:List ByteArray}{fs:List (List UInt8)}(h:rG pre fs){p:ByteArray}(hp:unhex p.data.toList=none)(qs:List (List UInt8)):jI (pre.map (·.data.toList)++p.data.toList::qs)=none:=by rw[h.1];simp only[jI,hp];rfl
theorem rG.all{pre:List ByteArray}{fs:List (List UInt8)}(h:rG pre fs):jI (pre.map (·.data.toList))=some fs:=by have:=h.1 [];simpa [jI] using this
theorem Rl(c:UInt8):∀l:List UInt8,(pieces c l).length<=l.length+1
 | []=>E _
 | x::l=>by
  have:=Rl c l
  unfold pieces;split
  .simp;omega
  .simp;omega
theorem acD(c:UInt8):∀(l:List UInt8) (p:List UInt8),p∈pieces c l->p.length<=l.length
 | [],p,h=>by simp[pieces]at h;simp[h]
 | x::l,p,h=>by
  have ih:=acD c l;unfold pieces at h;split at h
  .rcases List.mem_cons.1 h with rfl | h1
   .exact Nat.zero_le _
   .have:=ih p h1;simp;omega
  .have hne:pieces c l≠[]:=by cases l with
    | nil=>simp[pieces]
    | cons y l=>unfold pieces;split <;> simp
   obtain⟨q,r,hq⟩:=List.exists_cons_of_ne_nil hne;rw[hq]at h ih;simp only[List.headD_cons,List.tail_cons]at h;rcases List.mem_cons.1 h with rfl | h1
   .have:=ih q mSq;simp;omega
   .have:=ih p (mOq _ h1);simp;omega
theorem acE(l:List (List UInt8)):(l.map aZ).map (·.data.toList)=l:=by rw[List.map_map];exact List.map_id l
def zk(fs:List (List UInt8)):List Value:=fs.map fun f=>Value.string (aZ f)
structure ng (w:World) (N R:Nat) (n:Int) (bY:Value) (ds:List Nat) (fs:List (List UInt8)) (vf:Value) (W:World):Prop where
 pb:∃n' rD rE ok,ln w W N n' rD rE ok
 rb:W.heap[R]?=some (.cells #[Z n,bY,vf] 86 (0,0))
 rd:W.ownsRow N 3 1 bY ds.length (lg ds)
 dl:∀g,bY.ownBlock=some g->N+1<g/\g<R
 lC:W.ownsRow (R+4) 9 1 vf fs.length (zk fs)
 big:R+4<=W.heap.size
 lo:N+1<R
section
variable {w W V:World} {N R:Nat} {n:Int} {bY vf:Value} {ds:List Nat} {fs:List (List UInt8)}
theorem ng.grown{row:Option Nat}(h:ng w N R n bY ds fs vf W)(hg:W.grownBy V row)(hr:∀r,row=some r->r=R+1\/(R+4<=r/\∃o:Obj,W.heap[r]?=some o/\o.isCells=false)):ng w N R n bY ds fs vf V:=by
 have hlo:=h.lo;obtain⟨n',rD,rE,ok,hp⟩:=h.pb;have hle:∀r,row=some r->R<r:=fun r e=>by rcases hr r e with h' | ⟨h',_⟩ <;> omega
 refine⟨⟨_,_,_,_,hp.kept hg (fun r e=>by have:=hle r e;omega)⟩,(hg.block _ (lBq h.rb) (fun e=>by have:=hle _ e.symm;omega)).trans h.rb,h.rd.kept hg ?_,h.dl,h.lC.kept hg ?_,lTq h.big hg.size,hlo⟩
 .cases hv:bY.ownBlock with
  | none=>exact .inl rfl
  | some g=>exact .inr fun e=>by have:=h.dl g hv;have:=hle g e.symm;omega
 .cases hv:vf.ownBlock with
  | none=>exact .inl rfl
  | some g =>
   refine .inr fun e=>?_;have mf:=rF h.lC hv;rcases hr g e.symm with h' | ⟨_,o,ho,hc⟩
   .omega
   .rcases h.lC.2 with ⟨rfl,_⟩ | ⟨g',cap,cur,rfl,_,hgb,_⟩
    .simp[Value.ownBlock]at hv
    .obtain rfl:g'=g:=by simpa [Value.ownBlock] using hv
     rw[hgb]at ho;cases ho;cases hc
theorem ng.later(h:ng w N R n bY ds fs vf W)(hb:Below W.heap.size W V):ng w N R n bY ds fs vf V :=
 h.grown (row:=none) ⟨hb.os,hb.tape,hb.output,hb.size,fun i hi _=>hb.block i hi⟩ (fun r e=>by cases e)
theorem ng.pushed{w1:World}{x:List UInt8}{v':Value}{tmp:Obj}(h:ng w N R n bY ds fs vf W)(hg:(W.alloc tmp).grownBy w1 vf.ownBlock)(hr:w1.ownsRow (R+4) 9 1 v' (fs.length+1) (zk fs++[.string (aZ x)])):
  w1.heap[R]?=some (.cells #[Z n,bY,vf] 86 (0,0))/\ng w N R n bY ds (fs++[x]) v' (w1.setCell (O R 2) v')/\KeepsOthers W (w1.setCell (O R 2) v')/\wB.At [R+1,R+2,R+3] W (w1.setCell (O R 2) v'):=by
 have ha:=h.grown (World.grownBy_alloc W tmp none) (fun r e=>by cases e);have hlo:=h.lo;have Jx:=h.big;have mf:∀k,vf.ownBlock=some k->R+4<=k:=fun k e=>rF h.lC e;have arO:∀k,v'.ownBlock=some k->R+4<=k:=fun k e=>rF hr e;obtain⟨n',rD,rE,ok,hp⟩:=ha.pb;have hrb:=(hg.block _ (lBq ha.rb) (fun e=>by have:=mf _ e.symm;omega)).trans ha.rb;have hg2:w1.grownBy (w1.setCell (O R 2) v') (some R):=⟨rfl,rfl,rfl,by simp[World.setCell],fun k _ hk=>Below.heap_setCell _ _ _ _ (fun e=>hk (by simp[e]))⟩;refine⟨hrb,⟨⟨_,_,_,_,(hp.kept hg (fun r e=>by have:=mf r e;omega)).kept hg2 (fun r e=>by cases e;omega)⟩,heap_setCell_same w1 R 2 _ _ _ hrb,?_,h.dl,?_,?_,hlo⟩,?_,?_⟩
 .refine(ha.rd.kept hg ?_).kept hg2 ?_
  .cases hv:bY.ownBlock with
   | none=>exact .inl rfl
   | some g=>exact .inr fun e=>by have:=h.dl g hv;have:=mf g e.symm;omega
  .cases hv:bY.ownBlock with
   | none=>exact .inl rfl
   | some g=>exact .inr fun e=>by cases e;have:=h.dl _ hv;omega
 .have:=hr.kept hg2 (by
   cases hv:v'.ownBlock with
   | none=>exact .inl rfl
   | some g=>exact .inr fun e=>by cases e;have:=arO _ hv;omega)
  simpa [zk] using this
 .have:=hg.size;simp at this ⊢;omega
 .exact((KeepsOthers.alloc W tmp).trans (acF ha.lC hg)).trans (KeepsOthers.setCell _ _ _)
 .intro k hk
  have hk':R+1<=k/\k<R+4:=by simp at hk;omega
  have hsz:=hg.size;refine(hg2.block k ?_ ?_).trans ((hg.block k ?_ (fun e=>by have:=mf k e.symm;omega)).trans (Below.heap_alloc W tmp k ?_))
  .simp at hsz;omega
  .simp;omega
  .simp;omega
  .omega
theorem Rm{W:World}{b c e sz k:Nat}{v:Value}{xs:List Value}(h:W.ownsRow b e sz v k xs)(hv:∀g,v.ownBlock=some g->c<=g):W.ownsRow c e sz v k xs :=
 ⟨h.1,h.2.imp id fun ⟨g,cap,cur,e1,_,rest⟩=>⟨g,cap,cur,e1,hv g (by rw[e1];rfl),rest⟩⟩
theorem ng.put(h:ng w N R n bY ds fs vf W)(n':Int)(rD rE:Value)(Bl:Bool):ng w N R n bY ds fs vf ((((W.setCell (O N 0) (Z n')).setCell (O N 1) rD).setCell (O N 2) rE).setCell ⟨N+1,0,none⟩ (.bool Bl)):=by obtain⟨_,_,_,_,hp⟩:=h.pb;have hlo:=h.lo;refine⟨⟨_,_,_,_,hp.put n' rD rE Bl⟩,?_,ij (Rk (Rm h.rd fun g e=>by have:=h.dl g e;omega) _ _ _ _) (by omega),h.dl,Rm (Rk (Rm h.lC fun g e=>by have:=rF h.lC e;omega) _ _ _ _) (fun g e=>rF h.lC e),by simpa using h.big,hlo⟩;rw[Below.heap_setCell _ _ _ _ (show R≠N+1 by omega),Below.heap_setCell _ _ _ _ (show R≠N by omega),Below.heap_setCell _ _ _ _ (show R≠N by omega),Below.heap_setCell _ _ _ _ (show R≠N by omega)];exact h.rb
end
theorem Jz(l sep:List UInt8):(Lib.cut l sep).1.length<=l.length/\(Lib.cut l sep).2.1.length<=l.length:=by
 unfold Lib.cut;split
 .simp only[List.length_take,List.length_drop];omega
 .exact⟨E _,Nat.zero_le _⟩
theorem acG(l:List UInt8):(aZ l).data.toList=l:=rfl
theorem E3(l:List UInt8):(aZ l).size=l.length:=rfl
def E4(C D:List UInt8×List UInt8×Bool):Option (Nat×List Nat×List (List UInt8)) :=
 if C.2.2=true then
  match gK 9 (aZ C.1),qc (aZ D.1) with
  | some n,some ds=>if D.2.2=true then (jI (pieces 32 D.2.1)).map fun fs=>(n,ds,fs) else some (n,ds,[])
  | _,_=>none
 else none
theorem acH(s:ByteArray):xd s=E4 (Lib.cut s.data.toList [58]) (Lib.cut (Lib.cut s.data.toList [58]).2.1 [32]):=rfl
def Rn(w:World)(R:Option (Nat×List Nat×List (List UInt8)))(e:Ending)(w':World):Prop :=
 ∃n bY vf,e=.returned (.tuple #[.agg #[Z n,bY,vf],.bool R.isSome])/\Below w.heap.size w w' /\
  (∀m ds fs,R=some (m,ds,fs)->n=m/\w'.ownsRow w.heap.size 3 1 bY ds.length (lg ds)/\w'.ownsRow w.heap.size 9 1 vf fs.length (zk fs))/\(∃a k c,bY=.slice a k c)/\∃a k c,vf=.slice a k c
theorem arP(s:ByteArray)(w:World)(hL:ik w)(hs:s.size<=1000000):
  Calls prog 42 #[.string s] w (Rn w (xd s)):=by
 obtain⟨N,hN⟩:=aG w.heap.size;have hB0:ln w ((w.alloc (.cells #[Z 0,.slice none 0 0,.slice none 0 0] 86)).alloc (.cells #[.bool false] 4)) N 0 (.slice none 0 0) (.slice none 0 0) false:=by
  subst hN;refine⟨?_,?_,aj.alloc (by simp) _⟩
  .rw[Below.heap_alloc _ _ _ (by simp)];exact hNq _ _
  .have:=hNq (w.alloc (.cells #[Z 0,.slice none 0 0,.slice none 0 0] 86)) (.cells #[.bool false] 4)
   rwa [World.size_alloc]at this
 obtain⟨uV,E5⟩:=aG ((w.alloc (.cells #[Z 0,.slice none 0 0,.slice none 0 0] 86)).alloc (.cells #[.bool false] 4));have Ro:ik uV:=by rw[E5]at hB0;exact hL.later (by show Below w.heap.size w uV;rw[hN];exact hB0.below)
 have hl1:=Jz s.data.toList [58];have hc1:=Pn s 58 uV Ro (by omega);rw[E5]at hB0;rw[acH];generalize Lib.cut s.data.toList [58]=C1 at *;obtain⟨a1,a2,a3⟩:=C1;simp only[]at hl1 hc1 ⊢;have hs':s.data.toList.length<=1000000:=by rw[Array.length_toList];exact hs
 have hl2:=Jz a2 [32];have hc2:∀W,ik W->Calls prog 81 #[.string (aZ a2),.string ⟨#[32]⟩] W fun e w'=>e=.returned (.tuple #[.string (aZ (Lib.cut a2 [32]).1),.string (aZ (Lib.cut a2 [32]).2.1),.bool (Lib.cut a2 [32]).2.2])/\Below W.heap.size W w' :=
  fun W hW=>Pn (aZ a2) 32 W hW (by rw[E3];omega)
 generalize Lib.cut a2 [32]=C2 at *;obtain⟨b1,b2,b3⟩:=C2;simp only[]at hl2 hc2 ⊢;have qd:∀W,ik W->Calls prog 82 #[.string (aZ a1),Z 9] W fun e w'=>e=.returned (.tuple #[Z ((gK 9 (aZ a1)).getD 0),.bool (gK 9 (aZ a1)).isSome])/\Below W.heap.size W w' :=
  fun W hW=>PG 9 (by omega) (aZ a1) W hW.num
 have zl:∀W,ik W->_:=fun W hW=>arQ strings_Index_one (aZ b1) W hW.num (by rw[E3];omega);have cG:=Y hB0;have cy:=Y hc1;have zW:=Y hc2;have wo:=Y qd;have arR:=Y zl;have Ba:=Y Ro;clear hB0 hc1 hc2 qd zl Ro;obtain⟨R,hR⟩:=aG (E4 (a1,a2,a3) (b1,b2,b3));rw[hR];have HR:=Y hR;clear hR;refine(callsIn_wide (n:=5)).1 ?_;refine callsIn_of_wp_marks func42 rfl trivial ?_ rfl;simp only[ntmps42,List.size_toArray,List.length_cons,List.length_nil,Nat.reduceAdd,Nat.reduceSub,Array.replicate_succ,Array.replicate_zero,List.push_toArray,List.append_toArray,List.nil_append,List.cons_append]
 gi_wp2
 refine⟨trivial,(callsIn_wide.2 cy).mono ?_⟩;rintro e w1 ⟨rfl,hb1⟩;have HB1:=Y (cG.later hb1);have jh:=Y (Ba.later hb1);clear hb1 E5;simp only[]
 gi_wp2
 refine⟨trivial,(callsIn_wide.2 (wo w1 jh)).mono ?_⟩;rintro e w2 ⟨rfl,hb2⟩;have HB2:=Y (HB1.later hb2);have lz:=Y (jh.later hb2);clear hb2;simp only[]
 gi_wp2
 refine⟨trivial,(callsIn_wide.2 (zW w2 lz)).mono ?_⟩;rintro e w3 ⟨rfl,hb3⟩;have av:=Y (HB2.later hb3);have xK:=Y (lz.later hb3);clear hb3;simp only[]
 gi_wp2
 refine⟨trivial,(callsIn_wide.2 (arR w3 xK)).mono ?_⟩;rintro e w4 ⟨bY,rfl,hb4,hrd⟩;have bS:=Y (av.later hb4);have tu:=Y (xK.later hb4);have j4:=Y (ij hrd (show N+2<=w3.heap.size by have:=av.lt;omega));clear hb4 hrd;simp only[];obtain⟨n0,n1,n2,n3,z0,z3⟩:=bS.cells;have HBAD:Hid (R=none->∀W,ln w W N 0 (.slice none 0 0) (.slice none 0 0) false->Rn w R (.returned (.tuple #[.agg #[Z 0,.slice none 0 0,.slice none 0 0],.bool false])) W):=Y fun e W hp=>by
  subst e;exact⟨0,_,_,rfl,by rw[hN];exact hp.below,fun m ds fs e=>(by cases e),⟨_,_,_,rfl⟩,_,_,_,rfl⟩
 by_cases hok:a3=true/\(gK 9 (aZ a1)).isSome=true/\(qc (aZ b1)).isSome=true
 .obtain⟨rfl,h1,h2⟩:=hok
  obtain⟨n,hn⟩:=Option.isSome_iff_exists.1 h1;obtain⟨ds,yM⟩:=Option.isSome_iff_exists.1 h2;rw[hn,yM];rw[yM]at j4;simp only[Option.getD_some,Option.isSome_some]at j4 ⊢;have b_:Hid (R=if b3=true then (jI (pieces 32 b2)).map fun fs=>(n,ds,fs) else some (n,ds,[])):=Y (by rw[<- HR.out];unfold E4;simp only[hn,yM];rfl);clear h1 h2 hn yM;obtain⟨da,fV,jL⟩:=fA j4;subst jL;obtain⟨nh,Ay⟩:=aG w4.heap.size;have hlt:=bS.lt;have hI:ng w N nh n (.slice da ds.length fV) ds [] (.slice none 0 0) (oa (aZ b2) ⟨#[32]⟩ (w4.alloc (.cells #[Z n,.slice da ds.length fV,.slice none 0 0] 86))):=by
   have hg:=(World.grownBy_alloc w4 (.cells #[Z n,.slice da ds.length fV,.slice none 0 0] 86) none).trans (Rp (aZ b2) ⟨#[32]⟩ _);have hg2:=Rp (aZ b2) ⟨#[32]⟩ (w4.alloc (.cells #[Z n,.slice da ds.length fV,.slice none 0 0] 86));refine⟨⟨_,_,_,_,bS.kept hg (fun r e=>by cases e)⟩,?_,ij (j4.kept hg (Classical.em _)) (by omega),?_,World.ownsRow_nil _ _ _ _,?_,by omega⟩
   .rw[<- Ay];exact(hg2.block _ (by simp) (by simp)).trans (hNq w4 _)
   .intro g hgv
    have:=j4.lt g hgv
    omega
   .rw[JA];simp;omega
  have cr:=Y (bS.later ((bRq _ _).alloc (E _) (.cells #[Z n,.slice da ds.length fV,.slice none 0 0] 86)));have bE:=Y (j4.alloc (.cells #[Z n,.slice da ds.length fV,.slice none 0 0] 86));have fI:=hNq w4 (.cells #[Z n,.slice da ds.length fV,.slice none 0 0] 86);rw[Ay]at fI;have hs5:(w4.alloc (.cells #[Z n,.slice da ds.length fV,.slice none 0 0] 86)).heap.size=nh+1:=by simp[Ay]
  clear n0 n1 n2 n3 z0 z3;obtain⟨n0,n1,n2,n3,z0,z3⟩:=cr.cells;have HI:=Y hI;have auP:=Y fI;have fu:=Y hs5;clear hI fI hs5;cases b3 with
  | false =>
   have rQ:R=some (n,ds,[]):=b_.out;have arS:Hid (∀W,ln w W N n (.slice da ds.length fV) (.slice none 0 0) true->W.ownsRow w.heap.size 3 1 (.slice da ds.length fV) ds.length (lg ds)->Rn w R (.returned (.tuple #[.agg #[Z n,.slice da ds.length fV,.slice none 0 0],.bool true])) W):=Y fun W hp hd=>by
    subst rQ;exact⟨n,_,_,rfl,by rw[hN];exact hp.below,fun m ds' fs e=>(by cases e;exact⟨rfl,hd,World.ownsRow_nil _ _ _ _⟩),⟨_,_,_,rfl⟩,_,_,_,rfl⟩
   clear rQ
   gi_wp2
   generalize w4.alloc (.cells #[Z n,.slice da ds.length fV,.slice none 0 0] 86)=aI at *;have HE:=Y (cr.put n (.slice da ds.length fV) (.slice none 0 0) true);have tG:=Y (Rk bE (Z n) (.slice da ds.length fV) (.slice none 0 0) (.bool true));generalize (((aI.setCell (O N 0) (Z n)).setCell (O N 1) (.slice da ds.length fV)).setCell (O N 2) (.slice none 0 0)).setCell ⟨N+1,0,none⟩ (.bool true)=W5 at *;obtain⟨m0,m1,m2,m3,y0,y3⟩:=HE.cells;refine⟨.tuple #[.agg #[Z n,.slice da ds.length fV,.slice none 0 0],.bool true],?_,arS _ HE (ij tG (by omega))⟩;simp[results,f42,go_sem,m0,m1,m2,m3]
  | true =>
   gi_wp2
   refine⟨trivial,(callsIn_wide.2 (acI (aZ b2) ⟨#[32]⟩ _)).mono ?_⟩;rintro e aA ⟨rfl,rfl⟩;simp only[];generalize w4.alloc (.cells #[Z n,.slice da ds.length fV,.slice none 0 0] 86)=aI at *
   gi_wp2
   have hsz:=fu.out;have hW0:(oa (aZ b2) ⟨#[32]⟩ aI).heap.size=nh+4:=by rw[JA,hsz]
   have Y8:((pieces 32 b2).map aZ).length<=1000001:=by rw[List.length_map];have:=Rl 32 b2;omega
   refine wB.YF rfl (by omega) (gf:=197) (lb:=#[.pointer (some ⟨nh+2,0,none⟩),.pointer (some ⟨nh+1,0,none⟩),.pointer (some ⟨nh+3,0,none⟩)]) (by simp only[E6,hsz];rfl) trivial (enters_of func197 (by kernel_rfl) rfl)
    (acJ strings_Index_one _ (by omega) (aZ b2) 32 (by rw[E3];omega) (nh+1) (nh+2) (nh+3) (by omega) (by omega)) ?H (by omega) ?K (fun _=>rfl)
    (fun pre W=>∃fs vf,rG pre fs/\ng w N nh n (.slice da ds.length fV) ds fs vf W)
    (fun c _ W=>c=.ret/\jI (pieces 32 b2)=none/\∃fs vf,ng w N nh n (.slice da ds.length fV) ds fs vf W/\ln w W N 0 (.slice none 0 0) (.slice none 0 0) false)
    ?I ?Ix ⟨[],_,rG.nil,HI⟩ ?a1 ?assign ?body ?done ?stop
   case assign =>
    intro l x W K hK
    gi_wp2
    exact hK
   case H =>
    intro o o';have e1:=(((acK (aZ b2) ⟨#[32]⟩ aI).alloc o).alloc o');have e2:=(((acL (aZ b2) ⟨#[32]⟩ aI).alloc o).alloc o');have e3:=(((acM (aZ b2) ⟨#[32]⟩ aI).alloc o).alloc o');rw[hsz]at e1 e2 e3;exact⟨e1,e2,e3⟩
   case K=>intro k hk;simp at hk;omega
   case I =>
    rintro s' A B row ⟨fs,vf,hF,hi⟩ hg hr;exact⟨fs,vf,hF,hi.grown hg (fun r e=>by rw[hW0]at hr;exact hr r e)⟩
   case Ix =>
    rintro c s' A B row ⟨hc,hn,fs,vf,hi,hp⟩ hg hr;exact⟨hc,hn,fs,vf,hi.grown hg (fun r e=>by rw[hW0]at hr;exact hr r e),hp.kept hg (fun r e=>by have:=hi.lo;rw[hW0]at hr;rcases hr r e with h' | ⟨h',_⟩ <;> omega)⟩
   case body =>
    rintro l pre x W ⟨fs,vf,hF,hi⟩ ⟨qs,sr⟩;have hxs:(pieces 32 b2).map aZ=pre++x::qs:=by rw[acG]at sr;rw[<- sr];simp
    have hps:pieces 32 b2=pre.map (·.data.toList)++x.data.toList::qs.map (·.data.toList):=by
     have:=congrArg (List.map (fun y:ByteArray=>y.data.toList)) hxs
     rw[acE]at this;simpa using this
    have hx:x.size<=1000000:=by
     have:=acD 32 b2 x.data.toList (by rw[hps];simp)
     rw[Array.length_toList]at this;have h3:x.data.size=x.size:=rfl;omega
    have hfl:fs.length<=1000001:=by have:=congrArg List.length hxs;rw[lAq]at this;rw[hF.2];omega
    have hby:=aq9 x W hx;cases hu:unhex x.data.toList with
    | none =>
     have mE:jI (pieces 32 b2)=none:=by rw[hps];exact hF.bad hu _
     rw[hu]at hby
     gi_wp2_with (first | (refine⟨trivial,?_⟩;gi_at_call 85;refine(CallsIn.inRound l (callsIn_wide.2 hby)).mono ?_;rintro e dH ⟨rfl,hb⟩;have zm:=hi.later hb;obtain⟨n',rD,rE,ok,acN⟩:=zm.pb;obtain⟨m0,m1,m2,m3,y0,y3⟩:=acN.cells) | (refine⟨trivial,?_⟩))
     exact⟨(Bn hb).trans (acC _ _ _ _ _ _),rfl,mE,fs,vf,zm.put _ _ _ _,acN.put _ _ _ _⟩
    | some y =>
     rw[hu]at hby;obtain⟨i9,hi9,hz0,hz1,hz2⟩:=aat
     gi_wp2_with (first | (refine⟨trivial,?_⟩;gi_at_call 85;refine(CallsIn.inRound l (callsIn_wide.2 hby)).mono ?_;rintro e dH ⟨rfl,hb⟩;have zm:=hi.later hb;have d2:dH.cell? (O nh 2)=some vf:=(by rw[cR dH _ 2 _ _ _ zm.rb];rfl)) | (gi_at_builtin;refine wpListIn_append_own _ rfl _ _ 70 rfl (nh+4) 9 i9 (.string ⟨#[]⟩) 1 16 underlying70 hi9 hz0 hz1 hz2 rfl (by decide) _ _ _ rfl (zm.lC.alloc _) (O _ 0) 1 1 [.string (aZ y)] rfl rfl (cell_one_new _ _ _) (by simp[Value.oneCell']) (by simp[maxLen];omega) (by omega) (by have:=zm.big;simp;omega) ?_;intro v' fJ hown' hgrow _;obtain⟨g',cap',rfl⟩:=ownsRow_succ hown';obtain⟨k2,arT,arU,arV⟩:=zm.pushed hgrow hown';have f2:fJ.cell? (O nh 2)=some vf:=(by rw[cR fJ _ 2 _ _ _ k2];rfl);have f3:fJ.frozen? (O nh 2)=false:=(by simp[World.frozen?,k2])) | (refine⟨trivial,?_⟩))
     exact⟨(Bn hb).trans arU,wB.At.trans (fun k hk=>hb.block k (by have:=hi.big;simp at hk;omega)) arV,_,_,hF.step hu,arT⟩
   case done =>
    rintro W ⟨fs,vf,hF,hi⟩ hD;obtain⟨n',rD,rE,ok,hp⟩:=hi.pb;obtain⟨m0,m1,m2,m3,y0,y3⟩:=hp.cells;have d0:=ag hi.rb 0 rfl;have d1:=ag hi.rb 1 rfl;obtain⟨fa,fc,rfl⟩:=fA hi.lC;have d2:=ag hi.rb 2 rfl;have hall:jI (pieces 32 b2)=some fs:=by have:=hF.all;rwa [acG,acE]at this
    have rQ:R=some (n,ds,fs):=by rw[b_.out,if_pos (by trivial),hall];rfl
    have HR1:=Y rQ;clear rQ hall
    gi_wp2
    have hi2:=hi.put n (.slice da ds.length fV) (.slice fa fs.length fc) true;have hp2:=hp.put n (.slice da ds.length fV) (.slice fa fs.length fc) true;have E7:=(acC W N (Z n) (.slice da ds.length fV) (.slice fa fs.length fc) (.bool true)).same _ _ hD rfl;generalize (((W.setCell (O N 0) (Z n)).setCell (O N 1) (.slice da ds.length fV)).setCell (O N 2) (.slice fa fs.length fc)).setCell ⟨N+1,0,none⟩ (.bool true)=W2 at *;have bU:=hi2.grown (grownBy_putObj' _ _ (.deferred none)) (fun r e=>by cases e;exact .inr ⟨by omega,_,E7,rfl⟩);have qK:=hp2.kept (grownBy_putObj' _ (oa (aZ b2) ⟨#[32]⟩ aI).heap.size (.deferred none)) (fun r e=>by cases e;rw[hW0];have:=hi.lo;omega);obtain⟨g0,g1,g2,g3,_,_⟩:=qK.cells;refine⟨by simp,.inl ⟨_,_,rfl,run_takeDeferred E7,.tuple #[.agg #[Z n,.slice da ds.length fV,.slice fa fs.length fc],.bool true],?_,n,_,_,by rw[HR1.out];rfl,by rw[hN];exact qK.below,fun m ds' fs' e=>?_,⟨_,_,_,rfl⟩,_,_,_,rfl⟩⟩
    .simp[results,f42,go_sem,g0,g1,g2,g3]
    .have e':=HR1.symm.trans e
     cases e';exact⟨rfl,by rw[hN];exact bU.rd,ij bU.lC (by have:=hi.lo;omega)⟩
   case stop =>
    rintro c pre W _ ⟨rfl,hn,fs,vf,hi,hp⟩ hD;have rQ:R=none:=by rw[b_.out,if_pos (by trivial),hn];rfl
    have HR1:=Y rQ;clear rQ
    gi_wp2
    have qK:=hp.kept (grownBy_putObj' _ (oa (aZ b2) ⟨#[32]⟩ aI).heap.size (.deferred none)) (fun r e=>by cases e;rw[hW0];have:=hi.lo;omega);obtain⟨g0,g1,g2,g3,_,_⟩:=qK.cells;refine⟨by simp,.inl ⟨_,_,rfl,run_takeDeferred hD,.tuple #[.agg #[Z 0,.slice none 0 0,.slice none 0 0],.bool false],?_,0,_,_,by rw[HR1.out];rfl,by rw[hN];exact qK.below,fun m ds' fs' e=>?_,⟨_,_,_,rfl⟩,_,_,_,rfl⟩⟩
    .simp[results,f42,go_sem,g0,g1,g2,g3]
    .have e':=HR1.symm.trans e
     cases e'
 .have acO:R=none:=by
   rw[<- HR.out];unfold E4;simp only[];split
   .rename_i h3
    cases h1:gK 9 (aZ a1) with
    | none=>rfl
    | some n =>
     cases h2:qc (aZ b1) with
     | none=>rfl
     | some ds=>exact absurd ⟨h3,by rw[h1];rfl,by rw[h2];rfl⟩ hok
   .rfl
  have HE:=Y (bS.put 0 (.slice none 0 0) (.slice none 0 0) false);generalize (gK 9 (aZ a1)).isSome=k1 at *;generalize (qc (aZ b1)).isSome=k2 at *;have HX:=Y (HBAD acO);clear acO;cases a3 with
  | false =>
   gi_wp2
   generalize (((w4.setCell (O N 0) (Z 0)).setCell (O N 1) (.slice none 0 0)).setCell (O N 2) (.slice none 0 0)).setCell ⟨N+1,0,none⟩ (.bool false)=W5 at *;obtain⟨m0,m1,m2,m3,y0,y3⟩:=HE.cells;refine⟨.tuple #[.agg #[Z 0,.slice none 0 0,.slice none 0 0],.bool false],?_,HX _ HE⟩;simp[results,f42,go_sem,m0,m1,m2,m3]
  | true =>
   cases k1 with
   | false =>
    gi_wp2
    generalize (((w4.setCell (O N 0) (Z 0)).setCell (O N 1) (.slice none 0 0)).setCell (O N 2) (.slice none 0 0)).setCell ⟨N+1,0,none⟩ (.bool false)=W5 at *;obtain⟨m0,m1,m2,m3,y0,y3⟩:=HE.cells;refine⟨.tuple #[.agg #[Z 0,.slice none 0 0,.slice none 0 0],.bool false],?_,HX _ HE⟩;simp[results,f42,go_sem,m0,m1,m2,m3]
   | true =>
    cases k2 with
    | true=>exact absurd ⟨rfl,rfl,rfl⟩ hok
    | false =>
     gi_wp2
     generalize (((w4.setCell (O N 0) (Z 0)).setCell (O N 1) (.slice none 0 0)).setCell (O N 2) (.slice none 0 0)).setCell ⟨N+1,0,none⟩ (.bool false)=W5 at *;obtain⟨m0,m1,m2,m3,y0,y3⟩:=HE.cells;refine⟨.tuple #[.agg #[Z 0,.slice none 0 0,.slice none 0 0],.bool false],?_,HX _ HE⟩;simp[results,f42,go_sem,m0,m1,m2,m3]
def uU(s:ByteArray):Nat:=match xd s with
 | none=>1
 | some (_,_,fs)=>kB (fs.map aZ)
def Rq(w:World)(ad:Nat->Addr)(s:ByteArray)(e:Ending)(w':World):Prop :=
 ∃n bY va,e=.returned (.tuple #[Z n,bY,va,fq ad (uU s)])/\U w w' /\
  (∀m ds fs,xd s=some (m,ds,fs)->uU s=0->n=m/\w'.ownsRow w.heap.size 3 1 bY ds.length (lg ds)/\w'.ownsRow w.heap.size 95 8 va (fs.map aZ).length (bz ((fs.map aZ).map Ve.cH)))/\(uU s≠0->n=0/\bY=.slice none 0 0/\va=.slice none 0 0)
theorem acP:∀(l r:List (List UInt8)),jI l=some r->r.length=l.length
 | [],r,h=>by simp[jI]at h;simp[h]
 | p::l,r,h=>by
  unfold jI at h;split at h
  .cases h
  .obtain⟨q,hq,rfl⟩:=Option.map_eq_some_iff.1 h
   simp[acP l q hq]
theorem arW{s:ByteArray}{m:Nat}{ds:List Nat}{fs:List (List UInt8)}(h:xd s=some (m,ds,fs)):fs.length<=s.size+1:=by
 rw[acH]at h;have h1:=(Jz s.data.toList [58]).2;have h2:=(Jz (Lib.cut s.data.toList [58]).2.1 [32]).2;have h3:=Rl 32 (Lib.cut (Lib.cut s.data.toList [58]).2.1 [32]).2.1;have h4:s.data.toList.length=s.size:=Array.length_toList;unfold E4 at h;split at h
 .split at h
  .split at h
   .obtain⟨q,hq,e⟩:=Option.map_eq_some_iff.1 h
    cases e
    have:=acP _ _ hq
    omega
   .cases h;simp
  .cases h
 .cases h
theorem arH{ad:Nat->Addr}(s:ByteArray)(w:World)(hL:ik w)(hS:bJ w ad)(hs:s.size<=99999):
  Calls prog 9 #[.string s] w (Rq w ad s):=by
 have hp:=arP s w hL (by omega);have HL:=Y hL;have HS:=Y hS;clear hL hS;cases hR:xd s with
 | none =>
  have hA:∀W,U w W->Rq w ad s (.returned (.tuple #[Z 0,.slice none 0 0,.slice none 0 0,.iface 412 (.pointer (some (ad 0)))])) W:=fun W hb=>by
   have hC:uU s=1:=by unfold uU;rw[hR]
   exact⟨0,_,_,by rw[hC];rfl,hb,fun m ds fs e=>(by rw[hR]at e;cases e),fun _=>⟨rfl,rfl,rfl⟩⟩
  have HA:=Y hA;clear hA;rw[hR]at hp;have HP:=Y hp;clear hp hR;go_enter func9,ntmps9
  go_wp2_with fail
  refine HP.mono ?_;rintro e w1 ⟨n,bY,vf,rfl,hb1,_,⟨a,k,c,rfl⟩,a',k',c',rfl⟩;have c0:w1.cell? (O 0 0)=some (.iface 412 (.pointer (some (ad 0)))):=(HS.later hb1).cell 0 (by decide);have qW:(w1.alloc (.cells #[Z n,.slice a k c,.slice a' k' c'] 86)).cell? (O 0 0)=some (.iface 412 (.pointer (some (ad 0)))):=by rw[((bRq _ w1).alloc (E _) _).cell (bCq _ _ c0)];exact c0
  have HB2:=Y (hb1.alloc hb1.size (.cells #[Z n,.slice a k c,.slice a' k' c'] 86));clear hb1 c0;simp only[Option.isSome_none];go_wp2;generalize w1.alloc (.cells #[Z n,.slice a k c,.slice a' k' c'] 86)=w2 at *
  go_quiet (fail)
  go_wp2;refine bodyPost_ret (v:=.tuple #[Z 0,.slice none 0 0,.slice none 0 0,.iface 412 (.pointer (some (ad 0)))]) (by simp[results,results9,go_sem]) rfl ?_;exact HA _ (HB2.trans ((below_drewN _).mono HB2.size))
 | some r =>
  obtain⟨m,ds,fs⟩:=r;rw[hR]at hp;have HP:=Y hp;have HA:Hid (∀n bY va W,U w W->(kB (fs.map aZ)=0->n=(m:Int)/\W.ownsRow w.heap.size 3 1 bY ds.length (lg ds)/\W.ownsRow w.heap.size 95 8 va (fs.map aZ).length (bz ((fs.map aZ).map Ve.cH)))->(kB (fs.map aZ)≠0->n=0/\bY=.slice none 0 0/\va=.slice none 0 0) ->
    Rq w ad s (.returned (.tuple #[Z n,bY,va,fq ad (kB (fs.map aZ))])) W):=Y fun n bY va W hb h1 h2=>by
   have hC:uU s=kB (fs.map aZ):=by unfold uU;rw[hR]
   exact⟨n,bY,va,by rw[hC],hb,fun m' ds' fs' e e0=>(by rw[hR]at e;cases e;exact h1 (hC▸e0)),fun e0=>h2 (hC▸e0)⟩
  have hfl:fs.length<=100000:=by have:=arW hR;omega
  clear hp hR;go_enter func9,ntmps9
  go_wp2_with fail
  refine HP.mono ?_;rintro e w1 ⟨n,bY,vf,rfl,hb1,hrows,⟨a,k,c,rfl⟩,a',k',c',rfl⟩;obtain⟨rfl,hrd,A4⟩:=hrows m ds fs rfl;have HB2:=Y (hb1.alloc hb1.size (.cells #[Z m,.slice a k c,.slice a' k' c'] 86));have j4:=Y (hrd.alloc (.cells #[Z m,.slice a k c,.slice a' k' c'] 86));have acQ:=A4.alloc (.cells #[Z m,.slice a k c,.slice a' k' c'] 86);have hrb:=hNq w1 (.cells #[Z m,.slice a k c,.slice a' k' c'] 86);have hsz:(w1.alloc (.cells #[Z m,.slice a k c,.slice a' k' c'] 86)).heap.size=w1.heap.size+1:=by simp
  have arX:=Y (ars (fs.map aZ) (.slice a' k' c') w.heap.size fs.length (w1.alloc (.cells #[Z m,.slice a k c,.slice a' k' c'] 86)) (ad:=ad) (Y (HS.later HB2)) (Y (List.length_map _)) (Y (by
   have:=acQ;unfold zk at this;rw[List.map_map];exact this)) hfl)
  have qV:=Y hrb;have iy:=Y hsz;clear hb1 hrows hrd A4 acQ hrb hsz;simp only[Option.isSome_some]
  go_wp2_with fail
  generalize w1.alloc (.cells #[Z m,.slice a k c,.slice a' k' c'] 86)=w2 at *;generalize kB (fs.map aZ)=D at *;refine arX.mono ?_;rintro e w3 ⟨va,rfl,hb3,h1,h2⟩;have av:=Y (ar HB2 hb3);have arY:=Y (dh j4 hb3);have Rs:w3.heap[w1.heap.size]?=some (.cells #[Z m,.slice a k c,.slice a' k' c'] 86 (0,0)):=by rw[hb3.block _ (by rw[iy.out];omega)];exact qV
  have q0:=ag Rs 0 rfl;have q1:=ag Rs 1 rfl;have HR3:=Y h1;have WU:=Y h2;clear hb3 Rs h1 h2;by_cases hD:D=0
  .subst hD
   rw[show fq ad 0=.nilIface from rfl]at HA ⊢;simp only[];go_wp2
   go_quiet (fail)
   go_wp2;refine bodyPost_ret (v:=.tuple #[Z m,.slice a k c,va,.nilIface]) (by simp[results,results9,go_sem]) rfl ?_;have hbd:=below_drewN (w:=w3) nq;exact HA m (.slice a k c) va _ (ar av hbd) (fun _=>⟨rfl,dh arY hbd,dh (ij (HR3 trivial) HB2.size) hbd⟩) (fun e=>absurd rfl e)
  .have HF:=Y (HA 0 (.slice none 0 0) (.slice none 0 0) w3 av (fun e=>absurd e hD) (fun _=>⟨rfl,rfl,rfl⟩))
   rw[xy ad hD]at HF ⊢;simp only[];go_wp2;exact bodyPost_ret (v:=.tuple #[Z 0,.slice none 0 0,.slice none 0 0,.iface 412 (.pointer (some (ad (D-1))))]) (by simp[results,results9,go_sem]) rfl HF
end
section
open Go.RowKit
end
section
open Go.RowKit Go.Shelf
theorem ZL{W:World}{base:Nat}{v:Value}{l:List (List UInt8)}(h:W.ownsRow base 9 1 v l.length (zk l))(hl:l≠[]):∃g cap,v=.slice (some (O g 0)) l.length cap/\∀W',U W W'->∀(i:Nat) p,l[i]?=some p->W'.cell? (O g i)=some (.string (aZ p)):=by
 rcases h.2 with ⟨_,e⟩ | ⟨g,cap,cur,e,_,hg,_,_,_,ht⟩
 .exact absurd (List.eq_nil_of_length_eq_zero e) hl
 .refine⟨g,cap,e,fun W' hb i p hp=>?_⟩
  have hlt:=(List.getElem?_eq_some_iff.1 hp).1;rw[cR W' g i _ _ _ ((hb.block g (lBq hg)).trans hg),<- Array.getElem?_toList];have h2:=congrArg (·[i]?) ht;simp only[zk,List.getElem?_map,hp,Option.map_some]at h2;rw[List.getElem?_take_of_lt (by omega)]at h2;exact h2
end
section
open Go.RowKit
theorem acR(d:Nat)(h:d<10):strOfNums [(48+(d:Int))%256]=aZ [UInt8.ofNat (48+d)]:=by unfold strOfNums aZ;simp only[List.map_cons,List.map_nil];rw[show ((48+(d:Int))%256).toNat=48+d by omega]
theorem arZ(a b:List UInt8):aZ a++aZ b=aZ (a++b):=by apply ByteArray.ext;rw[ByteArray.data_append];apply Array.ext';simp[aZ]
theorem ar0(m:Nat):∀(w:World),m<=1000000000000->Calls prog 93 #[Z (-(m:Int))] w fun e w'=>e=.returned (.string (aZ (Lib.decDigits m)))/\U w w':=by
 induction m using Nat.strongRecOn with
 | _ m ih =>
  intro w hm;by_cases h:m<10
  .have h1:(-10:Int) < -(m:Int):=by omega
   have E8:=Y (fun W'=>R3 (48+(m:Int)) W');rw[acR m h]at E8;have HD:Hid (Lib.decDigits m=[UInt8.ofNat (48+m)]):=Y (by rw[Lib.decDigits,dif_pos h]);have hsub:(48:Int) - -(m:Int)=48+(m:Int):=by omega
   clear ih;go_enter func93,ntmps93
   go_wp2_with fail
   refine(E8 _).mono ?_;rintro e w1 ⟨rfl,hb1⟩;simp only[];go_wp2;go_ret;exact⟨R4 (by rw[HD.out]),hb1⟩
  .have h1:¬ (-10:Int) < -(m:Int):=by omega
   have ar1:=Y (fun W'=>ih (m/10) (by omega) W' (by omega));have E8:=Y (fun W'=>R3 (48+((m%10:Nat):Int)) W');rw[acR (m%10) (by omega)]at E8;have HD:Hid (Lib.decDigits m=Lib.decDigits (m/10)++[UInt8.ofNat (48+m%10)]):=Y (by rw[Lib.decDigits,dif_neg h]);have hq:(-(m:Int)).tdiv 10 = -((m/10:Nat):Int):=by rw[Int.neg_tdiv,Int.tdiv_eq_ediv_of_nonneg (by omega)];omega
   have hr:(-(m:Int)).tmod 10 = -((m%10:Nat):Int):=by rw[Int.neg_tmod,Int.tmod_eq_emod_of_nonneg (by omega)];omega
   have hsub:(48:Int) - -((m%10:Nat):Int)=48+((m%10:Nat):Int):=by omega
   have hdl:(Lib.decDigits (m/10)).length<=20:=lTq (Iq 19 (m/10) (by omega)) (by decide);have hsz:¬ 9223372036854775807<(aZ (Lib.decDigits (m/10))).size+(aZ [UInt8.ofNat (48+m%10)]).size:=by rw[E3,E3,List.length_singleton];omega
   clear ih;generalize UInt8.ofNat (48+m%10)=y at *;generalize hA:((m/10:Nat):Int)=A at *;generalize hB:((m%10:Nat):Int)=B at *;have hA':0<=A/\A<=100000000000:=by omega
   have hB':0<=B/\B<10:=by omega
   clear hA hB;go_enter func93,ntmps93
   go_wp2_with fail
   refine(ar1 _).mono ?_;rintro e w1 ⟨rfl,hb1⟩;have HB1:=Y hb1;clear hb1;simp only[]
   go_wp2_with fail
   refine(E8 _).mono ?_;rintro e w2 ⟨rfl,hb2⟩;have HB2:=Y (ar HB1 hb2);clear hb2;simp only[];go_wp2;go_ret;exact⟨R4 (by rw[HD.out,arZ]),HB2⟩
theorem amO(n:Nat)(hn:n<=1000000000000)(w:World):Calls prog 50 #[Z n] w fun e w'=>e=.returned (.string (aZ (Lib.decDigits n)))/\U w w':=by
 have HB:=Y (fun W'=>ar0 n W' hn);have h0:¬ (n:Int)<0:=by omega
 go_enter func50,ntmps50
 go_wp2_with fail
 refine(HB _).mono ?_;rintro e w1 ⟨rfl,hb1⟩;simp only[];go_wp2;go_ret;exact⟨rfl,hb1⟩
end
end Go.Proofs.YtjolccidheflpaaGreatDoor
