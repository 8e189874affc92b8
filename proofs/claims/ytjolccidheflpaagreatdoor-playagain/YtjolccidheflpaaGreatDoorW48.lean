/- Two players side by side; what a play keeps of its history; numbers that came in, as a row of one's own. -/
import Derived.Test.YtjolccidheflpaaGreatDoorW39
import Derived.Test.YtjolccidheflpaaGreatDoorW47
import Derived.Test.YtjolccidheflpaaGreatDoorW38
import Derived.Laws.OwnMore
namespace Go.Proofs.YtjolccidheflpaaGreatDoor
set_option maxHeartbeats 8000000
set_option maxRecDepth 100000
open Go.RowKit
namespace Pl
variable {wd h seed:Int} {P:St} {S0:af.St} {H:List af.fq}
theorem BZ (I:af.dv wd h seed S0 H P.v) (c:Nat) (a:Ask):af.dv wd h seed S0 H (iw P c a).v:=by
 unfold iw;split
 .exact I.feed _ _
 .exact I
theorem agH (I:af.dv wd h seed S0 H P.v) (hb:P.v.bt+1<=1000000) (x:Int):∃ H',af.dv wd h seed S0 H' (one wd h seed P x).v/\(one wd h seed P x).v.bt<=P.v.bt+1:=by
 have key:∀ Q:St,af.dv wd h seed S0 H Q.v->∃ H',af.dv wd h seed S0 H' Q.v/\Q.v.bt<=P.v.bt+1:=fun Q hQ=>⟨H,hQ,by rw[hQ.len,<- I.len];omega⟩;unfold one;split
 .exact key _ I
 .unfold iQ
  split
  .exact key _ (BZ I _ _)
  .split
   .exact key _ (BZ I _ _)
   .split
    .exact key _ (BZ (P:=lp P _) I _ _)
    .split
     .exact key _ (BZ I _ _)
     .split
      .exact key _ (BZ I _ _)
      .obtain⟨H',h1,_,h3⟩:=I.ticks 1 hb
       exact⟨H',h1,h3⟩
theorem UJ (I:af.dv wd h seed S0 H P.v) (f:Nat->Int):∀ k,P.v.bt+k<=1000000->∃ H',af.dv wd h seed S0 H' (jH wd h seed P f k).v/\(jH wd h seed P f k).v.bt<=P.v.bt+k
 | 0,_=>⟨H,I,lRq _⟩
 | k+1,hk=>by
  obtain⟨H1,h1,h2⟩:=UJ I f k (by omega);obtain⟨H2,h3,h4⟩:=agH h1 (by omega) (f k);exact⟨H2,h3,by show (one wd h seed (jH wd h seed P f k) (f k)).v.bt<=_;omega⟩
end Pl
def yZ (W:World) (a:Option Addr) (m cap:Nat) (l:List Int):Prop :=
 l.length=m/\(∀ x∈l,nO x)/\((a=none/\m=0/\cap=0)\/∃ g,a=some g/\∀ i x,l[i]?=some x->W.cell? (g.add i)=some (Qa x))
theorem yZ.later {W W':World} {a:Option Addr} {m cap:Nat} {l:List Int} (h:yZ W a m cap l) (hb:Qd W W'):yZ W' a m cap l :=
 ⟨h.1,h.2.1,h.2.2.imp id fun ⟨g,e,hc⟩=>⟨g,e,fun i x hx=>by rw[hb.cell (bCq _ _ (hc i x hx))];exact hc i x hx⟩⟩
theorem UH (W:World) {a:Option Addr} {m cap:Nat} {l:List Int} (h:yZ W a m cap l) (hm:m<=1000) :
  ∃ a' c' w',(Builtin.append_ #[23,23] 23 #[.slice none 0 0,.slice a m cap]).run Tryz.prog W=.ok (.slice a' m c') w'/\w'.ownsRow W.heap.size 3 1 (.slice a' m c') l.length (fQ l)/\Qd W w':=by
 obtain⟨i0,z0,hi,hz0,hz1,hz2,hz3⟩:=UX;have kE:W.ownsRow W.heap.size 3 1 (.slice none 0 0) 0 []:=World.ownsRow_nil _ _ _ _;obtain⟨hl,_,⟨rfl,rfl,rfl⟩ | ⟨g,rfl,hc⟩⟩:=h
 .have e:l=[]:=List.eq_nil_of_length_eq_zero hl
  subst e;exact⟨none,0,W,run_append_owned_none (P:=Tryz.prog) (w:=W) W.heap.size 23 23 3 i0 1 Tryz.underlying23 hi _ _ _ kE,kE,bRq _ _⟩
 .obtain⟨v4,w4,hap,hrow,hgr,_,_⟩:=run_append_own_at (P:=Tryz.prog) (w:=W) W.heap.size 23 23 3 i0 z0 1 8 Tryz.underlying23 hi hz0 hz1 hz2 hz3 (by decide) (.slice none 0 0) 0 [] kE g m cap (fQ l) (by simp[fQ,hl]) (fun j u hj=>by
   simp only[fQ,List.getElem?_map,Option.map_eq_some_iff]at hj;obtain⟨x,hx,rfl⟩:=hj;exact hc j x hx) (fun u hu=>by
   obtain⟨x,_,rfl⟩:=List.mem_map.1 hu;rfl) (by unfold maxLen;omega) (by omega) (lRq _)
  have hb:Qd W w4:=⟨hgr.os,hgr.tape,hgr.output,hgr.size,fun k hk=>hgr.block k hk (by simp[Value.ownBlock])⟩;rw[Nat.zero_add,List.nil_append]at hrow;have hrow':=hrow;rw[<- hl]at hrow;rcases hrow'.2 with ⟨e,e0⟩ | ⟨g2,c2,_,e,_⟩
  .exact⟨none,0,w4,by rw[hap,e,e0],by rw[e]at hrow;rw[e0];exact hrow,hb⟩
  .exact⟨_,c2,w4,by rw[hap,e],by rw[e]at hrow;exact hrow,hb⟩
structure Duo (w W:World) (p p':Nat) (B B':bP) (X X':bX) (wd h seed:Int) (P P':Pl.St):Prop where
 a:cH w W p B X wd h seed P
 b:cH w W p' B' X' wd h seed P'
 ap:∀ k,dH B X k->¬ dH B' X' k
 fa:¬ dH B X B'.F
 fb:¬ dH B' X' B.F
 ne:p≠p'
section
variable {w W W' W0:World} {ad:Nat->Addr} {p p':Nat} {B B':bP} {X X' X1:bX} {wd h seed:Int} {P P' P1:Pl.St}
theorem cH.BV (hb:Qd W0 w) (H:cH w W p B X wd h seed P):cH W0 W p B X wd h seed P:=⟨H.blk,aD.BV hb H.aS,lTq hb.size H.lo⟩
theorem Duo.symm (D:Duo w W p p' B B' X X' wd h seed P P'):Duo w W p' p B' B X' X wd h seed P' P:=⟨D.b,D.a,fun k h1 h2=>D.ap k h2 h1,D.fb,D.fa,D.ne.symm⟩
theorem Duo.later (D:Duo w W p p' B B' X X' wd h seed P P') (hb:Qd W W'):Duo w W' p p' B B' X X' wd h seed P P':=⟨D.a.later hb,D.b.later hb,D.ap,D.fa,D.fb,D.ne⟩
theorem Duo.left (D:Duo w W p p' B B' X X' wd h seed P P') (H:cH w W' p B X1 wd h seed P1) (hs:dZ W W' p B X X1):Duo w W' p p' B B' X1 X' wd h seed P1 P':=by
 have h1:¬ dH B X p':=uO D.a.aS D.b.blk (by decide);have h2:¬ dH B' X' p:=uO D.b.aS D.a.blk (by decide);refine⟨H,⟨by rw[hs.turned.block _ (lBq D.b.blk) (fun e=>e.elim (fun e=>D.ne e.symm) h1)];exact D.b.blk,D.b.aS.aside hs.turned (fun e=>e.elim (fun e=>aI D.b.aS.fl.blk D.a.blk (by decide) e) D.fa) (fun k hk e=>e.elim (fun e=>h2 (e▸hk)) (fun e=>D.ap k e hk)) (fun k e=>e.elim (fun e=>e▸D.a.lo) (fun e=>(D.a.aS.fj e).1)),D.b.lo⟩,fun k hk h3=>?_,fun hk=>?_,D.fb,D.ne⟩
 .rcases hs.new k hk with h4 | h4
  .exact D.ap k h4 h3
  .exact absurd (D.b.aS.fj h3).2 (by omega)
 .rcases hs.new _ hk with h4 | h4
  .exact D.fa h4
  .exact absurd (lBq D.b.aS.fl.blk) (by omega)
theorem Duo.new (H:cH w W p B X wd h seed P) (H':cH W W' p' B' X' wd h seed P'):Duo w W' p p' B B' X X' wd h seed P P':=by
 refine⟨H.later H'.aS.bG,H'.BV H.aS.bG,fun k h1 h2=>?_,fun h1=>?_,fun h2=>?_,fun e=>?_⟩
 .have:=(H.aS.fj h1).2;have:=(H'.aS.fj h2).1;omega
 .have:=(H.aS.fj h1).2;have:=H'.aS.fl.lo;omega
 .have:=(H'.aS.fj h2).1;have:=lBq H.aS.fl.blk;omega
 .have:=lBq H.blk;have:=H'.lo;omega
theorem MH (W:World) (H:Hid (W.heap[p]?=some (.cells (lV B P) 148 (0,0)))):Calls Tryz.prog 31 #[Qc p] W fun e w'=>e=.returned (Qc B.V)/\w'=W:=by
 have c0:W.cell? (Qb p 0)=some (Qc B.V):=by rw[cR _ _ _ _ _ _ H.out];rfl
 go_enter Tryz.func31,Tryz.ntmps31;go_wp2;go_ret;exact⟨rfl,rfl⟩
end
theorem ag2 (wd h seed:Int):Pl.nM wd h seed (Pl.new af.S0) (fun i=>[0,12,-1].getD i 0) 3=[⟨(0:Nat),af.sN,1,0,0,0⟩]:=by
 have h2:=(af.ag3 af.S0 (0:Nat) (af.bL (af.jK 0)) (af.bL ⟨111,(0:Nat),2,0,0,90,1,1⟩)).2;rw[(af.ag4 (S:=af.S0) (c:=0) (by decide) ⟨111,(0:Nat),2,0,0,90,1,1⟩ (by decide) rfl rfl rfl rfl rfl rfl (by decide)).1]at h2;have e1:Pl.one wd h seed (Pl.new af.S0) 0 = { Pl.iG (Pl.new af.S0) 0 108 with v:=af.eN af.S0 (0:Nat) (af.bL (af.jK 0)) }:=by
  show Pl.iw (Pl.new af.S0) 0 (Pl.word 108 0)=_;unfold Pl.iw;exact if_pos (by decide)
 have r1:Pl.sL wd h seed (Pl.new af.S0) 0=af.gY af.S0 (0:Nat) (af.bL (af.jK 0)):=by
  show Pl.jI (Pl.new af.S0) 0 (Pl.word 108 0)=_;unfold Pl.jI;exact if_pos (by decide)
 have r2:Pl.sL wd h seed (Pl.one wd h seed (Pl.new af.S0) 0) 12=af.gY (af.eN af.S0 (0:Nat) (af.bL (af.jK 0))) (0:Nat) (af.bL ⟨111,(0:Nat),2,0,0,90,1,1⟩):=by
  rw[e1];generalize af.eN af.S0 (0:Nat) (af.bL (af.jK 0))=S1;show Pl.jI (Pl.lp { Pl.iG (Pl.new af.S0) 0 108 with v:=S1 } 0) 0 (Pl.order { Pl.iG (Pl.new af.S0) 0 108 with v:=S1 } 0 0)=_;unfold Pl.jI;exact if_pos (show bg.ac ⟨111,(0:Nat),2,0,0,90,1,1⟩=0 by decide)
 show (([]++Pl.sL wd h seed (Pl.new af.S0) 0)++Pl.sL wd h seed (Pl.one wd h seed (Pl.new af.S0) 0) 12)++[]=_;rw[r1,r2,List.nil_append,aNq];exact h2.symm
section
variable {ad:Nat->Addr}
theorem agz (W:World) (hs:Hid (bO W ad)) (ht:Hid (qa W)):Calls Tryz.prog 27 #[] W fun e w'=>e=.returned (.bool true)/\Qd W w':=by
 have HN:=hDq (MC 3 W hs);go_enter Tryz.func27,Tryz.ntmps27
 go_wp2_with fail
 refine HN.out.mono ?_;rintro e w1 ⟨p,B,X,rfl,hp⟩;have hb1:Qd w1 (w1.alloc (.cells (fQ [0,12,-1]).toArray 3)):=(bRq _ _).alloc (lRq _) _;have pN:=hDq (MD (some (Qb w1.heap.size 0)) 3 3 [0,12,-1] w1.heap.size _ (hDq (hp.later hb1)) hs ht (hDq rfl) (hDq (MV w1 [0,12,-1] (by decide))) (hDq (by simp)) (hDq ME) (hDq (Pl.MF _)) (by decide) (by decide));rw[show Pl.nM 10 2 (3%4294967296) (Pl.new (af.init 100 20000 100)) (fun i=>[0,12,-1].getD i 0) 3=[⟨(0:Nat),af.sN,1,0,0,0⟩] from ag2 10 2 _]at pN;generalize Pl.jH 10 2 (3%4294967296) (Pl.new (af.init 100 20000 100)) (fun i=>[0,12,-1].getD i 0) 3=ag5 at *;clear hp hb1 HN;simp only[]
 go_wp2_with fail
 refine pN.out.mono ?_;rintro e ai ⟨v6,Vd,rfl,h6,_,iA,_,_,_⟩;have Ve:=iA;obtain⟨ag6,FH,Vf⟩:=gi iA;obtain⟨g,hg⟩:∃ g,ag6=some (Qb g 0):=by
  rcases iA.2 with ⟨e1,e2⟩ | ⟨g,cap,cur,e1,_⟩
  .cases e2
  .rw[Vf]at e1;simp only[Value.slice.injEq]at e1;exact⟨g,e1.1⟩
 subst hg;subst Vf;have xd:∀ j u,(mJ ⟨(0:Nat),af.sN,1,0,0,0⟩)[j]?=some u->ai.cell? (Qb g j)=some u:=fun j u hj=>by
  have:=World.ownsRow.cells Ve (g:=g) rfl j u (by simpa [gZ] using hj)
  have hp:(⟨g,0,none⟩:Addr).add j=(Qb g j):=by unfold Addr.add;split <;> simp_all
  rwa [hp]at this
 have c0:ai.cell? (Qb g 0)=some (Qa 0):=xd 0 _ rfl;have c1:ai.cell? (Qb g 1)=some (.string ⟨#[97,99,99,101,112,116,101,100]⟩):=xd 1 _ rfl;have c2:ai.cell? (Qb g 2)=some (Qa 1):=xd 2 _ rfl;have c3:ai.cell? (Qb g 3)=some (Qa 0):=xd 3 _ rfl;have c4:ai.cell? (Qb g 4)=some (Qa 0):=xd 4 _ rfl;have c5:ai.cell? (Qb g 5)=some (Qa 0):=xd 5 _ rfl;have qd:g<ai.heap.size:=bCq _ _ c0;have aY:=hDq h6.aS.bG;have my:=hDq (sum_nil ai);clear iA h6 Ve xd pN;simp only[]
 go_wp2_with fail
 refine my.out.mono ?_;rintro e br ⟨rfl,pB⟩;subst br;clear my c0 c1 c2 c3 c4 c5;simp only[];go_wp2;go_ret;exact⟨rfl,aY.out⟩
end
section
variable {ad:Nat->Addr}
theorem agr (k:Int) (a:Option Addr) (m cap:Nat) (l:List Int) (W:World) (hs:Hid (bO W ad)) (ht:Hid (qa W)) (hL:Hid (kI W)) (ha:Hid (yZ W a m cap l)) :
  Calls Tryz.prog 5 #[Qa k,.slice a m cap] W fun e w'=>e=.returned (.bool true)/\Qd W w':=by
 have UG:=hDq (agz W hs ht);go_enter Tryz.func5,Tryz.ntmps5
 go_wp2_with fail
 refine UG.out.mono ?_;rintro e w1 ⟨rfl,hb1⟩;have HB1:=hDq hb1;clear hb1 UG;by_cases hm:120<m
 .have MB:(120:Int)<m:=by omega
  simp only[];go_wp2;go_ret;exact⟨rfl,HB1.out⟩
 have MB:¬ (120:Int)<m:=by omega
 have y5:=hDq (MC k w1 (hDq (hs.out.later HB1.out)));simp only[]
 go_wp2_with fail
 refine y5.out.mono ?_;rintro e w2 ⟨p,B,X,rfl,hp⟩;have H2:=hDq (hp.BV HB1.out);have kR:=hDq (MC k w2 (hDq (hs.out.later H2.out.aS.bG)));clear hp y5 HB1;simp only[]
 go_wp2_with fail
 refine kR.out.mono ?_;rintro e w3 ⟨p',B',X',rfl,hp⟩;have HD3:=hDq (Duo.new H2.out hp);clear hp kR H2;obtain⟨q,hq⟩:∃ q,k%4294967296=q:=⟨_,rfl⟩;rw[hq]at HD3;have HQ:=hDq hq;clear hq;obtain⟨a4,c4,w4,hap,hr4,hb4⟩:=UH w3 (ha.out.later HD3.out.a.aS.bG) (by omega);have HD4:=hDq (HD3.out.later hb4);have pN:=hDq (MD a4 m c4 l w3.heap.size w4 (hDq HD4.out.a) hs ht (hDq ha.out.1) (hDq hr4) (hDq fun x hx=>(ha.out.2.1 x hx).2) (hDq ME) (hDq (Pl.MF _)) (by decide) (by omega));have dJ:=hDq hap;obtain⟨H0,Gv,UI⟩:=Pl.UJ (wd:=10) (h:=2) (seed:=q) (P:=Pl.new af.S0) (af.agA 100 20000 100) (fun i=>l.getD i 0) m (by show 0+m<=_;omega);obtain⟨T,hT⟩:∃ T,Pl.jH 10 2 q (Pl.new af.S0) (fun i=>l.getD i 0) m=T:=⟨_,rfl⟩;obtain⟨R,hR⟩:∃ R,Pl.nM 10 2 q (Pl.new af.S0) (fun i=>l.getD i 0) m=R:=⟨_,rfl⟩;rw[hT]at Gv UI;have hT':Pl.jH 10 2 q (Pl.new (af.init 100 20000 100)) (fun i=>l.getD i 0) m=T:=hT;have MG:Pl.nM 10 2 q (Pl.new (af.init 100 20000 100)) (fun i=>l.getD i 0) m=R:=hR;rw[hT',MG]at pN;have HT:=hDq hT';have HR:=hDq MG;have HH:=hDq Gv;have Gw:Hid (H0.length<=1000000):=hDq (by rw[<- Gv.len];have:(Pl.new af.S0).v.bt=0:=rfl;omega);clear hap hr4 hb4 hT hR hT' MG Gv UI;simp only[]
 go_wp2_with (at_builtin;refine wpList_append_run rfl _ _ 23 rfl _ _ _ rfl rfl dJ.out ?_)
 refine pN.out.mono ?_;rintro e aC ⟨v5,qb,rfl,h5,hs5,fG,UK,_,agB⟩;have HD5:=hDq (HD4.out.left h5 hs5);have gI:=hDq UK;obtain⟨a6,c6,ai,hap,iA,hb6⟩:=UH aC (ha.out.later HD5.out.a.aS.bG) (by omega);have HD6:=hDq (HD5.out.later hb6);have bz:=hDq (cO fG hb6);have qL:=hDq (MD a6 m c6 l aC.heap.size ai (hDq HD6.out.b) hs ht (hDq ha.out.1) (hDq iA) (hDq fun x hx=>(ha.out.2.1 x hx).2) (hDq ME) (hDq (Pl.MF _)) (by decide) (by omega));rw[HT.out,HR.out]at qL;have Gx:=hDq hap;have ln:R.length<=10000000:=by omega
 clear h5 hs5 fG UK agB hap iA hb6 pN dJ HD3 HD4 HD5;simp only[]
 go_wp2_with (at_builtin;refine wpList_append_run rfl _ _ 23 rfl _ _ _ rfl rfl Gx.out ?_)
 refine qL.out.mono ?_;rintro e br ⟨v7,Gy,rfl,h7,lH,rW,_,_,_⟩;have HD7:=hDq (HD6.out.symm.left h7 lH).symm;have UL:=hDq (agC v5 v7 R br ln (lH.row HD6.out.b bz.out (by decide) (by decide)) rW);clear h7 lH rW bz HD6 qL Gx HT HR ln;simp only[]
 go_wp2_with fail
 refine UL.out.mono ?_;rintro e cn ⟨rfl,nC⟩;have HD:=hDq (HD7.out.later nC);clear nC UL HD7;obtain⟨s,kJ⟩:∃ s,UM T.v.L T.v.pf T.v.n=s:=⟨_,rfl⟩;have HA:=hDq gI.out.all;have BX:=hDq (fun W' (h':Qd cn W')=>MH W' (hDq (dG h' HD.out.a.blk)));have MI:=hDq (fun W' (h':Qd cn W')=>MH W' (hDq (dG h' HD.out.b.blk)));have Gz:=hDq (fun W' (h':Qd cn W')=>MJ W' (hDq (HD.out.a.aS.f.later h')) (hDq (ht.out.later (HD.out.a.later h').aS.bG)) HA);have MK:=hDq (fun W' (h':Qd cn W')=>MJ W' (hDq (HD.out.b.aS.f.later h')) (hDq (ht.out.later (HD.out.a.later h').aS.bG)) HA);have UN:=hDq (fun W' (h':Qd cn W')=>UO W' (hDq (HD.out.a.aS.f.later h')) (hDq (HD.out.b.aS.f.later h')) HA rfl rfl rfl rfl);rw[kJ]at Gz MK;have oT:=hDq kJ;clear kJ;simp only[]
 go_wp2_with fail
 refine(BX.out _ (bRq _ _)).mono ?_;rintro e i7 ⟨rfl,A_⟩;subst i7;simp only[]
 go_wp2_with fail
 refine(Gz.out _ (bRq _ _)).mono ?_;rintro e i7 ⟨rfl,jB⟩;have qX:=hDq jB;clear jB;simp only[]
 go_wp2_with fail
 refine(MI.out _ qX.out).mono ?_;rintro e gb ⟨rfl,pM⟩;subst gb;simp only[]
 go_wp2_with fail
 refine(MK.out _ qX.out).mono ?_;rintro e gb ⟨rfl,hba⟩;have eX:=hDq (qX.out.trans (hba.mono qX.out.size));clear hba qX;simp only[]
 go_wp2_with fail
 refine(BX.out _ eX.out).mono ?_;rintro e bN ⟨rfl,oh⟩;subst bN;simp only[]
 go_wp2_with fail
 refine(MI.out _ eX.out).mono ?_;rintro e bN ⟨rfl,oh⟩;subst bN;simp only[]
 go_wp2_with fail
 refine(UN.out _ eX.out).mono ?_;rintro e bN ⟨rfl,jk⟩;have nN:=hDq (eX.out.trans (jk.mono eX.out.size));clear jk eX UN MK;simp only[]
 go_wp2_with fail
 refine(BX.out _ nN.out).mono ?_;rintro e wc ⟨rfl,hwc⟩;subst wc;simp only[]
 go_wp2_with fail
 refine(Gz.out _ nN.out).mono ?_;rintro e wc ⟨rfl,hbc⟩;have dN:=hDq (nN.out.trans (hbc.mono nN.out.size));have ML:=hDq (UQ k wc);rw[HQ.out]at ML;clear hbc nN Gz;simp only[]
 go_wp2_with fail
 refine ML.out.mono ?_;rintro e wd ⟨rfl,hbd⟩;have pA:=hDq (dN.out.trans (hbd.mono dN.out.size));clear hbd dN ML;simp only[]
 go_wp2_with fail
 refine(BX.out _ pA.out).mono ?_;rintro e we ⟨rfl,kD⟩;subst we;have qY:=hDq (HD.out.later pA.out);have UR:=hDq (agD wd qY.out.a.aS);clear BX MI HD pA;simp only[]
 go_wp2_with fail
 refine UR.out.mono ?_;rintro e we ⟨rfl,kD⟩;subst we;have FD:=hDq (agE 100 20000 100 H0 wd (hDq qY.out.a.aS) hs hL (hDq (show aZ.iW 10 2=true by decide)) (hDq (show ah.aG 100 1 1000=true by decide)) (hDq US) HH Gw.out gI.out.tp);clear UR;simp only[]
 go_wp2_with fail
 refine FD.out.mono ?_;rintro e wf ⟨aoB,aoC,rfl,hg⟩;have hbk:wf.heap[p']?=some (.cells (lV B' T) 148 (0,0)):=by
  rw[hg.turned.block p' (lBq qY.out.b.blk) (fun e=>e.elim (fun e=>aI qY.out.b.blk qY.out.a.aS.dk.cell (by decide) e) (fun e=>qY.out.a.aS.dk.row.sK qY.out.b.blk (by decide) e))];exact qY.out.b.blk
 have UT:=(hg.keep qY.out.b.aS.f).1;have GA:=hDq hg.aS.bG;have e1:(af.qZ 10 2 q 100 20000 100 H0).L=T.v.L:=HH.out.eD.L.symm;have e2:(af.qZ 10 2 q 100 20000 100 H0).pf=T.v.pf:=HH.out.eD.pf.symm;have e3:(af.qZ 10 2 q 100 20000 100 H0).n=T.v.n:=HH.out.eD.n.symm;have b9:=hDq (MJ wf (hDq hg.aS.f) (hDq (ht.out.later hg.aS.bG)) (hDq hg.all));rw[e1,e2,e3,oT.out]at b9;have MN:=hDq (fun W' (h':Qd wf W')=>MH W' (hDq (dG h' hbk)));have GB:=hDq (fun W' (h':Qd wf W')=>UO W' (hDq (hg.aS.f.later h')) (hDq (UT.later h')) (hDq hg.all) e1.symm e2.symm e3.symm (HH.out.len.trans (af.agF H0).1.symm));clear hg hbk UT e1 e2 e3 FD qY HA gI HH Gw oT;simp only[]
 go_wp2_with fail
 refine b9.out.mono ?_;rintro e wg ⟨rfl,hbg⟩;have GD:=hDq hbg;clear hbg b9;simp only[]
 go_wp2_with fail
 refine(MN.out _ GD.out).mono ?_;rintro e dV ⟨rfl,UU⟩;subst dV;simp only[]
 go_wp2_with fail
 refine(GB.out _ GD.out).mono ?_;rintro e dV ⟨rfl,UW⟩;have agG:=hDq (GA.out.trans ((GD.out.trans (UW.mono GD.out.size)).mono GA.out.size));clear UW GB MN;simp only[];go_wp2;go_ret;exact⟨rfl,agG.out⟩
end
end Go.Proofs.YtjolccidheflpaaGreatDoor
