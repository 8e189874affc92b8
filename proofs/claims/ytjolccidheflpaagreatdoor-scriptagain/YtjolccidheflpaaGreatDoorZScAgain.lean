/- ScriptAgain, by its contract. -/
import Derived.Test.YtjolccidheflpaaGreatDoorX52
namespace Go.Proofs.YtjolccidheflpaaGreatDoor
set_option maxHeartbeats 8000000
open Go.RowKit
set_option maxRecDepth 100000
namespace bg
structure jr where
 wd:ByteArray
 al:List Int
 bD:ByteArray
def D9(w:World)(g:Addr)(x:jr):Prop:=∃a m c,w.cell? g=some (.string x.wd)/\w.cell? ⟨g.block,g.off+1,none⟩=some (.slice a m c)/\w.cell? ⟨g.block,g.off+2,none⟩=some (.string x.bD)/\Ah w a m c x.al
def AP(w:World)(a:Option Addr)(n:Nat)(l:List jr):Prop:=l.length=n/\∀i x,l[i]?=some x->∃g,a=some g/\D9 w (g.add (i*3)) x
theorem D9.later{w w':World}{g:Addr}{x:jr}(h:D9 w g x)(hb:U w w'):D9 w' g x:=by obtain⟨a,m,c,h0,h1,h2,h3⟩:=h;exact⟨a,m,c,cell_later hb h0,cell_later hb h1,cell_later hb h2,h3.later hb⟩
theorem AP.later{w w':World}{a:Option Addr}{n:Nat}{l:List jr}(h:AP w a n l)(hb:U w w'):AP w' a n l:=⟨h.1,fun i x hx=>by
 obtain⟨g,e,h2⟩:=h.2 i x hx;exact⟨g,e,h2.later hb⟩⟩
theorem amL{n:ByteArray}{c:mW}(h:tab n=some c):n.size<=7/\c.sp.length<=5:=by unfold tab at h;obtain⟨x,hx,rfl⟩:=Option.map_eq_some_iff.1 h;have hm:=List.mem_of_find?_eq_some hx;have he:=List.find?_some hx;have uy:x.1=n:=of_decide_eq_true he;simp only[cmds,List.map_cons,List.map_nil,List.mem_cons,List.not_mem_nil,or_false]at hm;rcases hm with rfl | rfl | rfl | rfl | rfl | rfl | rfl | rfl | rfl | rfl | rfl | rfl | rfl | rfl <;> subst uy <;> exact⟨by decide,by decide⟩
def amM(e:Ending):Prop:=∃s is,e=.returned (.tuple #[.string s,.bool is])/\s.size<=1000
theorem amN{n:Nat}(h:n<=9999999):(aZ (Lib.decDigits n)).size<=7:=by
 have e:(aZ (Lib.decDigits n)).size=(Lib.decDigits n).length:=by simp[aZ,ByteArray.size]
 rw[e];exact Iq 6 n (by omega)
theorem alc(wd bD:ByteArray)(al:List Int)(a:Option Addr)(m c:Nat)(W:World)(ha:Hid (Ah W a m c al))(ht:bD.size<=70):
  Calls Tryz.prog 39 #[.agg #[.string wd,.slice a m c,.string bD]] W fun e w'=>amM e/\U W w':=by
 obtain⟨W1,hW1⟩:=aG (W.alloc (.cells #[.string wd,.slice a m c,.string bD] 81));have hb1:U W W1:=by rw[<- hW1];exact aj
 have hx1:W1.heap[W.heap.size]?=some (.cells #[.string wd,.slice a m c,.string bD] 81 (0,0)):=by rw[<- hW1];exact hNq _ _
 have bW:=Y hx1;have HB1:=Y hb1;have HW1:=Y hW1;clear hW1 hx1 hb1;have Ph:=Y (Zb wd W1);have r0:∀aI,U W1 aI->aI.cell? (O W.heap.size 0)=some (.string wd):=fun aI h5=>by rw[cR _ _ _ _ _ _ (bF h5 bW.out)];rfl
 have r1:∀aI,U W1 aI->aI.cell? (O W.heap.size 1)=some (.slice a m c):=fun aI h5=>by rw[cR _ _ _ _ _ _ (bF h5 bW.out)];rfl
 have r2:∀aI,U W1 aI->aI.cell? (O W.heap.size 2)=some (.string bD):=fun aI h5=>by rw[cR _ _ _ _ _ _ (bF h5 bW.out)];rfl
 have R0:=Y r0;have dy:=Y r1;have R2:=Y r2;have q0:=r0 W1 (bRq _ _);have q1:=r1 W1 (bRq _ _);clear r0 r1 r2;go_enter Tryz.func39,Tryz.ntmps39
 go_wp2_with fail
 rw[HW1.out];refine Ph.mono ?_;rintro e w2 ⟨fm,is,rfl,hw2,hfa⟩;subst w2;rcases hfa with ⟨h1,rfl⟩ | ⟨AU,h1,rfl,h3⟩
 .clear h1
  simp only[];go_wp2;go_ret2;exact⟨⟨_,_,rfl,by decide⟩,HB1⟩
 obtain⟨hz1,hz2⟩:=amL h1;have Pj:fm.size<=5:=by rw[h3];exact hz2
 clear h1 h3 hz2;simp only[];by_cases hm:fm.size=m
 .subst hm
  go_wp2_with fail
  go_loopw [6,7] (fun yG iv wr=>∃(i:Nat) (o:ByteArray),i<=fm.size/\iv=Z i/\yG=.string o/\o.size<=7+8*i/\U W1 wr) (fun _ iv _=>fm.size-(intOf iv).toNat)
  case atStart=>exact⟨0,wd,Nat.zero_le _,rfl,rfl,hz1,bRq _ _⟩
  case round =>
   obtain⟨i,o,hi,rfl,rfl,at6,hb⟩:=hrel;have HB:=Y hb;clear hb;by_cases hlt:i<fm.size
   .have aT:(i:Int)<fm.size:=by omega
    obtain⟨hal,_,hcs⟩:=ha.out;obtain⟨x,hx⟩:∃x,al[i]?=some x:=⟨_,List.getElem?_eq_getElem (by rw[hal];exact hlt)⟩;obtain⟨g,hg,hcx⟩:∃g,a=some g/\∀aI,U W1 aI->aI.cell? (g.add i)=some (Z x):=by
     rcases hcs with ⟨_,h,_⟩ | ⟨g,rfl,hc⟩
     .omega
     .exact⟨g,rfl,fun aI h5=>cell_later (ar HB1 h5) (hc i x hx)⟩
    have Ga:=Y hcx;clear hal hcs hx hcx;subst hg;obtain⟨bl,val,hcl,ay⟩:=gu (fun W'=>U wr W');obtain⟨x0,hx0⟩:=ay wr.drew cw;have hnx:Nonempty bl:=⟨x0⟩;have s0:∀x0,(val x0).cell? (O W.heap.size 1)=some (.slice (some g) fm.size c):=fun x0=>dy _ (HB.trans ((hcl x0).mono HB.size));have s1:∀x0,(val x0).cell? (g.add i)=some (Z x):=fun x0=>Ga _ (HB.trans ((hcl x0).mono HB.size));have aH:=Y ay;clear ay hcl;go_wp2;refine kt (val:=val) [8] [0,1,2,3,4,5,6,7,8,9] (by kernel_rfl) (by kernel_rfl) x0 hx0 ?_;rw[hx0];clear hx0
    iterate 8 (refine d7 rfl rfl (fun K hK=>?_);refine⟨by rfl,?_⟩;unfold aQ;go_simp;refine hK _ ?_;clear hK K)
    refine cY rfl rfl (fun K hK=>?_);refine⟨by rfl,?_⟩;unfold aB;go_simp;refine(alY _ x _).mono ?_;rintro e w3 ⟨⟨b,rfl,hbx⟩,hw3⟩;have hb3:U wr w3:=by rw[hw3];exact cw
    have av:=Y hb3;clear hw3 hb3;refine⟨_,rfl,aH _ av,hK _ _ ?_⟩;clear hK K;refine d7 rfl rfl (fun K hK=>?_);refine⟨by rfl,?_⟩;unfold aQ;go_simp;refine hK _ ?_;clear hK K;refine jX ?_;clear s0 s1 aH hnx;have bS:=Y (ar HB av);cases b
    .go_wp2
     go_ret2;exact⟨⟨_,_,rfl,by decide⟩,ar HB1 bS⟩
    .obtain⟨hx0,at7⟩:=hbx rfl
     obtain⟨n,rfl⟩:∃n:Nat,x=n:=⟨x.toNat,by omega⟩;have q2:=dy.out _ bS;have q3:=Ga.out _ bS;have uE:=Y (amO n (by omega) w3);have yM:=amN (n:=n) (by omega);generalize aZ (Lib.decDigits n)=ds at *;have dw:¬ 9223372036854775807<o.size+1:=by omega
     have z2:¬ 9223372036854775807<o.size+1+ds.size:=by omega
     clear hbx
     go_wp2_with fail
     refine uE.mono ?_;rintro e aI ⟨rfl,bR⟩;have cr:=Y (ar bS bR);clear bR q2 q3;simp only[];go_wp2;exact⟨⟨i+1,_,by omega,by go_num,rfl,by simp only[ByteArray.size_append];show o.size+1+ds.size<=_;omega,cr⟩,by simp[intOf];omega⟩
   .have aT:¬ (i:Int)<fm.size:=by omega
    have q2:=R0.out _ HB;have q3:=R2.out _ HB;have dw:¬ 9223372036854775807<o.size+1:=by omega
    have z2:¬ 9223372036854775807<o.size+1+bD.size:=by omega
    cases hby:(wd.toList==[98,121,116,101,115])
    .go_wp2
     go_ret2;exact⟨⟨_,_,rfl,by omega⟩,ar HB1 HB⟩
    .go_wp2
     go_ret2;exact⟨⟨_,_,rfl,by simp only[ByteArray.size_append];show o.size+1+bD.size<=_;omega⟩,ar HB1 HB⟩
 .have hmt:((fm.size:Int) != (m:Int))=true:=by rw[bne_iff_ne];omega
  go_wp2;go_ret2;exact⟨⟨_,_,rfl,by decide⟩,HB1⟩
end bg
end Go.Proofs.YtjolccidheflpaaGreatDoor
namespace Go.Proofs.YtjolccidheflpaaGreatDoor
set_option maxHeartbeats 8000000
open Go.RowKit
set_option maxRecDepth 100000
namespace bg
def amT(m:Nat)(l:List jr)(e:Ending):Prop:=∃b,e=.returned (.bool b)/\(b=false->m<=60/\∀x∈l,x.bD.size<=70)
theorem ak9(a:Option Addr)(m cap:Nat)(l:List jr)(W:World)(ha:Hid (AP W a m l)):Calls Tryz.prog 38 #[.slice a m cap] W fun e w'=>amT m l e/\w'=W:=by
 by_cases hm:(60:Int)<m
 .go_enter Tryz.func38,Tryz.ntmps38
  go_wp2;go_ret;exact⟨⟨_,rfl,fun h=>by cases h⟩,rfl⟩
 go_enter Tryz.func38,Tryz.ntmps38
 go_wp2_with fail
 go_loopw [3,4] (fun amU iv wr=>∃i t:Nat,i<=m/\iv=Z i/\amU=Z t/\t<=50*i/\(∀j x,j<i->l[j]?=some x->x.bD.size<=70)/\wr=W) (fun _ iv _=>m-(intOf iv).toNat)
 case atStart=>exact⟨0,0,Nat.zero_le _,rfl,rfl,Nat.zero_le _,fun j x hj=>absurd hj (Nat.not_lt_zero _),rfl⟩
 case round =>
  obtain⟨i,t,hi,rfl,rfl,htk,hall,rfl⟩:=hrel;have Zk:=Y hall;clear hall;by_cases hlt:i<m
  .have aT:(i:Int)<m:=by omega
   obtain⟨x,hx⟩:∃x,l[i]?=some x:=⟨_,List.getElem?_eq_getElem (by rw[ha.out.1];exact hlt)⟩;obtain⟨g,hg,a1,m1,c1,e0,e1,e2,hA⟩:=ha.2 i x hx;subst hg;by_cases h6:(6:Int)<m1
   .go_wp2
    go_ret;exact⟨⟨_,rfl,fun h=>by cases h⟩,rfl⟩
   by_cases h20:(20:Int)<x.wd.size
   .go_wp2
    go_ret;exact⟨⟨_,rfl,fun h=>by cases h⟩,rfl⟩
   by_cases aua:(70:Int)<x.bD.size
   .go_wp2
    go_ret;exact⟨⟨_,rfl,fun h=>by cases h⟩,rfl⟩
   have cJ:Hid (∀j y,j<i+1->l[j]?=some y->y.bD.size<=70):=Y fun j y hj hy=>by
    by_cases bC:j<i
    .exact Zk j y bC hy
    .obtain rfl:j=i:=by omega
     rw[hx]at hy;cases hy;omega
   clear hx;cases hby:(x.wd.toList==[116,105,99,107])
   .clear hA
    go_wp2;exact⟨⟨i+1,t,by omega,by go_num,rfl,by omega,cJ,trivial⟩,by simp[intOf];omega⟩
   .by_cases h1:m1=1
    .subst h1
     obtain⟨hal,hin,hcs⟩:=hA;obtain⟨n,hn⟩:∃n,x.al[0]?=some n:=⟨_,List.getElem?_eq_getElem (by rw[hal];decide)⟩;obtain⟨g1,hg1,hc1⟩:∃g,a1=some g/\wr.cell? g=some (Z n):=by
      rcases hcs with ⟨_,h,_⟩ | ⟨g,rfl,hc⟩
      .omega
      .exact⟨g,rfl,hc 0 n hn⟩
     clear hal hin hcs hn;subst hg1;by_cases hn0:(0:Int)<n
     .by_cases aub:n<=50
      .obtain⟨n,rfl⟩:∃k:Nat,n=k:=⟨n.toNat,by omega⟩
       go_wp2;exact⟨⟨i+1,t+n,by omega,by go_num,by go_num,by omega,cJ,trivial⟩,by simp[intOf];omega⟩
      .go_wp2
       exact⟨⟨i+1,t,by omega,by go_num,rfl,by omega,cJ,trivial⟩,by simp[intOf];omega⟩
     .go_wp2
      exact⟨⟨i+1,t,by omega,by go_num,rfl,by omega,cJ,trivial⟩,by simp[intOf];omega⟩
    .have auc:((m1:Int)==1)=false:=by rw[beq_eq_false_iff_ne];omega
     clear hA;go_wp2;exact⟨⟨i+1,t,by omega,by go_num,rfl,by omega,cJ,trivial⟩,by simp[intOf];omega⟩
  .have aT:¬ (i:Int)<m:=by omega
   go_wp2;go_ret;refine⟨⟨_,rfl,fun _=>⟨by omega,fun x hx=>?_⟩⟩,rfl⟩;obtain⟨j,hj⟩:=List.getElem?_of_mem hx;exact Zk j x (by have:=(List.getElem?_eq_some_iff.1 hj).1;rw[ha.out.1]at this;omega) hj
theorem ale(W:World){b0:Nat}{a:Option Addr}{m cap:Nat}{l:List ByteArray}(hl:l.length=m)(h:W.ownsRow b0 9 1 (.slice a m cap) m (f_ (fun x=>x) l))(hm:m<=1000):
  ∃a' c' w',(Builtin.append_ #[70,70] 70 #[.slice none 0 0,.slice a m cap]).run Tryz.prog W=.ok (.slice a' m c') w'/\jw w' a' l/\U W w':=by
 obtain⟨i0,z0,hi,hz0,hz1,hz2,hz3⟩:=Ai;have l4:W.ownsRow W.heap.size 9 1 (.slice none 0 0) 0 []:=World.ownsRow_nil _ _ _ _;rcases h.2 with ⟨e,e0⟩ | ⟨g,c,cur,e,_⟩
 .cases e
  obtain rfl:l=[]:=List.eq_nil_of_length_eq_zero hl;exact⟨none,0,W,run_append_owned_none (P:=Tryz.prog) (w:=W) W.heap.size 70 70 9 i0 1 Tryz.underlying70 hi _ _ _ l4,fun k x hx=>(by cases hx),bRq _ _⟩
 .cases e
  obtain⟨v4,w4,hap,hrow,hgr,_,_⟩:=run_append_own_at (P:=Tryz.prog) (w:=W) W.heap.size 70 70 9 i0 z0 1 16 Tryz.underlying70 hi hz0 hz1 hz2 hz3 (by decide) (.slice none 0 0) 0 [] l4 (O g 0) m cap (f_ (fun x=>x) l) (by simp[f_,hl]) (fun j u hj=>by
   exact World.ownsRow.cells h (g:=g) rfl j u hj) (fun u hu=>by
   obtain⟨x,_,rfl⟩:=List.mem_map.1 hu;rfl) (by unfold maxLen;omega) (by omega) (E _)
  have hb:U W w4:=⟨hgr.os,hgr.tape,hgr.output,hgr.size,fun k hk=>hgr.block k hk (by simp[Value.ownBlock])⟩;rw[Nat.zero_add,List.nil_append]at hrow;obtain⟨a4,c4,rfl⟩:=fA hrow;exact⟨a4,c4,w4,hap,jw.of (by rw[hl];exact hrow),hb⟩
theorem jw.take{w:World}{a:Option Addr}{l:List ByteArray}(h:jw w a l)(k:Nat):jw w a (l.take k):=fun i x hx=>h i x (by
 rw[List.getElem?_take]at hx;split at hx
 .exact hx
 .cases hx)
end bg
end Go.Proofs.YtjolccidheflpaaGreatDoor
namespace Go.Proofs.YtjolccidheflpaaGreatDoor
set_option maxHeartbeats 8000000
open Go.RowKit
set_option maxRecDepth 100000
namespace bg
section
variable {ad:Nat->Addr} {et:Nat->ByteArray}
theorem ak7(a:Option Addr)(m cap:Nat)(l:List jr)(cut:Int)(W:World)(hs:Hid (bJ W ad))(hbt:Hid (iF W))(hL:Hid (ik W))(hT:Hid (sw W ad et))(ha:Hid (AP W a m l)):
  Calls Tryz.prog 7 #[.slice a m cap,Z cut] W fun e w'=>e=.returned (.bool true)/\U W w':=by
 have Ib:=Y (YI W hs hbt hL hT);go_enter Tryz.func7,Tryz.ntmps7
 go_wp2_with fail
 refine Ib.mono ?_;rintro e w1 ⟨rfl,hb1⟩;have HB1:=Y hb1;have ak8:=Y (ak9 a m cap l w1 (Y (ha.later hb1)));clear hb1;simp only[]
 go_wp2_with fail
 refine ak8.mono ?_;rintro e w2 ⟨⟨b,rfl,hbl⟩,hw2⟩;subst w2;simp only[];by_cases hbf:b=true
 .subst hbf
  clear hbl;go_wp2;go_ret;exact⟨rfl,HB1⟩
 obtain rfl:b=false:=by simpa using hbf
 clear hbf;obtain⟨RQ,htx⟩:=hbl rfl;have DX:=Y htx;clear htx hbl;by_cases hc0:cut<0
 .go_wp2
  go_ret;exact⟨rfl,HB1⟩
 by_cases hcm:(m:Int)<cut
 .go_wp2
  go_ret;exact⟨rfl,HB1⟩
 go_wp2_with fail
 go_loopw [6,7,8] (fun yG hv iv wr=>∃(i h:Nat) (L:List ByteArray),i<=m/\iv=Z i/\hv=Z h/\h<=L.length/\L.length<=i/\(∀y∈L,y.size<=1000)/\wr.ownsRow W.heap.size 9 1 yG L.length (f_ (fun x=>x) L)/\U W wr) (fun _ _ iv _=>m-(intOf iv).toNat)
 case atStart=>exact⟨0,0,[],Nat.zero_le _,rfl,rfl,E _,E _,fun y hy=>(by cases hy),World.ownsRow_nil _ _ _ _,HB1⟩
 case round =>
  obtain⟨i,h,L,hi,rfl,rfl,ala,Ck,hsz,hr,hb⟩:=hrel;obtain⟨uw,cv,rfl⟩:=fA hr;have HR:=Y hr;have iy:=Y hsz;have HB:=Y hb;clear hr hsz hb;by_cases hlt:i<m
  .have aT:(i:Int)<m:=by omega
   obtain⟨x,hx⟩:∃x,l[i]?=some x:=⟨_,List.getElem?_eq_getElem (by rw[ha.out.1];exact hlt)⟩;obtain⟨g,hg,a1,m1,c1,e0,e1,e2,hA⟩:=(ha.later HB).2 i x hx;have alb:=Y (alc x.wd x.bD x.al a1 m1 c1 wr (Y hA) (DX x (List.mem_of_getElem? hx)));subst hg;clear hx hA
   go_wp2_with fail
   refine alb.mono ?_;rintro e aI ⟨⟨s,is,rfl,hsz⟩,bR⟩;have cr:=Y (ar HB bR);have bE:=Y (dh HR bR);clear bR e0 e1 e2;simp only[];cases is
   .by_cases JL:(i:Int)<cut
    .go_wp2
     exact⟨⟨i+1,L.length,L,by omega,by go_num,rfl,E _,by omega,iy,bE,cr⟩,by simp[intOf];omega⟩
    .go_wp2
     exact⟨⟨i+1,h,L,by omega,by go_num,rfl,ala,by omega,iy,bE,cr⟩,by simp[intOf];omega⟩
   .have hba:U aI (aI.alloc (.cells #[.string s] 9)):=aj
    obtain⟨v6,aA,hap,fB,mU⟩:=Aj (fun x=>x) aI _ L s bE (by omega) cr.size;have ic:=Y ((ar cr hba).grown mU (lTq cr.size hba.size) (fun q hq=>(cB bE hq).1));obtain⟨a6,c6,rfl⟩:=fA fB;have oN:(L++[s]).length=L.length+1:=by simp
    rw[oN]at hap fB;have ew:=Y fB;have cW:=Y hap;have lV:Hid (∀y∈L++[s],y.size<=1000):=Y fun y hy=>(List.mem_append.1 hy).elim (iy y) (fun h=>by rw[List.mem_singleton.1 h];exact hsz);have jh:=Y oN;clear hap fB mU hba oN;by_cases JL:(i:Int)<cut
    .go_wp2_with (at_builtin;refine wpList_append_run rfl _ _ 70 rfl _ _ _ rfl rfl cW ?_)
     exact⟨⟨i+1,L.length+1,L++[s],by omega,by go_num,by go_num,by rw[jh.out];omega,by rw[jh.out];omega,lV,by rw[jh.out];exact ew,ic⟩,by simp[intOf];omega⟩
    .go_wp2_with (at_builtin;refine wpList_append_run rfl _ _ 70 rfl _ _ _ rfl rfl cW ?_)
     exact⟨⟨i+1,h,L++[s],by omega,by go_num,rfl,by rw[jh.out];omega,by rw[jh.out];omega,lV,by rw[jh.out];exact ew,ic⟩,by simp[intOf];omega⟩
  .have aT:¬ (i:Int)<m:=by omega
   obtain⟨n,hn⟩:=aG L.length;have OU:n<=60:=by omega
   have ald:h<=n:=by omega
   have hr:=HR.out;rw[hn]at hr;obtain⟨a2,c2,w2,hap,hs2,hb2⟩:=ale wr hn hr (by omega);have HB2:=Y (ar HB hb2);have rR:=Y (OV (et:=et) a2 n c2 L w2 (Y (hs.later HB2)) (Y (hbt.later HB2)) (Y (hL.later HB2)) (Y (hT.later HB2)) (Y hn) (Y hs2) iy (by omega));have p5:=Y (jw.of (l:=L) HR);have cW:=Y hap;rw[hn];clear hap hs2;obtain⟨hcv,YJ⟩:(n:Int)<=cv/\(uw=none->n=0/\cv=0):=by
    rcases hr.2 with ⟨e,e0⟩ | ⟨g2,c2,cur,e,_,_,hnc,_⟩
    .cases e
     exact⟨by omega,fun _=>⟨rfl,rfl⟩⟩
    .cases e
     exact⟨by omega,fun h=>by cases h⟩
   have atS:(h:Int)<=cv:=by omega
   have atT:(h:Int)<=n:=by omega
   have alf:Hid (∀k,k<=h->gT et dX (fun i=>(L.take h).getD i ⟨#[]⟩) k=gT et dX (fun i=>L.getD i ⟨#[]⟩) k):=Y fun k hk=>(YK k (fun i hi=>by
    have:i<h:=by omega
    simp[List.getD_eq_getElem?_getD,this])).2
   have lL:=Y (OW et dX (fun i=>L.getD i ⟨#[]⟩) n h ald);have alg:Hid ((L.take h).length=h):=Y (by rw[lKq];omega);have HZ2:Hid (∀x∈L.take h,x.size<=1000):=Y fun x hx=>iy x (List.mem_of_mem_take hx);clear hr
   go_wp2_with (at_builtin;refine wpList_append_run rfl _ _ 70 rfl _ _ _ rfl rfl cW ?_)
   refine rR.mono ?_;rintro e w3 ⟨v3,rfl,hr3,hb3⟩;have av:=Y (ar HB2 hb3);obtain⟨a3,c3,rfl⟩:=fA hr3;obtain⟨hc3,DY⟩:(n:Int)<=c3/\(a3=none->n=0/\c3=0):=by
    rcases hr3.2 with ⟨e,e0⟩ | ⟨g2,c2,cur,e,_,_,hnc,_⟩
    .cases e
     exact⟨by omega,fun _=>⟨rfl,rfl⟩⟩
    .cases e
     exact⟨by omega,fun h=>by cases h⟩
   have atU:(h:Int)<=c3:=by omega
   have wE:=(jw.of (l:=gT et dX (fun i=>L.getD i ⟨#[]⟩) n) (by rw[sx];exact hr3)).take h;rw[lL.out]at wE;have ko:=Y wE;have YL:=Y (OV (et:=et) uw h cv (L.take h) w3 (Y (hs.later av)) (Y (hbt.later av)) (Y (hL.later av)) (Y (hT.later av)) alg (Y ((p5.take h).later (ar hb2 hb3))) HZ2 (by omega));rw[alf.out h (E _)]at YL;have DZ:Hid ((gT et dX (fun i=>L.getD i ⟨#[]⟩) h).length=h):=Y (sx _ _ _ _);generalize gT et dX (fun i=>L.getD i ⟨#[]⟩) h=AH at *;clear hr3 hb3 hb2 wE;simp only[];rcases uw with _ | g
   all_goals first
    | (obtain⟨rfl, rfl⟩ := YJ rfl
       obtain rfl:h=0:=by omega
       simp only[Int.natCast_zero])
    | clear YJ
   all_goals
    go_wp2_with fail
    refine YL.mono ?_;rintro e w4 ⟨v4,rfl,hr4,hb4⟩;have bS:=Y (ar av hb4);obtain⟨a4,c4,rfl⟩:=fA hr4;have HST:=Y (YM a3 a4 _ c3 c4 AH w4 DZ (Y (ko.later hb4)) (Y (jw.of (l:=AH) (by rw[DZ.out];exact hr4))) (by omega));clear hr4 hb4;simp only[];rcases a3 with _ | g3
    all_goals first
     | (obtain⟨rfl, rfl⟩ := DY rfl
        obtain rfl:h=0:=by omega
        simp only[Int.natCast_zero])
     | (obtain⟨_,rfl⟩:=DY rfl)
     | clear DY
    all_goals
     go_wp2_with fail
     refine HST.mono ?_;rintro e aI ⟨rfl,bR⟩;have cr:=Y (ar bS bR);clear bR;simp only[];go_wp2;go_ret;exact⟨rfl,cr⟩
end
end bg
end Go.Proofs.YtjolccidheflpaaGreatDoor
