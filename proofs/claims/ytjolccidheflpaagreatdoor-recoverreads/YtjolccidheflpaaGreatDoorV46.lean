/- recover.repeat and recover.Open, by their contracts: a tape that has just the records of batches, and a tail that is no record. -/
import Derived.Test.YtjolccidheflpaaGreatDoorV44
import Derived.Test.YtjolccidheflpaaGreatDoorV38
import Derived.Test.YtjolccidheflpaaGreatDoorV45
namespace Go.Proofs.YtjolccidheflpaaGreatDoor
set_option maxHeartbeats 8000000
open Go.RowKit Go.Shelf
set_option maxRecDepth 100000
theorem Zr:∀ l:List Ask,(∀ a∈l,jm.ac a=0)->eI ((l.map fun a=>(af.cQ a).data.toList).map ai)=0∧((l.map fun a=>(af.cQ a).data.toList).map ai).map af.bq=l
 | [],_=>⟨rfl,rfl⟩
 | a::l,h=>by
  obtain⟨h1,h2⟩:=Zr l fun x hx=>h x (mOq _ hx);obtain⟨h3,h4⟩:=YL (h a mSq);refine⟨?_,?_⟩
  ·show (if bM (af.cQ a)=0 then _ else _)=0
   rw[if_pos h3];exact h1
  ·show af.bq (af.cQ a)::_=_
   rw[h4,h2]
theorem al6 {ad:Nat->Addr} (bt:Nat) (b:af.eH) (hb:af.qA b) (hn:bt<=1000000) (w:World) (hL:jM w) (hS:cP w ad) :
  Calls Tryz.prog 9 #[.string (af.eQ bt b.ds b.l)] w fun e w'=>∃ bf va,e=.returned (.tuple #[.int .i64 bt,bf,va,.nilIface])∧Below w.heap.size w w'∧w'.ownsRow w.heap.size 3 1 bf b.ds.length (eF b.ds)∧w'.ownsRow w.heap.size 95 8 va b.l.length (aL b.l):=by
 have hsz:=af.II bt b.ds b.l hn hb.few hb.PD hb.len;have hp:=alI bt b hb (by omega);obtain⟨h1,h2⟩:=Zr b.l hb.asks;have hc:dI (af.eQ bt b.ds b.l)=0:=by unfold dI;rw[hp];exact h1
 refine(PE (ad:=ad) _ w hL hS (by omega)).mono ?_;rintro e w' ⟨n,bf,va,rfl,hbl,hr,_⟩;obtain⟨rfl,hr1,hr2⟩:=hr _ _ _ hp hc;rw[h2]at hr2;refine⟨bf,va,by rw[hc];rfl,hbl,hr1,?_⟩;simpa using hr2
section
variable {w W:World} {ad:Nat->Addr} {B:cz} {X:cm} {wd h seed:Int} {S:af.St}
theorem al7 (b:af.eH) (hb:af.qA b) (W:World) (H:Hid (aG w W B X wd h seed S)) (hs:Hid (cP w ad)) (hL:Hid (jM w)) (hall:Hid (d6 S.L S.pf S.n wd h)) (hbt:S.bt<=1000000) (OY:S.now<=10000000) :
  Calls Tryz.prog 60 #[.pointer (some ⟨B.V,0,none⟩),.int .i64 S.bt,.string (af.eQ S.bt b.ds b.l)] W fun e w'=>e=.returned .nilIface∧∃ X',aG w w' B X' wd h seed (af.ni wd h seed S b)∧bV W w' B X X'∧d6 (af.ni wd h seed S b).L (af.ni wd h seed S b).pf (af.ni wd h seed S b).n wd h:=by
 have iZ:=hDq (al6 (ad:=ad) S.bt b hb hbt W (hL.out.later H.out.dv) (hs.out.later H.out.dv));generalize hn:S.bt=n at *;have HN:=hDq hn;clear hn;go_enter Tryz.func60,Tryz.ntmps60
 go_wp2_with fail
 refine iZ.out.mono ?_;rintro e w1 ⟨bf,va,rfl,hb1,hrd,ee⟩;have H1:=hDq (H.out.later hb1);have hna:∀ k,va.ownBlock=some k->¬ iG B X k:=fun k hk hv=>by
  have h1:=(ee.lt k hk).1;have h2:=(H.out.iR hv).2;omega
 have zx:=hDq (al8 b.ds b.l bf va W.heap.size W.heap.size w1 H1 hs hall (by rw[HN.out];exact hbt) OY (hDq hrd) (hDq ee) (hDq hna) (hDq hb.few) hb.PD hb.len);clear hrd ee hna iZ;simp only[]
 go_wp2_with fail
 refine zx.out.mono ?_;rintro e w2 ⟨rfl,X',h2,hs2,ha2⟩;have H2:=hDq h2;have HS2:=hDq ((bV.of_below hb1 B X).trans hs2);have bX:=hDq ha2;clear h2 hs2 ha2 zx hb1;simp only[];go_wp2;go_ret;exact⟨rfl,X',H2.out,HS2.out,bX.out⟩
def wt (S:af.St) (tp:List UInt8) (c:Bool) (x:Nat):af.St:={ S with tp:=tp,cut:=c,left:=x }
theorem Zs (tp:List UInt8) (c:Bool) (x:Nat):∀ (H:List af.eH) (S:af.St),af.replay wd h seed (wt S tp c x) H=wt (af.replay wd h seed S H) tp c x
 | [],_=>rfl
 | b::H,S=>Zs tp c x H (af.ni wd h seed S b)
theorem Pw:∀ (H:List af.eH) (S:af.St),(af.replay wd h seed S H).bt=S.bt+H.length∧(af.replay wd h seed S H).now=S.now+3*H.length∧(af.replay wd h seed S H).tp=S.tp∧(af.replay wd h seed S H).cut=S.cut∧(af.replay wd h seed S H).left=S.left∧(af.replay wd h seed S H).down=S.down
 | [],_=>⟨rfl,rfl,rfl,rfl,rfl,rfl⟩
 | b::H,S=>by
  obtain⟨h1,h2,h3,h4,h5,h6⟩:=Pw H (af.ni wd h seed S b);refine⟨h1.trans ?_,h2.trans ?_,h3,h4,h5,h6⟩
  ·show S.bt+1+H.length=_;rw[lCq];omega
  ·show S.now+3+3*H.length=_;rw[lCq];omega
structure al9 (w W w':World) (B:cz) (X:cm) (p:Nat) (bH:Value) (wd h seed:Int) (S:af.St):Prop where
 d:B.d=p
 bQ:aG w w' B X wd h seed S
 turned:aF W w' (fun k=>k=p∨bH.ownBlock=some k)
 own:∀ k,iG B X k->W.heap.size<=k∨k=p∨bH.ownBlock=some k
 fl:W.heap.size<=B.F
 all:d6 S.L S.pf S.n wd h
theorem Zt (H:List af.eH) (hH:∀ b∈H,af.qA b) (hl:H.length<=1000000):∀ s∈af.texts H,s.length<=10000:=by
 have key:∀ (H:List af.eH) (k:Nat),(∀ b∈H,af.qA b)->k+H.length<=1000000->∀ s∈af.qB k H,s.length<=10000:=by
  intro H
  induction H with
  | nil=>intro k _ _ s hs;cases hs
  | cons b H ih =>
   intro k hH hl s hs;rw[lCq]at hl;rcases List.mem_cons.1 hs with rfl | h1
   ·have hb:=hH b mSq
    have:=af.II k b.ds b.l (by omega) hb.few hb.PD hb.len
    rw[Array.length_toList];show (af.eQ k b.ds b.l).size<=10000;omega
   ·exact ih (k+1) (fun x hx=>hH x (mOq _ hx)) (by omega) s h1
 exact key H 0 hH (by omega)
theorem Zu:∀ (H:List af.eH) (k j:Nat) (b:af.eH),H[j]?=some b->(af.qB k H)[j]?=some (af.eQ (k+j) b.ds b.l).data.toList
 | [],_,_,_,h=>by simp at h
 | a::H,k,0,b,h=>by simp at h;subst h;rfl
 | a::H,k,j+1,b,h=>by
  have:=Zu H (k+1) j b (by simpa using h)
  rw[show k+1+j=k+(j+1) by omega]at this;exact this
theorem Zv:∀ (H:List af.eH) (k:Nat),(af.qB k H).length=H.length
 | [],_=>rfl
 | _::H,k=>by show (af.qB (k+1) H).length+1=_;rw[Zv H (k+1)];rfl
theorem alY (ref cash stock:Int) (p:Nat) (bH:Value) (tp:List UInt8) (cut:Bool) (left:Nat) (H:List af.eH) (tail:List UInt8) (W:World) (hbw:Hid (Below w.heap.size w W)) (hs:Hid (cP w ad)) (hL:Hid (jM w))
  (hr:Hid (aO.iz wd h=true)) (hf:Hid (ah.aC ref 1 1000=true)) (HF:Hid (Fl.Fits cash stock)) (hd:Hid (dG W w.heap.size p bH tp cut left)) (qx:Hid (tp=bn.recs (af.texts H)++tail)) (hft:Hid (bn.first tail=none))
  (hH:Hid (∀ b∈H,af.qA b)) (hl:Hid (H.length<=1000000)) (htl:tp.length<=1048576) :
  Calls Tryz.prog 23 #[.agg (fq seed wd h ref cash stock),.pointer (some ⟨p,0,none⟩)] W fun e w'=>∃ B X,e=.returned (.tuple #[.pointer (some ⟨B.V,0,none⟩),.nilIface])∧al9 w W w' B X p bH wd h seed (wt (af.replay wd h seed (af.init ref cash stock) H) (bn.recs (af.texts H)) false 0):=by
 have HB1:Hid (Below W.heap.size W (W.alloc (.cells (fq seed wd h ref cash stock) 45))):=hDq ((bRq _ _).alloc (lRq _) _);have zy:=hDq (XM seed wd h ref cash stock p (W.alloc (.cells (fq seed wd h ref cash stock) 45)) (ad:=ad) (hDq (hs.out.later (hbw.out.trans (HB1.out.mono hbw.out.size)))) hr hf HF);have PG:=hDq (hbw.out.trans (HB1.out.mono hbw.out.size));have Dl:=hDq (show W.heap.size<=(W.alloc (.cells (fq seed wd h ref cash stock) 45)).heap.size from HB1.out.size);have ama:Hid (∀ H,(af.replay wd h seed (wt (af.init ref cash stock) tp cut left) H).bt=H.length∧(af.replay wd h seed (wt (af.init ref cash stock) tp cut left) H).now=3*H.length):=hDq fun H=>by
  obtain⟨h1,h2,_⟩:=Pw (wd:=wd) (h:=h) (seed:=seed) H (wt (af.init ref cash stock) tp cut left);exact⟨h1.trans (Nat.zero_add _),h2.trans (Nat.zero_add _)⟩
 have amb:=hDq (Zs (wd:=wd) (h:=h) (seed:=seed) tp cut left H (af.init ref cash stock));have amc:=hDq (Fl.Sc hr.out hf.out HF.out);unfold fq at zy HB1 PG Dl ⊢;go_enter Tryz.func23,Tryz.ntmps23
 go_wp2_with fail
 generalize W.alloc (.cells #[.int .u32 seed,.int .i64 wd,.int .i64 h,.int .i64 ref,.int .i64 cash,.int .i64 stock] 45)=W1 at *;refine zy.out.mono ?_;rintro e w1 ⟨B,rfl,Oj,hnew⟩;subst Oj;have IK:Below W.heap.size W w1:=HB1.out.trans (hnew.fl.dv.mono Dl.out);have om:dG w1 w.heap.size B.d bH tp cut left:=⟨by rw[IK.block _ (lBq hd.out.cell)];exact hd.out.cell,hd.out.row.turned (aF.of_below IK (fun _=>False)) (fun _ _ h=>h),hd.out.lo⟩;have Zw:Hid (aG w w1 B ⟨fun _=>.slice none 0 0,fun _=>.slice none 0 0,bH⟩ wd h seed (wt (af.init ref cash stock) tp cut left)):=hDq (hnew.bQ PG.out om);have HOW:Hid (∀ k,iG B ⟨fun _=>.slice none 0 0,fun _=>.slice none 0 0,bH⟩ k->W.heap.size<=k∨k=B.d∨bH.ownBlock=some k):=hDq fun k hk=>by
  have hz:=Dl.out;rcases hk with rfl | rfl | ⟨i,hi,rfl | rfl | hk⟩ | hk | rfl | hk
  ·exact .inl (lTq hz hnew.lo)
  ·exact .inl (lTq hz hnew.fl.mG)
  ·exact .inl (lTq hz (hnew.fl.mH i hi))
  ·exact .inl (lTq hz (hnew.fl.aB i hi).lo)
  ·cases hk
  ·rcases hk with rfl | ⟨c,hc,hk⟩
   ·exact .inl (lTq hz hnew.it.lo)
   ·cases hk
  ·exact .inr (.inl rfl)
  ·exact .inr (.inr hk)
 have iO:=hDq (lTq Dl.out hnew.fl.lo);have tX:=hDq IK;have HD1:=hDq om;clear hnew IK om zy HB1 PG Dl;simp only[]
 go_wp2_with fail
 refine(Xi w.heap.size B.d tp cut left w1 ⟨HD1.out.lo,bH,HD1.out.cell,HD1.out.row⟩).mono ?_;rintro e w2 ⟨rfl,rfl⟩;simp only[]
 go_wp2_with fail
 refine(Xm (ba tp) w2 (by rw[NZ];omega)).mono ?_;rintro e w3 ⟨Pt,ts,r,rfl,hread,hst,hb3⟩;rw[Xc,qx.out]at hread;obtain⟨rfl,rfl⟩:=hread.unique (Zt H hH.out hl.out) hft.out;obtain⟨ta,tc,Zx⟩:=eo hst;obtain⟨m,hm⟩:∃ m,H.length=m:=⟨_,rfl⟩;have HM:=hDq hm;unfold Strs at hst;rw[show (af.texts H).length=m from(Zv H 0).trans hm]at Zx hst;have ao6:m<=1000000:=by rw[<- hm];exact hl.out
 clear hm;subst Zx;have HST:=hDq hst;have au:=hDq hb3;have Zy:=hDq (Zw.out.later hb3);clear hst hb3 hread HD1;simp only[]
 go_wp2_with fail
 generalize y8:wt (af.init ref cash stock) tp cut left=S0 at *;have wW:=hDq y8;clear y8;generalize oH:(⟨fun _=>.slice none 0 0,fun _=>.slice none 0 0,bH⟩:cm)=IL at *;have HX0:=hDq oH;clear oH;have HC:Hid (∀ wr X',bV w3 wr B IL X'->∀ k b,H[k]?=some b->∃ g,ta=some ⟨g,0,none⟩∧k<m∧wr.cell? ⟨g,k,none⟩=some (.string (af.eQ k b.ds b.l))):=hDq fun wr X' hst k b hk=>by
  obtain⟨hk1,_⟩:=List.getElem?_eq_some_iff.1 hk;rw[HM.out]at hk1;have hno:∀ g,(Value.slice ta m tc).ownBlock=some g->¬ iG B IL g:=fun g hg hv=>by
   have h1:=(HST.out.lt g hg).1;have h2:=(Zw.out.iR hv).2;omega
  have d9:=fJ HST.out hst.turned hno;rcases d9.2 with ⟨e,e0⟩ | ⟨g,cap,cur,e,_,hg,_,_,_,ht⟩
  ·omega
  ·cases e
   refine⟨g,rfl,hk1,?_⟩;rw[cR wr g k _ _ _ hg,<- Array.getElem?_toList];have h2:=congrArg (·[k]?) ht;have h3:=Zu H 0 k b hk;rw[Nat.zero_add]at h3;simp only[List.getElem?_map]at h2;rw[show (af.texts H)[k]?=_ from h3,List.getElem?_take_of_lt (by omega)]at h2;exact h2
 go_loopw [35] (fun kv wr=>∃ (k:Nat) (X':cm),k<=m∧kv=.int .i64 k∧aG w wr B X' wd h seed (af.replay wd h seed S0 (H.take k))∧bV w3 wr B IL X'∧d6 (af.replay wd h seed S0 (H.take k)).L (af.replay wd h seed S0 (H.take k)).pf (af.replay wd h seed S0 (H.take k)).n wd h) (fun kv _=>m-(intOf kv).toNat)
 case atStart=>exact⟨0,IL,Nat.zero_le _,rfl,Zy.out,bV.refl _ _ _,by rw[List.take_zero];show d6 S0.L S0.pf S0.n wd h;rw[<- wW.out];exact amc.out⟩
 case round =>
  obtain⟨k,X',hk,rfl,hv,hst,ha⟩:=hrel;have cu:=hDq hv;have HS:=hDq hst;have HA:=hDq ha;clear hv hst ha Zy HST;by_cases hlt:k<m
  ·have aK:(k:Int)<m:=by omega
   obtain⟨b,hb⟩:∃ b,H[k]?=some b:=⟨_,List.getElem?_eq_getElem (by rw[HM.out];exact hlt)⟩;have He:=hH.out b (List.mem_of_getElem? hb);obtain⟨g,rfl,_,hc⟩:=HC.out wr X' HS.out k b hb;obtain⟨cK,z2⟩:=ama.out (H.take k);have hlk:(H.take k).length=k:=by rw[lKq];have:=HM.out;omega
   rw[hlk]at cK z2;have j7:Hid (af.replay wd h seed S0 (H.take (k+1))=af.ni wd h seed (af.replay wd h seed S0 (H.take k)) b):=hDq (by rw[List.take_add_one,hb];exact af.Zj _ _ _);have zx:=hDq (al7 b He wr cu hs hL HA (by omega) (by omega));rw[cK]at zx;clear cK z2 hlk HC hb He
   go_wp2_with fail
   refine zx.out.mono ?_;rintro e w4 ⟨rfl,X2,h4,fA,zz⟩;rw[<- j7.out]at h4 zz;have nZ:=hDq h4;have cY:=hDq (HS.out.trans fA);have gF:=hDq zz;clear h4 fA zz zx j7 cu HS HA;simp only[];go_wp2;go_roundw
   case rel=>exact⟨k+1,X2,hlt,by go_num,nZ.out,cY.out,gF.out⟩
   case measure=>simp[intOf];omega
  ·have aK:¬ (k:Int)<m:=by omega
   obtain rfl:k=m:=by omega
   have Iv:(af.replay wd h seed S0 H)=wt (af.replay wd h seed (af.init ref cash stock) H) tp cut left:=amb.out;rw[List.take_of_length_le (by rw[HM.out];exact lRq _),Iv]at cu HA;have zo:=hDq (alS w.heap.size B.d X'.bH tp cut left wr cu.out.dk (by omega))
   go_wp2_with fail
   refine zo.out.mono ?_;rintro e w4 ⟨Pt,v',ts,r',rfl,hrd,CM,Zz,ZA⟩;rw[qx.out]at hrd;obtain⟨rfl,rfl⟩:=hrd.unique (Zt H hH.out hl.out) hft.out;obtain⟨h4,fA⟩:=cu.out.tape (left':=0) CM (ZA.mono (fun k hk=>.inl hk)) (fun k hk=>.inl (Zz▸hk));have nZ:=hDq h4;have cY:=hDq (HS.out.trans fA);clear h4 fA CM Zz ZA hrd zo;simp only[];go_wp2;go_ret2;have hB3:Below W.heap.size W w3:=tX.out.trans (au.out.mono tX.out.size);have ht:=cY.out.turned;refine⟨B,_,rfl,rfl,nZ.out,⟨ht.os.trans hB3.os,ht.tape.trans hB3.tape,ht.output.trans hB3.output,lTq hB3.size ht.size,fun j hj hn=>?_⟩,fun j hj=>?_,iO.out,HA.out⟩
   ·rw[ht.block j (Nat.lt_of_lt_of_le hj hB3.size) (fun hv=>?_)]
    ·exact hB3.block j hj
    ·rcases HOW.out j hv with h1 | h1
     ·omega
     ·exact hn h1
   ·rcases cY.out.new j hj with h1 | h1
    ·exact HOW.out j h1
    ·exact .inl (lTq hB3.size h1)
end
end Go.Proofs.YtjolccidheflpaaGreatDoor
namespace Go.Proofs.YtjolccidheflpaaGreatDoor
set_option maxHeartbeats 8000000
open Go.RowKit
set_option maxRecDepth 100000
namespace af
variable {wd h seed:Int}
noncomputable def xj (wd h seed ref cash stock:Int) (H:List eH):St:=wt (replay wd h seed (init ref cash stock) H) (bn.recs (texts H)) false 0
variable {ref cash stock:Int} {H:List eH}
theorem Pv (H:List eH):(xj wd h seed ref cash stock H).bt=H.length∧(xj wd h seed ref cash stock H).now=3*H.length∧(xj wd h seed ref cash stock H).down=false:=by
 obtain⟨h1,h2,_,_,_,h6⟩:=Pw (wd:=wd) (h:=h) (seed:=seed) H (init ref cash stock);exact⟨h1.trans (Nat.zero_add _),h2.trans (Nat.zero_add _),h6⟩
theorem alT {S:St} (hd:S.down=false) (hc:S.cut=false) (hb:S.bt<=1000) (ht:S.tp.length+992<=1048576) :
  (dh wd h seed S).down=false∧(dh wd h seed S).cut=false∧(dh wd h seed S).now=S.now+1∧(dh wd h seed S).bt=(if (S.now+1)%3=0 then S.bt+1 else S.bt)∧(dh wd h seed S).tp.length<=S.tp.length+992:=by
 obtain⟨t1,t2,t3,_,_,_,alU,t8,_⟩:=uE { S with now:=S.now+1 } 6;have Zd:(bl S).now=S.now+1:=t1;have Px:(bl S).bt=S.bt:=t2;have Ze:(bl S).down=S.down:=t3;have Py:(bl S).tp=S.tp:=alU;have Zf:(bl S).cut=S.cut:=t8;unfold dh;rw[if_neg (by rw[hd];decide)];split
 ·have hr:=alV (bl S) (by rw[Px];exact hb)
  have hfull:full (bL (bl S)) (cn (bl S))=false:=by
   unfold full;rw[show (bL (bl S)).tp=S.tp from Py];simp;omega
  have hcut:(bL (bl S)).cut=false:=Zf.trans hc;have hap:ku (bL (bl S)) (cn (bl S))=true:=by unfold ku;rw[hfull,hcut];rfl
  have e1:bG (bL (bl S)) (cn (bl S)) = { bL (bl S) with tp:=(bL (bl S)).tp++bn.rec (cn (bl S)).data.toList }:=by
   unfold bG;rw[if_neg (by rw[hfull];decide),if_neg (by rw[hcut];decide),if_neg (by rw[hcut];decide)]
  unfold rW;rw[if_pos hap,e1];refine⟨Ze.trans hd,hcut,Zd,?_,?_⟩
  ·show (bl S).bt+1=_;rw[Px]
  ·show ((bl S).tp++bn.rec (cn (bl S)).data.toList).length<=_
   rw[lAq,Py,Pz];omega
 ·exact⟨Ze.trans hd,Zf.trans hc,Zd,Px,by rw[Py];omega⟩
theorem Zg {S:St} (hd:S.down=false) (hc:S.cut=false) (hb:S.bt=0) (hn:S.now=0) (ht:S.tp=[]):∀ k,k<=1000 ->
  (kQ wd h seed S k).down=false∧(kQ wd h seed S k).cut=false∧(kQ wd h seed S k).now=k∧(kQ wd h seed S k).bt=k/3∧(kQ wd h seed S k).tp.length<=992*k
 | 0,_=>⟨hd,hc,hn,hb,by show S.tp.length<=_;rw[ht];exact lRq _⟩
 | k+1,hk=>by
  obtain⟨h1,h2,h3,h4,h5⟩:=Zg hd hc hb hn ht k (by omega);obtain⟨g1,g2,g3,g4,g5⟩:=alT (wd:=wd) (h:=h) (seed:=seed) h1 h2 (by omega) (by omega);refine⟨g1,g2,g3.trans (by omega),g4.trans ?_,lTq g5 (by omega)⟩;rw[h3,h4];split <;> omega
end af
section
variable {w W W':World} {ad:Nat->Addr} {B B':cz} {X X':cm} {v:Nat->Value} {wd h seed:Int} {S T:af.St}
theorem ot.disk {p:Nat} {bH:Value} {tp:List UInt8} {cut:Bool} {left:Int} (H:ot w W B v wd h seed S) (hd:dG W w.heap.size p bH tp cut left) (ht:aF W W' (fun k=>k=p∨bH.ownBlock=some k)):ot w W' B v wd h seed S:=by
 have ty:∀ {k:Nat} {cur:Array Value} {e:TypeId} {fz:Nat×Nat},W.heap[k]?=some (.cells cur e fz)->e≠117∧e≠5->¬ (k=p∨bH.ownBlock=some k):=fun {k cur e fz} hk he=>by
  rintro (rfl | h1)
  ·exact aA hk hd.cell he.1 rfl
  ·exact hd.row.uw hk he.2 h1
 have uy:∀ {i:Nat},i<3->∀ k,(v i).ownBlock=some k->¬ (k=p∨bH.ownBlock=some k):=fun {i} hi k hk=>by
  rcases (H.fl.aB i hi).row.2 with ⟨e1,_⟩ | ⟨r,cap,kL,e1,_,hr2,_⟩
  ·rw[e1]at hk;cases hk
  ·rw[e1]at hk
   have:r=k:=by simpa [Value.ownBlock] using hk
   rw[this]at hr2;exact ty hr2 (by decide)
 have hlo:∀ k,(k=p∨bH.ownBlock=some k)->w.heap.size<=k:=fun k hk=>by
  rcases hk with rfl | hk
  ·exact hd.lo
  ·exact(hd.row.lt k hk).1
 refine⟨?_,?_⟩
 ·rw[ht.block _ (lBq H.blk) (ty H.blk (by decide))];exact H.blk
 ·exact H.fl.turned ht (ty H.fl.blk (by decide)) (ty H.fl.cy (by decide)) (fun i hi=>⟨ty (H.fl.it i hi) (by decide),ty (H.fl.aB i hi).cell (by decide),uy hi⟩) hlo
structure alW (w W w':World) (B B':cz) (X X':cm) (wd h seed ref cash stock:Int) (S:af.St) (H:List af.eH):Prop where
 bQ:aG w w' B' X' wd h seed (af.xj wd h seed ref cash stock H)
 d:B'.d=B.d
 old:aG w w' B { X with bH:=X'.bH } wd h seed { S with tp:=bn.recs (af.texts H),cut:=false,left:=0 }
 step:bV W w' B X { X with bH:=X'.bH }
 keep:∀ {B0:cz} {v0:Nat->Value} {T:af.St},ot w W B0 v0 wd h seed T->ot w w' B0 v0 wd h seed T∧¬ iG B' X' B0.V
 turned:aF W w' (fun k=>k=B.d∨X.bH.ownBlock=some k)
 own:∀ k,iG B' X' k->W.heap.size<=k∨k=B.d∨X.bH.ownBlock=some k
 fl:W.heap.size<=B'.F
 all:d6 (af.xj wd h seed ref cash stock H).L (af.xj wd h seed ref cash stock H).pf (af.xj wd h seed ref cash stock H).n wd h
theorem alX (ref cash stock:Int) (H:List af.eH) (W:World) (cu:Hid (aG w W B X wd h seed S)) (hs:Hid (cP w ad)) (hL:Hid (jM w)) (hr:Hid (aO.iz wd h=true)) (hf:Hid (ah.aC ref 1 1000=true)) (HF:Hid (Fl.Fits cash stock))
  (hI:Hid (af.gA wd h seed (af.init ref cash stock) H S)) (hl:H.length<=1000000) (htl:S.tp.length<=1048576) :
  Calls Tryz.prog 23 #[.agg (fq seed wd h ref cash stock),.pointer (some ⟨B.d,0,none⟩)] W fun e w'=>∃ B' X',e=.returned (.tuple #[.pointer (some ⟨B'.V,0,none⟩),.nilIface])∧alW w W w' B B' X X' wd h seed ref cash stock S H:=by
 obtain⟨tail,e1,e2,_⟩:=hI.out.tp;refine(alY (w:=w) (ad:=ad) (wd:=wd) (h:=h) (seed:=seed) ref cash stock B.d X.bH S.tp S.cut S.left H tail W (hDq cu.out.dv) hs hL hr hf HF (hDq cu.out.dk) (hDq e1) (hDq e2) (hDq hI.out.ok) (hDq hl) htl).mono ?_;rintro e w' ⟨B',X',rfl,O⟩;have alZ:=O.bQ;have hd:dG w' w.heap.size B.d X'.bH (bn.recs (af.texts H)) false ((0:Nat):Int):=by rw[<- O.d];exact O.bQ.dk
 have hn:∀ k,X'.bH.ownBlock=some k->X.bH.ownBlock=some k∨W.heap.size<=k:=fun k hk=>by
  rcases O.own k (.inr (.inr (.inr (.inr (.inr hk))))) with h1 | h1 | h1
  ·exact .inr h1
  ·exact absurd hk (by rw[h1];exact hd.row.uw hd.cell (by decide))
  ·exact .inl h1
 obtain⟨h1,h2⟩:=cu.out.tape hd O.turned hn;refine⟨B',X',rfl,alZ,O.d,h1,h2,fun {B0 v0 T} hF=>⟨hF.disk cu.out.dk O.turned,fun hk=>?_⟩,O.turned,O.own,O.fl,O.all⟩;rcases O.own _ hk with h3 | h3 | h3
 ·exact absurd (lBq hF.blk) (by omega)
 ·exact aA hF.blk cu.out.dk.cell (by decide) h3
 ·exact cu.out.dk.row.uw hF.blk (by decide) h3
end
section
variable {ad:Nat->Addr}
theorem anc (W:World) (hs:Hid (cP W ad)) (ht:Hid (Lib.TabBelow Tryz.prog W.heap.size W "internal/strconv.uint64pow10" .u64 Lib.pow10Tab)) (hL:Hid (jM W)) :
  Calls Tryz.prog 8 #[] W fun e w'=>e=.returned (.bool true)∧Below W.heap.size W w':=by
 have aas:=hDq (fun W'=>ajK W');have I7:=hDq (fun W'=>ajL 5 10 2 100 20000 100 W');have zy:=hDq (fun W' (h':Below W.heap.size W W')=>ajH 5 10 2 100 20000 100 W' (hs.out.later h') (show aO.iz 10 2=true by decide) (show ah.aC 100 1 1000=true by decide) Ol);go_enter Tryz.func8,Tryz.ntmps8
 go_wp2_with fail
 refine(aas.out _).mono ?_;rintro e w2 ⟨rfl,hb2⟩;have HB2:=hDq hb2;clear hb2;simp only[]
 go_wp2_with fail
 refine(I7.out _).mono ?_;rintro e w3 ⟨rfl,hb3⟩;have au:=hDq (HB2.out.trans (hb3.mono HB2.out.size));clear hb3 HB2;simp only[]
 go_wp2_with fail
 refine(zy.out _ au.out).mono ?_;rintro e w4 ⟨B,X,rfl,hv⟩;have gT:Hid (aG W w4 B X 10 2 5 af.S0):=aG.ajG au.out hv;clear hv zy au;simp only[]
 go_wp2_with fail
 go_loopw [3] (fun kv wr=>∃ (k:Nat) (X':cm),k<=7∧kv=.int .i64 k∧aG W wr B X' 10 2 5 (af.kQ 10 2 5 af.S0 k)∧af.Ok k 10 2 (af.kQ 10 2 5 af.S0 k)) (fun kv _=>7-(intOf kv).toNat)
 case atStart=>exact⟨0,X,by omega,rfl,gT.out,ajM⟩
 case round =>
  obtain⟨k,X',hk,rfl,hv,hok⟩:=hrel;have cu:=hDq hv;have gY:=hDq hok;clear hv hok gT;by_cases hlt:k<7
  ·have aK:(k:Int)<7:=by omega
   have j7:=hDq (akY wr cu.out hs.out ht.out gY.out (by omega))
   go_wp2_with fail
   refine j7.out.mono ?_;rintro e aQ ⟨v5,OE,rfl,h5,_,_,aat,_,_⟩;have H5:=hDq h5;have ane:=hDq aat;clear h5 aat j7 cu gY;simp only[];go_wp2;exact⟨⟨k+1,OE,hlt,by go_num,H5.out,ane.out⟩,by simp[intOf];omega⟩
  ·have aK:¬ (k:Int)<7:=by omega
   have aau:k=7:=by omega
   obtain⟨H,hh,_,_⟩:=af.gA.ticks (wd:=10) (h:=2) (seed:=5) (af.anb 100 20000 100) 7 (by decide);obtain⟨_,_,_,hbt,_⟩:=af.Zg (wd:=10) (h:=2) (seed:=5) (S:=af.S0) rfl rfl rfl rfl rfl 7 (by decide);have hlen:H.length=2:=hh.len.symm.trans hbt;have ij:=hDq hlen;rw[aau]at cu gY;obtain⟨aav,aaw⟩:∃ aav,af.kQ 10 2 5 af.S0 7=aav:=⟨_,rfl⟩;have Qh:af.gA 10 2 5 (af.init 100 20000 100) H (af.kQ 10 2 5 af.S0 7):=hh;rw[aaw]at cu gY Qh;have HH:=hDq Qh;clear hh Qh hbt hlen aaw aau
   go_wp2_with fail
   refine(aas.out _).mono ?_;rintro e aQ ⟨rfl,cB⟩;have HV5:=hDq (cu.out.later cB);clear cB cu;simp only[]
   go_wp2_with fail
   refine(I7.out _).mono ?_;rintro e aj ⟨rfl,hb6⟩;have Qi:=hDq (HV5.out.later hb6);clear hb6 HV5;have aax:=hDq (akt aj Qi.out);simp only[]
   go_wp2_with fail
   refine aax.out.mono ?_;rintro e bh ⟨rfl,oO⟩;subst bh;have FJ:=hDq (alX 100 20000 100 H aj Qi hs hL (hDq (show aO.iz 10 2=true by decide)) (hDq (show ah.aC 100 1 1000=true by decide)) (hDq Ol) HH (by rw[ij.out];decide) gY.out.tp);clear aax;simp only[]
   go_wp2_with fail
   refine FJ.out.mono ?_;rintro e bY ⟨B',apo,rfl,hg⟩;have jB:=hDq hg.bQ.dv;have aay:Hid (Calls Tryz.prog 25 #[.pointer (some ⟨B'.V,0,none⟩)] bY fun e w'=>e=.returned (.int .i64 2)∧w'=bY):=by
    have:=aku bY hg.bQ
    rw[(af.Pv H).1,ij.out]at this;exact hDq this
   have rR:Hid (Calls Tryz.prog 26 #[.pointer (some ⟨B'.V,0,none⟩)] bY fun e w'=>e=.returned (.int .i64 6)∧w'=bY):=by
    have:=akv bY hg.bQ
    rw[(af.Pv H).2.1,ij.out]at this;exact hDq this
   have uP:=hDq (amW bY (hDq hg.old.f) (hDq hg.bQ.f) (hDq gY.out.all) HH.out.jq.L.symm HH.out.jq.pf.symm HH.out.jq.n.symm ((af.Pv H).1.trans HH.out.len.symm));clear hg FJ Qi;simp only[]
   go_wp2_with fail
   refine aay.out.mono ?_;rintro e g_ ⟨rfl,yl⟩;subst g_;simp only[]
   go_wp2_with fail
   refine rR.out.mono ?_;rintro e g_ ⟨rfl,yl⟩;subst g_;simp only[]
   go_wp2_with fail
   refine uP.out.mono ?_;rintro e g_ ⟨rfl,mF⟩;have yU:=hDq (jB.out.trans (mF.mono jB.out.size));clear mF uP rR aay jB;simp only[];go_wp2;go_ret;exact⟨rfl,yU.out⟩
end
section
variable {ad:Nat->Addr}
theorem ani (s:ByteArray):dI s<=12:=by
 unfold dI;split
 ·decide
 ·exact lTq (aaC _) (by decide)
theorem aid (s:ByteArray) (W:World) (hs:Hid (cP W ad)) (ht:Hid (Lib.TabBelow Tryz.prog W.heap.size W "internal/strconv.uint64pow10" .u64 Lib.pow10Tab)) (hL:Hid (jM W)) :
  Calls Tryz.prog 3 #[.string s] W fun e w'=>e=.returned (.bool true)∧Below W.heap.size W w':=by
 have yh:=hDq (anc W hs ht hL);by_cases h8:800<s.size
 ·have anj:(800:Int)<s.size:=by omega
  go_enter Tryz.func3,Tryz.ntmps3
  go_wp2_with fail
  refine yh.out.mono ?_;rintro e w1 ⟨rfl,hb1⟩;simp only[];go_wp2;go_ret;exact⟨rfl,hb1⟩
 have anj:¬ (800:Int)<s.size:=by omega
 have HC:=hDq (ani s);by_cases hc:dI s=0
 ·obtain⟨m,ds,fs,hp⟩:∃ m ds fs,dY s=some (m,ds,fs):=by
   cases h:dY s with
   | none=>unfold dI at hc;rw[h]at hc;cases hc
   | some r=>obtain⟨m,ds,fs⟩:=r;exact⟨m,ds,fs,rfl⟩
  have tN:eI (fs.map ai)=0:=by unfold dI at hc;rw[hp]at hc;exact hc
  have LR:=hDq (ang hp tN);obtain⟨apq,aaE,hdl,hfl⟩:=anh hp (by omega);have I7:Hid (∀ a∈(fs.map ai).map af.bq,jm.ac a=0):=hDq fun a ha=>by
   obtain⟨f,hf,rfl⟩:=List.mem_map.1 ha;exact anf (Qk _ tN f hf)
  have HP:=hDq hp;have HD5:=hDq aaE;have ju:=hDq hc;have NE:((fs.map ai).map af.bq).length<=1000:=by rw[List.length_map,List.length_map];omega
  clear hp tN aaE hc;go_enter Tryz.func3,Tryz.ntmps3
  go_wp2_with fail
  refine yh.out.mono ?_;rintro e w1 ⟨rfl,hb1⟩;have HB1:=hDq hb1;clear hb1;have iZ:=hDq (PE (ad:=ad) s w1 (hL.out.later HB1.out) (hs.out.later HB1.out) (by omega));simp only[]
  go_wp2_with fail
  refine iZ.out.mono ?_;rintro e w2 ⟨n,bf,va,rfl,hb2,hok,_⟩;obtain⟨rfl,hrd,ee⟩:=hok m ds fs HP.out ju.out;have DF:w2.ownsRow w1.heap.size 95 8 va ((fs.map ai).map af.bq).length (aL ((fs.map ai).map af.bq)):=by simpa using ee
  have HB2:=hDq (HB1.out.trans (hb2.mono HB1.out.size));have aaF:=hDq hrd;have aaG:=hDq DF;have DG:=hDq (ZS s w2 (by omega));clear hb2 hok hrd ee DF iZ;simp only[]
  go_wp2_with fail
  refine DG.out.mono ?_;rintro e w3 ⟨n,aaH,Ql,rfl,hb3,hok,_⟩;obtain⟨rfl,hrd,ee⟩:=hok m ds fs HP.out ju.out;have DF:w3.ownsRow w2.heap.size 95 8 Ql ((fs.map ai).map af.bq).length (aL ((fs.map ai).map af.bq)):=by simpa using ee
  have au:=hDq (HB2.out.trans (hb3.mono HB2.out.size));have Qm:=hDq (bR aaF.out hb3);have aaI:=hDq (bR aaG.out hb3);have aaJ:=hDq hrd;have aaK:=hDq DF;clear hb3 hok hrd ee DF DG aaF aaG;have ko:=hDq (aaB (dI s) HC.out ad w3 (hDq (hs.out.later au.out)));rw[ju.out,show ja ad 0=.nilIface from rfl]at ko;rw[ju.out,show ja ad 0=.nilIface from rfl];simp only[]
  go_wp2_with fail
  refine ko.out.mono ?_;rintro e w4 ⟨rfl,hb4⟩;have bg:=hDq (au.out.trans (hb4.mono au.out.size));have DI:=hDq (aaz bf aaH ds w4 (by omega) (bR Qm.out hb4) (bR aaJ.out hb4));have Qn:=hDq (bR aaI.out hb4);have aaL:=hDq (bR aaK.out hb4);have IV:=hDq (bR Qm.out hb4);clear hb4 ko Qm aaJ aaI aaK;simp only[]
  go_wp2_with fail
  refine DI.out.mono ?_;rintro e aQ ⟨rfl,cB⟩;have bE:=hDq (bg.out.trans (cB.mono bg.out.size));have uP:=hDq (aaA va Ql _ aQ NE (bR Qn.out cB) (bR aaL.out cB));have aaM:=hDq (bR Qn.out cB);have aaN:=hDq (bR IV.out cB);clear cB DI Qn aaL IV;simp only[]
  go_wp2_with fail
  refine uP.out.mono ?_;rintro e aj ⟨rfl,hb6⟩;have aS:=hDq (bE.out.trans (hb6.mono bE.out.size));have Qo:=hDq (amB m ds _ bf va _ _ aj (by omega) (hDq (bR aaN.out hb6)) (hDq (bR aaM.out hb6)) (by omega) (hDq fun d hd=>by have:=HD5.out d hd;omega) NE I7);rw[LR.out]at Qo;clear hb6 uP aaM aaN;simp only[]
  go_wp2_with fail
  refine Qo.out.mono ?_;rintro e bh ⟨rfl,jc⟩;have k0:=hDq (aS.out.trans (jc.mono aS.out.size));clear jc Qo;simp only[];go_wp2;go_ret;exact⟨by simp,k0.out⟩
 ·obtain⟨c,hcc⟩:∃ c,dI s=c+1:=⟨dI s-1,by omega⟩
  have vk:=hDq hcc;have ju:=hDq hc;clear hc hcc;go_enter Tryz.func3,Tryz.ntmps3
  go_wp2_with fail
  refine yh.out.mono ?_;rintro e w1 ⟨rfl,hb1⟩;have HB1:=hDq hb1;clear hb1;have iZ:=hDq (PE (ad:=ad) s w1 (hL.out.later HB1.out) (hs.out.later HB1.out) (by omega));simp only[]
  go_wp2_with fail
  refine iZ.out.mono ?_;rintro e w2 ⟨n,bf,va,rfl,hb2,_,lM⟩;obtain⟨rfl,rfl,rfl⟩:=lM ju.out;have HB2:=hDq (HB1.out.trans (hb2.mono HB1.out.size));have DG:=hDq (ZS s w2 (by omega));clear hb2 lM iZ;obtain⟨ev,hev⟩:∃ ev,ja ad (dI s)=ev:=⟨_,rfl⟩;rw[hev];simp only[]
  go_wp2_with fail
  refine DG.out.mono ?_;rintro e w3 ⟨n,aaH,Ql,rfl,hb3,_,lM⟩;obtain⟨rfl,rfl,rfl⟩:=lM ju.out;have au:=hDq (HB2.out.trans (hb3.mono HB2.out.size));have ko:=hDq (aaB (dI s) HC.out ad w3 (hDq (hs.out.later au.out)));rw[hev]at ko;rw[vk.out]at ko ⊢;have hpos:(0:Int)<((c+1:Nat):Int):=by omega
  obtain⟨q,hq⟩:∃ q,c+1=q:=⟨_,rfl⟩;rw[hq]at ko hpos ⊢;clear hb3 lM DG hev hq;simp only[]
  go_wp2_with fail
  refine ko.out.mono ?_;rintro e w4 ⟨rfl,hb4⟩;have bg:=hDq (au.out.trans (hb4.mono au.out.size));have DI:=hDq (aaz (b1:=0) (b2:=0) (.slice none 0 0) (.slice none 0 0) [] w4 (by decide) (World.ownsRow_nil _ _ _ _) (World.ownsRow_nil _ _ _ _));clear hb4 ko;simp only[]
  go_wp2_with fail
  refine DI.out.mono ?_;rintro e aQ ⟨rfl,cB⟩;have bE:=hDq (bg.out.trans (cB.mono bg.out.size));have uP:=hDq (aaA (b1:=0) (b2:=0) (.slice none 0 0) (.slice none 0 0) [] aQ (by decide) (World.ownsRow_nil _ _ _ _) (World.ownsRow_nil _ _ _ _));clear cB DI;simp only[]
  go_wp2_with fail
  refine uP.out.mono ?_;rintro e aj ⟨rfl,hb6⟩;have aS:=hDq (bE.out.trans (hb6.mono bE.out.size));clear hb6 uP;simp only[];go_wp2;go_ret;exact⟨rfl,aS.out⟩
end
end Go.Proofs.YtjolccidheflpaaGreatDoor
