/- recover.repeat and recover.Open, by their contracts: a tape that has just the records of batches, and a tail that is no record. -/
import Derived.Test.YtjolccidheflpaaGreatDoorX45
import Derived.Test.YtjolccidheflpaaGreatDoorX34
import Derived.Test.YtjolccidheflpaaGreatDoorX46
namespace Go.Proofs.YtjolccidheflpaaGreatDoor
open Go.Proofs.Tryz
set_option maxHeartbeats 8000000
set_option maxRecDepth 100000
open Go.RowKit
theorem arw(base p:Nat)(v:Value)(l:List UInt8)(cut:Bool)(left:Int)(w:World)(hd:eD w base p v l cut left)(hl:l.length<=1100000):
  Calls prog 61 #[Rw p] w fun e w'=>∃Rh v' ts r,e=.returned (.tuple #[Rh,.nilIface])/\bL.A6 l ts r/\eD w' base p v' (bL.recs ts) false 0/\v'.ownBlock=v.ownBlock/\aL w w' (fun k=>k=p):=by
 have o8:eD ((w.setCell (O p 1) (.bool false)).setCell (O p 2) (Z 0)) base p v l false 0 :=
  ⟨aoz hd.cell,(hd.row.setCell hd.cell _).setCell (heap_setCell_same w p 1 _ 117 (.bool false) hd.cell) _,hd.lo⟩
 have ht1:aL w ((w.setCell (O p 1) (.bool false)).setCell (O p 2) (Z 0)) (fun k=>k=p):=by
  have:=((bRq 0 w).setCell (p:=(O p 1)) (Nat.zero_le _) (.bool false)).setCell (p:=(O p 2)) (Nat.zero_le _) (Z 0)
  refine⟨this.os,this.tape,this.output,this.size,fun k hk hn=>?_⟩;rw[(Lib.grownBy_setCell _ _ _ _).block k (by simpa using hk) (by simp;exact hn),(Lib.grownBy_setCell _ _ _ _).block k hk (by simp;exact hn)]
 have HD1:=Y o8;have HT1:=Y ht1;clear o8 ht1;have Hp:=Y hd.cell;go_enter func61,ntmps61
 go_wp2_with fail
 refine(aoy p v cut left w Hp).mono ?_;rintro e w1 ⟨rfl,rfl⟩;generalize (w.setCell (O p 1) (.bool false)).setCell (O p 2) (Z 0)=w1 at *
 go_wp2_with fail
 refine(aap base p l false 0 w1 ⟨HD1.lo,v,HD1.cell,HD1.row⟩).mono ?_;rintro e w2 ⟨rfl,rfl⟩
 go_wp2_with fail
 refine(Ir (ba l) _ (by rw[P0];exact hl)).mono ?_;rintro e w3 ⟨v3,ts,r,rfl,hread,hst,hb3⟩;rw[aaj]at hread;have j4:=Y hread;have HT3:=Y (HT1.trans (aL.of_below hb3 (fun _=>False)) (fun k h=>h.elim));have rX:Hid (w3.heap[p]?=some (.cells #[v,.bool false,Z 0] 117 (0,0))):=by rw[hb3.block p (lBq HD1.out.cell)];exact HD1.cell
 have HR3:=Y (HD1.row.turned (aL.of_below hb3 (fun _=>False)) (fun _ _ h=>h));have hn:(bL.recs ts).length<=l.length:=by
  have:=congrArg List.length hread.1
  rw[lAq]at this;omega
 clear hread hst hb3;obtain⟨g3,DJ,hv3,hc3⟩:=HR3.form;rw[jH]at hv3 hc3;subst hv3;obtain⟨lW,k1,k2,kf,auM⟩:=sJ rX;generalize hq:(bL.recs ts).length=q at *;have auN:q<=DJ:=by omega
 have Fw:(q:Int)<=DJ:=by omega
 simp only[];go_wp2;go_ret2;have hrow:eA w3 base (.slice (some (O g3 0)) q DJ) (ints (bL.recs ts)):=by have h:=HR3.take q (by rw[jH];exact hn);rw[<- aai,show l.take q=bL.recs ts by rw[j4.out.1,<- hq,List.take_left]]at h;exact h
 refine⟨v3,_,ts,r,rfl,j4,⟨heap_setCell_same w3 p 0 _ 117 _ rX,hrow.setCell rX _,HD1.lo⟩,rfl,?_⟩;refine HT3.trans (S1:=fun k=>k=p) ?_ (fun k h=>.inl h)
 have:=(bRq 0 w3).setCell (p:=(O p 0)) (Nat.zero_le _) (Value.slice (some (O g3 0)) q DJ)
 exact⟨this.os,this.tape,this.output,this.size,fun k hk hn=>(Lib.grownBy_setCell _ _ _ _).block k hk (by simp;exact hn)⟩
end Go.Proofs.YtjolccidheflpaaGreatDoor
namespace Go.Proofs.YtjolccidheflpaaGreatDoor
open Go.Proofs.Tryz
set_option maxHeartbeats 8000000
set_option maxRecDepth 100000
section
open Go.RowKit Go.Shelf
theorem acr:∀l:List Ask,(∀a∈l,a_.ac a=0)->kB ((l.map fun a=>(Ve.bA a).data.toList).map aZ)=0/\((l.map fun a=>(Ve.bA a).data.toList).map aZ).map Ve.cH=l
 | [],_=>⟨rfl,rfl⟩
 | a::l,h=>by
  obtain⟨h1,h2⟩:=acr l fun x hx=>h x (mOq _ hx);obtain⟨h3,h4⟩:=AV (h a mSq);refine⟨?_,?_⟩
  .show (if eM (Ve.bA a)=0 then _ else _)=0
   rw[if_pos h3];exact h1
  .show Ve.cH (Ve.bA a)::_=_
   rw[h4,h2]
theorem arG{ad:Nat->Addr}(bt:Nat)(b:Ve.dU)(hb:Ve.rC b)(hn:bt<=1000000)(w:World)(hL:ik w)(hS:bJ w ad):
  Calls prog 9 #[.string (Ve.iq bt b.ds b.l)] w fun e w'=>∃bY va,e=.returned (.tuple #[Z bt,bY,va,.nilIface])/\U w w'/\w'.ownsRow w.heap.size 3 1 bY b.ds.length (lg b.ds)/\w'.ownsRow w.heap.size 95 8 va b.l.length (bz b.l):=by
 have hsz:=Ve.Io bt b.ds b.l hn hb.few hb.Rj hb.len;have hp:=arn bt b hb (by omega);obtain⟨h1,h2⟩:=acr b.l hb.asks;have hc:uU (Ve.iq bt b.ds b.l)=0:=by unfold uU;rw[hp];exact h1
 refine(arH (ad:=ad) _ w hL hS (by omega)).mono ?_;rintro e w' ⟨n,bY,va,rfl,hbl,hr,_⟩;obtain⟨rfl,hr1,hr2⟩:=hr _ _ _ hp hc;rw[h2]at hr2;refine⟨bY,va,by rw[hc];rfl,hbl,hr1,?_⟩;simpa using hr2
section
variable {w W:World} {ad:Nat->Addr} {B:bO} {X:bQ} {wd h seed:Int} {S:Ve.St}
theorem arI(b:Ve.dU)(hb:Ve.rC b)(W:World)(H:Hid (aM w W B X wd h seed S))(hs:Hid (bJ w ad))(hL:Hid (ik w))(hall:Hid (dc S.L S.pf S.n wd h))(hbt:S.bt<=1000000)(QS:S.now<=10000000):
  Calls prog 60 #[Rw B.V,Z S.bt,.string (Ve.iq S.bt b.ds b.l)] W fun e w'=>e=.returned .nilIface/\∃X',aM w w' B X' wd h seed (Ve.n_ wd h seed S b)/\br W w' B X X'/\dc (Ve.n_ wd h seed S b).L (Ve.n_ wd h seed S b).pf (Ve.n_ wd h seed S b).n wd h:=by
 have j4:=Y (arG (ad:=ad) S.bt b hb hbt W (hL.later H.bG) (hs.later H.bG));generalize hn:S.bt=n at *;have HN:=Y hn;clear hn;go_enter func60,ntmps60
 go_wp2_with fail
 refine j4.mono ?_;rintro e w1 ⟨bY,va,rfl,hb1,hrd,iZ⟩;have H1:=Y (H.later hb1);have hna:∀k,va.ownBlock=some k->¬ dV B X k:=fun k hk hv=>by
  have h1:=(iZ.lt k hk).1;have h2:=(H.ig hv).2;omega
 have yX:=Y (arJ b.ds b.l bY va W.heap.size W.heap.size w1 H1 hs hall (by rw[HN.out];exact hbt) QS (Y hrd) (Y iZ) (Y hna) (Y hb.few) hb.Rj hb.len);clear hrd iZ hna;simp only[]
 go_wp2_with fail
 refine yX.mono ?_;rintro e w2 ⟨rfl,X',h2,hs2,ha2⟩;have H2:=Y h2;have HS2:=Y ((br.of_below hb1 B X).trans hs2);have cJ:=Y ha2;clear h2 hs2 ha2 hb1;simp only[];go_wp2;go_ret;exact⟨rfl,X',H2,HS2,cJ⟩
def wt(S:Ve.St)(tp:List UInt8)(c:Bool)(x:Nat):Ve.St:={ S with tp:=tp,cut:=c,left:=x }
theorem acs(tp:List UInt8)(c:Bool)(x:Nat):∀(H:List Ve.dU) (S:Ve.St),Ve.replay wd h seed (wt S tp c x) H=wt (Ve.replay wd h seed S H) tp c x
 | [],_=>rfl
 | b::H,S=>acs tp c x H (Ve.n_ wd h seed S b)
theorem Ri:∀(H:List Ve.dU) (S:Ve.St),(Ve.replay wd h seed S H).bt=S.bt+H.length/\(Ve.replay wd h seed S H).now=S.now+3*H.length/\(Ve.replay wd h seed S H).tp=S.tp/\(Ve.replay wd h seed S H).cut=S.cut/\(Ve.replay wd h seed S H).left=S.left/\(Ve.replay wd h seed S H).down=S.down
 | [],_=>⟨rfl,rfl,rfl,rfl,rfl,rfl⟩
 | b::H,S=>by
  obtain⟨h1,h2,h3,h4,h5,h6⟩:=Ri H (Ve.n_ wd h seed S b);refine⟨h1.trans ?_,h2.trans ?_,h3,h4,h5,h6⟩
  .show S.bt+1+H.length=_;rw[lCq];omega
  .show S.now+3+3*H.length=_;rw[lCq];omega
structure arK (w W w':World) (B:bO) (X:bQ) (p:Nat) (bZ:Value) (wd h seed:Int) (S:Ve.St):Prop where
 d:B.d=p
 aV:aM w w' B X wd h seed S
 turned:aL W w' (fun k=>k=p\/bZ.ownBlock=some k)
 own:∀k,dV B X k->W.heap.size<=k\/k=p\/bZ.ownBlock=some k
 fl:W.heap.size<=B.F
 all:dc S.L S.pf S.n wd h
theorem acu(H:List Ve.dU)(hH:∀b∈H,Ve.rC b)(hl:H.length<=1000000):∀s∈Ve.texts H,s.length<=10000:=by
 have key:∀(H:List Ve.dU) (k:Nat),(∀b∈H,Ve.rC b)->k+H.length<=1000000->∀s∈Ve.sR k H,s.length<=10000:=by
  intro H
  induction H with
  | nil=>intro k _ _ s hs;cases hs
  | cons b H ih =>
   intro k hH hl s hs;rw[lCq]at hl;rcases List.mem_cons.1 hs with rfl | h1
   .have hb:=hH b mSq
    have:=Ve.Io k b.ds b.l (by omega) hb.few hb.Rj hb.len
    rw[Array.length_toList];show (Ve.iq k b.ds b.l).size<=10000;omega
   .exact ih (k+1) (fun x hx=>hH x (mOq _ hx)) (by omega) s h1
 exact key H 0 hH (by omega)
theorem acv:∀(H:List Ve.dU) (k j:Nat) (b:Ve.dU),H[j]?=some b->(Ve.sR k H)[j]?=some (Ve.iq (k+j) b.ds b.l).data.toList
 | [],_,_,_,h=>by simp at h
 | a::H,k,0,b,h=>by simp at h;subst h;rfl
 | a::H,k,j+1,b,h=>by
  have:=acv H (k+1) j b (by simpa using h)
  rw[show k+1+j=k+(j+1) by omega]at this;exact this
theorem acw:∀(H:List Ve.dU) (k:Nat),(Ve.sR k H).length=H.length
 | [],_=>rfl
 | _::H,k=>by show (Ve.sR (k+1) H).length+1=_;rw[acw H (k+1)];rfl
theorem ary(ref cash stock:Int)(p:Nat)(bZ:Value)(tp:List UInt8)(cut:Bool)(left:Nat)(H:List Ve.dU)(tail:List UInt8)(W:World)(hbw:Hid (U w W))(hs:Hid (bJ w ad))(hL:Hid (ik w))(hr:Hid (bm.jK wd h=true))(hf:Hid (ah.aK ref 1 1000=true))(HF:Hid (Fl.Fits cash stock))(hd:Hid (eD W w.heap.size p bZ tp cut left))(sQ:Hid (tp=bL.recs (Ve.texts H)++tail))(hft:Hid (bL.first tail=none))(hH:Hid (∀b∈H,Ve.rC b))(hl:Hid (H.length<=1000000))(htl:tp.length<=1048576):
  Calls prog 23 #[.agg (jb seed wd h ref cash stock),Rw p] W fun e w'=>∃B X,e=.returned (.tuple #[Rw B.V,.nilIface])/\arK w W w' B X p bZ wd h seed (wt (Ve.replay wd h seed (Ve.init ref cash stock) H) (bL.recs (Ve.texts H)) false 0):=by
 have HB1:Hid (U W (W.alloc (.cells (jb seed wd h ref cash stock) 45))):=Y aj;have Ew:=Y (aaX seed wd h ref cash stock p (W.alloc (.cells (jb seed wd h ref cash stock) 45)) (ad:=ad) (Y (hs.later (ar hbw HB1))) hr hf HF);have acx:=Y (ar hbw HB1);have gU:=Y (show W.heap.size<=(W.alloc (.cells (jb seed wd h ref cash stock) 45)).heap.size from HB1.size);have arL:Hid (∀H,(Ve.replay wd h seed (wt (Ve.init ref cash stock) tp cut left) H).bt=H.length/\(Ve.replay wd h seed (wt (Ve.init ref cash stock) tp cut left) H).now=3*H.length):=Y fun H=>by
  obtain⟨h1,h2,_⟩:=Ri (wd:=wd) (h:=h) (seed:=seed) H (wt (Ve.init ref cash stock) tp cut left);exact⟨h1.trans (Nat.zero_add _),h2.trans (Nat.zero_add _)⟩
 have tN:=Y (acs (wd:=wd) (h:=h) (seed:=seed) tp cut left H (Ve.init ref cash stock));have arM:=Y (Fl.TB hr hf HF);unfold jb at Ew HB1 acx gU ⊢;go_enter func23,ntmps23
 go_wp2_with fail
 generalize W.alloc (.cells #[.int .u32 seed,Z wd,Z h,Z ref,Z cash,Z stock] 45)=W1 at *;refine Ew.mono ?_;rintro e w1 ⟨B,rfl,Qo,hnew⟩;subst Qo;have Jy:U W w1:=HB1.trans (hnew.fl.bG.mono gU);have o8:eD w1 w.heap.size B.d bZ tp cut left:=⟨by rw[Jy.block _ (lBq hd.out.cell)];exact hd.cell,hd.row.turned (aL.of_below Jy (fun _=>False)) (fun _ _ h=>h),hd.lo⟩;have acy:Hid (aM w w1 B ⟨fun _=>.slice none 0 0,fun _=>.slice none 0 0,bZ⟩ wd h seed (wt (Ve.init ref cash stock) tp cut left)):=Y (hnew.aV acx o8);have HOW:Hid (∀k,dV B ⟨fun _=>.slice none 0 0,fun _=>.slice none 0 0,bZ⟩ k->W.heap.size<=k\/k=B.d\/bZ.ownBlock=some k):=Y fun k hk=>by
  have hz:=gU.out;rcases hk with rfl | rfl | ⟨i,hi,rfl | rfl | hk⟩ | hk | rfl | hk
  .exact .inl (lTq hz hnew.lo)
  .exact .inl (lTq hz hnew.fl.oH)
  .exact .inl (lTq hz (hnew.fl.oI i hi))
  .exact .inl (lTq hz (hnew.fl.aO i hi).lo)
  .cases hk
  .rcases hk with rfl | ⟨c,hc,hk⟩
   .exact .inl (lTq hz hnew.it.lo)
   .cases hk
  .exact .inr (.inl rfl)
  .exact .inr (.inr hk)
 have vI:=Y (lTq gU hnew.fl.lo);have Az:=Y Jy;have HD1:=Y o8;clear hnew Jy o8;simp only[]
 go_wp2_with fail
 refine(aap w.heap.size B.d tp cut left w1 ⟨HD1.lo,bZ,HD1.cell,HD1.row⟩).mono ?_;rintro e w2 ⟨rfl,rfl⟩;simp only[]
 go_wp2_with fail
 refine(Ir (ba tp) w2 (by rw[P0];omega)).mono ?_;rintro e w3 ⟨Rh,ts,r,rfl,hread,hst,hb3⟩;rw[aaj,sQ.out]at hread;obtain⟨rfl,rfl⟩:=hread.unique (acu H hH hl) hft;obtain⟨ta,tc,acz⟩:=fA hst;obtain⟨m,hm⟩:=aG H.length;have HM:=Y hm;unfold Strs at hst;rw[show (Ve.texts H).length=m from(acw H 0).trans hm]at acz hst;have auO:m<=1000000:=by rw[<- hm];exact hl
 clear hm;subst acz;have HST:=Y hst;have av:=Y hb3;have arN:=Y (acy.later hb3);clear hst hb3 hread;simp only[]
 go_wp2_with fail
 generalize AL:wt (Ve.init ref cash stock) tp cut left=S0 at *;have p5:=Y AL;clear AL;generalize qg:(⟨fun _=>.slice none 0 0,fun _=>.slice none 0 0,bZ⟩:bQ)=yj at *;have HX0:=Y qg;clear qg;have HC:Hid (∀wr X',br w3 wr B yj X'->∀k b,H[k]?=some b->∃g,ta=some (O g 0)/\k<m/\wr.cell? (O g k)=some (.string (Ve.iq k b.ds b.l))):=Y fun wr X' hst k b hk=>by
  obtain⟨hk1,_⟩:=List.getElem?_eq_some_iff.1 hk;rw[HM.out]at hk1;have hno:∀g,(Value.slice ta m tc).ownBlock=some g->¬ dV B yj g:=fun g hg hv=>by
   have h1:=(HST.lt g hg).1;have h2:=(acy.ig hv).2;omega
  have dZ:=eV HST hst.turned hno;rcases dZ.2 with ⟨e,e0⟩ | ⟨g,cap,cur,e,_,hg,_,_,_,ht⟩
  .omega
  .cases e
   refine⟨g,rfl,hk1,?_⟩;rw[cR wr g k _ _ _ hg,<- Array.getElem?_toList];have h2:=congrArg (·[k]?) ht;have h3:=acv H 0 k b hk;rw[Nat.zero_add]at h3;simp only[List.getElem?_map]at h2;rw[show (Ve.texts H)[k]?=_ from h3,List.getElem?_take_of_lt (by omega)]at h2;exact h2
 go_loopw [35] (fun kv wr=>∃(k:Nat) (X':bQ),k<=m/\kv=Z k/\aM w wr B X' wd h seed (Ve.replay wd h seed S0 (H.take k))/\br w3 wr B yj X'/\dc (Ve.replay wd h seed S0 (H.take k)).L (Ve.replay wd h seed S0 (H.take k)).pf (Ve.replay wd h seed S0 (H.take k)).n wd h) (fun kv _=>m-(intOf kv).toNat)
 case atStart=>exact⟨0,yj,Nat.zero_le _,rfl,arN,br.refl _ _ _,by rw[List.take_zero];show dc S0.L S0.pf S0.n wd h;rw[<- p5.out];exact arM⟩
 case round =>
  obtain⟨k,X',hk,rfl,hv,hst,ha⟩:=hrel;have dM:=Y hv;have HS:=Y hst;have HA:=Y ha;clear hv hst ha;by_cases hlt:k<m
  .have aT:(k:Int)<m:=by omega
   obtain⟨b,hb⟩:∃b,H[k]?=some b:=⟨_,List.getElem?_eq_getElem (by rw[HM.out];exact hlt)⟩;have H_:=hH.out b (List.mem_of_getElem? hb);obtain⟨g,rfl,_,hc⟩:=HC.out wr X' HS k b hb;obtain⟨dw,z2⟩:=arL.out (H.take k);have hlk:(H.take k).length=k:=by rw[lKq];have:=HM.out;omega
   rw[hlk]at dw z2;have rY:Hid (Ve.replay wd h seed S0 (H.take (k+1))=Ve.n_ wd h seed (Ve.replay wd h seed S0 (H.take k)) b):=Y (by rw[List.take_add_one,hb];exact Ve.aci _ _ _);have yX:=Y (arI b H_ wr dM hs hL HA (by omega) (by omega));rw[dw]at yX;clear dw z2 hlk hb H_
   go_wp2_with fail
   refine yX.mono ?_;rintro e w4 ⟨rfl,X2,h4,cK,Bj⟩;rw[<- rY.out]at h4 Bj;have pW:=Y h4;have dL:=Y (HS.trans cK);have gF:=Y Bj;clear h4 cK Bj;simp only[];go_wp2;go_roundw
   case rel=>exact⟨k+1,X2,hlt,by go_num,pW,dL,gF⟩
   case measure=>simp[intOf];omega
  .have aT:¬ (k:Int)<m:=by omega
   obtain rfl:k=m:=by omega
   have acA:(Ve.replay wd h seed S0 H)=wt (Ve.replay wd h seed (Ve.init ref cash stock) H) tp cut left:=tN.out;rw[List.take_of_length_le (by rw[HM.out];exact E _),acA]at dM HA;have Jr:=Y (arw w.heap.size B.d X'.bZ tp cut left wr dM.dk (by omega))
   go_wp2_with fail
   refine Jr.mono ?_;rintro e w4 ⟨Rh,v',ts,r',rfl,hrd,EN,acB,uJ⟩;rw[sQ.out]at hrd;obtain⟨rfl,rfl⟩:=hrd.unique (acu H hH hl) hft;obtain⟨h4,cK⟩:=dM.tape (left':=0) EN (uJ.mono (fun k hk=>.inl hk)) (fun k hk=>.inl (acB▸hk));have pW:=Y h4;have dL:=Y (HS.trans cK);clear h4 cK EN acB uJ hrd;simp only[];go_wp2;go_ret2;have hB3:U W w3:=ar Az av;have ht:=dL.turned;refine⟨B,_,rfl,rfl,pW,⟨ht.os.trans hB3.os,ht.tape.trans hB3.tape,ht.output.trans hB3.output,lTq hB3.size ht.size,fun j hj hn=>?_⟩,fun j hj=>?_,vI,HA⟩
   .rw[ht.block j (Nat.lt_of_lt_of_le hj hB3.size) (fun hv=>?_)]
    .exact hB3.block j hj
    .rcases HOW.out j hv with h1 | h1
     .omega
     .exact hn h1
   .rcases dL.new j hj with h1 | h1
    .exact HOW j h1
    .exact .inl (lTq hB3.size h1)
end
end
section
open Go.RowKit
namespace Ve
variable {wd h seed:Int}
noncomputable def jy (wd h seed ref cash stock:Int) (H:List dU):St:=wt (replay wd h seed (init ref cash stock) H) (bL.recs (texts H)) false 0
theorem arx{Q:Nat->List Ask}(hQ:∀c,Q c=[]){t:Nat}(ht:t<6)(c:Nat):az.Ac Q t c=[]:=(QF ht c).2 (hQ c)
theorem ace:∀(H:List dU) (S:St),(∀c,S.Q c=[])->S.t<6 ->
  (replay wd h seed S H).la=S.la/\(replay wd h seed S H).aF=S.aF/\(replay wd h seed S H).on=S.on/\(replay wd h seed S H).ak=S.ak/\(∀c,(replay wd h seed S H).Q c=[])/\(replay wd h seed S H).t<6
 | [],_,hQ,ht=>⟨rfl,rfl,rfl,rfl,hQ,ht⟩
 | b::H,S,hQ,ht=>ace H (n_ wd h seed S b) (fun c=>arx hQ ht c) (az.vY _ _)
variable {ref cash stock:Int} {H:List dU}
theorem OZ(H:List dU):(jy wd h seed ref cash stock H).bt=H.length/\(jy wd h seed ref cash stock H).now=3*H.length/\(jy wd h seed ref cash stock H).down=false:=by obtain⟨h1,h2,_,_,_,h6⟩:=Ri (wd:=wd) (h:=h) (seed:=seed) H (init ref cash stock);exact⟨h1.trans (Nat.zero_add _),h2.trans (Nat.zero_add _),h6⟩
theorem acf(H:List dU):(∀c,(jy wd h seed ref cash stock H).la c=0)/\(∀c,(jy wd h seed ref cash stock H).aF c=⟨#[]⟩)/\(∀c,(jy wd h seed ref cash stock H).Q c=[])/\(jy wd h seed ref cash stock H).t<6:=by obtain⟨h1,h2,_,_,h5,h6⟩:=ace (wd:=wd) (h:=h) (seed:=seed) H (init ref cash stock) (fun _=>rfl) (show 0<6 by decide);exact⟨fun c=>congrFun h1 c,fun c=>congrFun h2 c,h5,h6⟩
theorem alo(hH:∀b∈H,rC b):dK wd h seed (init ref cash stock) H (jy wd h seed ref cash stock H):=by obtain⟨_,_,h3,h4⟩:=acf (wd:=wd) (h:=h) (seed:=seed) (ref:=ref) (cash:=cash) (stock:=stock) H;exact⟨⟨rfl,rfl,rfl,rfl⟩,(OZ H).1,hH,⟨[],(aNq _).symm,rfl,fun _=>rfl⟩,fun c _ a ha=>(by rw[h3 c]at ha;cases ha),h4⟩
theorem aln{N:Nat}(ha:dc (jy wd h seed ref cash stock H).L (jy wd h seed ref cash stock H).pf (jy wd h seed ref cash stock H).n wd h)(hN:3*H.length<=N)(hl:(bL.recs (texts H)).length<=1048576):Ok N wd h (jy wd h seed ref cash stock H):=by obtain⟨h1,h2,_,_⟩:=acf (wd:=wd) (h:=h) (seed:=seed) (ref:=ref) (cash:=cash) (stock:=stock) H;obtain⟨n1,n2,_⟩:=OZ (wd:=wd) (h:=h) (seed:=seed) (ref:=ref) (cash:=cash) (stock:=stock) H;exact⟨ha,fun c _=>(by rw[h1 c];exact⟨Int.le_refl _,Int.natCast_nonneg _⟩),by rw[n2];exact hN,by rw[n1];omega,hl,Nat.zero_le _,fun c _=>by rw[h2 c];show 0<30;decide⟩
theorem alj{N:Nat}{S:St}(hok:Ok N wd h S){x:Nat}(hx:x<=9223372036854775807):Ok N wd h (wc S true x):=⟨hok.all,hok.la,hok.now,hok.bt,hok.tp,hx,hok.aF⟩
end Ve
section
variable {w W W':World} {ad:Nat->Addr} {B B':bO} {X X':bQ} {v:Nat->Value} {wd h seed:Int} {S T:Ve.St}
theorem uT.disk{p:Nat}{bZ:Value}{tp:List UInt8}{cut:Bool}{left:Int}(H:uT w W B v wd h seed S)(hd:eD W w.heap.size p bZ tp cut left)(ht:aL W W' (fun k=>k=p\/bZ.ownBlock=some k)):uT w W' B v wd h seed S:=by
 have ty:∀{k:Nat} {cur:Array Value} {e:TypeId} {fz:Nat×Nat},W.heap[k]?=some (.cells cur e fz)->e≠117/\e≠5->¬ (k=p\/bZ.ownBlock=some k):=fun {k cur e fz} hk he=>by
  rintro (rfl | h1)
  .exact aN hk hd.cell he.1 rfl
  .exact hd.row.w7 hk he.2 h1
 have w8:∀{i:Nat},i<3->∀k,(v i).ownBlock=some k->¬ (k=p\/bZ.ownBlock=some k):=fun {i} hi k hk=>by
  rcases (H.fl.aO i hi).row.2 with ⟨e1,_⟩ | ⟨r,cap,l9,e1,_,hr2,_⟩
  .rw[e1]at hk;cases hk
  .rw[e1]at hk
   have:r=k:=by simpa [Value.ownBlock] using hk
   rw[this]at hr2;exact ty hr2 (by decide)
 have hlo:∀k,(k=p\/bZ.ownBlock=some k)->w.heap.size<=k:=fun k hk=>by
  rcases hk with rfl | hk
  .exact hd.lo
  .exact(hd.row.lt k hk).1
 refine⟨?_,?_⟩
 .rw[ht.block _ (lBq H.blk) (ty H.blk (by decide))];exact H.blk
 .exact H.fl.turned ht (ty H.fl.blk (by decide)) (ty H.fl.dJ (by decide)) (fun i hi=>⟨ty (H.fl.it i hi) (by decide),ty (H.fl.aO i hi).cell (by decide),w8 hi⟩) hlo
structure Y_ (w W w':World) (B B':bO) (X X':bQ) (wd h seed ref cash stock:Int) (S:Ve.St) (H:List Ve.dU):Prop where
 aV:aM w w' B' X' wd h seed (Ve.jy wd h seed ref cash stock H)
 d:B'.d=B.d
 old:aM w w' B { X with bZ:=X'.bZ } wd h seed { S with tp:=bL.recs (Ve.texts H),cut:=false,left:=0 }
 step:br W w' B X { X with bZ:=X'.bZ }
 keep:∀{B0:bO} {v0:Nat->Value} {T:Ve.St},uT w W B0 v0 wd h seed T->uT w w' B0 v0 wd h seed T/\¬ dV B' X' B0.V
 turned:aL W w' (fun k=>k=B.d\/X.bZ.ownBlock=some k)
 own:∀k,dV B' X' k->W.heap.size<=k\/k=B.d\/X.bZ.ownBlock=some k
 fl:W.heap.size<=B'.F
 all:dc (Ve.jy wd h seed ref cash stock H).L (Ve.jy wd h seed ref cash stock H).pf (Ve.jy wd h seed ref cash stock H).n wd h
theorem amg(ref cash stock:Int)(H:List Ve.dU)(W:World)(dM:Hid (aM w W B X wd h seed S))(hs:Hid (bJ w ad))(hL:Hid (ik w))(hr:Hid (bm.jK wd h=true))(hf:Hid (ah.aK ref 1 1000=true))(HF:Hid (Fl.Fits cash stock))(hI:Hid (Ve.dK wd h seed (Ve.init ref cash stock) H S))(hl:H.length<=1000000)(htl:S.tp.length<=1048576):
  Calls prog 23 #[.agg (jb seed wd h ref cash stock),Rw B.d] W fun e w'=>∃B' X',e=.returned (.tuple #[Rw B'.V,.nilIface])/\Y_ w W w' B B' X X' wd h seed ref cash stock S H:=by
 obtain⟨tail,e1,e2,_⟩:=hI.tp;refine(ary (w:=w) (ad:=ad) (wd:=wd) (h:=h) (seed:=seed) ref cash stock B.d X.bZ S.tp S.cut S.left H tail W (Y dM.bG) hs hL hr hf HF (Y dM.dk) (Y e1) (Y e2) (Y hI.ok) (Y hl) htl).mono ?_;rintro e w' ⟨B',X',rfl,Oqq⟩;have arz:=Oqq.aV;have hd:eD w' w.heap.size B.d X'.bZ (bL.recs (Ve.texts H)) false ((0:Nat):Int):=by rw[<- Oqq.d];exact Oqq.aV.dk
 have hn:∀k,X'.bZ.ownBlock=some k->X.bZ.ownBlock=some k\/W.heap.size<=k:=fun k hk=>by
  rcases Oqq.own k (.inr (.inr (.inr (.inr (.inr hk))))) with h1 | h1 | h1
  .exact .inr h1
  .exact absurd hk (by rw[h1];exact hd.row.w7 hd.cell (by decide))
  .exact .inl h1
 obtain⟨h1,h2⟩:=dM.tape hd Oqq.turned hn;refine⟨B',X',rfl,arz,Oqq.d,h1,h2,fun {B0 v0 T} hF=>⟨hF.disk dM.dk Oqq.turned,fun hk=>?_⟩,Oqq.turned,Oqq.own,Oqq.fl,Oqq.all⟩;rcases Oqq.own _ hk with h3 | h3 | h3
 .exact absurd (lBq hF.blk) (by omega)
 .exact aN hF.blk dM.dk.cell (by decide) h3
 .exact dM.dk.row.w7 hF.blk (by decide) h3
end
end
end Go.Proofs.YtjolccidheflpaaGreatDoor
