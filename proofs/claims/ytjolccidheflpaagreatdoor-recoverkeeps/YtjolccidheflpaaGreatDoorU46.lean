/- Own. -/
import Derived.Test.YtjolccidheflpaaGreatDoorU44
import Derived.Test.YtjolccidheflpaaGreatDoorU38
import Derived.Test.YtjolccidheflpaaGreatDoorU45
namespace Go.Proofs.YtjolccidheflpaaGreatDoor
set_option maxHeartbeats 8000000
open Go.RowKit Go.Shelf
set_option maxRecDepth 100000
theorem ZZ:∀ l:List Ask,(∀ a∈l,bz.ac a=0)->jq ((l.map fun a=>(af.eo a).data.toList).map bn)=0/\((l.map fun a=>(af.eo a).data.toList).map bn).map af.cB=l
 | [],_=>⟨rfl,rfl⟩
 | a::l,h=>by
  obtain⟨h1,h2⟩:=ZZ l fun x hx=>h x (mOq _ hx);obtain⟨h3,h4⟩:=YH (h a mSq);refine⟨?_,?_⟩
  ·show (if d6 (af.eo a)=0 then _ else _)=0
   rw[if_pos h3];exact h1
  ·show af.cB (af.eo a)::_=_
   rw[h4,h2]
theorem amC {ad:Nat->Addr} (bt:Nat) (b:af.eD) (hb:af.pY b) (hn:bt<=1000000) (w:World) (hL:jY w) (hS:bT w ad) :
  Calls Tryz.prog 9 #[.string (af.f_ bt b.ds b.l)] w fun e w'=>∃ bK va,e=.returned (.tuple #[.int .i64 bt,bK,va,.nilIface])/\Below w.heap.size w w'/\w'.ownsRow w.heap.size 3 1 bK b.ds.length (jT b.ds)/\w'.ownsRow w.heap.size 95 8 va b.l.length (bl b.l):=by
 have hsz:=af.IB bt b.ds b.l hn hb.few hb.Pk hb.len;have hp:=alP bt b hb (by omega);obtain⟨h1,h2⟩:=ZZ b.l hb.asks;have hc:s5 (af.f_ bt b.ds b.l)=0:=by unfold s5;rw[hp];exact h1
 refine(amD (ad:=ad) _ w hL hS (by omega)).mono ?_;rintro e w' ⟨n,bK,va,rfl,hbl,hr,_⟩;obtain⟨rfl,hr1,hr2⟩:=hr _ _ _ hp hc;rw[h2]at hr2;refine⟨bK,va,by rw[hc];rfl,hbl,hr1,?_⟩;simpa using hr2
section
variable {w W:World} {ad:Nat->Addr} {B:cJ} {X:cy} {wd h seed:Int} {S:af.St}
theorem amE (b:af.eD) (hb:af.pY b) (W:World) (H:Hid (av w W B X wd h seed S)) (hs:Hid (bT w ad)) (hL:Hid (jY w)) (hall:Hid (d_ S.L S.pf S.n wd h)) (hbt:S.bt<=1000000) (vh:S.now<=10000000) :
  Calls Tryz.prog 60 #[.pointer (some ⟨B.V,0,none⟩),.int .i64 S.bt,.string (af.f_ S.bt b.ds b.l)] W fun e w'=>e=.returned .nilIface/\∃ X',av w w' B X' wd h seed (af.mo wd h seed S b)/\aV W w' B X X'/\d_ (af.mo wd h seed S b).L (af.mo wd h seed S b).pf (af.mo wd h seed S b).n wd h:=by
 have ml:=hDq (amC (ad:=ad) S.bt b hb hbt W (hL.out.later H.out.cp) (hs.out.later H.out.cp));generalize hn:S.bt=n at *;have HN:=hDq hn;clear hn;go_enter Tryz.func60,Tryz.ntmps60
 go_wp2_with fail
 refine ml.out.mono ?_;rintro e w1 ⟨bK,va,rfl,hb1,hrd,gX⟩;have H1:=hDq (H.out.later hb1);have hna:∀ k,va.ownBlock=some k->¬ eT B X k:=fun k hk hv=>by
  have h1:=(gX.lt k hk).1;have h2:=(H.out.fe hv).2;omega
 have zC:=hDq (amF b.ds b.l bK va W.heap.size W.heap.size w1 H1 hs hall (by rw[HN.out];exact hbt) vh (hDq hrd) (hDq gX) (hDq hna) (hDq hb.few) hb.Pk hb.len);clear hrd gX hna ml;simp only[]
 go_wp2_with fail
 refine zC.out.mono ?_;rintro e w2 ⟨rfl,X',h2,hs2,ha2⟩;have H2:=hDq h2;have HS2:=hDq ((aV.of_below hb1 B X).trans hs2);have cm:=hDq ha2;clear h2 hs2 ha2 zC hb1;simp only[];go_wp2;go_ret;exact⟨rfl,X',H2.out,HS2.out,cm.out⟩
def wt (S:af.St) (tp:List UInt8) (c:Bool) (x:Nat):af.St:={ S with tp:=tp,cut:=c,left:=x }
theorem Z0 (tp:List UInt8) (c:Bool) (x:Nat):∀ (H:List af.eD) (S:af.St),af.replay wd h seed (wt S tp c x) H=wt (af.replay wd h seed S H) tp c x
 | [],_=>rfl
 | b::H,S=>Z0 tp c x H (af.mo wd h seed S b)
theorem Pg:∀ (H:List af.eD) (S:af.St),(af.replay wd h seed S H).bt=S.bt+H.length/\(af.replay wd h seed S H).now=S.now+3*H.length/\(af.replay wd h seed S H).tp=S.tp/\(af.replay wd h seed S H).cut=S.cut/\(af.replay wd h seed S H).left=S.left/\(af.replay wd h seed S H).down=S.down
 | [],_=>⟨rfl,rfl,rfl,rfl,rfl,rfl⟩
 | b::H,S=>by
  obtain⟨h1,h2,h3,h4,h5,h6⟩:=Pg H (af.mo wd h seed S b);refine⟨h1.trans ?_,h2.trans ?_,h3,h4,h5,h6⟩
  ·show S.bt+1+H.length=_;rw[lCq];omega
  ·show S.now+3+3*H.length=_;rw[lCq];omega
structure amG (w W w':World) (B:cJ) (X:cy) (p:Nat) (bH:Value) (wd h seed:Int) (S:af.St):Prop where
 d:B.d=p
 bP:av w w' B X wd h seed S
 turned:aJ W w' (fun k=>k=p\/bH.ownBlock=some k)
 own:∀ k,eT B X k->W.heap.size<=k\/k=p\/bH.ownBlock=some k
 fl:W.heap.size<=B.F
 all:d_ S.L S.pf S.n wd h
theorem Z1 (H:List af.eD) (hH:∀ b∈H,af.pY b) (hl:H.length<=1000000):∀ s∈af.texts H,s.length<=10000:=by
 have key:∀ (H:List af.eD) (k:Nat),(∀ b∈H,af.pY b)->k+H.length<=1000000->∀ s∈af.q9 k H,s.length<=10000:=by
  intro H
  induction H with
  | nil=>intro k _ _ s hs;cases hs
  | cons b H ih =>
   intro k hH hl s hs;rw[lCq]at hl;rcases List.mem_cons.1 hs with rfl | h1
   ·have hb:=hH b mSq
    have:=af.IB k b.ds b.l (by omega) hb.few hb.Pk hb.len
    rw[Array.length_toList];show (af.f_ k b.ds b.l).size<=10000;omega
   ·exact ih (k+1) (fun x hx=>hH x (mOq _ hx)) (by omega) s h1
 exact key H 0 hH (by omega)
theorem Z2:∀ (H:List af.eD) (k j:Nat) (b:af.eD),H[j]?=some b->(af.q9 k H)[j]?=some (af.f_ (k+j) b.ds b.l).data.toList
 | [],_,_,_,h=>by simp at h
 | a::H,k,0,b,h=>by simp at h;subst h;rfl
 | a::H,k,j+1,b,h=>by
  have:=Z2 H (k+1) j b (by simpa using h)
  rw[show k+1+j=k+(j+1) by omega]at this;exact this
theorem Z3:∀ (H:List af.eD) (k:Nat),(af.q9 k H).length=H.length
 | [],_=>rfl
 | _::H,k=>by show (af.q9 (k+1) H).length+1=_;rw[Z3 H (k+1)];rfl
theorem al9 (ref cash stock:Int) (p:Nat) (bH:Value) (tp:List UInt8) (cut:Bool) (left:Nat) (H:List af.eD) (tail:List UInt8) (W:World) (hbw:Hid (Below w.heap.size w W)) (hs:Hid (bT w ad)) (hL:Hid (jY w))
  (hr:Hid (aY.gh wd h=true)) (hf:Hid (ah.aB ref 1 1000=true)) (HF:Hid (Fl.Fits cash stock)) (hd:Hid (dI W w.heap.size p bH tp cut left)) (qY:Hid (tp=bm.recs (af.texts H)++tail)) (hft:Hid (bm.first tail=none))
  (hH:Hid (∀ b∈H,af.pY b)) (hl:Hid (H.length<=1000000)) (htl:tp.length<=1048576) :
  Calls Tryz.prog 23 #[.agg (fB seed wd h ref cash stock),.pointer (some ⟨p,0,none⟩)] W fun e w'=>∃ B X,e=.returned (.tuple #[.pointer (some ⟨B.V,0,none⟩),.nilIface])/\amG w W w' B X p bH wd h seed (wt (af.replay wd h seed (af.init ref cash stock) H) (bm.recs (af.texts H)) false 0):=by
 have HB1:Hid (Below W.heap.size W (W.alloc (.cells (fB seed wd h ref cash stock) 45))):=hDq ((bRq _ _).alloc (lRq _) _);have q_:=hDq (XC seed wd h ref cash stock p (W.alloc (.cells (fB seed wd h ref cash stock) 45)) (ad:=ad) (hDq (hs.out.later (hbw.out.trans (HB1.out.mono hbw.out.size)))) hr hf HF);have PK:=hDq (hbw.out.trans (HB1.out.mono hbw.out.size));have uM:=hDq (show W.heap.size<=(W.alloc (.cells (fB seed wd h ref cash stock) 45)).heap.size from HB1.out.size);have amH:Hid (∀ H,(af.replay wd h seed (wt (af.init ref cash stock) tp cut left) H).bt=H.length/\(af.replay wd h seed (wt (af.init ref cash stock) tp cut left) H).now=3*H.length):=hDq fun H=>by
  obtain⟨h1,h2,_⟩:=Pg (wd:=wd) (h:=h) (seed:=seed) H (wt (af.init ref cash stock) tp cut left);exact⟨h1.trans (Nat.zero_add _),h2.trans (Nat.zero_add _)⟩
 have yH:=hDq (Z0 (wd:=wd) (h:=h) (seed:=seed) tp cut left H (af.init ref cash stock));have amI:=hDq (Fl.RB hr.out hf.out HF.out);unfold fB at q_ HB1 PK uM ⊢;go_enter Tryz.func23,Tryz.ntmps23
 go_wp2_with fail
 generalize W.alloc (.cells #[.int .u32 seed,.int .i64 wd,.int .i64 h,.int .i64 ref,.int .i64 cash,.int .i64 stock] 45)=W1 at *;refine q_.out.mono ?_;rintro e w1 ⟨B,rfl,N8,hnew⟩;subst N8;have IW:Below W.heap.size W w1:=HB1.out.trans (hnew.fl.cp.mono uM.out);have oD:dI w1 w.heap.size B.d bH tp cut left:=⟨by rw[IW.block _ (lBq hd.out.cell)];exact hd.out.cell,hd.out.row.turned (aJ.of_below IW (fun _=>False)) (fun _ _ h=>h),hd.out.lo⟩;have Di:Hid (av w w1 B ⟨fun _=>.slice none 0 0,fun _=>.slice none 0 0,bH⟩ wd h seed (wt (af.init ref cash stock) tp cut left)):=hDq (hnew.bP PK.out oD);have HOW:Hid (∀ k,eT B ⟨fun _=>.slice none 0 0,fun _=>.slice none 0 0,bH⟩ k->W.heap.size<=k\/k=B.d\/bH.ownBlock=some k):=hDq fun k hk=>by
  have hz:=uM.out;rcases hk with rfl | rfl | ⟨i,hi,rfl | rfl | hk⟩ | hk | rfl | hk
  ·exact .inl (lTq hz hnew.lo)
  ·exact .inl (lTq hz hnew.fl.mI)
  ·exact .inl (lTq hz (hnew.fl.mJ i hi))
  ·exact .inl (lTq hz (hnew.fl.aG i hi).lo)
  ·cases hk
  ·rcases hk with rfl | ⟨c,hc,hk⟩
   ·exact .inl (lTq hz hnew.it.lo)
   ·cases hk
  ·exact .inr (.inl rfl)
  ·exact .inr (.inr hk)
 have qo:=hDq (lTq uM.out hnew.fl.lo);have uF:=hDq IW;have HD1:=hDq oD;clear hnew IW oD q_ HB1 PK uM;simp only[]
 go_wp2_with fail
 refine(WQ w.heap.size B.d tp cut left w1 ⟨HD1.out.lo,bH,HD1.out.cell,HD1.out.row⟩).mono ?_;rintro e w2 ⟨rfl,rfl⟩;simp only[]
 go_wp2_with fail
 refine(WV (ba tp) w2 (by rw[ND];omega)).mono ?_;rintro e w3 ⟨Pf,ts,r,rfl,hread,hst,hb3⟩;rw[WI,qY.out]at hread;obtain⟨rfl,rfl⟩:=hread.unique (Z1 H hH.out hl.out) hft.out;obtain⟨ta,tc,Z4⟩:=fH hst;obtain⟨m,hm⟩:∃ m,H.length=m:=⟨_,rfl⟩;have HM:=hDq hm;unfold Strs at hst;rw[show (af.texts H).length=m from(Z3 H 0).trans hm]at Z4 hst;have apQ:m<=1000000:=by rw[<- hm];exact hl.out
 clear hm;subst Z4;have HST:=hDq hst;have ar:=hDq hb3;have Dj:=hDq (Di.out.later hb3);clear hst hb3 hread HD1;simp only[]
 go_wp2_with fail
 generalize y7:wt (af.init ref cash stock) tp cut left=S0 at *;have ni:=hDq y7;clear y7;generalize oL:(⟨fun _=>.slice none 0 0,fun _=>.slice none 0 0,bH⟩:cy)=wH at *;have HX0:=hDq oL;clear oL;have HC:Hid (∀ wr X',aV w3 wr B wH X'->∀ k b,H[k]?=some b->∃ g,ta=some ⟨g,0,none⟩/\k<m/\wr.cell? ⟨g,k,none⟩=some (.string (af.f_ k b.ds b.l))):=hDq fun wr X' hst k b hk=>by
  obtain⟨hk1,_⟩:=List.getElem?_eq_some_iff.1 hk;rw[HM.out]at hk1;have hno:∀ g,(Value.slice ta m tc).ownBlock=some g->¬ eT B wH g:=fun g hg hv=>by
   have h1:=(HST.out.lt g hg).1;have h2:=(Di.out.fe hv).2;omega
  have eY:=fR HST.out hst.turned hno;rcases eY.2 with ⟨e,e0⟩ | ⟨g,cap,cur,e,_,hg,_,_,_,ht⟩
  ·omega
  ·cases e
   refine⟨g,rfl,hk1,?_⟩;rw[cR wr g k _ _ _ hg,<- Array.getElem?_toList];have h2:=congrArg (·[k]?) ht;have h3:=Z2 H 0 k b hk;rw[Nat.zero_add]at h3;simp only[List.getElem?_map]at h2;rw[show (af.texts H)[k]?=_ from h3,List.getElem?_take_of_lt (by omega)]at h2;exact h2
 go_loopw [35] (fun kv wr=>∃ (k:Nat) (X':cy),k<=m/\kv=.int .i64 k/\av w wr B X' wd h seed (af.replay wd h seed S0 (H.take k))/\aV w3 wr B wH X'/\d_ (af.replay wd h seed S0 (H.take k)).L (af.replay wd h seed S0 (H.take k)).pf (af.replay wd h seed S0 (H.take k)).n wd h) (fun kv _=>m-(intOf kv).toNat)
 case atStart=>exact⟨0,wH,Nat.zero_le _,rfl,Dj.out,aV.refl _ _ _,by rw[List.take_zero];show d_ S0.L S0.pf S0.n wd h;rw[<- ni.out];exact amI.out⟩
 case round =>
  obtain⟨k,X',hk,rfl,hv,hst,ha⟩:=hrel;have cF:=hDq hv;have HS:=hDq hst;have HA:=hDq ha;clear hv hst ha Dj HST;by_cases hlt:k<m
  ·have aX:(k:Int)<m:=by omega
   obtain⟨b,hb⟩:∃ b,H[k]?=some b:=⟨_,List.getElem?_eq_getElem (by rw[HM.out];exact hlt)⟩;have G2:=hH.out b (List.mem_of_getElem? hb);obtain⟨g,rfl,_,hc⟩:=HC.out wr X' HS.out k b hb;obtain⟨dn,z2⟩:=amH.out (H.take k);have hlk:(H.take k).length=k:=by rw[lKq];have:=HM.out;omega
   rw[hlk]at dn z2;have lX:Hid (af.replay wd h seed S0 (H.take (k+1))=af.mo wd h seed (af.replay wd h seed S0 (H.take k)) b):=hDq (by rw[List.take_add_one,hb];exact af.Zm _ _ _);have zC:=hDq (amE b G2 wr cF hs hL HA (by omega) (by omega));rw[dn]at zC;clear dn z2 hlk HC hb G2
   go_wp2_with fail
   refine zC.out.mono ?_;rintro e w4 ⟨rfl,X2,h4,bX,zD⟩;rw[<- lX.out]at h4 zD;have kM:=hDq h4;have cr:=hDq (HS.out.trans bX);have ei:=hDq zD;clear h4 bX zD zC lX cF HS HA;simp only[];go_wp2;go_roundw
   case rel=>exact⟨k+1,X2,hlt,by go_num,kM.out,cr.out,ei.out⟩
   case measure=>simp[intOf];omega
  ·have aX:¬ (k:Int)<m:=by omega
   obtain rfl:k=m:=by omega
   have Z5:(af.replay wd h seed S0 H)=wt (af.replay wd h seed (af.init ref cash stock) H) tp cut left:=yH.out;rw[List.take_of_length_le (by rw[HM.out];exact lRq _),Z5]at cF HA;have zy:=hDq (alX w.heap.size B.d X'.bH tp cut left wr cF.out.dk (by omega))
   go_wp2_with fail
   refine zy.out.mono ?_;rintro e w4 ⟨Pf,v',ts,r',rfl,hrd,CM,Z6,Z7⟩;rw[qY.out]at hrd;obtain⟨rfl,rfl⟩:=hrd.unique (Z1 H hH.out hl.out) hft.out;obtain⟨h4,bX⟩:=cF.out.tape (left':=0) CM (Z7.mono (fun k hk=>.inl hk)) (fun k hk=>.inl (Z6▸hk));have kM:=hDq h4;have cr:=hDq (HS.out.trans bX);clear h4 bX CM Z6 Z7 hrd zy;simp only[];go_wp2;go_ret2;have hB3:Below W.heap.size W w3:=uF.out.trans (ar.out.mono uF.out.size);have ht:=cr.out.turned;refine⟨B,_,rfl,rfl,kM.out,⟨ht.os.trans hB3.os,ht.tape.trans hB3.tape,ht.output.trans hB3.output,lTq hB3.size ht.size,fun j hj hn=>?_⟩,fun j hj=>?_,qo.out,HA.out⟩
   ·rw[ht.block j (Nat.lt_of_lt_of_le hj hB3.size) (fun hv=>?_)]
    ·exact hB3.block j hj
    ·rcases HOW.out j hv with h1 | h1
     ·omega
     ·exact hn h1
   ·rcases cr.out.new j hj with h1 | h1
    ·exact HOW.out j h1
    ·exact .inl (lTq hB3.size h1)
end
end Go.Proofs.YtjolccidheflpaaGreatDoor
namespace Go.Proofs.YtjolccidheflpaaGreatDoor
set_option maxHeartbeats 8000000
open Go.RowKit
set_option maxRecDepth 100000
namespace af
variable {wd h seed:Int}
noncomputable def jr (wd h seed ref cash stock:Int) (H:List eD):St:=wt (replay wd h seed (init ref cash stock) H) (bm.recs (texts H)) false 0
theorem alY {Q:Nat->List Ask} (hQ:∀ c,Q c=[]) {t:Nat} (ht:t<6) (c:Nat):ay.yD Q t c=[]:=(Ou ht c).2 (hQ c)
theorem Ze:∀ (H:List eD) (S:St),(∀ c,S.Q c=[])->S.t<6 ->
  (replay wd h seed S H).la=S.la/\(replay wd h seed S H).aO=S.aO/\(replay wd h seed S H).on=S.on/\(replay wd h seed S H).aD=S.aD/\(∀ c,(replay wd h seed S H).Q c=[])/\(replay wd h seed S H).t<6
 | [],_,hQ,ht=>⟨rfl,rfl,rfl,rfl,hQ,ht⟩
 | b::H,S,hQ,ht=>Ze H (mo wd h seed S b) (fun c=>alY hQ ht c) (ay.uj _ _)
variable {ref cash stock:Int} {H:List eD}
theorem q8 (H:List eD):(jr wd h seed ref cash stock H).bt=H.length/\(jr wd h seed ref cash stock H).now=3*H.length/\(jr wd h seed ref cash stock H).down=false:=by
 obtain⟨h1,h2,_,_,_,h6⟩:=Pg (wd:=wd) (h:=h) (seed:=seed) H (init ref cash stock);exact⟨h1.trans (Nat.zero_add _),h2.trans (Nat.zero_add _),h6⟩
theorem Zf (H:List eD):(∀ c,(jr wd h seed ref cash stock H).la c=0)/\(∀ c,(jr wd h seed ref cash stock H).aO c=⟨#[]⟩)/\(∀ c,(jr wd h seed ref cash stock H).Q c=[])/\(jr wd h seed ref cash stock H).t<6:=by
 obtain⟨h1,h2,_,_,h5,h6⟩:=Ze (wd:=wd) (h:=h) (seed:=seed) H (init ref cash stock) (fun _=>rfl) (show 0<6 by decide);exact⟨fun c=>congrFun h1 c,fun c=>congrFun h2 c,h5,h6⟩
theorem alZ (hH:∀ b∈H,pY b):cK wd h seed (init ref cash stock) H (jr wd h seed ref cash stock H):=by
 obtain⟨_,_,h3,h4⟩:=Zf (wd:=wd) (h:=h) (seed:=seed) (ref:=ref) (cash:=cash) (stock:=stock) H;exact⟨⟨rfl,rfl,rfl,rfl⟩,(q8 H).1,hH,⟨[],(aNq _).symm,rfl,fun _=>rfl⟩,fun c _ a ha=>(by rw[h3 c]at ha;cases ha),h4⟩
theorem al0 {N:Nat} (ha:d_ (jr wd h seed ref cash stock H).L (jr wd h seed ref cash stock H).pf (jr wd h seed ref cash stock H).n wd h) (hN:3*H.length<=N) (hl:(bm.recs (texts H)).length<=1048576):Ok N wd h (jr wd h seed ref cash stock H):=by
 obtain⟨h1,h2,_,_⟩:=Zf (wd:=wd) (h:=h) (seed:=seed) (ref:=ref) (cash:=cash) (stock:=stock) H;obtain⟨n1,n2,_⟩:=q8 (wd:=wd) (h:=h) (seed:=seed) (ref:=ref) (cash:=cash) (stock:=stock) H;exact⟨ha,fun c _=>(by rw[h1 c];exact⟨Int.le_refl _,Int.natCast_nonneg _⟩),by rw[n2];exact hN,by rw[n1];omega,hl,Nat.zero_le _,fun c _=>by rw[h2 c];show 0<30;decide⟩
theorem al1 {S0 S:St} (I:cK wd h seed S0 H S) (hl:S.tp.length<=1048576):(bm.recs (texts H)).length<=1048576:=by
 obtain⟨tail,e,_⟩:=I.tp;rw[e,lAq]at hl;omega
theorem al2 (n:Int):cK wd h seed (init ref cash stock) [] (wc (init ref cash stock) true n.toNat) :=
 ⟨⟨rfl,rfl,rfl,rfl⟩,rfl,fun _ hb=>(by cases hb),⟨[],rfl,rfl,fun _=>rfl⟩,fun _ _ _ ha=>(by cases ha),(show 0<6 by decide)⟩
theorem al3 (n:Int):jX (wc (init ref cash stock) true n.toNat) (init ref cash stock) [] []:=⟨fun _=>⟨⟨_,_,rfl⟩,rfl,rfl⟩,List.prefix_rfl⟩
theorem al4 {N:Nat} {S:St} (hok:Ok N wd h S) {x:Nat} (hx:x<=9223372036854775807):Ok N wd h (wc S true x):=⟨hok.all,hok.la,hok.now,hok.bt,hok.tp,hx,hok.aO⟩
theorem al5 {S:St} (hd:S.down=false) (hc:S.cut=false) (hb:S.bt<=1000) (ht:S.tp.length+992<=1048576) :
  (cz wd h seed S).down=false/\(cz wd h seed S).cut=false/\(cz wd h seed S).now=S.now+1/\(cz wd h seed S).bt=(if (S.now+1)%3=0 then S.bt+1 else S.bt)/\(cz wd h seed S).tp.length<=S.tp.length+992:=by
 obtain⟨t1,t2,t3,_,_,_,al6,t8,_⟩:=qX { S with now:=S.now+1 } 6;have Zg:(bh S).now=S.now+1:=t1;have Ph:(bh S).bt=S.bt:=t2;have Zh:(bh S).down=S.down:=t3;have Pj:(bh S).tp=S.tp:=al6;have Zi:(bh S).cut=S.cut:=t8;unfold cz;rw[if_neg (by rw[hd];decide)];split
 ·have hr:=al7 (bh S) (by rw[Ph];exact hb)
  have hfull:full (bu (bh S)) (bV (bh S))=false:=by
   unfold full;rw[show (bu (bh S)).tp=S.tp from Pj];simp;omega
  have hcut:(bu (bh S)).cut=false:=Zi.trans hc;have hap:iA (bu (bh S)) (bV (bh S))=true:=by unfold iA;rw[hfull,hcut];rfl
  have e1:bI (bu (bh S)) (bV (bh S)) = { bu (bh S) with tp:=(bu (bh S)).tp++bm.rec (bV (bh S)).data.toList }:=by
   unfold bI;rw[if_neg (by rw[hfull];decide),if_neg (by rw[hcut];decide),if_neg (by rw[hcut];decide)]
  unfold jR;rw[if_pos hap,e1];refine⟨Zh.trans hd,hcut,Zg,?_,?_⟩
  ·show (bh S).bt+1=_;rw[Ph]
  ·show ((bh S).tp++bm.rec (bV (bh S)).data.toList).length<=_
   rw[lAq,Pj,Iz];omega
 ·exact⟨Zh.trans hd,Zi.trans hc,Zg,Ph,by rw[Pj];omega⟩
theorem Zj {S:St} (hd:S.down=false) (hc:S.cut=false) (hb:S.bt=0) (hn:S.now=0) (ht:S.tp=[]):∀ k,k<=1000 ->
  (fJ wd h seed S k).down=false/\(fJ wd h seed S k).cut=false/\(fJ wd h seed S k).now=k/\(fJ wd h seed S k).bt=k/3/\(fJ wd h seed S k).tp.length<=992*k
 | 0,_=>⟨hd,hc,hn,hb,by show S.tp.length<=_;rw[ht];exact lRq _⟩
 | k+1,hk=>by
  obtain⟨h1,h2,h3,h4,h5⟩:=Zj hd hc hb hn ht k (by omega);obtain⟨g1,g2,g3,g4,g5⟩:=al5 (wd:=wd) (h:=h) (seed:=seed) h1 h2 (by omega) (by omega);refine⟨g1,g2,g3.trans (by omega),g4.trans ?_,lTq g5 (by omega)⟩;rw[h3,h4];split <;> omega
end af
section
variable {w W W':World} {ad:Nat->Addr} {B B':cJ} {X X':cy} {v:Nat->Value} {wd h seed:Int} {S T:af.St}
theorem lG.disk {p:Nat} {bH:Value} {tp:List UInt8} {cut:Bool} {left:Int} (H:lG w W B v wd h seed S) (hd:dI W w.heap.size p bH tp cut left) (ht:aJ W W' (fun k=>k=p\/bH.ownBlock=some k)):lG w W' B v wd h seed S:=by
 have ty:∀ {k:Nat} {cur:Array Value} {e:TypeId} {fz:Nat×Nat},W.heap[k]?=some (.cells cur e fz)->e≠117/\e≠5->¬ (k=p\/bH.ownBlock=some k):=fun {k cur e fz} hk he=>by
  rintro (rfl | h1)
  ·exact aF hk hd.cell he.1 rfl
  ·exact hd.row.uZ hk he.2 h1
 have u_:∀ {i:Nat},i<3->∀ k,(v i).ownBlock=some k->¬ (k=p\/bH.ownBlock=some k):=fun {i} hi k hk=>by
  rcases (H.fl.aG i hi).row.2 with ⟨e1,_⟩ | ⟨r,cap,kN,e1,_,hr2,_⟩
  ·rw[e1]at hk;cases hk
  ·rw[e1]at hk
   have:r=k:=by simpa [Value.ownBlock] using hk
   rw[this]at hr2;exact ty hr2 (by decide)
 have hlo:∀ k,(k=p\/bH.ownBlock=some k)->w.heap.size<=k:=fun k hk=>by
  rcases hk with rfl | hk
  ·exact hd.lo
  ·exact(hd.row.lt k hk).1
 refine⟨?_,?_⟩
 ·rw[ht.block _ (lBq H.blk) (ty H.blk (by decide))];exact H.blk
 ·exact H.fl.turned ht (ty H.fl.blk (by decide)) (ty H.fl.cY (by decide)) (fun i hi=>⟨ty (H.fl.it i hi) (by decide),ty (H.fl.aG i hi).cell (by decide),u_ hi⟩) hlo
structure al8 (w W w':World) (B B':cJ) (X X':cy) (wd h seed ref cash stock:Int) (S:af.St) (H:List af.eD):Prop where
 bP:av w w' B' X' wd h seed (af.jr wd h seed ref cash stock H)
 d:B'.d=B.d
 old:av w w' B { X with bH:=X'.bH } wd h seed { S with tp:=bm.recs (af.texts H),cut:=false,left:=0 }
 step:aV W w' B X { X with bH:=X'.bH }
 keep:∀ {B0:cJ} {v0:Nat->Value} {T:af.St},lG w W B0 v0 wd h seed T->lG w w' B0 v0 wd h seed T/\¬ eT B' X' B0.V
 turned:aJ W w' (fun k=>k=B.d\/X.bH.ownBlock=some k)
 own:∀ k,eT B' X' k->W.heap.size<=k\/k=B.d\/X.bH.ownBlock=some k
 fl:W.heap.size<=B'.F
 all:d_ (af.jr wd h seed ref cash stock H).L (af.jr wd h seed ref cash stock H).pf (af.jr wd h seed ref cash stock H).n wd h
theorem IA (ref cash stock:Int) (H:List af.eD) (W:World) (cF:Hid (av w W B X wd h seed S)) (hs:Hid (bT w ad)) (hL:Hid (jY w)) (hr:Hid (aY.gh wd h=true)) (hf:Hid (ah.aB ref 1 1000=true)) (HF:Hid (Fl.Fits cash stock))
  (hI:Hid (af.cK wd h seed (af.init ref cash stock) H S)) (hl:H.length<=1000000) (htl:S.tp.length<=1048576) :
  Calls Tryz.prog 23 #[.agg (fB seed wd h ref cash stock),.pointer (some ⟨B.d,0,none⟩)] W fun e w'=>∃ B' X',e=.returned (.tuple #[.pointer (some ⟨B'.V,0,none⟩),.nilIface])/\al8 w W w' B B' X X' wd h seed ref cash stock S H:=by
 obtain⟨tail,e1,e2,_⟩:=hI.out.tp;refine(al9 (w:=w) (ad:=ad) (wd:=wd) (h:=h) (seed:=seed) ref cash stock B.d X.bH S.tp S.cut S.left H tail W (hDq cF.out.cp) hs hL hr hf HF (hDq cF.out.dk) (hDq e1) (hDq e2) (hDq hI.out.ok) (hDq hl) htl).mono ?_;rintro e w' ⟨B',X',rfl,O⟩;have ama:=O.bP;have hd:dI w' w.heap.size B.d X'.bH (bm.recs (af.texts H)) false ((0:Nat):Int):=by rw[<- O.d];exact O.bP.dk
 have hn:∀ k,X'.bH.ownBlock=some k->X.bH.ownBlock=some k\/W.heap.size<=k:=fun k hk=>by
  rcases O.own k (.inr (.inr (.inr (.inr (.inr hk))))) with h1 | h1 | h1
  ·exact .inr h1
  ·exact absurd hk (by rw[h1];exact hd.row.uZ hd.cell (by decide))
  ·exact .inl h1
 obtain⟨h1,h2⟩:=cF.out.tape hd O.turned hn;refine⟨B',X',rfl,ama,O.d,h1,h2,fun {B0 v0 T} hF=>⟨hF.disk cF.out.dk O.turned,fun hk=>?_⟩,O.turned,O.own,O.fl,O.all⟩;rcases O.own _ hk with h3 | h3 | h3
 ·exact absurd (lBq hF.blk) (by omega)
 ·exact aF hF.blk cF.out.dk.cell (by decide) h3
 ·exact cF.out.dk.row.uZ hF.blk (by decide) h3
theorem amb (n:Int) (hn:¬ n<0) (W:World) (H:Hid (av w W B X wd h seed S)) (hc:S.cut=false) :
  Calls Tryz.prog 20 #[.pointer (some ⟨B.d,0,none⟩),.int .i64 n] W fun e w'=>e=.returned .nilIface/\av w w' B X wd h seed (af.wc S true n.toNat)/\aV W w' B X X:=by
 have HP:=hDq (WO B.d X.bH S.cut S.left W H.out.dk.cell);have hpw:(!S.cut || decide (0<(S.left:Int)))=true:=by rw[hc];rfl
 rw[hpw]at HP;have c1:W.cell? ⟨B.d,1,none⟩=some (.bool S.cut):=by rw[cR _ _ 1 _ _ _ H.out.dk.cell];rfl
 have c2:W.cell? ⟨B.d,2,none⟩=some (.int .i64 S.left):=by rw[cR _ _ 2 _ _ _ H.out.dk.cell];rfl
 have fz:∀ j,W.frozen? ⟨B.d,j,none⟩=false:=fun j=>by simp[World.frozen?,H.out.dk.cell]
 have hlt:B.d<W.heap.size:=lBq H.out.dk.cell;have HF:Hid (av w ((W.setCell ⟨B.d,1,none⟩ (.bool true)).setCell ⟨B.d,2,none⟩ (.int .i64 n)) B X wd h seed (af.wc S true n.toNat)/\aV W ((W.setCell ⟨B.d,1,none⟩ (.bool true)).setCell ⟨B.d,2,none⟩ (.int .i64 n)) B X X):=by
  have ht:aJ W ((W.setCell ⟨B.d,1,none⟩ (.bool true)).setCell ⟨B.d,2,none⟩ (.int .i64 n)) (fun k=>k=B.d):=(aJ.setCell _ _ _ _).trans (aJ.setCell _ _ _ _) (fun _ h=>.inl h);have NL:((n.toNat:Nat):Int)=n:=by omega
  have hd:dI ((W.setCell ⟨B.d,1,none⟩ (.bool true)).setCell ⟨B.d,2,none⟩ (.int .i64 n)) w.heap.size B.d X.bH S.tp true (n.toNat:Nat):=by
   refine⟨?_,?_,H.out.dk.lo⟩
   ·rw[block_setCell (block_setCell H.out.dk.cell 1 _) 2 _,NL];rfl
   ·obtain⟨g,cap,cur,zg,k1,k2,k3,k4⟩:=H.out.dk.row
    refine⟨g,cap,cur,zg,k1,k2,?_,k4⟩;rw[ht.block g (lBq k3) (aF k3 H.out.dk.cell (by decide))];exact k3
  exact H.out.tape hd (ht.mono (fun _ h=>.inl h)) (fun k hk=>.inl hk)
 clear hpw hc;go_enter Tryz.func20,Tryz.ntmps20
 go_wp2_with fail
 refine HP.out.mono ?_;rintro e w1 ⟨rfl,hw⟩;subst w1;simp only[];go_wp2;go_ret;exact⟨rfl,HF.out.1,HF.out.2⟩
end
section
variable {ad:Nat->Addr}
theorem amj (W:World) (hs:Hid (bT W ad)) (ht:Hid (Lib.TabBelow Tryz.prog W.heap.size W "internal/strconv.uint64pow10" .u64 Lib.pow10Tab)) (hL:Hid (jY W)) :
  Calls Tryz.prog 8 #[] W fun e w'=>e=.returned (.bool true)/\Below W.heap.size W w':=by
 have vt:=hDq (fun W'=>XH W');have vu:=hDq (fun W'=>XJ 5 10 2 100 20000 100 W');have q_:=hDq (fun W' (h':Below W.heap.size W W')=>XF 5 10 2 100 20000 100 W' (hs.out.later h') (show aY.gh 10 2=true by decide) (show ah.aB 100 1 1000=true by decide) xk);go_enter Tryz.func8,Tryz.ntmps8
 go_wp2_with fail
 refine(vt.out _).mono ?_;rintro e w2 ⟨rfl,hb2⟩;have HB2:=hDq hb2;clear hb2;simp only[]
 go_wp2_with fail
 refine(vu.out _).mono ?_;rintro e w3 ⟨rfl,hb3⟩;have ar:=hDq (HB2.out.trans (hb3.mono HB2.out.size));clear hb3 HB2;simp only[]
 go_wp2_with fail
 refine(q_.out _ ar.out).mono ?_;rintro e w4 ⟨B,X,rfl,hv⟩;have cP:Hid (av W w4 B X 10 2 5 af.S0):=av.N3 ar.out hv;clear hv q_ ar;simp only[]
 go_wp2_with fail
 go_loopw [3] (fun kv wr=>∃ (k:Nat) (X':cy),k<=7/\kv=.int .i64 k/\av W wr B X' 10 2 5 (af.fJ 10 2 5 af.S0 k)/\af.Ok k 10 2 (af.fJ 10 2 5 af.S0 k)) (fun kv _=>7-(intOf kv).toNat)
 case atStart=>exact⟨0,X,by omega,rfl,cP.out,N_⟩
 case round =>
  obtain⟨k,X',hk,rfl,hv,hok⟩:=hrel;have cF:=hDq hv;have ic:=hDq hok;clear hv hok cP;by_cases hlt:k<7
  ·have aX:(k:Int)<7:=by omega
   have lX:=hDq (Yz wr cF.out hs.out ht.out ic.out (by omega))
   go_wp2_with fail
   refine lX.out.mono ?_;rintro e aC ⟨v5,qR,rfl,h5,_,_,aaA,_,_⟩;have H5:=hDq h5;have O8:=hDq aaA;clear h5 aaA lX cF ic;simp only[];go_wp2;exact⟨⟨k+1,qR,hlt,by go_num,H5.out,O8.out⟩,by simp[intOf];omega⟩
  ·have aX:¬ (k:Int)<7:=by omega
   have aaB:k=7:=by omega
   obtain⟨H,hh,_,_⟩:=af.cK.ticks (wd:=10) (h:=2) (seed:=5) (af.ank 100 20000 100) 7 (by decide);obtain⟨_,_,_,hbt,_⟩:=af.Zj (wd:=10) (h:=2) (seed:=5) (S:=af.S0) rfl rfl rfl rfl rfl 7 (by decide);have hlen:H.length=2:=hh.len.symm.trans hbt;have jO:=hDq hlen;rw[aaB]at cF ic;obtain⟨aaC,aaD⟩:∃ aaC,af.fJ 10 2 5 af.S0 7=aaC:=⟨_,rfl⟩;have PY:af.cK 10 2 5 (af.init 100 20000 100) H (af.fJ 10 2 5 af.S0 7):=hh;rw[aaD]at cF ic PY;have HH:=hDq PY;clear hh PY hbt hlen aaD aaB
   go_wp2_with fail
   refine(vt.out _).mono ?_;rintro e aC ⟨rfl,b_⟩;have HV5:=hDq (cF.out.later b_);clear b_ cF;simp only[]
   go_wp2_with fail
   refine(vu.out _).mono ?_;rintro e ai ⟨rfl,hb6⟩;have lD:=hDq (HV5.out.later hb6);clear hb6 HV5;have kz:=hDq (zx ai lD.out);simp only[]
   go_wp2_with fail
   refine kz.out.mono ?_;rintro e bq ⟨rfl,oU⟩;subst bq;have mP:=hDq (IA 100 20000 100 H ai lD hs hL (hDq (show aY.gh 10 2=true by decide)) (hDq (show ah.aB 100 1 1000=true by decide)) (hDq xk) HH (by rw[jO.out];decide) ic.out.tp);clear kz;simp only[]
   go_wp2_with fail
   refine mP.out.mono ?_;rintro e b9 ⟨B',apZ,rfl,hg⟩;have jD:=hDq hg.bP.cp;have aaE:Hid (Calls Tryz.prog 25 #[.pointer (some ⟨B'.V,0,none⟩)] b9 fun e w'=>e=.returned (.int .i64 2)/\w'=b9):=by
    have:=Ov b9 hg.bP
    rw[(af.q8 H).1,jO.out]at this;exact hDq this
   have Hr:Hid (Calls Tryz.prog 26 #[.pointer (some ⟨B'.V,0,none⟩)] b9 fun e w'=>e=.returned (.int .i64 6)/\w'=b9):=by
    have:=Ow b9 hg.bP
    rw[(af.q8 H).2.1,jO.out]at this;exact hDq this
   have pZ:=hDq (IJ b9 (hDq hg.old.f) (hDq hg.bP.f) (hDq ic.out.all) HH.out.dw.L.symm HH.out.dw.pf.symm HH.out.dw.n.symm ((af.q8 H).1.trans HH.out.len.symm));clear hg mP lD;simp only[]
   go_wp2_with fail
   refine aaE.out.mono ?_;rintro e gw ⟨rfl,yi⟩;subst gw;simp only[]
   go_wp2_with fail
   refine Hr.out.mono ?_;rintro e gw ⟨rfl,yi⟩;subst gw;simp only[]
   go_wp2_with fail
   refine pZ.out.mono ?_;rintro e gw ⟨rfl,je⟩;have yU:=hDq (jD.out.trans (je.mono jD.out.size));clear je pZ Hr aaE jD;simp only[];go_wp2;go_ret;exact⟨rfl,yU.out⟩
end
section
variable {ad:Nat->Addr}
theorem amg {B:cJ} {seed:Int} {S:af.St} (W:World) (hb:W.heap[B.V]?=some (.cells (iB B seed S) 114 (0,0))):Calls Tryz.prog 25 #[.pointer (some ⟨B.V,0,none⟩)] W fun e w'=>e=.returned (.int .i64 S.bt)/\w'=W:=by
 have c:W.cell? ⟨B.V,35,none⟩=some (.int .i64 S.bt):=cR W B.V 35 _ _ _ hb;clear hb;go_enter Tryz.func25,Tryz.ntmps25;go_wp2;go_ret;exact⟨rfl,rfl⟩
theorem amh {w:World} {base base':Nat} {v1:Value} {a2:Option Addr} {c2 n:Nat} {R Q:List af.dc} (hn:Q.length<=10000000) (hp:R <+: Q) (hR:R.length=n) (h1:gD w base v1 R) (h2:gD w base' (.slice a2 Q.length c2) Q) (c3:Nat) :
  Calls Tryz.prog 22 #[v1,.slice a2 n c3] w fun e w'=>e=.returned (.int .i64 1)/\Below w.heap.size w w':=by
 have hl:=hp.length_le;rcases YR h1 with ⟨rfl,e⟩ | ⟨g1,c1,rfl,h3⟩
 ·subst e
  have:n=0:=hR.symm;subst this;exact YS _ _ _ _ w
 ·by_cases h0:R.length=0
  ·rw[h0]
   have:n=0:=by omega
   subst this;exact YS _ _ _ _ w
  ·rcases YR h2 with ⟨e1,e2⟩ | ⟨g2,c4,e1,h4⟩
   ·rw[e2]at hl;exact absurd hl (by simpa using h0)
   ·have ha:a2=some ⟨g2,0,none⟩:=by cases e1;rfl
    rw[ha,hR];refine alB g1 0 g2 0 c1 c3 n R w (by omega) (hDq hR) (hDq h3) (hDq fun i hi=>?_);have h5:=h4 i (by omega);have e:nA Q i=nA R i:=by
     obtain⟨t,rfl⟩:=hp;unfold nA;rw[gE,gE,List.getElem?_append_left hi]
    rw[e]at h5;exact h5
theorem ami {w:World} {base:Nat} {e:TypeId} {s n c:Nat} {a:Option Addr} {xs:List Value} (h:w.ownsRow base e s (.slice a n c) n xs):n<=c:=by
 rcases h.2 with ⟨_,e0⟩ | ⟨g,cap,cur,e1,_,_,h4,_⟩
 ·omega
 ·cases e1;exact h4
theorem aib (a:Option Addr) (m cap:Nat) (l:List Stp) (n:Int) (a2:Option Addr) (m2 Cj:Nat) (l2:List Stp) (W:World) (hs:Hid (bT W ad)) (ht:Hid (Lib.TabBelow Tryz.prog W.heap.size W "internal/strconv.uint64pow10" .u64 Lib.pow10Tab)) (hL:Hid (jY W))
  (hst:Hid (CH W a m l)) (Ck:Hid (CH W a2 m2 l2)) (hnb:n<=9223372036854775807) :
  Calls Tryz.prog 4 #[.slice a m cap,.int .i64 n,.slice a2 m2 Cj] W fun e w'=>e=.returned (.bool true)/\Below W.heap.size W w':=by
 have A1:=hDq (amj W hs ht hL);have vt:=hDq (fun W'=>XH W');have vu:=hDq (fun W'=>XJ 5 10 2 100 20000 100 W');have q_:=hDq (fun W' (h':Below W.heap.size W W')=>XF 5 10 2 100 20000 100 W' (hs.out.later h') (show aY.gh 10 2=true by decide) (show ah.aB 100 1 1000=true by decide) xk);go_enter Tryz.func4,Tryz.ntmps4
 go_wp2_with fail
 refine A1.out.mono ?_;rintro e w1 ⟨rfl,hb1⟩;have HB1:=hDq hb1;have Zq:=hDq (Xz a m cap 25 l w1 HB1 hst (by decide));have Zr:=hDq (Xz a2 m2 Cj 15 l2 w1 HB1 Ck (by decide));clear hb1 A1;simp only[]
 go_wp2_with fail
 refine Zq.out.mono ?_;rintro e w2 ⟨hw2,he⟩;subst w2;clear Zq;rcases he with rfl | ⟨rfl,Dg⟩
 ·simp only[]
  go_wp2;go_ret;exact⟨rfl,HB1.out⟩
 have Pm:=hDq Dg;clear Dg;simp only[]
 go_wp2_with fail
 refine Zr.out.mono ?_;rintro e w2 ⟨hw2,he⟩;subst w2;clear Zr;rcases he with rfl | ⟨rfl,Dg⟩
 ·simp only[]
  go_wp2;go_ret;exact⟨rfl,HB1.out⟩
 have Zs:=hDq Dg;clear Dg;by_cases hn0:n<0
 ·simp only[]
  go_wp2;go_ret;exact⟨rfl,HB1.out⟩
 simp only[]
 go_wp2_with fail
 refine(vt.out _).mono ?_;rintro e w2 ⟨rfl,hb2⟩;have HB2:=hDq (HB1.out.trans (hb2.mono HB1.out.size));clear hb2;simp only[]
 go_wp2_with fail
 refine(vu.out _).mono ?_;rintro e w3 ⟨rfl,hb3⟩;have ar:=hDq (HB2.out.trans (hb3.mono HB2.out.size));clear hb3 HB2;simp only[]
 go_wp2_with fail
 refine(q_.out _ ar.out).mono ?_;rintro e w4 ⟨B,X,rfl,hv⟩;have cP:Hid (av W w4 B X 10 2 5 af.S0):=av.N3 ar.out hv;clear hv ar;simp only[]
 go_wp2_with fail
 refine(vt.out _).mono ?_;rintro e aC ⟨rfl,b_⟩;have cA:=hDq b_;clear b_;simp only[]
 go_wp2_with fail
 refine(vu.out _).mono ?_;rintro e ai ⟨rfl,hb6⟩;have aS:=hDq (cA.out.trans (hb6.mono cA.out.size));have Zt:=hDq (cP.out.cp.trans (aS.out.mono cP.out.cp.size));clear hb6 cA;simp only[]
 go_wp2_with fail
 refine(q_.out _ Zt.out).mono ?_;rintro e bq ⟨B',X',rfl,hv⟩;have nc:Hid (nB W bq B B' X X' 10 2 5 af.S0 af.S0):=nB.new cP.out aS.out hv;clear hv q_ cP aS Zt HB1;have apw:=Pm.out.1;have apx:=Zs.out.1;simp only[]
 go_wp2_with fail
 go_loopw [12] (fun kv wr=>∃ k:Nat,k<=m+m2/\kv=.int .i64 k/\wr=bq/\(∀ i,i<k->i<m->ny (eU l i)=false)/\(∀ i,i+m<k->ny (eU l2 i)=false)) (fun kv _=>m+m2-(intOf kv).toNat)
 case atStart=>exact⟨0,Nat.zero_le _,rfl,rfl,fun i hi=>by omega,fun i hi=>by omega⟩
 case round =>
  obtain⟨k,hkm,rfl,hwr,hc1,hc2⟩:=hrel;subst wr;have qw:=hDq hc1;have r5:=hDq hc2;clear hc1 hc2;by_cases hk:k<m+m2
  ·have aX:(k:Int)<(m:Int)+m2:=by omega
   by_cases amk:k<m
   ·have hkj:(k:Int)<m:=by omega
    obtain⟨g,hg,hcs⟩:∃ g,a=some g/\_:=by
     rcases hst.out.2.1 with h0 | h1
     ·omega
     ·exact h1
    subst hg;obtain⟨aa,am,ac,d0,d1,d2,d3,d4,d5⟩:=(hcs k amk).later nc.out.a.cp;have jo:(g.add (k*5)).block<bq.heap.size:=bCq _ _ d0;have HKK:Hid (∀ i,i<k+1->i<k\/i=k):=fun i hi=>by omega
    obtain⟨x,hx⟩:∃ x,eU l k=x:=⟨_,rfl⟩;rw[hx]at d0;have HX:=hDq hx;clear hx hcs d5 d1 d2 d3 d4;obtain⟨dF,xc,xa,xs,xn⟩:=x;simp only[]at d0;cases hct:(dF.toList==[99,117,116]) with
    | true =>
     go_wp2;go_ret;exact⟨rfl,nc.out.a.cp⟩
    | false =>
     go_wp2;refine⟨⟨k+1,hk,by go_num,by first | trivial | rfl,fun i hi Pn=>?_,fun i hi=>by omega⟩,by simp[intOf];omega⟩;rcases HKK.out i hi with h1 | h1
     ·exact qw.out i h1 Pn
     ·rw[h1,HX.out];exact hct
   ·have hkj:¬ (k:Int)<m:=by omega
    obtain⟨j,rfl⟩:∃ j,k=m+j:=⟨k-m,by omega⟩;have hj2:j<m2:=by omega
    obtain⟨g,hg,hcs⟩:∃ g,a2=some g/\_:=by
     rcases Ck.out.2.1 with h0 | h1
     ·omega
     ·exact h1
    subst hg;obtain⟨aa,am,ac,d0,d1,d2,d3,d4,d5⟩:=(hcs j hj2).later nc.out.a.cp;have jo:(g.add (j*5)).block<bq.heap.size:=bCq _ _ d0;have HKK:Hid (∀ i,i+m<m+j+1->i+m<m+j\/i=j):=fun i hi=>by omega
    obtain⟨x,hx⟩:∃ x,eU l2 j=x:=⟨_,rfl⟩;rw[hx]at d0;have HX:=hDq hx;clear hx hcs d5 d1 d2 d3 d4;obtain⟨dF,xc,xa,xs,xn⟩:=x;simp only[]at d0;have apy:((m+j:Nat):Int)-(m:Int)=(j:Int):=by omega
    have bC:(j:Int)<m2:=by omega
    cases hct:(dF.toList==[99,117,116]) with
    | true =>
     go_wp2;go_ret;exact⟨rfl,nc.out.a.cp⟩
    | false =>
     go_wp2;refine⟨⟨m+j+1,by omega,by go_num,by first | trivial | rfl,fun i hi Pn=>qw.out i (by omega) Pn,fun i hi=>?_⟩,by simp[intOf];omega⟩;rcases HKK.out i hi with h1 | h1
     ·exact r5.out i h1
     ·rw[h1,HX.out];exact hct
  ·have aX:¬ (k:Int)<(m:Int)+m2:=by omega
   have q7:Hid (∀ i,i<m->ny (eU l i)=false):=fun i hi=>qw.out i (by omega) hi;have jB:Hid (∀ i,i<m2->ny (eU l2 i)=false):=fun i hi=>r5.out i (by omega);clear qw r5 hk hkm;have kz:=hDq (zx bq nc.out.a)
   go_wp2_with fail
   refine kz.out.mono ?_;rintro e b9 ⟨rfl,Gu⟩;subst b9;have Da:=hDq (amb n (by omega) bq (hDq nc.out.a) rfl);clear kz;simp only[]
   go_wp2_with fail
   refine Da.out.mono ?_;rintro e b9 ⟨rfl,Ho,vZ⟩;have wQ:=hDq (nc.out.left Ho vZ);clear Ho vZ Da nc;have Zu:=hDq (af.al4 N_ (x:=n.toNat) (by omega));have Zv:=hDq (af.jX.walk (wd:=10) (h:=2) (seed:=5) (af.al3 (ref:=100) (cash:=20000) (stock:=100) n) l q7.out m (lRq _));obtain⟨H,hh,_,hb⟩:=af.cK.walk (wd:=10) (h:=2) (seed:=5) (af.al2 (ref:=100) (cash:=20000) (stock:=100) n) l q7.out (by show 0+8*m<=1000000;omega) m (lRq _);have hbt:H.length<=200:=by
    rw[<- hh.len];have:(af.wc (af.init 100 20000 100) true n.toNat).bt=0:=rfl;omega
   have HH:Hid (af.cK 10 2 5 (af.init 100 20000 100) H (af.fK 10 2 5 (af.wc af.S0 true n.toNat) l m)):=hh;have Zw:Hid (af.jX (af.fK 10 2 5 (af.wc af.S0 true n.toNat) l m) (af.fK 10 2 5 af.S0 l m) (af.kV 10 2 5 (af.wc af.S0 true n.toNat) l m) (af.kV 10 2 5 af.S0 l m)):=Zv.out;clear hh hb Zv;have Dh:=hDq (O4 a m cap l b9 (hDq wQ.out.a) hs ht hst Zu (by decide) (by omega) (hDq Pm.out.2));simp only[]
   go_wp2_with fail
   refine Dh.out.mono ?_;rintro e gw ⟨v9,apz,rfl,ku,iI,CW,Zx,aml,_⟩;have sD:=hDq (wQ.out.left ku iI);have Po:=hDq Zx;have rY:=hDq CW;have apA:b9.heap.size<=gw.heap.size:=iI.turned.size;have Zy:=hDq (O4 a m cap l gw (hDq sD.out.b) hs ht hst N_ (by decide) (by omega) (hDq Pm.out.2));clear ku iI CW Zx Dh wQ Zu;generalize af.fK 10 2 5 (af.wc af.S0 true n.toNat) l m=IC at *;generalize af.kV 10 2 5 (af.wc af.S0 true n.toNat) l m=Pp at *;simp only[]
   go_wp2_with fail
   refine Zy.out.mono ?_;rintro e amm ⟨apB,apC,rfl,hA,hsA,IE,_,amn,_⟩;generalize af.fK 10 2 5 af.S0 l m=apD at *;generalize af.kV 10 2 5 af.S0 l m=Zz at *;have qD:Hid (gD amm b9.heap.size v9 Pp):=hsA.row sD.out.b rY.out (by decide);have IG:=hDq (sD.out.right hA hsA);have ZA:=hDq IG.out.a;clear Zy hA hsA sD rY IG;have hpre:=Zw.out.pre;have hle:=hpre.length_le;have ZB:Zz.length<=10000000:=by omega
   obtain⟨apE,amo,Hm⟩:=fH IE;obtain⟨a9,c9,amq⟩:=fH qD.out;subst Hm amq;have amr:=ami IE;have ZC:=hDq (fun c3=>amh (n:=Pp.length) ZB hpre rfl qD.out IE c3);clear Zw hpre qD IE;generalize Pp.length=k9 at *;generalize Zz.length=ams at *;have amt:¬ (ams:Int)<k9:=by omega
   have amu:k9<=amo:=by omega
   simp only[]
   go_wp2_with fail
   refine(ZC.out _).mono ?_;rintro e apF ⟨rfl,ZD⟩;have ZE:=hDq (ZA.out.later ZD);clear ZD ZC ZA amn aml amt amu amr hle ZB;simp only[]
   go_wp2_with fail
   refine(vt.out _).mono ?_;rintro e apG ⟨rfl,hbC⟩;have ZF:=hDq (ZE.out.later hbC);clear hbC ZE;simp only[]
   go_wp2_with fail
   refine(vu.out _).mono ?_;rintro e ZG ⟨rfl,hbD⟩;have II:=hDq (ZF.out.later hbD);clear hbD ZF;have kz:=hDq (zx ZG II.out);simp only[]
   go_wp2_with fail
   refine kz.out.mono ?_;rintro e Pq ⟨rfl,apH⟩;subst Pq;have mP:=hDq (IA 100 20000 100 H ZG II hs hL (hDq (show aY.gh 10 2=true by decide)) (hDq (show ah.aB 100 1 1000=true by decide)) (hDq xk) HH (by omega) Po.out.tp);clear kz;have pQ:=hDq (af.al1 HH.out Po.out.tp);simp only[]
   go_wp2_with fail
   refine mP.out.mono ?_;rintro e Pq ⟨B1,X1,rfl,hg⟩;have pZ:=hDq (IJ Pq (hDq hg.old.f) (hDq hg.bP.f) (hDq Po.out.all) HH.out.dw.L.symm HH.out.dw.pf.symm HH.out.dw.n.symm ((af.q8 H).1.trans HH.out.len.symm));have OZ:=hDq hg.old.f;have ZH:=hDq (hg.keep II.out.f).2;have Di:=hDq hg.bP;have HA1:=hDq hg.all;clear hg mP II;have hbl:IC.bt=H.length:=HH.out.len;have fG:=hDq hbl;clear hbl;simp only[]
   go_wp2_with fail
   refine pZ.out.mono ?_;rintro e ZI ⟨rfl,Pr⟩;have Ps:=hDq (OZ.out.later Pr);have Pt:=hDq (Di.out.later Pr);clear Pr pZ OZ Di;have rf:=hDq (Ov ZI Pt.out);have rh:=hDq (Pv ZI Ps.out);rw[(af.q8 H).1]at rf;rw[show ({ IC with tp:=bm.recs (af.texts H),cut:=false,left:=0 }:af.St).bt=H.length from fG.out]at rh;simp only[]
   go_wp2_with fail
   refine rf.out.mono ?_;rintro e IK ⟨rfl,amv⟩;subst IK;simp only[]
   go_wp2_with fail
   refine rh.out.mono ?_;rintro e IK ⟨rfl,amv⟩;subst IK;clear rf rh;simp only[]
   go_wp2_with fail
   refine(vt.out _).mono ?_;rintro e IK ⟨rfl,Pw⟩;have ZJ:=hDq (Ps.out.later Pw);have Dj:=hDq (Pt.out.later Pw);clear Pw Ps Pt;simp only[]
   go_wp2_with fail
   refine(vu.out _).mono ?_;rintro e ZK ⟨rfl,Px⟩;have Py:=hDq (ZJ.out.later Px);have kM:=hDq (Dj.out.later Px);clear Px ZJ Dj;have kz:=hDq (zx ZK kM.out);simp only[]
   go_wp2_with fail
   refine kz.out.mono ?_;rintro e IL ⟨rfl,apI⟩;subst IL;have sy:Hid (af.cK 10 2 5 (af.init 100 20000 100) H (af.jr 10 2 5 100 20000 100 H)):=hDq (af.alZ HH.out.ok);have mP:=hDq (IA 100 20000 100 H ZK kM hs hL (hDq (show aY.gh 10 2=true by decide)) (hDq (show ah.aB 100 1 1000=true by decide)) (hDq xk) sy (by omega) pQ.out);clear kz;simp only[]
   go_wp2_with fail
   refine mP.out.mono ?_;rintro e IL ⟨B2,X2,rfl,hg⟩;have hold:av W IL B1 { X1 with bH:=X2.bH } 10 2 5 (af.jr 10 2 5 100 20000 100 H):=hg.old;have pZ:=hDq (IJ IL (hDq hold.f) (hDq hg.bP.f) HA1 rfl rfl rfl rfl);have HV5:=hDq hold;have yt:=hDq hg.bP;have ZL:=hDq (hg.keep Py.out).1;have ZM:Hid (¬ eT B1 { X1 with bH:=X2.bH } B.V):=hDq fun hk=>by
    rcases hg.step.new _ hk with h1 | h1
    ·exact ZH.out h1
    ·exact absurd (lBq Py.out.blk) (by omega)
   clear hg mP hold Py kM ZH;simp only[]
   go_wp2_with fail
   refine pZ.out.mono ?_;rintro e Pz ⟨rfl,IQ⟩;have PD:=hDq (ZL.out.later IQ);have lD:=hDq (HV5.out.later IQ);have mS:=hDq (yt.out.later IQ);clear IQ pZ ZL HV5 yt;have rf:=hDq (Ow Pz mS.out);have rh:=hDq (Ow Pz lD.out);simp only[]
   go_wp2_with fail
   refine rf.out.mono ?_;rintro e xw ⟨rfl,amw⟩;subst xw;simp only[]
   go_wp2_with fail
   refine rh.out.mono ?_;rintro e xw ⟨rfl,amw⟩;subst xw;clear rf rh mS;have amx:=hDq (af.al0 (N:=600) (H:=H) HA1.out (by omega) pQ.out);have Dh:=hDq (O4 a2 m2 Cj l2 Pz lD hs ht Ck amx (by decide) (by omega) (hDq Zs.out.2));obtain⟨H2,PE,ZN,hb2⟩:=af.cK.walk (wd:=10) (h:=2) (seed:=5) sy.out l2 jB.out (by rw[(af.q8 H).1];omega) m2 (lRq _);rw[(af.q8 H).1,PE.len]at hb2;have wN:=hDq PE;have apJ:=ZN.length_le;clear PE ZN;simp only[]
   go_wp2_with fail
   refine Dh.out.mono ?_;rintro e xw ⟨apK,apL,rfl,ZO,hsL,_,ZP,_,_⟩;have PG:=hDq ZO;have AF:=hDq ZP;have ZQ:Hid (xw.heap[B.V]?=some (.cells (iB B 5 { IC with tp:=bm.recs (af.texts H),cut:=false,left:=0 }) 114 (0,0))):=by
    show _=_;rw[hsL.turned.block _ (lBq PD.out.blk) ZM.out];exact PD.out.blk
   clear ZO hsL ZP Dh PD lD ZM;generalize af.fK 10 2 5 (af.jr 10 2 5 100 20000 100 H) l2 m2=apM at *;have rf:=hDq (Ov xw PG.out);have rh:=hDq (amg xw ZQ.out);rw[wN.out.len]at rf;rw[show ({ IC with tp:=bm.recs (af.texts H),cut:=false,left:=0 }:af.St).bt=H.length from fG.out]at rh;have yc:¬ (H2.length:Int)<H.length:=by omega
   simp only[]
   go_wp2_with fail
   refine rf.out.mono ?_;rintro e IU ⟨rfl,amy⟩;subst IU;simp only[]
   go_wp2_with fail
   refine rh.out.mono ?_;rintro e IU ⟨rfl,amy⟩;subst IU;clear rf rh ZQ;simp only[]
   go_wp2_with fail
   refine(vt.out _).mono ?_;rintro e IU ⟨rfl,ZR⟩;have ZS:=hDq (PG.out.later ZR);clear ZR PG;simp only[]
   go_wp2_with fail
   refine(vu.out _).mono ?_;rintro e ZT ⟨rfl,ZU⟩;have PH:=hDq (ZS.out.later ZU);clear ZU ZS;have kz:=hDq (zx ZT PH.out);simp only[]
   go_wp2_with fail
   refine kz.out.mono ?_;rintro e PI ⟨rfl,apN⟩;subst PI;have mP:=hDq (IA 100 20000 100 H2 ZT PH hs hL (hDq (show aY.gh 10 2=true by decide)) (hDq (show ah.aB 100 1 1000=true by decide)) (hDq xk) wN (by omega) AF.out.tp);clear kz;simp only[]
   go_wp2_with fail
   refine mP.out.mono ?_;rintro e PI ⟨apO,r9,rfl,hg⟩;have pZ:=hDq (IJ PI (hDq hg.old.f) (hDq hg.bP.f) (hDq AF.out.all) wN.out.dw.L.symm wN.out.dw.pf.symm wN.out.dw.n.symm ((af.q8 H2).1.trans wN.out.len.symm));have yq:=hDq hg.bP.cp;clear hg mP PH;simp only[]
   go_wp2_with fail
   refine pZ.out.mono ?_;rintro e apP ⟨rfl,ZV⟩;have amz:=hDq (yq.out.trans (ZV.mono yq.out.size));clear ZV pZ yq;simp only[];go_wp2;go_ret;exact⟨rfl,amz.out⟩
end
end Go.Proofs.YtjolccidheflpaaGreatDoor
