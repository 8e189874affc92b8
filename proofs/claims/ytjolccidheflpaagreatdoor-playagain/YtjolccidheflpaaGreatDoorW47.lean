/- recover.repeat and recover.Open, by their contracts: a tape that has just the records of batches, and a tail that is no record. -/
import Derived.Test.YtjolccidheflpaaGreatDoorW45
import Derived.Test.YtjolccidheflpaaGreatDoorW38
import Derived.Test.YtjolccidheflpaaGreatDoorW46
namespace Go.Proofs.YtjolccidheflpaaGreatDoor
set_option maxHeartbeats 8000000
set_option maxRecDepth 100000
section
open Go.RowKit Go.Shelf
theorem Z6:∀ l:List Ask,(∀ a∈l,bg.ac a=0)->jN ((l.map fun a=>(af.bL a).data.toList).map bn)=0/\((l.map fun a=>(af.bL a).data.toList).map bn).map af.cA=l
 | [],_=>⟨rfl,rfl⟩
 | a::l,h=>by
  obtain⟨h1,h2⟩:=Z6 l fun x hx=>h x (mOq _ hx);obtain⟨h3,h4⟩:=IJ (h a mSq);refine⟨?_,?_⟩
  .show (if eu (af.bL a)=0 then _ else _)=0
   rw[if_pos h3];exact h1
  .show af.cA (af.bL a)::_=_
   rw[h4,h2]
theorem amN {ad:Nat->Addr} (bt:Nat) (b:af.fq) (hb:af.rG b) (hn:bt<=1000000) (w:World) (hL:kI w) (hS:bO w ad) :
  Calls Tryz.prog 9 #[.string (af.gF bt b.ds b.l)] w fun e w'=>∃ bM va,e=.returned (.tuple #[Qa bt,bM,va,.nilIface])/\Qd w w'/\w'.ownsRow w.heap.size 3 1 bM b.ds.length (kg b.ds)/\w'.ownsRow w.heap.size 95 8 va b.l.length (bm b.l):=by
 have hsz:=af.PR bt b.ds b.l hn hb.few hb.PQ hb.len;have hp:=amv bt b hb (by omega);obtain⟨h1,h2⟩:=Z6 b.l hb.asks;have hc:tG (af.gF bt b.ds b.l)=0:=by unfold tG;rw[hp];exact h1
 refine(amO (ad:=ad) _ w hL hS (by omega)).mono ?_;rintro e w' ⟨n,bM,va,rfl,hbl,hr,_⟩;obtain⟨rfl,hr1,hr2⟩:=hr _ _ _ hp hc;rw[h2]at hr2;refine⟨bM,va,by rw[hc];rfl,hbl,hr1,?_⟩;simpa using hr2
section
variable {w W:World} {ad:Nat->Addr} {B:bP} {X:bX} {wd h seed:Int} {S:af.St}
theorem amP (b:af.fq) (hb:af.rG b) (W:World) (H:Hid (aD w W B X wd h seed S)) (hs:Hid (bO w ad)) (hL:Hid (kI w)) (hall:Hid (dU S.L S.pf S.n wd h)) (hbt:S.bt<=1000000) (Ph:S.now<=10000000) :
  Calls Tryz.prog 60 #[Qc B.V,Qa S.bt,.string (af.gF S.bt b.ds b.l)] W fun e w'=>e=.returned .nilIface/\∃ X',aD w w' B X' wd h seed (af.oa wd h seed S b)/\bf W w' B X X'/\dU (af.oa wd h seed S b).L (af.oa wd h seed S b).pf (af.oa wd h seed S b).n wd h:=by
 have mS:=hDq (amN (ad:=ad) S.bt b hb hbt W (hL.out.later H.out.bG) (hs.out.later H.out.bG));generalize hn:S.bt=n at *;have HN:=hDq hn;clear hn;go_enter Tryz.func60,Tryz.ntmps60
 go_wp2_with fail
 refine mS.out.mono ?_;rintro e w1 ⟨bM,va,rfl,hb1,hrd,ib⟩;have H1:=hDq (H.out.later hb1);have hna:∀ k,va.ownBlock=some k->¬ dH B X k:=fun k hk hv=>by
  have h1:=(ib.lt k hk).1;have h2:=(H.out.fj hv).2;omega
 have q8:=hDq (amQ b.ds b.l bM va W.heap.size W.heap.size w1 H1 hs hall (by rw[HN.out];exact hbt) Ph (hDq hrd) (hDq ib) (hDq hna) (hDq hb.few) hb.PQ hb.len);clear hrd ib hna mS;simp only[]
 go_wp2_with fail
 refine q8.out.mono ?_;rintro e w2 ⟨rfl,X',h2,hs2,ha2⟩;have H2:=hDq h2;have HS2:=hDq ((bf.of_below hb1 B X).trans hs2);have cz:=hDq ha2;clear h2 hs2 ha2 q8 hb1;simp only[];go_wp2;go_ret;exact⟨rfl,X',H2.out,HS2.out,cz.out⟩
def wt (S:af.St) (tp:List UInt8) (c:Bool) (x:Nat):af.St:={ S with tp:=tp,cut:=c,left:=x }
theorem Z7 (tp:List UInt8) (c:Bool) (x:Nat):∀ (H:List af.fq) (S:af.St),af.replay wd h seed (wt S tp c x) H=wt (af.replay wd h seed S H) tp c x
 | [],_=>rfl
 | b::H,S=>Z7 tp c x H (af.oa wd h seed S b)
theorem PO:∀ (H:List af.fq) (S:af.St),(af.replay wd h seed S H).bt=S.bt+H.length/\(af.replay wd h seed S H).now=S.now+3*H.length/\(af.replay wd h seed S H).tp=S.tp/\(af.replay wd h seed S H).cut=S.cut/\(af.replay wd h seed S H).left=S.left/\(af.replay wd h seed S H).down=S.down
 | [],_=>⟨rfl,rfl,rfl,rfl,rfl,rfl⟩
 | b::H,S=>by
  obtain⟨h1,h2,h3,h4,h5,h6⟩:=PO H (af.oa wd h seed S b);refine⟨h1.trans ?_,h2.trans ?_,h3,h4,h5,h6⟩
  .show S.bt+1+H.length=_;rw[lCq];omega
  .show S.now+3+3*H.length=_;rw[lCq];omega
structure amR (w W w':World) (B:bP) (X:bX) (p:Nat) (bV:Value) (wd h seed:Int) (S:af.St):Prop where
 d:B.d=p
 aS:aD w w' B X wd h seed S
 turned:aJ W w' (fun k=>k=p\/bV.ownBlock=some k)
 own:∀ k,dH B X k->W.heap.size<=k\/k=p\/bV.ownBlock=some k
 fl:W.heap.size<=B.F
 all:dU S.L S.pf S.n wd h
theorem Z8 (H:List af.fq) (hH:∀ b∈H,af.rG b) (hl:H.length<=1000000):∀ s∈af.texts H,s.length<=10000:=by
 have key:∀ (H:List af.fq) (k:Nat),(∀ b∈H,af.rG b)->k+H.length<=1000000->∀ s∈af.rH k H,s.length<=10000:=by
  intro H
  induction H with
  | nil=>intro k _ _ s hs;cases hs
  | cons b H ih =>
   intro k hH hl s hs;rw[lCq]at hl;rcases List.mem_cons.1 hs with rfl | h1
   .have hb:=hH b mSq
    have:=af.PR k b.ds b.l (by omega) hb.few hb.PQ hb.len
    rw[Array.length_toList];show (af.gF k b.ds b.l).size<=10000;omega
   .exact ih (k+1) (fun x hx=>hH x (mOq _ hx)) (by omega) s h1
 exact key H 0 hH (by omega)
theorem Z9:∀ (H:List af.fq) (k j:Nat) (b:af.fq),H[j]?=some b->(af.rH k H)[j]?=some (af.gF (k+j) b.ds b.l).data.toList
 | [],_,_,_,h=>by simp at h
 | a::H,k,0,b,h=>by simp at h;subst h;rfl
 | a::H,k,j+1,b,h=>by
  have:=Z9 H (k+1) j b (by simpa using h)
  rw[show k+1+j=k+(j+1) by omega]at this;exact this
theorem Z_:∀ (H:List af.fq) (k:Nat),(af.rH k H).length=H.length
 | [],_=>rfl
 | _::H,k=>by show (af.rH (k+1) H).length+1=_;rw[Z_ H (k+1)];rfl
theorem amF (ref cash stock:Int) (p:Nat) (bV:Value) (tp:List UInt8) (cut:Bool) (left:Nat) (H:List af.fq) (tail:List UInt8) (W:World) (hbw:Hid (Qd w W)) (hs:Hid (bO w ad)) (hL:Hid (kI w))
  (hr:Hid (aZ.iW wd h=true)) (hf:Hid (ah.aG ref 1 1000=true)) (HF:Hid (Fl.Fits cash stock)) (hd:Hid (ek W w.heap.size p bV tp cut left)) (rD:Hid (tp=bC.recs (af.texts H)++tail)) (hft:Hid (bC.first tail=none))
  (hH:Hid (∀ b∈H,af.rG b)) (hl:Hid (H.length<=1000000)) (htl:tp.length<=1048576) :
  Calls Tryz.prog 23 #[.agg (iH seed wd h ref cash stock),Qc p] W fun e w'=>∃ B X,e=.returned (.tuple #[Qc B.V,.nilIface])/\amR w W w' B X p bV wd h seed (wt (af.replay wd h seed (af.init ref cash stock) H) (bC.recs (af.texts H)) false 0):=by
 have HB1:Hid (Qd W (W.alloc (.cells (iH seed wd h ref cash stock) 45))):=hDq ((bRq _ _).alloc (lRq _) _);have PS:=hDq (Yt seed wd h ref cash stock p (W.alloc (.cells (iH seed wd h ref cash stock) 45)) (ad:=ad) (hDq (hs.out.later (hbw.out.trans (HB1.out.mono hbw.out.size)))) hr hf HF);have PT:=hDq (hbw.out.trans (HB1.out.mono hbw.out.size));have Du:=hDq (show W.heap.size<=(W.alloc (.cells (iH seed wd h ref cash stock) 45)).heap.size from HB1.out.size);have amS:Hid (∀ H,(af.replay wd h seed (wt (af.init ref cash stock) tp cut left) H).bt=H.length/\(af.replay wd h seed (wt (af.init ref cash stock) tp cut left) H).now=3*H.length):=hDq fun H=>by
  obtain⟨h1,h2,_⟩:=PO (wd:=wd) (h:=h) (seed:=seed) H (wt (af.init ref cash stock) tp cut left);exact⟨h1.trans (Nat.zero_add _),h2.trans (Nat.zero_add _)⟩
 have yT:=hDq (Z7 (wd:=wd) (h:=h) (seed:=seed) tp cut left H (af.init ref cash stock));have amT:=hDq (Fl.RB hr.out hf.out HF.out);unfold iH at PS HB1 PT Du ⊢;go_enter Tryz.func23,Tryz.ntmps23
 go_wp2_with fail
 generalize W.alloc (.cells #[.int .u32 seed,Qa wd,Qa h,Qa ref,Qa cash,Qa stock] 45)=W1 at *;refine PS.out.mono ?_;rintro e w1 ⟨B,rfl,OM,hnew⟩;subst OM;have IY:Qd W w1:=HB1.out.trans (hnew.fl.bG.mono Du.out);have o7:ek w1 w.heap.size B.d bV tp cut left:=⟨by rw[IY.block _ (lBq hd.out.cell)];exact hd.out.cell,hd.out.row.turned (aJ.of_below IY (fun _=>False)) (fun _ _ h=>h),hd.out.lo⟩;have aaa:Hid (aD w w1 B ⟨fun _=>.slice none 0 0,fun _=>.slice none 0 0,bV⟩ wd h seed (wt (af.init ref cash stock) tp cut left)):=hDq (hnew.aS PT.out o7);have HOW:Hid (∀ k,dH B ⟨fun _=>.slice none 0 0,fun _=>.slice none 0 0,bV⟩ k->W.heap.size<=k\/k=B.d\/bV.ownBlock=some k):=hDq fun k hk=>by
  have hz:=Du.out;rcases hk with rfl | rfl | ⟨i,hi,rfl | rfl | hk⟩ | hk | rfl | hk
  .exact .inl (lTq hz hnew.lo)
  .exact .inl (lTq hz hnew.fl.nt)
  .exact .inl (lTq hz (hnew.fl.nu i hi))
  .exact .inl (lTq hz (hnew.fl.aH i hi).lo)
  .cases hk
  .rcases hk with rfl | ⟨c,hc,hk⟩
   .exact .inl (lTq hz hnew.it.lo)
   .cases hk
  .exact .inr (.inl rfl)
  .exact .inr (.inr hk)
 have mB:=hDq (lTq Du.out hnew.fl.lo);have uW:=hDq IY;have HD1:=hDq o7;clear hnew IY o7 PS HB1 PT Du;simp only[]
 go_wp2_with fail
 refine(XP w.heap.size B.d tp cut left w1 ⟨HD1.out.lo,bV,HD1.out.cell,HD1.out.row⟩).mono ?_;rintro e w2 ⟨rfl,rfl⟩;simp only[]
 go_wp2_with fail
 refine(XV (ba tp) w2 (by rw[Og];omega)).mono ?_;rintro e w3 ⟨PN,ts,r,rfl,hread,hst,hb3⟩;rw[XJ,rD.out]at hread;obtain⟨rfl,rfl⟩:=hread.unique (Z8 H hH.out hl.out) hft.out;obtain⟨ta,tc,aab⟩:=gi hst;obtain⟨m,hm⟩:∃ m,H.length=m:=⟨_,rfl⟩;have HM:=hDq hm;unfold Strs at hst;rw[show (af.texts H).length=m from(Z_ H 0).trans hm]at aab hst;have apJ:m<=1000000:=by rw[<- hm];exact hl.out
 clear hm;subst aab;have HST:=hDq hst;have au:=hDq hb3;have aac:=hDq (aaa.out.later hb3);clear hst hb3 hread HD1;simp only[]
 go_wp2_with fail
 generalize zu:wt (af.init ref cash stock) tp cut left=S0 at *;have ft:=hDq zu;clear zu;generalize pn:(⟨fun _=>.slice none 0 0,fun _=>.slice none 0 0,bV⟩:bX)=w6 at *;have HX0:=hDq pn;clear pn;have HC:Hid (∀ wr X',bf w3 wr B w6 X'->∀ k b,H[k]?=some b->∃ g,ta=some (Qb g 0)/\k<m/\wr.cell? (Qb g k)=some (.string (af.gF k b.ds b.l))):=hDq fun wr X' hst k b hk=>by
  obtain⟨hk1,_⟩:=List.getElem?_eq_some_iff.1 hk;rw[HM.out]at hk1;have hno:∀ g,(Value.slice ta m tc).ownBlock=some g->¬ dH B w6 g:=fun g hg hv=>by
   have h1:=(HST.out.lt g hg).1;have h2:=(aaa.out.fj hv).2;omega
  have eK:=eM HST.out hst.turned hno;rcases eK.2 with ⟨e,e0⟩ | ⟨g,cap,cur,e,_,hg,_,_,_,ht⟩
  .omega
  .cases e
   refine⟨g,rfl,hk1,?_⟩;rw[cR wr g k _ _ _ hg,<- Array.getElem?_toList];have h2:=congrArg (·[k]?) ht;have h3:=Z9 H 0 k b hk;rw[Nat.zero_add]at h3;simp only[List.getElem?_map]at h2;rw[show (af.texts H)[k]?=_ from h3,List.getElem?_take_of_lt (by omega)]at h2;exact h2
 go_loopw [35] (fun kv wr=>∃ (k:Nat) (X':bX),k<=m/\kv=Qa k/\aD w wr B X' wd h seed (af.replay wd h seed S0 (H.take k))/\bf w3 wr B w6 X'/\dU (af.replay wd h seed S0 (H.take k)).L (af.replay wd h seed S0 (H.take k)).pf (af.replay wd h seed S0 (H.take k)).n wd h) (fun kv _=>m-(intOf kv).toNat)
 case atStart=>exact⟨0,w6,Nat.zero_le _,rfl,aac.out,bf.refl _ _ _,by rw[List.take_zero];show dU S0.L S0.pf S0.n wd h;rw[<- ft.out];exact amT.out⟩
 case round =>
  obtain⟨k,X',hk,rfl,hv,hst,ha⟩:=hrel;have cF:=hDq hv;have HS:=hDq hst;have HA:=hDq ha;clear hv hst ha aac HST;by_cases hlt:k<m
  .have aX:(k:Int)<m:=by omega
   obtain⟨b,hb⟩:∃ b,H[k]?=some b:=⟨_,List.getElem?_eq_getElem (by rw[HM.out];exact hlt)⟩;have uP:=hH.out b (List.mem_of_getElem? hb);obtain⟨g,rfl,_,hc⟩:=HC.out wr X' HS.out k b hb;obtain⟨dw,z2⟩:=amS.out (H.take k);have hlk:(H.take k).length=k:=by rw[lKq];have:=HM.out;omega
   rw[hlk]at dw z2;have j3:Hid (af.replay wd h seed S0 (H.take (k+1))=af.oa wd h seed (af.replay wd h seed S0 (H.take k)) b):=hDq (by rw[List.take_add_one,hb];exact af.ZY _ _ _);have q8:=hDq (amP b uP wr cF hs hL HA (by omega) (by omega));rw[dw]at q8;clear dw z2 hlk HC hb uP
   go_wp2_with fail
   refine q8.out.mono ?_;rintro e w4 ⟨rfl,X2,h4,dm,zO⟩;rw[<- j3.out]at h4 zO;have oQ:=hDq h4;have cq:=hDq (HS.out.trans dm);have eB:=hDq zO;clear h4 dm zO q8 j3 cF HS HA;simp only[];go_wp2;go_roundw
   case rel=>exact⟨k+1,X2,hlt,by go_num,oQ.out,cq.out,eB.out⟩
   case measure=>simp[intOf];omega
  .have aX:¬ (k:Int)<m:=by omega
   obtain rfl:k=m:=by omega
   have aad:(af.replay wd h seed S0 H)=wt (af.replay wd h seed (af.init ref cash stock) H) tp cut left:=yT.out;rw[List.take_of_length_le (by rw[HM.out];exact lRq _),aad]at cF HA;have zL:=hDq (amD w.heap.size B.d X'.bV tp cut left wr cF.out.dk (by omega))
   go_wp2_with fail
   refine zL.out.mono ?_;rintro e w4 ⟨PN,v',ts,r',rfl,hrd,Dc,aae,xQ⟩;rw[rD.out]at hrd;obtain⟨rfl,rfl⟩:=hrd.unique (Z8 H hH.out hl.out) hft.out;obtain⟨h4,dm⟩:=cF.out.tape (left':=0) Dc (xQ.mono (fun k hk=>.inl hk)) (fun k hk=>.inl (aae▸hk));have oQ:=hDq h4;have cq:=hDq (HS.out.trans dm);clear h4 dm Dc aae xQ hrd zL;simp only[];go_wp2;go_ret2;have hB3:Qd W w3:=uW.out.trans (au.out.mono uW.out.size);have ht:=cq.out.turned;refine⟨B,_,rfl,rfl,oQ.out,⟨ht.os.trans hB3.os,ht.tape.trans hB3.tape,ht.output.trans hB3.output,lTq hB3.size ht.size,fun j hj hn=>?_⟩,fun j hj=>?_,mB.out,HA.out⟩
   .rw[ht.block j (Nat.lt_of_lt_of_le hj hB3.size) (fun hv=>?_)]
    .exact hB3.block j hj
    .rcases HOW.out j hv with h1 | h1
     .omega
     .exact hn h1
   .rcases cq.out.new j hj with h1 | h1
    .exact HOW.out j h1
    .exact .inl (lTq hB3.size h1)
end
end
section
open Go.RowKit
namespace af
variable {wd h seed:Int}
noncomputable def qZ (wd h seed ref cash stock:Int) (H:List fq):St:=wt (replay wd h seed (init ref cash stock) H) (bC.recs (texts H)) false 0
variable {ref cash stock:Int} {H:List fq}
theorem agF (H:List fq):(qZ wd h seed ref cash stock H).bt=H.length/\(qZ wd h seed ref cash stock H).now=3*H.length/\(qZ wd h seed ref cash stock H).down=false:=by
 obtain⟨h1,h2,_,_,_,h6⟩:=PO (wd:=wd) (h:=h) (seed:=seed) H (init ref cash stock);exact⟨h1.trans (Nat.zero_add _),h2.trans (Nat.zero_add _),h6⟩
end af
section
variable {w W W':World} {ad:Nat->Addr} {B B':bP} {X X':bX} {v:Nat->Value} {wd h seed:Int} {S T:af.St}
theorem lu.disk {p:Nat} {bV:Value} {tp:List UInt8} {cut:Bool} {left:Int} (H:lu w W B v wd h seed S) (hd:ek W w.heap.size p bV tp cut left) (ht:aJ W W' (fun k=>k=p\/bV.ownBlock=some k)):lu w W' B v wd h seed S:=by
 have ty:∀ {k:Nat} {cur:Array Value} {e:TypeId} {fz:Nat×Nat},W.heap[k]?=some (.cells cur e fz)->e≠117/\e≠5->¬ (k=p\/bV.ownBlock=some k):=fun {k cur e fz} hk he=>by
  rintro (rfl | h1)
  .exact aI hk hd.cell he.1 rfl
  .exact hd.row.sK hk he.2 h1
 have vC:∀ {i:Nat},i<3->∀ k,(v i).ownBlock=some k->¬ (k=p\/bV.ownBlock=some k):=fun {i} hi k hk=>by
  rcases (H.fl.aH i hi).row.2 with ⟨e1,_⟩ | ⟨r,cap,lh,e1,_,hr2,_⟩
  .rw[e1]at hk;cases hk
  .rw[e1]at hk
   have:r=k:=by simpa [Value.ownBlock] using hk
   rw[this]at hr2;exact ty hr2 (by decide)
 have hlo:∀ k,(k=p\/bV.ownBlock=some k)->w.heap.size<=k:=fun k hk=>by
  rcases hk with rfl | hk
  .exact hd.lo
  .exact(hd.row.lt k hk).1
 refine⟨?_,?_⟩
 .rw[ht.block _ (lBq H.blk) (ty H.blk (by decide))];exact H.blk
 .exact H.fl.turned ht (ty H.fl.blk (by decide)) (ty H.fl.cQ (by decide)) (fun i hi=>⟨ty (H.fl.it i hi) (by decide),ty (H.fl.aH i hi).cell (by decide),vC hi⟩) hlo
structure amE (w W w':World) (B B':bP) (X X':bX) (wd h seed ref cash stock:Int) (S:af.St) (H:List af.fq):Prop where
 aS:aD w w' B' X' wd h seed (af.qZ wd h seed ref cash stock H)
 d:B'.d=B.d
 old:aD w w' B { X with bV:=X'.bV } wd h seed { S with tp:=bC.recs (af.texts H),cut:=false,left:=0 }
 step:bf W w' B X { X with bV:=X'.bV }
 keep:∀ {B0:bP} {v0:Nat->Value} {T:af.St},lu w W B0 v0 wd h seed T->lu w w' B0 v0 wd h seed T/\¬ dH B' X' B0.V
 turned:aJ W w' (fun k=>k=B.d\/X.bV.ownBlock=some k)
 own:∀ k,dH B' X' k->W.heap.size<=k\/k=B.d\/X.bV.ownBlock=some k
 fl:W.heap.size<=B'.F
 all:dU (af.qZ wd h seed ref cash stock H).L (af.qZ wd h seed ref cash stock H).pf (af.qZ wd h seed ref cash stock H).n wd h
theorem agE (ref cash stock:Int) (H:List af.fq) (W:World) (cF:Hid (aD w W B X wd h seed S)) (hs:Hid (bO w ad)) (hL:Hid (kI w)) (hr:Hid (aZ.iW wd h=true)) (hf:Hid (ah.aG ref 1 1000=true)) (HF:Hid (Fl.Fits cash stock))
  (hI:Hid (af.dv wd h seed (af.init ref cash stock) H S)) (hl:H.length<=1000000) (htl:S.tp.length<=1048576) :
  Calls Tryz.prog 23 #[.agg (iH seed wd h ref cash stock),Qc B.d] W fun e w'=>∃ B' X',e=.returned (.tuple #[Qc B'.V,.nilIface])/\amE w W w' B B' X X' wd h seed ref cash stock S H:=by
 obtain⟨tail,e1,e2,_⟩:=hI.out.tp;refine(amF (w:=w) (ad:=ad) (wd:=wd) (h:=h) (seed:=seed) ref cash stock B.d X.bV S.tp S.cut S.left H tail W (hDq cF.out.bG) hs hL hr hf HF (hDq cF.out.dk) (hDq e1) (hDq e2) (hDq hI.out.ok) (hDq hl) htl).mono ?_;rintro e w' ⟨B',X',rfl,O⟩;have amG:=O.aS;have hd:ek w' w.heap.size B.d X'.bV (bC.recs (af.texts H)) false ((0:Nat):Int):=by rw[<- O.d];exact O.aS.dk
 have hn:∀ k,X'.bV.ownBlock=some k->X.bV.ownBlock=some k\/W.heap.size<=k:=fun k hk=>by
  rcases O.own k (.inr (.inr (.inr (.inr (.inr hk))))) with h1 | h1 | h1
  .exact .inr h1
  .exact absurd hk (by rw[h1];exact hd.row.sK hd.cell (by decide))
  .exact .inl h1
 obtain⟨h1,h2⟩:=cF.out.tape hd O.turned hn;refine⟨B',X',rfl,amG,O.d,h1,h2,fun {B0 v0 T} hF=>⟨hF.disk cF.out.dk O.turned,fun hk=>?_⟩,O.turned,O.own,O.fl,O.all⟩;rcases O.own _ hk with h3 | h3 | h3
 .exact absurd (lBq hF.blk) (by omega)
 .exact aI hF.blk cF.out.dk.cell (by decide) h3
 .exact cF.out.dk.row.sK hF.blk (by decide) h3
end
end
end Go.Proofs.YtjolccidheflpaaGreatDoor
