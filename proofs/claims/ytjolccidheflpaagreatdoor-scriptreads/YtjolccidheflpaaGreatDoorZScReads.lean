/- ScriptReads, by its contract. -/
import Derived.Test.YtjolccidheflpaaGreatDoorX08
import Derived.Test.YtjolccidheflpaaGreatDoorX52
namespace Go.Proofs.YtjolccidheflpaaGreatDoor
set_option maxHeartbeats 8000000
open Go
section
variable {P:Program} {ops:Array Oper} {md:Region.Mode} {X:Type} {val:X->World}
def r_(P:Program)(ops:Array Oper)(i:Nat)(K:Act->World->Prop)(a:Act)(w:World):Prop :=
 ∃o,ops[i]?=some o/\((Region.wanted o (yielded ops a.tmps)=true/\aB P (fun v w'=>K (a.put o.dst v) w') ((execOp a.eval o).run P w))\/(Region.wanted o (yielded ops a.tmps)=false/\K (a.put o.dst undef) w))
theorem aiT{i:Nat}{a:Act}{w:World}{K K':Act->World->Prop}(h:∀a w,K a w->K' a w)(hh:r_ P ops i K a w):r_ P ops i K' a w:=by
 obtain⟨o,h1,⟨h2,h3⟩ | ⟨h2,h3⟩⟩:=hh
 .exact⟨o,h1,.inl ⟨h2,nk (fun v w' hk=>h _ _ hk) h3⟩⟩
 .exact⟨o,h1,.inr ⟨h2,h _ _ h3⟩⟩
def tV(P:Program)(ops:Array Oper)(val:X->World)(o:Oper)(v:Value)(a:Act):Prop :=
 (Region.wanted o (yielded ops a.tmps)=true/\∀x,aQ (val x) v ((execOp a.eval o).run P (val x)))\/(Region.wanted o (yielded ops a.tmps)=false/\v=undef)
theorem tV.of_same{o:Oper}{v:Value}{a a':Act}(hy:tV P ops val o v a)(he:execOp a'.eval o=execOp a.eval o)(hw:Region.wanted o (yielded ops a'.tmps)=Region.wanted o (yielded ops a.tmps)):tV P ops val o v a':=by unfold tV at *;rw[he,hw];exact hy
theorem tV.r_{i:Nat}{o:Oper}{v:Value}{a:Act}{x:X}{K:Act->World->Prop}(hi:ops[i]?=some o)(hy:tV P ops val o v a)(h:K (a.put o.dst v) (val x)):r_ P ops i K a (val x):=by
 rcases hy with ⟨h1,h2⟩ | ⟨h1,h2⟩
 .exact⟨o,hi,.inl ⟨h1,Wx (h2 x) h⟩⟩
 .subst h2;exact⟨o,hi,.inr ⟨h1,h⟩⟩
theorem aiU{j:Nat}{oi oj:Oper}{v:Value}(hj:ops[j]?=some oj)(hap:oi.apart ops oj=true)(hsi:∀cs b,oi.op≠.select cs b)(hsj:∀cs b,oj.op≠.select cs b){K:Act->World->Prop}{a:Act}{w:World}(hy:tV P ops val oi v a)(h:r_ P ops j K (a.put oi.dst v) w):
  r_ P ops j (fun a' w'=>tV P ops val oi v a'/\K (a'.put oi.dst v) w') a w:=by
 obtain⟨h1,h2,h3⟩:=Oper.apart_spec hap;obtain⟨o,ho,hu⟩:=h;obtain rfl:=Option.some.inj (hj.symm.trans ho);rw[wanted_put oj a oi.dst v h1,execOp_put oj hsj a oi.dst v h1]at hu;rcases hu with ⟨hw,hu⟩ | ⟨hw,hu⟩
 .refine⟨oj,hj,.inl ⟨hw,nk (fun u w' hk=>⟨hy.of_same (execOp_put oi hsi a oj.dst u h3) (wanted_put oi a oj.dst u h3),?_⟩) hu⟩⟩
  rw[<- Act.put_comm a v u h2];exact hk
 .refine⟨oj,hj,.inr ⟨hw,hy.of_same (execOp_put oi hsi a oj.dst undef h3) (wanted_put oi a oj.dst undef h3),?_⟩⟩
  rw[<- Act.put_comm a v undef h2];exact hu
theorem aiV{i:Nat}{a:Act}{w:World}{K K':Act->World->Prop}{Q':Exit->Act->World->Prop}(h:∀a w,K a w->K' a w)(hh:r_ P ops i K a w):wpOp P ops Q' i K' a w:=by
 obtain⟨o,ho,⟨hw,h3⟩ | ⟨hw,h3⟩⟩:=hh
 .exact E9 h ⟨o,ho,hw,h3⟩
 .unfold wpOp
  simp only[ho,hw];exact h _ _ h3
def Dq(P:Program)(md:Region.Mode)(ops:Array Oper)(val:X->World)(Q:Act->World->Prop):Nat->Array Bool->Act->World->Prop
 | 0,listed,a,w=>Region.ready md ops listed=[]/\Q a w
 | f+1,listed,a,w=>Region.ready md ops listed≠[]/\∀i∈Region.ready md ops listed,r_ P ops i (fun a' w'=>(∃x,val x=w')/\Dq P md ops val Q f (listed.setIfInBounds i true) a' w') a w
theorem aiW{Q':Exit->Act->World->Prop}:
  ∀(f:Nat) (listed:Array Bool) (a:Act) (w:World),Dq P md ops val (Q' .normal) f listed a w->wpAny P md ops Q' f listed a w:=by
 intro f
 induction f with
 | zero=>intro listed a w h;exact h
 | succ f ih =>
  intro listed a w h;exact⟨fun h0=>absurd h0 h.1,fun i hi=>aiV (fun a' w' h'=>ih _ a' w' h'.2) (h.2 i hi)⟩
theorem Wy{i:Nat}{oi:Oper}{v:Value}{Q:Act->World->Prop}(hi:ops[i]?=some oi)(hsel:∀(j:Nat) (o:Oper) cs b,ops[j]?=some o->o.op≠.select cs b):
  ∀(f:Nat) (listed:Array Bool) (a:Act) (x:X),
   (∀j oj,ops[j]?=some oj->j≠i->listed.getD j true=false->(∀e∈oj.after,Region.binds md e=true->e.on≠i)->oi.apart ops oj=true) ->
   i∈Region.ready md ops listed->tV P ops val oi v a ->
   Dq P md ops val Q f (listed.setIfInBounds i true) (a.put oi.dst v) (val x)->Dq P md ops val Q (f+1) listed a (val x):=by
 intro f
 induction f with
 | zero =>
  intro listed a x _ hr hy H;refine⟨fun h=>(by rw[h]at hr;cases hr),fun j hj=>?_⟩;by_cases bC:j=i
  .subst bC;exact hy.r_ hi ⟨⟨x,rfl⟩,H⟩
  .have:=ready_mono hj bC
   rw[H.1]at this;cases this
 | succ f ih =>
  intro listed a x nI hr hy H;have oc:=(mem_ready.1 hr).1;refine⟨fun h=>(by rw[h]at hr;cases hr),fun j hj=>?_⟩;by_cases bC:j=i
  .subst bC;exact hy.r_ hi ⟨⟨x,rfl⟩,H⟩
  .obtain⟨nJ,oj,hoj,hall⟩:=mem_ready.1 hj
   have tL:∀e∈oj.after,Region.binds md e=true->e.on≠i:=fun e he hb heq=>by
    have h1:=hall e he hb;rw[heq,getD_both oc]at h1;cases h1
   have h2:=aiU hoj (nI j oj hoj bC nJ tL) (fun cs b=>hsel i oi cs b hi) (fun cs b=>hsel j oj cs b hoj) hy (H.2 j (ready_mono hj bC));refine aiT (fun a' w' h3=>?_) h2;obtain⟨hy',⟨x',hx'⟩,h4⟩:=h3;subst hx';refine⟨⟨x',rfl⟩,ih (listed.setIfInBounds j true) a' x' (fun k ok hk aT hu hno=>nI k ok hk aT ?_ hno) (ready_mono hr (Ne.symm bC)) hy' ?_⟩
   .by_cases hjk:j=k
    .subst hjk;exact nJ
    .rw[getD_set_ne true hjk]at hu;exact hu
   .rw[Array.setIfInBounds_comm _ _ bC];exact h4
def pY(P:Program)(ops:Array Oper)(val:X->World)(sp:List Nat)(Q:Act->World->Prop):List Nat->Act->World->Prop
 | [],a,w=>Q a w
 | i::r,a,w=>∃o,ops[i]?=some o/\((Region.wanted o (yielded ops a.tmps)=false/\pY P ops val sp Q r (a.put o.dst undef) w)\/(Region.wanted o (yielded ops a.tmps)=true /\
   if sp.contains i=true then aB P (fun v w'=>(∃x,val x=w')/\pY P ops val sp Q r (a.put o.dst v) w') ((execOp a.eval o).run P w)
   else ∃v,(∀x,aQ (val x) v ((execOp a.eval o).run P (val x)))/\pY P ops val sp Q r (a.put o.dst v) w))
theorem GX{sp:List Nat}{Q:Act->World->Prop}{a:Act}{w:World}(h:Q a w):pY P ops val sp Q [] a w:=h
theorem qQ{sp:List Nat}{Q:Act->World->Prop}{i:Nat}{r:List Nat}{a:Act}{w:World}{o:Oper}(ho:ops[i]?=some o)(hs:sp.contains i=false)(h:∀K:Act->Prop,(∀a,pY P ops val sp Q r a w->K a)->Region.wanted o (yielded ops a.tmps)=true/\∃v,(∀x,aQ (val x) v ((execOp a.eval o).run P (val x)))/\K (a.put o.dst v)):pY P ops val sp Q (i::r) a w:=by obtain⟨h1,v,h2,h3⟩:=h _ (fun _ h=>h);refine⟨o,ho,.inr ⟨h1,?_⟩⟩;rw[if_neg (by rw[hs];simp)];exact⟨v,h2,h3⟩
theorem NA{sp:List Nat}{Q:Act->World->Prop}{i:Nat}{r:List Nat}{a:Act}{w:World}{o:Oper}(ho:ops[i]?=some o)(h:∀K:Act->Prop,(∀a,pY P ops val sp Q r a w->K a)->Region.wanted o (yielded ops a.tmps)=false/\K (a.put o.dst undef)):pY P ops val sp Q (i::r) a w:=by obtain⟨h1,h2⟩:=h _ (fun _ h=>h);exact⟨o,ho,.inl ⟨h1,h2⟩⟩
theorem Wz{sp:List Nat}{Q:Act->World->Prop}{i:Nat}{r:List Nat}{a:Act}{w:World}{o:Oper}(ho:ops[i]?=some o)(hs:sp.contains i=true)(h:∀K:Act->World->Prop,(∀a w,pY P ops val sp Q r a w->K a w)->Region.wanted o (yielded ops a.tmps)=true/\aB P (fun v w'=>(∃x,val x=w')/\K (a.put o.dst v) w') ((execOp a.eval o).run P w)):pY P ops val sp Q (i::r) a w:=by obtain⟨h1,h2⟩:=h _ (fun _ _ h=>h);refine⟨o,ho,.inr ⟨h1,?_⟩⟩;rw[if_pos hs];exact h2
theorem aiX{sp:List Nat}{Q:Act->World->Prop}(hsel:Region.noSelect ops=true):
  ∀(ord:List Nat) (listed:Array Bool) (a:Act) (x:X),tQ md ops sp ord listed=true->pY P ops val sp Q ord a (val x)->Dq P md ops val Q ord.length listed a (val x):=by
 intro ord
 induction ord with
 | nil =>
  intro listed a x hB h;exact⟨by simpa [tQ] using hB,h⟩
 | cons i r ih =>
  intro listed a x hB h;simp only[tQ,Bool.and_eq_true]at hB;obtain⟨⟨hr,hf⟩,hB'⟩:=hB;have dZ:i∈Region.ready md ops listed:=by simpa using hr
  obtain⟨o,ho,h⟩:=h;by_cases hs:sp.contains i=true
  .rw[if_pos hs]at hf h
   refine⟨fun h0=>(by rw[h0]at dZ;cases dZ),fun j hj=>?_⟩;have:j=i:=by
    have:=List.all_eq_true.1 hf j hj
    simpa using this
   subst this;rcases h with ⟨hw,h⟩ | ⟨hw,h⟩
   .exact⟨o,ho,.inr ⟨hw,⟨x,rfl⟩,ih _ _ x hB' h⟩⟩
   .exact⟨o,ho,.inl ⟨hw,nk (fun v w' ⟨⟨x',hx'⟩,h'⟩=>by subst hx';exact⟨⟨x',rfl⟩,ih _ _ x' hB' h'⟩) h⟩⟩
  .rw[if_neg hs]at hf h
   rcases h with ⟨hw,hK⟩ | ⟨hw,v,hv,hK⟩
   .exact Wy ho (Region.noSelect_spec hsel) r.length listed a x (Region.free_spec ho hf) dZ (.inr ⟨hw,rfl⟩) (ih _ _ x hB' hK)
   .exact Wy ho (Region.noSelect_spec hsel) r.length listed a x (Region.free_spec ho hf) dZ (.inl ⟨hw,hv⟩) (ih _ _ x hB' hK)
theorem GY{id:Nat}{Q:Exit->Act->World->Prop}{a:Act}{w:World}{l:List Oper}(sp ord:List Nat)(hm:P.follows .mixedOrders=true)(hB:(Region.noSelect l.toArray&&(ord.length==l.length)&&tQ .any l.toArray sp ord (Array.replicate l.toArray.size false))=true)(x0:X)(hx0:val x0 = { w with drawn:=w.drawn+1 })(h:pY P l.toArray val sp (Q .normal) ord a (val x0)):(Code.region id l.toArray true).wp P Q a w:=by simp only[Bool.and_eq_true,beq_iff_eq]at hB;obtain⟨⟨hsel,hlen⟩,hB⟩:=hB;refine wp_region_any hm ?_;have T:=aiW (Q':=Q) _ _ _ _ (aiX (md:=.any) hsel ord _ a x0 hB h);rw[hlen,hx0]at T;simpa using T
end
end Go.Proofs.YtjolccidheflpaaGreatDoor
namespace Go.Proofs.YtjolccidheflpaaGreatDoor
set_option maxHeartbeats 8000000
open Go.RowKit
set_option maxRecDepth 100000
namespace bg
theorem anl(et:Nat->ByteArray)(P:Pl.St)(f:Nat->ByteArray){i k:Nat}(hi:i<k):(gT et P f k)[i]?=some (mo et (cn (nW P f i) (f i)).1):=by
 have h:=OW et P f k (i+1) hi;have h2:((gT et P f k).take (i+1))[i]?=(gT et P f k)[i]?:=by rw[List.getElem?_take];simp
 rw[<- h2,h];show (gT et P f i++[_])[i]?=_;rw[List.getElem?_append_right (by rw[sx];exact E _),sx,Nat.sub_self];rfl
theorem anm{x:ByteArray}{q:Nat}(hq:q<=x.size)(hn:∀t,t<q->x.data.toList[t]?≠some 32)(he:q=x.size\/x.data.toList[q]?=some 32):x.extract 0 q=nameOf x:=by rw[amV hq hn he];apply ByteArray.ext;apply Array.ext';rw[ByteArray.data_extract];simp[List.extract]
section
variable {ad:Nat->Addr} {et:Nat->ByteArray}
theorem ano(a:Option Addr)(m cap:Nat)(l:List ByteArray)(W:World)(hs:Hid (bJ W ad))(hbt:Hid (iF W))(hL:Hid (ik W))(hT:Hid (sw W ad et))(het:Hid (et 0=⟨(pX 0).toArray⟩))(hl:Hid (l.length=m))(ha:Hid (jw W a l)):
  Calls Tryz.prog 6 #[.slice a m cap] W fun e w'=>e=.returned (.bool true)/\U W w':=by
 have Ib:=Y (YI W hs hbt hL hT);by_cases hm:(110:Int)<m
 .go_enter Tryz.func6,Tryz.ntmps6
  go_wp2_with fail
  refine Ib.mono ?_;rintro e w1 ⟨rfl,hb1⟩;have HB1:=Y hb1;clear hb1;simp only[];go_wp2;go_ret;exact⟨rfl,HB1⟩
 go_enter Tryz.func6,Tryz.ntmps6
 go_wp2_with fail
 refine Ib.mono ?_;rintro e w1 ⟨rfl,hb1⟩;have HB1:=Y hb1;clear hb1;simp only[]
 go_wp2_with fail
 go_loopw [4,5] (fun yG kv wr=>∃k:Nat,k<=m/\kv=Z k/\wr.ownsRow W.heap.size 9 1 yG (l.take k).length (f_ (fun x=>x) (l.take k))/\(∀x∈l.take k,x.size<=100)/\U W wr) (fun _ kv _=>m-(intOf kv).toNat)
 case atStart=>exact⟨0,Nat.zero_le _,rfl,World.ownsRow_nil _ _ _ _,fun x hx=>(by cases hx),HB1⟩
 case round =>
  obtain⟨k,hk,rfl,hr,hsz,hb⟩:=hrel;have HR:=Y hr;have iy:=Y hsz;have HB:=Y hb;clear hr hsz hb;by_cases hlt:k<m
  .have aT:(k:Int)<m:=by omega
   have hkl:k<l.length:=by rw[hl.out];exact hlt
   obtain⟨x,hx⟩:∃x,l[k]?=some x:=⟨_,List.getElem?_eq_getElem hkl⟩;obtain⟨g,hg,hc⟩:=(ha.later HB) k x hx;have rY:=Y (show l.take (k+1)=l.take k++[x] by rw[List.take_add_one,hx];rfl);subst hg;clear hx;by_cases hxz:(100:Int)<(x.size:Int)
   .go_wp2
    go_ret;exact⟨rfl,HB⟩
   .have hba:U wr (wr.alloc (.cells #[.string x] 9)):=aj
    obtain⟨v6,aA,hap,fB,mU⟩:=Aj (fun x=>x) wr u4 (l.take k) x HR (by rw[lKq];omega) HB.size;have ic:=Y ((ar HB hba).grown mU (lTq HB.size hba.size) (fun q hq=>(cB HR hq).1));have ew:=Y fB;have cW:=Y hap;clear hap fB mU hba
    go_wp2_with (at_builtin;refine wpList_append_run rfl _ _ 70 rfl _ _ _ rfl rfl cW ?_)
    go_roundw
    case rel=>exact⟨k+1,hlt,by go_num,by rw[rY.out];exact ew,by rw[rY.out];exact fun y hy=>(List.mem_append.1 hy).elim (iy y) (fun h=>by rw[List.mem_singleton.1 h];omega),ic⟩
    case measure=>simp[intOf];omega
  .have aT:¬ (k:Int)<m:=by omega
   obtain rfl:k=m:=by omega
   have hr:=HR.out;rw[List.take_of_length_le (by rw[hl.out];omega)]at hr;have hsz:=iy.out;rw[List.take_of_length_le (by rw[hl.out];omega)]at hsz;rw[hl.out]at hr;obtain⟨uw,cv,rfl⟩:=fA hr;have HR:=Y hr;have iy:=Y hsz;clear hr hsz;by_cases aud:(100:Int)<k
   .have sG:=Y (anp uw k cv wr (Y (hs.later HB)) (by omega))
    go_wp2_with fail
    refine sG.mono ?_;rintro e w3 ⟨rfl,hb3⟩;have av:=Y (ar HB hb3);have yw:=Y (alW 2 (by decide) ad w3 (Y (hs.later av)));have e2:Go.Proofs.YtjolccidheflpaaGreatDoor.fq ad 2=.iface 412 (.pointer (some (ad 1))):=rfl;clear hb3 e2;simp only[]
    go_wp2_with fail
    refine yw.mono ?_;rintro e w4 ⟨rfl,hb4⟩;have bS:=Y (ar av hb4);clear hb4;simp only[];go_wp2;go_ret;exact⟨rfl,bS⟩
   .have rR:=Y (Ge (et:=et) uw k cv l W.heap.size wr (Y (hs.later HB)) (Y (hbt.later HB)) (Y (hL.later HB)) (Y (hT.later HB)) hl (Y (by rw[hl.out];exact HR)) (Y (fun x hx=>lTq (iy x hx) (by decide))) (by omega))
    obtain⟨AN,IG⟩:=aG (gT et dX (fun i=>l.getD i ⟨#[]⟩) k);have kX:Hid (AN.length=k):=Y (by rw[<- IG];exact sx _ _ _ _);have oh:=Y IG;rw[IG]at rR;clear IG
    go_wp2_with fail
    refine rR.mono ?_;rintro e w3 ⟨v3,rfl,hr3,hb3⟩;have av:=Y (ar HB hb3);obtain⟨a3,c3,rfl⟩:=fA hr3;have ko:=Y (jw.of (l:=AN) (by rw[kX.out];exact hr3));clear hb3 hr3;simp only[]
    go_wp2_with fail
    go_loopw [8] (fun iv wt=>∃i:Nat,i<=k/\iv=Z i/\U w3 wt) (fun iv _=>k-(intOf iv).toNat)
    case atStart=>exact⟨0,Nat.zero_le _,rfl,bRq _ _⟩
    case round =>
     obtain⟨i,hi,rfl,hbi⟩:=hrel;have rf:=Y hbi;clear hbi;by_cases hlt:i<k
     .have aT:(i:Int)<k:=by omega
      have Yz:i<l.length:=by rw[hl.out];exact hlt
      obtain⟨x,hx⟩:∃x,l[i]?=some x:=⟨_,List.getElem?_eq_getElem Yz⟩;obtain⟨g,hg,hc⟩:=((ha.later av).later rf) i x hx;have hxz:x.size<=100:=iy.out x (List.mem_of_getElem? hx);obtain⟨y,hy,ZG⟩:∃y,AN[i]?=some y/\Hid ((tab (nameOf x)=none\/∃c,tab (nameOf x)=some c/\nameOf x≠⟨#[98,121,116,101,115]⟩/\x.data.toList.count 32≠c.sp.length)->y=⟨(pX 0).toArray⟩):=by
       refine⟨_,by rw[<- oh.out];exact anl et dX _ hlt,Y fun h=>?_⟩;have Et:l.getD i ⟨#[]⟩=x:=by simp[List.getD_eq_getElem?_getD,hx]
       simp only[Et];rw[anq h];exact het
      obtain⟨g3,hg3,hc3⟩:=(ko.later rf) i y hy;have rX:=Y hc3;subst hg hg3;clear hx hy hc3
      go_wp2_with fail
      go_loopw [10,11] (fun bv yS wt=>∃j:Nat,j<=x.size/\yS=Z j/\bv=Z ((x.data.toList.take j).count 32:Nat)/\wt=wr) (fun _ yS _=>x.size-(intOf yS).toNat)
      case atStart=>exact⟨0,Nat.zero_le _,rfl,rfl,rfl⟩
      case round =>
       obtain⟨j,hj,rfl,rfl,rfl⟩:=hrel;by_cases sH:j<x.size
       .have bC:(j:Int)<x.size:=by omega
        have II:=Y (amW (s:=x.data.toList) (k:=j) (b:=x[j]) (by rw[List.getElem?_eq_getElem (show j<x.data.toList.length from sH)];rfl));have hcl:(x.data.toList.take j).count 32<=100:=lTq List.count_le_length (by rw[lKq];omega);generalize (x.data.toList.take j).count 32=n at *;by_cases hq:x[j]=32
        .have Sg:((x[j].toNat:Int)==32)=true:=by rw[hq];rfl
         rw[if_pos hq]at II;clear hq;go_wp2;exact⟨⟨j+1,by omega,by go_num,by rw[II.out];go_num,trivial⟩,by simp[intOf];omega⟩
        .have Sg:((x[j].toNat:Int)==32)=false:=by
          rw[beq_eq_false_iff_ne];exact fun e=>hq (UInt8.toNat_inj.1 (by rw[show x[j].toNat=32 by omega];rfl))
         rw[if_neg hq]at II;clear hq;go_wp2;exact⟨⟨j+1,by omega,by go_num,by rw[II.out];rfl,trivial⟩,by simp[intOf];omega⟩
       .have bC:¬ (j:Int)<x.size:=by omega
        obtain rfl:j=x.size:=by omega
        have Eb:Hid ((x.data.toList.take x.size).count 32=x.data.toList.count 32):=Y (by rw[List.take_of_length_le (show x.data.toList.length<=x.size from E _)]);rw[Eb.out];generalize x.data.toList.count 32=cl at *
        go_wp2_with fail
        go_loopw [9] (fun qv wt=>∃q:Nat,q<=x.size/\qv=Z q/\(∀t,t<q->x.data.toList[t]?≠some 32)/\wt=wr) (fun qv _=>x.size-(intOf qv).toNat)
        case atStart=>exact⟨0,Nat.zero_le _,rfl,fun t ht=>absurd ht (Nat.not_lt_zero _),rfl⟩
        case round =>
         obtain⟨q,hq,rfl,ZH,rfl⟩:=hrel;have PH:=Y ZH;clear ZH;by_cases hgo:∃h:q<x.size,x[q]≠32
         .obtain⟨mS,hb⟩:=hgo
          have Fw:(q:Int)<x.size:=by omega
          have ZI:x.data.toList[q]?=some x[q]:=by rw[List.getElem?_eq_getElem (show q<x.data.toList.length from mS)];rfl
          have hb2:((x[q].toNat:Int) != 32)=true:=by rw[bne_iff_ne];exact fun e=>hb (UInt8.toNat_inj.1 (by rw[show x[q].toNat=32 by omega];rfl))
          have anr:Hid (∀t,t<q+1->x.data.toList[t]?≠some 32):=Y fun t ht=>by
           by_cases ant:t<q
           .exact PH t ant
           .obtain rfl:t=q:=by omega
            rw[ZI];exact fun e=>hb (Option.some.inj e)
          clear hb ZI;go_wp2;exact⟨⟨q+1,by omega,by go_num,anr,trivial⟩,by simp[intOf];omega⟩
         .have Es:Hid (x.extract 0 q=nameOf x):=Y (anm hq PH (by
           by_cases mS:q<x.size
           .refine .inr ?_
            rw[List.getElem?_eq_getElem (show q<x.data.toList.length from mS)];exact congrArg some (Decidable.not_not.1 fun h=>hgo ⟨mS,h⟩)
           .exact .inl (by omega)))
          have Ph:=Y (Zb (nameOf x) wr);have Il:Hid (∀aI,U wr aI->aI.cell? (g3.add i)=some (.string y)):=Y fun aI h5=>cell_later h5 rX;rcases Nat.lt_or_ge q x.size with mS | mS
          all_goals first
           | (have Fw : (q : Int)<x.size := by omega
              have hb2:((x[q].toNat:Int) != 32)=false:=by rw[Decidable.not_not.1 fun h=>hgo ⟨mS,h⟩];rfl
              clear hgo
              go_wp2_with fail)
           | (have Fw : ¬ (q : Int)<x.size := by omega
              clear hgo
              go_wp2_with fail)
          all_goals
           rw[Es.out];refine Ph.mono ?_;rintro e aI ⟨fm,is,rfl,lA,hfa⟩;subst aI;have Gh:=Y hfa;clear hfa;simp only[];obtain⟨nb,hnb⟩:=aG ((x.extract 0 q).toList==[98,121,116,101,115]);obtain⟨IJ,hnc⟩:=aG ((cl:Int) != (fm.size:Int));have qF:Hid (nb=false->nameOf x≠⟨#[98,121,116,101,115]⟩):=Y fun h e=>by
            rw[Es.out,e]at hnb;rw[h,ByteArray.toList_eq]at hnb;exact absurd hnb (by decide)
           have ZJ:Hid (IJ=true->cl≠fm.size):=Y fun h e=>by
            rw[h,e]at hnc;simp at hnc
           by_cases mE:is=false\/(nb=false/\IJ=true)
           .have IK:y=⟨(pX 0).toArray⟩:=ZG.out (by
             rcases Gh.out with ⟨h1,_⟩ | ⟨c,h1,h2,h3⟩
             .exact .inl h1
             .rcases mE with h | ⟨h4,h5⟩
              .rw[h2]at h;cases h
              .exact .inr ⟨c,h1,qF h4,by rw[<- h3];exact ZJ h5⟩)
            cases is
            .clear mE
             cases nb <;> cases IJ
             all_goals
              obtain⟨T0,Eu⟩:=aG (⟨(pX 0).toArray⟩:ByteArray);have Ev:=Y (Zc wr.drew);rw[Eu]at IK Ev;subst IK;clear Eu;obtain⟨bl,val,hcl,ay⟩:=gu (fun W'=>U wr W');obtain⟨x0,hx0⟩:=ay wr.drew cw;have hnx:Nonempty bl:=⟨x0⟩;have s0:∀x0,(val x0).cell? (g3.add i)=some (.string y):=fun x0=>Il _ (hcl x0);have aH:=Y ay;clear ay hcl;go_wp2;refine GY (val:=val) [10] [0,1,2,3,4,5,6,7,8,9,10,11,12] (by kernel_rfl) (by kernel_rfl) x0 hx0 ?_;rw[hx0];clear hx0
              iterate 3 (refine qQ rfl rfl (fun K hK=>?_);refine⟨by rfl,?_⟩;unfold aQ;go_simp;refine hK _ ?_;clear hK K)
              refine NA rfl (fun K hK=>?_);refine⟨by rfl,?_⟩;go_simp;refine hK _ ?_;clear hK K
              iterate 6 (refine qQ rfl rfl (fun K hK=>?_);refine⟨by rfl,?_⟩;unfold aQ;go_simp;refine hK _ ?_;clear hK K)
              refine Wz rfl rfl (fun K hK=>?_);refine⟨by rfl,?_⟩;unfold aB;go_simp;refine Ev.mono ?_;rintro e aA ⟨rfl,hb6⟩;have bk:Hid (U wr aA):=Y (Below.trans (cw (W:=wr)) hb6);refine⟨_,rfl,aH _ bk,hK _ _ ?_⟩;clear hK K hb6
              iterate 2 (refine qQ rfl rfl (fun K hK=>?_);refine⟨by rfl,?_⟩;unfold aQ;go_simp;refine hK _ ?_;clear hK K)
              refine GX ?_;go_wp2;exact⟨⟨i+1,by omega,by go_num,rf.trans ((bk).mono rf.size)⟩,by simp[intOf];omega⟩
            .obtain⟨rfl,rfl⟩:=mE.resolve_left (by simp)
             clear mE;obtain⟨T0,Eu⟩:=aG (⟨(pX 0).toArray⟩:ByteArray);have Ev:=Y (Zc wr.drew);rw[Eu]at IK Ev;subst IK;clear Eu;obtain⟨bl,val,hcl,ay⟩:=gu (fun W'=>U wr W');obtain⟨x0,hx0⟩:=ay wr.drew cw;have hnx:Nonempty bl:=⟨x0⟩;have s0:∀x0,(val x0).cell? (g3.add i)=some (.string y):=fun x0=>Il _ (hcl x0);have aH:=Y ay;clear ay hcl;go_wp2;refine GY (val:=val) [10] [0,1,2,3,4,5,6,7,8,9,10,11,12] (by kernel_rfl) (by kernel_rfl) x0 hx0 ?_;rw[hx0];clear hx0
             iterate 3 (refine qQ rfl rfl (fun K hK=>?_);refine⟨by rfl,?_⟩;unfold aQ;go_simp;refine hK _ ?_;clear hK K)
             refine qQ rfl rfl (fun K hK=>?_);refine⟨by rfl,?_⟩;unfold aQ;go_simp;refine hK _ ?_;clear hK K
             iterate 6 (refine qQ rfl rfl (fun K hK=>?_);refine⟨by rfl,?_⟩;unfold aQ;go_simp;refine hK _ ?_;clear hK K)
             refine Wz rfl rfl (fun K hK=>?_);refine⟨by rfl,?_⟩;unfold aB;go_simp;refine Ev.mono ?_;rintro e aA ⟨rfl,hb6⟩;have bk:Hid (U wr aA):=Y (Below.trans (cw (W:=wr)) hb6);refine⟨_,rfl,aH _ bk,hK _ _ ?_⟩;clear hK K hb6
             iterate 2 (refine qQ rfl rfl (fun K hK=>?_);refine⟨by rfl,?_⟩;unfold aQ;go_simp;refine hK _ ?_;clear hK K)
             refine GX ?_;go_wp2;exact⟨⟨i+1,by omega,by go_num,rf.trans ((bk).mono rf.size)⟩,by simp[intOf];omega⟩
           .clear Gh qF ZJ ZG Es PH
            cases is
            .exact absurd (.inl rfl) mE
            cases nb
            .cases IJ
             .clear mE
              obtain⟨bl,val,hcl,ay⟩:=gu (fun W'=>U wr W');obtain⟨x0,hx0⟩:=ay wr.drew cw;have hnx:Nonempty bl:=⟨x0⟩;clear ay hcl;go_wp2;refine GY (val:=val) [10] [0,1,2,3,4,5,6,7,8,9,10,11,12] (by kernel_rfl) (by kernel_rfl) x0 hx0 ?_;rw[hx0];clear hx0
              iterate 6 (refine qQ rfl rfl (fun K hK=>?_);refine⟨by rfl,?_⟩;unfold aQ;go_simp;refine hK _ ?_;clear hK K)
              iterate 6 (refine NA rfl (fun K hK=>?_);refine⟨by rfl,?_⟩;go_simp;refine hK _ ?_;clear hK K)
              refine qQ rfl rfl (fun K hK=>?_);refine⟨by rfl,?_⟩;unfold aQ;go_simp;refine hK _ ?_;clear hK K;refine GX ?_;go_wp2;exact⟨⟨i+1,by omega,by go_num,rf.trans ((cw).mono rf.size)⟩,by simp[intOf];omega⟩
             .exact absurd (.inr ⟨rfl,rfl⟩) mE
            .clear mE
             obtain⟨bl,val,hcl,ay⟩:=gu (fun W'=>U wr W');obtain⟨x0,hx0⟩:=ay wr.drew cw;have hnx:Nonempty bl:=⟨x0⟩;clear ay hcl;go_wp2;refine GY (val:=val) [10] [0,1,2,3,4,5,6,7,8,9,10,11,12] (by kernel_rfl) (by kernel_rfl) x0 hx0 ?_;rw[hx0];clear hx0
             iterate 6 (refine qQ rfl rfl (fun K hK=>?_);refine⟨by rfl,?_⟩;unfold aQ;go_simp;refine hK _ ?_;clear hK K)
             iterate 6 (refine NA rfl (fun K hK=>?_);refine⟨by rfl,?_⟩;go_simp;refine hK _ ?_;clear hK K)
             refine qQ rfl rfl (fun K hK=>?_);refine⟨by rfl,?_⟩;unfold aQ;go_simp;refine hK _ ?_;clear hK K;refine GX ?_;go_wp2;exact⟨⟨i+1,by omega,by go_num,rf.trans ((cw).mono rf.size)⟩,by simp[intOf];omega⟩
     .have aT:¬ (i:Int)<k:=by omega
      go_wp2;go_ret;exact⟨rfl,ar av rf⟩
end
end bg
end Go.Proofs.YtjolccidheflpaaGreatDoor
