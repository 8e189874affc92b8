/- Shuffle by its contract: so many in another order. -/
import Derived.Test.YtjolccidheflpaaGreatDoorV20
import Derived.BigRegion
import Derived.Sort.WalkC
import Derived.Lib.RowBridge
namespace Go.Proofs.YtjolccidheflpaaGreatDoor
set_option maxHeartbeats 8000000
open Go.RowKit
set_option maxRecDepth 100000
theorem ahS:∃ i,Tryz.prog.info? 3=some i∧i.zero=some (.int .i64 0)∧i.size=1∧i.bytes=8:=⟨_,rfl,rfl,rfl,rfl⟩
def upto (k:Nat):List Value:=(List.range k).map fun i=>.int .i64 (Int.ofNat i)
theorem ahT (k:Nat):upto (k+1)=upto k++[.int .i64 (k:Int)]:=by simp[upto,List.range_succ]
theorem V4 {w:World} {base g n cap:Nat} {zs:List Int} (h:w.ownsRow base 3 1 (.slice (some ⟨g,0,none⟩) n cap) n (zs.map fun z=>.int .i64 z)):Sort.Holds (Value.int .i64) w g 0 zs.toArray:=by
 intro j hj;have hj:j<zs.length:=by simpa using hj
 have hc:=World.ownsRow.cells h (g:=g) rfl j (.int .i64 zs[j]) (by simp[hj]);have hp:(⟨g,0,none⟩:Addr).add j=⟨g,j,none⟩:=by unfold Addr.add;split <;> simp_all
 rw[hp]at hc;rw[Nat.zero_add];refine⟨by rw[hc];simp[hj],?_⟩;rcases h.2 with ⟨e,_⟩ | ⟨g',cap',cur,e,_,hg,_⟩
 ·cases e
 ·simp only[Value.slice.injEq,Option.some.injEq,Addr.mk.injEq,and_true,true_and]at e
  rw[e.1];exact frozen_of_row w g' j cur 3 hg
theorem ahU {w w':World} {blk:Nat} {d:Array Int} (h:Sort.Holds (Value.int .i64) w blk 0 d) (hb:Below w.heap.size w w') (hl:blk<w.heap.size):Sort.Holds (Value.int .i64) w' blk 0 d:=by
 intro j hj;exact⟨cell_later hb (h j hj).1,by rw[hb.frozen (p:=⟨blk,0+j,none⟩) hl];exact(h j hj).2⟩
theorem Np {w:World} {B:Nat} {blk n:Nat} {d:Array Int} (hB:B<=blk):Below B w ((Sort.putRow (Value.int .i64) w blk 0 d).drewN n):=by
 refine⟨rfl,rfl,rfl,?_,fun k hk=>?_⟩
 ·show w.heap.size<=(Sort.putRow (Value.int .i64) w blk 0 d).heap.size
  rw[Sort.size_putRow];exact lRq _
 ·show (w.heap.modify blk _)[k]?=w.heap[k]?
  rw[Array.getElem?_modify,if_neg (by omega)]
def Order (w:World) (base:Nat) (v:Value) (d:Array Int):Prop :=
 (d.size=0∧v=.slice none 0 0)∨∃ g cap,v=.slice (some ⟨g,0,none⟩) d.size cap∧base<=g∧g<w.heap.size∧∀ i,i<d.size->w.cell? ⟨g,i,none⟩=some (.int .i64 d[i]!)
theorem ahd (s:Int) (n m:Nat) (hs:Hid (Ra.IsU s)) (hn':n<=1000) (hm:(n:Int)-1=m) (w:World) :
  Calls Tryz.prog 306 #[.int .i64 (n:Int),.int .u32 s] w fun e w'=>∃ v,e=.returned v∧Order w' w.heap.size v (Ra.eE s n m)∧Below w.heap.size w w':=by
 obtain⟨i0,hi,hz0,hz1,hz2⟩:=ahS;have Hi:=hDq hi;have eK:=hDq hz0;have eL:=hDq hz1;have eM:=hDq hz2;clear hi hz0 hz1 hz2;have hmin:(n:Int)<=1000:=by omega
 have hmn:n=m+1:=by omega
 have wG:=hDq hmn;clear hmn;go_enter Tryz.func306,Tryz.ntmps306;go_wp2
 go_loopw [5,14] (fun v i wr=>∃ k:Nat,k<=n∧i=.int .i64 k∧wr.ownsRow w.heap.size 3 1 v k (upto k)∧Below w.heap.size w wr) (fun _ i _=>n-(intOf i).toNat)
 case atStart=>exact⟨0,Nat.zero_le _,rfl,World.ownsRow_nil _ _ _ _,bRq _ _⟩
 case round =>
  obtain⟨k,hk,rfl,hown,hb⟩:=hrel;have HB:=hDq hb;have HO:=hDq hown;clear hb hown;by_cases hlt:k<n
  ·have aK:(k:Int)<n:=by omega
   go_wp2_with (at_builtin;refine wpList_append_own _ rfl _ _ 23 rfl w.heap.size 3 i0 (.int .i64 0) 1 8 Tryz.underlying23 Hi.out eK.out eL.out eM.out rfl (by decide) _ _ _ rfl (HO.out.alloc _) ⟨wr.heap.size,0,none⟩ 1 1 [.int .i64 (k:Int)] rfl rfl ?c1 ?c2 ?c3 ?c4 ?c5 ?_)
   case c1=>exact fun j u hj=>Wx wr _ _ u j _ rfl hj
   case c2=>intro u hu;have hu:u=.int .i64 (k:Int):=(by simpa using hu);rw[hu];rfl
   case c3=>unfold maxLen;omega
   case c4=>omega
   case c5=>have:=HB.out.size;simp;omega
   intro v3 w3 hown' hgrow _;have rE:Hid (w3.ownsRow w.heap.size 3 1 v3 (k+1) (upto (k+1))):=by
    show w3.ownsRow _ _ _ _ _ _;rw[ahT];exact hown'
   have au:Hid (Below w.heap.size w w3):=(HB.out.alloc HB.out.size _).grown hgrow (by have:=HB.out.size;simp;omega) (fun j hj=>by
    rcases HO.out.2 with ⟨e,_⟩ | ⟨g,cap,cur,e,hg,_⟩
    ·rw[e]at hj;cases hj
    ·rw[e]at hj;cases hj;exact hg)
   clear hown' hgrow HO HB;go_wp2;exact⟨⟨k+1,by omega,by go_num,rE.out,au.out⟩,by simp[intOf];omega⟩
  ·have aK:¬ (k:Int)<n:=by omega
   obtain rfl:k=n:=by omega
   have hown:=HO.out;rcases hown.2 with ⟨_,e2⟩ | ⟨g,cap,cur,rfl,hg1,hg2,_⟩
   ·have:=wG.out;omega
   have rJ:g<wr.heap.size:=(Array.getElem?_eq_some_iff.1 hg2).1;have HH:Hid (Sort.Holds (Value.int .i64) wr g 0 (Ra.eE s k 0)):=V4 (zs:=(List.range k).map Int.ofNat) (by simpa [upto,Function.comp_def] using hown);have HG:Hid (w.heap.size<=g∧g<wr.heap.size):=⟨hg1,rJ⟩;clear HO hown hg1 hg2 rJ
   go_wp2_with fail
   refine(ahM s m hs.out (by have:=wG.out;omega) wr).mono ?_;rintro e w1 ⟨v1,rfl,dS,hb1⟩;have HW1:=hDq dS;have HB1:=hDq (HB.out.trans (hb1.mono HB.out.size));have yP:Hid (Sort.Holds (Value.int .i64) w1 g 0 (Ra.eE s k 0)):=ahU HH.out hb1 HG.out.2;have HS:Hid (wr.heap.size<=w1.heap.size):=hb1.size;clear dS hb1 HH HB;have HD:Hid ((Ra.eE s k m).size=k):=Ra.qu s k m;rcases HW1.out with ⟨yt,a1,wB,rfl⟩ | ⟨b,wB,rfl,hb1,hb2,hcs⟩
   ·have aox:=hDq yt
    obtain⟨v,hv⟩:∃ v:Value,v=.slice (some ⟨g,0,none⟩) k cap:=⟨_,rfl⟩;have HR:Hid (Order w1 w.heap.size (.slice (some ⟨g,0,none⟩) k cap) (Ra.eE s k m)):=by
     refine .inr ⟨g,cap,by rw[HD.out],HG.out.1,Nat.lt_of_lt_of_le HG.out.2 HS.out,fun i hi=>?_⟩;rw[yt]at hi ⊢
     have:=(yP.out i hi).1
     rwa [Nat.zero_add]at this
    clear yt hv HW1 yP;simp only[];go_wp2;refine wp_loop_rounds 1 ?_;rw[rounds_succ];go_wp2;go_ret;exact⟨_,rfl,HR.out,HB1.out⟩
   ·have HC:=hDq hcs;have cV:Hid (wr.heap.size<=b∧b<w1.heap.size):=⟨hb1,hb2⟩
    clear hcs hb1 hb2 HW1;simp only[];go_wp2
    go_loopw [29] (fun i wx=>∃ q j:Nat,j<=m∧i=.int .i64 j∧wx=(Sort.putRow (Value.int .i64) w1 g 0 (Ra.eE s k j)).drewN q) (fun i _=>m-(intOf i).toNat)
    case atStart=>exact⟨0,0,Nat.zero_le _,rfl,(Sort.putRow_self _ _ _ _ _ yP.out).symm⟩
    case round =>
     obtain⟨q,j,hj,rfl,hwx⟩:=hrel;have HX:=hDq hwx;by_cases hlt:j<m
     ·have a_:(j:Int)<m:=by omega
      obtain⟨i,hi⟩:∃ i:Nat,(m:Int)-(j:Int)=i:=⟨m-j,by omega⟩;obtain⟨x,hx⟩:∃ x,Ra.num s (j+1)=x:=⟨_,rfl⟩;obtain⟨hx0,hx1⟩:Ra.IsU x:=by rw[<- hx];exact Ra.Ww hs.out _
      have G9:i<1000:=by have:=wG.out;omega
      have aoy:wr.cell? ⟨b,j,none⟩=some (.int .u32 x):=by
       rw[hwx,<- hx,<- HC.out j hlt];exact Sort.cell?_putRow_other _ _ _ _ _ _ (.inl (by have:=cV.out.1;have:=HG.out.2;show b≠g;omega))
      obtain⟨t,ht⟩:∃ t:Nat,x%((i:Int)+1)=t:=⟨(x%((i:Int)+1)).toNat,by have:=Int.emod_nonneg x (b:=(i:Int)+1) (by omega);omega⟩;have htl:t<=i:=by have:=Int.emod_lt_of_pos x (b:=(i:Int)+1) (by omega);omega
      have hik:(i:Int)<k:=by have:=wG.out;omega
      have htk:(t:Int)<k:=by have:=wG.out;omega
      have G_:=Ra.qu s k j;have hH:=Sort.holds_putRow (Value.int .i64) w1 g 0 (Ra.eE s k 0) (Ra.eE s k j) yP.out (by rw[Ra.qu,Ra.qu]);obtain⟨ci,fi⟩:=hH i (by rw[G_];omega);obtain⟨ct,yQ⟩:=hH t (by rw[G_];omega);obtain⟨xi,Ha⟩:∃ y,(Ra.eE s k j)[i]! = y:=⟨_,rfl⟩;obtain⟨Co,NP⟩:∃ y,(Ra.eE s k j)[t]! = y:=⟨_,rfl⟩;rw[Nat.zero_add,Ha]at ci;rw[Nat.zero_add,NP]at ct;rw[Nat.zero_add]at fi yQ;have aoz:wr.cell? ⟨g,i,none⟩=some (.int .i64 xi):=by rw[hwx];exact ci
      have WQ:wr.cell? ⟨g,t,none⟩=some (.int .i64 Co):=by rw[hwx];exact ct
      have aoA:wr.frozen? ⟨g,i,none⟩=false:=by rw[hwx];exact fi
      have aoB:wr.frozen? ⟨g,t,none⟩=false:=by rw[hwx];exact yQ
      have rI:=hDq hx;have HT:=hDq ht;have WR:=hDq Ha;have WS:=hDq NP;have kE:=hDq G_;clear hwx hx ci ct fi yQ Ha NP G_ hH;have HS2:Hid (((wr.setCell ⟨g,i,none⟩ (.int .i64 Co)).setCell ⟨g,t,none⟩ (.int .i64 xi)).drew=(Sort.putRow (Value.int .i64) w1 g 0 (Ra.eE s k (j+1))).drewN (q+1)):=by
       show _=_;have e1:Ra.eE s k (j+1)=Sort.swp (Ra.eE s k j) i t:=by
        have h1:k-1-j=i:=by have:=wG.out;omega
        have h2:((k-j:Nat):Int)=(i:Int)+1:=by have:=wG.out;omega
        rw[Ra.eE,h1,h2,rI.out,HT.out,Int.toNat_natCast]
       rw[e1,<- swap_worldC (Value.int .i64) w1 g 0 (Ra.eE s k j) q i t (by rw[kE.out];omega) (by rw[kE.out];omega),WR.out,WS.out,<- HX.out,Nat.zero_add,Nat.zero_add]
      by_cases hit:t=i
      ·subst hit
       have oL:xi=Co:=by rw[<- WR.out,<- WS.out]
       subst oL;have cs:(wr.setCell ⟨g,t,none⟩ (.int .i64 xi)).cell? ⟨g,t,none⟩=some (.int .i64 xi):=World.cell?_setCell_same _ _ _ WQ
       go_wp2_with fail
       go_region
       go_wp2;exact⟨⟨q+1,j+1,by omega,by go_num,HS2.out⟩,by simp[intOf];omega⟩
      ·have cs:(wr.setCell ⟨g,i,none⟩ (.int .i64 Co)).cell? ⟨g,t,none⟩=some (.int .i64 Co):=by
        rw[World.cell?_setCell_other _ _ _ _ (by intro e;injection e with _ e2;exact hit e2.symm)];exact WQ
       go_wp2_with fail
       go_region
       go_wp2;exact⟨⟨q+1,j+1,by omega,by go_num,HS2.out⟩,by simp[intOf];omega⟩
     ·have a_:¬ (j:Int)<m:=by omega
      obtain rfl:j=m:=by omega
      have hH:=Sort.holds_putRow (Value.int .i64) w1 g 0 (Ra.eE s k 0) (Ra.eE s k j) yP.out (by rw[Ra.qu,Ra.qu]);have HB2:Hid (Below w.heap.size w wr):=HB1.out.trans (by rw[hwx];exact Np HG.out.1);have HR:Hid (Order wr w.heap.size (.slice (some ⟨g,0,none⟩) k cap) (Ra.eE s k j)):=by
       refine .inr ⟨g,cap,by rw[HD.out],HG.out.1,Nat.lt_of_lt_of_le HG.out.2 (lTq HS.out ?_),fun i hi=>?_⟩
       ·rw[hwx];exact(Np (B:=0) (Nat.zero_le _)).size
       ·have:=(hH i hi).1
        rw[Nat.zero_add]at this;rw[hwx];exact this
      clear hwx hH;go_wp2;go_ret;exact⟨_,rfl,HR.out,HB2.out⟩
end Go.Proofs.YtjolccidheflpaaGreatDoor
