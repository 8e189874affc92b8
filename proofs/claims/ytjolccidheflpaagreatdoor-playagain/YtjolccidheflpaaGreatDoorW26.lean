/- Shuffle by its contract: so many in another order. -/
import Derived.Test.YtjolccidheflpaaGreatDoorW20
import Derived.BigRegion
import Derived.Sort.WalkC
import Derived.Lib.RowBridge
namespace Go.Proofs.YtjolccidheflpaaGreatDoor
set_option maxHeartbeats 8000000
set_option maxRecDepth 100000
open Go.RowKit
theorem aiR:∃ i,Tryz.prog.info? 3=some i/\i.zero=some (Qa 0)/\i.size=1/\i.bytes=8:=⟨_,rfl,rfl,rfl,rfl⟩
def upto (k:Nat):List Value:=(List.range k).map fun i=>Qa (Int.ofNat i)
theorem aiS (k:Nat):upto (k+1)=upto k++[Qa (k:Int)]:=by simp[upto,List.range_succ]
theorem Ww {w:World} {base g n cap:Nat} {zs:List Int} (h:w.ownsRow base 3 1 (.slice (some (Qb g 0)) n cap) n (zs.map fun z=>Qa z)):Sort.Holds (Value.int .i64) w g 0 zs.toArray:=by
 intro j hj;have hj:j<zs.length:=by simpa using hj
 have hc:=World.ownsRow.cells h (g:=g) rfl j (Qa zs[j]) (by simp[hj]);have hp:(⟨g,0,none⟩:Addr).add j=(Qb g j):=by unfold Addr.add;split <;> simp_all
 rw[hp]at hc;rw[Nat.zero_add];refine⟨by rw[hc];simp[hj],?_⟩;rcases h.2 with ⟨e,_⟩ | ⟨g',cap',cur,e,_,hg,_⟩
 .cases e
 .simp only[Value.slice.injEq,Option.some.injEq,Addr.mk.injEq,and_true,true_and]at e
  rw[e.1];exact frozen_of_row w g' j cur 3 hg
theorem aiT {w w':World} {blk:Nat} {d:Array Int} (h:Sort.Holds (Value.int .i64) w blk 0 d) (hb:Qd w w') (hl:blk<w.heap.size):Sort.Holds (Value.int .i64) w' blk 0 d:=by
 intro j hj;exact⟨cell_later hb (h j hj).1,by rw[hb.frozen (p:=⟨blk,0+j,none⟩) hl];exact(h j hj).2⟩
theorem NI {w:World} {B:Nat} {blk n:Nat} {d:Array Int} (hB:B<=blk):Below B w ((Sort.putRow (Value.int .i64) w blk 0 d).drewN n):=by
 refine⟨rfl,rfl,rfl,?_,fun k hk=>?_⟩
 .show w.heap.size<=(Sort.putRow (Value.int .i64) w blk 0 d).heap.size
  rw[Sort.size_putRow];exact lRq _
 .show (w.heap.modify blk _)[k]?=w.heap[k]?
  rw[Array.getElem?_modify,if_neg (by omega)]
def Order (w:World) (base:Nat) (v:Value) (d:Array Int):Prop :=
 (d.size=0/\v=.slice none 0 0)\/∃ g cap,v=.slice (some (Qb g 0)) d.size cap/\base<=g/\g<w.heap.size/\∀ i,i<d.size->w.cell? (Qb g i)=some (Qa d[i]!)
theorem aic (s:Int) (n m:Nat) (hs:Hid (Ra.IsU s)) (hn':n<=1000) (hm:(n:Int)-1=m) (w:World) :
  Calls Tryz.prog 306 #[Qa (n:Int),.int .u32 s] w fun e w'=>∃ v,e=.returned v/\Order w' w.heap.size v (Ra.fB s n m)/\Qd w w':=by
 obtain⟨i0,hi,hz0,hz1,hz2⟩:=aiR;have Hi:=hDq hi;have eG:=hDq hz0;have eH:=hDq hz1;have eI:=hDq hz2;clear hi hz0 hz1 hz2;have hmin:(n:Int)<=1000:=by omega
 have hmn:n=m+1:=by omega
 have xB:=hDq hmn;clear hmn;go_enter Tryz.func306,Tryz.ntmps306;go_wp2
 go_loopw [5,14] (fun v i wr=>∃ k:Nat,k<=n/\i=Qa k/\wr.ownsRow w.heap.size 3 1 v k (upto k)/\Qd w wr) (fun _ i _=>n-(intOf i).toNat)
 case atStart=>exact⟨0,Nat.zero_le _,rfl,World.ownsRow_nil _ _ _ _,bRq _ _⟩
 case round =>
  obtain⟨k,hk,rfl,hown,hb⟩:=hrel;have HB:=hDq hb;have HO:=hDq hown;clear hb hown;by_cases hlt:k<n
  .have aX:(k:Int)<n:=by omega
   go_wp2_with (at_builtin;refine wpList_append_own _ rfl _ _ 23 rfl w.heap.size 3 i0 (Qa 0) 1 8 Tryz.underlying23 Hi.out eG.out eH.out eI.out rfl (by decide) _ _ _ rfl (HO.out.alloc _) (Qb wr.heap.size 0) 1 1 [Qa (k:Int)] rfl rfl ?c1 ?c2 ?c3 ?c4 ?c5 ?_)
   case c1=>exact fun j u hj=>W8 wr _ _ u j _ rfl hj
   case c2=>intro u hu;have hu:u=Qa (k:Int):=(by simpa using hu);rw[hu];rfl
   case c3=>unfold maxLen;omega
   case c4=>omega
   case c5=>have:=HB.out.size;simp;omega
   intro v3 w3 hown' hgrow _;have sV:Hid (w3.ownsRow w.heap.size 3 1 v3 (k+1) (upto (k+1))):=by
    show w3.ownsRow _ _ _ _ _ _;rw[aiS];exact hown'
   have au:Hid (Qd w w3):=(HB.out.alloc HB.out.size _).grown hgrow (by have:=HB.out.size;simp;omega) (fun j hj=>by
    rcases HO.out.2 with ⟨e,_⟩ | ⟨g,cap,cur,e,hg,_⟩
    .rw[e]at hj;cases hj
    .rw[e]at hj;cases hj;exact hg)
   clear hown' hgrow HO HB;go_wp2;exact⟨⟨k+1,by omega,by go_num,sV.out,au.out⟩,by simp[intOf];omega⟩
  .have aX:¬ (k:Int)<n:=by omega
   obtain rfl:k=n:=by omega
   have hown:=HO.out;rcases hown.2 with ⟨_,e2⟩ | ⟨g,cap,cur,rfl,hg1,hg2,_⟩
   .have:=xB.out;omega
   have qd:g<wr.heap.size:=(Array.getElem?_eq_some_iff.1 hg2).1;have HH:Hid (Sort.Holds (Value.int .i64) wr g 0 (Ra.fB s k 0)):=Ww (zs:=(List.range k).map Int.ofNat) (by simpa [upto,Function.comp_def] using hown);have HG:Hid (w.heap.size<=g/\g<wr.heap.size):=⟨hg1,qd⟩;clear HO hown hg1 hg2 qd
   go_wp2_with fail
   refine(aiL s m hs.out (by have:=xB.out;omega) wr).mono ?_;rintro e w1 ⟨v1,rfl,dz,hb1⟩;have HW1:=hDq dz;have HB1:=hDq (HB.out.trans (hb1.mono HB.out.size));have zh:Hid (Sort.Holds (Value.int .i64) w1 g 0 (Ra.fB s k 0)):=aiT HH.out hb1 HG.out.2;have HS:Hid (wr.heap.size<=w1.heap.size):=hb1.size;clear dz hb1 HH HB;have HD:Hid ((Ra.fB s k m).size=k):=Ra.q9 s k m;rcases HW1.out with ⟨yF,a1,sU,rfl⟩ | ⟨b,sU,rfl,hb1,hb2,hcs⟩
   .have ao3:=hDq yF
    obtain⟨v,hv⟩:∃ v:Value,v=.slice (some (Qb g 0)) k cap:=⟨_,rfl⟩;have HR:Hid (Order w1 w.heap.size (.slice (some (Qb g 0)) k cap) (Ra.fB s k m)):=by
     refine .inr ⟨g,cap,by rw[HD.out],HG.out.1,Nat.lt_of_lt_of_le HG.out.2 HS.out,fun i hi=>?_⟩;rw[yF]at hi ⊢
     have:=(zh.out i hi).1
     rwa [Nat.zero_add]at this
    clear yF hv HW1 zh;simp only[];go_wp2;refine wp_loop_rounds 1 ?_;rw[rounds_succ];go_wp2;go_ret;exact⟨_,rfl,HR.out,HB1.out⟩
   .have HC:=hDq hcs;have dx:Hid (wr.heap.size<=b/\b<w1.heap.size):=⟨hb1,hb2⟩
    clear hcs hb1 hb2 HW1;simp only[];go_wp2
    go_loopw [29] (fun i wx=>∃ q j:Nat,j<=m/\i=Qa j/\wx=(Sort.putRow (Value.int .i64) w1 g 0 (Ra.fB s k j)).drewN q) (fun i _=>m-(intOf i).toNat)
    case atStart=>exact⟨0,0,Nat.zero_le _,rfl,(Sort.putRow_self _ _ _ _ _ zh.out).symm⟩
    case round =>
     obtain⟨q,j,hj,rfl,hwx⟩:=hrel;have HX:=hDq hwx;by_cases hlt:j<m
     .have bI:(j:Int)<m:=by omega
      obtain⟨i,hi⟩:∃ i:Nat,(m:Int)-(j:Int)=i:=⟨m-j,by omega⟩;obtain⟨x,hx⟩:∃ x,Ra.num s (j+1)=x:=⟨_,rfl⟩;obtain⟨hx0,hx1⟩:Ra.IsU x:=by rw[<- hx];exact Ra.W7 hs.out _
      have GL:i<1000:=by have:=xB.out;omega
      have ao4:wr.cell? (Qb b j)=some (.int .u32 x):=by
       rw[hwx,<- hx,<- HC.out j hlt];exact Sort.cell?_putRow_other _ _ _ _ _ _ (.inl (by have:=dx.out.1;have:=HG.out.2;show b≠g;omega))
      obtain⟨t,ht⟩:∃ t:Nat,x%((i:Int)+1)=t:=⟨(x%((i:Int)+1)).toNat,by have:=Int.emod_nonneg x (b:=(i:Int)+1) (by omega);omega⟩;have htl:t<=i:=by have:=Int.emod_lt_of_pos x (b:=(i:Int)+1) (by omega);omega
      have hik:(i:Int)<k:=by have:=xB.out;omega
      have htk:(t:Int)<k:=by have:=xB.out;omega
      have Ht:=Ra.q9 s k j;have hH:=Sort.holds_putRow (Value.int .i64) w1 g 0 (Ra.fB s k 0) (Ra.fB s k j) zh.out (by rw[Ra.q9,Ra.q9]);obtain⟨ci,fi⟩:=hH i (by rw[Ht];omega);obtain⟨ct,zi⟩:=hH t (by rw[Ht];omega);obtain⟨xi,Hu⟩:∃ y,(Ra.fB s k j)[i]! = y:=⟨_,rfl⟩;obtain⟨CQ,N7⟩:∃ y,(Ra.fB s k j)[t]! = y:=⟨_,rfl⟩;rw[Nat.zero_add,Hu]at ci;rw[Nat.zero_add,N7]at ct;rw[Nat.zero_add]at fi zi;have ao5:wr.cell? (Qb g i)=some (Qa xi):=by rw[hwx];exact ci
      have Xn:wr.cell? (Qb g t)=some (Qa CQ):=by rw[hwx];exact ct
      have ao6:wr.frozen? (Qb g i)=false:=by rw[hwx];exact fi
      have ao7:wr.frozen? (Qb g t)=false:=by rw[hwx];exact zi
      have sY:=hDq hx;have HT:=hDq ht;have Xo:=hDq Hu;have Xp:=hDq N7;have oC:=hDq Ht;clear hwx hx ci ct fi zi Hu N7 Ht hH;have HS2:Hid (((wr.setCell (Qb g i) (Qa CQ)).setCell (Qb g t) (Qa xi)).drew=(Sort.putRow (Value.int .i64) w1 g 0 (Ra.fB s k (j+1))).drewN (q+1)):=by
       show _=_;have e1:Ra.fB s k (j+1)=Sort.swp (Ra.fB s k j) i t:=by
        have h1:k-1-j=i:=by have:=xB.out;omega
        have h2:((k-j:Nat):Int)=(i:Int)+1:=by have:=xB.out;omega
        rw[Ra.fB,h1,h2,sY.out,HT.out,Int.toNat_natCast]
       rw[e1,<- swap_worldC (Value.int .i64) w1 g 0 (Ra.fB s k j) q i t (by rw[oC.out];omega) (by rw[oC.out];omega),Xo.out,Xp.out,<- HX.out,Nat.zero_add,Nat.zero_add]
      by_cases hit:t=i
      .subst hit
       have rQ:xi=CQ:=by rw[<- Xo.out,<- Xp.out]
       subst rQ;have cs:(wr.setCell (Qb g t) (Qa xi)).cell? (Qb g t)=some (Qa xi):=World.cell?_setCell_same _ _ _ Xn
       go_wp2_with fail
       go_region
       go_wp2;exact⟨⟨q+1,j+1,by omega,by go_num,HS2.out⟩,by simp[intOf];omega⟩
      .have cs:(wr.setCell (Qb g i) (Qa CQ)).cell? (Qb g t)=some (Qa CQ):=by
        rw[World.cell?_setCell_other _ _ _ _ (by intro e;injection e with _ e2;exact hit e2.symm)];exact Xn
       go_wp2_with fail
       go_region
       go_wp2;exact⟨⟨q+1,j+1,by omega,by go_num,HS2.out⟩,by simp[intOf];omega⟩
     .have bI:¬ (j:Int)<m:=by omega
      obtain rfl:j=m:=by omega
      have hH:=Sort.holds_putRow (Value.int .i64) w1 g 0 (Ra.fB s k 0) (Ra.fB s k j) zh.out (by rw[Ra.q9,Ra.q9]);have HB2:Hid (Qd w wr):=HB1.out.trans (by rw[hwx];exact NI HG.out.1);have HR:Hid (Order wr w.heap.size (.slice (some (Qb g 0)) k cap) (Ra.fB s k j)):=by
       refine .inr ⟨g,cap,by rw[HD.out],HG.out.1,Nat.lt_of_lt_of_le HG.out.2 (lTq HS.out ?_),fun i hi=>?_⟩
       .rw[hwx];exact(NI (B:=0) (Nat.zero_le _)).size
       .have:=(hH i hi).1
        rw[Nat.zero_add]at this;rw[hwx];exact this
      clear hwx hH;go_wp2;go_ret;exact⟨_,rfl,HR.out,HB2.out⟩
end Go.Proofs.YtjolccidheflpaaGreatDoor
