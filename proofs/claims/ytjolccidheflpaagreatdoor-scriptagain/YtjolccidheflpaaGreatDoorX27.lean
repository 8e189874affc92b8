/- drawn by its contract: lots in the order of a seed; that order holds each of them once. -/
import Derived.Test.YtjolccidheflpaaGreatDoorX19
import Derived.Sort.WalkC
import Derived.Lib.RowBridge
import Derived.Test.YtjolccidheflpaaGreatDoorX20
namespace Go.Proofs.YtjolccidheflpaaGreatDoor
open Go.Proofs.Tryz
set_option maxHeartbeats 8000000
set_option maxRecDepth 100000
open Go.RowKit
theorem akR:∃i,prog.info? 3=some i/\i.zero=some (Z 0)/\i.size=1/\i.bytes=8:=⟨_,rfl,rfl,rfl,rfl⟩
def upto(k:Nat):List Value:=(List.range k).map fun i=>Z (Int.ofNat i)
theorem akS(k:Nat):upto (k+1)=upto k++[Z (k:Int)]:=by simp[upto,List.range_succ]
theorem XR{w:World}{base g n cap:Nat}{zs:List Int}(h:w.ownsRow base 3 1 (.slice (some (O g 0)) n cap) n (zs.map fun z=>Z z)):Sort.Holds (Value.int .i64) w g 0 zs.toArray:=by
 intro j hj;have hj:j<zs.length:=by simpa using hj
 have hc:=World.ownsRow.cells h (g:=g) rfl j (Z zs[j]) (by simp[hj]);have hp:(⟨g,0,none⟩:Addr).add j=(O g j):=by unfold Addr.add;split <;> simp_all
 rw[hp]at hc;rw[Nat.zero_add];refine⟨by rw[hc];simp[hj],?_⟩;rcases h.2 with ⟨e,_⟩ | ⟨g',cap',cur,e,_,hg,_⟩
 .cases e
 .simp only[Value.slice.injEq,Option.some.injEq,Addr.mk.injEq,and_true,true_and]at e
  rw[e.1];exact frozen_of_row w g' j cur 3 hg
theorem akT{w w':World}{blk:Nat}{d:Array Int}(h:Sort.Holds (Value.int .i64) w blk 0 d)(hb:U w w')(hl:blk<w.heap.size):Sort.Holds (Value.int .i64) w' blk 0 d:=by intro j hj;exact⟨cell_later hb (h j hj).1,by rw[hb.frozen (p:=⟨blk,0+j,none⟩) hl];exact(h j hj).2⟩
theorem Og{w:World}{B:Nat}{blk n:Nat}{d:Array Int}(hB:B<=blk):Below B w ((Sort.putRow (Value.int .i64) w blk 0 d).drewN n):=by
 refine⟨rfl,rfl,rfl,?_,fun k hk=>?_⟩
 .show w.heap.size<=(Sort.putRow (Value.int .i64) w blk 0 d).heap.size
  rw[Sort.size_putRow];exact E _
 .show (w.heap.modify blk _)[k]?=w.heap[k]?
  rw[Array.getElem?_modify,if_neg (by omega)]
def Order(w:World)(base:Nat)(v:Value)(d:Array Int):Prop :=
 (d.size=0/\v=.slice none 0 0)\/∃g cap,v=.slice (some (O g 0)) d.size cap/\base<=g/\g<w.heap.size/\∀i,i<d.size->w.cell? (O g i)=some (Z d[i]!)
theorem akb(s:Int)(n m:Nat)(hs:Hid (Ra.IsU s))(hn':n<=1000)(hm:(n:Int)-1=m)(w:World):
  Calls prog 306 #[Z (n:Int),.int .u32 s] w fun e w'=>∃v,e=.returned v/\Order w' w.heap.size v (Ra.gb s n m)/\U w w':=by
 obtain⟨i0,hi,hz0,hz1,hz2⟩:=akR;have Hi:=Y hi;have fe:=Y hz0;have fg:=Y hz1;have fh:=Y hz2;clear hi hz0 hz1 hz2;have hmin:(n:Int)<=1000:=by omega
 have hmn:n=m+1:=by omega
 have yF:=Y hmn;clear hmn;go_enter func306,ntmps306;go_wp2
 go_loopw [5,14] (fun v i wr=>∃k:Nat,k<=n/\i=Z k/\wr.ownsRow w.heap.size 3 1 v k (upto k)/\U w wr) (fun _ i _=>n-(intOf i).toNat)
 case atStart=>exact⟨0,Nat.zero_le _,rfl,World.ownsRow_nil _ _ _ _,bRq _ _⟩
 case round =>
  obtain⟨k,hk,rfl,hown,hb⟩:=hrel;have HB:=Y hb;have HO:=Y hown;clear hb hown;by_cases hlt:k<n
  .have aT:(k:Int)<n:=by omega
   go_wp2_with (at_builtin;refine wpList_append_own _ rfl _ _ 23 rfl w.heap.size 3 i0 (Z 0) 1 8 underlying23 Hi fe fg fh rfl (by decide) _ _ _ rfl (HO.alloc _) (O wr.heap.size 0) 1 1 [Z (k:Int)] rfl rfl ?c1 ?c2 ?c3 ?c4 ?c5 ?_)
   case c1=>exact fun j u hj=>Yk wr _ _ u j _ rfl hj
   case c2=>intro u hu;have hu:u=Z (k:Int):=(by simpa using hu);rw[hu];rfl
   case c3=>unfold maxLen;omega
   case c4=>omega
   case c5=>have:=HB.size;simp;omega
   intro v3 w3 hown' hgrow _;have uj:Hid (w3.ownsRow w.heap.size 3 1 v3 (k+1) (upto (k+1))):=by show w3.ownsRow _ _ _ _ _ _;rw[akS];exact hown'
   have av:Hid (U w w3):=(HB.alloc HB.size _).grown hgrow (by have:=HB.size;simp;omega) (fun j hj=>by
    rcases HO.2 with ⟨e,_⟩ | ⟨g,cap,cur,e,hg,_⟩
    .rw[e]at hj;cases hj
    .rw[e]at hj;cases hj;exact hg)
   clear hown' hgrow;go_wp2;exact⟨⟨k+1,by omega,by go_num,uj,av⟩,by simp[intOf];omega⟩
  .have aT:¬ (k:Int)<n:=by omega
   obtain rfl:k=n:=by omega
   have hown:=HO.out;rcases hown.2 with ⟨_,e2⟩ | ⟨g,cap,cur,rfl,hg1,hg2,_⟩
   .have:=yF.out;omega
   have su:g<wr.heap.size:=(Array.getElem?_eq_some_iff.1 hg2).1;have HH:Hid (Sort.Holds (Value.int .i64) wr g 0 (Ra.gb s k 0)):=XR (zs:=(List.range k).map Int.ofNat) (by simpa [upto,Function.comp_def] using hown);have HG:Hid (w.heap.size<=g/\g<wr.heap.size):=⟨hg1,su⟩;clear hown hg1 hg2 su
   go_wp2_with fail
   refine(akL s m hs (by have:=yF.out;omega) wr).mono ?_;rintro e w1 ⟨v1,rfl,d6,hb1⟩;have HW1:=Y d6;have HB1:=Y (ar HB hb1);have Dv:Hid (Sort.Holds (Value.int .i64) w1 g 0 (Ra.gb s k 0)):=akT HH hb1 HG.2;have HS:Hid (wr.heap.size<=w1.heap.size):=hb1.size;clear d6 hb1;have HD:Hid ((Ra.gb s k m).size=k):=Ra.sj s k m;rcases HW1.out with ⟨lZ,a1,uh,rfl⟩ | ⟨b,uh,rfl,hb1,hb2,hcs⟩
   .have atJ:=Y lZ
    obtain⟨v,hv⟩:∃v:Value,v=.slice (some (O g 0)) k cap:=⟨_,rfl⟩;have HR:Hid (Order w1 w.heap.size (.slice (some (O g 0)) k cap) (Ra.gb s k m)):=by
     refine .inr ⟨g,cap,by rw[HD.out],HG.1,Nat.lt_of_lt_of_le HG.2 HS,fun i hi=>?_⟩;rw[lZ]at hi ⊢
     have:=(Dv i hi).1
     rwa [Nat.zero_add]at this
    clear lZ hv;simp only[];go_wp2;refine wp_loop_rounds 1 ?_;rw[rounds_succ];go_wp2;go_ret;exact⟨_,rfl,HR,HB1⟩
   .have HC:=Y hcs;have dY:Hid (wr.heap.size<=b/\b<w1.heap.size):=⟨hb1,hb2⟩
    clear hcs hb1 hb2;simp only[];go_wp2
    go_loopw [29] (fun i wx=>∃q j:Nat,j<=m/\i=Z j/\wx=(Sort.putRow (Value.int .i64) w1 g 0 (Ra.gb s k j)).drewN q) (fun i _=>m-(intOf i).toNat)
    case atStart=>exact⟨0,0,Nat.zero_le _,rfl,(Sort.putRow_self _ _ _ _ _ Dv).symm⟩
    case round =>
     obtain⟨q,j,hj,rfl,hwx⟩:=hrel;have HX:=Y hwx;by_cases hlt:j<m
     .have bC:(j:Int)<m:=by omega
      obtain⟨i,hi⟩:∃i:Nat,(m:Int)-(j:Int)=i:=⟨m-j,by omega⟩;obtain⟨x,hx⟩:=aG (Ra.num s (j+1));obtain⟨hx0,hx1⟩:Ra.IsU x:=by rw[<- hx];exact Ra.Yj hs _
      have Yz:i<1000:=by have:=yF.out;omega
      have atK:wr.cell? (O b j)=some (.int .u32 x):=by rw[hwx,<- hx,<- HC.out j hlt];exact Sort.cell?_putRow_other _ _ _ _ _ _ (.inl (by have:=dY.1;have:=HG.2;show b≠g;omega))
      obtain⟨t,ht⟩:∃t:Nat,x%((i:Int)+1)=t:=⟨(x%((i:Int)+1)).toNat,by have:=Int.emod_nonneg x (b:=(i:Int)+1) (by omega);omega⟩;have htl:t<=i:=by have:=Int.emod_lt_of_pos x (b:=(i:Int)+1) (by omega);omega
      have hik:(i:Int)<k:=by have:=yF.out;omega
      have htk:(t:Int)<k:=by have:=yF.out;omega
      have H8:=Ra.sj s k j;have hH:=Sort.holds_putRow (Value.int .i64) w1 g 0 (Ra.gb s k 0) (Ra.gb s k j) Dv (by rw[Ra.sj,Ra.sj]);obtain⟨ci,fi⟩:=hH i (by rw[H8];omega);obtain⟨ct,Av⟩:=hH t (by rw[H8];omega);obtain⟨xi,oY⟩:∃y,(Ra.gb s k j)[i]! = y:=⟨_,rfl⟩;obtain⟨DV,OM⟩:∃y,(Ra.gb s k j)[t]! = y:=⟨_,rfl⟩;rw[Nat.zero_add,oY]at ci;rw[Nat.zero_add,OM]at ct;rw[Nat.zero_add]at fi Av;have atL:wr.cell? (O g i)=some (Z xi):=by rw[hwx];exact ci
      have YA:wr.cell? (O g t)=some (Z DV):=by rw[hwx];exact ct
      have atM:wr.frozen? (O g i)=false:=by rw[hwx];exact fi
      have atN:wr.frozen? (O g t)=false:=by rw[hwx];exact Av
      have uq:=Y hx;have HT:=Y ht;have YB:=Y oY;have DW:=Y OM;have iy:=Y H8;clear hwx hx ci ct fi Av oY OM H8 hH;have HS2:Hid (((wr.setCell (O g i) (Z DV)).setCell (O g t) (Z xi)).drew=(Sort.putRow (Value.int .i64) w1 g 0 (Ra.gb s k (j+1))).drewN (q+1)):=by
       show _=_;have e1:Ra.gb s k (j+1)=Sort.swp (Ra.gb s k j) i t:=by
        have h1:k-1-j=i:=by have:=yF.out;omega
        have h2:((k-j:Nat):Int)=(i:Int)+1:=by have:=yF.out;omega
        rw[Ra.gb,h1,h2,uq.out,HT.out,Int.toNat_natCast]
       rw[e1,<- swap_worldC (Value.int .i64) w1 g 0 (Ra.gb s k j) q i t (by rw[iy.out];omega) (by rw[iy.out];omega),YB.out,DW.out,<- HX.out,Nat.zero_add,Nat.zero_add]
      by_cases hit:t=i
      .subst hit
       have sX:xi=DV:=by rw[<- YB.out,<- DW.out]
       subst sX;have cs:(wr.setCell (O g t) (Z xi)).cell? (O g t)=some (Z xi):=World.cell?_setCell_same _ _ _ YA
       go_wp2_with fail
       go_region
       go_wp2;exact⟨⟨q+1,j+1,by omega,by go_num,HS2⟩,by simp[intOf];omega⟩
      .have cs:(wr.setCell (O g i) (Z DV)).cell? (O g t)=some (Z DV):=by
        rw[World.cell?_setCell_other _ _ _ _ (by intro e;injection e with _ e2;exact hit e2.symm)];exact YA
       go_wp2_with fail
       go_region
       go_wp2;exact⟨⟨q+1,j+1,by omega,by go_num,HS2⟩,by simp[intOf];omega⟩
     .have bC:¬ (j:Int)<m:=by omega
      obtain rfl:j=m:=by omega
      have hH:=Sort.holds_putRow (Value.int .i64) w1 g 0 (Ra.gb s k 0) (Ra.gb s k j) Dv (by rw[Ra.sj,Ra.sj]);have HB2:Hid (U w wr):=HB1.trans (by rw[hwx];exact Og HG.1);have HR:Hid (Order wr w.heap.size (.slice (some (O g 0)) k cap) (Ra.gb s k j)):=by
       refine .inr ⟨g,cap,by rw[HD.out],HG.1,Nat.lt_of_lt_of_le HG.2 (lTq HS ?_),fun i hi=>?_⟩
       .rw[hwx];exact(Og (B:=0) (Nat.zero_le _)).size
       .have:=(hH i hi).1
        rw[Nat.zero_add]at this;rw[hwx];exact this
      clear hwx hH;go_wp2;go_ret;exact⟨_,rfl,HR,HB2⟩
end Go.Proofs.YtjolccidheflpaaGreatDoor
namespace Go.Proofs.YtjolccidheflpaaGreatDoor
open Go.Proofs.Tryz
set_option maxHeartbeats 8000000
set_option maxRecDepth 100000
open Go.RowKit
namespace Ra
theorem aj4(d:Array Int)(i j:Nat)(hi:i<d.size)(hj:j<d.size):(Sort.swp d i j).toList.Perm d.toList:=by
 have h:=(Sort.swp_permIn d 0 d.size i j (Nat.zero_le _) hi (Nat.zero_le _) hj (E _)).2.2;have e1:(Sort.swp d i j).extract 0 d.size=Sort.swp d i j:=by
  have:=Sort.size_swp d i j
  rw[<- this];simp
 rw[e1]at h;simpa using h
theorem Oh(s:Int)(n:Nat):∀k,k<=n-1->(gb s n k).toList.Perm ((List.range n).map Int.ofNat)
 | 0,_=>by simp[gb]
 | k+1,h=>by
  have hsz:=sj s n k;have h1:=Int.emod_nonneg (num s (k+1)) (b:=((n-k:Nat):Int)) (by omega);have h2:=Int.emod_lt_of_pos (num s (k+1)) (b:=((n-k:Nat):Int)) (by omega);rw[gb];exact(aj4 _ _ _ (by omega) (by omega)).trans (Oh s n k (by omega))
def sh(s:Int)(l:List Cv.af):List Cv.af:=(gb s l.length (l.length-1)).toList.map fun i=>Cv.nth l i.toNat
theorem aj5:∀l:List Cv.af,(List.range l.length).map (Cv.nth l)=l:=fun l=>by
 apply List.ext_getElem?;intro i;rw[List.getElem?_map];by_cases hi:i<l.length
 .simp[Cv.nth,hi]
 .simp[hi]
theorem AA(s:Int):ug (sh s):=fun l=>by
 have h:=(Oh s l.length (l.length-1) (E _)).map fun i:Int=>Cv.nth l i.toNat;refine h.trans ?_;rw[List.map_map];have e:(fun i:Int=>Cv.nth l i.toNat) ∘ Int.ofNat=Cv.nth l:=by funext i;simp
 rw[e,aj5]
theorem XT(s:Int)(l:List Cv.af):(sh s l).length=l.length:=(AA s l).length_eq
theorem aj6(s:Int)(l:List Cv.af)(k:Nat)(hk:k<l.length):∃j:Nat,j<l.length/\(gb s l.length (l.length-1))[k]! = (j:Int)/\Cv.nth (sh s l) k=Cv.nth l j:=by
 have hsz:=sj s l.length (l.length-1);have hm:(gb s l.length (l.length-1))[k]!∈(gb s l.length (l.length-1)).toList:=by rw[getElem!_pos _ k (by omega)];exact Array.getElem_mem_toList _
 have XU:=(Oh s l.length (l.length-1) (E _)).mem_iff.1 hm;obtain⟨j,hj,e⟩:=List.mem_map.1 XU;refine⟨j,List.mem_range.1 hj,e.symm,?_⟩;have:Cv.nth (sh s l) k=Cv.nth l ((gb s l.length (l.length-1))[k]!).toNat:=by
  unfold sh
  conv=>lhs;unfold Cv.nth
  rw[gE,List.getElem?_map];rw[getElem!_pos _ k (by omega)];simp[hsz,hk,Cv.nth]
 rw[this,<- e];rfl
end Ra
theorem ij{w:World}{a b:Nat}{e:TypeId}{size:Nat}{v:Value}{n:Nat}{xs:List Value}(h:w.ownsRow a e size v n xs)(hb:b<=a):w.ownsRow b e size v n xs :=
 ⟨h.1,h.2.imp id fun ⟨g,cap,cur,h1,h2,h3⟩=>⟨g,cap,cur,h1,lTq hb h2,h3⟩⟩
theorem aj7(l:List Cv.af)(x:Cv.af):flat (l++[x])=flat l++eK x:=by simp[flat]
theorem aj8(x:Cv.af):∀u∈eK x,u.oneCell'=true:=fun u hu=>by
 simp only[eK,List.mem_cons,List.not_mem_nil,or_false]at hu;rcases hu with rfl | rfl | rfl | rfl | rfl <;> rfl
theorem aj9(b off cap n m:Nat)(s:Int)(l:List Cv.af)(w:World)(hs:Hid (Ra.IsU s))(hn:Hid (l.length=n))(hn':n<=200)(hm:(n:Int)-1=m)(hl:Hid (fU w b off l)):
  Calls prog 289 #[.slice (some (O b off)) n cap,.int .u32 s] w fun e w'=>∃v,e=.returned v/\w'.ownsRow w.heap.size 197 5 v n (flat (Ra.sh s l))/\U w w':=by
 obtain⟨i0,z0,hi,hz0,hz1,hz2,hz3⟩:=JI;have Hi:=Y hi;have fe:=Y hz0;have fg:=Y hz1;have fh:=Y hz2;have lM:=Y hz3;clear hi hz0 hz1 hz2 hz3;go_enter func289,ntmps289
 go_wp2_with fail
 refine(akb s n m hs (by omega) hm w).mono ?_;rintro e w1 ⟨v1,rfl,ho,hb1⟩;have HB1:=Y hb1;have hsz:(Ra.gb s n m).size=n:=Ra.sj s n m;rcases ho with ⟨h0,_⟩ | ⟨g,uh,rfl,_,hg2,hc⟩
 .omega
 rw[hsz]at hc ⊢;have HC:=Y hc;have HG:=Y hg2;clear hb1 hc hg2 hsz;have HD:Hid (l.length-1=m):=by show _=_;rw[hn.out];omega
 simp only[];go_wp2
 go_loopw [5,13] (fun v i wr=>∃k:Nat,k<=n/\i=Z k/\wr.ownsRow w1.heap.size 197 5 v k (flat ((Ra.sh s l).take k))/\U w1 wr) (fun _ i _=>n-(intOf i).toNat)
 case atStart=>exact⟨0,Nat.zero_le _,rfl,World.ownsRow_nil _ _ _ _,bRq _ _⟩
 case round =>
  obtain⟨k,hk,rfl,hown,hbw⟩:=hrel;have HB:=Y (ar HB1 hbw);have HO:=Y hown;have HW:=Y hbw;clear hown hbw;by_cases hlt:k<n
  .have aT:(k:Int)<n:=by omega
   obtain⟨j,hj,AB,XV⟩:=Ra.aj6 s l k (by rw[hn.out];exact hlt);rw[HD.out,hn.out]at AB;rw[hn.out]at hj;have bC:(j:Int)<n:=by omega
   have Oi:wr.cell? (O g k)=some (Z (j:Int)):=by rw[<- AB];exact cell_later HW (HC k hlt)
   obtain⟨c0,c1,c2,c3,c4⟩:=(hl.later HB) j (by rw[hn.out];exact hj);have HT:Hid ((Ra.sh s l).take (k+1)=(Ra.sh s l).take k++[Cv.nth l j]):=by show _=_;rw[Cv.take_succ (by rw[Ra.XT,hn.out];exact hlt),XV]
   clear AB XV;generalize Cv.nth l j=x at *
   go_wp2_with (at_builtin;refine wpList_append_own _ rfl _ _ 195 rfl w1.heap.size 197 i0 z0 5 40 underlying195 Hi fe fg fh lM (by decide) _ _ _ rfl (HO.alloc _) (O wr.heap.size 0) 1 1 (eK x) rfl rfl ?c1 ?c2 ?c3 ?c4 ?c5 ?_)
   case c1=>exact fun j u hj=>zu wr x _ _ rfl j u hj
   case c2=>exact aj8 x
   case c3=>unfold maxLen;omega
   case c4=>omega
   case c5=>have:=HW.size;simp;omega
   intro v3 w3 hown' hgrow _;have uj:Hid (w3.ownsRow w1.heap.size 197 5 v3 (k+1) (flat ((Ra.sh s l).take (k+1)))):=by show w3.ownsRow _ _ _ _ _ _;rw[HT.out,aj7];exact hown'
   have hrow:=HO.lt;have HW3:Hid (U w1 w3):=(HW.alloc HW.size _).grown hgrow (by have:=HW.size;simp;omega) (fun j hj=>(hrow j hj).1);clear hown' hgrow hrow;go_wp2;exact⟨⟨k+1,by omega,by go_num,uj,HW3⟩,by simp[intOf];omega⟩
  .have aT:¬ (k:Int)<n:=by omega
   obtain rfl:k=n:=by omega
   have Oj:Hid (wr.ownsRow w.heap.size 197 5 u5 k (flat (Ra.sh s l))):=by
    have:=HO.out
    rw[List.take_of_length_le (by rw[Ra.XT,hn.out];omega)]at this;exact ij this HB1.size
   go_wp2;go_ret;exact⟨_,rfl,Oj,HB⟩
end Go.Proofs.YtjolccidheflpaaGreatDoor
