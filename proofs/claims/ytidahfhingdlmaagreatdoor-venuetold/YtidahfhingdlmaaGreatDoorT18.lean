/- Shuffle by its contract: so many in another order. -/
import Derived.Test.YtidahfhingdlmaaGreatDoorT12
import Derived.BigRegion
import Derived.Sort.WalkC
import Derived.Lib.RowBridge
namespace Go.Proofs.YtidahfhingdlmaaGreatDoor
open Go.RowKit
set_option maxRecDepth 100000
theorem info3:∃ i,Tryz.prog.info? 3 = some i∧i.zero = some (.int .i64 0)∧i.size = 1∧i.bytes = 8:=⟨_,rfl,rfl,rfl,rfl⟩
def upto (k:Nat):List Value:=(List.range k).map fun i=>.int .i64 (Int.ofNat i)
theorem upto_succ (k:Nat):upto (k + 1) = upto k++[.int .i64 (k:Int)]:=by simp [upto,List.range_succ]
theorem holds_of_row {w:World} {base g n cap:Nat} {zs:List Int} (h:w.ownsRow base 3 1 (.slice (some ⟨g,0,none⟩) n cap) n (zs.map fun z=>.int .i64 z)):Sort.Holds (Value.int .i64) w g 0 zs.toArray:=by
 intro j hj
 have hj:j < zs.length:=by simpa using hj
 have hc:=World.ownsRow.cells h (g:=g) rfl j (.int .i64 zs[j]) (by simp [hj])
 have hp:(⟨g,0,none⟩:Addr).add j = ⟨g,j,none⟩:=by unfold Addr.add;split <;> simp_all
 rw [hp] at hc
 rw [Nat.zero_add]
 refine ⟨by rw [hc];simp [hj],?_⟩
 rcases h.2 with ⟨e,_⟩ | ⟨g',cap',cur,e,_,hg,_⟩
 ·cases e
 ·simp only [Value.slice.injEq,Option.some.injEq,Addr.mk.injEq,and_true,true_and] at e
  rw [e.1]
  exact frozen_of_row w g' j cur 3 hg
theorem holds_later {w w':World} {blk:Nat} {d:Array Int} (h:Sort.Holds (Value.int .i64) w blk 0 d) (hb:Below w.heap.size w w') (hl:blk < w.heap.size):Sort.Holds (Value.int .i64) w' blk 0 d:=by
 intro j hj
 exact ⟨cell_later hb (h j hj).1,by rw [hb.frozen (p:=⟨blk,0 + j,none⟩) hl];exact (h j hj).2⟩
theorem putRow_below {w:World} {B:Nat} {blk n:Nat} {d:Array Int} (hB:B≤blk):Below B w ((Sort.putRow (Value.int .i64) w blk 0 d).drewN n):=by
 refine ⟨rfl,rfl,rfl,?_,fun k hk=>?_⟩
 ·show w.heap.size≤(Sort.putRow (Value.int .i64) w blk 0 d).heap.size
  rw [Sort.size_putRow];exact Nat.le_refl _
 ·show (w.heap.modify blk _)[k]? = w.heap[k]?
  rw [Array.getElem?_modify,if_neg (by omega)]
def Order (w:World) (base:Nat) (v:Value) (d:Array Int):Prop :=
 (d.size = 0∧v = .slice none 0 0)∨∃ g cap,v = .slice (some ⟨g,0,none⟩) d.size cap∧base≤g∧g < w.heap.size∧∀ i,i < d.size→w.cell? ⟨g,i,none⟩ = some (.int .i64 d[i]!)
theorem Order.later {w w':World} {base:Nat} {v:Value} {d:Array Int} (h:Order w base v d) (hb:Below w.heap.size w w'):Order w' base v d:=by
 rcases h with h | ⟨g,cap,h1,h2,h3,h4⟩
 ·exact .inl h
 ·exact .inr ⟨g,cap,h1,h2,Nat.lt_of_lt_of_le h3 hb.size,fun i hi=>cell_later hb (h4 i hi)⟩
set_option maxHeartbeats 1000000 in
theorem shuffle_any (s:Int) (n m:Nat) (hs:Hid (Ra.IsU s)) (hn':n≤1000) (hm:(n:Int) - 1 = m) (w:World) :
  Calls Tryz.prog 249 #[.int .i64 (n:Int),.int .u32 s] w fun e w'=>∃ v,e = .returned v∧Order w' w.heap.size v (Ra.shuf s n m)∧Below w.heap.size w w':=by
 obtain ⟨i0,hi,hz0,hz1,hz2⟩:=info3
 have Hi:=hide hi;have Hz0:=hide hz0;have Hz1:=hide hz1;have Hz2:=hide hz2
 clear hi hz0 hz1 hz2
 have hmin:(n:Int)≤1000:=by omega
 have hmn:n = m + 1:=by omega
 have HMN:=hide hmn
 clear hmn
 go_enter Tryz.func249,Tryz.ntmps249
 go_wp2
 go_loopw [5,14] (fun v i wr=>∃ k:Nat,k≤n∧i = .int .i64 k∧wr.ownsRow w.heap.size 3 1 v k (upto k)∧Below w.heap.size w wr) (fun _ i _=>n - (intOf i).toNat)
 case atStart=>exact ⟨0,Nat.zero_le _,rfl,World.ownsRow_nil _ _ _ _,Below.refl _ _⟩
 case round =>
  obtain ⟨k,hk,rfl,hown,hb⟩:=hrel
  have HB:=hide hb;have HO:=hide hown
  clear hb hown
  by_cases hlt:k < n
  ·have hki:(k:Int) < n:=by omega
   go_wp2_with (at_builtin;refine wpList_append_own _ rfl _ _ 72 rfl w.heap.size 3 i0 (.int .i64 0) 1 8 Tryz.underlying72 Hi.out Hz0.out Hz1.out Hz2.out rfl (by decide) _ _ _ rfl (HO.out.alloc _) ⟨wr.heap.size,0,none⟩ 1 1 [.int .i64 (k:Int)] rfl rfl ?c1 ?c2 ?c3 ?c4 ?c5 ?_)
   case c1=>exact fun j u hj=>cell_new1 wr _ _ u j _ rfl hj
   case c2=>intro u hu;have hu:u = .int .i64 (k:Int):=(by simpa using hu);rw [hu];rfl
   case c3=>unfold maxLen;omega
   case c4=>omega
   case c5=>have:=HB.out.size;simp;omega
   intro v3 w3 hown' hgrow _
   have HO3:Hid (w3.ownsRow w.heap.size 3 1 v3 (k + 1) (upto (k + 1))):=by
    show w3.ownsRow _ _ _ _ _ _
    rw [upto_succ]
    exact hown'
   have HB3:Hid (Below w.heap.size w w3):=(HB.out.alloc HB.out.size _).grown hgrow (by have:=HB.out.size;simp;omega) (fun j hj=>by
    rcases HO.out.2 with ⟨e,_⟩ | ⟨g,cap,cur,e,hg,_⟩
    ·rw [e] at hj;cases hj
    ·rw [e] at hj;cases hj;exact hg)
   clear hown' hgrow HO HB
   go_wp2
   exact ⟨⟨k + 1,by omega,by go_num,HO3.out,HB3.out⟩,by simp [intOf];omega⟩
  ·have hki:¬ (k:Int) < n:=by omega
   obtain rfl:k = n:=by omega
   have hown:=HO.out
   rcases hown.2 with ⟨_,e2⟩ | ⟨g,cap,cur,rfl,hg1,hg2,_⟩
   ·have:=HMN.out;omega
   have hgl:g < wr.heap.size:=(Array.getElem?_eq_some_iff.1 hg2).1
   have HH:Hid (Sort.Holds (Value.int .i64) wr g 0 (Ra.shuf s k 0)):=holds_of_row (zs:=(List.range k).map Int.ofNat) (by simpa [upto,Function.comp_def] using hown)
   have HG:Hid (w.heap.size≤g∧g < wr.heap.size):=⟨hg1,hgl⟩
   clear HO hown hg1 hg2 hgl
   go_wp2_with fail
   refine (stream_any s m hs.out (by have:=HMN.out;omega) wr).mono ?_
   rintro e w1 ⟨v1,rfl,hw1,hb1⟩
   have HW1:=hide hw1
   have HB1:=hide (HB.out.trans (hb1.mono HB.out.size))
   have HH1:Hid (Sort.Holds (Value.int .i64) w1 g 0 (Ra.shuf s k 0)):=holds_later HH.out hb1 HG.out.2
   have HS:Hid (wr.heap.size≤w1.heap.size):=hb1.size
   clear hw1 hb1 HH HB
   have HD:Hid ((Ra.shuf s k m).size = k):=Ra.shuf_size s k m
   rcases HW1.out with ⟨hm0,a1,cap1,rfl⟩ | ⟨b,cap1,rfl,hb1,hb2,hcs⟩
   ·have HM0:=hide hm0
    obtain ⟨v,hv⟩:∃ v:Value,v = .slice (some ⟨g,0,none⟩) k cap:=⟨_,rfl⟩
    have HR:Hid (Order w1 w.heap.size (.slice (some ⟨g,0,none⟩) k cap) (Ra.shuf s k m)):=by
     refine .inr ⟨g,cap,by rw [HD.out],HG.out.1,Nat.lt_of_lt_of_le HG.out.2 HS.out,fun i hi=>?_⟩
     rw [hm0] at hi ⊢
     have:=(HH1.out i hi).1
     rwa [Nat.zero_add] at this
    clear hm0 hv HW1 HH1
    simp only []
    go_wp2
    refine wp_loop_rounds 1 ?_
    rw [rounds_succ]
    go_wp2
    go_ret
    exact ⟨_,rfl,HR.out,HB1.out⟩
   ·have HC:=hide hcs;have HBB:Hid (wr.heap.size≤b∧b < w1.heap.size):=⟨hb1,hb2⟩
    clear hcs hb1 hb2 HW1
    simp only []
    go_wp2
    go_loopw [29] (fun i wx=>∃ q j:Nat,j≤m∧i = .int .i64 j∧wx = (Sort.putRow (Value.int .i64) w1 g 0 (Ra.shuf s k j)).drewN q) (fun i _=>m - (intOf i).toNat)
    case atStart=>exact ⟨0,0,Nat.zero_le _,rfl,(Sort.putRow_self _ _ _ _ _ HH1.out).symm⟩
    case round =>
     obtain ⟨q,j,hj,rfl,hwx⟩:=hrel
     have HX:=hide hwx
     by_cases hlt:j < m
     ·have hji:(j:Int) < m:=by omega
      obtain ⟨i,hi⟩:∃ i:Nat,(m:Int) - (j:Int) = i:=⟨m - j,by omega⟩
      obtain ⟨x,hx⟩:∃ x,Ra.num s (j + 1) = x:=⟨_,rfl⟩
      obtain ⟨hx0,hx1⟩:Ra.IsU x:=by rw [← hx];exact Ra.num_u hs.out _
      have hil:i < 1000:=by have:=HMN.out;omega
      have cw:wr.cell? ⟨b,j,none⟩ = some (.int .u32 x):=by
       rw [hwx,← hx,← HC.out j hlt]
       exact Sort.cell?_putRow_other _ _ _ _ _ _ (.inl (by have:=HBB.out.1;have:=HG.out.2;show b≠g;omega))
      obtain ⟨t,ht⟩:∃ t:Nat,x % ((i:Int) + 1) = t:=⟨(x % ((i:Int) + 1)).toNat,by have:=Int.emod_nonneg x (b:=(i:Int) + 1) (by omega);omega⟩
      have htl:t≤i:=by have:=Int.emod_lt_of_pos x (b:=(i:Int) + 1) (by omega);omega
      have hik:(i:Int) < k:=by have:=HMN.out;omega
      have htk:(t:Int) < k:=by have:=HMN.out;omega
      have Hsz:=Ra.shuf_size s k j
      have hH:=Sort.holds_putRow (Value.int .i64) w1 g 0 (Ra.shuf s k 0) (Ra.shuf s k j) HH1.out (by rw [Ra.shuf_size,Ra.shuf_size])
      obtain ⟨ci,fi⟩:=hH i (by rw [Hsz];omega)
      obtain ⟨ct,ft⟩:=hH t (by rw [Hsz];omega)
      obtain ⟨xi,hxi⟩:∃ y,(Ra.shuf s k j)[i]! = y:=⟨_,rfl⟩
      obtain ⟨xt,hxt⟩:∃ y,(Ra.shuf s k j)[t]! = y:=⟨_,rfl⟩
      rw [Nat.zero_add,hxi] at ci
      rw [Nat.zero_add,hxt] at ct
      rw [Nat.zero_add] at fi ft
      have ci':wr.cell? ⟨g,i,none⟩ = some (.int .i64 xi):=by rw [hwx];exact ci
      have ct':wr.cell? ⟨g,t,none⟩ = some (.int .i64 xt):=by rw [hwx];exact ct
      have fi':wr.frozen? ⟨g,i,none⟩ = false:=by rw [hwx];exact fi
      have ft':wr.frozen? ⟨g,t,none⟩ = false:=by rw [hwx];exact ft
      have HXE:=hide hx;have HT:=hide ht;have HXI:=hide hxi;have HXT:=hide hxt;have HSZ:=hide Hsz
      clear hwx hx ci ct fi ft hxi hxt Hsz hH
      have HS2:Hid (((wr.setCell ⟨g,i,none⟩ (.int .i64 xt)).setCell ⟨g,t,none⟩ (.int .i64 xi)).drew = (Sort.putRow (Value.int .i64) w1 g 0 (Ra.shuf s k (j + 1))).drewN (q + 1)):=by
       show _ = _
       have e1:Ra.shuf s k (j + 1) = Sort.swp (Ra.shuf s k j) i t:=by
        have h1:k - 1 - j = i:=by have:=HMN.out;omega
        have h2:((k - j:Nat):Int) = (i:Int) + 1:=by have:=HMN.out;omega
        rw [Ra.shuf,h1,h2,HXE.out,HT.out,Int.toNat_natCast]
       rw [e1,← swap_worldC (Value.int .i64) w1 g 0 (Ra.shuf s k j) q i t (by rw [HSZ.out];omega) (by rw [HSZ.out];omega),HXI.out,HXT.out,← HX.out,Nat.zero_add,Nat.zero_add]
      by_cases hit:t = i
      ·subst hit
       have hxx:xi = xt:=by rw [← HXI.out,← HXT.out]
       subst hxx
       have cs:(wr.setCell ⟨g,t,none⟩ (.int .i64 xi)).cell? ⟨g,t,none⟩ = some (.int .i64 xi):=World.cell?_setCell_same _ _ _ ct'
       go_wp2_with fail
       go_region
       go_wp2
       exact ⟨⟨q + 1,j + 1,by omega,by go_num,HS2.out⟩,by simp [intOf];omega⟩
      ·have cs:(wr.setCell ⟨g,i,none⟩ (.int .i64 xt)).cell? ⟨g,t,none⟩ = some (.int .i64 xt):=by
        rw [World.cell?_setCell_other _ _ _ _ (by intro e;injection e with _ e2;exact hit e2.symm)];exact ct'
       go_wp2_with fail
       go_region
       go_wp2
       exact ⟨⟨q + 1,j + 1,by omega,by go_num,HS2.out⟩,by simp [intOf];omega⟩
     ·have hji:¬ (j:Int) < m:=by omega
      obtain rfl:j = m:=by omega
      have hH:=Sort.holds_putRow (Value.int .i64) w1 g 0 (Ra.shuf s k 0) (Ra.shuf s k j) HH1.out (by rw [Ra.shuf_size,Ra.shuf_size])
      have HB2:Hid (Below w.heap.size w wr):=HB1.out.trans (by rw [hwx];exact putRow_below HG.out.1)
      have HR:Hid (Order wr w.heap.size (.slice (some ⟨g,0,none⟩) k cap) (Ra.shuf s k j)):=by
       refine .inr ⟨g,cap,by rw [HD.out],HG.out.1,Nat.lt_of_lt_of_le HG.out.2 (Nat.le_trans HS.out ?_),fun i hi=>?_⟩
       ·rw [hwx];exact (putRow_below (B:=0) (Nat.zero_le _)).size
       ·have:=(hH i hi).1
        rw [Nat.zero_add] at this
        rw [hwx];exact this
      clear hwx hH
      go_wp2
      go_ret
      exact ⟨_,rfl,HR.out,HB2.out⟩
end Go.Proofs.YtidahfhingdlmaaGreatDoor
