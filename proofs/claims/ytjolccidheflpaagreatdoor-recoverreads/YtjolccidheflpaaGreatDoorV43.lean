/- Read of bytes: the records that they begin with. -/
import Derived.Test.YtjolccidheflpaaGreatDoorV42
import Derived.Test.YtjolccidheflpaaGreatDoorV33
namespace Go.Proofs.YtjolccidheflpaaGreatDoor
set_option maxHeartbeats 8000000
open Go.RowKit
set_option maxRecDepth 100000
theorem N6:∃ i,Tryz.prog.info? 9=some i∧i.zero=some (.string ⟨#[]⟩)∧i.size=1∧i.bytes=16:=⟨_,rfl,rfl,rfl,rfl⟩
theorem Xm (b:ByteArray) (w:World) (hb:b.size<=1100000) :
  Calls Tryz.prog 58 #[.string b] w fun e w'=>∃ v ts r,e=.returned (.tuple #[v,.int .i64 (bn.recs ts).length])∧bn.zb b.data.toList ts r∧Strs w' w.heap.size v ts∧Below w.heap.size w w':=by
 obtain⟨i9,hi,hz0,hz1,hz2⟩:=N6;have Hi:=hDq hi;have eK:=hDq hz0;have eL:=hDq hz1;have eM:=hDq hz2;clear hi hz0 hz1 hz2;go_enter Tryz.func58,Tryz.ntmps58;go_wp2
 go_loopw [4,5] (fun v i wr=>∃ (ts:List (List UInt8)) (k:Nat),i=.int .i64 k∧k=(bn.recs ts).length∧k<=b.size∧b.data.toList=bn.recs ts++b.data.toList.drop k∧(∀ s∈ts,s.length<=10000)∧ts.length<=k∧Strs wr w.heap.size v ts∧Below w.heap.size w wr) (fun v i _=>b.size-(intOf i).toNat)
 case atStart=>exact⟨[],0,rfl,rfl,Nat.zero_le _,by simp[bn.recs],fun _ h=>absurd h (List.not_mem_nil),Nat.zero_le _,World.ownsRow_nil _ _ _ _,bRq _ _⟩
 case round =>
  obtain⟨ts,k,rfl,hk,hkb,hpart,od,htl,hst,hbw⟩:=hrel;have aK:(k:Int)<=b.size:=by omega
  have HK:=hDq hk;have HP:=hDq hpart;have HT:=hDq od;have HS:=hDq hst;have HB:=hDq hbw;clear hk hpart od hst hbw;have hdl:(b.extract k b.size).data.toList=b.data.toList.drop k:=by
   rw[data_extract,List.take_of_length_le (by rw[pK];exact lRq _)]
  have Xn:=hDq hdl;clear hdl;cases hf:bn.first (b.data.toList.drop k) with
  | none =>
   have Cr:=hDq hf;clear hf
   go_wp2_with fail
   refine(Xl _ _ (by simp;omega)).mono ?_;rintro e w1 ⟨rfl,m1,rfl⟩;rw[Xn.out,Cr.out];simp only[];go_wp2;go_ret2;have hb1:Below wr.heap.size wr (wr.drewN m1):=below_drewN m1;exact⟨u4,ts,b.data.toList.drop k,by rw[<- HK.out];rfl,⟨HP.out,Cr.out,HT.out⟩,HS.out.keeps (rM.below hb1),HB.out.trans (hb1.mono HB.out.size)⟩
  | some t =>
   have Cr:=hDq hf;clear hf
   go_wp2_with fail
   refine(Xl _ _ (by simp;omega)).mono ?_;rintro e w1 ⟨rfl,m1,rfl⟩;rw[Xn.out,Cr.out];simp only[];obtain⟨ht1,pJ,Xo⟩:=bn.aiJ Cr.out;rw[List.length_drop,pK]at pJ;have HT3:=hDq Xo;clear Xo;have od:(ba t).size=t.length:=NZ t
   go_wp2_with fail
   refine(acv (ba t) _ (by omega)).mono ?_;rintro e w2 ⟨rfl,hb2⟩;have HB2:Hid (Below wr.heap.size wr w2):=(below_drewN m1).trans (hb2.mono (below_drewN m1).size);have HS2:=hDq (HS.out.keeps (rM.below HB2.out));have Hr:Hid (Below w.heap.size w w2):=HB.out.trans (HB2.out.mono HB.out.size);clear hb2
   go_wp2_with (at_builtin;refine wpList_append_own _ rfl _ _ 70 rfl w.heap.size 9 i9 (.string ⟨#[]⟩) 1 16 Tryz.underlying70 Hi.out eK.out eL.out eM.out rfl (by decide) _ _ _ rfl (World.ownsRow.alloc HS2.out _) ⟨w2.heap.size,0,none⟩ 1 1 [.string (ba t)] rfl rfl (cell_one_new _ _ _) ?c2 ?c3 ?c4 ?c5 ?_)
   case c2=>intro u hu;simp at hu;rw[hu];rfl
   case c3=>unfold maxLen;omega
   case c4=>omega
   case c5=>have:=Hr.out.size;simp;omega
   intro v3 w3 hown' hgrow _;have dy:Hid (Strs w3 w.heap.size v3 (ts++[t])):=by
    unfold Strs;rw[List.map_append,lAq];exact hown'
   have au:Hid (Below w.heap.size w w3):=(Hr.out.alloc Hr.out.size _).grown hgrow (by have:=Hr.out.size;simp;omega) (fun k hk=>(World.ownsRow.lt HS2.out k hk).1);clear hown' hgrow
   go_wp2_with fail
   refine(Hl (ba t) _ (by omega)).mono ?_;rintro e w4 ⟨rfl,rfl⟩;rw[od];simp only[];go_wp2;refine⟨⟨ts++[t],k+(12+t.length),qJ (by omega),?_,by omega,?_,?_,by simp;omega,dy.out,au.out⟩,by simp[intOf];omega⟩
   ·rw[bn.N1,lAq,bn.t7,<- HK.out]
   ·rw[bn.N1,aAq,<- List.drop_drop,<- HT3.out]
    exact HP.out
   ·intro s hs
    rcases List.mem_append.1 hs with h | h
    ·exact HT.out s h
    ·rw[List.mem_singleton.1 h];exact ht1
theorem aiV (p:Nat) (v:Value) (cut:Bool) (left:Int) (w:World) (h:w.heap[p]?=some (.cells #[v,.bool cut,.int .i64 left] 117 (0,0))) :
  Calls Tryz.prog 105 #[.pointer (some ⟨p,0,none⟩)] w fun e w'=>e=.returned (.tuple #[])∧w'=(w.setCell ⟨p,1,none⟩ (.bool false)).setCell ⟨p,2,none⟩ (.int .i64 0):=by
 obtain⟨c0,c1,c2,fz,hp⟩:=rO h;clear h;go_enter Tryz.func105,Tryz.ntmps105;go_wp2;go_end0;exact⟨rfl,rfl⟩
theorem aiW {w:World} {p:Nat} {v:Value} {cut cut':Bool} {left left':Int} (h:w.heap[p]?=some (.cells #[v,.bool cut,.int .i64 left] 117 (0,0))) :
  ((w.setCell ⟨p,1,none⟩ (.bool cut')).setCell ⟨p,2,none⟩ (.int .i64 left')).heap[p]?=some (.cells #[v,.bool cut',.int .i64 left'] 117 (0,0)) :=
 heap_setCell_same _ p 2 _ 117 _ (heap_setCell_same w p 1 _ 117 _ h)
end Go.Proofs.YtjolccidheflpaaGreatDoor
