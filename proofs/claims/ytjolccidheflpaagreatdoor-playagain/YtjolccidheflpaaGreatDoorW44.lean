/- Read of bytes: the records that they begin with. -/
import Derived.Test.YtjolccidheflpaaGreatDoorW43
import Derived.Test.YtjolccidheflpaaGreatDoorW33
namespace Go.Proofs.YtjolccidheflpaaGreatDoor
set_option maxHeartbeats 8000000
set_option maxRecDepth 100000
open Go.RowKit
theorem XU:∃ i,Tryz.prog.info? 9=some i/\i.zero=some (.string ⟨#[]⟩)/\i.size=1/\i.bytes=16:=⟨_,rfl,rfl,rfl,rfl⟩
theorem XV (b:ByteArray) (w:World) (hb:b.size<=1100000) :
  Calls Tryz.prog 58 #[.string b] w fun e w'=>∃ v ts r,e=.returned (.tuple #[v,Qa (bC.recs ts).length])/\bC.zz b.data.toList ts r/\Strs w' w.heap.size v ts/\Qd w w':=by
 obtain⟨i9,hi,hz0,hz1,hz2⟩:=XU;have Hi:=hDq hi;have eG:=hDq hz0;have eH:=hDq hz1;have eI:=hDq hz2;clear hi hz0 hz1 hz2;go_enter Tryz.func58,Tryz.ntmps58;go_wp2
 go_loopw [4,5] (fun v i wr=>∃ (ts:List (List UInt8)) (k:Nat),i=Qa k/\k=(bC.recs ts).length/\k<=b.size/\b.data.toList=bC.recs ts++b.data.toList.drop k/\(∀ s∈ts,s.length<=10000)/\ts.length<=k/\Strs wr w.heap.size v ts/\Qd w wr) (fun v i _=>b.size-(intOf i).toNat)
 case atStart=>exact⟨[],0,rfl,rfl,Nat.zero_le _,by simp[bC.recs],fun _ h=>absurd h (List.not_mem_nil),Nat.zero_le _,World.ownsRow_nil _ _ _ _,bRq _ _⟩
 case round =>
  obtain⟨ts,k,rfl,hk,hkb,hpart,oY,htl,hst,hbw⟩:=hrel;have aX:(k:Int)<=b.size:=by omega
  have HK:=hDq hk;have HP:=hDq hpart;have HT:=hDq oY;have HS:=hDq hst;have HB:=hDq hbw;clear hk hpart oY hst hbw;have hdl:(b.extract k b.size).data.toList=b.data.toList.drop k:=by
   rw[data_extract,List.take_of_length_le (by rw[qi];exact lRq _)]
  have XW:=hDq hdl;clear hdl;cases hf:bC.first (b.data.toList.drop k) with
  | none =>
   have CU:=hDq hf;clear hf
   go_wp2_with fail
   refine(XT _ _ (by simp;omega)).mono ?_;rintro e w1 ⟨rfl,m1,rfl⟩;rw[XW.out,CU.out];simp only[];go_wp2;go_ret2;have hb1:Qd wr (wr.drewN m1):=below_drewN m1;exact⟨u4,ts,b.data.toList.drop k,by rw[<- HK.out];rfl,⟨HP.out,CU.out,HT.out⟩,HS.out.keeps (s6.below hb1),HB.out.trans (hb1.mono HB.out.size)⟩
  | some t =>
   have CU:=hDq hf;clear hf
   go_wp2_with fail
   refine(XT _ _ (by simp;omega)).mono ?_;rintro e w1 ⟨rfl,m1,rfl⟩;rw[XW.out,CU.out];simp only[];obtain⟨ht1,rf,XX⟩:=bC.ajC CU.out;rw[List.length_drop,qi]at rf;have HT3:=hDq XX;clear XX;have oY:(ba t).size=t.length:=Og t
   go_wp2_with fail
   refine(QS (ba t) _ (by omega)).mono ?_;rintro e w2 ⟨rfl,hb2⟩;have HB2:Hid (Qd wr w2):=(below_drewN m1).trans (hb2.mono (below_drewN m1).size);have HS2:=hDq (HS.out.keeps (s6.below HB2.out));have H9:Hid (Qd w w2):=HB.out.trans (HB2.out.mono HB.out.size);clear hb2
   go_wp2_with (at_builtin;refine wpList_append_own _ rfl _ _ 70 rfl w.heap.size 9 i9 (.string ⟨#[]⟩) 1 16 Tryz.underlying70 Hi.out eG.out eH.out eI.out rfl (by decide) _ _ _ rfl (World.ownsRow.alloc HS2.out _) (Qb w2.heap.size 0) 1 1 [.string (ba t)] rfl rfl (cell_one_new _ _ _) ?c2 ?c3 ?c4 ?c5 ?_)
   case c2=>intro u hu;simp at hu;rw[hu];rfl
   case c3=>unfold maxLen;omega
   case c4=>omega
   case c5=>have:=H9.out.size;simp;omega
   intro v3 w3 hown' hgrow _;have cK:Hid (Strs w3 w.heap.size v3 (ts++[t])):=by
    unfold Strs;rw[List.map_append,lAq];exact hown'
   have au:Hid (Qd w w3):=(H9.out.alloc H9.out.size _).grown hgrow (by have:=H9.out.size;simp;omega) (fun k hk=>(World.ownsRow.lt HS2.out k hk).1);clear hown' hgrow
   go_wp2_with fail
   refine(H4 (ba t) _ (by omega)).mono ?_;rintro e w4 ⟨rfl,rfl⟩;rw[oY];simp only[];go_wp2;refine⟨⟨ts++[t],k+(12+t.length),HY (by omega),?_,by omega,?_,?_,by simp;omega,cK.out,au.out⟩,by simp[intOf];omega⟩
   .rw[bC.Oi,lAq,bC.vg,<- HK.out]
   .rw[bC.Oi,aAq,<- List.drop_drop,<- HT3.out]
    exact HP.out
   .intro s hs
    rcases List.mem_append.1 hs with h | h
    .exact HT.out s h
    .rw[List.mem_singleton.1 h];exact ht1
theorem ajO (p:Nat) (v:Value) (cut:Bool) (left:Int) (w:World) (h:w.heap[p]?=some (.cells #[v,.bool cut,Qa left] 117 (0,0))) :
  Calls Tryz.prog 105 #[Qc p] w fun e w'=>e=.returned (.tuple #[])/\w'=(w.setCell (Qb p 1) (.bool false)).setCell (Qb p 2) (Qa 0):=by
 obtain⟨c0,c1,c2,fz,hp⟩:=s7 h;clear h;go_enter Tryz.func105,Tryz.ntmps105;go_wp2;go_end0;exact⟨rfl,rfl⟩
theorem ajP {w:World} {p:Nat} {v:Value} {cut cut':Bool} {left left':Int} (h:w.heap[p]?=some (.cells #[v,.bool cut,Qa left] 117 (0,0))) :
  ((w.setCell (Qb p 1) (.bool cut')).setCell (Qb p 2) (Qa left')).heap[p]?=some (.cells #[v,.bool cut',Qa left'] 117 (0,0)) :=
 heap_setCell_same _ p 2 _ 117 _ (heap_setCell_same w p 1 _ 117 _ h)
end Go.Proofs.YtjolccidheflpaaGreatDoor
