/- Read of bytes: the records that they begin with. -/
import Derived.Test.YtjolccidheflpaaGreatDoorX12
import Derived.Test.YtjolccidheflpaaGreatDoorX31
import Derived.Test.YtjolccidheflpaaGreatDoorX32
namespace Go.Proofs.YtjolccidheflpaaGreatDoor
open Go.Proofs.Tryz
set_option maxHeartbeats 8000000
set_option maxRecDepth 100000
open Go.RowKit
theorem data_extract(b:ByteArray)(i j:Nat):(b.extract i j).data.toList=(b.data.toList.take j).drop i:=by rw[ByteArray.data_extract,Array.toList_extract,List.extract_eq_take_drop];rw[List.drop_take]
theorem aaq(b:ByteArray)(i n:Nat):((b.extract i b.size).extract 0 n).data.toList=(b.data.toList.drop i).take n:=by rw[data_extract,data_extract,List.drop_zero,List.take_of_length_le (l:=b.data.toList) (by rw[rh];exact E _)]
theorem aar(b:ByteArray)(i n:Nat)(h:i+n+4<=b.size):ft (b.extract i b.size) n=ft b (i+n):=by simp only[ft];rw[pz b i b.size n (by omega) (E _),pz b i b.size (n+1) (by omega) (E _),pz b i b.size (n+2) (by omega) (E _),pz b i b.size (n+3) (by omega) (E _)];simp only[Nat.add_assoc]
theorem aor(b:ByteArray)(w:World)(h:b.size<8):
  Calls prog 100 #[.string b] w fun e w'=>e=.returned (.tuple #[.string ⟨#[]⟩,.bool false])/\w'=w:=by
 have h':(b.size:Int)<8:=by omega
 go_enter func100,ntmps100;go_wp2;go_ret2;exact⟨rfl,rfl⟩
theorem aos(b:ByteArray)(w:World)(hb:b.size<=1000000000)(h8:8<=b.size)(h4:aJ b 4≠4294967295-aJ b 0):
  Calls prog 100 #[.string b] w fun e w'=>e=.returned (.tuple #[.string ⟨#[]⟩,.bool false])/\∃m,w'=w.drewN m:=by
 have h':¬ (b.size:Int)<8:=by omega
 have g4:(4:Int)<=b.size:=by omega
 have A7:4<=b.size:=by omega
 go_enter func100,ntmps100
 go_wp2_with fail
 refine(pA b w (by omega)).mono ?_;rintro e w1 ⟨rfl,m1,rfl⟩;have e4:aJ (b.extract 4 b.size) 0=aJ b 4:=s6 b 4 b.size (by omega) (E _);have hz:aJ b 0<4294967296:=rP b 0;have hx:bits .xor .u32 IntKind.u32.max (aJ b 0:Int)=((4294967295-aJ b 0:Nat):Int):=by rw[show IntKind.u32.max=((4294967295:Nat):Int) from rfl,u32_xor_nat _ _ (by decide) hz,A5 _ hz]
 generalize hn:aJ b 0=n at *;have Hn:=Y hn;clear hn
 go_wp2_with fail
 refine(pA _ _ (by simp;omega)).mono ?_;rintro e w2 ⟨rfl,m2,rfl⟩;have aot:¬ ((aJ b 4:Nat):Int)=((4294967295-n:Nat):Int):=by omega
 rw[e4];simp only[];generalize aJ b 4=k at *;clear e4 h4;have aum:¬ (k:Int)=bits .xor .u32 IntKind.u32.max (n:Int):=by rw[hx];exact aot
 go_wp2;go_ret2;exact⟨rfl,m1+m2,rfl⟩
theorem aou(b:ByteArray)(w:World)(hb:b.size<=1000000000)(h8:8<=b.size)(h4:aJ b 4=4294967295-aJ b 0)(hm:10000<aJ b 0):
  Calls prog 100 #[.string b] w fun e w'=>e=.returned (.tuple #[.string ⟨#[]⟩,.bool false])/\∃m,w'=w.drewN m:=by
 have h':¬ (b.size:Int)<8:=by omega
 have g4:(4:Int)<=b.size:=by omega
 have A7:4<=b.size:=by omega
 go_enter func100,ntmps100
 go_wp2_with fail
 refine(pA b w (by omega)).mono ?_;rintro e w1 ⟨rfl,m1,rfl⟩;have e4:aJ (b.extract 4 b.size) 0=aJ b 4:=s6 b 4 b.size (by omega) (E _);have hz:aJ b 0<4294967296:=rP b 0;have hx:bits .xor .u32 IntKind.u32.max (aJ b 0:Int)=((4294967295-aJ b 0:Nat):Int):=by rw[show IntKind.u32.max=((4294967295:Nat):Int) from rfl,u32_xor_nat _ _ (by decide) hz,A5 _ hz]
 generalize hn:aJ b 0=n at *;have Hn:=Y hn;clear hn
 go_wp2_with fail
 refine(pA _ _ (by simp;omega)).mono ?_;rintro e w2 ⟨rfl,m2,rfl⟩;rw[e4,h4];simp only[];clear e4 h4;have aun:(10000:Int)<n:=by omega
 go_wp2;go_ret2;exact⟨rfl,m1+m2,rfl⟩
theorem aov(b:ByteArray)(w:World)(hb:b.size<=1000000000)(h8:8<=b.size)(h4:aJ b 4=4294967295-aJ b 0)(hm:aJ b 0<=10000)(hl:b.size-8<aJ b 0+4):
  Calls prog 100 #[.string b] w fun e w'=>e=.returned (.tuple #[.string ⟨#[]⟩,.bool false])/\∃m,w'=w.drewN m:=by
 have h':¬ (b.size:Int)<8:=by omega
 have g4:(4:Int)<=b.size:=by omega
 have A7:4<=b.size:=by omega
 go_enter func100,ntmps100
 go_wp2_with fail
 refine(pA b w (by omega)).mono ?_;rintro e w1 ⟨rfl,m1,rfl⟩;have e4:aJ (b.extract 4 b.size) 0=aJ b 4:=s6 b 4 b.size (by omega) (E _);have hz:aJ b 0<4294967296:=rP b 0;have hx:bits .xor .u32 IntKind.u32.max (aJ b 0:Int)=((4294967295-aJ b 0:Nat):Int):=by rw[show IntKind.u32.max=((4294967295:Nat):Int) from rfl,u32_xor_nat _ _ (by decide) hz,A5 _ hz]
 generalize hn:aJ b 0=n at *;have Hn:=Y hn;clear hn
 go_wp2_with fail
 refine(pA _ _ (by simp;omega)).mono ?_;rintro e w2 ⟨rfl,m2,rfl⟩;rw[e4,h4];simp only[];clear e4 h4;go_wp2;go_ret2;exact⟨rfl,m1+m2,rfl⟩
theorem aow(b:ByteArray)(w:World)(hb:b.size<=1000000000)(h8:8<=b.size)(h4:aJ b 4=4294967295-aJ b 0)(hm:aJ b 0<=10000)(hl:aJ b 0+4<=b.size-8)(hs:ft b (8+aJ b 0)≠ah.sum ((b.data.toList.drop 8).take (aJ b 0))):
  Calls prog 100 #[.string b] w fun e w'=>e=.returned (.tuple #[.string ⟨#[]⟩,.bool false])/\∃m,w'=w.drewN m:=by
 have h':¬ (b.size:Int)<8:=by omega
 have g4:(4:Int)<=b.size:=by omega
 have A7:4<=b.size:=by omega
 go_enter func100,ntmps100
 go_wp2_with fail
 refine(pA b w (by omega)).mono ?_;rintro e w1 ⟨rfl,m1,rfl⟩;have e4:aJ (b.extract 4 b.size) 0=aJ b 4:=s6 b 4 b.size (by omega) (E _);have hz:aJ b 0<4294967296:=rP b 0;have hx:bits .xor .u32 IntKind.u32.max (aJ b 0:Int)=((4294967295-aJ b 0:Nat):Int):=by rw[show IntKind.u32.max=((4294967295:Nat):Int) from rfl,u32_xor_nat _ _ (by decide) hz,A5 _ hz]
 generalize hn:aJ b 0=n at *;have Hn:=Y hn;clear hn;generalize hS:ah.sum ((b.data.toList.drop 8).take n)=S at *;have HS:=Y hS;have jk:=Y hs;clear hs hS
 go_wp2_with fail
 refine(pA _ _ (by simp;omega)).mono ?_;rintro e w2 ⟨rfl,m2,rfl⟩;rw[e4,h4];simp only[];clear e4 h4
 go_wp2_with fail
 refine(zC _ _ (by simp;omega)).mono ?_;rintro e w3 ⟨rfl,m3,rfl⟩;have el:ft ((b.extract 8 b.size).extract n (b.size-8)) 0=ft b (8+n):=by rw[zB _ n (b.size-8) (by omega) (by simp)];exact aar b 8 n (by omega)
 rw[el];clear el;simp only[]
 go_wp2_with fail
 refine(vt _ _ (by simp[maxLen];omega)).mono ?_;rintro e w4 ⟨rfl,rfl⟩;have es:((b.extract 8 b.size).extract 0 n).data.toList=(b.data.toList.drop 8).take n:=aaq b 8 n;rw[es,HS.out];simp only[];have hs':¬ (ft b (8+n):Int)=S:=by have:=jk.out;omega
 generalize ft b (8+n)=k at *;go_wp2;go_ret2;exact⟨rfl,m1+m2+m3,rfl⟩
theorem aox(b:ByteArray)(w:World)(hb:b.size<=1000000000)(h8:8<=b.size)(h4:aJ b 4=4294967295-aJ b 0)(hm:aJ b 0<=10000)(hl:aJ b 0+4<=b.size-8)(hs:ft b (8+aJ b 0)=ah.sum ((b.data.toList.drop 8).take (aJ b 0))):
  Calls prog 100 #[.string b] w fun e w'=>e=.returned (.tuple #[.string (ba ((b.data.toList.drop 8).take (aJ b 0))),.bool true])/\∃m,w'=w.drewN m:=by
 have h':¬ (b.size:Int)<8:=by omega
 have g4:(4:Int)<=b.size:=by omega
 have A7:4<=b.size:=by omega
 go_enter func100,ntmps100
 go_wp2_with fail
 refine(pA b w (by omega)).mono ?_;rintro e w1 ⟨rfl,m1,rfl⟩;have e4:aJ (b.extract 4 b.size) 0=aJ b 4:=s6 b 4 b.size (by omega) (E _);have hz:aJ b 0<4294967296:=rP b 0;have hx:bits .xor .u32 IntKind.u32.max (aJ b 0:Int)=((4294967295-aJ b 0:Nat):Int):=by rw[show IntKind.u32.max=((4294967295:Nat):Int) from rfl,u32_xor_nat _ _ (by decide) hz,A5 _ hz]
 generalize hn:aJ b 0=n at *;have Hn:=Y hn;clear hn;generalize hS:ah.sum ((b.data.toList.drop 8).take n)=S at *;have HS:=Y hS;have jk:=Y hs;clear hs hS
 go_wp2_with fail
 refine(pA _ _ (by simp;omega)).mono ?_;rintro e w2 ⟨rfl,m2,rfl⟩;rw[e4,h4];simp only[];clear e4 h4
 go_wp2_with fail
 refine(zC _ _ (by simp;omega)).mono ?_;rintro e w3 ⟨rfl,m3,rfl⟩;have el:ft ((b.extract 8 b.size).extract n (b.size-8)) 0=ft b (8+n):=by rw[zB _ n (b.size-8) (by omega) (by simp)];exact aar b 8 n (by omega)
 rw[el,jk.out];clear el;simp only[]
 go_wp2_with fail
 refine(vt _ _ (by simp[maxLen];omega)).mono ?_;rintro e w4 ⟨rfl,rfl⟩;have es:((b.extract 8 b.size).extract 0 n).data.toList=(b.data.toList.drop 8).take n:=aaq b 8 n;rw[es,HS.out];simp only[];go_wp2;go_ret2;refine⟨?_,m1+m2+m3,rfl⟩;rw[Hn.out,<- es];rfl
theorem aas(b:ByteArray)(w:World)(hb:b.size<=1000000000):
  Calls prog 100 #[.string b] w fun e w'=>e=.returned (match bL.first b.data.toList with | none=>.tuple #[.string ⟨#[]⟩,.bool false] | some t=>.tuple #[.string (ba t),.bool true])/\∃m,w'=w.drewN m:=by
 have hlen:=rh b;have hh:∀i,bL.iT b.data.toList i=aJ b i:=fun _=>rfl;have hl:∀i,bL.p_ b.data.toList i=ft b i:=fun _=>rfl;unfold bL.first
 rw[hlen,hh,hh,hl];by_cases h8:b.size<8
 .rw[if_pos h8]
  exact(aor b w h8).mono fun e w' ⟨h1,h2⟩=>⟨h1,0,h2⟩
 .rw[if_neg h8]
  by_cases h4:aJ b 4=4294967295-aJ b 0
  .rw[if_neg (by simpa using h4)]
   by_cases hm:10000<aJ b 0
   .rw[if_pos hm]
    exact aou b w hb (by omega) h4 hm
   .rw[if_neg hm]
    by_cases hs:b.size-8<aJ b 0+4
    .rw[if_pos hs]
     exact aov b w hb (by omega) h4 (by omega) hs
    .rw[if_neg hs]
     by_cases hq:ft b (8+aJ b 0)=ah.sum ((b.data.toList.drop 8).take (aJ b 0))
     .rw[if_neg (by simpa using hq)]
      exact aox b w hb (by omega) h4 (by omega) (by omega) hq
     .rw[if_pos hq]
      exact aow b w hb (by omega) h4 (by omega) (by omega) hq
  .rw[if_pos h4]
   exact aos b w hb (by omega) h4
end Go.Proofs.YtjolccidheflpaaGreatDoor
namespace Go.Proofs.YtjolccidheflpaaGreatDoor
open Go.Proofs.Tryz
set_option maxHeartbeats 8000000
set_option maxRecDepth 100000
open Go.RowKit
theorem aat:∃i,prog.info? 9=some i/\i.zero=some (.string ⟨#[]⟩)/\i.size=1/\i.bytes=16:=⟨_,rfl,rfl,rfl,rfl⟩
theorem Ir(b:ByteArray)(w:World)(hb:b.size<=1100000):
  Calls prog 58 #[.string b] w fun e w'=>∃v ts r,e=.returned (.tuple #[v,Z (bL.recs ts).length])/\bL.A6 b.data.toList ts r/\Strs w' w.heap.size v ts/\U w w':=by
 obtain⟨i9,hi,hz0,hz1,hz2⟩:=aat;have Hi:=Y hi;have fe:=Y hz0;have fg:=Y hz1;have fh:=Y hz2;clear hi hz0 hz1 hz2;go_enter func58,ntmps58;go_wp2
 go_loopw [4,5] (fun v i wr=>∃(ts:List (List UInt8)) (k:Nat),i=Z k/\k=(bL.recs ts).length/\k<=b.size/\b.data.toList=bL.recs ts++b.data.toList.drop k/\(∀s∈ts,s.length<=10000)/\ts.length<=k/\Strs wr w.heap.size v ts/\U w wr) (fun v i _=>b.size-(intOf i).toNat)
 case atStart=>exact⟨[],0,rfl,rfl,Nat.zero_le _,by simp[bL.recs],fun _ h=>absurd h (List.not_mem_nil),Nat.zero_le _,World.ownsRow_nil _ _ _ _,bRq _ _⟩
 case round =>
  obtain⟨ts,k,rfl,hk,hkb,hpart,qa,htl,hst,hbw⟩:=hrel;have aT:(k:Int)<=b.size:=by omega
  have HK:=Y hk;have HP:=Y hpart;have HT:=Y qa;have HS:=Y hst;have HB:=Y hbw;clear hk hpart qa hst hbw;have hdl:(b.extract k b.size).data.toList=b.data.toList.drop k:=by rw[data_extract,List.take_of_length_le (by rw[rh];exact E _)]
  have aau:=Y hdl;clear hdl;cases hf:bL.first (b.data.toList.drop k) with
  | none =>
   have EB:=Y hf;clear hf
   go_wp2_with fail
   refine(aas _ _ (by simp;omega)).mono ?_;rintro e w1 ⟨rfl,m1,rfl⟩;rw[aau.out,EB.out];simp only[];go_wp2;go_ret2;have hb1:U wr (wr.drewN m1):=below_drewN m1;exact⟨u4,ts,b.data.toList.drop k,by rw[<- HK.out];rfl,⟨HP,EB,HT⟩,HS.keeps (EA.below hb1),ar HB hb1⟩
  | some t =>
   have EB:=Y hf;clear hf
   go_wp2_with fail
   refine(aas _ _ (by simp;omega)).mono ?_;rintro e w1 ⟨rfl,m1,rfl⟩;rw[aau.out,EB.out];simp only[];obtain⟨ht1,ml,wO⟩:=bL.aom EB;rw[List.length_drop,rh]at ml;have HT3:=Y wO;clear wO;have qa:(ba t).size=t.length:=P0 t
   go_wp2_with fail
   refine(SE (ba t) _ (by omega)).mono ?_;rintro e w2 ⟨rfl,hb2⟩;have HB2:Hid (U wr w2):=(below_drewN m1).trans (hb2.mono (below_drewN m1).size);have HS2:=Y (HS.keeps (EA.below HB2));have I6:Hid (U w w2):=ar HB HB2;clear hb2
   go_wp2_with (at_builtin;refine wpList_append_own _ rfl _ _ 70 rfl w.heap.size 9 i9 (.string ⟨#[]⟩) 1 16 underlying70 Hi fe fg fh rfl (by decide) _ _ _ rfl (World.ownsRow.alloc HS2 _) (O w2.heap.size 0) 1 1 [.string (ba t)] rfl rfl (cell_one_new _ _ _) ?c2 ?c3 ?c4 ?c5 ?_)
   case c2=>intro u hu;simp at hu;rw[hu];rfl
   case c3=>unfold maxLen;omega
   case c4=>omega
   case c5=>have:=I6.size;simp;omega
   intro v3 w3 hown' hgrow _;have eJ:Hid (Strs w3 w.heap.size v3 (ts++[t])):=by unfold Strs;rw[List.map_append,lAq];exact hown'
   have av:Hid (U w w3):=(I6.alloc I6.size _).grown hgrow (by have:=I6.size;simp;omega) (fun k hk=>(World.ownsRow.lt HS2 k hk).1);clear hown' hgrow
   go_wp2_with fail
   refine(I1 (ba t) _ (by omega)).mono ?_;rintro e w4 ⟨rfl,rfl⟩;rw[qa];simp only[];go_wp2;refine⟨⟨ts++[t],k+(12+t.length),IZ (by omega),?_,by omega,?_,?_,by simp;omega,eJ,av⟩,by simp[intOf];omega⟩
   .rw[bL.P4,lAq,bL.wW,<- HK.out]
   .rw[bL.P4,aAq,<- List.drop_drop,<- HT3.out]
    exact HP
   .intro s hs
    rcases List.mem_append.1 hs with h | h
    .exact HT s h
    .rw[List.mem_singleton.1 h];exact ht1
theorem aoy(p:Nat)(v:Value)(cut:Bool)(left:Int)(w:World)(h:w.heap[p]?=some (.cells #[v,.bool cut,Z left] 117 (0,0))):
  Calls prog 105 #[Rw p] w fun e w'=>e=.returned (.tuple #[])/\w'=(w.setCell (O p 1) (.bool false)).setCell (O p 2) (Z 0):=by
 obtain⟨c0,c1,c2,fz,hp⟩:=sJ h;clear h;go_enter func105,ntmps105;go_wp2;go_end0;exact⟨rfl,rfl⟩
theorem aoz{w:World}{p:Nat}{v:Value}{cut cut':Bool}{left left':Int}(h:w.heap[p]?=some (.cells #[v,.bool cut,Z left] 117 (0,0))):
  ((w.setCell (O p 1) (.bool cut')).setCell (O p 2) (Z left')).heap[p]?=some (.cells #[v,.bool cut',Z left'] 117 (0,0)) :=
 heap_setCell_same _ p 2 _ 117 _ (heap_setCell_same w p 1 _ 117 _ h)
end Go.Proofs.YtjolccidheflpaaGreatDoor
