/- The first text of bytes: firstText, for every text. -/
import Derived.Test.YtjolccidheflpaaGreatDoorW13
import Derived.Test.YtjolccidheflpaaGreatDoorW32
namespace Go.Proofs.YtjolccidheflpaaGreatDoor
set_option maxHeartbeats 8000000
set_option maxRecDepth 100000
open Go.RowKit
theorem data_extract (b:ByteArray) (i j:Nat):(b.extract i j).data.toList=(b.data.toList.take j).drop i:=by
 rw[ByteArray.data_extract,Array.toList_extract,List.extract_eq_take_drop];rw[List.drop_take]
theorem XQ (b:ByteArray) (i n:Nat):((b.extract i b.size).extract 0 n).data.toList=(b.data.toList.drop i).take n:=by
 rw[data_extract,data_extract,List.drop_zero,List.take_of_length_le (l:=b.data.toList) (by rw[qi];exact lRq _)]
theorem XR (b:ByteArray) (i n:Nat) (h:i+n+4<=b.size):eJ (b.extract i b.size) n=eJ b (i+n):=by
 simp only[eJ];rw[oo b i b.size n (by omega) (lRq _),oo b i b.size (n+1) (by omega) (lRq _),oo b i b.size (n+2) (by omega) (lRq _),oo b i b.size (n+3) (by omega) (lRq _)];simp only[Nat.add_assoc]
theorem ajH (b:ByteArray) (w:World) (h:b.size<8) :
  Calls Tryz.prog 100 #[.string b] w fun e w'=>e=.returned (.tuple #[.string ⟨#[]⟩,.bool false])/\w'=w:=by
 have h':(b.size:Int)<8:=by omega
 go_enter Tryz.func100,Tryz.ntmps100;go_wp2;go_ret2;exact⟨rfl,rfl⟩
theorem ajI (b:ByteArray) (w:World) (hb:b.size<=1000000000) (h8:8<=b.size) (h4:aA b 4≠4294967295-aA b 0) :
  Calls Tryz.prog 100 #[.string b] w fun e w'=>e=.returned (.tuple #[.string ⟨#[]⟩,.bool false])/\∃ m,w'=w.drewN m:=by
 have h':¬ (b.size:Int)<8:=by omega
 have g4:(4:Int)<=b.size:=by omega
 have zA:4<=b.size:=by omega
 go_enter Tryz.func100,Tryz.ntmps100
 go_wp2_with fail
 refine(oq b w (by omega)).mono ?_;rintro e w1 ⟨rfl,m1,rfl⟩;have e4:aA (b.extract 4 b.size) 0=aA b 4:=rY b 4 b.size (by omega) (lRq _);have hz:aA b 0<4294967296:=rX b 0;have hx:bits .xor .u32 IntKind.u32.max (aA b 0:Int)=((4294967295-aA b 0:Nat):Int):=by
  rw[show IntKind.u32.max=((4294967295:Nat):Int) from rfl,u32_xor_nat _ _ (by decide) hz,zy _ hz]
 generalize hn:aA b 0=n at *;have Hn:=hDq hn;clear hn
 go_wp2_with fail
 refine(oq _ _ (by simp;omega)).mono ?_;rintro e w2 ⟨rfl,m2,rfl⟩;have ajJ:¬ ((aA b 4:Nat):Int)=((4294967295-n:Nat):Int):=by omega
 rw[e4];simp only[];generalize aA b 4=k at *;clear e4 h4;have aph:¬ (k:Int)=bits .xor .u32 IntKind.u32.max (n:Int):=by rw[hx];exact ajJ
 go_wp2;go_ret2;exact⟨rfl,m1+m2,rfl⟩
theorem ajK (b:ByteArray) (w:World) (hb:b.size<=1000000000) (h8:8<=b.size) (h4:aA b 4=4294967295-aA b 0) (hm:10000<aA b 0) :
  Calls Tryz.prog 100 #[.string b] w fun e w'=>e=.returned (.tuple #[.string ⟨#[]⟩,.bool false])/\∃ m,w'=w.drewN m:=by
 have h':¬ (b.size:Int)<8:=by omega
 have g4:(4:Int)<=b.size:=by omega
 have zA:4<=b.size:=by omega
 go_enter Tryz.func100,Tryz.ntmps100
 go_wp2_with fail
 refine(oq b w (by omega)).mono ?_;rintro e w1 ⟨rfl,m1,rfl⟩;have e4:aA (b.extract 4 b.size) 0=aA b 4:=rY b 4 b.size (by omega) (lRq _);have hz:aA b 0<4294967296:=rX b 0;have hx:bits .xor .u32 IntKind.u32.max (aA b 0:Int)=((4294967295-aA b 0:Nat):Int):=by
  rw[show IntKind.u32.max=((4294967295:Nat):Int) from rfl,u32_xor_nat _ _ (by decide) hz,zy _ hz]
 generalize hn:aA b 0=n at *;have Hn:=hDq hn;clear hn
 go_wp2_with fail
 refine(oq _ _ (by simp;omega)).mono ?_;rintro e w2 ⟨rfl,m2,rfl⟩;rw[e4,h4];simp only[];clear e4 h4;have apj:(10000:Int)<n:=by omega
 go_wp2;go_ret2;exact⟨rfl,m1+m2,rfl⟩
theorem ajL (b:ByteArray) (w:World) (hb:b.size<=1000000000) (h8:8<=b.size) (h4:aA b 4=4294967295-aA b 0) (hm:aA b 0<=10000) (hl:b.size-8<aA b 0+4) :
  Calls Tryz.prog 100 #[.string b] w fun e w'=>e=.returned (.tuple #[.string ⟨#[]⟩,.bool false])/\∃ m,w'=w.drewN m:=by
 have h':¬ (b.size:Int)<8:=by omega
 have g4:(4:Int)<=b.size:=by omega
 have zA:4<=b.size:=by omega
 go_enter Tryz.func100,Tryz.ntmps100
 go_wp2_with fail
 refine(oq b w (by omega)).mono ?_;rintro e w1 ⟨rfl,m1,rfl⟩;have e4:aA (b.extract 4 b.size) 0=aA b 4:=rY b 4 b.size (by omega) (lRq _);have hz:aA b 0<4294967296:=rX b 0;have hx:bits .xor .u32 IntKind.u32.max (aA b 0:Int)=((4294967295-aA b 0:Nat):Int):=by
  rw[show IntKind.u32.max=((4294967295:Nat):Int) from rfl,u32_xor_nat _ _ (by decide) hz,zy _ hz]
 generalize hn:aA b 0=n at *;have Hn:=hDq hn;clear hn
 go_wp2_with fail
 refine(oq _ _ (by simp;omega)).mono ?_;rintro e w2 ⟨rfl,m2,rfl⟩;rw[e4,h4];simp only[];clear e4 h4;go_wp2;go_ret2;exact⟨rfl,m1+m2,rfl⟩
theorem ajM (b:ByteArray) (w:World) (hb:b.size<=1000000000) (h8:8<=b.size) (h4:aA b 4=4294967295-aA b 0) (hm:aA b 0<=10000) (hl:aA b 0+4<=b.size-8) (hs:eJ b (8+aA b 0)≠ah.sum ((b.data.toList.drop 8).take (aA b 0))) :
  Calls Tryz.prog 100 #[.string b] w fun e w'=>e=.returned (.tuple #[.string ⟨#[]⟩,.bool false])/\∃ m,w'=w.drewN m:=by
 have h':¬ (b.size:Int)<8:=by omega
 have g4:(4:Int)<=b.size:=by omega
 have zA:4<=b.size:=by omega
 go_enter Tryz.func100,Tryz.ntmps100
 go_wp2_with fail
 refine(oq b w (by omega)).mono ?_;rintro e w1 ⟨rfl,m1,rfl⟩;have e4:aA (b.extract 4 b.size) 0=aA b 4:=rY b 4 b.size (by omega) (lRq _);have hz:aA b 0<4294967296:=rX b 0;have hx:bits .xor .u32 IntKind.u32.max (aA b 0:Int)=((4294967295-aA b 0:Nat):Int):=by
  rw[show IntKind.u32.max=((4294967295:Nat):Int) from rfl,u32_xor_nat _ _ (by decide) hz,zy _ hz]
 generalize hn:aA b 0=n at *;have Hn:=hDq hn;clear hn;generalize hS:ah.sum ((b.data.toList.drop 8).take n)=S at *;have HS:=hDq hS;have iz:=hDq hs;clear hs hS
 go_wp2_with fail
 refine(oq _ _ (by simp;omega)).mono ?_;rintro e w2 ⟨rfl,m2,rfl⟩;rw[e4,h4];simp only[];clear e4 h4
 go_wp2_with fail
 refine(yi _ _ (by simp;omega)).mono ?_;rintro e w3 ⟨rfl,m3,rfl⟩;have el:eJ ((b.extract 8 b.size).extract n (b.size-8)) 0=eJ b (8+n):=by
  rw[yh _ n (b.size-8) (by omega) (by simp)];exact XR b 8 n (by omega)
 rw[el];clear el;simp only[]
 go_wp2_with fail
 refine(tQ _ _ (by simp[maxLen];omega)).mono ?_;rintro e w4 ⟨rfl,rfl⟩;have es:((b.extract 8 b.size).extract 0 n).data.toList=(b.data.toList.drop 8).take n:=XQ b 8 n;rw[es,HS.out];simp only[];have hs':¬ (eJ b (8+n):Int)=S:=by have:=iz.out;omega
 generalize eJ b (8+n)=k at *;go_wp2;go_ret2;exact⟨rfl,m1+m2+m3,rfl⟩
theorem ajN (b:ByteArray) (w:World) (hb:b.size<=1000000000) (h8:8<=b.size) (h4:aA b 4=4294967295-aA b 0) (hm:aA b 0<=10000) (hl:aA b 0+4<=b.size-8) (hs:eJ b (8+aA b 0)=ah.sum ((b.data.toList.drop 8).take (aA b 0))) :
  Calls Tryz.prog 100 #[.string b] w fun e w'=>e=.returned (.tuple #[.string (ba ((b.data.toList.drop 8).take (aA b 0))),.bool true])/\∃ m,w'=w.drewN m:=by
 have h':¬ (b.size:Int)<8:=by omega
 have g4:(4:Int)<=b.size:=by omega
 have zA:4<=b.size:=by omega
 go_enter Tryz.func100,Tryz.ntmps100
 go_wp2_with fail
 refine(oq b w (by omega)).mono ?_;rintro e w1 ⟨rfl,m1,rfl⟩;have e4:aA (b.extract 4 b.size) 0=aA b 4:=rY b 4 b.size (by omega) (lRq _);have hz:aA b 0<4294967296:=rX b 0;have hx:bits .xor .u32 IntKind.u32.max (aA b 0:Int)=((4294967295-aA b 0:Nat):Int):=by
  rw[show IntKind.u32.max=((4294967295:Nat):Int) from rfl,u32_xor_nat _ _ (by decide) hz,zy _ hz]
 generalize hn:aA b 0=n at *;have Hn:=hDq hn;clear hn;generalize hS:ah.sum ((b.data.toList.drop 8).take n)=S at *;have HS:=hDq hS;have iz:=hDq hs;clear hs hS
 go_wp2_with fail
 refine(oq _ _ (by simp;omega)).mono ?_;rintro e w2 ⟨rfl,m2,rfl⟩;rw[e4,h4];simp only[];clear e4 h4
 go_wp2_with fail
 refine(yi _ _ (by simp;omega)).mono ?_;rintro e w3 ⟨rfl,m3,rfl⟩;have el:eJ ((b.extract 8 b.size).extract n (b.size-8)) 0=eJ b (8+n):=by
  rw[yh _ n (b.size-8) (by omega) (by simp)];exact XR b 8 n (by omega)
 rw[el,iz.out];clear el;simp only[]
 go_wp2_with fail
 refine(tQ _ _ (by simp[maxLen];omega)).mono ?_;rintro e w4 ⟨rfl,rfl⟩;have es:((b.extract 8 b.size).extract 0 n).data.toList=(b.data.toList.drop 8).take n:=XQ b 8 n;rw[es,HS.out];simp only[];go_wp2;go_ret2;refine⟨?_,m1+m2+m3,rfl⟩;rw[Hn.out,<- es];rfl
theorem XT (b:ByteArray) (w:World) (hb:b.size<=1000000000) :
  Calls Tryz.prog 100 #[.string b] w fun e w'=>e=.returned (match bC.first b.data.toList with | none=>.tuple #[.string ⟨#[]⟩,.bool false] | some t=>.tuple #[.string (ba t),.bool true])/\∃ m,w'=w.drewN m:=by
 have hlen:=qi b;have hh:∀ i,bC.g_ b.data.toList i=aA b i:=fun _=>rfl;have hl:∀ i,bC.oX b.data.toList i=eJ b i:=fun _=>rfl;unfold bC.first
 rw[hlen,hh,hh,hl];by_cases h8:b.size<8
 .rw[if_pos h8]
  exact(ajH b w h8).mono fun e w' ⟨h1,h2⟩=>⟨h1,0,h2⟩
 .rw[if_neg h8]
  by_cases h4:aA b 4=4294967295-aA b 0
  .rw[if_neg (by simpa using h4)]
   by_cases hm:10000<aA b 0
   .rw[if_pos hm]
    exact ajK b w hb (by omega) h4 hm
   .rw[if_neg hm]
    by_cases hs:b.size-8<aA b 0+4
    .rw[if_pos hs]
     exact ajL b w hb (by omega) h4 (by omega) hs
    .rw[if_neg hs]
     by_cases hq:eJ b (8+aA b 0)=ah.sum ((b.data.toList.drop 8).take (aA b 0))
     .rw[if_neg (by simpa using hq)]
      exact ajN b w hb (by omega) h4 (by omega) (by omega) hq
     .rw[if_pos hq]
      exact ajM b w hb (by omega) h4 (by omega) (by omega) hq
  .rw[if_pos h4]
   exact ajI b w hb (by omega) h4
end Go.Proofs.YtjolccidheflpaaGreatDoor
