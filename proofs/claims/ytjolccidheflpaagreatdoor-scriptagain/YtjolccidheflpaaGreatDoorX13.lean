/- The iterator of strings.SplitSeq at a separator of one byte, by a contract: for every loop. -/
import Derived.Test.YtjolccidheflpaaGreatDoorX06
import Derived.Test.YtjolccidheflpaaGreatDoorX12
import Derived.RangeFuncNested
import Derived.RangeFuncBound
import Derived.Shelf.RegionOpen
import Derived.OwnWalkIn
import Derived.LoopNIn
import Derived.LoopIn
import Derived.Lib.IndexLaws
namespace Go.Proofs.YtjolccidheflpaaGreatDoor
open Go.Proofs.Tryz
set_option maxHeartbeats 8000000
set_option maxRecDepth 100000
section
open Go.RowKit Go.Shelf
def pieces(c:UInt8):List UInt8->List (List UInt8)
 | []=>[[]]
 | x::l=>if x==c then []::pieces c l else (x::(pieces c l).headD [])::(pieces c l).tail
theorem acV(c:UInt8):∀l:List UInt8,Lib.indexByte l c = -1->pieces c l=[l]
 | [],_=>rfl
 | x::l,h=>by
  have mf:=Lib.indexByte_ge l c;simp only[Lib.indexByte]at h;by_cases hx:(x==c)=true
  .rw[if_pos hx]at h;omega
  .rw[if_neg hx]at h
   by_cases hl:(Lib.indexByte l c == -1)=true
   .simp only[pieces,if_neg hx,acV c l (by simpa using hl),List.headD_cons,List.tail_cons]
   .rw[if_neg hl]at h;omega
theorem acW(c:UInt8):∀(l:List UInt8) (i:Nat),Lib.indexByte l c=i->i<l.length/\pieces c l=l.take i::pieces c (l.drop (i+1))
 | [],i,h=>by simp only[Lib.indexByte]at h;omega
 | x::l,i,h=>by
  have mf:=Lib.indexByte_ge l c;simp only[Lib.indexByte]at h;by_cases hx:(x==c)=true
  .rw[if_pos hx]at h
   obtain rfl:i=0:=by omega
   have hx':x=c:=by simpa using hx
   simp[pieces,hx']
  .rw[if_neg hx]at h
   by_cases hl:(Lib.indexByte l c == -1)=true
   .rw[if_pos hl]at h;omega
   .rw[if_neg hl]at h
    have hl':Lib.indexByte l c≠-1:=by simpa using hl
    obtain⟨j,rfl⟩:∃j,i=j+1:=⟨i-1,by omega⟩;obtain⟨h1,h2⟩:=acW c l j (by omega);have hx':¬ x=c:=by simpa using hx
    simp[pieces,hx',h2,h1]
def aZ(l:List UInt8):ByteArray:=⟨l.toArray⟩
theorem asj(s:ByteArray)(i:Nat):s.extract 0 i=aZ (s.data.toList.take i):=by apply ByteArray.ext;rw[ByteArray.data_extract];apply Array.toList_inj.1;simp[aZ,List.extract_eq_take_drop]
theorem asl(s:ByteArray)(i:Nat):s.extract i s.size=aZ (s.data.toList.drop i):=by apply ByteArray.ext;rw[ByteArray.data_extract];apply Array.toList_inj.1;simp[aZ,List.extract_eq_take_drop];exact List.take_of_length_le (by rw[List.length_drop,Array.length_toList];exact E _)
theorem acX{α:Type}(p:List α)(x:α)(l:List α):p++[x] <+: p++x::l:=⟨l,by simp⟩
def acY(b:Nat)(w:World):Nat:=match w.cell? (O b 0) with | some (.string t)=>t.size | _=>0
theorem acJ(hidx:∀(s:ByteArray) (c:UInt8) (w:World),Calls prog 199 #[.string s,.string ⟨#[c]⟩] w fun e w'=>e=.returned (Z (Lib.indexByte s.data.toList c))/\w'=w)(n:Nat)(hn:1<=n)(s:ByteArray)(c:UInt8)(hs:s.size<=1000000000)(bs bc b0:Nat)(hbc:bc≠bs)(hb0:b0≠bs):
  wB.Seq Fence.wide n prog 197 #[Rw bc,Rw bs,Rw b0] (fun x:ByteArray=>#[.string x]) bs [bs,bc,b0] ((pieces c s.data.toList).map aZ)
   (fun W=>Boxed W bs 9 (.string s)/\Boxed W bc 9 (.string ⟨#[c]⟩)/\Boxed W b0 3 (Z 0)):=by
 rintro l J H9 W ⟨h1,h2,h3⟩ hJ auT hY h0;refine callsIn_of_wp func197 rfl trivial ?_ rfl;simp only[ntmps197,List.size_toArray,List.length_cons,List.length_nil,Nat.reduceAdd,Nat.reduceSub,Array.replicate_succ,Array.replicate_zero,List.push_toArray,List.append_toArray,List.nil_append,List.cons_append];have c1:=h1.cell;have c2:=h2.cell;have c3:=h3.cell
 gi_wp2
 gi_loopw [] (fun wr=>∃(pre:List ByteArray) (t:ByteArray),(pieces c s.data.toList).map aZ=pre++(pieces c t.data.toList).map aZ/\t.size<=s.size/\Boxed wr bs 9 (.string t)/\Boxed wr bc 9 (.string ⟨#[c]⟩)/\Boxed wr b0 3 (Z 0)/\J pre wr) (fun wr=>acY bs wr)
 case atStart=>exact⟨[],s,rfl,E _,h1,h2,h3,h0⟩
 case round =>
  obtain⟨pre,t,hx,qa,g1,g2,g3,hJs⟩:=hrel;have c1:=g1.cell;have c2:=g2.cell;have c3:=g3.cell;have mf:=Lib.indexByte_ge t.data.toList c;by_cases hneg:Lib.indexByte t.data.toList c = -1
  .have hp:=acV c _ hneg
   have Bd:∀w,Calls prog 199 #[.string t,.string ⟨#[c]⟩] w fun e w'=>e=.returned (Z (-1))/\w'=w:=fun w=>by have:=hidx t c w;rwa [hneg]at this
   rw[hp]at hx;obtain⟨fn,tmps,assign,body,hy,hR⟩:=hY pre t wr hJs (by rw[hx];exact List.prefix_refl _)
   gi_wp2_with (refine⟨trivial,?_⟩;gi_at_call 199;refine(callsIn_wide.2 (Bd _)).mono ?_;rintro e w' ⟨rfl,rfl⟩)
   refine hR.mono ?_;rintro e W3 (⟨rfl,hJ3,hk3⟩ | ⟨rfl,Rt⟩)
   .gi_wp2
    go_end0;exact⟨⟨_,rfl⟩,.inl (by rw[hx];exact hJ3)⟩
   .gi_wp2
    go_end0;exact⟨⟨_,rfl⟩,.inr ⟨_,by rw[hx];exact List.prefix_refl _,Rt⟩⟩
  .obtain⟨i,hi⟩:∃i:Nat,Lib.indexByte t.data.toList c=i:=⟨(Lib.indexByte t.data.toList c).toNat,by omega⟩
   obtain⟨hlt,hp⟩:=acW c _ i hi;have auU:i<t.size:=by rw[Array.length_toList]at hlt;exact hlt
   have Bd:∀w,Calls prog 199 #[.string t,.string ⟨#[c]⟩] w fun e w'=>e=.returned (Z i)/\w'=w:=fun w=>by have:=hidx t c w;rwa [hi]at this
   have hw0:wrap64 (i:Int)=i:=by unfold wrap64;omega
   have d6:wrap64 ((i:Int)+1)=i+1:=by unfold wrap64;omega
   have lx:((i:Int)+1).toNat=i+1:=by omega
   have auV:(i:Int)<=t.size:=by omega
   have auW:(i:Int)+1<=t.size:=by omega
   rw[hp,List.map_cons]at hx;rw[show aZ (t.data.toList.take i)=t.extract 0 i from(asj t i).symm]at hx;obtain⟨fn,tmps,assign,body,hy,hR⟩:=hY pre (t.extract 0 i) wr hJs (by rw[hx];exact acX _ _ _)
   gi_wp2_with (refine⟨trivial,?_⟩;gi_at_call 199;refine(callsIn_wide.2 (Bd _)).mono ?_;rintro e w' ⟨rfl,rfl⟩)
   refine hR.mono ?_;rintro e W3 (⟨rfl,hJ3,hk3⟩ | ⟨rfl,Rt⟩)
   .have k1:Boxed W3 bs 9 (.string t):=(hk3 bs (by simp)).trans g1
    have k2:Boxed W3 bc 9 (.string ⟨#[c]⟩):=(hk3 bc (by simp)).trans g2;have k3:Boxed W3 b0 3 (Z 0):=(hk3 b0 (by simp)).trans g3;have d1:=k1.cell;have d2:=k2.cell;have d3:=k3.cell;have e1:=k1.frozen
    gi_wp2
    go_roundw
    case rel =>
     have ht:t.extract (i+1) t.size=aZ (t.data.toList.drop (i+1)):=asl t (i+1);refine⟨pre++[t.extract 0 i],t.extract (i+1) t.size,?_,?_,k1.set _,k2.other hbc _,k3.other hb0 _,hJ _ _ _ (some bs) hJ3 (grownBy_setCell' _ _ _) (fun r e=>by cases e;rfl)⟩
     .rw[hx,ht];simp[aZ]
     .rw[ByteArray.size_extract];omega
    case measure =>
     simp only[acY,(k1.set (Value.string (t.extract (i+1) t.size))).cell,g1.cell];rw[ByteArray.size_extract];omega
   .gi_wp2
    refine bodyPost_ret (results_none rfl _ _ _) rfl ?_;exact⟨⟨_,rfl⟩,.inr ⟨_,by rw[hx];exact acX _ _ _,Rt⟩⟩
def oa(s t:ByteArray)(w:World):World:=((w.alloc (.cells #[.string s] 9)).alloc (.cells #[.string t] 9)).alloc (.cells #[Z 0] 3)
def E6(w:World):Value:=.func (.func 197) #[] #[.pointer (some ⟨w.heap.size+1,0,none⟩),Rw w.heap.size,.pointer (some ⟨w.heap.size+2,0,none⟩)]
theorem JA(s t:ByteArray)(w:World):(oa s t w).heap.size=w.heap.size+3:=by simp[oa]
theorem Rp(s t:ByteArray)(w:World):w.grownBy (oa s t w) none:=((World.grownBy_alloc w _ none).trans (World.grownBy_alloc _ _ none)).trans (World.grownBy_alloc _ _ none)
theorem acK(s t:ByteArray)(w:World):Boxed (oa s t w) w.heap.size 9 (.string s):=((Boxed.new w _ _).alloc _).alloc _
theorem acL(s t:ByteArray)(w:World):Boxed (oa s t w) (w.heap.size+1) 9 (.string t):=by have:=(Boxed.new (w.alloc (.cells #[.string s] 9)) 9 (.string t)).alloc (.cells #[Z 0] 3);rwa [World.size_alloc]at this
theorem acM(s t:ByteArray)(w:World):Boxed (oa s t w) (w.heap.size+2) 3 (Z 0):=by have:=Boxed.new ((w.alloc (.cells #[.string s] 9)).alloc (.cells #[.string t] 9)) 3 (Z 0);rwa [World.size_alloc,World.size_alloc]at this
theorem ar5(s t:ByteArray)(w:World):Calls prog 146 #[.string s,.string t,Z 0] w fun e w'=>e=.returned (E6 w)/\w'=oa s t w:=by go_enter func146,ntmps146;go_wp2;go_ret;exact⟨rfl,rfl⟩
theorem acI(s t:ByteArray)(w:World):Calls prog 84 #[.string s,.string t] w fun e w'=>e=.returned (E6 w)/\w'=oa s t w:=by
 go_enter func84,ntmps84
 go_wp2_with fail
 refine(ar5 s t w).mono ?_;rintro e w1 ⟨rfl,rfl⟩;go_wp2;go_ret;exact⟨rfl,rfl⟩
end
section
open Go.RowKit
def acg:List UInt8:=[48,49,50,51,52,53,54,55,56,57,97,98,99,100,101,102]
def lh(c:UInt8):Int:=Lib.indexByte acg c
theorem abV(c:UInt8):lh c<16/\-1<=lh c:=by
 have:∀i:Fin 256,lh (UInt8.ofNat i.val)<16/\-1<=lh (UInt8.ofNat i.val):=by decide +kernel
 have h:=this ⟨c.toNat,c.toNat_lt⟩;simpa using h
def unhex:List UInt8->Option (List UInt8)
 | []=>some []
 | [_]=>none
 | a::b::r=>if lh a<0\/lh b<0 then none else (unhex r).map (UInt8.ofNat ((lh a).toNat*16+(lh b).toNat) :: ·)
def uS(n:Nat):UInt8:=acg.getD n 0
theorem ach:∀n,n<16->lh (uS n)=(n:Int):=by
 have:∀i:Fin 16,lh (uS i.val)=(i.val:Int):=by decide +kernel
 exact fun n h=>this ⟨n,h⟩
def mA(l:List UInt8):List UInt8:=l.flatMap fun b=>[uS (b.toNat/16),uS (b.toNat%16)]
theorem ab9:∀l:List UInt8,unhex (mA l)=some l
 | []=>rfl
 | b::l=>by
  have hb:=b.toNat_lt;have h1:=ach (b.toNat/16) (by omega);have h2:=ach (b.toNat%16) (by omega);show unhex (uS (b.toNat/16)::uS (b.toNat%16)::mA l)=_;rw[unhex,if_neg (by rw[h1,h2];omega),ab9 l,h1,h2];simp only[Option.map_some,Int.toNat_natCast];rw[show b.toNat/16*16+b.toNat%16=b.toNat by omega,UInt8.ofNat_toNat]
theorem abT:∀l:List UInt8,l.length%2=1->unhex l=none
 | [],h=>by simp at h
 | [_],_=>rfl
 | a::b::r,h=>by
  rw[unhex,abT r (by simp at h;omega)];split <;> rfl
theorem ara(l:List UInt8)(k:Nat)(a b:UInt8)(ha:l[k]?=some a)(hb:l[k+1]?=some b):unhex (l.drop k)=if lh a<0\/lh b<0 then none else (unhex (l.drop (k+2))).map (UInt8.ofNat ((lh a).toNat*16+(lh b).toNat) :: ·):=by
 have h1:l.drop k=a::l.drop (k+1):=by obtain⟨h,e⟩:=List.getElem?_eq_some_iff.1 ha;rw[List.drop_eq_getElem_cons h,e]
 have h2:l.drop (k+1)=b::l.drop (k+2):=by obtain⟨h,e⟩:=List.getElem?_eq_some_iff.1 hb;rw[List.drop_eq_getElem_cons h,e]
 rw[h1,h2,unhex]
end
end Go.Proofs.YtjolccidheflpaaGreatDoor
