/- The iterator of strings.SplitSeq at a separator of one byte, by a contract: for every loop. -/
import Derived.Test.YtjolccidheflpaaGreatDoorV06
import Derived.Test.YtjolccidheflpaaGreatDoorV13
import Derived.RangeFuncNested
import Derived.RangeFuncBound
import Derived.RangeFuncCalls
import Derived.RangeFuncLeaves
import Derived.Shelf.Abstract
import Derived.Shelf.RegionOpen
import Derived.WalkKit
import Derived.OwnWalkIn
import Derived.TacticsInMore
import Derived.LoopNIn
import Derived.LoopIn
import Derived.Lib.IndexLaws
namespace Go.Proofs.YtjolccidheflpaaGreatDoor
set_option maxHeartbeats 8000000
open Go.RowKit Go.Shelf
set_option maxRecDepth 100000
def pieces (c:UInt8):List UInt8->List (List UInt8)
 | []=>[[]]
 | x::l=>if x==c then []::pieces c l else (x::(pieces c l).headD [])::(pieces c l).tail
theorem aao (c:UInt8):∀ l:List UInt8,Lib.indexByte l c = -1->pieces c l=[l]
 | [],_=>rfl
 | x::l,h=>by
  have kM:=Lib.indexByte_ge l c;simp only[Lib.indexByte]at h;by_cases hx:(x==c)=true
  ·rw[if_pos hx]at h;omega
  ·rw[if_neg hx]at h
   by_cases hl:(Lib.indexByte l c == -1)=true
   ·simp only[pieces,if_neg hx,aao c l (by simpa using hl),List.headD_cons,List.tail_cons]
   ·rw[if_neg hl]at h;omega
theorem aap (c:UInt8):∀ (l:List UInt8) (i:Nat),Lib.indexByte l c=i->i<l.length∧pieces c l=l.take i::pieces c (l.drop (i+1))
 | [],i,h=>by simp only[Lib.indexByte]at h;omega
 | x::l,i,h=>by
  have kM:=Lib.indexByte_ge l c;simp only[Lib.indexByte]at h;by_cases hx:(x==c)=true
  ·rw[if_pos hx]at h
   obtain rfl:i=0:=by omega
   have hx':x=c:=by simpa using hx
   simp[pieces,hx']
  ·rw[if_neg hx]at h
   by_cases hl:(Lib.indexByte l c == -1)=true
   ·rw[if_pos hl]at h;omega
   ·rw[if_neg hl]at h
    have hl':Lib.indexByte l c≠-1:=by simpa using hl
    obtain⟨j,rfl⟩:∃ j,i=j+1:=⟨i-1,by omega⟩;obtain⟨h1,h2⟩:=aap c l j (by omega);have hx':¬ x=c:=by simpa using hx
    simp[pieces,hx',h2,h1]
def ai (l:List UInt8):ByteArray:=⟨l.toArray⟩
theorem ZZ (s:ByteArray) (i:Nat):s.extract 0 i=ai (s.data.toList.take i):=by
 apply ByteArray.ext;rw[ByteArray.data_extract];apply Array.toList_inj.1;simp[ai,List.extract_eq_take_drop]
theorem PW (s:ByteArray) (i:Nat):s.extract i s.size=ai (s.data.toList.drop i):=by
 apply ByteArray.ext;rw[ByteArray.data_extract];apply Array.toList_inj.1;simp[ai,List.extract_eq_take_drop];exact List.take_of_length_le (by rw[List.length_drop,Array.length_toList];exact lRq _)
theorem aaq {α:Type} (p:List α) (x:α) (l:List α):p++[x] <+: p++x::l:=⟨l,by simp⟩
def aar (b:Nat) (w:World):Nat:=match w.cell? ⟨b,0,none⟩ with | some (.string t)=>t.size | _=>0
theorem ZG (hidx:∀ (s:ByteArray) (c:UInt8) (w:World),Calls Tryz.prog 199 #[.string s,.string ⟨#[c]⟩] w fun e w'=>e=.returned (.int .i64 (Lib.indexByte s.data.toList c))∧w'=w)
  (n:Nat) (hn:1<=n) (s:ByteArray) (c:UInt8) (hs:s.size<=1000000000) (bs bc b0:Nat) (hbc:bc≠bs) (hb0:b0≠bs) :
  tY.Seq Fence.wide n Tryz.prog 197 #[.pointer (some ⟨bc,0,none⟩),.pointer (some ⟨bs,0,none⟩),.pointer (some ⟨b0,0,none⟩)] (fun x:ByteArray=>#[.string x]) bs [bs,bc,b0] ((pieces c s.data.toList).map ai)
   (fun W=>Boxed W bs 9 (.string s)∧Boxed W bc 9 (.string ⟨#[c]⟩)∧Boxed W b0 3 (.int .i64 0)):=by
 rintro l J Hd W ⟨h1,h2,h3⟩ hJ apk hY h0;refine callsIn_of_wp Tryz.func197 rfl trivial ?_ rfl;simp only[Tryz.ntmps197,List.size_toArray,List.length_cons,List.length_nil,Nat.reduceAdd,Nat.reduceSub,Array.replicate_succ,Array.replicate_zero,List.push_toArray,List.append_toArray,List.nil_append,List.cons_append];have c1:=h1.cell;have c2:=h2.cell;have c3:=h3.cell
 gi_wp2
 gi_loopw [] (fun wr=>∃ (pre:List ByteArray) (t:ByteArray),(pieces c s.data.toList).map ai=pre++(pieces c t.data.toList).map ai∧t.size<=s.size∧Boxed wr bs 9 (.string t)∧Boxed wr bc 9 (.string ⟨#[c]⟩)∧Boxed wr b0 3 (.int .i64 0)∧J pre wr) (fun wr=>aar bs wr)
 case atStart=>exact⟨[],s,rfl,lRq _,h1,h2,h3,h0⟩
 case round =>
  obtain⟨pre,t,hx,od,g1,g2,g3,hJs⟩:=hrel;have c1:=g1.cell;have c2:=g2.cell;have c3:=g3.cell;have kM:=Lib.indexByte_ge t.data.toList c;by_cases hneg:Lib.indexByte t.data.toList c = -1
  ·have hp:=aao c _ hneg
   have zj:∀ w,Calls Tryz.prog 199 #[.string t,.string ⟨#[c]⟩] w fun e w'=>e=.returned (.int .i64 (-1))∧w'=w:=fun w=>by have:=hidx t c w;rwa [hneg]at this
   rw[hp]at hx;obtain⟨fn,tmps,assign,body,hy,hR⟩:=hY pre t wr hJs (by rw[hx];exact List.prefix_refl _)
   gi_wp2_with (refine⟨trivial,?_⟩;gi_at_call 199;refine(callsIn_wide.2 (zj _)).mono ?_;rintro e w' ⟨rfl,rfl⟩)
   refine hR.mono ?_;rintro e W3 (⟨rfl,hJ3,hk3⟩ | ⟨rfl,Qg⟩)
   ·gi_wp2
    go_end0;exact⟨⟨_,rfl⟩,.inl (by rw[hx];exact hJ3)⟩
   ·gi_wp2
    go_end0;exact⟨⟨_,rfl⟩,.inr ⟨_,by rw[hx];exact List.prefix_refl _,Qg⟩⟩
  ·obtain⟨i,hi⟩:∃ i:Nat,Lib.indexByte t.data.toList c=i:=⟨(Lib.indexByte t.data.toList c).toNat,by omega⟩
   obtain⟨hlt,hp⟩:=aap c _ i hi;have apl:i<t.size:=by rw[Array.length_toList]at hlt;exact hlt
   have zj:∀ w,Calls Tryz.prog 199 #[.string t,.string ⟨#[c]⟩] w fun e w'=>e=.returned (.int .i64 i)∧w'=w:=fun w=>by have:=hidx t c w;rwa [hi]at this
   have hw0:wrap64 (i:Int)=i:=by unfold wrap64;omega
   have dS:wrap64 ((i:Int)+1)=i+1:=by unfold wrap64;omega
   have j0:((i:Int)+1).toNat=i+1:=by omega
   have apm:(i:Int)<=t.size:=by omega
   have apn:(i:Int)+1<=t.size:=by omega
   rw[hp,List.map_cons]at hx;rw[show ai (t.data.toList.take i)=t.extract 0 i from(ZZ t i).symm]at hx;obtain⟨fn,tmps,assign,body,hy,hR⟩:=hY pre (t.extract 0 i) wr hJs (by rw[hx];exact aaq _ _ _)
   gi_wp2_with (refine⟨trivial,?_⟩;gi_at_call 199;refine(callsIn_wide.2 (zj _)).mono ?_;rintro e w' ⟨rfl,rfl⟩)
   refine hR.mono ?_;rintro e W3 (⟨rfl,hJ3,hk3⟩ | ⟨rfl,Qg⟩)
   ·have k1:Boxed W3 bs 9 (.string t):=(hk3 bs (by simp)).trans g1
    have k2:Boxed W3 bc 9 (.string ⟨#[c]⟩):=(hk3 bc (by simp)).trans g2;have k3:Boxed W3 b0 3 (.int .i64 0):=(hk3 b0 (by simp)).trans g3;have d1:=k1.cell;have d2:=k2.cell;have d3:=k3.cell;have e1:=k1.frozen
    gi_wp2
    go_roundw
    case rel =>
     have ht:t.extract (i+1) t.size=ai (t.data.toList.drop (i+1)):=PW t (i+1);refine⟨pre++[t.extract 0 i],t.extract (i+1) t.size,?_,?_,k1.set _,k2.other hbc _,k3.other hb0 _,hJ _ _ _ (some bs) hJ3 (grownBy_setCell' _ _ _) (fun r e=>by cases e;rfl)⟩
     ·rw[hx,ht];simp[ai]
     ·rw[ByteArray.size_extract];omega
    case measure =>
     simp only[aar,(k1.set (Value.string (t.extract (i+1) t.size))).cell,g1.cell];rw[ByteArray.size_extract];omega
   ·gi_wp2
    refine bodyPost_ret (results_none rfl _ _ _) rfl ?_;exact⟨⟨_,rfl⟩,.inr ⟨_,by rw[hx];exact aaq _ _ _,Qg⟩⟩
def mb (s t:ByteArray) (w:World):World:=((w.alloc (.cells #[.string s] 9)).alloc (.cells #[.string t] 9)).alloc (.cells #[.int .i64 0] 3)
def Dp (w:World):Value:=.func (.func 197) #[] #[.pointer (some ⟨w.heap.size+1,0,none⟩),.pointer (some ⟨w.heap.size,0,none⟩),.pointer (some ⟨w.heap.size+2,0,none⟩)]
theorem IU (s t:ByteArray) (w:World):(mb s t w).heap.size=w.heap.size+3:=by simp[mb]
theorem PO (s t:ByteArray) (w:World):w.grownBy (mb s t w) none:=((World.grownBy_alloc w _ none).trans (World.grownBy_alloc _ _ none)).trans (World.grownBy_alloc _ _ none)
theorem ZH (s t:ByteArray) (w:World):Boxed (mb s t w) w.heap.size 9 (.string s):=((Boxed.new w _ _).alloc _).alloc _
theorem ZI (s t:ByteArray) (w:World):Boxed (mb s t w) (w.heap.size+1) 9 (.string t):=by
 have:=(Boxed.new (w.alloc (.cells #[.string s] 9)) 9 (.string t)).alloc (.cells #[.int .i64 0] 3);rwa [World.size_alloc]at this
theorem ZJ (s t:ByteArray) (w:World):Boxed (mb s t w) (w.heap.size+2) 3 (.int .i64 0):=by
 have:=Boxed.new ((w.alloc (.cells #[.string s] 9)).alloc (.cells #[.string t] 9)) 3 (.int .i64 0);rwa [World.size_alloc,World.size_alloc]at this
theorem amY (s t:ByteArray) (w:World):Calls Tryz.prog 146 #[.string s,.string t,.int .i64 0] w fun e w'=>e=.returned (Dp w)∧w'=mb s t w:=by
 go_enter Tryz.func146,Tryz.ntmps146;go_wp2;go_ret;exact⟨rfl,rfl⟩
theorem ZF (s t:ByteArray) (w:World):Calls Tryz.prog 84 #[.string s,.string t] w fun e w'=>e=.returned (Dp w)∧w'=mb s t w:=by
 go_enter Tryz.func84,Tryz.ntmps84
 go_wp2_with fail
 refine(amY s t w).mono ?_;rintro e w1 ⟨rfl,rfl⟩;go_wp2;go_ret;exact⟨rfl,rfl⟩
end Go.Proofs.YtjolccidheflpaaGreatDoor
namespace Go.Proofs.YtjolccidheflpaaGreatDoor
set_option maxHeartbeats 8000000
open Go.RowKit
def Zh:List UInt8:=[48,49,50,51,52,53,54,55,56,57,97,98,99,100,101,102]
def di (c:UInt8):Int:=Lib.indexByte Zh c
theorem uH (c:UInt8):di c<16∧-1<=di c:=by
 have:∀ i:Fin 256,di (UInt8.ofNat i.val)<16∧-1<=di (UInt8.ofNat i.val):=by decide +kernel
 have h:=this ⟨c.toNat,c.toNat_lt⟩;simpa using h
def unhex:List UInt8->Option (List UInt8)
 | []=>some []
 | [_]=>none
 | a::b::r=>if di a<0∨di b<0 then none else (unhex r).map (UInt8.ofNat ((di a).toNat*16+(di b).toNat) :: ·)
def gI (n:Nat):UInt8:=Zh.getD n 0
theorem Zi:∀ n,n<16->di (gI n)=(n:Int):=by
 have:∀ i:Fin 16,di (gI i.val)=(i.val:Int):=by decide +kernel
 exact fun n h=>this ⟨n,h⟩
def dH (l:List UInt8):List UInt8:=l.flatMap fun b=>[gI (b.toNat/16),gI (b.toNat%16)]
theorem Y1:∀ l:List UInt8,unhex (dH l)=some l
 | []=>rfl
 | b::l=>by
  have hb:=b.toNat_lt;have h1:=Zi (b.toNat/16) (by omega);have h2:=Zi (b.toNat%16) (by omega);show unhex (gI (b.toNat/16)::gI (b.toNat%16)::dH l)=_;rw[unhex,if_neg (by rw[h1,h2];omega),Y1 l,h1,h2];simp only[Option.map_some,Int.toNat_natCast];rw[show b.toNat/16*16+b.toNat%16=b.toNat by omega,UInt8.ofNat_toNat]
theorem Iw:∀ l:List UInt8,l.length%2=1->unhex l=none
 | [],h=>by simp at h
 | [_],_=>rfl
 | a::b::r,h=>by
  rw[unhex,Iw r (by simp at h;omega)];split <;> rfl
theorem Pe (l:List UInt8) (k:Nat) (a b:UInt8) (ha:l[k]?=some a) (hb:l[k+1]?=some b):unhex (l.drop k)=if di a<0∨di b<0 then none else (unhex (l.drop (k+2))).map (UInt8.ofNat ((di a).toNat*16+(di b).toNat) :: ·):=by
 have h1:l.drop k=a::l.drop (k+1):=by
  obtain⟨h,e⟩:=List.getElem?_eq_some_iff.1 ha;rw[List.drop_eq_getElem_cons h,e]
 have h2:l.drop (k+1)=b::l.drop (k+2):=by
  obtain⟨h,e⟩:=List.getElem?_eq_some_iff.1 hb;rw[List.drop_eq_getElem_cons h,e]
 rw[h1,h2,unhex]
end Go.Proofs.YtjolccidheflpaaGreatDoor
