/- The library: strings.Join, Builder.String, strconv.Itoa, laid at this program. -/
import Derived.Test.YtjolccidheflpaaGreatDoorW38
import Derived.Shelf.Strings.OnBuilder
import Derived.Shelf.Strings.BuilderK
import Derived.Test.YtjolccidheflpaaGreatDoorW16
import Derived.Lib.ItoaLen
namespace Go.Proofs.YtjolccidheflpaaGreatDoor
set_option maxHeartbeats 8000000
set_option maxRecDepth 100000
section
open Go.Shelf
def Vu:Go.Shelf.Ren:=⟨fun | 169=>71 | n=>n,fun | 70=>131 | 9=>9 | 0=>0 | 72=>133 | 37=>115 | 127=>214 | 3=>3 | 5=>5 | n=>n,fun | n=>n⟩
theorem ahi:Go.Proofs.Lays.n169 Tryz.prog Vu:={
 mixed:=by kernel_rfl
 f169:=Tryz.func71.trans (congrArg some (by kernel_rfl))
 t0:=Tryz.underlying0
 a0:=Tryz.isAgg0
 z0:=Tryz.sizeOf0
 v0:=Tryz.zeroValue0
 t3:=Tryz.underlying3
 a3:=Tryz.isAgg3
 z3:=Tryz.sizeOf3
 v3:=Tryz.zeroValue3
 t9:=Tryz.underlying9
 a9:=Tryz.isAgg9
 z9:=Tryz.sizeOf9
 v9:=Tryz.zeroValue9
 t37:=Tryz.underlying115
 a37:=Tryz.isAgg115
 z37:=Tryz.sizeOf115
 v37:=Tryz.zeroValue115
 t70:=Tryz.underlying131
 a70:=Tryz.isAgg131
 z70:=Tryz.sizeOf131
 v70:=Tryz.zeroValue131
 t72:=Tryz.underlying133
 a72:=Tryz.isAgg133
 z72:=Tryz.sizeOf133
 v72:=Tryz.zeroValue133
 t127:=Tryz.underlying214
 a127:=Tryz.isAgg214
 z127:=Tryz.sizeOf214
 v127:=Tryz.zeroValue214 }
theorem ahj:Builder.Extra Tryz.prog Vu:={
 sizeBuilder:=by kernel_rfl
 liesBuilder:=by kernel_rfl
 t5:=Tryz.underlying5
 a5:=Tryz.isAgg5
 z5:=Tryz.sizeOf5
 v5:=Tryz.zeroValue5
 infoByte:=by kernel_rfl
 cellsByte:=by kernel_rfl
 sizeByte:=by kernel_rfl
 neB5:=by decide }
def Vv:Go.Shelf.Ren:=⟨fun | 156=>116 | 165=>174 | 166=>66 | 169=>71 | 240=>113 | 241=>210 | 276=>173 | 277=>238 | n=>n,fun | 31=>70 | 9=>9 | 3=>3 | 4=>4 | 0=>0 | 20=>20 | 72=>133 | 76=>134 | 70=>131 | 37=>115 | 75=>26 | 127=>214 | 164=>250 | 5=>5 | 80=>124 | n=>n,fun | n=>n⟩
theorem Vw:Go.Proofs.Lays.n156 Tryz.prog Vv:={
 mixed:=by kernel_rfl
 f156:=Tryz.func116.trans (congrArg some (by kernel_rfl))
 f165:=Tryz.func174.trans (congrArg some (by kernel_rfl))
 f166:=Tryz.func66.trans (congrArg some (by kernel_rfl))
 f169:=Tryz.func71.trans (congrArg some (by kernel_rfl))
 f240:=Tryz.func113.trans (congrArg some (by kernel_rfl))
 f241:=Tryz.func210.trans (congrArg some (by kernel_rfl))
 f276:=Tryz.func173.trans (congrArg some (by kernel_rfl))
 f277:=Tryz.func238.trans (congrArg some (by kernel_rfl))
 t0:=Tryz.underlying0
 a0:=Tryz.isAgg0
 z0:=Tryz.sizeOf0
 v0:=Tryz.zeroValue0
 t3:=Tryz.underlying3
 a3:=Tryz.isAgg3
 z3:=Tryz.sizeOf3
 v3:=Tryz.zeroValue3
 t4:=Tryz.underlying4
 a4:=Tryz.isAgg4
 z4:=Tryz.sizeOf4
 v4:=Tryz.zeroValue4
 t9:=Tryz.underlying9
 a9:=Tryz.isAgg9
 z9:=Tryz.sizeOf9
 v9:=Tryz.zeroValue9
 t20:=Tryz.underlying20
 a20:=Tryz.isAgg20
 z20:=Tryz.sizeOf20
 v20:=Tryz.zeroValue20
 t31:=Tryz.underlying70
 a31:=Tryz.isAgg70
 z31:=Tryz.sizeOf70
 v31:=Tryz.zeroValue70
 t37:=Tryz.underlying115
 a37:=Tryz.isAgg115
 z37:=Tryz.sizeOf115
 v37:=Tryz.zeroValue115
 t70:=Tryz.underlying131
 a70:=Tryz.isAgg131
 z70:=Tryz.sizeOf131
 v70:=Tryz.zeroValue131
 t72:=Tryz.underlying133
 a72:=Tryz.isAgg133
 z72:=Tryz.sizeOf133
 v72:=Tryz.zeroValue133
 t75:=Tryz.underlying26
 a75:=Tryz.isAgg26
 z75:=Tryz.sizeOf26
 v75:=Tryz.zeroValue26
 t76:=Tryz.underlying134
 a76:=Tryz.isAgg134
 z76:=Tryz.sizeOf134
 v76:=Tryz.zeroValue134
 t127:=Tryz.underlying214
 a127:=Tryz.isAgg214
 z127:=Tryz.sizeOf214
 v127:=Tryz.zeroValue214
 t164:=Tryz.underlying250
 a164:=Tryz.isAgg250
 z164:=Tryz.sizeOf250
 v164:=Tryz.zeroValue250 }
theorem Vx:Builder.Extra Tryz.prog Vv:={
 sizeBuilder:=by kernel_rfl
 liesBuilder:=by kernel_rfl
 t5:=Tryz.underlying5
 a5:=Tryz.isAgg5
 z5:=Tryz.sizeOf5
 v5:=Tryz.zeroValue5
 infoByte:=by kernel_rfl
 cellsByte:=by kernel_rfl
 sizeByte:=by kernel_rfl
 neB5:=by decide }
open Go.RowKit in
theorem strings_Join (aH o c:Nat) (xs:List ByteArray) (sep:ByteArray) (w:World) (hcells:∀ (j:Nat) x,xs[j]?=some x->w.cell? ⟨aH,o+j,none⟩=some (.string x)) (hbk:aH<w.heap.size) (hN:xs.length<=140737488355328) (hcap:xs.length<=c) (hlen:(Lib.join (xs.map (·.data.toList)) sep.data.toList).length<=140737488355328) :
  Calls Tryz.prog 116 #[.slice (some (Qb aH o)) xs.length c,.string sep] w fun e w'=>e=.returned (.string ⟨(Lib.join (xs.map (·.data.toList)) sep.data.toList).toArray⟩)/\Qd w w':=Any.strings_Join Vw Vx aH o c xs sep w hcells hbk hN hcap hlen
open Go.RowKit in
theorem Builder_String_any_k (B b:Nat) (l:List UInt8) (w:World) (h:Lib.IsBuilderF 133 5 B b (Lib.byteCells l) w) (Cc:B<=w.heap.size) :
  Calls Tryz.prog 71 #[Qc b] w fun e w'=>e=.returned (.string ⟨l.toArray⟩)/\(Lib.IsBuilderF 133 5 B b (Lib.byteCells l) w'/\Below B w w'/\Lib.OthersKept 5 (some b) w w'):=Any.Builder_String_any_k ahi ahj B b l w h Cc
open Go.RowKit in
theorem Builder_WriteString_k (B b:Nat) (bs:List Value) (s:ByteArray) (w:World) (h:Lib.IsBuilderF 133 5 B b bs w) (hlen:bs.length+s.size<=140737488355328) (Cc:B<=w.heap.size) :
  Calls Tryz.prog 66 #[Qc b,.string s] w fun e w'=>e=.returned (.tuple #[Qa s.size,.nilIface])/\(Lib.BuilderAtF 133 5 B b (Qc b) (bs++Lib.strCells s) w'/\Below B w w'/\Lib.OthersKept 5 (some b) w w'):=Any.Builder_WriteString_k { Vw with } Vx B b bs s w h hlen Cc
end
section
open Go.RowKit
theorem U8:∃ i z,Tryz.prog.info? 9=some i/\i.zero=some z/\i.size=1/\i.bytes=16/\z.cells.size=1:=⟨_,_,rfl,rfl,rfl,rfl,rfl⟩
def xb (n:Int):ByteArray:=⟨(Lib.itoa n).toArray⟩
def q7 {α:Type} (g:α->ByteArray) (l:List α):List Value:=l.map fun x=>Value.string (g x)
theorem U7 {α:Type} (gg:α->ByteArray) {b0:Nat} (W:World) (v:Value) (l:List α) (x:α) (hr:W.ownsRow b0 9 1 v l.length (q7 gg l)) (hl:l.length<=1000000) (hb:b0<=W.heap.size) :
  ∃ v' W',(Builtin.append_ #[70,70] 70 #[v,.slice (some (Qb W.heap.size 0)) 1 1]).run Tryz.prog (W.alloc (.cells #[.string (gg x)] 9))=.ok v' W'/\W'.ownsRow b0 9 1 v' (l++[x]).length (q7 gg (l++[x]))/\(W.alloc (.cells #[.string (gg x)] 9)).grownBy W' v.ownBlock:=by
 obtain⟨i0,z0,hi,hz0,hz1,hz2,hz3⟩:=U8;have hbl:Qd W (W.alloc (.cells #[.string (gg x)] 9)):=(bRq _ _).alloc (lRq _) _;have eK:(W.alloc (.cells #[.string (gg x)] 9)).ownsRow b0 9 1 v l.length (q7 gg l):=eM hr (aJ.of_below hbl (fun _=>False)) (fun _ _ h=>h);obtain⟨v4,w4,hap,hrow,hgr,_,_⟩:=run_append_own_at (P:=Tryz.prog) (w:=W.alloc (.cells #[.string (gg x)] 9)) b0 70 70 9 i0 z0 1 16 Tryz.underlying70 hi hz0 hz1 hz2 hz3 (by decide) v l.length (q7 gg l) eK (Qb W.heap.size 0) 1 1 [.string (gg x)] rfl (fun j u hj=>by
  cases j with
  | zero=>cases hj;exact cR _ _ 0 _ 9 _ (hNq W _)
  | succ j=>simp at hj) (fun u hu=>by simp at hu;subst hu;rfl) (by unfold maxLen;omega) (by omega) (lTq hb hbl.size)
 refine⟨v4,w4,hap,?_,hgr⟩;rw[lAq];unfold q7 at *;rw[List.map_append];exact hrow
theorem agR (n:Int) (h0:-9223372036854775808<=n) (h1:n<=9223372036854775807) (w:World) (htab:Lib.TabIs Tryz.prog w "internal/strconv.uint64pow10" .u64 Lib.pow10Tab) :
  Calls Tryz.prog 145 #[Qa n] w fun e w'=>e=.returned (.string (xb n))/\Qd w w':=by
 refine(strconv_Itoa n h0 h1 w htab).mono ?_;rintro e w' ⟨rfl,k,os,rfl⟩;have hd:Qd w (w.drewN k):=⟨rfl,rfl,rfl,lRq _,fun _ _=>rfl⟩;refine⟨rfl,hd.trans ⟨rfl,rfl,rfl,by simp[Go.Sort.grow],fun j hj=>?_⟩⟩;show ((w.drewN k).heap++os)[j]?=(w.drewN k).heap[j]?;exact Array.getElem?_append_left (Nat.lt_of_lt_of_le hj hd.size)
theorem U9 (sep:ByteArray) (a:Option Addr) (m cap:Nat) (l:List Int) (bG:Nat) (W:World) (hbt:Hid (Lib.TabBelow Tryz.prog W.heap.size W "internal/strconv.uint64pow10" .u64 Lib.pow10Tab)) (hl:Hid (l.length=m)) (hm:m<=100000) (yF:0<m) (hrow:Hid (W.ownsRow bG 3 1 (.slice a m cap) l.length (fQ l))) (hx:Hid (∀ x∈l,-9223372036854775808<=x/\x<=9223372036854775807)) (ln:Hid ((Lib.join (l.map Lib.itoa) sep.data.toList).length<=140737488355328)) :
  Calls Tryz.prog 117 #[.string sep,.slice a m cap] W fun e w'=>e=.returned (.string ⟨(Lib.join (l.map Lib.itoa) sep.data.toList).toArray⟩)/\Qd W w':=by
 obtain⟨i5,z,hi,hz0,hz1,hz2,hz3⟩:=U8;obtain⟨M,hM⟩:∃ M,M=madeCells z.cells ((m:Int).toNat*i5.size):=⟨_,rfl⟩;have yc:M.size=m:=by rw[hM,size_madeCells,hz1];simp
 have aP:∀ W:World,(Instr.makeSlice 70 (Qa 0) (Qa (m:Int))).run Tryz.prog W=.ok (.slice (some (Qb W.heap.size 0)) 0 m) (W.alloc (.cells M 9)):=fun W=>by
  have h:=run_make (P:=Tryz.prog) W 70 9 i5 z Tryz.underlying70 hi hz0 .i64 .i64 (0:Int) (m:Int) (by omega) (by omega) (by rw[hz2];omega) (by omega);rw[<- hM]at h;simpa using h
 have fy:Hid ((W.alloc (.cells M 9)).ownsRow W.heap.size 9 1 (.slice (some (Qb W.heap.size 0)) 0 m) 0 []):=World.ownsRow_made W M m (lRq _) (by unfold maxLen;omega) (by omega);have bD:Hid (Qd W (W.alloc (.cells M 9))):=(bRq _ _).alloc (lRq _) _;clear hM yc hi hz0 hz1 hz2 hz3;go_enter Tryz.func117,Tryz.ntmps117
 go_wp2_with fail
 go_loopw [5,13] (fun rv kv wr=>∃ (k:Nat),k<=m/\kv=Qa k/\wr.ownsRow W.heap.size 9 1 rv (l.take k).length (q7 xb (l.take k))/\Qd W wr) (fun _ kv _=>m-(intOf kv).toNat)
 case atStart=>exact⟨0,Nat.zero_le _,rfl,fy.out,bD.out⟩
 case round =>
  obtain⟨k,hk,rfl,hr,hb⟩:=hrel;have HR:=hDq hr;have HB:=hDq hb;clear hr hb fy bD aP;by_cases hlt:k<m
  .have aX:(k:Int)<m:=by omega
   obtain⟨x,hxk⟩:∃ x,l[k]?=some x:=⟨_,List.getElem?_eq_getElem (by rw[hl.out];exact hlt)⟩;have HT:=hDq (show l.take (k+1)=l.take k++[x] by rw[List.take_add_one,hxk];rfl);have kE:=eM hrow.out (aJ.of_below HB.out (fun _=>False)) (fun _ _ h=>h);obtain⟨g,rfl,hc⟩:=U_ kE hxk;have mb:=hx.out x (List.mem_of_getElem? hxk);have HI:=hDq (agR x mb.1 mb.2 wr (hbt.out wr HB.out));have hlk:(l.take k).length<=1000000:=by rw[lKq];omega
   clear kE hxk
   go_wp2_with fail
   refine HI.out.mono ?_;rintro e w2 ⟨rfl,hb2⟩;have hr2:=eM HR.out (aJ.of_below hb2 (fun _=>False)) (fun _ _ h=>h);have jO:=HB.out.trans (hb2.mono HB.out.size);obtain⟨v5,aC,hap,fG,mH⟩:=U7 xb w2 u5 (l.take k) x hr2 hlk jO.size;have ck:=hDq ((jO.alloc jO.size (.cells #[.string (xb x)] 9)).grown mH (lTq jO.size ((bRq w2.heap.size w2).alloc (lRq _) _).size) (fun q hq=>(cP hr2 hq).1));have bA:=hDq fG;have dJ:=hDq hap;clear hr2 jO hap fG mH HI hb2;simp only[]
   go_wp2_with (at_builtin;refine wpList_append_run rfl _ _ 70 rfl _ _ _ rfl rfl dJ.out ?_)
   go_roundw
   case rel=>exact⟨k+1,hlt,by go_num,by rw[HT.out];exact bA.out,ck.out⟩
   case measure=>simp[intOf];omega
  .have aX:¬ (k:Int)<m:=by omega
   obtain rfl:k=m:=by omega
   have hlen:l.take k=l:=List.take_of_length_le (by rw[hl.out];exact lRq _);have hr:=HR.out;rw[hlen]at hr;have hmm:(l.map xb).map (·.data.toList)=l.map Lib.itoa:=by rw[List.map_map];rfl
   rcases hr.2 with ⟨_,e2⟩ | ⟨g2,c2,cur,e1,_,hg,hcap,_⟩
   .have:=hl.out;omega
   .have hcl:∀ (j:Nat) x,(l.map xb)[j]?=some x->wr.cell? ⟨g2,0+j,none⟩=some (.string x):=fun j x hj=>by
     have h2:=World.ownsRow.cells hr (g:=g2) (by rw[e1];rfl) j (.string x) (by
      rw[List.getElem?_map]at hj;obtain⟨y,hy,rfl⟩:=Option.map_eq_some_iff.1 hj;simp[q7,hy])
     have hp:(⟨g2,0,none⟩:Addr).add j=⟨g2,0+j,none⟩:=by unfold Addr.add;split <;> simp_all
     rw[<- hp];exact h2
    have HJ:=hDq (strings_Join g2 0 c2 (l.map xb) sep wr hcl (lBq hg) (by rw[List.length_map,hl.out];omega) (by rw[List.length_map];exact hcap) (by rw[hmm];exact ln.out));rw[hmm,List.length_map]at HJ;subst e1;clear hr hcl hg hcap HR hmm hlen
    go_wp2_with fail
    refine HJ.out.mono ?_;rintro e ai ⟨rfl,hb6⟩;have aY:=hDq (HB.out.trans (hb6.mono HB.out.size));clear hb6 HJ HB;simp only[];go_wp2;go_ret;exact⟨rfl,aY.out⟩
def nO (x:Int):Prop:=-9223372036854775808<=x/\x<=9223372036854775807
def joinL (sep:UInt8) (l:List Int):List UInt8:=Lib.join (l.map Lib.itoa) [sep]
def kK (sep:UInt8) (l:List Int):ByteArray:=⟨(joinL sep l).toArray⟩
theorem VE (k:Nat):∀ xs:List (List UInt8),(∀ x∈xs,x.length<=k)->Lib.lens xs<=k*xs.length
 | [],_=>Nat.zero_le _
 | x::r,h=>by
  have h1:=VE k r (fun y hy=>h y (mOq _ hy));have h2:=h x mSq;have e:Lib.lens (x::r)=x.length+Lib.lens r:=by simp[Lib.lens]
  rw[e,lCq,Nat.mul_add,Nat.mul_one];omega
theorem join_le {k:Nat} {sep:UInt8}:∀ {xs:List (List UInt8)},(∀ x∈xs,x.length<=k)->(Lib.join xs [sep]).length<=(k+1)*xs.length
 | [],_=>by simp[Lib.join_nil]
 | x::r,h=>by
  have h1:=VE k r (fun y hy=>h y (mOq _ hy));have h2:=h x mSq;have e:(k+1)*(x::r).length=k*r.length+r.length+k+1:=by rw[lCq,Nat.mul_add,Nat.add_mul];omega
  rw[Lib.join_cons,lAq,Lib.joinTail_length,e,List.length_singleton];omega
theorem Ch {sep:UInt8} {l:List Int} (h:∀ x∈l,nO x):(joinL sep l).length<=22*l.length:=by
 have h1:=join_le (k:=21) (sep:=sep) (xs:=l.map Lib.itoa) (fun y hy=>by
  obtain⟨x,hx,rfl⟩:=List.mem_map.1 hy;exact Lib.itoa_length_le x (h x hx).1 (h x hx).2)
 rw[List.length_map]at h1;exact h1
theorem U4 {sep:UInt8} {l:List Int} (h:∀ x∈l,nO x):(kK sep l).size<=22*l.length:=Ch (sep:=sep) h
theorem MV (W:World) (l:List Int) (hm:l.length<=1000):(W.alloc (.cells (fQ l).toArray 3)).ownsRow W.heap.size 3 1 (.slice (some (Qb W.heap.size 0)) l.length l.length) l.length (fQ l) :=
 ⟨by simp[fQ],.inr ⟨W.heap.size,l.length,(fQ l).toArray,rfl,lRq _,hNq W _,lRq _,by unfold maxLen;omega,by simp[fQ],by rw[List.take_of_length_le (by simp[fQ])]⟩⟩
abbrev qa (W:World):Prop:=Lib.TabBelow Tryz.prog W.heap.size W "internal/strconv.uint64pow10" .u64 Lib.pow10Tab
theorem qa.later {W W':World} (h:qa W) (hb:Below W.heap.size W W'):qa W':=fun w2 h2=>h w2 (hb.trans (h2.mono hb.size))
theorem VF (sep:UInt8) (l:List Int) (m:Nat) (W:World) (hbt:qa W) (hm:l.length=m) (h0:0<m) (h1:m<=1000) (hx:∀ x∈l,nO x) :
  Calls Tryz.prog 117 #[.string ⟨#[sep]⟩,.slice (some (Qb W.heap.size 0)) m m] (W.alloc (.cells (fQ l).toArray 3)) fun e w'=>e=.returned (.string (kK sep l))/\Below W.heap.size W w':=by
 subst hm;have hb:Below W.heap.size W (W.alloc (.cells (fQ l).toArray 3)):=(bRq _ _).alloc (lRq _) _;refine(U9 ⟨#[sep]⟩ (some (Qb W.heap.size 0)) l.length l.length l W.heap.size _ (hDq (hbt.later hb)) (hDq rfl) (by omega) h0 (hDq (MV W l h1)) (hDq hx) (hDq (by have:=Ch (sep:=sep) hx;show (joinL sep l).length<=_;omega))).mono ?_;rintro e w' ⟨rfl,h2⟩;exact⟨rfl,hb.trans (h2.mono hb.size)⟩
theorem agO (x y:Int) (W:World) (hbt:Hid (qa W)) (hx:Hid (∀ z∈[x,y],nO z)) :
  Calls Tryz.prog 114 #[.agg #[Qa x,Qa y]] W fun e w'=>e=.returned (.string (kK 32 [x,y]))/\Below W.heap.size W w':=by
 have hb1:Below W.heap.size W (W.alloc (.cells #[Qa x,Qa y] 192)):=(bRq _ _).alloc (lRq _) _;have HJ:=hDq (VF 32 [x,y] 2 (W.alloc (.cells #[Qa x,Qa y] 192)) (hbt.out.later hb1) rfl (by decide) (by decide) hx.out);rw[show (W.alloc (.cells #[Qa x,Qa y] 192)).heap.size=W.heap.size+1 by simp]at HJ;have HB1:=hDq hb1;clear hb1;go_enter Tryz.func114,Tryz.ntmps114
 go_wp2_with fail
 refine HJ.out.mono ?_;rintro e w2 ⟨rfl,hb⟩;have HB:=hDq (HB1.out.trans (hb.mono (Nat.le_succ _)));clear hb HJ HB1;simp only[];go_wp2;go_ret;exact⟨rfl,HB.out⟩
theorem agP (x0 x1 x2 x3 x4:Int) (W:World) (hbt:Hid (qa W)) (hx:Hid (∀ z∈[x0,x1,x2,x3,x4],nO z)) :
  Calls Tryz.prog 115 #[.agg #[Qa x0,Qa x1,Qa x2,Qa x3,Qa x4]] W fun e w'=>e=.returned (.string (kK 58 [x0,x1,x2,x3,x4]))/\Below W.heap.size W w':=by
 have hb1:Below W.heap.size W (W.alloc (.cells #[Qa x0,Qa x1,Qa x2,Qa x3,Qa x4] 197)):=(bRq _ _).alloc (lRq _) _;have HJ:=hDq (VF 58 [x0,x1,x2,x3,x4] 5 (W.alloc (.cells #[Qa x0,Qa x1,Qa x2,Qa x3,Qa x4] 197)) (hbt.out.later hb1) rfl (by decide) (by decide) hx.out);rw[show (W.alloc (.cells #[Qa x0,Qa x1,Qa x2,Qa x3,Qa x4] 197)).heap.size=W.heap.size+1 by simp]at HJ;have HB1:=hDq hb1;clear hb1;go_enter Tryz.func115,Tryz.ntmps115
 go_wp2_with fail
 refine HJ.out.mono ?_;rintro e w2 ⟨rfl,hb⟩;have HB:=hDq (HB1.out.trans (hb.mono (Nat.le_succ _)));clear hb HJ HB1;simp only[];go_wp2;go_ret;exact⟨rfl,HB.out⟩
def fY (f:Nat->Int):Nat->List Int
 | 0=>[f 0,f 1]
 | k+1=>fY f k++[f (2+k),f (5+k)]
theorem Ci (f:Nat->Int):∀ k,(fY f k).length=2+2*k
 | 0=>rfl
 | k+1=>by rw[fY,lAq,Ci f k];rfl
theorem UX:∃ i z,Tryz.prog.info? 3=some i/\i.zero=some z/\i.size=1/\i.bytes=8/\z.cells.size=1:=⟨_,_,rfl,rfl,rfl,rfl,rfl⟩
theorem ahw {b0:Nat} (W:World) (v:Value) (l:List Int) (x y:Int) (hr:W.ownsRow b0 3 1 v l.length (fQ l)) (hl:l.length<=1000000) (hb:b0<=W.heap.size) :
  ∃ v' W',(Builtin.append_ #[23,23] 23 #[v,.slice (some (Qb W.heap.size 0)) 2 2]).run Tryz.prog (W.alloc (.cells #[Qa x,Qa y] 3))=.ok v' W'/\W'.ownsRow b0 3 1 v' (l++[x,y]).length (fQ (l++[x,y]))/\(W.alloc (.cells #[Qa x,Qa y] 3)).grownBy W' v.ownBlock:=by
 obtain⟨i0,z0,hi,hz0,hz1,hz2,hz3⟩:=UX;have hbl:Below W.heap.size W (W.alloc (.cells #[Qa x,Qa y] 3)):=(bRq _ _).alloc (lRq _) _;have eK:(W.alloc (.cells #[Qa x,Qa y] 3)).ownsRow b0 3 1 v l.length (fQ l):=eM hr (aJ.of_below hbl (fun _=>False)) (fun _ _ h=>h);obtain⟨v4,w4,hap,hrow,hgr,_,_⟩:=run_append_own_at (P:=Tryz.prog) (w:=W.alloc (.cells #[Qa x,Qa y] 3)) b0 23 23 3 i0 z0 1 8 Tryz.underlying23 hi hz0 hz1 hz2 hz3 (by decide) v l.length (fQ l) eK (Qb W.heap.size 0) 2 2 [Qa x,Qa y] rfl (fun j u hj=>by
  cases j with
  | zero=>cases hj;exact cR _ _ 0 _ 3 _ (hNq W _)
  | succ j=>cases j with
   | zero=>cases hj;exact cR _ _ 1 _ 3 _ (hNq W _)
   | succ j=>simp at hj) (fun u hu=>by simp at hu;rcases hu with rfl | rfl <;> rfl) (by unfold maxLen;omega) (by omega) (lTq hb hbl.size)
 refine⟨v4,w4,hap,?_,hgr⟩;rw[lAq];unfold fQ at *;rw[List.map_append];exact hrow
theorem ahr (f:Nat->Int) (W:World) (hbt:Hid (qa W)) (hx:Hid (∀ z∈fY f 3,nO z)) :
  Calls Tryz.prog 68 #[.agg #[Qa (f 0),Qa (f 1),Qa (f 2),Qa (f 3),Qa (f 4),Qa (f 5),Qa (f 6),Qa (f 7)]] W fun e w'=>e=.returned (.string (kK 32 (fY f 3)))/\Below W.heap.size W w':=by
 obtain⟨R,hR⟩:∃ R:Array Value,R=#[Qa (f 0),Qa (f 1),Qa (f 2),Qa (f 3),Qa (f 4),Qa (f 5),Qa (f 6),Qa (f 7)]:=⟨_,rfl⟩;have rs:∀ k,k<3->R[2+k]?=some (Qa (f (2+k))):=fun k hk=>by
  have:k=0\/k=1\/k=2:=by omega
  rcases this with rfl | rfl | rfl <;> (rw[hR];rfl)
 have rk:∀ k,k<3->R[5+k]?=some (Qa (f (5+k))):=fun k hk=>by
  have:k=0\/k=1\/k=2:=by omega
  rcases this with rfl | rfl | rfl <;> (rw[hR];rfl)
 have hb1:Below W.heap.size W (W.alloc (.cells R 140)):=(bRq _ _).alloc (lRq _) _;have kE:=MV (W.alloc (.cells R 140)) [f 0,f 1] (by simp);have hb2:Below W.heap.size W ((W.alloc (.cells R 140)).alloc (.cells (fQ [f 0,f 1]).toArray 3)):=hb1.alloc hb1.size _;have hx2:((W.alloc (.cells R 140)).alloc (.cells (fQ [f 0,f 1]).toArray 3)).heap[W.heap.size]?=some (.cells R 140 (0,0)):=(Below.heap_alloc _ _ _ (by simp)).trans (hNq W _);rw[show (W.alloc (.cells R 140)).heap.size=W.heap.size+1 by simp]at kE;rw[hR]at kE hb2;have e2:((W.alloc (.cells #[Qa (f 0),Qa (f 1),Qa (f 2),Qa (f 3),Qa (f 4),Qa (f 5),Qa (f 6),Qa (f 7)] 140)).alloc (.cells (fQ [f 0,f 1]).toArray 3)).heap[W.heap.size]?=some (.cells R 140 (0,0)):=by rw[<- hR];exact hx2
 have fy:=hDq kE;have HB2:=hDq hb2;have yI:=hDq e2;have gB:=hDq rs;have ahx:=hDq rk;clear kE hb1 hb2 hx2 e2 rs rk hR;go_enter Tryz.func68,Tryz.ntmps68
 go_wp2_with fail
 go_loopw [3,10] (fun rv kv wr=>∃ (k:Nat),k<=3/\kv=Qa k/\wr.ownsRow (W.heap.size+1) 3 1 rv (fY f k).length (fQ (fY f k))/\Below W.heap.size W wr/\wr.heap[W.heap.size]?=some (.cells R 140 (0,0))) (fun _ kv _=>3-(intOf kv).toNat)
 case atStart=>exact⟨0,Nat.zero_le _,rfl,fy.out,HB2.out,yI.out⟩
 case round =>
  obtain⟨k,hk,rfl,hr,hb,hbx⟩:=hrel;have HR:=hDq hr;have HB:=hDq hb;have om:=hDq hbx;clear hr hb hbx fy HB2 yI;by_cases hlt:k<3
  .have aX:(k:Int)<3:=by omega
   have hlk:(fY f k).length<=1000000:=by rw[Ci];omega
   have hbw:W.heap.size+1<=wr.heap.size:=lBq om.out;have hrd:wr.drew.ownsRow (W.heap.size+1) 3 1 u3 (fY f k).length (fQ (fY f k)):=cO HR.out eO;obtain⟨v5,aC,hap,fG,mH⟩:=ahw wr.drew u3 (fY f k) (f (2+k)) (f (5+k)) hrd hlk hbw;have hbd:Below W.heap.size W wr.drew:=HB.out.trans (eO.mono HB.out.size);have ck:Hid (Below W.heap.size W aC):=hDq ((hbd.alloc (lTq (Nat.le_succ _) hbw) _).grown mH (lTq (lTq (Nat.le_succ _) hbw) (by simp)) (fun q hq=>lTq (Nat.le_succ _) (cP hrd hq).1));have GM:(wr.drew.alloc (.cells #[Qa (f (2+k)),Qa (f (5+k))] 3)).heap[W.heap.size]?=some (.cells R 140 (0,0)):=(Below.heap_alloc _ _ _ (by exact hbw)).trans om.out;have lN:Hid (aC.heap[W.heap.size]?=some (.cells R 140 (0,0))):=hDq (by
    rw[mH.block _ (lBq GM) (fun e=>?_)]
    .exact GM
    .have:=(cP hrd e.symm).1;omega)
   have ahy:=hDq GM;have bA:=hDq fG;have dJ:=hDq hap;clear hap fG mH hrd hbd GM;obtain⟨bH,val,hcl,aP⟩:=lg (fun W'=>W'.heap[W.heap.size]?=some (.cells R 140 (0,0)));have s0:∀ x0,(val x0).cell? ⟨W.heap.size,2+k,none⟩=some (Qa (f (2+k))):=fun x0=>by rw[cR _ _ _ _ _ _ (hcl x0)];exact gB.out k hlt
   have s1:∀ x0,(val x0).cell? ⟨W.heap.size,5+k,none⟩=some (Qa (f (5+k))):=fun x0=>by rw[cR _ _ _ _ _ _ (hcl x0)];exact ahx.out k hlt
   obtain⟨x0,hx0⟩:=aP wr.drew om.out;have hnx:Nonempty bH:=⟨x0⟩;have M1:=hDq (aP _ ahy.out);have p9:=hDq (aP _ lN.out);clear aP hcl;obtain⟨p,hp⟩:∃ p,f (2+k)=p:=⟨_,rfl⟩;obtain⟨q,hq⟩:∃ q,f (5+k)=q:=⟨_,rfl⟩;have nE:Hid (fY f (k+1)=fY f k++[p,q]):=hDq (by rw[fY,hp,hq]);rw[hp,hq]at bA dJ M1;rw[hp]at s0;rw[hq]at s1;clear hp hq;go_wp2;refine sJ (val:=val) [9,10] [0,1,2,3,4,5,6,7,8,9,10,11] (by kernel_rfl) (by kernel_rfl) x0 hx0 ?_;rw[hx0];clear hx0
   iterate 9 (refine jG rfl rfl (fun K hK=>?_);refine⟨by rfl,?_⟩;unfold aB;go_simp;refine hK _ ?_;clear hK K)
   refine lT rfl rfl (fun K hK=>?_);refine⟨by rfl,?_⟩;unfold aQ;go_simp;refine⟨M1.out,hK _ _ ?_⟩;clear hK K;refine lT rfl rfl (fun K hK=>?_);refine⟨by rfl,?_⟩;refine w5 _ _ 23 rfl _ _ _ rfl rfl dJ.out ?_;refine⟨p9.out,hK _ _ ?_⟩;clear hK K;refine jG rfl rfl (fun K hK=>?_);refine⟨by rfl,?_⟩;unfold aB;go_simp;refine hK _ ?_;clear hK K;refine qW ?_;go_wp2;exact⟨⟨k+1,hlt,by go_num,by rw[nE.out];exact bA.out,ck.out,lN.out⟩,by simp[intOf];omega⟩
  .have aX:¬ (k:Int)<3:=by omega
   have hk3:k=3:=by omega
   have HR3:=HR.out;rw[hk3]at HR3;have GN:(fY f 3).length=8:=Ci f 3;obtain⟨a,c,hv⟩:∃ a c,u3=.slice a 8 c:=by
    rcases HR3.2 with ⟨_,e⟩ | ⟨g,c,_,e,_⟩
    .omega
    .exact⟨_,c,by rw[e,GN]⟩
   subst hv;have HJ:=hDq (U9 ⟨#[32]⟩ a 8 c (fY f 3) (W.heap.size+1) wr (hDq (hbt.out.later HB.out)) (hDq GN) (by decide) (by decide) (hDq HR3) hx (hDq (by have:=Ch (sep:=32) hx.out;rw[GN]at this;show (joinL 32 (fY f 3)).length<=_;omega)));clear HR3 HR hk3 GN
   go_wp2_with fail
   refine HJ.out.mono ?_;rintro e w2 ⟨rfl,hb⟩;have au:=hDq (HB.out.trans (hb.mono HB.out.size));clear hb HJ HB;simp only[];go_wp2;go_ret;exact⟨rfl,au.out⟩
def U1 (x:Cv.ag):ByteArray:=kK 58 [x.id,x.ak,x.sd,x.pr,x.q]
def j4 (r f:Int) (l:List Cv.ag):List ByteArray:=kK 32 [r,f]::l.map U1
def y7 (r f:Int) (l:List Cv.ag):List UInt8:=Lib.join ((j4 r f l).map (·.data.toList)) [32]
def B6 (r f:Int) (l:List Cv.ag):ByteArray:=⟨(y7 r f l).toArray⟩
theorem U2 {x:Cv.ag} (h:Cv.ok x=true):∀ z∈[x.id,x.ak,x.sd,x.pr,x.q],nO z:=by
 simp only[Cv.ok,ah.aG,Bool.and_eq_true,decide_eq_true_eq]at h;intro z hz;unfold nO;simp only[List.mem_cons,List.not_mem_nil,or_false]at hz;rcases hz with rfl | rfl | rfl | rfl | rfl <;> omega
theorem U3 {r f:Int} (h:aZ.jv r f=true):∀ z∈[r,f],nO z:=by
 simp only[aZ.jv,ah.aG,Bool.and_eq_true,decide_eq_true_eq]at h;intro z hz;unfold nO;simp only[List.mem_cons,List.not_mem_nil,or_false]at hz;rcases hz with rfl | rfl <;> omega
theorem agL (r f:Int) {l:List Cv.ag} {k:Nat} (hk:k<l.length):j4 r f (l.take (k+1))=j4 r f (l.take k)++[U1 (Cv.nth l k)]:=by
 unfold j4 Cv.nth;rw[List.take_add_one,gE,List.getElem?_eq_getElem hk,List.map_append];rfl
theorem MP {r f:Int} {l:List Cv.ag} (hb:aZ.jv r f=true) (hl:Cv.d9 l) (hn:l.length<=60):(y7 r f l).length<=10000:=by
 have h1:=join_le (k:=110) (sep:=32) (xs:=(j4 r f l).map (·.data.toList)) (fun y hy=>by
  obtain⟨z,hz,rfl⟩:=List.mem_map.1 hy;rcases List.mem_cons.1 hz with rfl | hz
  .have:=U4 (sep:=32) (U3 hb)
   exact lTq this (by simp)
  .obtain⟨x,hx,rfl⟩:=List.mem_map.1 hz
   have:=U4 (sep:=58) (U2 (hl x hx))
   exact lTq this (by simp))
 rw[List.length_map,j4,lCq,List.length_map]at h1;exact lTq h1 (by omega)
section
variable {w W:World} {F P:Nat} {I b:Nat->Nat} {v:Nat->Value} {L:Nat->List Cv.ag} {pf n:Nat->Int} {wd h:Int}
theorem agM (i:Nat) (hi:i<3) (W:World) (H:Hid (bk w W F P I b v L pf n wd h)) (hbt:Hid (qa W)) (hall:Hid (dU L pf n wd h)) :
  Calls Tryz.prog 67 #[Qc F,Qa i] W fun e w'=>e=.returned (.string (B6 (n (i*2)) (n (i*2+1)) (L i)))/\Qd W w':=by
 have hG:=hall.out.ok.aH i hi;have uP:=hall.out.kZ i hi;have HN:=hDq (LK i hi H);unfold dP at HN;have HK:=hDq (fun W' (h':Qd W W')=>F2 i hi (H.out.later h'));have HL:=hDq (fun W' (h':Qd W W')=>vT (b i) w.heap.size (v i) (L i) W' ((H.out.later h').aH i hi) hG.len);have agN:=hDq (MP uP hG.oks hG.len);have U5:=hDq (fun W' (h':Qd W W')=>agO (n (i*2)) (n (i*2+1)) W' (hDq (hbt.out.later h')) (hDq (U3 uP)));have gI:=hDq hG.oks;have U6:=hG.len;clear hG uP hall H;generalize L i=l at *;generalize n (i*2)=r at *;generalize n (i*2+1)=az at *;go_enter Tryz.func67,Tryz.ntmps67
 go_wp2_with fail
 refine HN.out.mono ?_;rintro e w1 ⟨rfl,hb1⟩;have HB1:=hDq hb1;clear hb1 HN;simp only[]
 go_wp2_with fail
 refine(U5.out _ HB1.out).mono ?_;rintro e w2 ⟨rfl,hb2⟩;have HB2:=hDq (HB1.out.trans (hb2.mono HB1.out.size));clear hb2 HB1 U5;have au:Hid (Qd W (w2.alloc (.cells #[.string (kK 32 [r,az])] 9))):=hDq (HB2.out.alloc HB2.out.size _);have HR3:Hid ((w2.alloc (.cells #[.string (kK 32 [r,az])] 9)).ownsRow W.heap.size 9 1 (.slice (some (Qb w2.heap.size 0)) 1 1) (j4 r az (l.take 0)).length (q7 (fun x=>x) (j4 r az (l.take 0)))):=hDq ⟨rfl,.inr ⟨w2.heap.size,1,_,rfl,HB2.out.size,hNq _ _,lRq _,by unfold maxLen;omega,rfl,rfl⟩⟩;simp only[]
 go_wp2_with fail
 refine(HK.out _ au.out).mono ?_;rintro e w3 ⟨rfl,hw3⟩;subst w3;simp only[]
 go_wp2_with fail
 refine(HL.out _ au.out).mono ?_;rintro e w4 ⟨x1,rfl,hr1,hb4⟩;obtain⟨a,m,c,hm,hv⟩:∃ a m c,l.length=m/\x1=.slice a m c:=by
  rcases BR hr1 with ⟨e,e2⟩ | ⟨g,c,e,_⟩
  .exact⟨none,0,0,by rw[e2];rfl,e⟩
  .exact⟨_,_,c,rfl,e⟩
 subst hv;have HM:=hDq hm;obtain⟨bG,hbl⟩:∃ bG,(w2.alloc (.cells #[.string (kK 32 [r,az])] 9)).heap.size=bG:=⟨_,rfl⟩;have sM:=hDq hr1;rw[hbl]at sM;have bJ:=hDq (au.out.trans (hb4.mono au.out.size));have bR:=hDq (cO HR3.out hb4);have hmm:m<=60:=by omega
 clear hm hbl hr1 hb4 au HR3 HB2 HK HL U6;simp only[]
 go_wp2_with fail
 go_loopw [5,18] (fun rv kv wr=>∃ k:Nat,k<=m/\kv=Qa k/\wr.ownsRow W.heap.size 9 1 rv (j4 r az (l.take k)).length (q7 (fun x=>x) (j4 r az (l.take k)))/\Qd W wr/\wr.ownsRow bG 197 5 (.slice a m c) l.length (flat l)) (fun _ kv _=>m-(intOf kv).toNat)
 case atStart=>exact⟨0,Nat.zero_le _,rfl,bR.out,bJ.out,sM.out⟩
 case round =>
  obtain⟨k,hk,rfl,hr,hb,hq⟩:=hrel;have HR:=hDq hr;have HB:=hDq hb;have HQ:=hDq hq;clear hr hb hq bR bJ sM;by_cases hlt:k<m
  .have aX:(k:Int)<m:=by omega
   have hkl:k<l.length:=by rw[HM.out];exact hlt
   obtain⟨g,o,hg,hat⟩:∃ g o,a=some (Qb g o)/\dR wr g o l:=by
    rcases BR HQ.out with ⟨_,e2⟩ | ⟨g,c,e,h2⟩
    .rw[e2]at hkl;exact absurd hkl (by simp)
    .cases e;exact⟨g,0,rfl,h2⟩
   subst hg;obtain⟨c0,c1,c2,c3,c4⟩:=hat k hkl;have HX:=hDq (U2 (gI.out _ (Cv.mY hkl)));have HT:=hDq (agL r az hkl);obtain⟨x,hx⟩:∃ x,Cv.nth l k=x:=⟨_,rfl⟩;rw[hx]at c0 c1 c2 c3 c4 HX HT;clear hx hat;obtain⟨x0,x1,x2,x3,x4⟩:=x;simp only[]at c0 c1 c2 c3 c4 HX;have hba:Qd wr (wr.alloc (.cells #[Qa x0,Qa x1,Qa x2,Qa x3,Qa x4] 197)):=(bRq _ _).alloc (lRq _) _;have w_:=HB.out.trans (hba.mono HB.out.size);have lD:=hDq (agP x0 x1 x2 x3 x4 _ (hDq (hbt.out.later w_)) HX);have tL:=hDq hba;have ck:=hDq w_;clear hba w_;have hlk:(j4 r az (l.take k)).length<=1000000:=by rw[j4,lCq,List.length_map,lKq];omega
   go_wp2_with fail
   refine lD.out.mono ?_;rintro e aC ⟨rfl,di⟩;have fG:=cO (cO HR.out tL.out) di;have MQ:=cO (cO HQ.out tL.out) di;have B_:=ck.out.trans (di.mono ck.out.size);obtain⟨v6,ai,hap,iA,MR⟩:=U7 (fun x=>x) aC u5 (j4 r az (l.take k)) (kK 58 [x0,x1,x2,x3,x4]) fG hlk B_.size;have GF:Qd aC (aC.alloc (.cells #[.string (kK 58 [x0,x1,x2,x3,x4])] 9)):=(bRq _ _).alloc (lRq _) _;have i6:=hDq ((B_.trans (GF.mono B_.size)).grown MR (lTq B_.size GF.size) (fun q hq=>(cP fG hq).1));have agQ:Hid (ai.ownsRow bG 197 5 (.slice (some (Qb g o)) m c) l.length (flat l)):=hDq (eM (cO MQ GF) (aJ.iM MR) (fun j hj e=>by
    obtain⟨_,d1,b1⟩:=cP MQ hj;obtain⟨_,d2,b2⟩:=cP fG e.symm;rw[b1]at b2;simp at b2))
   have fH:=hDq iA;have dJ:=hDq hap;clear fG MQ B_ hap iA MR GF di lD ck tL HR HB HQ c0 c1 c2 c3 c4;simp only[]
   go_wp2_with (at_builtin;refine wpList_append_run rfl _ _ 70 rfl _ _ _ rfl rfl dJ.out ?_)
   go_roundw
   case rel=>exact⟨k+1,hlt,by go_num,by rw[HT.out];exact fH.out,i6.out,agQ.out⟩
   case measure=>simp[intOf];omega
  .have aX:¬ (k:Int)<m:=by omega
   have hkm:k=m:=by omega
   have hlen:l.take k=l:=List.take_of_length_le (by rw[HM.out];omega);have hr:=HR.out;rw[hlen]at hr;rcases hr.2 with ⟨_,e2⟩ | ⟨g2,c2,cur,e1,_,hg,hcap,_⟩
   .simp[j4]at e2
   .have hcl:∀ (j:Nat) x,(j4 r az l)[j]?=some x->wr.cell? ⟨g2,0+j,none⟩=some (.string x):=fun j x hj=>by
     have h2:=World.ownsRow.cells hr (g:=g2) (by rw[e1];rfl) j (.string x) (by simp[q7,hj]);have hp:(⟨g2,0,none⟩:Addr).add j=⟨g2,0+j,none⟩:=by unfold Addr.add;split <;> simp_all
     rw[<- hp];exact h2
    have HJ:=hDq (strings_Join g2 0 c2 (j4 r az l) ⟨#[32]⟩ wr hcl (lBq hg) (by rw[j4,lCq,List.length_map,HM.out];omega) hcap (by have:=agN.out;show (y7 r az l).length<=_;omega));subst e1;clear hr hcl hg hcap HR hlen HQ hkm;generalize (j4 r az l).length=M at *
    go_wp2_with fail
    refine HJ.out.mono ?_;rintro e ai ⟨rfl,hb6⟩;have aY:=hDq (HB.out.trans (hb6.mono HB.out.size));clear hb6 HJ HB;simp only[];go_wp2;go_ret;exact⟨rfl,aY.out⟩
end
def j5 (L:Nat->List Cv.ag) (n:Nat->Int):Nat->List UInt8
 | 0=>[]
 | i+1=>j5 L n i++(y7 (n (i*2)) (n (i*2+1)) (L i)++[10])
def nU (pf:Nat->Int):Nat->List UInt8
 | 0=>[]
 | c+1=>nU pf c++(joinL 32 (fY (fun j=>pf (c*8+j)) 3)++[10])
def UM (L:Nat->List Cv.ag) (pf n:Nat->Int):ByteArray:=⟨(j5 L n 3++nU pf 6).toArray⟩
theorem M7 {pf:Nat->Int} (h:Pu.Good pf) {c:Nat} (hc:c<6):∀ z∈fY (fun j=>pf (c*8+j)) 3,nO z:=by
 have h0:=h.cash c hc;have h1:=h.stock c 0 hc (by decide);have h2:=h.stock c 1 hc (by decide);have h3:=h.stock c 2 hc (by decide);intro z hz;unfold nO;simp only[fY,List.cons_append,List.nil_append,List.mem_cons,List.not_mem_nil,or_false,Nat.add_zero,Nat.reduceAdd]at hz;simp only[Nat.add_assoc,Nat.reduceAdd,Nat.add_zero]at h0 h1 h2 h3;rcases hz with rfl | rfl | rfl | rfl | rfl | rfl | rfl | rfl <;> omega
theorem Vz {L:Nat->List Cv.ag} {pf n:Nat->Int} {wd h:Int} (ha:dU L pf n wd h):∀ i,i<=3->(j5 L n i).length<=10001*i
 | 0,_=>Nat.zero_le _
 | i+1,hi=>by
  have h1:=Vz ha i (by omega);have h2:=MP (ha.kZ i (by omega)) (ha.ok.aH i (by omega)).oks (ha.ok.aH i (by omega)).len;rw[j5,lAq,lAq];show _+(_+1)<=_;omega
theorem VA {pf:Nat->Int} (h:Pu.Good pf):∀ c,c<=6->(nU pf c).length<=200*c
 | 0,_=>Nat.zero_le _
 | c+1,hc=>by
  have h1:=VA h c (by omega);have h2:=Ch (sep:=32) (M7 h (c:=c) (by omega));rw[Ci]at h2;rw[nU,lAq,lAq];show _+(_+1)<=_;omega
theorem M8 {T e:TypeId} {B b:Nat} {bs:List Value} {w w':World} (h:Lib.IsBuilderF T e B b bs w) (hb:Qd w w'):Lib.IsBuilderF T e B b bs w':=by
 have go:∀ p,Lib.BuilderAtF T e B b p bs w->Lib.BuilderAtF T e B b p bs w':=fun p ⟨h1,v,h2,h3,h4⟩ =>
  ⟨h1,v,dG hb h2,h3.kept (row:=none) ⟨hb.os,hb.tape,hb.output,hb.size,fun k hk _=>hb.block k hk⟩ (by cases v.ownBlock <;> simp),h4⟩
 exact h.elim (fun x=>.inl (go _ x)) (fun x=>.inr (go _ x))
theorem VB (l:List UInt8) (s:List UInt8):Lib.byteCells l++Lib.strCells (⟨s.toArray⟩++⟨#[10]⟩)=Lib.byteCells (l++(s++[10])):=by
 simp[Lib.byteCells,Lib.strCells,ByteArray.data_append]
section
variable {w W:World} {B:bP} {v:Nat->Value} {wd h seed:Int} {S:af.St}
theorem MJ (W:World) (H:Hid (lu w W B v wd h seed S)) (hbt:Hid (qa W)) (hall:Hid (dU S.L S.pf S.n wd h)) :
  Calls Tryz.prog 30 #[Qc B.V] W fun e w'=>e=.returned (.string (UM S.L S.pf S.n))/\Qd W w':=by
 have mB:=hDq (M9 W H.out);have Cj:=hDq H.out.fl;obtain⟨L,hL⟩:∃ L,S.L=L:=⟨_,rfl⟩;obtain⟨pf,Bl⟩:∃ pf,S.pf=pf:=⟨_,rfl⟩;obtain⟨n,hn⟩:∃ n,S.n=n:=⟨_,rfl⟩;rw[hL,Bl,hn]at Cj hall ⊢;clear hL Bl hn H;have uq:=hDq (fun i (hi:i<3) W' (h':Qd W W')=>agM i hi W' (hDq (Cj.out.later h')) (hDq (hbt.out.later h')) hall);have M_:=hDq (fun W' (h':Qd W W')=>LJ (hDq (Cj.out.later h')));have ahp:=hDq (fun (c:Nat) (_:c<6) W' (h':Qd W W')=>Na B.P (c:Int) pf W' (hDq (Cj.out.later h').cQ));have ahq:=hDq (fun c (hc:c<6) W' (h':Qd W W')=>ahr (fun j=>pf (c*8+j)) W' (hDq (hbt.out.later h')) (hDq (M7 hall.out.ok.good hc)));have ahs:=hDq (fun i (hi:i<3)=>MP (hall.out.kZ i hi) (hall.out.ok.aH i hi).oks (hall.out.ok.aH i hi).len);have tZ:=hDq (Vz hall.out);have aht:=hDq (VA hall.out.ok.good);have Gw:=hDq (fun c (hc:c<6)=>(by have h2:=Ch (sep:=32) (M7 hall.out.ok.good hc);rw[Ci]at h2;exact h2:(joinL 32 (fY (fun j=>pf (c*8+j)) 3)).length<=22*8));have bD:Hid (Qd W (W.alloc (.cells #[.pointer none,.slice none 0 0] 133))):=hDq ((bRq _ _).alloc (lRq _) _);have xU:Hid (Lib.IsBuilderF 133 5 W.heap.size W.heap.size (Lib.byteCells (j5 L n 0)) (W.alloc (.cells #[.pointer none,.slice none 0 0] 133))):=hDq (.inl ⟨lRq _,_,hNq _ _,World.ownsRowF_nil _ _ _ _,by simp[Value.ownBlock]⟩);clear Cj hall;go_enter Tryz.func30,Tryz.ntmps30
 go_wp2_with fail
 refine mB.out.mono ?_;rintro e w1 ⟨rfl,dz⟩;subst w1;simp only[]
 go_wp2_with fail
 refine mB.out.mono ?_;rintro e w1 ⟨rfl,dz⟩;subst w1;clear mB;simp only[]
 go_wp2_with fail
 go_loopw [16] (fun kv wr=>∃ i:Nat,i<=3/\kv=Qa i/\Lib.IsBuilderF 133 5 W.heap.size W.heap.size (Lib.byteCells (j5 L n i)) wr/\Qd W wr) (fun kv _=>3-(intOf kv).toNat)
 case atStart=>exact⟨0,Nat.zero_le _,rfl,xU.out,bD.out⟩
 case round =>
  obtain⟨i,bQ,rfl,hu,hb⟩:=hrel;have HU:=hDq hu;have HB:=hDq hb;clear hu hb xU bD;by_cases hi:i<3
  .have r7:(i:Int)<3:=by omega
   have GL:=ahs.out i hi;have tY:=tZ.out i bQ;have hsz:¬ 9223372036854775807<(B6 (n (i*2)) (n (i*2+1)) (L i)).size+1:=by
    show ¬ 9223372036854775807<(y7 (n (i*2)) (n (i*2+1)) (L i)).length+1;omega
   have HI:=hDq (uq.out i hi wr HB.out);have nE:Hid (Lib.byteCells (j5 L n i)++Lib.strCells (B6 (n (i*2)) (n (i*2+1)) (L i)++⟨#[10]⟩)=Lib.byteCells (j5 L n (i+1))):=hDq (VB _ _);have Ck:Hid (∀ W',Lib.IsBuilderF 133 5 W.heap.size W.heap.size (Lib.byteCells (j5 L n i)) W'->W.heap.size<=W'.heap.size->_):=hDq (fun W' h1 h2=>Builder_WriteString_k W.heap.size W.heap.size (Lib.byteCells (j5 L n i)) (B6 (n (i*2)) (n (i*2+1)) (L i)++⟨#[10]⟩) W' h1 (by rw[Lib.byteCells_length,ByteArray.size_append];show _+((y7 (n (i*2)) (n (i*2+1)) (L i)).length+1)<=_;omega) h2);generalize B6 (n (i*2)) (n (i*2+1)) (L i)=T at *;clear GL tY
   go_wp2_with fail
   refine HI.out.mono ?_;rintro e w2 ⟨rfl,hb2⟩;have HB2:=hDq (HB.out.trans (hb2.mono HB.out.size));have HW2:=hDq (Ck.out w2 (M8 HU.out hb2) HB2.out.size);clear hb2 HI HU HB Ck;simp only[]
   go_wp2_with fail
   refine HW2.out.mono ?_;rintro e w3 ⟨rfl,hu3,hb3,_⟩;rw[nE.out]at hu3;have ahu:=hDq (show Lib.IsBuilderF 133 5 W.heap.size W.heap.size (Lib.byteCells (j5 L n (i+1))) w3 from .inr hu3);have au:=hDq (HB2.out.trans hb3);clear hu3 hb3 HW2 HB2 nE;simp only[];go_wp2;exact⟨⟨i+1,hi,by go_num,ahu.out,au.out⟩,by simp[intOf];omega⟩
  .have r7:¬ (i:Int)<3:=by omega
   have AA:i=3:=by omega
   rw[AA]at HU;clear AA
   go_wp2_with fail
   go_loopw [25] (fun kv wr=>∃ c:Nat,c<=6/\kv=Qa c/\Lib.IsBuilderF 133 5 W.heap.size W.heap.size (Lib.byteCells (j5 L n 3++nU pf c)) wr/\Qd W wr) (fun kv _=>6-(intOf kv).toNat)
   case atStart=>exact⟨0,Nat.zero_le _,rfl,by rw[nU,aNq];exact HU.out,HB.out⟩
   case round =>
    obtain⟨c,gO,rfl,hu,hb⟩:=hrel;have Cm:=hDq hu;have lX:=hDq hb;clear hu hb HU HB;by_cases hc:c<6
    .have hci:(c:Int)<6:=by omega
     have GL:=Gw.out c hc;have tY:=aht.out c gO;have bQ:=tZ.out 3 (lRq _);have VC:=hDq (M_.out wr lX.out);have HO:=hDq (ahp.out c hc wr lX.out);rw[Nb pf hc]at HO;unfold qf at HO;have HH:Hid (∀ W',Qd W W'->Calls Tryz.prog 68 #[.agg #[Qa (pf (c*8)),Qa (pf (c*8+1)),Qa (pf (c*8+2)),Qa (pf (c*8+3)),Qa (pf (c*8+4)),Qa (pf (c*8+5)),Qa (pf (c*8+6)),Qa (pf (c*8+7))]] W' fun e w'=>e=.returned (.string (kK 32 (fY (fun j=>pf (c*8+j)) 3)))/\Qd W' w'):=hDq (fun W' h'=>ahq.out c hc W' h');have hsz:¬ 9223372036854775807<(kK 32 (fY (fun j=>pf (c*8+j)) 3)).size+1:=by
      show ¬ 9223372036854775807<(joinL 32 (fY (fun j=>pf (c*8+j)) 3)).length+1;omega
     have nE:Hid (Lib.byteCells (j5 L n 3++nU pf c)++Lib.strCells (kK 32 (fY (fun j=>pf (c*8+j)) 3)++⟨#[10]⟩)=Lib.byteCells (j5 L n 3++nU pf (c+1))):=hDq (by rw[nU,<- aAq];exact VB _ _);have Ck:Hid (∀ W',Lib.IsBuilderF 133 5 W.heap.size W.heap.size (Lib.byteCells (j5 L n 3++nU pf c)) W'->W.heap.size<=W'.heap.size->_):=hDq (fun W' h1 h2=>Builder_WriteString_k W.heap.size W.heap.size (Lib.byteCells (j5 L n 3++nU pf c)) (kK 32 (fY (fun j=>pf (c*8+j)) 3)++⟨#[10]⟩) W' h1 (by rw[Lib.byteCells_length,lAq,ByteArray.size_append];show _+((joinL 32 (fY (fun j=>pf (c*8+j)) 3)).length+1)<=_;omega) h2);generalize kK 32 (fY (fun j=>pf (c*8+j)) 3)=T at *;clear GL tY bQ
     go_wp2_with fail
     refine VC.out.mono ?_;rintro e w2 ⟨rfl,hw2⟩;subst w2;clear VC;simp only[]
     go_wp2_with fail
     refine HO.out.mono ?_;rintro e w2 ⟨rfl,hb2⟩;have HB2:=hDq (lX.out.trans (hb2.mono lX.out.size));have VD:=hDq (M8 Cm.out hb2);clear hb2 HO Cm lX;simp only[]
     go_wp2_with fail
     refine(HH.out w2 HB2.out).mono ?_;rintro e w3 ⟨rfl,hb3⟩;have au:=hDq (HB2.out.trans (hb3.mono HB2.out.size));have HW3:=hDq (Ck.out w3 (M8 VD.out hb3) au.out.size);clear hb3 HH VD HB2 Ck;simp only[]
     go_wp2_with fail
     refine HW3.out.mono ?_;rintro e w4 ⟨rfl,Nc,hb4,_⟩;rw[nE.out]at Nc;have ahv:=hDq (show Lib.IsBuilderF 133 5 W.heap.size W.heap.size (Lib.byteCells (j5 L n 3++nU pf (c+1))) w4 from .inr Nc);have bJ:=hDq (au.out.trans hb4);clear Nc hb4 HW3 au nE;simp only[];go_wp2;exact⟨⟨c+1,hc,by go_num,ahv.out,bJ.out⟩,by simp[intOf];omega⟩
    .have hci:¬ (c:Int)<6:=by omega
     have y_:c=6:=by omega
     rw[y_]at Cm;clear y_;have HS:=hDq (Builder_String_any_k W.heap.size W.heap.size (j5 L n 3++nU pf 6) wr Cm.out lX.out.size)
     go_wp2_with fail
     refine HS.out.mono ?_;rintro e aC ⟨rfl,_,di,_⟩;have ck:=hDq (lX.out.trans di);clear di HS lX Cm;simp only[];go_wp2;go_ret;exact⟨rfl,ck.out⟩
end
theorem sum_nil (W:World):Calls Tryz.prog 30 #[.pointer none] W fun e w'=>e=.returned (.string ⟨#[]⟩)/\w'=W:=by
 go_enter Tryz.func30,Tryz.ntmps30;go_wp2;go_ret;exact⟨rfl,rfl⟩
end
end Go.Proofs.YtjolccidheflpaaGreatDoor
