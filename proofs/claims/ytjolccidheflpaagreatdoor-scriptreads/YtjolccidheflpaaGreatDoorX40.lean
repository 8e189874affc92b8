/- The library: strings.Join, Builder.String, strconv.Itoa, laid at this program. -/
import Derived.Test.YtjolccidheflpaaGreatDoorX37
import Derived.Shelf.Strings.OnBuilder
import Derived.Shelf.Strings.BuilderK
import Derived.Test.YtjolccidheflpaaGreatDoorX16
namespace Go.Proofs.YtjolccidheflpaaGreatDoor
open Go.Proofs.Tryz
set_option maxHeartbeats 8000000
set_option maxRecDepth 100000
section
open Go.Shelf
def W9:Go.Shelf.Ren:=⟨fun | 156=>116 | 165=>174 | 166=>66 | 169=>71 | 240=>113 | 241=>210 | 276=>173 | 277=>238 | n=>n,fun | 31=>70 | 9=>9 | 3=>3 | 4=>4 | 0=>0 | 20=>20 | 72=>133 | 76=>134 | 70=>131 | 37=>115 | 75=>26 | 127=>214 | 164=>250 | 5=>5 | 80=>124 | n=>n,fun | n=>n⟩
theorem ajk:Go.Proofs.Lays.n156 prog W9:=by constructor <;> first | kernel_rfl | (intro _;kernel_rfl) | (constructor <;> first | kernel_rfl | (intro _;kernel_rfl) | (constructor <;> first | kernel_rfl | (intro _;kernel_rfl)))
theorem ajl:Builder.Extra prog W9:={
 sizeBuilder:=by kernel_rfl
 liesBuilder:=by kernel_rfl
 t5:=underlying5
 a5:=isAgg5
 z5:=sizeOf5
 v5:=zeroValue5
 infoByte:=by kernel_rfl
 cellsByte:=by kernel_rfl
 sizeByte:=by kernel_rfl
 neB5:=by decide }
open Go.RowKit in
theorem strings_Join(aO o c:Nat)(xs:List ByteArray)(sep:ByteArray)(w:World)(hcells:∀(j:Nat) x,xs[j]?=some x->w.cell? ⟨aO,o+j,none⟩=some (.string x))(hbk:aO<w.heap.size)(hN:xs.length<=140737488355328)(hcap:xs.length<=c)(hlen:(Lib.join (xs.map (·.data.toList)) sep.data.toList).length<=140737488355328):
  Calls prog 116 #[.slice (some (O aO o)) xs.length c,.string sep] w fun e w'=>e=.returned (.string ⟨(Lib.join (xs.map (·.data.toList)) sep.data.toList).toArray⟩)/\U w w':=Any.strings_Join ajk ajl aO o c xs sep w hcells hbk hN hcap hlen
end
section
open Go.RowKit
theorem Ai:∃i z,prog.info? 9=some i/\i.zero=some z/\i.size=1/\i.bytes=16/\z.cells.size=1:=⟨_,_,rfl,rfl,rfl,rfl,rfl⟩
def se(n:Int):ByteArray:=⟨(Lib.itoa n).toArray⟩
def f_{α:Type}(g:α->ByteArray)(l:List α):List Value:=l.map fun x=>Value.string (g x)
theorem Aj{α:Type}(gg:α->ByteArray){b0:Nat}(W:World)(v:Value)(l:List α)(x:α)(hr:W.ownsRow b0 9 1 v l.length (f_ gg l))(hl:l.length<=1000000)(hb:b0<=W.heap.size):
  ∃v' W',(Builtin.append_ #[70,70] 70 #[v,.slice (some (O W.heap.size 0)) 1 1]).run prog (W.alloc (.cells #[.string (gg x)] 9))=.ok v' W'/\W'.ownsRow b0 9 1 v' (l++[x]).length (f_ gg (l++[x]))/\(W.alloc (.cells #[.string (gg x)] 9)).grownBy W' v.ownBlock:=by
 obtain⟨i0,z0,hi,hz0,hz1,hz2,hz3⟩:=Ai;have hbl:U W (W.alloc (.cells #[.string (gg x)] 9)):=aj;have dZ:(W.alloc (.cells #[.string (gg x)] 9)).ownsRow b0 9 1 v l.length (f_ gg l):=eV hr (aL.of_below hbl (fun _=>False)) (fun _ _ h=>h);obtain⟨v4,w4,hap,hrow,hgr,_,_⟩:=run_append_own_at (P:=prog) (w:=W.alloc (.cells #[.string (gg x)] 9)) b0 70 70 9 i0 z0 1 16 underlying70 hi hz0 hz1 hz2 hz3 (by decide) v l.length (f_ gg l) dZ (O W.heap.size 0) 1 1 [.string (gg x)] rfl (fun j u hj=>by
  cases j with
  | zero=>cases hj;exact cR _ _ 0 _ 9 _ (hNq W _)
  | succ j=>simp at hj) (fun u hu=>by simp at hu;subst hu;rfl) (by unfold maxLen;omega) (by omega) (lTq hb hbl.size)
 refine⟨v4,w4,hap,?_,hgr⟩;rw[lAq];unfold f_ at *;rw[List.map_append];exact hrow
theorem WG(n:Int)(h0:-9223372036854775808<=n)(h1:n<=9223372036854775807)(w:World)(htab:Lib.TabIs prog w "internal/strconv.uint64pow10" .u64 Lib.pow10Tab):
  Calls prog 145 #[Z n] w fun e w'=>e=.returned (.string (se n))/\U w w':=by
 refine(strconv_Itoa n h0 h1 w htab).mono ?_;rintro e w' ⟨rfl,k,os,rfl⟩;have hd:U w (w.drewN k):=⟨rfl,rfl,rfl,E _,fun _ _=>rfl⟩;refine⟨rfl,hd.trans ⟨rfl,rfl,rfl,by simp[Go.Sort.grow],fun j hj=>?_⟩⟩;show ((w.drewN k).heap++os)[j]?=(w.drewN k).heap[j]?;exact Array.getElem?_append_left (Nat.lt_of_lt_of_le hj hd.size)
theorem WH(sep:ByteArray)(a:Option Addr)(m cap:Nat)(l:List Int)(bG:Nat)(W:World)(hbt:Hid (Lib.TabBelow prog W.heap.size W "internal/strconv.uint64pow10" .u64 Lib.pow10Tab))(hl:Hid (l.length=m))(hm:m<=100000)(lZ:0<m)(hrow:Hid (W.ownsRow bG 3 1 (.slice a m cap) l.length (dF l)))(hx:Hid (∀x∈l,-9223372036854775808<=x/\x<=9223372036854775807))(mg:Hid ((Lib.join (l.map Lib.itoa) sep.data.toList).length<=140737488355328)):
  Calls prog 117 #[.string sep,.slice a m cap] W fun e w'=>e=.returned (.string ⟨(Lib.join (l.map Lib.itoa) sep.data.toList).toArray⟩)/\U W w':=by
 obtain⟨i5,z,hi,hz0,hz1,hz2,hz3⟩:=Ai;obtain⟨M,hM⟩:∃M,M=madeCells z.cells ((m:Int).toNat*i5.size):=⟨_,rfl⟩;have nB:M.size=m:=by rw[hM,size_madeCells,hz1];simp
 have ay:∀W:World,(Instr.makeSlice 70 (Z 0) (Z (m:Int))).run prog W=.ok (.slice (some (O W.heap.size 0)) 0 m) (W.alloc (.cells M 9)):=fun W=>by
  have h:=run_make (P:=prog) W 70 9 i5 z underlying70 hi hz0 .i64 .i64 (0:Int) (m:Int) (by omega) (by omega) (by rw[hz2];omega) (by omega);rw[<- hM]at h;simpa using h
 have gi:Hid ((W.alloc (.cells M 9)).ownsRow W.heap.size 9 1 (.slice (some (O W.heap.size 0)) 0 m) 0 []):=World.ownsRow_made W M m (E _) (by unfold maxLen;omega) (by omega);have cG:Hid (U W (W.alloc (.cells M 9))):=aj;clear hM nB hi hz0 hz1 hz2 hz3;go_enter func117,ntmps117
 go_wp2_with fail
 go_loopw [5,13] (fun rv kv wr=>∃(k:Nat),k<=m/\kv=Z k/\wr.ownsRow W.heap.size 9 1 rv (l.take k).length (f_ se (l.take k))/\U W wr) (fun _ kv _=>m-(intOf kv).toNat)
 case atStart=>exact⟨0,Nat.zero_le _,rfl,gi,cG⟩
 case round =>
  obtain⟨k,hk,rfl,hr,hb⟩:=hrel;have HR:=Y hr;have HB:=Y hb;clear hr hb ay;by_cases hlt:k<m
  .have aT:(k:Int)<m:=by omega
   obtain⟨x,hxk⟩:∃x,l[k]?=some x:=⟨_,List.getElem?_eq_getElem (by rw[hl.out];exact hlt)⟩;have HT:=Y (show l.take (k+1)=l.take k++[x] by rw[List.take_add_one,hxk];rfl);have l4:=eV hrow (aL.of_below HB (fun _=>False)) (fun _ _ h=>h);obtain⟨g,rfl,hc⟩:=WI l4 hxk;have j7:=hx.out x (List.mem_of_getElem? hxk);have HI:=Y (WG x j7.1 j7.2 wr (hbt wr HB));have hlk:(l.take k).length<=1000000:=by rw[lKq];omega
   clear l4 hxk
   go_wp2_with fail
   refine HI.mono ?_;rintro e w2 ⟨rfl,hb2⟩;have hr2:=eV HR (aL.of_below hb2 (fun _=>False)) (fun _ _ h=>h);have iW:=ar HB hb2;obtain⟨v5,aI,hap,fI,nN⟩:=Aj se w2 u5 (l.take k) x hr2 hlk iW.size;have cr:=Y ((iW.alloc iW.size (.cells #[.string (se x)] 9)).grown nN (lTq iW.size ((bRq w2.heap.size w2).alloc (E _) _).size) (fun q hq=>(cB hr2 hq).1));have bE:=Y fI;have cW:=Y hap;clear hr2 iW hap fI nN hb2;simp only[]
   go_wp2_with (at_builtin;refine wpList_append_run rfl _ _ 70 rfl _ _ _ rfl rfl cW ?_)
   go_roundw
   case rel=>exact⟨k+1,hlt,by go_num,by rw[HT.out];exact bE,cr⟩
   case measure=>simp[intOf];omega
  .have aT:¬ (k:Int)<m:=by omega
   obtain rfl:k=m:=by omega
   have hlen:l.take k=l:=List.take_of_length_le (by rw[hl.out];exact E _);have hr:=HR.out;rw[hlen]at hr;have hmm:(l.map se).map (·.data.toList)=l.map Lib.itoa:=by rw[List.map_map];rfl
   rcases hr.2 with ⟨_,e2⟩ | ⟨g2,c2,cur,e1,_,hg,hcap,_⟩
   .have:=hl.out;omega
   .have hcl:∀(j:Nat) x,(l.map se)[j]?=some x->wr.cell? ⟨g2,0+j,none⟩=some (.string x):=fun j x hj=>by
     have h2:=World.ownsRow.cells hr (g:=g2) (by rw[e1];rfl) j (.string x) (by
      rw[List.getElem?_map]at hj;obtain⟨y,hy,rfl⟩:=Option.map_eq_some_iff.1 hj;simp[f_,hy])
     have hp:(⟨g2,0,none⟩:Addr).add j=⟨g2,0+j,none⟩:=by unfold Addr.add;split <;> simp_all
     rw[<- hp];exact h2
    have HJ:=Y (strings_Join g2 0 c2 (l.map se) sep wr hcl (lBq hg) (by rw[List.length_map,hl.out];omega) (by rw[List.length_map];exact hcap) (by rw[hmm];exact mg));rw[hmm,List.length_map]at HJ;subst e1;clear hr hcl hg hcap hmm hlen
    go_wp2_with fail
    refine HJ.mono ?_;rintro e aA ⟨rfl,hb6⟩;have bk:=Y (ar HB hb6);clear hb6;simp only[];go_wp2;go_ret;exact⟨rfl,bk⟩
def eB(x:Int):Prop:=-9223372036854775808<=x/\x<=9223372036854775807
def joinL(sep:UInt8)(l:List Int):List UInt8:=Lib.join (l.map Lib.itoa) [sep]
def jZ(sep:UInt8)(l:List Int):ByteArray:=⟨(joinL sep l).toArray⟩
theorem W_(k:Nat):∀xs:List (List UInt8),(∀x∈xs,x.length<=k)->Lib.lens xs<=k*xs.length
 | [],_=>Nat.zero_le _
 | x::r,h=>by
  have h1:=W_ k r (fun y hy=>h y (mOq _ hy));have h2:=h x mSq;have e:Lib.lens (x::r)=x.length+Lib.lens r:=by simp[Lib.lens]
  rw[e,lCq,Nat.mul_add,Nat.mul_one];omega
theorem join_le{k:Nat}{sep:UInt8}:∀{xs:List (List UInt8)},(∀x∈xs,x.length<=k)->(Lib.join xs [sep]).length<=(k+1)*xs.length
 | [],_=>by simp[Lib.join_nil]
 | x::r,h=>by
  have h1:=W_ k r (fun y hy=>h y (mOq _ hy));have h2:=h x mSq;have e:(k+1)*(x::r).length=k*r.length+r.length+k+1:=by rw[lCq,Nat.mul_add,Nat.add_mul];omega
  rw[Lib.join_cons,lAq,Lib.joinTail_length,e,List.length_singleton];omega
theorem NH{sep:UInt8}{l:List Int}(h:∀x∈l,eB x):(joinL sep l).length<=22*l.length:=by
 have h1:=join_le (k:=21) (sep:=sep) (xs:=l.map Lib.itoa) (fun y hy=>by
  obtain⟨x,hx,rfl⟩:=List.mem_map.1 hy;exact Lib.itoa_length_le x (h x hx).1 (h x hx).2)
 rw[List.length_map]at h1;exact h1
theorem Dt{sep:UInt8}{l:List Int}(h:∀x∈l,eB x):(jZ sep l).size<=22*l.length:=NH (sep:=sep) h
theorem Xa(W:World)(l:List Int)(hm:l.length<=1000):(W.alloc (.cells (dF l).toArray 3)).ownsRow W.heap.size 3 1 (.slice (some (O W.heap.size 0)) l.length l.length) l.length (dF l) :=
 ⟨by simp[dF],.inr ⟨W.heap.size,l.length,(dF l).toArray,rfl,E _,hNq W _,E _,by unfold maxLen;omega,by simp[dF],by rw[List.take_of_length_le (by simp[dF])]⟩⟩
abbrev iF(W:World):Prop:=Lib.TabBelow prog W.heap.size W "internal/strconv.uint64pow10" .u64 Lib.pow10Tab
theorem iF.later{W W':World}(h:iF W)(hb:Below W.heap.size W W'):iF W':=fun w2 h2=>h w2 (ar hb h2)
theorem G3(sep:UInt8)(l:List Int)(m:Nat)(W:World)(hbt:iF W)(hm:l.length=m)(h0:0<m)(h1:m<=1000)(hx:∀x∈l,eB x):
  Calls prog 117 #[.string ⟨#[sep]⟩,.slice (some (O W.heap.size 0)) m m] (W.alloc (.cells (dF l).toArray 3)) fun e w'=>e=.returned (.string (jZ sep l))/\Below W.heap.size W w':=by
 subst hm;have hb:Below W.heap.size W (W.alloc (.cells (dF l).toArray 3)):=aj;refine(WH ⟨#[sep]⟩ (some (O W.heap.size 0)) l.length l.length l W.heap.size _ (Y (hbt.later hb)) (Y rfl) (by omega) h0 (Y (Xa W l h1)) (Y hx) (Y (by have:=NH (sep:=sep) hx;show (joinL sep l).length<=_;omega))).mono ?_;rintro e w' ⟨rfl,h2⟩;exact⟨rfl,ar hb h2⟩
theorem ajo(x y:Int)(W:World)(hbt:Hid (iF W))(hx:Hid (∀z∈[x,y],eB z)):
  Calls prog 114 #[.agg #[Z x,Z y]] W fun e w'=>e=.returned (.string (jZ 32 [x,y]))/\Below W.heap.size W w':=by
 have hb1:Below W.heap.size W (W.alloc (.cells #[Z x,Z y] 192)):=aj;have HJ:=Y (G3 32 [x,y] 2 (W.alloc (.cells #[Z x,Z y] 192)) (hbt.later hb1) rfl (by decide) (by decide) hx);rw[show (W.alloc (.cells #[Z x,Z y] 192)).heap.size=W.heap.size+1 by simp]at HJ;have HB1:=Y hb1;clear hb1;go_enter func114,ntmps114
 go_wp2_with fail
 refine HJ.mono ?_;rintro e w2 ⟨rfl,hb⟩;have HB:=Y (HB1.trans (hb.mono (Nat.le_succ _)));clear hb;simp only[];go_wp2;go_ret;exact⟨rfl,HB⟩
theorem ajp(x0 x1 x2 x3 x4:Int)(W:World)(hbt:Hid (iF W))(hx:Hid (∀z∈[x0,x1,x2,x3,x4],eB z)):
  Calls prog 115 #[.agg #[Z x0,Z x1,Z x2,Z x3,Z x4]] W fun e w'=>e=.returned (.string (jZ 58 [x0,x1,x2,x3,x4]))/\Below W.heap.size W w':=by
 have hb1:Below W.heap.size W (W.alloc (.cells #[Z x0,Z x1,Z x2,Z x3,Z x4] 197)):=aj;have HJ:=Y (G3 58 [x0,x1,x2,x3,x4] 5 (W.alloc (.cells #[Z x0,Z x1,Z x2,Z x3,Z x4] 197)) (hbt.later hb1) rfl (by decide) (by decide) hx);rw[show (W.alloc (.cells #[Z x0,Z x1,Z x2,Z x3,Z x4] 197)).heap.size=W.heap.size+1 by simp]at HJ;have HB1:=Y hb1;clear hb1;go_enter func115,ntmps115
 go_wp2_with fail
 refine HJ.mono ?_;rintro e w2 ⟨rfl,hb⟩;have HB:=Y (HB1.trans (hb.mono (Nat.le_succ _)));clear hb;simp only[];go_wp2;go_ret;exact⟨rfl,HB⟩
def jc(f:Nat->Int):Nat->List Int
 | 0=>[f 0,f 1]
 | k+1=>jc f k++[f (2+k),f (5+k)]
theorem NI(f:Nat->Int):∀k,(jc f k).length=2+2*k
 | 0=>rfl
 | k+1=>by rw[jc,lAq,NI f k];rfl
theorem NJ:∃i z,prog.info? 3=some i/\i.zero=some z/\i.size=1/\i.bytes=8/\z.cells.size=1:=⟨_,_,rfl,rfl,rfl,rfl,rfl⟩
theorem ajq{b0:Nat}(W:World)(v:Value)(l:List Int)(x y:Int)(hr:W.ownsRow b0 3 1 v l.length (dF l))(hl:l.length<=1000000)(hb:b0<=W.heap.size):
  ∃v' W',(Builtin.append_ #[23,23] 23 #[v,.slice (some (O W.heap.size 0)) 2 2]).run prog (W.alloc (.cells #[Z x,Z y] 3))=.ok v' W'/\W'.ownsRow b0 3 1 v' (l++[x,y]).length (dF (l++[x,y]))/\(W.alloc (.cells #[Z x,Z y] 3)).grownBy W' v.ownBlock:=by
 obtain⟨i0,z0,hi,hz0,hz1,hz2,hz3⟩:=NJ;have hbl:Below W.heap.size W (W.alloc (.cells #[Z x,Z y] 3)):=aj;have dZ:(W.alloc (.cells #[Z x,Z y] 3)).ownsRow b0 3 1 v l.length (dF l):=eV hr (aL.of_below hbl (fun _=>False)) (fun _ _ h=>h);obtain⟨v4,w4,hap,hrow,hgr,_,_⟩:=run_append_own_at (P:=prog) (w:=W.alloc (.cells #[Z x,Z y] 3)) b0 23 23 3 i0 z0 1 8 underlying23 hi hz0 hz1 hz2 hz3 (by decide) v l.length (dF l) dZ (O W.heap.size 0) 2 2 [Z x,Z y] rfl (fun j u hj=>by
  cases j with
  | zero=>cases hj;exact cR _ _ 0 _ 3 _ (hNq W _)
  | succ j=>cases j with
   | zero=>cases hj;exact cR _ _ 1 _ 3 _ (hNq W _)
   | succ j=>simp at hj) (fun u hu=>by simp at hu;rcases hu with rfl | rfl <;> rfl) (by unfold maxLen;omega) (by omega) (lTq hb hbl.size)
 refine⟨v4,w4,hap,?_,hgr⟩;rw[lAq];unfold dF at *;rw[List.map_append];exact hrow
theorem ajr(f:Nat->Int)(W:World)(hbt:Hid (iF W))(hx:Hid (∀z∈jc f 3,eB z)):
  Calls prog 68 #[.agg #[Z (f 0),Z (f 1),Z (f 2),Z (f 3),Z (f 4),Z (f 5),Z (f 6),Z (f 7)]] W fun e w'=>e=.returned (.string (jZ 32 (jc f 3)))/\Below W.heap.size W w':=by
 obtain⟨R,hR⟩:∃R:Array Value,R=#[Z (f 0),Z (f 1),Z (f 2),Z (f 3),Z (f 4),Z (f 5),Z (f 6),Z (f 7)]:=⟨_,rfl⟩;have rs:∀k,k<3->R[2+k]?=some (Z (f (2+k))):=fun k hk=>by
  have:k=0\/k=1\/k=2:=by omega
  rcases this with rfl | rfl | rfl <;> (rw[hR];rfl)
 have rk:∀k,k<3->R[5+k]?=some (Z (f (5+k))):=fun k hk=>by
  have:k=0\/k=1\/k=2:=by omega
  rcases this with rfl | rfl | rfl <;> (rw[hR];rfl)
 have hb1:Below W.heap.size W (W.alloc (.cells R 140)):=aj;have l4:=Xa (W.alloc (.cells R 140)) [f 0,f 1] (by simp);have hb2:Below W.heap.size W ((W.alloc (.cells R 140)).alloc (.cells (dF [f 0,f 1]).toArray 3)):=hb1.alloc hb1.size _;have hx2:((W.alloc (.cells R 140)).alloc (.cells (dF [f 0,f 1]).toArray 3)).heap[W.heap.size]?=some (.cells R 140 (0,0)):=(Below.heap_alloc _ _ _ (by simp)).trans (hNq W _);rw[show (W.alloc (.cells R 140)).heap.size=W.heap.size+1 by simp]at l4;rw[hR]at l4 hb2;have e2:((W.alloc (.cells #[Z (f 0),Z (f 1),Z (f 2),Z (f 3),Z (f 4),Z (f 5),Z (f 6),Z (f 7)] 140)).alloc (.cells (dF [f 0,f 1]).toArray 3)).heap[W.heap.size]?=some (.cells R 140 (0,0)):=by rw[<- hR];exact hx2
 have gi:=Y l4;have HB2:=Y hb2;have tH:=Y e2;have jC:=Y rs;have ajs:=Y rk;clear l4 hb1 hb2 hx2 e2 rs rk hR;go_enter func68,ntmps68
 go_wp2_with fail
 go_loopw [3,10] (fun rv kv wr=>∃(k:Nat),k<=3/\kv=Z k/\wr.ownsRow (W.heap.size+1) 3 1 rv (jc f k).length (dF (jc f k))/\Below W.heap.size W wr/\wr.heap[W.heap.size]?=some (.cells R 140 (0,0))) (fun _ kv _=>3-(intOf kv).toNat)
 case atStart=>exact⟨0,Nat.zero_le _,rfl,gi,HB2,tH⟩
 case round =>
  obtain⟨k,hk,rfl,hr,hb,hbx⟩:=hrel;have HR:=Y hr;have HB:=Y hb;have ow:=Y hbx;clear hr hb hbx;by_cases hlt:k<3
  .have aT:(k:Int)<3:=by omega
   have hlk:(jc f k).length<=1000000:=by rw[NI];omega
   have hbw:W.heap.size+1<=wr.heap.size:=lBq ow;have hrd:wr.drew.ownsRow (W.heap.size+1) 3 1 u3 (jc f k).length (dF (jc f k)):=dh HR cw;obtain⟨v5,aI,hap,fI,nN⟩:=ajq wr.drew u3 (jc f k) (f (2+k)) (f (5+k)) hrd hlk hbw;have hbd:Below W.heap.size W wr.drew:=ar HB cw;have cr:Hid (Below W.heap.size W aI):=Y ((hbd.alloc (lTq (Nat.le_succ _) hbw) _).grown nN (lTq (lTq (Nat.le_succ _) hbw) (by simp)) (fun q hq=>lTq (Nat.le_succ _) (cB hrd hq).1));have yo:(wr.drew.alloc (.cells #[Z (f (2+k)),Z (f (5+k))] 3)).heap[W.heap.size]?=some (.cells R 140 (0,0)):=(Below.heap_alloc _ _ _ (by exact hbw)).trans ow;have oO:Hid (aI.heap[W.heap.size]?=some (.cells R 140 (0,0))):=Y (by
    rw[nN.block _ (lBq yo) (fun e=>?_)]
    .exact yo
    .have:=(cB hrd e.symm).1;omega)
   have Am:=Y yo;have bE:=Y fI;have cW:=Y hap;clear hap fI nN hrd hbd yo;obtain⟨bl,val,hcl,ay⟩:=gu (fun W'=>W'.heap[W.heap.size]?=some (.cells R 140 (0,0)));have s0:∀x0,(val x0).cell? ⟨W.heap.size,2+k,none⟩=some (Z (f (2+k))):=fun x0=>by rw[cR _ _ _ _ _ _ (hcl x0)];exact jC k hlt
   have s1:∀x0,(val x0).cell? ⟨W.heap.size,5+k,none⟩=some (Z (f (5+k))):=fun x0=>by rw[cR _ _ _ _ _ _ (hcl x0)];exact ajs k hlt
   obtain⟨x0,hx0⟩:=ay wr.drew ow;have hnx:Nonempty bl:=⟨x0⟩;have M1:=Y (ay _ Am);have qO:=Y (ay _ oO);clear ay hcl;obtain⟨p,hp⟩:=aG (f (2+k));obtain⟨q,hq⟩:=aG (f (5+k));have xR:Hid (jc f (k+1)=jc f k++[p,q]):=Y (by rw[jc,hp,hq]);rw[hp,hq]at bE cW M1;rw[hp]at s0;rw[hq]at s1;clear hp hq;go_wp2;refine kt (val:=val) [9,10] [0,1,2,3,4,5,6,7,8,9,10,11] (by kernel_rfl) (by kernel_rfl) x0 hx0 ?_;rw[hx0];clear hx0
   iterate 9 (refine d7 rfl rfl (fun K hK=>?_);refine⟨by rfl,?_⟩;unfold aQ;go_simp;refine hK _ ?_;clear hK K)
   refine cY rfl rfl (fun K hK=>?_);refine⟨by rfl,?_⟩;unfold aB;go_simp;refine⟨M1,hK _ _ ?_⟩;clear hK K;refine cY rfl rfl (fun K hK=>?_);refine⟨by rfl,?_⟩;refine yi _ _ 23 rfl _ _ _ rfl rfl cW ?_;refine⟨qO,hK _ _ ?_⟩;clear hK K;refine d7 rfl rfl (fun K hK=>?_);refine⟨by rfl,?_⟩;unfold aQ;go_simp;refine hK _ ?_;clear hK K;refine jX ?_;go_wp2;exact⟨⟨k+1,hlt,by go_num,by rw[xR.out];exact bE,cr,oO⟩,by simp[intOf];omega⟩
  .have aT:¬ (k:Int)<3:=by omega
   have hk3:k=3:=by omega
   have HR3:=HR.out;rw[hk3]at HR3;have G4:(jc f 3).length=8:=NI f 3;obtain⟨a,c,hv⟩:∃a c,u3=.slice a 8 c:=by
    rcases HR3.2 with ⟨_,e⟩ | ⟨g,c,_,e,_⟩
    .omega
    .exact⟨_,c,by rw[e,G4]⟩
   subst hv;have HJ:=Y (WH ⟨#[32]⟩ a 8 c (jc f 3) (W.heap.size+1) wr (Y (hbt.later HB)) (Y G4) (by decide) (by decide) (Y HR3) hx (Y (by have:=NH (sep:=32) hx;rw[G4]at this;show (joinL 32 (jc f 3)).length<=_;omega)));clear hk3 G4
   go_wp2_with fail
   refine HJ.mono ?_;rintro e w2 ⟨rfl,hb⟩;have av:=Y (ar HB hb);clear hb;simp only[];go_wp2;go_ret;exact⟨rfl,av⟩
namespace bg
def wT(r:Ve.dr):ByteArray:=(r.k++⟨#[58]⟩)++jZ 58 [r.c,r.id]
def fE(r:Ve.dr):ByteArray:=if r.pr=0/\r.q=0/\r.cd=0 then wT r else (wT r++⟨#[58]⟩)++jZ 58 [r.pr,r.q,r.cd]
structure kZ (r:Ve.dr):Prop where
 a:∀z∈[r.c,r.id],eB z
 b:∀z∈[r.pr,r.q,r.cd],eB z
 k:r.k.size<=10
theorem amQ{r:Ve.dr}(h:kZ r):(fE r).size<=130:=by
 have h1:=Dt (sep:=58) h.a;have h2:=Dt (sep:=58) h.b;have h3:=h.k;have e:(wT r).size=r.k.size+1+(jZ 58 [r.c,r.id]).size:=by unfold wT;rw[ByteArray.size_append,ByteArray.size_append];rfl
 simp only[List.length_cons,List.length_nil]at h1 h2;unfold fE;split
 .omega
 .rw[ByteArray.size_append,ByteArray.size_append,e]
  show _+1+_<=_;omega
end bg
theorem amS(r:Ve.dr)(W:World)(hbt:Hid (iF W))(hok:Hid (bg.kZ r)):
  Calls prog 177 #[.agg #[Z r.c,.string r.k,Z r.id,Z r.pr,Z r.q,Z r.cd]] W fun e w'=>e=.returned (.string (bg.fE r))/\U W w':=by
 have qV:Hid (bg.fE r=if r.pr=0/\r.q=0/\r.cd=0 then bg.wT r else (bg.wT r++⟨#[58]⟩)++jZ 58 [r.pr,r.q,r.cd]):=Y rfl;have IL:Hid (bg.wT r=(r.k++⟨#[58]⟩)++jZ 58 [r.c,r.id]):=Y rfl;have hks:=hok.k;have PI:=Dt (sep:=58) hok.a;have hj2:=Dt (sep:=58) hok.b;simp only[List.length_cons,List.length_nil]at PI hj2;have HA:=Y hok.a;have dY:=Y hok.b;generalize bg.fE r=aue at *;generalize bg.wT r=JS at *;obtain⟨c,k,id,pr,q,cd⟩:=r;simp only[]at qV IL hks PI hj2 HA dY ⊢;clear hok;have hb1:U W (W.alloc (.cells #[Z c,.string k,Z id,Z pr,Z q,Z cd] 121)):=aj;obtain⟨W1,hW1⟩:=aG (W.alloc (.cells #[Z c,.string k,Z id,Z pr,Z q,Z cd] 121));have hx1:W1.heap[W.heap.size]?=some (.cells #[Z c,.string k,Z id,Z pr,Z q,Z cd] 121 (0,0)):=by rw[<- hW1];exact hNq _ _
 rw[hW1]at hb1;have hbd:U W W1.drew:=ar hb1 cw;have anu:=Y (G3 58 [c,id] 2 W1.drew (hbt.later hbd) rfl (by decide) (by decide) HA);have HJ2:=Y (fun W' (h':U W W')=>G3 58 [pr,q,cd] 3 W' (hbt.later h') rfl (by decide) (by decide) dY);have yo:(W1.drew.alloc (.cells (dF [c,id]).toArray 3)).heap[W.heap.size]?=some (.cells #[Z c,.string k,Z id,Z pr,Z q,Z cd] 121 (0,0)):=(Below.heap_alloc _ _ _ (by exact lBq hx1)).trans hx1;have bH:=Y hbd;have bW:=Y hx1;have Am:=Y yo;generalize jZ 58 [c,id]=j1 at *;generalize jZ 58 [pr,q,cd]=j2 at *;have dw:¬ 9223372036854775807<k.size+1:=by omega
 have z2:¬ 9223372036854775807<k.size+1+j1.size:=by omega
 have z3:¬ 9223372036854775807<JS.size+1:=by rw[IL.out,ByteArray.size_append,ByteArray.size_append];show ¬ _<k.size+1+_+1;omega
 have z4:¬ 9223372036854775807<JS.size+1+j2.size:=by rw[IL.out,ByteArray.size_append,ByteArray.size_append];show ¬ _<k.size+1+_+1+_;omega
 have HW1:=Y hW1;clear hW1 hb1 hbd hx1 yo PI hj2 hks;go_enter func177,ntmps177;go_wp2;rw[HW1.out];obtain⟨bl,val,hcl,ay⟩:=gu (fun W'=>W'.heap[W.heap.size]?=some (.cells #[Z c,.string k,Z id,Z pr,Z q,Z cd] 121 (0,0)));obtain⟨x0,hx0⟩:=ay W1.drew bW;have hnx:Nonempty bl:=⟨x0⟩;have s0:=fun x0=>ag (hcl x0) 0 rfl;have s1:=fun x0=>ag (hcl x0) 1 rfl;have s2:=fun x0=>ag (hcl x0) 2 rfl;have M1:=Y (ay _ Am);have aH:=Y ay;clear ay hcl;refine kt (val:=val) [7,8] [0,1,2,3,4,5,6,7,8,9,10] (by kernel_rfl) (by kernel_rfl) x0 hx0 ?_;rw[hx0];clear hx0
 iterate 7 (refine d7 rfl rfl (fun K hK=>?_);refine⟨by rfl,?_⟩;unfold aQ;go_simp;refine hK _ ?_;clear hK K)
 refine cY rfl rfl (fun K hK=>?_);refine⟨by rfl,?_⟩;unfold aB;go_simp;refine⟨M1,hK _ _ ?_⟩;clear hK K;refine cY rfl rfl (fun K hK=>?_);refine⟨by rfl,?_⟩;unfold aB;go_simp;refine anu.mono ?_;rintro e w2 ⟨rfl,hb2⟩;have j7:=bF hb2 bW;have HB2:=Y (ar bH hb2);refine⟨_,rfl,aH _ j7,hK _ _ ?_⟩;have t3:=ag j7 3 rfl;have t4:=ag j7 4 rfl;have t5:=ag j7 5 rfl;clear hK K j7 hb2 M1 aH
 iterate 2 (refine d7 rfl rfl (fun K hK=>?_);refine⟨by rfl,?_⟩;unfold aQ;go_simp;refine hK _ ?_;clear hK K)
 refine jX ?_;rw[<- IL.out];clear s0 s1 s2;have anv:=Y (HJ2 w2 HB2);by_cases hall:pr=0/\q=0/\cd=0
 .rw[if_pos hall]at qV
  obtain⟨e1,e2,e3⟩:=hall;subst e1 e2 e3;go_wp2;go_ret;exact⟨by rw[qV.out];rfl,HB2⟩
 .rw[if_neg hall]at qV
  have hpq:(¬ pr=0)\/(pr=0/\¬ q=0)\/(pr=0/\q=0/\¬ cd=0):=by
   by_cases h1:pr=0
   .by_cases h2:q=0
    .exact .inr (.inr ⟨h1,h2,fun h3=>hall ⟨h1,h2,h3⟩⟩)
    .exact .inr (.inl ⟨h1,h2⟩)
   .exact .inl h1
  clear hall;rcases hpq with h1 | ⟨rfl,h2⟩ | ⟨rfl,rfl,h3⟩
  all_goals
   go_wp2_with fail
   refine anv.mono ?_;rintro e w3 ⟨rfl,hb3⟩;have av:=Y (ar HB2 hb3);clear hb3;simp only[];go_wp2;go_ret;exact⟨by rw[qV.out];rfl,av⟩
def ku(x:Cv.af):ByteArray:=jZ 58 [x.id,x.ai,x.sd,x.pr,x.q]
theorem WE{x:Cv.af}(h:Cv.ok x=true):∀z∈[x.id,x.ai,x.sd,x.pr,x.q],eB z:=by simp only[Cv.ok,ah.aK,Bool.and_eq_true,decide_eq_true_eq]at h;intro z hz;unfold eB;simp only[List.mem_cons,List.not_mem_nil,or_false]at hz;rcases hz with rfl | rfl | rfl | rfl | rfl <;> omega
theorem ai7{r f:Int}(h:bm.kC r f=true):∀z∈[r,f],eB z:=by simp only[bm.kC,ah.aK,Bool.and_eq_true,decide_eq_true_eq]at h;intro z hz;unfold eB;simp only[List.mem_cons,List.not_mem_nil,or_false]at hz;rcases hz with rfl | rfl <;> omega
section
variable {w W:World} {F P:Nat} {I b:Nat->Nat} {v:Nat->Value} {L:Nat->List Cv.af} {pf n:Nat->Int} {wd h:Int}
end
def bg.iH(l:List ByteArray):ByteArray:=if l=[] then ⟨#[110,111,116,104,105,110,103]⟩ else ⟨(Lib.join (l.map (·.data.toList)) [32]).toArray⟩
def bg.Zi(x:Cv.af):Prop:=Cv.ok x=true
theorem amP{x:Ve.dr}(h:bg.kZ x):(bg.fE x).data.toList.length<=130:=bg.amQ h
theorem amR{x:Cv.af}(h:bg.Zi x):(ku x).data.toList.length<=130:=lTq (Dt (sep:=58) (WE h)) (by simp)
theorem O_(v:Value)(l:List Ve.dr)(base:Nat)(W:World)(hr:Hid (kx W base v l))(hbt:Hid (iF W))(hok:Hid (∀x∈l,bg.kZ x))(hn:l.length<=1000000):
  Calls prog 176 #[v,.func (.func 177) #[] #[]] W fun e w'=>e=.returned (.string (bg.iH (l.map bg.fE)))/\U W w':=by
 have vQ:Hid (bg.iH (l.map bg.fE)=if l.map bg.fE=[] then ⟨#[110,111,116,104,105,110,103]⟩ else ⟨(Lib.join ((l.map bg.fE).map (·.data.toList)) [32]).toArray⟩):=Y rfl;generalize bg.iH (l.map bg.fE)=Eh at *;by_cases hl0:l=[]
 .subst hl0
  have hv:∃a c,v=.slice a 0 c:=by
   rcases Zj hr with ⟨rfl,_⟩ | ⟨g,c,rfl,_⟩
   .exact⟨_,_,rfl⟩
   .exact⟨_,_,rfl⟩
  obtain⟨a,c,rfl⟩:=hv;have lz:Hid (Eh=⟨#[110,111,116,104,105,110,103]⟩):=Y (vQ.trans rfl);go_enter func176,ntmps176;go_wp2;go_ret;exact⟨by rw[lz.out];rfl,bRq _ _⟩
 rcases Zj hr with ⟨_,e⟩ | ⟨gg,cap,rfl,hat⟩
 .exact absurd e hl0
 have Pk:Hid (Eh=⟨(Lib.join ((l.map bg.fE).map (·.data.toList)) [32]).toArray⟩):=Y (by rw[vQ.out,if_neg (by simpa using hl0)]);obtain⟨o,hat⟩:∃o,o=0/\Ei W gg o l:=⟨0,rfl,hat⟩;have Ej:l.length≠0:=fun e=>hl0 (List.eq_nil_of_length_eq_zero e);obtain⟨m,hm⟩:=aG l.length;rw[hm]at hn Ej ⊢;have HM:=Y hm;have ua:O gg 0=(O gg o):=by rw[hat.1]
 rw[ua];have HAT:=Y hat.2;clear hr hat hl0 hm ua;have lZ:((m:Int)==0)=false:=by simp;omega
 obtain⟨i5,z,hi,hz0,hz1,hz2,hz3⟩:=Ai;obtain⟨M,hM⟩:∃M,M=madeCells z.cells ((m:Int).toNat*i5.size):=⟨_,rfl⟩;have nB:M.size=m:=by rw[hM,size_madeCells,hz1];simp
 have ay:∀W:World,(Instr.makeSlice 70 (Z 0) (Z (m:Int))).run prog W=.ok (.slice (some (O W.heap.size 0)) 0 m) (W.alloc (.cells M 9)):=fun W=>by
  have h:=run_make (P:=prog) W 70 9 i5 z underlying70 hi hz0 .i64 .i64 (0:Int) (m:Int) (by omega) (by omega) (by rw[hz2];omega) (by omega);rw[<- hM]at h;simpa using h
 have gi:Hid ((W.alloc (.cells M 9)).ownsRow W.heap.size 9 1 (.slice (some (O W.heap.size 0)) 0 m) 0 []):=World.ownsRow_made W M m (E _) (by unfold maxLen;omega) (by omega);have cG:Hid (U W (W.alloc (.cells M 9))):=aj;clear hM nB hi hz0 hz1 hz2 hz3;go_enter func176,ntmps176
 go_wp2_with fail
 go_loopw [5,16] (fun rv kv wr=>∃(k:Nat),k<=m/\kv=Z k/\wr.ownsRow W.heap.size 9 1 rv (l.take k).length (f_ bg.fE (l.take k))/\U W wr) (fun _ kv _=>m-(intOf kv).toNat)
 case atStart=>exact⟨0,Nat.zero_le _,rfl,gi,cG⟩
 case round =>
  obtain⟨k,hk,rfl,hr,hb⟩:=hrel;have HR:=Y hr;have HB:=Y hb;clear hr hb ay;by_cases hlt:k<m
  .have aT:(k:Int)<m:=by omega
   have hkl:k<l.length:=by rw[HM.out];exact hlt
   have hmem:nV l k∈l:=by unfold nV;rw[gE,List.getElem?_eq_getElem hkl];exact List.getElem_mem hkl
   have HT:=Y (show l.take (k+1)=l.take k++[nV l k] by unfold nV;rw[List.take_add_one,gE,List.getElem?_eq_getElem hkl];rfl);obtain⟨c0,c1,c2,c3,c4,c5⟩:=(HAT.later HB) k hkl;have HX:=Y (hok _ hmem);obtain⟨x,hx⟩:=aG (nV l k);rw[hx]at c0 c1 c2 c3 c4 c5 HX HT;clear hx hmem;have hba:U wr (wr.alloc (.cells #[Z x.c,.string x.k,Z x.id,Z x.pr,Z x.q,Z x.cd] 121)):=aj;have q8:=ar HB hba;have lL:Hid (Calls prog 177 #[.agg #[Z x.c,.string x.k,Z x.id,Z x.pr,Z x.q,Z x.cd]] (wr.alloc (.cells #[Z x.c,.string x.k,Z x.id,Z x.pr,Z x.q,Z x.cd] 121)) fun e w'=>e=.returned (.string (bg.fE x))/\Below (wr.alloc (.cells #[Z x.c,.string x.k,Z x.id,Z x.pr,Z x.q,Z x.cd] 121)).heap.size (wr.alloc (.cells #[Z x.c,.string x.k,Z x.id,Z x.pr,Z x.q,Z x.cd] 121)) w'):=Y (amS x _ (Y (hbt.later q8)) HX);have vd:=Y hba;have cr:=Y q8;clear hba q8;have hlk:(l.take k).length<=1000000:=by rw[lKq];omega
   go_wp2_with fail
   refine lL.mono ?_;rintro e aI ⟨rfl,bR⟩;have fI:=dh (dh HR vd) bR;have uF:=ar cr bR;obtain⟨v6,aA,hap,fB,mU⟩:=Aj bg.fE aI u5 (l.take k) x fI hlk uF.size;have q9:U aI (aI.alloc (.cells #[.string (bg.fE x)] 9)):=aj;have ic:=Y ((ar uF q9).grown mU (lTq uF.size q9.size) (fun q hq=>(cB fI hq).1));have ew:=Y fB;have cW:=Y hap;clear fI uF hap fB mU q9 bR c0 c1 c2 c3 c4 c5;simp only[]
   go_wp2_with (at_builtin;refine wpList_append_run rfl _ _ 70 rfl _ _ _ rfl rfl cW ?_)
   go_roundw
   case rel=>exact⟨k+1,hlt,by go_num,by rw[HT.out];exact ew,ic⟩
   case measure=>simp[intOf];omega
  .have aT:¬ (k:Int)<m:=by omega
   have hkm:k=m:=by omega
   have hlen:l.take k=l:=List.take_of_length_le (by rw[HM.out];omega);have hr:=HR.out;rw[hlen]at hr;have hle:=join_le (k:=130) (sep:=32) (xs:=(l.map bg.fE).map (·.data.toList)) (fun y hy=>by
    obtain⟨z,hz,rfl⟩:=List.mem_map.1 hy;obtain⟨x,hx,rfl⟩:=List.mem_map.1 hz;exact amP (hok x hx))
   rw[List.length_map,List.length_map,HM.out]at hle;rcases hr.2 with ⟨_,e2⟩ | ⟨g2,c2,cur,e1,_,hg,hcap,_⟩
   .exact absurd e2 (by rw[HM.out];exact Ej)
   .have hcl:∀(j:Nat) x,(l.map bg.fE)[j]?=some x->wr.cell? ⟨g2,0+j,none⟩=some (.string x):=fun j x hj=>by
     have h2:=World.ownsRow.cells hr (g:=g2) (by rw[e1];rfl) j (.string x) (by
      rw[List.getElem?_map]at hj;obtain⟨y,hy,rfl⟩:=Option.map_eq_some_iff.1 hj;simp[f_,hy])
     have hp:(⟨g2,0,none⟩:Addr).add j=⟨g2,0+j,none⟩:=by unfold Addr.add;split <;> simp_all
     rw[<- hp];exact h2
    have HJ:=Y (strings_Join g2 0 c2 (l.map bg.fE) ⟨#[32]⟩ wr hcl (lBq hg) (by rw[List.length_map,HM.out];omega) (by rw[List.length_map];exact hcap) (lTq hle (by omega)));rw[List.length_map,HM.out]at HJ;rw[HM.out]at e1;subst e1;clear hr hcl hg hcap hlen hle hkm
    go_wp2_with fail
    refine HJ.mono ?_;rintro e aA ⟨rfl,hb6⟩;have bk:=Y (ar HB hb6);clear hb6;simp only[];go_wp2;go_ret;exact⟨by rw[Pk.out];rfl,bk⟩
theorem al7(v:Value)(l:List Cv.af)(base:Nat)(W:World)(hr:Hid (W.ownsRow base 197 5 v l.length (flat l)))(hbt:Hid (iF W))(hok:Hid (∀x∈l,bg.Zi x))(hn:l.length<=1000000):
  Calls prog 180 #[v,.func (.func 115) #[] #[]] W fun e w'=>e=.returned (.string (bg.iH (l.map ku)))/\U W w':=by
 have vQ:Hid (bg.iH (l.map ku)=if l.map ku=[] then ⟨#[110,111,116,104,105,110,103]⟩ else ⟨(Lib.join ((l.map ku).map (·.data.toList)) [32]).toArray⟩):=Y rfl;generalize bg.iH (l.map ku)=Eh at *;by_cases hl0:l=[]
 .subst hl0
  have hv:∃a c,v=.slice a 0 c:=by
   rcases Ww hr with ⟨rfl,_⟩ | ⟨g,c,rfl,_⟩
   .exact⟨_,_,rfl⟩
   .exact⟨_,_,rfl⟩
  obtain⟨a,c,rfl⟩:=hv;have lz:Hid (Eh=⟨#[110,111,116,104,105,110,103]⟩):=Y (vQ.trans rfl);go_enter func180,ntmps180;go_wp2;go_ret;exact⟨by rw[lz.out];rfl,bRq _ _⟩
 rcases Ww hr with ⟨_,e⟩ | ⟨gg,cap,rfl,hat⟩
 .exact absurd e hl0
 have Pk:Hid (Eh=⟨(Lib.join ((l.map ku).map (·.data.toList)) [32]).toArray⟩):=Y (by rw[vQ.out,if_neg (by simpa using hl0)]);obtain⟨o,hat⟩:∃o,o=0/\fU W gg o l:=⟨0,rfl,hat⟩;have Ej:l.length≠0:=fun e=>hl0 (List.eq_nil_of_length_eq_zero e);obtain⟨m,hm⟩:=aG l.length;rw[hm]at hn Ej ⊢;have HM:=Y hm;have ua:O gg 0=(O gg o):=by rw[hat.1]
 rw[ua];have HAT:=Y hat.2;clear hr hat hl0 hm ua;have lZ:((m:Int)==0)=false:=by simp;omega
 obtain⟨i5,z,hi,hz0,hz1,hz2,hz3⟩:=Ai;obtain⟨M,hM⟩:∃M,M=madeCells z.cells ((m:Int).toNat*i5.size):=⟨_,rfl⟩;have nB:M.size=m:=by rw[hM,size_madeCells,hz1];simp
 have ay:∀W:World,(Instr.makeSlice 70 (Z 0) (Z (m:Int))).run prog W=.ok (.slice (some (O W.heap.size 0)) 0 m) (W.alloc (.cells M 9)):=fun W=>by
  have h:=run_make (P:=prog) W 70 9 i5 z underlying70 hi hz0 .i64 .i64 (0:Int) (m:Int) (by omega) (by omega) (by rw[hz2];omega) (by omega);rw[<- hM]at h;simpa using h
 have gi:Hid ((W.alloc (.cells M 9)).ownsRow W.heap.size 9 1 (.slice (some (O W.heap.size 0)) 0 m) 0 []):=World.ownsRow_made W M m (E _) (by unfold maxLen;omega) (by omega);have cG:Hid (U W (W.alloc (.cells M 9))):=aj;clear hM nB hi hz0 hz1 hz2 hz3;go_enter func180,ntmps180
 go_wp2_with fail
 go_loopw [5,16] (fun rv kv wr=>∃(k:Nat),k<=m/\kv=Z k/\wr.ownsRow W.heap.size 9 1 rv (l.take k).length (f_ ku (l.take k))/\U W wr) (fun _ kv _=>m-(intOf kv).toNat)
 case atStart=>exact⟨0,Nat.zero_le _,rfl,gi,cG⟩
 case round =>
  obtain⟨k,hk,rfl,hr,hb⟩:=hrel;have HR:=Y hr;have HB:=Y hb;clear hr hb ay;by_cases hlt:k<m
  .have aT:(k:Int)<m:=by omega
   have hkl:k<l.length:=by rw[HM.out];exact hlt
   have hmem:Cv.nth l k∈l:=by unfold Cv.nth;rw[gE,List.getElem?_eq_getElem hkl];exact List.getElem_mem hkl
   have HT:=Y (show l.take (k+1)=l.take k++[Cv.nth l k] by unfold Cv.nth;rw[List.take_add_one,gE,List.getElem?_eq_getElem hkl];rfl);obtain⟨c0,c1,c2,c3,c4⟩:=(HAT.later HB) k hkl;have HX:=Y (hok _ hmem);obtain⟨x,hx⟩:=aG (Cv.nth l k);rw[hx]at c0 c1 c2 c3 c4 HX HT;clear hx hmem;have hba:U wr (wr.alloc (.cells #[Z x.id,Z x.ai,Z x.sd,Z x.pr,Z x.q] 197)):=aj;have q8:=ar HB hba;have lL:Hid (Calls prog 115 #[.agg #[Z x.id,Z x.ai,Z x.sd,Z x.pr,Z x.q]] (wr.alloc (.cells #[Z x.id,Z x.ai,Z x.sd,Z x.pr,Z x.q] 197)) fun e w'=>e=.returned (.string (ku x))/\Below (wr.alloc (.cells #[Z x.id,Z x.ai,Z x.sd,Z x.pr,Z x.q] 197)).heap.size (wr.alloc (.cells #[Z x.id,Z x.ai,Z x.sd,Z x.pr,Z x.q] 197)) w'):=Y (ajp x.id x.ai x.sd x.pr x.q _ (Y (hbt.later q8)) (Y (WE HX)));have vd:=Y hba;have cr:=Y q8;clear hba q8;have hlk:(l.take k).length<=1000000:=by rw[lKq];omega
   go_wp2_with fail
   refine lL.mono ?_;rintro e aI ⟨rfl,bR⟩;have fI:=dh (dh HR vd) bR;have uF:=ar cr bR;obtain⟨v6,aA,hap,fB,mU⟩:=Aj ku aI u5 (l.take k) x fI hlk uF.size;have q9:U aI (aI.alloc (.cells #[.string (ku x)] 9)):=aj;have ic:=Y ((ar uF q9).grown mU (lTq uF.size q9.size) (fun q hq=>(cB fI hq).1));have ew:=Y fB;have cW:=Y hap;clear fI uF hap fB mU q9 bR c0 c1 c2 c3 c4;simp only[]
   go_wp2_with (at_builtin;refine wpList_append_run rfl _ _ 70 rfl _ _ _ rfl rfl cW ?_)
   go_roundw
   case rel=>exact⟨k+1,hlt,by go_num,by rw[HT.out];exact ew,ic⟩
   case measure=>simp[intOf];omega
  .have aT:¬ (k:Int)<m:=by omega
   have hkm:k=m:=by omega
   have hlen:l.take k=l:=List.take_of_length_le (by rw[HM.out];omega);have hr:=HR.out;rw[hlen]at hr;have hle:=join_le (k:=130) (sep:=32) (xs:=(l.map ku).map (·.data.toList)) (fun y hy=>by
    obtain⟨z,hz,rfl⟩:=List.mem_map.1 hy;obtain⟨x,hx,rfl⟩:=List.mem_map.1 hz;exact amR (hok x hx))
   rw[List.length_map,List.length_map,HM.out]at hle;rcases hr.2 with ⟨_,e2⟩ | ⟨g2,c2,cur,e1,_,hg,hcap,_⟩
   .exact absurd e2 (by rw[HM.out];exact Ej)
   .have hcl:∀(j:Nat) x,(l.map ku)[j]?=some x->wr.cell? ⟨g2,0+j,none⟩=some (.string x):=fun j x hj=>by
     have h2:=World.ownsRow.cells hr (g:=g2) (by rw[e1];rfl) j (.string x) (by
      rw[List.getElem?_map]at hj;obtain⟨y,hy,rfl⟩:=Option.map_eq_some_iff.1 hj;simp[f_,hy])
     have hp:(⟨g2,0,none⟩:Addr).add j=⟨g2,0+j,none⟩:=by unfold Addr.add;split <;> simp_all
     rw[<- hp];exact h2
    have HJ:=Y (strings_Join g2 0 c2 (l.map ku) ⟨#[32]⟩ wr hcl (lBq hg) (by rw[List.length_map,HM.out];omega) (by rw[List.length_map];exact hcap) (lTq hle (by omega)));rw[List.length_map,HM.out]at HJ;rw[HM.out]at e1;subst e1;clear hr hcl hg hcap hlen hle hkm
    go_wp2_with fail
    refine HJ.mono ?_;rintro e aA ⟨rfl,hb6⟩;have bk:=Y (ar HB hb6);clear hb6;simp only[];go_wp2;go_ret;exact⟨by rw[Pk.out];rfl,bk⟩
theorem ajn{pf:Nat->Int}(h:Pu.Good pf){c:Nat}(hc:c<6):∀z∈jc (fun j=>pf (c*8+j)) 3,eB z:=by have h0:=h.cash c hc;have h1:=h.stock c 0 hc (by decide);have h2:=h.stock c 1 hc (by decide);have h3:=h.stock c 2 hc (by decide);intro z hz;unfold eB;simp only[jc,List.cons_append,List.nil_append,List.mem_cons,List.not_mem_nil,or_false,Nat.add_zero,Nat.reduceAdd]at hz;simp only[Nat.add_assoc,Nat.reduceAdd,Nat.add_zero]at h0 h1 h2 h3;rcases hz with rfl | rfl | rfl | rfl | rfl | rfl | rfl | rfl <;> omega
section
variable {w W:World} {B:bO} {v:Nat->Value} {wd h seed:Int} {S:Ve.St}
end
end
namespace bg
open Ve
def Iv(x:Cv.af):Prop:=eB x.ai/\eB x.id/\eB x.pr/\eB x.q
theorem Ps:Iv Cv.z:=by refine⟨?_,?_,?_,?_⟩ <;> (unfold eB;decide)
theorem Pt{x:Cv.af}(h:Cv.ok x=true):Iv x:=by have h1:=Cv.gB h;refine⟨?_,?_,?_,?_⟩ <;> (unfold eB;omega)
theorem Zs{l:List Cv.af}(h:∀x∈l,Cv.ok x=true)(k:Nat):Iv (Cv.nth l k):=by
 by_cases hk:k<l.length
 .refine Pt (h _ ?_)
  unfold Cv.nth;rw[gE,List.getElem?_eq_getElem hk];exact List.getElem_mem hk
 .have:Cv.nth l k=Cv.z:=by unfold Cv.nth;rw[gE,List.getElem?_eq_none (by omega)];rfl
  rw[this];exact Ps
theorem yQ{x:Int}(h:0<=x)(h2:x<=4611686018427387904):eB x:=by unfold eB;omega
theorem Iw{c id pr q cd:Int}{k:ByteArray}(hk:k.size<=10)(h1:eB c)(h2:eB id)(h3:eB pr)(h4:eB q)(h5:eB cd):kZ ⟨c,k,id,pr,q,cd⟩ :=
 ⟨fun z hz=>by simp only[List.mem_cons,List.not_mem_nil,or_false]at hz;rcases hz with rfl | rfl <;> assumption,
  fun z hz=>by simp only[List.mem_cons,List.not_mem_nil,or_false]at hz;rcases hz with rfl | rfl | rfl <;> assumption,hk⟩
theorem uG:eB 0:=by unfold eB;decide
theorem Iy{c id:Int}{e:Nat}(h1:eB c)(h2:eB id)(he:e<=100):kZ (h_ c id e):=Iw (by decide) h1 h2 uG uG (yQ (by omega) (by omega))
theorem Pv{k:ByteArray}(hk:k.size<=10){x:Cv.af}(h:Iv x):kZ (tell k x):=Iw hk h.1 h.2.1 h.2.2.1 h.2.2.2 uG
theorem am4(S:St){n:Nat}(hn:n<6)(f:ByteArray):∀r∈jY S n f,kZ r:=by
 have hi:eB (cH f).id:=by
  show eB ((dv f (aJ f 16):Nat):Int)
  have:=rP f 16
  unfold dv;split <;> exact yQ (by omega) (by omega)
 have hc:eB (n:Int):=yQ (by omega) (by omega);unfold jY;split
 .split
  .split
   .intro r hr
    simp only[List.mem_singleton]at hr;subst hr;exact Iw (by unfold uH;split <;> decide) hc hi uG uG uG
   .intro r hr;cases hr
  .intro r hr
   simp only[List.mem_singleton]at hr;subst hr;refine Iy hc hi ?_;unfold takeC
   have:=a_.Zt (S.on n) (S.ak n) (cH f)
   split <;> omega
 .intro r hr
  simp only[List.mem_singleton]at hr;subst hr;exact Iy hc uG (by have:=S7 f;omega)
theorem Zu(S:St){n:Nat}(hn:n<6)(b:ByteArray):∀k,∀r∈fZ S n b k,kZ r
 | 0=>fun r hr=>by cases hr
 | k+1=>fun r hr=>by
  rcases List.mem_append.1 hr with h | h
  .exact Zu S hn b k r h
  .exact am4 _ hn _ r h
theorem Za(S:St)(n:Int)(s:ByteArray):∀r∈eW S n s,kZ r:=by
 unfold eW;split
 .intro r hr;cases hr
 .rename_i hc
  refine Zu _ ?_ _ _;have:ah.aK n 0 5=true:=by
   cases h:ah.aK n 0 5 with
   | true=>rfl
   | false=>exact absurd (.inr h) hc
  simp only[ah.aK,Bool.and_eq_true,decide_eq_true_eq]at this;omega
structure jz (wd h:Int) (r:cQ):Prop where
 all:All wd h r
 rp:∀x∈r.rp,kZ x
variable {wd h:Int} {r:cQ}
theorem All.oks(H:All wd h r){i:Nat}(hi:i<3):∀x∈r.L i,Cv.ok x=true:=(H.ok.aO i hi).oks
theorem jz.drop(H:jz wd h r)(c:Nat):jz wd h (sF r c):=by
 refine⟨H.all.drop c,fun x hx=>?_⟩;rcases List.mem_append.1 hx with h1 | h1
 .exact H.rp x h1
 .obtain⟨y,hy,rfl⟩:=List.mem_map.1 h1
  obtain⟨j,hj,oW⟩:=Zv c r.L 3 hy;exact Pv (by decide) (Pt (All.oks H.all hj y oW))
theorem jz.Eo(H:jz wd h r)(ds:List Nat):∀k,jz wd h (jG r ds k)
 | 0=>H
 | k+1=>(jz.Eo H ds k).drop _
theorem jz.ask(H:jz wd h r){a:Ask}(ha:a_.ac a=0):jz wd h (k5 r a):=by
 have hb:eB a.c/\eB a.id:=by have h1:=(FC ha).2.1;simp only[ah.kF,ah.aK,Bool.and_eq_true,decide_eq_true_eq]at h1;exact⟨yQ (by omega) (by omega),yQ (by omega) (by omega)⟩
 refine⟨H.all.ask a,?_⟩;unfold k5;split
 .intro x hx
  unfold uD at hx;simp only at hx;split at hx
  .exact H.rp x hx
  .rcases List.mem_append.1 hx with h1 | h1
   .exact H.rp x h1
   .simp only[List.mem_singleton]at h1
    subst h1;exact Iy hb.1 hb.2 (by have:=Fl.Zw r.L r.pf a;omega)
 .intro x hx
  unfold wQ at hx;simp only at hx;rcases List.mem_append.1 hx with h1 | h1
  .exact H.rp x h1
  .split at h1
   .simp only[List.mem_singleton]at h1
    subst h1;refine Pv (by decide) ?_;unfold Fl.gA;split
    .rename_i hk
     have:=Fl.B3 hk.1
     exact Zs (All.oks H.all (by omega)) _
    .exact Ps
   .simp only[List.mem_singleton]at h1
    subst h1;exact Iy hb.1 hb.2 (by have:=Fl.Zx r.L r.pf a;omega)
theorem jz.asks(H:jz wd h r){l:List Ask}(hl:∀a∈l,a_.ac a=0):∀k,k<=l.length->jz wd h (j3 r l k)
 | 0,_=>H
 | k+1,hk=>(jz.asks H hl k (by omega)).ask (hl _ (List.mem_of_getElem? (GQ (show k<l.length by omega))))
theorem jz.Iz(H:jz wd h r){i:Nat}(hi:i<3)(s:Int):jz wd h (lH wd h r i s):=by
 have HT:=H.all.Iz hi s;refine⟨HT,fun x hx=>?_⟩;rcases List.mem_append.1 hx with h1 | h1
 .exact H.rp x h1
 .rcases List.mem_append.1 h1 with h2 | h2
  .have hq:=am5 H.all hi s (gW r i) x h2
   obtain⟨f,hf,rfl⟩:=List.mem_map.1 h2;obtain⟨_,y,hy,e⟩:=(Ep H.all hi s).2 f hf;have oW:=Pt (All.oks H.all hi y hy);have ho:p7 (r.L i) (r.L i).length f.1=y.ai:=by rw[<- e];exact am6 (H.all.ok.aO i hi).once hy
   have hw:Cv.fj (r.L i) (r.n (i*2)) 1000 (gW r i) (mr r i):=yL (H.all.ok.aO i hi).oks _;refine Iw (by decide) (by rw[ho];exact oW.1) (by rw[<- e];exact oW.2.1) ?_ (yQ hq.1 (Int.le_trans hq.2 (by decide))) uG;rcases hw with ⟨e1,_⟩ | ⟨_,e1,e2,_⟩
   .rw[e1];exact uG
   .exact yQ (by omega) (by omega)
  .obtain⟨a,_,h3⟩:=List.mem_flatMap.1 h2
   unfold jF at h3;split at h3
   .simp only[List.mem_singleton]at h3
    subst h3;refine Pv (by decide) ?_;unfold Bk.j_;split
    .exact Zs (All.oks HT hi) _
    .exact Ps
   .cases h3
theorem jz.Er(H:jz wd h r)(seed:Int)(bt:Nat):∀k,k<=3->jz wd h (fP wd h seed bt r k)
 | 0,_=>H
 | k+1,hk=>(jz.Er H seed bt k (by omega)).Iz (by omega) _
theorem am7{S:St}{seed:Int}(H:dc S.L S.pf S.n wd h){l:List Ask}(hl:∀a∈l,a_.ac a=0)(ds:List Nat):∀x∈(iQ wd h seed S ds l).rp,kZ x :=
 (((jz.Eo (r:=Ve.start S) ⟨H,fun x hx=>by cases hx⟩ ds _).asks hl _ (E _)).Er seed S.bt 3 (E _)).rp
theorem am8{seed:Int}{S S0:St}{H:List dU}(I:dK wd h seed S0 H S)(HA:dc S.L S.pf S.n wd h):∀x∈AX wd h seed S,kZ x:=by
 unfold AX;split
 .have hA:∀s,(bI (Ve.bV S) s).L=S.L/\(bI (Ve.bV S) s).pf=S.pf/\(bI (Ve.bV S) s).n=S.n:=fun s=>by
   unfold bI;split <;> exact⟨rfl,rfl,rfl⟩
  obtain⟨a1,a2,a3⟩:=hA (cV S);refine am7 (by rw[a1,a2,a3];exact HA) (fun a ha=>?_) _;obtain⟨c,hc,ha⟩:=Pw I.tn 6 (E _) a ha;exact I.q c hc a ha
 .intro x hx;cases hx
theorem am9{seed:Int}{S S0:St}{H:List dU}(I:dK wd h seed S0 H S)(HA:dc S.L S.pf S.n wd h):∀x∈je wd h seed S,kZ x:=by
 unfold je;split
 .intro x hx;cases hx
 .split
  .refine am8 I.b9 ?_
   obtain⟨e1,e2,e3,e4,e5,e6,e7,e8,e9⟩:=uI { S with now:=S.now+1 } 6;unfold Ve.b9;rw[e4,e5,e6];exact HA
  .intro x hx;cases hx
theorem ana{seed:Int}{S:St}(HA:dc S.L S.pf S.n wd h):dc (df wd h seed S).L (df wd h seed S).pf (df wd h seed S).n wd h:=by
 obtain⟨e1,e2,e3,e4,e5,e6,e7,e8,e9⟩:=uI { S with now:=S.now+1 } 6;have HT:dc (Ve.b9 S).L (Ve.b9 S).pf (Ve.b9 S).n wd h:=by unfold Ve.b9;rw[e4,e5,e6];exact HA
 unfold df;split
 .exact HA
 .split
  .generalize Ve.b9 S=S at *
   have hA:∀s,(bI (Ve.bV S) s).L=S.L/\(bI (Ve.bV S) s).pf=S.pf/\(bI (Ve.bV S) s).n=S.n:=fun s=>by
    unfold bI;split <;> exact⟨rfl,rfl,rfl⟩
   obtain⟨a1,a2,a3⟩:=hA (cV S);have HB:dc (bI (Ve.bV S) (cV S)).L (bI (Ve.bV S) (cV S)).pf (bI (Ve.bV S) (cV S)).n wd h:=by rw[a1,a2,a3];exact HT
   unfold sD;split
   .exact((All.Eo (r:=Ve.start (bI (Ve.bV S) (cV S))) HB (ek S.aY 6) _).asks (az.out S.Q S.t) _).Er seed _ 3 (E _)
   .exact HB
  .exact HT
theorem OY{seed:Int}{S S0:St}{H:List dU}{N:Nat}(I:dK wd h seed S0 H S)(HO:Ok N wd h S):∀k,S.bt+k<=1000000 ->
  Ok (N+k) wd h (gL wd h seed S k)/\∀x∈oZ wd h seed S k,kZ x
 | 0,_=>⟨HO,fun x hx=>by cases hx⟩
 | k+1,hk=>by
  obtain⟨h3,h4⟩:=OY I HO k (by omega);obtain⟨H1,h1,_⟩:=I.ticks k (by omega);refine⟨Px h3 (ana h3.all),fun x hx=>?_⟩;rcases List.mem_append.1 hx with h5 | h5
  .exact h4 x h5
  .exact am9 h1 h3.all x h5
end bg
end Go.Proofs.YtjolccidheflpaaGreatDoor
