/- strconv.AppendInt at base 10, by the contract of the library that is given, at this program. -/
import Derived.Test.YtjolccidheflpaaGreatDoorX36
import Derived.Shelf.Strconv.AppendIntPublic10
namespace Go.Proofs.YtjolccidheflpaaGreatDoor
open Go.Proofs.Tryz
set_option maxHeartbeats 8000000
set_option maxRecDepth 100000
section
open Go.Shelf Go.RowKit
def apf:Go.Shelf.Ren:=⟨fun | 176=>137 | 249=>185 | 288=>213 | 283=>240 | 284=>241 | 285=>242 | 286=>243 | 129=>274 | 317=>273 | 318=>275 | 319=>276 | 320=>277 | 337=>296 | 338=>297 | n=>n,fun | 37=>115 | 2=>2 | 3=>3 | 53=>330 | 4=>4 | 9=>9 | 171=>353 | 0=>0 | 173=>356 | 212=>396 | 51=>41 | 5=>5 | 20=>20 | 213=>397 | 46=>245 | 232=>425 | 233=>426 | n=>n,fun | 17=>18 | 18=>19 | 19=>20 | n=>n⟩
theorem apg:Go.Proofs.LaysM.n176 prog apf:=by constructor <;> first | kernel_rfl | (intro _;kernel_rfl) | (constructor <;> first | kernel_rfl | (intro _;kernel_rfl) | (constructor <;> first | kernel_rfl | (intro _;kernel_rfl)))
theorem aaS(B:Nat)(i:Int)(h0:-9223372036854775808<=i)(h1:i<=9223372036854775807)(sv:Value)(xs:List Int)(w:World)(hown:Row w B sv xs)(IV:B<=w.heap.size)(hl:xs.length<=1000000)(htab:Lib.TabBelow prog B w "internal/strconv.uint64pow10" .u64 Lib.pow10Tab):
  Calls prog 137 #[sv,Z i,Z 10] w fun e w'=>∃v',e=.returned v'/\Row w' B v' (xs++Ve.dec i)/\Below B w w':=by
 refine(Go.Proofs.Any.strconv_AppendInt_10 apg B xs.length i h0 h1 sv (xs.map (Value.int .u8)) w hown IV (by omega) htab).mono ?_;rintro e w' ⟨v',rfl,h2,h3,_⟩;refine⟨v',rfl,?_,h3⟩;show w'.ownsRow B 5 1 v' (xs++Ve.dec i).length ((xs++Ve.dec i).map (Value.int .u8));rw[lAq,List.map_append,show (Ve.dec i).length=(Lib.itoa i).length by unfold Ve.dec;rw[List.length_map],show (Ve.dec i).map (Value.int .u8)=Lib.byteCells (Lib.itoa i) by unfold Ve.dec Lib.byteCells;rw[List.map_map];rfl];exact h2
end
section
open Go.RowKit
theorem Ji(n:Int)(h0:-9223372036854775808<=n)(h1:n<=9223372036854775807):(Ve.dec n).length<=21:=by unfold Ve.dec;rw[List.length_map];exact Lib.itoa_length_le n h0 h1
theorem aa7(a:Ask):(Ve.bA a).size<=30:=by
 unfold Ve.bA oA;split
 .rw[strOfNums_size,ah.Db];omega
 .exact Nat.zero_le _
theorem Jj(ds:List Nat)(hd:∀d∈ds,d<6):∀k,(Ve.nc ds k).length<=22*k
 | 0=>by simp[Ve.nc]
 | k+1=>by
  have:=Jj ds hd k
  have h2:ds.getD k 0<6:=by
   rw[gE];cases h:ds[k]? with
   | none=>simp
   | some d=>exact hd d (List.mem_of_getElem? h)
  have h3:=Ji ((ds.getD k 0:Nat):Int) (by omega) (by omega);rw[Ve.nc,lAq,lAq];split <;> simp only[List.length_singleton,List.length_nil] <;> omega
theorem Jk(l:List Ask):∀k,(Ve.pn l k).length<=61*k
 | 0=>by simp[Ve.pn]
 | k+1=>by
  have:=Jk l k
  have h2:=aa7 (dD l k);rw[Ve.pn,lAq,lAq,Qq];simp;omega
section
variable {w W:World} {ad:Nat->Addr}
theorem aa8{B:Nat}(ht:Lib.TabBelow prog w.heap.size w "internal/strconv.uint64pow10" .u64 Lib.pow10Tab)(hb:U w W)(hB:w.heap.size<=B):Lib.TabBelow prog B W "internal/strconv.uint64pow10" .u64 Lib.pow10Tab :=
 fun w' h'=>ht w' (hb.trans (h'.mono hB))
theorem apI(bt:Nat)(ds:List Nat)(l:List Ask)(bY va:Value)(based sM:Nat)(W:World)(hs:Hid (bJ w ad))(ht:Hid (Lib.TabBelow prog w.heap.size w "internal/strconv.uint64pow10" .u64 Lib.pow10Tab))(hbw:Hid (U w W))(hbt:bt<=1000000)(hrd:Hid (W.ownsRow based 3 1 bY ds.length (ds.map fun d=>Z (d:Nat))))(iZ:Hid (W.ownsRow sM 95 8 va l.length (bz l)))(Bg:Hid (∀d∈ds,d<6))(hdl:ds.length<=6)(hal:l.length<=12):
  Calls prog 79 #[Z bt,bY,va] W fun e w'=>e=.returned (.string (Ve.iq bt ds l))/\U W w':=by
 obtain⟨EQ,Qr,jL⟩:=fA hrd;obtain⟨zg,ER,zh⟩:=fA iZ;obtain⟨md,sN⟩:=aG ds.length;obtain⟨iU,hma⟩:=aG l.length;rw[sN]at hrd jL hdl;rw[hma]at iZ zh hal;subst jL zh;have Qs:=Y sN;have Qt:=Y hma;have qV:Hid (Ve.iq bt ds l=strOfNums (((Ve.dec bt++[58])++Ve.nc ds md)++Ve.pn l iU)):=by show _=_;rw[<- sN,<- hma];rfl
 clear sN hma;have Jl:w.heap.size<=W.heap.size:=hbw.size;have auv:=Ji (bt:Int) (by omega) (by omega);have HI0:=Y (aaS W.heap.size (bt:Int) (by omega) (by omega) (.slice none 0 0) [] W (World.ownsRow_nil _ _ _ _) (E _) (by simp) (aa8 ht.out hbw Jl));generalize Ve.iq bt ds l=rb at *;go_enter func79,ntmps79
 go_wp2_with fail
 refine HI0.mono ?_;rintro e w1 ⟨v1,rfl,hr1,hb1⟩;have qm:W.heap.size<=w1.heap.size:=hb1.size;obtain⟨v2,w2,Qu,hr2,hg2⟩:=EP W.heap.size w1 v1 ([]++Ve.dec bt) [58] hr1 (by simp;omega) (by simp) qm;have HB2:Hid (U W w2):=below_grown (hb1.alloc qm _) (World.ownsRow.alloc hr1 _) (lTq qm (by simp)) hg2;simp only[List.nil_append]at hr2;have b_:=Y hr2;simp only[List.map_cons,List.map_nil,List.length_cons,List.length_nil]at Qu;have apJ:=Y Qu;clear Qu hr2 hg2 hr1 hb1;simp only[]
 go_wp2_with (at_builtin;refine wpList_append_run rfl _ _ 115 rfl _ _ _ rfl rfl apJ ?_)
 go_loopw [7,21] (fun v kv wr=>∃k:Nat,k<=md/\kv=Z k/\Row wr W.heap.size v ((Ve.dec bt++[58])++Ve.nc ds k)/\U W wr) (fun _ kv _=>md-(intOf kv).toNat)
 case atStart=>exact⟨0,by omega,rfl,by simpa [Ve.nc] using b_.out,HB2⟩
 case round =>
  obtain⟨k,hk,rfl,hrow,qT⟩:=hrel;have HR:=Y hrow;have HB:=Y qT;clear qT;have Qv:W.heap.size<=wr.heap.size:=HB.size;have apK:((Ve.dec bt++[58])++Ve.nc ds k).length<=1000:=by
   have:=Jj ds Bg k
   simp only[List.length_append,List.length_singleton];omega
  by_cases hlt:k<md
  .have aT:(k:Int)<md:=by omega
   have hkl:k<ds.length:=by rw[Qs.out];exact hlt
   obtain⟨g,hg⟩:∃g,EQ=some (O g 0):=by
    rcases hrd.2 with ⟨e1,_⟩ | ⟨g,cap,cur,e1,_⟩
    .cases e1;omega
    .simp only[Value.slice.injEq]at e1;exact⟨g,e1.1⟩
   subst hg;have Oi:wr.cell? (O g k)=some (Z (ds.getD k 0:Nat)):=by
    have h1:=World.ownsRow.cells (dh hrd HB) (g:=g) rfl k (Z (ds.getD k 0:Nat)) (by simp[List.getElem?_eq_getElem hkl,List.getD_eq_getElem?_getD]);have hp:(⟨g,0,none⟩:Addr).add k=(O g k):=by unfold Addr.add;split <;> simp_all
    rwa [hp]at h1
   have apL:ds.getD k 0<6:=by rw[gE,List.getElem?_eq_getElem hkl];exact Bg _ (List.getElem_mem hkl)
   have HN:Hid (Ve.nc ds (k+1)=Ve.nc ds k++((if 0<k then [44] else [])++Ve.dec ((ds.getD k 0:Nat):Int))):=rfl;generalize ds.getD k 0=d at *;have HI:=Y (fun (v:Value) (xs:List Int) (W':World) (h1:Row W' W.heap.size v xs) (h2:xs.length<=2000) (h3:U W W')=>aaS W.heap.size (d:Int) (by omega) (by omega) v xs W' h1 h3.size (by omega) (aa8 ht.out (hbw.trans (h3.mono Jl)) Jl));by_cases h0:0<k
   .have apM:(0:Int)<k:=by omega
    rw[if_pos h0]at HN;obtain⟨v5,aI,Qw,fI,nN⟩:=EP W.heap.size wr u7 _ [44] HR (by omega) (by simp) Qv;have cr:Hid (U W aI):=below_grown (HB.alloc Qv _) (World.ownsRow.alloc HR _) (lTq Qv (by simp)) nN;have bE:=Y fI;simp only[List.map_cons,List.map_nil,List.length_cons,List.length_nil]at Qw;have apN:=Y Qw;clear Qw fI nN hrow
    go_wp2_with (at_builtin;refine wpList_append_run rfl _ _ 115 rfl _ _ _ rfl rfl apN ?_)
    refine(HI _ _ _ bE (by simp only[List.length_append]at apK ⊢;simp;omega) cr).mono ?_;rintro e aA ⟨v6,rfl,fB,hb6⟩;have bk:=Y (cr.trans hb6);have bT:=Y fB;clear fB hb6;simp only[];go_wp2;refine⟨⟨k+1,hlt,by go_num,?_,bk⟩,by simp[intOf];omega⟩;rw[HN.out]
    have:=bT.out
    simp only[List.append_assoc]at this ⊢;exact this
   .have apM:¬ (0:Int)<k:=by omega
    rw[if_neg h0,List.nil_append]at HN;clear hrow
    go_wp2_with fail
    refine(HI _ _ _ HR (by omega) HB).mono ?_;rintro e aA ⟨v6,rfl,fB,hb6⟩;have bk:=Y (HB.trans hb6);have bT:=Y fB;clear fB hb6;simp only[];go_wp2;refine⟨⟨k+1,hlt,by go_num,?_,bk⟩,by simp[intOf];omega⟩;rw[HN.out]
    have:=bT.out
    simp only[List.append_assoc]at this ⊢;exact this
  .have aT:¬ (k:Int)<md:=by omega
   obtain rfl:k=md:=by omega
   obtain⟨gP,hwo⟩:∃gP,gP=wr:=⟨_,rfl⟩;subst hwo;obtain⟨aa9,Ij⟩:∃aa9,aa9=u7:=⟨_,rfl⟩;subst Ij;clear hrow
   go_wp2_with fail
   go_loopw [7,37] (fun v kv wr=>∃j:Nat,j<=iU/\kv=Z j/\Row wr W.heap.size v (((Ve.dec bt++[58])++Ve.nc ds k)++Ve.pn l j)/\U W wr) (fun _ kv _=>iU-(intOf kv).toNat)
   case atStart=>exact⟨0,by omega,rfl,by simpa [Ve.pn] using HR.out,HB⟩
   case round =>
    obtain⟨j,hj,rfl,hrow,qT⟩:=hrel;have w9:=Y hrow;have ES:=Y qT;clear qT;have Qx:W.heap.size<=wr.heap.size:=ES.size;have apO:(((Ve.dec bt++[58])++Ve.nc ds k)++Ve.pn l j).length<=2000:=by
     have:=Jk l j
     rw[lAq];omega
    by_cases pq:j<iU
    .have bC:(j:Int)<iU:=by omega
     have sH:j<l.length:=by rw[Qt.out];exact pq
     obtain⟨g,hg⟩:∃g,zg=some (O g 0):=by
      rcases iZ.2 with ⟨e1,_⟩ | ⟨g,cap,cur,e1,_⟩
      .cases e1;omega
      .simp only[Value.slice.injEq]at e1;exact⟨g,e1.1⟩
     subst hg;obtain⟨d0,d1,d2,d3,d4,d5,lO,t_⟩:=A_ (dh iZ ES) sH pq;have su:g<wr.heap.size:=bCq _ _ d0;have HN:Hid (Ve.pn l (j+1)=Ve.pn l j++([32]++Ve.m_ (Ve.bA (dD l j)) (Ve.bA (dD l j)).size)):=rfl;generalize dD l j=a at *;have bk:Hid (U wr (wr.alloc (.cells #[.int .u8 a.k,Z a.c,Z a.sq,Z a.it,Z a.sd,Z a.pr,Z a.q,Z a.id] 95))):=aj;have HE:=Y (SZ a.k a.c a.sq a.it a.sd a.pr a.q a.id ad (wr.alloc (.cells #[.int .u8 a.k,Z a.c,Z a.sq,Z a.it,Z a.sd,Z a.pr,Z a.q,Z a.id] 95)) (hs.later (hbw.trans ((ES.trans (bk.mono Qx)).mono Jl))));rw[show oA a.k a.c a.sq a.it a.sd a.pr a.q a.id=Ve.bA a from rfl]at HE;have WX:=aa7 a;generalize Ve.bA a=fo at *;generalize fq ad (ah.code a.k a.c a.sq a.it a.sd a.pr a.q a.id)=cp at *;clear hrow
     go_wp2_with fail
     refine HE.mono ?_;rintro e dH ⟨rfl,lQ⟩;have ic:=Y (ar bk lQ);have ew:=Y (dh w9 ic);have Qy:W.heap.size<=dH.heap.size:=lTq Qx ic.size;have aba:=ES.trans (ic.mono Qx);obtain⟨v8,fJ,Qz,CJ,y_⟩:=EP W.heap.size dH u7 _ [32] ew (by omega) (by simp) Qy;have kh:Hid (U W fJ):=below_grown (aba.alloc Qy _) (World.ownsRow.alloc ew _) (lTq Qy (by simp)) y_;have HD:=Y (apF W.heap.size v8 _ fo fJ CJ (by simp only[List.length_append]at apO ⊢;simp;omega) (by omega) kh.size);simp only[List.map_cons,List.map_nil,List.length_cons,List.length_nil]at Qz;have apP:=Y Qz;clear Qz CJ y_ lQ d0 d1 d2 d3 d4 d5 lO t_ aba;simp only[]
     go_wp2_with (at_builtin;refine wpList_append_run rfl _ _ 115 rfl _ _ _ rfl rfl apP ?_)
     refine HD.mono ?_;rintro e jP ⟨v9,rfl,abb,lU⟩;have N6:=Y (kh.trans lU);have CL:=Y abb;clear abb lU;simp only[];go_wp2;refine⟨⟨j+1,pq,by go_num,?_,N6⟩,by simp[intOf];omega⟩;rw[HN.out]
     have:=CL.out
     simp only[List.append_assoc]at this ⊢;exact this
    .have bC:¬ (j:Int)<iU:=by omega
     obtain rfl:j=iU:=by omega
     have hcv:=FE w9;clear hrow;go_wp2;go_ret;refine⟨?_,ES⟩;rw[qV.out];simp
end
section
variable {w W:World} {ad:Nat->Addr} {B:bO} {X:bQ} {wd h seed:Int} {S:Ve.St}
def Bc(S:Ve.St):List Value:=[.bool (S.on 0),Z (S.ak 0),Z (S.la 0),.string (S.aF 0),.bool (S.aY 0),.bool (S.on 1),Z (S.ak 1),Z (S.la 1),.string (S.aF 1),.bool (S.aY 1),.bool (S.on 2),Z (S.ak 2),Z (S.la 2),.string (S.aF 2),.bool (S.aY 2),.bool (S.on 3),Z (S.ak 3),Z (S.la 3),.string (S.aF 3),.bool (S.aY 3),.bool (S.on 4),Z (S.ak 4),Z (S.la 4),.string (S.aF 4),.bool (S.aY 4),.bool (S.on 5),Z (S.ak 5),Z (S.la 5),.string (S.aF 5),.bool (S.aY 5)]
theorem aaT(S:Ve.St):(Bc S).length=30:=rfl
theorem aph(S:Ve.St){k:Nat}(hk:k<6)(W:World):(Instr.index 112 (.agg (Bc S).toArray) (Z k)).run prog W=.ok (.agg #[.bool (S.on k),Z (S.ak k),Z (S.la k),.string (S.aF k),.bool (S.aY k)]) W:=by
 have:k=0\/k=1\/k=2\/k=3\/k=4\/k=5:=by omega
 unfold Bc;rcases this with rfl | rfl | rfl | rfl | rfl | rfl <;> exact rfl
theorem apj(S:Ve.St):(prog.info? 112).map (·.size)=some (Bc S).length:=by rw[aaT];kernel_rfl
theorem apk{W:World}(H:aM w W B X wd h seed S):W.rangeAt B.V 4 (Bc S):=by
 intro j v hv;have hj:j<30:=by
  rcases Nat.lt_or_ge j 30 with h | h
  .exact h
  .rw[List.getElem?_eq_none (by rw[aaT];exact h)]at hv;cases hv
 rw[H.at];rw[<- hv]
 iterate 30 (rcases j with _ | j;· rfl)
 omega
theorem apl(wr:World)(o:Obj)(u:Value)(e:TypeId):((wr.alloc o).alloc (.cells #[u] e)).cell? ⟨wr.heap.size+1,0,none⟩=some u:=by have hh:=hNq (wr.alloc o) (.cells #[u] e);rw[show (wr.alloc o).heap.size=wr.heap.size+1 from Array.size_push ..]at hh;exact(cR _ _ 0 _ _ _ hh).trans rfl
theorem aaU(aY:Nat->Bool):∀k,∀d∈Ve.ek aY k,d<k
 | 0,d,h=>by cases h
 | k+1,d,h=>by
  rw[Ve.ek,List.mem_append]at h;rcases h with h | h
  .have:=aaU aY k d h;omega
  .split at h
   .rw[List.mem_singleton.1 h];omega
   .cases h
theorem Qj(aY:Nat->Bool):∀k,(Ve.ek aY k).length<=k
 | 0=>by simp[Ve.ek]
 | k+1=>by
  have:=Qj aY k
  rw[Ve.ek,lAq];split <;> simp <;> omega
def lg(l:List Nat):List Value:=l.map fun d=>Z (d:Nat)
theorem aaV:∃i,prog.info? 3=some i/\i.zero=some (Z 0)/\i.size=1/\i.bytes=8:=⟨_,rfl,rfl,rfl,rfl⟩
theorem apm(W:World)(H:Hid (aM w W B X wd h seed S)):Calls prog 76 #[Rw B.V] W fun e w'=>∃v,e=.returned v/\w'.ownsRow W.heap.size 3 1 v (Ve.ek S.aY 6).length (lg (Ve.ek S.aY 6))/\U W w':=by
 obtain⟨i3,hi,hz0,hz1,hz2⟩:=aaV;have Hi:=Y hi;have fe:=Y hz0;have fg:=Y hz1;have fh:=Y hz2;clear hi hz0 hz1 hz2;have apn:=Y (fun k (hk:k<6) W=>aph S (k:=k) hk W);have apo:=Y (apk H);have iy:=Y (apj S);generalize hcc:Bc S=apq at *;go_enter func76,ntmps76
 go_wp2_with (refine wpList_load_mid rfl 112 _ rfl B.V 4 rfl apq _ apo underlying112 rfl iy ?_)
 go_loopw [3,10] (fun v kv wr=>∃k:Nat,k<=6/\kv=Z k/\wr.ownsRow W.heap.size 3 1 v (Ve.ek S.aY k).length (lg (Ve.ek S.aY k))/\U W wr) (fun _ kv _=>6-(intOf kv).toNat)
 case atStart=>exact⟨0,by omega,rfl,World.ownsRow_nil _ _ _ _,bRq _ _⟩
 case round =>
  obtain⟨k,hk,rfl,hrow,hb⟩:=hrel;have HR:=Y hrow;have HB:=Y hb;clear hrow hb;by_cases hlt:k<6
  .have aT:(k:Int)<6:=by omega
   have Bd:=fun W=>apn k hlt W;have hlen:=Qj S.aY k;have HN:Hid (Ve.ek S.aY (k+1)=Ve.ek S.aY k++if S.aY k=true then [k] else []):=rfl;have cr:Hid (U W (wr.alloc (.cells #[.bool (S.on k),Z (S.ak k),Z (S.la k),.string (S.aF k),.bool (S.aY k)] 111))):=HB.alloc HB.size _;have hwz:W.heap.size<=wr.heap.size:=HB.size;cases hd:S.aY k with
   | false =>
    rw[hd,if_neg (by decide),aNq]at HN;rw[hd]at cr Bd;go_wp2;refine⟨⟨k+1,hlt,by go_num,?_,cr⟩,by simp[intOf];omega⟩;rw[HN.out];exact World.ownsRow.alloc HR _
   | true =>
    rw[hd,if_pos rfl]at HN;rw[hd]at cr Bd
    go_wp2_with (at_builtin;refine wpList_append_own _ rfl _ _ 23 rfl W.heap.size 3 i3 (Z 0) 1 8 underlying23 Hi fe fg fh rfl (by decide) _ _ _ rfl (World.ownsRow.alloc (World.ownsRow.alloc HR _) _) ⟨wr.heap.size+1,0,none⟩ 1 1 [Z (k:Nat)] rfl rfl ?c1 ?c2 ?c3 ?c4 ?c5 ?_)
    case c1 =>
     intro j u hj;rcases j with _ | j
     .have:u=Z (k:Nat):=by simpa using hj.symm
      subst this;exact apl _ _ _ _
     .simp at hj
    case c2=>intro u hu;rw[List.mem_singleton.1 hu];rfl
    case c3=>unfold maxLen;omega
    case c4=>omega
    case c5=>first | omega | (simp;omega)
    intro v6 aA hown' hgrow _;have bk:Hid (U W aA):=below_grown (cr.alloc cr.size _) (World.ownsRow.alloc (World.ownsRow.alloc HR _) _) (lTq cr.size (by simp)) hgrow;have bT:Hid (aA.ownsRow W.heap.size 3 1 v6 (Ve.ek S.aY k++[k]).length (lg (Ve.ek S.aY k++[k]))):=by show aA.ownsRow _ _ _ _ _ _;unfold lg;rw[lAq,List.map_append];exact hown'
    clear hown' hgrow;go_wp2;refine⟨⟨k+1,hlt,by go_num,?_,bk⟩,by simp[intOf];omega⟩;rw[HN.out];exact bT
  .have aT:¬ (k:Int)<6:=by omega
   obtain rfl:k=6:=by omega
   go_wp2;go_ret;exact⟨_,rfl,HR,HB⟩
end
section
variable {w W W' W1:World} {ad:Nat->Addr} {b0 q:Nat} {B:bO} {X X' X1 X2:bQ} {wd h seed:Int} {S:Ve.St} {vp vr:Value} {r:Ve.cQ}
theorem cg.begin(H:aM w W B X wd h seed S)(ha:dc S.L S.pf S.n wd h):
  cg w W.heap.size (W.alloc (.cells #[Rw B.F,.slice none 0 0,.slice none 0 0] 240)) B X wd h seed S W.heap.size (.slice none 0 0) (.slice none 0 0) (Ve.start S) :=
 ⟨H.later aj,hNq _ _,World.ownsRow_nil _ _ _ _,World.ownsRow_nil _ _ _ _,E _,lTq H.lo (Nat.le_of_lt H.lt),by simp,
  fun c hc k hk=>(H.ig (.inr (.inr (.inr (.inl (.inr ⟨c,hc,hk⟩)))))).2,ha⟩
theorem aM.ET{base:Nat}{e:TypeId}{sz n j:Nat}{v u:Value}{xs:List Value}(H:aM w W B X wd h seed S)(hr:W.ownsRow base e sz v n xs)(he:e≠114):(W.setCell (O B.V j) u).ownsRow base e sz v n xs :=
 eV hr (aL.setCell W B.V j u) (fun k hk e1=>by
  obtain⟨_,cur,h2⟩:=cB hr hk;exact aN h2 H.blk he e1)
theorem cg.abd{S':Ve.St}{j:Nat}{u:Value}(R:cg w b0 W B X wd h seed S q vp vr r)(hv:aM w (W.setCell (O B.V j) u) B X wd h seed (zi S' r)):cg w b0 (W.setCell (O B.V j) u) B X wd h seed S' q vp vr r:=by refine⟨hv,?_,R.aV.ET R.pl (by decide),R.aV.ET R.rp (by decide),R.lo,R.nY,lTq R.hib (by simp),R.y7,R.all⟩;rw[(aL.setCell W B.V j u).block q (lBq R.blk) (aN R.blk R.aV.blk (by decide))];exact R.blk
theorem cg.apQ(R:cg w b0 W B X wd h seed S q vp vr r){c:Nat}(hc:c<6):cg w b0 (W.setCell ⟨B.V,4+c*5+4,none⟩ (.bool false)) B X wd h seed { S with aY:=upd S.aY c false } q vp vr r/\br W (W.setCell ⟨B.V,4+c*5+4,none⟩ (.bool false)) B X X:=by obtain⟨f1,f2⟩:=R.aV.set (S':=zi { S with aY:=upd S.aY c false } r) hc (j:=4) (by decide) (.bool false) (fun c' j' _ j8=>Qi (zi S r) (zi { S with aY:=upd S.aY c false } r) c false rfl rfl rfl rfl rfl c' j' j8) rfl rfl rfl ⟨rfl,rfl,rfl,rfl,rfl,rfl,rfl,rfl⟩;exact⟨R.abd f1,f2⟩
theorem cz.after(hs:br W W1 B X X1)(hf:cz W1 W' W.heap.size B X1 X2):br W W' B X X2:=by
 refine⟨hs.turned.trans hf.turned (fun k hk=>?_),fun k hk=>?_⟩
 .rcases hk with hk | hk
  .exact hs.new k (by
    rcases hk with e | e
    .exact .inr (.inl e)
    .exact .inr (.inr (.inl e)))
  .exact .inr hk
 .have h1:dV B X1 k\/W1.heap.size<=k:=by
   rcases hk with e | e | e | e | e | e
   .exact .inl (.inl e)
   .exact .inl (.inr (.inl e))
   .rcases hf.new k (.inr e) with h1 | h1
    .rcases h1 with h1 | h1
     .exact .inl (.inr (.inl h1))
     .exact .inl (.inr (.inr (.inl h1)))
    .exact .inr h1
   .rw[hf.qv]at e;exact .inl (.inr (.inr (.inr (.inl e))))
   .exact .inl (.inr (.inr (.inr (.inr (.inl e)))))
   .rw[hf.bZ]at e;exact .inl (.inr (.inr (.inr (.inr (.inr e)))))
  rcases h1 with h1 | h1
  .exact hs.new k h1
  .exact .inr (lTq hs.turned.size h1)
theorem abe{base:Nat}{e:TypeId}{sz n:Nat}{v:Value}{xs:List Value}(hr:W.ownsRow base e sz v n xs):∀k,v.ownBlock=some k->k<W.heap.size:=fun k hk=>by
 obtain⟨_,cur,h2⟩:=cB hr hk;exact lBq h2
theorem aM.apR(H:aM w W B X wd h seed S)(n:Nat):aM w (W.setCell (O B.V 35) (Z n)) B X wd h seed { S with bt:=n }/\br W (W.setCell (O B.V 35) (Z n)) B X X :=
 H.own (S':={ S with bt:=n }) (aU.setCell _ _ _ _) (by rw[block_setCell H.blk];rfl) ⟨rfl,rfl,rfl,rfl,rfl,rfl,rfl,rfl⟩
theorem aM.abf(H:aM w W B X wd h seed S)(n:Nat):aM w (W.setCell (O B.V 34) (Z n)) B X wd h seed { S with now:=n }/\br W (W.setCell (O B.V 34) (Z n)) B X X :=
 H.own (S':={ S with now:=n }) (aU.setCell _ _ _ _) (by rw[block_setCell H.blk];rfl) ⟨rfl,rfl,rfl,rfl,rfl,rfl,rfl,rfl⟩
theorem aM.apS(H:aM w W B X wd h seed S)(d:Bool):aM w (W.setCell (O B.V 36) (.bool d)) B X wd h seed { S with down:=d }/\br W (W.setCell (O B.V 36) (.bool d)) B X X :=
 H.own (S':={ S with down:=d }) (aU.setCell _ _ _ _) (by rw[block_setCell H.blk];rfl) ⟨rfl,rfl,rfl,rfl,rfl,rfl,rfl,rfl⟩
theorem apT(r:Ve.cQ)(c:Nat)(hl:∀i,i<3->(r.L i).length<=60):(Ve.sF r c).rp.length<=r.rp.length+180/\(Ve.sF r c).pl=r.pl:=by
 refine⟨?_,rfl⟩
 have:=Fl.FF (c:Int) r.L hl 3 (by decide)
 show (r.rp++(Fl.mF c r.L 3).map (Ve.tell Ve.rq)).length<=_;rw[lAq,List.length_map];omega
theorem apU(r:Ve.cQ)(a:Ask):(Ve.k5 r a).rp.length<=r.rp.length+1/\(Ve.k5 r a).pl.length<=r.pl.length+1:=by
 unfold Ve.k5 Ve.uD Ve.wQ;split
 .refine⟨?_,?_⟩ <;> (simp only[];split <;> simp)
 .refine⟨?_,?_⟩
  .simp only[List.length_append];split <;> simp
  .simp only[];split
   .exact Nat.le_succ_of_le (List.length_filter_le _ _)
   .simp
theorem apV{wd h:Int}{r:Ve.cQ}(H:dc r.L r.pf r.n wd h){i:Nat}(hi:i<3)(s:Int):(Ve.lH wd h r i s).rp.length<=r.rp.length+240+r.pl.length/\(Ve.lH wd h r i s).pl=r.pl:=by refine⟨?_,rfl⟩;have h1:=(Ve.Ep H hi s).1;have h2:=QA (Fl.mK r.L i (Ve.fO wd r i s)) i r.pl;show (r.rp++((Ve.fO wd r i s).map (Ve.uO (r.L i) (Ve.gW r i))++r.pl.flatMap (Ve.jF (Fl.mK r.L i (Ve.fO wd r i s)) i))).length<=_;rw[lAq,lAq,List.length_map];omega
theorem apW(seed:Int)(bt i:Nat)(hb:bt<=1000000)(hi:i<3):IntKind.u32.wrap (seed+IntKind.u32.wrap (IntKind.i64.wrap (IntKind.i64.wrap (3*(bt:Int))+(i:Int))))=Ve.p6 seed bt i:=by
 rw[IntWalk.i64_in (3*(bt:Int)) (by omega),IntWalk.i64_in (3*(bt:Int)+i) (by omega)];have e:∀n:Int,IntKind.u32.wrap n=n%4294967296:=fun n=>by simp[IntKind.wrap,IntKind.bits,IntKind.signed]
 rw[e,e];unfold Ve.p6;push_cast;rfl
theorem abg(ds:List Nat)(l:List Ask)(bY va:Value)(based sM:Nat)(W:World)(H:Hid (aM w W B X wd h seed S))(hs:Hid (bJ w ad))(hall:Hid (dc S.L S.pf S.n wd h))(hbt:S.bt<=1000000)(hrd:Hid (W.ownsRow based 3 1 bY ds.length (lg ds)))(iZ:Hid (W.ownsRow sM 95 8 va l.length (bz l)))(Bg:Hid (∀d∈ds,d<6))(hdl:ds.length<=6)(hal:l.length<=12):
  Calls prog 80 #[Rw B.V,bY,va] W fun e w'=>∃v X',e=.returned v/\aM w w' B X' wd h seed (Ve.nZ wd h seed S ds l)/\br W w' B X X'/\kx w' W.heap.size v (Ve.iQ wd h seed S ds l).rp/\dc (Ve.nZ wd h seed S ds l).L (Ve.nZ wd h seed S ds l).pf (Ve.nZ wd h seed S ds l).n wd h/\(Ve.iQ wd h seed S ds l).rp.length<=2900/\Ve.Same S.pf (Ve.nZ wd h seed S ds l).pf:=by
 obtain⟨EQ,Qr,jL⟩:=fA hrd;obtain⟨zg,ER,zh⟩:=fA iZ;obtain⟨md,sN⟩:=aG ds.length;obtain⟨iU,hma⟩:=aG l.length;have fW:=Y (abe hrd);have DZ:=Y (abe iZ);have jC:Hid (Ve.nZ wd h seed S ds l = { S with L:=(Ve.fP wd h seed S.bt (Ve.j3 (Ve.jG (Ve.start S) ds md) l iU) 3).L,pf:=(Ve.fP wd h seed S.bt (Ve.j3 (Ve.jG (Ve.start S) ds md) l iU) 3).pf,n:=(Ve.fP wd h seed S.bt (Ve.j3 (Ve.jG (Ve.start S) ds md) l iU) 3).n,aY:=Ve.w5 S.aY 6,bt:=S.bt+1 }):=by show _=_;rw[<- sN,<- hma];rfl
 have HRR:Hid (Ve.iQ wd h seed S ds l=Ve.fP wd h seed S.bt (Ve.j3 (Ve.jG (Ve.start S) ds md) l iU) 3):=by show _=_;rw[<- sN,<- hma];rfl
 rw[sN]at hrd jL hdl;rw[hma]at iZ zh hal;subst jL zh;have Qs:=Y sN;have Qt:=Y hma;clear sN hma;generalize Ve.nZ wd h seed S ds l=auw at *;generalize Ve.iQ wd h seed S ds l=RR at *;have cG:Hid (U W (W.alloc (.cells #[Rw B.F,.slice none 0 0,.slice none 0 0] 240))):=aj;have gi:=Y (cg.begin H hall);have HD0:=Y (dh hrd cG);have apX:=Y (dh iZ cG);have p5:Hid (br W (W.alloc (.cells #[Rw B.F,.slice none 0 0,.slice none 0 0] 240)) B X X):=br.of_below cG B X;have c1:W.cell? (O B.V 1)=some (Rw B.F):=H.at 1;go_enter func80,ntmps80
 go_wp2_with fail
 go_loopw [21] (fun kv wr=>∃(k:Nat) (X':bQ) (vp vr:Value),k<=md/\kv=Z k/\cg w W.heap.size wr B X' wd h seed S W.heap.size vp vr (Ve.jG (Ve.start S) ds k)/\br W wr B X X'/\wr.ownsRow based 3 1 (.slice EQ md Qr) md (lg ds)/\wr.ownsRow sM 95 8 (.slice zg iU ER) iU (bz l)/\(Ve.jG (Ve.start S) ds k).rp.length<=180*k/\(Ve.jG (Ve.start S) ds k).pl=[]/\Ve.Same S.pf (Ve.jG (Ve.start S) ds k).pf) (fun kv _=>md-(intOf kv).toNat)
 case atStart=>exact⟨0,X,_,_,by omega,rfl,gi,p5,HD0,apX,E 0,rfl,Ve.Same.refl _⟩
 case round =>
  obtain⟨k,X1,abh,abj,hk,rfl,hr1,hs1,o8,ha1,hlr,G0,hsm⟩:=hrel;have QB:=Y hsm;clear hsm;have HR1:=Y hr1;have kq:=Y hs1;have HD1:=Y o8;have HA1:=Y ha1;clear hr1 hs1 o8 ha1 c1;by_cases hlt:k<md
  .have aT:(k:Int)<md:=by omega
   have hkl:k<ds.length:=by rw[Qs.out];exact hlt
   obtain⟨g,hg⟩:∃g,EQ=some (O g 0):=by
    rcases hrd.2 with ⟨e1,_⟩ | ⟨g,cap,cur,e1,_⟩
    .cases e1;omega
    .simp only[Value.slice.injEq]at e1;exact⟨g,e1.1⟩
   subst hg;have Oi:wr.cell? (O g k)=some (Z (ds.getD k 0:Nat)):=by
    have h1:=World.ownsRow.cells HD1 (g:=g) rfl k (Z (ds.getD k 0:Nat)) (by unfold lg;simp[List.getElem?_eq_getElem hkl,List.getD_eq_getElem?_getD]);have hp:(⟨g,0,none⟩:Addr).add k=(O g k):=by unfold Addr.add;split <;> simp_all
    rwa [hp]at h1
   have apL:ds.getD k 0<6:=by rw[gE,List.getElem?_eq_getElem hkl];exact Bg _ (List.getElem_mem hkl)
   have HN:Hid (Ve.jG (Ve.start S) ds (k+1)=Ve.sF (Ve.jG (Ve.start S) ds k) (ds.getD k 0)):=rfl;have EU:=Y (Ve.apY (Ve.jG (Ve.start S) ds k) (ds.getD k 0));have kX:=Y (apT (Ve.jG (Ve.start S) ds k) (ds.getD k 0) (fun i hi=>(HR1.all.ok.aO i hi).len));generalize ds.getD k 0=d at *;generalize Ve.jG (Ve.start S) ds k=r1 at *;have HC:=Y (aoQ d wr HR1 hs (by omega))
   go_wp2_with fail
   refine HC.mono ?_;rintro e w2 ⟨rfl,X2,A8,A9,h2,hf2⟩;have HD2:=Y (hf2.row HR1.aV HD1 (by decide) fW);have cJ:=Y (hf2.row HR1.aV HA1 (by decide) DZ);have HS2:=Y (cz.after kq hf2);have b_:=Y h2;clear h2 hf2 Oi;simp only[];go_wp2;refine⟨⟨k+1,X2,A8,A9,hlt,by go_num,?_,HS2,HD2,cJ,?_,?_,?_⟩,by simp[intOf];omega⟩
   .rw[HN.out];exact b_
   .rw[HN.out];have:=kX.1;omega
   .rw[HN.out,kX.out.2];exact G0
   .rw[HN.out];exact QB.trans EU
  .have aT:¬ (k:Int)<md:=by omega
   obtain rfl:k=md:=by omega
   clear hk hlt aT;have abk:(Ve.jG (Ve.start S) ds k).pl.length=0:=by rw[G0];rfl
   clear G0;obtain⟨rd,abl⟩:=aG (Ve.jG (Ve.start S) ds k);simp only[abl]at HR1 jC HRR hlr abk QB;clear abl
   go_wp2_with fail
   go_loopw [28] (fun kv wr=>∃(n:Nat) (X':bQ) (vp vr:Value),n<=6/\kv=Z n/\cg w W.heap.size wr B X' wd h seed { S with aY:=Ve.w5 S.aY n } W.heap.size vp vr rd/\br W wr B X X'/\wr.ownsRow sM 95 8 (.slice zg iU ER) iU (bz l)) (fun kv _=>6-(intOf kv).toNat)
   case atStart=>exact⟨0,X1,_,_,by omega,rfl,HR1,kq,HA1⟩
   case round =>
    obtain⟨d,X1,abh,abj,hd,rfl,hr2,hs2,ha2⟩:=hrel;have b_:=Y hr2;have HS2:=Y hs2;have cJ:=Y ha2;clear hr2 hs2 ha2;by_cases Jn:d<6
    .have PS:(d:Int)<6:=by omega
     have apZ:Hid (Ve.w5 S.aY (d+1)=upd (Ve.w5 S.aY d) d false):=rfl;generalize Ve.w5 S.aY d=ap0 at *;obtain⟨h3,hs3⟩:=b_.apQ Jn;have HR3:=Y h3;have eJ:=Y (HS2.trans hs3);have ko:=Y (b_.aV.ET (j:=4+d*5+4) (u:=.bool false) cJ (by decide));clear h3 hs3;have cd:wr.cell? ⟨B.V,4+d*5+4,none⟩=some (.bool (ap0 d)):=b_.aV.conn Jn (j:=4) (by decide);have fz:∀j,wr.frozen? (O B.V j)=false:=fun j=>b_.aV.free j;go_wp2;refine⟨⟨d+1,X1,abh,abj,Jn,by go_num,?_,eJ,ko⟩,by simp[intOf];omega⟩;rw[apZ.out];exact HR3
    .have PS:¬ (d:Int)<6:=by omega
     have abm:d=6:=by omega
     have HR1:=b_;have kq:=HS2;have HA1:=cJ;rw[abm]at HR1;clear hd Jn abm;obtain⟨dd,abn⟩:=aG (Ve.w5 S.aY 6);simp only[abn]at HR1 jC;clear abn
     go_wp2_with fail
     go_loopw [40] (fun kv wr=>∃(j:Nat) (X':bQ) (vp vr:Value),j<=iU/\kv=Z j/\cg w W.heap.size wr B X' wd h seed { S with aY:=dd } W.heap.size vp vr (Ve.j3 rd l j)/\br W wr B X X'/\wr.ownsRow sM 95 8 (.slice zg iU ER) iU (bz l)/\(Ve.j3 rd l j).rp.length<=1080+j/\(Ve.j3 rd l j).pl.length<=j/\Ve.Same S.pf (Ve.j3 rd l j).pf) (fun kv _=>iU-(intOf kv).toNat)
     case atStart=>exact⟨0,X1,_,_,by omega,rfl,HR1,kq,HA1,by show rd.rp.length<=_;omega,by show rd.pl.length<=_;omega,QB⟩
     case round =>
      obtain⟨j,X2,A8,A9,hj,rfl,hr2,hs2,ha2,abo,abp,hsm⟩:=hrel;have QC:=Y hsm;clear hsm;have b_:=Y hr2;have HS2:=Y hs2;have cJ:=Y ha2;clear hr2 hs2 ha2 hlr abk;by_cases pq:j<iU
      .have bC:(j:Int)<iU:=by omega
       have sH:j<l.length:=by rw[Qt.out];exact pq
       obtain⟨g,hg⟩:∃g,zg=some (O g 0):=by
        rcases iZ.2 with ⟨e1,_⟩ | ⟨g,cap,cur,e1,_⟩
        .cases e1;omega
        .simp only[Value.slice.injEq]at e1;exact⟨g,e1.1⟩
       subst hg;obtain⟨d0,d1,d2,d3,d4,d5,lO,t_⟩:=A_ cJ sH pq;have su:g<wr.heap.size:=bCq _ _ d0;have HN:Hid (Ve.j3 rd l (j+1)=Ve.k5 (Ve.j3 rd l j) (dD l j)):=rfl;have kX:=Y (apU (Ve.j3 rd l j) (dD l j));have EU:=Y (Ve.ap1 (Ve.j3 rd l j) (dD l j));generalize dD l j=a at *;generalize Ve.j3 rd l j=r1 at *;have bk:Hid (U wr (wr.alloc (.cells (aX a) 95))):=aj;have bT:=Y (b_.later bk);have gH:=Y (cz.below bk W.heap.size B X2);have HC:=Y (aoD a _ bT hs (by omega) (by omega));unfold bM aX at *
       go_wp2_with fail
       refine HC.mono ?_;rintro e dH ⟨rfl,QD,ap2,wY,h7,Cj⟩;have QE:=gH.trans Cj;have wZ:=Y (QE.row b_.aV cJ (by decide) DZ);have lV:=Y (cz.after HS2 QE);have ew:=Y h7;clear h7 Cj QE d0 d1 d2 d3 d4 d5 lO t_;simp only[];go_wp2;refine⟨⟨j+1,QD,ap2,wY,pq,by go_num,?_,lV,wZ,?_,?_,?_⟩,by simp[intOf];omega⟩
       .rw[HN.out];exact ew
       .rw[HN.out];have:=kX.1;omega
       .rw[HN.out];have:=kX.2;omega
       .rw[HN.out];exact QC.trans EU
      .have bC:¬ (j:Int)<iU:=by omega
       obtain rfl:j=iU:=by omega
       clear hj pq bC;obtain⟨ra,abq⟩:=aG (Ve.j3 rd l j);simp only[abq]at b_ jC HRR abo abp QC;clear abq
       go_wp2_with fail
       go_loopw [47] (fun kv wr=>∃(i:Nat) (X':bQ) (vp vr:Value),i<=3/\kv=Z i/\cg w W.heap.size wr B X' wd h seed { S with aY:=dd } W.heap.size vp vr (Ve.fP wd h seed S.bt ra i)/\br W wr B X X'/\(Ve.fP wd h seed S.bt ra i).rp.length<=2000+300*i/\(Ve.fP wd h seed S.bt ra i).pl.length<=12/\Ve.Same S.pf (Ve.fP wd h seed S.bt ra i).pf) (fun kv _=>3-(intOf kv).toNat)
       case atStart=>exact⟨0,X2,_,_,by omega,rfl,b_,HS2,by show ra.rp.length<=_;omega,by show ra.pl.length<=_;omega,QC⟩
       case round =>
        obtain⟨i,yl,ap3,za,hi,rfl,hr3,hs3,ap4,ap5,hsm⟩:=hrel;have abr:=Y hsm;clear hsm;have HR3:=Y hr3;have eJ:=Y hs3;clear hr3 hs3 abo abp;by_cases Bh:i<3
        .have Cg:(i:Int)<3:=by omega
         have HN:Hid (Ve.fP wd h seed S.bt ra (i+1)=Ve.lH wd h (Ve.fP wd h seed S.bt ra i) i (Ve.p6 seed S.bt i)):=rfl;have EU:=Y (Ve.ap6 HR3.all Bh (Ve.p6 seed S.bt i));have kX:=Y (apV HR3.all Bh (Ve.p6 seed S.bt i));generalize Ve.fP wd h seed S.bt ra i=r1 at *;have zP:Ra.IsU (Ve.p6 seed S.bt i):=by unfold Ve.p6 Ra.IsU;omega
         have HC:=Y (fun W' R=>ap7 (w:=w) (b0:=W.heap.size) (B:=B) (X:=yl) (wd:=wd) (h:=h) (seed:=seed) (S:={ S with aY:=dd }) (q:=W.heap.size) (vp:=ap3) (vr:=za) (r:=r1) i Bh (Ve.p6 seed S.bt i) zP W' R hs (by omega) (by omega));obtain⟨bl,val,hcl,ay⟩:=gu (fun W'=>W'.heap[B.V]?=some (.cells (j5 B seed (zi { S with aY:=dd } r1)) 114 (0,0)));obtain⟨x0,hx0⟩:=ay wr.drew HR3.aV.blk;have hnx:Nonempty bl:=⟨x0⟩;have s0:∀x,(val x).cell? (O B.V 0)=some (.int .u32 seed):=fun x=>by rw[cR _ _ _ _ _ _ (hcl x)];rfl
         have s1:∀x,(val x).cell? (O B.V 35)=some (Z S.bt):=fun x=>by rw[cR _ _ _ _ _ _ (hcl x)];rfl
         have aH:=Y ay;clear ay hcl;go_wp2;refine kt (val:=val) [14] [0,1,2,3,4,5,6,7,8,9,10,11,12,13,14] (by kernel_rfl) (by kernel_rfl) x0 hx0 ?_;rw[hx0];clear hx0
         iterate 14 (refine d7 rfl rfl (fun K hK=>?_);refine⟨by rfl,?_⟩;unfold aQ;go_simp;refine hK _ ?_;clear hK K)
         refine cY rfl rfl (fun K hK=>?_);refine⟨by rfl,?_⟩;unfold aB;go_simp;rw[apW seed S.bt i hbt Bh];have ap8:=Y (HR3.later cw);refine(HC _ ap8).mono ?_;rintro e aI ⟨rfl,sg,ap9,aqa,h5,Pj⟩;have bE:=Y h5;have fu:=Y (cz.after eJ ((cz.below cw W.heap.size B yl).trans Pj));clear h5 Pj;refine⟨_,rfl,aH _ bE.aV.blk,hK _ _ ?_⟩;clear hK K aH s0 s1;refine jX ?_;clear x0 hnx;clear val;clear bl;go_wp2;refine⟨⟨i+1,sg,ap9,aqa,Bh,by go_num,?_,fu,?_,?_,?_⟩,by simp[intOf];omega⟩
         .rw[HN.out];exact bE
         .rw[HN.out];have:=kX.1;omega
         .rw[HN.out,kX.out.2];exact ap5
         .rw[HN.out];exact abr.trans EU
        .have Cg:¬ (i:Int)<3:=by omega
         obtain rfl:i=3:=by omega
         clear hi Bh Cg;generalize Ve.fP wd h seed S.bt ra 3=rt at *;obtain⟨h6,gR⟩:=HR3.aV.apR (S.bt+1);have bT:=Y (HR3.abd (S':={ S with aY:=dd,bt:=S.bt+1 }) h6);have ej:=Y (eJ.trans gR);clear h6 gR;have auy:wr.cell? (O B.V 35)=some (Z S.bt):=HR3.aV.at 35;have fz:∀j,wr.frozen? (O B.V j)=false:=fun j=>HR3.aV.free j;have abt:B.V<wr.heap.size:=HR3.aV.lt;have auz:W.heap.size≠B.V:=aN HR3.blk HR3.aV.blk (by decide);have c2:wr.cell? (O W.heap.size 2)=some za:=HR3.cells.2.2;go_wp2;go_ret;refine⟨za,yl,rfl,?_,ej,?_,?_,?_,?_⟩
         .rw[jC.out];exact bT.aV
         .rw[HRR.out];exact bT.rp
         .rw[jC.out];exact bT.all
         .rw[HRR.out];exact ap4
         .rw[jC.out];exact abr
end
section
variable {w W:World} {ad:Nat->Addr} {B:bO} {X:bQ} {wd h seed:Int} {S:Ve.St}
def EJ(S:Ve.St)(n:Nat):Ve.St:={ S with on:=upd S.on n false,ak:=upd S.ak n 0,la:=upd S.la n 0,aF:=upd S.aF n ⟨#[]⟩,aY:=upd S.aY n false }
theorem ao5(S:Ve.St)(n:Nat):Ve.leave (EJ S n) n=Ve.gone S n:=by unfold Ve.leave EJ Ve.gone;simp only[s7];rfl
theorem aM.zero(H:aM w W B X wd h seed S){n:Nat}(hn:n<6):
  aM w (((((W.setCell ⟨B.V,4+n*5,none⟩ (.bool false)).setCell ⟨B.V,4+n*5+1,none⟩ (Z 0)).setCell ⟨B.V,4+n*5+2,none⟩ (Z 0)).setCell ⟨B.V,4+n*5+3,none⟩ (.string ⟨#[]⟩)).setCell ⟨B.V,4+n*5+4,none⟩ (.bool false)) B X wd h seed (EJ S n)/\br W (((((W.setCell ⟨B.V,4+n*5,none⟩ (.bool false)).setCell ⟨B.V,4+n*5+1,none⟩ (Z 0)).setCell ⟨B.V,4+n*5+2,none⟩ (Z 0)).setCell ⟨B.V,4+n*5+3,none⟩ (.string ⟨#[]⟩)).setCell ⟨B.V,4+n*5+4,none⟩ (.bool false)) B X X:=by
 obtain⟨d1,d2⟩:=H.aaN hn false 0 0;obtain⟨e1,e2⟩:=d1.set (S':={ w6 S n false 0 0 with aF:=upd S.aF n ⟨#[]⟩ }) hn (j:=3) (by decide) (.string ⟨#[]⟩) (fun c' j' _ j8=>aaM (w6 S n false 0 0) { w6 S n false 0 0 with aF:=upd S.aF n ⟨#[]⟩ } n ⟨#[]⟩ rfl rfl rfl rfl rfl c' j' j8) rfl rfl rfl ⟨rfl,rfl,rfl,rfl,rfl,rfl,rfl,rfl⟩;obtain⟨f1,f2⟩:=e1.set (S':=EJ S n) hn (j:=4) (by decide) (.bool false) (fun c' j' _ j8=>Qi { w6 S n false 0 0 with aF:=upd S.aF n ⟨#[]⟩ } (EJ S n) n false rfl rfl rfl rfl rfl c' j' j8) rfl rfl rfl ⟨rfl,rfl,rfl,rfl,rfl,rfl,rfl,rfl⟩;exact⟨f1,(d2.trans e2).trans f2⟩
theorem ao6{S:Ve.St}(h:∀c,c<6->0<=S.la c/\S.la c<=1000000)(n:Nat):∀c,c<6->0<=(Ve.hang S n).la c/\(Ve.hang S n).la c<=1000000:=by
 intro c hc;unfold Ve.hang;split
 .unfold Ve.gone upd
  simp only;split
  .exact⟨by decide,by decide⟩
  .exact h c hc
 .exact h c hc
theorem aaO{S:Ve.St}(h:∀c,c<6->0<=S.la c/\S.la c<=1000000):∀n,∀c,c<6->0<=(Ve.hangs S n).la c/\(Ve.hangs S n).la c<=1000000
 | 0=>h
 | n+1=>ao6 (aaO h n) n
theorem ao7(W:World)(H:Hid (aM w W B X wd h seed S))(hla:Hid (∀c,c<6->0<=S.la c/\S.la c<=1000000)):Calls prog 75 #[Rw B.V] W fun e w'=>e=.returned (.tuple #[])/\∃X',aM w w' B X' wd h seed (Ve.hangs S 6)/\br W w' B X X':=by
 go_enter func75,ntmps75;go_wp2
 go_loopw [3] (fun kv wr=>∃(k:Nat) (X':bQ),k<=6/\kv=Z k/\aM w wr B X' wd h seed (Ve.hangs S k)/\br W wr B X X') (fun kv _=>6-(intOf kv).toNat)
 case atStart=>exact⟨0,X,by omega,rfl,H,br.refl _ _ _⟩
 case round =>
  obtain⟨k,X',hk,rfl,hv,hst⟩:=hrel;have dM:=Y hv;have HS:=Y hst;clear hv hst;by_cases hlt:k<6
  .have aT:(k:Int)<6:=by omega
   have HN:Hid (Ve.hangs S (k+1)=Ve.hang (Ve.hangs S k) k):=rfl;have hl:=aaO hla k k hlt;generalize Ve.hangs S k=T at *;have HL:=Y (fun W'=>anW (T.on k) (T.ak k) (T.la k) T.now W' ⟨hl.1,by omega⟩);have HH:Hid (Ve.hang T k=if a_.late (T.on k) (T.la k) T.now=true then Ve.gone T k else T):=rfl;obtain⟨bl,val,hcl,ay⟩:=gu (fun W'=>W'.heap[B.V]?=some (.cells (j5 B seed T) 114 (0,0)));obtain⟨x0,hx0⟩:=ay wr.drew dM.blk;have hnx:Nonempty bl:=⟨x0⟩;have s0:∀x,(val x).cell? ⟨B.V,4+k*5,none⟩=some (.bool (T.on k)):=fun x=>by rw[cR _ _ _ _ _ _ (hcl x)];exact sL B seed T hlt (j:=0) (by decide)
   have s1:∀x,(val x).cell? ⟨B.V,4+k*5+1,none⟩=some (Z (T.ak k)):=fun x=>by rw[cR _ _ _ _ _ _ (hcl x)];exact sL B seed T hlt (j:=1) (by decide)
   have s2:∀x,(val x).cell? ⟨B.V,4+k*5+2,none⟩=some (Z (T.la k)):=fun x=>by rw[cR _ _ _ _ _ _ (hcl x)];exact sL B seed T hlt (j:=2) (by decide)
   have s3:=fun x=>ag (hcl x) 34 rfl;have aH:=Y ay;clear ay hcl hl;unfold my at HL;go_wp2;refine kt (val:=val) [11] [0,1,2,3,4,5,6,7,8,9,10,11] (by kernel_rfl) (by kernel_rfl) x0 hx0 ?_;rw[hx0];clear hx0
   iterate 11 (refine d7 rfl rfl (fun K hK=>?_);refine⟨by rfl,?_⟩;unfold aQ;go_simp;refine hK _ ?_;clear hK K)
   refine cY rfl rfl (fun K hK=>?_);refine⟨by rfl,?_⟩;unfold aB;go_simp;refine(HL _).mono ?_;rintro e aI ⟨rfl,bR⟩;have uP:U wr aI:=cw.trans bR;have HV5:=Y (dM.later uP);have fu:=Y (HS.below uP);refine⟨_,rfl,aH _ HV5.blk,hK _ _ ?_⟩;clear hK K bR uP aH s0 s1 s2 s3;refine jX ?_;clear x0 hnx;clear val;clear bl;cases aaP:a_.late (T.on k) (T.la k) T.now with
   | false =>
    rw[aaP,if_neg (by decide)]at HH;go_wp2;exact⟨⟨k+1,X',hlt,by go_num,by rw[HN.out,HH.out];exact HV5,fu⟩,by simp[intOf];omega⟩
   | true =>
    rw[aaP,if_pos rfl]at HH;have c0:aI.cell? ⟨B.V,4+k*5,none⟩=some (.bool (T.on k)):=HV5.conn hlt (j:=0) (by decide);have c1:aI.cell? ⟨B.V,4+k*5+1,none⟩=some (Z (T.ak k)):=HV5.conn hlt (j:=1) (by decide);have c2:aI.cell? ⟨B.V,4+k*5+2,none⟩=some (Z (T.la k)):=HV5.conn hlt (j:=2) (by decide);have c3:aI.cell? ⟨B.V,4+k*5+3,none⟩=some (.string (T.aF k)):=HV5.conn hlt (j:=3) (by decide);have c4:aI.cell? ⟨B.V,4+k*5+4,none⟩=some (.bool (T.aY k)):=HV5.conn hlt (j:=4) (by decide);have fz:∀j,aI.frozen? (O B.V j)=false:=fun j=>HV5.free j;obtain⟨hz1,hz2⟩:=HV5.zero hlt;have Ba:=Y (aaQ k hlt _ hz1);have HZ2:=Y hz2;rw[ao5]at Ba;clear hz1 hz2
    go_wp2_with fail
    refine Ba.mono ?_;rintro e aA ⟨rfl,PN,h6,gR⟩;have lK:=Y h6;have ej:=Y ((fu.trans HZ2).trans gR);clear h6 gR;simp only[];go_wp2;exact⟨⟨k+1,PN,hlt,by go_num,by rw[HN.out,HH.out];exact lK,ej⟩,by simp[intOf];omega⟩
  .have aT:¬ (k:Int)<6:=by omega
   obtain rfl:k=6:=by omega
   go_wp2;go_end0;exact⟨rfl,X',dM,HS⟩
end
theorem vZ(L:Nat->List Ask)(t:Nat):∀k,(az.l6 L t k).length<=2*k
 | 0=>by simp[az.l6]
 | k+1=>by
  have:=vZ L t k
  rw[az.l6,lAq,lKq];omega
theorem aqv(bt:Nat)(ds:List Nat)(l:List Ask)(hb:bt<=1000000)(hd:∀d∈ds,d<6)(hl:ds.length<=6)(ha:l.length<=12):(Ve.iq bt ds l).size<=10000:=by unfold Ve.iq Ve.Jb;rw[strOfNums_size];have h1:=Ji (bt:Int) (by omega) (by omega);have h2:=Jj ds hd ds.length;have h3:=Jk l l.length;simp only[List.length_append,List.length_singleton];omega
theorem uI(S:Ve.St):∀n,(Ve.hangs S n).now=S.now/\(Ve.hangs S n).bt=S.bt/\(Ve.hangs S n).down=S.down/\(Ve.hangs S n).L=S.L/\(Ve.hangs S n).pf=S.pf/\(Ve.hangs S n).n=S.n/\(Ve.hangs S n).tp=S.tp/\(Ve.hangs S n).cut=S.cut/\(Ve.hangs S n).left=S.left
 | 0=>⟨rfl,rfl,rfl,rfl,rfl,rfl,rfl,rfl,rfl⟩
 | n+1=>by
  have h:=uI S n;unfold Ve.hangs Ve.hang;split
  .exact h
  .exact h
section
variable {w W W' W1:World} {ad:Nat->Addr} {B:bO} {X X':bQ} {wd h seed:Int} {S:Ve.St}
theorem aqw(s:ByteArray)(W:World)(H:aM w W B X wd h seed S)(hs:bJ w ad)(hsz:s.size<=10000)(sQ:S.tp.length<=1048576)(mQ:S.left<=9223372036854775807):
  Calls prog 78 #[Rw B.d,.string s] W fun e w'=>∃u uQ,e=.returned u/\(Ve.lI S s=true->u=.nilIface)/\(Ve.lI S s=false->∃x,u=.iface 412 x)/\aM w w' B { X with bZ:=uQ } wd h seed (Ve.bI S s)/\br W w' B X { X with bZ:=uQ }/\aL W w' (fun k=>k=B.d\/X.bZ.ownBlock=some k):=by
 have abE:=H.sent hs;have h12:12<w.heap.size:=bCq _ _ hs.et;by_cases hf:1048576<S.tp.length+(12+s.size)
 .have hfull:Ve.full S s=true:=by unfold Ve.full;simpa using hf
  refine(aqs w.heap.size B.d X.bZ S.tp s S.cut S.left W _ H.dk hsz sQ hf (abE.cell 7 (by decide))).mono ?_;rintro e w' ⟨rfl,hb⟩;have e2:Ve.bI S s=S:=by unfold Ve.bI;rw[if_pos hfull]
  have e3:Ve.lI S s=false:=by unfold Ve.lI;rw[hfull];rfl
  rw[e2,e3];exact⟨_,X.bZ,rfl,(fun e=>by cases e),fun _=>⟨_,rfl⟩,H.later hb,br.of_below hb B X,aL.of_below hb _⟩
 .have hfull:Ve.full S s=false:=by unfold Ve.full;simpa using hf
  refine(aqt w.heap.size B.d X.bZ S.tp s S.cut S.left W _ _ H.dk hsz (by omega) mQ (abE.cell 8 (by decide)) (by omega) H.bG.size).mono ?_;rintro e w' ⟨rfl,uQ,hd,hfr⟩;obtain⟨k1,k2⟩:=H.tape hd hfr.turned hfr.new;have e2:Ve.bI S s = { S with tp:=QN S.tp S.cut S.left s,left:=QO S.cut S.left s }:=by unfold Ve.bI;rw[hfull,if_neg (by decide)];rfl
  have e3:Ve.lI S s=Jp S.cut S.left s:=by unfold Ve.lI Jp;rw[hfull];rfl
  rw[e2,e3];refine⟨_,uQ,rfl,fun e=>by rw[if_pos e],fun e=>by rw[e,if_neg (by decide)];exact⟨_,rfl⟩,k1,k2,hfr.turned⟩
theorem aM.abF{base:Nat}{e:TypeId}{sz n:Nat}{v:Value}{xs:List Value}(H:aM w W B X wd h seed S)(ht:aL W W' (fun k=>k=B.d\/X.bZ.ownBlock=some k))(hr:W.ownsRow base e sz v n xs)(he:e≠117/\e≠5):W'.ownsRow base e sz v n xs :=
 eV hr ht (fun k hk e1=>by
  obtain⟨_,cur,h2⟩:=cB hr hk;rcases e1 with e1 | e1
  .exact aN h2 H.dk.cell he.1 e1
  .exact H.dk.row.w7 h2 he.2 e1)
theorem aM.aqx{Be:Nat->Value}{base:Nat}{e:TypeId}{sz n:Nat}{v:Value}{xs:List Value}(H:aM w W B X wd h seed S)(hs:i_ W W' B.q X.qv Be)(hr:W.ownsRow base e sz v n xs)(he:e≠232/\e≠95):W'.ownsRow base e sz v n xs :=
 eV hr hs.turned (fun k hk e1=>by
  obtain⟨_,cur,h2⟩:=cB hr hk;rcases e1 with rfl | ⟨c,hc,h1⟩
  .exact aN h2 H.it.cell he.1 rfl
  .obtain⟨_,l9,h3⟩:=cB (H.it.row c hc) h1
   exact aN h2 h3 he.2 rfl)
theorem abv(W:World)(H:Hid (aM w W B X wd h seed S))(hd:S.down=true):
  Calls prog 41 #[Rw B.V] W fun e w'=>e=.returned (.slice none 0 0)/\w'=W:=by
 have Jc:W.cell? (O B.V 36)=some (.bool true):=by rw[<- hd];exact H.at 36
 clear hd;go_enter func41,ntmps41;go_wp2;go_ret;exact⟨rfl,rfl⟩
theorem aqy(W:World)(H:Hid (aM w W B X wd h seed S))(hs:Hid (bJ w ad))(ht:Hid (Lib.TabBelow prog w.heap.size w "internal/strconv.uint64pow10" .u64 Lib.pow10Tab))(hd:S.down=false)(hall:Hid (dc S.L S.pf S.n wd h))(hla:Hid (∀c,c<6->0<=S.la c/\S.la c<=1000000))(QS:S.now<=1000000)(hbt:S.bt<=1000000)(sQ:S.tp.length<=1048576)(mQ:S.left<=9223372036854775807):
  Calls prog 41 #[Rw B.V] W fun e w'=>∃v X',e=.returned v/\aM w w' B X' wd h seed (Ve.df wd h seed S)/\br W w' B X X'/\kx w' W.heap.size v (Ve.je wd h seed S)/\dc (Ve.df wd h seed S).L (Ve.df wd h seed S).pf (Ve.df wd h seed S).n wd h/\(Ve.je wd h seed S).length<=2900/\Ve.Same S.pf (Ve.df wd h seed S).pf:=by
 have ou:Hid (Ve.df wd h seed S=if (S.now+1)%3=0 then Ve.sD wd h seed (Ve.b9 S) else Ve.b9 S):=by show _=_;unfold Ve.df;rw[hd,if_neg (by decide)]
 have kR:Hid (Ve.je wd h seed S=if (S.now+1)%3=0 then Ve.AX wd h seed (Ve.b9 S) else []):=by show _=_;unfold Ve.je;rw[hd,if_neg (by decide)]
 have Jc:W.cell? (O B.V 36)=some (.bool false):=by rw[<- hd];exact H.at 36
 have c34:W.cell? (O B.V 34)=some (Z S.now):=H.at 34;have fz:∀j,W.frozen? (O B.V j)=false:=fun j=>H.free j;obtain⟨h1,hs1⟩:=H.abf (S.now+1);have abG:=Y (ao7 _ h1 hla);have kq:=Y hs1;clear h1 hs1;have HN:=Y (uI { S with now:=S.now+1 } 6);have rY:Hid (Ve.hangs { S with now:=S.now+1 } 6=Ve.b9 S):=rfl;rw[rY.out]at abG HN;generalize Ve.b9 S=T at *;generalize Ve.df wd h seed S=Fv at *;generalize Ve.je wd h seed S=MU at *;go_enter func41,ntmps41
 go_wp2_with fail
 refine abG.mono ?_;rintro e w2 ⟨rfl,X2,h2,hs2⟩;have H2:=Y h2;have HS2:=Y (kq.trans hs2);clear h2 hs2 Jc c34 fz;have c34:w2.cell? (O B.V 34)=some (Z ((S.now:Int)+1)):=by
  have:=H2.at 34
  rw[this];show some (Z (T.now:Int))=_;rw[HN.out.1];rfl
 simp only[];by_cases abH:(S.now+1)%3=0
 .have aqz:(((S.now:Int)+1)%3 != 0)=false:=by
   have:((S.now:Int)+1)%3=0:=by omega
   rw[this];rfl
  rw[if_pos abH]at ou kR;have aqA:T.bt=S.bt:=HN.2.1;have Ba:=Y (fun W' (h':U w2 W')=>apm W' (H2.later h'));have hout:(az.out T.Q T.t).length<=12:=vZ T.Q T.t 6;have hdl:=Qj T.aY 6;have HD6:=Y (aaU T.aY 6);have aqB:Hid (Ve.sD wd h seed T=if Ve.lI (Ve.bV T) (Ve.iq T.bt (Ve.ek T.aY 6) (az.out T.Q T.t))=true then Ve.nZ wd h seed (Ve.bI (Ve.bV T) (Ve.iq T.bt (Ve.ek T.aY 6) (az.out T.Q T.t))) (Ve.ek T.aY 6) (az.out T.Q T.t) else { Ve.bI (Ve.bV T) (Ve.iq T.bt (Ve.ek T.aY 6) (az.out T.Q T.t)) with down:=true }):=rfl;have aqC:Hid (Ve.AX wd h seed T=if Ve.lI (Ve.bV T) (Ve.iq T.bt (Ve.ek T.aY 6) (az.out T.Q T.t))=true then (Ve.iQ wd h seed (Ve.bI (Ve.bV T) (Ve.iq T.bt (Ve.ek T.aY 6) (az.out T.Q T.t))) (Ve.ek T.aY 6) (az.out T.Q T.t)).rp else []):=rfl;have QT:=aqv T.bt (Ve.ek T.aY 6) (az.out T.Q T.t) (by omega) HD6 hdl hout;rw[aqB.out]at ou;rw[aqC.out]at kR;generalize Ve.ek T.aY 6=ds at *;obtain⟨l,hl⟩:=aG (az.out T.Q T.t);have HL:=Y hl;rw[hl]at ou kR hout QT;clear hl;obtain⟨bl,val,hcl,ay⟩:=gu (fun W'=>W'.heap[B.V]?=some (.cells (j5 B seed T) 114 (0,0)));obtain⟨x0,hx0⟩:=ay w2.drew H2.blk;have hnx:Nonempty bl:=⟨x0⟩;have s0:=fun x=>ag (hcl x) 2 rfl;have aH:=Y ay;clear ay hcl;go_wp2;refine kt (val:=val) [1,6] [0,2,3,4,5,1,6,7,8] (by kernel_rfl) (by kernel_rfl) x0 hx0 ?_;rw[hx0];clear hx0
  iterate 5 (refine d7 rfl rfl (fun K hK=>?_);refine⟨by rfl,?_⟩;unfold aQ;go_simp;refine hK _ ?_;clear hK K)
  refine cY rfl rfl (fun K hK=>?_);refine⟨by rfl,?_⟩;unfold aB;go_simp;refine(Ba _ cw).mono ?_;rintro e w3 ⟨bY,rfl,hrd,hb3⟩;have Jq:U w2 w3:=cw.trans hb3;have av:=Y Jq;have HD3:=Y hrd;have H3:=Y (H2.later Jq);have eJ:=Y (HS2.below Jq);refine⟨_,rfl,aH _ H3.blk,hK _ _ ?_⟩;clear hK K hb3 Jq hrd;refine cY rfl rfl (fun K hK=>?_);refine⟨by rfl,?_⟩;unfold aB;go_simp;refine(V_ _ H3.it).mono ?_;rintro e w4 ⟨va,abI,rfl,iZ,hit,sr,_⟩;rw[HL.out]at iZ;obtain⟨h4,cK⟩:=H3.take hit sr;have d8:Hid (aM w w4 B { X2 with qv:=abI } wd h seed (Ve.bV T)):=h4;have dL:=Y (eJ.trans cK);have HD4:=Y (H3.aqx sr HD3 (by decide));have gF:=Y iZ;refine⟨_,rfl,aH _ d8.blk,hK _ _ ?_⟩;clear hK K h4 cK iZ hit sr s0 aH
  iterate 2 (refine d7 rfl rfl (fun K hK=>?_);refine⟨by rfl,?_⟩;unfold aQ;go_simp;refine hK _ ?_;clear hK K)
  refine jX ?_;clear x0 hnx;clear val;clear bl;obtain⟨EQ,Qr,jL⟩:=fA HD4;obtain⟨zg,ER,zh⟩:=fA gF;subst jL zh;generalize uo:Ve.bV T=iI at *;have hb4:iI.bt=T.bt:=by rw[<- uo];rfl
  have abJ:iI.tp=T.tp:=by rw[<- uo];rfl
  have hl4:iI.left=T.left:=by rw[<- uo];rfl
  have abK:Hid (dc iI.L iI.pf iI.n wd h):=by obtain⟨_,_,_,e1,e2,e3,_⟩:=HN.out;show dc _ _ _ _ _;rw[<- uo];show dc T.L T.pf T.n wd h;rw[e1,e2,e3];exact hall
  have aqD:iI.tp.length<=1048576:=by rw[abJ,HN.out.2.2.2.2.2.2.1];exact sQ
  have aqE:iI.left<=9223372036854775807:=by rw[hl4,HN.out.2.2.2.2.2.2.2.2];exact mQ
  rw[<- hb4]at ou kR QT;have auD:iI.bt<=1000000:=by omega
  clear hb4 aqA abJ hl4
  go_wp2_with fail
  generalize N1:({ X2 with qv:=abI }:bQ)=p9 at *;generalize hrb:Ve.iq iI.bt ds l=rb at *;have Jr:=Y (fun W' (h':U w4 W')=>apI iI.bt ds l _ _ _ _ W' hs ht ((d8.later h').bG) (by omega) (dh HD4 h') (dh gF h') HD6 hdl hout);rw[hrb]at Jr;obtain⟨bl,val,hcl,ay⟩:=gu (fun W'=>W'.heap[B.V]?=some (.cells (j5 B seed iI) 114 (0,0)));obtain⟨x0,hx0⟩:=ay w4.drew d8.blk;have hnx:Nonempty bl:=⟨x0⟩;have s0:=fun x=>ag (hcl x) 3 rfl;have s1:=fun x=>ag (hcl x) 35 rfl;have aH:=Y ay;clear ay hcl;refine kt (val:=val) [10,11] [0,1,2,3,4,5,6,7,8,9,10,11,12] (by kernel_rfl) (by kernel_rfl) x0 hx0 ?_;rw[hx0];clear hx0
  iterate 10 (refine d7 rfl rfl (fun K hK=>?_);refine⟨by rfl,?_⟩;unfold aQ;go_simp;refine hK _ ?_;clear hK K)
  refine cY rfl rfl (fun K hK=>?_);refine⟨by rfl,?_⟩;unfold aB;go_simp;refine(Jr _ cw).mono ?_;rintro e aI ⟨rfl,bR⟩;have uP:U w4 aI:=cw.trans bR;have H5:=Y (d8.later uP);have fu:=Y (dL.below uP);have HD5:=Y (dh HD4 uP);have ze:=Y (dh gF uP);refine⟨_,rfl,aH _ H5.blk,hK _ _ ?_⟩;clear hK K bR uP;have cW:=Y (aqw rb aI H5 hs QT aqD aqE);have wS:Hid ((Ve.bI iI rb).bt=iI.bt/\(Ve.bI iI rb).L=iI.L/\(Ve.bI iI rb).pf=iI.pf/\(Ve.bI iI rb).n=iI.n):=by show _/\_;unfold Ve.bI;split <;> exact⟨rfl,rfl,rfl,rfl⟩
  have aqF:Hid (j5 B seed (Ve.bI iI rb)=j5 B seed iI):=by show _=_;unfold Ve.bI;split <;> rfl
  generalize auE:Ve.bI iI rb=S6 at *;refine cY rfl rfl (fun K hK=>?_);refine⟨by rfl,?_⟩;unfold aB;go_simp;refine cW.mono ?_;rintro e aA ⟨u,auF,rfl,hu1,hu2,h6,gR,A1⟩;have lK:=Y h6;have ej:=Y (fu.trans gR);have aqG:=Y (H5.abF A1 HD5 (by decide));have jm:=Y (H5.abF A1 ze (by decide));refine⟨_,rfl,aH _ (by rw[<- aqF.out];exact lK.blk),hK _ _ ?_⟩;clear hK K h6 gR A1 s0 s1 aH;cases zj:Ve.lI iI rb with
  | true =>
   obtain rfl:=hu1 zj;rw[zj,if_pos rfl]at ou kR;refine d7 rfl rfl (fun K hK=>?_);refine⟨by rfl,?_⟩;unfold aQ;go_simp;refine hK _ ?_;clear hK K;refine jX ?_;clear x0 hnx;clear val;clear bl;have aqH:Hid (dc S6.L S6.pf S6.n wd h):=by obtain⟨_,e1,e2,e3⟩:=wS.out;show dc _ _ _ _ _;rw[e1,e2,e3];exact abK
   have EW:=Y (abg ds l _ _ _ _ aA lK hs aqH (by rw[wS.out.1];omega) aqG jm HD6 hdl hout)
   go_wp2_with fail
   refine EW.mono ?_;rintro e dH ⟨v7,QD,rfl,h7,qy,vv,abL,aqI,Js⟩;have yU:=Y h7;have lV:=Y (ej.trans qy);have ew:Hid (kx dH W.heap.size v7 (Ve.iQ wd h seed S6 ds l).rp):=ij vv ej.turned.size;have wZ:=Y abL;have aqJ:Hid (Ve.Same S.pf (Ve.nZ wd h seed S6 ds l).pf):=by
    have e2:=wS.2.2.1;rw[e2]at Js;have e4:iI.pf=S.pf:=by rw[<- uo];exact HN.2.2.2.2.1
    rw[e4]at Js;exact Js
   clear h7 qy vv abL Js;simp only[];go_wp2;go_ret;rw[ou.out,kR.out];exact⟨_,QD,rfl,yU,lV,ew,wZ,aqI,aqJ⟩
  | false =>
   obtain⟨x,rfl⟩:=hu2 zj;rw[zj,if_neg (by decide)]at ou kR;refine d7 rfl rfl (fun K hK=>?_);refine⟨by rfl,?_⟩;unfold aQ;go_simp;refine hK _ ?_;clear hK K;refine jX ?_;clear x0 hnx;clear val;clear bl;obtain⟨h7,qy⟩:=lK.apS true;have yU:=Y h7;have lV:=Y (ej.trans qy);clear h7 qy;have Jc:aA.cell? (O B.V 36)=some (.bool S6.down):=lK.at 36;have fz:∀j,aA.frozen? (O B.V j)=false:=fun j=>lK.free j;go_wp2;go_ret;rw[ou.out,kR.out];obtain⟨_,e1,e2,e3⟩:=wS.out;refine⟨_,_,rfl,yU,lV,World.ownsRow_nil _ _ _ _,?_,by simp,?_⟩
   .show dc S6.L S6.pf S6.n wd h
    rw[e1,e2,e3];exact abK
   .show Ve.Same S.pf S6.pf
    rw[e2,<- uo];show Ve.Same S.pf T.pf;rw[HN.out.2.2.2.2.1];exact Ve.Same.refl _
 .have aqz:(((S.now:Int)+1)%3 != 0)=true:=by
   have:((S.now:Int)+1)%3≠0:=by omega
   simpa using this
  rw[if_neg abH]at ou kR;go_wp2;go_ret;rw[ou.out,kR.out];obtain⟨_,_,_,e1,e2,e3,_⟩:=HN.out;refine⟨_,X2,rfl,H2,HS2,World.ownsRow_nil _ _ _ _,?_,by simp,?_⟩
  .rw[e1,e2,e3];exact hall
  .rw[e2];exact Ve.Same.refl _
structure Ve.Ok (N:Nat) (wd h:Int) (S:Ve.St):Prop where
 all:dc S.L S.pf S.n wd h
 la:∀c,c<6->0<=S.la c/\S.la c<=N
 now:S.now<=N
 bt:S.bt<=N
 tp:S.tp.length<=1048576
 left:S.left<=9223372036854775807
 aF:∀c,c<6->(S.aF c).size<30
theorem aqK(S:Ve.St)(s:ByteArray)(ht:S.tp.length<=1048576):(Ve.bI S s).tp.length<=1048576/\(Ve.bI S s).left<=S.left/\(Ve.bI S s).now=S.now/\(Ve.bI S s).bt=S.bt/\(Ve.bI S s).la=S.la/\(Ve.bI S s).aF=S.aF:=by
 unfold Ve.bI;by_cases hf:Ve.full S s=true
 .rw[if_pos hf];exact⟨ht,E _,rfl,rfl,rfl,rfl⟩
 .rw[if_neg hf]
  have h1:¬ 1048576<S.tp.length+(12+s.size):=by intro h;apply hf;unfold Ve.full;simpa using h
  have hlen:(bL.rec s.data.toList).length=12+s.size:=by rw[bL.wW,rh]
  refine⟨?_,?_,rfl,rfl,rfl,rfl⟩
  .show (S.tp++_).length<=_
   rw[lAq];split
   .rw[lKq];omega
   .omega
  .show (if S.cut=true then S.left-(12+s.size) else S.left)<=S.left
   split <;> omega
theorem QU{S:Ve.St}(h:∀c,c<6->(S.aF c).size<30):∀n,∀c,c<6->((Ve.hangs S n).aF c).size<30
 | 0=>h
 | n+1=>fun c hc=>by
  unfold Ve.hangs Ve.hang;split
  .unfold Ve.gone upd
   simp only;split
   .decide
   .exact QU h n c hc
  .exact QU h n c hc
theorem QV{S:Ve.St}{N:Nat}(h:∀c,c<6->0<=S.la c/\S.la c<=N):∀n,∀c,c<6->0<=(Ve.hangs S n).la c/\(Ve.hangs S n).la c<=N
 | 0=>h
 | n+1=>fun c hc=>by
  unfold Ve.hangs Ve.hang;split
  .unfold Ve.gone upd
   simp only;split
   .exact⟨by omega,by omega⟩
   .exact QV h n c hc
  .exact QV h n c hc
theorem Px{N:Nat}(hok:Ve.Ok N wd h S)(ha:dc (Ve.df wd h seed S).L (Ve.df wd h seed S).pf (Ve.df wd h seed S).n wd h):Ve.Ok (N+1) wd h (Ve.df wd h seed S):=by
 have MB:=hok.now;have hb1:=hok.bt;have hT:∀c,c<6->0<=(Ve.b9 S).la c/\(Ve.b9 S).la c<=((N+1:Nat):Int):=QV (S:={ S with now:=S.now+1 }) (fun c hc=>⟨(hok.la c hc).1,by have:=(hok.la c hc).2;show S.la c<=_;omega⟩) 6;have hL:∀c,c<6->((Ve.b9 S).aF c).size<30:=QU (S:={ S with now:=S.now+1 }) hok.aF 6;obtain⟨e1,e2,e3,e4,e5,e6,e7,e8,e9⟩:=uI { S with now:=S.now+1 } 6;have f1:(Ve.b9 S).now=S.now+1:=e1;have f2:(Ve.b9 S).bt=S.bt:=e2;have f7:(Ve.b9 S).tp=S.tp:=e7;have f9:(Ve.b9 S).left=S.left:=e9;have sQ:=hok.tp;have mQ:=hok.left;obtain⟨g1,g2,g3,g4,g5,g6⟩:=aqK (Ve.bV (Ve.b9 S)) (Ve.cV (Ve.b9 S)) (by show (Ve.b9 S).tp.length<=_;rw[f7];exact sQ);have aqL:(Ve.bI (Ve.bV (Ve.b9 S)) (Ve.cV (Ve.b9 S))).now=(Ve.b9 S).now:=g3;have A7:(Ve.bI (Ve.bV (Ve.b9 S)) (Ve.cV (Ve.b9 S))).bt=(Ve.b9 S).bt:=g4;have g2':(Ve.bI (Ve.bV (Ve.b9 S)) (Ve.cV (Ve.b9 S))).left<=(Ve.b9 S).left:=g2;have QW:(Ve.bI (Ve.bV (Ve.b9 S)) (Ve.cV (Ve.b9 S))).la=(Ve.b9 S).la:=g5;have QX:(Ve.bI (Ve.bV (Ve.b9 S)) (Ve.cV (Ve.b9 S))).aF=(Ve.b9 S).aF:=g6;clear e1 e2 e3 e4 e5 e6 e7 e8 e9 g2 g3 g4 g5 g6;obtain⟨A,hA⟩:=aG (Ve.bI (Ve.bV (Ve.b9 S)) (Ve.cV (Ve.b9 S)));rw[hA]at g1 g2' aqL A7 QW QX;by_cases hd:S.down=true
 .have e:Ve.df wd h seed S=S:=by unfold Ve.df;rw[if_pos hd]
  rw[e]at ha ⊢;exact⟨ha,fun c hc=>⟨(hok.la c hc).1,by have:=(hok.la c hc).2;omega⟩,by omega,by omega,sQ,mQ,hok.aF⟩
 .by_cases hm:(S.now+1)%3=0
  .by_cases zj:Ve.lI (Ve.bV (Ve.b9 S)) (Ve.cV (Ve.b9 S))=true
   .have e:Ve.df wd h seed S=Ve.nZ wd h seed A (Ve.ek (Ve.b9 S).aY 6) (az.out (Ve.b9 S).Q (Ve.b9 S).t):=by
     unfold Ve.df Ve.sD;rw[if_neg hd,if_pos hm,if_pos zj,hA]
    rw[e]at ha ⊢;refine⟨ha,?_,?_,?_,g1,?_,?_⟩
    .show ∀c,c<6->0<=A.la c/\A.la c<=((N+1:Nat):Int)
     rw[QW];exact hT
    .show A.now<=_
     omega
    .show A.bt+1<=_
     omega
    .show A.left<=_
     omega
    .show ∀c,c<6->(A.aF c).size<30
     rw[QX];exact hL
   .have e:Ve.df wd h seed S = { A with down:=true }:=by
     unfold Ve.df Ve.sD;rw[if_neg hd,if_pos hm,if_neg zj,hA]
    rw[e]at ha ⊢;refine⟨ha,?_,?_,?_,g1,?_,?_⟩
    .show ∀c,c<6->0<=A.la c/\A.la c<=((N+1:Nat):Int)
     rw[QW];exact hT
    .show A.now<=_
     omega
    .show A.bt<=_
     omega
    .show A.left<=_
     omega
    .show ∀c,c<6->(A.aF c).size<30
     rw[QX];exact hL
  .have e:Ve.df wd h seed S=Ve.b9 S:=by unfold Ve.df;rw[if_neg hd,if_neg hm]
   rw[e]at ha ⊢;exact⟨ha,hT,by omega,by omega,by rw[f7];exact sQ,by omega,hL⟩
theorem anM(W:World)(H:aM w W B X wd h seed S)(hs:bJ w ad)(ht:Lib.TabBelow prog w.heap.size w "internal/strconv.uint64pow10" .u64 Lib.pow10Tab){N:Nat}(hok:Ve.Ok N wd h S)(hN:N<=1000000):
  Calls prog 41 #[Rw B.V] W fun e w'=>∃v X',e=.returned v/\aM w w' B X' wd h seed (Ve.df wd h seed S)/\br W w' B X X'/\kx w' W.heap.size v (Ve.je wd h seed S)/\Ve.Ok (N+1) wd h (Ve.df wd h seed S)/\(Ve.je wd h seed S).length<=2900/\Ve.Same S.pf (Ve.df wd h seed S).pf:=by
 cases hd:S.down with
 | true =>
  refine(abv W H hd).mono ?_;rintro e w' ⟨rfl,rfl⟩;have e1:Ve.df wd h seed S=S:=by unfold Ve.df;rw[if_pos hd]
  have e2:Ve.je wd h seed S=[]:=by unfold Ve.je;rw[if_pos hd]
  have e3:=Px (seed:=seed) hok (by rw[e1];exact hok.all);rw[e2];rw[e1]at e3 ⊢;exact⟨_,X,rfl,H,br.refl _ _ _,World.ownsRow_nil _ _ _ _,e3,by simp,Ve.Same.refl _⟩
 | false =>
  have hn:=hok.now;have hb:=hok.bt;refine(aqy W H hs ht hd hok.all (fun c hc=>⟨(hok.la c hc).1,by have:=(hok.la c hc).2;omega⟩) (by omega) (by omega) hok.tp hok.left).mono ?_;rintro e w' ⟨v,X',rfl,h1,h2,h3,h4,h5,h6⟩;exact⟨v,X',rfl,h1,h2,h3,Px hok h4,h5,h6⟩
end
def Ve.init(ref cash stock:Int):Ve.St:=⟨fun _=>[],Fl.jQ cash stock 6,Fl.vw ref,fun _=>[],0,fun _=>false,fun _=>0,fun _=>0,fun _=>⟨#[]⟩,fun _=>false,[],false,0,0,0,false⟩
section
variable {w w0 W:World} {ad:Nat->Addr} {B:bO} {X:bQ} {wd h seed:Int} {S:Ve.St}
theorem aM.ajd(hb:U w0 w)(H:aM w W B X wd h seed S):aM w0 W B X wd h seed S:=by have hz:=hb.size;refine⟨H.blk,⟨H.fl.blk,H.fl.it,fun i hi=>⟨(H.fl.aO i hi).cell,lTq hz (H.fl.aO i hi).lo,ij (H.fl.aO i hi).row hz⟩,H.fl.qz,H.fl.ne,H.fl.ap,H.fl.dJ,lTq hz H.fl.lo,lTq hz H.fl.oH,fun i hi=>lTq hz (H.fl.oI i hi),hb.trans (H.fl.bG.mono hz)⟩,⟨H.it.cell,lTq hz H.it.lo,H.it.turn,fun c hc=>ij (H.it.row c hc) hz,H.it.few,H.it.apart⟩,⟨H.dk.cell,?_,lTq hz H.dk.lo⟩,lTq hz H.lo⟩;obtain⟨g,cap,cur,fz,e1,e2,e3⟩:=H.dk.row;exact⟨g,cap,cur,fz,e1,lTq hz e2,e3⟩
def jb(seed wd h ref cash stock:Int):Array Value:=#[.int .u32 seed,Z wd,Z h,Z ref,Z cash,Z stock]
structure Jg (w W:World) (B:bO) (wd h seed ref cash stock:Int):Prop where
 blk:W.heap[B.V]?=some (.cells (j5 B seed (Ve.init ref cash stock)) 114 (0,0))
 fl:bB w W B.F B.P B.I B.b (fun _=>.slice none 0 0) (fun _=>[]) (Fl.jQ cash stock 6) (Fl.vw ref) wd h
 it:dS W w.heap.size B.q (fun _=>.slice none 0 0) 0 (fun _=>[])
 lo:w.heap.size<=B.V
theorem Jg.aV{ref cash stock:Int}{bZ:Value}{tp:List UInt8}{cut:Bool}{left:Nat}(N:Jg w W B wd h seed ref cash stock)(hb:U w0 w)(hd:eD W w0.heap.size B.d bZ tp cut left):aM w0 W B ⟨fun _=>.slice none 0 0,fun _=>.slice none 0 0,bZ⟩ wd h seed { Ve.init ref cash stock with tp:=tp,cut:=cut,left:=left }:=by have hz:=hb.size;exact⟨N.blk,⟨N.fl.blk,N.fl.it,fun i hi=>⟨(N.fl.aO i hi).cell,lTq hz (N.fl.aO i hi).lo,ij (N.fl.aO i hi).row hz⟩,N.fl.qz,N.fl.ne,N.fl.ap,N.fl.dJ,lTq hz N.fl.lo,lTq hz N.fl.oH,fun i hi=>lTq hz (N.fl.oI i hi),hb.trans (N.fl.bG.mono hz)⟩,⟨N.it.cell,lTq hz N.it.lo,N.it.turn,fun c hc=>ij (N.it.row c hc) hz,N.it.few,N.it.apart⟩,hd,lTq hz N.lo⟩
theorem aaX(seed wd h ref cash stock:Int)(d:Nat)(W:World)(hs:Hid (bJ W ad))(hr:Hid (bm.jK wd h=true))(hf:Hid (ah.aK ref 1 1000=true))(HF:Hid (Fl.Fits cash stock)):
  Calls prog 53 #[.agg (jb seed wd h ref cash stock),Rw d] W fun e w'=>∃B:bO,e=.returned (.tuple #[Rw B.V,.nilIface])/\B.d=d/\Jg W w' B wd h seed ref cash stock:=by
 have HB1:Hid (U W (W.alloc (.cells (jb seed wd h ref cash stock) 45))):=aj;have EL:(W.alloc (.cells (jb seed wd h ref cash stock) 45)).heap[W.heap.size]?=some (.cells (jb seed wd h ref cash stock) 45 (0,0)):=hNq _ _;have EM:(W.alloc (.cells (jb seed wd h ref cash stock) 45)).heap.size=W.heap.size+1:=Array.size_push ..;have Qk:=Y EL;have Ql:=Y EM;have aaY:=Y (af6 wd h ref cash stock _ (hs.later HB1).ED hr hf HF);clear EL EM;unfold eo at aaY;unfold jb at *;go_enter func53,ntmps53
 go_wp2_with fail
 refine aaY.mono ?_;rintro e w3 ⟨F,P,I,b,rfl,hfl⟩;have vI:=Y hfl;have av:=Y hfl.bG;clear hfl;have hc:w3.heap[W.heap.size]?=some (.cells #[.int .u32 seed,Z wd,Z h,Z ref,Z cash,Z stock] 45 (0,0)):=by rw[av.out.block _ (by rw[Ql.out];omega)];exact Qk
 obtain⟨bl,val,hcl,ay⟩:=gu (fun W'=>W'.heap[W.heap.size]?=some (.cells #[.int .u32 seed,Z wd,Z h,Z ref,Z cash,Z stock] 45 (0,0)));obtain⟨x0,hx0⟩:=ay w3.drew hc;have hnx:Nonempty bl:=⟨x0⟩;have s0:=fun x=>ag (hcl x) 0 rfl;have aH:=Y ay;have HC:=Y hc;clear ay hcl hc;simp only[];go_wp2;refine kt (val:=val) [3,6] [0,1,2,4,3,5,6,7,8] (by kernel_rfl) (by kernel_rfl) x0 hx0 ?_;rw[hx0];clear hx0
 iterate 4 (refine d7 rfl rfl (fun K hK=>?_);refine⟨by rfl,?_⟩;unfold aQ;go_simp;refine hK _ ?_;clear hK K)
 refine cY rfl rfl (fun K hK=>?_);refine⟨by rfl,?_⟩;unfold aB;go_simp;refine(ait _).mono ?_;rintro e w4 ⟨rfl,hit,hb4⟩;have Qm:U w3 w4:=cw.trans hb4;have xO:=Y hit;have bS:=Y Qm;have F9:Hid (w4.heap[W.heap.size]?=some (.cells #[.int .u32 seed,Z wd,Z h,Z ref,Z cash,Z stock] 45 (0,0))):=bF Qm HC;refine⟨_,rfl,aH _ F9,hK _ _ ?_⟩;clear hK K hb4 Qm hit;refine d7 rfl rfl (fun K hK=>?_);refine⟨by rfl,?_⟩;unfold aQ;go_simp;refine hK _ ?_;clear hK K;refine cY rfl rfl (fun K hK=>?_);refine⟨by rfl,?_⟩;unfold aB;go_simp;refine⟨aH _ ?_,hK _ _ ?_⟩
 .exact bF aj F9
 clear hK K aH s0
 iterate 2 (refine d7 rfl rfl (fun K hK=>?_);refine⟨by rfl,?_⟩;unfold aQ;go_simp;refine hK _ ?_;clear hK K)
 refine jX ?_;clear x0 hnx;clear val;clear bl;have bR:U w4 (w4.alloc (.cells (j5 ⟨w4.heap.size,F,P,w3.heap.size,d,I,b⟩ seed (Ve.init ref cash stock)) 114)):=aj;have Qn:=bS.size;have aaZ:=av.size;have Jh:W.heap.size<=w3.heap.size:=lTq HB1.size aaZ;have aa0:=bS.trans (bR.mono Qn);have dM:Hid (Jg W (w4.alloc (.cells (j5 ⟨w4.heap.size,F,P,w3.heap.size,d,I,b⟩ seed (Ve.init ref cash stock)) 114)) ⟨w4.heap.size,F,P,w3.heap.size,d,I,b⟩ wd h seed ref cash stock):=by have k:=xO.later bR;have f:=vI.later aa0;have hz:=HB1.size;refine⟨hNq _ _,⟨f.blk,f.it,fun i hi=>⟨(f.aO i hi).cell,lTq hz (f.aO i hi).lo,ij (f.aO i hi).row hz⟩,f.qz,f.ne,f.ap,f.dJ,lTq hz f.lo,lTq hz f.oH,fun i hi=>lTq hz (f.oI i hi),HB1.trans (f.bG.mono hz)⟩,⟨k.cell,Jh,k.turn,fun c hc=>ij (k.row c hc) Jh,k.few,k.apart⟩,lTq Jh Qn⟩
 clear bR Qn aaZ aa0 Jh;go_wp2;go_ret2;exact⟨⟨w4.heap.size,F,P,w3.heap.size,d,I,b⟩,rfl,rfl,dM⟩
theorem ajc(seed wd h ref cash stock:Int)(W:World)(hs:Hid (bJ W ad))(hr:Hid (bm.jK wd h=true))(hf:Hid (ah.aK ref 1 1000=true))(HF:Hid (Fl.Fits cash stock)):
  Calls prog 16 #[.agg (jb seed wd h ref cash stock)] W fun e w'=>∃B X,e=.returned (.tuple #[Rw B.V,.nilIface])/\aM W w' B X wd h seed (Ve.init ref cash stock):=by
 have HB1:Hid (U W (W.alloc (.cells (jb seed wd h ref cash stock) 45))):=aj;have EL:(W.alloc (.cells (jb seed wd h ref cash stock) 45)).heap[W.heap.size]?=some (.cells (jb seed wd h ref cash stock) 45 (0,0)):=hNq _ _;have EM:(W.alloc (.cells (jb seed wd h ref cash stock) 45)).heap.size=W.heap.size+1:=Array.size_push ..;have Qk:=Y EL;have Ql:=Y EM;have uL:=Y (aoq ⟨#[]⟩ (W.alloc (.cells (jb seed wd h ref cash stock) 45)) (by decide));have FJ:=Y (fun d W' hb=>aaX seed wd h ref cash stock d W' (hs.later hb) hr hf HF);clear EL EM;unfold jb at *;go_enter func16,ntmps16
 go_wp2_with fail
 refine uL.mono ?_;rintro e w3 ⟨d,rfl,EN,hb3⟩;have HDK:=Y EN;have av:=Y hb3;clear EN hb3;have hc:w3.heap[W.heap.size]?=some (.cells #[.int .u32 seed,Z wd,Z h,Z ref,Z cash,Z stock] 45 (0,0)):=by rw[av.out.block _ (by rw[Ql.out];omega)];exact Qk
 have c0:=ag hc 0 rfl;have c1:=ag hc 1 rfl;have c2:=ag hc 2 rfl;have c3:=ag hc 3 rfl;have c4:=ag hc 4 rfl;have c5:=ag hc 5 rfl;have aa1:=Y (ar HB1 av);clear hc;simp only[]
 go_wp2_with fail
 refine(FJ _ _ aa1).mono ?_;rintro e w4 ⟨B,rfl,Qo,hno⟩;obtain⟨r8,bZ,o8,qC⟩:=HDK.out;have dM:Hid (aM W w4 B ⟨fun _=>.slice none 0 0,fun _=>.slice none 0 0,bZ⟩ wd h seed (Ve.init ref cash stock)):=by
  have k:eD w3 W.heap.size d bZ [] false 0:=by obtain⟨g,cap,cur,fz,e1,e2,e3⟩:=qC;exact⟨o8,⟨g,cap,cur,fz,e1,lTq HB1.size e2,e3⟩,lTq HB1.size r8⟩
  have k2:=k.later hno.fl.bG;rw[<- Qo]at k2;exact hno.aV aa1 k2
 clear r8 o8 qC hno c0 c1 c2 c3 c4 c5;simp only[];go_wp2;go_ret2;exact⟨B,rfl,⟨fun _=>.slice none 0 0,fun _=>.slice none 0 0,bZ⟩,dM⟩
theorem aps(ref cash stock:Int)(hr:bm.jK wd h=true)(hf:ah.aK ref 1 1000=true)(HF:Fl.Fits cash stock):Ve.Ok 0 wd h (Ve.init ref cash stock) :=
 ⟨Fl.TB hr hf HF,fun _ _=>⟨show (0:Int)<=0 by decide,show (0:Int)<=((0:Nat):Int) by decide⟩,E 0,E 0,show 0<=1048576 by decide,show 0<=9223372036854775807 by decide,fun _ _=>show (⟨#[]⟩:ByteArray).size<30 by decide⟩
end
structure Stp where
 kind:ByteArray
 c:Int
 asks:List Ask
 s:ByteArray
 n:Int
def Ve.aaw(s:ByteArray)(l:List Ask):Nat->ByteArray
 | 0=>s
 | k+1=>Ve.aaw s l k++Ve.bA (dD l k)
section
variable {w W:World} {ad:Nat->Addr} {B:bO} {X:bQ} {wd h seed:Int} {S:Ve.St}
end
section
variable {wd h seed:Int} {S:Ve.St} {N:Nat}
theorem apt(hok:Ve.Ok N wd h S){n:Nat}(f:ByteArray):Ve.Ok N wd h (Ve.jE S n f):=by
 have ht:Ve.takeC S n (Ve.cH f)=0->Ve.Ok N wd h (Ve.taken S n (Ve.cH f)):=fun _=>by
  refine⟨hok.all,fun c hc=>?_,hok.now,hok.bt,hok.tp,hok.left,hok.aF⟩;have h1:=hok.now;have h2:=hok.la c hc;unfold Ve.taken upd a_.iR;simp only;split
  .rename_i e;subst e
   split
   .split
    .exact⟨by omega,by omega⟩
    .exact⟨by omega,by omega⟩
   .exact h2
  .exact h2
 unfold Ve.jE;split
 .split
  .rename_i h1 h2
   have k:=ht h2;split
   .exact⟨k.all,k.la,k.now,k.bt,k.tp,k.left,k.aF⟩
   .split
    .exact⟨k.all,k.la,k.now,k.bt,k.tp,k.left,k.aF⟩
    .exact k
  .exact hok
 .exact hok
theorem aa2(hok:Ve.Ok N wd h S){n:Nat}(b:ByteArray):∀k,Ve.Ok N wd h (Ve.dn S n b k)
 | 0=>hok
 | k+1=>apt (aa2 hok b k) _
theorem apu(b:ByteArray):(Ve.ee b).size<30:=by unfold Ve.ee;rw[ByteArray.size_extract];omega
theorem WB(hok:Ve.Ok N wd h S)(n:Int)(s:ByteArray):Ve.Ok N wd h (Ve.di S n s):=by
 unfold Ve.di;split
 .exact hok
 .refine aa2 (S:=Ve.gw S n.toNat (S.aF n.toNat++s)) ⟨hok.all,hok.la,hok.now,hok.bt,hok.tp,hok.left,fun c hc=>?_⟩ _ _
  unfold Ve.gw upd;simp only;split
  .exact apu _
  .exact hok.aF c hc
theorem Dr{M:Nat}(hok:Ve.Ok N wd h S)(hM:N<=M):Ve.Ok M wd h S :=
 ⟨hok.all,fun c hc=>⟨(hok.la c hc).1,by have:=(hok.la c hc).2;omega⟩,lTq hok.now hM,lTq hok.bt hM,hok.tp,hok.left,hok.aF⟩
noncomputable def Ve.gL (wd h seed:Int) (S:Ve.St):Nat->Ve.St
 | 0=>S
 | k+1=>Ve.df wd h seed (Ve.gL wd h seed S k)
noncomputable def Ve.oZ (wd h seed:Int) (S:Ve.St):Nat->List Ve.dr
 | 0=>[]
 | k+1=>Ve.oZ wd h seed S k++Ve.je wd h seed (Ve.gL wd h seed S k)
def apv(x:Stp):Bool:=x.kind.toList==[102,101,101,100]
def apw(x:Stp):Bool:=x.kind.toList==[99,117,116]
def apx(x:Stp):Nat:=if x.n.toNat<8 then x.n.toNat else 8
noncomputable def Ve.WC (wd h seed:Int) (S:Ve.St) (x:Stp):Ve.St :=
 if apv x=true then Ve.di S x.c (Ve.aaw x.s x.asks x.asks.length) else if apw x=true then Ve.aoT S x.n else Ve.gL wd h seed S (apx x)
end
theorem aa3:∀(l:List Ve.dr),∀u∈jf l,u.oneCell'=true
 | [],u,h=>by cases h
 | x::l,u,h=>by
  unfold jf at h;rw[List.flatMap_cons,List.mem_append]at h;rcases h with h | h
  .exact Qe x u h
  .exact aa3 l u h
theorem anO{b0 b2:Nat}(W:World)(v v2:Value)(l l2:List Ve.dr)(hr:kx W b0 v l)(hr2:kx W b2 v2 l2)(hl:l.length<=1000000)(hl2:l2.length<=10000)(hb:b0<=W.heap.size):
  ∃v' W',(Builtin.append_ #[55,55] 55 #[v,v2]).run prog W=.ok v' W'/\kx W' b0 v' (l++l2)/\W.grownBy W' v.ownBlock:=by
 obtain⟨i0,z0,hi,hz0,hz1,hz2,hz3⟩:=Qf;rcases hr2.2 with ⟨e1,e2⟩ | ⟨g,cap,cur,e1,_,hg,_⟩
 .have h0:l2=[]:=by
   cases l2 with
   | nil=>rfl
   | cons a b=>simp at e2
  subst h0 e1;refine⟨v,W,run_append_owned_none W b0 55 55 121 i0 6 underlying55 hi v l.length (jf l) hr,by rw[aNq];exact hr,⟨rfl,rfl,rfl,E _,fun _ _ _=>rfl⟩⟩
 .have hc:∀j u,(jf l2)[j]?=some u->W.cell? ((⟨g,0,none⟩:Addr).add j)=some u:=fun j u hj=>by
   have:=World.ownsRow.cells hr2 (g:=g) (by rw[e1];rfl) j u hj
   exact this
  subst e1;obtain⟨v4,w4,hap,hrow,hgr,_,_⟩:=run_append_own_at (P:=prog) (w:=W) b0 55 55 121 i0 z0 6 56 underlying55 hi hz0 hz1 hz2 hz3 (by decide) v l.length (jf l) hr (O g 0) l2.length cap (jf l2) (aaI l2) hc (aa3 l2) (by unfold maxLen;omega) (by omega) hb;refine⟨v4,w4,hap,?_,hgr⟩;show w4.ownsRow b0 121 6 v4 (l++l2).length (jf (l++l2));rw[Qd,lAq];exact hrow
namespace Pl
structure St where
 v:Ve.St
 ak:Nat->Int
 pl:Nat->Int
def num(P:St)(c:Nat)(k:Int):Int:=if k=108 then 1 else P.ak c
def ja(P:St)(c:Nat)(k:Int):St:={ P with ak:=upd P.ak c (if k=113 then 1 else num P c k+1) }
def ai8(P:St)(c:Nat):St:={ P with pl:=upd P.pl c (P.pl c+1) }
def order(P:St)(c r:Nat):Ask:=⟨111,c,0,(r%3:Nat),(r/3%2:Nat),(90+r/6%20:Nat),(1+r/120%9:Nat),1000*c+(P.pl c+1)⟩
def cancel(c r:Nat):Ask:=⟨99,c,0,(r%3:Nat),0,0,0,(1000*c+r/3%12+1:Nat)⟩
structure kr (N:Nat) (P:St):Prop where
 ak:∀c,c<6->1<=P.ak c/\P.ak c<=N+1
 pl:∀c,c<6->0<=P.pl c/\P.pl c<=N
end Pl
def qR(B:bO)(P:Pl.St):Array Value:=#[Rw B.V,Z (P.ak 0),Z (P.pl 0),Z (P.ak 1),Z (P.pl 1),Z (P.ak 2),Z (P.pl 2),Z (P.ak 3),Z (P.pl 3),Z (P.ak 4),Z (P.pl 4),Z (P.ak 5),Z (P.pl 5)]
theorem WJ(B:bO)(P:Pl.St){c:Nat}(hc:c<6):(qR B P)[1+c*2]?=some (Z (P.ak c)):=by
 have h1:c=0\/c=1\/c=2\/c=3\/c=4\/c=5:=by omega
 rcases h1 with rfl | rfl | rfl | rfl | rfl | rfl <;> rfl
theorem GZ(B:bO)(P:Pl.St){c:Nat}(hc:c<6)(x:Int):(qR B P).setIfInBounds (1+c*2) (Z x)=qR B { P with ak:=upd P.ak c x }:=by
 have h1:c=0\/c=1\/c=2\/c=3\/c=4\/c=5:=by omega
 rcases h1 with rfl | rfl | rfl | rfl | rfl | rfl <;> rfl
structure eF (w W:World) (p:Nat) (B:bO) (X:bQ) (wd h seed:Int) (P:Pl.St):Prop where
 blk:W.heap[p]?=some (.cells (qR B P) 148 (0,0))
 aV:aM w W B X wd h seed P.v
 lo:w.heap.size<=p
structure eX (W W':World) (p:Nat) (B:bO) (X X':bQ):Prop where
 turned:aL W W' (fun k=>k=p\/dV B X k)
 new:∀k,dV B X' k->dV B X k\/W.heap.size<=k
section
variable {w W W' W2:World} {ad:Nat->Addr} {p:Nat} {B:bO} {X X' X2:bQ} {wd h seed:Int} {P:Pl.St}
theorem eX.refl(W:World)(p:Nat)(B:bO)(X:bQ):eX W W p B X X:=⟨aL.refl _ _,fun _ h=>.inl h⟩
theorem eX.trans(h:eX W W' p B X X')(h1:eX W' W2 p B X' X2):eX W W2 p B X X2 :=
 ⟨h.turned.trans h1.turned (fun k hk=>by
  rcases hk with rfl | hk
  .exact .inl (.inl rfl)
  .rcases h.new k hk with h3 | h3
   .exact .inl (.inr h3)
   .exact .inr h3),fun k hk=>by
  rcases h1.new k hk with h3 | h3
  .exact h.new k h3
  .exact .inr (lTq h.turned.size h3)⟩
theorem eX.of(h:br W W' B X X')(p:Nat):eX W W' p B X X':=⟨h.turned.mono (fun _ hk=>.inr hk),h.new⟩
theorem eX.below(h:eX W W' p B X X')(hb:U W' W2):eX W W2 p B X X':=h.trans (eX.of (br.of_below hb B X') p)
theorem eF.later(H:eF w W p B X wd h seed P)(hb:U W W'):eF w W' p B X wd h seed P:=⟨bF hb H.blk,H.aV.later hb,H.lo⟩
theorem eF.act{S:Ve.St}(H:eF w W p B X wd h seed P)(hv:aM w W' B X' wd h seed S)(hs:br W W' B X X'):eF w W' p B X' wd h seed { P with v:=S } :=
 ⟨hs.block H.aV H.blk (by decide),hv,H.lo⟩
theorem eF.put{Q:Pl.St}(H:eF w W p B X wd h seed P)(j:Nat)(u:Value)(hr:(qR B P).setIfInBounds j u=qR B Q)(hv:Q.v=P.v):eF w (W.setCell (O p j) u) p B X wd h seed Q/\eX W (W.setCell (O p j) u) p B X X:=by have ht:aL W (W.setCell (O p j) u) (fun k=>k=p):=aL.setCell _ _ _ _;refine⟨⟨by rw[block_setCell H.blk,hr],?_,H.lo⟩,⟨ht.mono (fun _ hk=>.inl hk),fun _ hk=>.inl hk⟩⟩;rw[hv];refine H.aV.aside ht (fun e=>aN H.aV.fl.blk H.blk (by decide) e) (fun k hk e=>?_) (fun k e=>by rw[e];exact H.lo);rw[e]at hk;exact mR H.aV H.blk (by decide) hk
theorem eF.at(H:eF w W p B X wd h seed P)(k:Nat):W.cell? (O p k)=(qR B P)[k]?:=cR W p k _ _ _ H.blk
theorem eF.free(H:eF w W p B X wd h seed P)(k:Nat):W.frozen? (O p k)=false:=by simp[World.frozen?,H.blk]
theorem ai9(c:Nat)(hc:c<6)(k:Int)(W:World)(H:Hid (eF w W p B X wd h seed P))(hb:P.ak c<=1000000)(h0:0<=P.ak c):
  Calls prog 172 #[Rw p,Z c,.int .u8 k] W fun e w'=>e=.returned (Z (Pl.num P c k))/\eF w w' p B X wd h seed (Pl.ja P c k)/\eX W w' p B X X:=by
 have c1:W.cell? ⟨p,1+c*2,none⟩=some (Z (P.ak c)):=by rw[H.out.at];exact WJ B P hc
 have fz:W.frozen? ⟨p,1+c*2,none⟩=false:=H.free _;have G0:p<W.heap.size:=lBq H.blk;have hci:(c:Int)<6:=by omega
 have two:∀x y:Int,eF w ((W.setCell ⟨p,1+c*2,none⟩ (Z x)).setCell ⟨p,1+c*2,none⟩ (Z y)) p B X wd h seed { P with ak:=upd P.ak c y }/\eX W ((W.setCell ⟨p,1+c*2,none⟩ (Z x)).setCell ⟨p,1+c*2,none⟩ (Z y)) p B X X:=fun x y=>by
  obtain⟨h1,h2⟩:=H.put (1+c*2) (Z x) (GZ B P hc x) rfl;obtain⟨h3,h4⟩:=h1.put (1+c*2) (Z y) (GZ B _ hc y) rfl;have e:upd (upd P.ak c x) c y=upd P.ak c y:=by funext j;unfold upd;split <;> rfl
  rw[e]at h3;exact⟨h3,h2.trans h4⟩
 by_cases h1:k=108
 .have e1:(k==108)=true:=by simpa using h1
  have e2:(k==113)=false:=by rw[h1];rfl
  have hn:Pl.num P c k=1:=by unfold Pl.num;rw[if_pos h1]
  have hS:Pl.ja P c k = { P with ak:=upd P.ak c 2 }:=by unfold Pl.ja;rw[hn,if_neg (by rw[h1];decide)];rfl
  rw[hn,hS];have HF:=Y (two 1 2);clear two hn hS h1;go_enter func172,ntmps172;go_wp2;go_ret;exact⟨rfl,HF.1,HF.2⟩
 .have e1:(k==108)=false:=by simpa using h1
  have hn:Pl.num P c k=P.ak c:=by unfold Pl.num;rw[if_neg h1]
  by_cases h2:k=113
  .have e2:(k==113)=true:=by simpa using h2
   have hS:Pl.ja P c k = { P with ak:=upd P.ak c 1 }:=by unfold Pl.ja;rw[if_pos h2]
   rw[hn,hS];have HF:=Y (two (P.ak c+1) 1);clear two hn hS h1 h2;generalize P.ak c=x at *;go_enter func172,ntmps172;go_wp2;go_ret;exact⟨rfl,HF.1,HF.2⟩
  .have e2:(k==113)=false:=by simpa using h2
   have hS:Pl.ja P c k = { P with ak:=upd P.ak c (P.ak c+1) }:=by unfold Pl.ja;rw[hn,if_neg h2]
   rw[hn,hS];have HF:=Y (H.put (1+c*2) (Z (P.ak c+1)) (GZ B P hc _) rfl);clear two hn hS h1 h2;generalize P.ak c=x at *;go_enter func172,ntmps172;go_wp2;go_ret;exact⟨rfl,HF.1,HF.2⟩
end
section
variable {w W W' W2:World} {ad:Nat->Addr} {p:Nat} {B:bO} {X X' X2:bQ} {wd h seed:Int} {P:Pl.St}
theorem ND{W:World}{R:Nat}{t:TypeId}{x0 x1 x2 x3 x4 x5 x6 x7:Value}(hz:W.heap[R]?=some (.cells #[x0,x1,x2,x3,x4,x5,x6,x7] t (0,0)))(v0 v1 v2 v3 v4 v5 v6 v7:Value):
  ((((((((W.setCell (O R 0) v0).setCell (O R 1) v1).setCell (O R 2) v2).setCell (O R 3) v3).setCell (O R 4) v4).setCell (O R 5) v5).setCell (O R 6) v6).setCell (O R 7) v7).heap[R]?=some (.cells #[v0,v1,v2,v3,v4,v5,v6,v7] t (0,0)):=by
 have h0:=block_setCell hz 0 v0;rw[show #[x0,x1,x2,x3,x4,x5,x6,x7].setIfInBounds 0 v0=#[v0,x1,x2,x3,x4,x5,x6,x7] from rfl]at h0;have h1:=block_setCell h0 1 v1;rw[show #[v0,x1,x2,x3,x4,x5,x6,x7].setIfInBounds 1 v1=#[v0,v1,x2,x3,x4,x5,x6,x7] from rfl]at h1;have h2:=block_setCell h1 2 v2;rw[show #[v0,v1,x2,x3,x4,x5,x6,x7].setIfInBounds 2 v2=#[v0,v1,v2,x3,x4,x5,x6,x7] from rfl]at h2;have h3:=block_setCell h2 3 v3;rw[show #[v0,v1,v2,x3,x4,x5,x6,x7].setIfInBounds 3 v3=#[v0,v1,v2,v3,x4,x5,x6,x7] from rfl]at h3;have h4:=block_setCell h3 4 v4;rw[show #[v0,v1,v2,v3,x4,x5,x6,x7].setIfInBounds 4 v4=#[v0,v1,v2,v3,v4,x5,x6,x7] from rfl]at h4;have h5:=block_setCell h4 5 v5;rw[show #[v0,v1,v2,v3,v4,x5,x6,x7].setIfInBounds 5 v5=#[v0,v1,v2,v3,v4,v5,x6,x7] from rfl]at h5;have h6:=block_setCell h5 6 v6;rw[show #[v0,v1,v2,v3,v4,v5,x6,x7].setIfInBounds 6 v6=#[v0,v1,v2,v3,v4,v5,v6,x7] from rfl]at h6;have h7:=block_setCell h6 7 v7;rw[show #[v0,v1,v2,v3,v4,v5,v6,x7].setIfInBounds 7 v7=#[v0,v1,v2,v3,v4,v5,v6,v7] from rfl]at h7;exact h7
theorem eF.aside{W0:World}{R:Nat}(H:eF w W p B X wd h seed P)(h0:w.heap.size<=W0.heap.size)(ho:∀k,dV B X k->k<W0.heap.size)(hF:B.F<W0.heap.size)(hp:p<W0.heap.size)(hR:R=W0.heap.size)(ht:aL W W' (fun k=>k=R)):eF w W' p B X wd h seed P :=
 ⟨by rw[ht.block p (lBq H.blk) (by omega)];exact H.blk,H.aV.aside ht (by omega) (fun k hk e=>by have:=ho k hk;omega) (fun k e=>by omega),H.lo⟩
end
namespace Pl
def ask(P:St)(c:Nat)(a:Ask):Ask:={ a with sq:=num P c a.k }
def g_(P:St)(c:Nat)(a:Ask):St:=if a_.ac (ask P c a)=0 then { ja P c a.k with v:=Ve.di P.v c (Ve.bA (ask P c a)) } else ja P c a.k
def kS(P:St)(c:Nat)(a:Ask):List Ve.dr:=if a_.ac (ask P c a)=0 then Ve.eW P.v c (Ve.bA (ask P c a)) else []
end Pl
section
variable {w W W' W2:World} {ad:Nat->Addr} {p:Nat} {B:bO} {X X' X2:bQ} {wd h seed:Int} {P:Pl.St}
theorem eX.block{k:Nat}{cur:Array Value}{e:TypeId}{fz:Nat×Nat}(hs:eX W W' p B X X')(hk:W.heap[k]?=some (.cells cur e fz))(h1:k≠p)(h2:¬ dV B X k):W'.heap[k]?=some (.cells cur e fz):=by rw[hs.turned.block k (lBq hk) (fun e=>e.elim h1 h2)];exact hk
theorem aje(c:Nat)(hc:c<6)(a:Ask)(hac:a.c=c)(W:World)(H:Hid (eF w W p B X wd h seed P))(hs:Hid (bJ w ad))(hb:P.ak c<=1000000)(h0:0<=P.ak c)(mQ:Hid (∀c,c<6->(P.v.aF c).size<30)):
  Calls prog 110 #[Rw p,bM a] W fun e w'=>∃v X',e=.returned v/\eF w w' p B X' wd h seed (Pl.g_ P c a)/\eX W w' p B X X'/\kx w' W.heap.size v (Pl.kS P c a):=by
 have wo:=Y (fun W' (h':eF w W' p B X wd h seed P)=>ai9 c hc a.k W' (Y h') hb h0);have WN:=Y (fun W'=>xu (c:Int) W');rw[show ah.aK (c:Int) 0 5=true by unfold ah.aK;simp;omega]at WN;have WO:=Y (fun W' (h':bJ W' ad)=>SZ a.k c (Pl.num P c a.k) a.it a.sd a.pr a.q a.id ad W' h');have WQ:(Pl.ja P c a.k).v=P.v:=rfl;have G1:Hid (Pl.ask P c a=⟨a.k,c,Pl.num P c a.k,a.it,a.sd,a.pr,a.q,a.id⟩):=Y (by unfold Pl.ask;rw[<- hac]);have tX:Hid (Pl.g_ P c a=if a_.ac (Pl.ask P c a)=0 then { Pl.ja P c a.k with v:=Ve.di P.v c (Ve.bA (Pl.ask P c a)) } else Pl.ja P c a.k):=Y rfl;have jT:Hid (Pl.kS P c a=if a_.ac (Pl.ask P c a)=0 then Ve.eW P.v c (Ve.bA (Pl.ask P c a)) else []):=Y rfl;generalize Pl.num P c a.k=N at *;generalize Pl.ja P c a.k=P1 at *;generalize Pl.g_ P c a=atr at *;generalize Pl.kS P c a=att at *;have NE:=Y WQ;rw[G1.out]at tX jT;clear WQ;obtain⟨aW,acl,bn,bw,asd,aR,aq,aP⟩:=a;simp only[]at hac wo WO tX jT;subst hac;unfold bM aX;have HB1:Hid (U W (W.alloc (.cells #[.int .u8 aW,Z c,Z bn,Z bw,Z asd,Z aR,Z aq,Z aP] 95))):=Y aj;have HZ1:Hid ((W.alloc (.cells #[.int .u8 aW,Z c,Z bn,Z bw,Z asd,Z aR,Z aq,Z aP] 95)).heap[W.heap.size]?=some (.cells #[.int .u8 aW,Z c,Z bn,Z bw,Z asd,Z aR,Z aq,Z aP] 95 (0,0))):=Y (hNq _ _);have H1:=Y (H.later HB1);have HW0:Hid (w.heap.size<=W.heap.size/\(∀k,dV B X k->k<W.heap.size)/\B.F<W.heap.size/\p<W.heap.size):=Y ⟨H.aV.bG.size,fun k hk=>(H.aV.ig hk).2,lBq H.aV.fl.blk,lBq H.blk⟩;go_enter func110,ntmps110
 go_wp2_with fail
 refine(WN _).mono ?_;rintro e w1 ⟨rfl,d6⟩;subst d6;generalize W.alloc (.cells #[.int .u8 aW,Z c,Z bn,Z bw,Z asd,Z aR,Z aq,Z aP] 95)=W1 at *;obtain⟨R,hR⟩:=aG W.heap.size;have HRR:=Y hR;rw[hR]at HZ1 ⊢;have z0:=ag HZ1 0 rfl;have dw:=ag HZ1 1 rfl;clear hR;simp only[]
 go_wp2_with fail
 refine(wo _ H1).mono ?_;rintro e w2 ⟨rfl,h2,hs2⟩;obtain⟨w0,WR,ajf,ajg⟩:=HW0.out;have WS:R≠p:=by rw[<- HRR.out];omega
 have WT:¬ dV B X R:=fun hk=>by have:=WR R hk;rw[HRR.out]at this;omega
 have HZ2:=Y (hs2.block HZ1 WS WT);have H2:=Y h2;have HS2:=Y ((eX.of (br.of_below HB1 B X) p).trans hs2);have y0:=ag HZ2 0 rfl;have y1:=ag HZ2 1 rfl;have y2:=ag HZ2 2 rfl;have y3:=ag HZ2 3 rfl;have y4:=ag HZ2 4 rfl;have Ak:=ag HZ2 5 rfl;have y6:=ag HZ2 6 rfl;have Al:=ag HZ2 7 rfl;have NF:=aC HZ2 2;have WU:Hid ((w2.setCell (O R 2) (Z N)).heap[R]?=some (.cells #[.int .u8 aW,Z c,Z N,Z bw,Z asd,Z aR,Z aq,Z aP] 95 (0,0))):=Y (block_setCell HZ2 2 (Z N));have HT3:Hid (aL w2 (w2.setCell (O R 2) (Z N)) (fun k=>k=R)):=Y (aL.setCell _ _ _ _);have H3:=Y (H2.aside w0 WR ajf ajg HRR.symm HT3);have eJ:Hid (eX W (w2.setCell (O R 2) (Z N)) p B X X):=Y ⟨HS2.turned.trans HT3 (fun k hk=>.inr (by rw[hk,<- HRR.out];exact E _)),HS2.new⟩;clear h2 hs2 z0 dw;simp only[]
 go_wp2_with fail
 generalize w2.setCell (O R 2) (Z N)=W3 at *;have ajh:=Y (hs.later H3.aV.bG);refine(WO _ ajh).mono ?_;rintro e w4 ⟨rfl,hb4⟩;have d8:=Y (H3.later hb4);have WV:=Y (bF hb4 WU);have dL:=Y (eJ.below hb4);clear hb4 y0 y1 y2 y3 y4 Ak y6 Al NF;by_cases hcd:ah.code aW c N bw asd aR aq aP=0
 .have G2:a_.ac ⟨aW,c,N,bw,asd,aR,aq,aP⟩=0:=hcd
  rw[if_pos G2]at tX jT;have WW:Ve.bA ⟨aW,c,N,bw,asd,aR,aq,aP⟩=oA aW c N bw asd aR aq aP:=rfl;rw[WW]at tX jT;have WX:(oA aW c N bw asd aR aq aP).size=30:=by unfold oA;rw[if_pos hcd,strOfNums_size,ah.Db]
  rw[hcd,show fq ad 0=.nilIface from rfl];generalize oA aW c N bw asd aR aq aP=fb at *;have oG:=Y (fun W' (h':aM w W' B X wd h seed P1.v)=>WY (c:Int) fb W' h' hs (fun k hk=>by rw[NE.out,ByteArray.size_append,WX];have:=mQ.out k hk;omega));obtain⟨bl,val,hcl,ay⟩:=gu (fun W'=>W'.heap[p]?=some (.cells (qR B P1) 148 (0,0))/\W'.heap[R]?=some (.cells #[.int .u8 aW,Z c,Z N,Z bw,Z asd,Z aR,Z aq,Z aP] 95 (0,0)));obtain⟨x0,hx0⟩:=ay w4.drew ⟨d8.blk,WV⟩;have hnx:Nonempty bl:=⟨x0⟩;have s0:=fun x=>ag (hcl x).1 0 rfl;have s1:=fun x=>ag (hcl x).2 1 rfl;have aH:=Y ay;obtain⟨NG,hw4⟩:=aG w4.drew;have bH:Hid (U w4 NG):=by rw[<- hw4];exact cw
  have WZ:=Y (d8.later bH);have W7:=Y (bF bH WV);have aji:=Y (dL.below bH);clear ay hcl WW G2;simp only[]
  go_wp2_with fail
  refine kt (val:=val) [7] [0,1,2,3,4,5,6,7,8] (by kernel_rfl) (by kernel_rfl) x0 hx0 ?_;rw[hx0,hw4];clear hx0 hw4
  iterate 7 (refine d7 rfl rfl (fun K hK=>?_);refine⟨by rfl,?_⟩;unfold aQ;go_simp;refine hK _ ?_;clear hK K)
  refine cY rfl rfl (fun K hK=>?_);refine⟨by rfl,?_⟩;unfold aB;go_simp;refine(oG _ WZ.aV).mono ?_;rintro e aI ⟨v5,sg,rfl,fI,W8,hs5⟩;have pI:=Y (WZ.act W8 hs5);have ajj:=Y ((eX.of hs5 p).block W7 WS WT);have fu:=Y (aji.trans (eX.of hs5 p));have bE:=Y (ij fI (lTq (Nat.le_of_eq HRR) (Nat.le_of_lt (lBq W7))));refine⟨_,rfl,aH _ ⟨pI.blk,ajj⟩,hK _ _ ?_⟩;clear hK K fI W8 hs5 aH s0 s1;refine d7 rfl rfl (fun K hK=>?_);refine⟨by rfl,?_⟩;unfold aQ;go_simp;refine hK _ ?_;clear hK K;refine jX ?_;clear x0 hnx;clear val;clear bl;go_wp2;go_ret;refine⟨_,sg,rfl,?_,fu,?_⟩
  .rw[tX.out,<- NE.out];exact pI
  .rw[jT.out,<- NE.out];exact bE
 .have G2:¬ a_.ac ⟨aW,c,N,bw,asd,aR,aq,aP⟩=0:=hcd
  rw[if_neg G2]at tX jT;rw[xy ad hcd];simp only[];go_wp2;go_ret;exact⟨_,X,rfl,by rw[tX.out];exact d8,dL,by rw[jT.out];exact World.ownsRow_nil _ _ _ _⟩
end
end
namespace Pl
variable {wd h seed:Int} {P:St} {N:Nat}
theorem NC(S:Ve.St)(n:Nat)(b:ByteArray):∀k,(Ve.fZ S n b k).length<=k
 | 0=>E _
 | k+1=>by
  have h1:=NC S n b k;have h2:(Ve.jY (Ve.dn S n b k) n (fr b k)).length<=1:=by
   unfold Ve.jY;split
   .split
    .split <;> simp
    .simp
   .simp
  rw[Ve.fZ,lAq];omega
theorem ai2{a:Ask}(ha:a_.ac a=0):(Ve.bA a).size=30:=by have hc:ah.code a.k a.c a.sq a.it a.sd a.pr a.q a.id=0:=ha;unfold Ve.bA oA;rw[if_pos hc,strOfNums_size,ah.Db]
theorem ai3(mQ:∀c,c<6->(P.v.aF c).size<30){c:Nat}(hc:c<6)(a:Ask):(kS P c a).length<=2900:=by
 unfold kS;split
 .rename_i ha
  unfold Ve.eW;split
  .exact Nat.zero_le _
  .rw[show ((c:Int)).toNat=c by omega]
   have h1:=NC (Ve.gw P.v c (P.v.aF c++Ve.bA (ask P c a))) c (P.v.aF c++Ve.bA (ask P c a)) ((P.v.aF c++Ve.bA (ask P c a)).size/30);have h2:=mQ c hc;have h3:=ai2 ha;rw[ByteArray.size_append,h3]at h1 ⊢;omega
 .exact Nat.zero_le _
theorem ai4(hok:Ve.Ok N wd h P.v)(c:Nat)(a:Ask):Ve.Ok (N+1) wd h (g_ P c a).v:=by
 unfold g_;split
 .exact Dr (WB hok _ _) (Nat.le_succ _)
 .exact Dr hok (Nat.le_succ _)
theorem ai5(P:St)(c:Nat)(a:Ask):(g_ P c a).ak=(ja P c a.k).ak/\(g_ P c a).pl=P.pl:=by unfold g_;split <;> exact⟨rfl,rfl⟩
theorem ai6(hf:kr N P){c:Nat}(hc:c<6)(k:Int):∀d,d<6->1<=(ja P c k).ak d/\(ja P c k).ak d<=((N+1:Nat):Int)+1:=fun d hd=>by
 have h1:=hf.ak d hd;have h2:=hf.ak c hc;unfold ja num upd;simp only[];split
 .split
  .omega
  .split <;> omega
 .omega
end Pl
section
open Go.RowKit
namespace Pl
def word(k:Int)(c:Nat):Ask:=⟨k,c,0,0,0,0,0,0⟩
noncomputable def ajm (wd h seed:Int) (P:St):St:={ P with v:=Ve.df wd h seed P.v }
noncomputable def WC (wd h seed:Int) (P:St) (c vJ r:Nat):St :=
 if vJ=0 then g_ P c (word 108 c) else if vJ=1 then g_ P c (word 104 c) else if vJ<=6 then g_ (ai8 P c) c (order P c r)
 else if vJ=7 then g_ P c (cancel c r) else if vJ=9/\r%7=0 then g_ P c (word 113 c) else ajm wd h seed P
end Pl
section
variable {w W W' W2:World} {ad:Nat->Addr} {p:Nat} {B:bO} {X X' X2:bQ} {wd h seed:Int} {P:Pl.St}
end
end
namespace Pl
variable {wd h seed:Int} {P:St} {N:Nat}
noncomputable def one (wd h seed:Int) (P:St) (x:Int):St:=if x<0 then P else WC wd h seed P (x.toNat%6) (x.toNat/6%10) (x.toNat/6/10)
end Pl
section
open Go.RowKit
section
variable {w W W' W2:World} {ad:Nat->Addr} {p:Nat} {B:bO} {X X' X2:bQ} {wd h seed:Int} {P:Pl.St}
def dF(l:List Int):List Value:=l.map fun x=>Z x
theorem WI{W:World}{base:Nat}{a:Option Addr}{n c:Nat}{l:List Int}(h:W.ownsRow base 3 1 (.slice a n c) l.length (dF l)){i:Nat}{d:Int}(hi:l[i]?=some d):∃g,a=some (O g 0)/\W.cell? (O g i)=some (Z d):=by
 have hlt:=(List.getElem?_eq_some_iff.1 hi).1;rcases h.2 with ⟨_,e⟩ | ⟨g,cap,cur,e,_,hg,_,_,_,ht⟩
 .omega
 .cases e
  refine⟨g,rfl,?_⟩;rw[cR W g i _ _ _ hg,<- Array.getElem?_toList];have h2:=congrArg (·[i]?) ht;simp only[dF,List.getElem?_map,hi,Option.map_some]at h2;rw[List.getElem?_take_of_lt (by omega)]at h2;exact h2
theorem eF.grown{base n:Nat}{v:Value}{xs:List Value}(H:eF w W p B X wd h seed P)(hr:W.ownsRow base 121 6 v n xs)(hb:w.heap.size<=base)(hg:W.grownBy W' v.ownBlock):eF w W' p B X wd h seed P :=
 ⟨by
  rw[hg.block p (lBq H.blk) (fun e=>?_)]
  .exact H.blk
  .obtain⟨_,cur,h2⟩:=cB hr e.symm
   exact aN h2 H.blk (by decide) rfl,H.aV.grown hr (by decide) (by decide) hb hg,H.lo⟩
theorem eX.grown{base n:Nat}{v:Value}{xs:List Value}(hs:eX W W' p B X X')(hr:W'.ownsRow base 121 6 v n xs)(hb:W.heap.size<=base)(hg:W'.grownBy W2 v.ownBlock):eX W W2 p B X X' :=
 ⟨hs.turned.trans (aL.j9 hg) (fun _ hk=>.inr (lTq hb ((cB hr hk.symm).1))),hs.new⟩
end
namespace Pl
def mh(v:Ve.St)(k:Nat):St:=⟨v,fun i=>if i<k then 1 else 0,fun _=>0⟩
def new(v:Ve.St):St:=mh v 6
theorem WK(v:Ve.St):kr 0 (new v) :=
 ⟨fun c hc=>by show 1<=(if c<6 then (1:Int) else 0)/\(if c<6 then (1:Int) else 0)<=_;rw[if_pos hc];omega,fun c _=>⟨Int.le_refl 0,Int.le_refl 0⟩⟩
theorem aja(v:Ve.St)(k:Nat):({ mh v k with ak:=upd (mh v k).ak k 1 }:St)=mh v (k+1):=by
 have e:upd (mh v k).ak k 1=(mh v (k+1)).ak:=by
  funext j;show (if _ then _ else _)=(if j<k+1 then (1:Int) else 0);show _=_;by_cases h:j=k
  .subst h;simp
  .have h3:(j<k+1)↔j<k:=by omega
   simp[h,h3,mh]
 show (⟨(mh v k).v,upd (mh v k).ak k 1,(mh v k).pl⟩:St)=_;rw[e];rfl
end Pl
section
variable {w W W' W2:World} {ad:Nat->Addr} {p:Nat} {B:bO} {X X' X2:bQ} {wd h seed:Int} {P:Pl.St} {v:Ve.St}
theorem WL(W:World)(H:Hid (aM w W B X wd h seed v)):
  Calls prog 64 #[Rw B.V] W fun e w'=>e=.returned (Rw W.heap.size)/\eF w w' W.heap.size B X wd h seed (Pl.new v)/\U W w':=by
 have HB1:Hid (U W (W.alloc (.cells (qR B (Pl.mh v 0)) 148))):=aj;have tJ:Hid (eF w (W.alloc (.cells (qR B (Pl.mh v 0)) 148)) W.heap.size B X wd h seed (Pl.mh v 0)):=⟨hNq _ _,H.later HB1,H.bG.size⟩;go_enter func64,ntmps64
 go_wp2_with fail
 go_loopw [8] (fun kv wr=>∃(k:Nat),k<=6/\kv=Z k/\eF w wr W.heap.size B X wd h seed (Pl.mh v k)/\U W wr) (fun kv _=>6-(intOf kv).toNat)
 case atStart=>exact⟨0,by omega,rfl,tJ,HB1⟩
 case round =>
  obtain⟨k,hk,rfl,hp,hb⟩:=hrel;have HP:=Y hp;have HB:=Y hb;clear hp hb H;by_cases hlt:k<6
  .have aT:(k:Int)<6:=by omega
   have fz:wr.frozen? ⟨W.heap.size,1+k*2,none⟩=false:=HP.free _;have c1:wr.cell? ⟨W.heap.size,1+k*2,none⟩=some (Z ((Pl.mh v k).ak k)):=by rw[HP.out.at];exact WJ B _ hlt
   have HQ:=Y (HP.put (Q:=Pl.mh v (k+1)) (1+k*2) (Z 1) (by rw[GZ B _ hlt,Pl.aja]) rfl).1;have HB2:=Y (HB.setCell (p:=⟨W.heap.size,1+k*2,none⟩) (E _) (Z 1));go_wp2;go_roundw
   case rel=>exact⟨k+1,hlt,by go_num,HQ,HB2⟩
   case measure=>simp[intOf];omega
  .have aT:¬ (k:Int)<6:=by omega
   obtain rfl:k=6:=by omega
   go_wp2;go_ret;exact⟨rfl,HP,HB⟩
theorem WM(k:Int)(W:World):Calls prog 32 #[Z k] W fun e w'=>e=.returned (.agg (jb (k%4294967296) 10 2 100 20000 100))/\U W w':=by have HB1:Hid (U W (W.alloc (.cells (jb (k%4294967296) 10 2 100 20000 100) 45))):=aj;unfold jb at *;go_enter func32,ntmps32;go_wp2;refine bodyPost_ret (v:=.agg #[.int .u32 (k%4294967296),Z 10,Z 2,Z 100,Z 20000,Z 100]) (by simp[results,results32,go_sem]) rfl ?_;exact⟨rfl,HB1⟩
theorem ajb(k:Int)(W:World)(hs:Hid (bJ W ad)):
  Calls prog 28 #[Z k] W fun e w'=>∃p B X,e=.returned (.tuple #[Rw p,.nilIface])/\eF W w' p B X 10 2 (k%4294967296) (Pl.new (Ve.init 100 20000 100)):=by
 have HC:=Y (WM k W);have HN:Hid (∀W',U W W'->_):=Y (fun W' hb=>ajc (k%4294967296) 10 2 100 20000 100 W' (hs.later hb) (Y (by decide)) (Y (by decide)) (Y (by constructor <;> decide)));go_enter func28,ntmps28
 go_wp2_with fail
 refine HC.mono ?_;rintro e w1 ⟨rfl,hb1⟩;have HB1:=Y hb1;clear hb1;simp only[]
 go_wp2_with fail
 refine(HN _ HB1).mono ?_;rintro e w2 ⟨B,X,rfl,hv⟩;have dM:=Y (hv.ajd HB1);clear hv;have HO:=Y (WL w2 dM);simp only[]
 go_wp2_with fail
 refine HO.mono ?_;rintro e w3 ⟨rfl,hp,hb3⟩;have HP:=Y hp;clear hp hb3;simp only[];go_wp2;go_ret2;exact⟨w2.heap.size,B,X,rfl,HP⟩
end
theorem alD(c:Int)(W:World):Calls prog 119 #[.int .u8 c] W fun e w'=>e=.returned (.func (.func 178) #[] #[Rw W.heap.size])/\w'=W.alloc (.cells #[.int .u8 c] 5):=by go_enter func119,ntmps119;go_wp2;go_ret;exact⟨rfl,rfl⟩
theorem alE(c:Int)(W:World):Calls prog 120 #[Z c] W fun e w'=>e=.returned (.func (.func 179) #[] #[Rw W.heap.size])/\w'=W.alloc (.cells #[Z c] 3):=by go_enter func120,ntmps120;go_wp2;go_ret;exact⟨rfl,rfl⟩
theorem YZ(f:Fn)(cs:Array Value)(W:World):Calls prog 118 #[.func f #[] cs] W fun e w'=>e=.returned (.func (.func 175) #[] #[Rw W.heap.size])/\w'=W.alloc (.cells #[.func f #[] cs] 220):=by go_enter func118,ntmps118;go_wp2;go_ret;exact⟨rfl,rfl⟩
end
section
open Go.RowKit Go.MapKept
namespace bg
structure mW where
 sp:List (Int×Int)
 bD:Bool
 d:Nat
def cZ:Int×Int:=(0,5)
def eG:Int×Int:=(0,2)
def num:Int×Int:=(0,9223372036854775807)
def gy:Int×Int:=(1,1000)
def cmds:List (ByteArray×mW):=[(⟨#[108,111,103,105,110]⟩,[cZ],false,108),(⟨#[98,101,97,116]⟩,[cZ],false,104),(⟨#[108,111,103,111,117,116]⟩,[cZ],false,113),(⟨#[98,117,121]⟩,[cZ,eG,num,gy,gy],false,0),(⟨#[115,101,108,108]⟩,[cZ,eG,num,gy,gy],false,1),(⟨#[99,97,110,99,101,108]⟩,[cZ,eG,num],false,99),
 (⟨#[116,105,99,107]⟩,[(1,50)],false,122),(⟨#[98,121,116,101,115]⟩,[cZ],true,123),(⟨#[98,111,111,107]⟩,[eG],false,124),(⟨#[98,97,110,100]⟩,[eG],false,125),(⟨#[104,97,115]⟩,[cZ],false,126),(⟨#[99,117,116]⟩,[num],false,127),(⟨#[97,103,97,105,110]⟩,[],false,128),(⟨#[98,97,116,99,104,101,115]⟩,[],false,129)].map fun x=>(x.1,⟨x.2.1,x.2.2.1,x.2.2.2⟩)
def tab(n:ByteArray):Option mW:=(cmds.find? fun x=>decide (x.1=n)).map (·.2)
def j0(S:Nat->Prop)(k:Nat)(v:Value)(w:World):Prop :=
 (k<2/\∃b,S b/\v=.func (.func 179) #[] #[Rw b]/\w.heap[b]?=some (.cells #[Z k] 3 (0,0)))\/(k=99/\v=.func (.func 121) #[] #[]) \/
 ((k=108\/k=104\/k=113)/\∃b,S b/\v=.func (.func 178) #[] #[Rw b]/\w.heap[b]?=some (.cells #[.int .u8 k] 5 (0,0)))
def jd(S:Nat->Prop)(d:Nat)(v:Value)(w:World):Prop :=
 (d<114/\∃b u,S b/\v=.func (.func 175) #[] #[Rw b]/\w.heap[b]?=some (.cells #[u] 220 (0,0))/\j0 S d u w)\/(114<=d/\v=.func (.func d) #[] #[])
def Ek(l:List (Int×Int)):List Value:=l.flatMap fun p=>[Z p.1,Z p.2]
def d_(S:Nat->Prop)(l:List (Int×Int))(v:Value)(w:World):Prop :=
 (l=[]/\v=.slice none 0 0)\/∃b,S b/\v=.slice (some (O b 0)) l.length l.length/\w.heap[b]?=some (.cells (Ek l).toArray 216 (0,0))
def gz(S:Nat->Prop)(n:ByteArray)(v:Value)(w:World):Prop:=∃c,tab n=some c/\∃s f,v=.agg #[s,.bool c.bD,f]/\d_ S c.sp s w/\jd S c.d f w
def AQ(S:Nat->Prop)(M:Nat)(w:World):Prop:=∃es clock,w.heap[M]?=some (.map es clock)/\∀e∈es.toList,∃k,e.key=.string k/\gz S k e.val w
def wH(M:Nat)(k:ByteArray)(w:World):Prop:=∃es clock,w.heap[M]?=some (.map es clock)/\∃e∈es.toList,e.key=.string k
structure Ext (S:Nat->Prop) (w w':World):Prop where
 D5:∀{b:Nat} {c:Array Value} {t:TypeId} {f:Nat×Nat},w.heap[b]?=some (.cells c t f)->w'.heap[b]?=some (.cells c t f)
 good:∀{M:Nat},AQ S M w->AQ S M w'
 has:∀{M:Nat} {k:ByteArray},wH M k w->wH M k w'
section
variable {w w':World} {v:Value} {S S':Nat->Prop}
theorem j0.mono{k:Nat}(h:j0 S k v w)(hc:∀{b:Nat} {c:Array Value} {t:TypeId} {f:Nat×Nat},S b->w.heap[b]?=some (.cells c t f)->S' b/\w'.heap[b]?=some (.cells c t f)):j0 S' k v w':=by
 rcases h with ⟨h1,b,h0,h2,h3⟩ | h | ⟨h1,b,h0,h2,h3⟩
 .exact .inl ⟨h1,b,(hc h0 h3).1,h2,(hc h0 h3).2⟩
 .exact .inr (.inl h)
 .exact .inr (.inr ⟨h1,b,(hc h0 h3).1,h2,(hc h0 h3).2⟩)
theorem jd.mono{k:Nat}(h:jd S k v w)(hc:∀{b:Nat} {c:Array Value} {t:TypeId} {f:Nat×Nat},S b->w.heap[b]?=some (.cells c t f)->S' b/\w'.heap[b]?=some (.cells c t f)):jd S' k v w':=by
 rcases h with ⟨h1,b,u,h0,h2,h3,h4⟩ | h
 .exact .inl ⟨h1,b,u,(hc h0 h3).1,h2,(hc h0 h3).2,h4.mono hc⟩
 .exact .inr h
theorem d_.mono{l:List (Int×Int)}(h:d_ S l v w)(hc:∀{b:Nat} {c:Array Value} {t:TypeId} {f:Nat×Nat},S b->w.heap[b]?=some (.cells c t f)->S' b/\w'.heap[b]?=some (.cells c t f)):d_ S' l v w':=h.imp id fun ⟨b,h0,h1,h2⟩=>⟨b,(hc h0 h2).1,h1,(hc h0 h2).2⟩
theorem gz.mono{n:ByteArray}(h:gz S n v w)(hc:∀{b:Nat} {c:Array Value} {t:TypeId} {f:Nat×Nat},S b->w.heap[b]?=some (.cells c t f)->S' b/\w'.heap[b]?=some (.cells c t f)):gz S' n v w':=by obtain⟨c,h1,s,f,h2,h3,h4⟩:=h;exact⟨c,h1,s,f,h2,h3.mono hc,h4.mono hc⟩
theorem lt_of_some{b:Nat}{o:Obj}(h:w.heap[b]?=some o):b<w.heap.size:=(Array.getElem?_eq_some_iff.1 h).1
theorem Ext.of_below(hb:U w w'):Ext S w w':=by
 have hc:∀{b:Nat} {o:Obj},w.heap[b]?=some o->w'.heap[b]?=some o:=fun {b o} h=>by rw[hb.block b (lt_of_some h)];exact h
 exact⟨fun h=>hc h,fun ⟨es,cl,h1,h2⟩=>⟨es,cl,hc h1,fun e he=>(h2 e he).imp fun k hk=>⟨hk.1,hk.2.mono (fun hs h=>⟨hs,hc h⟩)⟩⟩,fun ⟨es,cl,h1,h2⟩=>⟨es,cl,hc h1,h2⟩⟩
theorem alP{M:Nat}{k:ByteArray}(hg:AQ S M w)(hv:gz S k v w):
  ∃w',(Instr.mapUpdate 150 (.map (some M)) (.string k) v).run prog w=.ok () w'/\Ext S w w'/\wH M k w'/\∀B,B<=M->Below B w w':=by
 obtain⟨es,cl,hb,he⟩:=hg;have hks:∀x∈es.toList,IsKey .string x.key:=fun x hx=>by obtain⟨y,h1,_⟩:=he x hx;rw[h1];trivial
 have hk:IsKey .string (.string k):=trivial;have hlt:=lt_of_some hb;have key:∀(es':Array MapEntry) (q_:Nat),(∀e∈es'.toList,e∈es.toList\/(e.key=.string k/\e.val=v))->(∀e∈es.toList,∃e'∈es'.toList,e'.key=e.key)->(∃e∈es'.toList,e.key=.string k) ->
   Ext S w { w with heap:=w.heap.setIfInBounds M (.map es' q_) }/\wH M k { w with heap:=w.heap.setIfInBounds M (.map es' q_) }/\∀B,B<=M->Below B w { w with heap:=w.heap.setIfInBounds M (.map es' q_) }:=fun es' q_ h1 h2 h3=>by
  have hM:(w.heap.setIfInBounds M (.map es' q_))[M]?=some (.map es' q_):=by simp[hlt]
  have hO:∀{b:Nat},b≠M->(w.heap.setIfInBounds M (.map es' q_))[b]?=w.heap[b]?:=fun {b} h=>Array.getElem?_setIfInBounds_ne (Ne.symm h);have hc:∀{b:Nat} {c:Array Value} {t:TypeId} {f:Nat×Nat},w.heap[b]?=some (.cells c t f)->(w.heap.setIfInBounds M (.map es' q_))[b]?=some (.cells c t f):=fun {b c t f} h=>by
   rw[hO (fun e=>by rw[e,hb]at h;cases h)];exact h
  refine⟨⟨hc,fun {M2} ⟨yN,yO,g1,g2⟩=>?_,fun {M2 k2} ⟨yN,yO,g1,e,g2,g3⟩=>?_⟩,⟨es',q_,hM,h3⟩,fun B hB=>⟨rfl,rfl,rfl,by simp,fun b hb2=>hO (by omega)⟩⟩
  .by_cases El:M2=M
   .subst El
    refine⟨es',q_,hM,fun e hx=>?_⟩;rcases h1 e hx with h4 | ⟨h4,h5⟩
    .exact(he e h4).imp fun y hy=>⟨hy.1,hy.2.mono (fun hs h=>⟨hs,hc h⟩)⟩
    .exact⟨k,h4,by rw[h5];exact hv.mono (fun hs h=>⟨hs,hc h⟩)⟩
   .exact⟨yN,yO,(hO El).trans g1,fun e hx=>(g2 e hx).imp fun y hy=>⟨hy.1,hy.2.mono (fun hs h=>⟨hs,hc h⟩)⟩⟩
  .by_cases El:M2=M
   .subst El
    obtain⟨rfl,rfl⟩:yN=es/\yO=cl:=by rw[hb]at g1;cases g1;exact⟨rfl,rfl⟩
    obtain⟨e',h5,h6⟩:=h2 e g2;exact⟨es',q_,hM,e',h5,h6.trans g3⟩
   .exact⟨yN,yO,(hO El).trans g1,e,g2,g3⟩
 rcases findNow_spec hk es.toList 0 hks with ⟨h1,_⟩ | ⟨j,e0,h1,h2,h3⟩
 .refine⟨_,?_,key (es.push ⟨.string k,v,cl⟩) (cl+1) (fun e hx=>?_) (fun e hx=>⟨e,by simp[hx],rfl⟩) ⟨⟨.string k,v,cl⟩,by simp,rfl⟩⟩
  .simp[Instr.mapUpdate,run_underlying underlying150,MapKept.run_getObj_map hb,run_checkKey underlying9 hk,run_findKey underlying9 h1,MapKept.run_setObj_map _ hb]
  .rcases (by simpa using hx:e∈es\/e=⟨.string k,v,cl⟩) with h4 | h4
   .exact .inl (by simpa using h4)
   .exact .inr ⟨by rw[h4],by rw[h4]⟩
 .rw[Nat.zero_add]at h1
  have h2':es[j]?=some e0:=by simpa using h2
  refine⟨_,?_,key (es.modify j fun e=>{ e with key:=.string k,val:=v }) cl (fun e hx=>?_) (fun e hx=>?_) ⟨{ e0 with key:=.string k,val:=v },?_,rfl⟩⟩
  .simp[Instr.mapUpdate,run_underlying underlying150,MapKept.run_getObj_map hb,run_checkKey underlying9 hk,run_findKey underlying9 h1,MapKept.run_setObj_map _ hb,h2',h3,run_keyThatStays hk]
  .obtain⟨i,hi⟩:=List.getElem?_of_mem hx
   rw[Array.toList_modify,List.getElem?_modify]at hi;obtain⟨e1,h5,h6⟩:=Option.map_eq_some_iff.1 hi;by_cases hij:j=i
   .rw[if_pos hij]at h6
    subst h6;exact .inr ⟨rfl,rfl⟩
   .rw[if_neg hij]at h6
    subst h6;exact .inl (List.mem_of_getElem? h5)
  .obtain⟨i,hi⟩:=List.getElem?_of_mem hx
   by_cases hij:j=i
   .subst hij
    refine⟨{ e with key:=.string k,val:=v },List.mem_of_getElem? (i:=j) (by rw[Array.toList_modify,List.getElem?_modify,hi];simp),?_⟩;rw[h2]at hi;cases hi;exact h3.symm
   .exact⟨e,List.mem_of_getElem? (i:=i) (by rw[Array.toList_modify,List.getElem?_modify,hi];simp[hij]),rfl⟩
  .exact List.mem_of_getElem? (i:=j) (by rw[Array.toList_modify,List.getElem?_modify,h2];simp)
end
end bg
end
section
open Go.RowKit
section
variable {w W:World} {F P F' P':Nat} {I b I' b':Nat->Nat} {v v':Nat->Value} {L:Nat->List Cv.af} {pf n:Nat->Int} {wd h:Int}
end
structure uT (w W:World) (B:bO) (v:Nat->Value) (wd h seed:Int) (S:Ve.St):Prop where
 blk:W.heap[B.V]?=some (.cells (j5 B seed S) 114 (0,0))
 fl:bB w W B.F B.P B.I B.b v S.L S.pf S.n wd h
section
variable {w W W':World} {B B':bO} {v v':Nat->Value} {wd h seed auS:Int} {S S':Ve.St}
theorem aM.f{X:bQ}(H:aM w W B X wd h seed S):uT w W B X.v wd h seed S:=⟨H.blk,H.fl⟩
theorem uT.at(H:uT w W B v wd h seed S)(k:Nat):W.cell? (O B.V k)=(j5 B seed S)[k]?:=cR W B.V k _ _ _ H.blk
theorem O6(W:World)(H:uT w W B v wd h seed S):Calls prog 63 #[Rw B.V] W fun e w'=>e=.returned (Rw B.F)/\w'=W:=by have c:W.cell? (O B.V 1)=some (Rw B.F):=H.at 1;clear H;go_enter func63,ntmps63;go_wp2;go_ret;exact⟨rfl,rfl⟩
end
def aqY:Ve.dr:=⟨0,⟨#[]⟩,0,0,0,0⟩
def nV(l:List Ve.dr)(i:Nat):Ve.dr:=l.getD i aqY
def Ei(w:World)(b o:Nat)(l:List Ve.dr):Prop:=∀i,i<l.length->w.cell? ⟨b,o+i*6,none⟩=some (Z (nV l i).c)/\w.cell? ⟨b,o+i*6+1,none⟩=some (.string (nV l i).k)/\w.cell? ⟨b,o+i*6+2,none⟩=some (Z (nV l i).id)/\w.cell? ⟨b,o+i*6+3,none⟩=some (Z (nV l i).pr)/\w.cell? ⟨b,o+i*6+4,none⟩=some (Z (nV l i).q)/\w.cell? ⟨b,o+i*6+5,none⟩=some (Z (nV l i).cd)
theorem Ei.later{w w':World}{b o:Nat}{l:List Ve.dr}(h:Ei w b o l)(hb:U w w'):Ei w' b o l:=fun i hi=>by
 obtain⟨h0,h1,h2,h3,h4,h5⟩:=h i hi;exact⟨cell_later hb h0,cell_later hb h1,cell_later hb h2,cell_later hb h3,cell_later hb h4,cell_later hb h5⟩
theorem abP:∀(l:List Ve.dr) (i j:Nat),i<l.length->j<6->(jf l)[i*6+j]?=(po (nV l i))[j]?
 | [],i,j,h,_=>by cases h
 | x::l,0,j,_,hj=>by
  unfold jf;rw[List.flatMap_cons,List.getElem?_append_left (by simpa [po] using by omega)];simp[nV]
 | x::l,i+1,j,h,hj=>by
  have ih:=abP l i j (by simpa using h) hj;unfold jf at *;rw[List.flatMap_cons,List.getElem?_append_right (by simp[po];omega)];have e:(i+1)*6+j-(po x).length=i*6+j:=by simp[po];omega
  rw[e,ih];rfl
theorem Zj{w:World}{base:Nat}{v:Value}{l:List Ve.dr}(h:kx w base v l):(v=.slice none 0 0/\l=[])\/∃g cap,v=.slice (some (O g 0)) l.length cap/\Ei w g 0 l:=by
 have h':w.ownsRow base 121 6 v l.length (jf l):=h;rcases h'.2 with ⟨e,e2⟩ | ⟨g,cap,cur,e,hg,er,hle,_,_,_⟩
 .exact .inl ⟨e,List.eq_nil_of_length_eq_zero e2⟩
 .have key:∀i j u,i<l.length->j<6->(po (nV l i))[j]?=some u->w.cell? ⟨g,0+i*6+j,none⟩=some u:=fun i j u hi hj hu=>by
   have:=World.ownsRow.cells h' (g:=g) (by rw[e];rfl) (i*6+j) u (by rw[abP l i j hi hj];exact hu)
   have hp:(⟨g,0,none⟩:Addr).add (i*6+j)=⟨g,0+i*6+j,none⟩:=by unfold Addr.add;split <;> simp_all
   rwa [hp]at this
  refine .inr ⟨g,cap,e,fun i hi=>⟨?_,?_,?_,?_,?_,?_⟩⟩
  .exact key i 0 _ hi (by decide) rfl
  .exact key i 1 _ hi (by decide) rfl
  .exact key i 2 _ hi (by decide) rfl
  .exact key i 3 _ hi (by decide) rfl
  .exact key i 4 _ hi (by decide) rfl
  .exact key i 5 _ hi (by decide) rfl
end
namespace Ve
open Cv
theorem Zv(c:Int)(L:Nat->List af){x:af}:∀k,x∈Fl.mF c L k->∃j,j<k/\x∈L j
 | 0,h=>by cases h
 | k+1,h=>by
  unfold Fl.mF at h;rcases List.mem_append.1 h with h | h
  .obtain⟨j,h1,h2⟩:=Zv c L k h;exact⟨j,by omega,h2⟩
  .exact⟨k,by omega,(List.mem_filter.1 h).1⟩
theorem aso{wd h:Int}{r:cQ}(H:dc r.L r.pf r.n wd h){i:Nat}(hi:i<3)(s:Int):∀x∈r.L i,0<=Ra.got x.id (fO wd r i s)/\Ra.got x.id (fO wd r i s)<=x.q:=by
 have hw:Cv.fj (r.L i) (r.n (i*2)) 1000 (gW r i) (mr r i):=yL (H.ok.aO i hi).oks _;intro x hx;unfold fO Fl.mL;split
 .rename_i hc
  have hf:=Fs.Cx (xL (H.ok.aO i hi)) hw hc.2;exact(Fs.FY hf s).le x hx
 .have:=(Cv.gB ((H.ok.aO i hi).oks x hx))
  show (0:Int)<=0/\(0:Int)<=x.q;omega
theorem am5{wd h:Int}{r:cQ}(H:dc r.L r.pf r.n wd h){i:Nat}(hi:i<3)(s p:Int):∀q∈(fO wd r i s).map (uO (r.L i) p),0<=q.q/\q.q<=1000000:=by intro q hq;obtain⟨f,hf,rfl⟩:=List.mem_map.1 hq;obtain⟨h1,x,hx,e⟩:=(Ep H hi s).2 f hf;have h2:=Fs.VK (fun g hg=>((Ep H hi s).2 g hg).1) hf;have h3:=(aso H hi s x hx).2;have h4:=Cv.gB ((H.ok.aO i hi).oks x hx);rw[e]at h3;show 0<=f.2/\f.2<=1000000;omega
variable {D:Int} {P:List dr} {r:cQ} {wd h:Int}
theorem ac1{l:List af}{x:af}(ho:Ra.eL l)(hx:x∈l):∀k,k<=l.length->(∃j,j<k/\nth l j=x)->p7 l k x.id=x.ai
 | 0,_,⟨j,hj,_⟩=>by omega
 | k+1,hk,⟨j,hj,e⟩=>by
  unfold p7;split
  .rename_i e2
   have:nth l k=x:=Ra.Ov ho (Fs.oo (by omega)) hx e2.symm;rw[this]
  .rename_i hne
   refine ac1 ho hx k (by omega) ⟨j,?_,e⟩;rcases Nat.lt_or_ge j k with h1 | h1
   .exact h1
   .have:j=k:=by omega
    rw[<- this,e]at hne;exact absurd rfl hne
theorem am6{l:List af}{x:af}(ho:Ra.eL l)(hx:x∈l):p7 l l.length x.id=x.ai:=by obtain⟨j,hj,e⟩:=List.getElem_of_mem hx;exact ac1 ho hx l.length (E _) ⟨j,hj,by rw[Bk.vg hj];exact e⟩
end Ve
namespace Ve
theorem aqZ(a:ByteArray)(i j:Nat)(h:a.size<=j):a.extract i j=a.extract i a.size:=by
 apply ByteArray.ext;rw[ByteArray.data_extract,ByteArray.data_extract];have h':a.data.size<=j:=h;apply Array.ext
 .rw[Array.size_extract,Array.size_extract];show min j a.data.size-i=min a.data.size a.data.size-i;omega
 .intro k h1 h2;rw[Array.getElem_extract,Array.getElem_extract]
theorem abQ(b c:ByteArray)(i:Nat)(hi:i<=b.size):(b++c).extract i (b++c).size=b.extract i b.size++c:=by rw[ByteArray.extract_append,ByteArray.size_append,aqZ b i _ (by omega),show i-b.size=0 by omega,show b.size+c.size-b.size=c.size by omega];simp
theorem head_append(b c:ByteArray):(b++c).extract 0 b.size=b:=ByteArray.extract_append_eq_left rfl
theorem aq0(b c:ByteArray)(j:Nat)(h:30*j+30<=b.size):fr (b++c) j=fr b j:=by have h1:=aaf (b++c) 0 b.size j (by omega);rw[Nat.mul_zero,head_append,Nat.zero_add]at h1;exact h1.symm
theorem aq1(b c:ByteArray)(j:Nat)(h:30*(b.size/30)+(30*j+30)<=(b++c).size):fr (b++c) (b.size/30+j)=fr (ee b++c) j:=by have h1:=aaf (b++c) (b.size/30) (b++c).size j h;rw[abQ b c _ (by omega)]at h1;exact h1.symm
theorem Q7(b:ByteArray):(ee b).size=b.size-30*(b.size/30):=by unfold ee;rw[ByteArray.size_extract];omega
theorem abR(b c:ByteArray):(b++c).size/30=b.size/30+(ee b++c).size/30:=by rw[ByteArray.size_append,ByteArray.size_append,Q7];omega
theorem aq2(b c:ByteArray):ee (b++c)=ee (ee b++c):=by
 have h1:=abQ b c (30*(b.size/30)) (by omega);have h2:ee b++c=(b++c).extract (30*(b.size/30)) (b++c).size:=h1.symm;have h3:=abR b c;have h4:(ee b++c).size=(b++c).size-30*(b.size/30):=by rw[ByteArray.size_append,ByteArray.size_append,Q7];omega
 show (b++c).extract (30*((b++c).size/30)) (b++c).size=(ee b++c).extract (30*((ee b++c).size/30)) (ee b++c).size;generalize hk:(ee b++c).size/30=k2 at *;rw[h4,h2,ByteArray.extract_extract,h3];have h5:30*(b.size/30)<=(b++c).size:=by rw[ByteArray.size_append];omega
 congr 1 <;> omega
theorem aq3(S:St)(x:Nat->ByteArray)(n:Nat)(f:ByteArray):jE { S with aF:=x } n f = { jE S n f with aF:=x }:=by
 have e:takeC { S with aF:=x } n (cH f)=takeC S n (cH f):=rfl;unfold jE;rw[e];split
 .split
  .split
   .rfl
   .split <;> rfl
  .rfl
 .rfl
theorem aq4(S:St)(x:Nat->ByteArray)(n:Nat)(f:ByteArray):jY { S with aF:=x } n f=jY S n f:=rfl
theorem E0(S:St)(x:Nat->ByteArray)(n:Nat)(b:ByteArray):∀k,dn { S with aF:=x } n b k = { dn S n b k with aF:=x }
 | 0=>rfl
 | k+1=>by rw[dn,dn,E0 S x n b k,aq3]
theorem Jt(S:St)(x:Nat->ByteArray)(n:Nat)(b:ByteArray):∀k,fZ { S with aF:=x } n b k=fZ S n b k
 | 0=>rfl
 | k+1=>by rw[fZ,fZ,Jt S x n b k,E0 S x n b k,aq4]
theorem Q8(S:St)(n:Nat)(b c:ByteArray)(k1:Nat):∀k2,(∀j,j<k2->fr b (k1+j)=fr c j)->dn S n b (k1+k2)=dn (dn S n b k1) n c k2/\fZ S n b (k1+k2)=fZ S n b k1++fZ (dn S n b k1) n c k2
 | 0,_=>⟨rfl,(aNq _).symm⟩
 | k2+1,h=>by
  obtain⟨h1,h2⟩:=Q8 S n b c k1 k2 (fun j hj=>h j (by omega));have h3:=h k2 (by omega);refine⟨?_,?_⟩
  .rw[<- Nat.add_assoc,dn,dn,h1,h3]
  .rw[<- Nat.add_assoc,fZ,fZ,h1,h2,h3,aAq]
theorem aq5(S:St)(n:Nat)(b c:ByteArray)(k:Nat)(h:∀j,j<k->fr b j=fr c j):dn S n b k=dn S n c k/\fZ S n b k=fZ S n c k:=by obtain⟨h1,h2⟩:=Q8 S n b c 0 k (fun j hj=>by rw[Nat.zero_add];exact h j hj);rw[Nat.zero_add]at h1 h2;exact⟨h1,h2⟩
theorem aq6(S:St)(n:Nat)(f:ByteArray):(jE S n f).down=S.down/\(jE S n f).aF=S.aF:=by
 unfold jE;split
 .split
  .split
   .exact⟨rfl,rfl⟩
   .split <;> exact⟨rfl,rfl⟩
  .exact⟨rfl,rfl⟩
 .exact⟨rfl,rfl⟩
theorem abS(S:St)(n:Nat)(b:ByteArray):∀k,(dn S n b k).down=S.down/\(dn S n b k).aF=S.aF
 | 0=>⟨rfl,rfl⟩
 | k+1=>by
  have h1:=abS S n b k;have h2:=aq6 (dn S n b k) n (fr b k);exact⟨h2.1.trans h1.1,h2.2.trans h1.2⟩
theorem amu(S:St)(n:Int)(a c:ByteArray):di S n (a++c)=di (di S n a) n c/\eW S n (a++c)=eW S n a++eW (di S n a) n c:=by
 by_cases hc:S.down=true\/ah.aK n 0 5=false
 .have e1:∀x,di S n x=S:=fun x=>by unfold di;rw[if_pos hc]
  have e2:∀x,eW S n x=[]:=fun x=>by unfold eW;rw[if_pos hc]
  refine⟨by rw[e1,e1,e1],by rw[e1,e2,e2,e2];rfl⟩
 .obtain⟨m,hm⟩:=aG n.toNat
  obtain⟨b,hb⟩:=aG (S.aF m++a);have e1:di S n a = { dn S m b (b.size/30) with aF:=upd S.aF m (ee b) }:=by unfold di;rw[if_neg hc,hm,hb];exact E0 S _ m b _
  have r1:eW S n a=fZ S m b (b.size/30):=by unfold eW;rw[if_neg hc,hm,hb];exact Jt S _ m b _
  have hb2:S.aF m++(a++c)=b++c:=by rw[<- hb,ByteArray.append_assoc]
  have e2:di S n (a++c) = { dn S m (b++c) ((b++c).size/30) with aF:=upd S.aF m (ee (b++c)) }:=by unfold di;rw[if_neg hc,hm,hb2];exact E0 S _ m _ _
  have r2:eW S n (a++c)=fZ S m (b++c) ((b++c).size/30):=by unfold eW;rw[if_neg hc,hm,hb2];exact Jt S _ m _ _
  obtain⟨d1,_⟩:=abS S m b (b.size/30);have hc2:¬ ((di S n a).down=true\/ah.aK n 0 5=false):=by rw[e1];show ¬ ((dn S m b (b.size/30)).down=true\/_);rw[d1];exact hc
  have hl:(di S n a).aF m=ee b:=by rw[e1];exact upd_same _ _ _
  have e3:di (di S n a) n c = { dn (dn S m b (b.size/30)) m (ee b++c) ((ee b++c).size/30) with aF:=upd S.aF m (ee (ee b++c)) }:=by rw[di,if_neg hc2,hm,hl,e1];unfold gw;simp only[s7];exact E0 _ _ m _ _
  have r3:eW (di S n a) n c=fZ (dn S m b (b.size/30)) m (ee b++c) ((ee b++c).size/30):=by rw[eW,if_neg hc2,hm,hl,e1];unfold gw;exact Jt (dn S m b (b.size/30)) _ m _ _
  have hz:=abR b c;have hsz:(ee b++c).size=(b++c).size-30*(b.size/30):=by rw[ByteArray.size_append,ByteArray.size_append,Q7];omega
  obtain⟨s1,s2⟩:=Q8 S m (b++c) (ee b++c) (b.size/30) ((ee b++c).size/30) (fun j hj=>aq1 b c j (by omega));obtain⟨c1,c2⟩:=aq5 S m (b++c) b (b.size/30) (fun j hj=>aq0 b c j (by omega));rw[e2,e3,r2,r1,r3,hz,s1,s2,c1,c2,aq2 b c];exact⟨rfl,rfl⟩
end Ve
namespace Ve
theorem AV{a:Ask}(h:a_.ac a=0):eM (bA a)=0/\cH (bA a)=a/\(bA a).size=30:=by
 obtain⟨k,c,sq,it,sd,pr,q,id⟩:=a;have hf:bA ⟨k,c,sq,it,sd,pr,q,id⟩=strOfNums (ah.frame k c sq it sd pr q id):=by unfold bA oA;exact if_pos h
 rw[hf];have h':ah.code k c sq it sd pr q id=0:=h;obtain⟨h1,_⟩:=YH h';obtain⟨e0,e1,e2,e3,e4,e5,e6,e7⟩:=YG h';refine⟨h1,?_,by rw[strOfNums_size,ah.Db]⟩;unfold cH dv;rw[if_pos h1,if_pos h1,if_pos h1,if_pos h1,if_pos h1,if_pos h1,if_pos h1,if_pos h1,e0,e1,e2,e3,e4,e5,e6,e7]
theorem aqV{a b:ByteArray}(ha:a.size=30):fr (a++b) 0=a:=by
 unfold fr
 have:=ByteArray.extract_append_eq_left (a:=a) (b:=b) (i:=30*0+30) (by omega)
 simpa using this
theorem aqW{a b:ByteArray}(ha:a.size=30)(hb:b.size=30):fr (a++b) 1=b:=by
 unfold fr
 have:=ByteArray.extract_append_eq_right (a:=a) (b:=b) (i:=30*1) (j:=30*1+30) (by omega) (by omega)
 simpa using this
theorem aqX{a b:ByteArray}(ha:a.size=30)(hb:b.size=30):ee (a++b)=⟨#[]⟩:=by
 have hs:(ee (a++b)).size=0:=by unfold ee;rw[ByteArray.size_extract,ByteArray.size_append];omega
 generalize ee (a++b)=r at *;obtain⟨d⟩:=r;have:d=#[]:=Array.size_eq_zero_iff.1 hs;rw[this]
def iP(c:Nat):Ask:=⟨108,c,1,0,0,0,0,0⟩
theorem Im{c:Nat}(hc:c<6):a_.ac (iP c)=0:=by
 have:c=0\/c=1\/c=2\/c=3\/c=4\/c=5:=by omega
 rcases this with rfl | rfl | rfl | rfl | rfl | rfl <;> decide
def Ed(S:St)(c:Nat)(a:Ask):St:={ S with on:=upd S.on c true,ak:=upd S.ak c 3,la:=upd S.la c S.now,aF:=upd S.aF c ⟨#[]⟩,Q:=upd S.Q c (S.Q c++[a]) }
theorem amv{S:St}{c:Nat}(hc:c<6)(a:Ask)(ha:a_.ac a=0)(hk:a.k=111)(hcc:a.c=c)(Gy:a.sq=2)(hd:S.down=false)(vR:S.on c=false)(mQ:S.aF c=⟨#[]⟩)(hq:(S.Q c).length<6):
  eW S c (bA (iP c)++bA a)=[⟨c,uz,a.id,0,0,0⟩]/\di S c (bA (iP c)++bA a)=Ed S c a:=by
 obtain⟨l1,l2,l3⟩:=AV (Im hc);obtain⟨a1,a2,a3⟩:=AV ha;have hw:¬ (S.down=true\/ah.aK (c:Int) 0 5=false):=by
  have:ah.aK (c:Int) 0 5=true:=by unfold ah.aK;simp;omega
  rw[hd,this];simp
 have uJ:((c:Int)).toNat=c:=by omega
 have hb:S.aF c++(bA (iP c)++bA a)=bA (iP c)++bA a:=by rw[mQ];exact ByteArray.empty_append
 have sS:(bA (iP c)++bA a).size/30=2:=by rw[ByteArray.size_append,l3,a3]
 have f0:=aqV (b:=bA a) l3;have f1:=aqW l3 a3;have f2:=aqX l3 a3;have hF:gw S c (bA (iP c)++bA a) = { S with aF:=upd S.aF c ⟨#[]⟩ }:=by unfold gw;rw[f2]
 have t0:a_.tc (S.on c) (S.ak c) (iP c)=0:=by unfold a_.tc;rw[if_pos (Im hc),vR];rfl
 have n1:¬ ry (iP c)=true:=by show ¬ ((108:Int)==111 || (108:Int)==99)=true;decide
 have n2:¬ (iP c).k=113:=by show ¬ (108:Int)=113;decide
 have t1:takeC { S with aF:=upd S.aF c ⟨#[]⟩ } c (iP c)=0:=by unfold takeC;rw[if_pos (show (iP c).c=(c:Int) from rfl)];exact t0
 have e1:jE { S with aF:=upd S.aF c ⟨#[]⟩ } c (bA (iP c)) = { S with on:=upd S.on c true,ak:=upd S.ak c 2,la:=upd S.la c S.now,aF:=upd S.aF c ⟨#[]⟩ }:=by unfold jE;rw[if_pos l1,l2,if_pos t1,if_neg n1,if_neg n2];unfold taken;have ht:=t0;unfold a_.jJ a_.kA a_.iR;simp only[ht,if_true];rfl
 have e2:jY { S with aF:=upd S.aF c ⟨#[]⟩ } c (bA (iP c))=[]:=by unfold jY;rw[if_pos l1,l2,if_pos t1,if_neg n1]
 generalize hS1:({ S with on:=upd S.on c true,ak:=upd S.ak c 2,la:=upd S.la c S.now,aF:=upd S.aF c ⟨#[]⟩ }:St)=S1 at *;have o1:S1.on c=true:=by rw[<- hS1];simp[upd]
 have o2:S1.ak c=2:=by rw[<- hS1];simp[upd]
 have o3:S1.Q=S.Q:=by rw[<- hS1]
 have t2:a_.tc (S1.on c) (S1.ak c) a=0:=by unfold a_.tc;rw[if_pos ha,o1,o2,hk,Gy];rfl
 have t3:takeC S1 c a=0:=by unfold takeC;rw[if_pos hcc,t2]
 have hO:ry a=true:=by unfold ry;rw[hk];rfl
 have hpc:az.jV S1.Q a=0:=by
  have k1:az.yh a=true:=by unfold az.yh;rw[hk];rfl
  have k2:az.nK a.c=true:=by unfold az.nK;rw[hcc];simp;omega
  unfold az.jV;rw[if_pos k1,if_pos k2,hcc,uJ,o3,if_neg (by omega)]
 have hpl:az.jW S1.Q a=upd S.Q c (S.Q c++[a]):=by unfold az.jW;rw[if_pos hpc,hcc,uJ,o3];rfl
 have e3:jY S1 c (bA a)=[⟨c,uz,a.id,0,0,0⟩]:=by unfold jY;rw[if_pos a1,a2,if_pos t3,if_pos hO];unfold uH;rw[if_pos hpc]
 have e4:jE S1 c (bA a)=Ed S c a:=by unfold jE;rw[if_pos a1,a2,if_pos t3,if_pos hO,hpl];unfold taken a_.jJ a_.kA a_.iR Ed;simp only[t2,if_true,hk,Gy];rw[<- hS1];simp only[s7];rfl
 refine⟨?_,?_⟩
 .unfold eW
  rw[if_neg hw,uJ,hb,sS,hF];unfold fZ fZ fZ dn dn;rw[f0,f1,e1,e2,e3];rfl
 .unfold di
  rw[if_neg hw,uJ,hb,sS,hF];unfold dn dn dn;rw[f0,f1,e1,e4]
end Ve
namespace Ve
def aqb(L:Nat->List Cv.af)(c:Nat):Prop:=∀i,i<3->∀x∈L i,x.ai≠(c:Int)
structure J (S:St):Prop where
 q:∀c,c<6->∀a∈S.Q c,a.c=(c:Int)
 off:∀c,c<6->S.on c=false->S.Q c=[]/\(S.aY c=true\/aqb S.L c)
 tn:S.t<6
theorem abu(Q:Nat->List Ask){n:Nat}(hn:n<6)(c:Nat):az.pV Q n c=if c=n then [] else Q c:=by
 have h:az.nK (n:Int)=true:=by unfold az.nK;simp;omega
 have e:((n:Int)).toNat=n:=by omega
 unfold az.pV;rw[if_pos h,e];rfl
theorem Pw{Q:Nat->List Ask}{t:Nat}(ht:t<6):∀k,k<=6->∀a∈az.l6 Q t k,∃c,c<6/\a∈Q c
 | 0,_,a,h=>by cases h
 | k+1,hk,a,h=>by
  rw[az.aiq Q ht (by omega),List.mem_append]at h;rcases h with h | h
  .exact Pw ht k (by omega) a h
  .exact⟨az.who t k,az.vY t k,List.mem_of_mem_take h⟩
theorem QF{Q:Nat->List Ask}{t:Nat}(ht:t<6)(c:Nat):(∀a∈az.Ac Q t c,a∈Q c)/\(Q c=[]->az.Ac Q t c=[]):=by
 unfold az.Ac;rw[az.Nv Q ht 6 (E _) c];split
 .exact⟨fun a h=>List.mem_of_mem_drop h,fun e=>by rw[e];rfl⟩
 .exact⟨fun _ h=>h,fun e=>e⟩
end Ve
namespace Ve
theorem abv(wd h seed:Int)(S:St)(hd:(df wd h seed S).down=false):S.down=false:=by
 cases e:S.down with
 | false=>rfl
 | true=>unfold df at hd;rw[if_pos e,e]at hd;exact hd
end Ve
namespace Ve
open Cv
variable {wd h seed:Int} {c:Nat} {D:Int} {l:List Ask} {S:St}
theorem Io(bt:Nat)(ds:List Nat)(l:List Ask)(hb:bt<=1000000)(hd:∀d∈ds,d<6)(hl:ds.length<=6)(ha:l.length<=12):(iq bt ds l).size<=980:=by unfold iq Jb;rw[strOfNums_size];have h1:=Ji (bt:Int) (by omega) (by omega);have h2:=Jj ds hd ds.length;have h3:=Jk l l.length;simp only[List.length_append,List.length_singleton];omega
theorem Ee(aY:Nat->Bool):∀k,(ek aY k).length<=k/\∀d∈ek aY k,d<k
 | 0=>⟨E _,fun _ h=>by cases h⟩
 | k+1=>by
  obtain⟨h1,h2⟩:=Ee aY k;refine⟨?_,fun d hd=>?_⟩
  .rw[ek,lAq]
   split <;> simp <;> omega
  .rw[ek,List.mem_append]at hd
   rcases hd with hd | hd
   .exact Nat.lt_succ_of_lt (h2 d hd)
   .split at hd
    .rw[List.mem_singleton.1 hd];omega
    .cases hd
end Ve
namespace Ve
structure dU where
 ds:List Nat
 l:List Ask
variable {wd h seed:Int} {S T:St}
noncomputable def n_ (wd h seed:Int) (S:St) (b:dU):St:=nZ wd h seed (bV { S with now:=S.now+3 }) b.ds b.l
noncomputable def replay (wd h seed:Int) (S:St) (H:List dU):St:=H.foldl (n_ wd h seed) S
theorem aci(S:St)(H:List dU)(b:dU):replay wd h seed S (H++[b])=n_ wd h seed (replay wd h seed S H) b:=by unfold replay;rw[List.foldl_append];rfl
structure xe (S T:St):Prop where
 L:S.L=T.L
 pf:S.pf=T.pf
 n:S.n=T.n
 bt:S.bt=T.bt
theorem xe.refl(S:St):xe S S:=⟨rfl,rfl,rfl,rfl⟩
theorem xe.ran(e:xe S T)(ds:List Nat)(l:List Ask):xe (nZ wd h seed S ds l) (nZ wd h seed T ds l)/\(iQ wd h seed S ds l)=(iQ wd h seed T ds l):=by
 have hr:iQ wd h seed S ds l=iQ wd h seed T ds l:=by unfold iQ start;rw[e.L,e.pf,e.n,e.bt]
 refine⟨⟨?_,?_,?_,?_⟩,hr⟩
 .show (iQ wd h seed S ds l).L=(iQ wd h seed T ds l).L;rw[hr]
 .show (iQ wd h seed S ds l).pf=(iQ wd h seed T ds l).pf;rw[hr]
 .show (iQ wd h seed S ds l).n=(iQ wd h seed T ds l).n;rw[hr]
 .show S.bt+1=T.bt+1;rw[e.bt]
def sR:Nat->List dU->List (List UInt8)
 | _,[]=>[]
 | k,b::r=>(iq k b.ds b.l).data.toList::sR (k+1) r
def texts(H:List dU):List (List UInt8):=sR 0 H
theorem acj:∀(k:Nat) (H:List dU) (b:dU),sR k (H++[b])=sR k H++[(iq (k+H.length) b.ds b.l).data.toList]
 | k,[],b=>rfl
 | k,a::H,b=>by
  show _::sR (k+1) (H++[b])=(_::sR (k+1) H)++_;rw[acj (k+1) H b,List.cons_append,lCq,show k+(H.length+1)=k+1+H.length by omega]
theorem arA(H:List dU)(b:dU):texts (H++[b])=texts H++[(iq H.length b.ds b.l).data.toList]:=by unfold texts;rw[acj,Nat.zero_add]
structure rC (b:dU):Prop where
 acb:b.ds.Pairwise (· < ·)
 few:∀d∈b.ds,d<6
 asks:∀a∈b.l,a_.ac a=0
 len:b.l.length<=12
theorem acm(aY:Nat->Bool):∀k,(ek aY k).Pairwise (· < ·)
 | 0=>List.Pairwise.nil
 | k+1=>by
  rw[ek,List.pairwise_append];refine⟨acm aY k,by split <;> simp,fun a ha b hb=>?_⟩;have h1:=(Ee aY k).2 a ha;split at hb
  .rw[List.mem_singleton.1 hb];exact h1
  .cases hb
theorem acn{n:Nat}:∀(l:List Nat) (lo:Nat),l.Pairwise (· < ·)->(∀d∈l,lo<=d/\d<n)->l.length<=n-lo
 | [],_,_,_=>Nat.zero_le _
 | a::l,lo,hp,hn=>by
  obtain⟨h1,h2⟩:=List.pairwise_cons.1 hp;have h3:=hn a mSq;have h4:=acn l (a+1) h2 (fun d hd=>⟨h1 d hd,(hn d (mOq _ hd)).2⟩);rw[lCq];omega
theorem rC.Rj{b:dU}(hb:rC b):b.ds.length<=6:=acn b.ds 0 hb.acb (fun d hd=>⟨Nat.zero_le _,hb.few d hd⟩)
structure dK (wd h seed:Int) (S0:St) (H:List dU) (S:St):Prop where
 d9:xe S (replay wd h seed S0 H)
 len:S.bt=H.length
 ok:∀b∈H,rC b
 tp:∃tail,S.tp=bL.recs (texts H)++tail/\bL.first tail=none/\(S.down=false->tail=[])
 q:∀c,c<6->∀a∈S.Q c,a_.ac a=0
 tn:S.t<6
variable {S0:St} {H:List dU}
theorem dK.hear(I:dK wd h seed S0 H S){n:Nat}(hn:n<6)(f:ByteArray):dK wd h seed S0 H (jE S n f):=by
 unfold jE;split
 .split
  .rename_i hd ht
   generalize cH f=a at *;have hac:a_.ac a=0:=by
    unfold takeC at ht;split at ht
    .unfold a_.tc at ht
     split at ht
     .assumption
     .assumption
    .cases ht
   split
   .refine⟨⟨I.d9.L,I.d9.pf,I.d9.n,I.d9.bt⟩,I.len,I.ok,I.tp,fun c hc x hx=>?_,I.tn⟩
    have hx':x∈az.jW S.Q a c:=hx;unfold az.jW at hx';split at hx'
    .unfold az.upd at hx'
     split at hx'
     .rename_i e
      rcases List.mem_append.1 hx' with h1 | h1
      .rw[<- e]at h1;exact I.q c hc x h1
      .rw[List.mem_singleton.1 h1];exact hac
     .exact I.q c hc x hx'
    .exact I.q c hc x hx'
   .split
    .refine⟨⟨I.d9.L,I.d9.pf,I.d9.n,I.d9.bt⟩,I.len,I.ok,I.tp,fun c hc x hx=>?_,I.tn⟩
     have hx':x∈az.pV S.Q n c:=hx;rw[abu _ hn]at hx';split at hx'
     .cases hx'
     .exact I.q c hc x hx'
    .exact⟨⟨I.d9.L,I.d9.pf,I.d9.n,I.d9.bt⟩,I.len,I.ok,I.tp,I.q,I.tn⟩
  .exact I
 .exact I
theorem dK.hears(I:dK wd h seed S0 H S){n:Nat}(hn:n<6)(b:ByteArray):∀k,dK wd h seed S0 H (dn S n b k)
 | 0=>I
 | k+1=>(dK.hears I hn b k).hear hn _
theorem dK.feed(I:dK wd h seed S0 H S)(n:Int)(b:ByteArray):dK wd h seed S0 H (di S n b):=by
 unfold di;split
 .exact I
 .rename_i hc
  have hn:n.toNat<6:=by
   have:ah.aK n 0 5=true:=by
    cases hw:ah.aK n 0 5 with
    | true=>rfl
    | false=>exact absurd (.inr hw) hc
   unfold ah.aK at this;simp at this;omega
  exact dK.hears (S:=gw S n.toNat (S.aF n.toNat++b)) ⟨⟨I.d9.L,I.d9.pf,I.d9.n,I.d9.bt⟩,I.len,I.ok,I.tp,I.q,I.tn⟩ hn _ _
theorem dK.hang(I:dK wd h seed S0 H S){n:Nat}(hn:n<6):dK wd h seed S0 H (hang S n):=by
 unfold Ve.hang;split
 .refine⟨⟨I.d9.L,I.d9.pf,I.d9.n,I.d9.bt⟩,I.len,I.ok,I.tp,fun c hc x hx=>?_,I.tn⟩
  have hx':x∈az.pV S.Q n c:=hx;rw[abu _ hn]at hx';split at hx'
  .cases hx'
  .exact I.q c hc x hx'
 .exact I
theorem dK.hangs(I:dK wd h seed S0 H S):∀k,k<=6->dK wd h seed S0 H (hangs S k)
 | 0,_=>I
 | k+1,hk=>(dK.hangs I k (by omega)).hang (by omega)
theorem dK.b9(I:dK wd h seed S0 H S):dK wd h seed S0 H (b9 S) :=
 dK.hangs (S:={ S with now:=S.now+1 }) ⟨⟨I.d9.L,I.d9.pf,I.d9.n,I.d9.bt⟩,I.len,I.ok,I.tp,I.q,I.tn⟩ 6 (E _)
theorem aco(s:ByteArray):(bL.rec s.data.toList).length=12+s.size:=by rw[bL.wW];rfl
theorem dK.arB(I:dK wd h seed S0 H S)(hd:S.down=false)(hb:S.bt<=1000000):∃H',dK wd h seed S0 H' (sD wd h seed S)/\(H'=H\/H'=H++[⟨ek S.aY 6,az.out S.Q S.t⟩]):=by
 have hsz:(cV S).size<=980:=by obtain⟨h1,h2⟩:=Ee S.aY 6;exact Io S.bt _ _ hb h2 h1 (vZ S.Q S.t 6)
 obtain⟨tail,e1,e2,e3⟩:=I.tp;have e4:=e3 hd;subst e4;rw[aNq]at e1;unfold sD;split
 .rename_i hap
  refine⟨H++[⟨ek S.aY 6,az.out S.Q S.t⟩],?_,.inr rfl⟩;have hbk:rC ⟨ek S.aY 6,az.out S.Q S.t⟩:=⟨acm _ _,(Ee S.aY 6).2,fun a ha=>by
   obtain⟨c,hc,ha⟩:=Pw I.tn 6 (E _) a ha;exact I.q c hc a ha,vZ S.Q S.t 6⟩
  have hA:∀s,(bI (Ve.bV S) s).L=S.L/\(bI (Ve.bV S) s).pf=S.pf/\(bI (Ve.bV S) s).n=S.n/\(bI (Ve.bV S) s).bt=S.bt/\(bI (Ve.bV S) s).Q=(Ve.bV S).Q/\(bI (Ve.bV S) s).t=(Ve.bV S).t/\(bI (Ve.bV S) s).down=S.down:=fun s=>by
   unfold bI;split <;> exact⟨rfl,rfl,rfl,rfl,rfl,rfl,rfl⟩
  obtain⟨a1,a2,a3,a4,a5,a6,a7⟩:=hA (cV S);have arC:xe (bI (Ve.bV S) (cV S)) (Ve.bV { replay wd h seed S0 H with now:=(replay wd h seed S0 H).now+3 }) :=
   ⟨a1.trans I.d9.L,a2.trans I.d9.pf,a3.trans I.d9.n,a4.trans I.d9.bt⟩
  refine⟨?_,?_,fun b hb'=>?_,⟨[],?_,rfl,fun _=>rfl⟩,?_,?_⟩
  .rw[aci];exact(arC.ran (ek S.aY 6) (az.out S.Q S.t)).1
  .show (bI (Ve.bV S) (cV S)).bt+1=_
   rw[a4,I.len,lAq];rfl
  .rcases List.mem_append.1 hb' with h1 | h1
   .exact I.ok b h1
   .rw[List.mem_singleton.1 h1];exact hbk
  .show (bI (Ve.bV S) (cV S)).tp=_
   rw[aNq,arA,bL.P4,<- e1,<- I.len];unfold lI at hap;simp only[Bool.and_eq_true,Bool.or_eq_true,Bool.not_eq_true',decide_eq_true_eq]at hap;unfold bI;rw[if_neg (by rw[hap.1];decide)];show S.tp++(if S.cut=true then (bL.rec (cV S).data.toList).take S.left else bL.rec (cV S).data.toList)=S.tp++bL.rec (cV S).data.toList;split
   .rename_i hcut
    have h1:12+(cV S).size<=S.left:=by
     rcases hap.2 with h2 | h2
     .exact absurd hcut (by rw[show S.cut=false from h2];decide)
     .exact h2
    rw[List.take_of_length_le (by rw[aco];exact h1)]
   .rfl
  .intro c hc x hx
   have hx':x∈(bI (Ve.bV S) (cV S)).Q c:=hx;rw[a5]at hx';exact I.q c hc x ((QF I.tn c).1 x hx')
  .show (bI (Ve.bV S) (cV S)).t<6
   rw[a6];exact az.vY _ _
 .rename_i hap
  refine⟨H,?_,.inl rfl⟩;have hA:∀s,(bI (Ve.bV S) s).L=S.L/\(bI (Ve.bV S) s).pf=S.pf/\(bI (Ve.bV S) s).n=S.n/\(bI (Ve.bV S) s).bt=S.bt/\(bI (Ve.bV S) s).Q=(Ve.bV S).Q/\(bI (Ve.bV S) s).t=(Ve.bV S).t:=fun s=>by
   unfold bI;split <;> exact⟨rfl,rfl,rfl,rfl,rfl,rfl⟩
  obtain⟨a1,a2,a3,a4,a5,a6⟩:=hA (cV S);refine⟨⟨a1.trans I.d9.L,a2.trans I.d9.pf,a3.trans I.d9.n,a4.trans I.d9.bt⟩,a4.trans I.len,I.ok,?_,?_,?_⟩
  .show ∃tail,(bI (Ve.bV S) (cV S)).tp=bL.recs (texts H)++tail/\bL.first tail=none/\(true=false->tail=[])
   unfold bI;split
   .exact⟨[],by rw[aNq];exact e1,rfl,fun hf=>by cases hf⟩
   .rename_i hfl
    have arD:full (Ve.bV S) (cV S)=false:=by simpa using hfl
    have hcl:S.cut=true/\S.left<12+(cV S).size:=by
     have:lI (Ve.bV S) (cV S)=false:=by simpa using hap
     unfold lI at this;rw[arD]at this;have h2:(!S.cut || decide (12+(cV S).size<=S.left))=false:=by rw[Bool.not_false,Bool.true_and]at this;exact this
     simp only[Bool.or_eq_false_iff,Bool.not_eq_false',decide_eq_false_iff_not]at h2;exact⟨h2.1,by omega⟩
    refine⟨(bL.rec (cV S).data.toList).take S.left,?_,?_,fun hf=>by cases hf⟩
    .show S.tp++(if S.cut=true then (bL.rec (cV S).data.toList).take S.left else bL.rec (cV S).data.toList)=_
     rw[if_pos hcl.1,e1]
    .refine bL.aoo (cV S).data.toList _ (show (cV S).size<=10000 by omega) (List.take_prefix _ _) ?_
     rw[lKq,aco];omega
  .intro c hc x hx
   have hx':x∈(bI (Ve.bV S) (cV S)).Q c:=hx;rw[a5]at hx';exact I.q c hc x ((QF I.tn c).1 x hx')
  .show (bI (Ve.bV S) (cV S)).t<6
   rw[a6];exact az.vY _ _
theorem dK.tick(I:dK wd h seed S0 H S)(hb:S.bt<=1000000):∃H',dK wd h seed S0 H' (df wd h seed S)/\H <+: H':=by
 unfold df;split
 .exact⟨H,I,List.prefix_rfl⟩
 .rename_i hd
  split
  .have sI:(Ve.b9 S).down=false:=by rw[show (Ve.b9 S).down=S.down from(uI _ 6).2.2.1];simpa using hd
   obtain⟨H',h1,h2⟩:=I.b9.arB sI (by rw[show (Ve.b9 S).bt=S.bt from(uI _ 6).2.1];exact hb);refine⟨H',h1,?_⟩;rcases h2 with h2 | h2
   .rw[h2];exact List.prefix_rfl
   .rw[h2];exact List.prefix_append _ _
  .exact⟨H,I.b9,List.prefix_rfl⟩
end Ve
section
open Go.RowKit
section
variable {w W:World} {ad:Nat->Addr} {B:bO} {X:bQ} {wd h seed:Int} {S:Ve.St}
theorem arJ(ds:List Nat)(l:List Ask)(bY va:Value)(based sM:Nat)(W:World)(H:Hid (aM w W B X wd h seed S))(hs:Hid (bJ w ad))(hall:Hid (dc S.L S.pf S.n wd h))(hbt:S.bt<=1000000)(QS:S.now<=10000000)(hrd:Hid (W.ownsRow based 3 1 bY ds.length (lg ds)))(iZ:Hid (W.ownsRow sM 95 8 va l.length (bz l)))(hna:Hid (∀k,va.ownBlock=some k->¬ dV B X k))(Bg:Hid (∀d∈ds,d<6))(hdl:ds.length<=6)(hal:l.length<=12):
  Calls prog 104 #[Rw B.V,bY,va] W fun e w'=>e=.returned (.tuple #[])/\∃X',aM w w' B X' wd h seed (Ve.n_ wd h seed S ⟨ds,l⟩)/\br W w' B X X'/\dc (Ve.n_ wd h seed S ⟨ds,l⟩).L (Ve.n_ wd h seed S ⟨ds,l⟩).pf (Ve.n_ wd h seed S ⟨ds,l⟩).n wd h:=by
 obtain⟨h2,hs2⟩:=H.abf (S.now+3);rw[show ((S.now+3:Nat):Int)=(S.now:Int)+3 by push_cast;rfl]at h2 hs2;have acS:=H.ET (j:=34) (u:=Z ((S.now:Int)+3)) hrd (by decide);have acT:=H.ET (j:=34) (u:=Z ((S.now:Int)+3)) iZ (by decide);have H2:=Y h2;have HS2:=Y hs2;have HD2:=Y acS;have cJ:=Y acT;clear h2 hs2 acS acT;have c34:W.cell? (O B.V 34)=some (Z S.now):=H.at 34;have fz:∀j,W.frozen? (O B.V j)=false:=fun j=>H.free j;have abt:B.V<W.heap.size:=H.lt;have c2:W.cell? (O B.V 2)=some (Rw B.q):=H.at 2;go_enter func104,ntmps104
 go_wp2_with fail
 generalize W.setCell (O B.V 34) (Z ((S.now:Int)+3))=w2 at *;refine(V_ _ H2.it).mono ?_;rintro e w3 ⟨d3,ar2,rfl,_,bU,acU,_⟩;obtain⟨h3,hs3⟩:=H2.take bU acU;have H3:Hid (aM w w3 B { X with qv:=ar2 } wd h seed (Ve.bV { S with now:=S.now+3 })):=h3;have eJ:=Y (HS2.trans hs3);have HD3:=Y (hs3.row H2 HD2 (by decide));have ko:Hid (w3.ownsRow sM 95 8 va l.length (bz l)):=eV cJ hs3.turned (fun k hk=>hna k hk);have EW:=Y (abg ds l bY va based sM w3 H3 hs hall hbt HD3 ko Bg hdl hal);clear bU acU h3 hs3 c34 fz c2 abt;simp only[]
 go_wp2_with fail
 refine EW.mono ?_;rintro e w4 ⟨v4,p9,rfl,h4,cK,_,Bj,_,_⟩;have d8:=Y h4;have dL:=Y (eJ.trans cK);have gF:=Y Bj;clear h4 cK Bj;simp only[];go_wp2;go_end0;exact⟨rfl,p9,d8,dL,gF⟩
end
end
namespace Ve
variable {wd h seed:Int}
def wc(S:St)(c:Bool)(x:Nat):St:={ S with cut:=c,left:=x }
theorem dK.ticks{S0 S:St}{H:List dU}(I:dK wd h seed S0 H S):∀k,S.bt+k<=1000000->∃H',dK wd h seed S0 H' (gL wd h seed S k)/\H <+: H'/\(gL wd h seed S k).bt<=S.bt+k
 | 0,_=>⟨H,I,List.prefix_rfl,E _⟩
 | k+1,hk=>by
  obtain⟨H1,h1,h2,h3⟩:=dK.ticks I k (by omega);obtain⟨H2,h4,h5⟩:=h1.tick (by omega);refine⟨H2,h4,h2.trans h5,?_⟩;have e1:=h4.len;show (df wd h seed (gL wd h seed S k)).bt<=_;have:(df wd h seed (gL wd h seed S k)).bt<=(gL wd h seed S k).bt+1:=by
   generalize gL wd h seed S k=T at *;have hb:∀s,(bI (Ve.bV (Ve.b9 T)) s).bt=T.bt:=fun s=>by
    have:(Ve.b9 T).bt=T.bt:=(uI _ 6).2.1;unfold bI;split
    .exact this
    .exact this
   unfold df;split
   .omega
   .split
    .unfold sD
     split
     .show (bI (Ve.bV (Ve.b9 T)) (cV (Ve.b9 T))).bt+1<=_
      rw[hb];omega
     .show (bI (Ve.bV (Ve.b9 T)) (cV (Ve.b9 T))).bt<=_
      rw[hb];omega
    .rw[show (Ve.b9 T).bt=T.bt from(uI _ 6).2.1];omega
  omega
theorem anz(ref cash stock:Int):dK wd h seed (init ref cash stock) [] (init ref cash stock) :=
 ⟨xe.refl _,rfl,fun _ hb=>(by cases hb),⟨[],rfl,rfl,fun _=>rfl⟩,fun _ _ _ ha=>(by cases ha),(show 0<6 by decide)⟩
end Ve
section
open Go.RowKit
section
variable {w W:World} {ad:Nat->Addr} {B:bO} {X:bQ} {wd h seed:Int} {S:Ve.St}
end
section
variable {w W:World} {ad:Nat->Addr}
theorem Y':Fl.Fits 20000 100:=by constructor <;> decide
def Ve.S0:Ve.St:=Ve.init 100 20000 100
theorem anx:Ve.Ok 0 10 2 Ve.S0:=aps 100 20000 100 (by decide) (by decide) Y'
end
end
end Go.Proofs.YtjolccidheflpaaGreatDoor
