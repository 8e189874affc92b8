/- strconv.AppendInt at base 10, by the contract of the library that is given, at this program. -/
import Derived.Test.YtjolccidheflpaaGreatDoorW37
import Derived.Lib.ItoaLen
import Derived.Shelf.Strconv.AppendIntPublic10
import Derived.Test.YtjolccidheflpaaGreatDoorW30
import Derived.Test.YtjolccidheflpaaGreatDoorW03
import Derived.Test.YtjolccidheflpaaGreatDoorW09
import Derived.Test.YtjolccidheflpaaGreatDoorW08
import Derived.Test.YtjolccidheflpaaGreatDoorW24
import Derived.Test.YtjolccidheflpaaGreatDoorW32
import Derived.Test.YtjolccidheflpaaGreatDoorW00
namespace Go.Proofs.YtjolccidheflpaaGreatDoor
set_option maxHeartbeats 8000000
set_option maxRecDepth 100000
section
open Go.Shelf Go.RowKit
def akz:Go.Shelf.Ren:=⟨fun | 176=>137 | 249=>185 | 288=>213 | 283=>240 | 284=>241 | 285=>242 | 286=>243 | 129=>274 | 317=>273 | 318=>275 | 319=>276 | 320=>277 | 337=>296 | 338=>297 | n=>n,fun | 37=>115 | 2=>2 | 3=>3 | 53=>330 | 4=>4 | 9=>9 | 171=>353 | 0=>0 | 173=>356 | 212=>396 | 51=>41 | 5=>5 | 20=>20 | 213=>397 | 46=>245 | 232=>425 | 233=>426 | n=>n,fun | 17=>18 | 18=>19 | 19=>20 | n=>n⟩
theorem akA:Go.Proofs.LaysM.n176 Tryz.prog akz:={
 mixed:=by kernel_rfl
 f129:=Tryz.func274.trans (congrArg some (by kernel_rfl))
 f176:=Tryz.func137.trans (congrArg some (by kernel_rfl))
 f249:=Tryz.func185.trans (congrArg some (by kernel_rfl))
 f283:=Tryz.func240.trans (congrArg some (by kernel_rfl))
 f284:=Tryz.func241.trans (congrArg some (by kernel_rfl))
 f285:=Tryz.func242.trans (congrArg some (by kernel_rfl))
 f286:=Tryz.func243.trans (congrArg some (by kernel_rfl))
 f288:=Tryz.func213.trans (congrArg some (by kernel_rfl))
 f317:=Tryz.func273.trans (congrArg some (by kernel_rfl))
 f318:=Tryz.func275.trans (congrArg some (by kernel_rfl))
 f319:=Tryz.func276.trans (congrArg some (by kernel_rfl))
 f320:=Tryz.func277.trans (congrArg some (by kernel_rfl))
 f337:=Tryz.func296.trans (congrArg some (by kernel_rfl))
 f338:=Tryz.func297.trans (congrArg some (by kernel_rfl))
 t0:=Tryz.underlying0
 a0:=Tryz.isAgg0
 z0:=Tryz.sizeOf0
 v0:=Tryz.zeroValue0
 t2:=Tryz.underlying2
 a2:=Tryz.isAgg2
 z2:=Tryz.sizeOf2
 v2:=Tryz.zeroValue2
 t3:=Tryz.underlying3
 a3:=Tryz.isAgg3
 z3:=Tryz.sizeOf3
 v3:=Tryz.zeroValue3
 t4:=Tryz.underlying4
 a4:=Tryz.isAgg4
 z4:=Tryz.sizeOf4
 v4:=Tryz.zeroValue4
 t5:=Tryz.underlying5
 a5:=Tryz.isAgg5
 z5:=Tryz.sizeOf5
 v5:=Tryz.zeroValue5
 t9:=Tryz.underlying9
 a9:=Tryz.isAgg9
 z9:=Tryz.sizeOf9
 v9:=Tryz.zeroValue9
 t20:=Tryz.underlying20
 a20:=Tryz.isAgg20
 z20:=Tryz.sizeOf20
 v20:=Tryz.zeroValue20
 t37:=Tryz.underlying115
 a37:=Tryz.isAgg115
 z37:=Tryz.sizeOf115
 v37:=Tryz.zeroValue115
 t46:=Tryz.underlying245
 a46:=Tryz.isAgg245
 z46:=Tryz.sizeOf245
 v46:=Tryz.zeroValue245
 t51:=Tryz.underlying41
 a51:=Tryz.isAgg41
 z51:=Tryz.sizeOf41
 v51:=Tryz.zeroValue41
 t53:=Tryz.underlying330
 a53:=Tryz.isAgg330
 z53:=Tryz.sizeOf330
 v53:=Tryz.zeroValue330
 t171:=Tryz.underlying353
 a171:=Tryz.isAgg353
 z171:=Tryz.sizeOf353
 v171:=Tryz.zeroValue353
 t173:=Tryz.underlying356
 a173:=Tryz.isAgg356
 z173:=Tryz.sizeOf356
 v173:=Tryz.zeroValue356
 t212:=Tryz.underlying396
 a212:=Tryz.isAgg396
 z212:=Tryz.sizeOf396
 v212:=Tryz.zeroValue396
 t213:=Tryz.underlying397
 a213:=Tryz.isAgg397
 z213:=Tryz.sizeOf397
 t232:=Tryz.underlying425
 a232:=Tryz.isAgg425
 z232:=Tryz.sizeOf425
 v232:=Tryz.zeroValue425
 t233:=Tryz.underlying426
 a233:=Tryz.isAgg426
 z233:=Tryz.sizeOf426
 v233:=Tryz.zeroValue426
 g17:=by kernel_rfl
 g18:=by kernel_rfl
 g19:=by kernel_rfl
 i0:=by kernel_rfl
 i2:=by kernel_rfl
 i3:=by kernel_rfl
 i4:=by kernel_rfl
 i5:=by kernel_rfl
 i9:=by kernel_rfl
 i20:=by kernel_rfl
 i37:=by kernel_rfl
 i46:=by kernel_rfl
 i51:=by kernel_rfl
 i53:=by kernel_rfl
 i171:=by kernel_rfl
 i173:=by kernel_rfl
 i212:=by kernel_rfl
 i232:=by kernel_rfl
 i233:=by kernel_rfl
 m17:=by kernel_rfl
 m18:=by kernel_rfl
 m19:=by kernel_rfl }
theorem Yn (B:Nat) (i:Int) (h0:-9223372036854775808<=i) (h1:i<=9223372036854775807) (sv:Value) (xs:List Int) (w:World) (hown:Row w B sv xs) (Cc:B<=w.heap.size) (hl:xs.length<=1000000)
  (htab:Lib.TabBelow Tryz.prog B w "internal/strconv.uint64pow10" .u64 Lib.pow10Tab) :
  Calls Tryz.prog 137 #[sv,Qa i,Qa 10] w fun e w'=>∃ v',e=.returned v'/\Row w' B v' (xs++af.dec i)/\Below B w w':=by
 refine(Go.Proofs.Any.strconv_AppendInt_10 akA B xs.length i h0 h1 sv (xs.map (Value.int .u8)) w hown Cc (by omega) htab).mono ?_;rintro e w' ⟨v',rfl,h2,h3,_⟩;refine⟨v',rfl,?_,h3⟩;show w'.ownsRow B 5 1 v' (xs++af.dec i).length ((xs++af.dec i).map (Value.int .u8));rw[lAq,List.map_append,show (af.dec i).length=(Lib.itoa i).length by unfold af.dec;rw[List.length_map],show (af.dec i).map (Value.int .u8)=Lib.byteCells (Lib.itoa i) by unfold af.dec Lib.byteCells;rw[List.map_map];rfl];exact h2
end
section
open Go.RowKit
theorem Ip (n:Int) (h0:-9223372036854775808<=n) (h1:n<=9223372036854775807):(af.dec n).length<=21:=by unfold af.dec;rw[List.length_map];exact Lib.itoa_length_le n h0 h1
theorem YG (a:Ask):(af.bL a).size<=30:=by
 unfold af.bL nh;split
 .rw[strOfNums_size,ah.BA];omega
 .exact Nat.zero_le _
theorem Iq (ds:List Nat) (hd:∀ d∈ds,d<6):∀ k,(af.l5 ds k).length<=22*k
 | 0=>by simp[af.l5]
 | k+1=>by
  have:=Iq ds hd k
  have h2:ds.getD k 0<6:=by
   rw[gE];cases h:ds[k]? with
   | none=>simp
   | some d=>exact hd d (List.mem_of_getElem? h)
  have h3:=Ip ((ds.getD k 0:Nat):Int) (by omega) (by omega);rw[af.l5,lAq,lAq];split <;> simp only[List.length_singleton,List.length_nil] <;> omega
theorem Ir (l:List Ask):∀ k,(af.nZ l k).length<=61*k
 | 0=>by simp[af.nZ]
 | k+1=>by
  have:=Ir l k
  have h2:=YG (cY l k);rw[af.nZ,lAq,lAq,OP];simp;omega
section
variable {w W:World} {ad:Nat->Addr}
theorem YH {B:Nat} (ht:Lib.TabBelow Tryz.prog w.heap.size w "internal/strconv.uint64pow10" .u64 Lib.pow10Tab) (hb:Qd w W) (hB:w.heap.size<=B):Lib.TabBelow Tryz.prog B W "internal/strconv.uint64pow10" .u64 Lib.pow10Tab :=
 fun w' h'=>ht w' (hb.trans (h'.mono hB))
theorem akW (bt:Nat) (ds:List Nat) (l:List Ask) (bM va:Value) (based rz:Nat) (W:World) (hs:Hid (bO w ad)) (ht:Hid (Lib.TabBelow Tryz.prog w.heap.size w "internal/strconv.uint64pow10" .u64 Lib.pow10Tab)) (hbw:Hid (Qd w W)) (hbt:bt<=1000000)
  (hrd:Hid (W.ownsRow based 3 1 bM ds.length (ds.map fun d=>Qa (d:Nat)))) (ib:Hid (W.ownsRow rz 95 8 va l.length (bm l))) (zJ:Hid (∀ d∈ds,d<6)) (hdl:ds.length<=6) (hal:l.length<=12) :
  Calls Tryz.prog 79 #[Qa bt,bM,va] W fun e w'=>e=.returned (.string (af.gF bt ds l))/\Qd W w':=by
 obtain⟨Dg,OQ,iY⟩:=gi hrd.out;obtain⟨xL,Dh,xM⟩:=gi ib.out;obtain⟨md,rA⟩:∃ md,ds.length=md:=⟨_,rfl⟩;obtain⟨f_,hma⟩:∃ f_,l.length=f_:=⟨_,rfl⟩;rw[rA]at hrd iY hdl;rw[hma]at ib xM hal;subst iY xM;have OT:=hDq rA;have OU:=hDq hma;have zt:Hid (af.gF bt ds l=strOfNums (((af.dec bt++[58])++af.l5 ds md)++af.nZ l f_)):=by show _=_;rw[<- rA,<- hma];rfl
 clear rA hma;have Iu:w.heap.size<=W.heap.size:=hbw.out.size;have aps:=Ip (bt:Int) (by omega) (by omega);have HI0:=hDq (Yn W.heap.size (bt:Int) (by omega) (by omega) (.slice none 0 0) [] W (World.ownsRow_nil _ _ _ _) (lRq _) (by simp) (YH ht.out hbw.out Iu));generalize af.gF bt ds l=rb at *;go_enter Tryz.func79,Tryz.ntmps79
 go_wp2_with fail
 refine HI0.out.mono ?_;rintro e w1 ⟨v1,rfl,hr1,hb1⟩;have pz:W.heap.size<=w1.heap.size:=hb1.size;obtain⟨v2,w2,OV,hr2,hg2⟩:=Df W.heap.size w1 v1 ([]++af.dec bt) [58] hr1 (by simp;omega) (by simp) pz;have HB2:Hid (Qd W w2):=below_grown (hb1.alloc pz _) (World.ownsRow.alloc hr1 _) (lTq pz (by simp)) hg2;simp only[List.nil_append]at hr2;have bq:=hDq hr2;simp only[List.map_cons,List.map_nil,List.length_cons,List.length_nil]at OV;have Gx:=hDq OV;clear OV hr2 hg2 hr1 hb1 HI0;simp only[]
 go_wp2_with (at_builtin;refine wpList_append_run rfl _ _ 115 rfl _ _ _ rfl rfl Gx.out ?_)
 go_loopw [7,21] (fun v kv wr=>∃ k:Nat,k<=md/\kv=Qa k/\Row wr W.heap.size v ((af.dec bt++[58])++af.l5 ds k)/\Qd W wr) (fun _ kv _=>md-(intOf kv).toNat)
 case atStart=>exact⟨0,by omega,rfl,by simpa [af.l5] using bq.out,HB2.out⟩
 case round =>
  obtain⟨k,hk,rfl,hrow,jk⟩:=hrel;have HR:=hDq hrow;have HB:=hDq jk;clear jk;have OW:W.heap.size<=wr.heap.size:=HB.out.size;have akX:((af.dec bt++[58])++af.l5 ds k).length<=1000:=by
   have:=Iq ds zJ.out k
   simp only[List.length_append,List.length_singleton];omega
  by_cases hlt:k<md
  .have aX:(k:Int)<md:=by omega
   have hkl:k<ds.length:=by rw[OT.out];exact hlt
   obtain⟨g,hg⟩:∃ g,Dg=some (Qb g 0):=by
    rcases hrd.out.2 with ⟨e1,_⟩ | ⟨g,cap,cur,e1,_⟩
    .cases e1;omega
    .simp only[Value.slice.injEq]at e1;exact⟨g,e1.1⟩
   subst hg;have NK:wr.cell? (Qb g k)=some (Qa (ds.getD k 0:Nat)):=by
    have h1:=World.ownsRow.cells (cO hrd.out HB.out) (g:=g) rfl k (Qa (ds.getD k 0:Nat)) (by simp[List.getElem?_eq_getElem hkl,List.getD_eq_getElem?_getD]);have hp:(⟨g,0,none⟩:Addr).add k=(Qb g k):=by unfold Addr.add;split <;> simp_all
    rwa [hp]at h1
   have akY:ds.getD k 0<6:=by
    rw[gE,List.getElem?_eq_getElem hkl];exact zJ.out _ (List.getElem_mem hkl)
   have HN:Hid (af.l5 ds (k+1)=af.l5 ds k++((if 0<k then [44] else [])++af.dec ((ds.getD k 0:Nat):Int))):=rfl;generalize ds.getD k 0=d at *;have HI:=hDq (fun (v:Value) (xs:List Int) (W':World) (h1:Row W' W.heap.size v xs) (h2:xs.length<=2000) (h3:Qd W W')=>Yn W.heap.size (d:Int) (by omega) (by omega) v xs W' h1 h3.size (by omega) (YH ht.out (hbw.out.trans (h3.mono Iu)) Iu));by_cases h0:0<k
   .have akZ:(0:Int)<k:=by omega
    rw[if_pos h0]at HN;obtain⟨v5,aC,OX,fG,mH⟩:=Df W.heap.size wr u7 _ [44] HR.out (by omega) (by simp) OW;have ck:Hid (Qd W aC):=below_grown (HB.out.alloc OW _) (World.ownsRow.alloc HR.out _) (lTq OW (by simp)) mH;have bA:=hDq fG;simp only[List.map_cons,List.map_nil,List.length_cons,List.length_nil]at OX;have ak0:=hDq OX;clear OX fG mH hrow
    go_wp2_with (at_builtin;refine wpList_append_run rfl _ _ 115 rfl _ _ _ rfl rfl ak0.out ?_)
    refine(HI.out _ _ _ bA.out (by simp only[List.length_append]at akX ⊢;simp;omega) ck.out).mono ?_;rintro e ai ⟨v6,rfl,iA,hb6⟩;have aY:=hDq (ck.out.trans hb6);have bz:=hDq iA;clear iA hb6;simp only[];go_wp2;refine⟨⟨k+1,hlt,by go_num,?_,aY.out⟩,by simp[intOf];omega⟩;rw[HN.out]
    have:=bz.out
    simp only[List.append_assoc]at this ⊢;exact this
   .have akZ:¬ (0:Int)<k:=by omega
    rw[if_neg h0,List.nil_append]at HN;clear hrow
    go_wp2_with fail
    refine(HI.out _ _ _ HR.out (by omega) HB.out).mono ?_;rintro e ai ⟨v6,rfl,iA,hb6⟩;have aY:=hDq (HB.out.trans hb6);have bz:=hDq iA;clear iA hb6;simp only[];go_wp2;refine⟨⟨k+1,hlt,by go_num,?_,aY.out⟩,by simp[intOf];omega⟩;rw[HN.out]
    have:=bz.out
    simp only[List.append_assoc]at this ⊢;exact this
  .have aX:¬ (k:Int)<md:=by omega
   obtain rfl:k=md:=by omega
   obtain⟨gz,hwo⟩:∃ gz,gz=wr:=⟨_,rfl⟩;subst hwo;obtain⟨YI,ak1⟩:∃ YI,YI=u7:=⟨_,rfl⟩;subst ak1;clear hrow
   go_wp2_with fail
   go_loopw [7,37] (fun v kv wr=>∃ j:Nat,j<=f_/\kv=Qa j/\Row wr W.heap.size v (((af.dec bt++[58])++af.l5 ds k)++af.nZ l j)/\Qd W wr) (fun _ kv _=>f_-(intOf kv).toNat)
   case atStart=>exact⟨0,by omega,rfl,by simpa [af.nZ] using HR.out,HB.out⟩
   case round =>
    obtain⟨j,hj,rfl,hrow,jk⟩:=hrel;have vD:=hDq hrow;have Di:=hDq jk;clear jk;have OY:W.heap.size<=wr.heap.size:=Di.out.size;have ak2:(((af.dec bt++[58])++af.l5 ds k)++af.nZ l j).length<=2000:=by
     have:=Ir l j
     rw[lAq];omega
    by_cases n_:j<f_
    .have bI:(j:Int)<f_:=by omega
     have vq:j<l.length:=by rw[OU.out];exact n_
     obtain⟨g,hg⟩:∃ g,xL=some (Qb g 0):=by
      rcases ib.out.2 with ⟨e1,_⟩ | ⟨g,cap,cur,e1,_⟩
      .cases e1;omega
      .simp only[Value.slice.injEq]at e1;exact⟨g,e1.1⟩
     subst hg;obtain⟨d0,d1,d2,d3,d4,d5,kT,sR⟩:=zD (cO ib.out Di.out) vq n_;have qd:g<wr.heap.size:=bCq _ _ d0;have HN:Hid (af.nZ l (j+1)=af.nZ l j++([32]++af.l4 (af.bL (cY l j)) (af.bL (cY l j)).size)):=rfl;generalize cY l j=a at *;have aY:Hid (Qd wr (wr.alloc (.cells #[.int .u8 a.k,Qa a.c,Qa a.sq,Qa a.it,Qa a.sd,Qa a.pr,Qa a.q,Qa a.id] 95))):=(bRq _ _).alloc (lRq _) _;have HE:=hDq (Rb a.k a.c a.sq a.it a.sd a.pr a.q a.id ad (wr.alloc (.cells #[.int .u8 a.k,Qa a.c,Qa a.sq,Qa a.it,Qa a.sd,Qa a.pr,Qa a.q,Qa a.id] 95)) (hs.out.later (hbw.out.trans ((Di.out.trans (aY.out.mono OY)).mono Iu))));rw[show nh a.k a.c a.sq a.it a.sd a.pr a.q a.id=af.bL a from rfl]at HE;have Vq:=YG a;generalize af.bL a=fo at *;generalize gy ad (ah.code a.k a.c a.sq a.it a.sd a.pr a.q a.id)=bY at *;clear hrow
     go_wp2_with fail
     refine HE.out.mono ?_;rintro e br ⟨rfl,kU⟩;have i6:=hDq (aY.out.trans (kU.mono aY.out.size));have fH:=hDq (cO vD.out i6.out);have OZ:W.heap.size<=br.heap.size:=lTq OY i6.out.size;have YJ:=Di.out.trans (i6.out.mono OY);obtain⟨v8,cn,O0,A9,xH⟩:=Df W.heap.size br u7 _ [32] fH.out (by omega) (by simp) OZ;have mj:Hid (Qd W cn):=below_grown (YJ.alloc OZ _) (World.ownsRow.alloc fH.out _) (lTq OZ (by simp)) xH;have HD:=hDq (akU W.heap.size v8 _ fo cn A9 (by simp only[List.length_append]at ak2 ⊢;simp;omega) (by omega) mj.out.size);simp only[List.map_cons,List.map_nil,List.length_cons,List.length_nil]at O0;have ak3:=hDq O0;clear O0 A9 xH kU HE aY d0 d1 d2 d3 d4 d5 kT sR YJ;simp only[]
     go_wp2_with (at_builtin;refine wpList_append_run rfl _ _ 115 rfl _ _ _ rfl rfl ak3.out ?_)
     refine HD.out.mono ?_;rintro e i7 ⟨v9,rfl,YK,jB⟩;have qX:=hDq (mj.out.trans jB);have yB:=hDq YK;clear YK jB HD;simp only[];go_wp2;refine⟨⟨j+1,n_,by go_num,?_,qX.out⟩,by simp[intOf];omega⟩;rw[HN.out]
     have:=yB.out
     simp only[List.append_assoc]at this ⊢;exact this
    .have bI:¬ (j:Int)<f_:=by omega
     obtain rfl:j=f_:=by omega
     have hcv:=D8 vD.out;clear hrow;go_wp2;go_ret;refine⟨?_,Di.out⟩;rw[zt.out];simp
end
section
variable {w W:World} {ad:Nat->Addr} {B:bP} {X:bX} {wd h seed:Int} {S:af.St}
def zF (S:af.St):List Value:=[.bool (S.on 0),Qa (S.ar 0),Qa (S.la 0),.string (S.az 0),.bool (S.aU 0),.bool (S.on 1),Qa (S.ar 1),Qa (S.la 1),.string (S.az 1),.bool (S.aU 1),.bool (S.on 2),Qa (S.ar 2),Qa (S.la 2),.string (S.az 2),.bool (S.aU 2),.bool (S.on 3),Qa (S.ar 3),Qa (S.la 3),.string (S.az 3),.bool (S.aU 3),.bool (S.on 4),Qa (S.ar 4),Qa (S.la 4),.string (S.az 4),.bool (S.aU 4),.bool (S.on 5),Qa (S.ar 5),Qa (S.la 5),.string (S.az 5),.bool (S.aU 5)]
theorem Yo (S:af.St):(zF S).length=30:=rfl
theorem akB (S:af.St) {k:Nat} (hk:k<6) (W:World):(Instr.index 112 (.agg (zF S).toArray) (Qa k)).run Tryz.prog W=.ok (.agg #[.bool (S.on k),Qa (S.ar k),Qa (S.la k),.string (S.az k),.bool (S.aU k)]) W:=by
 have:k=0\/k=1\/k=2\/k=3\/k=4\/k=5:=by omega
 unfold zF;rcases this with rfl | rfl | rfl | rfl | rfl | rfl <;> exact rfl
theorem akC (S:af.St):(Tryz.prog.info? 112).map (·.size)=some (zF S).length:=by rw[Yo];kernel_rfl
theorem akD {W:World} (H:aD w W B X wd h seed S):W.rangeAt B.V 4 (zF S):=by
 intro j v hv;have hj:j<30:=by
  rcases Nat.lt_or_ge j 30 with h | h
  .exact h
  .rw[List.getElem?_eq_none (by rw[Yo];exact h)]at hv;cases hv
 rw[H.at];rw[<- hv]
 iterate 30 (rcases j with _ | j;· rfl)
 omega
theorem akE (wr:World) (o:Obj) (u:Value) (e:TypeId):((wr.alloc o).alloc (.cells #[u] e)).cell? ⟨wr.heap.size+1,0,none⟩=some u:=by
 have hh:=hNq (wr.alloc o) (.cells #[u] e);rw[show (wr.alloc o).heap.size=wr.heap.size+1 from Array.size_push ..]at hh;exact(cR _ _ 0 _ _ _ hh).trans rfl
theorem Yp (aU:Nat->Bool):∀ k,∀ d∈af.d6 aU k,d<k
 | 0,d,h=>by cases h
 | k+1,d,h=>by
  rw[af.d6,List.mem_append]at h;rcases h with h | h
  .have:=Yp aU k d h;omega
  .split at h
   .rw[List.mem_singleton.1 h];omega
   .cases h
theorem OE (aU:Nat->Bool):∀ k,(af.d6 aU k).length<=k
 | 0=>by simp[af.d6]
 | k+1=>by
  have:=OE aU k
  rw[af.d6,lAq];split <;> simp <;> omega
def kg (l:List Nat):List Value:=l.map fun d=>Qa (d:Nat)
theorem Yq:∃ i,Tryz.prog.info? 3=some i/\i.zero=some (Qa 0)/\i.size=1/\i.bytes=8:=⟨_,rfl,rfl,rfl,rfl⟩
theorem akF (W:World) (H:Hid (aD w W B X wd h seed S)):Calls Tryz.prog 76 #[Qc B.V] W fun e w'=>∃ v,e=.returned v/\w'.ownsRow W.heap.size 3 1 v (af.d6 S.aU 6).length (kg (af.d6 S.aU 6))/\Qd W w':=by
 obtain⟨i3,hi,hz0,hz1,hz2⟩:=Yq;have Hi:=hDq hi;have eG:=hDq hz0;have eH:=hDq hz1;have eI:=hDq hz2;clear hi hz0 hz1 hz2;have akG:=hDq (fun k (hk:k<6) W=>akB S (k:=k) hk W);have Yr:=hDq (akD H.out);have oC:=hDq (akC S);generalize hcc:zF S=akH at *;go_enter Tryz.func76,Tryz.ntmps76
 go_wp2_with (refine wpList_load_mid rfl 112 _ rfl B.V 4 rfl akH _ Yr.out Tryz.underlying112 rfl oC.out ?_)
 clear Yr oC
 go_loopw [3,10] (fun v kv wr=>∃ k:Nat,k<=6/\kv=Qa k/\wr.ownsRow W.heap.size 3 1 v (af.d6 S.aU k).length (kg (af.d6 S.aU k))/\Qd W wr) (fun _ kv _=>6-(intOf kv).toNat)
 case atStart=>exact⟨0,by omega,rfl,World.ownsRow_nil _ _ _ _,bRq _ _⟩
 case round =>
  obtain⟨k,hk,rfl,hrow,hb⟩:=hrel;have HR:=hDq hrow;have HB:=hDq hb;clear hrow hb;by_cases hlt:k<6
  .have aX:(k:Int)<6:=by omega
   have zG:=fun W=>akG.out k hlt W;have hlen:=OE S.aU k;have HN:Hid (af.d6 S.aU (k+1)=af.d6 S.aU k++if S.aU k=true then [k] else []):=rfl;have ck:Hid (Qd W (wr.alloc (.cells #[.bool (S.on k),Qa (S.ar k),Qa (S.la k),.string (S.az k),.bool (S.aU k)] 111))):=HB.out.alloc HB.out.size _;have hwz:W.heap.size<=wr.heap.size:=HB.out.size;cases hd:S.aU k with
   | false =>
    rw[hd,if_neg (by decide),aNq]at HN;rw[hd]at ck zG;go_wp2;refine⟨⟨k+1,hlt,by go_num,?_,ck.out⟩,by simp[intOf];omega⟩;rw[HN.out];exact World.ownsRow.alloc HR.out _
   | true =>
    rw[hd,if_pos rfl]at HN;rw[hd]at ck zG
    go_wp2_with (at_builtin;refine wpList_append_own _ rfl _ _ 23 rfl W.heap.size 3 i3 (Qa 0) 1 8 Tryz.underlying23 Hi.out eG.out eH.out eI.out rfl (by decide) _ _ _ rfl (World.ownsRow.alloc (World.ownsRow.alloc HR.out _) _) ⟨wr.heap.size+1,0,none⟩ 1 1 [Qa (k:Nat)] rfl rfl ?c1 ?c2 ?c3 ?c4 ?c5 ?_)
    case c1 =>
     intro j u hj;rcases j with _ | j
     .have:u=Qa (k:Nat):=by simpa using hj.symm
      subst this;exact akE _ _ _ _
     .simp at hj
    case c2=>intro u hu;rw[List.mem_singleton.1 hu];rfl
    case c3=>unfold maxLen;omega
    case c4=>omega
    case c5=>first | omega | (simp;omega)
    intro v6 ai hown' hgrow _;have aY:Hid (Qd W ai):=below_grown (ck.out.alloc ck.out.size _) (World.ownsRow.alloc (World.ownsRow.alloc HR.out _) _) (lTq ck.out.size (by simp)) hgrow;have bz:Hid (ai.ownsRow W.heap.size 3 1 v6 (af.d6 S.aU k++[k]).length (kg (af.d6 S.aU k++[k]))):=by
     show ai.ownsRow _ _ _ _ _ _;unfold kg;rw[lAq,List.map_append];exact hown'
    clear hown' hgrow;go_wp2;refine⟨⟨k+1,hlt,by go_num,?_,aY.out⟩,by simp[intOf];omega⟩;rw[HN.out];exact bz.out
  .have aX:¬ (k:Int)<6:=by omega
   obtain rfl:k=6:=by omega
   go_wp2;go_ret;exact⟨_,rfl,HR.out,HB.out⟩
end
section
variable {w W W' W1:World} {ad:Nat->Addr} {b0 q:Nat} {B:bP} {X X' X1 X2:bX} {wd h seed:Int} {S:af.St} {vp vr:Value} {r:af.cB}
theorem bS.begin (H:aD w W B X wd h seed S) (ha:dU S.L S.pf S.n wd h) :
  bS w W.heap.size (W.alloc (.cells #[Qc B.F,.slice none 0 0,.slice none 0 0] 240)) B X wd h seed S W.heap.size (.slice none 0 0) (.slice none 0 0) (af.start S) :=
 ⟨H.later ((bRq _ _).alloc (lRq _) _),hNq _ _,World.ownsRow_nil _ _ _ _,World.ownsRow_nil _ _ _ _,lRq _,lTq H.lo (Nat.le_of_lt H.lt),by simp,
  fun c hc k hk=>(H.fj (.inr (.inr (.inr (.inl (.inr ⟨c,hc,hk⟩)))))).2,ha⟩
theorem aD.Dj {base:Nat} {e:TypeId} {sz n j:Nat} {v u:Value} {xs:List Value} (H:aD w W B X wd h seed S) (hr:W.ownsRow base e sz v n xs) (he:e≠114):(W.setCell (Qb B.V j) u).ownsRow base e sz v n xs :=
 eM hr (aJ.setCell W B.V j u) (fun k hk e1=>by
  obtain⟨_,cur,h2⟩:=cP hr hk;exact aI h2 H.blk he e1)
theorem bS.YL {S':af.St} {j:Nat} {u:Value} (R:bS w b0 W B X wd h seed S q vp vr r) (hv:aD w (W.setCell (Qb B.V j) u) B X wd h seed (xN S' r)):bS w b0 (W.setCell (Qb B.V j) u) B X wd h seed S' q vp vr r:=by
 refine⟨hv,?_,R.aS.Dj R.pl (by decide),R.aS.Dj R.rp (by decide),R.lo,R.mP,lTq R.hib (by simp),R.xE,R.all⟩;rw[(aJ.setCell W B.V j u).block q (lBq R.blk) (aI R.blk R.aS.blk (by decide))];exact R.blk
theorem bS.ak4 (R:bS w b0 W B X wd h seed S q vp vr r) {c:Nat} (hc:c<6):bS w b0 (W.setCell ⟨B.V,4+c*5+4,none⟩ (.bool false)) B X wd h seed { S with aU:=upd S.aU c false } q vp vr r/\bf W (W.setCell ⟨B.V,4+c*5+4,none⟩ (.bool false)) B X X:=by
 obtain⟨f1,f2⟩:=R.aS.set (S':=xN { S with aU:=upd S.aU c false } r) hc (j:=4) (by decide) (.bool false) (fun c' j' _ jy=>OD (xN S r) (xN { S with aU:=upd S.aU c false } r) c false rfl rfl rfl rfl rfl c' j' jy) rfl rfl rfl ⟨rfl,rfl,rfl,rfl,rfl,rfl,rfl,rfl⟩;exact⟨R.YL f1,f2⟩
theorem b_.after (hs:bf W W1 B X X1) (hf:b_ W1 W' W.heap.size B X1 X2):bf W W' B X X2:=by
 refine⟨hs.turned.trans hf.turned (fun k hk=>?_),fun k hk=>?_⟩
 .rcases hk with hk | hk
  .exact hs.new k (by
    rcases hk with e | e
    .exact .inr (.inl e)
    .exact .inr (.inr (.inl e)))
  .exact .inr hk
 .have h1:dH B X1 k\/W1.heap.size<=k:=by
   rcases hk with e | e | e | e | e | e
   .exact .inl (.inl e)
   .exact .inl (.inr (.inl e))
   .rcases hf.new k (.inr e) with h1 | h1
    .rcases h1 with h1 | h1
     .exact .inl (.inr (.inl h1))
     .exact .inl (.inr (.inr (.inl h1)))
    .exact .inr h1
   .rw[hf.qv]at e;exact .inl (.inr (.inr (.inr (.inl e))))
   .exact .inl (.inr (.inr (.inr (.inr (.inl e)))))
   .rw[hf.bV]at e;exact .inl (.inr (.inr (.inr (.inr (.inr e)))))
  rcases h1 with h1 | h1
  .exact hs.new k h1
  .exact .inr (lTq hs.turned.size h1)
theorem YM {base:Nat} {e:TypeId} {sz n:Nat} {v:Value} {xs:List Value} (hr:W.ownsRow base e sz v n xs):∀ k,v.ownBlock=some k->k<W.heap.size:=fun k hk=>by
 obtain⟨_,cur,h2⟩:=cP hr hk;exact lBq h2
theorem aD.ak5 (H:aD w W B X wd h seed S) (n:Nat):aD w (W.setCell (Qb B.V 35) (Qa n)) B X wd h seed { S with bt:=n }/\bf W (W.setCell (Qb B.V 35) (Qa n)) B X X :=
 H.own (S':={ S with bt:=n }) (aM.setCell _ _ _ _) (by rw[block_setCell H.blk];rfl) ⟨rfl,rfl,rfl,rfl,rfl,rfl,rfl,rfl⟩
theorem aD.YN (H:aD w W B X wd h seed S) (n:Nat):aD w (W.setCell (Qb B.V 34) (Qa n)) B X wd h seed { S with now:=n }/\bf W (W.setCell (Qb B.V 34) (Qa n)) B X X :=
 H.own (S':={ S with now:=n }) (aM.setCell _ _ _ _) (by rw[block_setCell H.blk];rfl) ⟨rfl,rfl,rfl,rfl,rfl,rfl,rfl,rfl⟩
theorem aD.ak6 (H:aD w W B X wd h seed S) (d:Bool):aD w (W.setCell (Qb B.V 36) (.bool d)) B X wd h seed { S with down:=d }/\bf W (W.setCell (Qb B.V 36) (.bool d)) B X X :=
 H.own (S':={ S with down:=d }) (aM.setCell _ _ _ _) (by rw[block_setCell H.blk];rfl) ⟨rfl,rfl,rfl,rfl,rfl,rfl,rfl,rfl⟩
theorem ak7 (r:af.cB) (c:Nat) (hl:∀ i,i<3->(r.L i).length<=60):(af.ru r c).rp.length<=r.rp.length+180/\(af.ru r c).pl=r.pl:=by
 refine⟨?_,rfl⟩
 have:=Fl.D' (c:Int) r.L hl 3 (by decide)
 show (r.rp++(Fl.kW c r.L 3).map (af.tell af.oZ)).length<=_;rw[lAq,List.length_map];omega
theorem ak8 (r:af.cB) (a:Ask):(af.gq r a).rp.length<=r.rp.length+1/\(af.gq r a).pl.length<=r.pl.length+1:=by
 unfold af.gq af.qm af.qj;split
 .refine⟨?_,?_⟩ <;> (simp only[];split <;> simp)
 .refine⟨?_,?_⟩
  .simp only[List.length_append];split <;> simp
  .simp only[];split
   .exact Nat.le_succ_of_le (List.length_filter_le _ _)
   .simp
theorem ak9 {wd h:Int} {r:af.cB} (H:dU r.L r.pf r.n wd h) {i:Nat} (hi:i<3) (s:Int):(af.vw wd h r i s).rp.length<=r.rp.length+240+r.pl.length/\(af.vw wd h r i s).pl=r.pl:=by
 refine⟨?_,rfl⟩;have h1:=(af.YO H hi s).1;have h2:=O1 (Fl.oI r.L i (af.jo wd r i s)) i r.pl;show (r.rp++((af.jo wd r i s).map (af.vv (r.L i) (af.jm r i))++r.pl.flatMap (af.o5 (Fl.oI r.L i (af.jo wd r i s)) i))).length<=_;rw[lAq,lAq,List.length_map];omega
theorem ala (seed:Int) (bt i:Nat) (hb:bt<=1000000) (hi:i<3):IntKind.u32.wrap (seed+IntKind.u32.wrap (IntKind.i64.wrap (IntKind.i64.wrap (3*(bt:Int))+(i:Int))))=af.tq seed bt i:=by
 rw[IntWalk.i64_in (3*(bt:Int)) (by omega),IntWalk.i64_in (3*(bt:Int)+i) (by omega)];have e:∀ n:Int,IntKind.u32.wrap n=n%4294967296:=fun n=>by simp[IntKind.wrap,IntKind.bits,IntKind.signed]
 rw[e,e];unfold af.tq;push_cast;rfl
theorem YP (ds:List Nat) (l:List Ask) (bM va:Value) (based rz:Nat) (W:World) (H:Hid (aD w W B X wd h seed S)) (hs:Hid (bO w ad)) (hall:Hid (dU S.L S.pf S.n wd h)) (hbt:S.bt<=1000000)
  (hrd:Hid (W.ownsRow based 3 1 bM ds.length (kg ds))) (ib:Hid (W.ownsRow rz 95 8 va l.length (bm l))) (zJ:Hid (∀ d∈ds,d<6)) (hdl:ds.length<=6) (hal:l.length<=12) :
  Calls Tryz.prog 80 #[Qc B.V,bM,va] W fun e w'=>∃ v X',e=.returned v/\aD w w' B X' wd h seed (af.mR wd h seed S ds l)/\bf W w' B X X'/\iI w' W.heap.size v (af.iU wd h seed S ds l).rp/\dU (af.mR wd h seed S ds l).L (af.mR wd h seed S ds l).pf (af.mR wd h seed S ds l).n wd h/\(af.iU wd h seed S ds l).rp.length<=2900/\af.Same S.pf (af.mR wd h seed S ds l).pf:=by
 obtain⟨Dg,OQ,iY⟩:=gi hrd.out;obtain⟨xL,Dh,xM⟩:=gi ib.out;obtain⟨md,rA⟩:∃ md,ds.length=md:=⟨_,rfl⟩;obtain⟨f_,hma⟩:∃ f_,l.length=f_:=⟨_,rfl⟩;have fJ:=hDq (YM hrd.out);have YQ:=hDq (YM ib.out);have gB:Hid (af.mR wd h seed S ds l = { S with L:=(af.mQ wd h seed S.bt (af.kO (af.kN (af.start S) ds md) l f_) 3).L,pf:=(af.mQ wd h seed S.bt (af.kO (af.kN (af.start S) ds md) l f_) 3).pf,n:=(af.mQ wd h seed S.bt (af.kO (af.kN (af.start S) ds md) l f_) 3).n,aU:=af.vx S.aU 6,bt:=S.bt+1 }):=by show _=_;rw[<- rA,<- hma];rfl
 have HRR:Hid (af.iU wd h seed S ds l=af.mQ wd h seed S.bt (af.kO (af.kN (af.start S) ds md) l f_) 3):=by show _=_;rw[<- rA,<- hma];rfl
 rw[rA]at hrd iY hdl;rw[hma]at ib xM hal;subst iY xM;have OT:=hDq rA;have OU:=hDq hma;clear rA hma;generalize af.mR wd h seed S ds l=apt at *;generalize af.iU wd h seed S ds l=RR at *;have bD:Hid (Qd W (W.alloc (.cells #[Qc B.F,.slice none 0 0,.slice none 0 0] 240))):=(bRq _ _).alloc (lRq _) _;have fy:=hDq (bS.begin H.out hall.out);have HD0:=hDq (cO hrd.out bD.out);have YR:=hDq (cO ib.out bD.out);have ft:Hid (bf W (W.alloc (.cells #[Qc B.F,.slice none 0 0,.slice none 0 0] 240)) B X X):=bf.of_below bD.out B X;have c1:W.cell? (Qb B.V 1)=some (Qc B.F):=H.out.at 1;go_enter Tryz.func80,Tryz.ntmps80
 go_wp2_with fail
 go_loopw [21] (fun kv wr=>∃ (k:Nat) (X':bX) (vp vr:Value),k<=md/\kv=Qa k/\bS w W.heap.size wr B X' wd h seed S W.heap.size vp vr (af.kN (af.start S) ds k)/\bf W wr B X X'/\wr.ownsRow based 3 1 (.slice Dg md OQ) md (kg ds)/\wr.ownsRow rz 95 8 (.slice xL f_ Dh) f_ (bm l)/\(af.kN (af.start S) ds k).rp.length<=180*k/\(af.kN (af.start S) ds k).pl=[]/\af.Same S.pf (af.kN (af.start S) ds k).pf) (fun kv _=>md-(intOf kv).toNat)
 case atStart=>exact⟨0,X,_,_,by omega,rfl,fy.out,ft.out,HD0.out,YR.out,lRq 0,rfl,af.Same.refl _⟩
 case round =>
  obtain⟨k,X1,YS,YT,hk,rfl,hr1,hs1,o7,ha1,hlr,y8,hsm⟩:=hrel;have Iw:=hDq hsm;clear hsm;have HR1:=hDq hr1;have dB:=hDq hs1;have HD1:=hDq o7;have HA1:=hDq ha1;clear hr1 hs1 o7 ha1 bD fy HD0 YR ft c1;by_cases hlt:k<md
  .have aX:(k:Int)<md:=by omega
   have hkl:k<ds.length:=by rw[OT.out];exact hlt
   obtain⟨g,hg⟩:∃ g,Dg=some (Qb g 0):=by
    rcases hrd.out.2 with ⟨e1,_⟩ | ⟨g,cap,cur,e1,_⟩
    .cases e1;omega
    .simp only[Value.slice.injEq]at e1;exact⟨g,e1.1⟩
   subst hg;have NK:wr.cell? (Qb g k)=some (Qa (ds.getD k 0:Nat)):=by
    have h1:=World.ownsRow.cells HD1.out (g:=g) rfl k (Qa (ds.getD k 0:Nat)) (by unfold kg;simp[List.getElem?_eq_getElem hkl,List.getD_eq_getElem?_getD]);have hp:(⟨g,0,none⟩:Addr).add k=(Qb g k):=by unfold Addr.add;split <;> simp_all
    rwa [hp]at h1
   have akY:ds.getD k 0<6:=by
    rw[gE,List.getElem?_eq_getElem hkl];exact zJ.out _ (List.getElem_mem hkl)
   have HN:Hid (af.kN (af.start S) ds (k+1)=af.ru (af.kN (af.start S) ds k) (ds.getD k 0)):=rfl;have Dk:=hDq (af.alb (af.kN (af.start S) ds k) (ds.getD k 0));have mN:=hDq (ak7 (af.kN (af.start S) ds k) (ds.getD k 0) (fun i hi=>(HR1.out.all.ok.aH i hi).len));generalize ds.getD k 0=d at *;generalize af.kN (af.start S) ds k=r1 at *;have HC:=hDq (aj9 d wr HR1 hs (by omega))
   go_wp2_with fail
   refine HC.out.mono ?_;rintro e w2 ⟨rfl,X2,zB,zC,h2,hf2⟩;have HD2:=hDq (hf2.row HR1.out.aS HD1.out (by decide) fJ.out);have cz:=hDq (hf2.row HR1.out.aS HA1.out (by decide) YQ.out);have HS2:=hDq (b_.after dB.out hf2);have bq:=hDq h2;clear h2 hf2 HC NK;simp only[];go_wp2;refine⟨⟨k+1,X2,zB,zC,hlt,by go_num,?_,HS2.out,HD2.out,cz.out,?_,?_,?_⟩,by simp[intOf];omega⟩
   .rw[HN.out];exact bq.out
   .rw[HN.out];have:=mN.out.1;omega
   .rw[HN.out,mN.out.2];exact y8
   .rw[HN.out];exact Iw.out.trans Dk.out
  .have aX:¬ (k:Int)<md:=by omega
   obtain rfl:k=md:=by omega
   clear hk hlt aX;have YU:(af.kN (af.start S) ds k).pl.length=0:=by rw[y8];rfl
   clear y8;obtain⟨rd,YV⟩:∃ rd,af.kN (af.start S) ds k=rd:=⟨_,rfl⟩;simp only[YV]at HR1 gB HRR hlr YU Iw;clear YV
   go_wp2_with fail
   go_loopw [28] (fun kv wr=>∃ (n:Nat) (X':bX) (vp vr:Value),n<=6/\kv=Qa n/\bS w W.heap.size wr B X' wd h seed { S with aU:=af.vx S.aU n } W.heap.size vp vr rd/\bf W wr B X X'/\wr.ownsRow rz 95 8 (.slice xL f_ Dh) f_ (bm l)) (fun kv _=>6-(intOf kv).toNat)
   case atStart=>exact⟨0,X1,_,_,by omega,rfl,HR1.out,dB.out,HA1.out⟩
   case round =>
    obtain⟨d,X1,YS,YT,hd,rfl,hr2,hs2,ha2⟩:=hrel;have bq:=hDq hr2;have HS2:=hDq hs2;have cz:=hDq ha2;clear hr2 hs2 ha2 HR1 dB HA1 HD1;by_cases Iy:d<6
    .have alc:(d:Int)<6:=by omega
     have ald:Hid (af.vx S.aU (d+1)=upd (af.vx S.aU d) d false):=rfl;generalize af.vx S.aU d=ale at *;obtain⟨h3,hs3⟩:=bq.out.ak4 Iy;have HR3:=hDq h3;have cK:=hDq (HS2.out.trans hs3);have jE:=hDq (bq.out.aS.Dj (j:=4+d*5+4) (u:=.bool false) cz.out (by decide));clear h3 hs3;have cd:wr.cell? ⟨B.V,4+d*5+4,none⟩=some (.bool (ale d)):=bq.out.aS.conn Iy (j:=4) (by decide);have fz:∀ j,wr.frozen? (Qb B.V j)=false:=fun j=>bq.out.aS.free j;go_wp2;refine⟨⟨d+1,X1,YS,YT,Iy,by go_num,?_,cK.out,jE.out⟩,by simp[intOf];omega⟩;rw[ald.out];exact HR3.out
    .have alc:¬ (d:Int)<6:=by omega
     have YW:d=6:=by omega
     have HR1:=bq;have dB:=HS2;have HA1:=cz;rw[YW]at HR1;clear hd Iy YW;clear bq HS2 cz;obtain⟨dd,YX⟩:∃ dd,af.vx S.aU 6=dd:=⟨_,rfl⟩;simp only[YX]at HR1 gB;clear YX
     go_wp2_with fail
     go_loopw [40] (fun kv wr=>∃ (j:Nat) (X':bX) (vp vr:Value),j<=f_/\kv=Qa j/\bS w W.heap.size wr B X' wd h seed { S with aU:=dd } W.heap.size vp vr (af.kO rd l j)/\bf W wr B X X'/\wr.ownsRow rz 95 8 (.slice xL f_ Dh) f_ (bm l)/\(af.kO rd l j).rp.length<=1080+j/\(af.kO rd l j).pl.length<=j/\af.Same S.pf (af.kO rd l j).pf) (fun kv _=>f_-(intOf kv).toNat)
     case atStart=>exact⟨0,X1,_,_,by omega,rfl,HR1.out,dB.out,HA1.out,by show rd.rp.length<=_;omega,by show rd.pl.length<=_;omega,Iw.out⟩
     case round =>
      obtain⟨j,X2,zB,zC,hj,rfl,hr2,hs2,ha2,YY,YZ,hsm⟩:=hrel;have Iz:=hDq hsm;clear hsm Iw;have bq:=hDq hr2;have HS2:=hDq hs2;have cz:=hDq ha2;clear hr2 hs2 ha2 HR1 dB HA1 hlr YU;by_cases n_:j<f_
      .have bI:(j:Int)<f_:=by omega
       have vq:j<l.length:=by rw[OU.out];exact n_
       obtain⟨g,hg⟩:∃ g,xL=some (Qb g 0):=by
        rcases ib.out.2 with ⟨e1,_⟩ | ⟨g,cap,cur,e1,_⟩
        .cases e1;omega
        .simp only[Value.slice.injEq]at e1;exact⟨g,e1.1⟩
       subst hg;obtain⟨d0,d1,d2,d3,d4,d5,kT,sR⟩:=zD cz.out vq n_;have qd:g<wr.heap.size:=bCq _ _ d0;have HN:Hid (af.kO rd l (j+1)=af.gq (af.kO rd l j) (cY l j)):=rfl;have mN:=hDq (ak8 (af.kO rd l j) (cY l j));have Dk:=hDq (af.alf (af.kO rd l j) (cY l j));generalize cY l j=a at *;generalize af.kO rd l j=r1 at *;have aY:Hid (Qd wr (wr.alloc (.cells (aT a) 95))):=(bRq _ _).alloc (lRq _) _;have bz:=hDq (bq.out.later aY.out);have fe:=hDq (b_.below aY.out W.heap.size B X2);have HC:=hDq (ajV a _ bz hs (by omega) (by omega));unfold bu aT at *
       go_wp2_with fail
       refine HC.out.mono ?_;rintro e br ⟨rfl,Gy,alg,vn,h7,AJ⟩;have O2:=fe.out.trans AJ;have vo:=hDq (O2.row bq.out.aS cz.out (by decide) YQ.out);have lI:=hDq (b_.after HS2.out O2);have fH:=hDq h7;clear h7 AJ O2 HC d0 d1 d2 d3 d4 d5 kT sR;simp only[];go_wp2;refine⟨⟨j+1,Gy,alg,vn,n_,by go_num,?_,lI.out,vo.out,?_,?_,?_⟩,by simp[intOf];omega⟩
       .rw[HN.out];exact fH.out
       .rw[HN.out];have:=mN.out.1;omega
       .rw[HN.out];have:=mN.out.2;omega
       .rw[HN.out];exact Iz.out.trans Dk.out
      .have bI:¬ (j:Int)<f_:=by omega
       obtain rfl:j=f_:=by omega
       clear hj n_ bI;obtain⟨ra,Y0⟩:∃ ra,af.kO rd l j=ra:=⟨_,rfl⟩;simp only[Y0]at bq gB HRR YY YZ Iz;clear Y0
       go_wp2_with fail
       go_loopw [47] (fun kv wr=>∃ (i:Nat) (X':bX) (vp vr:Value),i<=3/\kv=Qa i/\bS w W.heap.size wr B X' wd h seed { S with aU:=dd } W.heap.size vp vr (af.mQ wd h seed S.bt ra i)/\bf W wr B X X'/\(af.mQ wd h seed S.bt ra i).rp.length<=2000+300*i/\(af.mQ wd h seed S.bt ra i).pl.length<=12/\af.Same S.pf (af.mQ wd h seed S.bt ra i).pf) (fun kv _=>3-(intOf kv).toNat)
       case atStart=>exact⟨0,X2,_,_,by omega,rfl,bq.out,HS2.out,by show ra.rp.length<=_;omega,by show ra.pl.length<=_;omega,Iz.out⟩
       case round =>
        obtain⟨i,yU,alh,xI,hi,rfl,hr3,hs3,ali,alj,hsm⟩:=hrel;have Y1:=hDq hsm;clear hsm Iz;have HR3:=hDq hr3;have cK:=hDq hs3;clear hr3 hs3 bq HS2 cz YY YZ;by_cases zK:i<3
        .have r7:(i:Int)<3:=by omega
         have HN:Hid (af.mQ wd h seed S.bt ra (i+1)=af.vw wd h (af.mQ wd h seed S.bt ra i) i (af.tq seed S.bt i)):=rfl;have Dk:=hDq (af.alk HR3.out.all zK (af.tq seed S.bt i));have mN:=hDq (ak9 HR3.out.all zK (af.tq seed S.bt i));generalize af.mQ wd h seed S.bt ra i=r1 at *;have yx:Ra.IsU (af.tq seed S.bt i):=by unfold af.tq Ra.IsU;omega
         have HC:=hDq (fun W' R=>alm (w:=w) (b0:=W.heap.size) (B:=B) (X:=yU) (wd:=wd) (h:=h) (seed:=seed) (S:={ S with aU:=dd }) (q:=W.heap.size) (vp:=alh) (vr:=xI) (r:=r1) i zK (af.tq seed S.bt i) yx W' R hs (by omega) (by omega));obtain⟨bH,val,hcl,aP⟩:=lg (fun W'=>W'.heap[B.V]?=some (.cells (jq B seed (xN { S with aU:=dd } r1)) 114 (0,0)));obtain⟨x0,hx0⟩:=aP wr.drew HR3.out.aS.blk;have hnx:Nonempty bH:=⟨x0⟩;have s0:∀ x,(val x).cell? (Qb B.V 0)=some (.int .u32 seed):=fun x=>by rw[cR _ _ _ _ _ _ (hcl x)];rfl
         have s1:∀ x,(val x).cell? (Qb B.V 35)=some (Qa S.bt):=fun x=>by rw[cR _ _ _ _ _ _ (hcl x)];rfl
         have aR:=hDq aP;clear aP hcl;go_wp2;refine sJ (val:=val) [14] [0,1,2,3,4,5,6,7,8,9,10,11,12,13,14] (by kernel_rfl) (by kernel_rfl) x0 hx0 ?_;rw[hx0];clear hx0
         iterate 14 (refine jG rfl rfl (fun K hK=>?_);refine⟨by rfl,?_⟩;unfold aB;go_simp;refine hK _ ?_;clear hK K)
         refine lT rfl rfl (fun K hK=>?_);refine⟨by rfl,?_⟩;unfold aQ;go_simp;rw[ala seed S.bt i hbt zK];have aln:=hDq (HR3.out.later eO);refine(HC.out _ aln).mono ?_;rintro e aC ⟨rfl,qb,alo,alp,h5,Y2⟩;have bA:=hDq h5;have d_:=hDq (b_.after cK.out ((b_.below eO W.heap.size B yU).trans Y2));clear h5 Y2;refine⟨_,rfl,aR.out _ bA.out.aS.blk,hK _ _ ?_⟩;clear hK K aR s0 s1 HC;refine qW ?_;clear x0 hnx;clear val;clear bH;go_wp2;refine⟨⟨i+1,qb,alo,alp,zK,by go_num,?_,d_.out,?_,?_,?_⟩,by simp[intOf];omega⟩
         .rw[HN.out];exact bA.out
         .rw[HN.out];have:=mN.out.1;omega
         .rw[HN.out,mN.out.2];exact alj
         .rw[HN.out];exact Y1.out.trans Dk.out
        .have r7:¬ (i:Int)<3:=by omega
         obtain rfl:i=3:=by omega
         clear hi zK r7;generalize af.mQ wd h seed S.bt ra 3=rt at *;obtain⟨h6,gL⟩:=HR3.out.aS.ak5 (S.bt+1);have bz:=hDq (HR3.out.YL (S':={ S with aU:=dd,bt:=S.bt+1 }) h6);have dA:=hDq (cK.out.trans gL);clear h6 gL;have apu:wr.cell? (Qb B.V 35)=some (Qa S.bt):=HR3.out.aS.at 35;have fz:∀ j,wr.frozen? (Qb B.V j)=false:=fun j=>HR3.out.aS.free j;have Y3:B.V<wr.heap.size:=HR3.out.aS.lt;have apv:W.heap.size≠B.V:=aI HR3.out.blk HR3.out.aS.blk (by decide);have c2:wr.cell? (Qb W.heap.size 2)=some xI:=HR3.out.cells.2.2;go_wp2;go_ret;refine⟨xI,yU,rfl,?_,dA.out,?_,?_,?_,?_⟩
         .rw[gB.out];exact bz.out.aS
         .rw[HRR.out];exact bz.out.rp
         .rw[gB.out];exact bz.out.all
         .rw[HRR.out];exact ali
         .rw[gB.out];exact Y1.out
end
section
variable {w W:World} {ad:Nat->Addr} {B:bP} {X:bX} {wd h seed:Int} {S:af.St}
def C9 (S:af.St) (n:Nat):af.St:={ S with on:=upd S.on n false,ar:=upd S.ar n 0,la:=upd S.la n 0,az:=upd S.az n ⟨#[]⟩,aU:=upd S.aU n false }
theorem akp (S:af.St) (n:Nat):af.leave (C9 S n) n=af.gone S n:=by
 unfold af.leave C9 af.gone;simp only[rZ];rfl
theorem aD.zero (H:aD w W B X wd h seed S) {n:Nat} (hn:n<6) :
  aD w (((((W.setCell ⟨B.V,4+n*5,none⟩ (.bool false)).setCell ⟨B.V,4+n*5+1,none⟩ (Qa 0)).setCell ⟨B.V,4+n*5+2,none⟩ (Qa 0)).setCell ⟨B.V,4+n*5+3,none⟩ (.string ⟨#[]⟩)).setCell ⟨B.V,4+n*5+4,none⟩ (.bool false)) B X wd h seed (C9 S n)/\bf W (((((W.setCell ⟨B.V,4+n*5,none⟩ (.bool false)).setCell ⟨B.V,4+n*5+1,none⟩ (Qa 0)).setCell ⟨B.V,4+n*5+2,none⟩ (Qa 0)).setCell ⟨B.V,4+n*5+3,none⟩ (.string ⟨#[]⟩)).setCell ⟨B.V,4+n*5+4,none⟩ (.bool false)) B X X:=by
 obtain⟨d1,d2⟩:=H.Yi hn false 0 0;obtain⟨e1,e2⟩:=d1.set (S':={ vA S n false 0 0 with az:=upd S.az n ⟨#[]⟩ }) hn (j:=3) (by decide) (.string ⟨#[]⟩) (fun c' j' _ jy=>Yh (vA S n false 0 0) { vA S n false 0 0 with az:=upd S.az n ⟨#[]⟩ } n ⟨#[]⟩ rfl rfl rfl rfl rfl c' j' jy) rfl rfl rfl ⟨rfl,rfl,rfl,rfl,rfl,rfl,rfl,rfl⟩;obtain⟨f1,f2⟩:=e1.set (S':=C9 S n) hn (j:=4) (by decide) (.bool false) (fun c' j' _ jy=>OD { vA S n false 0 0 with az:=upd S.az n ⟨#[]⟩ } (C9 S n) n false rfl rfl rfl rfl rfl c' j' jy) rfl rfl rfl ⟨rfl,rfl,rfl,rfl,rfl,rfl,rfl,rfl⟩;exact⟨f1,(d2.trans e2).trans f2⟩
theorem akq {S:af.St} (h:∀ c,c<6->0<=S.la c/\S.la c<=1000000) (n:Nat):∀ c,c<6->0<=(af.hang S n).la c/\(af.hang S n).la c<=1000000:=by
 intro c hc;unfold af.hang;split
 .unfold af.gone upd
  simp only;split
  .exact⟨by decide,by decide⟩
  .exact h c hc
 .exact h c hc
theorem Yj {S:af.St} (h:∀ c,c<6->0<=S.la c/\S.la c<=1000000):∀ n,∀ c,c<6->0<=(af.hangs S n).la c/\(af.hangs S n).la c<=1000000
 | 0=>h
 | n+1=>akq (Yj h n) n
theorem akr (W:World) (H:Hid (aD w W B X wd h seed S)) (hla:Hid (∀ c,c<6->0<=S.la c/\S.la c<=1000000)):Calls Tryz.prog 75 #[Qc B.V] W fun e w'=>e=.returned (.tuple #[])/\∃ X',aD w w' B X' wd h seed (af.hangs S 6)/\bf W w' B X X':=by
 go_enter Tryz.func75,Tryz.ntmps75;go_wp2
 go_loopw [3] (fun kv wr=>∃ (k:Nat) (X':bX),k<=6/\kv=Qa k/\aD w wr B X' wd h seed (af.hangs S k)/\bf W wr B X X') (fun kv _=>6-(intOf kv).toNat)
 case atStart=>exact⟨0,X,by omega,rfl,H.out,bf.refl _ _ _⟩
 case round =>
  obtain⟨k,X',hk,rfl,hv,hst⟩:=hrel;have cF:=hDq hv;have HS:=hDq hst;clear hv hst;by_cases hlt:k<6
  .have aX:(k:Int)<6:=by omega
   have HN:Hid (af.hangs S (k+1)=af.hang (af.hangs S k) k):=rfl;have hl:=Yj hla.out k k hlt;generalize af.hangs S k=T at *;have HL:=hDq (fun W'=>ajc (T.on k) (T.ar k) (T.la k) T.now W' ⟨hl.1,by omega⟩);have HH:Hid (af.hang T k=if bg.late (T.on k) (T.la k) T.now=true then af.gone T k else T):=rfl;obtain⟨bH,val,hcl,aP⟩:=lg (fun W'=>W'.heap[B.V]?=some (.cells (jq B seed T) 114 (0,0)));obtain⟨x0,hx0⟩:=aP wr.drew cF.out.blk;have hnx:Nonempty bH:=⟨x0⟩;have s0:∀ x,(val x).cell? ⟨B.V,4+k*5,none⟩=some (.bool (T.on k)):=fun x=>by rw[cR _ _ _ _ _ _ (hcl x)];exact ry B seed T hlt (j:=0) (by decide)
   have s1:∀ x,(val x).cell? ⟨B.V,4+k*5+1,none⟩=some (Qa (T.ar k)):=fun x=>by rw[cR _ _ _ _ _ _ (hcl x)];exact ry B seed T hlt (j:=1) (by decide)
   have s2:∀ x,(val x).cell? ⟨B.V,4+k*5+2,none⟩=some (Qa (T.la k)):=fun x=>by rw[cR _ _ _ _ _ _ (hcl x)];exact ry B seed T hlt (j:=2) (by decide)
   have s3:∀ x,(val x).cell? (Qb B.V 34)=some (Qa T.now):=fun x=>by rw[cR _ _ _ _ _ _ (hcl x)];rfl
   have aR:=hDq aP;clear aP hcl hl;unfold lx at HL;go_wp2;refine sJ (val:=val) [11] [0,1,2,3,4,5,6,7,8,9,10,11] (by kernel_rfl) (by kernel_rfl) x0 hx0 ?_;rw[hx0];clear hx0
   iterate 11 (refine jG rfl rfl (fun K hK=>?_);refine⟨by rfl,?_⟩;unfold aB;go_simp;refine hK _ ?_;clear hK K)
   refine lT rfl rfl (fun K hK=>?_);refine⟨by rfl,?_⟩;unfold aQ;go_simp;refine(HL.out _).mono ?_;rintro e aC ⟨rfl,di⟩;have tr:Qd wr aC:=eO.trans di;have HV5:=hDq (cF.out.later tr);have d_:=hDq (HS.out.below tr);refine⟨_,rfl,aR.out _ HV5.out.blk,hK _ _ ?_⟩;clear hK K di tr HL aR s0 s1 s2 s3;refine qW ?_;clear x0 hnx;clear val;clear bH;cases Yk:bg.late (T.on k) (T.la k) T.now with
   | false =>
    rw[Yk,if_neg (by decide)]at HH;go_wp2;exact⟨⟨k+1,X',hlt,by go_num,by rw[HN.out,HH.out];exact HV5.out,d_.out⟩,by simp[intOf];omega⟩
   | true =>
    rw[Yk,if_pos rfl]at HH;have c0:aC.cell? ⟨B.V,4+k*5,none⟩=some (.bool (T.on k)):=HV5.out.conn hlt (j:=0) (by decide);have c1:aC.cell? ⟨B.V,4+k*5+1,none⟩=some (Qa (T.ar k)):=HV5.out.conn hlt (j:=1) (by decide);have c2:aC.cell? ⟨B.V,4+k*5+2,none⟩=some (Qa (T.la k)):=HV5.out.conn hlt (j:=2) (by decide);have c3:aC.cell? ⟨B.V,4+k*5+3,none⟩=some (.string (T.az k)):=HV5.out.conn hlt (j:=3) (by decide);have c4:aC.cell? ⟨B.V,4+k*5+4,none⟩=some (.bool (T.aU k)):=HV5.out.conn hlt (j:=4) (by decide);have fz:∀ j,aC.frozen? (Qb B.V j)=false:=fun j=>HV5.out.free j;obtain⟨hz1,hz2⟩:=HV5.out.zero hlt;have tu:=hDq (Yl k hlt _ hz1);have HZ2:=hDq hz2;rw[akp]at tu;clear hz1 hz2
    go_wp2_with fail
    refine tu.out.mono ?_;rintro e ai ⟨rfl,Vd,h6,gL⟩;have kP:=hDq h6;have dA:=hDq ((d_.out.trans HZ2.out).trans gL);clear h6 gL tu HZ2;simp only[];go_wp2;exact⟨⟨k+1,Vd,hlt,by go_num,by rw[HN.out,HH.out];exact kP.out,dA.out⟩,by simp[intOf];omega⟩
  .have aX:¬ (k:Int)<6:=by omega
   obtain rfl:k=6:=by omega
   go_wp2;go_end0;exact⟨rfl,X',cF.out,HS.out⟩
end
theorem wX (L:Nat->List Ask) (t:Nat):∀ k,(ay.k_ L t k).length<=2*k
 | 0=>by simp[ay.k_]
 | k+1=>by
  have:=wX L t k
  rw[ay.k_,lAq,lKq];omega
theorem alL (bt:Nat) (ds:List Nat) (l:List Ask) (hb:bt<=1000000) (hd:∀ d∈ds,d<6) (hl:ds.length<=6) (ha:l.length<=12):(af.gF bt ds l).size<=10000:=by
 unfold af.gF af.Ig;rw[strOfNums_size];have h1:=Ip (bt:Int) (by omega) (by omega);have h2:=Iq ds hd ds.length;have h3:=Ir l l.length;simp only[List.length_append,List.length_singleton];omega
theorem xO (S:af.St):∀ n,(af.hangs S n).now=S.now/\(af.hangs S n).bt=S.bt/\(af.hangs S n).down=S.down/\(af.hangs S n).L=S.L/\(af.hangs S n).pf=S.pf/\(af.hangs S n).n=S.n/\(af.hangs S n).tp=S.tp/\(af.hangs S n).cut=S.cut/\(af.hangs S n).left=S.left
 | 0=>⟨rfl,rfl,rfl,rfl,rfl,rfl,rfl,rfl,rfl⟩
 | n+1=>by
  have h:=xO S n;unfold af.hangs af.hang;split
  .exact h
  .exact h
section
variable {w W W' W1:World} {ad:Nat->Addr} {B:bP} {X X':bX} {wd h seed:Int} {S:af.St}
theorem alM (s:ByteArray) (W:World) (H:aD w W B X wd h seed S) (hs:bO w ad) (hsz:s.size<=10000) (rD:S.tp.length<=1048576) (qc:S.left<=9223372036854775807) :
  Calls Tryz.prog 78 #[Qc B.d,.string s] W fun e w'=>∃ u tv,e=.returned u/\(af.l6 S s=true->u=.nilIface)/\(af.l6 S s=false->∃ x,u=.iface 412 x)/\aD w w' B { X with bV:=tv } wd h seed (af.bT S s)/\bf W w' B X { X with bV:=tv }/\aJ W w' (fun k=>k=B.d\/X.bV.ownBlock=some k):=by
 have Zd:=H.sent hs;have h12:12<w.heap.size:=bCq _ _ hs.et;by_cases hf:1048576<S.tp.length+(12+s.size)
 .have hfull:af.full S s=true:=by unfold af.full;simpa using hf
  refine(alI w.heap.size B.d X.bV S.tp s S.cut S.left W _ H.dk hsz rD hf (Zd.cell 7 (by decide))).mono ?_;rintro e w' ⟨rfl,hb⟩;have e2:af.bT S s=S:=by unfold af.bT;rw[if_pos hfull]
  have e3:af.l6 S s=false:=by unfold af.l6;rw[hfull];rfl
  rw[e2,e3];exact⟨_,X.bV,rfl,(fun e=>by cases e),fun _=>⟨_,rfl⟩,H.later hb,bf.of_below hb B X,aJ.of_below hb _⟩
 .have hfull:af.full S s=false:=by unfold af.full;simpa using hf
  refine(alJ w.heap.size B.d X.bV S.tp s S.cut S.left W _ _ H.dk hsz (by omega) qc (Zd.cell 8 (by decide)) (by omega) H.bG.size).mono ?_;rintro e w' ⟨rfl,tv,hd,hfr⟩;obtain⟨k1,k2⟩:=H.tape hd hfr.turned hfr.new;have e2:af.bT S s = { S with tp:=Pb S.tp S.cut S.left s,left:=Pd S.cut S.left s }:=by unfold af.bT;rw[hfull,if_neg (by decide)];rfl
  have e3:af.l6 S s=IC S.cut S.left s:=by unfold af.l6 IC;rw[hfull];rfl
  rw[e2,e3];refine⟨_,tv,rfl,fun e=>by rw[if_pos e],fun e=>by rw[e,if_neg (by decide)];exact⟨_,rfl⟩,k1,k2,hfr.turned⟩
theorem aD.Ze {base:Nat} {e:TypeId} {sz n:Nat} {v:Value} {xs:List Value} (H:aD w W B X wd h seed S) (ht:aJ W W' (fun k=>k=B.d\/X.bV.ownBlock=some k)) (hr:W.ownsRow base e sz v n xs) (he:e≠117/\e≠5):W'.ownsRow base e sz v n xs :=
 eM hr ht (fun k hk e1=>by
  obtain⟨_,cur,h2⟩:=cP hr hk;rcases e1 with e1 | e1
  .exact aI h2 H.dk.cell he.1 e1
  .exact H.dk.row.sK h2 he.2 e1)
theorem aD.alN {zH:Nat->Value} {base:Nat} {e:TypeId} {sz n:Nat} {v:Value} {xs:List Value} (H:aD w W B X wd h seed S) (hs:iq W W' B.q X.qv zH) (hr:W.ownsRow base e sz v n xs) (he:e≠232/\e≠95):W'.ownsRow base e sz v n xs :=
 eM hr hs.turned (fun k hk e1=>by
  obtain⟨_,cur,h2⟩:=cP hr hk;rcases e1 with rfl | ⟨c,hc,h1⟩
  .exact aI h2 H.it.cell he.1 rfl
  .obtain⟨_,lh,h3⟩:=cP (H.it.row c hc) h1
   exact aI h2 h3 he.2 rfl)
theorem Y6 (W:World) (H:Hid (aD w W B X wd h seed S)) (hd:S.down=true) :
  Calls Tryz.prog 41 #[Qc B.V] W fun e w'=>e=.returned (.slice none 0 0)/\w'=W:=by
 have Ih:W.cell? (Qb B.V 36)=some (.bool true):=by rw[<- hd];exact H.out.at 36
 clear hd;go_enter Tryz.func41,Tryz.ntmps41;go_wp2;go_ret;exact⟨rfl,rfl⟩
theorem alO (W:World) (H:Hid (aD w W B X wd h seed S)) (hs:Hid (bO w ad)) (ht:Hid (Lib.TabBelow Tryz.prog w.heap.size w "internal/strconv.uint64pow10" .u64 Lib.pow10Tab)) (hd:S.down=false)
  (hall:Hid (dU S.L S.pf S.n wd h)) (hla:Hid (∀ c,c<6->0<=S.la c/\S.la c<=1000000)) (Ph:S.now<=1000000) (hbt:S.bt<=1000000) (rD:S.tp.length<=1048576) (qc:S.left<=9223372036854775807) :
  Calls Tryz.prog 41 #[Qc B.V] W fun e w'=>∃ v X',e=.returned v/\aD w w' B X' wd h seed (af.ei wd h seed S)/\bf W w' B X X'/\iI w' W.heap.size v (af.nR wd h seed S)/\dU (af.ei wd h seed S).L (af.ei wd h seed S).pf (af.ei wd h seed S).n wd h/\(af.nR wd h seed S).length<=2900/\af.Same S.pf (af.ei wd h seed S).pf:=by
 have mh:Hid (af.ei wd h seed S=if (S.now+1)%3=0 then af.vy wd h seed (af.cg S) else af.cg S):=by show _=_;unfold af.ei;rw[hd,if_neg (by decide)]
 have iP:Hid (af.nR wd h seed S=if (S.now+1)%3=0 then af.Ov wd h seed (af.cg S) else []):=by show _=_;unfold af.nR;rw[hd,if_neg (by decide)]
 have Ih:W.cell? (Qb B.V 36)=some (.bool false):=by rw[<- hd];exact H.out.at 36
 have c34:W.cell? (Qb B.V 34)=some (Qa S.now):=H.out.at 34;have fz:∀ j,W.frozen? (Qb B.V j)=false:=fun j=>H.out.free j;obtain⟨h1,hs1⟩:=H.out.YN (S.now+1);have Pj:=hDq (akr _ h1 hla);have dB:=hDq hs1;clear h1 hs1;have HN:=hDq (xO { S with now:=S.now+1 } 6);have j3:Hid (af.hangs { S with now:=S.now+1 } 6=af.cg S):=rfl;rw[j3.out]at Pj HN;generalize af.cg S=T at *;generalize af.ei wd h seed S=DW at *;generalize af.nR wd h seed S=LM at *;go_enter Tryz.func41,Tryz.ntmps41
 go_wp2_with fail
 refine Pj.out.mono ?_;rintro e w2 ⟨rfl,X2,h2,hs2⟩;have H2:=hDq h2;have HS2:=hDq (dB.out.trans hs2);clear h2 hs2 dB Pj Ih c34 fz j3;have c34:w2.cell? (Qb B.V 34)=some (Qa ((S.now:Int)+1)):=by
  have:=H2.out.at 34
  rw[this];show some (Qa (T.now:Int))=_;rw[HN.out.1];rfl
 simp only[];by_cases Zf:(S.now+1)%3=0
 .have MB:(((S.now:Int)+1)%3 != 0)=false:=by
   have:((S.now:Int)+1)%3=0:=by omega
   rw[this];rfl
  rw[if_pos Zf]at mh iP;have alP:T.bt=S.bt:=HN.out.2.1;have tu:=hDq (fun W' (h':Qd w2 W')=>akF W' (H2.out.later h'));have hout:(ay.out T.Q T.t).length<=12:=wX T.Q T.t 6;have hdl:=OE T.aU 6;have HD6:=hDq (Yp T.aU 6);have Zg:Hid (af.vy wd h seed T=if af.l6 (af.cp T) (af.gF T.bt (af.d6 T.aU 6) (ay.out T.Q T.t))=true then af.mR wd h seed (af.bT (af.cp T) (af.gF T.bt (af.d6 T.aU 6) (ay.out T.Q T.t))) (af.d6 T.aU 6) (ay.out T.Q T.t) else { af.bT (af.cp T) (af.gF T.bt (af.d6 T.aU 6) (ay.out T.Q T.t)) with down:=true }):=rfl;have tC:Hid (af.Ov wd h seed T=if af.l6 (af.cp T) (af.gF T.bt (af.d6 T.aU 6) (ay.out T.Q T.t))=true then (af.iU wd h seed (af.bT (af.cp T) (af.gF T.bt (af.d6 T.aU 6) (ay.out T.Q T.t))) (af.d6 T.aU 6) (ay.out T.Q T.t)).rp else []):=rfl;have Pk:=alL T.bt (af.d6 T.aU 6) (ay.out T.Q T.t) (by omega) HD6.out hdl hout;rw[Zg.out]at mh;rw[tC.out]at iP;clear Zg tC;generalize af.d6 T.aU 6=ds at *;obtain⟨l,hl⟩:∃ l,ay.out T.Q T.t=l:=⟨_,rfl⟩;have HL:=hDq hl;rw[hl]at mh iP hout Pk;clear hl;obtain⟨bH,val,hcl,aP⟩:=lg (fun W'=>W'.heap[B.V]?=some (.cells (jq B seed T) 114 (0,0)));obtain⟨x0,hx0⟩:=aP w2.drew H2.out.blk;have hnx:Nonempty bH:=⟨x0⟩;have s0:∀ x,(val x).cell? (Qb B.V 2)=some (Qc B.q):=fun x=>by rw[cR _ _ _ _ _ _ (hcl x)];rfl
  have aR:=hDq aP;clear aP hcl;go_wp2;refine sJ (val:=val) [1,6] [0,2,3,4,5,1,6,7,8] (by kernel_rfl) (by kernel_rfl) x0 hx0 ?_;rw[hx0];clear hx0
  iterate 5 (refine jG rfl rfl (fun K hK=>?_);refine⟨by rfl,?_⟩;unfold aB;go_simp;refine hK _ ?_;clear hK K)
  refine lT rfl rfl (fun K hK=>?_);refine⟨by rfl,?_⟩;unfold aQ;go_simp;refine(tu.out _ eO).mono ?_;rintro e w3 ⟨bM,rfl,hrd,hb3⟩;have IE:Qd w2 w3:=eO.trans hb3;have au:=hDq IE;have HD3:=hDq hrd;have H3:=hDq (H2.out.later IE);have cK:=hDq (HS2.out.below IE);refine⟨_,rfl,aR.out _ H3.out.blk,hK _ _ ?_⟩;clear hK K hb3 IE tu hrd;refine lT rfl rfl (fun K hK=>?_);refine⟨by rfl,?_⟩;unfold aQ;go_simp;refine(Uk _ H3.out.it).mono ?_;rintro e w4 ⟨va,Zh,rfl,ib,hit,q_,_⟩;rw[HL.out]at ib;obtain⟨h4,dm⟩:=H3.out.take hit q_;have ee:Hid (aD w w4 B { X2 with qv:=Zh } wd h seed (af.cp T)):=h4;have cq:=hDq (cK.out.trans dm);have HD4:=hDq (H3.out.alN q_ HD3.out (by decide));have eB:=hDq ib;refine⟨_,rfl,aR.out _ ee.out.blk,hK _ _ ?_⟩;clear hK K h4 dm ib hit q_ s0 aR HD3
  iterate 2 (refine jG rfl rfl (fun K hK=>?_);refine⟨by rfl,?_⟩;unfold aB;go_simp;refine hK _ ?_;clear hK K)
  refine qW ?_;clear x0 hnx;clear val;clear bH;obtain⟨Dg,OQ,iY⟩:=gi HD4.out;obtain⟨xL,Dh,xM⟩:=gi eB.out;subst iY xM;generalize sX:af.cp T=gG at *;have hb4:gG.bt=T.bt:=by rw[<- sX];rfl
  have Zi:gG.tp=T.tp:=by rw[<- sX];rfl
  have hl4:gG.left=T.left:=by rw[<- sX];rfl
  have Zj:Hid (dU gG.L gG.pf gG.n wd h):=by
   obtain⟨_,_,_,e1,e2,e3,_⟩:=HN.out;show dU _ _ _ _ _;rw[<- sX];show dU T.L T.pf T.n wd h;rw[e1,e2,e3];exact hall.out
  have alQ:gG.tp.length<=1048576:=by rw[Zi,HN.out.2.2.2.2.2.2.1];exact rD
  have alR:gG.left<=9223372036854775807:=by rw[hl4,HN.out.2.2.2.2.2.2.2.2];exact qc
  rw[<- hb4]at mh iP Pk;have apz:gG.bt<=1000000:=by omega
  clear HL hb4 alP Zi hl4
  go_wp2_with fail
  generalize Nv:({ X2 with qv:=Zh }:bX)=rE at *;generalize hrb:af.gF gG.bt ds l=rb at *;have zL:=hDq (fun W' (h':Qd w4 W')=>akW gG.bt ds l _ _ _ _ W' hs ht ((ee.out.later h').bG) (by omega) (cO HD4.out h') (cO eB.out h') HD6 hdl hout);rw[hrb]at zL;obtain⟨bH,val,hcl,aP⟩:=lg (fun W'=>W'.heap[B.V]?=some (.cells (jq B seed gG) 114 (0,0)));obtain⟨x0,hx0⟩:=aP w4.drew ee.out.blk;have hnx:Nonempty bH:=⟨x0⟩;have s0:∀ x,(val x).cell? (Qb B.V 3)=some (Qc B.d):=fun x=>by rw[cR _ _ _ _ _ _ (hcl x)];rfl
  have s1:∀ x,(val x).cell? (Qb B.V 35)=some (Qa gG.bt):=fun x=>by rw[cR _ _ _ _ _ _ (hcl x)];rfl
  have aR:=hDq aP;clear aP hcl;refine sJ (val:=val) [10,11] [0,1,2,3,4,5,6,7,8,9,10,11,12] (by kernel_rfl) (by kernel_rfl) x0 hx0 ?_;rw[hx0];clear hx0
  iterate 10 (refine jG rfl rfl (fun K hK=>?_);refine⟨by rfl,?_⟩;unfold aB;go_simp;refine hK _ ?_;clear hK K)
  refine lT rfl rfl (fun K hK=>?_);refine⟨by rfl,?_⟩;unfold aQ;go_simp;refine(zL.out _ eO).mono ?_;rintro e aC ⟨rfl,di⟩;have tr:Qd w4 aC:=eO.trans di;have H5:=hDq (ee.out.later tr);have d_:=hDq (cq.out.below tr);have HD5:=hDq (cO HD4.out tr);have vB:=hDq (cO eB.out tr);refine⟨_,rfl,aR.out _ H5.out.blk,hK _ _ ?_⟩;clear hK K di tr zL;have dJ:=hDq (alM rb aC H5.out hs.out Pk alQ alR);have IG:Hid ((af.bT gG rb).bt=gG.bt/\(af.bT gG rb).L=gG.L/\(af.bT gG rb).pf=gG.pf/\(af.bT gG rb).n=gG.n):=by show _/\_;unfold af.bT;split <;> exact⟨rfl,rfl,rfl,rfl⟩
  have Zk:Hid (jq B seed (af.bT gG rb)=jq B seed gG):=by show _=_;unfold af.bT;split <;> rfl
  generalize apA:af.bT gG rb=S6 at *;refine lT rfl rfl (fun K hK=>?_);refine⟨by rfl,?_⟩;unfold aQ;go_simp;refine dJ.out.mono ?_;rintro e ai ⟨u,apB,rfl,hu1,hu2,h6,gL,Pm⟩;have kP:=hDq h6;have dA:=hDq (d_.out.trans gL);have alS:=hDq (H5.out.Ze Pm HD5.out (by decide));have gV:=hDq (H5.out.Ze Pm vB.out (by decide));refine⟨_,rfl,aR.out _ (by rw[<- Zk.out];exact kP.out.blk),hK _ _ ?_⟩;clear hK K h6 gL Pm dJ s0 s1 aR HD5 vB HD4 eB Zk;cases xP:af.l6 gG rb with
  | true =>
   obtain rfl:=hu1 xP;rw[xP,if_pos rfl]at mh iP;refine jG rfl rfl (fun K hK=>?_);refine⟨by rfl,?_⟩;unfold aB;go_simp;refine hK _ ?_;clear hK K;refine qW ?_;clear x0 hnx;clear val;clear bH;have alT:Hid (dU S6.L S6.pf S6.n wd h):=by
    obtain⟨_,e1,e2,e3⟩:=IG.out;show dU _ _ _ _ _;rw[e1,e2,e3];exact Zj.out
   have vF:=hDq (YP ds l _ _ _ _ ai kP hs alT (by rw[IG.out.1];omega) alS gV HD6 hdl hout)
   go_wp2_with fail
   refine vF.out.mono ?_;rintro e br ⟨v7,Gy,rfl,h7,lH,rW,Zl,alU,II⟩;have Dm:=hDq h7;have lI:=hDq (dA.out.trans lH);have fH:Hid (iI br W.heap.size v7 (af.iU wd h seed S6 ds l).rp):=gP rW dA.out.turned.size;have vo:=hDq Zl;have alV:Hid (af.Same S.pf (af.mR wd h seed S6 ds l).pf):=by
    have e2:=IG.out.2.2.1;rw[e2]at II;have e4:gG.pf=S.pf:=by rw[<- sX];exact HN.out.2.2.2.2.1
    rw[e4]at II;exact II
   clear h7 lH rW Zl II vF;simp only[];go_wp2;go_ret;rw[mh.out,iP.out];exact⟨_,Gy,rfl,Dm.out,lI.out,fH.out,vo.out,alU,alV.out⟩
  | false =>
   obtain⟨x,rfl⟩:=hu2 xP;rw[xP,if_neg (by decide)]at mh iP;refine jG rfl rfl (fun K hK=>?_);refine⟨by rfl,?_⟩;unfold aB;go_simp;refine hK _ ?_;clear hK K;refine qW ?_;clear x0 hnx;clear val;clear bH;obtain⟨h7,lH⟩:=kP.out.ak6 true;have Dm:=hDq h7;have lI:=hDq (dA.out.trans lH);clear h7 lH;have Ih:ai.cell? (Qb B.V 36)=some (.bool S6.down):=kP.out.at 36;have fz:∀ j,ai.frozen? (Qb B.V j)=false:=fun j=>kP.out.free j;go_wp2;go_ret;rw[mh.out,iP.out];obtain⟨_,e1,e2,e3⟩:=IG.out;refine⟨_,_,rfl,Dm.out,lI.out,World.ownsRow_nil _ _ _ _,?_,by simp,?_⟩
   .show dU S6.L S6.pf S6.n wd h
    rw[e1,e2,e3];exact Zj.out
   .show af.Same S.pf S6.pf
    rw[e2,<- sX];show af.Same S.pf T.pf;rw[HN.out.2.2.2.2.1];exact af.Same.refl _
 .have MB:(((S.now:Int)+1)%3 != 0)=true:=by
   have:((S.now:Int)+1)%3≠0:=by omega
   simpa using this
  rw[if_neg Zf]at mh iP;go_wp2;go_ret;rw[mh.out,iP.out];obtain⟨_,_,_,e1,e2,e3,_⟩:=HN.out;refine⟨_,X2,rfl,H2.out,HS2.out,World.ownsRow_nil _ _ _ _,?_,by simp,?_⟩
  .rw[e1,e2,e3];exact hall.out
  .rw[e2];exact af.Same.refl _
structure af.Ok (N:Nat) (wd h:Int) (S:af.St):Prop where
 all:dU S.L S.pf S.n wd h
 la:∀ c,c<6->0<=S.la c/\S.la c<=N
 now:S.now<=N
 bt:S.bt<=N
 tp:S.tp.length<=1048576
 left:S.left<=9223372036854775807
 az:∀ c,c<6->(S.az c).size<30
theorem alW (S:af.St) (s:ByteArray) (ht:S.tp.length<=1048576):(af.bT S s).tp.length<=1048576/\(af.bT S s).left<=S.left/\(af.bT S s).now=S.now/\(af.bT S s).bt=S.bt/\(af.bT S s).la=S.la/\(af.bT S s).az=S.az:=by
 unfold af.bT;by_cases hf:af.full S s=true
 .rw[if_pos hf];exact⟨ht,lRq _,rfl,rfl,rfl,rfl⟩
 .rw[if_neg hf]
  have h1:¬ 1048576<S.tp.length+(12+s.size):=by
   intro h;apply hf;unfold af.full;simpa using h
  have hlen:(bC.rec s.data.toList).length=12+s.size:=by rw[bC.vg,qi]
  refine⟨?_,?_,rfl,rfl,rfl,rfl⟩
  .show (S.tp++_).length<=_
   rw[lAq];split
   .rw[lKq];omega
   .omega
  .show (if S.cut=true then S.left-(12+s.size) else S.left)<=S.left
   split <;> omega
theorem Pn {S:af.St} (h:∀ c,c<6->(S.az c).size<30):∀ n,∀ c,c<6->((af.hangs S n).az c).size<30
 | 0=>h
 | n+1=>fun c hc=>by
  unfold af.hangs af.hang;split
  .unfold af.gone upd
   simp only;split
   .decide
   .exact Pn h n c hc
  .exact Pn h n c hc
theorem Po {S:af.St} {N:Nat} (h:∀ c,c<6->0<=S.la c/\S.la c<=N):∀ n,∀ c,c<6->0<=(af.hangs S n).la c/\(af.hangs S n).la c<=N
 | 0=>h
 | n+1=>fun c hc=>by
  unfold af.hangs af.hang;split
  .unfold af.gone upd
   simp only;split
   .exact⟨by omega,by omega⟩
   .exact Po h n c hc
  .exact Po h n c hc
theorem Zm {N:Nat} (hok:af.Ok N wd h S) (ha:dU (af.ei wd h seed S).L (af.ei wd h seed S).pf (af.ei wd h seed S).n wd h):af.Ok (N+1) wd h (af.ei wd h seed S):=by
 have Ls:=hok.now;have hb1:=hok.bt;have hT:∀ c,c<6->0<=(af.cg S).la c/\(af.cg S).la c<=((N+1:Nat):Int):=Po (S:={ S with now:=S.now+1 }) (fun c hc=>⟨(hok.la c hc).1,by have:=(hok.la c hc).2;show S.la c<=_;omega⟩) 6;have hL:∀ c,c<6->((af.cg S).az c).size<30:=Pn (S:={ S with now:=S.now+1 }) hok.az 6;obtain⟨e1,e2,e3,e4,e5,e6,e7,e8,e9⟩:=xO { S with now:=S.now+1 } 6;have f1:(af.cg S).now=S.now+1:=e1;have f2:(af.cg S).bt=S.bt:=e2;have f7:(af.cg S).tp=S.tp:=e7;have f9:(af.cg S).left=S.left:=e9;have rD:=hok.tp;have qc:=hok.left;obtain⟨g1,g2,g3,g4,g5,g6⟩:=alW (af.cp (af.cg S)) (af.dO (af.cg S)) (by show (af.cg S).tp.length<=_;rw[f7];exact rD);have alX:(af.bT (af.cp (af.cg S)) (af.dO (af.cg S))).now=(af.cg S).now:=g3;have zA:(af.bT (af.cp (af.cg S)) (af.dO (af.cg S))).bt=(af.cg S).bt:=g4;have g2':(af.bT (af.cp (af.cg S)) (af.dO (af.cg S))).left<=(af.cg S).left:=g2;have Pp:(af.bT (af.cp (af.cg S)) (af.dO (af.cg S))).la=(af.cg S).la:=g5;have Pq:(af.bT (af.cp (af.cg S)) (af.dO (af.cg S))).az=(af.cg S).az:=g6;clear e1 e2 e3 e4 e5 e6 e7 e8 e9 g2 g3 g4 g5 g6;obtain⟨A,hA⟩:∃ A,af.bT (af.cp (af.cg S)) (af.dO (af.cg S))=A:=⟨_,rfl⟩;rw[hA]at g1 g2' alX zA Pp Pq;by_cases hd:S.down=true
 .have e:af.ei wd h seed S=S:=by unfold af.ei;rw[if_pos hd]
  rw[e]at ha ⊢;exact⟨ha,fun c hc=>⟨(hok.la c hc).1,by have:=(hok.la c hc).2;omega⟩,by omega,by omega,rD,qc,hok.az⟩
 .by_cases hm:(S.now+1)%3=0
  .by_cases xP:af.l6 (af.cp (af.cg S)) (af.dO (af.cg S))=true
   .have e:af.ei wd h seed S=af.mR wd h seed A (af.d6 (af.cg S).aU 6) (ay.out (af.cg S).Q (af.cg S).t):=by
     unfold af.ei af.vy;rw[if_neg hd,if_pos hm,if_pos xP,hA]
    rw[e]at ha ⊢;refine⟨ha,?_,?_,?_,g1,?_,?_⟩
    .show ∀ c,c<6->0<=A.la c/\A.la c<=((N+1:Nat):Int)
     rw[Pp];exact hT
    .show A.now<=_
     omega
    .show A.bt+1<=_
     omega
    .show A.left<=_
     omega
    .show ∀ c,c<6->(A.az c).size<30
     rw[Pq];exact hL
   .have e:af.ei wd h seed S = { A with down:=true }:=by
     unfold af.ei af.vy;rw[if_neg hd,if_pos hm,if_neg xP,hA]
    rw[e]at ha ⊢;refine⟨ha,?_,?_,?_,g1,?_,?_⟩
    .show ∀ c,c<6->0<=A.la c/\A.la c<=((N+1:Nat):Int)
     rw[Pp];exact hT
    .show A.now<=_
     omega
    .show A.bt<=_
     omega
    .show A.left<=_
     omega
    .show ∀ c,c<6->(A.az c).size<30
     rw[Pq];exact hL
  .have e:af.ei wd h seed S=af.cg S:=by unfold af.ei;rw[if_neg hd,if_neg hm]
   rw[e]at ha ⊢;exact⟨ha,hT,by omega,by omega,by rw[f7];exact rD,by omega,hL⟩
theorem ahl (W:World) (H:aD w W B X wd h seed S) (hs:bO w ad) (ht:Lib.TabBelow Tryz.prog w.heap.size w "internal/strconv.uint64pow10" .u64 Lib.pow10Tab) {N:Nat} (hok:af.Ok N wd h S) (hN:N<=1000000) :
  Calls Tryz.prog 41 #[Qc B.V] W fun e w'=>∃ v X',e=.returned v/\aD w w' B X' wd h seed (af.ei wd h seed S)/\bf W w' B X X'/\iI w' W.heap.size v (af.nR wd h seed S)/\af.Ok (N+1) wd h (af.ei wd h seed S)/\(af.nR wd h seed S).length<=2900/\af.Same S.pf (af.ei wd h seed S).pf:=by
 cases hd:S.down with
 | true =>
  refine(Y6 W H hd).mono ?_;rintro e w' ⟨rfl,rfl⟩;have e1:af.ei wd h seed S=S:=by unfold af.ei;rw[if_pos hd]
  have e2:af.nR wd h seed S=[]:=by unfold af.nR;rw[if_pos hd]
  have e3:=Zm (seed:=seed) hok (by rw[e1];exact hok.all);rw[e2];rw[e1]at e3 ⊢;exact⟨_,X,rfl,H,bf.refl _ _ _,World.ownsRow_nil _ _ _ _,e3,by simp,af.Same.refl _⟩
 | false =>
  have hn:=hok.now;have hb:=hok.bt;refine(alO W H hs ht hd hok.all (fun c hc=>⟨(hok.la c hc).1,by have:=(hok.la c hc).2;omega⟩) (by omega) (by omega) hok.tp hok.left).mono ?_;rintro e w' ⟨v,X',rfl,h1,h2,h3,h4,h5,h6⟩;exact⟨v,X',rfl,h1,h2,h3,Zm hok h4,h5,h6⟩
end
def af.init (ref cash stock:Int):af.St:=⟨fun _=>[],Fl.kz cash stock 6,Fl.tW ref,fun _=>[],0,fun _=>false,fun _=>0,fun _=>0,fun _=>⟨#[]⟩,fun _=>false,[],false,0,0,0,false⟩
section
variable {w w0 W:World} {ad:Nat->Addr} {B:bP} {X:bX} {wd h seed:Int} {S:af.St}
theorem aD.BV (hb:Qd w0 w) (H:aD w W B X wd h seed S):aD w0 W B X wd h seed S:=by
 have hz:=hb.size;refine⟨H.blk,⟨H.fl.blk,H.fl.it,fun i hi=>⟨(H.fl.aH i hi).cell,lTq hz (H.fl.aH i hi).lo,gP (H.fl.aH i hi).row hz⟩,H.fl.pJ,H.fl.ne,H.fl.ap,H.fl.cQ,lTq hz H.fl.lo,lTq hz H.fl.nt,fun i hi=>lTq hz (H.fl.nu i hi),hb.trans (H.fl.bG.mono hz)⟩,⟨H.it.cell,lTq hz H.it.lo,H.it.turn,fun c hc=>gP (H.it.row c hc) hz,H.it.few,H.it.apart⟩,⟨H.dk.cell,?_,lTq hz H.dk.lo⟩,lTq hz H.lo⟩;obtain⟨g,cap,cur,fz,e1,e2,e3⟩:=H.dk.row;exact⟨g,cap,cur,fz,e1,lTq hz e2,e3⟩
def iH (seed wd h ref cash stock:Int):Array Value:=#[.int .u32 seed,Qa wd,Qa h,Qa ref,Qa cash,Qa stock]
structure Il (w W:World) (B:bP) (wd h seed ref cash stock:Int):Prop where
 blk:W.heap[B.V]?=some (.cells (jq B seed (af.init ref cash stock)) 114 (0,0))
 fl:bk w W B.F B.P B.I B.b (fun _=>.slice none 0 0) (fun _=>[]) (Fl.kz cash stock 6) (Fl.tW ref) wd h
 it:dF W w.heap.size B.q (fun _=>.slice none 0 0) 0 (fun _=>[])
 lo:w.heap.size<=B.V
theorem Il.aS {ref cash stock:Int} {bV:Value} {tp:List UInt8} {cut:Bool} {left:Nat} (N:Il w W B wd h seed ref cash stock) (hb:Qd w0 w) (hd:ek W w0.heap.size B.d bV tp cut left):aD w0 W B ⟨fun _=>.slice none 0 0,fun _=>.slice none 0 0,bV⟩ wd h seed { af.init ref cash stock with tp:=tp,cut:=cut,left:=left }:=by
 have hz:=hb.size;exact⟨N.blk,⟨N.fl.blk,N.fl.it,fun i hi=>⟨(N.fl.aH i hi).cell,lTq hz (N.fl.aH i hi).lo,gP (N.fl.aH i hi).row hz⟩,N.fl.pJ,N.fl.ne,N.fl.ap,N.fl.cQ,lTq hz N.fl.lo,lTq hz N.fl.nt,fun i hi=>lTq hz (N.fl.nu i hi),hb.trans (N.fl.bG.mono hz)⟩,⟨N.it.cell,lTq hz N.it.lo,N.it.turn,fun c hc=>gP (N.it.row c hc) hz,N.it.few,N.it.apart⟩,hd,lTq hz N.lo⟩
theorem Yt (seed wd h ref cash stock:Int) (d:Nat) (W:World) (hs:Hid (bO W ad)) (hr:Hid (aZ.iW wd h=true)) (hf:Hid (ah.aG ref 1 1000=true)) (HF:Hid (Fl.Fits cash stock)) :
  Calls Tryz.prog 53 #[.agg (iH seed wd h ref cash stock),Qc d] W fun e w'=>∃ B:bP,e=.returned (.tuple #[Qc B.V,.nilIface])/\B.d=d/\Il W w' B wd h seed ref cash stock:=by
 have HB1:Hid (Qd W (W.alloc (.cells (iH seed wd h ref cash stock) 45))):=(bRq _ _).alloc (lRq _) _;have Da:(W.alloc (.cells (iH seed wd h ref cash stock) 45)).heap[W.heap.size]?=some (.cells (iH seed wd h ref cash stock) 45 (0,0)):=hNq _ _;have Db:(W.alloc (.cells (iH seed wd h ref cash stock) 45)).heap.size=W.heap.size+1:=Array.size_push ..;have OG:=hDq Da;have OH:=hDq Db;have OI:=hDq (adZ wd h ref cash stock _ (hs.out.later HB1.out).CW hr hf HF);clear Da Db;unfold dP at OI;unfold iH at *;go_enter Tryz.func53,Tryz.ntmps53
 go_wp2_with fail
 refine OI.out.mono ?_;rintro e w3 ⟨F,P,I,b,rfl,hfl⟩;have mB:=hDq hfl;have au:=hDq hfl.bG;clear hfl OI;have hc:w3.heap[W.heap.size]?=some (.cells #[.int .u32 seed,Qa wd,Qa h,Qa ref,Qa cash,Qa stock] 45 (0,0)):=by
  rw[au.out.block _ (by rw[OH.out];omega)];exact OG.out
 obtain⟨bH,val,hcl,aP⟩:=lg (fun W'=>W'.heap[W.heap.size]?=some (.cells #[.int .u32 seed,Qa wd,Qa h,Qa ref,Qa cash,Qa stock] 45 (0,0)));obtain⟨x0,hx0⟩:=aP w3.drew hc;have hnx:Nonempty bH:=⟨x0⟩;have s0:∀ x,(val x).cell? (Qb W.heap.size 0)=some (.int .u32 seed):=fun x=>by rw[cR _ _ _ _ _ _ (hcl x)];rfl
 have aR:=hDq aP;have HC:=hDq hc;clear aP hcl hc;simp only[];go_wp2;refine sJ (val:=val) [3,6] [0,1,2,4,3,5,6,7,8] (by kernel_rfl) (by kernel_rfl) x0 hx0 ?_;rw[hx0];clear hx0
 iterate 4 (refine jG rfl rfl (fun K hK=>?_);refine⟨by rfl,?_⟩;unfold aB;go_simp;refine hK _ ?_;clear hK K)
 refine lT rfl rfl (fun K hK=>?_);refine⟨by rfl,?_⟩;unfold aQ;go_simp;refine(afP _).mono ?_;rintro e w4 ⟨rfl,hit,hb4⟩;have OJ:Qd w3 w4:=eO.trans hb4;have uq:=hDq hit;have bJ:=hDq OJ;have Bj:Hid (w4.heap[W.heap.size]?=some (.cells #[.int .u32 seed,Qa wd,Qa h,Qa ref,Qa cash,Qa stock] 45 (0,0))):=dG OJ HC.out;refine⟨_,rfl,aR.out _ Bj.out,hK _ _ ?_⟩;clear hK K hb4 OJ hit;refine jG rfl rfl (fun K hK=>?_);refine⟨by rfl,?_⟩;unfold aB;go_simp;refine hK _ ?_;clear hK K;refine lT rfl rfl (fun K hK=>?_);refine⟨by rfl,?_⟩;unfold aQ;go_simp;refine⟨aR.out _ ?_,hK _ _ ?_⟩
 .exact dG ((bRq _ _).alloc (lRq _) _) Bj.out
 clear hK K aR s0
 iterate 2 (refine jG rfl rfl (fun K hK=>?_);refine⟨by rfl,?_⟩;unfold aB;go_simp;refine hK _ ?_;clear hK K)
 refine qW ?_;clear x0 hnx;clear val;clear bH;have di:Qd w4 (w4.alloc (.cells (jq ⟨w4.heap.size,F,P,w3.heap.size,d,I,b⟩ seed (af.init ref cash stock)) 114)):=(bRq _ _).alloc (lRq _) _;have OL:=bJ.out.size;have Yu:=au.out.size;have Im:W.heap.size<=w3.heap.size:=lTq HB1.out.size Yu;have Yv:=bJ.out.trans (di.mono OL);have cF:Hid (Il W (w4.alloc (.cells (jq ⟨w4.heap.size,F,P,w3.heap.size,d,I,b⟩ seed (af.init ref cash stock)) 114)) ⟨w4.heap.size,F,P,w3.heap.size,d,I,b⟩ wd h seed ref cash stock):=by
  have k:=uq.out.later di;have f:=mB.out.later Yv;have hz:=HB1.out.size;refine⟨hNq _ _,⟨f.blk,f.it,fun i hi=>⟨(f.aH i hi).cell,lTq hz (f.aH i hi).lo,gP (f.aH i hi).row hz⟩,f.pJ,f.ne,f.ap,f.cQ,lTq hz f.lo,lTq hz f.nt,fun i hi=>lTq hz (f.nu i hi),HB1.out.trans (f.bG.mono hz)⟩,⟨k.cell,Im,k.turn,fun c hc=>gP (k.row c hc) Im,k.few,k.apart⟩,lTq Im OL⟩
 clear di OL Yu Yv Im;go_wp2;go_ret2;exact⟨⟨w4.heap.size,F,P,w3.heap.size,d,I,b⟩,rfl,rfl,cF.out⟩
theorem agX (seed wd h ref cash stock:Int) (W:World) (hs:Hid (bO W ad)) (hr:Hid (aZ.iW wd h=true)) (hf:Hid (ah.aG ref 1 1000=true)) (HF:Hid (Fl.Fits cash stock)) :
  Calls Tryz.prog 16 #[.agg (iH seed wd h ref cash stock)] W fun e w'=>∃ B X,e=.returned (.tuple #[Qc B.V,.nilIface])/\aD W w' B X wd h seed (af.init ref cash stock):=by
 have HB1:Hid (Qd W (W.alloc (.cells (iH seed wd h ref cash stock) 45))):=(bRq _ _).alloc (lRq _) _;have Da:(W.alloc (.cells (iH seed wd h ref cash stock) 45)).heap[W.heap.size]?=some (.cells (iH seed wd h ref cash stock) 45 (0,0)):=hNq _ _;have Db:(W.alloc (.cells (iH seed wd h ref cash stock) 45)).heap.size=W.heap.size+1:=Array.size_push ..;have OG:=hDq Da;have OH:=hDq Db;have rq:=hDq (ajG ⟨#[]⟩ (W.alloc (.cells (iH seed wd h ref cash stock) 45)) (by decide));have Ed:=hDq (fun d W' hb=>Yt seed wd h ref cash stock d W' (hs.out.later hb) hr hf HF);clear Da Db;unfold iH at *;go_enter Tryz.func16,Tryz.ntmps16
 go_wp2_with fail
 refine rq.out.mono ?_;rintro e w3 ⟨d,rfl,Dc,hb3⟩;have HDK:=hDq Dc;have au:=hDq hb3;clear Dc hb3 rq;have hc:w3.heap[W.heap.size]?=some (.cells #[.int .u32 seed,Qa wd,Qa h,Qa ref,Qa cash,Qa stock] 45 (0,0)):=by
  rw[au.out.block _ (by rw[OH.out];omega)];exact OG.out
 have c0:w3.cell? (Qb W.heap.size 0)=some (.int .u32 seed):=by rw[cR _ _ 0 _ _ _ hc];rfl
 have c1:w3.cell? (Qb W.heap.size 1)=some (Qa wd):=by rw[cR _ _ 1 _ _ _ hc];rfl
 have c2:w3.cell? (Qb W.heap.size 2)=some (Qa h):=by rw[cR _ _ 2 _ _ _ hc];rfl
 have c3:w3.cell? (Qb W.heap.size 3)=some (Qa ref):=by rw[cR _ _ 3 _ _ _ hc];rfl
 have c4:w3.cell? (Qb W.heap.size 4)=some (Qa cash):=by rw[cR _ _ 4 _ _ _ hc];rfl
 have c5:w3.cell? (Qb W.heap.size 5)=some (Qa stock):=by rw[cR _ _ 5 _ _ _ hc];rfl
 have Yw:=hDq (HB1.out.trans (au.out.mono HB1.out.size));clear hc;simp only[]
 go_wp2_with fail
 refine(Ed.out _ _ Yw.out).mono ?_;rintro e w4 ⟨B,rfl,OM,hno⟩;obtain⟨Gu,bV,o7,r_⟩:=HDK.out;have cF:Hid (aD W w4 B ⟨fun _=>.slice none 0 0,fun _=>.slice none 0 0,bV⟩ wd h seed (af.init ref cash stock)):=by
  have k:ek w3 W.heap.size d bV [] false 0:=by
   obtain⟨g,cap,cur,fz,e1,e2,e3⟩:=r_;exact⟨o7,⟨g,cap,cur,fz,e1,lTq HB1.out.size e2,e3⟩,lTq HB1.out.size Gu⟩
  have k2:=k.later hno.fl.bG;rw[<- OM]at k2;exact hno.aS Yw.out k2
 clear Gu o7 r_ hno c0 c1 c2 c3 c4 c5;simp only[];go_wp2;go_ret2;exact⟨B,rfl,⟨fun _=>.slice none 0 0,fun _=>.slice none 0 0,bV⟩,cF.out⟩
theorem akJ (ref cash stock:Int) (hr:aZ.iW wd h=true) (hf:ah.aG ref 1 1000=true) (HF:Fl.Fits cash stock):af.Ok 0 wd h (af.init ref cash stock) :=
 ⟨Fl.RB hr hf HF,fun _ _=>⟨show (0:Int)<=0 by decide,show (0:Int)<=((0:Nat):Int) by decide⟩,lRq 0,lRq 0,show 0<=1048576 by decide,show 0<=9223372036854775807 by decide,fun _ _=>show (⟨#[]⟩:ByteArray).size<30 by decide⟩
end
structure Stp where
 kind:ByteArray
 c:Int
 asks:List Ask
 s:ByteArray
 n:Int
def af.XZ (s:ByteArray) (l:List Ask):Nat->ByteArray
 | 0=>s
 | k+1=>af.XZ s l k++af.bL (cY l k)
section
variable {w W:World} {ad:Nat->Addr} {B:bP} {X:bX} {wd h seed:Int} {S:af.St}
end
section
variable {wd h seed:Int} {S:af.St} {N:Nat}
theorem akK (hok:af.Ok N wd h S) {n:Nat} (f:ByteArray):af.Ok N wd h (af.jM S n f):=by
 have ht:af.takeC S n (af.cA f)=0->af.Ok N wd h (af.taken S n (af.cA f)):=fun _=>by
  refine⟨hok.all,fun c hc=>?_,hok.now,hok.bt,hok.tp,hok.left,hok.az⟩;have h1:=hok.now;have h2:=hok.la c hc;unfold af.taken upd bg.gC;simp only;split
  .rename_i e;subst e
   split
   .split
    .exact⟨by omega,by omega⟩
    .exact⟨by omega,by omega⟩
   .exact h2
  .exact h2
 unfold af.jM;split
 .split
  .rename_i h1 h2
   have k:=ht h2;split
   .exact⟨k.all,k.la,k.now,k.bt,k.tp,k.left,k.az⟩
   .split
    .exact⟨k.all,k.la,k.now,k.bt,k.tp,k.left,k.az⟩
    .exact k
  .exact hok
 .exact hok
theorem Yx (hok:af.Ok N wd h S) {n:Nat} (b:ByteArray):∀ k,af.Ok N wd h (af.cZ S n b k)
 | 0=>hok
 | k+1=>akK (Yx hok b k) _
theorem akL (b:ByteArray):(af.eF b).size<30:=by
 unfold af.eF;rw[ByteArray.size_extract];omega
theorem agJ (hok:af.Ok N wd h S) (n:Int) (s:ByteArray):af.Ok N wd h (af.eN S n s):=by
 unfold af.eN;split
 .exact hok
 .refine Yx (S:=af.gp S n.toNat (S.az n.toNat++s)) ⟨hok.all,hok.la,hok.now,hok.bt,hok.tp,hok.left,fun c hc=>?_⟩ _ _
  unfold af.gp upd;simp only;split
  .exact akL _
  .exact hok.az c hc
theorem MO {M:Nat} (hok:af.Ok N wd h S) (hM:N<=M):af.Ok M wd h S :=
 ⟨hok.all,fun c hc=>⟨(hok.la c hc).1,by have:=(hok.la c hc).2;omega⟩,lTq hok.now hM,lTq hok.bt hM,hok.tp,hok.left,hok.az⟩
noncomputable def af.tx (wd h seed:Int) (S:af.St):Nat->af.St
 | 0=>S
 | k+1=>af.ei wd h seed (af.tx wd h seed S k)
noncomputable def af.Yy (wd h seed:Int) (S:af.St):Nat->List af.cy
 | 0=>[]
 | k+1=>af.Yy wd h seed S k++af.nR wd h seed (af.tx wd h seed S k)
def Yz (x:Stp):Bool:=x.kind.toList==[102,101,101,100]
def YA (x:Stp):Bool:=x.kind.toList==[99,117,116]
def YB (x:Stp):Nat:=if x.n.toNat<8 then x.n.toNat else 8
noncomputable def af.iQ (wd h seed:Int) (S:af.St) (x:Stp):af.St :=
 if Yz x=true then af.eN S x.c (af.XZ x.s x.asks x.asks.length) else if YA x=true then af.Ow S x.n else af.tx wd h seed S (YB x)
noncomputable def af.jJ (wd h seed:Int) (S:af.St) (x:Stp):List af.cy :=
 if Yz x=true then [] else if YA x=true then [] else af.Yy wd h seed S (YB x)
end
theorem YC:∀ (l:List af.cy),∀ u∈gZ l,u.oneCell'=true
 | [],u,h=>by cases h
 | x::l,u,h=>by
  unfold gZ at h;rw[List.flatMap_cons,List.mem_append]at h;rcases h with h | h
  .exact Oy x u h
  .exact YC l u h
theorem ag8 {b0 b2:Nat} (W:World) (v v2:Value) (l l2:List af.cy) (hr:iI W b0 v l) (hr2:iI W b2 v2 l2) (hl:l.length<=1000000) (hl2:l2.length<=10000) (hb:b0<=W.heap.size) :
  ∃ v' W',(Builtin.append_ #[55,55] 55 #[v,v2]).run Tryz.prog W=.ok v' W'/\iI W' b0 v' (l++l2)/\W.grownBy W' v.ownBlock:=by
 obtain⟨i0,z0,hi,hz0,hz1,hz2,hz3⟩:=Oz;rcases hr2.2 with ⟨e1,e2⟩ | ⟨g,cap,cur,e1,_,hg,_⟩
 .have h0:l2=[]:=by
   cases l2 with
   | nil=>rfl
   | cons a b=>simp at e2
  subst h0 e1;refine⟨v,W,run_append_owned_none W b0 55 55 121 i0 6 Tryz.underlying55 hi v l.length (gZ l) hr,by rw[aNq];exact hr,⟨rfl,rfl,rfl,lRq _,fun _ _ _=>rfl⟩⟩
 .have hc:∀ j u,(gZ l2)[j]?=some u->W.cell? ((⟨g,0,none⟩:Addr).add j)=some u:=fun j u hj=>by
   have:=World.ownsRow.cells hr2 (g:=g) (by rw[e1];rfl) j u hj
   exact this
  subst e1;obtain⟨v4,w4,hap,hrow,hgr,_,_⟩:=run_append_own_at (P:=Tryz.prog) (w:=W) b0 55 55 121 i0 z0 6 56 Tryz.underlying55 hi hz0 hz1 hz2 hz3 (by decide) v l.length (gZ l) hr (Qb g 0) l2.length cap (gZ l2) (Yc l2) hc (YC l2) (by unfold maxLen;omega) (by omega) hb;refine⟨v4,w4,hap,?_,hgr⟩;show w4.ownsRow b0 121 6 v4 (l++l2).length (gZ (l++l2));rw[Ox,lAq];exact hrow
namespace Pl
structure St where
 v:af.St
 ar:Nat->Int
 pl:Nat->Int
def num (P:St) (c:Nat) (k:Int):Int:=if k=108 then 1 else P.ar c
def iG (P:St) (c:Nat) (k:Int):St:={ P with ar:=upd P.ar c (if k=113 then 1 else num P c k+1) }
def lp (P:St) (c:Nat):St:={ P with pl:=upd P.pl c (P.pl c+1) }
def order (P:St) (c r:Nat):Ask:=⟨111,c,0,(r%3:Nat),(r/3%2:Nat),(90+r/6%20:Nat),(1+r/120%9:Nat),1000*c+(P.pl c+1)⟩
def cancel (c r:Nat):Ask:=⟨99,c,0,(r%3:Nat),0,0,0,(1000*c+r/3%12+1:Nat)⟩
structure gW (N:Nat) (P:St):Prop where
 ar:∀ c,c<6->1<=P.ar c/\P.ar c<=N+1
 pl:∀ c,c<6->0<=P.pl c/\P.pl c<=N
end Pl
def lV (B:bP) (P:Pl.St):Array Value:=#[Qc B.V,Qa (P.ar 0),Qa (P.pl 0),Qa (P.ar 1),Qa (P.pl 1),Qa (P.ar 2),Qa (P.pl 2),Qa (P.ar 3),Qa (P.pl 3),Qa (P.ar 4),Qa (P.pl 4),Qa (P.ar 5),Qa (P.pl 5)]
theorem U' (B:bP) (P:Pl.St) {c:Nat} (hc:c<6):(lV B P)[1+c*2]?=some (Qa (P.ar c)):=by
 have h1:c=0\/c=1\/c=2\/c=3\/c=4\/c=5:=by omega
 rcases h1 with rfl | rfl | rfl | rfl | rfl | rfl <;> rfl
theorem MS (B:bP) (P:Pl.St) {c:Nat} (hc:c<6):(lV B P)[1+c*2+1]?=some (Qa (P.pl c)):=by
 have h1:c=0\/c=1\/c=2\/c=3\/c=4\/c=5:=by omega
 rcases h1 with rfl | rfl | rfl | rfl | rfl | rfl <;> rfl
theorem GG (B:bP) (P:Pl.St) {c:Nat} (hc:c<6) (x:Int):(lV B P).setIfInBounds (1+c*2) (Qa x)=lV B { P with ar:=upd P.ar c x }:=by
 have h1:c=0\/c=1\/c=2\/c=3\/c=4\/c=5:=by omega
 rcases h1 with rfl | rfl | rfl | rfl | rfl | rfl <;> rfl
theorem agS (B:bP) (P:Pl.St) {c:Nat} (hc:c<6) (x:Int):(lV B P).setIfInBounds (1+c*2+1) (Qa x)=lV B { P with pl:=upd P.pl c x }:=by
 have h1:c=0\/c=1\/c=2\/c=3\/c=4\/c=5:=by omega
 rcases h1 with rfl | rfl | rfl | rfl | rfl | rfl <;> rfl
structure cH (w W:World) (p:Nat) (B:bP) (X:bX) (wd h seed:Int) (P:Pl.St):Prop where
 blk:W.heap[p]?=some (.cells (lV B P) 148 (0,0))
 aS:aD w W B X wd h seed P.v
 lo:w.heap.size<=p
structure dZ (W W':World) (p:Nat) (B:bP) (X X':bX):Prop where
 turned:aJ W W' (fun k=>k=p\/dH B X k)
 new:∀ k,dH B X' k->dH B X k\/W.heap.size<=k
section
variable {w W W' W2:World} {ad:Nat->Addr} {p:Nat} {B:bP} {X X' X2:bX} {wd h seed:Int} {P:Pl.St}
theorem dZ.refl (W:World) (p:Nat) (B:bP) (X:bX):dZ W W p B X X:=⟨aJ.refl _ _,fun _ h=>.inl h⟩
theorem dZ.trans (h:dZ W W' p B X X') (h1:dZ W' W2 p B X' X2):dZ W W2 p B X X2 :=
 ⟨h.turned.trans h1.turned (fun k hk=>by
  rcases hk with rfl | hk
  .exact .inl (.inl rfl)
  .rcases h.new k hk with h3 | h3
   .exact .inl (.inr h3)
   .exact .inr h3),fun k hk=>by
  rcases h1.new k hk with h3 | h3
  .exact h.new k h3
  .exact .inr (lTq h.turned.size h3)⟩
theorem dZ.of (h:bf W W' B X X') (p:Nat):dZ W W' p B X X':=⟨h.turned.mono (fun _ hk=>.inr hk),h.new⟩
theorem dZ.below (h:dZ W W' p B X X') (hb:Qd W' W2):dZ W W2 p B X X':=h.trans (dZ.of (bf.of_below hb B X') p)
theorem cH.later (H:cH w W p B X wd h seed P) (hb:Qd W W'):cH w W' p B X wd h seed P:=⟨dG hb H.blk,H.aS.later hb,H.lo⟩
theorem cH.act {S:af.St} (H:cH w W p B X wd h seed P) (hv:aD w W' B X' wd h seed S) (hs:bf W W' B X X'):cH w W' p B X' wd h seed { P with v:=S } :=
 ⟨hs.block H.aS H.blk (by decide),hv,H.lo⟩
theorem cH.put {Q:Pl.St} (H:cH w W p B X wd h seed P) (j:Nat) (u:Value) (hr:(lV B P).setIfInBounds j u=lV B Q) (hv:Q.v=P.v):cH w (W.setCell (Qb p j) u) p B X wd h seed Q/\dZ W (W.setCell (Qb p j) u) p B X X:=by
 have ht:aJ W (W.setCell (Qb p j) u) (fun k=>k=p):=aJ.setCell _ _ _ _;refine⟨⟨by rw[block_setCell H.blk,hr],?_,H.lo⟩,⟨ht.mono (fun _ hk=>.inl hk),fun _ hk=>.inl hk⟩⟩;rw[hv];refine H.aS.aside ht (fun e=>aI H.aS.fl.blk H.blk (by decide) e) (fun k hk e=>?_) (fun k e=>by rw[e];exact H.lo);rw[e]at hk;exact uO H.aS H.blk (by decide) hk
theorem cH.at (H:cH w W p B X wd h seed P) (k:Nat):W.cell? (Qb p k)=(lV B P)[k]?:=cR W p k _ _ _ H.blk
theorem cH.free (H:cH w W p B X wd h seed P) (k:Nat):W.frozen? (Qb p k)=false:=by simp[World.frozen?,H.blk]
theorem agT (c:Nat) (hc:c<6) (k:Int) (W:World) (H:Hid (cH w W p B X wd h seed P)) (hb:P.ar c<=1000000) (h0:0<=P.ar c) :
  Calls Tryz.prog 172 #[Qc p,Qa c,.int .u8 k] W fun e w'=>e=.returned (Qa (Pl.num P c k))/\cH w w' p B X wd h seed (Pl.iG P c k)/\dZ W w' p B X X:=by
 have c1:W.cell? ⟨p,1+c*2,none⟩=some (Qa (P.ar c)):=by rw[H.out.at];exact U' B P hc
 have fz:W.frozen? ⟨p,1+c*2,none⟩=false:=H.out.free _;have y8:p<W.heap.size:=lBq H.out.blk;have hci:(c:Int)<6:=by omega
 have two:∀ x y:Int,cH w ((W.setCell ⟨p,1+c*2,none⟩ (Qa x)).setCell ⟨p,1+c*2,none⟩ (Qa y)) p B X wd h seed { P with ar:=upd P.ar c y }/\dZ W ((W.setCell ⟨p,1+c*2,none⟩ (Qa x)).setCell ⟨p,1+c*2,none⟩ (Qa y)) p B X X:=fun x y=>by
  obtain⟨h1,h2⟩:=H.out.put (1+c*2) (Qa x) (GG B P hc x) rfl;obtain⟨h3,h4⟩:=h1.put (1+c*2) (Qa y) (GG B _ hc y) rfl;have e:upd (upd P.ar c x) c y=upd P.ar c y:=by funext j;unfold upd;split <;> rfl
  rw[e]at h3;exact⟨h3,h2.trans h4⟩
 by_cases h1:k=108
 .have e1:(k==108)=true:=by simpa using h1
  have e2:(k==113)=false:=by rw[h1];rfl
  have hn:Pl.num P c k=1:=by unfold Pl.num;rw[if_pos h1]
  have hS:Pl.iG P c k = { P with ar:=upd P.ar c 2 }:=by unfold Pl.iG;rw[hn,if_neg (by rw[h1];decide)];rfl
  rw[hn,hS];have HF:=hDq (two 1 2);clear two hn hS h1;go_enter Tryz.func172,Tryz.ntmps172;go_wp2;go_ret;exact⟨rfl,HF.out.1,HF.out.2⟩
 .have e1:(k==108)=false:=by simpa using h1
  have hn:Pl.num P c k=P.ar c:=by unfold Pl.num;rw[if_neg h1]
  by_cases h2:k=113
  .have e2:(k==113)=true:=by simpa using h2
   have hS:Pl.iG P c k = { P with ar:=upd P.ar c 1 }:=by unfold Pl.iG;rw[if_pos h2]
   rw[hn,hS];have HF:=hDq (two (P.ar c+1) 1);clear two hn hS h1 h2;generalize P.ar c=x at *;go_enter Tryz.func172,Tryz.ntmps172;go_wp2;go_ret;exact⟨rfl,HF.out.1,HF.out.2⟩
  .have e2:(k==113)=false:=by simpa using h2
   have hS:Pl.iG P c k = { P with ar:=upd P.ar c (P.ar c+1) }:=by unfold Pl.iG;rw[hn,if_neg h2]
   rw[hn,hS];have HF:=hDq (H.out.put (1+c*2) (Qa (P.ar c+1)) (GG B P hc _) rfl);clear two hn hS h1 h2;generalize P.ar c=x at *;go_enter Tryz.func172,Tryz.ntmps172;go_wp2;go_ret;exact⟨rfl,HF.out.1,HF.out.2⟩
theorem agU (c r:Nat) (hc:c<6) (hr:r<=1000000000000000000) (W:World) :
  Calls Tryz.prog 112 #[Qa c,Qa r] W fun e w'=>e=.returned (bu (Pl.cancel c r))/\Qd W w':=by
 have e1:(r:Int).tmod 3=((r%3:Nat):Int):=by rw[Int.tmod_eq_emod_of_nonneg (by omega)];omega
 have e2:(r:Int).tdiv 3=((r/3:Nat):Int):=by rw[Int.tdiv_eq_ediv_of_nonneg (by omega)];omega
 have e3:((r/3:Nat):Int).tmod 12=((r/3%12:Nat):Int):=by rw[Int.tmod_eq_emod_of_nonneg (by omega)];omega
 have cF:Hid (bu (Pl.cancel c r)=.agg #[.int .u8 99,Qa c,Qa 0,Qa ((r%3:Nat):Int),Qa 0,Qa 0,Qa 0,Qa (1000*(c:Int)+((r/3%12:Nat):Int)+1)]):=hDq (by
  unfold bu aT Pl.cancel;simp only[];push_cast;rfl)
 have hA:r%3<3:=Nat.mod_lt _ (by decide);have hC:r/3%12<12:=Nat.mod_lt _ (by decide);have hB:((r/3:Nat):Int)<=1000000000000000000:=by omega
 have hB0:(0:Int)<=((r/3:Nat):Int):=by omega
 generalize ((r/3:Nat):Int)=b at *;generalize r%3=a at *;generalize r/3%12=d at *;have HB1:Hid (Qd W (W.alloc (.cells #[.int .u8 99,Qa c,Qa 0,Qa a,Qa 0,Qa 0,Qa 0,Qa (1000*(c:Int)+(d:Int)+1)] 95))):=hDq ((bRq _ _).alloc (lRq _) _);go_enter Tryz.func112,Tryz.ntmps112;go_wp2;refine bodyPost_ret (v:=.agg #[.int .u8 99,Qa c,Qa 0,Qa a,Qa 0,Qa 0,Qa 0,Qa (1000*(c:Int)+(d:Int)+1)]) (by simp[results,Tryz.results112,go_sem]) rfl ?_;exact⟨by rw[cF.out],HB1.out⟩
end
section
variable {w W W' W2:World} {ad:Nat->Addr} {p:Nat} {B:bP} {X X' X2:bX} {wd h seed:Int} {P:Pl.St}
theorem agY {W:World} {R:Nat} {t:TypeId} {x0 x1 x2 x3 x4 x5 x6 x7:Value} (hz:W.heap[R]?=some (.cells #[x0,x1,x2,x3,x4,x5,x6,x7] t (0,0))) (v0 v1 v2 v3 v4 v5 v6 v7:Value) :
  ((((((((W.setCell (Qb R 0) v0).setCell (Qb R 1) v1).setCell (Qb R 2) v2).setCell (Qb R 3) v3).setCell (Qb R 4) v4).setCell (Qb R 5) v5).setCell (Qb R 6) v6).setCell (Qb R 7) v7).heap[R]?=some (.cells #[v0,v1,v2,v3,v4,v5,v6,v7] t (0,0)):=by
 have h0:=block_setCell hz 0 v0;rw[show #[x0,x1,x2,x3,x4,x5,x6,x7].setIfInBounds 0 v0=#[v0,x1,x2,x3,x4,x5,x6,x7] from rfl]at h0;have h1:=block_setCell h0 1 v1;rw[show #[v0,x1,x2,x3,x4,x5,x6,x7].setIfInBounds 1 v1=#[v0,v1,x2,x3,x4,x5,x6,x7] from rfl]at h1;have h2:=block_setCell h1 2 v2;rw[show #[v0,v1,x2,x3,x4,x5,x6,x7].setIfInBounds 2 v2=#[v0,v1,v2,x3,x4,x5,x6,x7] from rfl]at h2;have h3:=block_setCell h2 3 v3;rw[show #[v0,v1,v2,x3,x4,x5,x6,x7].setIfInBounds 3 v3=#[v0,v1,v2,v3,x4,x5,x6,x7] from rfl]at h3;have h4:=block_setCell h3 4 v4;rw[show #[v0,v1,v2,v3,x4,x5,x6,x7].setIfInBounds 4 v4=#[v0,v1,v2,v3,v4,x5,x6,x7] from rfl]at h4;have h5:=block_setCell h4 5 v5;rw[show #[v0,v1,v2,v3,v4,x5,x6,x7].setIfInBounds 5 v5=#[v0,v1,v2,v3,v4,v5,x6,x7] from rfl]at h5;have h6:=block_setCell h5 6 v6;rw[show #[v0,v1,v2,v3,v4,v5,x6,x7].setIfInBounds 6 v6=#[v0,v1,v2,v3,v4,v5,v6,x7] from rfl]at h6;have h7:=block_setCell h6 7 v7;rw[show #[v0,v1,v2,v3,v4,v5,v6,x7].setIfInBounds 7 v7=#[v0,v1,v2,v3,v4,v5,v6,v7] from rfl]at h7;exact h7
theorem agZ (W:World) (R:Nat) (v0 v1 v2 v3 v4 v5 v6 v7:Value):aM W ((((((((W.setCell (Qb R 0) v0).setCell (Qb R 1) v1).setCell (Qb R 2) v2).setCell (Qb R 3) v3).setCell (Qb R 4) v4).setCell (Qb R 5) v5).setCell (Qb R 6) v6).setCell (Qb R 7) v7) R:=(((((((aM.setCell _ _ _ _).put _ _).put _ _).put _ _).put _ _).put _ _).put _ _).put _ _
theorem aJ.ag0 {R:Nat} (h:aM W W' R):aJ W W' (fun k=>k=R):=⟨h.os,h.tape,h.output,h.size,fun k hk hn=>h.block k hk hn⟩
theorem cH.aside {W0:World} {R:Nat} (H:cH w W p B X wd h seed P) (h0:w.heap.size<=W0.heap.size) (ho:∀ k,dH B X k->k<W0.heap.size) (hF:B.F<W0.heap.size) (hp:p<W0.heap.size) (hR:R=W0.heap.size) (ht:aJ W W' (fun k=>k=R)):cH w W' p B X wd h seed P :=
 ⟨by rw[ht.block p (lBq H.blk) (by omega)];exact H.blk,H.aS.aside ht (by omega) (fun k hk e=>by have:=ho k hk;omega) (fun k e=>by omega),H.lo⟩
theorem ag1 (c r:Nat) (hc:c<6) (hr:r<=1000000000000000000) (W:World) (H:Hid (cH w W p B X wd h seed P)) (hb:P.pl c<=1000000) (h0:0<=P.pl c) :
  Calls Tryz.prog 111 #[Qc p,Qa c,Qa r] W fun e w'=>e=.returned (bu (Pl.order P c r))/\cH w w' p B X wd h seed (Pl.lp P c)/\dZ W w' p B X X:=by
 have e1:(r:Int).tmod 3=((r%3:Nat):Int):=by rw[Int.tmod_eq_emod_of_nonneg (by omega)];omega
 have e2:(r:Int).tdiv 3=((r/3:Nat):Int):=by rw[Int.tdiv_eq_ediv_of_nonneg (by omega)];omega
 have e3:((r/3:Nat):Int).tmod 2=((r/3%2:Nat):Int):=by rw[Int.tmod_eq_emod_of_nonneg (by omega)];omega
 have e4:(r:Int).tdiv 6=((r/6:Nat):Int):=by rw[Int.tdiv_eq_ediv_of_nonneg (by omega)];omega
 have e5:((r/6:Nat):Int).tmod 20=((r/6%20:Nat):Int):=by rw[Int.tmod_eq_emod_of_nonneg (by omega)];omega
 have e6:(r:Int).tdiv 120=((r/120:Nat):Int):=by rw[Int.tdiv_eq_ediv_of_nonneg (by omega)];omega
 have e7:((r/120:Nat):Int).tmod 9=((r/120%9:Nat):Int):=by rw[Int.tmod_eq_emod_of_nonneg (by omega)];omega
 have cF:Hid (bu (Pl.order P c r)=.agg #[.int .u8 111,Qa c,Qa 0,Qa ((r%3:Nat):Int),Qa ((r/3%2:Nat):Int),Qa (90+((r/6%20:Nat):Int)),Qa (1+((r/120%9:Nat):Int)),Qa (1000*(c:Int)+(P.pl c+1))]):=hDq (by
  unfold bu aT Pl.order;simp only[];push_cast;rfl)
 have k1:r%3<3:=Nat.mod_lt _ (by decide);have k2:r/3%2<2:=Nat.mod_lt _ (by decide);have k3:r/6%20<20:=Nat.mod_lt _ (by decide);have k4:r/120%9<9:=Nat.mod_lt _ (by decide);have b1:(0:Int)<=((r/3:Nat):Int)/\((r/3:Nat):Int)<=1000000000000000000:=by omega
 have b2:(0:Int)<=((r/6:Nat):Int)/\((r/6:Nat):Int)<=1000000000000000000:=by omega
 have b3:(0:Int)<=((r/120:Nat):Int)/\((r/120:Nat):Int)<=1000000000000000000:=by omega
 generalize r%3=a1 at *;generalize r/3%2=a2 at *;generalize r/6%20=a3 at *;generalize r/120%9=a4 at *;generalize ((r/3:Nat):Int)=q1 at *;generalize ((r/6:Nat):Int)=q2 at *;generalize ((r/120:Nat):Int)=q3 at *;have hci:(c:Int)<6:=by omega
 have HB1:Hid (Qd W (W.alloc (.cells #[.int .u8 0,Qa 0,Qa 0,Qa 0,Qa 0,Qa 0,Qa 0,Qa 0] 95))):=hDq ((bRq _ _).alloc (lRq _) _);have HZ1:Hid ((W.alloc (.cells #[.int .u8 0,Qa 0,Qa 0,Qa 0,Qa 0,Qa 0,Qa 0,Qa 0] 95)).heap[W.heap.size]?=some (.cells #[.int .u8 0,Qa 0,Qa 0,Qa 0,Qa 0,Qa 0,Qa 0,Qa 0] 95 (0,0))):=hDq (hNq _ _);have H1:=hDq (H.out.later HB1.out);go_enter Tryz.func111,Tryz.ntmps111
 go_wp2_with fail
 generalize W.alloc (.cells #[.int .u8 0,Qa 0,Qa 0,Qa 0,Qa 0,Qa 0,Qa 0,Qa 0] 95)=W1 at *;have c1:W1.cell? ⟨p,1+c*2+1,none⟩=some (Qa (P.pl c)):=by rw[H1.out.at];exact MS B P hc
 have y8:p<W1.heap.size:=lBq H1.out.blk;refine jT 12 (by kernel_rfl) (by kernel_rfl) ?_;simp only[List.take_succ_cons,List.take_zero,List.drop_succ_cons,List.drop_zero]
 repeat (first | go_big_quiet_step (fail) | quiet_step (fail))
 refine wpQuiet_nil ?_;intro _ hw';obtain⟨nq,hw''⟩:=hw';subst hw'';have H2:=hDq (H1.out.later (dL nq));have HB2:=hDq (HB1.out.trans ((dL nq).mono HB1.out.size));have HZ2:=hDq (dG (dL nq) HZ1.out);clear c1 y8 H1 HB1 HZ1;generalize W1.drewN nq=W2 at *;have Ca:W.heap.size≠p:=by have:=lBq H.out.blk;omega
 have HW0:Hid (w.heap.size<=W.heap.size/\(∀ k,dH B X k->k<W.heap.size)/\B.F<W.heap.size/\p<W.heap.size):=hDq ⟨H.out.aS.bG.size,fun k hk=>(H.out.aS.fj hk).2,lBq H.out.aS.fl.blk,lBq H.out.blk⟩;obtain⟨R,hR⟩:∃ R,W.heap.size=R:=⟨_,rfl⟩;have HRR:=hDq hR;rw[hR]at HZ2 Ca ⊢;have c2:W2.cell? ⟨p,1+c*2+1,none⟩=some (Qa (P.pl c)):=by rw[H2.out.at];exact MS B P hc
 have MU:W2.frozen? ⟨p,1+c*2+1,none⟩=false:=H2.out.free _;obtain⟨h3,hs3⟩:=H2.out.put (Q:=Pl.lp P c) (1+c*2+1) (Qa (P.pl c+1)) (agS B P hc _) rfl;have H3:=hDq h3;have mI:Hid ((W2.setCell ⟨p,1+c*2+1,none⟩ (Qa (P.pl c+1))).heap[R]?=some (.cells #[.int .u8 0,Qa 0,Qa 0,Qa 0,Qa 0,Qa 0,Qa 0,Qa 0] 95 (0,0))):=hDq (by
  rw[(aJ.setCell W2 p (1+c*2+1) (Qa (P.pl c+1))).block R (lBq HZ2.out) Ca];exact HZ2.out)
 have cK:=hDq ((dZ.of (bf.of_below HB2.out B X) p).trans hs3);clear h3 hs3 hR;have x3:(W2.setCell ⟨p,1+c*2+1,none⟩ (Qa (P.pl c+1))).cell? ⟨p,1+c*2+1,none⟩=some (Qa (P.pl c+1)):=by rw[H3.out.at];rw[MS B _ hc];unfold Pl.lp;simp[upd]
 have y0:(W2.setCell ⟨p,1+c*2+1,none⟩ (Qa (P.pl c+1))).cell? (Qb R 0)=some (.int .u8 0):=by rw[cR _ R 0 _ _ _ mI.out];rfl
 have y1:(W2.setCell ⟨p,1+c*2+1,none⟩ (Qa (P.pl c+1))).cell? (Qb R 1)=some (Qa 0):=by rw[cR _ R 1 _ _ _ mI.out];rfl
 have y2:(W2.setCell ⟨p,1+c*2+1,none⟩ (Qa (P.pl c+1))).cell? (Qb R 2)=some (Qa 0):=by rw[cR _ R 2 _ _ _ mI.out];rfl
 have y3:(W2.setCell ⟨p,1+c*2+1,none⟩ (Qa (P.pl c+1))).cell? (Qb R 3)=some (Qa 0):=by rw[cR _ R 3 _ _ _ mI.out];rfl
 have y4:(W2.setCell ⟨p,1+c*2+1,none⟩ (Qa (P.pl c+1))).cell? (Qb R 4)=some (Qa 0):=by rw[cR _ R 4 _ _ _ mI.out];rfl
 have Va:(W2.setCell ⟨p,1+c*2+1,none⟩ (Qa (P.pl c+1))).cell? (Qb R 5)=some (Qa 0):=by rw[cR _ R 5 _ _ _ mI.out];rfl
 have y6:(W2.setCell ⟨p,1+c*2+1,none⟩ (Qa (P.pl c+1))).cell? (Qb R 6)=some (Qa 0):=by rw[cR _ R 6 _ _ _ mI.out];rfl
 have Vb:(W2.setCell ⟨p,1+c*2+1,none⟩ (Qa (P.pl c+1))).cell? (Qb R 7)=some (Qa 0):=by rw[cR _ R 7 _ _ _ mI.out];rfl
 have nP:∀ j,(W2.setCell ⟨p,1+c*2+1,none⟩ (Qa (P.pl c+1))).frozen? (Qb R j)=false:=fun j=>by simp[World.frozen?,mI.out]
 have aoD:=nP 0;have aoE:=nP 1;have aoF:=nP 2;have aoG:=nP 3;have aoH:=nP 4;have aoI:=nP 5;have aoJ:=nP 6;have aoK:=nP 7;have HX:=hDq (agY mI.out (.int .u8 111) (Qa c) (Qa 0) (Qa a1) (Qa a2) (Qa (90+(a3:Int))) (Qa (1+(a4:Int))) (Qa (1000*(c:Int)+(P.pl c+1))));have b9:=hDq (agZ (W2.setCell ⟨p,1+c*2+1,none⟩ (Qa (P.pl c+1))) R (.int .u8 111) (Qa c) (Qa 0) (Qa a1) (Qa a2) (Qa (90+(a3:Int))) (Qa (1+(a4:Int))) (Qa (1000*(c:Int)+(P.pl c+1))));clear nP;go_wp2;generalize (((((((((W2.setCell ⟨p,1+c*2+1,none⟩ (Qa (P.pl c+1))).setCell (Qb R 0) (.int .u8 111)).setCell (Qb R 1) (Qa c)).setCell (Qb R 2) (Qa 0)).setCell (Qb R 3) (Qa a1)).setCell (Qb R 4) (Qa a2)).setCell (Qb R 5) (Qa (90+(a3:Int)))).setCell (Qb R 6) (Qa (1+(a4:Int)))).setCell (Qb R 7) (Qa (1000*(c:Int)+(P.pl c+1))))=W4 at *;have RR:∀ j,W4.cell? (Qb R j)=_:=fun j=>cR W4 _ j _ 95 _ HX.out;refine bodyPost_ret (v:=.agg #[.int .u8 111,Qa c,Qa 0,Qa a1,Qa a2,Qa (90+(a3:Int)),Qa (1+(a4:Int)),Qa (1000*(c:Int)+(P.pl c+1))]) (by simp[results,Tryz.results111,go_sem,RR]) rfl ?_;have ht:=aJ.ag0 b9.out;obtain⟨w0,w1,w2,w3⟩:=HW0.out;exact⟨by rw[cF.out],H3.out.aside w0 w1 w2 w3 HRR.out.symm ht,⟨cK.out.turned.trans ht (fun k hk=>.inr (by rw[hk,<- HRR.out];exact lRq _)),cK.out.new⟩⟩
end
namespace Pl
def ask (P:St) (c:Nat) (a:Ask):Ask:={ a with sq:=num P c a.k }
def iw (P:St) (c:Nat) (a:Ask):St:=if bg.ac (ask P c a)=0 then { iG P c a.k with v:=af.eN P.v c (af.bL (ask P c a)) } else iG P c a.k
def jI (P:St) (c:Nat) (a:Ask):List af.cy:=if bg.ac (ask P c a)=0 then af.gY P.v c (af.bL (ask P c a)) else []
end Pl
section
variable {w W W' W2:World} {ad:Nat->Addr} {p:Nat} {B:bP} {X X' X2:bX} {wd h seed:Int} {P:Pl.St}
theorem dZ.block {k:Nat} {cur:Array Value} {e:TypeId} {fz:Nat×Nat} (hs:dZ W W' p B X X') (hk:W.heap[k]?=some (.cells cur e fz)) (h1:k≠p) (h2:¬ dH B X k):W'.heap[k]?=some (.cells cur e fz):=by
 rw[hs.turned.block k (lBq hk) (fun e=>e.elim h1 h2)];exact hk
theorem ahb (c:Nat) (hc:c<6) (a:Ask) (hac:a.c=c) (W:World) (H:Hid (cH w W p B X wd h seed P)) (hs:Hid (bO w ad)) (hb:P.ar c<=1000000) (h0:0<=P.ar c) (qc:Hid (∀ c,c<6->(P.v.az c).size<30)) :
  Calls Tryz.prog 110 #[Qc p,bu a] W fun e w'=>∃ v X',e=.returned v/\cH w w' p B X' wd h seed (Pl.iw P c a)/\dZ W w' p B X X'/\iI w' W.heap.size v (Pl.jI P c a):=by
 have y9:=hDq (fun W' (h':cH w W' p B X wd h seed P)=>agT c hc a.k W' (hDq h') hb h0);have M4:=hDq (fun W'=>vU (c:Int) W');rw[show ah.aG (c:Int) 0 5=true by unfold ah.aG;simp;omega]at M4;have M5:=hDq (fun W' (h':bO W' ad)=>Rb a.k c (Pl.num P c a.k) a.it a.sd a.pr a.q a.id ad W' h');have Vk:(Pl.iG P c a.k).v=P.v:=rfl;have Vl:Hid (Pl.ask P c a=⟨a.k,c,Pl.num P c a.k,a.it,a.sd,a.pr,a.q,a.id⟩):=hDq (by unfold Pl.ask;rw[<- hac]);have oT:Hid (Pl.iw P c a=if bg.ac (Pl.ask P c a)=0 then { Pl.iG P c a.k with v:=af.eN P.v c (af.bL (Pl.ask P c a)) } else Pl.iG P c a.k):=hDq rfl;have jf:Hid (Pl.jI P c a=if bg.ac (Pl.ask P c a)=0 then af.gY P.v c (af.bL (Pl.ask P c a)) else []):=hDq rfl;generalize Pl.num P c a.k=N at *;generalize Pl.iG P c a.k=P1 at *;generalize Pl.iw P c a=ag5 at *;generalize Pl.jI P c a=aoN at *;have M6:=hDq Vk;rw[Vl.out]at oT jf;clear Vk Vl;obtain⟨aO,acl,aV,bl,asd,aK,aq,aF⟩:=a;simp only[]at hac y9 M5 oT jf;subst hac;unfold bu aT;have HB1:Hid (Qd W (W.alloc (.cells #[.int .u8 aO,Qa c,Qa aV,Qa bl,Qa asd,Qa aK,Qa aq,Qa aF] 95))):=hDq ((bRq _ _).alloc (lRq _) _);have HZ1:Hid ((W.alloc (.cells #[.int .u8 aO,Qa c,Qa aV,Qa bl,Qa asd,Qa aK,Qa aq,Qa aF] 95)).heap[W.heap.size]?=some (.cells #[.int .u8 aO,Qa c,Qa aV,Qa bl,Qa asd,Qa aK,Qa aq,Qa aF] 95 (0,0))):=hDq (hNq _ _);have H1:=hDq (H.out.later HB1.out);have HW0:Hid (w.heap.size<=W.heap.size/\(∀ k,dH B X k->k<W.heap.size)/\B.F<W.heap.size/\p<W.heap.size):=hDq ⟨H.out.aS.bG.size,fun k hk=>(H.out.aS.fj hk).2,lBq H.out.aS.fl.blk,lBq H.out.blk⟩;go_enter Tryz.func110,Tryz.ntmps110
 go_wp2_with fail
 refine(M4.out _).mono ?_;rintro e w1 ⟨rfl,dz⟩;subst dz;generalize W.alloc (.cells #[.int .u8 aO,Qa c,Qa aV,Qa bl,Qa asd,Qa aK,Qa aq,Qa aF] 95)=W1 at *;obtain⟨R,hR⟩:∃ R,W.heap.size=R:=⟨_,rfl⟩;have HRR:=hDq hR;rw[hR]at HZ1 ⊢;have z0:W1.cell? (Qb R 0)=some (.int .u8 aO):=by rw[cR _ R 0 _ _ _ HZ1.out];rfl
 have dw:W1.cell? (Qb R 1)=some (Qa c):=by rw[cR _ R 1 _ _ _ HZ1.out];rfl
 clear hR;simp only[]
 go_wp2_with fail
 refine(y9.out _ H1.out).mono ?_;rintro e w2 ⟨rfl,h2,hs2⟩;obtain⟨w0,Vm,ahc,ahd⟩:=HW0.out;have Ca:R≠p:=by rw[<- HRR.out];omega
 have Vn:¬ dH B X R:=fun hk=>by have:=Vm R hk;rw[HRR.out]at this;omega
 have HZ2:=hDq (hs2.block HZ1.out Ca Vn);have H2:=hDq h2;have HS2:=hDq ((dZ.of (bf.of_below HB1.out B X) p).trans hs2);have y0:w2.cell? (Qb R 0)=some (.int .u8 aO):=by rw[cR _ R 0 _ _ _ HZ2.out];rfl
 have y1:w2.cell? (Qb R 1)=some (Qa c):=by rw[cR _ R 1 _ _ _ HZ2.out];rfl
 have y2:w2.cell? (Qb R 2)=some (Qa aV):=by rw[cR _ R 2 _ _ _ HZ2.out];rfl
 have y3:w2.cell? (Qb R 3)=some (Qa bl):=by rw[cR _ R 3 _ _ _ HZ2.out];rfl
 have y4:w2.cell? (Qb R 4)=some (Qa asd):=by rw[cR _ R 4 _ _ _ HZ2.out];rfl
 have Va:w2.cell? (Qb R 5)=some (Qa aK):=by rw[cR _ R 5 _ _ _ HZ2.out];rfl
 have y6:w2.cell? (Qb R 6)=some (Qa aq):=by rw[cR _ R 6 _ _ _ HZ2.out];rfl
 have Vb:w2.cell? (Qb R 7)=some (Qa aF):=by rw[cR _ R 7 _ _ _ HZ2.out];rfl
 have nP:w2.frozen? (Qb R 2)=false:=by simp[World.frozen?,HZ2.out]
 have mI:Hid ((w2.setCell (Qb R 2) (Qa N)).heap[R]?=some (.cells #[.int .u8 aO,Qa c,Qa N,Qa bl,Qa asd,Qa aK,Qa aq,Qa aF] 95 (0,0))):=hDq (block_setCell HZ2.out 2 (Qa N));have HT3:Hid (aJ w2 (w2.setCell (Qb R 2) (Qa N)) (fun k=>k=R)):=hDq (aJ.setCell _ _ _ _);have H3:=hDq (H2.out.aside w0 Vm ahc ahd HRR.out.symm HT3.out);have cK:Hid (dZ W (w2.setCell (Qb R 2) (Qa N)) p B X X):=hDq ⟨HS2.out.turned.trans HT3.out (fun k hk=>.inr (by rw[hk,<- HRR.out];exact lRq _)),HS2.out.new⟩;clear h2 hs2 z0 dw H1 HB1 HZ1 y9 M4;simp only[]
 go_wp2_with fail
 generalize w2.setCell (Qb R 2) (Qa N)=W3 at *;have ahe:=hDq (hs.out.later H3.out.aS.bG);refine(M5.out _ ahe.out).mono ?_;rintro e w4 ⟨rfl,hb4⟩;have ee:=hDq (H3.out.later hb4);have Vo:=hDq (dG hb4 mI.out);have cq:=hDq (cK.out.below hb4);clear hb4 H3 mI cK HT3 M5 y0 y1 y2 y3 y4 Va y6 Vb nP HZ2 H2 HS2;by_cases hcd:ah.code aO c N bl asd aK aq aF=0
 .have GK:bg.ac ⟨aO,c,N,bl,asd,aK,aq,aF⟩=0:=hcd
  rw[if_pos GK]at oT jf;have Vp:af.bL ⟨aO,c,N,bl,asd,aK,aq,aF⟩=nh aO c N bl asd aK aq aF:=rfl;rw[Vp]at oT jf;have Vq:(nh aO c N bl asd aK aq aF).size=30:=by unfold nh;rw[if_pos hcd,strOfNums_size,ah.BA]
  rw[hcd,show gy ad 0=.nilIface from rfl];generalize nh aO c N bl asd aK aq aF=fb at *;have mo:=hDq (fun W' (h':aD w W' B X wd h seed P1.v)=>ahf (c:Int) fb W' h' hs.out (fun k hk=>by rw[M6.out,ByteArray.size_append,Vq];have:=qc.out k hk;omega));obtain⟨bH,val,hcl,aP⟩:=lg (fun W'=>W'.heap[p]?=some (.cells (lV B P1) 148 (0,0))/\W'.heap[R]?=some (.cells #[.int .u8 aO,Qa c,Qa N,Qa bl,Qa asd,Qa aK,Qa aq,Qa aF] 95 (0,0)));obtain⟨x0,hx0⟩:=aP w4.drew ⟨ee.out.blk,Vo.out⟩;have hnx:Nonempty bH:=⟨x0⟩;have s0:∀ x,(val x).cell? (Qb p 0)=some (Qc B.V):=fun x=>by rw[cR _ _ 0 _ _ _ (hcl x).1];rfl
  have s1:∀ x,(val x).cell? (Qb R 1)=some (Qa c):=fun x=>by rw[cR _ _ 1 _ _ _ (hcl x).2];rfl
  have aR:=hDq aP;obtain⟨xe,hw4⟩:∃ xe,w4.drew=xe:=⟨_,rfl⟩;have cJ:Hid (Qd w4 xe):=by rw[<- hw4];exact eO
  have Vr:=hDq (ee.out.later cJ.out);have Vs:=hDq (dG cJ.out Vo.out);have ahg:=hDq (cq.out.below cJ.out);clear aP hcl Vp GK;simp only[]
  go_wp2_with fail
  refine sJ (val:=val) [7] [0,1,2,3,4,5,6,7,8] (by kernel_rfl) (by kernel_rfl) x0 hx0 ?_;rw[hx0,hw4];clear hx0 hw4
  iterate 7 (refine jG rfl rfl (fun K hK=>?_);refine⟨by rfl,?_⟩;unfold aB;go_simp;refine hK _ ?_;clear hK K)
  refine lT rfl rfl (fun K hK=>?_);refine⟨by rfl,?_⟩;unfold aQ;go_simp;refine(mo.out _ Vr.out.aS).mono ?_;rintro e aC ⟨v5,qb,rfl,fG,Vt,hs5⟩;have jZ:=hDq (Vr.out.act Vt hs5);have ahh:=hDq ((dZ.of hs5 p).block Vs.out Ca Vn);have d_:=hDq (ahg.out.trans (dZ.of hs5 p));have bA:=hDq (gP fG (lTq (Nat.le_of_eq HRR.out) (Nat.le_of_lt (lBq Vs.out))));refine⟨_,rfl,aR.out _ ⟨jZ.out.blk,ahh.out⟩,hK _ _ ?_⟩;clear hK K fG Vt hs5 mo aR s0 s1;refine jG rfl rfl (fun K hK=>?_);refine⟨by rfl,?_⟩;unfold aB;go_simp;refine hK _ ?_;clear hK K;refine qW ?_;clear x0 hnx;clear val;clear bH;go_wp2;go_ret;refine⟨_,qb,rfl,?_,d_.out,?_⟩
  .rw[oT.out,<- M6.out];exact jZ.out
  .rw[jf.out,<- M6.out];exact bA.out
 .have GK:¬ bg.ac ⟨aO,c,N,bl,asd,aK,aq,aF⟩=0:=hcd
  rw[if_neg GK]at oT jf;rw[vX ad hcd];simp only[];go_wp2;go_ret;exact⟨_,X,rfl,by rw[oT.out];exact ee.out,cq.out,by rw[jf.out];exact World.ownsRow_nil _ _ _ _⟩
end
end
namespace Pl
variable {wd h seed:Int} {P:St} {N:Nat}
theorem UY (S:af.St) (n:Nat) (b:ByteArray):∀ k,(af.fR S n b k).length<=k
 | 0=>lRq _
 | k+1=>by
  have h1:=UY S n b k;have h2:(af.lW (af.cZ S n b k) n (fr b k)).length<=1:=by
   unfold af.lW;split
   .split
    .split <;> simp
    .simp
   .simp
  rw[af.fR,lAq];omega
theorem agI {a:Ask} (ha:bg.ac a=0):(af.bL a).size=30:=by
 have hc:ah.code a.k a.c a.sq a.it a.sd a.pr a.q a.id=0:=ha;unfold af.bL nh;rw[if_pos hc,strOfNums_size,ah.BA]
theorem B3 (qc:∀ c,c<6->(P.v.az c).size<30) {c:Nat} (hc:c<6) (a:Ask):(jI P c a).length<=2900:=by
 unfold jI;split
 .rename_i ha
  unfold af.gY;split
  .exact Nat.zero_le _
  .rw[show ((c:Int)).toNat=c by omega]
   have h1:=UY (af.gp P.v c (P.v.az c++af.bL (ask P c a))) c (P.v.az c++af.bL (ask P c a)) ((P.v.az c++af.bL (ask P c a)).size/30);have h2:=qc c hc;have h3:=agI ha;rw[ByteArray.size_append,h3]at h1 ⊢;omega
 .exact Nat.zero_le _
theorem B5 (hok:af.Ok N wd h P.v) (c:Nat) (a:Ask):af.Ok (N+1) wd h (iw P c a).v:=by
 unfold iw;split
 .exact MO (agJ hok _ _) (Nat.le_succ _)
 .exact MO hok (Nat.le_succ _)
theorem UZ (P:St) (c:Nat) (a:Ask):(iw P c a).ar=(iG P c a.k).ar/\(iw P c a).pl=P.pl:=by
 unfold iw;split <;> exact⟨rfl,rfl⟩
theorem U0 (hf:gW N P) {c:Nat} (hc:c<6) (k:Int):∀ d,d<6->1<=(iG P c k).ar d/\(iG P c k).ar d<=((N+1:Nat):Int)+1:=fun d hd=>by
 have h1:=hf.ar d hd;have h2:=hf.ar c hc;unfold iG num upd;simp only[];split
 .split
  .omega
  .split <;> omega
 .omega
end Pl
section
open Go.RowKit
namespace Pl
def word (k:Int) (c:Nat):Ask:=⟨k,c,0,0,0,0,0,0⟩
noncomputable def Ce (wd h seed:Int) (P:St):St:={ P with v:=af.ei wd h seed P.v }
noncomputable def iQ (wd h seed:Int) (P:St) (c dV r:Nat):St :=
 if dV=0 then iw P c (word 108 c) else if dV=1 then iw P c (word 104 c) else if dV<=6 then iw (lp P c) c (order P c r)
 else if dV=7 then iw P c (cancel c r) else if dV=9/\r%7=0 then iw P c (word 113 c) else Ce wd h seed P
noncomputable def jJ (wd h seed:Int) (P:St) (c dV r:Nat):List af.cy :=
 if dV=0 then jI P c (word 108 c) else if dV=1 then jI P c (word 104 c) else if dV<=6 then jI (lp P c) c (order P c r)
 else if dV=7 then jI P c (cancel c r) else if dV=9/\r%7=0 then jI P c (word 113 c) else af.nR wd h seed P.v
end Pl
section
variable {w W W' W2:World} {ad:Nat->Addr} {p:Nat} {B:bP} {X X' X2:bX} {wd h seed:Int} {P:Pl.St}
def ahk (w W w':World) (e:Ending) (p:Nat) (B:bP) (X:bX) (wd h seed:Int) (N:Nat) (R:List af.cy) (Q:Pl.St):Prop :=
 ∃ v X',e=.returned v/\cH w w' p B X' wd h seed Q/\dZ W w' p B X X'/\iI w' W.heap.size v R/\af.Ok (N+1) wd h Q.v/\R.length<=2900
theorem ag7 (c dV r:Nat) (hc:c<6) (UU:dV<10) (hr:r<=1000000000000000000) (W:World) (H:Hid (cH w W p B X wd h seed P)) (hs:Hid (bO w ad)) (ht:Hid (Lib.TabBelow Tryz.prog w.heap.size w "internal/strconv.uint64pow10" .u64 Lib.pow10Tab)) {N:Nat} (hok:Hid (af.Ok N wd h P.v)) (hf:Hid (Pl.gW N P)) (hN:N<=100000) :
  Calls Tryz.prog 65 #[Qc p,Qa c,Qa dV,Qa r] W fun e w'=>ahk w W w' e p B X wd h seed N (Pl.jJ wd h seed P c dV r) (Pl.iQ wd h seed P c dV r):=by
 have hnx:=hf.out.ar c hc;have hpl:=hf.out.pl c hc;have oV:=hDq (fun (Q:Pl.St) (a:Ask) (ha:a.c=c) W' (h':cH w W' p B X wd h seed Q) (hq:Q.ar c=P.ar c) (hl:Q.v=P.v)=>ahb c hc a ha W' (hDq h') hs (by rw[hq];omega) (by rw[hq];omega) (hDq (by rw[hl];exact hok.out.az)));have xg:=hDq (fun W'=>agU c r hc hr W');have uQ:=hDq (ag1 c r hc hr W H (by omega) (by omega));have j3:=hDq (ahl W H.out.aS hs.out ht.out hok.out (by omega));have rW:(r:Int).tmod 7=((r%7:Nat):Int):=by rw[Int.tmod_eq_emod_of_nonneg (by omega)];omega
 have ahm:dV=0\/dV=1\/(2<=dV/\dV<=6)\/dV=7\/dV=8\/dV=9:=by omega
 have hci:(c:Int)<6:=by omega
 rcases ahm with rfl | rfl | ⟨h2,h6⟩ | rfl | rfl | rfl
 .have HST:Hid (Pl.iw P c (Pl.word 108 c)=Pl.iQ wd h seed P c 0 r):=hDq (by unfold Pl.iQ;rw[if_pos rfl])
  have ij:Hid (Pl.jI P c (Pl.word 108 c)=Pl.jJ wd h seed P c 0 r):=hDq (by unfold Pl.jJ;rw[if_pos rfl]);have nS:=hDq (Pl.B5 hok.out c (Pl.word 108 c));have nT:=hDq (Pl.B3 hok.out.az hc (Pl.word 108 c));have ft:=hDq (oV.out P (Pl.word 108 c) rfl W H.out rfl rfl);unfold bu aT Pl.word at ft;simp only[]at ft;clear oV xg uQ j3;go_enter Tryz.func65,Tryz.ntmps65
  go_wp2_with fail
  refine ft.out.mono ?_;rintro e w1 ⟨v,X1,rfl,h1,hs1,hr1⟩;have H1:=hDq h1;have dB:=hDq hs1;have HR1:=hDq hr1;clear h1 hs1 hr1 ft;simp only[];go_wp2;go_ret;exact⟨_,X1,rfl,HST.out▸H1.out,dB.out,ij.out▸HR1.out,HST.out▸nS.out,ij.out▸nT.out⟩
 .have HST:Hid (Pl.iw P c (Pl.word 104 c)=Pl.iQ wd h seed P c 1 r):=hDq (by unfold Pl.iQ;rw[if_neg (by decide),if_pos rfl])
  have ij:Hid (Pl.jI P c (Pl.word 104 c)=Pl.jJ wd h seed P c 1 r):=hDq (by unfold Pl.jJ;rw[if_neg (by decide),if_pos rfl]);have nS:=hDq (Pl.B5 hok.out c (Pl.word 104 c));have nT:=hDq (Pl.B3 hok.out.az hc (Pl.word 104 c));have ft:=hDq (oV.out P (Pl.word 104 c) rfl W H.out rfl rfl);unfold bu aT Pl.word at ft;simp only[]at ft;clear oV xg uQ j3;go_enter Tryz.func65,Tryz.ntmps65
  go_wp2_with fail
  refine ft.out.mono ?_;rintro e w1 ⟨v,X1,rfl,h1,hs1,hr1⟩;have H1:=hDq h1;have dB:=hDq hs1;have HR1:=hDq hr1;clear h1 hs1 hr1 ft;simp only[];go_wp2;go_ret;exact⟨_,X1,rfl,HST.out▸H1.out,dB.out,ij.out▸HR1.out,HST.out▸nS.out,ij.out▸nT.out⟩
 .have HST:Hid (Pl.iw (Pl.lp P c) c (Pl.order P c r)=Pl.iQ wd h seed P c dV r):=hDq (by unfold Pl.iQ;rw[if_neg (by omega),if_neg (by omega),if_pos h6])
  have ij:Hid (Pl.jI (Pl.lp P c) c (Pl.order P c r)=Pl.jJ wd h seed P c dV r):=hDq (by unfold Pl.jJ;rw[if_neg (by omega),if_neg (by omega),if_pos h6]);have nS:=hDq (Pl.B5 (P:=Pl.lp P c) hok.out c (Pl.order P c r));have nT:=hDq (Pl.B3 (P:=Pl.lp P c) hok.out.az hc (Pl.order P c r));have ft:=hDq (fun W' h'=>oV.out (Pl.lp P c) (Pl.order P c r) rfl W' h' rfl rfl);generalize bu (Pl.order P c r)=Vy at *;clear oV xg j3;have hw:dV=2\/dV=3\/dV=4\/dV=5\/dV=6:=by omega
  clear h2 h6 UU;rcases hw with rfl | rfl | rfl | rfl | rfl
  all_goals
   go_enter Tryz.func65,Tryz.ntmps65
   go_wp2_with fail
   refine uQ.out.mono ?_;rintro e w0 ⟨rfl,h0,hs0⟩;have Cf:=hDq hs0;have Cg:=hDq (ft.out _ h0);clear h0 hs0 uQ;simp only[]
   go_wp2_with fail
   refine Cg.out.mono ?_;rintro e w1 ⟨v,X1,rfl,h1,hs1,hr1⟩;have H1:=hDq h1;have dB:=hDq (Cf.out.trans hs1);have HR1:=hDq (gP hr1 Cf.out.turned.size);clear h1 hs1 hr1 Cg;simp only[];go_wp2;go_ret;exact⟨_,X1,rfl,HST.out▸H1.out,dB.out,ij.out▸HR1.out,HST.out▸nS.out,ij.out▸nT.out⟩
 .have HST:Hid (Pl.iw P c (Pl.cancel c r)=Pl.iQ wd h seed P c 7 r):=hDq (by unfold Pl.iQ;rw[if_neg (by decide),if_neg (by decide),if_neg (by decide),if_pos rfl])
  have ij:Hid (Pl.jI P c (Pl.cancel c r)=Pl.jJ wd h seed P c 7 r):=hDq (by unfold Pl.jJ;rw[if_neg (by decide),if_neg (by decide),if_neg (by decide),if_pos rfl]);have nS:=hDq (Pl.B5 hok.out c (Pl.cancel c r));have nT:=hDq (Pl.B3 hok.out.az hc (Pl.cancel c r));have ft:=hDq (fun W' h'=>oV.out P (Pl.cancel c r) rfl W' h' rfl rfl);generalize bu (Pl.cancel c r)=Vy at *;clear oV uQ j3;go_enter Tryz.func65,Tryz.ntmps65
  go_wp2_with fail
  refine(xg.out _).mono ?_;rintro e w0 ⟨rfl,hb0⟩;have Cf:=hDq ((dZ.refl W p B X).below hb0);have Cg:=hDq (ft.out _ (H.out.later hb0));clear hb0;simp only[]
  go_wp2_with fail
  refine Cg.out.mono ?_;rintro e w1 ⟨v,X1,rfl,h1,hs1,hr1⟩;have H1:=hDq h1;have dB:=hDq (Cf.out.trans hs1);have HR1:=hDq (gP hr1 Cf.out.turned.size);clear h1 hs1 hr1 Cg;simp only[];go_wp2;go_ret;exact⟨_,X1,rfl,HST.out▸H1.out,dB.out,ij.out▸HR1.out,HST.out▸nS.out,ij.out▸nT.out⟩
 .have HST:Hid (Pl.Ce wd h seed P=Pl.iQ wd h seed P c 8 r):=hDq (by unfold Pl.iQ;rw[if_neg (by decide),if_neg (by decide),if_neg (by decide),if_neg (by decide),if_neg (fun e=>absurd e.1 (by decide))])
  have ij:Hid (af.nR wd h seed P.v=Pl.jJ wd h seed P c 8 r):=hDq (by unfold Pl.jJ;rw[if_neg (by decide),if_neg (by decide),if_neg (by decide),if_neg (by decide),if_neg (fun e=>absurd e.1 (by decide))]);have cv:W.cell? (Qb p 0)=some (Qc B.V):=H.out.at 0;have xh:=hDq (fun W' X' (hv:aD w W' B X' wd h seed (af.ei wd h seed P.v)) (hs:bf W W' B X X')=>H.out.act hv hs);clear oV xg uQ;go_enter Tryz.func65,Tryz.ntmps65
  go_wp2_with fail
  refine j3.out.mono ?_;rintro e w1 ⟨v,X1,rfl,h1,hs1,hr1,xj,hl1,_⟩;have nS:Hid (af.Ok (N+1) wd h (Pl.Ce wd h seed P).v):=hDq xj;have nT:=hDq hl1;clear xj hl1;have H1:=hDq (xh.out _ _ h1 hs1);have dB:=hDq (dZ.of hs1 p);have HR1:=hDq hr1;clear h1 hs1 hr1 j3 xh;simp only[];go_wp2;go_ret;exact⟨_,X1,rfl,HST.out▸H1.out,dB.out,ij.out▸HR1.out,HST.out▸nS.out,ij.out▸nT.out⟩
 .by_cases h7:r%7=0
  .have ahn:(((r%7:Nat):Int)==0)=true:=by simp;omega
   have HST:Hid (Pl.iw P c (Pl.word 113 c)=Pl.iQ wd h seed P c 9 r):=hDq (by unfold Pl.iQ;rw[if_neg (by decide),if_neg (by decide),if_neg (by decide),if_neg (by decide),if_pos ⟨rfl,h7⟩]);have ij:Hid (Pl.jI P c (Pl.word 113 c)=Pl.jJ wd h seed P c 9 r):=hDq (by unfold Pl.jJ;rw[if_neg (by decide),if_neg (by decide),if_neg (by decide),if_neg (by decide),if_pos ⟨rfl,h7⟩]);generalize ((r%7:Nat):Int)=aho at *;clear h7;have nS:=hDq (Pl.B5 hok.out c (Pl.word 113 c));have nT:=hDq (Pl.B3 hok.out.az hc (Pl.word 113 c));have ft:=hDq (oV.out P (Pl.word 113 c) rfl W H.out rfl rfl);unfold bu aT Pl.word at ft;simp only[]at ft;clear oV xg uQ j3;go_enter Tryz.func65,Tryz.ntmps65
   go_wp2_with fail
   refine ft.out.mono ?_;rintro e w1 ⟨v,X1,rfl,h1,hs1,hr1⟩;have H1:=hDq h1;have dB:=hDq hs1;have HR1:=hDq hr1;clear h1 hs1 hr1 ft;simp only[];go_wp2;go_ret;exact⟨_,X1,rfl,HST.out▸H1.out,dB.out,ij.out▸HR1.out,HST.out▸nS.out,ij.out▸nT.out⟩
  .have ahn:(((r%7:Nat):Int)==0)=false:=by simp;omega
   have HST:Hid (Pl.Ce wd h seed P=Pl.iQ wd h seed P c 9 r):=hDq (by unfold Pl.iQ;rw[if_neg (by decide),if_neg (by decide),if_neg (by decide),if_neg (by decide),if_neg (fun e=>h7 e.2)]);have ij:Hid (af.nR wd h seed P.v=Pl.jJ wd h seed P c 9 r):=hDq (by unfold Pl.jJ;rw[if_neg (by decide),if_neg (by decide),if_neg (by decide),if_neg (by decide),if_neg (fun e=>h7 e.2)]);generalize ((r%7:Nat):Int)=aho at *;clear h7;have cv:W.cell? (Qb p 0)=some (Qc B.V):=H.out.at 0;have xh:=hDq (fun W' X' (hv:aD w W' B X' wd h seed (af.ei wd h seed P.v)) (hs:bf W W' B X X')=>H.out.act hv hs);clear oV xg uQ;go_enter Tryz.func65,Tryz.ntmps65
   go_wp2_with fail
   refine j3.out.mono ?_;rintro e w1 ⟨v,X1,rfl,h1,hs1,hr1,xj,hl1,_⟩;have nS:Hid (af.Ok (N+1) wd h (Pl.Ce wd h seed P).v):=hDq xj;have nT:=hDq hl1;clear xj hl1;have H1:=hDq (xh.out _ _ h1 hs1);have dB:=hDq (dZ.of hs1 p);have HR1:=hDq hr1;clear h1 hs1 hr1 j3 xh;simp only[];go_wp2;go_ret;exact⟨_,X1,rfl,HST.out▸H1.out,dB.out,ij.out▸HR1.out,HST.out▸nS.out,ij.out▸nT.out⟩
end
end
namespace Pl
variable {wd h seed:Int} {P:St} {N:Nat}
theorem agK (hf:gW N P) {c:Nat} (hc:c<6) (dV r:Nat):gW (N+1) (iQ wd h seed P c dV r):=by
 have plain:∀ a,gW (N+1) (iw P c a):=fun a=>by
  obtain⟨e1,e2⟩:=UZ P c a;exact⟨fun d hd=>by rw[e1];exact U0 hf hc _ d hd,fun d hd=>by rw[e2];have:=hf.pl d hd;omega⟩
 unfold iQ;split
 .exact plain _
 .split
  .exact plain _
  .split
   .obtain⟨e1,e2⟩:=UZ (lp P c) c (order P c r)
    have hf':∀ k,∀ d,d<6->1<=(iG (lp P c) c k).ar d/\(iG (lp P c) c k).ar d<=((N+1:Nat):Int)+1:=fun k d hd=>U0 (P:=P) hf hc k d hd;refine⟨fun d hd=>by rw[e1];exact hf' _ d hd,fun d hd=>?_⟩;rw[e2];have h1:=hf.pl d hd;have h2:=hf.pl c hc;unfold lp upd;simp only[];split <;> omega
   .split
    .exact plain _
    .split
     .exact plain _
     .exact⟨fun d hd=>by have:=hf.ar d hd;show 1<=P.ar d/\P.ar d<=_;omega,fun d hd=>by have:=hf.pl d hd;show 0<=P.pl d/\P.pl d<=_;omega⟩
noncomputable def one (wd h seed:Int) (P:St) (x:Int):St:=if x<0 then P else iQ wd h seed P (x.toNat%6) (x.toNat/6%10) (x.toNat/6/10)
noncomputable def sL (wd h seed:Int) (P:St) (x:Int):List af.cy:=if x<0 then [] else jJ wd h seed P (x.toNat%6) (x.toNat/6%10) (x.toNat/6/10)
noncomputable def jH (wd h seed:Int) (P:St) (f:Nat->Int):Nat->St
 | 0=>P
 | k+1=>one wd h seed (jH wd h seed P f k) (f k)
noncomputable def nM (wd h seed:Int) (P:St) (f:Nat->Int):Nat->List af.cy
 | 0=>[]
 | k+1=>nM wd h seed P f k++sL wd h seed (jH wd h seed P f k) (f k)
end Pl
section
open Go.RowKit
section
variable {w W W' W2:World} {ad:Nat->Addr} {p:Nat} {B:bP} {X X' X2:bX} {wd h seed:Int} {P:Pl.St}
def fQ (l:List Int):List Value:=l.map fun x=>Qa x
theorem U_ {W:World} {base:Nat} {a:Option Addr} {n c:Nat} {l:List Int} (h:W.ownsRow base 3 1 (.slice a n c) l.length (fQ l)) {i:Nat} {d:Int} (hi:l[i]?=some d):∃ g,a=some (Qb g 0)/\W.cell? (Qb g i)=some (Qa d):=by
 have hlt:=(List.getElem?_eq_some_iff.1 hi).1;rcases h.2 with ⟨_,e⟩ | ⟨g,cap,cur,e,_,hg,_,_,_,ht⟩
 .omega
 .cases e
  refine⟨g,rfl,?_⟩;rw[cR W g i _ _ _ hg,<- Array.getElem?_toList];have h2:=congrArg (·[i]?) ht;simp only[fQ,List.getElem?_map,hi,Option.map_some]at h2;rw[List.getElem?_take_of_lt (by omega)]at h2;exact h2
theorem dZ.row {base:Nat} {e:TypeId} {s n:Nat} {v:Value} {xs:List Value} (hs:dZ W W' p B X X') (H:cH w W p B X wd h seed P) (hr:W.ownsRow base e s v n xs) (he:e≠114/\e≠213/\e≠267/\e≠276/\e≠197/\e≠232/\e≠95/\e≠117/\e≠5) (hp:e≠148):W'.ownsRow base e s v n xs:=by
 refine eM hr hs.turned (fun k hk=>?_);obtain⟨_,cur,h2⟩:=cP hr hk;rintro (rfl | hv)
 .exact aI h2 H.blk hp rfl
 .exact uO H.aS h2 he hv
theorem cH.grown {base n:Nat} {v:Value} {xs:List Value} (H:cH w W p B X wd h seed P) (hr:W.ownsRow base 121 6 v n xs) (hb:w.heap.size<=base) (hg:W.grownBy W' v.ownBlock):cH w W' p B X wd h seed P :=
 ⟨by
  rw[hg.block p (lBq H.blk) (fun e=>?_)]
  .exact H.blk
  .obtain⟨_,cur,h2⟩:=cP hr e.symm
   exact aI h2 H.blk (by decide) rfl,H.aS.grown hr (by decide) (by decide) hb hg,H.lo⟩
theorem dZ.grown {base n:Nat} {v:Value} {xs:List Value} (hs:dZ W W' p B X X') (hr:W'.ownsRow base 121 6 v n xs) (hb:W.heap.size<=base) (hg:W'.grownBy W2 v.ownBlock):dZ W W2 p B X X' :=
 ⟨hs.turned.trans (aJ.iM hg) (fun _ hk=>.inr (lTq hb ((cP hr hk.symm).1))),hs.new⟩
theorem MD (a:Option Addr) (m cap:Nat) (l:List Int) (bG:Nat) (W:World) (H:Hid (cH w W p B X wd h seed P)) (hs:Hid (bO w ad)) (ht:Hid (Lib.TabBelow Tryz.prog w.heap.size w "internal/strconv.uint64pow10" .u64 Lib.pow10Tab)) (hl:Hid (l.length=m)) (hrow:Hid (W.ownsRow bG 3 1 (.slice a m cap) l.length (fQ l))) (Vg:Hid (∀ x∈l,x<=9223372036854775807)) {N:Nat} (hok:Hid (af.Ok N wd h P.v)) (hf:Hid (Pl.gW N P)) (hN:N<=1000) (hm:m<=130) :
  Calls Tryz.prog 29 #[Qc p,.slice a m cap] W fun e w'=>∃ v X',e=.returned v/\cH w w' p B X' wd h seed (Pl.jH wd h seed P (fun i=>l.getD i 0) m)/\dZ W w' p B X X'/\iI w' W.heap.size v (Pl.nM wd h seed P (fun i=>l.getD i 0) m)/\af.Ok (N+m) wd h (Pl.jH wd h seed P (fun i=>l.getD i 0) m).v/\Pl.gW (N+m) (Pl.jH wd h seed P (fun i=>l.getD i 0) m)/\(Pl.nM wd h seed P (fun i=>l.getD i 0) m).length<=2900*m:=by
 have hmm:(if (m:Int)<2000 then (m:Int) else 2000)=m:=by rw[if_pos (by omega)]
 have hcap:=hrow.out;rw[hl.out]at hcap;have afI:m<=cap:=by
  rcases hcap.2 with ⟨e,e0⟩ | ⟨g,c2,cur,e,_,_,h4,_⟩
  .omega
  .cases e;exact h4
 clear hcap;generalize Vh:(fun i=>l.getD i 0)=f at *;have mo:Hid (∀ i x,l[i]?=some x->f i=x):=hDq fun i x hx=>by rw[<- Vh];simp[List.getD_eq_getElem?_getD,hx]
 clear Vh;go_enter Tryz.func29,Tryz.ntmps29
 go_wp2_with fail
 go_loopw [5,15] (fun rv kv wr=>∃ (k:Nat) (X':bX),k<=m/\kv=Qa k/\cH w wr p B X' wd h seed (Pl.jH wd h seed P f k)/\dZ W wr p B X X'/\iI wr W.heap.size rv (Pl.nM wd h seed P f k)/\af.Ok (N+k) wd h (Pl.jH wd h seed P f k).v/\Pl.gW (N+k) (Pl.jH wd h seed P f k)/\(Pl.nM wd h seed P f k).length<=2900*k/\wr.ownsRow bG 3 1 (.slice a m cap) l.length (fQ l)) (fun _ kv _=>m-(intOf kv).toNat)
 case atStart=>exact⟨0,X,Nat.zero_le _,rfl,H.out,dZ.refl _ _ _ _,World.ownsRow_nil _ _ _ _,hok.out,hf.out,lRq _,hrow.out⟩
 case round =>
  obtain⟨k,X',hk,rfl,hp,hst,nQ,Vi,r8,hlk,hrw⟩:=hrel;have HP:=hDq hp;have HST:=hDq hst;have q8:=hDq nQ;have gI:=hDq Vi;have oA:=hDq r8;have HRW:=hDq hrw;clear hp hst nQ Vi r8 hrw;by_cases hlt:k<m
  .have aX:(k:Int)<m:=by omega
   obtain⟨x,hx⟩:∃ x,l[k]?=some x:=⟨_,List.getElem?_eq_getElem (by rw[hl.out];exact hlt)⟩;obtain⟨g,hg,hc⟩:=U_ HRW.out hx;have mb:=Vg.out x (List.mem_of_getElem? hx);have MW:=mo.out k x hx;have gB:Hid (Pl.jH wd h seed P f (k+1)=Pl.one wd h seed (Pl.jH wd h seed P f k) x):=hDq (by show Pl.one _ _ _ _ (f k)=_;rw[MW]);have HRR:Hid (Pl.nM wd h seed P f (k+1)=Pl.nM wd h seed P f k++Pl.sL wd h seed (Pl.jH wd h seed P f k) x):=hDq (by show _++Pl.sL _ _ _ _ (f k)=_;rw[MW]);subst hg;clear hx MW;obtain⟨GH,MX⟩:∃ GH,Pl.jH wd h seed P f (k+1)=GH:=⟨_,rfl⟩;obtain⟨R2,MY⟩:∃ R2,Pl.nM wd h seed P f (k+1)=R2:=⟨_,rfl⟩;rw[MX]at gB;rw[MY]at HRR;have eT:=hDq MX;have bq:=hDq MY;clear MX MY;generalize Pl.jH wd h seed P f k=GI at *;generalize Pl.nM wd h seed P f k=GJ at *;by_cases hx0:x<0
   .have e1:GH=GI:=by rw[gB.out];unfold Pl.one;rw[if_pos hx0]
    have e2:R2=GJ:=by rw[HRR.out];unfold Pl.sL;rw[if_pos hx0,aNq]
    have MZ:=hDq e1;have HE2:=hDq e2;clear e1 e2;go_wp2;go_roundw
    case rel=>exact⟨k+1,X',hlt,by go_num,by rw[eT.out,MZ.out];exact HP.out,HST.out,by rw[bq.out,HE2.out];exact q8.out,by rw[eT.out,MZ.out];exact MO gI.out (by omega),by rw[eT.out,MZ.out];exact⟨fun c hc=>by have:=oA.out.ar c hc;omega,fun c hc=>by have:=oA.out.pl c hc;omega⟩,by rw[bq.out,HE2.out];omega,HRW.out⟩
    case measure=>simp[intOf];omega
   .obtain⟨y,rfl⟩:∃ y:Nat,x=y:=⟨x.toNat,by omega⟩
    have Vj:¬ (y:Int)<0:=by omega
    have q1:(y:Int).tdiv 6=((y/6:Nat):Int):=by rw[Int.tdiv_eq_ediv_of_nonneg (by omega)];omega
    have q2:(y:Int).tmod 6=((y%6:Nat):Int):=by rw[Int.tmod_eq_emod_of_nonneg (by omega)];omega
    have q3:((y/6:Nat):Int).tmod 10=((y/6%10:Nat):Int):=by rw[Int.tmod_eq_emod_of_nonneg (by omega)];omega
    have q4:((y/6:Nat):Int).tdiv 10=((y/6/10:Nat):Int):=by rw[Int.tdiv_eq_ediv_of_nonneg (by omega)];omega
    have hY:y/6/10<=1000000000000000000:=by omega
    have hC:y%6<6:=Nat.mod_lt _ (by decide);have hD:y/6%10<10:=Nat.mod_lt _ (by decide);have e1:GH=Pl.iQ wd h seed GI (y%6) (y/6%10) (y/6/10):=by rw[gB.out];unfold Pl.one;rw[if_neg Vj];rfl
    have e2:R2=GJ++Pl.jJ wd h seed GI (y%6) (y/6%10) (y/6/10):=by rw[HRR.out];unfold Pl.sL;rw[if_neg Vj];rfl
    have pW:=hDq (Pl.agK (wd:=wd) (h:=h) (seed:=seed) oA.out hC (y/6%10) (y/6/10));have M0:=hDq (ag7 (y%6) (y/6%10) (y/6/10) hC hD hY wr HP hs ht gI oA (by omega));rw[<- e1]at pW M0;have HE2:=hDq e2;clear e1 e2 gB HRR;generalize Pl.jJ wd h seed GI (y%6) (y/6%10) (y/6/10)=dn at *;have aoL:((y/6:Nat):Int)<=9223372036854775807/\0<=((y/6:Nat):Int):=by omega
    generalize ((y/6:Nat):Int)=aoM at *;generalize y%6=A at *;generalize y/6%10=D at *;generalize y/6/10=E at *
    go_wp2_with fail
    refine M0.out.mono ?_;rintro e w2 ⟨v2,X2,rfl,h2,hs2,hr2,tX,hl2⟩;have Cb:iI w2 W.heap.size u5 GJ:=hs2.row HP.out q8.out (by decide) (by decide);have M3:=hs2.row HP.out HRW.out (by decide) (by decide);have hz:W.heap.size<=w2.heap.size:=lTq HST.out.turned.size hs2.turned.size;obtain⟨v5,aC,hap,fG,mH⟩:=ag8 w2 u5 v2 GJ dn Cb hr2 (by omega) (by omega) hz;have jZ:=hDq (h2.grown Cb H.out.aS.bG.size mH);have ag9:=hDq ((HST.out.trans hs2).grown Cb (lRq _) mH);have aha:Hid (aC.ownsRow bG 3 1 (.slice (some (Qb g 0)) m cap) l.length (fQ l)):=hDq (eM M3 (aJ.iM mH) (fun j hj e=>by
     obtain⟨_,c1,b1⟩:=cP M3 hj;obtain⟨_,c2,b2⟩:=cP Cb e.symm;rw[b1]at b2;simp at b2))
    have bA:=hDq fG;have dJ:=hDq hap;have oU:=hDq tX;clear h2 hs2 hr2 Cb M3 hap fG mH tX M0 hz;simp only[]
    go_wp2_with (at_builtin;refine wpList_append_run rfl _ _ 55 rfl _ _ _ rfl rfl dJ.out ?_)
    go_roundw
    case rel=>exact⟨k+1,X2,hlt,by go_num,by rw[eT.out];exact jZ.out,ag9.out,by rw[bq.out,HE2.out];exact bA.out,by rw[eT.out];exact oU.out,by rw[eT.out];exact pW.out,by rw[bq.out,HE2.out,lAq];omega,aha.out⟩
    case measure=>simp[intOf];omega
  .have aX:¬ (k:Int)<m:=by omega
   obtain rfl:k=m:=by omega
   go_wp2;go_ret;exact⟨_,rfl,X',HP.out,HST.out,q8.out,gI.out,oA.out⟩
end
namespace Pl
def lq (v:af.St) (k:Nat):St:=⟨v,fun i=>if i<k then 1 else 0,fun _=>0⟩
def new (v:af.St):St:=lq v 6
theorem MF (v:af.St):gW 0 (new v) :=
 ⟨fun c hc=>by show 1<=(if c<6 then (1:Int) else 0)/\(if c<6 then (1:Int) else 0)<=_;rw[if_pos hc];omega,fun c _=>⟨Int.le_refl 0,Int.le_refl 0⟩⟩
theorem agV (v:af.St) (k:Nat):({ lq v k with ar:=upd (lq v k).ar k 1 }:St)=lq v (k+1):=by
 have e:upd (lq v k).ar k 1=(lq v (k+1)).ar:=by
  funext j;show (if _ then _ else _)=(if j<k+1 then (1:Int) else 0);show _=_;by_cases h:j=k
  .subst h;simp
  .have h3:(j<k+1)↔j<k:=by omega
   simp[h,h3,lq]
 show (⟨(lq v k).v,upd (lq v k).ar k 1,(lq v k).pl⟩:St)=_;rw[e];rfl
end Pl
section
variable {w W W' W2:World} {ad:Nat->Addr} {p:Nat} {B:bP} {X X' X2:bX} {wd h seed:Int} {P:Pl.St} {v:af.St}
theorem agW (W:World) (H:Hid (aD w W B X wd h seed v)) :
  Calls Tryz.prog 64 #[Qc B.V] W fun e w'=>e=.returned (Qc W.heap.size)/\cH w w' W.heap.size B X wd h seed (Pl.new v)/\Qd W w':=by
 have HB1:Hid (Qd W (W.alloc (.cells (lV B (Pl.lq v 0)) 148))):=(bRq _ _).alloc (lRq _) _;have k0:Hid (cH w (W.alloc (.cells (lV B (Pl.lq v 0)) 148)) W.heap.size B X wd h seed (Pl.lq v 0)):=⟨hNq _ _,H.out.later HB1.out,H.out.bG.size⟩;go_enter Tryz.func64,Tryz.ntmps64
 go_wp2_with fail
 go_loopw [8] (fun kv wr=>∃ (k:Nat),k<=6/\kv=Qa k/\cH w wr W.heap.size B X wd h seed (Pl.lq v k)/\Qd W wr) (fun kv _=>6-(intOf kv).toNat)
 case atStart=>exact⟨0,by omega,rfl,k0.out,HB1.out⟩
 case round =>
  obtain⟨k,hk,rfl,hp,hb⟩:=hrel;have HP:=hDq hp;have HB:=hDq hb;clear hp hb k0 HB1 H;by_cases hlt:k<6
  .have aX:(k:Int)<6:=by omega
   have fz:wr.frozen? ⟨W.heap.size,1+k*2,none⟩=false:=HP.out.free _;have c1:wr.cell? ⟨W.heap.size,1+k*2,none⟩=some (Qa ((Pl.lq v k).ar k)):=by rw[HP.out.at];exact U' B _ hlt
   have HQ:=hDq (HP.out.put (Q:=Pl.lq v (k+1)) (1+k*2) (Qa 1) (by rw[GG B _ hlt,Pl.agV]) rfl).1;have HB2:=hDq (HB.out.setCell (p:=⟨W.heap.size,1+k*2,none⟩) (lRq _) (Qa 1));go_wp2;go_roundw
   case rel=>exact⟨k+1,hlt,by go_num,HQ.out,HB2.out⟩
   case measure=>simp[intOf];omega
  .have aX:¬ (k:Int)<6:=by omega
   obtain rfl:k=6:=by omega
   go_wp2;go_ret;exact⟨rfl,HP.out,HB.out⟩
theorem UQ (k:Int) (W:World):Calls Tryz.prog 32 #[Qa k] W fun e w'=>e=.returned (.agg (iH (k%4294967296) 10 2 100 20000 100))/\Qd W w':=by
 have HB1:Hid (Qd W (W.alloc (.cells (iH (k%4294967296) 10 2 100 20000 100) 45))):=(bRq _ _).alloc (lRq _) _;unfold iH at *;go_enter Tryz.func32,Tryz.ntmps32;go_wp2;refine bodyPost_ret (v:=.agg #[.int .u32 (k%4294967296),Qa 10,Qa 2,Qa 100,Qa 20000,Qa 100]) (by simp[results,Tryz.results32,go_sem]) rfl ?_;exact⟨rfl,HB1.out⟩
theorem MC (k:Int) (W:World) (hs:Hid (bO W ad)) :
  Calls Tryz.prog 28 #[Qa k] W fun e w'=>∃ p B X,e=.returned (.tuple #[Qc p,.nilIface])/\cH W w' p B X 10 2 (k%4294967296) (Pl.new (af.init 100 20000 100)):=by
 have HC:=hDq (UQ k W);have HN:Hid (∀ W',Qd W W'->_):=hDq (fun W' hb=>agX (k%4294967296) 10 2 100 20000 100 W' (hs.out.later hb) (hDq (by decide)) (hDq (by decide)) (hDq (by constructor <;> decide)));go_enter Tryz.func28,Tryz.ntmps28
 go_wp2_with fail
 refine HC.out.mono ?_;rintro e w1 ⟨rfl,hb1⟩;have HB1:=hDq hb1;clear hb1 HC;simp only[]
 go_wp2_with fail
 refine(HN.out _ HB1.out).mono ?_;rintro e w2 ⟨B,X,rfl,hv⟩;have cF:=hDq (hv.BV HB1.out);clear hv HN HB1;have HO:=hDq (agW w2 cF);simp only[]
 go_wp2_with fail
 refine HO.out.mono ?_;rintro e w3 ⟨rfl,hp,hb3⟩;have HP:=hDq hp;clear hp hb3 HO;simp only[];go_wp2;go_ret2;exact⟨w2.heap.size,B,X,rfl,HP.out⟩
end
theorem P5 (c1 c2:Nat) (a1 a2:Option Addr) (w:World):Calls Tryz.prog 107 #[.slice a1 0 c1,.slice a2 0 c2] w fun e w'=>e=.returned (.bool true)/\Qd w w':=by
 go_enter Tryz.func107,Tryz.ntmps107;go_wp2;refine wp_loop_rounds 1 ?_;rw[rounds_succ];go_wp2;go_ret;exact⟨rfl,bRq _ _⟩
theorem am6 (b1 o1 b2 o2 c1 c2 n:Nat) (l:List Cv.ag) (w:World) (hn:n<=1000) (hl:Hid (l.length=n)) (h1:Hid (dR w b1 o1 l)) (h2:Hid (dR w b2 o2 l)) :
  Calls Tryz.prog 107 #[.slice (some (Qb b1 o1)) n c1,.slice (some (Qb b2 o2)) n c2] w fun e w'=>e=.returned (.bool true)/\Qd w w':=by
 go_enter Tryz.func107,Tryz.ntmps107;go_wp2
 go_loopw [13] (fun i wr=>∃ k:Nat,k<=n/\i=Qa k/\Qd w wr) (fun i _=>n-(intOf i).toNat)
 case atStart=>exact⟨0,by omega,rfl,bRq _ _⟩
 case round =>
  obtain⟨k,hk,rfl,hb⟩:=hrel;have HB:=hDq hb;clear hb;by_cases hlt:k<n
  .obtain⟨c0,c1,c2,c3,c4⟩:=(h1.out.later HB.out) k (by rw[hl.out];exact hlt)
   obtain⟨d0,d1,d2,d3,d4⟩:=(h2.out.later HB.out) k (by rw[hl.out];exact hlt);have aX:(k:Int)<n:=by omega
   generalize Cv.nth l k=x at *;go_wp2
   go_quiet (fail)
   go_wp2;exact⟨⟨k+1,by omega,by go_num,HB.out.trans ((dL nq).mono HB.out.size)⟩,by simp[intOf];omega⟩
  .go_wp2
   go_ret;exact⟨rfl,HB.out⟩
theorem am7 {base base':Nat} (v1 v2:Value) (l:List Cv.ag) (w:World) (hn:l.length<=1000) (h1:w.ownsRow base 197 5 v1 l.length (flat l)) (h2:w.ownsRow base' 197 5 v2 l.length (flat l)) :
  Calls Tryz.prog 107 #[v1,v2] w fun e w'=>e=.returned (.bool true)/\Qd w w':=by
 rcases BR h1 with ⟨rfl,e⟩ | ⟨g1,c1,rfl,a1⟩
 .rcases BR h2 with ⟨rfl,_⟩ | ⟨g2,c2,rfl,a2⟩
  .exact P5 _ _ _ _ w
  .subst e;exact P5 _ _ _ _ w
 .rcases BR h2 with ⟨rfl,e⟩ | ⟨g2,c2,rfl,a2⟩
  .subst e;exact P5 _ _ _ _ w
  .exact am6 g1 0 g2 0 c1 c2 _ l w hn rfl a1 a2
section
variable {w W:World} {F P F' P':Nat} {I b I' b':Nat->Nat} {v v':Nat->Value} {L:Nat->List Cv.ag} {pf n:Nat->Int} {wd h:Int}
theorem am8 (W:World) (ha:Hid (bk w W F P I b v L pf n wd h)) (hb:Hid (bk w W F' P' I' b' v' L pf n wd h)) (hall:Hid (dU L pf n wd h)) :
  Calls Tryz.prog 62 #[Qc F,Qc F'] W fun e w'=>e=.returned (.bool true)/\Qd W w':=by
 go_enter Tryz.func62,Tryz.ntmps62
 go_wp2_with fail
 go_loopw [16] (fun kv wr=>∃ i:Nat,i<=3/\kv=Qa i/\Qd W wr) (fun kv _=>3-(intOf kv).toNat)
 case atStart=>exact⟨0,by omega,rfl,bRq _ _⟩
 case round =>
  obtain⟨i,bQ,rfl,hbr⟩:=hrel;have tC:=hDq hbr;clear hbr;by_cases hi:i<3
  .have r7:(i:Int)<3:=by omega
   have hlen:=(hall.out.ok.aH i hi).len;have y5:=hDq (fun W' (h':Qd W W')=>LK i hi (ha.out.later h'));have kR:=hDq (fun W' (h':Qd W W')=>LK i hi (hb.out.later h'));have aaA:=hDq (fun W' (h':Qd W W')=>F2 i hi (ha.out.later h'));have aaB:=hDq (fun W' (h':Qd W W')=>F2 i hi (hb.out.later h'));have jw:=hDq (fun W' (h':Qd W W')=>vT (b i) w.heap.size (v i) (L i) W' ((ha.out.later h').aH i hi) hlen);have jd:=hDq (fun W' (h':Qd W W')=>vT (b' i) w.heap.size (v' i) (L i) W' ((hb.out.later h').aH i hi) hlen);unfold dP at y5 kR
   go_wp2_with fail
   refine(y5.out _ tC.out).mono ?_;rintro e gb ⟨rfl,hba⟩;have eX:=hDq (tC.out.trans (hba.mono tC.out.size));clear hba y5 tC;simp only[]
   go_wp2_with fail
   refine(kR.out _ eX.out).mono ?_;rintro e bN ⟨rfl,jk⟩;have nN:=hDq (eX.out.trans (jk.mono eX.out.size));clear jk kR eX;simp only[]
   go_wp2_with fail
   refine(aaA.out _ nN.out).mono ?_;rintro e wc ⟨rfl,hwc⟩;subst wc;simp only[]
   go_wp2_with fail
   refine(jw.out _ nN.out).mono ?_;rintro e wc ⟨x1,rfl,hr1,hbc⟩;have dN:=hDq (nN.out.trans (hbc.mono nN.out.size));clear hbc jw aaA nN;simp only[]
   go_wp2_with fail
   refine(aaB.out _ dN.out).mono ?_;rintro e we ⟨rfl,kD⟩;subst we;simp only[]
   go_wp2_with fail
   refine(jd.out _ dN.out).mono ?_;rintro e we ⟨x2,rfl,hr2,De⟩;have kr:=hDq (am7 x1 x2 (L i) we (by omega) (cO hr1 De) hr2);have lB:=hDq (dN.out.trans (De.mono dN.out.size));clear hr1 hr2 De jd aaB dN;simp only[]
   go_wp2_with fail
   refine kr.out.mono ?_;rintro e wf ⟨rfl,hbf⟩;have GA:=hDq (lB.out.trans (hbf.mono lB.out.size));clear hbf kr lB;simp only[];go_wp2;exact⟨⟨i+1,hi,by go_num,GA.out⟩,by simp[intOf];omega⟩
  .have r7:¬ (i:Int)<3:=by omega
   go_wp2_with fail
   go_loopw [39] (fun kv wr=>∃ c:Nat,c<=6/\kv=Qa c/\Qd W wr) (fun kv _=>6-(intOf kv).toNat)
   case atStart=>exact⟨0,by omega,rfl,tC.out⟩
   case round =>
    obtain⟨c,gO,rfl,hbr⟩:=hrel;have lX:=hDq hbr;clear hbr tC;by_cases hc:c<6
    .have hci:(c:Int)<6:=by omega
     have k0:=hDq (fun W' (h':Qd W W')=>LJ (ha.out.later h'));have eT:=hDq (fun W' (h':Qd W W')=>LJ (hb.out.later h'));have I4:=hDq (fun W' (h':Qd W W')=>Na P (c:Int) pf W' (ha.out.later h').cQ);have oU:=hDq (fun W' (h':Qd W W')=>Na P' (c:Int) pf W' (hb.out.later h').cQ);rw[Nb pf hc]at I4 oU;unfold qf at I4 oU;have hne:=ahE (pf (c*8)) (pf (c*8+1)) (pf (c*8+2)) (pf (c*8+3)) (pf (c*8+4)) (pf (c*8+5)) (pf (c*8+6)) (pf (c*8+7)) (pf (c*8)) (pf (c*8+1)) (pf (c*8+2)) (pf (c*8+3)) (pf (c*8+4)) (pf (c*8+5)) (pf (c*8+6)) (pf (c*8+7));simp only[ahF,Bool.not_true]at hne
     go_wp2_with fail
     refine(k0.out _ lX.out).mono ?_;rintro e gb ⟨rfl,pM⟩;subst gb;simp only[]
     go_wp2_with fail
     refine(I4.out _ lX.out).mono ?_;rintro e gb ⟨rfl,hba⟩;have eX:=hDq (lX.out.trans (hba.mono lX.out.size));clear hba I4 k0 lX;simp only[]
     go_wp2_with fail
     refine(eT.out _ eX.out).mono ?_;rintro e bN ⟨rfl,oh⟩;subst bN;simp only[]
     go_wp2_with fail
     refine(oU.out _ eX.out).mono ?_;rintro e bN ⟨rfl,jk⟩;have nN:=hDq (eX.out.trans (jk.mono eX.out.size));clear jk oU eT eX;simp only[];go_wp2;exact⟨⟨c+1,hc,by go_num,nN.out⟩,by simp[intOf];omega⟩
    .have hci:¬ (c:Int)<6:=by omega
     go_wp2;go_ret;exact⟨rfl,lX.out⟩
end
structure lu (w W:World) (B:bP) (v:Nat->Value) (wd h seed:Int) (S:af.St):Prop where
 blk:W.heap[B.V]?=some (.cells (jq B seed S) 114 (0,0))
 fl:bk w W B.F B.P B.I B.b v S.L S.pf S.n wd h
section
variable {w W W':World} {B B':bP} {v v':Nat->Value} {wd h seed am9:Int} {S S':af.St}
theorem aD.f {X:bX} (H:aD w W B X wd h seed S):lu w W B X.v wd h seed S:=⟨H.blk,H.fl⟩
theorem lu.at (H:lu w W B v wd h seed S) (k:Nat):W.cell? (Qb B.V k)=(jq B seed S)[k]?:=cR W B.V k _ _ _ H.blk
theorem lu.later (H:lu w W B v wd h seed S) (hb:Qd W W'):lu w W' B v wd h seed S:=⟨dG hb H.blk,H.fl.later hb⟩
theorem M9 (W:World) (H:lu w W B v wd h seed S):Calls Tryz.prog 63 #[Qc B.V] W fun e w'=>e=.returned (Qc B.F)/\w'=W:=by
 have c:W.cell? (Qb B.V 1)=some (Qc B.F):=H.at 1;clear H;go_enter Tryz.func63,Tryz.ntmps63;go_wp2;go_ret;exact⟨rfl,rfl⟩
theorem aaC (W:World) (H:lu w W B v wd h seed S):Calls Tryz.prog 25 #[Qc B.V] W fun e w'=>e=.returned (Qa S.bt)/\w'=W:=by
 have c:W.cell? (Qb B.V 35)=some (Qa S.bt):=H.at 35;clear H;go_enter Tryz.func25,Tryz.ntmps25;go_wp2;go_ret;exact⟨rfl,rfl⟩
theorem UO (W:World) (ha:Hid (lu w W B v wd h seed S)) (hb:Hid (lu w W B' v' wd h am9 S')) (hall:Hid (dU S.L S.pf S.n wd h)) (e1:S'.L=S.L) (e2:S'.pf=S.pf) (e3:S'.n=S.n) (e4:S'.bt=S.bt) :
  Calls Tryz.prog 24 #[Qc B.V,Qc B'.V] W fun e w'=>e=.returned (.bool true)/\Qd W w':=by
 have HB1:=hDq (aaC W ha.out);have HB2:=hDq (aaC W hb.out);have fO:=hDq (M9 W ha.out);have cm:=hDq (M9 W hb.out);have yu:=hb.out.fl;rw[e1,e2,e3]at yu;rw[e4]at HB2;have GB:=hDq (am8 W ha.out.fl yu hall);clear yu e1 e2 e3 e4;go_enter Tryz.func24,Tryz.ntmps24
 go_wp2_with fail
 refine HB1.out.mono ?_;rintro e w1 ⟨rfl,dz⟩;subst w1;simp only[]
 go_wp2_with fail
 refine HB2.out.mono ?_;rintro e w1 ⟨rfl,dz⟩;subst w1;simp only[]
 go_wp2_with fail
 refine fO.out.mono ?_;rintro e w1 ⟨rfl,dz⟩;subst w1;simp only[]
 go_wp2_with fail
 refine cm.out.mono ?_;rintro e w1 ⟨rfl,dz⟩;subst w1;simp only[]
 go_wp2_with fail
 refine GB.out.mono ?_;rintro e w1 ⟨rfl,hb1⟩;have HB:=hDq hb1;clear hb1;simp only[];go_wp2;go_ret;exact⟨rfl,HB.out⟩
end
end
namespace af
open Cv
def dp (D:Int) (l:List cy):List cy:=l.filter fun r=>r.id==D
theorem anr (D:Int) (a b:List cy):dp D (a++b)=dp D a++dp D b:=List.filter_append ..
theorem dp_none {D:Int} {l:List cy} (h:∀ r∈l,r.id≠D):dp D l=[]:=by
 unfold dp;rw[List.filter_eq_nil_iff];intro r hr;simpa using h r hr
theorem P7 {D:Int} (a:List cy) {b:List cy} (h:∀ r∈b,r.id≠D):dp D (a++b)=dp D a:=by
 rw[anr,dp_none h,aNq]
def DC (L:Nat->List ag) (D:Int):Prop:=∀ i,i<3->∀ x∈L i,x.id≠D
theorem aaJ (c:Int) (L:Nat->List ag) {x:ag}:∀ k j,x∈Fl.i_ c L k j->x∈L j
 | 0,_,h=>h
 | k+1,j,h=>by
  unfold Fl.i_ upd at h;split at h
  .rename_i e;subst e;exact(List.mem_filter.1 h).1
  .exact aaJ c L k j h
theorem aaK (c:Int) (L:Nat->List ag) {x:ag}:∀ k,x∈Fl.kW c L k->∃ j,j<k/\x∈L j
 | 0,h=>by cases h
 | k+1,h=>by
  unfold Fl.kW at h;rcases List.mem_append.1 h with h | h
  .obtain⟨j,h1,h2⟩:=aaK c L k h;exact⟨j,by omega,h2⟩
  .exact⟨k,by omega,(List.mem_filter.1 h).1⟩
theorem ant {l:List ag} {k:Nat} {x:ag} (h:x∈Bk.del l k):x∈l:=by
 unfold Bk.del at h;rcases List.mem_append.1 h with h | h
 .exact List.mem_of_mem_take h
 .exact List.mem_of_mem_drop h
theorem anu {l:List ag} {k:Nat} {x:ag} (h:x∈l) (hne:x≠nth l k):x∈Bk.del l k:=by
 unfold Bk.del;by_cases hk:k<l.length
 .have e:l.take k++l.drop k=l:=List.take_append_drop k l
  rw[<- e,Fl.drop_cons hk]at h;rcases List.mem_append.1 h with h | h
  .exact List.mem_append_left _ h
  .rcases List.mem_cons.1 h with h | h
   .exact absurd h hne
   .exact List.mem_append_right _ h
 .rw[List.take_of_length_le (by omega)];exact List.mem_append_left _ h
structure rI (D:Int) (P:List cy) (r:cB):Prop where
 ls:DC r.L D
 pl:∀ a∈r.pl,a.id≠D
 rp:dp D r.rp=P
variable {D:Int} {P:List cy} {r:cB} {wd h:Int}
theorem rI.drop (H:rI D P r) (c:Nat):rI D P (ru r c):=by
 refine⟨fun i hi x hx=>H.ls i hi x (aaJ _ _ _ _ hx),H.pl,?_⟩;show dp D (r.rp++(Fl.kW c r.L 3).map (tell oZ))=P;rw[P7,H.rp];intro q hq;obtain⟨x,hx,rfl⟩:=List.mem_map.1 hq;obtain⟨j,hj,hx⟩:=aaK _ _ _ hx;exact H.ls j hj x hx
theorem anv {L:Nat->List ag} {pf:Nat->Int} {a:Ask} (hn:DC L D) (ha:a.id≠D):DC (Fl.iB L pf a) D:=by
 intro i hi x hx;unfold Fl.iB at hx;split at hx
 .unfold upd at hx
  split at hx
  .rename_i e
   rcases List.mem_append.1 hx with hx | hx
   .rw[<- e]at hx;exact hn i hi x hx
   .rw[List.mem_singleton.1 hx];exact ha
  .exact hn i hi x hx
 .exact hn i hi x hx
theorem aaL {L:Nat->List ag} {a:Ask} {i:Nat} {x:ag} (hx:x∈Fl.dQ L a i):x∈L i:=by
 unfold Fl.dQ at hx;split at hx
 .unfold upd at hx
  split at hx
  .rename_i e;rw[e];exact ant hx
  .exact hx
 .exact hx
theorem anw {L:Nat->List ag} {pf:Nat->Int} {a:Ask} (h:Fl.dh L pf a=0):(Fl.fC L a).id=a.id:=by
 have h0:Fl.fV a 99=0/\Fl.mine L a=true:=by
  unfold Fl.dh at h;split at h
  .rename_i hk
   split at h
   .rename_i hm;exact⟨hk,hm⟩
   .cases h
  .rename_i hk
   have:=Fl.D9 hk
   omega
 unfold Fl.fC;rw[if_pos h0];have hh:has (L a.it.toNat) a.id=true:=by
  have:=h0.2;unfold Fl.mine at this
  rw[bEq]at this;exact this.1
 exact Bk.vR (Bk.px.1 hh)
theorem aaM (r:cB) (a:Ask):∃ b,(gq r a).rp=r.rp++b/\∀ q∈b,q.id=a.id:=by
 unfold gq;split
 .unfold qm
  simp only;split
  .exact⟨[],(aNq _).symm,fun _ h=>by cases h⟩
  .exact⟨_,rfl,fun q hq=>by rw[List.mem_singleton.1 hq];rfl⟩
 .unfold qj
  refine⟨_,rfl,fun q hq=>?_⟩;split at hq
  .rename_i hc
   rw[List.mem_singleton.1 hq];exact anw hc
  .rw[List.mem_singleton.1 hq];rfl
theorem anx {a:Ask} (hn:DC r.L D) (ha:a.id≠D):DC (gq r a).L D:=by
 unfold gq;split
 .exact anv hn ha
 .exact fun i hi x hx=>hn i hi x (aaL hx)
theorem anz (r:cB) (a:Ask) {x:Ask} (h:x∈(gq r a).pl):x∈r.pl\/x=a:=by
 unfold gq at h;split at h
 .unfold qm at h
  simp only at h;split at h
  .rcases List.mem_append.1 h with h | h
   .exact .inl h
   .exact .inr (List.mem_singleton.1 h)
  .exact .inl h
 .unfold qj at h
  simp only at h;split at h
  .exact .inl (List.mem_filter.1 h).1
  .exact .inl h
theorem rI.ask (H:rI D P r) {a:Ask} (ha:a.id≠D):rI D P (gq r a):=by
 refine⟨anx H.ls ha,fun x hx=>?_,?_⟩
 .rcases anz r a hx with h1 | h1
  .exact H.pl x h1
  .rw[h1];exact ha
 .obtain⟨b,e,hb⟩:=aaM r a
  rw[e,P7 _ (fun q hq=>by rw[hb q hq];exact ha),H.rp]
structure xT (a:Ask) (r:cB):Prop where
 zR:Fl.eZ a∈r.L a.it.toNat
 on:∀ j,j<3->∀ x∈r.L j,x.id=a.id->j=a.it.toNat/\x=Fl.eZ a
 rp:dp a.id r.rp=[]
 pl:(r.pl.filter fun x=>x.id==a.id)=[a]
theorem xT.ask {a b:Ask} (H:xT a r) (hb:b.id≠a.id):xT a (gq r b):=by
 have nQ:dp a.id (gq r b).rp=[]:=by
  obtain⟨n,e,hn⟩:=aaM r b;rw[e,P7 _ (fun q hq=>by rw[hn q hq];exact hb),H.rp]
 by_cases hk:b.k=111
 .have e:gq r b=qm r b:=if_pos hk
  rw[e]at nQ ⊢;refine⟨?_,?_,nQ,?_⟩
  .show Fl.eZ a∈Fl.iB r.L r.pf b a.it.toNat
   unfold Fl.iB;split
   .unfold upd
    split
    .rename_i e;rw[<- e];exact List.mem_append_left _ H.zR
    .exact H.zR
   .exact H.zR
  .intro j hj x hx e
   have hx':x∈Fl.iB r.L r.pf b j:=hx;unfold Fl.iB at hx';split at hx'
   .unfold upd at hx'
    split at hx'
    .rename_i e3
     rcases List.mem_append.1 hx' with h1 | h1
     .rw[<- e3]at h1;exact H.on j hj x h1 e
     .rw[List.mem_singleton.1 h1]at e;exact absurd e hb
    .exact H.on j hj x hx' e
   .exact H.on j hj x hx' e
  .unfold qm
   simp only;split
   .rw[List.filter_append,H.pl]
    have:([b].filter fun x=>x.id==a.id)=[]:=by simpa using hb
    rw[this,aNq]
   .exact H.pl
 .have e:gq r b=qj r b:=if_neg hk
  rw[e]at nQ ⊢;refine⟨?_,fun j hj x hx e=>H.on j hj x (aaL hx) e,nQ,?_⟩
  .show Fl.eZ a∈Fl.dQ r.L b a.it.toNat
   unfold Fl.dQ;split
   .rename_i hc
    unfold upd;split
    .rename_i e3
     rw[<- e3];refine anu H.zR (fun e4=>hb ?_);have hh:has (r.L b.it.toNat) b.id=true:=by
      have:=hc.2;unfold Fl.mine at this
      rw[bEq]at this;exact this.1
     rw[<- e3]at hh
     have:=Bk.vR (Bk.px.1 hh)
     rw[<- e4]at this;exact this.symm
    .exact H.zR
   .exact H.zR
  .unfold qj
   simp only;split
   .unfold others
    rw[List.filter_filter,<- H.pl];refine List.filter_congr fun x _=>?_;by_cases e5:x.id=a.id
    .have:¬ x.id=b.id:=fun e6=>hb (e6.symm.trans e5)
     simp[e5,show ¬ a.id=b.id from fun e6=>hb e6.symm]
    .simp[e5]
   .exact H.pl
end af
namespace af
theorem al9 (a:ByteArray) (i j:Nat) (h:a.size<=j):a.extract i j=a.extract i a.size:=by
 apply ByteArray.ext;rw[ByteArray.data_extract,ByteArray.data_extract];have h':a.data.size<=j:=h;apply Array.ext
 .rw[Array.size_extract,Array.size_extract];show min j a.data.size-i=min a.data.size a.data.size-i;omega
 .intro k h1 h2;rw[Array.getElem_extract,Array.getElem_extract]
theorem Zw (b c:ByteArray) (i:Nat) (hi:i<=b.size):(b++c).extract i (b++c).size=b.extract i b.size++c:=by
 rw[ByteArray.extract_append,ByteArray.size_append,al9 b i _ (by omega),show i-b.size=0 by omega,show b.size+c.size-b.size=c.size by omega];simp
theorem head_append (b c:ByteArray):(b++c).extract 0 b.size=b:=ByteArray.extract_append_eq_left rfl
theorem ama (b c:ByteArray) (j:Nat) (h:30*j+30<=b.size):fr (b++c) j=fr b j:=by
 have h1:=XF (b++c) 0 b.size j (by omega);rw[Nat.mul_zero,head_append,Nat.zero_add]at h1;exact h1.symm
theorem amb (b c:ByteArray) (j:Nat) (h:30*(b.size/30)+(30*j+30)<=(b++c).size):fr (b++c) (b.size/30+j)=fr (eF b++c) j:=by
 have h1:=XF (b++c) (b.size/30) (b++c).size j h;rw[Zw b c _ (by omega)]at h1;exact h1.symm
theorem PD (b:ByteArray):(eF b).size=b.size-30*(b.size/30):=by
 unfold eF;rw[ByteArray.size_extract];omega
theorem Zx (b c:ByteArray):(b++c).size/30=b.size/30+(eF b++c).size/30:=by
 rw[ByteArray.size_append,ByteArray.size_append,PD];omega
theorem amc (b c:ByteArray):eF (b++c)=eF (eF b++c):=by
 have h1:=Zw b c (30*(b.size/30)) (by omega);have h2:eF b++c=(b++c).extract (30*(b.size/30)) (b++c).size:=h1.symm;have h3:=Zx b c;have h4:(eF b++c).size=(b++c).size-30*(b.size/30):=by rw[ByteArray.size_append,ByteArray.size_append,PD];omega
 show (b++c).extract (30*((b++c).size/30)) (b++c).size=(eF b++c).extract (30*((eF b++c).size/30)) (eF b++c).size;generalize hk:(eF b++c).size/30=k2 at *;rw[h4,h2,ByteArray.extract_extract,h3];have h5:30*(b.size/30)<=(b++c).size:=by rw[ByteArray.size_append];omega
 congr 1 <;> omega
theorem amd (S:St) (x:Nat->ByteArray) (n:Nat) (f:ByteArray):jM { S with az:=x } n f = { jM S n f with az:=x }:=by
 have e:takeC { S with az:=x } n (cA f)=takeC S n (cA f):=rfl;unfold jM;rw[e];split
 .split
  .split
   .rfl
   .split <;> rfl
  .rfl
 .rfl
theorem ame (S:St) (x:Nat->ByteArray) (n:Nat) (f:ByteArray):lW { S with az:=x } n f=lW S n f:=rfl
theorem Dr (S:St) (x:Nat->ByteArray) (n:Nat) (b:ByteArray):∀ k,cZ { S with az:=x } n b k = { cZ S n b k with az:=x }
 | 0=>rfl
 | k+1=>by rw[cZ,cZ,Dr S x n b k,amd]
theorem IK (S:St) (x:Nat->ByteArray) (n:Nat) (b:ByteArray):∀ k,fR { S with az:=x } n b k=fR S n b k
 | 0=>rfl
 | k+1=>by rw[fR,fR,IK S x n b k,Dr S x n b k,ame]
theorem PE (S:St) (n:Nat) (b c:ByteArray) (k1:Nat):∀ k2,(∀ j,j<k2->fr b (k1+j)=fr c j)->cZ S n b (k1+k2)=cZ (cZ S n b k1) n c k2/\fR S n b (k1+k2)=fR S n b k1++fR (cZ S n b k1) n c k2
 | 0,_=>⟨rfl,(aNq _).symm⟩
 | k2+1,h=>by
  obtain⟨h1,h2⟩:=PE S n b c k1 k2 (fun j hj=>h j (by omega));have h3:=h k2 (by omega);refine⟨?_,?_⟩
  .rw[<- Nat.add_assoc,cZ,cZ,h1,h3]
  .rw[<- Nat.add_assoc,fR,fR,h1,h2,h3,aAq]
theorem amf (S:St) (n:Nat) (b c:ByteArray) (k:Nat) (h:∀ j,j<k->fr b j=fr c j):cZ S n b k=cZ S n c k/\fR S n b k=fR S n c k:=by
 obtain⟨h1,h2⟩:=PE S n b c 0 k (fun j hj=>by rw[Nat.zero_add];exact h j hj);rw[Nat.zero_add]at h1 h2;exact⟨h1,h2⟩
theorem amg (S:St) (n:Nat) (f:ByteArray):(jM S n f).down=S.down/\(jM S n f).az=S.az:=by
 unfold jM;split
 .split
  .split
   .exact⟨rfl,rfl⟩
   .split <;> exact⟨rfl,rfl⟩
  .exact⟨rfl,rfl⟩
 .exact⟨rfl,rfl⟩
theorem Zy (S:St) (n:Nat) (b:ByteArray):∀ k,(cZ S n b k).down=S.down/\(cZ S n b k).az=S.az
 | 0=>⟨rfl,rfl⟩
 | k+1=>by
  have h1:=Zy S n b k;have h2:=amg (cZ S n b k) n (fr b k);exact⟨h2.1.trans h1.1,h2.2.trans h1.2⟩
theorem ag3 (S:St) (n:Int) (a c:ByteArray):eN S n (a++c)=eN (eN S n a) n c/\gY S n (a++c)=gY S n a++gY (eN S n a) n c:=by
 by_cases hc:S.down=true\/ah.aG n 0 5=false
 .have e1:∀ x,eN S n x=S:=fun x=>by unfold eN;rw[if_pos hc]
  have e2:∀ x,gY S n x=[]:=fun x=>by unfold gY;rw[if_pos hc]
  refine⟨by rw[e1,e1,e1],by rw[e1,e2,e2,e2];rfl⟩
 .obtain⟨m,hm⟩:∃ m,n.toNat=m:=⟨_,rfl⟩
  obtain⟨b,hb⟩:∃ b,S.az m++a=b:=⟨_,rfl⟩;have e1:eN S n a = { cZ S m b (b.size/30) with az:=upd S.az m (eF b) }:=by
   unfold eN;rw[if_neg hc,hm,hb];exact Dr S _ m b _
  have r1:gY S n a=fR S m b (b.size/30):=by
   unfold gY;rw[if_neg hc,hm,hb];exact IK S _ m b _
  have hb2:S.az m++(a++c)=b++c:=by rw[<- hb,ByteArray.append_assoc]
  have e2:eN S n (a++c) = { cZ S m (b++c) ((b++c).size/30) with az:=upd S.az m (eF (b++c)) }:=by
   unfold eN;rw[if_neg hc,hm,hb2];exact Dr S _ m _ _
  have r2:gY S n (a++c)=fR S m (b++c) ((b++c).size/30):=by
   unfold gY;rw[if_neg hc,hm,hb2];exact IK S _ m _ _
  obtain⟨d1,_⟩:=Zy S m b (b.size/30);have hc2:¬ ((eN S n a).down=true\/ah.aG n 0 5=false):=by
   rw[e1];show ¬ ((cZ S m b (b.size/30)).down=true\/_);rw[d1];exact hc
  have hl:(eN S n a).az m=eF b:=by rw[e1];exact upd_same _ _ _
  have e3:eN (eN S n a) n c = { cZ (cZ S m b (b.size/30)) m (eF b++c) ((eF b++c).size/30) with az:=upd S.az m (eF (eF b++c)) }:=by
   rw[eN,if_neg hc2,hm,hl,e1];unfold gp;simp only[rZ];exact Dr _ _ m _ _
  have r3:gY (eN S n a) n c=fR (cZ S m b (b.size/30)) m (eF b++c) ((eF b++c).size/30):=by
   rw[gY,if_neg hc2,hm,hl,e1];unfold gp;exact IK (cZ S m b (b.size/30)) _ m _ _
  have hz:=Zx b c;have hsz:(eF b++c).size=(b++c).size-30*(b.size/30):=by rw[ByteArray.size_append,ByteArray.size_append,PD];omega
  obtain⟨s1,s2⟩:=PE S m (b++c) (eF b++c) (b.size/30) ((eF b++c).size/30) (fun j hj=>amb b c j (by omega));obtain⟨c1,c2⟩:=amf S m (b++c) b (b.size/30) (fun j hj=>ama b c j (by omega));rw[e2,e3,r2,r1,r3,hz,s1,s2,c1,c2,amc b c];exact⟨rfl,rfl⟩
end af
namespace af
theorem IJ {a:Ask} (h:bg.ac a=0):eu (bL a)=0/\cA (bL a)=a/\(bL a).size=30:=by
 obtain⟨k,c,sq,it,sd,pr,q,id⟩:=a;have hf:bL ⟨k,c,sq,it,sd,pr,q,id⟩=strOfNums (ah.frame k c sq it sd pr q id):=by
  unfold bL nh;exact if_pos h
 rw[hf];have h':ah.code k c sq it sd pr q id=0:=h;obtain⟨h1,_⟩:=Xw h';obtain⟨e0,e1,e2,e3,e4,e5,e6,e7⟩:=Xv h';refine⟨h1,?_,by rw[strOfNums_size,ah.BA]⟩;unfold cA dc;rw[if_pos h1,if_pos h1,if_pos h1,if_pos h1,if_pos h1,if_pos h1,if_pos h1,if_pos h1,e0,e1,e2,e3,e4,e5,e6,e7]
theorem al4 {a b:ByteArray} (ha:a.size=30):fr (a++b) 0=a:=by
 unfold fr
 have:=ByteArray.extract_append_eq_left (a:=a) (b:=b) (i:=30*0+30) (by omega)
 simpa using this
theorem al5 {a b:ByteArray} (ha:a.size=30) (hb:b.size=30):fr (a++b) 1=b:=by
 unfold fr
 have:=ByteArray.extract_append_eq_right (a:=a) (b:=b) (i:=30*1) (j:=30*1+30) (by omega) (by omega)
 simpa using this
theorem al6 {a b:ByteArray} (ha:a.size=30) (hb:b.size=30):eF (a++b)=⟨#[]⟩:=by
 have hs:(eF (a++b)).size=0:=by
  unfold eF;rw[ByteArray.size_extract,ByteArray.size_append];omega
 generalize eF (a++b)=r at *;obtain⟨d⟩:=r;have:d=#[]:=Array.size_eq_zero_iff.1 hs;rw[this]
def jK (c:Nat):Ask:=⟨108,c,1,0,0,0,0,0⟩
theorem Zu {c:Nat} (hc:c<6):bg.ac (jK c)=0:=by
 have:c=0\/c=1\/c=2\/c=3\/c=4\/c=5:=by omega
 rcases this with rfl | rfl | rfl | rfl | rfl | rfl <;> decide
def Px (S:St) (c:Nat) (a:Ask):St:={ S with on:=upd S.on c true,ar:=upd S.ar c 3,la:=upd S.la c S.now,az:=upd S.az c ⟨#[]⟩,Q:=upd S.Q c (S.Q c++[a]) }
theorem ag4 {S:St} {c:Nat} (hc:c<6) (a:Ask) (ha:bg.ac a=0) (hk:a.k=111) (hcc:a.c=c) (Ge:a.sq=2) (hd:S.down=false) (uz:S.on c=false) (qc:S.az c=⟨#[]⟩) (hq:(S.Q c).length<6) :
  gY S c (bL (jK c)++bL a)=[⟨c,sN,a.id,0,0,0⟩]/\eN S c (bL (jK c)++bL a)=Px S c a:=by
 obtain⟨l1,l2,l3⟩:=IJ (Zu hc);obtain⟨a1,a2,a3⟩:=IJ ha;have hw:¬ (S.down=true\/ah.aG (c:Int) 0 5=false):=by
  have:ah.aG (c:Int) 0 5=true:=by unfold ah.aG;simp;omega
  rw[hd,this];simp
 have xQ:((c:Int)).toNat=c:=by omega
 have hb:S.az c++(bL (jK c)++bL a)=bL (jK c)++bL a:=by rw[qc];exact ByteArray.empty_append
 have rK:(bL (jK c)++bL a).size/30=2:=by rw[ByteArray.size_append,l3,a3]
 have f0:=al4 (b:=bL a) l3;have f1:=al5 l3 a3;have f2:=al6 l3 a3;have hF:gp S c (bL (jK c)++bL a) = { S with az:=upd S.az c ⟨#[]⟩ }:=by unfold gp;rw[f2]
 have t0:bg.tc (S.on c) (S.ar c) (jK c)=0:=by
  unfold bg.tc;rw[if_pos (Zu hc),uz];rfl
 have n1:¬ qo (jK c)=true:=by show ¬ ((108:Int)==111 || (108:Int)==99)=true;decide
 have n2:¬ (jK c).k=113:=by show ¬ (108:Int)=113;decide
 have t1:takeC { S with az:=upd S.az c ⟨#[]⟩ } c (jK c)=0:=by
  unfold takeC;rw[if_pos (show (jK c).c=(c:Int) from rfl)];exact t0
 have e1:jM { S with az:=upd S.az c ⟨#[]⟩ } c (bL (jK c)) = { S with on:=upd S.on c true,ar:=upd S.ar c 2,la:=upd S.la c S.now,az:=upd S.az c ⟨#[]⟩ }:=by
  unfold jM;rw[if_pos l1,l2,if_pos t1,if_neg n1,if_neg n2];unfold taken;have ht:=t0;unfold bg.iL bg.jl bg.gC;simp only[ht,if_true];rfl
 have e2:lW { S with az:=upd S.az c ⟨#[]⟩ } c (bL (jK c))=[]:=by
  unfold lW;rw[if_pos l1,l2,if_pos t1,if_neg n1]
 generalize hS1:({ S with on:=upd S.on c true,ar:=upd S.ar c 2,la:=upd S.la c S.now,az:=upd S.az c ⟨#[]⟩ }:St)=S1 at *;have o1:S1.on c=true:=by rw[<- hS1];simp[upd]
 have o2:S1.ar c=2:=by rw[<- hS1];simp[upd]
 have o3:S1.Q=S.Q:=by rw[<- hS1]
 have t2:bg.tc (S1.on c) (S1.ar c) a=0:=by
  unfold bg.tc;rw[if_pos ha,o1,o2,hk,Ge];rfl
 have t3:takeC S1 c a=0:=by unfold takeC;rw[if_pos hcc,t2]
 have hO:qo a=true:=by unfold qo;rw[hk];rfl
 have hpc:ay.jh S1.Q a=0:=by
  have k1:ay.wZ a=true:=by unfold ay.wZ;rw[hk];rfl
  have k2:ay.mE a.c=true:=by unfold ay.mE;rw[hcc];simp;omega
  unfold ay.jh;rw[if_pos k1,if_pos k2,hcc,xQ,o3,if_neg (by omega)]
 have hpl:ay.ji S1.Q a=upd S.Q c (S.Q c++[a]):=by unfold ay.ji;rw[if_pos hpc,hcc,xQ,o3];rfl
 have e3:lW S1 c (bL a)=[⟨c,sN,a.id,0,0,0⟩]:=by
  unfold lW;rw[if_pos a1,a2,if_pos t3,if_pos hO];unfold vt;rw[if_pos hpc]
 have e4:jM S1 c (bL a)=Px S c a:=by
  unfold jM;rw[if_pos a1,a2,if_pos t3,if_pos hO,hpl];unfold taken bg.iL bg.jl bg.gC Px;simp only[t2,if_true,hk,Ge];rw[<- hS1];simp only[rZ];rfl
 refine⟨?_,?_⟩
 .unfold gY
  rw[if_neg hw,xQ,hb,rK,hF];unfold fR fR fR cZ cZ;rw[f0,f1,e1,e2,e3];rfl
 .unfold eN
  rw[if_neg hw,xQ,hb,rK,hF];unfold cZ cZ cZ;rw[f0,f1,e1,e4]
end af
namespace af
def alq (L:Nat->List Cv.ag) (c:Nat):Prop:=∀ i,i<3->∀ x∈L i,x.ak≠(c:Int)
structure J (S:St):Prop where
 q:∀ c,c<6->∀ a∈S.Q c,a.c=(c:Int)
 off:∀ c,c<6->S.on c=false->S.Q c=[]/\(S.aU c=true\/alq S.L c)
 tn:S.t<6
theorem IA (Q:Nat->List Ask) {n:Nat} (hn:n<6) (c:Nat):ay.nH Q n c=if c=n then [] else Q c:=by
 have h:ay.mE (n:Int)=true:=by unfold ay.mE;simp;omega
 have e:((n:Int)).toNat=n:=by omega
 unfold ay.nH;rw[if_pos h,e];rfl
theorem J.left {S S':St} (h:J S) {n:Nat} (hn:n<6) (hQ:S'.Q=ay.nH S.Q n) (hd:S'.aU=upd S.aU n true) (hL:S'.L=S.L) (ho:∀ c,c≠n->S'.on c=S.on c) (ht:S'.t=S.t):J S':=by
 refine⟨fun c hc a ha=>?_,fun c hc hoff=>?_,by rw[ht];exact h.tn⟩
 .rw[hQ,IA _ hn]at ha
  split at ha
  .cases ha
  .exact h.q c hc a ha
 .rw[hQ,IA _ hn,hd,hL]
  by_cases e:c=n
  .subst e
   rw[if_pos rfl];exact⟨rfl,.inl (by simp[upd])⟩
  .rw[if_neg e]
   have:=h.off c hc (by rw[<- ho c e];exact hoff)
   refine⟨this.1,?_⟩;rcases this.2 with h1 | h1
   .exact .inl (by unfold upd;rw[if_neg e];exact h1)
   .exact .inr h1
theorem J.cut {S:St} (h:J S) (n:Int):J (Ow S n):=by
 unfold Ow;split
 .exact⟨h.q,h.off,h.tn⟩
 .exact h
theorem Y4 {Q:Nat->List Ask} {t:Nat} (ht:t<6):∀ k,k<=6->∀ a∈ay.k_ Q t k,∃ c,c<6/\a∈Q c
 | 0,_,a,h=>by cases h
 | k+1,hk,a,h=>by
  rw[ay.afM Q ht (by omega),List.mem_append]at h;rcases h with h | h
  .exact Y4 ht k (by omega) a h
  .exact⟨ay.who t k,ay.wW t k,List.mem_of_mem_take h⟩
theorem Y5 {Q:Nat->List Ask} {t:Nat} (ht:t<6) (c:Nat):(∀ a∈ay.BN Q t c,a∈Q c)/\(Q c=[]->ay.BN Q t c=[]):=by
 unfold ay.BN;rw[ay.Mt Q ht 6 (lRq _) c];split
 .exact⟨fun a h=>List.mem_of_mem_drop h,fun e=>by rw[e];rfl⟩
 .exact⟨fun _ h=>h,fun e=>e⟩
end af
namespace af
theorem Y6 (wd h seed:Int) (S:St) (hd:(ei wd h seed S).down=false):S.down=false:=by
 cases e:S.down with
 | false=>rfl
 | true=>unfold ei at hd;rw[if_pos e,e]at hd;exact hd
end af
namespace af
open Cv
variable {wd h seed:Int} {c:Nat} {D:Int} {l:List Ask} {S:St}
theorem PR (bt:Nat) (ds:List Nat) (l:List Ask) (hb:bt<=1000000) (hd:∀ d∈ds,d<6) (hl:ds.length<=6) (ha:l.length<=12):(gF bt ds l).size<=980:=by
 unfold gF Ig;rw[strOfNums_size];have h1:=Ip (bt:Int) (by omega) (by omega);have h2:=Iq ds hd ds.length;have h3:=Ir l l.length;simp only[List.length_append,List.length_singleton];omega
theorem IW (aU:Nat->Bool):∀ k,(d6 aU k).length<=k/\∀ d∈d6 aU k,d<k
 | 0=>⟨lRq _,fun _ h=>by cases h⟩
 | k+1=>by
  obtain⟨h1,h2⟩:=IW aU k;refine⟨?_,fun d hd=>?_⟩
  .rw[d6,lAq]
   split <;> simp <;> omega
  .rw[d6,List.mem_append]at hd
   rcases hd with hd | hd
   .exact Nat.lt_succ_of_lt (h2 d hd)
   .split at hd
    .rw[List.mem_singleton.1 hd];omega
    .cases hd
theorem rI.asks {P:List cy}:∀ {r:cB} (l:List Ask),rI D P r->(∀ a∈l,a.id≠D)->rI D P (l.foldl gq r)
 | _,[],H,_=>H
 | _,a::l,H,hl=>rI.asks l (H.ask (hl a mSq)) (fun b hb=>hl b (mOq _ hb))
theorem xT.asks {a:Ask}:∀ {r:cB} (l:List Ask),xT a r->(∀ b∈l,b.id≠a.id)->xT a (l.foldl gq r)
 | _,[],H,_=>H
 | _,b::l,H,hl=>xT.asks l (H.ask (hl b mSq)) (fun x hx=>hl x (mOq _ hx))
end af
namespace af
structure fq where
 ds:List Nat
 l:List Ask
variable {wd h seed:Int} {S T:St}
noncomputable def oa (wd h seed:Int) (S:St) (b:fq):St:=mR wd h seed (cp { S with now:=S.now+3 }) b.ds b.l
noncomputable def replay (wd h seed:Int) (S:St) (H:List fq):St:=H.foldl (oa wd h seed) S
theorem ZY (S:St) (H:List fq) (b:fq):replay wd h seed S (H++[b])=oa wd h seed (replay wd h seed S H) b:=by
 unfold replay;rw[List.foldl_append];rfl
structure vI (S T:St):Prop where
 L:S.L=T.L
 pf:S.pf=T.pf
 n:S.n=T.n
 bt:S.bt=T.bt
theorem vI.refl (S:St):vI S S:=⟨rfl,rfl,rfl,rfl⟩
theorem vI.ran (e:vI S T) (ds:List Nat) (l:List Ask):vI (mR wd h seed S ds l) (mR wd h seed T ds l)/\(iU wd h seed S ds l)=(iU wd h seed T ds l):=by
 have hr:iU wd h seed S ds l=iU wd h seed T ds l:=by
  unfold iU start;rw[e.L,e.pf,e.n,e.bt]
 refine⟨⟨?_,?_,?_,?_⟩,hr⟩
 .show (iU wd h seed S ds l).L=(iU wd h seed T ds l).L;rw[hr]
 .show (iU wd h seed S ds l).pf=(iU wd h seed T ds l).pf;rw[hr]
 .show (iU wd h seed S ds l).n=(iU wd h seed T ds l).n;rw[hr]
 .show S.bt+1=T.bt+1;rw[e.bt]
def rH:Nat->List fq->List (List UInt8)
 | _,[]=>[]
 | k,b::r=>(gF k b.ds b.l).data.toList::rH (k+1) r
def texts (H:List fq):List (List UInt8):=rH 0 H
theorem ZZ:∀ (k:Nat) (H:List fq) (b:fq),rH k (H++[b])=rH k H++[(gF (k+H.length) b.ds b.l).data.toList]
 | k,[],b=>rfl
 | k,a::H,b=>by
  show _::rH (k+1) (H++[b])=(_::rH (k+1) H)++_;rw[ZZ (k+1) H b,List.cons_append,lCq,show k+(H.length+1)=k+1+H.length by omega]
theorem amH (H:List fq) (b:fq):texts (H++[b])=texts H++[(gF H.length b.ds b.l).data.toList]:=by
 unfold texts;rw[ZZ,Nat.zero_add]
structure rG (b:fq):Prop where
 ZU:b.ds.Pairwise (· < ·)
 few:∀ d∈b.ds,d<6
 asks:∀ a∈b.l,bg.ac a=0
 len:b.l.length<=12
theorem Z0 (aU:Nat->Bool):∀ k,(d6 aU k).Pairwise (· < ·)
 | 0=>List.Pairwise.nil
 | k+1=>by
  rw[d6,List.pairwise_append];refine⟨Z0 aU k,by split <;> simp,fun a ha b hb=>?_⟩;have h1:=(IW aU k).2 a ha;split at hb
  .rw[List.mem_singleton.1 hb];exact h1
  .cases hb
theorem Z1 {n:Nat}:∀ (l:List Nat) (lo:Nat),l.Pairwise (· < ·)->(∀ d∈l,lo<=d/\d<n)->l.length<=n-lo
 | [],_,_,_=>Nat.zero_le _
 | a::l,lo,hp,hn=>by
  obtain⟨h1,h2⟩:=List.pairwise_cons.1 hp;have h3:=hn a mSq;have h4:=Z1 l (a+1) h2 (fun d hd=>⟨h1 d hd,(hn d (mOq _ hd)).2⟩);rw[lCq];omega
theorem rG.PQ {b:fq} (hb:rG b):b.ds.length<=6:=Z1 b.ds 0 hb.ZU (fun d hd=>⟨Nat.zero_le _,hb.few d hd⟩)
structure dv (wd h seed:Int) (S0:St) (H:List fq) (S:St):Prop where
 eD:vI S (replay wd h seed S0 H)
 len:S.bt=H.length
 ok:∀ b∈H,rG b
 tp:∃ tail,S.tp=bC.recs (texts H)++tail/\bC.first tail=none/\(S.down=false->tail=[])
 q:∀ c,c<6->∀ a∈S.Q c,bg.ac a=0
 tn:S.t<6
variable {S0:St} {H:List fq}
theorem dv.hear (I:dv wd h seed S0 H S) {n:Nat} (hn:n<6) (f:ByteArray):dv wd h seed S0 H (jM S n f):=by
 unfold jM;split
 .split
  .rename_i hd ht
   generalize cA f=a at *;have hac:bg.ac a=0:=by
    unfold takeC at ht;split at ht
    .unfold bg.tc at ht
     split at ht
     .assumption
     .assumption
    .cases ht
   split
   .refine⟨⟨I.eD.L,I.eD.pf,I.eD.n,I.eD.bt⟩,I.len,I.ok,I.tp,fun c hc x hx=>?_,I.tn⟩
    have hx':x∈ay.ji S.Q a c:=hx;unfold ay.ji at hx';split at hx'
    .unfold ay.upd at hx'
     split at hx'
     .rename_i e
      rcases List.mem_append.1 hx' with h1 | h1
      .rw[<- e]at h1;exact I.q c hc x h1
      .rw[List.mem_singleton.1 h1];exact hac
     .exact I.q c hc x hx'
    .exact I.q c hc x hx'
   .split
    .refine⟨⟨I.eD.L,I.eD.pf,I.eD.n,I.eD.bt⟩,I.len,I.ok,I.tp,fun c hc x hx=>?_,I.tn⟩
     have hx':x∈ay.nH S.Q n c:=hx;rw[IA _ hn]at hx';split at hx'
     .cases hx'
     .exact I.q c hc x hx'
    .exact⟨⟨I.eD.L,I.eD.pf,I.eD.n,I.eD.bt⟩,I.len,I.ok,I.tp,I.q,I.tn⟩
  .exact I
 .exact I
theorem dv.hears (I:dv wd h seed S0 H S) {n:Nat} (hn:n<6) (b:ByteArray):∀ k,dv wd h seed S0 H (cZ S n b k)
 | 0=>I
 | k+1=>(dv.hears I hn b k).hear hn _
theorem dv.feed (I:dv wd h seed S0 H S) (n:Int) (b:ByteArray):dv wd h seed S0 H (eN S n b):=by
 unfold eN;split
 .exact I
 .rename_i hc
  have hn:n.toNat<6:=by
   have:ah.aG n 0 5=true:=by
    cases hw:ah.aG n 0 5 with
    | true=>rfl
    | false=>exact absurd (.inr hw) hc
   unfold ah.aG at this;simp at this;omega
  exact dv.hears (S:=gp S n.toNat (S.az n.toNat++b)) ⟨⟨I.eD.L,I.eD.pf,I.eD.n,I.eD.bt⟩,I.len,I.ok,I.tp,I.q,I.tn⟩ hn _ _
theorem dv.hang (I:dv wd h seed S0 H S) {n:Nat} (hn:n<6):dv wd h seed S0 H (hang S n):=by
 unfold af.hang;split
 .refine⟨⟨I.eD.L,I.eD.pf,I.eD.n,I.eD.bt⟩,I.len,I.ok,I.tp,fun c hc x hx=>?_,I.tn⟩
  have hx':x∈ay.nH S.Q n c:=hx;rw[IA _ hn]at hx';split at hx'
  .cases hx'
  .exact I.q c hc x hx'
 .exact I
theorem dv.hangs (I:dv wd h seed S0 H S):∀ k,k<=6->dv wd h seed S0 H (hangs S k)
 | 0,_=>I
 | k+1,hk=>(dv.hangs I k (by omega)).hang (by omega)
theorem dv.cg (I:dv wd h seed S0 H S):dv wd h seed S0 H (cg S) :=
 dv.hangs (S:={ S with now:=S.now+1 }) ⟨⟨I.eD.L,I.eD.pf,I.eD.n,I.eD.bt⟩,I.len,I.ok,I.tp,I.q,I.tn⟩ 6 (lRq _)
theorem Z2 (s:ByteArray):(bC.rec s.data.toList).length=12+s.size:=by rw[bC.vg];rfl
theorem dv.amI (I:dv wd h seed S0 H S) (hd:S.down=false) (hb:S.bt<=1000000):∃ H',dv wd h seed S0 H' (vy wd h seed S)/\(H'=H\/H'=H++[⟨d6 S.aU 6,ay.out S.Q S.t⟩]):=by
 have hsz:(dO S).size<=980:=by
  obtain⟨h1,h2⟩:=IW S.aU 6;exact PR S.bt _ _ hb h2 h1 (wX S.Q S.t 6)
 obtain⟨tail,e1,e2,e3⟩:=I.tp;have e4:=e3 hd;subst e4;rw[aNq]at e1;unfold vy;split
 .rename_i hap
  refine⟨H++[⟨d6 S.aU 6,ay.out S.Q S.t⟩],?_,.inr rfl⟩;have hbk:rG ⟨d6 S.aU 6,ay.out S.Q S.t⟩:=⟨Z0 _ _,(IW S.aU 6).2,fun a ha=>by
   obtain⟨c,hc,ha⟩:=Y4 I.tn 6 (lRq _) a ha;exact I.q c hc a ha,wX S.Q S.t 6⟩
  have hA:∀ s,(bT (af.cp S) s).L=S.L/\(bT (af.cp S) s).pf=S.pf/\(bT (af.cp S) s).n=S.n/\(bT (af.cp S) s).bt=S.bt/\(bT (af.cp S) s).Q=(af.cp S).Q/\(bT (af.cp S) s).t=(af.cp S).t/\(bT (af.cp S) s).down=S.down:=fun s=>by
   unfold bT;split <;> exact⟨rfl,rfl,rfl,rfl,rfl,rfl,rfl⟩
  obtain⟨a1,a2,a3,a4,a5,a6,a7⟩:=hA (dO S);have amJ:vI (bT (af.cp S) (dO S)) (af.cp { replay wd h seed S0 H with now:=(replay wd h seed S0 H).now+3 }) :=
   ⟨a1.trans I.eD.L,a2.trans I.eD.pf,a3.trans I.eD.n,a4.trans I.eD.bt⟩
  refine⟨?_,?_,fun b hb'=>?_,⟨[],?_,rfl,fun _=>rfl⟩,?_,?_⟩
  .rw[ZY];exact(amJ.ran (d6 S.aU 6) (ay.out S.Q S.t)).1
  .show (bT (af.cp S) (dO S)).bt+1=_
   rw[a4,I.len,lAq];rfl
  .rcases List.mem_append.1 hb' with h1 | h1
   .exact I.ok b h1
   .rw[List.mem_singleton.1 h1];exact hbk
  .show (bT (af.cp S) (dO S)).tp=_
   rw[aNq,amH,bC.Oi,<- e1,<- I.len];unfold l6 at hap;simp only[Bool.and_eq_true,Bool.or_eq_true,Bool.not_eq_true',decide_eq_true_eq]at hap;unfold bT;rw[if_neg (by rw[hap.1];decide)];show S.tp++(if S.cut=true then (bC.rec (dO S).data.toList).take S.left else bC.rec (dO S).data.toList)=S.tp++bC.rec (dO S).data.toList;split
   .rename_i hcut
    have h1:12+(dO S).size<=S.left:=by
     rcases hap.2 with h2 | h2
     .exact absurd hcut (by rw[show S.cut=false from h2];decide)
     .exact h2
    rw[List.take_of_length_le (by rw[Z2];exact h1)]
   .rfl
  .intro c hc x hx
   have hx':x∈(bT (af.cp S) (dO S)).Q c:=hx;rw[a5]at hx';exact I.q c hc x ((Y5 I.tn c).1 x hx')
  .show (bT (af.cp S) (dO S)).t<6
   rw[a6];exact ay.wW _ _
 .rename_i hap
  refine⟨H,?_,.inl rfl⟩;have hA:∀ s,(bT (af.cp S) s).L=S.L/\(bT (af.cp S) s).pf=S.pf/\(bT (af.cp S) s).n=S.n/\(bT (af.cp S) s).bt=S.bt/\(bT (af.cp S) s).Q=(af.cp S).Q/\(bT (af.cp S) s).t=(af.cp S).t:=fun s=>by
   unfold bT;split <;> exact⟨rfl,rfl,rfl,rfl,rfl,rfl⟩
  obtain⟨a1,a2,a3,a4,a5,a6⟩:=hA (dO S);refine⟨⟨a1.trans I.eD.L,a2.trans I.eD.pf,a3.trans I.eD.n,a4.trans I.eD.bt⟩,a4.trans I.len,I.ok,?_,?_,?_⟩
  .show ∃ tail,(bT (af.cp S) (dO S)).tp=bC.recs (texts H)++tail/\bC.first tail=none/\(true=false->tail=[])
   unfold bT;split
   .exact⟨[],by rw[aNq];exact e1,rfl,fun hf=>by cases hf⟩
   .rename_i hfl
    have amK:full (af.cp S) (dO S)=false:=by simpa using hfl
    have hcl:S.cut=true/\S.left<12+(dO S).size:=by
     have:l6 (af.cp S) (dO S)=false:=by simpa using hap
     unfold l6 at this;rw[amK]at this;have h2:(!S.cut || decide (12+(dO S).size<=S.left))=false:=by rw[Bool.not_false,Bool.true_and]at this;exact this
     simp only[Bool.or_eq_false_iff,Bool.not_eq_false',decide_eq_false_iff_not]at h2;exact⟨h2.1,by omega⟩
    refine⟨(bC.rec (dO S).data.toList).take S.left,?_,?_,fun hf=>by cases hf⟩
    .show S.tp++(if S.cut=true then (bC.rec (dO S).data.toList).take S.left else bC.rec (dO S).data.toList)=_
     rw[if_pos hcl.1,e1]
    .refine bC.ajE (dO S).data.toList _ (show (dO S).size<=10000 by omega) (List.take_prefix _ _) ?_
     rw[lKq,Z2];omega
  .intro c hc x hx
   have hx':x∈(bT (af.cp S) (dO S)).Q c:=hx;rw[a5]at hx';exact I.q c hc x ((Y5 I.tn c).1 x hx')
  .show (bT (af.cp S) (dO S)).t<6
   rw[a6];exact ay.wW _ _
theorem dv.tick (I:dv wd h seed S0 H S) (hb:S.bt<=1000000):∃ H',dv wd h seed S0 H' (ei wd h seed S)/\H <+: H':=by
 unfold ei;split
 .exact⟨H,I,List.prefix_rfl⟩
 .rename_i hd
  split
  .have vz:(af.cg S).down=false:=by rw[show (af.cg S).down=S.down from(xO _ 6).2.2.1];simpa using hd
   obtain⟨H',h1,h2⟩:=I.cg.amI vz (by rw[show (af.cg S).bt=S.bt from(xO _ 6).2.1];exact hb);refine⟨H',h1,?_⟩;rcases h2 with h2 | h2
   .rw[h2];exact List.prefix_rfl
   .rw[h2];exact List.prefix_append _ _
  .exact⟨H,I.cg,List.prefix_rfl⟩
end af
section
open Go.RowKit
section
variable {w W:World} {ad:Nat->Addr} {B:bP} {X:bX} {wd h seed:Int} {S:af.St}
theorem amQ (ds:List Nat) (l:List Ask) (bM va:Value) (based rz:Nat) (W:World) (H:Hid (aD w W B X wd h seed S)) (hs:Hid (bO w ad)) (hall:Hid (dU S.L S.pf S.n wd h)) (hbt:S.bt<=1000000) (Ph:S.now<=10000000)
  (hrd:Hid (W.ownsRow based 3 1 bM ds.length (kg ds))) (ib:Hid (W.ownsRow rz 95 8 va l.length (bm l))) (hna:Hid (∀ k,va.ownBlock=some k->¬ dH B X k)) (zJ:Hid (∀ d∈ds,d<6)) (hdl:ds.length<=6) (hal:l.length<=12) :
  Calls Tryz.prog 104 #[Qc B.V,bM,va] W fun e w'=>e=.returned (.tuple #[])/\∃ X',aD w w' B X' wd h seed (af.oa wd h seed S ⟨ds,l⟩)/\bf W w' B X X'/\dU (af.oa wd h seed S ⟨ds,l⟩).L (af.oa wd h seed S ⟨ds,l⟩).pf (af.oa wd h seed S ⟨ds,l⟩).n wd h:=by
 obtain⟨h2,hs2⟩:=H.out.YN (S.now+3);rw[show ((S.now+3:Nat):Int)=(S.now:Int)+3 by push_cast;rfl]at h2 hs2;have aax:=H.out.Dj (j:=34) (u:=Qa ((S.now:Int)+3)) hrd.out (by decide);have aay:=H.out.Dj (j:=34) (u:=Qa ((S.now:Int)+3)) ib.out (by decide);have H2:=hDq h2;have HS2:=hDq hs2;have HD2:=hDq aax;have cz:=hDq aay;clear h2 hs2 aax aay;have c34:W.cell? (Qb B.V 34)=some (Qa S.now):=H.out.at 34;have fz:∀ j,W.frozen? (Qb B.V j)=false:=fun j=>H.out.free j;have Y3:B.V<W.heap.size:=H.out.lt;have c2:W.cell? (Qb B.V 2)=some (Qc B.q):=H.out.at 2;go_enter Tryz.func104,Tryz.ntmps104
 go_wp2_with fail
 generalize W.setCell (Qb B.V 34) (Qa ((S.now:Int)+3))=w2 at *;refine(Uk _ H2.out.it).mono ?_;rintro e w3 ⟨d3,am2,rfl,_,bQ,aaz,_⟩;obtain⟨h3,hs3⟩:=H2.out.take bQ aaz;have H3:Hid (aD w w3 B { X with qv:=am2 } wd h seed (af.cp { S with now:=S.now+3 })):=h3;have cK:=hDq (HS2.out.trans hs3);have HD3:=hDq (hs3.row H2.out HD2.out (by decide));have jE:Hid (w3.ownsRow rz 95 8 va l.length (bm l)):=eM cz.out hs3.turned (fun k hk=>hna.out k hk);have vF:=hDq (YP ds l bM va based rz w3 H3 hs hall hbt HD3 jE zJ hdl hal);clear bQ aaz h3 hs3 c34 fz c2 Y3;simp only[]
 go_wp2_with fail
 refine vF.out.mono ?_;rintro e w4 ⟨v4,rE,rfl,h4,dm,_,zO,_,_⟩;have ee:=hDq h4;have cq:=hDq (cK.out.trans dm);have eB:=hDq zO;clear h4 dm zO vF;simp only[];go_wp2;go_end0;exact⟨rfl,rE,ee.out,cq.out,eB.out⟩
end
end
namespace af
variable {wd h seed:Int}
def wc (S:St) (c:Bool) (x:Nat):St:={ S with cut:=c,left:=x }
theorem dv.ticks {S0 S:St} {H:List fq} (I:dv wd h seed S0 H S):∀ k,S.bt+k<=1000000->∃ H',dv wd h seed S0 H' (tx wd h seed S k)/\H <+: H'/\(tx wd h seed S k).bt<=S.bt+k
 | 0,_=>⟨H,I,List.prefix_rfl,lRq _⟩
 | k+1,hk=>by
  obtain⟨H1,h1,h2,h3⟩:=dv.ticks I k (by omega);obtain⟨H2,h4,h5⟩:=h1.tick (by omega);refine⟨H2,h4,h2.trans h5,?_⟩;have e1:=h4.len;show (ei wd h seed (tx wd h seed S k)).bt<=_;have:(ei wd h seed (tx wd h seed S k)).bt<=(tx wd h seed S k).bt+1:=by
   generalize tx wd h seed S k=T at *;have hb:∀ s,(bT (af.cp (af.cg T)) s).bt=T.bt:=fun s=>by
    have:(af.cg T).bt=T.bt:=(xO _ 6).2.1;unfold bT;split
    .exact this
    .exact this
   unfold ei;split
   .omega
   .split
    .unfold vy
     split
     .show (bT (af.cp (af.cg T)) (dO (af.cg T))).bt+1<=_
      rw[hb];omega
     .show (bT (af.cp (af.cg T)) (dO (af.cg T))).bt<=_
      rw[hb];omega
    .rw[show (af.cg T).bt=T.bt from(xO _ 6).2.1];omega
  omega
theorem agA (ref cash stock:Int):dv wd h seed (init ref cash stock) [] (init ref cash stock) :=
 ⟨vI.refl _,rfl,fun _ hb=>(by cases hb),⟨[],rfl,rfl,fun _=>rfl⟩,fun _ _ _ ha=>(by cases ha),(show 0<6 by decide)⟩
end af
section
open Go.RowKit
section
variable {w W:World} {ad:Nat->Addr} {B:bP} {X:bX} {wd h seed:Int} {S:af.St}
end
section
variable {w W:World} {ad:Nat->Addr}
theorem US:Fl.Fits 20000 100:=by constructor <;> decide
def af.S0:af.St:=af.init 100 20000 100
theorem ME:af.Ok 0 10 2 af.S0:=akJ 100 20000 100 (by decide) (by decide) US
end
def al7:af.cy:=⟨0,⟨#[]⟩,0,0,0,0⟩
def rF (l:List af.cy) (i:Nat):af.cy:=l.getD i al7
def zM (w:World) (b o:Nat) (l:List af.cy):Prop:=∀ i,i<l.length->w.cell? ⟨b,o+i*6,none⟩=some (Qa (rF l i).c)/\w.cell? ⟨b,o+i*6+1,none⟩=some (.string (rF l i).k)/\w.cell? ⟨b,o+i*6+2,none⟩=some (Qa (rF l i).id)/\w.cell? ⟨b,o+i*6+3,none⟩=some (Qa (rF l i).pr)/\w.cell? ⟨b,o+i*6+4,none⟩=some (Qa (rF l i).q)/\w.cell? ⟨b,o+i*6+5,none⟩=some (Qa (rF l i).cd)
theorem zM.later {w w':World} {b o:Nat} {l:List af.cy} (h:zM w b o l) (hb:Qd w w'):zM w' b o l:=fun i hi=>by
 obtain⟨h0,h1,h2,h3,h4,h5⟩:=h i hi;exact⟨cell_later hb h0,cell_later hb h1,cell_later hb h2,cell_later hb h3,cell_later hb h4,cell_later hb h5⟩
theorem Zv:∀ (l:List af.cy) (i j:Nat),i<l.length->j<6->(gZ l)[i*6+j]?=(mJ (rF l i))[j]?
 | [],i,j,h,_=>by cases h
 | x::l,0,j,_,hj=>by
  unfold gZ;rw[List.flatMap_cons,List.getElem?_append_left (by simpa [mJ] using by omega)];simp[rF]
 | x::l,i+1,j,h,hj=>by
  have ih:=Zv l i j (by simpa using h) hj;unfold gZ at *;rw[List.flatMap_cons,List.getElem?_append_right (by simp[mJ];omega)];have e:(i+1)*6+j-(mJ x).length=i*6+j:=by simp[mJ];omega
  rw[e,ih];rfl
theorem Py {w:World} {base:Nat} {v:Value} {l:List af.cy} (h:iI w base v l):(v=.slice none 0 0/\l=[])\/∃ g cap,v=.slice (some (Qb g 0)) l.length cap/\zM w g 0 l:=by
 have h':w.ownsRow base 121 6 v l.length (gZ l):=h;rcases h'.2 with ⟨e,e2⟩ | ⟨g,cap,cur,e,hg,dX,hle,_,_,_⟩
 .exact .inl ⟨e,List.eq_nil_of_length_eq_zero e2⟩
 .have key:∀ i j u,i<l.length->j<6->(mJ (rF l i))[j]?=some u->w.cell? ⟨g,0+i*6+j,none⟩=some u:=fun i j u hi hj hu=>by
   have:=World.ownsRow.cells h' (g:=g) (by rw[e];rfl) (i*6+j) u (by rw[Zv l i j hi hj];exact hu)
   have hp:(⟨g,0,none⟩:Addr).add (i*6+j)=⟨g,0+i*6+j,none⟩:=by unfold Addr.add;split <;> simp_all
   rwa [hp]at this
  refine .inr ⟨g,cap,e,fun i hi=>⟨?_,?_,?_,?_,?_,?_⟩⟩
  .exact key i 0 _ hi (by decide) rfl
  .exact key i 1 _ hi (by decide) rfl
  .exact key i 2 _ hi (by decide) rfl
  .exact key i 3 _ hi (by decide) rfl
  .exact key i 4 _ hi (by decide) rfl
  .exact key i 5 _ hi (by decide) rfl
theorem Pz (c1 c2:Nat) (a1 a2:Option Addr) (w:World):Calls Tryz.prog 22 #[.slice a1 0 c1,.slice a2 0 c2] w fun e w'=>e=.returned (Qa 1)/\Qd w w':=by
 go_enter Tryz.func22,Tryz.ntmps22;go_wp2;refine wp_loop_rounds 1 ?_;rw[rounds_succ];go_wp2;go_ret;exact⟨rfl,bRq _ _⟩
theorem al8 (b1 o1 b2 o2 c1 c2 n:Nat) (l:List af.cy) (w:World) (hn:n<=10000000) (hl:Hid (l.length=n)) (h1:Hid (zM w b1 o1 l)) (h2:Hid (zM w b2 o2 l)) :
  Calls Tryz.prog 22 #[.slice (some (Qb b1 o1)) n c1,.slice (some (Qb b2 o2)) n c2] w fun e w'=>e=.returned (Qa 1)/\Qd w w':=by
 go_enter Tryz.func22,Tryz.ntmps22;go_wp2
 go_loopw [5] (fun i wr=>∃ k:Nat,k<=n/\i=Qa k/\Qd w wr) (fun i _=>n-(intOf i).toNat)
 case atStart=>exact⟨0,by omega,rfl,bRq _ _⟩
 case round =>
  obtain⟨k,hk,rfl,hb⟩:=hrel;have HB:=hDq hb;clear hb;by_cases hlt:k<n
  .obtain⟨c0,c1,c2,c3,c4,c5⟩:=(h1.out.later HB.out) k (by rw[hl.out];exact hlt)
   obtain⟨d0,d1,d2,d3,d4,d5⟩:=(h2.out.later HB.out) k (by rw[hl.out];exact hlt);have aX:(k:Int)<n:=by omega
   generalize rF l k=x at *;go_wp2
   go_quiet (fail)
   go_wp2;exact⟨⟨k+1,by omega,by go_num,HB.out.trans ((dL nq).mono HB.out.size)⟩,by simp[intOf];omega⟩
  .go_wp2
   go_ret;exact⟨rfl,HB.out⟩
theorem agC {base base':Nat} (v1 v2:Value) (l:List af.cy) (w:World) (hn:l.length<=10000000) (h1:iI w base v1 l) (h2:iI w base' v2 l) :
  Calls Tryz.prog 22 #[v1,v2] w fun e w'=>e=.returned (Qa 1)/\Qd w w':=by
 rcases Py h1 with ⟨rfl,e⟩ | ⟨g1,c1,rfl,a1⟩
 .rcases Py h2 with ⟨rfl,_⟩ | ⟨g2,c2,rfl,a2⟩
  .exact Pz _ _ _ _ w
  .subst e;exact Pz _ _ _ _ w
 .rcases Py h2 with ⟨rfl,e⟩ | ⟨g2,c2,rfl,a2⟩
  .subst e;exact Pz _ _ _ _ w
  .exact al8 g1 0 g2 0 c1 c2 _ l w hn rfl a1 a2
end
end Go.Proofs.YtjolccidheflpaaGreatDoor
