/- Own. -/
import Derived.Test.YtjolccidheflpaaGreatDoorU37
import Derived.Lib.ItoaLen
import Derived.Shelf.Strconv.AppendIntPublic10
import Derived.Test.YtjolccidheflpaaGreatDoorU30
import Derived.Test.YtjolccidheflpaaGreatDoorU03
import Derived.Test.YtjolccidheflpaaGreatDoorU09
import Derived.Test.YtjolccidheflpaaGreatDoorU32
import Derived.Test.YtjolccidheflpaaGreatDoorU00
import Derived.Test.YtjolccidheflpaaGreatDoorU24
namespace Go.Proofs.YtjolccidheflpaaGreatDoor
set_option maxHeartbeats 8000000
open Go.Shelf Go.RowKit
def ajM:Go.Shelf.Ren:=⟨fun | 176=>137 | 249=>185 | 288=>213 | 283=>240 | 284=>241 | 285=>242 | 286=>243 | 129=>274 | 317=>273 | 318=>275 | 319=>276 | 320=>277 | 337=>296 | 338=>297 | n=>n,fun | 37=>115 | 2=>2 | 3=>3 | 53=>330 | 4=>4 | 9=>9 | 171=>353 | 0=>0 | 173=>356 | 212=>396 | 51=>41 | 5=>5 | 20=>20 | 213=>397 | 46=>245 | 232=>425 | 233=>426 | n=>n,fun | 17=>18 | 18=>19 | 19=>20 | n=>n⟩
theorem ajN:Go.Proofs.LaysM.n176 Tryz.prog ajM:={
 mixed:=by kernel_rfl
 f129:=Tryz.func274.trans (congrArg some (by kernel_rfl))
 f176:=Tryz.func137.trans (congrArg some (by kernel_rfl))
 f249:=Tryz.func185.trans (congrArg some (by kernel_rfl))
 f283:=Tryz.func240.trans (congrArg some (by kernel_rfl))
 f284:=Tryz.func241.trans (congrArg some (by kernel_rfl))
 f285:=Tryz.func242.trans (congrArg some (by kernel_rfl))
 f286:=Tryz.func243.trans (congrArg some (by kernel_rfl))
 f288:=Tryz.func213.trans (congrArg some (by kernel_rfl))
 f317:=Tryz.func273.trans (congrArg some (by kernel_rfl))
 f318:=Tryz.func275.trans (congrArg some (by kernel_rfl))
 f319:=Tryz.func276.trans (congrArg some (by kernel_rfl))
 f320:=Tryz.func277.trans (congrArg some (by kernel_rfl))
 f337:=Tryz.func296.trans (congrArg some (by kernel_rfl))
 f338:=Tryz.func297.trans (congrArg some (by kernel_rfl))
 t0:=Tryz.underlying0
 a0:=Tryz.isAgg0
 z0:=Tryz.sizeOf0
 v0:=Tryz.zeroValue0
 t2:=Tryz.underlying2
 a2:=Tryz.isAgg2
 z2:=Tryz.sizeOf2
 v2:=Tryz.zeroValue2
 t3:=Tryz.underlying3
 a3:=Tryz.isAgg3
 z3:=Tryz.sizeOf3
 v3:=Tryz.zeroValue3
 t4:=Tryz.underlying4
 a4:=Tryz.isAgg4
 z4:=Tryz.sizeOf4
 v4:=Tryz.zeroValue4
 t5:=Tryz.underlying5
 a5:=Tryz.isAgg5
 z5:=Tryz.sizeOf5
 v5:=Tryz.zeroValue5
 t9:=Tryz.underlying9
 a9:=Tryz.isAgg9
 z9:=Tryz.sizeOf9
 v9:=Tryz.zeroValue9
 t20:=Tryz.underlying20
 a20:=Tryz.isAgg20
 z20:=Tryz.sizeOf20
 v20:=Tryz.zeroValue20
 t37:=Tryz.underlying115
 a37:=Tryz.isAgg115
 z37:=Tryz.sizeOf115
 v37:=Tryz.zeroValue115
 t46:=Tryz.underlying245
 a46:=Tryz.isAgg245
 z46:=Tryz.sizeOf245
 v46:=Tryz.zeroValue245
 t51:=Tryz.underlying41
 a51:=Tryz.isAgg41
 z51:=Tryz.sizeOf41
 v51:=Tryz.zeroValue41
 t53:=Tryz.underlying330
 a53:=Tryz.isAgg330
 z53:=Tryz.sizeOf330
 v53:=Tryz.zeroValue330
 t171:=Tryz.underlying353
 a171:=Tryz.isAgg353
 z171:=Tryz.sizeOf353
 v171:=Tryz.zeroValue353
 t173:=Tryz.underlying356
 a173:=Tryz.isAgg356
 z173:=Tryz.sizeOf356
 v173:=Tryz.zeroValue356
 t212:=Tryz.underlying396
 a212:=Tryz.isAgg396
 z212:=Tryz.sizeOf396
 v212:=Tryz.zeroValue396
 t213:=Tryz.underlying397
 a213:=Tryz.isAgg397
 z213:=Tryz.sizeOf397
 t232:=Tryz.underlying425
 a232:=Tryz.isAgg425
 z232:=Tryz.sizeOf425
 v232:=Tryz.zeroValue425
 t233:=Tryz.underlying426
 a233:=Tryz.isAgg426
 z233:=Tryz.sizeOf426
 v233:=Tryz.zeroValue426
 g17:=by kernel_rfl
 g18:=by kernel_rfl
 g19:=by kernel_rfl
 i0:=by kernel_rfl
 i2:=by kernel_rfl
 i3:=by kernel_rfl
 i4:=by kernel_rfl
 i5:=by kernel_rfl
 i9:=by kernel_rfl
 i20:=by kernel_rfl
 i37:=by kernel_rfl
 i46:=by kernel_rfl
 i51:=by kernel_rfl
 i53:=by kernel_rfl
 i171:=by kernel_rfl
 i173:=by kernel_rfl
 i212:=by kernel_rfl
 i232:=by kernel_rfl
 i233:=by kernel_rfl
 m17:=by kernel_rfl
 m18:=by kernel_rfl
 m19:=by kernel_rfl }
theorem Xt (B:Nat) (i:Int) (h0:-9223372036854775808<=i) (h1:i<=9223372036854775807) (sv:Value) (xs:List Int) (w:World) (hown:Row w B sv xs) (ajO:B<=w.heap.size) (hl:xs.length<=1000000)
  (htab:Lib.TabBelow Tryz.prog B w "internal/strconv.uint64pow10" .u64 Lib.pow10Tab) :
  Calls Tryz.prog 137 #[sv,.int .i64 i,.int .i64 10] w fun e w'=>∃ v',e=.returned v'/\Row w' B v' (xs++af.dec i)/\Below B w w':=by
 refine(Go.Proofs.Any.strconv_AppendInt_10 ajN B xs.length i h0 h1 sv (xs.map (Value.int .u8)) w hown ajO (by omega) htab).mono ?_;rintro e w' ⟨v',rfl,h2,h3,_⟩;refine⟨v',rfl,?_,h3⟩;show w'.ownsRow B 5 1 v' (xs++af.dec i).length ((xs++af.dec i).map (Value.int .u8));rw[lAq,List.map_append,show (af.dec i).length=(Lib.itoa i).length by unfold af.dec;rw[List.length_map],show (af.dec i).map (Value.int .u8)=Lib.byteCells (Lib.itoa i) by unfold af.dec Lib.byteCells;rw[List.map_map];rfl];exact h2
end Go.Proofs.YtjolccidheflpaaGreatDoor
namespace Go.Proofs.YtjolccidheflpaaGreatDoor
set_option maxHeartbeats 8000000
open Go.RowKit
set_option maxRecDepth 100000
theorem H9 (n:Int) (h0:-9223372036854775808<=n) (h1:n<=9223372036854775807):(af.dec n).length<=21:=by unfold af.dec;rw[List.length_map];exact Lib.itoa_length_le n h0 h1
theorem NK (a:Ask):(af.eo a).size<=30:=by
 unfold af.eo tx;split
 ·rw[strOfNums_size,ah.Ga];omega
 ·exact Nat.zero_le _
theorem H_ (ds:List Nat) (hd:∀ d∈ds,d<6):∀ k,(af.lC ds k).length<=22*k
 | 0=>by simp[af.lC]
 | k+1=>by
  have:=H_ ds hd k
  have h2:ds.getD k 0<6:=by
   rw[gE];cases h:ds[k]? with
   | none=>simp
   | some d=>exact hd d (List.mem_of_getElem? h)
  have h3:=H9 ((ds.getD k 0:Nat):Int) (by omega) (by omega);rw[af.lC,lAq,lAq];split <;> simp only[List.length_singleton,List.length_nil] <;> omega
theorem Ia (l:List Ask):∀ k,(af.nu l k).length<=61*k
 | 0=>by simp[af.nu]
 | k+1=>by
  have:=Ia l k
  have h2:=NK (bZ l k);rw[af.nu,lAq,lAq,Ob];simp;omega
section
variable {w W:World} {ad:Nat->Addr}
theorem XR {B:Nat} (ht:Lib.TabBelow Tryz.prog w.heap.size w "internal/strconv.uint64pow10" .u64 Lib.pow10Tab) (hb:Below w.heap.size w W) (hB:w.heap.size<=B):Lib.TabBelow Tryz.prog B W "internal/strconv.uint64pow10" .u64 Lib.pow10Tab :=
 fun w' h'=>ht w' (hb.trans (h'.mono hB))
theorem akh (bt:Nat) (ds:List Nat) (l:List Ask) (bK va:Value) (based qU:Nat) (W:World) (hs:Hid (bT w ad)) (ht:Hid (Lib.TabBelow Tryz.prog w.heap.size w "internal/strconv.uint64pow10" .u64 Lib.pow10Tab)) (hbw:Hid (Below w.heap.size w W)) (hbt:bt<=1000000)
  (hrd:Hid (W.ownsRow based 3 1 bK ds.length (ds.map fun d=>Value.int .i64 (d:Nat)))) (gX:Hid (W.ownsRow qU 95 8 va l.length (bl l))) (zv:Hid (∀ d∈ds,d<6)) (hdl:ds.length<=6) (hal:l.length<=12) :
  Calls Tryz.prog 79 #[.int .i64 bt,bK,va] W fun e w'=>e=.returned (.string (af.f_ bt ds l))/\Below W.heap.size W w':=by
 obtain⟨CS,Oc,ib⟩:=fH hrd.out;obtain⟨xm,CU,xo⟩:=fH gX.out;obtain⟨md,qV⟩:∃ md,ds.length=md:=⟨_,rfl⟩;obtain⟨fM,hma⟩:∃ fM,l.length=fM:=⟨_,rfl⟩;rw[qV]at hrd ib hdl;rw[hma]at gX xo hal;subst ib xo;have Od:=hDq qV;have Oe:=hDq hma;have qD:Hid (af.f_ bt ds l=strOfNums (((af.dec bt++[58])++af.lC ds md)++af.nu l fM)):=by show _=_;rw[<- qV,<- hma];rfl
 clear qV hma;have Ib:w.heap.size<=W.heap.size:=hbw.out.size;have ao5:=H9 (bt:Int) (by omega) (by omega);have HI0:=hDq (Xt W.heap.size (bt:Int) (by omega) (by omega) (.slice none 0 0) [] W (World.ownsRow_nil _ _ _ _) (lRq _) (by simp) (XR ht.out hbw.out Ib));generalize af.f_ bt ds l=rb at *;go_enter Tryz.func79,Tryz.ntmps79
 go_wp2_with fail
 refine HI0.out.mono ?_;rintro e w1 ⟨v1,rfl,hr1,hb1⟩;have oT:W.heap.size<=w1.heap.size:=hb1.size;obtain⟨v2,w2,Og,hr2,hg2⟩:=CR W.heap.size w1 v1 ([]++af.dec bt) [58] hr1 (by simp;omega) (by simp) oT;have HB2:Hid (Below W.heap.size W w2):=below_grown (hb1.alloc oT _) (World.ownsRow.alloc hr1 _) (lTq oT (by simp)) hg2;simp only[List.nil_append]at hr2;have bg:=hDq hr2;simp only[List.map_cons,List.map_nil,List.length_cons,List.length_nil]at Og;have aki:=hDq Og;clear Og hr2 hg2 hr1 hb1 HI0;simp only[]
 go_wp2_with (at_builtin;refine wpList_append_run rfl _ _ 115 rfl _ _ _ rfl rfl aki.out ?_)
 go_loopw [7,21] (fun v kv wr=>∃ k:Nat,k<=md/\kv=.int .i64 k/\Row wr W.heap.size v ((af.dec bt++[58])++af.lC ds k)/\Below W.heap.size W wr) (fun _ kv _=>md-(intOf kv).toNat)
 case atStart=>exact⟨0,by omega,rfl,by simpa [af.lC] using bg.out,HB2.out⟩
 case round =>
  obtain⟨k,hk,rfl,hrow,kq⟩:=hrel;have HR:=hDq hrow;have HB:=hDq kq;clear kq;have Oh:W.heap.size<=wr.heap.size:=HB.out.size;have akj:((af.dec bt++[58])++af.lC ds k).length<=1000:=by
   have:=H_ ds zv.out k
   simp only[List.length_append,List.length_singleton];omega
  by_cases hlt:k<md
  ·have aX:(k:Int)<md:=by omega
   have hkl:k<ds.length:=by rw[Od.out];exact hlt
   obtain⟨g,hg⟩:∃ g,CS=some ⟨g,0,none⟩:=by
    rcases hrd.out.2 with ⟨e1,_⟩ | ⟨g,cap,cur,e1,_⟩
    ·cases e1;omega
    ·simp only[Value.slice.injEq]at e1;exact⟨g,e1.1⟩
   subst hg;have M6:wr.cell? ⟨g,k,none⟩=some (.int .i64 (ds.getD k 0:Nat)):=by
    have h1:=World.ownsRow.cells (dy hrd.out HB.out) (g:=g) rfl k (.int .i64 (ds.getD k 0:Nat)) (by simp[List.getElem?_eq_getElem hkl,List.getD_eq_getElem?_getD]);have hp:(⟨g,0,none⟩:Addr).add k=⟨g,k,none⟩:=by unfold Addr.add;split <;> simp_all
    rwa [hp]at h1
   have akk:ds.getD k 0<6:=by
    rw[gE,List.getElem?_eq_getElem hkl];exact zv.out _ (List.getElem_mem hkl)
   have HN:Hid (af.lC ds (k+1)=af.lC ds k++((if 0<k then [44] else [])++af.dec ((ds.getD k 0:Nat):Int))):=rfl;generalize ds.getD k 0=d at *;have HI:=hDq (fun (v:Value) (xs:List Int) (W':World) (h1:Row W' W.heap.size v xs) (h2:xs.length<=2000) (h3:Below W.heap.size W W')=>Xt W.heap.size (d:Int) (by omega) (by omega) v xs W' h1 h3.size (by omega) (XR ht.out (hbw.out.trans (h3.mono Ib)) Ib));by_cases h0:0<k
   ·have akl:(0:Int)<k:=by omega
    rw[if_pos h0]at HN;obtain⟨v5,aC,Oi,nK,xq⟩:=CR W.heap.size wr u7 _ [44] HR.out (by omega) (by simp) Oh;have cA:Hid (Below W.heap.size W aC):=below_grown (HB.out.alloc Oh _) (World.ownsRow.alloc HR.out _) (lTq Oh (by simp)) xq;have bL:=hDq nK;simp only[List.map_cons,List.map_nil,List.length_cons,List.length_nil]at Oi;have akm:=hDq Oi;clear Oi nK xq hrow
    go_wp2_with (at_builtin;refine wpList_append_run rfl _ _ 115 rfl _ _ _ rfl rfl akm.out ?_)
    refine(HI.out _ _ _ bL.out (by simp only[List.length_append]at akj ⊢;simp;omega) cA.out).mono ?_;rintro e ai ⟨v6,rfl,oY,hb6⟩;have aS:=hDq (cA.out.trans hb6);have bA:=hDq oY;clear oY hb6;simp only[];go_wp2;refine⟨⟨k+1,hlt,by go_num,?_,aS.out⟩,by simp[intOf];omega⟩;rw[HN.out]
    have:=bA.out
    simp only[List.append_assoc]at this ⊢;exact this
   ·have akl:¬ (0:Int)<k:=by omega
    rw[if_neg h0,List.nil_append]at HN;clear hrow
    go_wp2_with fail
    refine(HI.out _ _ _ HR.out (by omega) HB.out).mono ?_;rintro e ai ⟨v6,rfl,oY,hb6⟩;have aS:=hDq (HB.out.trans hb6);have bA:=hDq oY;clear oY hb6;simp only[];go_wp2;refine⟨⟨k+1,hlt,by go_num,?_,aS.out⟩,by simp[intOf];omega⟩;rw[HN.out]
    have:=bA.out
    simp only[List.append_assoc]at this ⊢;exact this
  ·have aX:¬ (k:Int)<md:=by omega
   obtain rfl:k=md:=by omega
   obtain⟨fV,hwo⟩:∃ fV,fV=wr:=⟨_,rfl⟩;subst hwo;obtain⟨XT,akn⟩:∃ XT,XT=u7:=⟨_,rfl⟩;subst akn;clear hrow
   go_wp2_with fail
   go_loopw [7,37] (fun v kv wr=>∃ j:Nat,j<=fM/\kv=.int .i64 j/\Row wr W.heap.size v (((af.dec bt++[58])++af.lC ds k)++af.nu l j)/\Below W.heap.size W wr) (fun _ kv _=>fM-(intOf kv).toNat)
   case atStart=>exact⟨0,by omega,rfl,by simpa [af.nu] using HR.out,HB.out⟩
   case round =>
    obtain⟨j,hj,rfl,hrow,kq⟩:=hrel;have vd:=hDq hrow;have CV:=hDq kq;clear kq;have Oj:W.heap.size<=wr.heap.size:=CV.out.size;have ako:(((af.dec bt++[58])++af.lC ds k)++af.nu l j).length<=2000:=by
     have:=Ia l j
     rw[lAq];omega
    by_cases nz:j<fM
    ·have bC:(j:Int)<fM:=by omega
     have uP:j<l.length:=by rw[Oe.out];exact nz
     obtain⟨g,hg⟩:∃ g,xm=some ⟨g,0,none⟩:=by
      rcases gX.out.2 with ⟨e1,_⟩ | ⟨g,cap,cur,e1,_⟩
      ·cases e1;omega
      ·simp only[Value.slice.injEq]at e1;exact⟨g,e1.1⟩
     subst hg;obtain⟨d0,d1,d2,d3,d4,d5,iG,l5⟩:=zj (dy gX.out CV.out) uP nz;have jo:g<wr.heap.size:=bCq _ _ d0;have HN:Hid (af.nu l (j+1)=af.nu l j++([32]++af.lB (af.eo (bZ l j)) (af.eo (bZ l j)).size)):=rfl;generalize bZ l j=a at *;have aS:Hid (Below wr.heap.size wr (wr.alloc (.cells #[.int .u8 a.k,.int .i64 a.c,.int .i64 a.sq,.int .i64 a.it,.int .i64 a.sd,.int .i64 a.pr,.int .i64 a.q,.int .i64 a.id] 95))):=(bRq _ _).alloc (lRq _) _;have HE:=hDq (acT a.k a.c a.sq a.it a.sd a.pr a.q a.id ad (wr.alloc (.cells #[.int .u8 a.k,.int .i64 a.c,.int .i64 a.sq,.int .i64 a.it,.int .i64 a.sd,.int .i64 a.pr,.int .i64 a.q,.int .i64 a.id] 95)) (hs.out.later (hbw.out.trans ((CV.out.trans (aS.out.mono Oj)).mono Ib))));rw[show tx a.k a.c a.sq a.it a.sd a.pr a.q a.id=af.eo a from rfl]at HE;have ao6:=NK a;generalize af.eo a=fo at *;generalize gq ad (ah.code a.k a.c a.sq a.it a.sd a.pr a.q a.id)=bN at *;clear hrow
     go_wp2_with fail
     refine HE.out.mono ?_;rintro e bq ⟨rfl,kD⟩;have jC:=hDq (aS.out.trans (kD.mono aS.out.size));have fO:=hDq (dy vd.out jC.out);have Ol:W.heap.size<=bq.heap.size:=lTq Oj jC.out.size;have XU:=CV.out.trans (jC.out.mono Oj);obtain⟨v8,b9,Om,A4,xb⟩:=CR W.heap.size bq u7 _ [32] fO.out (by omega) (by simp) Ol;have jD:Hid (Below W.heap.size W b9):=below_grown (XU.alloc Ol _) (World.ownsRow.alloc fO.out _) (lTq Ol (by simp)) xb;have HD:=hDq (akf W.heap.size v8 _ fo b9 A4 (by simp only[List.length_append]at ako ⊢;simp;omega) (by omega) jD.out.size);simp only[List.map_cons,List.map_nil,List.length_cons,List.length_nil]at Om;have akp:=hDq Om;clear Om A4 xb kD HE aS d0 d1 d2 d3 d4 d5 iG l5 XU;simp only[]
     go_wp2_with (at_builtin;refine wpList_append_run rfl _ _ 115 rfl _ _ _ rfl rfl akp.out ?_)
     refine HD.out.mono ?_;rintro e gw ⟨v9,rfl,CW,je⟩;have yU:=hDq (jD.out.trans je);have rY:=hDq CW;clear CW je HD;simp only[];go_wp2;refine⟨⟨j+1,nz,by go_num,?_,yU.out⟩,by simp[intOf];omega⟩;rw[HN.out]
     have:=rY.out
     simp only[List.append_assoc]at this ⊢;exact this
    ·have bC:¬ (j:Int)<fM:=by omega
     obtain rfl:j=fM:=by omega
     have hcv:=D3 vd.out;clear hrow;go_wp2;go_ret;refine⟨?_,CV.out⟩;rw[qD.out];simp
end
section
variable {w W:World} {ad:Nat->Addr} {B:cJ} {X:cy} {wd h seed:Int} {S:af.St}
def zo (S:af.St):List Value:=[.bool (S.on 0),.int .i64 (S.aD 0),.int .i64 (S.la 0),.string (S.aO 0),.bool (S.aR 0),.bool (S.on 1),.int .i64 (S.aD 1),.int .i64 (S.la 1),.string (S.aO 1),.bool (S.aR 1),.bool (S.on 2),.int .i64 (S.aD 2),.int .i64 (S.la 2),.string (S.aO 2),.bool (S.aR 2),.bool (S.on 3),.int .i64 (S.aD 3),.int .i64 (S.la 3),.string (S.aO 3),.bool (S.aR 3),.bool (S.on 4),.int .i64 (S.aD 4),.int .i64 (S.la 4),.string (S.aO 4),.bool (S.aR 4),.bool (S.on 5),.int .i64 (S.aD 5),.int .i64 (S.la 5),.string (S.aO 5),.bool (S.aR 5)]
theorem Xu (S:af.St):(zo S).length=30:=rfl
theorem ajP (S:af.St) {k:Nat} (hk:k<6) (W:World):(Instr.index 112 (.agg (zo S).toArray) (.int .i64 k)).run Tryz.prog W=.ok (.agg #[.bool (S.on k),.int .i64 (S.aD k),.int .i64 (S.la k),.string (S.aO k),.bool (S.aR k)]) W:=by
 have:k=0\/k=1\/k=2\/k=3\/k=4\/k=5:=by omega
 unfold zo;rcases this with rfl | rfl | rfl | rfl | rfl | rfl <;> exact rfl
theorem ajQ (S:af.St):(Tryz.prog.info? 112).map (·.size)=some (zo S).length:=by rw[Xu];kernel_rfl
theorem ajR {W:World} (H:av w W B X wd h seed S):W.rangeAt B.V 4 (zo S):=by
 intro j v hv;have hj:j<30:=by
  rcases Nat.lt_or_ge j 30 with h | h
  ·exact h
  ·rw[List.getElem?_eq_none (by rw[Xu];exact h)]at hv;cases hv
 rw[H.at];rw[<- hv]
 iterate 30 (rcases j with _ | j;· rfl)
 omega
theorem ajS (wr:World) (o:Obj) (u:Value) (e:TypeId):((wr.alloc o).alloc (.cells #[u] e)).cell? ⟨wr.heap.size+1,0,none⟩=some u:=by
 have hh:=hNq (wr.alloc o) (.cells #[u] e);rw[show (wr.alloc o).heap.size=wr.heap.size+1 from Array.size_push ..]at hh;exact(cR _ _ 0 _ _ _ hh).trans rfl
theorem Xv (aR:Nat->Bool):∀ k,∀ d∈af.dO aR k,d<k
 | 0,d,h=>by cases h
 | k+1,d,h=>by
  rw[af.dO,List.mem_append]at h;rcases h with h | h
  ·have:=Xv aR k d h;omega
  ·split at h
   ·rw[List.mem_singleton.1 h];omega
   ·cases h
theorem N2 (aR:Nat->Bool):∀ k,(af.dO aR k).length<=k
 | 0=>by simp[af.dO]
 | k+1=>by
  have:=N2 aR k
  rw[af.dO,lAq];split <;> simp <;> omega
def jT (l:List Nat):List Value:=l.map fun d=>Value.int .i64 (d:Nat)
theorem Xw:∃ i,Tryz.prog.info? 3=some i/\i.zero=some (.int .i64 0)/\i.size=1/\i.bytes=8:=⟨_,rfl,rfl,rfl,rfl⟩
theorem ajT (W:World) (H:Hid (av w W B X wd h seed S)):Calls Tryz.prog 76 #[.pointer (some ⟨B.V,0,none⟩)] W fun e w'=>∃ v,e=.returned v/\w'.ownsRow W.heap.size 3 1 v (af.dO S.aR 6).length (jT (af.dO S.aR 6))/\Below W.heap.size W w':=by
 obtain⟨i3,hi,hz0,hz1,hz2⟩:=Xw;have Hi:=hDq hi;have ew:=hDq hz0;have ez:=hDq hz1;have eA:=hDq hz2;clear hi hz0 hz1 hz2;have ajU:=hDq (fun k (hk:k<6) W=>ajP S (k:=k) hk W);have Xx:=hDq (ajR H.out);have nS:=hDq (ajQ S);generalize hcc:zo S=ajV at *;go_enter Tryz.func76,Tryz.ntmps76
 go_wp2_with (refine wpList_load_mid rfl 112 _ rfl B.V 4 rfl ajV _ Xx.out Tryz.underlying112 rfl nS.out ?_)
 clear Xx nS
 go_loopw [3,10] (fun v kv wr=>∃ k:Nat,k<=6/\kv=.int .i64 k/\wr.ownsRow W.heap.size 3 1 v (af.dO S.aR k).length (jT (af.dO S.aR k))/\Below W.heap.size W wr) (fun _ kv _=>6-(intOf kv).toNat)
 case atStart=>exact⟨0,by omega,rfl,World.ownsRow_nil _ _ _ _,bRq _ _⟩
 case round =>
  obtain⟨k,hk,rfl,hrow,hb⟩:=hrel;have HR:=hDq hrow;have HB:=hDq hb;clear hrow hb;by_cases hlt:k<6
  ·have aX:(k:Int)<6:=by omega
   have zq:=fun W=>ajU.out k hlt W;have hlen:=N2 S.aR k;have HN:Hid (af.dO S.aR (k+1)=af.dO S.aR k++if S.aR k=true then [k] else []):=rfl;have cA:Hid (Below W.heap.size W (wr.alloc (.cells #[.bool (S.on k),.int .i64 (S.aD k),.int .i64 (S.la k),.string (S.aO k),.bool (S.aR k)] 111))):=HB.out.alloc HB.out.size _;have hwz:W.heap.size<=wr.heap.size:=HB.out.size;cases hd:S.aR k with
   | false =>
    rw[hd,if_neg (by decide),aNq]at HN;rw[hd]at cA zq;go_wp2;refine⟨⟨k+1,hlt,by go_num,?_,cA.out⟩,by simp[intOf];omega⟩;rw[HN.out];exact World.ownsRow.alloc HR.out _
   | true =>
    rw[hd,if_pos rfl]at HN;rw[hd]at cA zq
    go_wp2_with (at_builtin;refine wpList_append_own _ rfl _ _ 23 rfl W.heap.size 3 i3 (.int .i64 0) 1 8 Tryz.underlying23 Hi.out ew.out ez.out eA.out rfl (by decide) _ _ _ rfl (World.ownsRow.alloc (World.ownsRow.alloc HR.out _) _) ⟨wr.heap.size+1,0,none⟩ 1 1 [.int .i64 (k:Nat)] rfl rfl ?c1 ?c2 ?c3 ?c4 ?c5 ?_)
    case c1 =>
     intro j u hj;rcases j with _ | j
     ·have:u=.int .i64 (k:Nat):=by simpa using hj.symm
      subst this;exact ajS _ _ _ _
     ·simp at hj
    case c2=>intro u hu;rw[List.mem_singleton.1 hu];rfl
    case c3=>unfold maxLen;omega
    case c4=>omega
    case c5=>first | omega | (simp;omega)
    intro v6 ai hown' hgrow _;have aS:Hid (Below W.heap.size W ai):=below_grown (cA.out.alloc cA.out.size _) (World.ownsRow.alloc (World.ownsRow.alloc HR.out _) _) (lTq cA.out.size (by simp)) hgrow;have bA:Hid (ai.ownsRow W.heap.size 3 1 v6 (af.dO S.aR k++[k]).length (jT (af.dO S.aR k++[k]))):=by
     show ai.ownsRow _ _ _ _ _ _;unfold jT;rw[lAq,List.map_append];exact hown'
    clear hown' hgrow;go_wp2;refine⟨⟨k+1,hlt,by go_num,?_,aS.out⟩,by simp[intOf];omega⟩;rw[HN.out];exact bA.out
  ·have aX:¬ (k:Int)<6:=by omega
   obtain rfl:k=6:=by omega
   go_wp2;go_ret;exact⟨_,rfl,HR.out,HB.out⟩
end
section
variable {w W W' W1:World} {ad:Nat->Addr} {b0 q:Nat} {B:cJ} {X X' X1 X2:cy} {wd h seed:Int} {S:af.St} {vp vr:Value} {r:af.di}
theorem bR.begin (H:av w W B X wd h seed S) (ha:d_ S.L S.pf S.n wd h) :
  bR w W.heap.size (W.alloc (.cells #[.pointer (some ⟨B.F,0,none⟩),.slice none 0 0,.slice none 0 0] 240)) B X wd h seed S W.heap.size (.slice none 0 0) (.slice none 0 0) (af.start S) :=
 ⟨H.later ((bRq _ _).alloc (lRq _) _),hNq _ _,World.ownsRow_nil _ _ _ _,World.ownsRow_nil _ _ _ _,lRq _,lTq H.lo (Nat.le_of_lt H.lt),by simp,
  fun c hc k hk=>(H.fe (.inr (.inr (.inr (.inl (.inr ⟨c,hc,hk⟩)))))).2,ha⟩
theorem av.CX {base:Nat} {e:TypeId} {sz n j:Nat} {v u:Value} {xs:List Value} (H:av w W B X wd h seed S) (hr:W.ownsRow base e sz v n xs) (he:e≠114):(W.setCell ⟨B.V,j,none⟩ u).ownsRow base e sz v n xs :=
 fR hr (aJ.setCell W B.V j u) (fun k hk e1=>by
  obtain⟨_,cur,h2⟩:=ep hr hk;exact aF h2 H.blk he e1)
theorem bR.XV {S':af.St} {j:Nat} {u:Value} (R:bR w b0 W B X wd h seed S q vp vr r) (hv:av w (W.setCell ⟨B.V,j,none⟩ u) B X wd h seed (xt S' r)):bR w b0 (W.setCell ⟨B.V,j,none⟩ u) B X wd h seed S' q vp vr r:=by
 refine⟨hv,?_,R.bP.CX R.pl (by decide),R.bP.CX R.rp (by decide),R.lo,R.ma,lTq R.hib (by simp),R.w7,R.all⟩;rw[(aJ.setCell W B.V j u).block q (lBq R.blk) (aF R.blk R.bP.blk (by decide))];exact R.blk
theorem bR.akq (R:bR w b0 W B X wd h seed S q vp vr r) {c:Nat} (hc:c<6):bR w b0 (W.setCell ⟨B.V,4+c*5+4,none⟩ (.bool false)) B X wd h seed { S with aR:=upd S.aR c false } q vp vr r/\aV W (W.setCell ⟨B.V,4+c*5+4,none⟩ (.bool false)) B X X:=by
 obtain⟨f1,f2⟩:=R.bP.set (S':=xt { S with aR:=upd S.aR c false } r) hc (j:=4) (by decide) (.bool false) (fun c' j' _ iE=>N0 (xt S r) (xt { S with aR:=upd S.aR c false } r) c false rfl rfl rfl rfl rfl c' j' iE) rfl rfl rfl ⟨rfl,rfl,rfl,rfl,rfl,rfl,rfl,rfl⟩;exact⟨R.XV f1,f2⟩
theorem ck.after (hs:aV W W1 B X X1) (hf:ck W1 W' W.heap.size B X1 X2):aV W W' B X X2:=by
 refine⟨hs.turned.trans hf.turned (fun k hk=>?_),fun k hk=>?_⟩
 ·rcases hk with hk | hk
  ·exact hs.new k (by
    rcases hk with e | e
    ·exact .inr (.inl e)
    ·exact .inr (.inr (.inl e)))
  ·exact .inr hk
 ·have h1:eT B X1 k\/W1.heap.size<=k:=by
   rcases hk with e | e | e | e | e | e
   ·exact .inl (.inl e)
   ·exact .inl (.inr (.inl e))
   ·rcases hf.new k (.inr e) with h1 | h1
    ·rcases h1 with h1 | h1
     ·exact .inl (.inr (.inl h1))
     ·exact .inl (.inr (.inr (.inl h1)))
    ·exact .inr h1
   ·rw[hf.qv]at e;exact .inl (.inr (.inr (.inr (.inl e))))
   ·exact .inl (.inr (.inr (.inr (.inr (.inl e)))))
   ·rw[hf.bH]at e;exact .inl (.inr (.inr (.inr (.inr (.inr e)))))
  rcases h1 with h1 | h1
  ·exact hs.new k h1
  ·exact .inr (lTq hs.turned.size h1)
theorem XW {base:Nat} {e:TypeId} {sz n:Nat} {v:Value} {xs:List Value} (hr:W.ownsRow base e sz v n xs):∀ k,v.ownBlock=some k->k<W.heap.size:=fun k hk=>by
 obtain⟨_,cur,h2⟩:=ep hr hk;exact lBq h2
theorem av.akr (H:av w W B X wd h seed S) (n:Nat):av w (W.setCell ⟨B.V,35,none⟩ (.int .i64 n)) B X wd h seed { S with bt:=n }/\aV W (W.setCell ⟨B.V,35,none⟩ (.int .i64 n)) B X X :=
 H.own (S':={ S with bt:=n }) (aM.setCell _ _ _ _) (by rw[block_setCell H.blk];rfl) ⟨rfl,rfl,rfl,rfl,rfl,rfl,rfl,rfl⟩
theorem av.XX (H:av w W B X wd h seed S) (n:Nat):av w (W.setCell ⟨B.V,34,none⟩ (.int .i64 n)) B X wd h seed { S with now:=n }/\aV W (W.setCell ⟨B.V,34,none⟩ (.int .i64 n)) B X X :=
 H.own (S':={ S with now:=n }) (aM.setCell _ _ _ _) (by rw[block_setCell H.blk];rfl) ⟨rfl,rfl,rfl,rfl,rfl,rfl,rfl,rfl⟩
theorem av.aks (H:av w W B X wd h seed S) (d:Bool):av w (W.setCell ⟨B.V,36,none⟩ (.bool d)) B X wd h seed { S with down:=d }/\aV W (W.setCell ⟨B.V,36,none⟩ (.bool d)) B X X :=
 H.own (S':={ S with down:=d }) (aM.setCell _ _ _ _) (by rw[block_setCell H.blk];rfl) ⟨rfl,rfl,rfl,rfl,rfl,rfl,rfl,rfl⟩
theorem akt (r:af.di) (c:Nat) (hl:∀ i,i<3->(r.L i).length<=60):(af.uQ r c).rp.length<=r.rp.length+180/\(af.uQ r c).pl=r.pl:=by
 refine⟨?_,rfl⟩
 have:=Fl.D6 (c:Int) r.L hl 3 (by decide)
 show (r.rp++(Fl.mG c r.L 3).map (af.tell af.pP)).length<=_;rw[lAq,List.length_map];omega
theorem aku (r:af.di) (a:Ask):(af.oA r a).rp.length<=r.rp.length+1/\(af.oA r a).pl.length<=r.pl.length+1:=by
 unfold af.oA af.xd af.w8;split
 ·refine⟨?_,?_⟩ <;> (simp only[];split <;> simp)
 ·refine⟨?_,?_⟩
  ·simp only[List.length_append];split <;> simp
  ·simp only[];split
   ·exact Nat.le_succ_of_le (List.length_filter_le _ _)
   ·simp
theorem akv {wd h:Int} {r:af.di} (H:d_ r.L r.pf r.n wd h) {i:Nat} (hi:i<3) (s:Int):(af.uU wd h r i s).rp.length<=r.rp.length+240+r.pl.length/\(af.uU wd h r i s).pl=r.pl:=by
 refine⟨?_,rfl⟩;have h1:=(af.XY H hi s).1;have h2:=On (Fl.nZ r.L i (af.i6 wd r i s)) i r.pl;show (r.rp++((af.i6 wd r i s).map (af.uT (r.L i) (af.iZ r i))++r.pl.flatMap (af.oB (Fl.nZ r.L i (af.i6 wd r i s)) i))).length<=_;rw[lAq,lAq,List.length_map];omega
theorem akw (seed:Int) (bt i:Nat) (hb:bt<=1000000) (hi:i<3):IntKind.u32.wrap (seed+IntKind.u32.wrap (IntKind.i64.wrap (IntKind.i64.wrap (3*(bt:Int))+(i:Int))))=af.sR seed bt i:=by
 rw[IntWalk.i64_in (3*(bt:Int)) (by omega),IntWalk.i64_in (3*(bt:Int)+i) (by omega)];have e:∀ n:Int,IntKind.u32.wrap n=n%4294967296:=fun n=>by simp[IntKind.wrap,IntKind.bits,IntKind.signed]
 rw[e,e];unfold af.sR;push_cast;rfl
theorem XZ (ds:List Nat) (l:List Ask) (bK va:Value) (based qU:Nat) (W:World) (H:Hid (av w W B X wd h seed S)) (hs:Hid (bT w ad)) (hall:Hid (d_ S.L S.pf S.n wd h)) (hbt:S.bt<=1000000)
  (hrd:Hid (W.ownsRow based 3 1 bK ds.length (jT ds))) (gX:Hid (W.ownsRow qU 95 8 va l.length (bl l))) (zv:Hid (∀ d∈ds,d<6)) (hdl:ds.length<=6) (hal:l.length<=12) :
  Calls Tryz.prog 80 #[.pointer (some ⟨B.V,0,none⟩),bK,va] W fun e w'=>∃ v X',e=.returned v/\av w w' B X' wd h seed (af.mf wd h seed S ds l)/\aV W w' B X X'/\gD w' W.heap.size v (af.iO wd h seed S ds l).rp/\d_ (af.mf wd h seed S ds l).L (af.mf wd h seed S ds l).pf (af.mf wd h seed S ds l).n wd h/\(af.iO wd h seed S ds l).rp.length<=2900/\af.Same S.pf (af.mf wd h seed S ds l).pf:=by
 obtain⟨CS,Oc,ib⟩:=fH hrd.out;obtain⟨xm,CU,xo⟩:=fH gX.out;obtain⟨md,qV⟩:∃ md,ds.length=md:=⟨_,rfl⟩;obtain⟨fM,hma⟩:∃ fM,l.length=fM:=⟨_,rfl⟩;have fq:=hDq (XW hrd.out);have X0:=hDq (XW gX.out);have jm:Hid (af.mf wd h seed S ds l = { S with L:=(af.mb wd h seed S.bt (af.kU (af.kx (af.start S) ds md) l fM) 3).L,pf:=(af.mb wd h seed S.bt (af.kU (af.kx (af.start S) ds md) l fM) 3).pf,n:=(af.mb wd h seed S.bt (af.kU (af.kx (af.start S) ds md) l fM) 3).n,aR:=af.uV S.aR 6,bt:=S.bt+1 }):=by show _=_;rw[<- qV,<- hma];rfl
 have HRR:Hid (af.iO wd h seed S ds l=af.mb wd h seed S.bt (af.kU (af.kx (af.start S) ds md) l fM) 3):=by show _=_;rw[<- qV,<- hma];rfl
 rw[qV]at hrd ib hdl;rw[hma]at gX xo hal;subst ib xo;have Od:=hDq qV;have Oe:=hDq hma;clear qV hma;generalize af.mf wd h seed S ds l=ao7 at *;generalize af.iO wd h seed S ds l=RR at *;have bF:Hid (Below W.heap.size W (W.alloc (.cells #[.pointer (some ⟨B.F,0,none⟩),.slice none 0 0,.slice none 0 0] 240))):=(bRq _ _).alloc (lRq _) _;have gu:=hDq (bR.begin H.out hall.out);have HD0:=hDq (dy hrd.out bF.out);have X3:=hDq (dy gX.out bF.out);have ni:Hid (aV W (W.alloc (.cells #[.pointer (some ⟨B.F,0,none⟩),.slice none 0 0,.slice none 0 0] 240)) B X X):=aV.of_below bF.out B X;have c1:W.cell? ⟨B.V,1,none⟩=some (.pointer (some ⟨B.F,0,none⟩)):=H.out.at 1;go_enter Tryz.func80,Tryz.ntmps80
 go_wp2_with fail
 go_loopw [21] (fun kv wr=>∃ (k:Nat) (X':cy) (vp vr:Value),k<=md/\kv=.int .i64 k/\bR w W.heap.size wr B X' wd h seed S W.heap.size vp vr (af.kx (af.start S) ds k)/\aV W wr B X X'/\wr.ownsRow based 3 1 (.slice CS md Oc) md (jT ds)/\wr.ownsRow qU 95 8 (.slice xm fM CU) fM (bl l)/\(af.kx (af.start S) ds k).rp.length<=180*k/\(af.kx (af.start S) ds k).pl=[]/\af.Same S.pf (af.kx (af.start S) ds k).pf) (fun kv _=>md-(intOf kv).toNat)
 case atStart=>exact⟨0,X,_,_,by omega,rfl,gu.out,ni.out,HD0.out,X3.out,lRq 0,rfl,af.Same.refl _⟩
 case round =>
  obtain⟨k,X1,X4,X5,hk,rfl,hr1,hs1,oD,ha1,hlr,Oo,hsm⟩:=hrel;have Ie:=hDq hsm;clear hsm;have HR1:=hDq hr1;have eZ:=hDq hs1;have HD1:=hDq oD;have HA1:=hDq ha1;clear hr1 hs1 oD ha1 bF gu HD0 X3 ni c1;by_cases hlt:k<md
  ·have aX:(k:Int)<md:=by omega
   have hkl:k<ds.length:=by rw[Od.out];exact hlt
   obtain⟨g,hg⟩:∃ g,CS=some ⟨g,0,none⟩:=by
    rcases hrd.out.2 with ⟨e1,_⟩ | ⟨g,cap,cur,e1,_⟩
    ·cases e1;omega
    ·simp only[Value.slice.injEq]at e1;exact⟨g,e1.1⟩
   subst hg;have M6:wr.cell? ⟨g,k,none⟩=some (.int .i64 (ds.getD k 0:Nat)):=by
    have h1:=World.ownsRow.cells HD1.out (g:=g) rfl k (.int .i64 (ds.getD k 0:Nat)) (by unfold jT;simp[List.getElem?_eq_getElem hkl,List.getD_eq_getElem?_getD]);have hp:(⟨g,0,none⟩:Addr).add k=⟨g,k,none⟩:=by unfold Addr.add;split <;> simp_all
    rwa [hp]at h1
   have akk:ds.getD k 0<6:=by
    rw[gE,List.getElem?_eq_getElem hkl];exact zv.out _ (List.getElem_mem hkl)
   have HN:Hid (af.kx (af.start S) ds (k+1)=af.uQ (af.kx (af.start S) ds k) (ds.getD k 0)):=rfl;have CY:=hDq (af.akx (af.kx (af.start S) ds k) (ds.getD k 0));have jO:=hDq (akt (af.kx (af.start S) ds k) (ds.getD k 0) (fun i hi=>(HR1.out.all.ok.aG i hi).len));generalize ds.getD k 0=d at *;generalize af.kx (af.start S) ds k=r1 at *;have HC:=hDq (ajp d wr HR1 hs (by omega))
   go_wp2_with fail
   refine HC.out.mono ?_;rintro e w2 ⟨rfl,X2,zh,zi,h2,hf2⟩;have HD2:=hDq (hf2.row HR1.out.bP HD1.out (by decide) fq.out);have cm:=hDq (hf2.row HR1.out.bP HA1.out (by decide) X0.out);have HS2:=hDq (ck.after eZ.out hf2);have bg:=hDq h2;clear h2 hf2 HC M6;simp only[];go_wp2;refine⟨⟨k+1,X2,zh,zi,hlt,by go_num,?_,HS2.out,HD2.out,cm.out,?_,?_,?_⟩,by simp[intOf];omega⟩
   ·rw[HN.out];exact bg.out
   ·rw[HN.out];have:=jO.out.1;omega
   ·rw[HN.out,jO.out.2];exact Oo
   ·rw[HN.out];exact Ie.out.trans CY.out
  ·have aX:¬ (k:Int)<md:=by omega
   obtain rfl:k=md:=by omega
   clear hk hlt aX;have X6:(af.kx (af.start S) ds k).pl.length=0:=by rw[Oo];rfl
   clear Oo;obtain⟨rd,X7⟩:∃ rd,af.kx (af.start S) ds k=rd:=⟨_,rfl⟩;simp only[X7]at HR1 jm HRR hlr X6 Ie;clear X7
   go_wp2_with fail
   go_loopw [28] (fun kv wr=>∃ (n:Nat) (X':cy) (vp vr:Value),n<=6/\kv=.int .i64 n/\bR w W.heap.size wr B X' wd h seed { S with aR:=af.uV S.aR n } W.heap.size vp vr rd/\aV W wr B X X'/\wr.ownsRow qU 95 8 (.slice xm fM CU) fM (bl l)) (fun kv _=>6-(intOf kv).toNat)
   case atStart=>exact⟨0,X1,_,_,by omega,rfl,HR1.out,eZ.out,HA1.out⟩
   case round =>
    obtain⟨d,X1,X4,X5,hd,rfl,hr2,hs2,ha2⟩:=hrel;have bg:=hDq hr2;have HS2:=hDq hs2;have cm:=hDq ha2;clear hr2 hs2 ha2 HR1 eZ HA1 HD1;by_cases Ig:d<6
    ·have aky:(d:Int)<6:=by omega
     have akz:Hid (af.uV S.aR (d+1)=upd (af.uV S.aR d) d false):=rfl;generalize af.uV S.aR d=akA at *;obtain⟨h3,hs3⟩:=bg.out.akq Ig;have HR3:=hDq h3;have cQ:=hDq (HS2.out.trans hs3);have ji:=hDq (bg.out.bP.CX (j:=4+d*5+4) (u:=.bool false) cm.out (by decide));clear h3 hs3;have cd:wr.cell? ⟨B.V,4+d*5+4,none⟩=some (.bool (akA d)):=bg.out.bP.conn Ig (j:=4) (by decide);have fz:∀ j,wr.frozen? ⟨B.V,j,none⟩=false:=fun j=>bg.out.bP.free j;go_wp2;refine⟨⟨d+1,X1,X4,X5,Ig,by go_num,?_,cQ.out,ji.out⟩,by simp[intOf];omega⟩;rw[akz.out];exact HR3.out
    ·have aky:¬ (d:Int)<6:=by omega
     have X8:d=6:=by omega
     have HR1:=bg;have eZ:=HS2;have HA1:=cm;rw[X8]at HR1;clear hd Ig X8;clear bg HS2 cm;obtain⟨dd,X9⟩:∃ dd,af.uV S.aR 6=dd:=⟨_,rfl⟩;simp only[X9]at HR1 jm;clear X9
     go_wp2_with fail
     go_loopw [40] (fun kv wr=>∃ (j:Nat) (X':cy) (vp vr:Value),j<=fM/\kv=.int .i64 j/\bR w W.heap.size wr B X' wd h seed { S with aR:=dd } W.heap.size vp vr (af.kU rd l j)/\aV W wr B X X'/\wr.ownsRow qU 95 8 (.slice xm fM CU) fM (bl l)/\(af.kU rd l j).rp.length<=1080+j/\(af.kU rd l j).pl.length<=j/\af.Same S.pf (af.kU rd l j).pf) (fun kv _=>fM-(intOf kv).toNat)
     case atStart=>exact⟨0,X1,_,_,by omega,rfl,HR1.out,eZ.out,HA1.out,by show rd.rp.length<=_;omega,by show rd.pl.length<=_;omega,Ie.out⟩
     case round =>
      obtain⟨j,X2,zh,zi,hj,rfl,hr2,hs2,ha2,X_,Ya,hsm⟩:=hrel;have Ih:=hDq hsm;clear hsm Ie;have bg:=hDq hr2;have HS2:=hDq hs2;have cm:=hDq ha2;clear hr2 hs2 ha2 HR1 eZ HA1 hlr X6;by_cases nz:j<fM
      ·have bC:(j:Int)<fM:=by omega
       have uP:j<l.length:=by rw[Oe.out];exact nz
       obtain⟨g,hg⟩:∃ g,xm=some ⟨g,0,none⟩:=by
        rcases gX.out.2 with ⟨e1,_⟩ | ⟨g,cap,cur,e1,_⟩
        ·cases e1;omega
        ·simp only[Value.slice.injEq]at e1;exact⟨g,e1.1⟩
       subst hg;obtain⟨d0,d1,d2,d3,d4,d5,iG,l5⟩:=zj cm.out uP nz;have jo:g<wr.heap.size:=bCq _ _ d0;have HN:Hid (af.kU rd l (j+1)=af.oA (af.kU rd l j) (bZ l j)):=rfl;have jO:=hDq (aku (af.kU rd l j) (bZ l j));have CY:=hDq (af.akB (af.kU rd l j) (bZ l j));generalize bZ l j=a at *;generalize af.kU rd l j=r1 at *;have aS:Hid (Below wr.heap.size wr (wr.alloc (.cells (aT a) 95))):=(bRq _ _).alloc (lRq _) _;have bA:=hDq (bg.out.later aS.out);have eM:=hDq (ck.below aS.out W.heap.size B X2);have HC:=hDq (ajc a _ bA hs (by omega) (by omega));unfold bM aT at *
       go_wp2_with fail
       refine HC.out.mono ?_;rintro e bq ⟨rfl,Oq,akC,uN,h7,Aw⟩;have Ot:=eM.out.trans Aw;have uO:=hDq (Ot.row bg.out.bP cm.out (by decide) X0.out);have lh:=hDq (ck.after HS2.out Ot);have fO:=hDq h7;clear h7 Aw Ot HC d0 d1 d2 d3 d4 d5 iG l5;simp only[];go_wp2;refine⟨⟨j+1,Oq,akC,uN,nz,by go_num,?_,lh.out,uO.out,?_,?_,?_⟩,by simp[intOf];omega⟩
       ·rw[HN.out];exact fO.out
       ·rw[HN.out];have:=jO.out.1;omega
       ·rw[HN.out];have:=jO.out.2;omega
       ·rw[HN.out];exact Ih.out.trans CY.out
      ·have bC:¬ (j:Int)<fM:=by omega
       obtain rfl:j=fM:=by omega
       clear hj nz bC;obtain⟨ra,Yb⟩:∃ ra,af.kU rd l j=ra:=⟨_,rfl⟩;simp only[Yb]at bg jm HRR X_ Ya Ih;clear Yb
       go_wp2_with fail
       go_loopw [47] (fun kv wr=>∃ (i:Nat) (X':cy) (vp vr:Value),i<=3/\kv=.int .i64 i/\bR w W.heap.size wr B X' wd h seed { S with aR:=dd } W.heap.size vp vr (af.mb wd h seed S.bt ra i)/\aV W wr B X X'/\(af.mb wd h seed S.bt ra i).rp.length<=2000+300*i/\(af.mb wd h seed S.bt ra i).pl.length<=12/\af.Same S.pf (af.mb wd h seed S.bt ra i).pf) (fun kv _=>3-(intOf kv).toNat)
       case atStart=>exact⟨0,X2,_,_,by omega,rfl,bg.out,HS2.out,by show ra.rp.length<=_;omega,by show ra.pl.length<=_;omega,Ih.out⟩
       case round =>
        obtain⟨i,r9,akD,xe,hi,rfl,hr3,hs3,akE,akF,hsm⟩:=hrel;have Yc:=hDq hsm;clear hsm Ih;have HR3:=hDq hr3;have cQ:=hDq hs3;clear hr3 hs3 bg HS2 cm X_ Ya;by_cases zw:i<3
        ·have vO:(i:Int)<3:=by omega
         have HN:Hid (af.mb wd h seed S.bt ra (i+1)=af.uU wd h (af.mb wd h seed S.bt ra i) i (af.sR seed S.bt i)):=rfl;have CY:=hDq (af.akG HR3.out.all zw (af.sR seed S.bt i));have jO:=hDq (akv HR3.out.all zw (af.sR seed S.bt i));generalize af.mb wd h seed S.bt ra i=r1 at *;have yb:Ra.IsU (af.sR seed S.bt i):=by unfold af.sR Ra.IsU;omega
         have HC:=hDq (fun W' R=>akH (w:=w) (b0:=W.heap.size) (B:=B) (X:=r9) (wd:=wd) (h:=h) (seed:=seed) (S:={ S with aR:=dd }) (q:=W.heap.size) (vp:=akD) (vr:=xe) (r:=r1) i zw (af.sR seed S.bt i) yb W' R hs (by omega) (by omega));obtain⟨bG,val,hcl,aP⟩:=kL (fun W'=>W'.heap[B.V]?=some (.cells (iB B seed (xt { S with aR:=dd } r1)) 114 (0,0)));obtain⟨x0,hx0⟩:=aP wr.drew HR3.out.bP.blk;have hnx:Nonempty bG:=⟨x0⟩;have s0:∀ x,(val x).cell? ⟨B.V,0,none⟩=some (.int .u32 seed):=fun x=>by rw[cR _ _ _ _ _ _ (hcl x)];rfl
         have s1:∀ x,(val x).cell? ⟨B.V,35,none⟩=some (.int .i64 S.bt):=fun x=>by rw[cR _ _ _ _ _ _ (hcl x)];rfl
         have aN:=hDq aP;clear aP hcl;go_wp2;refine sr (val:=val) [14] [0,1,2,3,4,5,6,7,8,9,10,11,12,13,14] (by kernel_rfl) (by kernel_rfl) x0 hx0 ?_;rw[hx0];clear hx0
         iterate 14 (refine ko rfl rfl (fun K hK=>?_);refine⟨by rfl,?_⟩;unfold aA;go_simp;refine hK _ ?_;clear hK K)
         refine kP rfl rfl (fun K hK=>?_);refine⟨by rfl,?_⟩;unfold aQ;go_simp;rw[akw seed S.bt i hbt zw];have akI:=hDq (HR3.out.later dG);refine(HC.out _ akI).mono ?_;rintro e aC ⟨rfl,qR,akJ,akK,h5,Yd⟩;have bL:=hDq h5;have dR:=hDq (ck.after cQ.out ((ck.below dG W.heap.size B r9).trans Yd));clear h5 Yd;refine⟨_,rfl,aN.out _ bL.out.bP.blk,hK _ _ ?_⟩;clear hK K aN s0 s1 HC;refine qA ?_;clear x0 hnx;clear val;clear bG;go_wp2;refine⟨⟨i+1,qR,akJ,akK,zw,by go_num,?_,dR.out,?_,?_,?_⟩,by simp[intOf];omega⟩
         ·rw[HN.out];exact bL.out
         ·rw[HN.out];have:=jO.out.1;omega
         ·rw[HN.out,jO.out.2];exact akF
         ·rw[HN.out];exact Yc.out.trans CY.out
        ·have vO:¬ (i:Int)<3:=by omega
         obtain rfl:i=3:=by omega
         clear hi zw vO;generalize af.mb wd h seed S.bt ra 3=rt at *;obtain⟨h6,gz⟩:=HR3.out.bP.akr (S.bt+1);have bA:=hDq (HR3.out.XV (S':={ S with aR:=dd,bt:=S.bt+1 }) h6);have dv:=hDq (cQ.out.trans gz);clear h6 gz;have ao8:wr.cell? ⟨B.V,35,none⟩=some (.int .i64 S.bt):=HR3.out.bP.at 35;have fz:∀ j,wr.frozen? ⟨B.V,j,none⟩=false:=fun j=>HR3.out.bP.free j;have Ye:B.V<wr.heap.size:=HR3.out.bP.lt;have ao9:W.heap.size≠B.V:=aF HR3.out.blk HR3.out.bP.blk (by decide);have c2:wr.cell? ⟨W.heap.size,2,none⟩=some xe:=HR3.out.cells.2.2;go_wp2;go_ret;refine⟨xe,r9,rfl,?_,dv.out,?_,?_,?_,?_⟩
         ·rw[jm.out];exact bA.out.bP
         ·rw[HRR.out];exact bA.out.rp
         ·rw[jm.out];exact bA.out.all
         ·rw[HRR.out];exact akE
         ·rw[jm.out];exact Yc.out
end
section
variable {w W:World} {ad:Nat->Addr} {B:cJ} {X:cy} {wd h seed:Int} {S:af.St}
def CG (S:af.St) (n:Nat):af.St:={ S with on:=upd S.on n false,aD:=upd S.aD n 0,la:=upd S.la n 0,aO:=upd S.aO n ⟨#[]⟩,aR:=upd S.aR n false }
theorem ajB (S:af.St) (n:Nat):af.leave (CG S n) n=af.gone S n:=by
 unfold af.leave CG af.gone;simp only[vK];rfl
theorem av.zero (H:av w W B X wd h seed S) {n:Nat} (hn:n<6) :
  av w (((((W.setCell ⟨B.V,4+n*5,none⟩ (.bool false)).setCell ⟨B.V,4+n*5+1,none⟩ (.int .i64 0)).setCell ⟨B.V,4+n*5+2,none⟩ (.int .i64 0)).setCell ⟨B.V,4+n*5+3,none⟩ (.string ⟨#[]⟩)).setCell ⟨B.V,4+n*5+4,none⟩ (.bool false)) B X wd h seed (CG S n)/\aV W (((((W.setCell ⟨B.V,4+n*5,none⟩ (.bool false)).setCell ⟨B.V,4+n*5+1,none⟩ (.int .i64 0)).setCell ⟨B.V,4+n*5+2,none⟩ (.int .i64 0)).setCell ⟨B.V,4+n*5+3,none⟩ (.string ⟨#[]⟩)).setCell ⟨B.V,4+n*5+4,none⟩ (.bool false)) B X X:=by
 obtain⟨d1,d2⟩:=H.Xn hn false 0 0;obtain⟨e1,e2⟩:=d1.set (S':={ uX S n false 0 0 with aO:=upd S.aO n ⟨#[]⟩ }) hn (j:=3) (by decide) (.string ⟨#[]⟩) (fun c' j' _ iE=>Xm (uX S n false 0 0) { uX S n false 0 0 with aO:=upd S.aO n ⟨#[]⟩ } n ⟨#[]⟩ rfl rfl rfl rfl rfl c' j' iE) rfl rfl rfl ⟨rfl,rfl,rfl,rfl,rfl,rfl,rfl,rfl⟩;obtain⟨f1,f2⟩:=e1.set (S':=CG S n) hn (j:=4) (by decide) (.bool false) (fun c' j' _ iE=>N0 { uX S n false 0 0 with aO:=upd S.aO n ⟨#[]⟩ } (CG S n) n false rfl rfl rfl rfl rfl c' j' iE) rfl rfl rfl ⟨rfl,rfl,rfl,rfl,rfl,rfl,rfl,rfl⟩;exact⟨f1,(d2.trans e2).trans f2⟩
theorem ajC {S:af.St} (h:∀ c,c<6->0<=S.la c/\S.la c<=1000000) (n:Nat):∀ c,c<6->0<=(af.hang S n).la c/\(af.hang S n).la c<=1000000:=by
 intro c hc;unfold af.hang;split
 ·unfold af.gone upd
  simp only;split
  ·exact⟨by decide,by decide⟩
  ·exact h c hc
 ·exact h c hc
theorem Xo {S:af.St} (h:∀ c,c<6->0<=S.la c/\S.la c<=1000000):∀ n,∀ c,c<6->0<=(af.hangs S n).la c/\(af.hangs S n).la c<=1000000
 | 0=>h
 | n+1=>ajC (Xo h n) n
theorem ajD (W:World) (H:Hid (av w W B X wd h seed S)) (hla:Hid (∀ c,c<6->0<=S.la c/\S.la c<=1000000)):Calls Tryz.prog 75 #[.pointer (some ⟨B.V,0,none⟩)] W fun e w'=>e=.returned (.tuple #[])/\∃ X',av w w' B X' wd h seed (af.hangs S 6)/\aV W w' B X X':=by
 go_enter Tryz.func75,Tryz.ntmps75;go_wp2
 go_loopw [3] (fun kv wr=>∃ (k:Nat) (X':cy),k<=6/\kv=.int .i64 k/\av w wr B X' wd h seed (af.hangs S k)/\aV W wr B X X') (fun kv _=>6-(intOf kv).toNat)
 case atStart=>exact⟨0,X,by omega,rfl,H.out,aV.refl _ _ _⟩
 case round =>
  obtain⟨k,X',hk,rfl,hv,hst⟩:=hrel;have cF:=hDq hv;have HS:=hDq hst;clear hv hst;by_cases hlt:k<6
  ·have aX:(k:Int)<6:=by omega
   have HN:Hid (af.hangs S (k+1)=af.hang (af.hangs S k) k):=rfl;have hl:=Xo hla.out k k hlt;generalize af.hangs S k=T at *;have HL:=hDq (fun W'=>aip (T.on k) (T.aD k) (T.la k) T.now W' ⟨hl.1,by omega⟩);have HH:Hid (af.hang T k=if bz.late (T.on k) (T.la k) T.now=true then af.gone T k else T):=rfl;obtain⟨bG,val,hcl,aP⟩:=kL (fun W'=>W'.heap[B.V]?=some (.cells (iB B seed T) 114 (0,0)));obtain⟨x0,hx0⟩:=aP wr.drew cF.out.blk;have hnx:Nonempty bG:=⟨x0⟩;have s0:∀ x,(val x).cell? ⟨B.V,4+k*5,none⟩=some (.bool (T.on k)):=fun x=>by rw[cR _ _ _ _ _ _ (hcl x)];exact qT B seed T hlt (j:=0) (by decide)
   have s1:∀ x,(val x).cell? ⟨B.V,4+k*5+1,none⟩=some (.int .i64 (T.aD k)):=fun x=>by rw[cR _ _ _ _ _ _ (hcl x)];exact qT B seed T hlt (j:=1) (by decide)
   have s2:∀ x,(val x).cell? ⟨B.V,4+k*5+2,none⟩=some (.int .i64 (T.la k)):=fun x=>by rw[cR _ _ _ _ _ _ (hcl x)];exact qT B seed T hlt (j:=2) (by decide)
   have s3:∀ x,(val x).cell? ⟨B.V,34,none⟩=some (.int .i64 T.now):=fun x=>by rw[cR _ _ _ _ _ _ (hcl x)];rfl
   have aN:=hDq aP;clear aP hcl hl;unfold kS at HL;go_wp2;refine sr (val:=val) [11] [0,1,2,3,4,5,6,7,8,9,10,11] (by kernel_rfl) (by kernel_rfl) x0 hx0 ?_;rw[hx0];clear hx0
   iterate 11 (refine ko rfl rfl (fun K hK=>?_);refine⟨by rfl,?_⟩;unfold aA;go_simp;refine hK _ ?_;clear hK K)
   refine kP rfl rfl (fun K hK=>?_);refine⟨by rfl,?_⟩;unfold aQ;go_simp;refine(HL.out _).mono ?_;rintro e aC ⟨rfl,b_⟩;have sS:Below wr.heap.size wr aC:=dG.trans b_;have HV5:=hDq (cF.out.later sS);have dR:=hDq (HS.out.below sS);refine⟨_,rfl,aN.out _ HV5.out.blk,hK _ _ ?_⟩;clear hK K b_ sS HL aN s0 s1 s2 s3;refine qA ?_;clear x0 hnx;clear val;clear bG;cases Xp:bz.late (T.on k) (T.la k) T.now with
   | false =>
    rw[Xp,if_neg (by decide)]at HH;go_wp2;exact⟨⟨k+1,X',hlt,by go_num,by rw[HN.out,HH.out];exact HV5.out,dR.out⟩,by simp[intOf];omega⟩
   | true =>
    rw[Xp,if_pos rfl]at HH;have c0:aC.cell? ⟨B.V,4+k*5,none⟩=some (.bool (T.on k)):=HV5.out.conn hlt (j:=0) (by decide);have c1:aC.cell? ⟨B.V,4+k*5+1,none⟩=some (.int .i64 (T.aD k)):=HV5.out.conn hlt (j:=1) (by decide);have c2:aC.cell? ⟨B.V,4+k*5+2,none⟩=some (.int .i64 (T.la k)):=HV5.out.conn hlt (j:=2) (by decide);have c3:aC.cell? ⟨B.V,4+k*5+3,none⟩=some (.string (T.aO k)):=HV5.out.conn hlt (j:=3) (by decide);have c4:aC.cell? ⟨B.V,4+k*5+4,none⟩=some (.bool (T.aR k)):=HV5.out.conn hlt (j:=4) (by decide);have fz:∀ j,aC.frozen? ⟨B.V,j,none⟩=false:=fun j=>HV5.out.free j;obtain⟨hz1,hz2⟩:=HV5.out.zero hlt;have sT:=hDq (Xq k hlt _ hz1);have HZ2:=hDq hz2;rw[ajB]at sT;clear hz1 hz2
    go_wp2_with fail
    refine sT.out.mono ?_;rintro e ai ⟨rfl,ajE,h6,gz⟩;have ky:=hDq h6;have dv:=hDq ((dR.out.trans HZ2.out).trans gz);clear h6 gz sT HZ2;simp only[];go_wp2;exact⟨⟨k+1,ajE,hlt,by go_num,by rw[HN.out,HH.out];exact ky.out,dv.out⟩,by simp[intOf];omega⟩
  ·have aX:¬ (k:Int)<6:=by omega
   obtain rfl:k=6:=by omega
   go_wp2;go_end0;exact⟨rfl,X',cF.out,HS.out⟩
end
theorem uk (L:Nat->List Ask) (t:Nat):∀ k,(ay.kJ L t k).length<=2*k
 | 0=>by simp[ay.kJ]
 | k+1=>by
  have:=uk L t k
  rw[ay.kJ,lAq,lKq];omega
theorem ak4 (bt:Nat) (ds:List Nat) (l:List Ask) (hb:bt<=1000000) (hd:∀ d∈ds,d<6) (hl:ds.length<=6) (ha:l.length<=12):(af.f_ bt ds l).size<=10000:=by
 unfold af.f_ af.Hw;rw[strOfNums_size];have h1:=H9 (bt:Int) (by omega) (by omega);have h2:=H_ ds hd ds.length;have h3:=Ia l l.length;simp only[List.length_append,List.length_singleton];omega
theorem qX (S:af.St):∀ n,(af.hangs S n).now=S.now/\(af.hangs S n).bt=S.bt/\(af.hangs S n).down=S.down/\(af.hangs S n).L=S.L/\(af.hangs S n).pf=S.pf/\(af.hangs S n).n=S.n/\(af.hangs S n).tp=S.tp/\(af.hangs S n).cut=S.cut/\(af.hangs S n).left=S.left
 | 0=>⟨rfl,rfl,rfl,rfl,rfl,rfl,rfl,rfl,rfl⟩
 | n+1=>by
  have h:=qX S n;unfold af.hangs af.hang;split
  ·exact h
  ·exact h
section
variable {w W W' W1:World} {ad:Nat->Addr} {B:cJ} {X X':cy} {wd h seed:Int} {S:af.St}
theorem ak5 (s:ByteArray) (W:World) (H:av w W B X wd h seed S) (hs:bT w ad) (hsz:s.size<=10000) (qY:S.tp.length<=1048576) (C4:S.left<=9223372036854775807) :
  Calls Tryz.prog 78 #[.pointer (some ⟨B.d,0,none⟩),.string s] W fun e w'=>∃ u sU,e=.returned u/\(af.iA S s=true->u=.nilIface)/\(af.iA S s=false->∃ x,u=.iface 412 x)/\av w w' B { X with bH:=sU } wd h seed (af.bI S s)/\aV W w' B X { X with bH:=sU }/\aJ W w' (fun k=>k=B.d\/X.bH.ownBlock=some k):=by
 have Yq:=H.sent hs;have h12:12<w.heap.size:=bCq _ _ hs.et;by_cases hf:1048576<S.tp.length+(12+s.size)
 ·have hfull:af.full S s=true:=by unfold af.full;simpa using hf
  refine(ak1 w.heap.size B.d X.bH S.tp s S.cut S.left W _ H.dk hsz qY hf (Yq.cell 7 (by decide))).mono ?_;rintro e w' ⟨rfl,hb⟩;have e2:af.bI S s=S:=by unfold af.bI;rw[if_pos hfull]
  have e3:af.iA S s=false:=by unfold af.iA;rw[hfull];rfl
  rw[e2,e3];exact⟨_,X.bH,rfl,(fun e=>by cases e),fun _=>⟨_,rfl⟩,H.later hb,aV.of_below hb B X,aJ.of_below hb _⟩
 ·have hfull:af.full S s=false:=by unfold af.full;simpa using hf
  refine(ak2 w.heap.size B.d X.bH S.tp s S.cut S.left W _ _ H.dk hsz (by omega) C4 (Yq.cell 8 (by decide)) (by omega) H.cp.size).mono ?_;rintro e w' ⟨rfl,sU,hd,hfr⟩;obtain⟨k1,k2⟩:=H.tape hd hfr.turned hfr.new;have e2:af.bI S s = { S with tp:=OH S.tp S.cut S.left s,left:=OI S.cut S.left s }:=by unfold af.bI;rw[hfull,if_neg (by decide)];rfl
  have e3:af.iA S s=Ij S.cut S.left s:=by unfold af.iA Ij;rw[hfull];rfl
  rw[e2,e3];refine⟨_,sU,rfl,fun e=>by rw[if_pos e],fun e=>by rw[e,if_neg (by decide)];exact⟨_,rfl⟩,k1,k2,hfr.turned⟩
theorem av.Yr {base:Nat} {e:TypeId} {sz n:Nat} {v:Value} {xs:List Value} (H:av w W B X wd h seed S) (ht:aJ W W' (fun k=>k=B.d\/X.bH.ownBlock=some k)) (hr:W.ownsRow base e sz v n xs) (he:e≠117/\e≠5):W'.ownsRow base e sz v n xs :=
 fR hr ht (fun k hk e1=>by
  obtain⟨_,cur,h2⟩:=ep hr hk;rcases e1 with e1 | e1
  ·exact aF h2 H.dk.cell he.1 e1
  ·exact H.dk.row.uZ h2 he.2 e1)
theorem av.ak6 {zt:Nat->Value} {base:Nat} {e:TypeId} {sz n:Nat} {v:Value} {xs:List Value} (H:av w W B X wd h seed S) (hs:hZ W W' B.q X.qv zt) (hr:W.ownsRow base e sz v n xs) (he:e≠232/\e≠95):W'.ownsRow base e sz v n xs :=
 fR hr hs.turned (fun k hk e1=>by
  obtain⟨_,cur,h2⟩:=ep hr hk;rcases e1 with rfl | ⟨c,hc,h1⟩
  ·exact aF h2 H.it.cell he.1 rfl
  ·obtain⟨_,kN,h3⟩:=ep (H.it.row c hc) h1
   exact aF h2 h3 he.2 rfl)
theorem Yh (W:World) (H:Hid (av w W B X wd h seed S)) (hd:S.down=true) :
  Calls Tryz.prog 41 #[.pointer (some ⟨B.V,0,none⟩)] W fun e w'=>e=.returned (.slice none 0 0)/\w'=W:=by
 have Hz:W.cell? ⟨B.V,36,none⟩=some (.bool true):=by rw[<- hd];exact H.out.at 36
 clear hd;go_enter Tryz.func41,Tryz.ntmps41;go_wp2;go_ret;exact⟨rfl,rfl⟩
theorem ak7 (W:World) (H:Hid (av w W B X wd h seed S)) (hs:Hid (bT w ad)) (ht:Hid (Lib.TabBelow Tryz.prog w.heap.size w "internal/strconv.uint64pow10" .u64 Lib.pow10Tab)) (hd:S.down=false)
  (hall:Hid (d_ S.L S.pf S.n wd h)) (hla:Hid (∀ c,c<6->0<=S.la c/\S.la c<=1000000)) (vh:S.now<=1000000) (hbt:S.bt<=1000000) (qY:S.tp.length<=1048576) (C4:S.left<=9223372036854775807) :
  Calls Tryz.prog 41 #[.pointer (some ⟨B.V,0,none⟩)] W fun e w'=>∃ v X',e=.returned v/\av w w' B X' wd h seed (af.cz wd h seed S)/\aV W w' B X X'/\gD w' W.heap.size v (af.gR wd h seed S)/\d_ (af.cz wd h seed S).L (af.cz wd h seed S).pf (af.cz wd h seed S).n wd h/\(af.gR wd h seed S).length<=2900/\af.Same S.pf (af.cz wd h seed S).pf:=by
 have lN:Hid (af.cz wd h seed S=if (S.now+1)%3=0 then af.jR wd h seed (af.bh S) else af.bh S):=by show _=_;unfold af.cz;rw[hd,if_neg (by decide)]
 have iK:Hid (af.gR wd h seed S=if (S.now+1)%3=0 then af.qQ wd h seed (af.bh S) else []):=by show _=_;unfold af.gR;rw[hd,if_neg (by decide)]
 have Hz:W.cell? ⟨B.V,36,none⟩=some (.bool false):=by rw[<- hd];exact H.out.at 36
 have c34:W.cell? ⟨B.V,34,none⟩=some (.int .i64 S.now):=H.out.at 34;have fz:∀ j,W.frozen? ⟨B.V,j,none⟩=false:=fun j=>H.out.free j;obtain⟨h1,hs1⟩:=H.out.XX (S.now+1);have OP:=hDq (ajD _ h1 hla);have eZ:=hDq hs1;clear h1 hs1;have HN:=hDq (qX { S with now:=S.now+1 } 6);have lX:Hid (af.hangs { S with now:=S.now+1 } 6=af.bh S):=rfl;rw[lX.out]at OP HN;generalize af.bh S=T at *;generalize af.cz wd h seed S=DJ at *;generalize af.gR wd h seed S=LK at *;go_enter Tryz.func41,Tryz.ntmps41
 go_wp2_with fail
 refine OP.out.mono ?_;rintro e w2 ⟨rfl,X2,h2,hs2⟩;have H2:=hDq h2;have HS2:=hDq (eZ.out.trans hs2);clear h2 hs2 eZ OP Hz c34 fz lX;have c34:w2.cell? ⟨B.V,34,none⟩=some (.int .i64 ((S.now:Int)+1)):=by
  have:=H2.out.at 34
  rw[this];show some (Value.int .i64 (T.now:Int))=_;rw[HN.out.1];rfl
 simp only[];by_cases C5:(S.now+1)%3=0
 ·have ak8:(((S.now:Int)+1)%3 != 0)=false:=by
   have:((S.now:Int)+1)%3=0:=by omega
   rw[this];rfl
  rw[if_pos C5]at lN iK;have ak9:T.bt=S.bt:=HN.out.2.1;have sT:=hDq (fun W' (h':Below w2.heap.size w2 W')=>ajT W' (H2.out.later h'));have hout:(ay.out T.Q T.t).length<=12:=uk T.Q T.t 6;have hdl:=N2 T.aR 6;have HD6:=hDq (Xv T.aR 6);have Ys:Hid (af.jR wd h seed T=if af.iA (af.bu T) (af.f_ T.bt (af.dO T.aR 6) (ay.out T.Q T.t))=true then af.mf wd h seed (af.bI (af.bu T) (af.f_ T.bt (af.dO T.aR 6) (ay.out T.Q T.t))) (af.dO T.aR 6) (ay.out T.Q T.t) else { af.bI (af.bu T) (af.f_ T.bt (af.dO T.aR 6) (ay.out T.Q T.t)) with down:=true }):=rfl;have sX:Hid (af.qQ wd h seed T=if af.iA (af.bu T) (af.f_ T.bt (af.dO T.aR 6) (ay.out T.Q T.t))=true then (af.iO wd h seed (af.bI (af.bu T) (af.f_ T.bt (af.dO T.aR 6) (ay.out T.Q T.t))) (af.dO T.aR 6) (ay.out T.Q T.t)).rp else []):=rfl;have OQ:=ak4 T.bt (af.dO T.aR 6) (ay.out T.Q T.t) (by omega) HD6.out hdl hout;rw[Ys.out]at lN;rw[sX.out]at iK;clear Ys sX;generalize af.dO T.aR 6=ds at *;obtain⟨l,hl⟩:∃ l,ay.out T.Q T.t=l:=⟨_,rfl⟩;have HL:=hDq hl;rw[hl]at lN iK hout OQ;clear hl;obtain⟨bG,val,hcl,aP⟩:=kL (fun W'=>W'.heap[B.V]?=some (.cells (iB B seed T) 114 (0,0)));obtain⟨x0,hx0⟩:=aP w2.drew H2.out.blk;have hnx:Nonempty bG:=⟨x0⟩;have s0:∀ x,(val x).cell? ⟨B.V,2,none⟩=some (.pointer (some ⟨B.q,0,none⟩)):=fun x=>by rw[cR _ _ _ _ _ _ (hcl x)];rfl
  have aN:=hDq aP;clear aP hcl;go_wp2;refine sr (val:=val) [1,6] [0,2,3,4,5,1,6,7,8] (by kernel_rfl) (by kernel_rfl) x0 hx0 ?_;rw[hx0];clear hx0
  iterate 5 (refine ko rfl rfl (fun K hK=>?_);refine⟨by rfl,?_⟩;unfold aA;go_simp;refine hK _ ?_;clear hK K)
  refine kP rfl rfl (fun K hK=>?_);refine⟨by rfl,?_⟩;unfold aQ;go_simp;refine(sT.out _ dG).mono ?_;rintro e w3 ⟨bK,rfl,hrd,hb3⟩;have Ik:Below w2.heap.size w2 w3:=dG.trans hb3;have ar:=hDq Ik;have HD3:=hDq hrd;have H3:=hDq (H2.out.later Ik);have cQ:=hDq (HS2.out.below Ik);refine⟨_,rfl,aN.out _ H3.out.blk,hK _ _ ?_⟩;clear hK K hb3 Ik sT hrd;refine kP rfl rfl (fun K hK=>?_);refine⟨by rfl,?_⟩;unfold aQ;go_simp;refine(Un _ H3.out.it).mono ?_;rintro e w4 ⟨va,Yt,rfl,gX,hit,qE,_⟩;rw[HL.out]at gX;obtain⟨h4,bX⟩:=H3.out.take hit qE;have cP:Hid (av w w4 B { X2 with qv:=Yt } wd h seed (af.bu T)):=h4;have cr:=hDq (cQ.out.trans bX);have HD4:=hDq (H3.out.ak6 qE HD3.out (by decide));have ei:=hDq gX;refine⟨_,rfl,aN.out _ cP.out.blk,hK _ _ ?_⟩;clear hK K h4 bX gX hit qE s0 aN HD3
  iterate 2 (refine ko rfl rfl (fun K hK=>?_);refine⟨by rfl,?_⟩;unfold aA;go_simp;refine hK _ ?_;clear hK K)
  refine qA ?_;clear x0 hnx;clear val;clear bG;obtain⟨CS,Oc,ib⟩:=fH HD4.out;obtain⟨xm,CU,xo⟩:=fH ei.out;subst ib xo;generalize sI:af.bu T=gb at *;have hb4:gb.bt=T.bt:=by rw[<- sI];rfl
  have Yu:gb.tp=T.tp:=by rw[<- sI];rfl
  have hl4:gb.left=T.left:=by rw[<- sI];rfl
  have Yv:Hid (d_ gb.L gb.pf gb.n wd h):=by
   obtain⟨_,_,_,e1,e2,e3,_⟩:=HN.out;show d_ _ _ _ _ _;rw[<- sI];show d_ T.L T.pf T.n wd h;rw[e1,e2,e3];exact hall.out
  have ala:gb.tp.length<=1048576:=by rw[Yu,HN.out.2.2.2.2.2.2.1];exact qY
  have alb:gb.left<=9223372036854775807:=by rw[hl4,HN.out.2.2.2.2.2.2.2.2];exact C4
  rw[<- hb4]at lN iK OQ;have apd:gb.bt<=1000000:=by omega
  clear HL hb4 ak9 Yu hl4
  go_wp2_with fail
  generalize MQ:({ X2 with qv:=Yt }:cy)=mj at *;generalize hrb:af.f_ gb.bt ds l=rb at *;have zy:=hDq (fun W' (h':Below w4.heap.size w4 W')=>akh gb.bt ds l _ _ _ _ W' hs ht ((cP.out.later h').cp) (by omega) (dy HD4.out h') (dy ei.out h') HD6 hdl hout);rw[hrb]at zy;obtain⟨bG,val,hcl,aP⟩:=kL (fun W'=>W'.heap[B.V]?=some (.cells (iB B seed gb) 114 (0,0)));obtain⟨x0,hx0⟩:=aP w4.drew cP.out.blk;have hnx:Nonempty bG:=⟨x0⟩;have s0:∀ x,(val x).cell? ⟨B.V,3,none⟩=some (.pointer (some ⟨B.d,0,none⟩)):=fun x=>by rw[cR _ _ _ _ _ _ (hcl x)];rfl
  have s1:∀ x,(val x).cell? ⟨B.V,35,none⟩=some (.int .i64 gb.bt):=fun x=>by rw[cR _ _ _ _ _ _ (hcl x)];rfl
  have aN:=hDq aP;clear aP hcl;refine sr (val:=val) [10,11] [0,1,2,3,4,5,6,7,8,9,10,11,12] (by kernel_rfl) (by kernel_rfl) x0 hx0 ?_;rw[hx0];clear hx0
  iterate 10 (refine ko rfl rfl (fun K hK=>?_);refine⟨by rfl,?_⟩;unfold aA;go_simp;refine hK _ ?_;clear hK K)
  refine kP rfl rfl (fun K hK=>?_);refine⟨by rfl,?_⟩;unfold aQ;go_simp;refine(zy.out _ dG).mono ?_;rintro e aC ⟨rfl,b_⟩;have sS:Below w4.heap.size w4 aC:=dG.trans b_;have H5:=hDq (cP.out.later sS);have dR:=hDq (cr.out.below sS);have HD5:=hDq (dy HD4.out sS);have uY:=hDq (dy ei.out sS);refine⟨_,rfl,aN.out _ H5.out.blk,hK _ _ ?_⟩;clear hK K b_ sS zy;have fg:=hDq (ak5 rb aC H5.out hs.out OQ ala alb);have Il:Hid ((af.bI gb rb).bt=gb.bt/\(af.bI gb rb).L=gb.L/\(af.bI gb rb).pf=gb.pf/\(af.bI gb rb).n=gb.n):=by show _/\_;unfold af.bI;split <;> exact⟨rfl,rfl,rfl,rfl⟩
  have Yw:Hid (iB B seed (af.bI gb rb)=iB B seed gb):=by show _=_;unfold af.bI;split <;> rfl
  generalize ape:af.bI gb rb=S6 at *;refine kP rfl rfl (fun K hK=>?_);refine⟨by rfl,?_⟩;unfold aQ;go_simp;refine fg.out.mono ?_;rintro e ai ⟨u,apf,rfl,hu1,hu2,h6,gz,OT⟩;have ky:=hDq h6;have dv:=hDq (dR.out.trans gz);have alc:=hDq (H5.out.Yr OT HD5.out (by decide));have gL:=hDq (H5.out.Yr OT uY.out (by decide));refine⟨_,rfl,aN.out _ (by rw[<- Yw.out];exact ky.out.blk),hK _ _ ?_⟩;clear hK K h6 gz OT fg s0 s1 aN HD5 uY HD4 ei Yw;cases xu:af.iA gb rb with
  | true =>
   obtain rfl:=hu1 xu;rw[xu,if_pos rfl]at lN iK;refine ko rfl rfl (fun K hK=>?_);refine⟨by rfl,?_⟩;unfold aA;go_simp;refine hK _ ?_;clear hK K;refine qA ?_;clear x0 hnx;clear val;clear bG;have ald:Hid (d_ S6.L S6.pf S6.n wd h):=by
    obtain⟨_,e1,e2,e3⟩:=Il.out;show d_ _ _ _ _ _;rw[e1,e2,e3];exact Yv.out
   have vk:=hDq (XZ ds l _ _ _ _ ai ky hs ald (by rw[Il.out.1];omega) alc gL HD6 hdl hout)
   go_wp2_with fail
   refine vk.out.mono ?_;rintro e bq ⟨v7,Oq,rfl,h7,o9,Ah,Yx,ale,Im⟩;have C6:=hDq h7;have lh:=hDq (dv.out.trans o9);have fO:Hid (gD bq W.heap.size v7 (af.iO wd h seed S6 ds l).rp):=iy Ah dv.out.turned.size;have uO:=hDq Yx;have alf:Hid (af.Same S.pf (af.mf wd h seed S6 ds l).pf):=by
    have e2:=Il.out.2.2.1;rw[e2]at Im;have e4:gb.pf=S.pf:=by rw[<- sI];exact HN.out.2.2.2.2.1
    rw[e4]at Im;exact Im
   clear h7 o9 Ah Yx Im vk;simp only[];go_wp2;go_ret;rw[lN.out,iK.out];exact⟨_,Oq,rfl,C6.out,lh.out,fO.out,uO.out,ale,alf.out⟩
  | false =>
   obtain⟨x,rfl⟩:=hu2 xu;rw[xu,if_neg (by decide)]at lN iK;refine ko rfl rfl (fun K hK=>?_);refine⟨by rfl,?_⟩;unfold aA;go_simp;refine hK _ ?_;clear hK K;refine qA ?_;clear x0 hnx;clear val;clear bG;obtain⟨h7,o9⟩:=ky.out.aks true;have C6:=hDq h7;have lh:=hDq (dv.out.trans o9);clear h7 o9;have Hz:ai.cell? ⟨B.V,36,none⟩=some (.bool S6.down):=ky.out.at 36;have fz:∀ j,ai.frozen? ⟨B.V,j,none⟩=false:=fun j=>ky.out.free j;go_wp2;go_ret;rw[lN.out,iK.out];obtain⟨_,e1,e2,e3⟩:=Il.out;refine⟨_,_,rfl,C6.out,lh.out,World.ownsRow_nil _ _ _ _,?_,by simp,?_⟩
   ·show d_ S6.L S6.pf S6.n wd h
    rw[e1,e2,e3];exact Yv.out
   ·show af.Same S.pf S6.pf
    rw[e2,<- sI];show af.Same S.pf T.pf;rw[HN.out.2.2.2.2.1];exact af.Same.refl _
 ·have ak8:(((S.now:Int)+1)%3 != 0)=true:=by
   have:((S.now:Int)+1)%3≠0:=by omega
   simpa using this
  rw[if_neg C5]at lN iK;go_wp2;go_ret;rw[lN.out,iK.out];obtain⟨_,_,_,e1,e2,e3,_⟩:=HN.out;refine⟨_,X2,rfl,H2.out,HS2.out,World.ownsRow_nil _ _ _ _,?_,by simp,?_⟩
  ·rw[e1,e2,e3];exact hall.out
  ·rw[e2];exact af.Same.refl _
structure af.Ok (N:Nat) (wd h:Int) (S:af.St):Prop where
 all:d_ S.L S.pf S.n wd h
 la:∀ c,c<6->0<=S.la c/\S.la c<=N
 now:S.now<=N
 bt:S.bt<=N
 tp:S.tp.length<=1048576
 left:S.left<=9223372036854775807
 aO:∀ c,c<6->(S.aO c).size<30
theorem alg (S:af.St) (s:ByteArray) (ht:S.tp.length<=1048576):(af.bI S s).tp.length<=1048576/\(af.bI S s).left<=S.left/\(af.bI S s).now=S.now/\(af.bI S s).bt=S.bt/\(af.bI S s).la=S.la/\(af.bI S s).aO=S.aO:=by
 unfold af.bI;by_cases hf:af.full S s=true
 ·rw[if_pos hf];exact⟨ht,lRq _,rfl,rfl,rfl,rfl⟩
 ·rw[if_neg hf]
  have h1:¬ 1048576<S.tp.length+(12+s.size):=by
   intro h;apply hf;unfold af.full;simpa using h
  have hlen:(bm.rec s.data.toList).length=12+s.size:=by rw[bm.uK,pO]
  refine⟨?_,?_,rfl,rfl,rfl,rfl⟩
  ·show (S.tp++_).length<=_
   rw[lAq];split
   ·rw[lKq];omega
   ·omega
  ·show (if S.cut=true then S.left-(12+s.size) else S.left)<=S.left
   split <;> omega
theorem OU {S:af.St} (h:∀ c,c<6->(S.aO c).size<30):∀ n,∀ c,c<6->((af.hangs S n).aO c).size<30
 | 0=>h
 | n+1=>fun c hc=>by
  unfold af.hangs af.hang;split
  ·unfold af.gone upd
   simp only;split
   ·decide
   ·exact OU h n c hc
  ·exact OU h n c hc
theorem OV {S:af.St} {N:Nat} (h:∀ c,c<6->0<=S.la c/\S.la c<=N):∀ n,∀ c,c<6->0<=(af.hangs S n).la c/\(af.hangs S n).la c<=N
 | 0=>h
 | n+1=>fun c hc=>by
  unfold af.hangs af.hang;split
  ·unfold af.gone upd
   simp only;split
   ·exact⟨by omega,by omega⟩
   ·exact OV h n c hc
  ·exact OV h n c hc
theorem Yy {N:Nat} (hok:af.Ok N wd h S) (ha:d_ (af.cz wd h seed S).L (af.cz wd h seed S).pf (af.cz wd h seed S).n wd h):af.Ok (N+1) wd h (af.cz wd h seed S):=by
 have Be:=hok.now;have hb1:=hok.bt;have hT:∀ c,c<6->0<=(af.bh S).la c/\(af.bh S).la c<=((N+1:Nat):Int):=OV (S:={ S with now:=S.now+1 }) (fun c hc=>⟨(hok.la c hc).1,by have:=(hok.la c hc).2;show S.la c<=_;omega⟩) 6;have hL:∀ c,c<6->((af.bh S).aO c).size<30:=OU (S:={ S with now:=S.now+1 }) hok.aO 6;obtain⟨e1,e2,e3,e4,e5,e6,e7,e8,e9⟩:=qX { S with now:=S.now+1 } 6;have f1:(af.bh S).now=S.now+1:=e1;have f2:(af.bh S).bt=S.bt:=e2;have f7:(af.bh S).tp=S.tp:=e7;have f9:(af.bh S).left=S.left:=e9;have qY:=hok.tp;have C4:=hok.left;obtain⟨g1,g2,g3,g4,g5,g6⟩:=alg (af.bu (af.bh S)) (af.bV (af.bh S)) (by show (af.bh S).tp.length<=_;rw[f7];exact qY);have alh:(af.bI (af.bu (af.bh S)) (af.bV (af.bh S))).now=(af.bh S).now:=g3;have ze:(af.bI (af.bu (af.bh S)) (af.bV (af.bh S))).bt=(af.bh S).bt:=g4;have g2':(af.bI (af.bu (af.bh S)) (af.bV (af.bh S))).left<=(af.bh S).left:=g2;have OW:(af.bI (af.bu (af.bh S)) (af.bV (af.bh S))).la=(af.bh S).la:=g5;have OX:(af.bI (af.bu (af.bh S)) (af.bV (af.bh S))).aO=(af.bh S).aO:=g6;clear e1 e2 e3 e4 e5 e6 e7 e8 e9 g2 g3 g4 g5 g6;obtain⟨A,hA⟩:∃ A,af.bI (af.bu (af.bh S)) (af.bV (af.bh S))=A:=⟨_,rfl⟩;rw[hA]at g1 g2' alh ze OW OX;by_cases hd:S.down=true
 ·have e:af.cz wd h seed S=S:=by unfold af.cz;rw[if_pos hd]
  rw[e]at ha ⊢;exact⟨ha,fun c hc=>⟨(hok.la c hc).1,by have:=(hok.la c hc).2;omega⟩,by omega,by omega,qY,C4,hok.aO⟩
 ·by_cases hm:(S.now+1)%3=0
  ·by_cases xu:af.iA (af.bu (af.bh S)) (af.bV (af.bh S))=true
   ·have e:af.cz wd h seed S=af.mf wd h seed A (af.dO (af.bh S).aR 6) (ay.out (af.bh S).Q (af.bh S).t):=by
     unfold af.cz af.jR;rw[if_neg hd,if_pos hm,if_pos xu,hA]
    rw[e]at ha ⊢;refine⟨ha,?_,?_,?_,g1,?_,?_⟩
    ·show ∀ c,c<6->0<=A.la c/\A.la c<=((N+1:Nat):Int)
     rw[OW];exact hT
    ·show A.now<=_
     omega
    ·show A.bt+1<=_
     omega
    ·show A.left<=_
     omega
    ·show ∀ c,c<6->(A.aO c).size<30
     rw[OX];exact hL
   ·have e:af.cz wd h seed S = { A with down:=true }:=by
     unfold af.cz af.jR;rw[if_neg hd,if_pos hm,if_neg xu,hA]
    rw[e]at ha ⊢;refine⟨ha,?_,?_,?_,g1,?_,?_⟩
    ·show ∀ c,c<6->0<=A.la c/\A.la c<=((N+1:Nat):Int)
     rw[OW];exact hT
    ·show A.now<=_
     omega
    ·show A.bt<=_
     omega
    ·show A.left<=_
     omega
    ·show ∀ c,c<6->(A.aO c).size<30
     rw[OX];exact hL
  ·have e:af.cz wd h seed S=af.bh S:=by unfold af.cz;rw[if_neg hd,if_neg hm]
   rw[e]at ha ⊢;exact⟨ha,hT,by omega,by omega,by rw[f7];exact qY,by omega,hL⟩
theorem Yz (W:World) (H:av w W B X wd h seed S) (hs:bT w ad) (ht:Lib.TabBelow Tryz.prog w.heap.size w "internal/strconv.uint64pow10" .u64 Lib.pow10Tab) {N:Nat} (hok:af.Ok N wd h S) (hN:N<=1000000) :
  Calls Tryz.prog 41 #[.pointer (some ⟨B.V,0,none⟩)] W fun e w'=>∃ v X',e=.returned v/\av w w' B X' wd h seed (af.cz wd h seed S)/\aV W w' B X X'/\gD w' W.heap.size v (af.gR wd h seed S)/\af.Ok (N+1) wd h (af.cz wd h seed S)/\(af.gR wd h seed S).length<=2900/\af.Same S.pf (af.cz wd h seed S).pf:=by
 cases hd:S.down with
 | true =>
  refine(Yh W H hd).mono ?_;rintro e w' ⟨rfl,rfl⟩;have e1:af.cz wd h seed S=S:=by unfold af.cz;rw[if_pos hd]
  have e2:af.gR wd h seed S=[]:=by unfold af.gR;rw[if_pos hd]
  have e3:=Yy (seed:=seed) hok (by rw[e1];exact hok.all);rw[e2];rw[e1]at e3 ⊢;exact⟨_,X,rfl,H,aV.refl _ _ _,World.ownsRow_nil _ _ _ _,e3,by simp,af.Same.refl _⟩
 | false =>
  have hn:=hok.now;have hb:=hok.bt;refine(ak7 W H hs ht hd hok.all (fun c hc=>⟨(hok.la c hc).1,by have:=(hok.la c hc).2;omega⟩) (by omega) (by omega) hok.tp hok.left).mono ?_;rintro e w' ⟨v,X',rfl,h1,h2,h3,h4,h5,h6⟩;exact⟨v,X',rfl,h1,h2,h3,Yy hok h4,h5,h6⟩
end
def af.init (ref cash stock:Int):af.St:=⟨fun _=>[],Fl.j8 cash stock 6,Fl.tF ref,fun _=>[],0,fun _=>false,fun _=>0,fun _=>0,fun _=>⟨#[]⟩,fun _=>false,[],false,0,0,0,false⟩
section
variable {w w0 W:World} {ad:Nat->Addr} {B:cJ} {X:cy} {wd h seed:Int} {S:af.St}
theorem av.N3 (hb:Below w0.heap.size w0 w) (H:av w W B X wd h seed S):av w0 W B X wd h seed S:=by
 have hz:=hb.size;refine⟨H.blk,⟨H.fl.blk,H.fl.it,fun i hi=>⟨(H.fl.aG i hi).cell,lTq hz (H.fl.aG i hi).lo,iy (H.fl.aG i hi).row hz⟩,H.fl.o_,H.fl.ne,H.fl.ap,H.fl.cY,lTq hz H.fl.lo,lTq hz H.fl.mI,fun i hi=>lTq hz (H.fl.mJ i hi),hb.trans (H.fl.cp.mono hz)⟩,⟨H.it.cell,lTq hz H.it.lo,H.it.turn,fun c hc=>iy (H.it.row c hc) hz,H.it.few,H.it.apart⟩,⟨H.dk.cell,?_,lTq hz H.dk.lo⟩,lTq hz H.lo⟩;obtain⟨g,cap,cur,fz,e1,e2,e3⟩:=H.dk.row;exact⟨g,cap,cur,fz,e1,lTq hz e2,e3⟩
def fB (seed wd h ref cash stock:Int):Array Value:=#[.int .u32 seed,.int .i64 wd,.int .i64 h,.int .i64 ref,.int .i64 cash,.int .i64 stock]
structure H6 (w W:World) (B:cJ) (wd h seed ref cash stock:Int):Prop where
 blk:W.heap[B.V]?=some (.cells (iB B seed (af.init ref cash stock)) 114 (0,0))
 fl:bk w W B.F B.P B.I B.b (fun _=>.slice none 0 0) (fun _=>[]) (Fl.j8 cash stock 6) (Fl.tF ref) wd h
 it:dA W w.heap.size B.q (fun _=>.slice none 0 0) 0 (fun _=>[])
 lo:w.heap.size<=B.V
theorem H6.bP {ref cash stock:Int} {bH:Value} {tp:List UInt8} {cut:Bool} {left:Nat} (N:H6 w W B wd h seed ref cash stock) (hb:Below w0.heap.size w0 w) (hd:dI W w0.heap.size B.d bH tp cut left):av w0 W B ⟨fun _=>.slice none 0 0,fun _=>.slice none 0 0,bH⟩ wd h seed { af.init ref cash stock with tp:=tp,cut:=cut,left:=left }:=by
 have hz:=hb.size;exact⟨N.blk,⟨N.fl.blk,N.fl.it,fun i hi=>⟨(N.fl.aG i hi).cell,lTq hz (N.fl.aG i hi).lo,iy (N.fl.aG i hi).row hz⟩,N.fl.o_,N.fl.ne,N.fl.ap,N.fl.cY,lTq hz N.fl.lo,lTq hz N.fl.mI,fun i hi=>lTq hz (N.fl.mJ i hi),hb.trans (N.fl.cp.mono hz)⟩,⟨N.it.cell,lTq hz N.it.lo,N.it.turn,fun c hc=>iy (N.it.row c hc) hz,N.it.few,N.it.apart⟩,hd,lTq hz N.lo⟩
theorem XC (seed wd h ref cash stock:Int) (d:Nat) (W:World) (hs:Hid (bT W ad)) (hr:Hid (aY.gh wd h=true)) (hf:Hid (ah.aB ref 1 1000=true)) (HF:Hid (Fl.Fits cash stock)) :
  Calls Tryz.prog 53 #[.agg (fB seed wd h ref cash stock),.pointer (some ⟨d,0,none⟩)] W fun e w'=>∃ B:cJ,e=.returned (.tuple #[.pointer (some ⟨B.V,0,none⟩),.nilIface])/\B.d=d/\H6 W w' B wd h seed ref cash stock:=by
 have HB1:Hid (Below W.heap.size W (W.alloc (.cells (fB seed wd h ref cash stock) 45))):=(bRq _ _).alloc (lRq _) _;have CJ:(W.alloc (.cells (fB seed wd h ref cash stock) 45)).heap[W.heap.size]?=some (.cells (fB seed wd h ref cash stock) 45 (0,0)):=hNq _ _;have CK:(W.alloc (.cells (fB seed wd h ref cash stock) 45)).heap.size=W.heap.size+1:=Array.size_push ..;have CL:=hDq CJ;have N4:=hDq CK;have N5:=hDq (ad8 wd h ref cash stock _ (hs.out.later HB1.out).Ct hr hf HF);clear CJ CK;unfold dJ at N5;unfold fB at *;go_enter Tryz.func53,Tryz.ntmps53
 go_wp2_with fail
 refine N5.out.mono ?_;rintro e w3 ⟨F,P,I,b,rfl,hfl⟩;have qo:=hDq hfl;have ar:=hDq hfl.cp;clear hfl N5;have hc:w3.heap[W.heap.size]?=some (.cells #[.int .u32 seed,.int .i64 wd,.int .i64 h,.int .i64 ref,.int .i64 cash,.int .i64 stock] 45 (0,0)):=by
  rw[ar.out.block _ (by rw[N4.out];omega)];exact CL.out
 obtain⟨bG,val,hcl,aP⟩:=kL (fun W'=>W'.heap[W.heap.size]?=some (.cells #[.int .u32 seed,.int .i64 wd,.int .i64 h,.int .i64 ref,.int .i64 cash,.int .i64 stock] 45 (0,0)));obtain⟨x0,hx0⟩:=aP w3.drew hc;have hnx:Nonempty bG:=⟨x0⟩;have s0:∀ x,(val x).cell? ⟨W.heap.size,0,none⟩=some (.int .u32 seed):=fun x=>by rw[cR _ _ _ _ _ _ (hcl x)];rfl
 have aN:=hDq aP;have HC:=hDq hc;clear aP hcl hc;simp only[];go_wp2;refine sr (val:=val) [3,6] [0,1,2,4,3,5,6,7,8] (by kernel_rfl) (by kernel_rfl) x0 hx0 ?_;rw[hx0];clear hx0
 iterate 4 (refine ko rfl rfl (fun K hK=>?_);refine⟨by rfl,?_⟩;unfold aA;go_simp;refine hK _ ?_;clear hK K)
 refine kP rfl rfl (fun K hK=>?_);refine⟨by rfl,?_⟩;unfold aQ;go_simp;refine(af2 _).mono ?_;rintro e w4 ⟨rfl,hit,hb4⟩;have N6:Below w3.heap.size w3 w4:=dG.trans hb4;have ym:=hDq hit;have bQ:=hDq N6;have Bc:Hid (w4.heap[W.heap.size]?=some (.cells #[.int .u32 seed,.int .i64 wd,.int .i64 h,.int .i64 ref,.int .i64 cash,.int .i64 stock] 45 (0,0))):=dS N6 HC.out;refine⟨_,rfl,aN.out _ Bc.out,hK _ _ ?_⟩;clear hK K hb4 N6 hit;refine ko rfl rfl (fun K hK=>?_);refine⟨by rfl,?_⟩;unfold aA;go_simp;refine hK _ ?_;clear hK K;refine kP rfl rfl (fun K hK=>?_);refine⟨by rfl,?_⟩;unfold aQ;go_simp;refine⟨aN.out _ ?_,hK _ _ ?_⟩
 ·exact dS ((bRq _ _).alloc (lRq _) _) Bc.out
 clear hK K aN s0
 iterate 2 (refine ko rfl rfl (fun K hK=>?_);refine⟨by rfl,?_⟩;unfold aA;go_simp;refine hK _ ?_;clear hK K)
 refine qA ?_;clear x0 hnx;clear val;clear bG;have b_:Below w4.heap.size w4 (w4.alloc (.cells (iB ⟨w4.heap.size,F,P,w3.heap.size,d,I,b⟩ seed (af.init ref cash stock)) 114)):=(bRq _ _).alloc (lRq _) _;have N7:=bQ.out.size;have XD:=ar.out.size;have H7:W.heap.size<=w3.heap.size:=lTq HB1.out.size XD;have XE:=bQ.out.trans (b_.mono N7);have cF:Hid (H6 W (w4.alloc (.cells (iB ⟨w4.heap.size,F,P,w3.heap.size,d,I,b⟩ seed (af.init ref cash stock)) 114)) ⟨w4.heap.size,F,P,w3.heap.size,d,I,b⟩ wd h seed ref cash stock):=by
  have k:=ym.out.later b_;have f:=qo.out.later XE;have hz:=HB1.out.size;refine⟨hNq _ _,⟨f.blk,f.it,fun i hi=>⟨(f.aG i hi).cell,lTq hz (f.aG i hi).lo,iy (f.aG i hi).row hz⟩,f.o_,f.ne,f.ap,f.cY,lTq hz f.lo,lTq hz f.mI,fun i hi=>lTq hz (f.mJ i hi),HB1.out.trans (f.cp.mono hz)⟩,⟨k.cell,H7,k.turn,fun c hc=>iy (k.row c hc) H7,k.few,k.apart⟩,lTq H7 N7⟩
 clear b_ N7 XD XE H7;go_wp2;go_ret2;exact⟨⟨w4.heap.size,F,P,w3.heap.size,d,I,b⟩,rfl,rfl,cF.out⟩
theorem XF (seed wd h ref cash stock:Int) (W:World) (hs:Hid (bT W ad)) (hr:Hid (aY.gh wd h=true)) (hf:Hid (ah.aB ref 1 1000=true)) (HF:Hid (Fl.Fits cash stock)) :
  Calls Tryz.prog 16 #[.agg (fB seed wd h ref cash stock)] W fun e w'=>∃ B X,e=.returned (.tuple #[.pointer (some ⟨B.V,0,none⟩),.nilIface])/\av W w' B X wd h seed (af.init ref cash stock):=by
 have HB1:Hid (Below W.heap.size W (W.alloc (.cells (fB seed wd h ref cash stock) 45))):=(bRq _ _).alloc (lRq _) _;have CJ:(W.alloc (.cells (fB seed wd h ref cash stock) 45)).heap[W.heap.size]?=some (.cells (fB seed wd h ref cash stock) 45 (0,0)):=hNq _ _;have CK:(W.alloc (.cells (fB seed wd h ref cash stock) 45)).heap.size=W.heap.size+1:=Array.size_push ..;have CL:=hDq CJ;have N4:=hDq CK;have qO:=hDq (aiS ⟨#[]⟩ (W.alloc (.cells (fB seed wd h ref cash stock) 45)) (by decide));have D':=hDq (fun d W' hb=>XC seed wd h ref cash stock d W' (hs.out.later hb) hr hf HF);clear CJ CK;unfold fB at *;go_enter Tryz.func16,Tryz.ntmps16
 go_wp2_with fail
 refine qO.out.mono ?_;rintro e w3 ⟨d,rfl,CM,hb3⟩;have HDK:=hDq CM;have ar:=hDq hb3;clear CM hb3 qO;have hc:w3.heap[W.heap.size]?=some (.cells #[.int .u32 seed,.int .i64 wd,.int .i64 h,.int .i64 ref,.int .i64 cash,.int .i64 stock] 45 (0,0)):=by
  rw[ar.out.block _ (by rw[N4.out];omega)];exact CL.out
 have c0:w3.cell? ⟨W.heap.size,0,none⟩=some (.int .u32 seed):=by rw[cR _ _ 0 _ _ _ hc];rfl
 have c1:w3.cell? ⟨W.heap.size,1,none⟩=some (.int .i64 wd):=by rw[cR _ _ 1 _ _ _ hc];rfl
 have c2:w3.cell? ⟨W.heap.size,2,none⟩=some (.int .i64 h):=by rw[cR _ _ 2 _ _ _ hc];rfl
 have c3:w3.cell? ⟨W.heap.size,3,none⟩=some (.int .i64 ref):=by rw[cR _ _ 3 _ _ _ hc];rfl
 have c4:w3.cell? ⟨W.heap.size,4,none⟩=some (.int .i64 cash):=by rw[cR _ _ 4 _ _ _ hc];rfl
 have c5:w3.cell? ⟨W.heap.size,5,none⟩=some (.int .i64 stock):=by rw[cR _ _ 5 _ _ _ hc];rfl
 have XG:=hDq (HB1.out.trans (ar.out.mono HB1.out.size));clear hc;simp only[]
 go_wp2_with fail
 refine(D'.out _ _ XG.out).mono ?_;rintro e w4 ⟨B,rfl,N8,hno⟩;obtain⟨Gq,bH,oD,rO⟩:=HDK.out;have cF:Hid (av W w4 B ⟨fun _=>.slice none 0 0,fun _=>.slice none 0 0,bH⟩ wd h seed (af.init ref cash stock)):=by
  have k:dI w3 W.heap.size d bH [] false 0:=by
   obtain⟨g,cap,cur,fz,e1,e2,e3⟩:=rO;exact⟨oD,⟨g,cap,cur,fz,e1,lTq HB1.out.size e2,e3⟩,lTq HB1.out.size Gq⟩
  have k2:=k.later hno.fl.cp;rw[<- N8]at k2;exact hno.bP XG.out k2
 clear Gq oD rO hno c0 c1 c2 c3 c4 c5;simp only[];go_wp2;go_ret2;exact⟨B,rfl,⟨fun _=>.slice none 0 0,fun _=>.slice none 0 0,bH⟩,cF.out⟩
theorem ajX (ref cash stock:Int) (hr:aY.gh wd h=true) (hf:ah.aB ref 1 1000=true) (HF:Fl.Fits cash stock):af.Ok 0 wd h (af.init ref cash stock) :=
 ⟨Fl.RB hr hf HF,fun _ _=>⟨show (0:Int)<=0 by decide,show (0:Int)<=((0:Nat):Int) by decide⟩,lRq 0,lRq 0,show 0<=1048576 by decide,show 0<=9223372036854775807 by decide,fun _ _=>show (⟨#[]⟩:ByteArray).size<30 by decide⟩
theorem ajY (W:World):Calls Tryz.prog 54 #[.int .i64 5] W fun e w'=>e=.returned (.agg (fB 5 10 2 100 20000 100))/\Below W.heap.size W w':=by
 have HB1:Hid (Below W.heap.size W (W.alloc (.cells (fB 5 10 2 100 20000 100) 48))):=(bRq _ _).alloc (lRq _) _;unfold fB at *;go_enter Tryz.func54,Tryz.ntmps54;go_wp2;refine bodyPost_ret (v:=.agg #[.int .u32 5,.int .i64 10,.int .i64 2,.int .i64 100,.int .i64 20000,.int .i64 100]) (by simp[results,Tryz.results54,go_sem]) rfl ?_;exact⟨rfl,HB1.out⟩
theorem XH (W:World):Calls Tryz.prog 18 #[] W fun e w'=>e=.returned (.agg (fB 5 10 2 100 20000 100))/\Below W.heap.size W w':=by
 have HB1:Hid (Below W.heap.size W (W.alloc (.cells #[.int .u32 0,.int .i64 0,.int .i64 0,.int .i64 0,.int .i64 0,.int .i64 0] 48))):=(bRq _ _).alloc (lRq _) _;have hblk:(W.alloc (.cells #[.int .u32 0,.int .i64 0,.int .i64 0,.int .i64 0,.int .i64 0,.int .i64 0] 48)).heap[W.heap.size]?=some (.cells #[.int .u32 0,.int .i64 0,.int .i64 0,.int .i64 0,.int .i64 0,.int .i64 0] 48 (0,0)):=hNq _ _;have CL:=hDq hblk;have HP:=hDq (ajY (W.alloc (.cells #[.int .u32 0,.int .i64 0,.int .i64 0,.int .i64 0,.int .i64 0,.int .i64 0] 48)));clear hblk;unfold fB at *;go_enter Tryz.func18,Tryz.ntmps18
 go_wp2_with fail
 refine HP.out.mono ?_;rintro e w2 ⟨rfl,hb2⟩;have HB2:=hDq hb2;have bg:=hDq (dS hb2 CL.out);clear hb2 HP;have c0:w2.cell? ⟨W.heap.size,0,none⟩=some (.int .u32 0):=by rw[cR _ _ 0 _ _ _ bg.out];rfl
 have c1:w2.cell? ⟨W.heap.size,1,none⟩=some (.int .i64 0):=by rw[cR _ _ 1 _ _ _ bg.out];rfl
 have c2:w2.cell? ⟨W.heap.size,2,none⟩=some (.int .i64 0):=by rw[cR _ _ 2 _ _ _ bg.out];rfl
 have c3:w2.cell? ⟨W.heap.size,3,none⟩=some (.int .i64 0):=by rw[cR _ _ 3 _ _ _ bg.out];rfl
 have c4:w2.cell? ⟨W.heap.size,4,none⟩=some (.int .i64 0):=by rw[cR _ _ 4 _ _ _ bg.out];rfl
 have c5:w2.cell? ⟨W.heap.size,5,none⟩=some (.int .i64 0):=by rw[cR _ _ 5 _ _ _ bg.out];rfl
 have fz:∀ j,w2.frozen? ⟨W.heap.size,j,none⟩=false:=fun j=>by simp[World.frozen?,bg.out]
 have HX:=hDq (zn bg.out (.int .u32 5) (.int .i64 10) (.int .i64 2) (.int .i64 100) (.int .i64 20000) (.int .i64 100));have aS:=hDq (XI (HB1.out.trans (HB2.out.mono HB1.out.size)) (lRq W.heap.size) (.int .u32 5) (.int .i64 10) (.int .i64 2) (.int .i64 100) (.int .i64 20000) (.int .i64 100));simp only[];go_wp2;generalize ((((((w2.setCell ⟨W.heap.size,0,none⟩ (.int .u32 5)).setCell ⟨W.heap.size,1,none⟩ (.int .i64 10)).setCell ⟨W.heap.size,2,none⟩ (.int .i64 2)).setCell ⟨W.heap.size,3,none⟩ (.int .i64 100)).setCell ⟨W.heap.size,4,none⟩ (.int .i64 20000)).setCell ⟨W.heap.size,5,none⟩ (.int .i64 100))=ai at *;have R:∀ j,ai.cell? ⟨W.heap.size,j,none⟩=_:=fun j=>cR ai _ j _ 48 _ HX.out;refine bodyPost_ret (v:=.agg #[.int .u32 5,.int .i64 10,.int .i64 2,.int .i64 100,.int .i64 20000,.int .i64 100]) (by simp[results,Tryz.results18,go_sem,R]) rfl ?_;exact⟨rfl,aS.out⟩
theorem XJ (s wd h r c t:Int) (W:World):Calls Tryz.prog 17 #[.agg (fB s wd h r c t)] W fun e w'=>e=.returned (.agg (fB s wd h r c t))/\Below W.heap.size W w':=by
 have HB1:Hid (Below W.heap.size W ((W.alloc (.cells (fB s wd h r c t) 48)).alloc (.cells (fB s wd h r c t) 45))):=((bRq _ _).alloc (lRq _) _).alloc (by simp) _;unfold fB at *;go_enter Tryz.func17,Tryz.ntmps17;go_wp2;refine bodyPost_ret (v:=.agg #[.int .u32 s,.int .i64 wd,.int .i64 h,.int .i64 r,.int .i64 c,.int .i64 t]) (by simp[results,Tryz.results17,go_sem]) rfl ?_;exact⟨rfl,HB1.out⟩
end
def zf (w:World) (a:Option Addr) (n:Nat) (l:List Ask):Prop:=l.length=n/\(n=0\/∃ g,a=some g/\∀ i,i<n->w.cell? (g.add (i*8))=some (.int .u8 (bZ l i).k)/\w.cell? ⟨(g.add (i*8)).block,(g.add (i*8)).off+1,none⟩=some (.int .i64 (bZ l i).c)/\w.cell? ⟨(g.add (i*8)).block,(g.add (i*8)).off+2,none⟩=some (.int .i64 (bZ l i).sq)/\w.cell? ⟨(g.add (i*8)).block,(g.add (i*8)).off+3,none⟩=some (.int .i64 (bZ l i).it)/\w.cell? ⟨(g.add (i*8)).block,(g.add (i*8)).off+4,none⟩=some (.int .i64 (bZ l i).sd)/\w.cell? ⟨(g.add (i*8)).block,(g.add (i*8)).off+5,none⟩=some (.int .i64 (bZ l i).pr)/\w.cell? ⟨(g.add (i*8)).block,(g.add (i*8)).off+6,none⟩=some (.int .i64 (bZ l i).q)/\w.cell? ⟨(g.add (i*8)).block,(g.add (i*8)).off+7,none⟩=some (.int .i64 (bZ l i).id))
theorem zf.later {w w':World} {a:Option Addr} {n:Nat} {l:List Ask} (h:zf w a n l) (hb:Below w.heap.size w w'):zf w' a n l:=by
 refine⟨h.1,?_⟩;rcases h.2 with h0 | ⟨g,hg,h1⟩
 ·exact .inl h0
 ·exact .inr ⟨g,hg,fun i hi=>⟨cell_later hb (h1 i hi).1,cell_later hb (h1 i hi).2.1,cell_later hb (h1 i hi).2.2.1,cell_later hb (h1 i hi).2.2.2.1,cell_later hb (h1 i hi).2.2.2.2.1,cell_later hb (h1 i hi).2.2.2.2.2.1,cell_later hb (h1 i hi).2.2.2.2.2.2.1,cell_later hb (h1 i hi).2.2.2.2.2.2.2⟩⟩
structure Stp where
 kind:ByteArray
 c:Int
 asks:List Ask
 s:ByteArray
 n:Int
def af.nj (s:ByteArray) (l:List Ask):Nat->ByteArray
 | 0=>s
 | k+1=>af.nj s l k++af.eo (bZ l k)
theorem NJ (s:ByteArray) (l:List Ask):∀ k,(af.nj s l k).size<=s.size+30*k
 | 0=>lRq _
 | k+1=>by
  have:=NJ s l k
  have:=NK (bZ l k)
  show (af.nj s l k++af.eo (bZ l k)).size<=_;rw[ByteArray.size_append];omega
section
variable {w W:World} {ad:Nat->Addr} {B:cJ} {X:cy} {wd h seed:Int} {S:af.St}
theorem ai2 (kd:ByteArray) (c:Int) (a:Option Addr) (m cap:Nat) (s:ByteArray) (n:Int) (l:List Ask) (W:World) (ha:Hid (zf W a m l)) (hm:m<=10) (hs:s.size<=100000) :
  Calls Tryz.prog 57 #[.agg #[.string kd,.int .i64 c,.slice a m cap,.string s,.int .i64 n]] W fun e w'=>e=.returned (.string (af.nj s l m))/\Below W.heap.size W w':=by
 have HB1:Hid (Below W.heap.size W (W.alloc (.cells #[.string kd,.int .i64 c,.slice a m cap,.string s,.int .i64 n] 51))):=(bRq _ _).alloc (lRq _) _;have He:Hid ((W.alloc (.cells #[.string kd,.int .i64 c,.slice a m cap,.string s,.int .i64 n] 51)).heap[W.heap.size]?=some (.cells #[.string kd,.int .i64 c,.slice a m cap,.string s,.int .i64 n] 51 (0,0))):=hNq _ _;have HZ1:Hid ((W.alloc (.cells #[.string kd,.int .i64 c,.slice a m cap,.string s,.int .i64 n] 51)).heap.size=W.heap.size+1):=Array.size_push ..;go_enter Tryz.func57,Tryz.ntmps57
 go_wp2_with fail
 go_loopw [3,4] (fun v kv wr=>∃ k:Nat,k<=m/\kv=.int .i64 k/\v=.string (af.nj s l k)/\Below (W.heap.size+1) (W.alloc (.cells #[.string kd,.int .i64 c,.slice a m cap,.string s,.int .i64 n] 51)) wr) (fun _ kv _=>m-(intOf kv).toNat)
 case atStart=>exact⟨0,by omega,rfl,rfl,bRq _ _⟩
 case round =>
  obtain⟨k,hk,rfl,rfl,hb⟩:=hrel;have HB:=hDq hb;have WZ:wr.heap[W.heap.size]?=some (.cells #[.string kd,.int .i64 c,.slice a m cap,.string s,.int .i64 n] 51 (0,0)):=by rw[hb.block _ (by omega)];exact He.out
  have HC:=hDq WZ;clear hb WZ;have aoV:W.heap.size<wr.heap.size:=lBq HC.out;have c2:wr.cell? ⟨W.heap.size,2,none⟩=some (.slice a m cap):=by rw[cR _ _ 2 _ _ _ HC.out];rfl
  by_cases hlt:k<m
  ·have aX:(k:Int)<m:=by omega
   have cq:Hid (Below W.heap.size W wr):=HB1.out.trans (HB.out.mono (by omega));obtain⟨g,hg,hcs⟩:∃ g,a=some g/\_:=by
    rcases (ha.out.later cq.out).2 with h0 | h1
    ·omega
    ·exact h1
   subst hg;obtain⟨d0,d1,d2,d3,d4,d5,iG,l5⟩:=hcs k hlt;have jo:(g.add (k*8)).block<wr.heap.size:=bCq _ _ d0;have HN:Hid (af.nj s l (k+1)=af.nj s l k++af.eo (bZ l k)):=rfl;have W7:=hDq (hcs k hlt);clear hcs;generalize bZ l k=x at *;obtain⟨dF,xc,qI,qJ,qK,qL,iD,qM⟩:=x;simp only[]at d0 d1 d2 d3 d4 d5 iG l5;have Cq:=hDq (aa0 dF xc qI qJ qK qL iD qM wr);have nU:Hid (af.eo ⟨dF,xc,qI,qJ,qK,qL,iD,qM⟩=if ah.code dF xc qI qJ qK qL iD qM=0 then strOfNums (ah.frame dF xc qI qJ qK qL iD qM) else ⟨#[]⟩):=rfl;by_cases hcd:ah.code dF xc qI qJ qK qL iD qM=0
   ·have Bg:=hDq (fun W'=>afa dF xc qI qJ qK qL iD qM W' hcd)
    rw[if_pos hcd]at nU;rw[hcd]at Cq
    go_wp2_with fail
    refine Cq.out.mono ?_;rintro e aC ⟨rfl,b_⟩;have cA:=hDq b_;have e0:=cell_later b_ d0;have e1:=cell_later b_ d1;have e2:=cell_later b_ d2;have e3:=cell_later b_ d3;have e4:=cell_later b_ d4;have e5:=cell_later b_ d5;have e6:=cell_later b_ iG;have e7:=cell_later b_ l5;have e8:=cell_later b_ c2;have aoW:(g.add (k*8)).block<aC.heap.size:=bCq _ _ e0;clear d0 d1 d2 d3 d4 d5 iG l5 c2 jo b_ Cq W7 hcd;simp only[]
    go_wp2_with fail
    refine(Bg.out _).mono ?_;rintro e ai ⟨rfl,hb6⟩;have aS:=hDq (HB.out.trans ((cA.out.trans (hb6.mono cA.out.size)).mono (by omega)));clear hb6 Bg e0 e1 e2 e3 e4 e5 e6 e7 e8;have t6:¬ 9223372036854775807<(af.nj s l k).size+(strOfNums (ah.frame dF xc qI qJ qK qL iD qM)).size:=by
     have h1:=NJ s l k;have h2:(strOfNums (ah.frame dF xc qI qJ qK qL iD qM)).size=30:=by rw[strOfNums_size,ah.Ga]
     omega
    simp only[];go_wp2;refine⟨⟨k+1,hlt,by go_num,?_,aS.out⟩,by simp[intOf];omega⟩;rw[HN.out,nU.out]
   ·have ai3:((ah.code dF xc qI qJ qK qL iD qM:Nat):Int)≠0:=by omega
    rw[if_neg hcd]at nU;generalize ah.code dF xc qI qJ qK qL iD qM=ai4 at *;have hne:((ai4:Int)==0)=false:=by simpa using ai3
    go_wp2_with fail
    refine Cq.out.mono ?_;rintro e aC ⟨rfl,b_⟩;have aS:=hDq (HB.out.trans (b_.mono (by omega)));clear b_ Cq W7 d0 d1 d2 d3 d4 d5 iG l5;simp only[];go_wp2;refine⟨⟨k+1,hlt,by go_num,?_,aS.out⟩,by simp[intOf];omega⟩;rw[HN.out,nU.out];exact congrArg Value.string (ByteArray.append_empty).symm
  ·have aX:¬ (k:Int)<m:=by omega
   obtain rfl:k=m:=by omega
   go_wp2;go_ret;exact⟨rfl,HB1.out.trans (HB.out.mono (by omega))⟩
theorem ai5 (S:af.St) (n:Int) (hn:n<=9223372036854775807) (hl:S.left<=9223372036854775807):(af.h_ S n).left<=9223372036854775807/\(af.h_ S n).tp=S.tp/\(af.h_ S n).now=S.now/\(af.h_ S n).bt=S.bt/\(af.h_ S n).la=S.la/\(af.h_ S n).aO=S.aO/\(af.h_ S n).L=S.L/\(af.h_ S n).pf=S.pf/\(af.h_ S n).n=S.n:=by
 unfold af.h_;split
 ·exact⟨by show n.toNat<=_;omega,rfl,rfl,rfl,rfl,rfl,rfl,rfl,rfl⟩
 ·exact⟨hl,rfl,rfl,rfl,rfl,rfl,rfl,rfl,rfl⟩
theorem ai6 {N:Nat} (hok:af.Ok N wd h S) (n:Int) (hn:n<=9223372036854775807):af.Ok N wd h (af.h_ S n):=by
 obtain⟨e1,e2,e3,e4,e5,e6,e7,e8,e9⟩:=ai5 S n hn hok.left;exact⟨by rw[e7,e8,e9];exact hok.all,by rw[e5];exact hok.la,by rw[e3];exact hok.now,by rw[e4];exact hok.bt,by rw[e2];exact hok.tp,e1,by rw[e6];exact hok.aO⟩
theorem ai7 (n:Int) (W:World) (H:Hid (av w W B X wd h seed S)) (hs:Hid (bT w ad)) :
  Calls Tryz.prog 20 #[.pointer (some ⟨B.d,0,none⟩),.int .i64 n] W fun e w'=>∃ u,e=.returned u/\av w w' B X wd h seed (af.h_ S n)/\aV W w' B X X:=by
 have uM:=hDq (H.out.sent hs.out);have g0:W.cell? ⟨1,0,none⟩=some (.iface 412 (.pointer (some (ad 1)))):=uM.out.cell 1 (by decide);have g1:W.cell? ⟨2,0,none⟩=some (.iface 412 (.pointer (some (ad 8)))):=uM.out.cell 8 (by decide);have HP:=hDq (WO B.d X.bH S.cut S.left W H.out.dk.cell);by_cases hn:n<0
 ·have e1:af.h_ S n=S:=by unfold af.h_ af.Hf;rw[if_pos hn,if_neg (by decide)]
  rw[e1];go_enter Tryz.func20,Tryz.ntmps20;go_wp2;go_ret;exact⟨_,rfl,H.out,aV.refl _ _ _⟩
 ·by_cases hp:S.cut=true/\S.left=0
  ·have e1:af.h_ S n=S:=by unfold af.h_ af.Hf;rw[if_neg hn,if_pos hp,if_neg (by decide)]
   have hpw:(!S.cut || decide (0<(S.left:Int)))=false:=by rw[hp.1,hp.2];decide
   rw[e1];rw[hpw]at HP;clear hp hpw;go_enter Tryz.func20,Tryz.ntmps20
   go_wp2_with fail
   refine HP.out.mono ?_;rintro e w1 ⟨rfl,hw⟩;subst w1;simp only[];go_wp2;go_ret;exact⟨_,rfl,H.out,aV.refl _ _ _⟩
  ·have e1:af.h_ S n = { S with cut:=true,left:=n.toNat }:=by unfold af.h_ af.Hf;rw[if_neg hn,if_neg hp,if_pos rfl]
   have hpw:(!S.cut || decide (0<(S.left:Int)))=true:=by
    cases hc:S.cut with
    | false=>rfl
    | true =>
     have:S.left≠0:=fun e=>hp ⟨hc,e⟩;simp;omega
   rw[hpw]at HP;have c1:W.cell? ⟨B.d,1,none⟩=some (.bool S.cut):=by rw[cR _ _ 1 _ _ _ H.out.dk.cell];rfl
   have c2:W.cell? ⟨B.d,2,none⟩=some (.int .i64 S.left):=by rw[cR _ _ 2 _ _ _ H.out.dk.cell];rfl
   have fz:∀ j,W.frozen? ⟨B.d,j,none⟩=false:=fun j=>by simp[World.frozen?,H.out.dk.cell]
   have hlt:B.d<W.heap.size:=lBq H.out.dk.cell;have HF:Hid (av w ((W.setCell ⟨B.d,1,none⟩ (.bool true)).setCell ⟨B.d,2,none⟩ (.int .i64 n)) B X wd h seed (af.h_ S n)/\aV W ((W.setCell ⟨B.d,1,none⟩ (.bool true)).setCell ⟨B.d,2,none⟩ (.int .i64 n)) B X X):=by
    have ht:aJ W ((W.setCell ⟨B.d,1,none⟩ (.bool true)).setCell ⟨B.d,2,none⟩ (.int .i64 n)) (fun k=>k=B.d):=(aJ.setCell _ _ _ _).trans (aJ.setCell _ _ _ _) (fun _ h=>.inl h);have NL:((n.toNat:Nat):Int)=n:=by omega
    have hd:dI ((W.setCell ⟨B.d,1,none⟩ (.bool true)).setCell ⟨B.d,2,none⟩ (.int .i64 n)) w.heap.size B.d X.bH S.tp true (n.toNat:Nat):=by
     refine⟨?_,?_,H.out.dk.lo⟩
     ·rw[block_setCell (block_setCell H.out.dk.cell 1 _) 2 _,NL];rfl
     ·obtain⟨g,cap,cur,zg,k1,k2,k3,k4⟩:=H.out.dk.row
      refine⟨g,cap,cur,zg,k1,k2,?_,k4⟩;rw[ht.block g (lBq k3) (aF k3 H.out.dk.cell (by decide))];exact k3
    rw[e1];exact H.out.tape hd (ht.mono (fun _ h=>.inl h)) (fun k hk=>.inl hk)
   clear hp hpw e1;go_enter Tryz.func20,Tryz.ntmps20
   go_wp2_with fail
   refine HP.out.mono ?_;rintro e w1 ⟨rfl,hw⟩;subst w1;simp only[];go_wp2;go_ret;exact⟨_,rfl,HF.out.1,HF.out.2⟩
end
section
variable {wd h seed:Int} {S:af.St} {N:Nat}
theorem ajZ (hok:af.Ok N wd h S) {n:Nat} (f:ByteArray):af.Ok N wd h (af.kT S n f):=by
 have ht:af.takeC S n (af.cB f)=0->af.Ok N wd h (af.taken S n (af.cB f)):=fun _=>by
  refine⟨hok.all,fun c hc=>?_,hok.now,hok.bt,hok.tp,hok.left,hok.aO⟩;have h1:=hok.now;have h2:=hok.la c hc;unfold af.taken upd bz.gN;simp only;split
  ·rename_i e;subst e
   split
   ·split
    ·exact⟨by omega,by omega⟩
    ·exact⟨by omega,by omega⟩
   ·exact h2
  ·exact h2
 unfold af.kT;split
 ·split
  ·rename_i h1 h2
   have k:=ht h2;split
   ·exact⟨k.all,k.la,k.now,k.bt,k.tp,k.left,k.aO⟩
   ·split
    ·exact⟨k.all,k.la,k.now,k.bt,k.tp,k.left,k.aO⟩
    ·exact k
  ·exact hok
 ·exact hok
theorem XK (hok:af.Ok N wd h S) {n:Nat} (b:ByteArray):∀ k,af.Ok N wd h (af.gP S n b k)
 | 0=>hok
 | k+1=>ajZ (XK hok b k) _
theorem aj0 (b:ByteArray):(af.zk b).size<30:=by
 unfold af.zk;rw[ByteArray.size_extract];omega
theorem aj1 (hok:af.Ok N wd h S) (n:Int) (s:ByteArray):af.Ok N wd h (af.iN S n s):=by
 unfold af.iN;split
 ·exact hok
 ·refine XK (S:=af.gQ S n.toNat (S.aO n.toNat++s)) ⟨hok.all,hok.la,hok.now,hok.bt,hok.tp,hok.left,fun c hc=>?_⟩ _ _
  unfold af.gQ upd;simp only;split
  ·exact aj0 _
  ·exact hok.aO c hc
theorem aj2 (S:af.St) (n:Nat) (f:ByteArray):(af.kT S n f).pf=S.pf/\(af.kT S n f).L=S.L:=by
 unfold af.kT;split
 ·split
  ·split
   ·exact⟨rfl,rfl⟩
   ·split
    ·exact⟨rfl,rfl⟩
    ·exact⟨rfl,rfl⟩
  ·exact⟨rfl,rfl⟩
 ·exact⟨rfl,rfl⟩
theorem XL (S:af.St) (n:Nat) (b:ByteArray):∀ k,(af.gP S n b k).pf=S.pf/\(af.gP S n b k).L=S.L
 | 0=>⟨rfl,rfl⟩
 | k+1=>by
  have h:=XL S n b k;have h2:=aj2 (af.gP S n b k) n (fr b k);exact⟨h2.1.trans h.1,h2.2.trans h.2⟩
theorem aj3 (S:af.St) (n:Int) (s:ByteArray):(af.iN S n s).pf=S.pf/\(af.iN S n s).L=S.L:=by
 unfold af.iN;split
 ·exact⟨rfl,rfl⟩
 ·have h:=XL (af.gQ S n.toNat (S.aO n.toNat++s)) n.toNat (S.aO n.toNat++s) ((S.aO n.toNat++s).size/30)
  exact⟨h.1,h.2⟩
theorem aj4 (S:af.St) (n:Int):(af.h_ S n).pf=S.pf:=by unfold af.h_;split <;> rfl
theorem N9 {M:Nat} (hok:af.Ok N wd h S) (hM:N<=M):af.Ok M wd h S :=
 ⟨hok.all,fun c hc=>⟨(hok.la c hc).1,by have:=(hok.la c hc).2;omega⟩,lTq hok.now hM,lTq hok.bt hM,hok.tp,hok.left,hok.aO⟩
noncomputable def af.fJ (wd h seed:Int) (S:af.St):Nat->af.St
 | 0=>S
 | k+1=>af.cz wd h seed (af.fJ wd h seed S k)
noncomputable def af.oF (wd h seed:Int) (S:af.St):Nat->List af.dc
 | 0=>[]
 | k+1=>af.oF wd h seed S k++af.gR wd h seed (af.fJ wd h seed S k)
def sV (x:Stp):Bool:=x.kind.toList==[102,101,101,100]
def ny (x:Stp):Bool:=x.kind.toList==[99,117,116]
def oG (x:Stp):Nat:=if x.n.toNat<8 then x.n.toNat else 8
noncomputable def af.mg (wd h seed:Int) (S:af.St) (x:Stp):af.St :=
 if sV x=true then af.iN S x.c (af.nj x.s x.asks x.asks.length) else if ny x=true then af.h_ S x.n else af.fJ wd h seed S (oG x)
noncomputable def af.pU (wd h seed:Int) (S:af.St) (x:Stp):List af.dc :=
 if sV x=true then [] else if ny x=true then [] else af.oF wd h seed S (oG x)
def XM:Stp:=⟨ByteArray.empty,0,[],ByteArray.empty,0⟩
def eU (l:List Stp) (i:Nat):Stp:=l.getD i XM
noncomputable def af.fK (wd h seed:Int) (S:af.St) (l:List Stp):Nat->af.St
 | 0=>S
 | k+1=>af.mg wd h seed (af.fK wd h seed S l k) (eU l k)
noncomputable def af.kV (wd h seed:Int) (S:af.St) (l:List Stp):Nat->List af.dc
 | 0=>[]
 | k+1=>af.kV wd h seed S l k++af.pU wd h seed (af.fK wd h seed S l k) (eU l k)
end
def CO (w:World) (g:Addr) (x:Stp):Prop:=∃ aa m cap,w.cell? g=some (.string x.kind)/\w.cell? ⟨g.block,g.off+1,none⟩=some (.int .i64 x.c)/\w.cell? ⟨g.block,g.off+2,none⟩=some (.slice aa m cap)/\w.cell? ⟨g.block,g.off+3,none⟩=some (.string x.s)/\w.cell? ⟨g.block,g.off+4,none⟩=some (.int .i64 x.n)/\zf w aa m x.asks
def CH (w:World) (a:Option Addr) (n:Nat) (l:List Stp):Prop:=l.length=n/\(n=0\/∃ g,a=some g/\∀ i,i<n->CO w (g.add (i*5)) (eU l i))/\∀ i,i<n->(eU l i).n<=9223372036854775807
theorem CO.later {w w':World} {g:Addr} {x:Stp} (h:CO w g x) (hb:Below w.heap.size w w'):CO w' g x:=by
 obtain⟨aa,m,cap,h0,h1,h2,h3,h4,h5⟩:=h;exact⟨aa,m,cap,cell_later hb h0,cell_later hb h1,cell_later hb h2,cell_later hb h3,cell_later hb h4,h5.later hb⟩
theorem XN:∀ (l:List af.dc),∀ u∈ia l,u.oneCell'=true
 | [],u,h=>by cases h
 | x::l,u,h=>by
  unfold ia at h;rw[List.flatMap_cons,List.mem_append]at h;rcases h with h | h
  ·exact NU x u h
  ·exact XN l u h
theorem aj5 {b0 b2:Nat} (W:World) (v v2:Value) (l l2:List af.dc) (hr:gD W b0 v l) (hr2:gD W b2 v2 l2) (hl:l.length<=1000000) (hl2:l2.length<=10000) (hb:b0<=W.heap.size) :
  ∃ v' W',(Builtin.append_ #[55,55] 55 #[v,v2]).run Tryz.prog W=.ok v' W'/\gD W' b0 v' (l++l2)/\W.grownBy W' v.ownBlock:=by
 obtain⟨i0,z0,hi,hz0,hz1,hz2,hz3⟩:=NV;rcases hr2.2 with ⟨e1,e2⟩ | ⟨g,cap,cur,e1,_,hg,_⟩
 ·have h0:l2=[]:=by
   cases l2 with
   | nil=>rfl
   | cons a b=>simp at e2
  subst h0 e1;refine⟨v,W,run_append_owned_none W b0 55 55 121 i0 6 Tryz.underlying55 hi v l.length (ia l) hr,by rw[aNq];exact hr,⟨rfl,rfl,rfl,lRq _,fun _ _ _=>rfl⟩⟩
 ·have hc:∀ j u,(ia l2)[j]?=some u->W.cell? ((⟨g,0,none⟩:Addr).add j)=some u:=fun j u hj=>by
   have:=World.ownsRow.cells hr2 (g:=g) (by rw[e1];rfl) j u hj
   exact this
  subst e1;obtain⟨v4,w4,hap,hrow,hgr,_,_⟩:=run_append_own_at (P:=Tryz.prog) (w:=W) b0 55 55 121 i0 z0 6 56 Tryz.underlying55 hi hz0 hz1 hz2 hz3 (by decide) v l.length (ia l) hr ⟨g,0,none⟩ l2.length cap (ia l2) (Xh l2) hc (XN l2) (by unfold maxLen;omega) (by omega) hb;refine⟨v4,w4,hap,?_,hgr⟩;show w4.ownsRow b0 121 6 v4 (l++l2).length (ia (l++l2));rw[NT,lAq];exact hrow
end Go.Proofs.YtjolccidheflpaaGreatDoor
namespace Go.Proofs.YtjolccidheflpaaGreatDoor
set_option maxHeartbeats 8000000
set_option maxRecDepth 100000
namespace af
open Cv
variable {D:Int} {P:List dc} {r:di} {wd h:Int}
end af
namespace af
end af
namespace af
theorem YH {a:Ask} (h:bz.ac a=0):d6 (eo a)=0/\cB (eo a)=a/\(eo a).size=30:=by
 obtain⟨k,c,sq,it,sd,pr,q,id⟩:=a;have hf:eo ⟨k,c,sq,it,sd,pr,q,id⟩=strOfNums (ah.frame k c sq it sd pr q id):=by
  unfold eo tx;exact if_pos h
 rw[hf];have h':ah.code k c sq it sd pr q id=0:=h;obtain⟨h1,_⟩:=Ws h';obtain⟨e0,e1,e2,e3,e4,e5,e6,e7⟩:=Wq h';refine⟨h1,?_,by rw[strOfNums_size,ah.Ga]⟩;unfold cB cZ;rw[if_pos h1,if_pos h1,if_pos h1,if_pos h1,if_pos h1,if_pos h1,if_pos h1,if_pos h1,e0,e1,e2,e3,e4,e5,e6,e7]
end af
namespace af
def akL (L:Nat->List Cv.ag) (c:Nat):Prop:=∀ i,i<3->∀ x∈L i,x.ak≠(c:Int)
structure J (S:St):Prop where
 q:∀ c,c<6->∀ a∈S.Q c,a.c=(c:Int)
 off:∀ c,c<6->S.on c=false->S.Q c=[]/\(S.aR c=true\/akL S.L c)
 tn:S.t<6
theorem Yf (Q:Nat->List Ask) {n:Nat} (hn:n<6) (c:Nat):ay.oo Q n c=if c=n then [] else Q c:=by
 have h:ay.oq (n:Int)=true:=by unfold ay.oq;simp;omega
 have e:((n:Int)).toNat=n:=by omega
 unfold ay.oo;rw[if_pos h,e];rfl
theorem Yg {Q:Nat->List Ask} {t:Nat} (ht:t<6):∀ k,k<=6->∀ a∈ay.kJ Q t k,∃ c,c<6/\a∈Q c
 | 0,_,a,h=>by cases h
 | k+1,hk,a,h=>by
  rw[ay.afZ Q ht (by omega),List.mem_append]at h;rcases h with h | h
  ·exact Yg ht k (by omega) a h
  ·exact⟨ay.who t k,ay.uj t k,List.mem_of_mem_take h⟩
theorem Ou {Q:Nat->List Ask} {t:Nat} (ht:t<6) (c:Nat):(∀ a∈ay.yD Q t c,a∈Q c)/\(Q c=[]->ay.yD Q t c=[]):=by
 unfold ay.yD;rw[ay.Mu Q ht 6 (lRq _) c];split
 ·exact⟨fun a h=>List.mem_of_mem_drop h,fun e=>by rw[e];rfl⟩
 ·exact⟨fun _ h=>h,fun e=>e⟩
end af
namespace af
theorem Yh (wd h seed:Int) (S:St) (hd:(cz wd h seed S).down=false):S.down=false:=by
 cases e:S.down with
 | false=>rfl
 | true=>unfold cz at hd;rw[if_pos e,e]at hd;exact hd
end af
namespace af
open Cv
variable {wd h seed:Int} {c:Nat} {D:Int} {l:List Ask} {S:St}
theorem IB (bt:Nat) (ds:List Nat) (l:List Ask) (hb:bt<=1000000) (hd:∀ d∈ds,d<6) (hl:ds.length<=6) (ha:l.length<=12):(f_ bt ds l).size<=980:=by
 unfold f_ Hw;rw[strOfNums_size];have h1:=H9 (bt:Int) (by omega) (by omega);have h2:=H_ ds hd ds.length;have h3:=Ia l l.length;simp only[List.length_append,List.length_singleton];omega
theorem Df (aR:Nat->Bool):∀ k,(dO aR k).length<=k/\∀ d∈dO aR k,d<k
 | 0=>⟨lRq _,fun _ h=>by cases h⟩
 | k+1=>by
  obtain⟨h1,h2⟩:=Df aR k;refine⟨?_,fun d hd=>?_⟩
  ·rw[dO,lAq]
   split <;> simp <;> omega
  ·rw[dO,List.mem_append]at hd
   rcases hd with hd | hd
   ·exact Nat.lt_succ_of_lt (h2 d hd)
   ·split at hd
    ·rw[List.mem_singleton.1 hd];omega
    ·cases hd
theorem al7 (S:St) (hb:S.bt<=1000):(bV S).size<=980:=by
 obtain⟨h1,h2⟩:=Df S.aR 6;exact IB S.bt _ _ (by omega) h2 h1 (uk S.Q S.t 6)
end af
namespace af
structure eD where
 ds:List Nat
 l:List Ask
variable {wd h seed:Int} {S T:St}
noncomputable def mo (wd h seed:Int) (S:St) (b:eD):St:=mf wd h seed (bu { S with now:=S.now+3 }) b.ds b.l
noncomputable def replay (wd h seed:Int) (S:St) (H:List eD):St:=H.foldl (mo wd h seed) S
theorem Zm (S:St) (H:List eD) (b:eD):replay wd h seed S (H++[b])=mo wd h seed (replay wd h seed S H) b:=by
 unfold replay;rw[List.foldl_append];rfl
structure vq (S T:St):Prop where
 L:S.L=T.L
 pf:S.pf=T.pf
 n:S.n=T.n
 bt:S.bt=T.bt
theorem vq.refl (S:St):vq S S:=⟨rfl,rfl,rfl,rfl⟩
theorem vq.ran (e:vq S T) (ds:List Nat) (l:List Ask):vq (mf wd h seed S ds l) (mf wd h seed T ds l)/\(iO wd h seed S ds l)=(iO wd h seed T ds l):=by
 have hr:iO wd h seed S ds l=iO wd h seed T ds l:=by
  unfold iO start;rw[e.L,e.pf,e.n,e.bt]
 refine⟨⟨?_,?_,?_,?_⟩,hr⟩
 ·show (iO wd h seed S ds l).L=(iO wd h seed T ds l).L;rw[hr]
 ·show (iO wd h seed S ds l).pf=(iO wd h seed T ds l).pf;rw[hr]
 ·show (iO wd h seed S ds l).n=(iO wd h seed T ds l).n;rw[hr]
 ·show S.bt+1=T.bt+1;rw[e.bt]
def q9:Nat->List eD->List (List UInt8)
 | _,[]=>[]
 | k,b::r=>(f_ k b.ds b.l).data.toList::q9 (k+1) r
def texts (H:List eD):List (List UInt8):=q9 0 H
theorem Zn:∀ (k:Nat) (H:List eD) (b:eD),q9 k (H++[b])=q9 k H++[(f_ (k+H.length) b.ds b.l).data.toList]
 | k,[],b=>rfl
 | k,a::H,b=>by
  show _::q9 (k+1) (H++[b])=(_::q9 (k+1) H)++_;rw[Zn (k+1) H b,List.cons_append,lCq,show k+(H.length+1)=k+1+H.length by omega]
theorem amc (H:List eD) (b:eD):texts (H++[b])=texts H++[(f_ H.length b.ds b.l).data.toList]:=by
 unfold texts;rw[Zn,Nat.zero_add]
structure pY (b:eD):Prop where
 Zc:b.ds.Pairwise (· < ·)
 few:∀ d∈b.ds,d<6
 asks:∀ a∈b.l,bz.ac a=0
 len:b.l.length<=12
theorem Zo (aR:Nat->Bool):∀ k,(dO aR k).Pairwise (· < ·)
 | 0=>List.Pairwise.nil
 | k+1=>by
  rw[dO,List.pairwise_append];refine⟨Zo aR k,by split <;> simp,fun a ha b hb=>?_⟩;have h1:=(Df aR k).2 a ha;split at hb
  ·rw[List.mem_singleton.1 hb];exact h1
  ·cases hb
theorem Zp {n:Nat}:∀ (l:List Nat) (lo:Nat),l.Pairwise (· < ·)->(∀ d∈l,lo<=d/\d<n)->l.length<=n-lo
 | [],_,_,_=>Nat.zero_le _
 | a::l,lo,hp,hn=>by
  obtain⟨h1,h2⟩:=List.pairwise_cons.1 hp;have h3:=hn a mSq;have h4:=Zp l (a+1) h2 (fun d hd=>⟨h1 d hd,(hn d (mOq _ hd)).2⟩);rw[lCq];omega
theorem pY.Pk {b:eD} (hb:pY b):b.ds.length<=6:=Zp b.ds 0 hb.Zc (fun d hd=>⟨Nat.zero_le _,hb.few d hd⟩)
structure cK (wd h seed:Int) (S0:St) (H:List eD) (S:St):Prop where
 dw:vq S (replay wd h seed S0 H)
 len:S.bt=H.length
 ok:∀ b∈H,pY b
 tp:∃ tail,S.tp=bm.recs (texts H)++tail/\bm.first tail=none/\(S.down=false->tail=[])
 q:∀ c,c<6->∀ a∈S.Q c,bz.ac a=0
 tn:S.t<6
variable {S0:St} {H:List eD}
theorem cK.hear (I:cK wd h seed S0 H S) {n:Nat} (hn:n<6) (f:ByteArray):cK wd h seed S0 H (kT S n f):=by
 unfold kT;split
 ·split
  ·rename_i hd ht
   generalize cB f=a at *;have hac:bz.ac a=0:=by
    unfold takeC at ht;split at ht
    ·unfold bz.tc at ht
     split at ht
     ·assumption
     ·assumption
    ·cases ht
   split
   ·refine⟨⟨I.dw.L,I.dw.pf,I.dw.n,I.dw.bt⟩,I.len,I.ok,I.tp,fun c hc x hx=>?_,I.tn⟩
    have hx':x∈ay.jK S.Q a c:=hx;unfold ay.jK at hx';split at hx'
    ·unfold ay.upd at hx'
     split at hx'
     ·rename_i e
      rcases List.mem_append.1 hx' with h1 | h1
      ·rw[<- e]at h1;exact I.q c hc x h1
      ·rw[List.mem_singleton.1 h1];exact hac
     ·exact I.q c hc x hx'
    ·exact I.q c hc x hx'
   ·split
    ·refine⟨⟨I.dw.L,I.dw.pf,I.dw.n,I.dw.bt⟩,I.len,I.ok,I.tp,fun c hc x hx=>?_,I.tn⟩
     have hx':x∈ay.oo S.Q n c:=hx;rw[Yf _ hn]at hx';split at hx'
     ·cases hx'
     ·exact I.q c hc x hx'
    ·exact⟨⟨I.dw.L,I.dw.pf,I.dw.n,I.dw.bt⟩,I.len,I.ok,I.tp,I.q,I.tn⟩
  ·exact I
 ·exact I
theorem cK.hears (I:cK wd h seed S0 H S) {n:Nat} (hn:n<6) (b:ByteArray):∀ k,cK wd h seed S0 H (gP S n b k)
 | 0=>I
 | k+1=>(cK.hears I hn b k).hear hn _
theorem cK.feed (I:cK wd h seed S0 H S) (n:Int) (b:ByteArray):cK wd h seed S0 H (iN S n b):=by
 unfold iN;split
 ·exact I
 ·rename_i hc
  have hn:n.toNat<6:=by
   have:ah.aB n 0 5=true:=by
    cases hw:ah.aB n 0 5 with
    | true=>rfl
    | false=>exact absurd (.inr hw) hc
   unfold ah.aB at this;simp at this;omega
  exact cK.hears (S:=gQ S n.toNat (S.aO n.toNat++b)) ⟨⟨I.dw.L,I.dw.pf,I.dw.n,I.dw.bt⟩,I.len,I.ok,I.tp,I.q,I.tn⟩ hn _ _
theorem cK.hang (I:cK wd h seed S0 H S) {n:Nat} (hn:n<6):cK wd h seed S0 H (hang S n):=by
 unfold af.hang;split
 ·refine⟨⟨I.dw.L,I.dw.pf,I.dw.n,I.dw.bt⟩,I.len,I.ok,I.tp,fun c hc x hx=>?_,I.tn⟩
  have hx':x∈ay.oo S.Q n c:=hx;rw[Yf _ hn]at hx';split at hx'
  ·cases hx'
  ·exact I.q c hc x hx'
 ·exact I
theorem cK.hangs (I:cK wd h seed S0 H S):∀ k,k<=6->cK wd h seed S0 H (hangs S k)
 | 0,_=>I
 | k+1,hk=>(cK.hangs I k (by omega)).hang (by omega)
theorem cK.bh (I:cK wd h seed S0 H S):cK wd h seed S0 H (bh S) :=
 cK.hangs (S:={ S with now:=S.now+1 }) ⟨⟨I.dw.L,I.dw.pf,I.dw.n,I.dw.bt⟩,I.len,I.ok,I.tp,I.q,I.tn⟩ 6 (lRq _)
theorem Iz (s:ByteArray):(bm.rec s.data.toList).length=12+s.size:=by rw[bm.uK];rfl
theorem cK.amd (I:cK wd h seed S0 H S) (hd:S.down=false) (hb:S.bt<=1000000):∃ H',cK wd h seed S0 H' (jR wd h seed S)/\(H'=H\/H'=H++[⟨dO S.aR 6,ay.out S.Q S.t⟩]):=by
 have hsz:(bV S).size<=980:=by
  obtain⟨h1,h2⟩:=Df S.aR 6;exact IB S.bt _ _ hb h2 h1 (uk S.Q S.t 6)
 obtain⟨tail,e1,e2,e3⟩:=I.tp;have e4:=e3 hd;subst e4;rw[aNq]at e1;unfold jR;split
 ·rename_i hap
  refine⟨H++[⟨dO S.aR 6,ay.out S.Q S.t⟩],?_,.inr rfl⟩;have hbk:pY ⟨dO S.aR 6,ay.out S.Q S.t⟩:=⟨Zo _ _,(Df S.aR 6).2,fun a ha=>by
   obtain⟨c,hc,ha⟩:=Yg I.tn 6 (lRq _) a ha;exact I.q c hc a ha,uk S.Q S.t 6⟩
  have hA:∀ s,(bI (af.bu S) s).L=S.L/\(bI (af.bu S) s).pf=S.pf/\(bI (af.bu S) s).n=S.n/\(bI (af.bu S) s).bt=S.bt/\(bI (af.bu S) s).Q=(af.bu S).Q/\(bI (af.bu S) s).t=(af.bu S).t/\(bI (af.bu S) s).down=S.down:=fun s=>by
   unfold bI;split <;> exact⟨rfl,rfl,rfl,rfl,rfl,rfl,rfl⟩
  obtain⟨a1,a2,a3,a4,a5,a6,a7⟩:=hA (bV S);have ame:vq (bI (af.bu S) (bV S)) (af.bu { replay wd h seed S0 H with now:=(replay wd h seed S0 H).now+3 }) :=
   ⟨a1.trans I.dw.L,a2.trans I.dw.pf,a3.trans I.dw.n,a4.trans I.dw.bt⟩
  refine⟨?_,?_,fun b hb'=>?_,⟨[],?_,rfl,fun _=>rfl⟩,?_,?_⟩
  ·rw[Zm];exact(ame.ran (dO S.aR 6) (ay.out S.Q S.t)).1
  ·show (bI (af.bu S) (bV S)).bt+1=_
   rw[a4,I.len,lAq];rfl
  ·rcases List.mem_append.1 hb' with h1 | h1
   ·exact I.ok b h1
   ·rw[List.mem_singleton.1 h1];exact hbk
  ·show (bI (af.bu S) (bV S)).tp=_
   rw[aNq,amc,bm.NF,<- e1,<- I.len];unfold iA at hap;simp only[Bool.and_eq_true,Bool.or_eq_true,Bool.not_eq_true',decide_eq_true_eq]at hap;unfold bI;rw[if_neg (by rw[hap.1];decide)];show S.tp++(if S.cut=true then (bm.rec (bV S).data.toList).take S.left else bm.rec (bV S).data.toList)=S.tp++bm.rec (bV S).data.toList;split
   ·rename_i hcut
    have h1:12+(bV S).size<=S.left:=by
     rcases hap.2 with h2 | h2
     ·exact absurd hcut (by rw[show S.cut=false from h2];decide)
     ·exact h2
    rw[List.take_of_length_le (by rw[Iz];exact h1)]
   ·rfl
  ·intro c hc x hx
   have hx':x∈(bI (af.bu S) (bV S)).Q c:=hx;rw[a5]at hx';exact I.q c hc x ((Ou I.tn c).1 x hx')
  ·show (bI (af.bu S) (bV S)).t<6
   rw[a6];exact ay.uj _ _
 ·rename_i hap
  refine⟨H,?_,.inl rfl⟩;have hA:∀ s,(bI (af.bu S) s).L=S.L/\(bI (af.bu S) s).pf=S.pf/\(bI (af.bu S) s).n=S.n/\(bI (af.bu S) s).bt=S.bt/\(bI (af.bu S) s).Q=(af.bu S).Q/\(bI (af.bu S) s).t=(af.bu S).t:=fun s=>by
   unfold bI;split <;> exact⟨rfl,rfl,rfl,rfl,rfl,rfl⟩
  obtain⟨a1,a2,a3,a4,a5,a6⟩:=hA (bV S);refine⟨⟨a1.trans I.dw.L,a2.trans I.dw.pf,a3.trans I.dw.n,a4.trans I.dw.bt⟩,a4.trans I.len,I.ok,?_,?_,?_⟩
  ·show ∃ tail,(bI (af.bu S) (bV S)).tp=bm.recs (texts H)++tail/\bm.first tail=none/\(true=false->tail=[])
   unfold bI;split
   ·exact⟨[],by rw[aNq];exact e1,rfl,fun hf=>by cases hf⟩
   ·rename_i hfl
    have amf:full (af.bu S) (bV S)=false:=by simpa using hfl
    have hcl:S.cut=true/\S.left<12+(bV S).size:=by
     have:iA (af.bu S) (bV S)=false:=by simpa using hap
     unfold iA at this;rw[amf]at this;have h2:(!S.cut || decide (12+(bV S).size<=S.left))=false:=by rw[Bool.not_false,Bool.true_and]at this;exact this
     simp only[Bool.or_eq_false_iff,Bool.not_eq_false',decide_eq_false_iff_not]at h2;exact⟨h2.1,by omega⟩
    refine⟨(bm.rec (bV S).data.toList).take S.left,?_,?_,fun hf=>by cases hf⟩
    ·show S.tp++(if S.cut=true then (bm.rec (bV S).data.toList).take S.left else bm.rec (bV S).data.toList)=_
     rw[if_pos hcl.1,e1]
    ·refine bm.aiQ (bV S).data.toList _ (show (bV S).size<=10000 by omega) (List.take_prefix _ _) ?_
     rw[lKq,Iz];omega
  ·intro c hc x hx
   have hx':x∈(bI (af.bu S) (bV S)).Q c:=hx;rw[a5]at hx';exact I.q c hc x ((Ou I.tn c).1 x hx')
  ·show (bI (af.bu S) (bV S)).t<6
   rw[a6];exact ay.uj _ _
theorem cK.tick (I:cK wd h seed S0 H S) (hb:S.bt<=1000000):∃ H',cK wd h seed S0 H' (cz wd h seed S)/\H <+: H':=by
 unfold cz;split
 ·exact⟨H,I,List.prefix_rfl⟩
 ·rename_i hd
  split
  ·have uW:(af.bh S).down=false:=by rw[show (af.bh S).down=S.down from(qX _ 6).2.2.1];simpa using hd
   obtain⟨H',h1,h2⟩:=I.bh.amd uW (by rw[show (af.bh S).bt=S.bt from(qX _ 6).2.1];exact hb);refine⟨H',h1,?_⟩;rcases h2 with h2 | h2
   ·rw[h2];exact List.prefix_rfl
   ·rw[h2];exact List.prefix_append _ _
  ·exact⟨H,I.bh,List.prefix_rfl⟩
end af
end Go.Proofs.YtjolccidheflpaaGreatDoor
namespace Go.Proofs.YtjolccidheflpaaGreatDoor
set_option maxHeartbeats 8000000
open Go.RowKit
set_option maxRecDepth 100000
section
variable {w W:World} {ad:Nat->Addr} {B:cJ} {X:cy} {wd h seed:Int} {S:af.St}
theorem amF (ds:List Nat) (l:List Ask) (bK va:Value) (based qU:Nat) (W:World) (H:Hid (av w W B X wd h seed S)) (hs:Hid (bT w ad)) (hall:Hid (d_ S.L S.pf S.n wd h)) (hbt:S.bt<=1000000) (vh:S.now<=10000000)
  (hrd:Hid (W.ownsRow based 3 1 bK ds.length (jT ds))) (gX:Hid (W.ownsRow qU 95 8 va l.length (bl l))) (hna:Hid (∀ k,va.ownBlock=some k->¬ eT B X k)) (zv:Hid (∀ d∈ds,d<6)) (hdl:ds.length<=6) (hal:l.length<=12) :
  Calls Tryz.prog 104 #[.pointer (some ⟨B.V,0,none⟩),bK,va] W fun e w'=>e=.returned (.tuple #[])/\∃ X',av w w' B X' wd h seed (af.mo wd h seed S ⟨ds,l⟩)/\aV W w' B X X'/\d_ (af.mo wd h seed S ⟨ds,l⟩).L (af.mo wd h seed S ⟨ds,l⟩).pf (af.mo wd h seed S ⟨ds,l⟩).n wd h:=by
 obtain⟨h2,hs2⟩:=H.out.XX (S.now+3);rw[show ((S.now+3:Nat):Int)=(S.now:Int)+3 by push_cast;rfl]at h2 hs2;have aaq:=H.out.CX (j:=34) (u:=.int .i64 ((S.now:Int)+3)) hrd.out (by decide);have aar:=H.out.CX (j:=34) (u:=.int .i64 ((S.now:Int)+3)) gX.out (by decide);have H2:=hDq h2;have HS2:=hDq hs2;have HD2:=hDq aaq;have cm:=hDq aar;clear h2 hs2 aaq aar;have c34:W.cell? ⟨B.V,34,none⟩=some (.int .i64 S.now):=H.out.at 34;have fz:∀ j,W.frozen? ⟨B.V,j,none⟩=false:=fun j=>H.out.free j;have Ye:B.V<W.heap.size:=H.out.lt;have c2:W.cell? ⟨B.V,2,none⟩=some (.pointer (some ⟨B.q,0,none⟩)):=H.out.at 2;go_enter Tryz.func104,Tryz.ntmps104
 go_wp2_with fail
 generalize W.setCell ⟨B.V,34,none⟩ (.int .i64 ((S.now:Int)+3))=w2 at *;refine(Un _ H2.out.it).mono ?_;rintro e w3 ⟨d3,amR,rfl,_,bY,aas,_⟩;obtain⟨h3,hs3⟩:=H2.out.take bY aas;have H3:Hid (av w w3 B { X with qv:=amR } wd h seed (af.bu { S with now:=S.now+3 })):=h3;have cQ:=hDq (HS2.out.trans hs3);have HD3:=hDq (hs3.row H2.out HD2.out (by decide));have ji:Hid (w3.ownsRow qU 95 8 va l.length (bl l)):=fR cm.out hs3.turned (fun k hk=>hna.out k hk);have vk:=hDq (XZ ds l bK va based qU w3 H3 hs hall hbt HD3 ji zv hdl hal);clear bY aas h3 hs3 c34 fz c2 Ye;simp only[]
 go_wp2_with fail
 refine vk.out.mono ?_;rintro e w4 ⟨v4,mj,rfl,h4,bX,_,zD,_,_⟩;have cP:=hDq h4;have cr:=hDq (cQ.out.trans bX);have ei:=hDq zD;clear h4 bX zD vk;simp only[];go_wp2;go_end0;exact⟨rfl,mj,cP.out,cr.out,ei.out⟩
end
end Go.Proofs.YtjolccidheflpaaGreatDoor
namespace Go.Proofs.YtjolccidheflpaaGreatDoor
set_option maxHeartbeats 8000000
set_option maxRecDepth 100000
namespace af
variable {wd h seed:Int}
def wc (S:St) (c:Bool) (x:Nat):St:={ S with cut:=c,left:=x }
theorem anf (S:St) (c:Bool) (x n:Nat) (f:ByteArray):kT (wc S c x) n f=wc (kT S n f) c x:=by
 have e:takeC (wc S c x) n (cB f)=takeC S n (cB f):=rfl;unfold kT;rw[e];split
 ·split
  ·split
   ·rfl
   ·split <;> rfl
  ·rfl
 ·rfl
theorem aau (S:St) (c:Bool) (x n:Nat) (b:ByteArray):∀ k,gP (wc S c x) n b k=wc (gP S n b k) c x
 | 0=>rfl
 | k+1=>by rw[gP,gP,aau S c x n b k,anf]
theorem ang (S:St) (c:Bool) (x:Nat) (n:Int) (b:ByteArray):iN (wc S c x) n b=wc (iN S n b) c x:=by
 unfold iN;by_cases hc:S.down=true\/ah.aB n 0 5=false
 ·rw[if_pos hc,if_pos (show (wc S c x).down=true\/ah.aB n 0 5=false from hc)]
 ·rw[if_neg hc,if_neg (show ¬ ((wc S c x).down=true\/ah.aB n 0 5=false) from hc)]
  exact aau (gQ S n.toNat (S.aO n.toNat++b)) c x _ _ _
theorem anh (S:St) (c:Bool) (x n:Nat):hang (wc S c x) n=wc (hang S n) c x:=by
 unfold hang;show (if bz.late (S.on n) (S.la n) S.now=true then gone (wc S c x) n else wc S c x)=_;split <;> rfl
theorem aav (S:St) (c:Bool) (x:Nat):∀ k,hangs (wc S c x) k=wc (hangs S k) c x
 | 0=>rfl
 | k+1=>by rw[hangs,hangs,aav S c x k,anh]
theorem ani (S:St) (c:Bool) (x:Nat):bh (wc S c x)=wc (bh S) c x:=aav { S with now:=S.now+1 } c x 6
theorem anj (S:St) (hS:S.cut=false) (c:Bool) (x:Nat) :
  (∃ x',jR wd h seed (wc S c x)=wc (jR wd h seed S) c x'/\qQ wd h seed (wc S c x)=qQ wd h seed S/\((jR wd h seed S).cut=false))\/((jR wd h seed (wc S c x)).down=true/\qQ wd h seed (wc S c x)=[]):=by
 have bN:bV (wc S c x)=bV S:=rfl;have ed:bu (wc S c x)=wc (bu S) c x:=rfl;by_cases hap:iA (wc (bu S) c x) (bV S)=true
 ·have hfull:full (bu S) (bV S)=false:=by
   unfold iA at hap;simp only[Bool.and_eq_true,Bool.not_eq_true']at hap;exact hap.1
  have hu:iA (bu S) (bV S)=true:=by
   unfold iA;rw[hfull,show (bu S).cut=false from hS];rfl
  have hlen:c=true->(bm.rec (bV S).data.toList).length<=x:=fun hc=>by
   unfold iA at hap;simp only[Bool.and_eq_true,Bool.or_eq_true,Bool.not_eq_true',decide_eq_true_eq]at hap;rw[Iz];rcases hap.2 with h1 | h1
   ·exact absurd hc (by rw[show c=false from h1];decide)
   ·exact h1
  have e1:bI (bu S) (bV S) = { bu S with tp:=S.tp++bm.rec (bV S).data.toList }:=by
   unfold bI;rw[if_neg (by rw[hfull];decide),if_neg (by rw[show (bu S).cut=false from hS];decide),if_neg (by rw[show (bu S).cut=false from hS];decide)];rfl
  have e2:bI (wc (bu S) c x) (bV S)=wc { bu S with tp:=S.tp++bm.rec (bV S).data.toList } c (if c=true then x-(12+(bV S).size) else x):=by
   have hf2:full (wc (bu S) c x) (bV S)=false:=hfull;unfold bI;rw[if_neg (by rw[hf2];decide)];unfold wc;congr 1;show S.tp++(if c=true then (bm.rec (bV S).data.toList).take x else bm.rec (bV S).data.toList)=_;split
   ·rename_i hc;rw[List.take_of_length_le (hlen hc)]
   ·rfl
  refine .inl ⟨if c=true then x-(12+(bV S).size) else x,?_,?_,?_⟩
  ·unfold jR
   rw[bN,ed,if_pos hap,if_pos hu,e1,e2];rfl
  ·unfold qQ
   rw[bN,ed,if_pos hap,if_pos hu,e1,e2];rfl
  ·unfold jR
   rw[if_pos hu,e1];exact hS
 ·refine .inr ⟨?_,?_⟩
  ·unfold jR
   rw[bN,ed,if_neg hap]
  ·unfold qQ
   rw[bN,ed,if_neg hap]
structure jX (v u:St) (R Q:List dc):Prop where
 same:v.down=false->(∃ c x,v=wc u c x)/\u.cut=false/\R=Q
 pre:R <+: Q
theorem jX.tick {v u:St} {R Q:List dc} (I:jX v u R Q):jX (cz wd h seed v) (cz wd h seed u) (R++gR wd h seed v) (Q++gR wd h seed u):=by
 cases hd:v.down with
 | true =>
  have e1:cz wd h seed v=v:=by unfold cz;rw[if_pos hd]
  have e2:gR wd h seed v=[]:=by unfold gR;rw[if_pos hd]
  rw[e1,e2,aNq];exact⟨fun hf=>(by rw[hd]at hf;cases hf),I.pre.trans (List.prefix_append _ _)⟩
 | false =>
  obtain⟨⟨c,x,e⟩,hu,hR⟩:=I.same hd;subst hR;have I1:u.down=false:=by rw[e]at hd;exact hd
  have et:=ani u c x;have vh:v.now=u.now:=by rw[e];rfl
  by_cases hm:(u.now+1)%3=0
  ·have mh:(bh u).cut=false:=by rw[show (bh u).cut=u.cut from(qX _ 6).2.2.2.2.2.2.2.1];exact hu
   have s1:cz wd h seed v=jR wd h seed (wc (bh u) c x):=by unfold cz;rw[if_neg (by rw[hd];decide),if_pos (by rw[vh];exact hm),e,et]
   have r1:gR wd h seed v=qQ wd h seed (wc (bh u) c x):=by unfold gR;rw[if_neg (by rw[hd];decide),if_pos (by rw[vh];exact hm),e,et]
   have s2:cz wd h seed u=jR wd h seed (bh u):=by unfold cz;rw[if_neg (by rw[I1];decide),if_pos hm]
   have r2:gR wd h seed u=qQ wd h seed (bh u):=by unfold gR;rw[if_neg (by rw[I1];decide),if_pos hm]
   rw[s1,r1,s2,r2];rcases anj (wd:=wd) (h:=h) (seed:=seed) (bh u) mh c x with ⟨x',b1,b2,b3⟩ | ⟨b1,b2⟩
   ·rw[b2];exact⟨fun _=>⟨⟨c,x',b1⟩,b3,rfl⟩,List.prefix_rfl⟩
   ·rw[b2,aNq];exact⟨fun hf=>(by rw[b1]at hf;cases hf),List.prefix_append _ _⟩
  ·have s1:cz wd h seed v=wc (bh u) c x:=by unfold cz;rw[if_neg (by rw[hd];decide),if_neg (by rw[vh];exact hm),e,et]
   have r1:gR wd h seed v=[]:=by unfold gR;rw[if_neg (by rw[hd];decide),if_neg (by rw[vh];exact hm)]
   have s2:cz wd h seed u=bh u:=by unfold cz;rw[if_neg (by rw[I1];decide),if_neg hm]
   have r2:gR wd h seed u=[]:=by unfold gR;rw[if_neg (by rw[I1];decide),if_neg hm]
   have mh:(bh u).cut=false:=by rw[show (bh u).cut=u.cut from(qX _ 6).2.2.2.2.2.2.2.1];exact hu
   rw[s1,r1,s2,r2,aNq];exact⟨fun _=>⟨⟨c,x,rfl⟩,mh,rfl⟩,List.prefix_rfl⟩
theorem jX.ticks {v u:St} {R Q:List dc} (I:jX v u R Q):∀ k,jX (fJ wd h seed v k) (fJ wd h seed u k) (R++oF wd h seed v k) (Q++oF wd h seed u k)
 | 0=>by
  show jX v u (R++[]) (Q++[]);rw[aNq,aNq];exact I
 | k+1=>by
  have h1:=(jX.ticks I k).tick (wd:=wd) (h:=h) (seed:=seed);rw[aAq,aAq]at h1;exact h1
theorem jX.step {v u:St} {R Q:List dc} (I:jX v u R Q) {x:Stp} (hx:ny x=false):jX (mg wd h seed v x) (mg wd h seed u x) (R++pU wd h seed v x) (Q++pU wd h seed u x):=by
 unfold mg pU;by_cases hf:sV x=true
 ·rw[if_pos hf,if_pos hf,if_pos hf,if_pos hf,aNq,aNq]
  refine⟨fun hd=>?_,I.pre⟩;have ib:v.down=false:=by
   cases hv:v.down with
   | false=>rfl
   | true =>
    have:iN v x.c (nj x.s x.asks x.asks.length)=v:=by unfold iN;rw[if_pos (.inl hv)]
    rw[this,hv]at hd;cases hd
  obtain⟨⟨c,y,e⟩,hu,hR⟩:=I.same ib;refine⟨⟨c,y,by rw[e];exact ang u c y _ _⟩,?_,hR⟩;have key:∀ (T:St) (n:Nat) (b:ByteArray) (k:Nat),(gP T n b k).cut=T.cut:=by
   intro T n b k
   induction k with
   | zero=>rfl
   | succ k ih =>
    rw[gP];unfold kT;split
    ·split
     ·split
      ·exact ih
      ·split
       ·exact ih
       ·exact ih
     ·exact ih
    ·exact ih
  unfold iN;split
  ·exact hu
  ·rw[key];exact hu
 ·rw[if_neg hf,if_neg hf,if_neg hf,if_neg hf,if_neg (by rw[hx];decide),if_neg (by rw[hx];decide),if_neg (by rw[hx];decide),if_neg (by rw[hx];decide)]
  exact I.ticks _
theorem jX.walk {v u:St} (I:jX v u [] []) (l:List Stp) {m:Nat} (hl:∀ i,i<m->ny (eU l i)=false):∀ k,k<=m->jX (fK wd h seed v l k) (fK wd h seed u l k) (kV wd h seed v l k) (kV wd h seed u l k)
 | 0,_=>I
 | k+1,hk=>(jX.walk I l hl k (by omega)).step (hl k (by omega))
theorem cK.ticks {S0 S:St} {H:List eD} (I:cK wd h seed S0 H S):∀ k,S.bt+k<=1000000->∃ H',cK wd h seed S0 H' (fJ wd h seed S k)/\H <+: H'/\(fJ wd h seed S k).bt<=S.bt+k
 | 0,_=>⟨H,I,List.prefix_rfl,lRq _⟩
 | k+1,hk=>by
  obtain⟨H1,h1,h2,h3⟩:=cK.ticks I k (by omega);obtain⟨H2,h4,h5⟩:=h1.tick (by omega);refine⟨H2,h4,h2.trans h5,?_⟩;have e1:=h4.len;show (cz wd h seed (fJ wd h seed S k)).bt<=_;have:(cz wd h seed (fJ wd h seed S k)).bt<=(fJ wd h seed S k).bt+1:=by
   generalize fJ wd h seed S k=T at *;have hb:∀ s,(bI (af.bu (af.bh T)) s).bt=T.bt:=fun s=>by
    have:(af.bh T).bt=T.bt:=(qX _ 6).2.1;unfold bI;split
    ·exact this
    ·exact this
   unfold cz;split
   ·omega
   ·split
    ·unfold jR
     split
     ·show (bI (af.bu (af.bh T)) (bV (af.bh T))).bt+1<=_
      rw[hb];omega
     ·show (bI (af.bu (af.bh T)) (bV (af.bh T))).bt<=_
      rw[hb];omega
    ·rw[show (af.bh T).bt=T.bt from(qX _ 6).2.1];omega
  omega
theorem cK.walk {S0 S:St} {H:List eD} (I:cK wd h seed S0 H S) (l:List Stp) {m:Nat} (hl:∀ i,i<m->ny (eU l i)=false) (hb:S.bt+8*m<=1000000):∀ k,k<=m->∃ H',cK wd h seed S0 H' (fK wd h seed S l k)/\H <+: H'/\(fK wd h seed S l k).bt<=S.bt+8*k
 | 0,_=>⟨H,I,List.prefix_rfl,lRq _⟩
 | k+1,hk=>by
  obtain⟨H1,h1,h2,h3⟩:=cK.walk I l hl hb k (by omega);have hc:=hl k (by omega);show ∃ H',cK wd h seed S0 H' (mg wd h seed (fK wd h seed S l k) (eU l k))/\H <+: H'/\(mg wd h seed (fK wd h seed S l k) (eU l k)).bt<=S.bt+8*(k+1);generalize fK wd h seed S l k=T at *;generalize eU l k=x at *;unfold mg;split
  ·have h4:=h1.feed x.c (nj x.s x.asks x.asks.length)
   exact⟨H1,h4,h2,by rw[h4.len,<- h1.len];omega⟩
  ·rw[if_neg (by rw[hc];decide)]
   have ht:oG x<=8:=by unfold oG;split <;> omega
   obtain⟨H2,h4,h5,h6⟩:=h1.ticks (oG x) (by omega);exact⟨H2,h4,h2.trans h5,by omega⟩
theorem ank (ref cash stock:Int):cK wd h seed (init ref cash stock) [] (init ref cash stock) :=
 ⟨vq.refl _,rfl,fun _ hb=>(by cases hb),⟨[],rfl,rfl,fun _=>rfl⟩,fun _ _ _ ha=>(by cases ha),(show 0<6 by decide)⟩
end af
end Go.Proofs.YtjolccidheflpaaGreatDoor
namespace Go.Proofs.YtjolccidheflpaaGreatDoor
set_option maxHeartbeats 8000000
open Go.RowKit
set_option maxRecDepth 100000
theorem PW (c1 c2:Nat) (a1 a2:Option Addr) (w:World):Calls Tryz.prog 107 #[.slice a1 0 c1,.slice a2 0 c2] w fun e w'=>e=.returned (.bool true)/\Below w.heap.size w w':=by
 go_enter Tryz.func107,Tryz.ntmps107;go_wp2;refine wp_loop_rounds 1 ?_;rw[rounds_succ];go_wp2;go_ret;exact⟨rfl,bRq _ _⟩
theorem amV (b1 o1 b2 o2 c1 c2 n:Nat) (l:List Cv.ag) (w:World) (hn:n<=1000) (hl:Hid (l.length=n)) (h1:Hid (eJ w b1 o1 l)) (h2:Hid (eJ w b2 o2 l)) :
  Calls Tryz.prog 107 #[.slice (some ⟨b1,o1,none⟩) n c1,.slice (some ⟨b2,o2,none⟩) n c2] w fun e w'=>e=.returned (.bool true)/\Below w.heap.size w w':=by
 go_enter Tryz.func107,Tryz.ntmps107;go_wp2
 go_loopw [13] (fun i wr=>∃ k:Nat,k<=n/\i=.int .i64 k/\Below w.heap.size w wr) (fun i _=>n-(intOf i).toNat)
 case atStart=>exact⟨0,by omega,rfl,bRq _ _⟩
 case round =>
  obtain⟨k,hk,rfl,hb⟩:=hrel;have HB:=hDq hb;clear hb;by_cases hlt:k<n
  ·obtain⟨c0,c1,c2,c3,c4⟩:=(h1.out.later HB.out) k (by rw[hl.out];exact hlt)
   obtain⟨d0,d1,d2,d3,d4⟩:=(h2.out.later HB.out) k (by rw[hl.out];exact hlt);have aX:(k:Int)<n:=by omega
   generalize Cv.nth l k=x at *;go_wp2
   go_quiet (fail)
   go_wp2;exact⟨⟨k+1,by omega,by go_num,HB.out.trans ((dQ nq).mono HB.out.size)⟩,by simp[intOf];omega⟩
  ·go_wp2
   go_ret;exact⟨rfl,HB.out⟩
theorem amW {base base':Nat} (v1 v2:Value) (l:List Cv.ag) (w:World) (hn:l.length<=1000) (h1:w.ownsRow base 197 5 v1 l.length (flat l)) (h2:w.ownsRow base' 197 5 v2 l.length (flat l)) :
  Calls Tryz.prog 107 #[v1,v2] w fun e w'=>e=.returned (.bool true)/\Below w.heap.size w w':=by
 rcases MB h1 with ⟨rfl,e⟩ | ⟨g1,c1,rfl,a1⟩
 ·rcases MB h2 with ⟨rfl,_⟩ | ⟨g2,c2,rfl,a2⟩
  ·exact PW _ _ _ _ w
  ·subst e;exact PW _ _ _ _ w
 ·rcases MB h2 with ⟨rfl,e⟩ | ⟨g2,c2,rfl,a2⟩
  ·subst e;exact PW _ _ _ _ w
  ·exact amV g1 0 g2 0 c1 c2 _ l w hn rfl a1 a2
section
variable {w W:World} {F P F' P':Nat} {I b I' b':Nat->Nat} {v v':Nat->Value} {L:Nat->List Cv.ag} {pf n:Nat->Int} {wd h:Int}
theorem amX (W:World) (ha:Hid (bk w W F P I b v L pf n wd h)) (hb:Hid (bk w W F' P' I' b' v' L pf n wd h)) (hall:Hid (d_ L pf n wd h)) :
  Calls Tryz.prog 62 #[.pointer (some ⟨F,0,none⟩),.pointer (some ⟨F',0,none⟩)] W fun e w'=>e=.returned (.bool true)/\Below W.heap.size W w':=by
 go_enter Tryz.func62,Tryz.ntmps62
 go_wp2_with fail
 go_loopw [16] (fun kv wr=>∃ i:Nat,i<=3/\kv=.int .i64 i/\Below W.heap.size W wr) (fun kv _=>3-(intOf kv).toNat)
 case atStart=>exact⟨0,by omega,rfl,bRq _ _⟩
 case round =>
  obtain⟨i,bY,rfl,hbr⟩:=hrel;have sX:=hDq hbr;clear hbr;by_cases hi:i<3
  ·have vO:(i:Int)<3:=by omega
   have hlen:=(hall.out.ok.aG i hi).len;have q7:=hDq (fun W' (h':Below W.heap.size W W')=>TA i hi (ha.out.later h'));have jB:=hDq (fun W' (h':Below W.heap.size W W')=>TA i hi (hb.out.later h'));have He:=hDq (fun W' (h':Below W.heap.size W W')=>LJ i hi (ha.out.later h'));have lF:=hDq (fun W' (h':Below W.heap.size W W')=>LJ i hi (hb.out.later h'));have jb:=hDq (fun W' (h':Below W.heap.size W W')=>xG (b i) w.heap.size (v i) (L i) W' ((ha.out.later h').aG i hi) hlen);have iW:=hDq (fun W' (h':Below W.heap.size W W')=>xG (b' i) w.heap.size (v' i) (L i) W' ((hb.out.later h').aG i hi) hlen);unfold dJ at q7 jB
   go_wp2_with fail
   refine(q7.out _ sX.out).mono ?_;rintro e gI ⟨rfl,hba⟩;have gp:=hDq (sX.out.trans (hba.mono sX.out.size));clear hba q7 sX;simp only[]
   go_wp2_with fail
   refine(jB.out _ gp.out).mono ?_;rintro e bU ⟨rfl,kq⟩;have xz:=hDq (gp.out.trans (kq.mono gp.out.size));clear kq jB gp;simp only[]
   go_wp2_with fail
   refine(He.out _ xz.out).mono ?_;rintro e wc ⟨rfl,hwc⟩;subst wc;simp only[]
   go_wp2_with fail
   refine(jb.out _ xz.out).mono ?_;rintro e wc ⟨x1,rfl,hr1,hbc⟩;have ej:=hDq (xz.out.trans (hbc.mono xz.out.size));clear hbc jb He xz;simp only[]
   go_wp2_with fail
   refine(lF.out _ ej.out).mono ?_;rintro e we ⟨rfl,lm⟩;subst we;simp only[]
   go_wp2_with fail
   refine(iW.out _ ej.out).mono ?_;rintro e we ⟨x2,rfl,hr2,CQ⟩;have j3:=hDq (amW x1 x2 (L i) we (by omega) (dy hr1 CQ) hr2);have k0:=hDq (ej.out.trans (CQ.mono ej.out.size));clear hr1 hr2 CQ iW lF ej;simp only[]
   go_wp2_with fail
   refine j3.out.mono ?_;rintro e wf ⟨rfl,hbf⟩;have amY:=hDq (k0.out.trans (hbf.mono k0.out.size));clear hbf j3 k0;simp only[];go_wp2;exact⟨⟨i+1,hi,by go_num,amY.out⟩,by simp[intOf];omega⟩
  ·have vO:¬ (i:Int)<3:=by omega
   go_wp2_with fail
   go_loopw [39] (fun kv wr=>∃ c:Nat,c<=6/\kv=.int .i64 c/\Below W.heap.size W wr) (fun kv _=>6-(intOf kv).toNat)
   case atStart=>exact⟨0,by omega,rfl,sX.out⟩
   case round =>
    obtain⟨c,h9,rfl,hbr⟩:=hrel;have zG:=hDq hbr;clear hbr sX;by_cases hc:c<6
    ·have hci:(c:Int)<6:=by omega
     have mU:=hDq (fun W' (h':Below W.heap.size W W')=>Tz (ha.out.later h'));have fY:=hDq (fun W' (h':Below W.heap.size W W')=>Tz (hb.out.later h'));have qZ:=hDq (fun W' (h':Below W.heap.size W W')=>U7 P (c:Int) pf W' (ha.out.later h').cY);have qF:=hDq (fun W' (h':Below W.heap.size W W')=>U7 P' (c:Int) pf W' (hb.out.later h').cY);rw[U6 pf hc]at qZ qF;unfold qB at qZ qF;have hne:=agD (pf (c*8)) (pf (c*8+1)) (pf (c*8+2)) (pf (c*8+3)) (pf (c*8+4)) (pf (c*8+5)) (pf (c*8+6)) (pf (c*8+7)) (pf (c*8)) (pf (c*8+1)) (pf (c*8+2)) (pf (c*8+3)) (pf (c*8+4)) (pf (c*8+5)) (pf (c*8+6)) (pf (c*8+7));simp only[agE,Bool.not_true]at hne
     go_wp2_with fail
     refine(mU.out _ zG.out).mono ?_;rintro e gI ⟨rfl,qj⟩;subst gI;simp only[]
     go_wp2_with fail
     refine(qZ.out _ zG.out).mono ?_;rintro e gI ⟨rfl,hba⟩;have gp:=hDq (zG.out.trans (hba.mono zG.out.size));clear hba qZ mU zG;simp only[]
     go_wp2_with fail
     refine(fY.out _ gp.out).mono ?_;rintro e bU ⟨rfl,qd⟩;subst bU;simp only[]
     go_wp2_with fail
     refine(qF.out _ gp.out).mono ?_;rintro e bU ⟨rfl,kq⟩;have xz:=hDq (gp.out.trans (kq.mono gp.out.size));clear kq qF fY gp;simp only[];go_wp2;exact⟨⟨c+1,hc,by go_num,xz.out⟩,by simp[intOf];omega⟩
    ·have hci:¬ (c:Int)<6:=by omega
     go_wp2;go_ret;exact⟨rfl,zG.out⟩
end
structure lG (w W:World) (B:cJ) (v:Nat->Value) (wd h seed:Int) (S:af.St):Prop where
 blk:W.heap[B.V]?=some (.cells (iB B seed S) 114 (0,0))
 fl:bk w W B.F B.P B.I B.b v S.L S.pf S.n wd h
section
variable {w W W':World} {B B':cJ} {v v':Nat->Value} {wd h seed amZ:Int} {S S':af.St}
theorem av.f {X:cy} (H:av w W B X wd h seed S):lG w W B X.v wd h seed S:=⟨H.blk,H.fl⟩
theorem lG.at (H:lG w W B v wd h seed S) (k:Nat):W.cell? ⟨B.V,k,none⟩=(iB B seed S)[k]?:=cR W B.V k _ _ _ H.blk
theorem lG.later (H:lG w W B v wd h seed S) (hb:Below W.heap.size W W'):lG w W' B v wd h seed S:=⟨dS hb H.blk,H.fl.later hb⟩
theorem aat (W:World) (H:lG w W B v wd h seed S):Calls Tryz.prog 63 #[.pointer (some ⟨B.V,0,none⟩)] W fun e w'=>e=.returned (.pointer (some ⟨B.F,0,none⟩))/\w'=W:=by
 have c:W.cell? ⟨B.V,1,none⟩=some (.pointer (some ⟨B.F,0,none⟩)):=H.at 1;clear H;go_enter Tryz.func63,Tryz.ntmps63;go_wp2;go_ret;exact⟨rfl,rfl⟩
theorem Pv (W:World) (H:lG w W B v wd h seed S):Calls Tryz.prog 25 #[.pointer (some ⟨B.V,0,none⟩)] W fun e w'=>e=.returned (.int .i64 S.bt)/\w'=W:=by
 have c:W.cell? ⟨B.V,35,none⟩=some (.int .i64 S.bt):=H.at 35;clear H;go_enter Tryz.func25,Tryz.ntmps25;go_wp2;go_ret;exact⟨rfl,rfl⟩
theorem IJ (W:World) (ha:Hid (lG w W B v wd h seed S)) (hb:Hid (lG w W B' v' wd h amZ S')) (hall:Hid (d_ S.L S.pf S.n wd h)) (e1:S'.L=S.L) (e2:S'.pf=S.pf) (e3:S'.n=S.n) (e4:S'.bt=S.bt) :
  Calls Tryz.prog 24 #[.pointer (some ⟨B.V,0,none⟩),.pointer (some ⟨B'.V,0,none⟩)] W fun e w'=>e=.returned (.bool true)/\Below W.heap.size W w':=by
 have HB1:=hDq (Pv W ha.out);have HB2:=hDq (Pv W hb.out);have fy:=hDq (aat W ha.out);have cn:=hDq (aat W hb.out);have xZ:=hb.out.fl;rw[e1,e2,e3]at xZ;rw[e4]at HB2;have am0:=hDq (amX W ha.out.fl xZ hall);clear xZ e1 e2 e3 e4;go_enter Tryz.func24,Tryz.ntmps24
 go_wp2_with fail
 refine HB1.out.mono ?_;rintro e w1 ⟨rfl,dM⟩;subst w1;simp only[]
 go_wp2_with fail
 refine HB2.out.mono ?_;rintro e w1 ⟨rfl,dM⟩;subst w1;simp only[]
 go_wp2_with fail
 refine fy.out.mono ?_;rintro e w1 ⟨rfl,dM⟩;subst w1;simp only[]
 go_wp2_with fail
 refine cn.out.mono ?_;rintro e w1 ⟨rfl,dM⟩;subst w1;simp only[]
 go_wp2_with fail
 refine am0.out.mono ?_;rintro e w1 ⟨rfl,hb1⟩;have HB:=hDq hb1;clear hb1;simp only[];go_wp2;go_ret;exact⟨rfl,HB.out⟩
end
section
variable {w W:World} {ad:Nat->Addr} {B:cJ} {X:cy} {wd h seed:Int} {S:af.St}
def Io (kd:ByteArray) (c:Int) (aa:Option Addr) (m cap:Nat) (s:ByteArray) (n:Int):Array Value:=#[.string kd,.int .i64 c,.slice aa m cap,.string s,.int .i64 n]
theorem O4 (a:Option Addr) (m cap:Nat) (l:List Stp) (W:World) (H:Hid (av w W B X wd h seed S)) (hs:Hid (bT w ad)) (ht:Hid (Lib.TabBelow Tryz.prog w.heap.size w "internal/strconv.uint64pow10" .u64 Lib.pow10Tab)) (hst:Hid (CH w a m l)) {N:Nat} (hok:Hid (af.Ok N wd h S)) (hN:N<=1000) (hm:m<=40) (hsm:Hid (∀ i,i<m->(eU l i).asks.length<=10/\(eU l i).s.size<=200)) :
  Calls Tryz.prog 21 #[.pointer (some ⟨B.V,0,none⟩),.slice a m cap] W fun e w'=>∃ v X',e=.returned v/\av w w' B X' wd h seed (af.fK wd h seed S l m)/\aV W w' B X X'/\gD w' W.heap.size v (af.kV wd h seed S l m)/\af.Ok (N+8*m) wd h (af.fK wd h seed S l m)/\(af.kV wd h seed S l m).length<=23200*m/\af.Same S.pf (af.fK wd h seed S l m).pf:=by
 go_enter Tryz.func21,Tryz.ntmps21
 go_wp2_with fail
 go_loopw [5,6] (fun O5 kv wr=>∃ (k:Nat) (X':cy),k<=m/\kv=.int .i64 k/\av w wr B X' wd h seed (af.fK wd h seed S l k)/\aV W wr B X X'/\gD wr W.heap.size O5 (af.kV wd h seed S l k)/\af.Ok (N+8*k) wd h (af.fK wd h seed S l k)/\(af.kV wd h seed S l k).length<=23200*k/\af.Same S.pf (af.fK wd h seed S l k).pf) (fun _ kv _=>m-(intOf kv).toNat)
 case atStart=>exact⟨0,X,by omega,rfl,H.out,aV.refl _ _ _,World.ownsRow_nil _ _ _ _,hok.out,lRq 0,af.Same.refl _⟩
 case round =>
  obtain⟨k,X1,hk,rfl,hv1,hs1,hr1,GM,hl1,Ip⟩:=hrel;have Iq:=hDq Ip;clear Ip;have H1:=hDq hv1;have eZ:=hDq hs1;have HR1:=hDq hr1;have qZ:=hDq GM;clear hv1 hs1 hr1 GM;by_cases hlt:k<m
  ·have aX:(k:Int)<m:=by omega
   obtain⟨g,hg,hcs⟩:∃ g,a=some g/\_:=by
    rcases hst.out.2.1 with h0 | h1
    ·omega
    ·exact h1
   subst hg;have hnx:=hst.out.2.2 k hlt;obtain⟨Ip,alp⟩:=hsm.out k hlt;obtain⟨aa,am,ac,d0,d1,d2,d3,d4,d5⟩:=(hcs k hlt).later H1.out.cp;have jo:(g.add (k*5)).block<wr.heap.size:=bCq _ _ d0;have HW1:Hid (af.fK wd h seed S l (k+1)=af.mg wd h seed (af.fK wd h seed S l k) (eU l k)):=rfl;have HW2:Hid (af.kV wd h seed S l (k+1)=af.kV wd h seed S l k++af.pU wd h seed (af.fK wd h seed S l k) (eU l k)):=rfl;have H4:(eU l k).asks.length=am:=d5.1;generalize af.fK wd h seed S l k=S1 at *;generalize af.kV wd h seed S l k=cH at *;generalize eU l k=x at *;obtain⟨dF,xc,xa,xs,xn⟩:=x;simp only[]at d0 d1 d2 d3 d4 d5 hnx Ip alp H4;have HD5:=hDq d5;clear hcs d5;have HB2:Hid (Below wr.heap.size wr (wr.alloc (.cells (Io dF xc aa am ac xs xn) 51))):=(bRq _ _).alloc (lRq _) _;have lF:Hid ((wr.alloc (.cells (Io dF xc aa am ac xs xn) 51)).heap[wr.heap.size]?=some (.cells (Io dF xc aa am ac xs xn) 51 (0,0))):=hNq _ _;have H2:=hDq (H1.out.later HB2.out);have HS2:=hDq (eZ.out.below HB2.out);have bg:=hDq (dy HR1.out HB2.out);have cm:=hDq (HD5.out.later HB2.out);unfold Io at HB2 lF H2 HS2 bg cm;cases zz:(dF.toList==[102,101,101,100]) with
   | true =>
    have HST:Hid (af.mg wd h seed S1 ⟨dF,xc,xa,xs,xn⟩=af.iN S1 xc (af.nj xs xa am)):=by
     show _=_;unfold af.mg sV;simp only[zz,H4];rfl
    have iJ:Hid (af.pU wd h seed S1 ⟨dF,xc,xa,xs,xn⟩=[]):=by
     show _=_;unfold af.pU sV;simp only[zz];rfl
    go_wp2_with fail
    obtain⟨p,hp⟩:∃ p,wr.heap.size=p:=⟨_,rfl⟩;rw[hp]at lF;simp only[hp];generalize wr.alloc (.cells #[.string dF,.int .i64 xc,.slice aa am ac,.string xs,.int .i64 xn] 51)=w2 at *;clear d0 d1 d2 d3 d4 jo;have YI:=hDq (fun W' (h':Below w2.heap.size w2 W')=>ai2 dF xc aa am ac xs xn xa W' (cm.out.later h') (by omega) (by omega));have hsz:=NJ xs xa am;generalize af.nj xs xa am=bs at *;have nQ:=hDq (fun W' (h':Below w2.heap.size w2 W')=>ajA xc bs W' (H2.out.later h') hs.out (fun c hc=>by have:=qZ.out.aO c hc;rw[ByteArray.size_append];omega));obtain⟨bG,val,hcl,aP⟩:=kL (fun W'=>W'.heap[p]?=some (.cells #[.string dF,.int .i64 xc,.slice aa am ac,.string xs,.int .i64 xn] 51 (0,0)));obtain⟨x0,hx0⟩:=aP w2.drew lF.out;have O6:Nonempty bG:=⟨x0⟩;have s0:∀ x,(val x).cell? ⟨p,0,none⟩=some (.string dF):=fun x=>by rw[cR _ _ _ _ _ _ (hcl x)];rfl
    have s1:∀ x,(val x).cell? ⟨p,1,none⟩=some (.int .i64 xc):=fun x=>by rw[cR _ _ _ _ _ _ (hcl x)];rfl
    have s2:∀ x,(val x).cell? ⟨p,2,none⟩=some (.slice aa am ac):=fun x=>by rw[cR _ _ _ _ _ _ (hcl x)];rfl
    have s3:∀ x,(val x).cell? ⟨p,3,none⟩=some (.string xs):=fun x=>by rw[cR _ _ _ _ _ _ (hcl x)];rfl
    have l4:∀ x,(val x).cell? ⟨p,4,none⟩=some (.int .i64 xn):=fun x=>by rw[cR _ _ _ _ _ _ (hcl x)];rfl
    have aN:=hDq aP;clear aP hcl;refine sr (val:=val) [4,5] [0,1,2,3,4,5] (by kernel_rfl) (by kernel_rfl) x0 hx0 ?_;rw[hx0];clear hx0
    iterate 4 (refine ko rfl rfl (fun K hK=>?_);refine⟨by rfl,?_⟩;unfold aA;go_simp;refine hK _ ?_;clear hK K)
    refine kP rfl rfl (fun K hK=>?_);refine⟨by rfl,?_⟩;unfold aQ;go_simp;refine(YI.out _ dG).mono ?_;rintro e w3 ⟨rfl,hb3⟩;have ar:Hid (Below w2.heap.size w2 w3):=dG.trans hb3;refine⟨_,rfl,aN.out _ (dS ar.out lF.out),hK _ _ ?_⟩;clear hK K hb3 YI;refine kP rfl rfl (fun K hK=>?_);refine⟨by rfl,?_⟩;unfold aQ;go_simp;refine(nQ.out _ ar.out).mono ?_;rintro e w4 ⟨v4,mj,rfl,_,h4,bX⟩;have H3:=hDq (H2.out.later ar.out);have zN:=hDq (bX.block H3.out (dS ar.out lF.out) (by decide));have cP:=hDq h4;have cr:=hDq ((HS2.out.below ar.out).trans bX);have bO:Hid (gD w4 W.heap.size u5 cH):=bX.row H3.out (dy bg.out ar.out) (by decide);refine⟨_,rfl,aN.out _ zN.out,hK _ _ ?_⟩;clear hK K h4 bX nQ s0 s1 s2 s3 l4 aN;refine qA ?_;clear x0 O6;clear val;clear bG;go_wp2;refine⟨⟨k+1,mj,hlt,by go_num,?_,cr.out,?_,?_,?_,?_⟩,by simp[intOf];omega⟩
    ·rw[HW1.out,HST.out];exact cP.out
    ·rw[HW2.out,iJ.out,aNq];exact bO.out
    ·rw[HW1.out,HST.out];exact N9 (aj1 qZ.out _ _) (by omega)
    ·rw[HW2.out,iJ.out,aNq];omega
    ·rw[HW1.out,HST.out,(aj3 _ _ _).1];exact Iq.out
   | false =>
    cases hct:(dF.toList==[99,117,116]) with
    | true =>
     have HST:Hid (af.mg wd h seed S1 ⟨dF,xc,xa,xs,xn⟩=af.h_ S1 xn):=by
      show _=_;unfold af.mg sV ny;simp only[zz,hct];rfl
     have iJ:Hid (af.pU wd h seed S1 ⟨dF,xc,xa,xs,xn⟩=[]):=by
      show _=_;unfold af.pU sV ny;simp only[zz,hct];rfl
     go_wp2_with fail
     obtain⟨p,hp⟩:∃ p,wr.heap.size=p:=⟨_,rfl⟩;rw[hp]at lF;simp only[hp];generalize wr.alloc (.cells #[.string dF,.int .i64 xc,.slice aa am ac,.string xs,.int .i64 xn] 51)=w2 at *;clear d0 d1 d2 d3 d4 jo;have kz:=hDq (fun W' (h':Below w2.heap.size w2 W')=>zx W' (H2.out.later h'));have Da:=hDq (fun W' (h':Below w2.heap.size w2 W')=>ai7 xn W' (H2.out.later h') hs);obtain⟨bG,val,hcl,aP⟩:=kL (fun W'=>W'.heap[p]?=some (.cells #[.string dF,.int .i64 xc,.slice aa am ac,.string xs,.int .i64 xn] 51 (0,0)));obtain⟨x0,hx0⟩:=aP w2.drew lF.out;have O6:Nonempty bG:=⟨x0⟩;have l4:∀ x,(val x).cell? ⟨p,4,none⟩=some (.int .i64 xn):=fun x=>by rw[cR _ _ _ _ _ _ (hcl x)];rfl
     have aN:=hDq aP;clear aP hcl;refine sr (val:=val) [1,4] [0,2,3,1,4] (by kernel_rfl) (by kernel_rfl) x0 hx0 ?_;rw[hx0];clear hx0
     iterate 3 (refine ko rfl rfl (fun K hK=>?_);refine⟨by rfl,?_⟩;unfold aA;go_simp;refine hK _ ?_;clear hK K)
     refine kP rfl rfl (fun K hK=>?_);refine⟨by rfl,?_⟩;unfold aQ;go_simp;refine(kz.out _ dG).mono ?_;rintro e w3 ⟨rfl,hw3⟩;subst w3;refine⟨_,rfl,aN.out _ lF.out,hK _ _ ?_⟩;clear hK K kz;refine kP rfl rfl (fun K hK=>?_);refine⟨by rfl,?_⟩;unfold aQ;go_simp;refine(Da.out _ dG).mono ?_;rintro e w4 ⟨v4,rfl,h4,bX⟩;have H3:=hDq (H2.out.later dG);have zN:=hDq (bX.block H3.out (dS dG lF.out) (by decide));have cP:=hDq h4;have cr:=hDq ((HS2.out.below dG).trans bX);have bO:Hid (gD w4 W.heap.size u5 cH):=bX.row H3.out (dy bg.out dG) (by decide);refine⟨_,rfl,aN.out _ zN.out,hK _ _ ?_⟩;clear hK K h4 bX Da l4 aN;refine qA ?_;clear x0 O6;clear val;clear bG;go_wp2;refine⟨⟨k+1,X1,hlt,by go_num,?_,cr.out,?_,?_,?_,?_⟩,by simp[intOf];omega⟩
     ·rw[HW1.out,HST.out];exact cP.out
     ·rw[HW2.out,iJ.out,aNq];exact bO.out
     ·rw[HW1.out,HST.out];exact N9 (ai6 qZ.out _ hnx) (by omega)
     ·rw[HW2.out,iJ.out,aNq];omega
     ·rw[HW1.out,HST.out,aj4];exact Iq.out
    | false =>
     go_wp2_with fail
     have HST:Hid (af.mg wd h seed S1 ⟨dF,xc,xa,xs,xn⟩=af.fJ wd h seed S1 (oG ⟨dF,xc,xa,xs,xn⟩)):=by
      show _=_;unfold af.mg sV ny;simp only[zz,hct];rfl
     have iJ:Hid (af.pU wd h seed S1 ⟨dF,xc,xa,xs,xn⟩=af.oF wd h seed S1 (oG ⟨dF,xc,xa,xs,xn⟩)):=by
      show _=_;unfold af.pU sV ny;simp only[zz,hct];rfl
     have apj:oG ⟨dF,xc,xa,xs,xn⟩<=8:=by unfold oG;simp only[];split <;> omega
     have YJ:∀ j:Nat,j<oG ⟨dF,xc,xa,xs,xn⟩↔((j:Int)<xn/\(j:Int)<8):=fun j=>by unfold oG;simp only[];split <;> omega
     have YK:=hDq YJ;clear YJ;generalize oG ⟨dF,xc,xa,xs,xn⟩=T at *;obtain⟨p,hp⟩:∃ p,wr.heap.size=p:=⟨_,rfl⟩;rw[hp]at lF;obtain⟨YL,apk⟩:∃ YL,u5=YL:=⟨_,rfl⟩;simp only[hp]
     go_loopw [5,8] (fun O5 kv wt=>∃ (j:Nat) (X':cy),j<=T/\kv=.int .i64 j/\av w wt B X' wd h seed (af.fJ wd h seed S1 j)/\aV W wt B X X'/\gD wt W.heap.size O5 (cH++af.oF wd h seed S1 j)/\af.Ok (N+8*k+j) wd h (af.fJ wd h seed S1 j)/\(cH++af.oF wd h seed S1 j).length<=23200*k+2900*j/\wt.heap[p]?=some (.cells #[.string dF,.int .i64 xc,.slice aa am ac,.string xs,.int .i64 xn] 51 (0,0))/\af.Same S.pf (af.fJ wd h seed S1 j).pf) (fun _ kv _=>T-(intOf kv).toNat)
     case atStart=>exact⟨0,X1,by omega,rfl,H2.out,HS2.out,by rw[show af.oF wd h seed S1 0=[] from rfl,aNq];exact bg.out,qZ.out,by rw[show af.oF wd h seed S1 0=[] from rfl,aNq];omega,lF.out,Iq.out⟩
     case round =>
      obtain⟨j,r9,hj,rfl,hv3,hs3,hr3,yZ,YM,hk3,C5⟩:=hrel;have YN:=hDq C5;clear C5;have H3:=hDq hv3;have cQ:=hDq hs3;have HR3:=hDq hr3;have ou:=hDq yZ;have nH:=hDq hk3;have lS:=hDq YM;clear hv3 hs3 hr3 yZ hk3 YM lF H2 HS2 bg cm HB2 d0 d1 d2 d3 d4 jo;have c4:wr.cell? ⟨p,4,none⟩=some (.int .i64 xn):=by rw[cR _ _ 4 _ _ _ nH.out];rfl
      by_cases O7:j<T
      ·obtain⟨apl,hj2⟩:=(YK.out j).1 O7
       have q7:Hid (af.fJ wd h seed S1 (j+1)=af.cz wd h seed (af.fJ wd h seed S1 j)):=rfl;have jB:Hid (cH++af.oF wd h seed S1 (j+1)=(cH++af.oF wd h seed S1 j)++af.gR wd h seed (af.fJ wd h seed S1 j)):=by
        show _=_;rw[aAq];rfl
       generalize af.fJ wd h seed S1 j=S3 at *;generalize cH++af.oF wd h seed S1 j=mE at *;have lX:=hDq (Yz wr H3.out hs.out ht.out ou.out (by omega))
       go_wp2_with fail
       refine lX.out.mono ?_;rintro e w4 ⟨v4,mj,rfl,h4,bX,hr4,wS,hl4,YO⟩;have alq:=hDq (YN.out.trans YO);clear YO;have hb3:W.heap.size<=w4.heap.size:=lTq cQ.out.turned.size bX.turned.size;have Db:gD w4 W.heap.size u5 mE:=bX.row H3.out HR3.out (by decide);obtain⟨v5,aC,hap,nK,xq⟩:=aj5 w4 u5 v4 mE (af.gR wd h seed S3) Db hr4 (by have:=lS.out;omega) (by omega) hb3;have H5:=hDq (h4.grown Db (by decide) (by decide) (lTq H.out.lo (Nat.le_of_lt H.out.lt)) xq);have dR:=hDq ((cQ.out.trans bX).grown Db (lRq _) xq);have alr:Hid (aC.heap[p]?=some (.cells #[.string dF,.int .i64 xc,.slice aa am ac,.string xs,.int .i64 xn] 51 (0,0))):=by
        have Dq:=bX.block H3.out nH.out (by decide);show _=_;rw[xq.block p (lBq Dq) (fun e=>?_)]
        ·exact Dq
        ·obtain⟨_,cur,h2⟩:=ep Db e.symm
         exact aF h2 Dq (by decide) rfl
       have bL:=hDq nK;have fg:=hDq hap;have O8:=hDq wS;clear hap nK xq Db h4 bX hr4 wS lX c4;obtain⟨NP,nv,apm⟩:∃ NP nv,v4=NP/\nv=0:=⟨_,_,rfl,rfl⟩;simp only[]
       go_wp2_with (at_builtin;refine wpList_append_run rfl _ _ 55 rfl _ _ _ rfl rfl fg.out ?_)
       refine⟨⟨j+1,mj,O7,by go_num,?_,dR.out,?_,?_,?_,alr.out,?_⟩,by simp[intOf];omega⟩
       ·rw[q7.out];exact H5.out
       ·rw[jB.out];exact bL.out
       ·rw[q7.out];exact O8.out
       ·rw[jB.out,lAq];have:=lS.out;omega
       ·rw[q7.out];exact alq.out
      ·obtain rfl:j=T:=by omega
       have hnb:¬ ((j:Int)<xn/\(j:Int)<8):=fun e=>O7 ((YK.out j).2 e);have HFin:Hid (∃ (sY:Nat) (X':cy),sY<=m/\Value.int .i64 ((k:Int)+1)=.int .i64 sY/\av w wr B X' wd h seed (af.fK wd h seed S l sY)/\aV W wr B X X'/\gD wr W.heap.size u5 (af.kV wd h seed S l sY)/\af.Ok (N+8*sY) wd h (af.fK wd h seed S l sY)/\(af.kV wd h seed S l sY).length<=23200*sY/\af.Same S.pf (af.fK wd h seed S l sY).pf):=by
        refine⟨k+1,r9,hlt,by go_num,?_,cQ.out,?_,?_,?_,?_⟩
        ·rw[HW1.out,HST.out];exact H3.out
        ·rw[HW2.out,iJ.out];exact HR3.out
        ·rw[HW1.out,HST.out];exact N9 ou.out (by omega)
        ·rw[HW2.out,iJ.out];have:=lS.out;omega
        ·rw[HW1.out,HST.out];exact YN.out
       by_cases hx:(j:Int)<xn
       ·have apn:¬ (j:Int)<8:=fun e=>hnb ⟨hx,e⟩
        go_wp2;exact⟨HFin.out,by simp[intOf];omega⟩
       ·go_wp2
        exact⟨HFin.out,by simp[intOf];omega⟩
  ·have aX:¬ (k:Int)<m:=by omega
   obtain rfl:k=m:=by omega
   go_wp2;go_ret;exact⟨_,rfl,X1,H1.out,eZ.out,HR1.out,qZ.out,Iq.out⟩
end
section
variable {w W:World} {ad:Nat->Addr}
theorem xk:Fl.Fits 20000 100:=by constructor <;> decide
def af.S0:af.St:=af.init 100 20000 100
theorem N_:af.Ok 0 10 2 af.S0:=ajX 100 20000 100 (by decide) (by decide) xk
end
structure nB (w W:World) (B B':cJ) (X X':cy) (wd h seed:Int) (S S':af.St):Prop where
 a:av w W B X wd h seed S
 b:av w W B' X' wd h seed S'
 ap:∀ k,eT B X k->¬ eT B' X' k
 fa:¬ eT B X B'.F
 fb:¬ eT B' X' B.F
section
variable {w W W' W0:World} {B B':cJ} {X X' X1:cy} {wd h seed:Int} {S S' S1:af.St}
theorem nB.symm (P:nB w W B B' X X' wd h seed S S'):nB w W B' B X' X wd h seed S' S:=⟨P.b,P.a,fun k h1 h2=>P.ap k h2 h1,P.fb,P.fa⟩
theorem nB.left (P:nB w W B B' X X' wd h seed S S') (H:av w W' B X1 wd h seed S1) (hs:aV W W' B X X1):nB w W' B B' X1 X' wd h seed S1 S':=by
 refine⟨H,P.b.aside hs.turned P.fa (fun k hk h1=>P.ap k h1 hk) (fun k hk=>(P.a.fe hk).1),fun k hk h2=>?_,fun hk=>?_,P.fb⟩
 ·rcases hs.new k hk with h1 | h1
  ·exact P.ap k h1 h2
  ·exact absurd (P.b.fe h2).2 (by omega)
 ·rcases hs.new _ hk with h1 | h1
  ·exact P.fa h1
  ·exact absurd (lBq P.b.fl.blk) (by omega)
theorem nB.right (P:nB w W B B' X X' wd h seed S S') (H:av w W' B' X1 wd h seed S1) (hs:aV W W' B' X' X1):nB w W' B B' X X1 wd h seed S S1:=(P.symm.left H hs).symm
theorem nB.new (H:av w W B X wd h seed S) (hb:Below W.heap.size W W0) (H':av W0 W' B' X' wd h seed S'):nB w W' B B' X X' wd h seed S S':=by
 have hz:=hb.size;have H0:=H.later hb;have H1:=H0.later H'.cp;refine⟨H1,av.N3 (H.cp.trans (hb.mono H.cp.size)) H',fun k h1 h2=>?_,fun h1=>?_,fun h2=>?_⟩
 ·have:=(H0.fe h1).2;have:=(H'.fe h2).1;omega
 ·have:=(H0.fe h1).2;have:=H'.fl.lo;omega
 ·have:=(H'.fe h2).1;have:=lBq H0.fl.blk;omega
end
def alA:af.dc:=⟨0,⟨#[]⟩,0,0,0,0⟩
def nA (l:List af.dc) (i:Nat):af.dc:=l.getD i alA
def zA (w:World) (b o:Nat) (l:List af.dc):Prop:=∀ i,i<l.length->w.cell? ⟨b,o+i*6,none⟩=some (.int .i64 (nA l i).c)/\w.cell? ⟨b,o+i*6+1,none⟩=some (.string (nA l i).k)/\w.cell? ⟨b,o+i*6+2,none⟩=some (.int .i64 (nA l i).id)/\w.cell? ⟨b,o+i*6+3,none⟩=some (.int .i64 (nA l i).pr)/\w.cell? ⟨b,o+i*6+4,none⟩=some (.int .i64 (nA l i).q)/\w.cell? ⟨b,o+i*6+5,none⟩=some (.int .i64 (nA l i).cd)
theorem zA.later {w w':World} {b o:Nat} {l:List af.dc} (h:zA w b o l) (hb:Below w.heap.size w w'):zA w' b o l:=fun i hi=>by
 obtain⟨h0,h1,h2,h3,h4,h5⟩:=h i hi;exact⟨cell_later hb h0,cell_later hb h1,cell_later hb h2,cell_later hb h3,cell_later hb h4,cell_later hb h5⟩
theorem YQ:∀ (l:List af.dc) (i j:Nat),i<l.length->j<6->(ia l)[i*6+j]?=(nx (nA l i))[j]?
 | [],i,j,h,_=>by cases h
 | x::l,0,j,_,hj=>by
  unfold ia;rw[List.flatMap_cons,List.getElem?_append_left (by simpa [nx] using by omega)];simp[nA]
 | x::l,i+1,j,h,hj=>by
  have ih:=YQ l i j (by simpa using h) hj;unfold ia at *;rw[List.flatMap_cons,List.getElem?_append_right (by simp[nx];omega)];have e:(i+1)*6+j-(nx x).length=i*6+j:=by simp[nx];omega
  rw[e,ih];rfl
theorem YR {w:World} {base:Nat} {v:Value} {l:List af.dc} (h:gD w base v l):(v=.slice none 0 0/\l=[])\/∃ g cap,v=.slice (some ⟨g,0,none⟩) l.length cap/\zA w g 0 l:=by
 have h':w.ownsRow base 121 6 v l.length (ia l):=h;rcases h'.2 with ⟨e,e2⟩ | ⟨g,cap,cur,e,hg,dL,hle,_,_,_⟩
 ·exact .inl ⟨e,List.eq_nil_of_length_eq_zero e2⟩
 ·have key:∀ i j u,i<l.length->j<6->(nx (nA l i))[j]?=some u->w.cell? ⟨g,0+i*6+j,none⟩=some u:=fun i j u hi hj hu=>by
   have:=World.ownsRow.cells h' (g:=g) (by rw[e];rfl) (i*6+j) u (by rw[YQ l i j hi hj];exact hu)
   have hp:(⟨g,0,none⟩:Addr).add (i*6+j)=⟨g,0+i*6+j,none⟩:=by unfold Addr.add;split <;> simp_all
   rwa [hp]at this
  refine .inr ⟨g,cap,e,fun i hi=>⟨?_,?_,?_,?_,?_,?_⟩⟩
  ·exact key i 0 _ hi (by decide) rfl
  ·exact key i 1 _ hi (by decide) rfl
  ·exact key i 2 _ hi (by decide) rfl
  ·exact key i 3 _ hi (by decide) rfl
  ·exact key i 4 _ hi (by decide) rfl
  ·exact key i 5 _ hi (by decide) rfl
theorem YS (c1 c2:Nat) (a1 a2:Option Addr) (w:World):Calls Tryz.prog 22 #[.slice a1 0 c1,.slice a2 0 c2] w fun e w'=>e=.returned (.int .i64 1)/\Below w.heap.size w w':=by
 go_enter Tryz.func22,Tryz.ntmps22;go_wp2;refine wp_loop_rounds 1 ?_;rw[rounds_succ];go_wp2;go_ret;exact⟨rfl,bRq _ _⟩
theorem alB (b1 o1 b2 o2 c1 c2 n:Nat) (l:List af.dc) (w:World) (hn:n<=10000000) (hl:Hid (l.length=n)) (h1:Hid (zA w b1 o1 l)) (h2:Hid (zA w b2 o2 l)) :
  Calls Tryz.prog 22 #[.slice (some ⟨b1,o1,none⟩) n c1,.slice (some ⟨b2,o2,none⟩) n c2] w fun e w'=>e=.returned (.int .i64 1)/\Below w.heap.size w w':=by
 go_enter Tryz.func22,Tryz.ntmps22;go_wp2
 go_loopw [5] (fun i wr=>∃ k:Nat,k<=n/\i=.int .i64 k/\Below w.heap.size w wr) (fun i _=>n-(intOf i).toNat)
 case atStart=>exact⟨0,by omega,rfl,bRq _ _⟩
 case round =>
  obtain⟨k,hk,rfl,hb⟩:=hrel;have HB:=hDq hb;clear hb;by_cases hlt:k<n
  ·obtain⟨c0,c1,c2,c3,c4,c5⟩:=(h1.out.later HB.out) k (by rw[hl.out];exact hlt)
   obtain⟨d0,d1,d2,d3,d4,d5⟩:=(h2.out.later HB.out) k (by rw[hl.out];exact hlt);have aX:(k:Int)<n:=by omega
   generalize nA l k=x at *;go_wp2
   go_quiet (fail)
   go_wp2;exact⟨⟨k+1,by omega,by go_num,HB.out.trans ((dQ nq).mono HB.out.size)⟩,by simp[intOf];omega⟩
  ·go_wp2
   go_ret;exact⟨rfl,HB.out⟩
section
variable {w W:World}
def Xy (l:List Stp) (m most:Nat):Prop:=m<=most/\∀ i,i<m->(eU l i).asks.length<=10/\(eU l i).s.size<=200
theorem Xz (a:Option Addr) (m cap most:Nat) (l:List Stp) (W:World) (hbw:Hid (Below w.heap.size w W)) (hst:Hid (CH w a m l)) (ao3:most<=1000) :
  Calls Tryz.prog 15 #[.slice a m cap,.int .i64 most] W fun e w'=>w'=W/\(e=.returned (.bool true)\/e=.returned (.bool false)/\Xy l m most):=by
 by_cases hmm:most<m
 ·have hi:(most:Int)<m:=by omega
  go_enter Tryz.func15,Tryz.ntmps15;go_wp2;go_ret;exact⟨rfl,.inl rfl⟩
 ·have hi:¬ (most:Int)<m:=by omega
  go_enter Tryz.func15,Tryz.ntmps15
  go_wp2_with fail
  go_loopw [5] (fun kv wr=>∃ k:Nat,k<=m/\kv=.int .i64 k/\wr=W/\∀ i,i<k->(eU l i).asks.length<=10/\(eU l i).s.size<=200) (fun kv _=>m-(intOf kv).toNat)
  case atStart=>exact⟨0,by omega,rfl,rfl,fun i h=>by omega⟩
  case round =>
   obtain⟨k,hk,rfl,hwr,hall⟩:=hrel;subst wr;have XA:=hDq hall;clear hall;by_cases hlt:k<m
   ·have aX:(k:Int)<m:=by omega
    obtain⟨g,hg,hcs⟩:∃ g,a=some g/\_:=by
     rcases hst.out.2.1 with h0 | h1
     ·omega
     ·exact h1
    subst hg;obtain⟨aa,am,ac,d0,d1,d2,d3,d4,d5⟩:=(hcs k hlt).later hbw.out;have jo:(g.add (k*5)).block<W.heap.size:=bCq _ _ d0;have H4:(eU l k).asks.length=am:=d5.1;have HKK:Hid (∀ i,i<k+1->i<k\/i=k):=fun i hi=>by omega
    obtain⟨x,hx⟩:∃ x,eU l k=x:=⟨_,rfl⟩;have HX:=hDq hx;rw[hx]at d0 d1 d3 d4 H4;clear hcs d5 hx;by_cases hA:(10:Int)<am
    ·go_wp2
     go_ret;exact⟨rfl,.inl rfl⟩
    ·by_cases hS:(200:Int)<x.s.size
     ·go_wp2
      go_ret;exact⟨rfl,.inl rfl⟩
     ·have HFin:Hid (∀ i,i<k+1->(eU l i).asks.length<=10/\(eU l i).s.size<=200):=fun i hi=>by
       rcases HKK.out i hi with h1 | rfl
       ·exact XA.out i h1
       ·rw[HX.out];omega
      go_wp2;exact⟨⟨k+1,hlt,by go_num,trivial,HFin.out⟩,by simp[intOf];omega⟩
   ·have aX:¬ (k:Int)<m:=by omega
    obtain rfl:k=m:=by omega
    have HF:Hid (Xy l k most):=⟨by omega,XA.out⟩;go_wp2;go_ret;exact⟨rfl,.inr ⟨rfl,HF.out⟩⟩
end
end Go.Proofs.YtjolccidheflpaaGreatDoor
