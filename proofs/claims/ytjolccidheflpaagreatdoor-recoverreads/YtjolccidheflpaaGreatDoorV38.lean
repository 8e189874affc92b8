/- strconv.AppendInt at base 10, by the contract of the library that is given, at this program. -/
import Derived.Test.YtjolccidheflpaaGreatDoorV37
import Derived.Lib.ItoaLen
import Derived.Shelf.Strconv.AppendIntPublic10
import Derived.Test.YtjolccidheflpaaGreatDoorV30
import Derived.Test.YtjolccidheflpaaGreatDoorV03
import Derived.Test.YtjolccidheflpaaGreatDoorV09
import Derived.Test.YtjolccidheflpaaGreatDoorV32
import Derived.Test.YtjolccidheflpaaGreatDoorV00
import Derived.Test.YtjolccidheflpaaGreatDoorV24
namespace Go.Proofs.YtjolccidheflpaaGreatDoor
set_option maxHeartbeats 8000000
open Go.Shelf Go.RowKit
def ajv:Go.Shelf.Ren:=⟨fun | 176=>137 | 249=>185 | 288=>213 | 283=>240 | 284=>241 | 285=>242 | 286=>243 | 129=>274 | 317=>273 | 318=>275 | 319=>276 | 320=>277 | 337=>296 | 338=>297 | n=>n,fun | 37=>115 | 2=>2 | 3=>3 | 53=>330 | 4=>4 | 9=>9 | 171=>353 | 0=>0 | 173=>356 | 212=>396 | 51=>41 | 5=>5 | 20=>20 | 213=>397 | 46=>245 | 232=>425 | 233=>426 | n=>n,fun | 17=>18 | 18=>19 | 19=>20 | n=>n⟩
theorem ajw:Go.Proofs.LaysM.n176 Tryz.prog ajv:={
 mixed:=by kernel_rfl
 f129:=Tryz.func274.trans (congrArg some (by kernel_rfl))
 f176:=Tryz.func137.trans (congrArg some (by kernel_rfl))
 f249:=Tryz.func185.trans (congrArg some (by kernel_rfl))
 f283:=Tryz.func240.trans (congrArg some (by kernel_rfl))
 f284:=Tryz.func241.trans (congrArg some (by kernel_rfl))
 f285:=Tryz.func242.trans (congrArg some (by kernel_rfl))
 f286:=Tryz.func243.trans (congrArg some (by kernel_rfl))
 f288:=Tryz.func213.trans (congrArg some (by kernel_rfl))
 f317:=Tryz.func273.trans (congrArg some (by kernel_rfl))
 f318:=Tryz.func275.trans (congrArg some (by kernel_rfl))
 f319:=Tryz.func276.trans (congrArg some (by kernel_rfl))
 f320:=Tryz.func277.trans (congrArg some (by kernel_rfl))
 f337:=Tryz.func296.trans (congrArg some (by kernel_rfl))
 f338:=Tryz.func297.trans (congrArg some (by kernel_rfl))
 t0:=Tryz.underlying0
 a0:=Tryz.isAgg0
 z0:=Tryz.sizeOf0
 v0:=Tryz.zeroValue0
 t2:=Tryz.underlying2
 a2:=Tryz.isAgg2
 z2:=Tryz.sizeOf2
 v2:=Tryz.zeroValue2
 t3:=Tryz.underlying3
 a3:=Tryz.isAgg3
 z3:=Tryz.sizeOf3
 v3:=Tryz.zeroValue3
 t4:=Tryz.underlying4
 a4:=Tryz.isAgg4
 z4:=Tryz.sizeOf4
 v4:=Tryz.zeroValue4
 t5:=Tryz.underlying5
 a5:=Tryz.isAgg5
 z5:=Tryz.sizeOf5
 v5:=Tryz.zeroValue5
 t9:=Tryz.underlying9
 a9:=Tryz.isAgg9
 z9:=Tryz.sizeOf9
 v9:=Tryz.zeroValue9
 t20:=Tryz.underlying20
 a20:=Tryz.isAgg20
 z20:=Tryz.sizeOf20
 v20:=Tryz.zeroValue20
 t37:=Tryz.underlying115
 a37:=Tryz.isAgg115
 z37:=Tryz.sizeOf115
 v37:=Tryz.zeroValue115
 t46:=Tryz.underlying245
 a46:=Tryz.isAgg245
 z46:=Tryz.sizeOf245
 v46:=Tryz.zeroValue245
 t51:=Tryz.underlying41
 a51:=Tryz.isAgg41
 z51:=Tryz.sizeOf41
 v51:=Tryz.zeroValue41
 t53:=Tryz.underlying330
 a53:=Tryz.isAgg330
 z53:=Tryz.sizeOf330
 v53:=Tryz.zeroValue330
 t171:=Tryz.underlying353
 a171:=Tryz.isAgg353
 z171:=Tryz.sizeOf353
 v171:=Tryz.zeroValue353
 t173:=Tryz.underlying356
 a173:=Tryz.isAgg356
 z173:=Tryz.sizeOf356
 v173:=Tryz.zeroValue356
 t212:=Tryz.underlying396
 a212:=Tryz.isAgg396
 z212:=Tryz.sizeOf396
 v212:=Tryz.zeroValue396
 t213:=Tryz.underlying397
 a213:=Tryz.isAgg397
 z213:=Tryz.sizeOf397
 t232:=Tryz.underlying425
 a232:=Tryz.isAgg425
 z232:=Tryz.sizeOf425
 v232:=Tryz.zeroValue425
 t233:=Tryz.underlying426
 a233:=Tryz.isAgg426
 z233:=Tryz.sizeOf426
 v233:=Tryz.zeroValue426
 g17:=by kernel_rfl
 g18:=by kernel_rfl
 g19:=by kernel_rfl
 i0:=by kernel_rfl
 i2:=by kernel_rfl
 i3:=by kernel_rfl
 i4:=by kernel_rfl
 i5:=by kernel_rfl
 i9:=by kernel_rfl
 i20:=by kernel_rfl
 i37:=by kernel_rfl
 i46:=by kernel_rfl
 i51:=by kernel_rfl
 i53:=by kernel_rfl
 i171:=by kernel_rfl
 i173:=by kernel_rfl
 i212:=by kernel_rfl
 i232:=by kernel_rfl
 i233:=by kernel_rfl
 m17:=by kernel_rfl
 m18:=by kernel_rfl
 m19:=by kernel_rfl }
theorem XF (B:Nat) (i:Int) (h0:-9223372036854775808<=i) (h1:i<=9223372036854775807) (sv:Value) (xs:List Int) (w:World) (hown:Row w B sv xs) (ajx:B<=w.heap.size) (hl:xs.length<=1000000)
  (htab:Lib.TabBelow Tryz.prog B w "internal/strconv.uint64pow10" .u64 Lib.pow10Tab) :
  Calls Tryz.prog 137 #[sv,.int .i64 i,.int .i64 10] w fun e w'=>∃ v',e=.returned v'∧Row w' B v' (xs++af.dec i)∧Below B w w':=by
 refine(Go.Proofs.Any.strconv_AppendInt_10 ajw B xs.length i h0 h1 sv (xs.map (Value.int .u8)) w hown ajx (by omega) htab).mono ?_;rintro e w' ⟨v',rfl,h2,h3,_⟩;refine⟨v',rfl,?_,h3⟩;show w'.ownsRow B 5 1 v' (xs++af.dec i).length ((xs++af.dec i).map (Value.int .u8));rw[lAq,List.map_append,show (af.dec i).length=(Lib.itoa i).length by unfold af.dec;rw[List.length_map],show (af.dec i).map (Value.int .u8)=Lib.byteCells (Lib.itoa i) by unfold af.dec Lib.byteCells;rw[List.map_map];rfl];exact h2
end Go.Proofs.YtjolccidheflpaaGreatDoor
namespace Go.Proofs.YtjolccidheflpaaGreatDoor
set_option maxHeartbeats 8000000
open Go.RowKit
set_option maxRecDepth 100000
theorem H_ (n:Int) (h0:-9223372036854775808<=n) (h1:n<=9223372036854775807):(af.dec n).length<=21:=by unfold af.dec;rw[List.length_map];exact Lib.itoa_length_le n h0 h1
theorem XW (a:Ask):(af.cQ a).size<=30:=by
 unfold af.cQ p9;split
 ·rw[strOfNums_size,ah.Gi];omega
 ·exact Nat.zero_le _
theorem Ia (ds:List Nat) (hd:∀ d∈ds,d<6):∀ k,(af.lB ds k).length<=22*k
 | 0=>by simp[af.lB]
 | k+1=>by
  have:=Ia ds hd k
  have h2:ds.getD k 0<6:=by
   rw[gE];cases h:ds[k]? with
   | none=>simp
   | some d=>exact hd d (List.mem_of_getElem? h)
  have h3:=H_ ((ds.getD k 0:Nat):Int) (by omega) (by omega);rw[af.lB,lAq,lAq];split <;> simp only[List.length_singleton,List.length_nil] <;> omega
theorem Ib (l:List Ask):∀ k,(af.ng l k).length<=61*k
 | 0=>by simp[af.ng]
 | k+1=>by
  have:=Ib l k
  have h2:=XW (cg l k);rw[af.ng,lAq,lAq,On];simp;omega
section
variable {w W:World} {ad:Nat->Addr}
theorem XX {B:Nat} (ht:Lib.TabBelow Tryz.prog w.heap.size w "internal/strconv.uint64pow10" .u64 Lib.pow10Tab) (hb:Below w.heap.size w W) (hB:w.heap.size<=B):Lib.TabBelow Tryz.prog B W "internal/strconv.uint64pow10" .u64 Lib.pow10Tab :=
 fun w' h'=>ht w' (hb.trans (h'.mono hB))
theorem ajW (bt:Nat) (ds:List Nat) (l:List Ask) (bf va:Value) (based qw:Nat) (W:World) (hs:Hid (cP w ad)) (ht:Hid (Lib.TabBelow Tryz.prog w.heap.size w "internal/strconv.uint64pow10" .u64 Lib.pow10Tab)) (hbw:Hid (Below w.heap.size w W)) (hbt:bt<=1000000)
  (hrd:Hid (W.ownsRow based 3 1 bf ds.length (ds.map fun d=>Value.int .i64 (d:Nat)))) (ee:Hid (W.ownsRow qw 95 8 va l.length (aL l))) (zm:Hid (∀ d∈ds,d<6)) (hdl:ds.length<=6) (hal:l.length<=12) :
  Calls Tryz.prog 79 #[.int .i64 bt,bf,va] W fun e w'=>e=.returned (.string (af.eQ bt ds l))∧Below W.heap.size W w':=by
 obtain⟨CU,Oo,gX⟩:=eo hrd.out;obtain⟨wS,CV,r8⟩:=eo ee.out;obtain⟨md,l9⟩:∃ md,ds.length=md:=⟨_,rfl⟩;obtain⟨fE,hma⟩:∃ fE,l.length=fE:=⟨_,rfl⟩;rw[l9]at hrd gX hdl;rw[hma]at ee r8 hal;subst gX r8;have wT:=hDq l9;have Oq:=hDq hma;have y5:Hid (af.eQ bt ds l=strOfNums (((af.dec bt++[58])++af.lB ds md)++af.ng l fE)):=by show _=_;rw[<- l9,<- hma];rfl
 clear l9 hma;have Ic:w.heap.size<=W.heap.size:=hbw.out.size;have aoO:=H_ (bt:Int) (by omega) (by omega);have HI0:=hDq (XF W.heap.size (bt:Int) (by omega) (by omega) (.slice none 0 0) [] W (World.ownsRow_nil _ _ _ _) (lRq _) (by simp) (XX ht.out hbw.out Ic));generalize af.eQ bt ds l=rb at *;go_enter Tryz.func79,Tryz.ntmps79
 go_wp2_with fail
 refine HI0.out.mono ?_;rintro e w1 ⟨v1,rfl,hr1,hb1⟩;have oN:W.heap.size<=w1.heap.size:=hb1.size;obtain⟨v2,w2,Ot,hr2,hg2⟩:=CS W.heap.size w1 v1 ([]++af.dec bt) [58] hr1 (by simp;omega) (by simp) oN;have HB2:Hid (Below W.heap.size W w2):=below_grown (hb1.alloc oN _) (World.ownsRow.alloc hr1 _) (lTq oN (by simp)) hg2;simp only[List.nil_append]at hr2;have aT:=hDq hr2;simp only[List.map_cons,List.map_nil,List.length_cons,List.length_nil]at Ot;have ajX:=hDq Ot;clear Ot hr2 hg2 hr1 hb1 HI0;simp only[]
 go_wp2_with (at_builtin;refine wpList_append_run rfl _ _ 115 rfl _ _ _ rfl rfl ajX.out ?_)
 go_loopw [7,21] (fun v kv wr=>∃ k:Nat,k<=md∧kv=.int .i64 k∧Row wr W.heap.size v ((af.dec bt++[58])++af.lB ds k)∧Below W.heap.size W wr) (fun _ kv _=>md-(intOf kv).toNat)
 case atStart=>exact⟨0,by omega,rfl,by simpa [af.lB] using aT.out,HB2.out⟩
 case round =>
  obtain⟨k,hk,rfl,hrow,iE⟩:=hrel;have HR:=hDq hrow;have HB:=hDq iE;clear iE;have Ou:W.heap.size<=wr.heap.size:=HB.out.size;have ajY:((af.dec bt++[58])++af.lB ds k).length<=1000:=by
   have:=Ia ds zm.out k
   simp only[List.length_append,List.length_singleton];omega
  by_cases hlt:k<md
  ·have aK:(k:Int)<md:=by omega
   have hkl:k<ds.length:=by rw[wT.out];exact hlt
   obtain⟨g,hg⟩:∃ g,CU=some ⟨g,0,none⟩:=by
    rcases hrd.out.2 with ⟨e1,_⟩ | ⟨g,cap,cur,e1,_⟩
    ·cases e1;omega
    ·simp only[Value.slice.injEq]at e1;exact⟨g,e1.1⟩
   subst hg;have Nr:wr.cell? ⟨g,k,none⟩=some (.int .i64 (ds.getD k 0:Nat)):=by
    have h1:=World.ownsRow.cells (bR hrd.out HB.out) (g:=g) rfl k (.int .i64 (ds.getD k 0:Nat)) (by simp[List.getElem?_eq_getElem hkl,List.getD_eq_getElem?_getD]);have hp:(⟨g,0,none⟩:Addr).add k=⟨g,k,none⟩:=by unfold Addr.add;split <;> simp_all
    rwa [hp]at h1
   have ajZ:ds.getD k 0<6:=by
    rw[gE,List.getElem?_eq_getElem hkl];exact zm.out _ (List.getElem_mem hkl)
   have HN:Hid (af.lB ds (k+1)=af.lB ds k++((if 0<k then [44] else [])++af.dec ((ds.getD k 0:Nat):Int))):=rfl;generalize ds.getD k 0=d at *;have HI:=hDq (fun (v:Value) (xs:List Int) (W':World) (h1:Row W' W.heap.size v xs) (h2:xs.length<=2000) (h3:Below W.heap.size W W')=>XF W.heap.size (d:Int) (by omega) (by omega) v xs W' h1 h3.size (by omega) (XX ht.out (hbw.out.trans (h3.mono Ic)) Ic));by_cases h0:0<k
   ·have aj0:(0:Int)<k:=by omega
    rw[if_pos h0]at HN;obtain⟨v5,aQ,Ov,qL,XY⟩:=CS W.heap.size wr u7 _ [44] HR.out (by omega) (by simp) Ou;have bE:Hid (Below W.heap.size W aQ):=below_grown (HB.out.alloc Ou _) (World.ownsRow.alloc HR.out _) (lTq Ou (by simp)) XY;have jb:=hDq qL;simp only[List.map_cons,List.map_nil,List.length_cons,List.length_nil]at Ov;have aj1:=hDq Ov;clear Ov qL XY hrow
    go_wp2_with (at_builtin;refine wpList_append_run rfl _ _ 115 rfl _ _ _ rfl rfl aj1.out ?_)
    refine(HI.out _ _ _ jb.out (by simp only[List.length_append]at ajY ⊢;simp;omega) bE.out).mono ?_;rintro e aj ⟨v6,rfl,oU,hb6⟩;have aS:=hDq (bE.out.trans hb6);have bu:=hDq oU;clear oU hb6;simp only[];go_wp2;refine⟨⟨k+1,hlt,by go_num,?_,aS.out⟩,by simp[intOf];omega⟩;rw[HN.out]
    have:=bu.out
    simp only[List.append_assoc]at this ⊢;exact this
   ·have aj0:¬ (0:Int)<k:=by omega
    rw[if_neg h0,List.nil_append]at HN;clear hrow
    go_wp2_with fail
    refine(HI.out _ _ _ HR.out (by omega) HB.out).mono ?_;rintro e aj ⟨v6,rfl,oU,hb6⟩;have aS:=hDq (HB.out.trans hb6);have bu:=hDq oU;clear oU hb6;simp only[];go_wp2;refine⟨⟨k+1,hlt,by go_num,?_,aS.out⟩,by simp[intOf];omega⟩;rw[HN.out]
    have:=bu.out
    simp only[List.append_assoc]at this ⊢;exact this
  ·have aK:¬ (k:Int)<md:=by omega
   obtain rfl:k=md:=by omega
   obtain⟨fQ,hwo⟩:∃ fQ,fQ=wr:=⟨_,rfl⟩;subst hwo;obtain⟨XZ,aj2⟩:∃ XZ,XZ=u7:=⟨_,rfl⟩;subst aj2;clear hrow
   go_wp2_with fail
   go_loopw [7,37] (fun v kv wr=>∃ j:Nat,j<=fE∧kv=.int .i64 j∧Row wr W.heap.size v (((af.dec bt++[58])++af.lB ds k)++af.ng l j)∧Below W.heap.size W wr) (fun _ kv _=>fE-(intOf kv).toNat)
   case atStart=>exact⟨0,by omega,rfl,by simpa [af.ng] using HR.out,HB.out⟩
   case round =>
    obtain⟨j,hj,rfl,hrow,iE⟩:=hrel;have uz:=hDq hrow;have CW:=hDq iE;clear iE;have Ow:W.heap.size<=wr.heap.size:=CW.out.size;have aj3:(((af.dec bt++[58])++af.lB ds k)++af.ng l j).length<=2000:=by
     have:=Ib l j
     rw[lAq];omega
    by_cases nh:j<fE
    ·have a_:(j:Int)<fE:=by omega
     have uh:j<l.length:=by rw[Oq.out];exact nh
     obtain⟨g,hg⟩:∃ g,wS=some ⟨g,0,none⟩:=by
      rcases ee.out.2 with ⟨e1,_⟩ | ⟨g,cap,cur,e1,_⟩
      ·cases e1;omega
      ·simp only[Value.slice.injEq]at e1;exact⟨g,e1.1⟩
     subst hg;obtain⟨d0,d1,d2,d3,d4,d5,jA,pG⟩:=rQ (bR ee.out CW.out) uh nh;have rJ:g<wr.heap.size:=bCq _ _ d0;have HN:Hid (af.ng l (j+1)=af.ng l j++([32]++af.lA (af.cQ (cg l j)) (af.cQ (cg l j)).size)):=rfl;generalize cg l j=a at *;have aS:Hid (Below wr.heap.size wr (wr.alloc (.cells #[.int .u8 a.k,.int .i64 a.c,.int .i64 a.sq,.int .i64 a.it,.int .i64 a.sd,.int .i64 a.pr,.int .i64 a.q,.int .i64 a.id] 95))):=(bRq _ _).alloc (lRq _) _;have HE:=hDq (ada a.k a.c a.sq a.it a.sd a.pr a.q a.id ad (wr.alloc (.cells #[.int .u8 a.k,.int .i64 a.c,.int .i64 a.sq,.int .i64 a.it,.int .i64 a.sd,.int .i64 a.pr,.int .i64 a.q,.int .i64 a.id] 95)) (hs.out.later (hbw.out.trans ((CW.out.trans (aS.out.mono Ow)).mono Ic))));rw[show p9 a.k a.c a.sq a.it a.sd a.pr a.q a.id=af.cQ a from rfl]at HE;have wU:=XW a;generalize af.cQ a=fo at *;generalize ja ad (ah.code a.k a.c a.sq a.it a.sd a.pr a.q a.id)=bP at *;clear hrow
     go_wp2_with fail
     refine HE.out.mono ?_;rintro e bh ⟨rfl,jc⟩;have k0:=hDq (aS.out.trans (jc.mono aS.out.size));have fG:=hDq (bR uz.out k0.out);have Ox:W.heap.size<=bh.heap.size:=lTq Ow k0.out.size;have X0:=CW.out.trans (k0.out.mono Ow);obtain⟨v8,bY,Oy,Bc,wM⟩:=CS W.heap.size bh u7 _ [32] fG.out (by omega) (by simp) Ox;have jB:Hid (Below W.heap.size W bY):=below_grown (X0.alloc Ox _) (World.ownsRow.alloc fG.out _) (lTq Ox (by simp)) wM;have HD:=hDq (ajU W.heap.size v8 _ fo bY Bc (by simp only[List.length_append]at aj3 ⊢;simp;omega) (by omega) jB.out.size);simp only[List.map_cons,List.map_nil,List.length_cons,List.length_nil]at Oy;have aj4:=hDq Oy;clear Oy Bc wM jc HE aS d0 d1 d2 d3 d4 d5 jA pG X0;simp only[]
     go_wp2_with (at_builtin;refine wpList_append_run rfl _ _ 115 rfl _ _ _ rfl rfl aj4.out ?_)
     refine HD.out.mono ?_;rintro e g_ ⟨v9,rfl,X3,mF⟩;have yU:=hDq (jB.out.trans mF);have ym:=hDq X3;clear X3 mF HD;simp only[];go_wp2;refine⟨⟨j+1,nh,by go_num,?_,yU.out⟩,by simp[intOf];omega⟩;rw[HN.out]
     have:=ym.out
     simp only[List.append_assoc]at this ⊢;exact this
    ·have a_:¬ (j:Int)<fE:=by omega
     obtain rfl:j=fE:=by omega
     have hcv:=Ea uz.out;clear hrow;go_wp2;go_ret;refine⟨?_,CW.out⟩;rw[y5.out];simp
end
section
variable {w W:World} {ad:Nat->Addr} {B:cz} {X:cm} {wd h seed:Int} {S:af.St}
def zi (S:af.St):List Value:=[.bool (S.on 0),.int .i64 (S.bN 0),.int .i64 (S.la 0),.string (S.bk 0),.bool (S.aJ 0),.bool (S.on 1),.int .i64 (S.bN 1),.int .i64 (S.la 1),.string (S.bk 1),.bool (S.aJ 1),.bool (S.on 2),.int .i64 (S.bN 2),.int .i64 (S.la 2),.string (S.bk 2),.bool (S.aJ 2),.bool (S.on 3),.int .i64 (S.bN 3),.int .i64 (S.la 3),.string (S.bk 3),.bool (S.aJ 3),.bool (S.on 4),.int .i64 (S.bN 4),.int .i64 (S.la 4),.string (S.bk 4),.bool (S.aJ 4),.bool (S.on 5),.int .i64 (S.bN 5),.int .i64 (S.la 5),.string (S.bk 5),.bool (S.aJ 5)]
theorem XG (S:af.St):(zi S).length=30:=rfl
theorem ajy (S:af.St) {k:Nat} (hk:k<6) (W:World):(Instr.index 112 (.agg (zi S).toArray) (.int .i64 k)).run Tryz.prog W=.ok (.agg #[.bool (S.on k),.int .i64 (S.bN k),.int .i64 (S.la k),.string (S.bk k),.bool (S.aJ k)]) W:=by
 have:k=0∨k=1∨k=2∨k=3∨k=4∨k=5:=by omega
 unfold zi;rcases this with rfl | rfl | rfl | rfl | rfl | rfl <;> exact rfl
theorem ajz (S:af.St):(Tryz.prog.info? 112).map (·.size)=some (zi S).length:=by rw[XG];kernel_rfl
theorem ajA {W:World} (H:aG w W B X wd h seed S):W.rangeAt B.V 4 (zi S):=by
 intro j v hv;have hj:j<30:=by
  rcases Nat.lt_or_ge j 30 with h | h
  ·exact h
  ·rw[List.getElem?_eq_none (by rw[XG];exact h)]at hv;cases hv
 rw[H.at];rw[<- hv]
 iterate 30 (rcases j with _ | j;· rfl)
 omega
theorem ajB (wr:World) (o:Obj) (u:Value) (e:TypeId):((wr.alloc o).alloc (.cells #[u] e)).cell? ⟨wr.heap.size+1,0,none⟩=some u:=by
 have hh:=hNq (wr.alloc o) (.cells #[u] e);rw[show (wr.alloc o).heap.size=wr.heap.size+1 from Array.size_push ..]at hh;exact(cR _ _ 0 _ _ _ hh).trans rfl
theorem XH (aJ:Nat->Bool):∀ k,∀ d∈af.dA aJ k,d<k
 | 0,d,h=>by cases h
 | k+1,d,h=>by
  rw[af.dA,List.mem_append]at h;rcases h with h | h
  ·have:=XH aJ k d h;omega
  ·split at h
   ·rw[List.mem_singleton.1 h];omega
   ·cases h
theorem Od (aJ:Nat->Bool):∀ k,(af.dA aJ k).length<=k
 | 0=>by simp[af.dA]
 | k+1=>by
  have:=Od aJ k
  rw[af.dA,lAq];split <;> simp <;> omega
def eF (l:List Nat):List Value:=l.map fun d=>Value.int .i64 (d:Nat)
theorem XI:∃ i,Tryz.prog.info? 3=some i∧i.zero=some (.int .i64 0)∧i.size=1∧i.bytes=8:=⟨_,rfl,rfl,rfl,rfl⟩
theorem ajC (W:World) (H:Hid (aG w W B X wd h seed S)):Calls Tryz.prog 76 #[.pointer (some ⟨B.V,0,none⟩)] W fun e w'=>∃ v,e=.returned v∧w'.ownsRow W.heap.size 3 1 v (af.dA S.aJ 6).length (eF (af.dA S.aJ 6))∧Below W.heap.size W w':=by
 obtain⟨i3,hi,hz0,hz1,hz2⟩:=XI;have Hi:=hDq hi;have eK:=hDq hz0;have eL:=hDq hz1;have eM:=hDq hz2;clear hi hz0 hz1 hz2;have ajD:=hDq (fun k (hk:k<6) W=>ajy S (k:=k) hk W);have XJ:=hDq (ajA H.out);have kE:=hDq (ajz S);generalize hcc:zi S=ajE at *;go_enter Tryz.func76,Tryz.ntmps76
 go_wp2_with (refine wpList_load_mid rfl 112 _ rfl B.V 4 rfl ajE _ XJ.out Tryz.underlying112 rfl kE.out ?_)
 clear XJ kE
 go_loopw [3,10] (fun v kv wr=>∃ k:Nat,k<=6∧kv=.int .i64 k∧wr.ownsRow W.heap.size 3 1 v (af.dA S.aJ k).length (eF (af.dA S.aJ k))∧Below W.heap.size W wr) (fun _ kv _=>6-(intOf kv).toNat)
 case atStart=>exact⟨0,by omega,rfl,World.ownsRow_nil _ _ _ _,bRq _ _⟩
 case round =>
  obtain⟨k,hk,rfl,hrow,hb⟩:=hrel;have HR:=hDq hrow;have HB:=hDq hb;clear hrow hb;by_cases hlt:k<6
  ·have aK:(k:Int)<6:=by omega
   have zj:=fun W=>ajD.out k hlt W;have hlen:=Od S.aJ k;have HN:Hid (af.dA S.aJ (k+1)=af.dA S.aJ k++if S.aJ k=true then [k] else []):=rfl;have bE:Hid (Below W.heap.size W (wr.alloc (.cells #[.bool (S.on k),.int .i64 (S.bN k),.int .i64 (S.la k),.string (S.bk k),.bool (S.aJ k)] 111))):=HB.out.alloc HB.out.size _;have hwz:W.heap.size<=wr.heap.size:=HB.out.size;cases hd:S.aJ k with
   | false =>
    rw[hd,if_neg (by decide),aNq]at HN;rw[hd]at bE zj;go_wp2;refine⟨⟨k+1,hlt,by go_num,?_,bE.out⟩,by simp[intOf];omega⟩;rw[HN.out];exact World.ownsRow.alloc HR.out _
   | true =>
    rw[hd,if_pos rfl]at HN;rw[hd]at bE zj
    go_wp2_with (at_builtin;refine wpList_append_own _ rfl _ _ 23 rfl W.heap.size 3 i3 (.int .i64 0) 1 8 Tryz.underlying23 Hi.out eK.out eL.out eM.out rfl (by decide) _ _ _ rfl (World.ownsRow.alloc (World.ownsRow.alloc HR.out _) _) ⟨wr.heap.size+1,0,none⟩ 1 1 [.int .i64 (k:Nat)] rfl rfl ?c1 ?c2 ?c3 ?c4 ?c5 ?_)
    case c1 =>
     intro j u hj;rcases j with _ | j
     ·have:u=.int .i64 (k:Nat):=by simpa using hj.symm
      subst this;exact ajB _ _ _ _
     ·simp at hj
    case c2=>intro u hu;rw[List.mem_singleton.1 hu];rfl
    case c3=>unfold maxLen;omega
    case c4=>omega
    case c5=>first | omega | (simp;omega)
    intro v6 aj hown' hgrow _;have aS:Hid (Below W.heap.size W aj):=below_grown (bE.out.alloc bE.out.size _) (World.ownsRow.alloc (World.ownsRow.alloc HR.out _) _) (lTq bE.out.size (by simp)) hgrow;have bu:Hid (aj.ownsRow W.heap.size 3 1 v6 (af.dA S.aJ k++[k]).length (eF (af.dA S.aJ k++[k]))):=by
     show aj.ownsRow _ _ _ _ _ _;unfold eF;rw[lAq,List.map_append];exact hown'
    clear hown' hgrow;go_wp2;refine⟨⟨k+1,hlt,by go_num,?_,aS.out⟩,by simp[intOf];omega⟩;rw[HN.out];exact bu.out
  ·have aK:¬ (k:Int)<6:=by omega
   obtain rfl:k=6:=by omega
   go_wp2;go_ret;exact⟨_,rfl,HR.out,HB.out⟩
end
section
variable {w W W' W1:World} {ad:Nat->Addr} {b0 q:Nat} {B:cz} {X X' X1 X2:cm} {wd h seed:Int} {S:af.St} {vp vr:Value} {r:af.cJ}
theorem bI.begin (H:aG w W B X wd h seed S) (ha:d6 S.L S.pf S.n wd h) :
  bI w W.heap.size (W.alloc (.cells #[.pointer (some ⟨B.F,0,none⟩),.slice none 0 0,.slice none 0 0] 240)) B X wd h seed S W.heap.size (.slice none 0 0) (.slice none 0 0) (af.start S) :=
 ⟨H.later ((bRq _ _).alloc (lRq _) _),hNq _ _,World.ownsRow_nil _ _ _ _,World.ownsRow_nil _ _ _ _,lRq _,lTq H.lo (Nat.le_of_lt H.lt),by simp,
  fun c hc k hk=>(H.iR (.inr (.inr (.inr (.inl (.inr ⟨c,hc,hk⟩)))))).2,ha⟩
theorem aG.CX {base:Nat} {e:TypeId} {sz n j:Nat} {v u:Value} {xs:List Value} (H:aG w W B X wd h seed S) (hr:W.ownsRow base e sz v n xs) (he:e≠114):(W.setCell ⟨B.V,j,none⟩ u).ownsRow base e sz v n xs :=
 fJ hr (aF.setCell W B.V j u) (fun k hk e1=>by
  obtain⟨_,cur,h2⟩:=ep hr hk;exact aA h2 H.blk he e1)
theorem bI.X4 {S':af.St} {j:Nat} {u:Value} (R:bI w b0 W B X wd h seed S q vp vr r) (hv:aG w (W.setCell ⟨B.V,j,none⟩ u) B X wd h seed (wV S' r)):bI w b0 (W.setCell ⟨B.V,j,none⟩ u) B X wd h seed S' q vp vr r:=by
 refine⟨hv,?_,R.bQ.CX R.pl (by decide),R.bQ.CX R.rp (by decide),R.lo,R.l6,lTq R.hib (by simp),R.wH,R.all⟩;rw[(aF.setCell W B.V j u).block q (lBq R.blk) (aA R.blk R.bQ.blk (by decide))];exact R.blk
theorem bI.aj5 (R:bI w b0 W B X wd h seed S q vp vr r) {c:Nat} (hc:c<6):bI w b0 (W.setCell ⟨B.V,4+c*5+4,none⟩ (.bool false)) B X wd h seed { S with aJ:=upd S.aJ c false } q vp vr r∧bV W (W.setCell ⟨B.V,4+c*5+4,none⟩ (.bool false)) B X X:=by
 obtain⟨f1,f2⟩:=R.bQ.set (S':=wV { S with aJ:=upd S.aJ c false } r) hc (j:=4) (by decide) (.bool false) (fun c' j' _ i7=>Oc (wV S r) (wV { S with aJ:=upd S.aJ c false } r) c false rfl rfl rfl rfl rfl c' j' i7) rfl rfl rfl ⟨rfl,rfl,rfl,rfl,rfl,rfl,rfl,rfl⟩;exact⟨R.X4 f1,f2⟩
theorem bS.after (hs:bV W W1 B X X1) (hf:bS W1 W' W.heap.size B X1 X2):bV W W' B X X2:=by
 refine⟨hs.turned.trans hf.turned (fun k hk=>?_),fun k hk=>?_⟩
 ·rcases hk with hk | hk
  ·exact hs.new k (by
    rcases hk with e | e
    ·exact .inr (.inl e)
    ·exact .inr (.inr (.inl e)))
  ·exact .inr hk
 ·have h1:iG B X1 k∨W1.heap.size<=k:=by
   rcases hk with e | e | e | e | e | e
   ·exact .inl (.inl e)
   ·exact .inl (.inr (.inl e))
   ·rcases hf.new k (.inr e) with h1 | h1
    ·rcases h1 with h1 | h1
     ·exact .inl (.inr (.inl h1))
     ·exact .inl (.inr (.inr (.inl h1)))
    ·exact .inr h1
   ·rw[hf.qv]at e;exact .inl (.inr (.inr (.inr (.inl e))))
   ·exact .inl (.inr (.inr (.inr (.inr (.inl e)))))
   ·rw[hf.bH]at e;exact .inl (.inr (.inr (.inr (.inr (.inr e)))))
  rcases h1 with h1 | h1
  ·exact hs.new k h1
  ·exact .inr (lTq hs.turned.size h1)
theorem X5 {base:Nat} {e:TypeId} {sz n:Nat} {v:Value} {xs:List Value} (hr:W.ownsRow base e sz v n xs):∀ k,v.ownBlock=some k->k<W.heap.size:=fun k hk=>by
 obtain⟨_,cur,h2⟩:=ep hr hk;exact lBq h2
theorem aG.aj6 (H:aG w W B X wd h seed S) (n:Nat):aG w (W.setCell ⟨B.V,35,none⟩ (.int .i64 n)) B X wd h seed { S with bt:=n }∧bV W (W.setCell ⟨B.V,35,none⟩ (.int .i64 n)) B X X :=
 H.own (S':={ S with bt:=n }) (aH.setCell _ _ _ _) (by rw[block_setCell H.blk];rfl) ⟨rfl,rfl,rfl,rfl,rfl,rfl,rfl,rfl⟩
theorem aG.X6 (H:aG w W B X wd h seed S) (n:Nat):aG w (W.setCell ⟨B.V,34,none⟩ (.int .i64 n)) B X wd h seed { S with now:=n }∧bV W (W.setCell ⟨B.V,34,none⟩ (.int .i64 n)) B X X :=
 H.own (S':={ S with now:=n }) (aH.setCell _ _ _ _) (by rw[block_setCell H.blk];rfl) ⟨rfl,rfl,rfl,rfl,rfl,rfl,rfl,rfl⟩
theorem aG.aj7 (H:aG w W B X wd h seed S) (d:Bool):aG w (W.setCell ⟨B.V,36,none⟩ (.bool d)) B X wd h seed { S with down:=d }∧bV W (W.setCell ⟨B.V,36,none⟩ (.bool d)) B X X :=
 H.own (S':={ S with down:=d }) (aH.setCell _ _ _ _) (by rw[block_setCell H.blk];rfl) ⟨rfl,rfl,rfl,rfl,rfl,rfl,rfl,rfl⟩
theorem aj8 (r:af.cJ) (c:Nat) (hl:∀ i,i<3->(r.L i).length<=60):(af.uj r c).rp.length<=r.rp.length+180∧(af.uj r c).pl=r.pl:=by
 refine⟨?_,rfl⟩
 have:=Fl.Ed (c:Int) r.L hl 3 (by decide)
 show (r.rp++(Fl.mD c r.L 3).map (af.tell af.pM)).length<=_;rw[lAq,List.length_map];omega
theorem aj9 (r:af.cJ) (a:Ask):(af.og r a).rp.length<=r.rp.length+1∧(af.og r a).pl.length<=r.pl.length+1:=by
 unfold af.og af.wN af.wI;split
 ·refine⟨?_,?_⟩ <;> (simp only[];split <;> simp)
 ·refine⟨?_,?_⟩
  ·simp only[List.length_append];split <;> simp
  ·simp only[];split
   ·exact Nat.le_succ_of_le (List.length_filter_le _ _)
   ·simp
theorem akb {wd h:Int} {r:af.cJ} (H:d6 r.L r.pf r.n wd h) {i:Nat} (hi:i<3) (s:Int):(af.uo wd h r i s).rp.length<=r.rp.length+240+r.pl.length∧(af.uo wd h r i s).pl=r.pl:=by
 refine⟨?_,rfl⟩;have h1:=(af.X7 H hi s).1;have h2:=Oz (Fl.nP r.L i (af.iW wd r i s)) i r.pl;show (r.rp++((af.iW wd r i s).map (af.um (r.L i) (af.iV r i))++r.pl.flatMap (af.oh (Fl.nP r.L i (af.iW wd r i s)) i))).length<=_;rw[lAq,lAq,List.length_map];omega
theorem akc (seed:Int) (bt i:Nat) (hb:bt<=1000000) (hi:i<3):IntKind.u32.wrap (seed+IntKind.u32.wrap (IntKind.i64.wrap (IntKind.i64.wrap (3*(bt:Int))+(i:Int))))=af.rV seed bt i:=by
 rw[IntWalk.i64_in (3*(bt:Int)) (by omega),IntWalk.i64_in (3*(bt:Int)+i) (by omega)];have e:∀ n:Int,IntKind.u32.wrap n=n%4294967296:=fun n=>by simp[IntKind.wrap,IntKind.bits,IntKind.signed]
 rw[e,e];unfold af.rV;push_cast;rfl
theorem X8 (ds:List Nat) (l:List Ask) (bf va:Value) (based qw:Nat) (W:World) (H:Hid (aG w W B X wd h seed S)) (hs:Hid (cP w ad)) (hall:Hid (d6 S.L S.pf S.n wd h)) (hbt:S.bt<=1000000)
  (hrd:Hid (W.ownsRow based 3 1 bf ds.length (eF ds))) (ee:Hid (W.ownsRow qw 95 8 va l.length (aL l))) (zm:Hid (∀ d∈ds,d<6)) (hdl:ds.length<=6) (hal:l.length<=12) :
  Calls Tryz.prog 80 #[.pointer (some ⟨B.V,0,none⟩),bf,va] W fun e w'=>∃ v X',e=.returned v∧aG w w' B X' wd h seed (af.l8 wd h seed S ds l)∧bV W w' B X X'∧uv w' W.heap.size v (af.iH wd h seed S ds l).rp∧d6 (af.l8 wd h seed S ds l).L (af.l8 wd h seed S ds l).pf (af.l8 wd h seed S ds l).n wd h∧(af.iH wd h seed S ds l).rp.length<=2900∧af.Same S.pf (af.l8 wd h seed S ds l).pf:=by
 obtain⟨CU,Oo,gX⟩:=eo hrd.out;obtain⟨wS,CV,r8⟩:=eo ee.out;obtain⟨md,l9⟩:∃ md,ds.length=md:=⟨_,rfl⟩;obtain⟨fE,hma⟩:∃ fE,l.length=fE:=⟨_,rfl⟩;have eX:=hDq (X5 hrd.out);have CY:=hDq (X5 ee.out);have jl:Hid (af.l8 wd h seed S ds l = { S with L:=(af.l7 wd h seed S.bt (af.kO (af.kt (af.start S) ds md) l fE) 3).L,pf:=(af.l7 wd h seed S.bt (af.kO (af.kt (af.start S) ds md) l fE) 3).pf,n:=(af.l7 wd h seed S.bt (af.kO (af.kt (af.start S) ds md) l fE) 3).n,aJ:=af.uq S.aJ 6,bt:=S.bt+1 }):=by show _=_;rw[<- l9,<- hma];rfl
 have HRR:Hid (af.iH wd h seed S ds l=af.l7 wd h seed S.bt (af.kO (af.kt (af.start S) ds md) l fE) 3):=by show _=_;rw[<- l9,<- hma];rfl
 rw[l9]at hrd gX hdl;rw[hma]at ee r8 hal;subst gX r8;have wT:=hDq l9;have Oq:=hDq hma;clear l9 hma;generalize af.l8 wd h seed S ds l=aoP at *;generalize af.iH wd h seed S ds l=RR at *;have bD:Hid (Below W.heap.size W (W.alloc (.cells #[.pointer (some ⟨B.F,0,none⟩),.slice none 0 0,.slice none 0 0] 240))):=(bRq _ _).alloc (lRq _) _;have f_:=hDq (bI.begin H.out hall.out);have HD0:=hDq (bR hrd.out bD.out);have X9:=hDq (bR ee.out bD.out);have wW:Hid (bV W (W.alloc (.cells #[.pointer (some ⟨B.F,0,none⟩),.slice none 0 0,.slice none 0 0] 240)) B X X):=bV.of_below bD.out B X;have c1:W.cell? ⟨B.V,1,none⟩=some (.pointer (some ⟨B.F,0,none⟩)):=H.out.at 1;go_enter Tryz.func80,Tryz.ntmps80
 go_wp2_with fail
 go_loopw [21] (fun kv wr=>∃ (k:Nat) (X':cm) (vp vr:Value),k<=md∧kv=.int .i64 k∧bI w W.heap.size wr B X' wd h seed S W.heap.size vp vr (af.kt (af.start S) ds k)∧bV W wr B X X'∧wr.ownsRow based 3 1 (.slice CU md Oo) md (eF ds)∧wr.ownsRow qw 95 8 (.slice wS fE CV) fE (aL l)∧(af.kt (af.start S) ds k).rp.length<=180*k∧(af.kt (af.start S) ds k).pl=[]∧af.Same S.pf (af.kt (af.start S) ds k).pf) (fun kv _=>md-(intOf kv).toNat)
 case atStart=>exact⟨0,X,_,_,by omega,rfl,f_.out,wW.out,HD0.out,X9.out,lRq 0,rfl,af.Same.refl _⟩
 case round =>
  obtain⟨k,X1,X_,Ya,hk,rfl,hr1,hs1,om,ha1,hlr,OA,hsm⟩:=hrel;have Ig:=hDq hsm;clear hsm;have HR1:=hDq hr1;have fg:=hDq hs1;have HD1:=hDq om;have HA1:=hDq ha1;clear hr1 hs1 om ha1 bD f_ HD0 X9 wW c1;by_cases hlt:k<md
  ·have aK:(k:Int)<md:=by omega
   have hkl:k<ds.length:=by rw[wT.out];exact hlt
   obtain⟨g,hg⟩:∃ g,CU=some ⟨g,0,none⟩:=by
    rcases hrd.out.2 with ⟨e1,_⟩ | ⟨g,cap,cur,e1,_⟩
    ·cases e1;omega
    ·simp only[Value.slice.injEq]at e1;exact⟨g,e1.1⟩
   subst hg;have Nr:wr.cell? ⟨g,k,none⟩=some (.int .i64 (ds.getD k 0:Nat)):=by
    have h1:=World.ownsRow.cells HD1.out (g:=g) rfl k (.int .i64 (ds.getD k 0:Nat)) (by unfold eF;simp[List.getElem?_eq_getElem hkl,List.getD_eq_getElem?_getD]);have hp:(⟨g,0,none⟩:Addr).add k=⟨g,k,none⟩:=by unfold Addr.add;split <;> simp_all
    rwa [hp]at h1
   have ajZ:ds.getD k 0<6:=by
    rw[gE,List.getElem?_eq_getElem hkl];exact zm.out _ (List.getElem_mem hkl)
   have HN:Hid (af.kt (af.start S) ds (k+1)=af.uj (af.kt (af.start S) ds k) (ds.getD k 0)):=rfl;have CZ:=hDq (af.akd (af.kt (af.start S) ds k) (ds.getD k 0));have ij:=hDq (aj8 (af.kt (af.start S) ds k) (ds.getD k 0) (fun i hi=>(HR1.out.all.ok.aB i hi).len));generalize ds.getD k 0=d at *;generalize af.kt (af.start S) ds k=r1 at *;have HC:=hDq (ajf d wr HR1 hs (by omega))
   go_wp2_with fail
   refine HC.out.mono ?_;rintro e w2 ⟨rfl,X2,zf,zg,h2,hf2⟩;have HD2:=hDq (hf2.row HR1.out.bQ HD1.out (by decide) eX.out);have bX:=hDq (hf2.row HR1.out.bQ HA1.out (by decide) CY.out);have HS2:=hDq (bS.after fg.out hf2);have aT:=hDq h2;clear h2 hf2 HC Nr;simp only[];go_wp2;refine⟨⟨k+1,X2,zf,zg,hlt,by go_num,?_,HS2.out,HD2.out,bX.out,?_,?_,?_⟩,by simp[intOf];omega⟩
   ·rw[HN.out];exact aT.out
   ·rw[HN.out];have:=ij.out.1;omega
   ·rw[HN.out,ij.out.2];exact OA
   ·rw[HN.out];exact Ig.out.trans CZ.out
  ·have aK:¬ (k:Int)<md:=by omega
   obtain rfl:k=md:=by omega
   clear hk hlt aK;have Yb:(af.kt (af.start S) ds k).pl.length=0:=by rw[OA];rfl
   clear OA;obtain⟨rd,Yc⟩:∃ rd,af.kt (af.start S) ds k=rd:=⟨_,rfl⟩;simp only[Yc]at HR1 jl HRR hlr Yb Ig;clear Yc
   go_wp2_with fail
   go_loopw [28] (fun kv wr=>∃ (n:Nat) (X':cm) (vp vr:Value),n<=6∧kv=.int .i64 n∧bI w W.heap.size wr B X' wd h seed { S with aJ:=af.uq S.aJ n } W.heap.size vp vr rd∧bV W wr B X X'∧wr.ownsRow qw 95 8 (.slice wS fE CV) fE (aL l)) (fun kv _=>6-(intOf kv).toNat)
   case atStart=>exact⟨0,X1,_,_,by omega,rfl,HR1.out,fg.out,HA1.out⟩
   case round =>
    obtain⟨d,X1,X_,Ya,hd,rfl,hr2,hs2,ha2⟩:=hrel;have aT:=hDq hr2;have HS2:=hDq hs2;have bX:=hDq ha2;clear hr2 hs2 ha2 HR1 fg HA1 HD1;by_cases Ih:d<6
    ·have ake:(d:Int)<6:=by omega
     have akf:Hid (af.uq S.aJ (d+1)=upd (af.uq S.aJ d) d false):=rfl;generalize af.uq S.aJ d=akg at *;obtain⟨h3,hs3⟩:=aT.out.aj5 Ih;have HR3:=hDq h3;have dy:=hDq (HS2.out.trans hs3);have vB:=hDq (aT.out.bQ.CX (j:=4+d*5+4) (u:=.bool false) bX.out (by decide));clear h3 hs3;have cd:wr.cell? ⟨B.V,4+d*5+4,none⟩=some (.bool (akg d)):=aT.out.bQ.conn Ih (j:=4) (by decide);have fz:∀ j,wr.frozen? ⟨B.V,j,none⟩=false:=fun j=>aT.out.bQ.free j;go_wp2;refine⟨⟨d+1,X1,X_,Ya,Ih,by go_num,?_,dy.out,vB.out⟩,by simp[intOf];omega⟩;rw[akf.out];exact HR3.out
    ·have ake:¬ (d:Int)<6:=by omega
     have Yd:d=6:=by omega
     have HR1:=aT;have fg:=HS2;have HA1:=bX;rw[Yd]at HR1;clear hd Ih Yd;clear aT HS2 bX;obtain⟨dd,Ye⟩:∃ dd,af.uq S.aJ 6=dd:=⟨_,rfl⟩;simp only[Ye]at HR1 jl;clear Ye
     go_wp2_with fail
     go_loopw [40] (fun kv wr=>∃ (j:Nat) (X':cm) (vp vr:Value),j<=fE∧kv=.int .i64 j∧bI w W.heap.size wr B X' wd h seed { S with aJ:=dd } W.heap.size vp vr (af.kO rd l j)∧bV W wr B X X'∧wr.ownsRow qw 95 8 (.slice wS fE CV) fE (aL l)∧(af.kO rd l j).rp.length<=1080+j∧(af.kO rd l j).pl.length<=j∧af.Same S.pf (af.kO rd l j).pf) (fun kv _=>fE-(intOf kv).toNat)
     case atStart=>exact⟨0,X1,_,_,by omega,rfl,HR1.out,fg.out,HA1.out,by show rd.rp.length<=_;omega,by show rd.pl.length<=_;omega,Ig.out⟩
     case round =>
      obtain⟨j,X2,zf,zg,hj,rfl,hr2,hs2,ha2,Yf,Yg,hsm⟩:=hrel;have Ii:=hDq hsm;clear hsm Ig;have aT:=hDq hr2;have HS2:=hDq hs2;have bX:=hDq ha2;clear hr2 hs2 ha2 HR1 fg HA1 hlr Yb;by_cases nh:j<fE
      ·have a_:(j:Int)<fE:=by omega
       have uh:j<l.length:=by rw[Oq.out];exact nh
       obtain⟨g,hg⟩:∃ g,wS=some ⟨g,0,none⟩:=by
        rcases ee.out.2 with ⟨e1,_⟩ | ⟨g,cap,cur,e1,_⟩
        ·cases e1;omega
        ·simp only[Value.slice.injEq]at e1;exact⟨g,e1.1⟩
       subst hg;obtain⟨d0,d1,d2,d3,d4,d5,jA,pG⟩:=rQ bX.out uh nh;have rJ:g<wr.heap.size:=bCq _ _ d0;have HN:Hid (af.kO rd l (j+1)=af.og (af.kO rd l j) (cg l j)):=rfl;have ij:=hDq (aj9 (af.kO rd l j) (cg l j));have CZ:=hDq (af.akh (af.kO rd l j) (cg l j));generalize cg l j=a at *;generalize af.kO rd l j=r1 at *;have aS:Hid (Below wr.heap.size wr (wr.alloc (.cells (bw a) 95))):=(bRq _ _).alloc (lRq _) _;have bu:=hDq (aT.out.later aS.out);have eA:=hDq (bS.below aS.out W.heap.size B X2);have HC:=hDq (ai2 a _ bu hs (by omega) (by omega));unfold cr bw at *
       go_wp2_with fail
       refine HC.out.mono ?_;rintro e bh ⟨rfl,OB,aki,uf,h7,AU⟩;have OC:=eA.out.trans AU;have ug:=hDq (OC.row aT.out.bQ bX.out (by decide) CY.out);have lf:=hDq (bS.after HS2.out OC);have fG:=hDq h7;clear h7 AU OC HC d0 d1 d2 d3 d4 d5 jA pG;simp only[];go_wp2;refine⟨⟨j+1,OB,aki,uf,nh,by go_num,?_,lf.out,ug.out,?_,?_,?_⟩,by simp[intOf];omega⟩
       ·rw[HN.out];exact fG.out
       ·rw[HN.out];have:=ij.out.1;omega
       ·rw[HN.out];have:=ij.out.2;omega
       ·rw[HN.out];exact Ii.out.trans CZ.out
      ·have a_:¬ (j:Int)<fE:=by omega
       obtain rfl:j=fE:=by omega
       clear hj nh a_;obtain⟨ra,Yh⟩:∃ ra,af.kO rd l j=ra:=⟨_,rfl⟩;simp only[Yh]at aT jl HRR Yf Yg Ii;clear Yh
       go_wp2_with fail
       go_loopw [47] (fun kv wr=>∃ (i:Nat) (X':cm) (vp vr:Value),i<=3∧kv=.int .i64 i∧bI w W.heap.size wr B X' wd h seed { S with aJ:=dd } W.heap.size vp vr (af.l7 wd h seed S.bt ra i)∧bV W wr B X X'∧(af.l7 wd h seed S.bt ra i).rp.length<=2000+300*i∧(af.l7 wd h seed S.bt ra i).pl.length<=12∧af.Same S.pf (af.l7 wd h seed S.bt ra i).pf) (fun kv _=>3-(intOf kv).toNat)
       case atStart=>exact⟨0,X2,_,_,by omega,rfl,aT.out,HS2.out,by show ra.rp.length<=_;omega,by show ra.pl.length<=_;omega,Ii.out⟩
       case round =>
        obtain⟨i,OD,akj,wO,hi,rfl,hr3,hs3,akk,akl,hsm⟩:=hrel;have Yi:=hDq hsm;clear hsm Ii;have HR3:=hDq hr3;have dy:=hDq hs3;clear hr3 hs3 aT HS2 bX Yf Yg;by_cases zn:i<3
        ·have j3:(i:Int)<3:=by omega
         have HN:Hid (af.l7 wd h seed S.bt ra (i+1)=af.uo wd h (af.l7 wd h seed S.bt ra i) i (af.rV seed S.bt i)):=rfl;have CZ:=hDq (af.akm HR3.out.all zn (af.rV seed S.bt i));have ij:=hDq (akb HR3.out.all zn (af.rV seed S.bt i));generalize af.l7 wd h seed S.bt ra i=r1 at *;have yc:Ra.IsU (af.rV seed S.bt i):=by unfold af.rV Ra.IsU;omega
         have HC:=hDq (fun W' R=>akn (w:=w) (b0:=W.heap.size) (B:=B) (X:=OD) (wd:=wd) (h:=h) (seed:=seed) (S:={ S with aJ:=dd }) (q:=W.heap.size) (vp:=akj) (vr:=wO) (r:=r1) i zn (af.rV seed S.bt i) yc W' R hs (by omega) (by omega));obtain⟨bZ,val,hcl,aW⟩:=nY (fun W'=>W'.heap[B.V]?=some (.cells (jL B seed (wV { S with aJ:=dd } r1)) 114 (0,0)));obtain⟨x0,hx0⟩:=aW wr.drew HR3.out.bQ.blk;have hnx:Nonempty bZ:=⟨x0⟩;have s0:∀ x,(val x).cell? ⟨B.V,0,none⟩=some (.int .u32 seed):=fun x=>by rw[cR _ _ _ _ _ _ (hcl x)];rfl
         have s1:∀ x,(val x).cell? ⟨B.V,35,none⟩=some (.int .i64 S.bt):=fun x=>by rw[cR _ _ _ _ _ _ (hcl x)];rfl
         have aV:=hDq aW;clear aW hcl;go_wp2;refine yJ (val:=val) [14] [0,1,2,3,4,5,6,7,8,9,10,11,12,13,14] (by kernel_rfl) (by kernel_rfl) x0 hx0 ?_;rw[hx0];clear hx0
         iterate 14 (refine n_ rfl rfl (fun K hK=>?_);refine⟨by rfl,?_⟩;unfold aI;go_simp;refine hK _ ?_;clear hK K)
         refine qp rfl rfl (fun K hK=>?_);refine⟨by rfl,?_⟩;unfold aR;go_simp;rw[akc seed S.bt i hbt zn];have ako:=hDq (HR3.out.later iU);refine(HC.out _ ako).mono ?_;rintro e aQ ⟨rfl,OE,akp,akq,h5,Yj⟩;have jb:=hDq h5;have ib:=hDq (bS.after dy.out ((bS.below iU W.heap.size B OD).trans Yj));clear h5 Yj;refine⟨_,rfl,aV.out _ jb.out.bQ.blk,hK _ _ ?_⟩;clear hK K aV s0 s1 HC;refine wm ?_;clear x0 hnx;clear val;clear bZ;go_wp2;refine⟨⟨i+1,OE,akp,akq,zn,by go_num,?_,ib.out,?_,?_,?_⟩,by simp[intOf];omega⟩
         ·rw[HN.out];exact jb.out
         ·rw[HN.out];have:=ij.out.1;omega
         ·rw[HN.out,ij.out.2];exact akl
         ·rw[HN.out];exact Yi.out.trans CZ.out
        ·have j3:¬ (i:Int)<3:=by omega
         obtain rfl:i=3:=by omega
         clear hi zn j3;generalize af.l7 wd h seed S.bt ra 3=rt at *;obtain⟨h6,gp⟩:=HR3.out.bQ.aj6 (S.bt+1);have bu:=hDq (HR3.out.X4 (S':={ S with aJ:=dd,bt:=S.bt+1 }) h6);have d_:=hDq (dy.out.trans gp);clear h6 gp;have aoQ:wr.cell? ⟨B.V,35,none⟩=some (.int .i64 S.bt):=HR3.out.bQ.at 35;have fz:∀ j,wr.frozen? ⟨B.V,j,none⟩=false:=fun j=>HR3.out.bQ.free j;have Yk:B.V<wr.heap.size:=HR3.out.bQ.lt;have aoR:W.heap.size≠B.V:=aA HR3.out.blk HR3.out.bQ.blk (by decide);have c2:wr.cell? ⟨W.heap.size,2,none⟩=some wO:=HR3.out.cells.2.2;go_wp2;go_ret;refine⟨wO,OD,rfl,?_,d_.out,?_,?_,?_,?_⟩
         ·rw[jl.out];exact bu.out.bQ
         ·rw[HRR.out];exact bu.out.rp
         ·rw[jl.out];exact bu.out.all
         ·rw[HRR.out];exact akk
         ·rw[jl.out];exact Yi.out
end
section
variable {w W:World} {ad:Nat->Addr} {B:cz} {X:cm} {wd h seed:Int} {S:af.St}
def CJ (S:af.St) (n:Nat):af.St:={ S with on:=upd S.on n false,bN:=upd S.bN n 0,la:=upd S.la n 0,bk:=upd S.bk n ⟨#[]⟩,aJ:=upd S.aJ n false }
theorem ajo (S:af.St) (n:Nat):af.leave (CJ S n) n=af.gone S n:=by
 unfold af.leave CJ af.gone;simp only[vo];rfl
theorem aG.zero (H:aG w W B X wd h seed S) {n:Nat} (hn:n<6) :
  aG w (((((W.setCell ⟨B.V,4+n*5,none⟩ (.bool false)).setCell ⟨B.V,4+n*5+1,none⟩ (.int .i64 0)).setCell ⟨B.V,4+n*5+2,none⟩ (.int .i64 0)).setCell ⟨B.V,4+n*5+3,none⟩ (.string ⟨#[]⟩)).setCell ⟨B.V,4+n*5+4,none⟩ (.bool false)) B X wd h seed (CJ S n)∧bV W (((((W.setCell ⟨B.V,4+n*5,none⟩ (.bool false)).setCell ⟨B.V,4+n*5+1,none⟩ (.int .i64 0)).setCell ⟨B.V,4+n*5+2,none⟩ (.int .i64 0)).setCell ⟨B.V,4+n*5+3,none⟩ (.string ⟨#[]⟩)).setCell ⟨B.V,4+n*5+4,none⟩ (.bool false)) B X X:=by
 obtain⟨d1,d2⟩:=H.ajp hn false 0 0;obtain⟨e1,e2⟩:=d1.set (S':={ wP S n false 0 0 with bk:=upd S.bk n ⟨#[]⟩ }) hn (j:=3) (by decide) (.string ⟨#[]⟩) (fun c' j' _ i7=>ajq (wP S n false 0 0) { wP S n false 0 0 with bk:=upd S.bk n ⟨#[]⟩ } n ⟨#[]⟩ rfl rfl rfl rfl rfl c' j' i7) rfl rfl rfl ⟨rfl,rfl,rfl,rfl,rfl,rfl,rfl,rfl⟩;obtain⟨f1,f2⟩:=e1.set (S':=CJ S n) hn (j:=4) (by decide) (.bool false) (fun c' j' _ i7=>Oc { wP S n false 0 0 with bk:=upd S.bk n ⟨#[]⟩ } (CJ S n) n false rfl rfl rfl rfl rfl c' j' i7) rfl rfl rfl ⟨rfl,rfl,rfl,rfl,rfl,rfl,rfl,rfl⟩;exact⟨f1,(d2.trans e2).trans f2⟩
theorem ajr {S:af.St} (h:∀ c,c<6->0<=S.la c∧S.la c<=1000000) (n:Nat):∀ c,c<6->0<=(af.hang S n).la c∧(af.hang S n).la c<=1000000:=by
 intro c hc;unfold af.hang;split
 ·unfold af.gone upd
  simp only;split
  ·exact⟨by decide,by decide⟩
  ·exact h c hc
 ·exact h c hc
theorem XD {S:af.St} (h:∀ c,c<6->0<=S.la c∧S.la c<=1000000):∀ n,∀ c,c<6->0<=(af.hangs S n).la c∧(af.hangs S n).la c<=1000000
 | 0=>h
 | n+1=>ajr (XD h n) n
theorem ajs (W:World) (H:Hid (aG w W B X wd h seed S)) (hla:Hid (∀ c,c<6->0<=S.la c∧S.la c<=1000000)):Calls Tryz.prog 75 #[.pointer (some ⟨B.V,0,none⟩)] W fun e w'=>e=.returned (.tuple #[])∧∃ X',aG w w' B X' wd h seed (af.hangs S 6)∧bV W w' B X X':=by
 go_enter Tryz.func75,Tryz.ntmps75;go_wp2
 go_loopw [3] (fun kv wr=>∃ (k:Nat) (X':cm),k<=6∧kv=.int .i64 k∧aG w wr B X' wd h seed (af.hangs S k)∧bV W wr B X X') (fun kv _=>6-(intOf kv).toNat)
 case atStart=>exact⟨0,X,by omega,rfl,H.out,bV.refl _ _ _⟩
 case round =>
  obtain⟨k,X',hk,rfl,hv,hst⟩:=hrel;have cu:=hDq hv;have HS:=hDq hst;clear hv hst;by_cases hlt:k<6
  ·have aK:(k:Int)<6:=by omega
   have HN:Hid (af.hangs S (k+1)=af.hang (af.hangs S k) k):=rfl;have hl:=XD hla.out k k hlt;generalize af.hangs S k=T at *;have HL:=hDq (fun W'=>aio (T.on k) (T.bN k) (T.la k) T.now W' ⟨hl.1,by omega⟩);have HH:Hid (af.hang T k=if jm.late (T.on k) (T.la k) T.now=true then af.gone T k else T):=rfl;obtain⟨bZ,val,hcl,aW⟩:=nY (fun W'=>W'.heap[B.V]?=some (.cells (jL B seed T) 114 (0,0)));obtain⟨x0,hx0⟩:=aW wr.drew cu.out.blk;have hnx:Nonempty bZ:=⟨x0⟩;have s0:∀ x,(val x).cell? ⟨B.V,4+k*5,none⟩=some (.bool (T.on k)):=fun x=>by rw[cR _ _ _ _ _ _ (hcl x)];exact H6 B seed T hlt (j:=0) (by decide)
   have s1:∀ x,(val x).cell? ⟨B.V,4+k*5+1,none⟩=some (.int .i64 (T.bN k)):=fun x=>by rw[cR _ _ _ _ _ _ (hcl x)];exact H6 B seed T hlt (j:=1) (by decide)
   have s2:∀ x,(val x).cell? ⟨B.V,4+k*5+2,none⟩=some (.int .i64 (T.la k)):=fun x=>by rw[cR _ _ _ _ _ _ (hcl x)];exact H6 B seed T hlt (j:=2) (by decide)
   have s3:∀ x,(val x).cell? ⟨B.V,34,none⟩=some (.int .i64 T.now):=fun x=>by rw[cR _ _ _ _ _ _ (hcl x)];rfl
   have aV:=hDq aW;clear aW hcl hl;unfold NU at HL;go_wp2;refine yJ (val:=val) [11] [0,1,2,3,4,5,6,7,8,9,10,11] (by kernel_rfl) (by kernel_rfl) x0 hx0 ?_;rw[hx0];clear hx0
   iterate 11 (refine n_ rfl rfl (fun K hK=>?_);refine⟨by rfl,?_⟩;unfold aI;go_simp;refine hK _ ?_;clear hK K)
   refine qp rfl rfl (fun K hK=>?_);refine⟨by rfl,?_⟩;unfold aR;go_simp;refine(HL.out _).mono ?_;rintro e aQ ⟨rfl,cB⟩;have rY:Below wr.heap.size wr aQ:=iU.trans cB;have HV5:=hDq (cu.out.later rY);have ib:=hDq (HS.out.below rY);refine⟨_,rfl,aV.out _ HV5.out.blk,hK _ _ ?_⟩;clear hK K cB rY HL aV s0 s1 s2 s3;refine wm ?_;clear x0 hnx;clear val;clear bZ;cases XE:jm.late (T.on k) (T.la k) T.now with
   | false =>
    rw[XE,if_neg (by decide)]at HH;go_wp2;exact⟨⟨k+1,X',hlt,by go_num,by rw[HN.out,HH.out];exact HV5.out,ib.out⟩,by simp[intOf];omega⟩
   | true =>
    rw[XE,if_pos rfl]at HH;have c0:aQ.cell? ⟨B.V,4+k*5,none⟩=some (.bool (T.on k)):=HV5.out.conn hlt (j:=0) (by decide);have c1:aQ.cell? ⟨B.V,4+k*5+1,none⟩=some (.int .i64 (T.bN k)):=HV5.out.conn hlt (j:=1) (by decide);have c2:aQ.cell? ⟨B.V,4+k*5+2,none⟩=some (.int .i64 (T.la k)):=HV5.out.conn hlt (j:=2) (by decide);have c3:aQ.cell? ⟨B.V,4+k*5+3,none⟩=some (.string (T.bk k)):=HV5.out.conn hlt (j:=3) (by decide);have c4:aQ.cell? ⟨B.V,4+k*5+4,none⟩=some (.bool (T.aJ k)):=HV5.out.conn hlt (j:=4) (by decide);have fz:∀ j,aQ.frozen? ⟨B.V,j,none⟩=false:=fun j=>HV5.out.free j;obtain⟨hz1,hz2⟩:=HV5.out.zero hlt;have rZ:=hDq (ajt k hlt _ hz1);have HZ2:=hDq hz2;rw[ajo]at rZ;clear hz1 hz2
    go_wp2_with fail
    refine rZ.out.mono ?_;rintro e aj ⟨rfl,aju,h6,gp⟩;have r5:=hDq h6;have d_:=hDq ((ib.out.trans HZ2.out).trans gp);clear h6 gp rZ HZ2;simp only[];go_wp2;exact⟨⟨k+1,aju,hlt,by go_num,by rw[HN.out,HH.out];exact r5.out,d_.out⟩,by simp[intOf];omega⟩
  ·have aK:¬ (k:Int)<6:=by omega
   obtain rfl:k=6:=by omega
   go_wp2;go_end0;exact⟨rfl,X',cu.out,HS.out⟩
end
theorem tK (L:Nat->List Ask) (t:Nat):∀ k,(aD.kJ L t k).length<=2*k
 | 0=>by simp[aD.kJ]
 | k+1=>by
  have:=tK L t k
  rw[aD.kJ,lAq,lKq];omega
theorem akK (bt:Nat) (ds:List Nat) (l:List Ask) (hb:bt<=1000000) (hd:∀ d∈ds,d<6) (hl:ds.length<=6) (ha:l.length<=12):(af.eQ bt ds l).size<=10000:=by
 unfold af.eQ af.HZ;rw[strOfNums_size];have h1:=H_ (bt:Int) (by omega) (by omega);have h2:=Ia ds hd ds.length;have h3:=Ib l l.length;simp only[List.length_append,List.length_singleton];omega
theorem uE (S:af.St):∀ n,(af.hangs S n).now=S.now∧(af.hangs S n).bt=S.bt∧(af.hangs S n).down=S.down∧(af.hangs S n).L=S.L∧(af.hangs S n).pf=S.pf∧(af.hangs S n).n=S.n∧(af.hangs S n).tp=S.tp∧(af.hangs S n).cut=S.cut∧(af.hangs S n).left=S.left
 | 0=>⟨rfl,rfl,rfl,rfl,rfl,rfl,rfl,rfl,rfl⟩
 | n+1=>by
  have h:=uE S n;unfold af.hangs af.hang;split
  ·exact h
  ·exact h
section
variable {w W W' W1:World} {ad:Nat->Addr} {B:cz} {X X':cm} {wd h seed:Int} {S:af.St}
theorem akL (s:ByteArray) (W:World) (H:aG w W B X wd h seed S) (hs:cP w ad) (hsz:s.size<=10000) (qx:S.tp.length<=1048576) (C6:S.left<=9223372036854775807) :
  Calls Tryz.prog 78 #[.pointer (some ⟨B.d,0,none⟩),.string s] W fun e w'=>∃ u r7,e=.returned u∧(af.ku S s=true->u=.nilIface)∧(af.ku S s=false->∃ x,u=.iface 412 x)∧aG w w' B { X with bH:=r7 } wd h seed (af.bG S s)∧bV W w' B X { X with bH:=r7 }∧aF W w' (fun k=>k=B.d∨X.bH.ownBlock=some k):=by
 have Yw:=H.sent hs;have h12:12<w.heap.size:=bCq _ _ hs.et;by_cases hf:1048576<S.tp.length+(12+s.size)
 ·have hfull:af.full S s=true:=by unfold af.full;simpa using hf
  refine(akH w.heap.size B.d X.bH S.tp s S.cut S.left W _ H.dk hsz qx hf (Yw.cell 7 (by decide))).mono ?_;rintro e w' ⟨rfl,hb⟩;have e2:af.bG S s=S:=by unfold af.bG;rw[if_pos hfull]
  have e3:af.ku S s=false:=by unfold af.ku;rw[hfull];rfl
  rw[e2,e3];exact⟨_,X.bH,rfl,(fun e=>by cases e),fun _=>⟨_,rfl⟩,H.later hb,bV.of_below hb B X,aF.of_below hb _⟩
 ·have hfull:af.full S s=false:=by unfold af.full;simpa using hf
  refine(akI w.heap.size B.d X.bH S.tp s S.cut S.left W _ _ H.dk hsz (by omega) C6 (Yw.cell 8 (by decide)) (by omega) H.dv.size).mono ?_;rintro e w' ⟨rfl,r7,hd,hfr⟩;obtain⟨k1,k2⟩:=H.tape hd hfr.turned hfr.new;have e2:af.bG S s = { S with tp:=OP S.tp S.cut S.left s,left:=OQ S.cut S.left s }:=by unfold af.bG;rw[hfull,if_neg (by decide)];rfl
  have e3:af.ku S s=Ij S.cut S.left s:=by unfold af.ku Ij;rw[hfull];rfl
  rw[e2,e3];refine⟨_,r7,rfl,fun e=>by rw[if_pos e],fun e=>by rw[e,if_neg (by decide)];exact⟨_,rfl⟩,k1,k2,hfr.turned⟩
theorem aG.Yx {base:Nat} {e:TypeId} {sz n:Nat} {v:Value} {xs:List Value} (H:aG w W B X wd h seed S) (ht:aF W W' (fun k=>k=B.d∨X.bH.ownBlock=some k)) (hr:W.ownsRow base e sz v n xs) (he:e≠117∧e≠5):W'.ownsRow base e sz v n xs :=
 fJ hr ht (fun k hk e1=>by
  obtain⟨_,cur,h2⟩:=ep hr hk;rcases e1 with e1 | e1
  ·exact aA h2 H.dk.cell he.1 e1
  ·exact H.dk.row.uw h2 he.2 e1)
theorem aG.akM {zk:Nat->Value} {base:Nat} {e:TypeId} {sz n:Nat} {v:Value} {xs:List Value} (H:aG w W B X wd h seed S) (hs:j_ W W' B.q X.qv zk) (hr:W.ownsRow base e sz v n xs) (he:e≠232∧e≠95):W'.ownsRow base e sz v n xs :=
 fJ hr hs.turned (fun k hk e1=>by
  obtain⟨_,cur,h2⟩:=ep hr hk;rcases e1 with rfl | ⟨c,hc,h1⟩
  ·exact aA h2 H.it.cell he.1 rfl
  ·obtain⟨_,kL,h3⟩:=ep (H.it.row c hc) h1
   exact aA h2 h3 he.2 rfl)
theorem Yn (W:World) (H:Hid (aG w W B X wd h seed S)) (hd:S.down=true) :
  Calls Tryz.prog 41 #[.pointer (some ⟨B.V,0,none⟩)] W fun e w'=>e=.returned (.slice none 0 0)∧w'=W:=by
 have OX:W.cell? ⟨B.V,36,none⟩=some (.bool true):=by rw[<- hd];exact H.out.at 36
 clear hd;go_enter Tryz.func41,Tryz.ntmps41;go_wp2;go_ret;exact⟨rfl,rfl⟩
theorem akN (W:World) (H:Hid (aG w W B X wd h seed S)) (hs:Hid (cP w ad)) (ht:Hid (Lib.TabBelow Tryz.prog w.heap.size w "internal/strconv.uint64pow10" .u64 Lib.pow10Tab)) (hd:S.down=false)
  (hall:Hid (d6 S.L S.pf S.n wd h)) (hla:Hid (∀ c,c<6->0<=S.la c∧S.la c<=1000000)) (OY:S.now<=1000000) (hbt:S.bt<=1000000) (qx:S.tp.length<=1048576) (C6:S.left<=9223372036854775807) :
  Calls Tryz.prog 41 #[.pointer (some ⟨B.V,0,none⟩)] W fun e w'=>∃ v X',e=.returned v∧aG w w' B X' wd h seed (af.dh wd h seed S)∧bV W w' B X X'∧uv w' W.heap.size v (af.rX wd h seed S)∧d6 (af.dh wd h seed S).L (af.dh wd h seed S).pf (af.dh wd h seed S).n wd h∧(af.rX wd h seed S).length<=2900∧af.Same S.pf (af.dh wd h seed S).pf:=by
 have gZ:Hid (af.dh wd h seed S=if (S.now+1)%3=0 then af.rW wd h seed (af.bl S) else af.bl S):=by show _=_;unfold af.dh;rw[hd,if_neg (by decide)]
 have iD:Hid (af.rX wd h seed S=if (S.now+1)%3=0 then af.Oa wd h seed (af.bl S) else []):=by show _=_;unfold af.rX;rw[hd,if_neg (by decide)]
 have OX:W.cell? ⟨B.V,36,none⟩=some (.bool false):=by rw[<- hd];exact H.out.at 36
 have c34:W.cell? ⟨B.V,34,none⟩=some (.int .i64 S.now):=H.out.at 34;have fz:∀ j,W.frozen? ⟨B.V,j,none⟩=false:=fun j=>H.out.free j;obtain⟨h1,hs1⟩:=H.out.X6 (S.now+1);have OZ:=hDq (ajs _ h1 hla);have fg:=hDq hs1;clear h1 hs1;have HN:=hDq (uE { S with now:=S.now+1 } 6);have j7:Hid (af.hangs { S with now:=S.now+1 } 6=af.bl S):=rfl;rw[j7.out]at OZ HN;generalize af.bl S=T at *;generalize af.dh wd h seed S=JK at *;generalize af.rX wd h seed S=Me at *;go_enter Tryz.func41,Tryz.ntmps41
 go_wp2_with fail
 refine OZ.out.mono ?_;rintro e w2 ⟨rfl,X2,h2,hs2⟩;have H2:=hDq h2;have HS2:=hDq (fg.out.trans hs2);clear h2 hs2 fg OZ OX c34 fz j7;have c34:w2.cell? ⟨B.V,34,none⟩=some (.int .i64 ((S.now:Int)+1)):=by
  have:=H2.out.at 34
  rw[this];show some (Value.int .i64 (T.now:Int))=_;rw[HN.out.1];rfl
 simp only[];by_cases qy:(S.now+1)%3=0
 ·have akO:(((S.now:Int)+1)%3 != 0)=false:=by
   have:((S.now:Int)+1)%3=0:=by omega
   rw[this];rfl
  rw[if_pos qy]at gZ iD;have akP:T.bt=S.bt:=HN.out.2.1;have rZ:=hDq (fun W' (h':Below w2.heap.size w2 W')=>ajC W' (H2.out.later h'));have hout:(aD.out T.Q T.t).length<=12:=tK T.Q T.t 6;have hdl:=Od T.aJ 6;have HD6:=hDq (XH T.aJ 6);have Yy:Hid (af.rW wd h seed T=if af.ku (af.bL T) (af.eQ T.bt (af.dA T.aJ 6) (aD.out T.Q T.t))=true then af.l8 wd h seed (af.bG (af.bL T) (af.eQ T.bt (af.dA T.aJ 6) (aD.out T.Q T.t))) (af.dA T.aJ 6) (aD.out T.Q T.t) else { af.bG (af.bL T) (af.eQ T.bt (af.dA T.aJ 6) (aD.out T.Q T.t)) with down:=true }):=rfl;have r_:Hid (af.Oa wd h seed T=if af.ku (af.bL T) (af.eQ T.bt (af.dA T.aJ 6) (aD.out T.Q T.t))=true then (af.iH wd h seed (af.bG (af.bL T) (af.eQ T.bt (af.dA T.aJ 6) (aD.out T.Q T.t))) (af.dA T.aJ 6) (aD.out T.Q T.t)).rp else []):=rfl;have O0:=akK T.bt (af.dA T.aJ 6) (aD.out T.Q T.t) (by omega) HD6.out hdl hout;rw[Yy.out]at gZ;rw[r_.out]at iD;clear Yy r_;generalize af.dA T.aJ 6=ds at *;obtain⟨l,hl⟩:∃ l,aD.out T.Q T.t=l:=⟨_,rfl⟩;have HL:=hDq hl;rw[hl]at gZ iD hout O0;clear hl;obtain⟨bZ,val,hcl,aW⟩:=nY (fun W'=>W'.heap[B.V]?=some (.cells (jL B seed T) 114 (0,0)));obtain⟨x0,hx0⟩:=aW w2.drew H2.out.blk;have hnx:Nonempty bZ:=⟨x0⟩;have s0:∀ x,(val x).cell? ⟨B.V,2,none⟩=some (.pointer (some ⟨B.q,0,none⟩)):=fun x=>by rw[cR _ _ _ _ _ _ (hcl x)];rfl
  have aV:=hDq aW;clear aW hcl;go_wp2;refine yJ (val:=val) [1,6] [0,2,3,4,5,1,6,7,8] (by kernel_rfl) (by kernel_rfl) x0 hx0 ?_;rw[hx0];clear hx0
  iterate 5 (refine n_ rfl rfl (fun K hK=>?_);refine⟨by rfl,?_⟩;unfold aI;go_simp;refine hK _ ?_;clear hK K)
  refine qp rfl rfl (fun K hK=>?_);refine⟨by rfl,?_⟩;unfold aR;go_simp;refine(rZ.out _ iU).mono ?_;rintro e w3 ⟨bf,rfl,hrd,hb3⟩;have Ik:Below w2.heap.size w2 w3:=iU.trans hb3;have au:=hDq Ik;have HD3:=hDq hrd;have H3:=hDq (H2.out.later Ik);have dy:=hDq (HS2.out.below Ik);refine⟨_,rfl,aV.out _ H3.out.blk,hK _ _ ?_⟩;clear hK K hb3 Ik rZ hrd;refine qp rfl rfl (fun K hK=>?_);refine⟨by rfl,?_⟩;unfold aR;go_simp;refine(UT _ H3.out.it).mono ?_;rintro e w4 ⟨va,Yz,rfl,ee,hit,kN,_⟩;rw[HL.out]at ee;obtain⟨h4,fA⟩:=H3.out.take hit kN;have gT:Hid (aG w w4 B { X2 with qv:=Yz } wd h seed (af.bL T)):=h4;have cY:=hDq (dy.out.trans fA);have HD4:=hDq (H3.out.akM kN HD3.out (by decide));have gF:=hDq ee;refine⟨_,rfl,aV.out _ gT.out.blk,hK _ _ ?_⟩;clear hK K h4 fA ee hit kN s0 aV HD3
  iterate 2 (refine n_ rfl rfl (fun K hK=>?_);refine⟨by rfl,?_⟩;unfold aI;go_simp;refine hK _ ?_;clear hK K)
  refine wm ?_;clear x0 hnx;clear val;clear bZ;obtain⟨CU,Oo,gX⟩:=eo HD4.out;obtain⟨wS,CV,r8⟩:=eo gF.out;subst gX r8;generalize rG:af.bL T=fV at *;have hb4:fV.bt=T.bt:=by rw[<- rG];rfl
  have YA:fV.tp=T.tp:=by rw[<- rG];rfl
  have hl4:fV.left=T.left:=by rw[<- rG];rfl
  have YB:Hid (d6 fV.L fV.pf fV.n wd h):=by
   obtain⟨_,_,_,e1,e2,e3,_⟩:=HN.out;show d6 _ _ _ _ _;rw[<- rG];show d6 T.L T.pf T.n wd h;rw[e1,e2,e3];exact hall.out
  have akQ:fV.tp.length<=1048576:=by rw[YA,HN.out.2.2.2.2.2.2.1];exact qx
  have akR:fV.left<=9223372036854775807:=by rw[hl4,HN.out.2.2.2.2.2.2.2.2];exact C6
  rw[<- hb4]at gZ iD O0;have aoU:fV.bt<=1000000:=by omega
  clear HL hb4 akP YA hl4
  go_wp2_with fail
  generalize M_:({ X2 with qv:=Yz }:cm)=qz at *;generalize hrb:af.eQ fV.bt ds l=rb at *;have zo:=hDq (fun W' (h':Below w4.heap.size w4 W')=>ajW fV.bt ds l _ _ _ _ W' hs ht ((gT.out.later h').dv) (by omega) (bR HD4.out h') (bR gF.out h') HD6 hdl hout);rw[hrb]at zo;obtain⟨bZ,val,hcl,aW⟩:=nY (fun W'=>W'.heap[B.V]?=some (.cells (jL B seed fV) 114 (0,0)));obtain⟨x0,hx0⟩:=aW w4.drew gT.out.blk;have hnx:Nonempty bZ:=⟨x0⟩;have s0:∀ x,(val x).cell? ⟨B.V,3,none⟩=some (.pointer (some ⟨B.d,0,none⟩)):=fun x=>by rw[cR _ _ _ _ _ _ (hcl x)];rfl
  have s1:∀ x,(val x).cell? ⟨B.V,35,none⟩=some (.int .i64 fV.bt):=fun x=>by rw[cR _ _ _ _ _ _ (hcl x)];rfl
  have aV:=hDq aW;clear aW hcl;refine yJ (val:=val) [10,11] [0,1,2,3,4,5,6,7,8,9,10,11,12] (by kernel_rfl) (by kernel_rfl) x0 hx0 ?_;rw[hx0];clear hx0
  iterate 10 (refine n_ rfl rfl (fun K hK=>?_);refine⟨by rfl,?_⟩;unfold aI;go_simp;refine hK _ ?_;clear hK K)
  refine qp rfl rfl (fun K hK=>?_);refine⟨by rfl,?_⟩;unfold aR;go_simp;refine(zo.out _ iU).mono ?_;rintro e aQ ⟨rfl,cB⟩;have rY:Below w4.heap.size w4 aQ:=iU.trans cB;have H5:=hDq (gT.out.later rY);have ib:=hDq (cY.out.below rY);have HD5:=hDq (bR HD4.out rY);have YC:=hDq (bR gF.out rY);refine⟨_,rfl,aV.out _ H5.out.blk,hK _ _ ?_⟩;clear hK K cB rY zo;have cO:=hDq (akL rb aQ H5.out hs.out O0 akQ akR);have Il:Hid ((af.bG fV rb).bt=fV.bt∧(af.bG fV rb).L=fV.L∧(af.bG fV rb).pf=fV.pf∧(af.bG fV rb).n=fV.n):=by show _∧_;unfold af.bG;split <;> exact⟨rfl,rfl,rfl,rfl⟩
  have uF:Hid (jL B seed (af.bG fV rb)=jL B seed fV):=by show _=_;unfold af.bG;split <;> rfl
  generalize aoV:af.bG fV rb=S6 at *;refine qp rfl rfl (fun K hK=>?_);refine⟨by rfl,?_⟩;unfold aR;go_simp;refine cO.out.mono ?_;rintro e aj ⟨u,aoW,rfl,hu1,hu2,h6,gp,O1⟩;have r5:=hDq h6;have d_:=hDq (ib.out.trans gp);have akS:=hDq (H5.out.Yx O1 HD5.out (by decide));have hZ:=hDq (H5.out.Yx O1 YC.out (by decide));refine⟨_,rfl,aV.out _ (by rw[<- uF.out];exact r5.out.blk),hK _ _ ?_⟩;clear hK K h6 gp O1 cO s0 s1 aV HD5 YC HD4 gF uF;cases wX:af.ku fV rb with
  | true =>
   obtain rfl:=hu1 wX;rw[wX,if_pos rfl]at gZ iD;refine n_ rfl rfl (fun K hK=>?_);refine⟨by rfl,?_⟩;unfold aI;go_simp;refine hK _ ?_;clear hK K;refine wm ?_;clear x0 hnx;clear val;clear bZ;have akT:Hid (d6 S6.L S6.pf S6.n wd h):=by
    obtain⟨_,e1,e2,e3⟩:=Il.out;show d6 _ _ _ _ _;rw[e1,e2,e3];exact YB.out
   have uG:=hDq (X8 ds l _ _ _ _ aj r5 hs akT (by rw[Il.out.1];omega) akS hZ HD6 hdl hout)
   go_wp2_with fail
   refine uG.out.mono ?_;rintro e bh ⟨v7,OB,rfl,h7,oZ,Ay,YD,akU,Im⟩;have C8:=hDq h7;have lf:=hDq (d_.out.trans oZ);have fG:Hid (uv bh W.heap.size v7 (af.iH wd h seed S6 ds l).rp):=gw Ay d_.out.turned.size;have ug:=hDq YD;have akV:Hid (af.Same S.pf (af.l8 wd h seed S6 ds l).pf):=by
    have e2:=Il.out.2.2.1;rw[e2]at Im;have e4:fV.pf=S.pf:=by rw[<- rG];exact HN.out.2.2.2.2.1
    rw[e4]at Im;exact Im
   clear h7 oZ Ay YD Im uG;simp only[];go_wp2;go_ret;rw[gZ.out,iD.out];exact⟨_,OB,rfl,C8.out,lf.out,fG.out,ug.out,akU,akV.out⟩
  | false =>
   obtain⟨x,rfl⟩:=hu2 wX;rw[wX,if_neg (by decide)]at gZ iD;refine n_ rfl rfl (fun K hK=>?_);refine⟨by rfl,?_⟩;unfold aI;go_simp;refine hK _ ?_;clear hK K;refine wm ?_;clear x0 hnx;clear val;clear bZ;obtain⟨h7,oZ⟩:=r5.out.aj7 true;have C8:=hDq h7;have lf:=hDq (d_.out.trans oZ);clear h7 oZ;have OX:aj.cell? ⟨B.V,36,none⟩=some (.bool S6.down):=r5.out.at 36;have fz:∀ j,aj.frozen? ⟨B.V,j,none⟩=false:=fun j=>r5.out.free j;go_wp2;go_ret;rw[gZ.out,iD.out];obtain⟨_,e1,e2,e3⟩:=Il.out;refine⟨_,_,rfl,C8.out,lf.out,World.ownsRow_nil _ _ _ _,?_,by simp,?_⟩
   ·show d6 S6.L S6.pf S6.n wd h
    rw[e1,e2,e3];exact YB.out
   ·show af.Same S.pf S6.pf
    rw[e2,<- rG];show af.Same S.pf T.pf;rw[HN.out.2.2.2.2.1];exact af.Same.refl _
 ·have akO:(((S.now:Int)+1)%3 != 0)=true:=by
   have:((S.now:Int)+1)%3≠0:=by omega
   simpa using this
  rw[if_neg qy]at gZ iD;go_wp2;go_ret;rw[gZ.out,iD.out];obtain⟨_,_,_,e1,e2,e3,_⟩:=HN.out;refine⟨_,X2,rfl,H2.out,HS2.out,World.ownsRow_nil _ _ _ _,?_,by simp,?_⟩
  ·rw[e1,e2,e3];exact hall.out
  ·rw[e2];exact af.Same.refl _
structure af.Ok (N:Nat) (wd h:Int) (S:af.St):Prop where
 all:d6 S.L S.pf S.n wd h
 la:∀ c,c<6->0<=S.la c∧S.la c<=N
 now:S.now<=N
 bt:S.bt<=N
 tp:S.tp.length<=1048576
 left:S.left<=9223372036854775807
 bk:∀ c,c<6->(S.bk c).size<30
theorem akW (S:af.St) (s:ByteArray) (ht:S.tp.length<=1048576):(af.bG S s).tp.length<=1048576∧(af.bG S s).left<=S.left∧(af.bG S s).now=S.now∧(af.bG S s).bt=S.bt∧(af.bG S s).la=S.la∧(af.bG S s).bk=S.bk:=by
 unfold af.bG;by_cases hf:af.full S s=true
 ·rw[if_pos hf];exact⟨ht,lRq _,rfl,rfl,rfl,rfl⟩
 ·rw[if_neg hf]
  have h1:¬ 1048576<S.tp.length+(12+s.size):=by
   intro h;apply hf;unfold af.full;simpa using h
  have hlen:(bn.rec s.data.toList).length=12+s.size:=by rw[bn.t7,pK]
  refine⟨?_,?_,rfl,rfl,rfl,rfl⟩
  ·show (S.tp++_).length<=_
   rw[lAq];split
   ·rw[lKq];omega
   ·omega
  ·show (if S.cut=true then S.left-(12+s.size) else S.left)<=S.left
   split <;> omega
theorem O2 {S:af.St} (h:∀ c,c<6->(S.bk c).size<30):∀ n,∀ c,c<6->((af.hangs S n).bk c).size<30
 | 0=>h
 | n+1=>fun c hc=>by
  unfold af.hangs af.hang;split
  ·unfold af.gone upd
   simp only;split
   ·decide
   ·exact O2 h n c hc
  ·exact O2 h n c hc
theorem O3 {S:af.St} {N:Nat} (h:∀ c,c<6->0<=S.la c∧S.la c<=N):∀ n,∀ c,c<6->0<=(af.hangs S n).la c∧(af.hangs S n).la c<=N
 | 0=>h
 | n+1=>fun c hc=>by
  unfold af.hangs af.hang;split
  ·unfold af.gone upd
   simp only;split
   ·exact⟨by omega,by omega⟩
   ·exact O3 h n c hc
  ·exact O3 h n c hc
theorem YE {N:Nat} (hok:af.Ok N wd h S) (ha:d6 (af.dh wd h seed S).L (af.dh wd h seed S).pf (af.dh wd h seed S).n wd h):af.Ok (N+1) wd h (af.dh wd h seed S):=by
 have LQ:=hok.now;have hb1:=hok.bt;have hT:∀ c,c<6->0<=(af.bl S).la c∧(af.bl S).la c<=((N+1:Nat):Int):=O3 (S:={ S with now:=S.now+1 }) (fun c hc=>⟨(hok.la c hc).1,by have:=(hok.la c hc).2;show S.la c<=_;omega⟩) 6;have hL:∀ c,c<6->((af.bl S).bk c).size<30:=O2 (S:={ S with now:=S.now+1 }) hok.bk 6;obtain⟨e1,e2,e3,e4,e5,e6,e7,e8,e9⟩:=uE { S with now:=S.now+1 } 6;have f1:(af.bl S).now=S.now+1:=e1;have f2:(af.bl S).bt=S.bt:=e2;have f7:(af.bl S).tp=S.tp:=e7;have f9:(af.bl S).left=S.left:=e9;have qx:=hok.tp;have C6:=hok.left;obtain⟨g1,g2,g3,g4,g5,g6⟩:=akW (af.bL (af.bl S)) (af.cn (af.bl S)) (by show (af.bl S).tp.length<=_;rw[f7];exact qx);have akX:(af.bG (af.bL (af.bl S)) (af.cn (af.bl S))).now=(af.bl S).now:=g3;have ze:(af.bG (af.bL (af.bl S)) (af.cn (af.bl S))).bt=(af.bl S).bt:=g4;have g2':(af.bG (af.bL (af.bl S)) (af.cn (af.bl S))).left<=(af.bl S).left:=g2;have O4:(af.bG (af.bL (af.bl S)) (af.cn (af.bl S))).la=(af.bl S).la:=g5;have O5:(af.bG (af.bL (af.bl S)) (af.cn (af.bl S))).bk=(af.bl S).bk:=g6;clear e1 e2 e3 e4 e5 e6 e7 e8 e9 g2 g3 g4 g5 g6;obtain⟨A,hA⟩:∃ A,af.bG (af.bL (af.bl S)) (af.cn (af.bl S))=A:=⟨_,rfl⟩;rw[hA]at g1 g2' akX ze O4 O5;by_cases hd:S.down=true
 ·have e:af.dh wd h seed S=S:=by unfold af.dh;rw[if_pos hd]
  rw[e]at ha ⊢;exact⟨ha,fun c hc=>⟨(hok.la c hc).1,by have:=(hok.la c hc).2;omega⟩,by omega,by omega,qx,C6,hok.bk⟩
 ·by_cases hm:(S.now+1)%3=0
  ·by_cases wX:af.ku (af.bL (af.bl S)) (af.cn (af.bl S))=true
   ·have e:af.dh wd h seed S=af.l8 wd h seed A (af.dA (af.bl S).aJ 6) (aD.out (af.bl S).Q (af.bl S).t):=by
     unfold af.dh af.rW;rw[if_neg hd,if_pos hm,if_pos wX,hA]
    rw[e]at ha ⊢;refine⟨ha,?_,?_,?_,g1,?_,?_⟩
    ·show ∀ c,c<6->0<=A.la c∧A.la c<=((N+1:Nat):Int)
     rw[O4];exact hT
    ·show A.now<=_
     omega
    ·show A.bt+1<=_
     omega
    ·show A.left<=_
     omega
    ·show ∀ c,c<6->(A.bk c).size<30
     rw[O5];exact hL
   ·have e:af.dh wd h seed S = { A with down:=true }:=by
     unfold af.dh af.rW;rw[if_neg hd,if_pos hm,if_neg wX,hA]
    rw[e]at ha ⊢;refine⟨ha,?_,?_,?_,g1,?_,?_⟩
    ·show ∀ c,c<6->0<=A.la c∧A.la c<=((N+1:Nat):Int)
     rw[O4];exact hT
    ·show A.now<=_
     omega
    ·show A.bt<=_
     omega
    ·show A.left<=_
     omega
    ·show ∀ c,c<6->(A.bk c).size<30
     rw[O5];exact hL
  ·have e:af.dh wd h seed S=af.bl S:=by unfold af.dh;rw[if_neg hd,if_neg hm]
   rw[e]at ha ⊢;exact⟨ha,hT,by omega,by omega,by rw[f7];exact qx,by omega,hL⟩
theorem akY (W:World) (H:aG w W B X wd h seed S) (hs:cP w ad) (ht:Lib.TabBelow Tryz.prog w.heap.size w "internal/strconv.uint64pow10" .u64 Lib.pow10Tab) {N:Nat} (hok:af.Ok N wd h S) (hN:N<=1000000) :
  Calls Tryz.prog 41 #[.pointer (some ⟨B.V,0,none⟩)] W fun e w'=>∃ v X',e=.returned v∧aG w w' B X' wd h seed (af.dh wd h seed S)∧bV W w' B X X'∧uv w' W.heap.size v (af.rX wd h seed S)∧af.Ok (N+1) wd h (af.dh wd h seed S)∧(af.rX wd h seed S).length<=2900∧af.Same S.pf (af.dh wd h seed S).pf:=by
 cases hd:S.down with
 | true =>
  refine(Yn W H hd).mono ?_;rintro e w' ⟨rfl,rfl⟩;have e1:af.dh wd h seed S=S:=by unfold af.dh;rw[if_pos hd]
  have e2:af.rX wd h seed S=[]:=by unfold af.rX;rw[if_pos hd]
  have e3:=YE (seed:=seed) hok (by rw[e1];exact hok.all);rw[e2];rw[e1]at e3 ⊢;exact⟨_,X,rfl,H,bV.refl _ _ _,World.ownsRow_nil _ _ _ _,e3,by simp,af.Same.refl _⟩
 | false =>
  have hn:=hok.now;have hb:=hok.bt;refine(akN W H hs ht hd hok.all (fun c hc=>⟨(hok.la c hc).1,by have:=(hok.la c hc).2;omega⟩) (by omega) (by omega) hok.tp hok.left).mono ?_;rintro e w' ⟨v,X',rfl,h1,h2,h3,h4,h5,h6⟩;exact⟨v,X',rfl,h1,h2,h3,YE hok h4,h5,h6⟩
end
def af.init (ref cash stock:Int):af.St:=⟨fun _=>[],Fl.jY cash stock 6,Fl.sY ref,fun _=>[],0,fun _=>false,fun _=>0,fun _=>0,fun _=>⟨#[]⟩,fun _=>false,[],false,0,0,0,false⟩
section
variable {w w0 W:World} {ad:Nat->Addr} {B:cz} {X:cm} {wd h seed:Int} {S:af.St}
theorem aG.ajG (hb:Below w0.heap.size w0 w) (H:aG w W B X wd h seed S):aG w0 W B X wd h seed S:=by
 have hz:=hb.size;refine⟨H.blk,⟨H.fl.blk,H.fl.it,fun i hi=>⟨(H.fl.aB i hi).cell,lTq hz (H.fl.aB i hi).lo,gw (H.fl.aB i hi).row hz⟩,H.fl.o5,H.fl.ne,H.fl.ap,H.fl.cy,lTq hz H.fl.lo,lTq hz H.fl.mG,fun i hi=>lTq hz (H.fl.mH i hi),hb.trans (H.fl.dv.mono hz)⟩,⟨H.it.cell,lTq hz H.it.lo,H.it.turn,fun c hc=>gw (H.it.row c hc) hz,H.it.few,H.it.apart⟩,⟨H.dk.cell,?_,lTq hz H.dk.lo⟩,lTq hz H.lo⟩;obtain⟨g,cap,cur,fz,e1,e2,e3⟩:=H.dk.row;exact⟨g,cap,cur,fz,e1,lTq hz e2,e3⟩
def fq (seed wd h ref cash stock:Int):Array Value:=#[.int .u32 seed,.int .i64 wd,.int .i64 h,.int .i64 ref,.int .i64 cash,.int .i64 stock]
structure H7 (w W:World) (B:cz) (wd h seed ref cash stock:Int):Prop where
 blk:W.heap[B.V]?=some (.cells (jL B seed (af.init ref cash stock)) 114 (0,0))
 fl:aU w W B.F B.P B.I B.b (fun _=>.slice none 0 0) (fun _=>[]) (Fl.jY cash stock 6) (Fl.sY ref) wd h
 it:dw W w.heap.size B.q (fun _=>.slice none 0 0) 0 (fun _=>[])
 lo:w.heap.size<=B.V
theorem H7.bQ {ref cash stock:Int} {bH:Value} {tp:List UInt8} {cut:Bool} {left:Nat} (N:H7 w W B wd h seed ref cash stock) (hb:Below w0.heap.size w0 w) (hd:dG W w0.heap.size B.d bH tp cut left):aG w0 W B ⟨fun _=>.slice none 0 0,fun _=>.slice none 0 0,bH⟩ wd h seed { af.init ref cash stock with tp:=tp,cut:=cut,left:=left }:=by
 have hz:=hb.size;exact⟨N.blk,⟨N.fl.blk,N.fl.it,fun i hi=>⟨(N.fl.aB i hi).cell,lTq hz (N.fl.aB i hi).lo,gw (N.fl.aB i hi).row hz⟩,N.fl.o5,N.fl.ne,N.fl.ap,N.fl.cy,lTq hz N.fl.lo,lTq hz N.fl.mG,fun i hi=>lTq hz (N.fl.mH i hi),hb.trans (N.fl.dv.mono hz)⟩,⟨N.it.cell,lTq hz N.it.lo,N.it.turn,fun c hc=>gw (N.it.row c hc) hz,N.it.few,N.it.apart⟩,hd,lTq hz N.lo⟩
theorem XM (seed wd h ref cash stock:Int) (d:Nat) (W:World) (hs:Hid (cP W ad)) (hr:Hid (aO.iz wd h=true)) (hf:Hid (ah.aC ref 1 1000=true)) (HF:Hid (Fl.Fits cash stock)) :
  Calls Tryz.prog 53 #[.agg (fq seed wd h ref cash stock),.pointer (some ⟨d,0,none⟩)] W fun e w'=>∃ B:cz,e=.returned (.tuple #[.pointer (some ⟨B.V,0,none⟩),.nilIface])∧B.d=d∧H7 W w' B wd h seed ref cash stock:=by
 have HB1:Hid (Below W.heap.size W (W.alloc (.cells (fq seed wd h ref cash stock) 45))):=(bRq _ _).alloc (lRq _) _;have CK:(W.alloc (.cells (fq seed wd h ref cash stock) 45)).heap[W.heap.size]?=some (.cells (fq seed wd h ref cash stock) 45 (0,0)):=hNq _ _;have wR:(W.alloc (.cells (fq seed wd h ref cash stock) 45)).heap.size=W.heap.size+1:=Array.size_push ..;have CL:=hDq CK;have Oe:=hDq wR;have Og:=hDq (ad7 wd h ref cash stock _ (hs.out.later HB1.out).Cu hr hf HF);clear CK wR;unfold dx at Og;unfold fq at *;go_enter Tryz.func53,Tryz.ntmps53
 go_wp2_with fail
 refine Og.out.mono ?_;rintro e w3 ⟨F,P,I,b,rfl,hfl⟩;have iO:=hDq hfl;have au:=hDq hfl.dv;clear hfl Og;have hc:w3.heap[W.heap.size]?=some (.cells #[.int .u32 seed,.int .i64 wd,.int .i64 h,.int .i64 ref,.int .i64 cash,.int .i64 stock] 45 (0,0)):=by
  rw[au.out.block _ (by rw[Oe.out];omega)];exact CL.out
 obtain⟨bZ,val,hcl,aW⟩:=nY (fun W'=>W'.heap[W.heap.size]?=some (.cells #[.int .u32 seed,.int .i64 wd,.int .i64 h,.int .i64 ref,.int .i64 cash,.int .i64 stock] 45 (0,0)));obtain⟨x0,hx0⟩:=aW w3.drew hc;have hnx:Nonempty bZ:=⟨x0⟩;have s0:∀ x,(val x).cell? ⟨W.heap.size,0,none⟩=some (.int .u32 seed):=fun x=>by rw[cR _ _ _ _ _ _ (hcl x)];rfl
 have aV:=hDq aW;have HC:=hDq hc;clear aW hcl hc;simp only[];go_wp2;refine yJ (val:=val) [3,6] [0,1,2,4,3,5,6,7,8] (by kernel_rfl) (by kernel_rfl) x0 hx0 ?_;rw[hx0];clear hx0
 iterate 4 (refine n_ rfl rfl (fun K hK=>?_);refine⟨by rfl,?_⟩;unfold aI;go_simp;refine hK _ ?_;clear hK K)
 refine qp rfl rfl (fun K hK=>?_);refine⟨by rfl,?_⟩;unfold aR;go_simp;refine(af5 _).mono ?_;rintro e w4 ⟨rfl,hit,hb4⟩;have Oh:Below w3.heap.size w3 w4:=iU.trans hb4;have yq:=hDq hit;have bg:=hDq Oh;have Bl:Hid (w4.heap[W.heap.size]?=some (.cells #[.int .u32 seed,.int .i64 wd,.int .i64 h,.int .i64 ref,.int .i64 cash,.int .i64 stock] 45 (0,0))):=iT Oh HC.out;refine⟨_,rfl,aV.out _ Bl.out,hK _ _ ?_⟩;clear hK K hb4 Oh hit;refine n_ rfl rfl (fun K hK=>?_);refine⟨by rfl,?_⟩;unfold aI;go_simp;refine hK _ ?_;clear hK K;refine qp rfl rfl (fun K hK=>?_);refine⟨by rfl,?_⟩;unfold aR;go_simp;refine⟨aV.out _ ?_,hK _ _ ?_⟩
 ·exact iT ((bRq _ _).alloc (lRq _) _) Bl.out
 clear hK K aV s0
 iterate 2 (refine n_ rfl rfl (fun K hK=>?_);refine⟨by rfl,?_⟩;unfold aI;go_simp;refine hK _ ?_;clear hK K)
 refine wm ?_;clear x0 hnx;clear val;clear bZ;have cB:Below w4.heap.size w4 (w4.alloc (.cells (jL ⟨w4.heap.size,F,P,w3.heap.size,d,I,b⟩ seed (af.init ref cash stock)) 114)):=(bRq _ _).alloc (lRq _) _;have Oi:=bg.out.size;have XN:=au.out.size;have H8:W.heap.size<=w3.heap.size:=lTq HB1.out.size XN;have XO:=bg.out.trans (cB.mono Oi);have cu:Hid (H7 W (w4.alloc (.cells (jL ⟨w4.heap.size,F,P,w3.heap.size,d,I,b⟩ seed (af.init ref cash stock)) 114)) ⟨w4.heap.size,F,P,w3.heap.size,d,I,b⟩ wd h seed ref cash stock):=by
  have k:=yq.out.later cB;have f:=iO.out.later XO;have hz:=HB1.out.size;refine⟨hNq _ _,⟨f.blk,f.it,fun i hi=>⟨(f.aB i hi).cell,lTq hz (f.aB i hi).lo,gw (f.aB i hi).row hz⟩,f.o5,f.ne,f.ap,f.cy,lTq hz f.lo,lTq hz f.mG,fun i hi=>lTq hz (f.mH i hi),HB1.out.trans (f.dv.mono hz)⟩,⟨k.cell,H8,k.turn,fun c hc=>gw (k.row c hc) H8,k.few,k.apart⟩,lTq H8 Oi⟩
 clear cB Oi XN XO H8;go_wp2;go_ret2;exact⟨⟨w4.heap.size,F,P,w3.heap.size,d,I,b⟩,rfl,rfl,cu.out⟩
theorem ajH (seed wd h ref cash stock:Int) (W:World) (hs:Hid (cP W ad)) (hr:Hid (aO.iz wd h=true)) (hf:Hid (ah.aC ref 1 1000=true)) (HF:Hid (Fl.Fits cash stock)) :
  Calls Tryz.prog 16 #[.agg (fq seed wd h ref cash stock)] W fun e w'=>∃ B X,e=.returned (.tuple #[.pointer (some ⟨B.V,0,none⟩),.nilIface])∧aG W w' B X wd h seed (af.init ref cash stock):=by
 have HB1:Hid (Below W.heap.size W (W.alloc (.cells (fq seed wd h ref cash stock) 45))):=(bRq _ _).alloc (lRq _) _;have CK:(W.alloc (.cells (fq seed wd h ref cash stock) 45)).heap[W.heap.size]?=some (.cells (fq seed wd h ref cash stock) 45 (0,0)):=hNq _ _;have wR:(W.alloc (.cells (fq seed wd h ref cash stock) 45)).heap.size=W.heap.size+1:=Array.size_push ..;have CL:=hDq CK;have Oe:=hDq wR;have fU:=hDq (aiN ⟨#[]⟩ (W.alloc (.cells (fq seed wd h ref cash stock) 45)) (by decide));have Ei:=hDq (fun d W' hb=>XM seed wd h ref cash stock d W' (hs.out.later hb) hr hf HF);clear CK wR;unfold fq at *;go_enter Tryz.func16,Tryz.ntmps16
 go_wp2_with fail
 refine fU.out.mono ?_;rintro e w3 ⟨d,rfl,CM,hb3⟩;have HDK:=hDq CM;have au:=hDq hb3;clear CM hb3 fU;have hc:w3.heap[W.heap.size]?=some (.cells #[.int .u32 seed,.int .i64 wd,.int .i64 h,.int .i64 ref,.int .i64 cash,.int .i64 stock] 45 (0,0)):=by
  rw[au.out.block _ (by rw[Oe.out];omega)];exact CL.out
 have c0:w3.cell? ⟨W.heap.size,0,none⟩=some (.int .u32 seed):=by rw[cR _ _ 0 _ _ _ hc];rfl
 have c1:w3.cell? ⟨W.heap.size,1,none⟩=some (.int .i64 wd):=by rw[cR _ _ 1 _ _ _ hc];rfl
 have c2:w3.cell? ⟨W.heap.size,2,none⟩=some (.int .i64 h):=by rw[cR _ _ 2 _ _ _ hc];rfl
 have c3:w3.cell? ⟨W.heap.size,3,none⟩=some (.int .i64 ref):=by rw[cR _ _ 3 _ _ _ hc];rfl
 have c4:w3.cell? ⟨W.heap.size,4,none⟩=some (.int .i64 cash):=by rw[cR _ _ 4 _ _ _ hc];rfl
 have c5:w3.cell? ⟨W.heap.size,5,none⟩=some (.int .i64 stock):=by rw[cR _ _ 5 _ _ _ hc];rfl
 have XP:=hDq (HB1.out.trans (au.out.mono HB1.out.size));clear hc;simp only[]
 go_wp2_with fail
 refine(Ei.out _ _ XP.out).mono ?_;rintro e w4 ⟨B,rfl,Oj,hno⟩;obtain⟨tN,bH,om,qU⟩:=HDK.out;have cu:Hid (aG W w4 B ⟨fun _=>.slice none 0 0,fun _=>.slice none 0 0,bH⟩ wd h seed (af.init ref cash stock)):=by
  have k:dG w3 W.heap.size d bH [] false 0:=by
   obtain⟨g,cap,cur,fz,e1,e2,e3⟩:=qU;exact⟨om,⟨g,cap,cur,fz,e1,lTq HB1.out.size e2,e3⟩,lTq HB1.out.size tN⟩
  have k2:=k.later hno.fl.dv;rw[<- Oj]at k2;exact hno.bQ XP.out k2
 clear tN om qU hno c0 c1 c2 c3 c4 c5;simp only[];go_wp2;go_ret2;exact⟨B,rfl,⟨fun _=>.slice none 0 0,fun _=>.slice none 0 0,bH⟩,cu.out⟩
theorem ajI (ref cash stock:Int) (hr:aO.iz wd h=true) (hf:ah.aC ref 1 1000=true) (HF:Fl.Fits cash stock):af.Ok 0 wd h (af.init ref cash stock) :=
 ⟨Fl.Sc hr hf HF,fun _ _=>⟨show (0:Int)<=0 by decide,show (0:Int)<=((0:Nat):Int) by decide⟩,lRq 0,lRq 0,show 0<=1048576 by decide,show 0<=9223372036854775807 by decide,fun _ _=>show (⟨#[]⟩:ByteArray).size<30 by decide⟩
theorem ajJ (W:World):Calls Tryz.prog 54 #[.int .i64 5] W fun e w'=>e=.returned (.agg (fq 5 10 2 100 20000 100))∧Below W.heap.size W w':=by
 have HB1:Hid (Below W.heap.size W (W.alloc (.cells (fq 5 10 2 100 20000 100) 48))):=(bRq _ _).alloc (lRq _) _;unfold fq at *;go_enter Tryz.func54,Tryz.ntmps54;go_wp2;refine bodyPost_ret (v:=.agg #[.int .u32 5,.int .i64 10,.int .i64 2,.int .i64 100,.int .i64 20000,.int .i64 100]) (by simp[results,Tryz.results54,go_sem]) rfl ?_;exact⟨rfl,HB1.out⟩
theorem ajK (W:World):Calls Tryz.prog 18 #[] W fun e w'=>e=.returned (.agg (fq 5 10 2 100 20000 100))∧Below W.heap.size W w':=by
 have HB1:Hid (Below W.heap.size W (W.alloc (.cells #[.int .u32 0,.int .i64 0,.int .i64 0,.int .i64 0,.int .i64 0,.int .i64 0] 48))):=(bRq _ _).alloc (lRq _) _;have hblk:(W.alloc (.cells #[.int .u32 0,.int .i64 0,.int .i64 0,.int .i64 0,.int .i64 0,.int .i64 0] 48)).heap[W.heap.size]?=some (.cells #[.int .u32 0,.int .i64 0,.int .i64 0,.int .i64 0,.int .i64 0,.int .i64 0] 48 (0,0)):=hNq _ _;have CL:=hDq hblk;have HP:=hDq (ajJ (W.alloc (.cells #[.int .u32 0,.int .i64 0,.int .i64 0,.int .i64 0,.int .i64 0,.int .i64 0] 48)));clear hblk;unfold fq at *;go_enter Tryz.func18,Tryz.ntmps18
 go_wp2_with fail
 refine HP.out.mono ?_;rintro e w2 ⟨rfl,hb2⟩;have HB2:=hDq hb2;have aT:=hDq (iT hb2 CL.out);clear hb2 HP;have c0:w2.cell? ⟨W.heap.size,0,none⟩=some (.int .u32 0):=by rw[cR _ _ 0 _ _ _ aT.out];rfl
 have c1:w2.cell? ⟨W.heap.size,1,none⟩=some (.int .i64 0):=by rw[cR _ _ 1 _ _ _ aT.out];rfl
 have c2:w2.cell? ⟨W.heap.size,2,none⟩=some (.int .i64 0):=by rw[cR _ _ 2 _ _ _ aT.out];rfl
 have c3:w2.cell? ⟨W.heap.size,3,none⟩=some (.int .i64 0):=by rw[cR _ _ 3 _ _ _ aT.out];rfl
 have c4:w2.cell? ⟨W.heap.size,4,none⟩=some (.int .i64 0):=by rw[cR _ _ 4 _ _ _ aT.out];rfl
 have c5:w2.cell? ⟨W.heap.size,5,none⟩=some (.int .i64 0):=by rw[cR _ _ 5 _ _ _ aT.out];rfl
 have fz:∀ j,w2.frozen? ⟨W.heap.size,j,none⟩=false:=fun j=>by simp[World.frozen?,aT.out]
 have HX:=hDq (XQ aT.out (.int .u32 5) (.int .i64 10) (.int .i64 2) (.int .i64 100) (.int .i64 20000) (.int .i64 100));have aS:=hDq (XR (HB1.out.trans (HB2.out.mono HB1.out.size)) (lRq W.heap.size) (.int .u32 5) (.int .i64 10) (.int .i64 2) (.int .i64 100) (.int .i64 20000) (.int .i64 100));simp only[];go_wp2;generalize ((((((w2.setCell ⟨W.heap.size,0,none⟩ (.int .u32 5)).setCell ⟨W.heap.size,1,none⟩ (.int .i64 10)).setCell ⟨W.heap.size,2,none⟩ (.int .i64 2)).setCell ⟨W.heap.size,3,none⟩ (.int .i64 100)).setCell ⟨W.heap.size,4,none⟩ (.int .i64 20000)).setCell ⟨W.heap.size,5,none⟩ (.int .i64 100))=aj at *;have R:∀ j,aj.cell? ⟨W.heap.size,j,none⟩=_:=fun j=>cR aj _ j _ 48 _ HX.out;refine bodyPost_ret (v:=.agg #[.int .u32 5,.int .i64 10,.int .i64 2,.int .i64 100,.int .i64 20000,.int .i64 100]) (by simp[results,Tryz.results18,go_sem,R]) rfl ?_;exact⟨rfl,aS.out⟩
theorem ajL (s wd h r c t:Int) (W:World):Calls Tryz.prog 17 #[.agg (fq s wd h r c t)] W fun e w'=>e=.returned (.agg (fq s wd h r c t))∧Below W.heap.size W w':=by
 have HB1:Hid (Below W.heap.size W ((W.alloc (.cells (fq s wd h r c t) 48)).alloc (.cells (fq s wd h r c t) 45))):=((bRq _ _).alloc (lRq _) _).alloc (by simp) _;unfold fq at *;go_enter Tryz.func17,Tryz.ntmps17;go_wp2;refine bodyPost_ret (v:=.agg #[.int .u32 s,.int .i64 wd,.int .i64 h,.int .i64 r,.int .i64 c,.int .i64 t]) (by simp[results,Tryz.results17,go_sem]) rfl ?_;exact⟨rfl,HB1.out⟩
end
section
variable {w W:World} {ad:Nat->Addr} {B:cz} {X:cm} {wd h seed:Int} {S:af.St}
end
section
variable {wd h seed:Int} {S:af.St} {N:Nat}
noncomputable def af.kQ (wd h seed:Int) (S:af.St):Nat->af.St
 | 0=>S
 | k+1=>af.dh wd h seed (af.kQ wd h seed S k)
end
end Go.Proofs.YtjolccidheflpaaGreatDoor
namespace Go.Proofs.YtjolccidheflpaaGreatDoor
set_option maxHeartbeats 8000000
set_option maxRecDepth 100000
namespace af
open Cv
variable {D:Int} {P:List jo} {r:cJ} {wd h:Int}
end af
namespace af
end af
namespace af
theorem YL {a:Ask} (h:jm.ac a=0):bM (cQ a)=0∧bq (cQ a)=a∧(cQ a).size=30:=by
 obtain⟨k,c,sq,it,sd,pr,q,id⟩:=a;have hf:cQ ⟨k,c,sq,it,sd,pr,q,id⟩=strOfNums (ah.frame k c sq it sd pr q id):=by
  unfold cQ p9;exact if_pos h
 rw[hf];have h':ah.code k c sq it sd pr q id=0:=h;obtain⟨h1,_⟩:=WY h';obtain⟨e0,e1,e2,e3,e4,e5,e6,e7⟩:=WX h';refine⟨h1,?_,by rw[strOfNums_size,ah.Gi]⟩;unfold bq fj;rw[if_pos h1,if_pos h1,if_pos h1,if_pos h1,if_pos h1,if_pos h1,if_pos h1,if_pos h1,e0,e1,e2,e3,e4,e5,e6,e7]
end af
namespace af
def akr (L:Nat->List Cv.ag) (c:Nat):Prop:=∀ i,i<3->∀ x∈L i,x.ak≠(c:Int)
structure J (S:St):Prop where
 q:∀ c,c<6->∀ a∈S.Q c,a.c=(c:Int)
 off:∀ c,c<6->S.on c=false->S.Q c=[]∧(S.aJ c=true∨akr S.L c)
 tn:S.t<6
theorem aks (Q:Nat->List Ask) {n:Nat} (hn:n<6) (c:Nat):aD.pB Q n c=if c=n then [] else Q c:=by
 have h:aD.pC (n:Int)=true:=by unfold aD.pC;simp;omega
 have e:((n:Int)).toNat=n:=by omega
 unfold aD.pB;rw[if_pos h,e];rfl
theorem Yl {Q:Nat->List Ask} {t:Nat} (ht:t<6):∀ k,k<=6->∀ a∈aD.kJ Q t k,∃ c,c<6∧a∈Q c
 | 0,_,a,h=>by cases h
 | k+1,hk,a,h=>by
  rw[aD.af1 Q ht (by omega),List.mem_append]at h;rcases h with h | h
  ·exact Yl ht k (by omega) a h
  ·exact⟨aD.who t k,aD.wa t k,List.mem_of_mem_take h⟩
theorem Ym {Q:Nat->List Ask} {t:Nat} (ht:t<6) (c:Nat):(∀ a∈aD.BO Q t c,a∈Q c)∧(Q c=[]->aD.BO Q t c=[]):=by
 unfold aD.BO;rw[aD.MO Q ht 6 (lRq _) c];split
 ·exact⟨fun a h=>List.mem_of_mem_drop h,fun e=>by rw[e];rfl⟩
 ·exact⟨fun _ h=>h,fun e=>e⟩
end af
namespace af
theorem Yn (wd h seed:Int) (S:St) (hd:(dh wd h seed S).down=false):S.down=false:=by
 cases e:S.down with
 | false=>rfl
 | true=>unfold dh at hd;rw[if_pos e,e]at hd;exact hd
end af
namespace af
open Cv
variable {wd h seed:Int} {c:Nat} {D:Int} {l:List Ask} {S:St}
theorem II (bt:Nat) (ds:List Nat) (l:List Ask) (hb:bt<=1000000) (hd:∀ d∈ds,d<6) (hl:ds.length<=6) (ha:l.length<=12):(eQ bt ds l).size<=980:=by
 unfold eQ HZ;rw[strOfNums_size];have h1:=H_ (bt:Int) (by omega) (by omega);have h2:=Ia ds hd ds.length;have h3:=Ib l l.length;simp only[List.length_append,List.length_singleton];omega
theorem Dk (aJ:Nat->Bool):∀ k,(dA aJ k).length<=k∧∀ d∈dA aJ k,d<k
 | 0=>⟨lRq _,fun _ h=>by cases h⟩
 | k+1=>by
  obtain⟨h1,h2⟩:=Dk aJ k;refine⟨?_,fun d hd=>?_⟩
  ·rw[dA,lAq]
   split <;> simp <;> omega
  ·rw[dA,List.mem_append]at hd
   rcases hd with hd | hd
   ·exact Nat.lt_succ_of_lt (h2 d hd)
   ·split at hd
    ·rw[List.mem_singleton.1 hd];omega
    ·cases hd
theorem alV (S:St) (hb:S.bt<=1000):(cn S).size<=980:=by
 obtain⟨h1,h2⟩:=Dk S.aJ 6;exact II S.bt _ _ (by omega) h2 h1 (tK S.Q S.t 6)
end af
namespace af
structure eH where
 ds:List Nat
 l:List Ask
variable {wd h seed:Int} {S T:St}
noncomputable def ni (wd h seed:Int) (S:St) (b:eH):St:=l8 wd h seed (bL { S with now:=S.now+3 }) b.ds b.l
noncomputable def replay (wd h seed:Int) (S:St) (H:List eH):St:=H.foldl (ni wd h seed) S
theorem Zj (S:St) (H:List eH) (b:eH):replay wd h seed S (H++[b])=ni wd h seed (replay wd h seed S H) b:=by
 unfold replay;rw[List.foldl_append];rfl
structure uK (S T:St):Prop where
 L:S.L=T.L
 pf:S.pf=T.pf
 n:S.n=T.n
 bt:S.bt=T.bt
theorem uK.refl (S:St):uK S S:=⟨rfl,rfl,rfl,rfl⟩
theorem uK.ran (e:uK S T) (ds:List Nat) (l:List Ask):uK (l8 wd h seed S ds l) (l8 wd h seed T ds l)∧(iH wd h seed S ds l)=(iH wd h seed T ds l):=by
 have hr:iH wd h seed S ds l=iH wd h seed T ds l:=by
  unfold iH start;rw[e.L,e.pf,e.n,e.bt]
 refine⟨⟨?_,?_,?_,?_⟩,hr⟩
 ·show (iH wd h seed S ds l).L=(iH wd h seed T ds l).L;rw[hr]
 ·show (iH wd h seed S ds l).pf=(iH wd h seed T ds l).pf;rw[hr]
 ·show (iH wd h seed S ds l).n=(iH wd h seed T ds l).n;rw[hr]
 ·show S.bt+1=T.bt+1;rw[e.bt]
def qB:Nat->List eH->List (List UInt8)
 | _,[]=>[]
 | k,b::r=>(eQ k b.ds b.l).data.toList::qB (k+1) r
def texts (H:List eH):List (List UInt8):=qB 0 H
theorem Zk:∀ (k:Nat) (H:List eH) (b:eH),qB k (H++[b])=qB k H++[(eQ (k+H.length) b.ds b.l).data.toList]
 | k,[],b=>rfl
 | k,a::H,b=>by
  show _::qB (k+1) (H++[b])=(_::qB (k+1) H)++_;rw[Zk (k+1) H b,List.cons_append,lCq,show k+(H.length+1)=k+1+H.length by omega]
theorem al0 (H:List eH) (b:eH):texts (H++[b])=texts H++[(eQ H.length b.ds b.l).data.toList]:=by
 unfold texts;rw[Zk,Nat.zero_add]
structure qA (b:eH):Prop where
 Y3:b.ds.Pairwise (· < ·)
 few:∀ d∈b.ds,d<6
 asks:∀ a∈b.l,jm.ac a=0
 len:b.l.length<=12
theorem Zl (aJ:Nat->Bool):∀ k,(dA aJ k).Pairwise (· < ·)
 | 0=>List.Pairwise.nil
 | k+1=>by
  rw[dA,List.pairwise_append];refine⟨Zl aJ k,by split <;> simp,fun a ha b hb=>?_⟩;have h1:=(Dk aJ k).2 a ha;split at hb
  ·rw[List.mem_singleton.1 hb];exact h1
  ·cases hb
theorem Zm {n:Nat}:∀ (l:List Nat) (lo:Nat),l.Pairwise (· < ·)->(∀ d∈l,lo<=d∧d<n)->l.length<=n-lo
 | [],_,_,_=>Nat.zero_le _
 | a::l,lo,hp,hn=>by
  obtain⟨h1,h2⟩:=List.pairwise_cons.1 hp;have h3:=hn a mSq;have h4:=Zm l (a+1) h2 (fun d hd=>⟨h1 d hd,(hn d (mOq _ hd)).2⟩);rw[lCq];omega
theorem qA.PD {b:eH} (hb:qA b):b.ds.length<=6:=Zm b.ds 0 hb.Y3 (fun d hd=>⟨Nat.zero_le _,hb.few d hd⟩)
structure gA (wd h seed:Int) (S0:St) (H:List eH) (S:St):Prop where
 jq:uK S (replay wd h seed S0 H)
 len:S.bt=H.length
 ok:∀ b∈H,qA b
 tp:∃ tail,S.tp=bn.recs (texts H)++tail∧bn.first tail=none∧(S.down=false->tail=[])
 q:∀ c,c<6->∀ a∈S.Q c,jm.ac a=0
 tn:S.t<6
variable {S0:St} {H:List eH}
theorem gA.hang (I:gA wd h seed S0 H S) {n:Nat} (hn:n<6):gA wd h seed S0 H (hang S n):=by
 unfold af.hang;split
 ·refine⟨⟨I.jq.L,I.jq.pf,I.jq.n,I.jq.bt⟩,I.len,I.ok,I.tp,fun c hc x hx=>?_,I.tn⟩
  have hx':x∈aD.pB S.Q n c:=hx;rw[aks _ hn]at hx';split at hx'
  ·cases hx'
  ·exact I.q c hc x hx'
 ·exact I
theorem gA.hangs (I:gA wd h seed S0 H S):∀ k,k<=6->gA wd h seed S0 H (hangs S k)
 | 0,_=>I
 | k+1,hk=>(gA.hangs I k (by omega)).hang (by omega)
theorem gA.bl (I:gA wd h seed S0 H S):gA wd h seed S0 H (bl S) :=
 gA.hangs (S:={ S with now:=S.now+1 }) ⟨⟨I.jq.L,I.jq.pf,I.jq.n,I.jq.bt⟩,I.len,I.ok,I.tp,I.q,I.tn⟩ 6 (lRq _)
theorem Pz (s:ByteArray):(bn.rec s.data.toList).length=12+s.size:=by rw[bn.t7];rfl
theorem gA.al1 (I:gA wd h seed S0 H S) (hd:S.down=false) (hb:S.bt<=1000000):∃ H',gA wd h seed S0 H' (rW wd h seed S)∧(H'=H∨H'=H++[⟨dA S.aJ 6,aD.out S.Q S.t⟩]):=by
 have hsz:(cn S).size<=980:=by
  obtain⟨h1,h2⟩:=Dk S.aJ 6;exact II S.bt _ _ hb h2 h1 (tK S.Q S.t 6)
 obtain⟨tail,e1,e2,e3⟩:=I.tp;have e4:=e3 hd;subst e4;rw[aNq]at e1;unfold rW;split
 ·rename_i hap
  refine⟨H++[⟨dA S.aJ 6,aD.out S.Q S.t⟩],?_,.inr rfl⟩;have hbk:qA ⟨dA S.aJ 6,aD.out S.Q S.t⟩:=⟨Zl _ _,(Dk S.aJ 6).2,fun a ha=>by
   obtain⟨c,hc,ha⟩:=Yl I.tn 6 (lRq _) a ha;exact I.q c hc a ha,tK S.Q S.t 6⟩
  have hA:∀ s,(bG (af.bL S) s).L=S.L∧(bG (af.bL S) s).pf=S.pf∧(bG (af.bL S) s).n=S.n∧(bG (af.bL S) s).bt=S.bt∧(bG (af.bL S) s).Q=(af.bL S).Q∧(bG (af.bL S) s).t=(af.bL S).t∧(bG (af.bL S) s).down=S.down:=fun s=>by
   unfold bG;split <;> exact⟨rfl,rfl,rfl,rfl,rfl,rfl,rfl⟩
  obtain⟨a1,a2,a3,a4,a5,a6,a7⟩:=hA (cn S);have al2:uK (bG (af.bL S) (cn S)) (af.bL { replay wd h seed S0 H with now:=(replay wd h seed S0 H).now+3 }) :=
   ⟨a1.trans I.jq.L,a2.trans I.jq.pf,a3.trans I.jq.n,a4.trans I.jq.bt⟩
  refine⟨?_,?_,fun b hb'=>?_,⟨[],?_,rfl,fun _=>rfl⟩,?_,?_⟩
  ·rw[Zj];exact(al2.ran (dA S.aJ 6) (aD.out S.Q S.t)).1
  ·show (bG (af.bL S) (cn S)).bt+1=_
   rw[a4,I.len,lAq];rfl
  ·rcases List.mem_append.1 hb' with h1 | h1
   ·exact I.ok b h1
   ·rw[List.mem_singleton.1 h1];exact hbk
  ·show (bG (af.bL S) (cn S)).tp=_
   rw[aNq,al0,bn.N1,<- e1,<- I.len];unfold ku at hap;simp only[Bool.and_eq_true,Bool.or_eq_true,Bool.not_eq_true',decide_eq_true_eq]at hap;unfold bG;rw[if_neg (by rw[hap.1];decide)];show S.tp++(if S.cut=true then (bn.rec (cn S).data.toList).take S.left else bn.rec (cn S).data.toList)=S.tp++bn.rec (cn S).data.toList;split
   ·rename_i hcut
    have h1:12+(cn S).size<=S.left:=by
     rcases hap.2 with h2 | h2
     ·exact absurd hcut (by rw[show S.cut=false from h2];decide)
     ·exact h2
    rw[List.take_of_length_le (by rw[Pz];exact h1)]
   ·rfl
  ·intro c hc x hx
   have hx':x∈(bG (af.bL S) (cn S)).Q c:=hx;rw[a5]at hx';exact I.q c hc x ((Ym I.tn c).1 x hx')
  ·show (bG (af.bL S) (cn S)).t<6
   rw[a6];exact aD.wa _ _
 ·rename_i hap
  refine⟨H,?_,.inl rfl⟩;have hA:∀ s,(bG (af.bL S) s).L=S.L∧(bG (af.bL S) s).pf=S.pf∧(bG (af.bL S) s).n=S.n∧(bG (af.bL S) s).bt=S.bt∧(bG (af.bL S) s).Q=(af.bL S).Q∧(bG (af.bL S) s).t=(af.bL S).t:=fun s=>by
   unfold bG;split <;> exact⟨rfl,rfl,rfl,rfl,rfl,rfl⟩
  obtain⟨a1,a2,a3,a4,a5,a6⟩:=hA (cn S);refine⟨⟨a1.trans I.jq.L,a2.trans I.jq.pf,a3.trans I.jq.n,a4.trans I.jq.bt⟩,a4.trans I.len,I.ok,?_,?_,?_⟩
  ·show ∃ tail,(bG (af.bL S) (cn S)).tp=bn.recs (texts H)++tail∧bn.first tail=none∧(true=false->tail=[])
   unfold bG;split
   ·exact⟨[],by rw[aNq];exact e1,rfl,fun hf=>by cases hf⟩
   ·rename_i hfl
    have al3:full (af.bL S) (cn S)=false:=by simpa using hfl
    have hcl:S.cut=true∧S.left<12+(cn S).size:=by
     have:ku (af.bL S) (cn S)=false:=by simpa using hap
     unfold ku at this;rw[al3]at this;have h2:(!S.cut || decide (12+(cn S).size<=S.left))=false:=by rw[Bool.not_false,Bool.true_and]at this;exact this
     simp only[Bool.or_eq_false_iff,Bool.not_eq_false',decide_eq_false_iff_not]at h2;exact⟨h2.1,by omega⟩
    refine⟨(bn.rec (cn S).data.toList).take S.left,?_,?_,fun hf=>by cases hf⟩
    ·show S.tp++(if S.cut=true then (bn.rec (cn S).data.toList).take S.left else bn.rec (cn S).data.toList)=_
     rw[if_pos hcl.1,e1]
    ·refine bn.aiL (cn S).data.toList _ (show (cn S).size<=10000 by omega) (List.take_prefix _ _) ?_
     rw[lKq,Pz];omega
  ·intro c hc x hx
   have hx':x∈(bG (af.bL S) (cn S)).Q c:=hx;rw[a5]at hx';exact I.q c hc x ((Ym I.tn c).1 x hx')
  ·show (bG (af.bL S) (cn S)).t<6
   rw[a6];exact aD.wa _ _
theorem gA.tick (I:gA wd h seed S0 H S) (hb:S.bt<=1000000):∃ H',gA wd h seed S0 H' (dh wd h seed S)∧H <+: H':=by
 unfold dh;split
 ·exact⟨H,I,List.prefix_rfl⟩
 ·rename_i hd
  split
  ·have Zn:(af.bl S).down=false:=by rw[show (af.bl S).down=S.down from(uE _ 6).2.2.1];simpa using hd
   obtain⟨H',h1,h2⟩:=I.bl.al1 Zn (by rw[show (af.bl S).bt=S.bt from(uE _ 6).2.1];exact hb);refine⟨H',h1,?_⟩;rcases h2 with h2 | h2
   ·rw[h2];exact List.prefix_rfl
   ·rw[h2];exact List.prefix_append _ _
  ·exact⟨H,I.bl,List.prefix_rfl⟩
end af
end Go.Proofs.YtjolccidheflpaaGreatDoor
namespace Go.Proofs.YtjolccidheflpaaGreatDoor
set_option maxHeartbeats 8000000
open Go.RowKit
set_option maxRecDepth 100000
section
variable {w W:World} {ad:Nat->Addr} {B:cz} {X:cm} {wd h seed:Int} {S:af.St}
theorem al8 (ds:List Nat) (l:List Ask) (bf va:Value) (based qw:Nat) (W:World) (H:Hid (aG w W B X wd h seed S)) (hs:Hid (cP w ad)) (hall:Hid (d6 S.L S.pf S.n wd h)) (hbt:S.bt<=1000000) (OY:S.now<=10000000)
  (hrd:Hid (W.ownsRow based 3 1 bf ds.length (eF ds))) (ee:Hid (W.ownsRow qw 95 8 va l.length (aL l))) (hna:Hid (∀ k,va.ownBlock=some k->¬ iG B X k)) (zm:Hid (∀ d∈ds,d<6)) (hdl:ds.length<=6) (hal:l.length<=12) :
  Calls Tryz.prog 104 #[.pointer (some ⟨B.V,0,none⟩),bf,va] W fun e w'=>e=.returned (.tuple #[])∧∃ X',aG w w' B X' wd h seed (af.ni wd h seed S ⟨ds,l⟩)∧bV W w' B X X'∧d6 (af.ni wd h seed S ⟨ds,l⟩).L (af.ni wd h seed S ⟨ds,l⟩).pf (af.ni wd h seed S ⟨ds,l⟩).n wd h:=by
 obtain⟨h2,hs2⟩:=H.out.X6 (S.now+3);rw[show ((S.now+3:Nat):Int)=(S.now:Int)+3 by push_cast;rfl]at h2 hs2;have aah:=H.out.CX (j:=34) (u:=.int .i64 ((S.now:Int)+3)) hrd.out (by decide);have aai:=H.out.CX (j:=34) (u:=.int .i64 ((S.now:Int)+3)) ee.out (by decide);have H2:=hDq h2;have HS2:=hDq hs2;have HD2:=hDq aah;have bX:=hDq aai;clear h2 hs2 aah aai;have c34:W.cell? ⟨B.V,34,none⟩=some (.int .i64 S.now):=H.out.at 34;have fz:∀ j,W.frozen? ⟨B.V,j,none⟩=false:=fun j=>H.out.free j;have Yk:B.V<W.heap.size:=H.out.lt;have c2:W.cell? ⟨B.V,2,none⟩=some (.pointer (some ⟨B.q,0,none⟩)):=H.out.at 2;go_enter Tryz.func104,Tryz.ntmps104
 go_wp2_with fail
 generalize W.setCell ⟨B.V,34,none⟩ (.int .i64 ((S.now:Int)+3))=w2 at *;refine(UT _ H2.out.it).mono ?_;rintro e w3 ⟨d3,amN,rfl,_,bO,aaj,_⟩;obtain⟨h3,hs3⟩:=H2.out.take bO aaj;have H3:Hid (aG w w3 B { X with qv:=amN } wd h seed (af.bL { S with now:=S.now+3 })):=h3;have dy:=hDq (HS2.out.trans hs3);have HD3:=hDq (hs3.row H2.out HD2.out (by decide));have vB:Hid (w3.ownsRow qw 95 8 va l.length (aL l)):=fJ bX.out hs3.turned (fun k hk=>hna.out k hk);have uG:=hDq (X8 ds l bf va based qw w3 H3 hs hall hbt HD3 vB zm hdl hal);clear bO aaj h3 hs3 c34 fz c2 Yk;simp only[]
 go_wp2_with fail
 refine uG.out.mono ?_;rintro e w4 ⟨v4,qz,rfl,h4,fA,_,zz,_,_⟩;have gT:=hDq h4;have cY:=hDq (dy.out.trans fA);have gF:=hDq zz;clear h4 fA zz uG;simp only[];go_wp2;go_end0;exact⟨rfl,qz,gT.out,cY.out,gF.out⟩
end
end Go.Proofs.YtjolccidheflpaaGreatDoor
namespace Go.Proofs.YtjolccidheflpaaGreatDoor
set_option maxHeartbeats 8000000
set_option maxRecDepth 100000
namespace af
variable {wd h seed:Int}
def wc (S:St) (c:Bool) (x:Nat):St:={ S with cut:=c,left:=x }
theorem gA.ticks {S0 S:St} {H:List eH} (I:gA wd h seed S0 H S):∀ k,S.bt+k<=1000000->∃ H',gA wd h seed S0 H' (kQ wd h seed S k)∧H <+: H'∧(kQ wd h seed S k).bt<=S.bt+k
 | 0,_=>⟨H,I,List.prefix_rfl,lRq _⟩
 | k+1,hk=>by
  obtain⟨H1,h1,h2,h3⟩:=gA.ticks I k (by omega);obtain⟨H2,h4,h5⟩:=h1.tick (by omega);refine⟨H2,h4,h2.trans h5,?_⟩;have e1:=h4.len;show (dh wd h seed (kQ wd h seed S k)).bt<=_;have:(dh wd h seed (kQ wd h seed S k)).bt<=(kQ wd h seed S k).bt+1:=by
   generalize kQ wd h seed S k=T at *;have hb:∀ s,(bG (af.bL (af.bl T)) s).bt=T.bt:=fun s=>by
    have:(af.bl T).bt=T.bt:=(uE _ 6).2.1;unfold bG;split
    ·exact this
    ·exact this
   unfold dh;split
   ·omega
   ·split
    ·unfold rW
     split
     ·show (bG (af.bL (af.bl T)) (cn (af.bl T))).bt+1<=_
      rw[hb];omega
     ·show (bG (af.bL (af.bl T)) (cn (af.bl T))).bt<=_
      rw[hb];omega
    ·rw[show (af.bl T).bt=T.bt from(uE _ 6).2.1];omega
  omega
theorem anb (ref cash stock:Int):gA wd h seed (init ref cash stock) [] (init ref cash stock) :=
 ⟨uK.refl _,rfl,fun _ hb=>(by cases hb),⟨[],rfl,rfl,fun _=>rfl⟩,fun _ _ _ ha=>(by cases ha),(show 0<6 by decide)⟩
end af
end Go.Proofs.YtjolccidheflpaaGreatDoor
namespace Go.Proofs.YtjolccidheflpaaGreatDoor
set_option maxHeartbeats 8000000
open Go.RowKit
set_option maxRecDepth 100000
theorem Qe (c1 c2:Nat) (a1 a2:Option Addr) (w:World):Calls Tryz.prog 107 #[.slice a1 0 c1,.slice a2 0 c2] w fun e w'=>e=.returned (.bool true)∧Below w.heap.size w w':=by
 go_enter Tryz.func107,Tryz.ntmps107;go_wp2;refine wp_loop_rounds 1 ?_;rw[rounds_succ];go_wp2;go_ret;exact⟨rfl,bRq _ _⟩
theorem amR (b1 o1 b2 o2 c1 c2 n:Nat) (l:List Cv.ag) (w:World) (hn:n<=1000) (hl:Hid (l.length=n)) (h1:Hid (ew w b1 o1 l)) (h2:Hid (ew w b2 o2 l)) :
  Calls Tryz.prog 107 #[.slice (some ⟨b1,o1,none⟩) n c1,.slice (some ⟨b2,o2,none⟩) n c2] w fun e w'=>e=.returned (.bool true)∧Below w.heap.size w w':=by
 go_enter Tryz.func107,Tryz.ntmps107;go_wp2
 go_loopw [13] (fun i wr=>∃ k:Nat,k<=n∧i=.int .i64 k∧Below w.heap.size w wr) (fun i _=>n-(intOf i).toNat)
 case atStart=>exact⟨0,by omega,rfl,bRq _ _⟩
 case round =>
  obtain⟨k,hk,rfl,hb⟩:=hrel;have HB:=hDq hb;clear hb;by_cases hlt:k<n
  ·obtain⟨c0,c1,c2,c3,c4⟩:=(h1.out.later HB.out) k (by rw[hl.out];exact hlt)
   obtain⟨d0,d1,d2,d3,d4⟩:=(h2.out.later HB.out) k (by rw[hl.out];exact hlt);have aK:(k:Int)<n:=by omega
   generalize Cv.nth l k=x at *;go_wp2
   go_quiet (fail)
   go_wp2;exact⟨⟨k+1,by omega,by go_num,HB.out.trans ((dn nq).mono HB.out.size)⟩,by simp[intOf];omega⟩
  ·go_wp2
   go_ret;exact⟨rfl,HB.out⟩
theorem amS {base base':Nat} (v1 v2:Value) (l:List Cv.ag) (w:World) (hn:l.length<=1000) (h1:w.ownsRow base 197 5 v1 l.length (flat l)) (h2:w.ownsRow base' 197 5 v2 l.length (flat l)) :
  Calls Tryz.prog 107 #[v1,v2] w fun e w'=>e=.returned (.bool true)∧Below w.heap.size w w':=by
 rcases MS h1 with ⟨rfl,e⟩ | ⟨g1,c1,rfl,a1⟩
 ·rcases MS h2 with ⟨rfl,_⟩ | ⟨g2,c2,rfl,a2⟩
  ·exact Qe _ _ _ _ w
  ·subst e;exact Qe _ _ _ _ w
 ·rcases MS h2 with ⟨rfl,e⟩ | ⟨g2,c2,rfl,a2⟩
  ·subst e;exact Qe _ _ _ _ w
  ·exact amR g1 0 g2 0 c1 c2 _ l w hn rfl a1 a2
section
variable {w W:World} {F P F' P':Nat} {I b I' b':Nat->Nat} {v v':Nat->Value} {L:Nat->List Cv.ag} {pf n:Nat->Int} {wd h:Int}
theorem amT (W:World) (ha:Hid (aU w W F P I b v L pf n wd h)) (hb:Hid (aU w W F' P' I' b' v' L pf n wd h)) (hall:Hid (d6 L pf n wd h)) :
  Calls Tryz.prog 62 #[.pointer (some ⟨F,0,none⟩),.pointer (some ⟨F',0,none⟩)] W fun e w'=>e=.returned (.bool true)∧Below W.heap.size W w':=by
 go_enter Tryz.func62,Tryz.ntmps62
 go_wp2_with fail
 go_loopw [16] (fun kv wr=>∃ i:Nat,i<=3∧kv=.int .i64 i∧Below W.heap.size W wr) (fun kv _=>3-(intOf kv).toNat)
 case atStart=>exact⟨0,by omega,rfl,bRq _ _⟩
 case round =>
  obtain⟨i,bO,rfl,hbr⟩:=hrel;have r_:=hDq hbr;clear hbr;by_cases hi:i<3
  ·have j3:(i:Int)<3:=by omega
   have hlen:=(hall.out.ok.aB i hi).len;have Qf:=hDq (fun W' (h':Below W.heap.size W W')=>Ua i hi (ha.out.later h'));have kX:=hDq (fun W' (h':Below W.heap.size W W')=>Ua i hi (hb.out.later h'));have aak:=hDq (fun W' (h':Below W.heap.size W W')=>Md i hi (ha.out.later h'));have aal:=hDq (fun W' (h':Below W.heap.size W W')=>Md i hi (hb.out.later h'));have gL:=hDq (fun W' (h':Below W.heap.size W W')=>xG (b i) w.heap.size (v i) (L i) W' ((ha.out.later h').aB i hi) hlen);have iN:=hDq (fun W' (h':Below W.heap.size W W')=>xG (b' i) w.heap.size (v' i) (L i) W' ((hb.out.later h').aB i hi) hlen);unfold dx at Qf kX
   go_wp2_with fail
   refine(Qf.out _ r_.out).mono ?_;rintro e cq ⟨rfl,hba⟩;have fZ:=hDq (r_.out.trans (hba.mono r_.out.size));clear hba Qf r_;simp only[]
   go_wp2_with fail
   refine(kX.out _ fZ.out).mono ?_;rintro e bK ⟨rfl,iE⟩;have xx:=hDq (fZ.out.trans (iE.mono fZ.out.size));clear iE kX fZ;simp only[]
   go_wp2_with fail
   refine(aak.out _ xx.out).mono ?_;rintro e wc ⟨rfl,hwc⟩;subst wc;simp only[]
   go_wp2_with fail
   refine(gL.out _ xx.out).mono ?_;rintro e wc ⟨x1,rfl,hr1,hbc⟩;have gb:=hDq (xx.out.trans (hbc.mono xx.out.size));clear hbc gL aak xx;simp only[]
   go_wp2_with fail
   refine(aal.out _ gb.out).mono ?_;rintro e we ⟨rfl,lh⟩;subst we;simp only[]
   go_wp2_with fail
   refine(iN.out _ gb.out).mono ?_;rintro e we ⟨x2,rfl,hr2,CR⟩;have jT:=hDq (amS x1 x2 (L i) we (by omega) (bR hr1 CR) hr2);have kV:=hDq (gb.out.trans (CR.mono gb.out.size));clear hr1 hr2 CR iN aal gb;simp only[]
   go_wp2_with fail
   refine jT.out.mono ?_;rintro e wf ⟨rfl,hbf⟩;have amU:=hDq (kV.out.trans (hbf.mono kV.out.size));clear hbf jT kV;simp only[];go_wp2;exact⟨⟨i+1,hi,by go_num,amU.out⟩,by simp[intOf];omega⟩
  ·have j3:¬ (i:Int)<3:=by omega
   go_wp2_with fail
   go_loopw [39] (fun kv wr=>∃ c:Nat,c<=6∧kv=.int .i64 c∧Below W.heap.size W wr) (fun kv _=>6-(intOf kv).toNat)
   case atStart=>exact⟨0,by omega,rfl,r_.out⟩
   case round =>
    obtain⟨c,kn,rfl,hbr⟩:=hrel;have zH:=hDq hbr;clear hbr r_;by_cases hc:c<6
    ·have hci:(c:Int)<6:=by omega
     have mO:=hDq (fun W' (h':Below W.heap.size W W')=>T_ (ha.out.later h'));have fT:=hDq (fun W' (h':Below W.heap.size W W')=>T_ (hb.out.later h'));have xw:=hDq (fun W' (h':Below W.heap.size W W')=>VA P (c:Int) pf W' (ha.out.later h').cy);have l4:=hDq (fun W' (h':Below W.heap.size W W')=>VA P' (c:Int) pf W' (hb.out.later h').cy);rw[Vz pf hc]at xw l4;unfold qq at xw l4;have hne:=agD (pf (c*8)) (pf (c*8+1)) (pf (c*8+2)) (pf (c*8+3)) (pf (c*8+4)) (pf (c*8+5)) (pf (c*8+6)) (pf (c*8+7)) (pf (c*8)) (pf (c*8+1)) (pf (c*8+2)) (pf (c*8+3)) (pf (c*8+4)) (pf (c*8+5)) (pf (c*8+6)) (pf (c*8+7));simp only[agE,Bool.not_true]at hne
     go_wp2_with fail
     refine(mO.out _ zH.out).mono ?_;rintro e cq ⟨rfl,jf⟩;subst cq;simp only[]
     go_wp2_with fail
     refine(xw.out _ zH.out).mono ?_;rintro e cq ⟨rfl,hba⟩;have fZ:=hDq (zH.out.trans (hba.mono zH.out.size));clear hba xw mO zH;simp only[]
     go_wp2_with fail
     refine(fT.out _ fZ.out).mono ?_;rintro e bK ⟨rfl,p8⟩;subst bK;simp only[]
     go_wp2_with fail
     refine(l4.out _ fZ.out).mono ?_;rintro e bK ⟨rfl,iE⟩;have xx:=hDq (fZ.out.trans (iE.mono fZ.out.size));clear iE l4 fT fZ;simp only[];go_wp2;exact⟨⟨c+1,hc,by go_num,xx.out⟩,by simp[intOf];omega⟩
    ·have hci:¬ (c:Int)<6:=by omega
     go_wp2;go_ret;exact⟨rfl,zH.out⟩
end
structure ot (w W:World) (B:cz) (v:Nat->Value) (wd h seed:Int) (S:af.St):Prop where
 blk:W.heap[B.V]?=some (.cells (jL B seed S) 114 (0,0))
 fl:aU w W B.F B.P B.I B.b v S.L S.pf S.n wd h
section
variable {w W W':World} {B B':cz} {v v':Nat->Value} {wd h seed amV:Int} {S S':af.St}
theorem aG.f {X:cm} (H:aG w W B X wd h seed S):ot w W B X.v wd h seed S:=⟨H.blk,H.fl⟩
theorem ot.at (H:ot w W B v wd h seed S) (k:Nat):W.cell? ⟨B.V,k,none⟩=(jL B seed S)[k]?:=cR W B.V k _ _ _ H.blk
theorem aam (W:World) (H:ot w W B v wd h seed S):Calls Tryz.prog 63 #[.pointer (some ⟨B.V,0,none⟩)] W fun e w'=>e=.returned (.pointer (some ⟨B.F,0,none⟩))∧w'=W:=by
 have c:W.cell? ⟨B.V,1,none⟩=some (.pointer (some ⟨B.F,0,none⟩)):=H.at 1;clear H;go_enter Tryz.func63,Tryz.ntmps63;go_wp2;go_ret;exact⟨rfl,rfl⟩
theorem aan (W:World) (H:ot w W B v wd h seed S):Calls Tryz.prog 25 #[.pointer (some ⟨B.V,0,none⟩)] W fun e w'=>e=.returned (.int .i64 S.bt)∧w'=W:=by
 have c:W.cell? ⟨B.V,35,none⟩=some (.int .i64 S.bt):=H.at 35;clear H;go_enter Tryz.func25,Tryz.ntmps25;go_wp2;go_ret;exact⟨rfl,rfl⟩
theorem amW (W:World) (ha:Hid (ot w W B v wd h seed S)) (hb:Hid (ot w W B' v' wd h amV S')) (hall:Hid (d6 S.L S.pf S.n wd h)) (e1:S'.L=S.L) (e2:S'.pf=S.pf) (e3:S'.n=S.n) (e4:S'.bt=S.bt) :
  Calls Tryz.prog 24 #[.pointer (some ⟨B.V,0,none⟩),.pointer (some ⟨B'.V,0,none⟩)] W fun e w'=>e=.returned (.bool true)∧Below W.heap.size W w':=by
 have HB1:=hDq (aan W ha.out);have HB2:=hDq (aan W hb.out);have fe:=hDq (aam W ha.out);have bT:=hDq (aam W hb.out);have ya:=hb.out.fl;rw[e1,e2,e3]at ya;rw[e4]at HB2;have amX:=hDq (amT W ha.out.fl ya hall);clear ya e1 e2 e3 e4;go_enter Tryz.func24,Tryz.ntmps24
 go_wp2_with fail
 refine HB1.out.mono ?_;rintro e w1 ⟨rfl,dS⟩;subst w1;simp only[]
 go_wp2_with fail
 refine HB2.out.mono ?_;rintro e w1 ⟨rfl,dS⟩;subst w1;simp only[]
 go_wp2_with fail
 refine fe.out.mono ?_;rintro e w1 ⟨rfl,dS⟩;subst w1;simp only[]
 go_wp2_with fail
 refine bT.out.mono ?_;rintro e w1 ⟨rfl,dS⟩;subst w1;simp only[]
 go_wp2_with fail
 refine amX.out.mono ?_;rintro e w1 ⟨rfl,hb1⟩;have HB:=hDq hb1;clear hb1;simp only[];go_wp2;go_ret;exact⟨rfl,HB.out⟩
end
section
variable {w W:World} {ad:Nat->Addr} {B:cz} {X:cm} {wd h seed:Int} {S:af.St}
end
section
variable {w W:World} {ad:Nat->Addr}
theorem Ol:Fl.Fits 20000 100:=by constructor <;> decide
def af.S0:af.St:=af.init 100 20000 100
theorem ajM:af.Ok 0 10 2 af.S0:=ajI 100 20000 100 (by decide) (by decide) Ol
end
end Go.Proofs.YtjolccidheflpaaGreatDoor
