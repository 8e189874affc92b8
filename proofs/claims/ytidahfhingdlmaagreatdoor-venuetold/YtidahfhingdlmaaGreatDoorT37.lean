/- strconv.AppendInt at base 10, by the contract of the library that is given, at this program. -/
import Derived.Test.YtidahfhingdlmaaGreatDoorT36
import Derived.Lib.ItoaLen
import Derived.Shelf.Strconv.AppendIntPublic10
import Derived.Test.YtidahfhingdlmaaGreatDoorT35
import Derived.Test.YtidahfhingdlmaaGreatDoorT03
import Derived.Test.YtidahfhingdlmaaGreatDoorT09
import Derived.Test.YtidahfhingdlmaaGreatDoorT23
namespace Go.Proofs.YtidahfhingdlmaaGreatDoor
open Go.Shelf Go.RowKit
def laysM176_ren:Go.Shelf.Ren:=⟨fun | 176=>94 | 249=>126 | 288=>152 | 283=>178 | 284=>179 | 285=>180 | 286=>181 | 129=>218 | 317=>217 | 318=>219 | 319=>220 | 320=>221 | 337=>239 | 338=>240 | n=>n,fun | 37=>140 | 2=>2 | 3=>3 | 53=>253 | 4=>4 | 9=>9 | 171=>287 | 0=>0 | 173=>290 | 212=>325 | 51=>30 | 5=>5 | 20=>20 | 213=>326 | 46=>170 | 232=>365 | 233=>366 | n=>n,fun | 17=>14 | 18=>19 | 19=>20 | n=>n⟩
theorem laysM176:Go.Proofs.LaysM.n176 Tryz.prog laysM176_ren:={
 mixed:=by kernel_rfl
 f129:=Tryz.func218.trans (congrArg some (by kernel_rfl))
 f176:=Tryz.func94.trans (congrArg some (by kernel_rfl))
 f249:=Tryz.func126.trans (congrArg some (by kernel_rfl))
 f283:=Tryz.func178.trans (congrArg some (by kernel_rfl))
 f284:=Tryz.func179.trans (congrArg some (by kernel_rfl))
 f285:=Tryz.func180.trans (congrArg some (by kernel_rfl))
 f286:=Tryz.func181.trans (congrArg some (by kernel_rfl))
 f288:=Tryz.func152.trans (congrArg some (by kernel_rfl))
 f317:=Tryz.func217.trans (congrArg some (by kernel_rfl))
 f318:=Tryz.func219.trans (congrArg some (by kernel_rfl))
 f319:=Tryz.func220.trans (congrArg some (by kernel_rfl))
 f320:=Tryz.func221.trans (congrArg some (by kernel_rfl))
 f337:=Tryz.func239.trans (congrArg some (by kernel_rfl))
 f338:=Tryz.func240.trans (congrArg some (by kernel_rfl))
 t0:=Tryz.underlying0
 a0:=Tryz.isAgg0
 z0:=Tryz.sizeOf0
 v0:=Tryz.zeroValue0
 t2:=Tryz.underlying2
 a2:=Tryz.isAgg2
 z2:=Tryz.sizeOf2
 v2:=Tryz.zeroValue2
 t3:=Tryz.underlying3
 a3:=Tryz.isAgg3
 z3:=Tryz.sizeOf3
 v3:=Tryz.zeroValue3
 t4:=Tryz.underlying4
 a4:=Tryz.isAgg4
 z4:=Tryz.sizeOf4
 v4:=Tryz.zeroValue4
 t5:=Tryz.underlying5
 a5:=Tryz.isAgg5
 z5:=Tryz.sizeOf5
 v5:=Tryz.zeroValue5
 t9:=Tryz.underlying9
 a9:=Tryz.isAgg9
 z9:=Tryz.sizeOf9
 v9:=Tryz.zeroValue9
 t20:=Tryz.underlying20
 a20:=Tryz.isAgg20
 z20:=Tryz.sizeOf20
 v20:=Tryz.zeroValue20
 t37:=Tryz.underlying140
 a37:=Tryz.isAgg140
 z37:=Tryz.sizeOf140
 v37:=Tryz.zeroValue140
 t46:=Tryz.underlying170
 a46:=Tryz.isAgg170
 z46:=Tryz.sizeOf170
 v46:=Tryz.zeroValue170
 t51:=Tryz.underlying30
 a51:=Tryz.isAgg30
 z51:=Tryz.sizeOf30
 v51:=Tryz.zeroValue30
 t53:=Tryz.underlying253
 a53:=Tryz.isAgg253
 z53:=Tryz.sizeOf253
 v53:=Tryz.zeroValue253
 t171:=Tryz.underlying287
 a171:=Tryz.isAgg287
 z171:=Tryz.sizeOf287
 v171:=Tryz.zeroValue287
 t173:=Tryz.underlying290
 a173:=Tryz.isAgg290
 z173:=Tryz.sizeOf290
 v173:=Tryz.zeroValue290
 t212:=Tryz.underlying325
 a212:=Tryz.isAgg325
 z212:=Tryz.sizeOf325
 v212:=Tryz.zeroValue325
 t213:=Tryz.underlying326
 a213:=Tryz.isAgg326
 z213:=Tryz.sizeOf326
 t232:=Tryz.underlying365
 a232:=Tryz.isAgg365
 z232:=Tryz.sizeOf365
 v232:=Tryz.zeroValue365
 t233:=Tryz.underlying366
 a233:=Tryz.isAgg366
 z233:=Tryz.sizeOf366
 v233:=Tryz.zeroValue366
 g17:=by kernel_rfl
 g18:=by kernel_rfl
 g19:=by kernel_rfl
 i0:=by kernel_rfl
 i2:=by kernel_rfl
 i3:=by kernel_rfl
 i4:=by kernel_rfl
 i5:=by kernel_rfl
 i9:=by kernel_rfl
 i20:=by kernel_rfl
 i37:=by kernel_rfl
 i46:=by kernel_rfl
 i51:=by kernel_rfl
 i53:=by kernel_rfl
 i171:=by kernel_rfl
 i173:=by kernel_rfl
 i212:=by kernel_rfl
 i232:=by kernel_rfl
 i233:=by kernel_rfl
 m17:=by kernel_rfl
 m18:=by kernel_rfl
 m19:=by kernel_rfl }
theorem appendInt_any (B:Nat) (i:Int) (h0:-9223372036854775808≤i) (h1:i≤9223372036854775807) (sv:Value) (xs:List Int) (w:World) (hown:Row w B sv xs) (hBw:B≤w.heap.size) (hl:xs.length≤1000000)
  (htab:Lib.TabBelow Tryz.prog B w "internal/strconv.uint64pow10" .u64 Lib.pow10Tab) :
  Calls Tryz.prog 94 #[sv,.int .i64 i,.int .i64 10] w fun e w'=>∃ v',e = .returned v'∧Row w' B v' (xs++Ve.dec i)∧Below B w w':=by
 refine (Go.Proofs.Any.strconv_AppendInt_10 laysM176 B xs.length i h0 h1 sv (xs.map (Value.int .u8)) w hown hBw (by omega) htab).mono ?_
 rintro e w' ⟨v',rfl,h2,h3,_⟩
 refine ⟨v',rfl,?_,h3⟩
 show w'.ownsRow B 5 1 v' (xs++Ve.dec i).length ((xs++Ve.dec i).map (Value.int .u8))
 rw [List.length_append,List.map_append,show (Ve.dec i).length = (Lib.itoa i).length by unfold Ve.dec;rw [List.length_map],show (Ve.dec i).map (Value.int .u8) = Lib.byteCells (Lib.itoa i) by unfold Ve.dec Lib.byteCells;rw [List.map_map];rfl]
 exact h2
end Go.Proofs.YtidahfhingdlmaaGreatDoor
namespace Go.Proofs.YtidahfhingdlmaaGreatDoor
open Go.RowKit
set_option maxRecDepth 100000
theorem dec_len (n:Int) (h0:-9223372036854775808≤n) (h1:n≤9223372036854775807):(Ve.dec n).length≤21:=by unfold Ve.dec;rw [List.length_map];exact Lib.itoa_length_le n h0 h1
theorem frameOf_size (a:Ask):(Ve.frameOf a).size≤30:=by
 unfold Ve.frameOf encText
 split
 ·rw [strOfNums_size,Wi.frame_length];omega
 ·exact Nat.zero_le _
theorem recD_len (ds:List Nat) (hd:∀ d∈ds,d < 6):∀ k,(Ve.recD ds k).length≤22 * k
 | 0=>by simp [Ve.recD]
 | k + 1=>by
  have:=recD_len ds hd k
  have h2:ds.getD k 0 < 6:=by
   rw [List.getD_eq_getElem?_getD]
   cases h:ds[k]? with
   | none=>simp
   | some d=>exact hd d (List.mem_of_getElem? h)
  have h3:=dec_len ((ds.getD k 0:Nat):Int) (by omega) (by omega)
  rw [Ve.recD,List.length_append,List.length_append]
  split <;> simp only [List.length_singleton,List.length_nil] <;> omega
theorem recA_len (l:List Ask):∀ k,(Ve.recA l k).length≤61 * k
 | 0=>by simp [Ve.recA]
 | k + 1=>by
  have:=recA_len l k
  have h2:=frameOf_size (anth l k)
  rw [Ve.recA,List.length_append,List.length_append,hexTo_length]
  simp
  omega
section
variable {w W:World} {ad:Nat→Addr}
theorem tab_at {B:Nat} (ht:Lib.TabBelow Tryz.prog w.heap.size w "internal/strconv.uint64pow10" .u64 Lib.pow10Tab) (hb:Below w.heap.size w W) (hB:w.heap.size≤B):Lib.TabBelow Tryz.prog B W "internal/strconv.uint64pow10" .u64 Lib.pow10Tab :=
 fun w' h'=>ht w' (hb.trans (h'.mono hB))
set_option maxHeartbeats 2000000 in
theorem vrecord_any (bt:Nat) (ds:List Nat) (l:List Ask) (vd va:Value) (based basea:Nat) (W:World) (hs:Hid (Sent w ad)) (ht:Hid (Lib.TabBelow Tryz.prog w.heap.size w "internal/strconv.uint64pow10" .u64 Lib.pow10Tab)) (hbw:Hid (Below w.heap.size w W)) (hbt:bt≤1000000)
  (hrd:Hid (W.ownsRow based 3 1 vd ds.length (ds.map fun d=>Value.int .i64 (d:Nat)))) (hra:Hid (W.ownsRow basea 45 8 va l.length (aflat l))) (hd6:Hid (∀ d∈ds,d < 6)) (hdl:ds.length≤6) (hal:l.length≤12) :
  Calls Tryz.prog 61 #[.int .i64 bt,vd,va] W fun e w'=>e = .returned (.string (Ve.recB bt ds l))∧Below W.heap.size W w':=by
 obtain ⟨ad1,cd1,hvd⟩:=row_form hrd.out
 obtain ⟨aa1,ca1,hva⟩:=row_form hra.out
 obtain ⟨md,hmd⟩:∃ md,ds.length = md:=⟨_,rfl⟩
 obtain ⟨ma,hma⟩:∃ ma,l.length = ma:=⟨_,rfl⟩
 rw [hmd] at hrd hvd hdl
 rw [hma] at hra hva hal
 subst hvd hva
 have HMD:=hide hmd;have HMA:=hide hma
 have HRB:Hid (Ve.recB bt ds l = strOfNums (((Ve.dec bt++[58])++Ve.recD ds md)++Ve.recA l ma)):=by show _ = _;rw [← hmd,← hma];rfl
 clear hmd hma
 have hwW:w.heap.size≤W.heap.size:=hbw.out.size
 have hdl0:=dec_len (bt:Int) (by omega) (by omega)
 have HI0:=hide (appendInt_any W.heap.size (bt:Int) (by omega) (by omega) (.slice none 0 0) [] W (World.ownsRow_nil _ _ _ _) (Nat.le_refl _) (by simp) (tab_at ht.out hbw.out hwW))
 generalize Ve.recB bt ds l = rb at *
 go_enter Tryz.func61,Tryz.ntmps61
 go_wp2_with fail
 refine HI0.out.mono ?_
 rintro e w1 ⟨v1,rfl,hr1,hb1⟩
 have hB1:W.heap.size≤w1.heap.size:=hb1.size
 obtain ⟨v2,w2,hap2,hr2,hg2⟩:=run_append_two8 W.heap.size w1 v1 ([]++Ve.dec bt) [58] hr1 (by simp;omega) (by simp) hB1
 have HB2:Hid (Below W.heap.size W w2):=below_grown (hb1.alloc hB1 _) (World.ownsRow.alloc hr1 _) (Nat.le_trans hB1 (by simp)) hg2
 simp only [List.nil_append] at hr2
 have HR2:=hide hr2
 simp only [List.map_cons,List.map_nil,List.length_cons,List.length_nil] at hap2
 have HAP2:=hide hap2
 clear hap2 hr2 hg2 hr1 hb1 HI0
 simp only []
 go_wp2_with (at_builtin;refine wpList_append_run rfl _ _ 140 rfl _ _ _ rfl rfl HAP2.out ?_)
 go_loopw [7,21] (fun v kv wr=>∃ k:Nat,k≤md∧kv = .int .i64 k∧Row wr W.heap.size v ((Ve.dec bt++[58])++Ve.recD ds k)∧Below W.heap.size W wr) (fun _ kv _=>md - (intOf kv).toNat)
 case atStart=>exact ⟨0,by omega,rfl,by simpa [Ve.recD] using HR2.out,HB2.out⟩
 case round =>
  obtain ⟨k,hk,rfl,hrow,hbb⟩:=hrel
  have HR:=hide hrow;have HB:=hide hbb
  clear hbb
  have hBr:W.heap.size≤wr.heap.size:=HB.out.size
  have hlenk:((Ve.dec bt++[58])++Ve.recD ds k).length≤1000:=by
   have:=recD_len ds hd6.out k
   simp only [List.length_append,List.length_singleton];omega
  by_cases hlt:k < md
  ·have hki:(k:Int) < md:=by omega
   have hkl:k < ds.length:=by rw [HMD.out];exact hlt
   obtain ⟨g,hg⟩:∃ g,ad1 = some ⟨g,0,none⟩:=by
    rcases hrd.out.2 with ⟨e1,_⟩ | ⟨g,cap,cur,e1,_⟩
    ·cases e1;omega
    ·simp only [Value.slice.injEq] at e1;exact ⟨g,e1.1⟩
   subst hg
   have cg:wr.cell? ⟨g,k,none⟩ = some (.int .i64 (ds.getD k 0:Nat)):=by
    have h1:=World.ownsRow.cells (row_later hrd.out HB.out) (g:=g) rfl k (.int .i64 (ds.getD k 0:Nat)) (by simp [List.getElem?_eq_getElem hkl,List.getD_eq_getElem?_getD])
    have hp:(⟨g,0,none⟩:Addr).add k = ⟨g,k,none⟩:=by unfold Addr.add;split <;> simp_all
    rwa [hp] at h1
   have hd6':ds.getD k 0 < 6:=by
    rw [List.getD_eq_getElem?_getD,List.getElem?_eq_getElem hkl];exact hd6.out _ (List.getElem_mem hkl)
   have HN:Hid (Ve.recD ds (k + 1) = Ve.recD ds k++((if 0 < k then [44] else [])++Ve.dec ((ds.getD k 0:Nat):Int))):=rfl
   generalize ds.getD k 0 = d at *
   have HI:=hide (fun (v:Value) (xs:List Int) (W':World) (h1:Row W' W.heap.size v xs) (h2:xs.length≤2000) (h3:Below W.heap.size W W')=>appendInt_any W.heap.size (d:Int) (by omega) (by omega) v xs W' h1 h3.size (by omega) (tab_at ht.out (hbw.out.trans (h3.mono hwW)) hwW))
   by_cases h0:0 < k
   ·have h0i:(0:Int) < k:=by omega
    rw [if_pos h0] at HN
    obtain ⟨v5,w5,hap5,hr5,hg5⟩:=run_append_two8 W.heap.size wr u7 _ [44] HR.out (by omega) (by simp) hBr
    have HB5:Hid (Below W.heap.size W w5):=below_grown (HB.out.alloc hBr _) (World.ownsRow.alloc HR.out _) (Nat.le_trans hBr (by simp)) hg5
    have HR5:=hide hr5
    simp only [List.map_cons,List.map_nil,List.length_cons,List.length_nil] at hap5
    have HAP5:=hide hap5
    clear hap5 hr5 hg5 hrow
    go_wp2_with (at_builtin;refine wpList_append_run rfl _ _ 140 rfl _ _ _ rfl rfl HAP5.out ?_)
    refine (HI.out _ _ _ HR5.out (by simp only [List.length_append] at hlenk ⊢;simp;omega) HB5.out).mono ?_
    rintro e w6 ⟨v6,rfl,hr6,hb6⟩
    have HB6:=hide (HB5.out.trans hb6);have HR6:=hide hr6
    clear hr6 hb6
    simp only []
    go_wp2
    refine ⟨⟨k + 1,hlt,by go_num,?_,HB6.out⟩,by simp [intOf];omega⟩
    rw [HN.out]
    have:=HR6.out
    simp only [List.append_assoc] at this ⊢
    exact this
   ·have h0i:¬ (0:Int) < k:=by omega
    rw [if_neg h0,List.nil_append] at HN
    clear hrow
    go_wp2_with fail
    refine (HI.out _ _ _ HR.out (by omega) HB.out).mono ?_
    rintro e w6 ⟨v6,rfl,hr6,hb6⟩
    have HB6:=hide (HB.out.trans hb6);have HR6:=hide hr6
    clear hr6 hb6
    simp only []
    go_wp2
    refine ⟨⟨k + 1,hlt,by go_num,?_,HB6.out⟩,by simp [intOf];omega⟩
    rw [HN.out]
    have:=HR6.out
    simp only [List.append_assoc] at this ⊢
    exact this
  ·have hki:¬ (k:Int) < md:=by omega
   obtain rfl:k = md:=by omega
   obtain ⟨wo,hwo⟩:∃ wo,wo = wr:=⟨_,rfl⟩
   subst hwo
   obtain ⟨vo,hvo⟩:∃ vo,vo = u7:=⟨_,rfl⟩
   subst hvo
   clear hrow
   go_wp2_with fail
   go_loopw [7,37] (fun v kv wr=>∃ j:Nat,j≤ma∧kv = .int .i64 j∧Row wr W.heap.size v (((Ve.dec bt++[58])++Ve.recD ds k)++Ve.recA l j)∧Below W.heap.size W wr) (fun _ kv _=>ma - (intOf kv).toNat)
   case atStart=>exact ⟨0,by omega,rfl,by simpa [Ve.recA] using HR.out,HB.out⟩
   case round =>
    obtain ⟨j,hj,rfl,hrow,hbb⟩:=hrel
    have HRj:=hide hrow;have HBj:=hide hbb
    clear hbb
    have hBj:W.heap.size≤wr.heap.size:=HBj.out.size
    have hlenj:(((Ve.dec bt++[58])++Ve.recD ds k)++Ve.recA l j).length≤2000:=by
     have:=recA_len l j
     rw [List.length_append];omega
    by_cases hltj:j < ma
    ·have hji:(j:Int) < ma:=by omega
     have hjl:j < l.length:=by rw [HMA.out];exact hltj
     obtain ⟨g,hg⟩:∃ g,aa1 = some ⟨g,0,none⟩:=by
      rcases hra.out.2 with ⟨e1,_⟩ | ⟨g,cap,cur,e1,_⟩
      ·cases e1;omega
      ·simp only [Value.slice.injEq] at e1;exact ⟨g,e1.1⟩
     subst hg
     obtain ⟨d0,d1,d2,d3,d4,d5,d6,d7⟩:=ask_cells (row_later hra.out HBj.out) hjl hltj
     have hgl:g < wr.heap.size:=World.block_lt_of_cell? _ _ d0
     have HN:Hid (Ve.recA l (j + 1) = Ve.recA l j++([32]++Ve.hexTo (Ve.frameOf (anth l j)) (Ve.frameOf (anth l j)).size)):=rfl
     generalize anth l j = a at *
     have HB6:Hid (Below wr.heap.size wr (wr.alloc (.cells #[.int .u8 a.k,.int .i64 a.c,.int .i64 a.sq,.int .i64 a.it,.int .i64 a.sd,.int .i64 a.pr,.int .i64 a.q,.int .i64 a.id] 45))):=(Below.refl _ _).alloc (Nat.le_refl _) _
     have HE:=hide (encode_any a.k a.c a.sq a.it a.sd a.pr a.q a.id ad (wr.alloc (.cells #[.int .u8 a.k,.int .i64 a.c,.int .i64 a.sq,.int .i64 a.it,.int .i64 a.sd,.int .i64 a.pr,.int .i64 a.q,.int .i64 a.id] 45)) (hs.out.later (hbw.out.trans ((HBj.out.trans (HB6.out.mono hBj)).mono hwW))))
     rw [show encText a.k a.c a.sq a.it a.sd a.pr a.q a.id = Ve.frameOf a from rfl] at HE
     have hfs:=frameOf_size a
     generalize Ve.frameOf a = fo at *
     generalize errV ad (Wi.code a.k a.c a.sq a.it a.sd a.pr a.q a.id) = er at *
     clear hrow
     go_wp2_with fail
     refine HE.out.mono ?_
     rintro e w7 ⟨rfl,hb7⟩
     have HB7:=hide (HB6.out.trans (hb7.mono HB6.out.size))
     have HR7:=hide (row_later HRj.out HB7.out)
     have hB7:W.heap.size≤w7.heap.size:=Nat.le_trans hBj HB7.out.size
     have hBW7:=HBj.out.trans (HB7.out.mono hBj)
     obtain ⟨v8,w8,hap8,hr8,hg8⟩:=run_append_two8 W.heap.size w7 u7 _ [32] HR7.out (by omega) (by simp) hB7
     have HB8:Hid (Below W.heap.size W w8):=below_grown (hBW7.alloc hB7 _) (World.ownsRow.alloc HR7.out _) (Nat.le_trans hB7 (by simp)) hg8
     have HD:=hide (appendDigits_any W.heap.size v8 _ fo w8 hr8 (by simp only [List.length_append] at hlenj ⊢;simp;omega) (by omega) HB8.out.size)
     simp only [List.map_cons,List.map_nil,List.length_cons,List.length_nil] at hap8
     have HAP8:=hide hap8
     clear hap8 hr8 hg8 hb7 HE HB6 d0 d1 d2 d3 d4 d5 d6 d7 hBW7
     simp only []
     go_wp2_with (at_builtin;refine wpList_append_run rfl _ _ 140 rfl _ _ _ rfl rfl HAP8.out ?_)
     refine HD.out.mono ?_
     rintro e w9 ⟨v9,rfl,hr9,hb9⟩
     have HB9:=hide (HB8.out.trans hb9);have HR9:=hide hr9
     clear hr9 hb9 HD
     simp only []
     go_wp2
     refine ⟨⟨j + 1,hltj,by go_num,?_,HB9.out⟩,by simp [intOf];omega⟩
     rw [HN.out]
     have:=HR9.out
     simp only [List.append_assoc] at this ⊢
     exact this
    ·have hji:¬ (j:Int) < ma:=by omega
     obtain rfl:j = ma:=by omega
     have hcv:=row_string HRj.out
     clear hrow
     go_wp2
     go_ret
     refine ⟨?_,HBj.out⟩
     rw [HRB.out]
     simp
end
section
variable {w W:World} {ad:Nat→Addr} {B:Vb} {X:Vx} {wd h seed:Int} {S:Ve.St}
def c30 (S:Ve.St):List Value:=[.bool (S.on 0),.int .i64 (S.nx 0),.int .i64 (S.la 0),.string (S.lf 0),.bool (S.dr 0),.bool (S.on 1),.int .i64 (S.nx 1),.int .i64 (S.la 1),.string (S.lf 1),.bool (S.dr 1),.bool (S.on 2),.int .i64 (S.nx 2),.int .i64 (S.la 2),.string (S.lf 2),.bool (S.dr 2),.bool (S.on 3),.int .i64 (S.nx 3),.int .i64 (S.la 3),.string (S.lf 3),.bool (S.dr 3),.bool (S.on 4),.int .i64 (S.nx 4),.int .i64 (S.la 4),.string (S.lf 4),.bool (S.dr 4),.bool (S.on 5),.int .i64 (S.nx 5),.int .i64 (S.la 5),.string (S.lf 5),.bool (S.dr 5)]
theorem c30_len (S:Ve.St):(c30 S).length = 30:=rfl
theorem index96 (S:Ve.St) {k:Nat} (hk:k < 6) (W:World):(Instr.index 109 (.agg (c30 S).toArray) (.int .i64 k)).run Tryz.prog W = .ok (.agg #[.bool (S.on k),.int .i64 (S.nx k),.int .i64 (S.la k),.string (S.lf k),.bool (S.dr k)]) W:=by
 have:k = 0∨k = 1∨k = 2∨k = 3∨k = 4∨k = 5:=by omega
 unfold c30
 rcases this with rfl | rfl | rfl | rfl | rfl | rfl <;> exact rfl
theorem size96 (S:Ve.St):(Tryz.prog.info? 109).map (·.size) = some (c30 S).length:=by rw [c30_len];kernel_rfl
theorem range96 {W:World} (H:Ven w W B X wd h seed S):W.rangeAt B.V 4 (c30 S):=by
 intro j v hv
 have hj:j < 30:=by
  rcases Nat.lt_or_ge j 30 with h | h
  ·exact h
  ·rw [List.getElem?_eq_none (by rw [c30_len];exact h)] at hv;cases hv
 rw [H.at]
 rw [← hv]
 iterate 30 (rcases j with _ | j;· rfl)
 omega
theorem alloc2_cell (wr:World) (o:Obj) (u:Value) (e:TypeId):((wr.alloc o).alloc (.cells #[u] e)).cell? ⟨wr.heap.size + 1,0,none⟩ = some u:=by
 have hh:=heap_alloc_new (wr.alloc o) (.cells #[u] e)
 rw [show (wr.alloc o).heap.size = wr.heap.size + 1 from Array.size_push ..] at hh
 exact (cell_of_row _ _ 0 _ _ _ hh).trans rfl
theorem dropsTo_lt (dr:Nat→Bool):∀ k,∀ d∈Ve.dropsTo dr k,d < k
 | 0,d,h=>by cases h
 | k + 1,d,h=>by
  rw [Ve.dropsTo,List.mem_append] at h
  rcases h with h | h
  ·have:=dropsTo_lt dr k d h;omega
  ·split at h
   ·rw [List.mem_singleton.1 h];omega
   ·cases h
theorem dropsTo_len (dr:Nat→Bool):∀ k,(Ve.dropsTo dr k).length≤k
 | 0=>by simp [Ve.dropsTo]
 | k + 1=>by
  have:=dropsTo_len dr k
  rw [Ve.dropsTo,List.length_append]
  split <;> simp <;> omega
def natC (l:List Nat):List Value:=l.map fun d=>Value.int .i64 (d:Nat)
theorem info3n:∃ i,Tryz.prog.info? 3 = some i∧i.zero = some (.int .i64 0)∧i.size = 1∧i.bytes = 8:=⟨_,rfl,rfl,rfl,rfl⟩
set_option maxHeartbeats 2000000 in
theorem leaving_any (W:World) (H:Hid (Ven w W B X wd h seed S)):Calls Tryz.prog 58 #[.pointer (some ⟨B.V,0,none⟩)] W fun e w'=>∃ v,e = .returned v∧w'.ownsRow W.heap.size 3 1 v (Ve.dropsTo S.dr 6).length (natC (Ve.dropsTo S.dr 6))∧Below W.heap.size W w':=by
 obtain ⟨i3,hi,hz0,hz1,hz2⟩:=info3n
 have Hi:=hide hi;have Hz0:=hide hz0;have Hz1:=hide hz1;have Hz2:=hide hz2
 clear hi hz0 hz1 hz2
 have HIX:=hide (fun k (hk:k < 6) W=>index96 S (k:=k) hk W)
 have HRG:=hide (range96 H.out)
 have HSZ:=hide (size96 S)
 generalize hcc:c30 S = C30 at *
 go_enter Tryz.func58,Tryz.ntmps58
 go_wp2_with (refine wpList_load_mid rfl 109 _ rfl B.V 4 rfl C30 _ HRG.out Tryz.underlying109 rfl HSZ.out ?_)
 clear HRG HSZ
 go_loopw [3,10] (fun v kv wr=>∃ k:Nat,k≤6∧kv = .int .i64 k∧wr.ownsRow W.heap.size 3 1 v (Ve.dropsTo S.dr k).length (natC (Ve.dropsTo S.dr k))∧Below W.heap.size W wr) (fun _ kv _=>6 - (intOf kv).toNat)
 case atStart=>exact ⟨0,by omega,rfl,World.ownsRow_nil _ _ _ _,Below.refl _ _⟩
 case round =>
  obtain ⟨k,hk,rfl,hrow,hb⟩:=hrel
  have HR:=hide hrow;have HB:=hide hb
  clear hrow hb
  by_cases hlt:k < 6
  ·have hki:(k:Int) < 6:=by omega
   have hix:=fun W=>HIX.out k hlt W
   have hlen:=dropsTo_len S.dr k
   have HN:Hid (Ve.dropsTo S.dr (k + 1) = Ve.dropsTo S.dr k++if S.dr k = true then [k] else []):=rfl
   have HB5:Hid (Below W.heap.size W (wr.alloc (.cells #[.bool (S.on k),.int .i64 (S.nx k),.int .i64 (S.la k),.string (S.lf k),.bool (S.dr k)] 108))):=HB.out.alloc HB.out.size _
   have hwz:W.heap.size≤wr.heap.size:=HB.out.size
   cases hd:S.dr k with
   | false =>
    rw [hd,if_neg (by decide),List.append_nil] at HN
    rw [hd] at HB5 hix
    go_wp2
    refine ⟨⟨k + 1,hlt,by go_num,?_,HB5.out⟩,by simp [intOf];omega⟩
    rw [HN.out];exact World.ownsRow.alloc HR.out _
   | true =>
    rw [hd,if_pos rfl] at HN
    rw [hd] at HB5 hix
    go_wp2_with (at_builtin;refine wpList_append_own _ rfl _ _ 72 rfl W.heap.size 3 i3 (.int .i64 0) 1 8 Tryz.underlying72 Hi.out Hz0.out Hz1.out Hz2.out rfl (by decide) _ _ _ rfl (World.ownsRow.alloc (World.ownsRow.alloc HR.out _) _) ⟨wr.heap.size + 1,0,none⟩ 1 1 [.int .i64 (k:Nat)] rfl rfl ?c1 ?c2 ?c3 ?c4 ?c5 ?_)
    case c1 =>
     intro j u hj
     rcases j with _ | j
     ·have:u = .int .i64 (k:Nat):=by simpa using hj.symm
      subst this
      exact alloc2_cell _ _ _ _
     ·simp at hj
    case c2=>intro u hu;rw [List.mem_singleton.1 hu];rfl
    case c3=>unfold maxLen;omega
    case c4=>omega
    case c5=>first | omega | (simp;omega)
    intro v6 w6 hown' hgrow _
    have HB6:Hid (Below W.heap.size W w6):=below_grown (HB5.out.alloc HB5.out.size _) (World.ownsRow.alloc (World.ownsRow.alloc HR.out _) _) (Nat.le_trans HB5.out.size (by simp)) hgrow
    have HR6:Hid (w6.ownsRow W.heap.size 3 1 v6 (Ve.dropsTo S.dr k++[k]).length (natC (Ve.dropsTo S.dr k++[k]))):=by
     show w6.ownsRow _ _ _ _ _ _
     unfold natC
     rw [List.length_append,List.map_append]
     exact hown'
    clear hown' hgrow
    go_wp2
    refine ⟨⟨k + 1,hlt,by go_num,?_,HB6.out⟩,by simp [intOf];omega⟩
    rw [HN.out];exact HR6.out
  ·have hki:¬ (k:Int) < 6:=by omega
   obtain rfl:k = 6:=by omega
   go_wp2
   go_ret
   exact ⟨_,rfl,HR.out,HB.out⟩
end
section
variable {w W W' W1:World} {ad:Nat→Addr} {b0 q:Nat} {B:Vb} {X X' X1 X2:Vx} {wd h seed:Int} {S:Ve.St} {vp vr:Value} {r:Ve.Ro}
theorem Rnd.begin (H:Ven w W B X wd h seed S) (ha:FAll S.L S.pf S.n wd h) :
  Rnd w W.heap.size (W.alloc (.cells #[.pointer (some ⟨B.F,0,none⟩),.slice none 0 0,.slice none 0 0] 183)) B X wd h seed S W.heap.size (.slice none 0 0) (.slice none 0 0) (Ve.start S) :=
 ⟨H.later ((Below.refl _ _).alloc (Nat.le_refl _) _),heap_alloc_new _ _,World.ownsRow_nil _ _ _ _,World.ownsRow_nil _ _ _ _,Nat.le_refl _,Nat.le_trans H.lo (Nat.le_of_lt H.lt),by simp,
  fun c hc k hk=>(H.own_lt (.inr (.inr (.inr (.inl (.inr ⟨c,hc,hk⟩)))))).2,ha⟩
theorem Ven.keepV {base:Nat} {e:TypeId} {sz n j:Nat} {v u:Value} {xs:List Value} (H:Ven w W B X wd h seed S) (hr:W.ownsRow base e sz v n xs) (he:e≠111):(W.setCell ⟨B.V,j,none⟩ u).ownsRow base e sz v n xs :=
 row_turned hr (Turned.setCell W B.V j u) (fun k hk e1=>by
  obtain ⟨_,cur,h2⟩:=row_block hr hk
  exact blkT h2 H.blk he e1)
theorem Rnd.ownV {S':Ve.St} {j:Nat} {u:Value} (R:Rnd w b0 W B X wd h seed S q vp vr r) (hv:Ven w (W.setCell ⟨B.V,j,none⟩ u) B X wd h seed (setF S' r)):Rnd w b0 (W.setCell ⟨B.V,j,none⟩ u) B X wd h seed S' q vp vr r:=by
 refine ⟨hv,?_,R.ven.keepV R.pl (by decide),R.ven.keepV R.rp (by decide),R.lo,R.lob,Nat.le_trans R.hib (by simp),R.qb,R.all⟩
 rw [(Turned.setCell W B.V j u).block q (lt_of_block R.blk) (blkT R.blk R.ven.blk (by decide))];exact R.blk
theorem Rnd.undrop (R:Rnd w b0 W B X wd h seed S q vp vr r) {c:Nat} (hc:c < 6):Rnd w b0 (W.setCell ⟨B.V,4 + c * 5 + 4,none⟩ (.bool false)) B X wd h seed { S with dr:=upd S.dr c false } q vp vr r∧VStep W (W.setCell ⟨B.V,4 + c * 5 + 4,none⟩ (.bool false)) B X X:=by
 obtain ⟨f1,f2⟩:=R.ven.set (S':=setF { S with dr:=upd S.dr c false } r) hc (j:=4) (by decide) (.bool false) (fun c' j' _ hj'=>cAt_dr (setF S r) (setF { S with dr:=upd S.dr c false } r) c false rfl rfl rfl rfl rfl c' j' hj') rfl rfl rfl ⟨rfl,rfl,rfl,rfl,rfl,rfl,rfl,rfl⟩
 exact ⟨R.ownV f1,f2⟩
theorem RFr.after (hs:VStep W W1 B X X1) (hf:RFr W1 W' W.heap.size B X1 X2):VStep W W' B X X2:=by
 refine ⟨hs.turned.trans hf.turned (fun k hk=>?_),fun k hk=>?_⟩
 ·rcases hk with hk | hk
  ·exact hs.new k (by
    rcases hk with e | e
    ·exact .inr (.inl e)
    ·exact .inr (.inr (.inl e)))
  ·exact .inr hk
 ·have h1:vown B X1 k∨W1.heap.size≤k:=by
   rcases hk with e | e | e | e | e | e
   ·exact .inl (.inl e)
   ·exact .inl (.inr (.inl e))
   ·rcases hf.new k (.inr e) with h1 | h1
    ·rcases h1 with h1 | h1
     ·exact .inl (.inr (.inl h1))
     ·exact .inl (.inr (.inr (.inl h1)))
    ·exact .inr h1
   ·rw [hf.qv] at e;exact .inl (.inr (.inr (.inr (.inl e))))
   ·exact .inl (.inr (.inr (.inr (.inr (.inl e)))))
   ·rw [hf.dv] at e;exact .inl (.inr (.inr (.inr (.inr (.inr e)))))
  rcases h1 with h1 | h1
  ·exact hs.new k h1
  ·exact .inr (Nat.le_trans hs.turned.size h1)
theorem row_lt {base:Nat} {e:TypeId} {sz n:Nat} {v:Value} {xs:List Value} (hr:W.ownsRow base e sz v n xs):∀ k,v.ownBlock = some k→k < W.heap.size:=fun k hk=>by
 obtain ⟨_,cur,h2⟩:=row_block hr hk
 exact lt_of_block h2
theorem Ven.setBt (H:Ven w W B X wd h seed S) (n:Nat):Ven w (W.setCell ⟨B.V,35,none⟩ (.int .i64 n)) B X wd h seed { S with bt:=n }∧VStep W (W.setCell ⟨B.V,35,none⟩ (.int .i64 n)) B X X :=
 H.own (S':={ S with bt:=n }) (Save.setCell _ _ _ _) (by rw [block_setCell H.blk];rfl) ⟨rfl,rfl,rfl,rfl,rfl,rfl,rfl,rfl⟩
theorem Ven.setNow (H:Ven w W B X wd h seed S) (n:Nat):Ven w (W.setCell ⟨B.V,34,none⟩ (.int .i64 n)) B X wd h seed { S with now:=n }∧VStep W (W.setCell ⟨B.V,34,none⟩ (.int .i64 n)) B X X :=
 H.own (S':={ S with now:=n }) (Save.setCell _ _ _ _) (by rw [block_setCell H.blk];rfl) ⟨rfl,rfl,rfl,rfl,rfl,rfl,rfl,rfl⟩
theorem Ven.setDown (H:Ven w W B X wd h seed S) (d:Bool):Ven w (W.setCell ⟨B.V,36,none⟩ (.bool d)) B X wd h seed { S with down:=d }∧VStep W (W.setCell ⟨B.V,36,none⟩ (.bool d)) B X X :=
 H.own (S':={ S with down:=d }) (Save.setCell _ _ _ _) (by rw [block_setCell H.blk];rfl) ⟨rfl,rfl,rfl,rfl,rfl,rfl,rfl,rfl⟩
theorem dropsR_len (r:Ve.Ro) (c:Nat) (hl:∀ i,i < 3→(r.L i).length≤60):(Ve.dropR r c).rp.length≤r.rp.length + 180∧(Ve.dropR r c).pl = r.pl:=by
 refine ⟨?_,rfl⟩
 have:=Fl.dO_len (c:Int) r.L hl 3 (by decide)
 show (r.rp++(Fl.dO c r.L 3).map (Ve.tell Ve.kGone)).length≤_
 rw [List.length_append,List.length_map];omega
theorem askR_len (r:Ve.Ro) (a:Ask):(Ve.askR r a).rp.length≤r.rp.length + 1∧(Ve.askR r a).pl.length≤r.pl.length + 1:=by
 unfold Ve.askR Ve.placeR Ve.cancelR
 split
 ·refine ⟨?_,?_⟩ <;> (simp only [];split <;> simp)
 ·refine ⟨?_,?_⟩
  ·simp only [List.length_append];split <;> simp
  ·simp only [];split
   ·exact Nat.le_succ_of_le (List.length_filter_le _ _)
   ·simp
theorem tradeR_len {wd h:Int} {r:Ve.Ro} (H:FAll r.L r.pf r.n wd h) {i:Nat} (hi:i < 3) (s:Int):(Ve.tradeR wd h r i s).rp.length≤r.rp.length + 240 + r.pl.length∧(Ve.tradeR wd h r i s).pl = r.pl:=by
 refine ⟨?_,rfl⟩
 have h1:=(Ve.tF_mem H hi s).1
 have h2:=flat_rest_len (Fl.runL r.L i (Ve.tF wd r i s)) i r.pl
 show (r.rp++((Ve.tF wd r i s).map (Ve.fillR (r.L i) (Ve.tP r i))++r.pl.flatMap (Ve.restR (Fl.runL r.L i (Ve.tF wd r i s)) i))).length≤_
 rw [List.length_append,List.length_append,List.length_map];omega
theorem seed_wrap (seed:Int) (bt i:Nat) (hb:bt≤1000000) (hi:i < 3):IntKind.u32.wrap (seed + IntKind.u32.wrap (IntKind.i64.wrap (IntKind.i64.wrap (3 * (bt:Int)) + (i:Int)))) = Ve.seedAt seed bt i:=by
 rw [IntWalk.i64_in (3 * (bt:Int)) (by omega),IntWalk.i64_in (3 * (bt:Int) + i) (by omega)]
 have e:∀ n:Int,IntKind.u32.wrap n = n % 4294967296:=fun n=>by simp [IntKind.wrap,IntKind.bits,IntKind.signed]
 rw [e,e]
 unfold Ve.seedAt
 push_cast
 rfl
set_option maxHeartbeats 4000000 in
theorem vrun_any (ds:List Nat) (l:List Ask) (vd va:Value) (based basea:Nat) (W:World) (H:Hid (Ven w W B X wd h seed S)) (hs:Hid (Sent w ad)) (hall:Hid (FAll S.L S.pf S.n wd h)) (hbt:S.bt≤1000000)
  (hrd:Hid (W.ownsRow based 3 1 vd ds.length (natC ds))) (hra:Hid (W.ownsRow basea 45 8 va l.length (aflat l))) (hd6:Hid (∀ d∈ds,d < 6)) (hdl:ds.length≤6) (hal:l.length≤12) :
  Calls Tryz.prog 62 #[.pointer (some ⟨B.V,0,none⟩),vd,va] W fun e w'=>∃ v X',e = .returned v∧Ven w w' B X' wd h seed (Ve.ranS wd h seed S ds l)∧VStep W w' B X X'∧Reps w' W.heap.size v (Ve.roundR wd h seed S ds l).rp∧FAll (Ve.ranS wd h seed S ds l).L (Ve.ranS wd h seed S ds l).pf (Ve.ranS wd h seed S ds l).n wd h∧(Ve.roundR wd h seed S ds l).rp.length≤2900∧Ve.Same S.pf (Ve.ranS wd h seed S ds l).pf:=by
 obtain ⟨ad1,cd1,hvd⟩:=row_form hrd.out
 obtain ⟨aa1,ca1,hva⟩:=row_form hra.out
 obtain ⟨md,hmd⟩:∃ md,ds.length = md:=⟨_,rfl⟩
 obtain ⟨ma,hma⟩:∃ ma,l.length = ma:=⟨_,rfl⟩
 have HLD:=hide (row_lt hrd.out);have HLA:=hide (row_lt hra.out)
 have HRS:Hid (Ve.ranS wd h seed S ds l = { S with L:=(Ve.tradesR wd h seed S.bt (Ve.asksR (Ve.dropsR (Ve.start S) ds md) l ma) 3).L,pf:=(Ve.tradesR wd h seed S.bt (Ve.asksR (Ve.dropsR (Ve.start S) ds md) l ma) 3).pf,n:=(Ve.tradesR wd h seed S.bt (Ve.asksR (Ve.dropsR (Ve.start S) ds md) l ma) 3).n,dr:=Ve.undr S.dr 6,bt:=S.bt + 1 }):=by show _ = _;rw [← hmd,← hma];rfl
 have HRR:Hid (Ve.roundR wd h seed S ds l = Ve.tradesR wd h seed S.bt (Ve.asksR (Ve.dropsR (Ve.start S) ds md) l ma) 3):=by show _ = _;rw [← hmd,← hma];rfl
 rw [hmd] at hrd hvd hdl
 rw [hma] at hra hva hal
 subst hvd hva
 have HMD:=hide hmd;have HMA:=hide hma
 clear hmd hma
 generalize Ve.ranS wd h seed S ds l = RS at *
 generalize Ve.roundR wd h seed S ds l = RR at *
 have HB0:Hid (Below W.heap.size W (W.alloc (.cells #[.pointer (some ⟨B.F,0,none⟩),.slice none 0 0,.slice none 0 0] 183))):=(Below.refl _ _).alloc (Nat.le_refl _) _
 have HR0:=hide (Rnd.begin H.out hall.out)
 have HD0:=hide (row_later hrd.out HB0.out);have HA0:=hide (row_later hra.out HB0.out)
 have HS0:Hid (VStep W (W.alloc (.cells #[.pointer (some ⟨B.F,0,none⟩),.slice none 0 0,.slice none 0 0] 183)) B X X):=VStep.of_below HB0.out B X
 have c1:W.cell? ⟨B.V,1,none⟩ = some (.pointer (some ⟨B.F,0,none⟩)):=H.out.at 1
 go_enter Tryz.func62,Tryz.ntmps62
 go_wp2_with fail
 go_loopw [21] (fun kv wr=>∃ (k:Nat) (X':Vx) (vp vr:Value),k≤md∧kv = .int .i64 k∧Rnd w W.heap.size wr B X' wd h seed S W.heap.size vp vr (Ve.dropsR (Ve.start S) ds k)∧VStep W wr B X X'∧wr.ownsRow based 3 1 (.slice ad1 md cd1) md (natC ds)∧wr.ownsRow basea 45 8 (.slice aa1 ma ca1) ma (aflat l)∧(Ve.dropsR (Ve.start S) ds k).rp.length≤180 * k∧(Ve.dropsR (Ve.start S) ds k).pl = []∧Ve.Same S.pf (Ve.dropsR (Ve.start S) ds k).pf) (fun kv _=>md - (intOf kv).toNat)
 case atStart=>exact ⟨0,X,_,_,by omega,rfl,HR0.out,HS0.out,HD0.out,HA0.out,Nat.le_refl 0,rfl,Ve.Same.refl _⟩
 case round =>
  obtain ⟨k,X1,vp1,vr1,hk,rfl,hr1,hs1,hd1,ha1,hlr,hlp,hsm⟩:=hrel
  have HSM1:=hide hsm
  clear hsm
  have HR1:=hide hr1;have HS1:=hide hs1;have HD1:=hide hd1;have HA1:=hide ha1
  clear hr1 hs1 hd1 ha1 HB0 HR0 HD0 HA0 HS0 c1
  by_cases hlt:k < md
  ·have hki:(k:Int) < md:=by omega
   have hkl:k < ds.length:=by rw [HMD.out];exact hlt
   obtain ⟨g,hg⟩:∃ g,ad1 = some ⟨g,0,none⟩:=by
    rcases hrd.out.2 with ⟨e1,_⟩ | ⟨g,cap,cur,e1,_⟩
    ·cases e1;omega
    ·simp only [Value.slice.injEq] at e1;exact ⟨g,e1.1⟩
   subst hg
   have cg:wr.cell? ⟨g,k,none⟩ = some (.int .i64 (ds.getD k 0:Nat)):=by
    have h1:=World.ownsRow.cells HD1.out (g:=g) rfl k (.int .i64 (ds.getD k 0:Nat)) (by unfold natC;simp [List.getElem?_eq_getElem hkl,List.getD_eq_getElem?_getD])
    have hp:(⟨g,0,none⟩:Addr).add k = ⟨g,k,none⟩:=by unfold Addr.add;split <;> simp_all
    rwa [hp] at h1
   have hd6':ds.getD k 0 < 6:=by
    rw [List.getD_eq_getElem?_getD,List.getElem?_eq_getElem hkl];exact hd6.out _ (List.getElem_mem hkl)
   have HN:Hid (Ve.dropsR (Ve.start S) ds (k + 1) = Ve.dropR (Ve.dropsR (Ve.start S) ds k) (ds.getD k 0)):=rfl
   have HSMN:=hide (Ve.dropR_same (Ve.dropsR (Ve.start S) ds k) (ds.getD k 0))
   have HLN:=hide (dropsR_len (Ve.dropsR (Ve.start S) ds k) (ds.getD k 0) (fun i hi=>(HR1.out.all.ok.bk i hi).len))
   generalize ds.getD k 0 = d at *
   generalize Ve.dropsR (Ve.start S) ds k = r1 at *
   have HC:=hide (rdrop_any d wr HR1 hs (by omega))
   go_wp2_with fail
   refine HC.out.mono ?_
   rintro e w2 ⟨rfl,X2,vp2,vr2,h2,hf2⟩
   have HD2:=hide (hf2.row HR1.out.ven HD1.out (by decide) HLD.out);have HA2:=hide (hf2.row HR1.out.ven HA1.out (by decide) HLA.out)
   have HS2:=hide (RFr.after HS1.out hf2)
   have HR2:=hide h2
   clear h2 hf2 HC cg
   simp only []
   go_wp2
   refine ⟨⟨k + 1,X2,vp2,vr2,hlt,by go_num,?_,HS2.out,HD2.out,HA2.out,?_,?_,?_⟩,by simp [intOf];omega⟩
   ·rw [HN.out];exact HR2.out
   ·rw [HN.out];have:=HLN.out.1;omega
   ·rw [HN.out,HLN.out.2];exact hlp
   ·rw [HN.out];exact HSM1.out.trans HSMN.out
  ·have hki:¬ (k:Int) < md:=by omega
   obtain rfl:k = md:=by omega
   clear hk hlt hki
   have hlp0:(Ve.dropsR (Ve.start S) ds k).pl.length = 0:=by rw [hlp];rfl
   clear hlp
   obtain ⟨rd,hrd0⟩:∃ rd,Ve.dropsR (Ve.start S) ds k = rd:=⟨_,rfl⟩
   simp only [hrd0] at HR1 HRS HRR hlr hlp0 HSM1
   clear hrd0
   go_wp2_with fail
   go_loopw [28] (fun kv wr=>∃ (n:Nat) (X':Vx) (vp vr:Value),n≤6∧kv = .int .i64 n∧Rnd w W.heap.size wr B X' wd h seed { S with dr:=Ve.undr S.dr n } W.heap.size vp vr rd∧VStep W wr B X X'∧wr.ownsRow basea 45 8 (.slice aa1 ma ca1) ma (aflat l)) (fun kv _=>6 - (intOf kv).toNat)
   case atStart=>exact ⟨0,X1,_,_,by omega,rfl,HR1.out,HS1.out,HA1.out⟩
   case round =>
    obtain ⟨d,X1,vp1,vr1,hd,rfl,hr2,hs2,ha2⟩:=hrel
    have HR2:=hide hr2;have HS2:=hide hs2;have HA2:=hide ha2
    clear hr2 hs2 ha2 HR1 HS1 HA1 HD1
    by_cases hltd:d < 6
    ·have hdi:(d:Int) < 6:=by omega
     have HNd:Hid (Ve.undr S.dr (d + 1) = upd (Ve.undr S.dr d) d false):=rfl
     generalize Ve.undr S.dr d = dr1 at *
     obtain ⟨h3,hs3⟩:=HR2.out.undrop hltd
     have HR3:=hide h3;have HS3:=hide (HS2.out.trans hs3)
     have HA3:=hide (HR2.out.ven.keepV (j:=4 + d * 5 + 4) (u:=.bool false) HA2.out (by decide))
     clear h3 hs3
     have cd:wr.cell? ⟨B.V,4 + d * 5 + 4,none⟩ = some (.bool (dr1 d)):=HR2.out.ven.conn hltd (j:=4) (by decide)
     have fz:∀ j,wr.frozen? ⟨B.V,j,none⟩ = false:=fun j=>HR2.out.ven.free j
     go_wp2
     refine ⟨⟨d + 1,X1,vp1,vr1,hltd,by go_num,?_,HS3.out,HA3.out⟩,by simp [intOf];omega⟩
     rw [HNd.out];exact HR3.out
    ·have hdi:¬ (d:Int) < 6:=by omega
     have hd6e:d = 6:=by omega
     have HR1:=HR2;have HS1:=HS2;have HA1:=HA2
     rw [hd6e] at HR1
     clear hd hltd hd6e
     clear HR2 HS2 HA2
     obtain ⟨dd,hdd0⟩:∃ dd,Ve.undr S.dr 6 = dd:=⟨_,rfl⟩
     simp only [hdd0] at HR1 HRS
     clear hdd0
     go_wp2_with fail
     go_loopw [40] (fun kv wr=>∃ (j:Nat) (X':Vx) (vp vr:Value),j≤ma∧kv = .int .i64 j∧Rnd w W.heap.size wr B X' wd h seed { S with dr:=dd } W.heap.size vp vr (Ve.asksR rd l j)∧VStep W wr B X X'∧wr.ownsRow basea 45 8 (.slice aa1 ma ca1) ma (aflat l)∧(Ve.asksR rd l j).rp.length≤1080 + j∧(Ve.asksR rd l j).pl.length≤j∧Ve.Same S.pf (Ve.asksR rd l j).pf) (fun kv _=>ma - (intOf kv).toNat)
     case atStart=>exact ⟨0,X1,_,_,by omega,rfl,HR1.out,HS1.out,HA1.out,by show rd.rp.length≤_;omega,by show rd.pl.length≤_;omega,HSM1.out⟩
     case round =>
      obtain ⟨j,X2,vp2,vr2,hj,rfl,hr2,hs2,ha2,hlr2,hlp2,hsm⟩:=hrel
      have HSM2:=hide hsm
      clear hsm HSM1
      have HR2:=hide hr2;have HS2:=hide hs2;have HA2:=hide ha2
      clear hr2 hs2 ha2 HR1 HS1 HA1 hlr hlp0
      by_cases hltj:j < ma
      ·have hji:(j:Int) < ma:=by omega
       have hjl:j < l.length:=by rw [HMA.out];exact hltj
       obtain ⟨g,hg⟩:∃ g,aa1 = some ⟨g,0,none⟩:=by
        rcases hra.out.2 with ⟨e1,_⟩ | ⟨g,cap,cur,e1,_⟩
        ·cases e1;omega
        ·simp only [Value.slice.injEq] at e1;exact ⟨g,e1.1⟩
       subst hg
       obtain ⟨d0,d1,d2,d3,d4,d5,d6,d7⟩:=ask_cells HA2.out hjl hltj
       have hgl:g < wr.heap.size:=World.block_lt_of_cell? _ _ d0
       have HN:Hid (Ve.asksR rd l (j + 1) = Ve.askR (Ve.asksR rd l j) (anth l j)):=rfl
       have HLN:=hide (askR_len (Ve.asksR rd l j) (anth l j))
       have HSMN:=hide (Ve.askR_same (Ve.asksR rd l j) (anth l j))
       generalize anth l j = a at *
       generalize Ve.asksR rd l j = r1 at *
       have HB6:Hid (Below wr.heap.size wr (wr.alloc (.cells (askA a) 45))):=(Below.refl _ _).alloc (Nat.le_refl _) _
       have HR6:=hide (HR2.out.later HB6.out)
       have HF6:=hide (RFr.below HB6.out W.heap.size B X2)
       have HC:=hide (rask_any a _ HR6 hs (by omega) (by omega))
       unfold askV askA at *
       go_wp2_with fail
       refine HC.out.mono ?_
       rintro e w7 ⟨rfl,X7,vp7,vr7,h7,hf7⟩
       have hf8:=HF6.out.trans hf7
       have HA7:=hide (hf8.row HR2.out.ven HA2.out (by decide) HLA.out)
       have HS7:=hide (RFr.after HS2.out hf8)
       have HR7:=hide h7
       clear h7 hf7 hf8 HC d0 d1 d2 d3 d4 d5 d6 d7
       simp only []
       go_wp2
       refine ⟨⟨j + 1,X7,vp7,vr7,hltj,by go_num,?_,HS7.out,HA7.out,?_,?_,?_⟩,by simp [intOf];omega⟩
       ·rw [HN.out];exact HR7.out
       ·rw [HN.out];have:=HLN.out.1;omega
       ·rw [HN.out];have:=HLN.out.2;omega
       ·rw [HN.out];exact HSM2.out.trans HSMN.out
      ·have hji:¬ (j:Int) < ma:=by omega
       obtain rfl:j = ma:=by omega
       clear hj hltj hji
       obtain ⟨ra,hra0⟩:∃ ra,Ve.asksR rd l j = ra:=⟨_,rfl⟩
       simp only [hra0] at HR2 HRS HRR hlr2 hlp2 HSM2
       clear hra0
       go_wp2_with fail
       go_loopw [47] (fun kv wr=>∃ (i:Nat) (X':Vx) (vp vr:Value),i≤3∧kv = .int .i64 i∧Rnd w W.heap.size wr B X' wd h seed { S with dr:=dd } W.heap.size vp vr (Ve.tradesR wd h seed S.bt ra i)∧VStep W wr B X X'∧(Ve.tradesR wd h seed S.bt ra i).rp.length≤2000 + 300 * i∧(Ve.tradesR wd h seed S.bt ra i).pl.length≤12∧Ve.Same S.pf (Ve.tradesR wd h seed S.bt ra i).pf) (fun kv _=>3 - (intOf kv).toNat)
       case atStart=>exact ⟨0,X2,_,_,by omega,rfl,HR2.out,HS2.out,by show ra.rp.length≤_;omega,by show ra.pl.length≤_;omega,HSM2.out⟩
       case round =>
        obtain ⟨i,X3,vp3,vr3,hi,rfl,hr3,hs3,hlr3,hlp3,hsm⟩:=hrel
        have HSM3:=hide hsm
        clear hsm HSM2
        have HR3:=hide hr3;have HS3:=hide hs3
        clear hr3 hs3 HR2 HS2 HA2 hlr2 hlp2
        by_cases hlti:i < 3
        ·have hii:(i:Int) < 3:=by omega
         have HN:Hid (Ve.tradesR wd h seed S.bt ra (i + 1) = Ve.tradeR wd h (Ve.tradesR wd h seed S.bt ra i) i (Ve.seedAt seed S.bt i)):=rfl
         have HSMN:=hide (Ve.tradeR_same HR3.out.all hlti (Ve.seedAt seed S.bt i))
         have HLN:=hide (tradeR_len HR3.out.all hlti (Ve.seedAt seed S.bt i))
         generalize Ve.tradesR wd h seed S.bt ra i = r1 at *
         have hse:Ra.IsU (Ve.seedAt seed S.bt i):=by unfold Ve.seedAt Ra.IsU;omega
         have HC:=hide (fun W' R=>rtrade_any (w:=w) (b0:=W.heap.size) (B:=B) (X:=X3) (wd:=wd) (h:=h) (seed:=seed) (S:={ S with dr:=dd }) (q:=W.heap.size) (vp:=vp3) (vr:=vr3) (r:=r1) i hlti (Ve.seedAt seed S.bt i) hse W' R hs (by omega) (by omega))
         obtain ⟨XT,val,hcl,hmk⟩:=class_all (fun W'=>W'.heap[B.V]? = some (.cells (vRow B seed (setF { S with dr:=dd } r1)) 111 (0,0)))
         obtain ⟨x0,hx0⟩:=hmk wr.drew HR3.out.ven.blk
         have hnx:Nonempty XT:=⟨x0⟩
         have s0:∀ x,(val x).cell? ⟨B.V,0,none⟩ = some (.int .u32 seed):=fun x=>by rw [cell_of_row _ _ _ _ _ _ (hcl x)];rfl
         have s1:∀ x,(val x).cell? ⟨B.V,35,none⟩ = some (.int .i64 S.bt):=fun x=>by rw [cell_of_row _ _ _ _ _ _ (hcl x)];rfl
         have HMK:=hide hmk
         clear hmk hcl
         go_wp2
         refine region_many_calls (val:=val) [14] [0,1,2,3,4,5,6,7,8,9,10,11,12,13,14] (by kernel_rfl) (by kernel_rfl) x0 hx0 ?_
         rw [hx0]
         clear hx0
         iterate 14 (refine walkM_read rfl rfl (fun K hK=>?_);refine ⟨by rfl,?_⟩;unfold isRd;go_simp;refine hK _ ?_;clear hK K)
         refine walkM_call rfl rfl (fun K hK=>?_)
         refine ⟨by rfl,?_⟩
         unfold upM
         go_simp
         rw [seed_wrap seed S.bt i hbt hlti]
         have HRd:=hide (HR3.out.later drew_below')
         refine (HC.out _ HRd).mono ?_
         rintro e w5 ⟨rfl,X5,vp5,vr5,h5,hf5⟩
         have HR5:=hide h5;have HS5:=hide (RFr.after HS3.out ((RFr.below drew_below' W.heap.size B X3).trans hf5))
         clear h5 hf5
         refine ⟨_,rfl,HMK.out _ HR5.out.ven.blk,hK _ _ ?_⟩
         clear hK K HMK s0 s1 HC
         refine walkM_nil ?_
         clear x0 hnx
         clear val
         clear XT
         go_wp2
         refine ⟨⟨i + 1,X5,vp5,vr5,hlti,by go_num,?_,HS5.out,?_,?_,?_⟩,by simp [intOf];omega⟩
         ·rw [HN.out];exact HR5.out
         ·rw [HN.out];have:=HLN.out.1;omega
         ·rw [HN.out,HLN.out.2];exact hlp3
         ·rw [HN.out];exact HSM3.out.trans HSMN.out
        ·have hii:¬ (i:Int) < 3:=by omega
         obtain rfl:i = 3:=by omega
         clear hi hlti hii
         generalize Ve.tradesR wd h seed S.bt ra 3 = rt at *
         obtain ⟨h6,hs6⟩:=HR3.out.ven.setBt (S.bt + 1)
         have HR6:=hide (HR3.out.ownV (S':={ S with dr:=dd,bt:=S.bt + 1 }) h6)
         have HS6:=hide (HS3.out.trans hs6)
         clear h6 hs6
         have c35:wr.cell? ⟨B.V,35,none⟩ = some (.int .i64 S.bt):=HR3.out.ven.at 35
         have fz:∀ j,wr.frozen? ⟨B.V,j,none⟩ = false:=fun j=>HR3.out.ven.free j
         have hlV:B.V < wr.heap.size:=HR3.out.ven.lt
         have hqV:W.heap.size≠B.V:=blkT HR3.out.blk HR3.out.ven.blk (by decide)
         have c2:wr.cell? ⟨W.heap.size,2,none⟩ = some vr3:=HR3.out.cells.2.2
         go_wp2
         go_ret
         refine ⟨vr3,X3,rfl,?_,HS6.out,?_,?_,?_,?_⟩
         ·rw [HRS.out];exact HR6.out.ven
         ·rw [HRR.out];exact HR6.out.rp
         ·rw [HRS.out];exact HR6.out.all
         ·rw [HRR.out];exact hlr3
         ·rw [HRS.out];exact HSM3.out
end
section
variable {w W:World} {ad:Nat→Addr} {B:Vb} {X:Vx} {wd h seed:Int} {S:Ve.St}
def zeroS (S:Ve.St) (n:Nat):Ve.St:={ S with on:=upd S.on n false,nx:=upd S.nx n 0,la:=upd S.la n 0,lf:=upd S.lf n ⟨#[]⟩,dr:=upd S.dr n false }
theorem leave_zero (S:Ve.St) (n:Nat):Ve.leave (zeroS S n) n = Ve.gone S n:=by
 unfold Ve.leave zeroS Ve.gone
 simp only [upd_upd]
 rfl
theorem Ven.zero (H:Ven w W B X wd h seed S) {n:Nat} (hn:n < 6) :
  Ven w (((((W.setCell ⟨B.V,4 + n * 5,none⟩ (.bool false)).setCell ⟨B.V,4 + n * 5 + 1,none⟩ (.int .i64 0)).setCell ⟨B.V,4 + n * 5 + 2,none⟩ (.int .i64 0)).setCell ⟨B.V,4 + n * 5 + 3,none⟩ (.string ⟨#[]⟩)).setCell ⟨B.V,4 + n * 5 + 4,none⟩ (.bool false)) B X wd h seed (zeroS S n)∧VStep W (((((W.setCell ⟨B.V,4 + n * 5,none⟩ (.bool false)).setCell ⟨B.V,4 + n * 5 + 1,none⟩ (.int .i64 0)).setCell ⟨B.V,4 + n * 5 + 2,none⟩ (.int .i64 0)).setCell ⟨B.V,4 + n * 5 + 3,none⟩ (.string ⟨#[]⟩)).setCell ⟨B.V,4 + n * 5 + 4,none⟩ (.bool false)) B X X:=by
 obtain ⟨d1,d2⟩:=H.ses hn false 0 0
 obtain ⟨e1,e2⟩:=d1.set (S':={ sesS S n false 0 0 with lf:=upd S.lf n ⟨#[]⟩ }) hn (j:=3) (by decide) (.string ⟨#[]⟩) (fun c' j' _ hj'=>cAt_lf (sesS S n false 0 0) { sesS S n false 0 0 with lf:=upd S.lf n ⟨#[]⟩ } n ⟨#[]⟩ rfl rfl rfl rfl rfl c' j' hj') rfl rfl rfl ⟨rfl,rfl,rfl,rfl,rfl,rfl,rfl,rfl⟩
 obtain ⟨f1,f2⟩:=e1.set (S':=zeroS S n) hn (j:=4) (by decide) (.bool false) (fun c' j' _ hj'=>cAt_dr { sesS S n false 0 0 with lf:=upd S.lf n ⟨#[]⟩ } (zeroS S n) n false rfl rfl rfl rfl rfl c' j' hj') rfl rfl rfl ⟨rfl,rfl,rfl,rfl,rfl,rfl,rfl,rfl⟩
 exact ⟨f1,(d2.trans e2).trans f2⟩
theorem hang_la {S:Ve.St} (h:∀ c,c < 6→0≤S.la c∧S.la c≤1000000) (n:Nat):∀ c,c < 6→0≤(Ve.hang S n).la c∧(Ve.hang S n).la c≤1000000:=by
 intro c hc
 unfold Ve.hang
 split
 ·unfold Ve.gone upd
  simp only
  split
  ·exact ⟨by decide,by decide⟩
  ·exact h c hc
 ·exact h c hc
theorem hangs_la {S:Ve.St} (h:∀ c,c < 6→0≤S.la c∧S.la c≤1000000):∀ n,∀ c,c < 6→0≤(Ve.hangs S n).la c∧(Ve.hangs S n).la c≤1000000
 | 0=>h
 | n + 1=>hang_la (hangs_la h n) n
set_option maxHeartbeats 2000000 in
theorem hangUp_any (W:World) (H:Hid (Ven w W B X wd h seed S)) (hla:Hid (∀ c,c < 6→0≤S.la c∧S.la c≤1000000)):Calls Tryz.prog 57 #[.pointer (some ⟨B.V,0,none⟩)] W fun e w'=>e = .returned (.tuple #[])∧∃ X',Ven w w' B X' wd h seed (Ve.hangs S 6)∧VStep W w' B X X':=by
 go_enter Tryz.func57,Tryz.ntmps57
 go_wp2
 go_loopw [3] (fun kv wr=>∃ (k:Nat) (X':Vx),k≤6∧kv = .int .i64 k∧Ven w wr B X' wd h seed (Ve.hangs S k)∧VStep W wr B X X') (fun kv _=>6 - (intOf kv).toNat)
 case atStart=>exact ⟨0,X,by omega,rfl,H.out,VStep.refl _ _ _⟩
 case round =>
  obtain ⟨k,X',hk,rfl,hv,hst⟩:=hrel
  have HV:=hide hv;have HS:=hide hst
  clear hv hst
  by_cases hlt:k < 6
  ·have hki:(k:Int) < 6:=by omega
   have HN:Hid (Ve.hangs S (k + 1) = Ve.hang (Ve.hangs S k) k):=rfl
   have hl:=hangs_la hla.out k k hlt
   generalize Ve.hangs S k = T at *
   have HL:=hide (fun W'=>late_any (T.on k) (T.nx k) (T.la k) T.now W' ⟨hl.1,by omega⟩)
   have HH:Hid (Ve.hang T k = if Se.late (T.on k) (T.la k) T.now = true then Ve.gone T k else T):=rfl
   obtain ⟨XT,val,hcl,hmk⟩:=class_all (fun W'=>W'.heap[B.V]? = some (.cells (vRow B seed T) 111 (0,0)))
   obtain ⟨x0,hx0⟩:=hmk wr.drew HV.out.blk
   have hnx:Nonempty XT:=⟨x0⟩
   have s0:∀ x,(val x).cell? ⟨B.V,4 + k * 5,none⟩ = some (.bool (T.on k)):=fun x=>by rw [cell_of_row _ _ _ _ _ _ (hcl x)];exact vRow_conn B seed T hlt (j:=0) (by decide)
   have s1:∀ x,(val x).cell? ⟨B.V,4 + k * 5 + 1,none⟩ = some (.int .i64 (T.nx k)):=fun x=>by rw [cell_of_row _ _ _ _ _ _ (hcl x)];exact vRow_conn B seed T hlt (j:=1) (by decide)
   have s2:∀ x,(val x).cell? ⟨B.V,4 + k * 5 + 2,none⟩ = some (.int .i64 (T.la k)):=fun x=>by rw [cell_of_row _ _ _ _ _ _ (hcl x)];exact vRow_conn B seed T hlt (j:=2) (by decide)
   have s3:∀ x,(val x).cell? ⟨B.V,34,none⟩ = some (.int .i64 T.now):=fun x=>by rw [cell_of_row _ _ _ _ _ _ (hcl x)];rfl
   have HMK:=hide hmk
   clear hmk hcl hl
   unfold sV at HL
   go_wp2
   refine region_many_calls (val:=val) [11] [0,1,2,3,4,5,6,7,8,9,10,11] (by kernel_rfl) (by kernel_rfl) x0 hx0 ?_
   rw [hx0]
   clear hx0
   iterate 11 (refine walkM_read rfl rfl (fun K hK=>?_);refine ⟨by rfl,?_⟩;unfold isRd;go_simp;refine hK _ ?_;clear hK K)
   refine walkM_call rfl rfl (fun K hK=>?_)
   refine ⟨by rfl,?_⟩
   unfold upM
   go_simp
   refine (HL.out _).mono ?_
   rintro e w5 ⟨rfl,hb5⟩
   have hb5':Below wr.heap.size wr w5:=drew_below'.trans hb5
   have HV5:=hide (HV.out.later hb5');have HS5:=hide (HS.out.below hb5')
   refine ⟨_,rfl,HMK.out _ HV5.out.blk,hK _ _ ?_⟩
   clear hK K hb5 hb5' HL HMK s0 s1 s2 s3
   refine walkM_nil ?_
   clear x0 hnx
   clear val
   clear XT
   cases hlate:Se.late (T.on k) (T.la k) T.now with
   | false =>
    rw [hlate,if_neg (by decide)] at HH
    go_wp2
    exact ⟨⟨k + 1,X',hlt,by go_num,by rw [HN.out,HH.out];exact HV5.out,HS5.out⟩,by simp [intOf];omega⟩
   | true =>
    rw [hlate,if_pos rfl] at HH
    have c0:w5.cell? ⟨B.V,4 + k * 5,none⟩ = some (.bool (T.on k)):=HV5.out.conn hlt (j:=0) (by decide)
    have c1:w5.cell? ⟨B.V,4 + k * 5 + 1,none⟩ = some (.int .i64 (T.nx k)):=HV5.out.conn hlt (j:=1) (by decide)
    have c2:w5.cell? ⟨B.V,4 + k * 5 + 2,none⟩ = some (.int .i64 (T.la k)):=HV5.out.conn hlt (j:=2) (by decide)
    have c3:w5.cell? ⟨B.V,4 + k * 5 + 3,none⟩ = some (.string (T.lf k)):=HV5.out.conn hlt (j:=3) (by decide)
    have c4:w5.cell? ⟨B.V,4 + k * 5 + 4,none⟩ = some (.bool (T.dr k)):=HV5.out.conn hlt (j:=4) (by decide)
    have fz:∀ j,w5.frozen? ⟨B.V,j,none⟩ = false:=fun j=>HV5.out.free j
    obtain ⟨hz1,hz2⟩:=HV5.out.zero hlt
    have HLV:=hide (leave_any k hlt _ hz1)
    have HZ2:=hide hz2
    rw [leave_zero] at HLV
    clear hz1 hz2
    go_wp2_with fail
    refine HLV.out.mono ?_
    rintro e w6 ⟨rfl,X6,h6,hs6⟩
    have H6:=hide h6;have HS6:=hide ((HS5.out.trans HZ2.out).trans hs6)
    clear h6 hs6 HLV HZ2
    simp only []
    go_wp2
    exact ⟨⟨k + 1,X6,hlt,by go_num,by rw [HN.out,HH.out];exact H6.out,HS6.out⟩,by simp [intOf];omega⟩
  ·have hki:¬ (k:Int) < 6:=by omega
   obtain rfl:k = 6:=by omega
   go_wp2
   go_end0
   exact ⟨rfl,X',HV.out,HS.out⟩
end
theorem ouN_len (L:Nat→List Ask) (t:Nat):∀ k,(Ik.ouN L t k).length≤2 * k
 | 0=>by simp [Ik.ouN]
 | k + 1=>by
  have:=ouN_len L t k
  rw [Ik.ouN,List.length_append,List.length_take]
  omega
theorem recB_size (bt:Nat) (ds:List Nat) (l:List Ask) (hb:bt≤1000000) (hd:∀ d∈ds,d < 6) (hl:ds.length≤6) (ha:l.length≤12):(Ve.recB bt ds l).size≤10000:=by
 unfold Ve.recB Ve.recI
 rw [strOfNums_size]
 have h1:=dec_len (bt:Int) (by omega) (by omega)
 have h2:=recD_len ds hd ds.length
 have h3:=recA_len l l.length
 simp only [List.length_append,List.length_singleton]
 omega
theorem hangs_now (S:Ve.St):∀ n,(Ve.hangs S n).now = S.now∧(Ve.hangs S n).bt = S.bt∧(Ve.hangs S n).down = S.down∧(Ve.hangs S n).L = S.L∧(Ve.hangs S n).pf = S.pf∧(Ve.hangs S n).n = S.n∧(Ve.hangs S n).tp = S.tp∧(Ve.hangs S n).cut = S.cut∧(Ve.hangs S n).left = S.left
 | 0=>⟨rfl,rfl,rfl,rfl,rfl,rfl,rfl,rfl,rfl⟩
 | n + 1=>by
  have h:=hangs_now S n
  unfold Ve.hangs Ve.hang
  split
  ·exact h
  ·exact h
section
variable {w W W' W1:World} {ad:Nat→Addr} {B:Vb} {X X':Vx} {wd h seed:Int} {S:Ve.St}
theorem vappend_any (s:ByteArray) (W:World) (H:Ven w W B X wd h seed S) (hs:Sent w ad) (hsz:s.size≤10000) (htp:S.tp.length≤1048576) (hlf:S.left≤9223372036854775807) :
  Calls Tryz.prog 60 #[.pointer (some ⟨B.d,0,none⟩),.string s] W fun e w'=>∃ u dv',e = .returned u∧(Ve.appOk S s = true→u = .nilIface)∧(Ve.appOk S s = false→∃ x,u = .iface 362 x)∧Ven w w' B { X with dv:=dv' } wd h seed (Ve.appS S s)∧VStep W w' B X { X with dv:=dv' }∧Turned W w' (fun k=>k = B.d∨X.dv.ownBlock = some k):=by
 have hsW:=H.sent hs
 have h12:12 < w.heap.size:=World.block_lt_of_cell? _ _ hs.et
 by_cases hf:1048576 < S.tp.length + (12 + s.size)
 ·have hfull:Ve.full S s = true:=by unfold Ve.full;simpa using hf
  refine (append_full w.heap.size B.d X.dv S.tp s S.cut S.left W _ H.dk hsz htp hf (hsW.cell 7 (by decide))).mono ?_
  rintro e w' ⟨rfl,hb⟩
  have e2:Ve.appS S s = S:=by unfold Ve.appS;rw [if_pos hfull]
  have e3:Ve.appOk S s = false:=by unfold Ve.appOk;rw [hfull];rfl
  rw [e2,e3]
  exact ⟨_,X.dv,rfl,(fun e=>by cases e),fun _=>⟨_,rfl⟩,H.later hb,VStep.of_below hb B X,Turned.of_below hb _⟩
 ·have hfull:Ve.full S s = false:=by unfold Ve.full;simpa using hf
  refine (append_fit w.heap.size B.d X.dv S.tp s S.cut S.left W _ _ H.dk hsz (by omega) hlf (hsW.cell 8 (by decide)) (by omega) H.bl.size).mono ?_
  rintro e w' ⟨rfl,dv',hd,hfr⟩
  obtain ⟨k1,k2⟩:=H.tape hd hfr.turned hfr.new
  have e2:Ve.appS S s = { S with tp:=tpOf S.tp S.cut S.left s,left:=lfOf S.cut S.left s }:=by unfold Ve.appS;rw [hfull,if_neg (by decide)];rfl
  have e3:Ve.appOk S s = okOf S.cut S.left s:=by unfold Ve.appOk okOf;rw [hfull];rfl
  rw [e2,e3]
  refine ⟨_,dv',rfl,fun e=>by rw [if_pos e],fun e=>by rw [e,if_neg (by decide)];exact ⟨_,rfl⟩,k1,k2,hfr.turned⟩
theorem Ven.keepD {base:Nat} {e:TypeId} {sz n:Nat} {v:Value} {xs:List Value} (H:Ven w W B X wd h seed S) (ht:Turned W W' (fun k=>k = B.d∨X.dv.ownBlock = some k)) (hr:W.ownsRow base e sz v n xs) (he:e≠142∧e≠5):W'.ownsRow base e sz v n xs :=
 row_turned hr ht (fun k hk e1=>by
  obtain ⟨_,cur,h2⟩:=row_block hr hk
  rcases e1 with e1 | e1
  ·exact blkT h2 H.dk.cell he.1 e1
  ·exact H.dk.row.ne_type h2 he.2 e1)
theorem Ven.keepQ {qv':Nat→Value} {base:Nat} {e:TypeId} {sz n:Nat} {v:Value} {xs:List Value} (H:Ven w W B X wd h seed S) (hs:QStep W W' B.q X.qv qv') (hr:W.ownsRow base e sz v n xs) (he:e≠174∧e≠45):W'.ownsRow base e sz v n xs :=
 row_turned hr hs.turned (fun k hk e1=>by
  obtain ⟨_,cur,h2⟩:=row_block hr hk
  rcases e1 with rfl | ⟨c,hc,h1⟩
  ·exact blkT h2 H.it.cell he.1 rfl
  ·obtain ⟨_,cur2,h3⟩:=row_block (H.it.row c hc) h1
   exact blkT h2 h3 he.2 rfl)
set_option maxHeartbeats 4000000 in
theorem tick_down (W:World) (H:Hid (Ven w W B X wd h seed S)) (hd:S.down = true) :
  Calls Tryz.prog 17 #[.pointer (some ⟨B.V,0,none⟩)] W fun e w'=>e = .returned (.slice none 0 0)∧w' = W:=by
 have c36:W.cell? ⟨B.V,36,none⟩ = some (.bool true):=by rw [← hd];exact H.out.at 36
 clear hd
 go_enter Tryz.func17,Tryz.ntmps17
 go_wp2
 go_ret
 exact ⟨rfl,rfl⟩
set_option maxHeartbeats 4000000 in
theorem tick_up (W:World) (H:Hid (Ven w W B X wd h seed S)) (hs:Hid (Sent w ad)) (ht:Hid (Lib.TabBelow Tryz.prog w.heap.size w "internal/strconv.uint64pow10" .u64 Lib.pow10Tab)) (hd:S.down = false)
  (hall:Hid (FAll S.L S.pf S.n wd h)) (hla:Hid (∀ c,c < 6→0≤S.la c∧S.la c≤1000000)) (hnow:S.now≤1000000) (hbt:S.bt≤1000000) (htp:S.tp.length≤1048576) (hlf:S.left≤9223372036854775807) :
  Calls Tryz.prog 17 #[.pointer (some ⟨B.V,0,none⟩)] W fun e w'=>∃ v X',e = .returned v∧Ven w w' B X' wd h seed (Ve.tickS wd h seed S)∧VStep W w' B X X'∧Reps w' W.heap.size v (Ve.tickR wd h seed S)∧FAll (Ve.tickS wd h seed S).L (Ve.tickS wd h seed S).pf (Ve.tickS wd h seed S).n wd h∧(Ve.tickR wd h seed S).length≤2900∧Ve.Same S.pf (Ve.tickS wd h seed S).pf:=by
 have HTS:Hid (Ve.tickS wd h seed S = if (S.now + 1) % 3 = 0 then Ve.batchS wd h seed (Ve.tocks S) else Ve.tocks S):=by show _ = _;unfold Ve.tickS;rw [hd,if_neg (by decide)]
 have HTR:Hid (Ve.tickR wd h seed S = if (S.now + 1) % 3 = 0 then Ve.batchR wd h seed (Ve.tocks S) else []):=by show _ = _;unfold Ve.tickR;rw [hd,if_neg (by decide)]
 have c36:W.cell? ⟨B.V,36,none⟩ = some (.bool false):=by rw [← hd];exact H.out.at 36
 have c34:W.cell? ⟨B.V,34,none⟩ = some (.int .i64 S.now):=H.out.at 34
 have fz:∀ j,W.frozen? ⟨B.V,j,none⟩ = false:=fun j=>H.out.free j
 obtain ⟨h1,hs1⟩:=H.out.setNow (S.now + 1)
 have HHG:=hide (hangUp_any _ h1 hla)
 have HS1:=hide hs1
 clear h1 hs1
 have HN:=hide (hangs_now { S with now:=S.now + 1 } 6)
 have HTK:Hid (Ve.hangs { S with now:=S.now + 1 } 6 = Ve.tocks S):=rfl
 rw [HTK.out] at HHG HN
 generalize Ve.tocks S = T at *
 generalize Ve.tickS wd h seed S = TS at *
 generalize Ve.tickR wd h seed S = TR at *
 go_enter Tryz.func17,Tryz.ntmps17
 go_wp2_with fail
 refine HHG.out.mono ?_
 rintro e w2 ⟨rfl,X2,h2,hs2⟩
 have H2:=hide h2;have HS2:=hide (HS1.out.trans hs2)
 clear h2 hs2 HS1 HHG c36 c34 fz HTK
 have c34:w2.cell? ⟨B.V,34,none⟩ = some (.int .i64 ((S.now:Int) + 1)):=by
  have:=H2.out.at 34
  rw [this]
  show some (Value.int .i64 (T.now:Int)) = _
  rw [HN.out.1];rfl
 simp only []
 by_cases hm3:(S.now + 1) % 3 = 0
 ·have hmi:(((S.now:Int) + 1) % 3 != 0) = false:=by
   have:((S.now:Int) + 1) % 3 = 0:=by omega
   rw [this];rfl
  rw [if_pos hm3] at HTS HTR
  have hnT:T.bt = S.bt:=HN.out.2.1
  have HLV:=hide (fun W' (h':Below w2.heap.size w2 W')=>leaving_any W' (H2.out.later h'))
  have hout:(Ik.out T.Q T.t).length≤12:=ouN_len T.Q T.t 6
  have hdl:=dropsTo_len T.dr 6
  have HD6:=hide (dropsTo_lt T.dr 6)
  have HBS:Hid (Ve.batchS wd h seed T = if Ve.appOk (Ve.drained T) (Ve.recB T.bt (Ve.dropsTo T.dr 6) (Ik.out T.Q T.t)) = true then Ve.ranS wd h seed (Ve.appS (Ve.drained T) (Ve.recB T.bt (Ve.dropsTo T.dr 6) (Ik.out T.Q T.t))) (Ve.dropsTo T.dr 6) (Ik.out T.Q T.t) else { Ve.appS (Ve.drained T) (Ve.recB T.bt (Ve.dropsTo T.dr 6) (Ik.out T.Q T.t)) with down:=true }):=rfl
  have HBR:Hid (Ve.batchR wd h seed T = if Ve.appOk (Ve.drained T) (Ve.recB T.bt (Ve.dropsTo T.dr 6) (Ik.out T.Q T.t)) = true then (Ve.roundR wd h seed (Ve.appS (Ve.drained T) (Ve.recB T.bt (Ve.dropsTo T.dr 6) (Ik.out T.Q T.t))) (Ve.dropsTo T.dr 6) (Ik.out T.Q T.t)).rp else []):=rfl
  have hrsz:=recB_size T.bt (Ve.dropsTo T.dr 6) (Ik.out T.Q T.t) (by omega) HD6.out hdl hout
  rw [HBS.out] at HTS
  rw [HBR.out] at HTR
  clear HBS HBR
  generalize Ve.dropsTo T.dr 6 = ds at *
  obtain ⟨l,hl⟩:∃ l,Ik.out T.Q T.t = l:=⟨_,rfl⟩
  have HL:=hide hl
  rw [hl] at HTS HTR hout hrsz
  clear hl
  obtain ⟨XT,val,hcl,hmk⟩:=class_all (fun W'=>W'.heap[B.V]? = some (.cells (vRow B seed T) 111 (0,0)))
  obtain ⟨x0,hx0⟩:=hmk w2.drew H2.out.blk
  have hnx:Nonempty XT:=⟨x0⟩
  have s0:∀ x,(val x).cell? ⟨B.V,2,none⟩ = some (.pointer (some ⟨B.q,0,none⟩)):=fun x=>by rw [cell_of_row _ _ _ _ _ _ (hcl x)];rfl
  have HMK:=hide hmk
  clear hmk hcl
  go_wp2
  refine region_many_calls (val:=val) [1,6] [0,2,3,4,5,1,6,7,8] (by kernel_rfl) (by kernel_rfl) x0 hx0 ?_
  rw [hx0]
  clear hx0
  iterate 5 (refine walkM_read rfl rfl (fun K hK=>?_);refine ⟨by rfl,?_⟩;unfold isRd;go_simp;refine hK _ ?_;clear hK K)
  refine walkM_call rfl rfl (fun K hK=>?_)
  refine ⟨by rfl,?_⟩
  unfold upM
  go_simp
  refine (HLV.out _ drew_below').mono ?_
  rintro e w3 ⟨vd,rfl,hrd,hb3⟩
  have hb3':Below w2.heap.size w2 w3:=drew_below'.trans hb3
  have HB3:=hide hb3'
  have HD3:=hide hrd
  have H3:=hide (H2.out.later hb3');have HS3:=hide (HS2.out.below hb3')
  refine ⟨_,rfl,HMK.out _ H3.out.blk,hK _ _ ?_⟩
  clear hK K hb3 hb3' HLV hrd
  refine walkM_call rfl rfl (fun K hK=>?_)
  refine ⟨by rfl,?_⟩
  unfold upM
  go_simp
  refine (drain_any _ H3.out.it).mono ?_
  rintro e w4 ⟨va,qv4,rfl,hra,hit,hqs,_⟩
  rw [HL.out] at hra
  obtain ⟨h4,hs4⟩:=H3.out.take hit hqs
  have H4:Hid (Ven w w4 B { X2 with qv:=qv4 } wd h seed (Ve.drained T)):=h4
  have HS4:=hide (HS3.out.trans hs4)
  have HD4:=hide (H3.out.keepQ hqs HD3.out (by decide))
  have HA4:=hide hra
  refine ⟨_,rfl,HMK.out _ H4.out.blk,hK _ _ ?_⟩
  clear hK K h4 hs4 hra hit hqs s0 HMK HD3
  iterate 2 (refine walkM_read rfl rfl (fun K hK=>?_);refine ⟨by rfl,?_⟩;unfold isRd;go_simp;refine hK _ ?_;clear hK K)
  refine walkM_nil ?_
  clear x0 hnx
  clear val
  clear XT
  obtain ⟨ad1,cd1,hvd⟩:=row_form HD4.out
  obtain ⟨aa1,ca1,hva⟩:=row_form HA4.out
  subst hvd hva
  generalize hS4:Ve.drained T = S4 at *
  have hb4:S4.bt = T.bt:=by rw [← hS4];rfl
  have ht4:S4.tp = T.tp:=by rw [← hS4];rfl
  have hl4:S4.left = T.left:=by rw [← hS4];rfl
  have HALL4:Hid (FAll S4.L S4.pf S4.n wd h):=by
   obtain ⟨_,_,_,e1,e2,e3,_⟩:=HN.out
   show FAll _ _ _ _ _
   rw [← hS4]
   show FAll T.L T.pf T.n wd h
   rw [e1,e2,e3];exact hall.out
  have htp4:S4.tp.length≤1048576:=by rw [ht4,HN.out.2.2.2.2.2.2.1];exact htp
  have hlf4:S4.left≤9223372036854775807:=by rw [hl4,HN.out.2.2.2.2.2.2.2.2];exact hlf
  rw [← hb4] at HTS HTR hrsz
  have hbt4:S4.bt≤1000000:=by omega
  clear HL hb4 hnT ht4 hl4
  go_wp2_with fail
  generalize hX4:({ X2 with qv:=qv4 }:Vx) = X4 at *
  generalize hrb:Ve.recB S4.bt ds l = rb at *
  have HRC:=hide (fun W' (h':Below w4.heap.size w4 W')=>vrecord_any S4.bt ds l _ _ _ _ W' hs ht ((H4.out.later h').bl) (by omega) (row_later HD4.out h') (row_later HA4.out h') HD6 hdl hout)
  rw [hrb] at HRC
  obtain ⟨XT,val,hcl,hmk⟩:=class_all (fun W'=>W'.heap[B.V]? = some (.cells (vRow B seed S4) 111 (0,0)))
  obtain ⟨x0,hx0⟩:=hmk w4.drew H4.out.blk
  have hnx:Nonempty XT:=⟨x0⟩
  have s0:∀ x,(val x).cell? ⟨B.V,3,none⟩ = some (.pointer (some ⟨B.d,0,none⟩)):=fun x=>by rw [cell_of_row _ _ _ _ _ _ (hcl x)];rfl
  have s1:∀ x,(val x).cell? ⟨B.V,35,none⟩ = some (.int .i64 S4.bt):=fun x=>by rw [cell_of_row _ _ _ _ _ _ (hcl x)];rfl
  have HMK:=hide hmk
  clear hmk hcl
  refine region_many_calls (val:=val) [10,11] [0,1,2,3,4,5,6,7,8,9,10,11,12] (by kernel_rfl) (by kernel_rfl) x0 hx0 ?_
  rw [hx0]
  clear hx0
  iterate 10 (refine walkM_read rfl rfl (fun K hK=>?_);refine ⟨by rfl,?_⟩;unfold isRd;go_simp;refine hK _ ?_;clear hK K)
  refine walkM_call rfl rfl (fun K hK=>?_)
  refine ⟨by rfl,?_⟩
  unfold upM
  go_simp
  refine (HRC.out _ drew_below').mono ?_
  rintro e w5 ⟨rfl,hb5⟩
  have hb5':Below w4.heap.size w4 w5:=drew_below'.trans hb5
  have H5:=hide (H4.out.later hb5');have HS5:=hide (HS4.out.below hb5')
  have HD5:=hide (row_later HD4.out hb5');have HA5:=hide (row_later HA4.out hb5')
  refine ⟨_,rfl,HMK.out _ H5.out.blk,hK _ _ ?_⟩
  clear hK K hb5 hb5' HRC
  have HAP:=hide (vappend_any rb w5 H5.out hs.out hrsz htp4 hlf4)
  have hk6:Hid ((Ve.appS S4 rb).bt = S4.bt∧(Ve.appS S4 rb).L = S4.L∧(Ve.appS S4 rb).pf = S4.pf∧(Ve.appS S4 rb).n = S4.n):=by show _∧_;unfold Ve.appS;split <;> exact ⟨rfl,rfl,rfl,rfl⟩
  have HVR:Hid (vRow B seed (Ve.appS S4 rb) = vRow B seed S4):=by show _ = _;unfold Ve.appS;split <;> rfl
  generalize hS6:Ve.appS S4 rb = S6 at *
  refine walkM_call rfl rfl (fun K hK=>?_)
  refine ⟨by rfl,?_⟩
  unfold upM
  go_simp
  refine HAP.out.mono ?_
  rintro e w6 ⟨u,dv6,rfl,hu1,hu2,h6,hs6,ht6⟩
  have H6:=hide h6;have HS6:=hide (HS5.out.trans hs6)
  have HD6':=hide (H5.out.keepD ht6 HD5.out (by decide));have HA6:=hide (H5.out.keepD ht6 HA5.out (by decide))
  refine ⟨_,rfl,HMK.out _ (by rw [← HVR.out];exact H6.out.blk),hK _ _ ?_⟩
  clear hK K h6 hs6 ht6 HAP s0 s1 HMK HD5 HA5 HD4 HA4 HVR
  cases happ:Ve.appOk S4 rb with
  | true =>
   obtain rfl:=hu1 happ
   rw [happ,if_pos rfl] at HTS HTR
   refine walkM_read rfl rfl (fun K hK=>?_);refine ⟨by rfl,?_⟩;unfold isRd;go_simp;refine hK _ ?_;clear hK K
   refine walkM_nil ?_
   clear x0 hnx
   clear val
   clear XT
   have HALL6:Hid (FAll S6.L S6.pf S6.n wd h):=by
    obtain ⟨_,e1,e2,e3⟩:=hk6.out
    show FAll _ _ _ _ _
    rw [e1,e2,e3];exact HALL4.out
   have HRUN:=hide (vrun_any ds l _ _ _ _ w6 H6 hs HALL6 (by rw [hk6.out.1];omega) HD6' HA6 HD6 hdl hout)
   go_wp2_with fail
   refine HRUN.out.mono ?_
   rintro e w7 ⟨v7,X7,rfl,h7,hs7,hr7,ha7,hn7,hm7⟩
   have H7:=hide h7;have HS7:=hide (HS6.out.trans hs7)
   have HR7:Hid (Reps w7 W.heap.size v7 (Ve.roundR wd h seed S6 ds l).rp):=row_base hr7 HS6.out.turned.size
   have HA7:=hide ha7
   have HM7:Hid (Ve.Same S.pf (Ve.ranS wd h seed S6 ds l).pf):=by
    have e2:=hk6.out.2.2.1
    rw [e2] at hm7
    have e4:S4.pf = S.pf:=by rw [← hS4];exact HN.out.2.2.2.2.1
    rw [e4] at hm7;exact hm7
   clear h7 hs7 hr7 ha7 hm7 HRUN
   simp only []
   go_wp2
   go_ret
   rw [HTS.out,HTR.out]
   exact ⟨_,X7,rfl,H7.out,HS7.out,HR7.out,HA7.out,hn7,HM7.out⟩
  | false =>
   obtain ⟨x,rfl⟩:=hu2 happ
   rw [happ,if_neg (by decide)] at HTS HTR
   refine walkM_read rfl rfl (fun K hK=>?_);refine ⟨by rfl,?_⟩;unfold isRd;go_simp;refine hK _ ?_;clear hK K
   refine walkM_nil ?_
   clear x0 hnx
   clear val
   clear XT
   obtain ⟨h7,hs7⟩:=H6.out.setDown true
   have H7:=hide h7;have HS7:=hide (HS6.out.trans hs7)
   clear h7 hs7
   have c36:w6.cell? ⟨B.V,36,none⟩ = some (.bool S6.down):=H6.out.at 36
   have fz:∀ j,w6.frozen? ⟨B.V,j,none⟩ = false:=fun j=>H6.out.free j
   go_wp2
   go_ret
   rw [HTS.out,HTR.out]
   obtain ⟨_,e1,e2,e3⟩:=hk6.out
   refine ⟨_,_,rfl,H7.out,HS7.out,World.ownsRow_nil _ _ _ _,?_,by simp,?_⟩
   ·show FAll S6.L S6.pf S6.n wd h
    rw [e1,e2,e3];exact HALL4.out
   ·show Ve.Same S.pf S6.pf
    rw [e2,← hS4]
    show Ve.Same S.pf T.pf
    rw [HN.out.2.2.2.2.1];exact Ve.Same.refl _
 ·have hmi:(((S.now:Int) + 1) % 3 != 0) = true:=by
   have:((S.now:Int) + 1) % 3≠0:=by omega
   simpa using this
  rw [if_neg hm3] at HTS HTR
  go_wp2
  go_ret
  rw [HTS.out,HTR.out]
  obtain ⟨_,_,_,e1,e2,e3,_⟩:=HN.out
  refine ⟨_,X2,rfl,H2.out,HS2.out,World.ownsRow_nil _ _ _ _,?_,by simp,?_⟩
  ·rw [e1,e2,e3];exact hall.out
  ·rw [e2];exact Ve.Same.refl _
structure Ve.Ok (N:Nat) (wd h:Int) (S:Ve.St):Prop where
 all:FAll S.L S.pf S.n wd h
 la:∀ c,c < 6→0≤S.la c∧S.la c≤N
 now:S.now≤N
 bt:S.bt≤N
 tp:S.tp.length≤1048576
 left:S.left≤9223372036854775807
 lf:∀ c,c < 6→(S.lf c).size < 30
theorem appS_len (S:Ve.St) (s:ByteArray) (ht:S.tp.length≤1048576):(Ve.appS S s).tp.length≤1048576∧(Ve.appS S s).left≤S.left∧(Ve.appS S s).now = S.now∧(Ve.appS S s).bt = S.bt∧(Ve.appS S s).la = S.la∧(Ve.appS S s).lf = S.lf:=by
 unfold Ve.appS
 by_cases hf:Ve.full S s = true
 ·rw [if_pos hf];exact ⟨ht,Nat.le_refl _,rfl,rfl,rfl,rfl⟩
 ·rw [if_neg hf]
  have h1:¬ 1048576 < S.tp.length + (12 + s.size):=by
   intro h;apply hf;unfold Ve.full;simpa using h
  have hlen:(Tp.rec s.data.toList).length = 12 + s.size:=by rw [Tp.rec_length,size_list]
  refine ⟨?_,?_,rfl,rfl,rfl,rfl⟩
  ·show (S.tp++_).length≤_
   rw [List.length_append]
   split
   ·rw [List.length_take];omega
   ·omega
  ·show (if S.cut = true then S.left - (12 + s.size) else S.left)≤S.left
   split <;> omega
theorem hangs_lf {S:Ve.St} (h:∀ c,c < 6→(S.lf c).size < 30):∀ n,∀ c,c < 6→((Ve.hangs S n).lf c).size < 30
 | 0=>h
 | n + 1=>fun c hc=>by
  unfold Ve.hangs Ve.hang
  split
  ·unfold Ve.gone upd
   simp only
   split
   ·decide
   ·exact hangs_lf h n c hc
  ·exact hangs_lf h n c hc
theorem hangs_laN {S:Ve.St} {N:Nat} (h:∀ c,c < 6→0≤S.la c∧S.la c≤N):∀ n,∀ c,c < 6→0≤(Ve.hangs S n).la c∧(Ve.hangs S n).la c≤N
 | 0=>h
 | n + 1=>fun c hc=>by
  unfold Ve.hangs Ve.hang
  split
  ·unfold Ve.gone upd
   simp only
   split
   ·exact ⟨by omega,by omega⟩
   ·exact hangs_laN h n c hc
  ·exact hangs_laN h n c hc
theorem tick_ok {N:Nat} (hok:Ve.Ok N wd h S) (ha:FAll (Ve.tickS wd h seed S).L (Ve.tickS wd h seed S).pf (Ve.tickS wd h seed S).n wd h):Ve.Ok (N + 1) wd h (Ve.tickS wd h seed S):=by
 have hn1:=hok.now;have hb1:=hok.bt
 have hT:∀ c,c < 6→0≤(Ve.tocks S).la c∧(Ve.tocks S).la c≤((N + 1:Nat):Int):=hangs_laN (S:={ S with now:=S.now + 1 }) (fun c hc=>⟨(hok.la c hc).1,by have:=(hok.la c hc).2;show S.la c≤_;omega⟩) 6
 have hL:∀ c,c < 6→((Ve.tocks S).lf c).size < 30:=hangs_lf (S:={ S with now:=S.now + 1 }) hok.lf 6
 obtain ⟨e1,e2,e3,e4,e5,e6,e7,e8,e9⟩:=hangs_now { S with now:=S.now + 1 } 6
 have f1:(Ve.tocks S).now = S.now + 1:=e1
 have f2:(Ve.tocks S).bt = S.bt:=e2
 have f7:(Ve.tocks S).tp = S.tp:=e7
 have f9:(Ve.tocks S).left = S.left:=e9
 have htp:=hok.tp;have hlf:=hok.left
 obtain ⟨g1,g2,g3,g4,g5,g6⟩:=appS_len (Ve.drained (Ve.tocks S)) (Ve.recS (Ve.tocks S)) (by show (Ve.tocks S).tp.length≤_;rw [f7];exact htp)
 have g3':(Ve.appS (Ve.drained (Ve.tocks S)) (Ve.recS (Ve.tocks S))).now = (Ve.tocks S).now:=g3
 have g4':(Ve.appS (Ve.drained (Ve.tocks S)) (Ve.recS (Ve.tocks S))).bt = (Ve.tocks S).bt:=g4
 have g2':(Ve.appS (Ve.drained (Ve.tocks S)) (Ve.recS (Ve.tocks S))).left≤(Ve.tocks S).left:=g2
 have g5':(Ve.appS (Ve.drained (Ve.tocks S)) (Ve.recS (Ve.tocks S))).la = (Ve.tocks S).la:=g5
 have g6':(Ve.appS (Ve.drained (Ve.tocks S)) (Ve.recS (Ve.tocks S))).lf = (Ve.tocks S).lf:=g6
 clear e1 e2 e3 e4 e5 e6 e7 e8 e9 g2 g3 g4 g5 g6
 obtain ⟨A,hA⟩:∃ A,Ve.appS (Ve.drained (Ve.tocks S)) (Ve.recS (Ve.tocks S)) = A:=⟨_,rfl⟩
 rw [hA] at g1 g2' g3' g4' g5' g6'
 by_cases hd:S.down = true
 ·have e:Ve.tickS wd h seed S = S:=by unfold Ve.tickS;rw [if_pos hd]
  rw [e] at ha ⊢
  exact ⟨ha,fun c hc=>⟨(hok.la c hc).1,by have:=(hok.la c hc).2;omega⟩,by omega,by omega,htp,hlf,hok.lf⟩
 ·by_cases hm:(S.now + 1) % 3 = 0
  ·by_cases happ:Ve.appOk (Ve.drained (Ve.tocks S)) (Ve.recS (Ve.tocks S)) = true
   ·have e:Ve.tickS wd h seed S = Ve.ranS wd h seed A (Ve.dropsTo (Ve.tocks S).dr 6) (Ik.out (Ve.tocks S).Q (Ve.tocks S).t):=by
     unfold Ve.tickS Ve.batchS;rw [if_neg hd,if_pos hm,if_pos happ,hA]
    rw [e] at ha ⊢
    refine ⟨ha,?_,?_,?_,g1,?_,?_⟩
    ·show ∀ c,c < 6→0≤A.la c∧A.la c≤((N + 1:Nat):Int)
     rw [g5'];exact hT
    ·show A.now≤_
     omega
    ·show A.bt + 1≤_
     omega
    ·show A.left≤_
     omega
    ·show ∀ c,c < 6→(A.lf c).size < 30
     rw [g6'];exact hL
   ·have e:Ve.tickS wd h seed S = { A with down:=true }:=by
     unfold Ve.tickS Ve.batchS;rw [if_neg hd,if_pos hm,if_neg happ,hA]
    rw [e] at ha ⊢
    refine ⟨ha,?_,?_,?_,g1,?_,?_⟩
    ·show ∀ c,c < 6→0≤A.la c∧A.la c≤((N + 1:Nat):Int)
     rw [g5'];exact hT
    ·show A.now≤_
     omega
    ·show A.bt≤_
     omega
    ·show A.left≤_
     omega
    ·show ∀ c,c < 6→(A.lf c).size < 30
     rw [g6'];exact hL
  ·have e:Ve.tickS wd h seed S = Ve.tocks S:=by unfold Ve.tickS;rw [if_neg hd,if_neg hm]
   rw [e] at ha ⊢
   exact ⟨ha,hT,by omega,by omega,by rw [f7];exact htp,by omega,hL⟩
theorem tick_any (W:World) (H:Ven w W B X wd h seed S) (hs:Sent w ad) (ht:Lib.TabBelow Tryz.prog w.heap.size w "internal/strconv.uint64pow10" .u64 Lib.pow10Tab) {N:Nat} (hok:Ve.Ok N wd h S) (hN:N≤1000000) :
  Calls Tryz.prog 17 #[.pointer (some ⟨B.V,0,none⟩)] W fun e w'=>∃ v X',e = .returned v∧Ven w w' B X' wd h seed (Ve.tickS wd h seed S)∧VStep W w' B X X'∧Reps w' W.heap.size v (Ve.tickR wd h seed S)∧Ve.Ok (N + 1) wd h (Ve.tickS wd h seed S)∧(Ve.tickR wd h seed S).length≤2900∧Ve.Same S.pf (Ve.tickS wd h seed S).pf:=by
 cases hd:S.down with
 | true =>
  refine (tick_down W H hd).mono ?_
  rintro e w' ⟨rfl,rfl⟩
  have e1:Ve.tickS wd h seed S = S:=by unfold Ve.tickS;rw [if_pos hd]
  have e2:Ve.tickR wd h seed S = []:=by unfold Ve.tickR;rw [if_pos hd]
  have e3:=tick_ok (seed:=seed) hok (by rw [e1];exact hok.all)
  rw [e2]
  rw [e1] at e3 ⊢
  exact ⟨_,X,rfl,H,VStep.refl _ _ _,World.ownsRow_nil _ _ _ _,e3,by simp,Ve.Same.refl _⟩
 | false =>
  have hn:=hok.now;have hb:=hok.bt
  refine (tick_up W H hs ht hd hok.all (fun c hc=>⟨(hok.la c hc).1,by have:=(hok.la c hc).2;omega⟩) (by omega) (by omega) hok.tp hok.left).mono ?_
  rintro e w' ⟨v,X',rfl,h1,h2,h3,h4,h5,h6⟩
  exact ⟨v,X',rfl,h1,h2,h3,tick_ok hok h4,h5,h6⟩
end
def Ve.init (ref cash stock:Int):Ve.St:=⟨fun _=>[],Fl.gift cash stock 6,Fl.bands ref,fun _=>[],0,fun _=>false,fun _=>0,fun _=>0,fun _=>⟨#[]⟩,fun _=>false,[],false,0,0,0,false⟩
section
variable {w w0 W:World} {ad:Nat→Addr} {B:Vb} {X:Vx} {wd h seed:Int} {S:Ve.St}
theorem Ven.rebase (hb:Below w0.heap.size w0 w) (H:Ven w W B X wd h seed S):Ven w0 W B X wd h seed S:=by
 have hz:=hb.size
 refine ⟨H.blk,⟨H.fl.blk,H.fl.it,fun i hi=>⟨(H.fl.bk i hi).cell,Nat.le_trans hz (H.fl.bk i hi).lo,row_base (H.fl.bk i hi).row hz⟩,H.fl.neI,H.fl.ne,H.fl.ap,H.fl.pu,Nat.le_trans hz H.fl.lo,Nat.le_trans hz H.fl.lop,fun i hi=>Nat.le_trans hz (H.fl.loI i hi),hb.trans (H.fl.bl.mono hz)⟩,⟨H.it.cell,Nat.le_trans hz H.it.lo,H.it.turn,fun c hc=>row_base (H.it.row c hc) hz,H.it.few,H.it.apart⟩,⟨H.dk.cell,?_,Nat.le_trans hz H.dk.lo⟩,Nat.le_trans hz H.lo⟩
 obtain ⟨g,cap,cur,fz,e1,e2,e3⟩:=H.dk.row
 exact ⟨g,cap,cur,fz,e1,Nat.le_trans hz e2,e3⟩
def cfgA (seed wd h ref cash stock:Int):Array Value:=#[.int .u32 seed,.int .i64 wd,.int .i64 h,.int .i64 ref,.int .i64 cash,.int .i64 stock]
structure NewOn (w W:World) (B:Vb) (wd h seed ref cash stock:Int):Prop where
 blk:W.heap[B.V]? = some (.cells (vRow B seed (Ve.init ref cash stock)) 111 (0,0))
 fl:PFl w W B.F B.P B.I B.b (fun _=>.slice none 0 0) (fun _=>[]) (Fl.gift cash stock 6) (Fl.bands ref) wd h
 it:Itk W w.heap.size B.q (fun _=>.slice none 0 0) 0 (fun _=>[])
 lo:w.heap.size≤B.V
theorem NewOn.ven {ref cash stock:Int} {dv:Value} {tp:List UInt8} {cut:Bool} {left:Nat} (N:NewOn w W B wd h seed ref cash stock) (hb:Below w0.heap.size w0 w) (hd:Dsk W w0.heap.size B.d dv tp cut left):Ven w0 W B ⟨fun _=>.slice none 0 0,fun _=>.slice none 0 0,dv⟩ wd h seed { Ve.init ref cash stock with tp:=tp,cut:=cut,left:=left }:=by
 have hz:=hb.size
 exact ⟨N.blk,⟨N.fl.blk,N.fl.it,fun i hi=>⟨(N.fl.bk i hi).cell,Nat.le_trans hz (N.fl.bk i hi).lo,row_base (N.fl.bk i hi).row hz⟩,N.fl.neI,N.fl.ne,N.fl.ap,N.fl.pu,Nat.le_trans hz N.fl.lo,Nat.le_trans hz N.fl.lop,fun i hi=>Nat.le_trans hz (N.fl.loI i hi),hb.trans (N.fl.bl.mono hz)⟩,⟨N.it.cell,Nat.le_trans hz N.it.lo,N.it.turn,fun c hc=>row_base (N.it.row c hc) hz,N.it.few,N.it.apart⟩,hd,Nat.le_trans hz N.lo⟩
set_option maxHeartbeats 4000000 in
theorem vnewOn_any (seed wd h ref cash stock:Int) (d:Nat) (W:World) (hs:Hid (Sent W ad)) (hr:Hid (Bd.rOk wd h = true)) (hf:Hid (Wi.withinB ref 1 1000 = true)) (HF:Hid (Fl.Fits cash stock)) :
  Calls Tryz.prog 46 #[.agg (cfgA seed wd h ref cash stock),.pointer (some ⟨d,0,none⟩)] W fun e w'=>∃ B:Vb,e = .returned (.tuple #[.pointer (some ⟨B.V,0,none⟩),.nilIface])∧B.d = d∧NewOn W w' B wd h seed ref cash stock:=by
 have HB1:Hid (Below W.heap.size W (W.alloc (.cells (cfgA seed wd h ref cash stock) 34))):=(Below.refl _ _).alloc (Nat.le_refl _) _
 have hblk1:(W.alloc (.cells (cfgA seed wd h ref cash stock) 34)).heap[W.heap.size]? = some (.cells (cfgA seed wd h ref cash stock) 34 (0,0)):=heap_alloc_new _ _
 have hsz1:(W.alloc (.cells (cfgA seed wd h ref cash stock) 34)).heap.size = W.heap.size + 1:=Array.size_push ..
 have HBLK:=hide hblk1
 have HSZ1:=hide hsz1
 have HNEW:=hide (new_ok wd h ref cash stock _ (hs.out.later HB1.out).aer hr hf HF)
 clear hblk1 hsz1
 unfold bandV at HNEW
 unfold cfgA at *
 go_enter Tryz.func46,Tryz.ntmps46
 go_wp2_with fail
 refine HNEW.out.mono ?_
 rintro e w3 ⟨F,P,I,b,rfl,hfl⟩
 have HFL:=hide hfl
 have HB3:=hide hfl.bl
 clear hfl HNEW
 have hc:w3.heap[W.heap.size]? = some (.cells #[.int .u32 seed,.int .i64 wd,.int .i64 h,.int .i64 ref,.int .i64 cash,.int .i64 stock] 34 (0,0)):=by
  rw [HB3.out.block _ (by rw [HSZ1.out];omega)];exact HBLK.out
 obtain ⟨XT,val,hcl,hmk⟩:=class_all (fun W'=>W'.heap[W.heap.size]? = some (.cells #[.int .u32 seed,.int .i64 wd,.int .i64 h,.int .i64 ref,.int .i64 cash,.int .i64 stock] 34 (0,0)))
 obtain ⟨x0,hx0⟩:=hmk w3.drew hc
 have hnx:Nonempty XT:=⟨x0⟩
 have s0:∀ x,(val x).cell? ⟨W.heap.size,0,none⟩ = some (.int .u32 seed):=fun x=>by rw [cell_of_row _ _ _ _ _ _ (hcl x)];rfl
 have HMK:=hide hmk;have HC:=hide hc
 clear hmk hcl hc
 simp only []
 go_wp2
 refine region_many_calls (val:=val) [3,6] [0,1,2,4,3,5,6,7,8] (by kernel_rfl) (by kernel_rfl) x0 hx0 ?_
 rw [hx0]
 clear hx0
 iterate 4 (refine walkM_read rfl rfl (fun K hK=>?_);refine ⟨by rfl,?_⟩;unfold isRd;go_simp;refine hK _ ?_;clear hK K)
 refine walkM_call rfl rfl (fun K hK=>?_)
 refine ⟨by rfl,?_⟩
 unfold upM
 go_simp
 refine (i_new_any _).mono ?_
 rintro e w4 ⟨rfl,hit,hb4⟩
 have hb4':Below w3.heap.size w3 w4:=drew_below'.trans hb4
 have HIT:=hide hit
 have HB4:=hide hb4'
 have HC4:Hid (w4.heap[W.heap.size]? = some (.cells #[.int .u32 seed,.int .i64 wd,.int .i64 h,.int .i64 ref,.int .i64 cash,.int .i64 stock] 34 (0,0))):=s_row_later hb4' HC.out
 refine ⟨_,rfl,HMK.out _ HC4.out,hK _ _ ?_⟩
 clear hK K hb4 hb4' hit
 refine walkM_read rfl rfl (fun K hK=>?_);refine ⟨by rfl,?_⟩;unfold isRd;go_simp;refine hK _ ?_;clear hK K
 refine walkM_call rfl rfl (fun K hK=>?_)
 refine ⟨by rfl,?_⟩
 unfold upM
 go_simp
 refine ⟨HMK.out _ ?_,hK _ _ ?_⟩
 ·exact s_row_later ((Below.refl _ _).alloc (Nat.le_refl _) _) HC4.out
 clear hK K HMK s0
 iterate 2 (refine walkM_read rfl rfl (fun K hK=>?_);refine ⟨by rfl,?_⟩;unfold isRd;go_simp;refine hK _ ?_;clear hK K)
 refine walkM_nil ?_
 clear x0 hnx
 clear val
 clear XT
 have hb5:Below w4.heap.size w4 (w4.alloc (.cells (vRow ⟨w4.heap.size,F,P,w3.heap.size,d,I,b⟩ seed (Ve.init ref cash stock)) 111)):=(Below.refl _ _).alloc (Nat.le_refl _) _
 have h34:=HB4.out.size;have h13:=HB3.out.size
 have h01:W.heap.size≤w3.heap.size:=Nat.le_trans HB1.out.size h13
 have hb35:=HB4.out.trans (hb5.mono h34)
 have HV:Hid (NewOn W (w4.alloc (.cells (vRow ⟨w4.heap.size,F,P,w3.heap.size,d,I,b⟩ seed (Ve.init ref cash stock)) 111)) ⟨w4.heap.size,F,P,w3.heap.size,d,I,b⟩ wd h seed ref cash stock):=by
  have k:=HIT.out.later hb5
  have f:=HFL.out.later hb35
  have hz:=HB1.out.size
  refine ⟨heap_alloc_new _ _,⟨f.blk,f.it,fun i hi=>⟨(f.bk i hi).cell,Nat.le_trans hz (f.bk i hi).lo,row_base (f.bk i hi).row hz⟩,f.neI,f.ne,f.ap,f.pu,Nat.le_trans hz f.lo,Nat.le_trans hz f.lop,fun i hi=>Nat.le_trans hz (f.loI i hi),HB1.out.trans (f.bl.mono hz)⟩,⟨k.cell,h01,k.turn,fun c hc=>row_base (k.row c hc) h01,k.few,k.apart⟩,Nat.le_trans h01 h34⟩
 clear hb5 h34 h13 hb35 h01
 go_wp2
 go_ret2
 exact ⟨⟨w4.heap.size,F,P,w3.heap.size,d,I,b⟩,rfl,rfl,HV.out⟩
set_option maxHeartbeats 4000000 in
theorem vnew_any (seed wd h ref cash stock:Int) (W:World) (hs:Hid (Sent W ad)) (hr:Hid (Bd.rOk wd h = true)) (hf:Hid (Wi.withinB ref 1 1000 = true)) (HF:Hid (Fl.Fits cash stock)) :
  Calls Tryz.prog 10 #[.agg (cfgA seed wd h ref cash stock)] W fun e w'=>∃ B X,e = .returned (.tuple #[.pointer (some ⟨B.V,0,none⟩),.nilIface])∧Ven W w' B X wd h seed (Ve.init ref cash stock):=by
 have HB1:Hid (Below W.heap.size W (W.alloc (.cells (cfgA seed wd h ref cash stock) 34))):=(Below.refl _ _).alloc (Nat.le_refl _) _
 have hblk1:(W.alloc (.cells (cfgA seed wd h ref cash stock) 34)).heap[W.heap.size]? = some (.cells (cfgA seed wd h ref cash stock) 34 (0,0)):=heap_alloc_new _ _
 have hsz1:(W.alloc (.cells (cfgA seed wd h ref cash stock) 34)).heap.size = W.heap.size + 1:=Array.size_push ..
 have HBLK:=hide hblk1
 have HSZ1:=hide hsz1
 have HND:=hide (newDisk_any ⟨#[]⟩ (W.alloc (.cells (cfgA seed wd h ref cash stock) 34)) (by decide))
 have HON:=hide (fun d W' hb=>vnewOn_any seed wd h ref cash stock d W' (hs.out.later hb) hr hf HF)
 clear hblk1 hsz1
 unfold cfgA at *
 go_enter Tryz.func10,Tryz.ntmps10
 go_wp2_with fail
 refine HND.out.mono ?_
 rintro e w3 ⟨d,rfl,hdk,hb3⟩
 have HDK:=hide hdk;have HB3:=hide hb3
 clear hdk hb3 HND
 have hc:w3.heap[W.heap.size]? = some (.cells #[.int .u32 seed,.int .i64 wd,.int .i64 h,.int .i64 ref,.int .i64 cash,.int .i64 stock] 34 (0,0)):=by
  rw [HB3.out.block _ (by rw [HSZ1.out];omega)];exact HBLK.out
 have c0:w3.cell? ⟨W.heap.size,0,none⟩ = some (.int .u32 seed):=by rw [cell_of_row _ _ 0 _ _ _ hc];rfl
 have c1:w3.cell? ⟨W.heap.size,1,none⟩ = some (.int .i64 wd):=by rw [cell_of_row _ _ 1 _ _ _ hc];rfl
 have c2:w3.cell? ⟨W.heap.size,2,none⟩ = some (.int .i64 h):=by rw [cell_of_row _ _ 2 _ _ _ hc];rfl
 have c3:w3.cell? ⟨W.heap.size,3,none⟩ = some (.int .i64 ref):=by rw [cell_of_row _ _ 3 _ _ _ hc];rfl
 have c4:w3.cell? ⟨W.heap.size,4,none⟩ = some (.int .i64 cash):=by rw [cell_of_row _ _ 4 _ _ _ hc];rfl
 have c5:w3.cell? ⟨W.heap.size,5,none⟩ = some (.int .i64 stock):=by rw [cell_of_row _ _ 5 _ _ _ hc];rfl
 have HB13:=hide (HB1.out.trans (HB3.out.mono HB1.out.size))
 clear hc
 simp only []
 go_wp2_with fail
 refine (HON.out _ _ HB13.out).mono ?_
 rintro e w4 ⟨B,rfl,hBd,hno⟩
 obtain ⟨hd0,dv,hd1,hd2⟩:=HDK.out
 have HV:Hid (Ven W w4 B ⟨fun _=>.slice none 0 0,fun _=>.slice none 0 0,dv⟩ wd h seed (Ve.init ref cash stock)):=by
  have k:Dsk w3 W.heap.size d dv [] false 0:=by
   obtain ⟨g,cap,cur,fz,e1,e2,e3⟩:=hd2
   exact ⟨hd1,⟨g,cap,cur,fz,e1,Nat.le_trans HB1.out.size e2,e3⟩,Nat.le_trans HB1.out.size hd0⟩
  have k2:=k.later hno.fl.bl
  rw [← hBd] at k2
  exact hno.ven HB13.out k2
 clear hd0 hd1 hd2 hno c0 c1 c2 c3 c4 c5
 simp only []
 go_wp2
 go_ret2
 exact ⟨B,rfl,⟨fun _=>.slice none 0 0,fun _=>.slice none 0 0,dv⟩,HV.out⟩
theorem init_ok (ref cash stock:Int) (hr:Bd.rOk wd h = true) (hf:Wi.withinB ref 1 1000 = true) (HF:Fl.Fits cash stock):Ve.Ok 0 wd h (Ve.init ref cash stock) :=
 ⟨Fl.new_all hr hf HF,fun _ _=>⟨show (0:Int)≤0 by decide,show (0:Int)≤((0:Nat):Int) by decide⟩,Nat.le_refl 0,Nat.le_refl 0,show 0≤1048576 by decide,show 0≤9223372036854775807 by decide,fun _ _=>show (⟨#[]⟩:ByteArray).size < 30 by decide⟩
set_option maxHeartbeats 1000000 in
theorem playConfig_any (W:World):Calls Tryz.prog 47 #[.int .i64 5] W fun e w'=>e = .returned (.agg (cfgA 5 10 2 100 20000 100))∧Below W.heap.size W w':=by
 have HB1:Hid (Below W.heap.size W (W.alloc (.cells (cfgA 5 10 2 100 20000 100) 37))):=(Below.refl _ _).alloc (Nat.le_refl _) _
 unfold cfgA at *
 go_enter Tryz.func47,Tryz.ntmps47
 go_wp2
 refine bodyPost_ret (v:=.agg #[.int .u32 5,.int .i64 10,.int .i64 2,.int .i64 100,.int .i64 20000,.int .i64 100]) (by simp [results,Tryz.results47,go_sem]) rfl ?_
 exact ⟨rfl,HB1.out⟩
set_option maxHeartbeats 1000000 in
theorem small_any (W:World):Calls Tryz.prog 12 #[] W fun e w'=>e = .returned (.agg (cfgA 5 10 2 100 20000 100))∧Below W.heap.size W w':=by
 have HB1:Hid (Below W.heap.size W (W.alloc (.cells #[.int .u32 0,.int .i64 0,.int .i64 0,.int .i64 0,.int .i64 0,.int .i64 0] 37))):=(Below.refl _ _).alloc (Nat.le_refl _) _
 have hblk:(W.alloc (.cells #[.int .u32 0,.int .i64 0,.int .i64 0,.int .i64 0,.int .i64 0,.int .i64 0] 37)).heap[W.heap.size]? = some (.cells #[.int .u32 0,.int .i64 0,.int .i64 0,.int .i64 0,.int .i64 0,.int .i64 0] 37 (0,0)):=heap_alloc_new _ _
 have HBLK:=hide hblk
 have HP:=hide (playConfig_any (W.alloc (.cells #[.int .u32 0,.int .i64 0,.int .i64 0,.int .i64 0,.int .i64 0,.int .i64 0] 37)))
 clear hblk
 unfold cfgA at *
 go_enter Tryz.func12,Tryz.ntmps12
 go_wp2_with fail
 refine HP.out.mono ?_
 rintro e w2 ⟨rfl,hb2⟩
 have HB2:=hide hb2
 have HR2:=hide (s_row_later hb2 HBLK.out)
 clear hb2 HP
 have c0:w2.cell? ⟨W.heap.size,0,none⟩ = some (.int .u32 0):=by rw [cell_of_row _ _ 0 _ _ _ HR2.out];rfl
 have c1:w2.cell? ⟨W.heap.size,1,none⟩ = some (.int .i64 0):=by rw [cell_of_row _ _ 1 _ _ _ HR2.out];rfl
 have c2:w2.cell? ⟨W.heap.size,2,none⟩ = some (.int .i64 0):=by rw [cell_of_row _ _ 2 _ _ _ HR2.out];rfl
 have c3:w2.cell? ⟨W.heap.size,3,none⟩ = some (.int .i64 0):=by rw [cell_of_row _ _ 3 _ _ _ HR2.out];rfl
 have c4:w2.cell? ⟨W.heap.size,4,none⟩ = some (.int .i64 0):=by rw [cell_of_row _ _ 4 _ _ _ HR2.out];rfl
 have c5:w2.cell? ⟨W.heap.size,5,none⟩ = some (.int .i64 0):=by rw [cell_of_row _ _ 5 _ _ _ HR2.out];rfl
 have fz:∀ j,w2.frozen? ⟨W.heap.size,j,none⟩ = false:=fun j=>by simp [World.frozen?,HR2.out]
 have HX:=hide (set6_row HR2.out (.int .u32 5) (.int .i64 10) (.int .i64 2) (.int .i64 100) (.int .i64 20000) (.int .i64 100))
 have HB6:=hide (below6 (HB1.out.trans (HB2.out.mono HB1.out.size)) (Nat.le_refl W.heap.size) (.int .u32 5) (.int .i64 10) (.int .i64 2) (.int .i64 100) (.int .i64 20000) (.int .i64 100))
 simp only []
 go_wp2
 generalize ((((((w2.setCell ⟨W.heap.size,0,none⟩ (.int .u32 5)).setCell ⟨W.heap.size,1,none⟩ (.int .i64 10)).setCell ⟨W.heap.size,2,none⟩ (.int .i64 2)).setCell ⟨W.heap.size,3,none⟩ (.int .i64 100)).setCell ⟨W.heap.size,4,none⟩ (.int .i64 20000)).setCell ⟨W.heap.size,5,none⟩ (.int .i64 100)) = w6 at *
 have R:∀ j,w6.cell? ⟨W.heap.size,j,none⟩ = _:=fun j=>cell_of_row w6 _ j _ 37 _ HX.out
 refine bodyPost_ret (v:=.agg #[.int .u32 5,.int .i64 10,.int .i64 2,.int .i64 100,.int .i64 20000,.int .i64 100]) (by simp [results,Tryz.results12,go_sem,R]) rfl ?_
 exact ⟨rfl,HB6.out⟩
set_option maxHeartbeats 1000000 in
theorem asConfig_any (s wd h r c t:Int) (W:World):Calls Tryz.prog 11 #[.agg (cfgA s wd h r c t)] W fun e w'=>e = .returned (.agg (cfgA s wd h r c t))∧Below W.heap.size W w':=by
 have HB1:Hid (Below W.heap.size W ((W.alloc (.cells (cfgA s wd h r c t) 37)).alloc (.cells (cfgA s wd h r c t) 34))):=((Below.refl _ _).alloc (Nat.le_refl _) _).alloc (by simp) _
 unfold cfgA at *
 go_enter Tryz.func11,Tryz.ntmps11
 go_wp2
 refine bodyPost_ret (v:=.agg #[.int .u32 s,.int .i64 wd,.int .i64 h,.int .i64 r,.int .i64 c,.int .i64 t]) (by simp [results,Tryz.results11,go_sem]) rfl ?_
 exact ⟨rfl,HB1.out⟩
end
def AsksAt (w:World) (a:Option Addr) (n:Nat) (l:List Ask):Prop:=l.length = n∧(n = 0∨∃ g,a = some g∧∀ i,i < n→w.cell? (g.add (i * 8)) = some (.int .u8 (anth l i).k)∧w.cell? ⟨(g.add (i * 8)).block,(g.add (i * 8)).off + 1,none⟩ = some (.int .i64 (anth l i).c)∧w.cell? ⟨(g.add (i * 8)).block,(g.add (i * 8)).off + 2,none⟩ = some (.int .i64 (anth l i).sq)∧w.cell? ⟨(g.add (i * 8)).block,(g.add (i * 8)).off + 3,none⟩ = some (.int .i64 (anth l i).it)∧w.cell? ⟨(g.add (i * 8)).block,(g.add (i * 8)).off + 4,none⟩ = some (.int .i64 (anth l i).sd)∧w.cell? ⟨(g.add (i * 8)).block,(g.add (i * 8)).off + 5,none⟩ = some (.int .i64 (anth l i).pr)∧w.cell? ⟨(g.add (i * 8)).block,(g.add (i * 8)).off + 6,none⟩ = some (.int .i64 (anth l i).q)∧w.cell? ⟨(g.add (i * 8)).block,(g.add (i * 8)).off + 7,none⟩ = some (.int .i64 (anth l i).id))
theorem AsksAt.later {w w':World} {a:Option Addr} {n:Nat} {l:List Ask} (h:AsksAt w a n l) (hb:Below w.heap.size w w'):AsksAt w' a n l:=by
 refine ⟨h.1,?_⟩
 rcases h.2 with h0 | ⟨g,hg,h1⟩
 ·exact .inl h0
 ·exact .inr ⟨g,hg,fun i hi=>⟨cell_later hb (h1 i hi).1,cell_later hb (h1 i hi).2.1,cell_later hb (h1 i hi).2.2.1,cell_later hb (h1 i hi).2.2.2.1,cell_later hb (h1 i hi).2.2.2.2.1,cell_later hb (h1 i hi).2.2.2.2.2.1,cell_later hb (h1 i hi).2.2.2.2.2.2.1,cell_later hb (h1 i hi).2.2.2.2.2.2.2⟩⟩
structure Stp where
 kind:ByteArray
 c:Int
 asks:List Ask
 s:ByteArray
 n:Int
def Ve.stepTo (s:ByteArray) (l:List Ask):Nat→ByteArray
 | 0=>s
 | k + 1=>Ve.stepTo s l k++Ve.frameOf (anth l k)
theorem stepTo_size (s:ByteArray) (l:List Ask):∀ k,(Ve.stepTo s l k).size≤s.size + 30 * k
 | 0=>Nat.le_refl _
 | k + 1=>by
  have:=stepTo_size s l k
  have:=frameOf_size (anth l k)
  show (Ve.stepTo s l k++Ve.frameOf (anth l k)).size≤_
  rw [ByteArray.size_append];omega
section
variable {w W:World} {ad:Nat→Addr} {B:Vb} {X:Vx} {wd h seed:Int} {S:Ve.St}
set_option maxHeartbeats 2000000 in
theorem bytesOf_any (kd:ByteArray) (c:Int) (a:Option Addr) (m cap:Nat) (s:ByteArray) (n:Int) (l:List Ask) (W:World) (ha:Hid (AsksAt W a m l)) (hm:m≤10) (hs:s.size≤100000) :
  Calls Tryz.prog 48 #[.agg #[.string kd,.int .i64 c,.slice a m cap,.string s,.int .i64 n]] W fun e w'=>e = .returned (.string (Ve.stepTo s l m))∧Below W.heap.size W w':=by
 have HB1:Hid (Below W.heap.size W (W.alloc (.cells #[.string kd,.int .i64 c,.slice a m cap,.string s,.int .i64 n] 41))):=(Below.refl _ _).alloc (Nat.le_refl _) _
 have HK1:Hid ((W.alloc (.cells #[.string kd,.int .i64 c,.slice a m cap,.string s,.int .i64 n] 41)).heap[W.heap.size]? = some (.cells #[.string kd,.int .i64 c,.slice a m cap,.string s,.int .i64 n] 41 (0,0))):=heap_alloc_new _ _
 have HZ1:Hid ((W.alloc (.cells #[.string kd,.int .i64 c,.slice a m cap,.string s,.int .i64 n] 41)).heap.size = W.heap.size + 1):=Array.size_push ..
 go_enter Tryz.func48,Tryz.ntmps48
 go_wp2_with fail
 go_loopw [3,4] (fun v kv wr=>∃ k:Nat,k≤m∧kv = .int .i64 k∧v = .string (Ve.stepTo s l k)∧Below (W.heap.size + 1) (W.alloc (.cells #[.string kd,.int .i64 c,.slice a m cap,.string s,.int .i64 n] 41)) wr) (fun _ kv _=>m - (intOf kv).toNat)
 case atStart=>exact ⟨0,by omega,rfl,rfl,Below.refl _ _⟩
 case round =>
  obtain ⟨k,hk,rfl,rfl,hb⟩:=hrel
  have HB:=hide hb
  have hcel:wr.heap[W.heap.size]? = some (.cells #[.string kd,.int .i64 c,.slice a m cap,.string s,.int .i64 n] 41 (0,0)):=by rw [hb.block _ (by omega)];exact HK1.out
  have HC:=hide hcel
  clear hb hcel
  have hWr:W.heap.size < wr.heap.size:=lt_of_block HC.out
  have c2:wr.cell? ⟨W.heap.size,2,none⟩ = some (.slice a m cap):=by rw [cell_of_row _ _ 2 _ _ _ HC.out];rfl
  by_cases hlt:k < m
  ·have hki:(k:Int) < m:=by omega
   have HBW:Hid (Below W.heap.size W wr):=HB1.out.trans (HB.out.mono (by omega))
   obtain ⟨g,hg,hcs⟩:∃ g,a = some g∧_:=by
    rcases (ha.out.later HBW.out).2 with h0 | h1
    ·omega
    ·exact h1
   subst hg
   obtain ⟨d0,d1,d2,d3,d4,d5,d6,d7⟩:=hcs k hlt
   have hgl:(g.add (k * 8)).block < wr.heap.size:=World.block_lt_of_cell? _ _ d0
   have HN:Hid (Ve.stepTo s l (k + 1) = Ve.stepTo s l k++Ve.frameOf (anth l k)):=rfl
   have HCS:=hide (hcs k hlt)
   clear hcs
   generalize anth l k = x at *
   obtain ⟨xk,xc,xsq,xit,xsd,xpr,xq,xid⟩:=x
   simp only [] at d0 d1 d2 d3 d4 d5 d6 d7
   have HAE:=hide (askError_any xk xc xsq xit xsd xpr xq xid wr)
   have HFO:Hid (Ve.frameOf ⟨xk,xc,xsq,xit,xsd,xpr,xq,xid⟩ = if Wi.code xk xc xsq xit xsd xpr xq xid = 0 then strOfNums (Wi.frame xk xc xsq xit xsd xpr xq xid) else ⟨#[]⟩):=rfl
   by_cases hcd:Wi.code xk xc xsq xit xsd xpr xq xid = 0
   ·have HFR:=hide (fun W'=>frame_of xk xc xsq xit xsd xpr xq xid W' hcd)
    rw [if_pos hcd] at HFO
    rw [hcd] at HAE
    go_wp2_with fail
    refine HAE.out.mono ?_
    rintro e w5 ⟨rfl,hb5⟩
    have HB5:=hide hb5
    have e0:=cell_later hb5 d0;have e1:=cell_later hb5 d1;have e2:=cell_later hb5 d2;have e3:=cell_later hb5 d3
    have e4:=cell_later hb5 d4;have e5:=cell_later hb5 d5;have e6:=cell_later hb5 d6;have e7:=cell_later hb5 d7
    have e8:=cell_later hb5 c2
    have hgl5:(g.add (k * 8)).block < w5.heap.size:=World.block_lt_of_cell? _ _ e0
    clear d0 d1 d2 d3 d4 d5 d6 d7 c2 hgl hb5 HAE HCS hcd
    simp only []
    go_wp2_with fail
    refine (HFR.out _).mono ?_
    rintro e w6 ⟨rfl,hb6⟩
    have HB6:=hide (HB.out.trans ((HB5.out.trans (hb6.mono HB5.out.size)).mono (by omega)))
    clear hb6 HFR e0 e1 e2 e3 e4 e5 e6 e7 e8
    have hnot:¬ 9223372036854775807 < (Ve.stepTo s l k).size + (strOfNums (Wi.frame xk xc xsq xit xsd xpr xq xid)).size:=by
     have h1:=stepTo_size s l k
     have h2:(strOfNums (Wi.frame xk xc xsq xit xsd xpr xq xid)).size = 30:=by rw [strOfNums_size,Wi.frame_length]
     omega
    simp only []
    go_wp2
    refine ⟨⟨k + 1,hlt,by go_num,?_,HB6.out⟩,by simp [intOf];omega⟩
    rw [HN.out,HFO.out]
   ·have hcd':((Wi.code xk xc xsq xit xsd xpr xq xid:Nat):Int)≠0:=by omega
    rw [if_neg hcd] at HFO
    generalize Wi.code xk xc xsq xit xsd xpr xq xid = cde at *
    have hne:((cde:Int) == 0) = false:=by simpa using hcd'
    go_wp2_with fail
    refine HAE.out.mono ?_
    rintro e w5 ⟨rfl,hb5⟩
    have HB6:=hide (HB.out.trans (hb5.mono (by omega)))
    clear hb5 HAE HCS d0 d1 d2 d3 d4 d5 d6 d7
    simp only []
    go_wp2
    refine ⟨⟨k + 1,hlt,by go_num,?_,HB6.out⟩,by simp [intOf];omega⟩
    rw [HN.out,HFO.out]
    exact congrArg Value.string (ByteArray.append_empty).symm
  ·have hki:¬ (k:Int) < m:=by omega
   obtain rfl:k = m:=by omega
   go_wp2
   go_ret
   exact ⟨rfl,HB1.out.trans (HB.out.mono (by omega))⟩
theorem cutS_len (S:Ve.St) (n:Int) (hn:n≤9223372036854775807) (hl:S.left≤9223372036854775807):(Ve.cutS S n).left≤9223372036854775807∧(Ve.cutS S n).tp = S.tp∧(Ve.cutS S n).now = S.now∧(Ve.cutS S n).bt = S.bt∧(Ve.cutS S n).la = S.la∧(Ve.cutS S n).lf = S.lf∧(Ve.cutS S n).L = S.L∧(Ve.cutS S n).pf = S.pf∧(Ve.cutS S n).n = S.n:=by
 unfold Ve.cutS
 split
 ·exact ⟨by show n.toNat≤_;omega,rfl,rfl,rfl,rfl,rfl,rfl,rfl,rfl⟩
 ·exact ⟨hl,rfl,rfl,rfl,rfl,rfl,rfl,rfl,rfl⟩
theorem cut_ok {N:Nat} (hok:Ve.Ok N wd h S) (n:Int) (hn:n≤9223372036854775807):Ve.Ok N wd h (Ve.cutS S n):=by
 obtain ⟨e1,e2,e3,e4,e5,e6,e7,e8,e9⟩:=cutS_len S n hn hok.left
 exact ⟨by rw [e7,e8,e9];exact hok.all,by rw [e5];exact hok.la,by rw [e3];exact hok.now,by rw [e4];exact hok.bt,by rw [e2];exact hok.tp,e1,by rw [e6];exact hok.lf⟩
set_option maxHeartbeats 2000000 in
theorem vcut_any (n:Int) (W:World) (H:Hid (Ven w W B X wd h seed S)) (hs:Hid (Sent w ad)) :
  Calls Tryz.prog 42 #[.pointer (some ⟨B.d,0,none⟩),.int .i64 n] W fun e w'=>∃ u,e = .returned u∧Ven w w' B X wd h seed (Ve.cutS S n)∧VStep W w' B X X:=by
 have HSW:=hide (H.out.sent hs.out)
 have g0:W.cell? ⟨1,0,none⟩ = some (.iface 362 (.pointer (some (ad 1)))):=HSW.out.cell 1 (by decide)
 have g1:W.cell? ⟨2,0,none⟩ = some (.iface 362 (.pointer (some (ad 8)))):=HSW.out.cell 8 (by decide)
 have HP:=hide (power_any B.d X.dv S.cut S.left W H.out.dk.cell)
 by_cases hn:n < 0
 ·have e1:Ve.cutS S n = S:=by unfold Ve.cutS Ve.cutC;rw [if_pos hn,if_neg (by decide)]
  rw [e1]
  go_enter Tryz.func42,Tryz.ntmps42
  go_wp2
  go_ret
  exact ⟨_,rfl,H.out,VStep.refl _ _ _⟩
 ·by_cases hp:S.cut = true∧S.left = 0
  ·have e1:Ve.cutS S n = S:=by unfold Ve.cutS Ve.cutC;rw [if_neg hn,if_pos hp,if_neg (by decide)]
   have hpw:(!S.cut || decide (0 < (S.left:Int))) = false:=by rw [hp.1,hp.2];decide
   rw [e1]
   rw [hpw] at HP
   clear hp hpw
   go_enter Tryz.func42,Tryz.ntmps42
   go_wp2_with fail
   refine HP.out.mono ?_
   rintro e w1 ⟨rfl,hw⟩
   subst w1
   simp only []
   go_wp2
   go_ret
   exact ⟨_,rfl,H.out,VStep.refl _ _ _⟩
  ·have e1:Ve.cutS S n = { S with cut:=true,left:=n.toNat }:=by unfold Ve.cutS Ve.cutC;rw [if_neg hn,if_neg hp,if_pos rfl]
   have hpw:(!S.cut || decide (0 < (S.left:Int))) = true:=by
    cases hc:S.cut with
    | false=>rfl
    | true =>
     have:S.left≠0:=fun e=>hp ⟨hc,e⟩
     simp;omega
   rw [hpw] at HP
   have c1:W.cell? ⟨B.d,1,none⟩ = some (.bool S.cut):=by rw [cell_of_row _ _ 1 _ _ _ H.out.dk.cell];rfl
   have c2:W.cell? ⟨B.d,2,none⟩ = some (.int .i64 S.left):=by rw [cell_of_row _ _ 2 _ _ _ H.out.dk.cell];rfl
   have fz:∀ j,W.frozen? ⟨B.d,j,none⟩ = false:=fun j=>by simp [World.frozen?,H.out.dk.cell]
   have hlt:B.d < W.heap.size:=lt_of_block H.out.dk.cell
   have HF:Hid (Ven w ((W.setCell ⟨B.d,1,none⟩ (.bool true)).setCell ⟨B.d,2,none⟩ (.int .i64 n)) B X wd h seed (Ve.cutS S n)∧VStep W ((W.setCell ⟨B.d,1,none⟩ (.bool true)).setCell ⟨B.d,2,none⟩ (.int .i64 n)) B X X):=by
    have ht:Turned W ((W.setCell ⟨B.d,1,none⟩ (.bool true)).setCell ⟨B.d,2,none⟩ (.int .i64 n)) (fun k=>k = B.d):=(Turned.setCell _ _ _ _).trans (Turned.setCell _ _ _ _) (fun _ h=>.inl h)
    have hnat:((n.toNat:Nat):Int) = n:=by omega
    have hd:Dsk ((W.setCell ⟨B.d,1,none⟩ (.bool true)).setCell ⟨B.d,2,none⟩ (.int .i64 n)) w.heap.size B.d X.dv S.tp true (n.toNat:Nat):=by
     refine ⟨?_,?_,H.out.dk.lo⟩
     ·rw [block_setCell (block_setCell H.out.dk.cell 1 _) 2 _,hnat];rfl
     ·obtain ⟨g,cap,cur,fz2,k1,k2,k3,k4⟩:=H.out.dk.row
      refine ⟨g,cap,cur,fz2,k1,k2,?_,k4⟩
      rw [ht.block g (lt_of_block k3) (blkT k3 H.out.dk.cell (by decide))];exact k3
    rw [e1]
    exact H.out.tape hd (ht.mono (fun _ h=>.inl h)) (fun k hk=>.inl hk)
   clear hp hpw e1
   go_enter Tryz.func42,Tryz.ntmps42
   go_wp2_with fail
   refine HP.out.mono ?_
   rintro e w1 ⟨rfl,hw⟩
   subst w1
   simp only []
   go_wp2
   go_ret
   exact ⟨_,rfl,HF.out.1,HF.out.2⟩
end
section
variable {wd h seed:Int} {S:Ve.St} {N:Nat}
theorem hear_ok (hok:Ve.Ok N wd h S) {n:Nat} (f:ByteArray):Ve.Ok N wd h (Ve.hearS S n f):=by
 have ht:Ve.takeC S n (Ve.askOf f) = 0→Ve.Ok N wd h (Ve.taken S n (Ve.askOf f)):=fun _=>by
  refine ⟨hok.all,fun c hc=>?_,hok.now,hok.bt,hok.tp,hok.left,hok.lf⟩
  have h1:=hok.now;have h2:=hok.la c hc
  unfold Ve.taken upd Se.tL
  simp only
  split
  ·rename_i e;subst e
   split
   ·split
    ·exact ⟨by omega,by omega⟩
    ·exact ⟨by omega,by omega⟩
   ·exact h2
  ·exact h2
 unfold Ve.hearS
 split
 ·split
  ·rename_i h1 h2
   have k:=ht h2
   split
   ·exact ⟨k.all,k.la,k.now,k.bt,k.tp,k.left,k.lf⟩
   ·split
    ·exact ⟨k.all,k.la,k.now,k.bt,k.tp,k.left,k.lf⟩
    ·exact k
  ·exact hok
 ·exact hok
theorem hears_ok (hok:Ve.Ok N wd h S) {n:Nat} (b:ByteArray):∀ k,Ve.Ok N wd h (Ve.hearsS S n b k)
 | 0=>hok
 | k + 1=>hear_ok (hears_ok hok b k) _
theorem restB_size (b:ByteArray):(Ve.restB b).size < 30:=by
 unfold Ve.restB
 rw [ByteArray.size_extract]
 omega
theorem feed_ok (hok:Ve.Ok N wd h S) (n:Int) (s:ByteArray):Ve.Ok N wd h (Ve.feedS S n s):=by
 unfold Ve.feedS
 split
 ·exact hok
 ·refine hears_ok (S:=Ve.fedS S n.toNat (S.lf n.toNat++s)) ⟨hok.all,hok.la,hok.now,hok.bt,hok.tp,hok.left,fun c hc=>?_⟩ _ _
  unfold Ve.fedS upd
  simp only
  split
  ·exact restB_size _
  ·exact hok.lf c hc
theorem hear_pf (S:Ve.St) (n:Nat) (f:ByteArray):(Ve.hearS S n f).pf = S.pf∧(Ve.hearS S n f).L = S.L:=by
 unfold Ve.hearS
 split
 ·split
  ·split
   ·exact ⟨rfl,rfl⟩
   ·split
    ·exact ⟨rfl,rfl⟩
    ·exact ⟨rfl,rfl⟩
  ·exact ⟨rfl,rfl⟩
 ·exact ⟨rfl,rfl⟩
theorem hears_pf (S:Ve.St) (n:Nat) (b:ByteArray):∀ k,(Ve.hearsS S n b k).pf = S.pf∧(Ve.hearsS S n b k).L = S.L
 | 0=>⟨rfl,rfl⟩
 | k + 1=>by
  have h:=hears_pf S n b k
  have h2:=hear_pf (Ve.hearsS S n b k) n (fr b k)
  exact ⟨h2.1.trans h.1,h2.2.trans h.2⟩
theorem feed_pf (S:Ve.St) (n:Int) (s:ByteArray):(Ve.feedS S n s).pf = S.pf∧(Ve.feedS S n s).L = S.L:=by
 unfold Ve.feedS
 split
 ·exact ⟨rfl,rfl⟩
 ·have h:=hears_pf (Ve.fedS S n.toNat (S.lf n.toNat++s)) n.toNat (S.lf n.toNat++s) ((S.lf n.toNat++s).size / 30)
  exact ⟨h.1,h.2⟩
theorem cut_pf (S:Ve.St) (n:Int):(Ve.cutS S n).pf = S.pf:=by unfold Ve.cutS;split <;> rfl
theorem ok_more {M:Nat} (hok:Ve.Ok N wd h S) (hM:N≤M):Ve.Ok M wd h S :=
 ⟨hok.all,fun c hc=>⟨(hok.la c hc).1,by have:=(hok.la c hc).2;omega⟩,Nat.le_trans hok.now hM,Nat.le_trans hok.bt hM,hok.tp,hok.left,hok.lf⟩
noncomputable def Ve.ticksS (wd h seed:Int) (S:Ve.St):Nat→Ve.St
 | 0=>S
 | k + 1=>Ve.tickS wd h seed (Ve.ticksS wd h seed S k)
noncomputable def Ve.ticksR (wd h seed:Int) (S:Ve.St):Nat→List Ve.Rep
 | 0=>[]
 | k + 1=>Ve.ticksR wd h seed S k++Ve.tickR wd h seed (Ve.ticksS wd h seed S k)
def isFeed (x:Stp):Bool:=x.kind.toList == [102,101,101,100]
def isCut (x:Stp):Bool:=x.kind.toList == [99,117,116]
def ticksOf (x:Stp):Nat:=if x.n.toNat < 8 then x.n.toNat else 8
noncomputable def Ve.stepS (wd h seed:Int) (S:Ve.St) (x:Stp):Ve.St :=
 if isFeed x = true then Ve.feedS S x.c (Ve.stepTo x.s x.asks x.asks.length) else if isCut x = true then Ve.cutS S x.n else Ve.ticksS wd h seed S (ticksOf x)
noncomputable def Ve.stepR (wd h seed:Int) (S:Ve.St) (x:Stp):List Ve.Rep :=
 if isFeed x = true then [] else if isCut x = true then [] else Ve.ticksR wd h seed S (ticksOf x)
def sz0:Stp:=⟨ByteArray.empty,0,[],ByteArray.empty,0⟩
def snth (l:List Stp) (i:Nat):Stp:=l.getD i sz0
noncomputable def Ve.walkS (wd h seed:Int) (S:Ve.St) (l:List Stp):Nat→Ve.St
 | 0=>S
 | k + 1=>Ve.stepS wd h seed (Ve.walkS wd h seed S l k) (snth l k)
noncomputable def Ve.walkR (wd h seed:Int) (S:Ve.St) (l:List Stp):Nat→List Ve.Rep
 | 0=>[]
 | k + 1=>Ve.walkR wd h seed S l k++Ve.stepR wd h seed (Ve.walkS wd h seed S l k) (snth l k)
end
def StpAt (w:World) (g:Addr) (x:Stp):Prop:=∃ aa m cap,w.cell? g = some (.string x.kind)∧w.cell? ⟨g.block,g.off + 1,none⟩ = some (.int .i64 x.c)∧w.cell? ⟨g.block,g.off + 2,none⟩ = some (.slice aa m cap)∧w.cell? ⟨g.block,g.off + 3,none⟩ = some (.string x.s)∧w.cell? ⟨g.block,g.off + 4,none⟩ = some (.int .i64 x.n)∧AsksAt w aa m x.asks
def StpsAt (w:World) (a:Option Addr) (n:Nat) (l:List Stp):Prop:=l.length = n∧(n = 0∨∃ g,a = some g∧∀ i,i < n→StpAt w (g.add (i * 5)) (snth l i))∧∀ i,i < n→(snth l i).n≤9223372036854775807
theorem StpAt.later {w w':World} {g:Addr} {x:Stp} (h:StpAt w g x) (hb:Below w.heap.size w w'):StpAt w' g x:=by
 obtain ⟨aa,m,cap,h0,h1,h2,h3,h4,h5⟩:=h
 exact ⟨aa,m,cap,cell_later hb h0,cell_later hb h1,cell_later hb h2,cell_later hb h3,cell_later hb h4,h5.later hb⟩
theorem rflat_one:∀ (l:List Ve.Rep),∀ u∈rflat l,u.oneCell' = true
 | [],u,h=>by cases h
 | x :: l,u,h=>by
  unfold rflat at h
  rw [List.flatMap_cons,List.mem_append] at h
  rcases h with h | h
  ·exact repC_one x u h
  ·exact rflat_one l u h
theorem run_append_reps {b0 b2:Nat} (W:World) (v v2:Value) (l l2:List Ve.Rep) (hr:Reps W b0 v l) (hr2:Reps W b2 v2 l2) (hl:l.length≤1000000) (hl2:l2.length≤10000) (hb:b0≤W.heap.size) :
  ∃ v' W',(Builtin.append_ #[42,42] 42 #[v,v2]).run Tryz.prog W = .ok v' W'∧Reps W' b0 v' (l++l2)∧W.grownBy W' v.ownBlock:=by
 obtain ⟨i0,z0,hi,hz0,hz1,hz2,hz3⟩:=info50
 rcases hr2.2 with ⟨e1,e2⟩ | ⟨g,cap,cur,e1,_,hg,_⟩
 ·have h0:l2 = []:=by
   cases l2 with
   | nil=>rfl
   | cons a b=>simp at e2
  subst h0 e1
  refine ⟨v,W,run_append_owned_none W b0 42 42 50 i0 6 Tryz.underlying42 hi v l.length (rflat l) hr,by rw [List.append_nil];exact hr,⟨rfl,rfl,rfl,Nat.le_refl _,fun _ _ _=>rfl⟩⟩
 ·have hc:∀ j u,(rflat l2)[j]? = some u→W.cell? ((⟨g,0,none⟩:Addr).add j) = some u:=fun j u hj=>by
   have:=World.ownsRow.cells hr2 (g:=g) (by rw [e1];rfl) j u hj
   exact this
  subst e1
  obtain ⟨v4,w4,hap,hrow,hgr,_,_⟩:=run_append_own_at (P:=Tryz.prog) (w:=W) b0 42 42 50 i0 z0 6 56 Tryz.underlying42 hi hz0 hz1 hz2 hz3 (by decide) v l.length (rflat l) hr ⟨g,0,none⟩ l2.length cap (rflat l2) (rflat_length l2) hc (rflat_one l2) (by unfold maxLen;omega) (by omega) hb
  refine ⟨v4,w4,hap,?_,hgr⟩
  show w4.ownsRow b0 50 6 v4 (l++l2).length (rflat (l++l2))
  rw [rflat_append,List.length_append]
  exact hrow
end Go.Proofs.YtidahfhingdlmaaGreatDoor
namespace Go.Proofs.YtidahfhingdlmaaGreatDoor
set_option maxRecDepth 100000
namespace Ve
theorem ext_over (a:ByteArray) (i j:Nat) (h:a.size≤j):a.extract i j = a.extract i a.size:=by
 apply ByteArray.ext
 rw [ByteArray.data_extract,ByteArray.data_extract]
 have h':a.data.size≤j:=h
 apply Array.ext
 ·rw [Array.size_extract,Array.size_extract];show min j a.data.size - i = min a.data.size a.data.size - i;omega
 ·intro k h1 h2;rw [Array.getElem_extract,Array.getElem_extract]
theorem rest_append (b c:ByteArray) (i:Nat) (hi:i≤b.size):(b++c).extract i (b++c).size = b.extract i b.size++c:=by
 rw [ByteArray.extract_append,ByteArray.size_append,ext_over b i _ (by omega),show i - b.size = 0 by omega,show b.size + c.size - b.size = c.size by omega]
 simp
theorem head_append (b c:ByteArray):(b++c).extract 0 b.size = b:=ByteArray.extract_append_eq_left rfl
theorem fr_left (b c:ByteArray) (j:Nat) (h:30 * j + 30≤b.size):fr (b++c) j = fr b j:=by
 have h1:=fr_piece (b++c) 0 b.size j (by omega)
 rw [Nat.mul_zero,head_append,Nat.zero_add] at h1
 exact h1.symm
theorem fr_right (b c:ByteArray) (j:Nat) (h:30 * (b.size / 30) + (30 * j + 30)≤(b++c).size):fr (b++c) (b.size / 30 + j) = fr (restB b++c) j:=by
 have h1:=fr_piece (b++c) (b.size / 30) (b++c).size j h
 rw [rest_append b c _ (by omega)] at h1
 exact h1.symm
theorem rest_sz (b:ByteArray):(restB b).size = b.size - 30 * (b.size / 30):=by
 unfold restB;rw [ByteArray.size_extract];omega
end Ve
namespace Ve
theorem frame_back {a:Ask} (h:Se.ac a = 0):decCode (frameOf a) = 0∧askOf (frameOf a) = a∧(frameOf a).size = 30:=by
 obtain ⟨k,c,sq,it,sd,pr,q,id⟩:=a
 have hf:frameOf ⟨k,c,sq,it,sd,pr,q,id⟩ = strOfNums (Wi.frame k c sq it sd pr q id):=by
  unfold frameOf encText;exact if_pos h
 rw [hf]
 have h':Wi.code k c sq it sd pr q id = 0:=h
 obtain ⟨h1,_⟩:=dec_frame h'
 obtain ⟨e0,e1,e2,e3,e4,e5,e6,e7⟩:=fields_frame h'
 refine ⟨h1,?_,by rw [strOfNums_size,Wi.frame_length]⟩
 unfold askOf df
 rw [if_pos h1,if_pos h1,if_pos h1,if_pos h1,if_pos h1,if_pos h1,if_pos h1,if_pos h1,e0,e1,e2,e3,e4,e5,e6,e7]
theorem fr_two0 {a b:ByteArray} (ha:a.size = 30):fr (a++b) 0 = a:=by
 unfold fr
 have:=ByteArray.extract_append_eq_left (a:=a) (b:=b) (i:=30 * 0 + 30) (by omega)
 simpa using this
theorem fr_two1 {a b:ByteArray} (ha:a.size = 30) (hb:b.size = 30):fr (a++b) 1 = b:=by
 unfold fr
 have:=ByteArray.extract_append_eq_right (a:=a) (b:=b) (i:=30 * 1) (j:=30 * 1 + 30) (by omega) (by omega)
 simpa using this
theorem rest_two {a b:ByteArray} (ha:a.size = 30) (hb:b.size = 30):restB (a++b) = ⟨#[]⟩:=by
 have hs:(restB (a++b)).size = 0:=by
  unfold restB
  rw [ByteArray.size_extract,ByteArray.size_append];omega
 generalize restB (a++b) = r at *
 obtain ⟨d⟩:=r
 have:d = #[]:=Array.size_eq_zero_iff.1 hs
 rw [this]
def login (c:Nat):Ask:=⟨108,c,1,0,0,0,0,0⟩
theorem login_ok {c:Nat} (hc:c < 6):Se.ac (login c) = 0:=by
 have:c = 0∨c = 1∨c = 2∨c = 3∨c = 4∨c = 5:=by omega
 rcases this with rfl | rfl | rfl | rfl | rfl | rfl <;> decide
def twoS (S:St) (c:Nat) (a:Ask):St:={ S with on:=upd S.on c true,nx:=upd S.nx c 3,la:=upd S.la c S.now,lf:=upd S.lf c ⟨#[]⟩,Q:=upd S.Q c (S.Q c++[a]) }
theorem two_feed {S:St} {c:Nat} (hc:c < 6) (a:Ask) (ha:Se.ac a = 0) (hk:a.k = 111) (hcc:a.c = c) (hsq:a.sq = 2) (hd:S.down = false) (hon:S.on c = false) (hlf:S.lf c = ⟨#[]⟩) (hq:(S.Q c).length < 6) :
  feedR S c (frameOf (login c)++frameOf a) = [⟨c,kAcc,a.id,0,0,0⟩]∧feedS S c (frameOf (login c)++frameOf a) = twoS S c a:=by
 obtain ⟨l1,l2,l3⟩:=frame_back (login_ok hc)
 obtain ⟨a1,a2,a3⟩:=frame_back ha
 have hw:¬ (S.down = true∨Wi.withinB (c:Int) 0 5 = false):=by
  have:Wi.withinB (c:Int) 0 5 = true:=by unfold Wi.withinB;simp;omega
  rw [hd,this];simp
 have htn:((c:Int)).toNat = c:=by omega
 have hb:S.lf c++(frameOf (login c)++frameOf a) = frameOf (login c)++frameOf a:=by rw [hlf];exact ByteArray.empty_append
 have h60:(frameOf (login c)++frameOf a).size / 30 = 2:=by rw [ByteArray.size_append,l3,a3]
 have f0:=fr_two0 (b:=frameOf a) l3
 have f1:=fr_two1 l3 a3
 have f2:=rest_two l3 a3
 have hF:fedS S c (frameOf (login c)++frameOf a) = { S with lf:=upd S.lf c ⟨#[]⟩ }:=by unfold fedS;rw [f2]
 have t0:Se.tc (S.on c) (S.nx c) (login c) = 0:=by
  unfold Se.tc
  rw [if_pos (login_ok hc),hon]
  rfl
 have n1:¬ isO (login c) = true:=by show ¬ ((108:Int) == 111 || (108:Int) == 99) = true;decide
 have n2:¬ (login c).k = 113:=by show ¬ (108:Int) = 113;decide
 have t1:takeC { S with lf:=upd S.lf c ⟨#[]⟩ } c (login c) = 0:=by
  unfold takeC
  rw [if_pos (show (login c).c = (c:Int) from rfl)]
  exact t0
 have e1:hearS { S with lf:=upd S.lf c ⟨#[]⟩ } c (frameOf (login c)) = { S with on:=upd S.on c true,nx:=upd S.nx c 2,la:=upd S.la c S.now,lf:=upd S.lf c ⟨#[]⟩ }:=by
  unfold hearS
  rw [if_pos l1,l2,if_pos t1,if_neg n1,if_neg n2]
  unfold taken
  have ht:=t0
  unfold Se.tO Se.tN Se.tL
  simp only [ht,if_true]
  rfl
 have e2:hearR { S with lf:=upd S.lf c ⟨#[]⟩ } c (frameOf (login c)) = []:=by
  unfold hearR
  rw [if_pos l1,l2,if_pos t1,if_neg n1]
 generalize hS1:({ S with on:=upd S.on c true,nx:=upd S.nx c 2,la:=upd S.la c S.now,lf:=upd S.lf c ⟨#[]⟩ }:St) = S1 at *
 have o1:S1.on c = true:=by rw [← hS1];simp [upd]
 have o2:S1.nx c = 2:=by rw [← hS1];simp [upd]
 have o3:S1.Q = S.Q:=by rw [← hS1]
 have t2:Se.tc (S1.on c) (S1.nx c) a = 0:=by
  unfold Se.tc
  rw [if_pos ha,o1,o2,hk,hsq]
  rfl
 have t3:takeC S1 c a = 0:=by unfold takeC;rw [if_pos hcc,t2]
 have hO:isO a = true:=by unfold isO;rw [hk];rfl
 have hpc:Ik.putC S1.Q a = 0:=by
  have k1:Ik.isK a = true:=by unfold Ik.isK;rw [hk];rfl
  have k2:Ik.isC a.c = true:=by unfold Ik.isC;rw [hcc];simp;omega
  unfold Ik.putC
  rw [if_pos k1,if_pos k2,hcc,htn,o3,if_neg (by omega)]
 have hpl:Ik.putL S1.Q a = upd S.Q c (S.Q c++[a]):=by unfold Ik.putL;rw [if_pos hpc,hcc,htn,o3];rfl
 have e3:hearR S1 c (frameOf a) = [⟨c,kAcc,a.id,0,0,0⟩]:=by
  unfold hearR
  rw [if_pos a1,a2,if_pos t3,if_pos hO]
  unfold putK
  rw [if_pos hpc]
 have e4:hearS S1 c (frameOf a) = twoS S c a:=by
  unfold hearS
  rw [if_pos a1,a2,if_pos t3,if_pos hO,hpl]
  unfold taken Se.tO Se.tN Se.tL twoS
  simp only [t2,if_true,hk,hsq]
  rw [← hS1]
  simp only [upd_upd]
  rfl
 refine ⟨?_,?_⟩
 ·unfold feedR
  rw [if_neg hw,htn,hb,h60,hF]
  unfold hearsR hearsR hearsR hearsS hearsS
  rw [f0,f1,e1,e2,e3]
  rfl
 ·unfold feedS
  rw [if_neg hw,htn,hb,h60,hF]
  unfold hearsS hearsS hearsS
  rw [f0,f1,e1,e4]
end Ve
namespace Ve
def NoLots (L:Nat→List Cv.Lot) (c:Nat):Prop:=∀ i,i < 3→∀ x∈L i,x.ow≠(c:Int)
structure J (S:St):Prop where
 q:∀ c,c < 6→∀ a∈S.Q c,a.c = (c:Int)
 off:∀ c,c < 6→S.on c = false→S.Q c = []∧(S.dr c = true∨NoLots S.L c)
 tn:S.t < 6
theorem clear_at (Q:Nat→List Ask) {n:Nat} (hn:n < 6) (c:Nat):Ik.clearL Q n c = if c = n then [] else Q c:=by
 have h:Ik.isC (n:Int) = true:=by unfold Ik.isC;simp;omega
 have e:((n:Int)).toNat = n:=by omega
 unfold Ik.clearL
 rw [if_pos h,e]
 rfl
theorem out_mem {Q:Nat→List Ask} {t:Nat} (ht:t < 6):∀ k,k≤6→∀ a∈Ik.ouN Q t k,∃ c,c < 6∧a∈Q c
 | 0,_,a,h=>by cases h
 | k + 1,hk,a,h=>by
  rw [Ik.ouN_succ Q ht (by omega),List.mem_append] at h
  rcases h with h | h
  ·exact out_mem ht k (by omega) a h
  ·exact ⟨Ik.who t k,Ik.who_lt t k,List.mem_of_mem_take h⟩
end Ve
namespace Ve
theorem tick_on (wd h seed:Int) (S:St) (hd:S.down = false):(tickS wd h seed S).on = (tocks S).on∧(tickS wd h seed S).la = (tocks S).la∧(tickS wd h seed S).now = S.now + 1:=by
 have hn:(tocks S).now = S.now + 1:=(hangs_now _ 6).1
 have ha:∀ s,(appS (drained (tocks S)) s).on = (tocks S).on∧(appS (drained (tocks S)) s).la = (tocks S).la∧(appS (drained (tocks S)) s).now = (tocks S).now:=fun s=>by
  unfold appS;split <;> exact ⟨rfl,rfl,rfl⟩
 unfold tickS
 rw [if_neg (by rw [hd];decide)]
 split
 ·unfold batchS
  have h1:=ha (recS (tocks S))
  obtain ⟨A,hA⟩:∃ A,appS (drained (tocks S)) (recS (tocks S)) = A:=⟨_,rfl⟩
  rw [hA] at h1 ⊢
  clear ha hA
  generalize tocks S = T at *
  split
  ·refine ⟨?_,?_,?_⟩
   ·show A.on = _;exact h1.1
   ·show A.la = _;exact h1.2.1
   ·show A.now = _;exact h1.2.2.trans hn
  ·refine ⟨?_,?_,?_⟩
   ·show A.on = _;exact h1.1
   ·show A.la = _;exact h1.2.1
   ·show A.now = _;exact h1.2.2.trans hn
 ·exact ⟨rfl,rfl,hn⟩
theorem tick_down (wd h seed:Int) (S:St) (hd:(tickS wd h seed S).down = false):S.down = false:=by
 cases e:S.down with
 | false=>rfl
 | true=>unfold tickS at hd;rw [if_pos e,e] at hd;exact hd
end Ve
end Go.Proofs.YtidahfhingdlmaaGreatDoor
namespace Go.Proofs.YtidahfhingdlmaaGreatDoor
open Go.RowKit
set_option maxRecDepth 100000
def rz:Ve.Rep:=⟨0,⟨#[]⟩,0,0,0,0⟩
def rnth (l:List Ve.Rep) (i:Nat):Ve.Rep:=l.getD i rz
def RepsAt (w:World) (b o:Nat) (l:List Ve.Rep):Prop:=∀ i,i < l.length→w.cell? ⟨b,o + i * 6,none⟩ = some (.int .i64 (rnth l i).c)∧w.cell? ⟨b,o + i * 6 + 1,none⟩ = some (.string (rnth l i).k)∧w.cell? ⟨b,o + i * 6 + 2,none⟩ = some (.int .i64 (rnth l i).id)∧w.cell? ⟨b,o + i * 6 + 3,none⟩ = some (.int .i64 (rnth l i).pr)∧w.cell? ⟨b,o + i * 6 + 4,none⟩ = some (.int .i64 (rnth l i).q)∧w.cell? ⟨b,o + i * 6 + 5,none⟩ = some (.int .i64 (rnth l i).cd)
theorem RepsAt.later {w w':World} {b o:Nat} {l:List Ve.Rep} (h:RepsAt w b o l) (hb:Below w.heap.size w w'):RepsAt w' b o l:=fun i hi=>by
 obtain ⟨h0,h1,h2,h3,h4,h5⟩:=h i hi
 exact ⟨cell_later hb h0,cell_later hb h1,cell_later hb h2,cell_later hb h3,cell_later hb h4,cell_later hb h5⟩
theorem rflat_at:∀ (l:List Ve.Rep) (i j:Nat),i < l.length→j < 6→(rflat l)[i * 6 + j]? = (repC (rnth l i))[j]?
 | [],i,j,h,_=>by cases h
 | x :: l,0,j,_,hj=>by
  unfold rflat
  rw [List.flatMap_cons,List.getElem?_append_left (by simpa [repC] using by omega)]
  simp [rnth]
 | x :: l,i + 1,j,h,hj=>by
  have ih:=rflat_at l i j (by simpa using h) hj
  unfold rflat at *
  rw [List.flatMap_cons,List.getElem?_append_right (by simp [repC];omega)]
  have e:(i + 1) * 6 + j - (repC x).length = i * 6 + j:=by simp [repC];omega
  rw [e,ih]
  rfl
theorem row_reps {w:World} {base:Nat} {v:Value} {l:List Ve.Rep} (h:Reps w base v l):(v = .slice none 0 0∧l = [])∨∃ g cap,v = .slice (some ⟨g,0,none⟩) l.length cap∧RepsAt w g 0 l:=by
 have h':w.ownsRow base 50 6 v l.length (rflat l):=h
 rcases h'.2 with ⟨e,e2⟩ | ⟨g,cap,cur,e,hg,hgg,hle,_,_,_⟩
 ·exact .inl ⟨e,List.eq_nil_of_length_eq_zero e2⟩
 ·have key:∀ i j u,i < l.length→j < 6→(repC (rnth l i))[j]? = some u→w.cell? ⟨g,0 + i * 6 + j,none⟩ = some u:=fun i j u hi hj hu=>by
   have:=World.ownsRow.cells h' (g:=g) (by rw [e];rfl) (i * 6 + j) u (by rw [rflat_at l i j hi hj];exact hu)
   have hp:(⟨g,0,none⟩:Addr).add (i * 6 + j) = ⟨g,0 + i * 6 + j,none⟩:=by unfold Addr.add;split <;> simp_all
   rwa [hp] at this
  refine .inr ⟨g,cap,e,fun i hi=>⟨?_,?_,?_,?_,?_,?_⟩⟩
  ·exact key i 0 _ hi (by decide) rfl
  ·exact key i 1 _ hi (by decide) rfl
  ·exact key i 2 _ hi (by decide) rfl
  ·exact key i 3 _ hi (by decide) rfl
  ·exact key i 4 _ hi (by decide) rfl
  ·exact key i 5 _ hi (by decide) rfl
end Go.Proofs.YtidahfhingdlmaaGreatDoor
