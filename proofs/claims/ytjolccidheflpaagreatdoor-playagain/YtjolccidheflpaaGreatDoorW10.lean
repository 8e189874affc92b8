/- A record's bytes, and how a disk is written: record and write. -/
import Derived.Test.YtjolccidheflpaaGreatDoorW03
import Derived.Test.YtjolccidheflpaaGreatDoorW09
import Derived.Laws.MakeOwn
import Derived.Deep.RegionLaw
namespace Go.Proofs.YtjolccidheflpaaGreatDoor
set_option maxHeartbeats 8000000
set_option maxRecDepth 100000
open Go.RowKit
theorem ajt (s:List UInt8):ints (bC.rec s)=((ints (bC.four s.length)++ints (bC.four (4294967295-s.length)))++ints s)++ints (bC.low (ah.sum s)):=by simp[bC.rec,Od,List.append_assoc]
theorem zy (n:Nat) (h:n<4294967296):4294967295 ^^^ n=4294967295-n:=by
 have h1:(BitVec.allOnes 32 ^^^ BitVec.ofNat 32 n).toNat=4294967295-n:=by
  rw[BitVec.allOnes_xor,BitVec.toNat_not,BitVec.toNat_ofNat,Nat.mod_eq_of_lt (by omega)]
 rw[BitVec.toNat_xor,BitVec.toNat_ofNat,Nat.mod_eq_of_lt (by omega)]at h1;exact h1
theorem aju (s:ByteArray) (w:World) (hs:s.size<=10000) :
  Calls Tryz.prog 136 #[.string s] w fun e w'=>∃ v,e=.returned v/\Row w' w.heap.size v (ints (bC.rec s.data.toList))/\Qd w w':=by
 obtain⟨i5,hi,hz0,hz1,hz2⟩:=info5;have gB:=hDq (H4 s w (by omega));generalize hn:12+s.size=n at gB;have apf:n<=10012:=by omega
 obtain⟨M,hM⟩:∃ M,M=madeCells (Value.int .u8 0).cells ((n:Int).toNat*i5.size):=⟨_,rfl⟩;have yc:M.size=n:=by rw[hM,size_madeCells,hz1];simp
 have aP:∀ W:World,(Instr.makeSlice 115 (Qa 0) (Qa (n:Int))).run Tryz.prog W=.ok (.slice (some (Qb W.heap.size 0)) 0 n) (W.alloc (.cells M 5)):=fun W=>by
  have h:=run_make (P:=Tryz.prog) W 115 5 i5 (.int .u8 0) Tryz.underlying115 hi hz0 .i64 .i64 (0:Int) (n:Int) (by omega) (by omega) (by rw[hz2];omega) (by omega);rw[<- hM]at h;simpa using h
 have fy:Hid (Row (w.alloc (.cells M 5)) w.heap.size (.slice (some (Qb w.heap.size 0)) 0 n) []):=World.ownsRow_made w M n (lRq _) (by unfold maxLen;omega) (by omega);have Hi:=hDq hi;have eG:=hDq hz0;have eH:=hDq hz1;have eI:=hDq hz2;have Hn:=hDq hn;clear hM hi hz0 hz1 hz2 hn yc;go_enter Tryz.func136,Tryz.ntmps136
 go_wp2_with fail
 refine gB.out.mono ?_;rintro e w1 ⟨rfl,rfl⟩
 go_wp2_with fail
 refine(JG _ [] _ w1.heap.size _ fy.out (by simp) (by simp)).mono ?_;rintro e w2 ⟨v2,rfl,hr2,hb2⟩;have bq:Hid (Row w2 w1.heap.size v2 (ints (bC.four s.size))):=by rw[XG];exact hr2
 have HB2:Hid (Qd w1 w2):=((bRq _ _).alloc (lRq _) _).trans hb2;clear hr2 hb2 fy gB
 go_wp2_with fail
 rw[show bits .xor .u32 IntKind.u32.max (s.size:Int)=((4294967295-s.size:Nat):Int) by rw[show IntKind.u32.max=((4294967295:Nat):Int) from rfl,u32_xor_nat _ _ (by decide) (by omega),zy _ (by omega)]];refine(JG _ _ _ w1.heap.size _ bq.out (by rw[iT];simp[bC.four]) HB2.out.size).mono ?_;rintro e w3 ⟨v3,rfl,hr3,hb3⟩;have HR3:Hid (Row w3 w1.heap.size v3 (ints (bC.four s.size)++ints (bC.four (4294967295-s.size)))):=by rw[XG (4294967295-s.size)];exact hr3
 have au:Hid (Qd w1 w3):=HB2.out.trans hb3;clear hr3 hb3 bq HB2 aP;have XH:(ints (bC.four s.size)++ints (bC.four (4294967295-s.size))).length=8:=by rw[lAq,iT,iT];rfl
 have Oe:=hDq XH;clear XH
 go_wp2_with (at_builtin;refine Lib.wpList_append_own_string _ rfl _ _ 115 9 rfl w1.heap.size 5 i5 Tryz.underlying115 Tryz.underlying9 Hi.out eG.out eH.out eI.out _ _ _ rfl HR3.out s rfl ?c3 ?c4 ?c5 ?_)
 case c3=>rw[Oe.out];unfold maxLen;omega
 case c4=>rw[Oe.out];omega
 case c5=>exact au.out.size
 intro v4 w4 hown' hgrow _;have bR:Hid (Row w4 w1.heap.size v4 ((ints (bC.four s.size)++ints (bC.four (4294967295-s.size)))++ints s.data.toList)):=by
  rw[ajv,<- List.map_append]at hown';unfold Row;rw[lAq,iT s.data.toList,qi];exact hown'
 have bJ:Hid (Qd w1 w4):=au.out.grown hgrow au.out.size (fun k hk=>(World.ownsRow.lt HR3.out k hk).1);clear hown' hgrow HR3 au
 go_wp2_with fail
 refine(tQ s _ (by unfold maxLen;omega)).mono ?_;rintro e aC ⟨rfl,rfl⟩
 go_wp2_with fail
 refine(Rf v4 _ _ w1.heap.size _ bR.out (by rw[lAq,Oe.out,iT,qi];omega) bJ.out.size).mono ?_;rintro e ai ⟨v6,rfl,iA,hb6⟩;have bz:Hid (Row ai w1.heap.size v6 (ints (bC.rec s.data.toList))):=by rw[ajt,ajw,qi];exact iA
 have aY:Hid (Qd w1 ai):=bJ.out.trans hb6;clear iA hb6;go_wp2;go_ret;exact⟨v6,rfl,bz.out,aY.out⟩
theorem Df (base:Nat) (W:World) (v:Value) (xs ys:List Int) (hr:Row W base v xs) (hl:xs.length<=1000000) (hy:ys.length<=1000000) (hb:base<=W.heap.size) :
  ∃ v' W',(Builtin.append_ #[115,115] 115 #[v,.slice (some (Qb W.heap.size 0)) ys.length ys.length]).run Tryz.prog (W.alloc (.cells (ys.map (Value.int .u8)).toArray 5))=.ok v' W'/\Row W' base v' (xs++ys)/\(W.alloc (.cells (ys.map (Value.int .u8)).toArray 5)).grownBy W' v.ownBlock:=by
 obtain⟨i0,hi,hz0,hz1,hz2⟩:=info5;obtain⟨v4,w4,hap,hrow,hg,_,_⟩:=run_append_own_at (P:=Tryz.prog) (w:=W.alloc (.cells (ys.map (Value.int .u8)).toArray 5)) base 115 115 5 i0 (.int .u8 0) 1 1 Tryz.underlying115 hi hz0 hz1 hz2 rfl (by decide) v xs.length (xs.map (Value.int .u8)) (World.ownsRow.alloc hr _) (Qb W.heap.size 0) ys.length ys.length (ys.map (Value.int .u8)) (by simp)
  (fun j u hj=>by
   have hp:(⟨W.heap.size,0,none⟩:Addr).add j=(Qb W.heap.size j):=by unfold Addr.add;split <;> simp_all
   rw[hp,cR _ _ j _ 5 _ (hNq W _)];simpa using hj) (fun u hu=>by obtain⟨_,_,rfl⟩:=List.mem_map.1 hu;rfl) (by unfold maxLen;omega) (by omega) (by simp;omega)
 refine⟨v4,w4,hap,?_,hg⟩;show w4.ownsRow base 5 1 v4 (xs++ys).length ((xs++ys).map (Value.int .u8));rw[lAq,List.map_append];exact hrow
theorem below_grown {base:Nat} {w W1 W2:World} {v:Value} {n sz:Nat} {e:TypeId} {ys:List Value} (h:Below base w W1) (hr:W1.ownsRow base e sz v n ys) (lw:base<=W1.heap.size) (hg:W1.grownBy W2 v.ownBlock):Below base w W2 :=
 h.trans ⟨hg.os,hg.tape,hg.output,hg.size,fun k hk=>hg.block k (by omega) (fun e1=>by have:=(World.ownsRow.lt hr k e1.symm).1;omega)⟩
end Go.Proofs.YtjolccidheflpaaGreatDoor
