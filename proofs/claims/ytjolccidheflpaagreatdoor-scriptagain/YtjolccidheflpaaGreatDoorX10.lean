/- A record's bytes, and how a disk is written: record and write. -/
import Derived.Test.YtjolccidheflpaaGreatDoorX09
import Derived.Deep.RegionLaw
namespace Go.Proofs.YtjolccidheflpaaGreatDoor
open Go.Proofs.Tryz
set_option maxHeartbeats 8000000
set_option maxRecDepth 100000
open Go.RowKit
theorem aod(s:List UInt8):ints (bL.rec s)=((ints (bL.four s.length)++ints (bL.four (4294967295-s.length)))++ints s)++ints (bL.low (ah.sum s)):=by simp[bL.rec,PY,List.append_assoc]
theorem A5(n:Nat)(h:n<4294967296):4294967295 ^^^ n=4294967295-n:=by
 have h1:(BitVec.allOnes 32 ^^^ BitVec.ofNat 32 n).toNat=4294967295-n:=by rw[BitVec.allOnes_xor,BitVec.toNat_not,BitVec.toNat_ofNat,Nat.mod_eq_of_lt (by omega)]
 rw[BitVec.toNat_xor,BitVec.toNat_ofNat,Nat.mod_eq_of_lt (by omega)]at h1;exact h1
theorem aoe(s:ByteArray)(w:World)(hs:s.size<=10000):
  Calls prog 136 #[.string s] w fun e w'=>∃v,e=.returned v/\Row w' w.heap.size v (ints (bL.rec s.data.toList))/\U w w':=by
 obtain⟨i5,hi,hz0,hz1,hz2⟩:=info5;have jC:=Y (I1 s w (by omega));generalize hn:12+s.size=n at jC;have aul:n<=10012:=by omega
 obtain⟨M,hM⟩:∃M,M=madeCells (Value.int .u8 0).cells ((n:Int).toNat*i5.size):=⟨_,rfl⟩;have nB:M.size=n:=by rw[hM,size_madeCells,hz1];simp
 have ay:∀W:World,(Instr.makeSlice 115 (Z 0) (Z (n:Int))).run prog W=.ok (.slice (some (O W.heap.size 0)) 0 n) (W.alloc (.cells M 5)):=fun W=>by
  have h:=run_make (P:=prog) W 115 5 i5 (.int .u8 0) underlying115 hi hz0 .i64 .i64 (0:Int) (n:Int) (by omega) (by omega) (by rw[hz2];omega) (by omega);rw[<- hM]at h;simpa using h
 have gi:Hid (Row (w.alloc (.cells M 5)) w.heap.size (.slice (some (O w.heap.size 0)) 0 n) []):=World.ownsRow_made w M n (E _) (by unfold maxLen;omega) (by omega);have Hi:=Y hi;have fe:=Y hz0;have fg:=Y hz1;have fh:=Y hz2;have Hn:=Y hn;clear hM hi hz0 hz1 hz2 hn nB;go_enter func136,ntmps136
 go_wp2_with fail
 refine jC.mono ?_;rintro e w1 ⟨rfl,rfl⟩
 go_wp2_with fail
 refine(Kg _ [] _ w1.heap.size _ gi (by simp) (by simp)).mono ?_;rintro e w2 ⟨v2,rfl,hr2,hb2⟩;have b_:Hid (Row w2 w1.heap.size v2 (ints (bL.four s.size))):=by rw[aag];exact hr2
 have HB2:Hid (U w1 w2):=aj.trans hb2;clear hr2 hb2
 go_wp2_with fail
 rw[show bits .xor .u32 IntKind.u32.max (s.size:Int)=((4294967295-s.size:Nat):Int) by rw[show IntKind.u32.max=((4294967295:Nat):Int) from rfl,u32_xor_nat _ _ (by decide) (by omega),A5 _ (by omega)]];refine(Kg _ _ _ w1.heap.size _ b_ (by rw[jH];simp[bL.four]) HB2.size).mono ?_;rintro e w3 ⟨v3,rfl,hr3,hb3⟩;have HR3:Hid (Row w3 w1.heap.size v3 (ints (bL.four s.size)++ints (bL.four (4294967295-s.size)))):=by rw[aag (4294967295-s.size)];exact hr3
 have av:Hid (U w1 w3):=HB2.trans hb3;clear hr3 hb3 ay;have aah:(ints (bL.four s.size)++ints (bL.four (4294967295-s.size))).length=8:=by rw[lAq,jH,jH];rfl
 have PZ:=Y aah;clear aah
 go_wp2_with (at_builtin;refine Lib.wpList_append_own_string _ rfl _ _ 115 9 rfl w1.heap.size 5 i5 underlying115 underlying9 Hi fe fg fh _ _ _ rfl HR3 s rfl ?c3 ?c4 ?c5 ?_)
 case c3=>rw[PZ.out];unfold maxLen;omega
 case c4=>rw[PZ.out];omega
 case c5=>exact av.size
 intro v4 w4 hown' hgrow _;have cO:Hid (Row w4 w1.heap.size v4 ((ints (bL.four s.size)++ints (bL.four (4294967295-s.size)))++ints s.data.toList)):=by rw[aof,<- List.map_append]at hown';unfold Row;rw[lAq,jH s.data.toList,rh];exact hown'
 have bS:Hid (U w1 w4):=av.grown hgrow av.size (fun k hk=>(World.ownsRow.lt HR3 k hk).1);clear hown' hgrow
 go_wp2_with fail
 refine(vt s _ (by unfold maxLen;omega)).mono ?_;rintro e aI ⟨rfl,rfl⟩
 go_wp2_with fail
 refine(S9 v4 _ _ w1.heap.size _ cO (by rw[lAq,PZ.out,jH,rh];omega) bS.size).mono ?_;rintro e aA ⟨v6,rfl,fB,hb6⟩;have bT:Hid (Row aA w1.heap.size v6 (ints (bL.rec s.data.toList))):=by rw[aod,aog,rh];exact fB
 have bk:Hid (U w1 aA):=bS.trans hb6;clear fB hb6;go_wp2;go_ret;exact⟨v6,rfl,bT,bk⟩
theorem EP(base:Nat)(W:World)(v:Value)(xs ys:List Int)(hr:Row W base v xs)(hl:xs.length<=1000000)(hy:ys.length<=1000000)(hb:base<=W.heap.size):
  ∃v' W',(Builtin.append_ #[115,115] 115 #[v,.slice (some (O W.heap.size 0)) ys.length ys.length]).run prog (W.alloc (.cells (ys.map (Value.int .u8)).toArray 5))=.ok v' W'/\Row W' base v' (xs++ys)/\(W.alloc (.cells (ys.map (Value.int .u8)).toArray 5)).grownBy W' v.ownBlock:=by
 obtain⟨i0,hi,hz0,hz1,hz2⟩:=info5;obtain⟨v4,w4,hap,hrow,hg,_,_⟩:=run_append_own_at (P:=prog) (w:=W.alloc (.cells (ys.map (Value.int .u8)).toArray 5)) base 115 115 5 i0 (.int .u8 0) 1 1 underlying115 hi hz0 hz1 hz2 rfl (by decide) v xs.length (xs.map (Value.int .u8)) (World.ownsRow.alloc hr _) (O W.heap.size 0) ys.length ys.length (ys.map (Value.int .u8)) (by simp)
  (fun j u hj=>by
   have hp:(⟨W.heap.size,0,none⟩:Addr).add j=(O W.heap.size j):=by unfold Addr.add;split <;> simp_all
   rw[hp,cR _ _ j _ 5 _ (hNq W _)];simpa using hj) (fun u hu=>by obtain⟨_,_,rfl⟩:=List.mem_map.1 hu;rfl) (by unfold maxLen;omega) (by omega) (by simp;omega)
 refine⟨v4,w4,hap,?_,hg⟩;show w4.ownsRow base 5 1 v4 (xs++ys).length ((xs++ys).map (Value.int .u8));rw[lAq,List.map_append];exact hrow
theorem below_grown{base:Nat}{w W1 W2:World}{v:Value}{n sz:Nat}{e:TypeId}{ys:List Value}(h:Below base w W1)(hr:W1.ownsRow base e sz v n ys)(kT:base<=W1.heap.size)(hg:W1.grownBy W2 v.ownBlock):Below base w W2 :=
 h.trans ⟨hg.os,hg.tape,hg.output,hg.size,fun k hk=>hg.block k (by omega) (fun e1=>by have:=(World.ownsRow.lt hr k e1.symm).1;omega)⟩
end Go.Proofs.YtjolccidheflpaaGreatDoor
