/- A record's bytes, and how a disk is written: record and write. -/
import Derived.Test.YtidahfhingdlmaaGreatDoorT03
import Derived.Test.YtidahfhingdlmaaGreatDoorT09
import Derived.Laws.MakeOwn
import Derived.Deep.RegionLaw
namespace Go.Proofs.YtidahfhingdlmaaGreatDoor
open Go.RowKit
set_option maxRecDepth 100000
theorem rec_ints (s:List UInt8):ints (Tp.rec s) = ((ints (Tp.four s.length)++ints (Tp.four (4294967295 - s.length)))++ints s)++ints (Tp.low (Wi.sum s)):=by simp [Tp.rec,ints_append,List.append_assoc]
theorem not32 (n:Nat) (h:n < 4294967296):4294967295 ^^^ n = 4294967295 - n:=by
 have h1:(BitVec.allOnes 32 ^^^ BitVec.ofNat 32 n).toNat = 4294967295 - n:=by
  rw [BitVec.allOnes_xor,BitVec.toNat_not,BitVec.toNat_ofNat,Nat.mod_eq_of_lt (by omega)]
 rw [BitVec.toNat_xor,BitVec.toNat_ofNat,Nat.mod_eq_of_lt (by omega)] at h1
 exact h1
set_option maxHeartbeats 400000 in
theorem record_any (s:ByteArray) (w:World) (hs:s.size≤10000) :
  Calls Tryz.prog 93 #[.string s] w fun e w'=>∃ v,e = .returned v∧Row w' w.heap.size v (ints (Tp.rec s.data.toList))∧Below w.heap.size w w':=by
 obtain ⟨i5,hi,hz0,hz1,hz2⟩:=info5
 have HRS:=hide (recordSize_any s w (by omega))
 generalize hn:12 + s.size = n at HRS
 have hn2:n≤10012:=by omega
 obtain ⟨M,hM⟩:∃ M,M = madeCells (Value.int .u8 0).cells ((n:Int).toNat * i5.size):=⟨_,rfl⟩
 have hMs:M.size = n:=by rw [hM,size_madeCells,hz1];simp
 have hmk:∀ W:World,(Instr.makeSlice 140 (.int .i64 0) (.int .i64 (n:Int))).run Tryz.prog W = .ok (.slice (some ⟨W.heap.size,0,none⟩) 0 n) (W.alloc (.cells M 5)):=fun W=>by
  have h:=run_make (P:=Tryz.prog) W 140 5 i5 (.int .u8 0) Tryz.underlying140 hi hz0 .i64 .i64 (0:Int) (n:Int) (by omega) (by omega) (by rw [hz2];omega) (by omega)
  rw [← hM] at h
  simpa using h
 have HR0:Hid (Row (w.alloc (.cells M 5)) w.heap.size (.slice (some ⟨w.heap.size,0,none⟩) 0 n) []):=World.ownsRow_made w M n (Nat.le_refl _) (by unfold maxLen;omega) (by omega)
 have Hi:=hide hi;have Hz0:=hide hz0;have Hz1:=hide hz1;have Hz2:=hide hz2;have Hn:=hide hn
 clear hM hi hz0 hz1 hz2 hn hMs
 go_enter Tryz.func93,Tryz.ntmps93
 go_wp2_with fail
 refine HRS.out.mono ?_
 rintro e w1 ⟨rfl,rfl⟩
 go_wp2_with fail
 refine (putHigh32 _ [] _ w1.heap.size _ HR0.out (by simp) (by simp)).mono ?_
 rintro e w2 ⟨v2,rfl,hr2,hb2⟩
 have HR2:Hid (Row w2 w1.heap.size v2 (ints (Tp.four s.size))):=by rw [ints_four];exact hr2
 have HB2:Hid (Below w1.heap.size w1 w2):=((Below.refl _ _).alloc (Nat.le_refl _) _).trans hb2
 clear hr2 hb2 HR0 HRS
 go_wp2_with fail
 rw [show bits .xor .u32 IntKind.u32.max (s.size:Int) = ((4294967295 - s.size:Nat):Int) by rw [show IntKind.u32.max = ((4294967295:Nat):Int) from rfl,u32_xor_nat _ _ (by decide) (by omega),not32 _ (by omega)]]
 refine (putHigh32 _ _ _ w1.heap.size _ HR2.out (by rw [ints_length];simp [Tp.four]) HB2.out.size).mono ?_
 rintro e w3 ⟨v3,rfl,hr3,hb3⟩
 have HR3:Hid (Row w3 w1.heap.size v3 (ints (Tp.four s.size)++ints (Tp.four (4294967295 - s.size)))):=by rw [ints_four (4294967295 - s.size)];exact hr3
 have HB3:Hid (Below w1.heap.size w1 w3):=HB2.out.trans hb3
 clear hr3 hb3 HR2 HB2 hmk
 have hL8:(ints (Tp.four s.size)++ints (Tp.four (4294967295 - s.size))).length = 8:=by rw [List.length_append,ints_length,ints_length];rfl
 have HL8:=hide hL8
 clear hL8
 go_wp2_with (at_builtin;refine Lib.wpList_append_own_string _ rfl _ _ 140 9 rfl w1.heap.size 5 i5 Tryz.underlying140 Tryz.underlying9 Hi.out Hz0.out Hz1.out Hz2.out _ _ _ rfl HR3.out s rfl ?c3 ?c4 ?c5 ?_)
 case c3=>rw [HL8.out];unfold maxLen;omega
 case c4=>rw [HL8.out];omega
 case c5=>exact HB3.out.size
 intro v4 w4 hown' hgrow _
 have HR4:Hid (Row w4 w1.heap.size v4 ((ints (Tp.four s.size)++ints (Tp.four (4294967295 - s.size)))++ints s.data.toList)):=by
  rw [strCells_ints,← List.map_append] at hown'
  unfold Row
  rw [List.length_append,ints_length s.data.toList,size_list]
  exact hown'
 have HB4:Hid (Below w1.heap.size w1 w4):=HB3.out.grown hgrow HB3.out.size (fun k hk=>(World.ownsRow.lt HR3.out k hk).1)
 clear hown' hgrow HR3 HB3
 go_wp2_with fail
 refine (sum_any s _ (by unfold maxLen;omega)).mono ?_
 rintro e w5 ⟨rfl,rfl⟩
 go_wp2_with fail
 refine (putLow v4 _ _ w1.heap.size _ HR4.out (by rw [List.length_append,HL8.out,ints_length,size_list];omega) HB4.out.size).mono ?_
 rintro e w6 ⟨v6,rfl,hr6,hb6⟩
 have HR6:Hid (Row w6 w1.heap.size v6 (ints (Tp.rec s.data.toList))):=by rw [rec_ints,ints_low,size_list];exact hr6
 have HB6:Hid (Below w1.heap.size w1 w6):=HB4.out.trans hb6
 clear hr6 hb6
 go_wp2
 go_ret
 exact ⟨v6,rfl,HR6.out,HB6.out⟩
end Go.Proofs.YtidahfhingdlmaaGreatDoor
