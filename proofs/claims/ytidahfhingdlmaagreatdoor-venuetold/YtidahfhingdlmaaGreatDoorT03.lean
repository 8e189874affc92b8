/- What each call of package wire's checks does, for every request: the walks of within, isItem, isKind, isBounded, isShaped and Check. -/
import Derived.Test.YtidahfhingdlmaaGreatDoorRows
import Derived.Test.YtidahfhingdlmaaGreatDoorT02
import Derived.WalkKit
import Derived.WalkSpells
import Derived.WalkLawsBesides
import Derived.Laws.BitsAllLaws
import Derived.Deep.Light
import Derived.Lib.AppendStr
import Derived.Lib.FrozenHead
import Derived.Laws.IdiomStrings
import Derived.Maps.AppendAt
namespace Go.Proofs.YtidahfhingdlmaaGreatDoor
open Go.RowKit
theorem ret_bool {a b:Bool} (h:a = b):Ending.returned (.bool a) = .returned (.bool b):=by rw [h]
theorem ret_int {k:IntKind} {a b:Int} (h:a = b):Ending.returned (.int k a) = .returned (.int k b):=by rw [h]
set_option maxHeartbeats 400000 in
theorem within_any (x lo hi:Int) (w:World) :
  Calls Tryz.prog 81 #[.int .i64 x,.int .i64 lo,.int .i64 hi] w fun e w'=>e = .returned (.bool (Wi.withinB x lo hi))∧w' = w:=by
 by_cases h:lo≤x
 ·go_enter Tryz.func81,Tryz.ntmps81
  go_wp2
  go_ret
  exact ⟨ret_bool (by simp [Wi.withinB,h]),rfl⟩
 ·have h':decide (lo≤x) = false:=by simpa using h
  go_enter Tryz.func81,Tryz.ntmps81
  go_wp2
  go_ret
  exact ⟨ret_bool (by simp [Wi.withinB,h']),rfl⟩
theorem isClB_any (n:Int) (w:World):Calls Tryz.prog 50 #[.int .i64 n] w fun e w'=>e = .returned (.bool (Wi.withinB n 0 5))∧w' = w:=by
 go_enter Tryz.func50,Tryz.ntmps50
 go_wp2_with fail
 refine (within_any n 0 5 w).mono ?_
 rintro e w2 ⟨rfl,rfl⟩
 simp only []
 go_wp2
 go_ret
 exact ⟨rfl,rfl⟩
theorem item_any (n:Int) (w:World) :
  Calls Tryz.prog 182 #[.int .i64 n] w fun e w'=>e = .returned (.bool (Wi.withinB n 0 2))∧w' = w:=by
 go_enter Tryz.func182,Tryz.ntmps182
 go_wp2_with (go_at_call 81;refine (within_any _ _ _ _).mono ?_;rintro e w' ⟨rfl,rfl⟩)
 go_ret
 exact ⟨rfl,rfl⟩
set_option maxHeartbeats 400000 in
theorem kind_any (k:Int) (w:World) :
  Calls Tryz.prog 153 #[.int .u8 k] w fun e w'=>e = .returned (.bool (Wi.kindB k))∧w' = w:=by
 go_enter Tryz.func153,Tryz.ntmps153
 go_wp2
 all_goals go_ret
 all_goals simp [Wi.kindB, *]
set_option maxHeartbeats 400000 in
theorem shape_any (k c sq it sd pr q id:Int) (w:World) :
  Calls Tryz.prog 155 #[.agg #[.int .u8 k,.int .i64 c,.int .i64 sq,.int .i64 it,.int .i64 sd,.int .i64 pr,.int .i64 q,.int .i64 id]] w fun e w'=>e = .returned (.bool (Wi.shapeB k it sd pr q id))∧Below w.heap.size w w':=by
 go_enter Tryz.func155,Tryz.ntmps155
 go_wp2
 all_goals go_ret
 all_goals
  refine ⟨ret_bool ?_,(Below.refl _ _).alloc (Nat.le_refl _) _⟩
  go_light
  simp [Wi.shapeB, *]
set_option maxHeartbeats 1000000 in
theorem bound_any (k c sq it sd pr q id:Int) (w:World) :
  Calls Tryz.prog 154 #[.agg #[.int .u8 k,.int .i64 c,.int .i64 sq,.int .i64 it,.int .i64 sd,.int .i64 pr,.int .i64 q,.int .i64 id]] w fun e w'=>e = .returned (.bool (Wi.boundB k c sq it sd pr q id))∧Below w.heap.size w w':=by
 go_enter Tryz.func154,Tryz.ntmps154
 go_wp2_with (first | (go_at_call 50;refine (isClB_any _ _).mono ?_;rintro e w' ⟨rfl,rfl⟩) | (go_at_call 81;refine (within_any _ _ _ _).mono ?_;rintro e w' ⟨rfl,rfl⟩) | (go_at_call 182;refine (item_any _ _).mono ?_;rintro e w' ⟨rfl,rfl⟩))
 all_goals go_ret
 all_goals
  refine ⟨ret_bool ?_,(Below.refl _ _).alloc (Nat.le_refl _) _⟩
  go_light
  simp_all [Wi.boundB]
theorem bcell {W w1:World} (hb:Below W.heap.size W w1):(∀ b o,b < W.heap.size→w1.cell? ⟨b,o,none⟩ = W.cell? ⟨b,o,none⟩)∧(∀ b o,b < W.heap.size→w1.frozen? ⟨b,o,none⟩ = W.frozen? ⟨b,o,none⟩) :=
 ⟨fun b o h=>hb.cell (p:=⟨b,o,none⟩) h,fun b o h=>hb.frozen (p:=⟨b,o,none⟩) h⟩
set_option maxHeartbeats 1000000 in
theorem check_kind (k c sq it sd pr q id:Int) (v3:Value) (w:World) (hz:5 < w.heap.size) (h3:w.cell? ⟨5,0,none⟩ = some v3) (hk:Wi.kindB k = false) :
  Calls Tryz.prog 127 #[.agg #[.int .u8 k,.int .i64 c,.int .i64 sq,.int .i64 it,.int .i64 sd,.int .i64 pr,.int .i64 q,.int .i64 id]] w fun e w'=>e = .returned v3∧Below w.heap.size w w':=by
 go_enter Tryz.func127,Tryz.ntmps127
 go_wp2_with fail
 refine (kind_any _ _).mono ?_
 rintro e w1 ⟨rfl,rfl⟩
 go_wp2
 go_ret
 exact ⟨rfl,(Below.refl _ _).alloc (Nat.le_refl _) _⟩
set_option maxHeartbeats 1000000 in
theorem check_bound (k c sq it sd pr q id:Int) (v1:Value) (w:World) (hz:1 < w.heap.size) (h3:w.cell? ⟨1,0,none⟩ = some v1) (hk:Wi.kindB k = true) (hbd:Wi.boundB k c sq it sd pr q id = false) :
  Calls Tryz.prog 127 #[.agg #[.int .u8 k,.int .i64 c,.int .i64 sq,.int .i64 it,.int .i64 sd,.int .i64 pr,.int .i64 q,.int .i64 id]] w fun e w'=>e = .returned v1∧Below w.heap.size w w':=by
 go_enter Tryz.func127,Tryz.ntmps127
 go_wp2_with fail
 refine (kind_any _ _).mono ?_
 rintro e w1 ⟨rfl,rfl⟩
 go_wp2_with fail
 refine (bound_any _ _ _ _ _ _ _ _ _).mono ?_
 rintro e w1 ⟨rfl,hb1⟩
 obtain ⟨hc1,hf1⟩:=bcell hb1
 have hz1:w.heap.size < w1.heap.size:=by have:=hb1.size;simp at this;omega
 have hB1:Below w.heap.size w w1:=((Below.refl _ _).alloc (Nat.le_refl _) _).trans (hb1.mono (by simp))
 have hg1:w1.cell? ⟨1,0,none⟩ = some v1:=by rw [hB1.cell (p:=⟨1,0,none⟩) hz];exact h3
 go_wp2
 go_ret
 exact ⟨rfl,((Below.refl _ _).alloc (Nat.le_refl _) _).trans (hb1.mono (by simp))⟩
set_option maxHeartbeats 1000000 in
theorem check_shape (k c sq it sd pr q id:Int) (v2:Value) (w:World) (hz:3 < w.heap.size) (h3:w.cell? ⟨3,0,none⟩ = some v2) (hk:Wi.kindB k = true) (hbd:Wi.boundB k c sq it sd pr q id = true) (hsh:Wi.shapeB k it sd pr q id = false) :
  Calls Tryz.prog 127 #[.agg #[.int .u8 k,.int .i64 c,.int .i64 sq,.int .i64 it,.int .i64 sd,.int .i64 pr,.int .i64 q,.int .i64 id]] w fun e w'=>e = .returned v2∧Below w.heap.size w w':=by
 go_enter Tryz.func127,Tryz.ntmps127
 go_wp2_with fail
 refine (kind_any _ _).mono ?_
 rintro e w1 ⟨rfl,rfl⟩
 go_wp2_with fail
 refine (bound_any _ _ _ _ _ _ _ _ _).mono ?_
 rintro e w1 ⟨rfl,hb1⟩
 obtain ⟨hc1,hf1⟩:=bcell hb1
 have hz1:w.heap.size < w1.heap.size:=by have:=hb1.size;simp at this;omega
 have hB1:Below w.heap.size w w1:=((Below.refl _ _).alloc (Nat.le_refl _) _).trans (hb1.mono (by simp))
 have hg1:w1.cell? ⟨3,0,none⟩ = some v2:=by rw [hB1.cell (p:=⟨3,0,none⟩) hz];exact h3
 go_wp2_with fail
 refine (shape_any _ _ _ _ _ _ _ _ _).mono ?_
 rintro e w2 ⟨rfl,hb2⟩
 obtain ⟨hc2,hf2⟩:=bcell hb2
 have hg2:w2.cell? ⟨3,0,none⟩ = some v2:=by rw [hb2.cell (p:=⟨3,0,none⟩) (by simp;omega)];exact hg1
 go_wp2
 go_ret
 exact ⟨rfl,(((Below.refl _ _).alloc (Nat.le_refl _) _).trans (hb1.mono (by simp))).trans (hb2.mono (by omega))⟩
set_option maxHeartbeats 1000000 in
theorem check_fine (k c sq it sd pr q id:Int) (w:World) (hk:Wi.kindB k = true) (hbd:Wi.boundB k c sq it sd pr q id = true) (hsh:Wi.shapeB k it sd pr q id = true) :
  Calls Tryz.prog 127 #[.agg #[.int .u8 k,.int .i64 c,.int .i64 sq,.int .i64 it,.int .i64 sd,.int .i64 pr,.int .i64 q,.int .i64 id]] w fun e w'=>e = .returned .nilIface∧Below w.heap.size w w':=by
 go_enter Tryz.func127,Tryz.ntmps127
 go_wp2_with fail
 refine (kind_any _ _).mono ?_
 rintro e w1 ⟨rfl,rfl⟩
 go_wp2_with fail
 refine (bound_any _ _ _ _ _ _ _ _ _).mono ?_
 rintro e w1 ⟨rfl,hb1⟩
 obtain ⟨hc1,hf1⟩:=bcell hb1
 have hz1:w.heap.size < w1.heap.size:=by have:=hb1.size;simp at this;omega
 go_wp2_with fail
 refine (shape_any _ _ _ _ _ _ _ _ _).mono ?_
 rintro e w2 ⟨rfl,hb2⟩
 obtain ⟨hc2,hf2⟩:=bcell hb2
 go_wp2
 go_ret
 exact ⟨rfl,(((Below.refl _ _).alloc (Nat.le_refl _) _).trans (hb1.mono (by simp))).trans (hb2.mono (by omega))⟩
theorem hide {p:Prop} (h:p):Hid p:=h
theorem take_snoc (s:ByteArray) (k:Nat) (h:k < s.size):s.data.toList.take (k + 1) = s.data.toList.take k++[s[k]]:=by
 rw [List.take_succ_eq_append_getElem (by simpa using h)];rfl
theorem and_one (z:Nat) (hz:z < 4294967296):bits .and .u32 (z:Int) 1 = ((z % 2:Nat):Int):=by
 rw [show (1:Int) = ((1:Nat):Int) from rfl,u32_and_nat z 1 hz (by decide),Nat.and_one_is_mod]
theorem bit_one (z:Nat) (hz:z < 4294967296) (h:(bits .and .u32 (z:Int) 1 == 1) = true):bits .xor .u32 ((z:Int) / 2) 3988292384 = (Wi.bit z:Int):=by
 rw [and_one z hz,beq_iff_eq] at h
 have h2:z % 2 = 1:=by omega
 rw [show ((z:Int) / 2) = ((z / 2:Nat):Int) from by omega,show (3988292384:Int) = ((3988292384:Nat):Int) from rfl,u32_xor_nat (z / 2) 3988292384 (by omega) (by decide)]
 simp [Wi.bit,h2]
theorem bit_zero (z:Nat) (hz:z < 4294967296) (h:(bits .and .u32 (z:Int) 1 == 1) = false):((z:Int) / 2) = (Wi.bit z:Int):=by
 rw [and_one z hz,beq_eq_false_iff_ne] at h
 have h2:¬ z % 2 = 1:=by omega
 simp [Wi.bit,h2]
theorem val_int {k:IntKind} {a b:Int} (h:a = b):Value.int k a = .int k b:=by rw [h]
set_option maxHeartbeats 1000000 in
theorem sum_any (s:ByteArray) (w:World) (hs:s.size≤maxLen) :
  Calls Tryz.prog 125 #[.string s] w fun e w'=>e = .returned (.int .u32 (Wi.sum s.data.toList))∧w' = w:=by
 unfold maxLen at hs
 go_enter Tryz.func125,Tryz.ntmps125
 go_wp2
 go_loop [3,8] (fun n i=>∃ k:Nat,k≤s.size∧i = .int .i64 k∧n = .int .u32 (Wi.run (s.data.toList.take k) 4294967295)) (fun _ i=>s.size - (intOf i).toNat)
 case atStart=>exact ⟨0,Nat.zero_le _,rfl,rfl⟩
 case round =>
  obtain ⟨k,hk,rfl,rfl⟩:=hrel
  have hr:Wi.run (s.data.toList.take k) 4294967295 < 4294967296:=Wi.run_lt _ (by decide)
  by_cases hlt:k < s.size
  ·have HS:Hid (Wi.run (s.data.toList.take (k + 1)) 4294967295 = Wi.byte (Wi.run (s.data.toList.take k) 4294967295) s[k].toNat):=by
    rw [take_snoc s k hlt];exact Wi.run_snoc _ _ _
   have hb:s[k].toNat < 256:=s[k].toNat_lt
   generalize hg:Wi.run (s.data.toList.take k) 4294967295 = r at *
   have Hg:=hide hg;clear hg
   go_wp2
   rw [u32_xor_nat r s[k].toNat hr (by omega)]
   have hx:r ^^^ s[k].toNat < 4294967296:=Wi.xor_lt hr (by omega)
   generalize hy:r ^^^ s[k].toNat = y at *
   have Hy:=hide hy;clear hy
   go_loop [3,17] (fun n i=>∃ j:Nat,j≤8∧i = .int .i64 j∧n = .int .u32 (Wi.bits j y)) (fun _ i=>8 - (intOf i).toNat)
   case atStart=>exact ⟨0,Nat.zero_le _,rfl,rfl⟩
   case round =>
    obtain ⟨j,hj,rfl,rfl⟩:=hrel
    have hy2:Wi.bits j y < 4294967296:=Wi.bits_lt j hx
    have HB:=hide (Wi.bits_succ j y)
    generalize hz:Wi.bits j y = z at *
    have Hz:=hide hz;clear hz
    by_cases hj8:j < 8
    ·go_wp2
     ·exact ⟨⟨j + 1,by omega,by go_num,val_int (by rw [HB.out];exact bit_one z hy2 ‹_›)⟩,by simp [intOf];omega⟩
     ·exact ⟨⟨j + 1,by omega,by go_num,val_int (by rw [HB.out];exact bit_zero z hy2 ‹_›)⟩,by simp [intOf];omega⟩
    ·go_wp2
     have hj':j = 8:=by omega
     exact ⟨⟨k + 1,by omega,by go_num,val_int (by rw [HS.out,Wi.byte,Hy.out,← Hz.out,hj'])⟩,by simp [intOf];omega⟩
  ·go_wp2
   go_ret
   exact ⟨ret_int (by rw [show IntKind.u32.max = ((4294967295:Nat):Int) from rfl,u32_xor_nat _ _ (by decide) hr,List.take_of_length_le (by simp;omega),Nat.xor_comm];rfl),rfl⟩
end Go.Proofs.YtidahfhingdlmaaGreatDoor
namespace Go.Proofs.YtidahfhingdlmaaGreatDoor
open Go.RowKit
set_option maxRecDepth 100000
set_option maxHeartbeats 400000 in
theorem in_any (x lo hi:Int) (w:World) :
  Calls Tryz.prog 49 #[.int .i64 x,.int .i64 lo,.int .i64 hi] w fun e w'=>e = .returned (.bool (Wi.withinB x lo hi))∧w' = w:=by
 by_cases h:lo≤x
 ·go_enter Tryz.func49,Tryz.ntmps49
  go_wp2
  go_ret
  exact ⟨ret_bool (by simp [Wi.withinB,h]),rfl⟩
 ·have h':decide (lo≤x) = false:=by simpa using h
  go_enter Tryz.func49,Tryz.ntmps49
  go_wp2
  go_ret
  exact ⟨ret_bool (by simp [Wi.withinB,h']),rfl⟩
set_option maxHeartbeats 4000000 in
theorem askError_any (k c sq it sd pr q id:Int) (w:World) :
  Calls Tryz.prog 14 #[.agg #[.int .u8 k,.int .i64 c,.int .i64 sq,.int .i64 it,.int .i64 sd,.int .i64 pr,.int .i64 q,.int .i64 id]] w fun e w'=>e = .returned (.int .i64 (Wi.code k c sq it sd pr q id))∧Below w.heap.size w w':=by
 go_enter Tryz.func14,Tryz.ntmps14
 go_wp2_with (go_at_call 49;refine (in_any _ _ _ _).mono ?_;rintro e w' ⟨rfl,rfl⟩)
 all_goals go_ret
 all_goals
  refine ⟨ret_int ?_,(Below.refl _ _).alloc (Nat.le_refl _) _⟩
 all_goals
  go_light
  try simp only [Wi.withinB,Bool.and_eq_true,decide_eq_true_eq,Bool.not_eq_true',Bool.and_eq_false_iff,decide_eq_false_iff_not,Bool.not_eq_false',bne_iff_ne,ne_eq,beq_iff_eq,bne_eq_false_iff_eq,not_and,beq_eq_false_iff_ne] at *
  simp only [Wi.code,Wi.kindB,Wi.boundB,Wi.shapeB,Wi.withinB,Bool.or_eq_true,Bool.and_eq_true,beq_iff_eq,decide_eq_true_eq]
  repeat' split
  all_goals first | omega | (simp_all;done) | (simp only [Bool.and_eq_true,decide_eq_true_eq] at *;omega) | (simp_all;omega)
def Row (w:World) (base:Nat) (v:Value) (xs:List Int):Prop:=w.ownsRow base 5 1 v xs.length (xs.map (Value.int .u8))
theorem info5:∃ i,Tryz.prog.info? 5 = some i∧i.zero = some (.int .u8 0)∧i.size = 1∧i.bytes = 1:=⟨_,rfl,rfl,rfl,rfl⟩
set_option maxHeartbeats 1000000 in
theorem putHigh32 (v:Value) (xs:List Int) (x:Int) (base:Nat) (w:World) (hown:Row w base v xs) (hn:xs.length≤100000) (hbase:base≤w.heap.size) :
  Calls Tryz.prog 123 #[v,.int .u32 x] w fun e w'=>∃ v',e = .returned v'∧Row w' base v' (xs++[x / 16777216 % 256,x / 65536 % 256,x / 256 % 256,x % 256])∧Below base w w':=by
 obtain ⟨i5,hi,hz0,hz1,hz2⟩:=info5
 have Hi:=hide hi;have Hz0:=hide hz0;have Hz1:=hide hz1;have Hz2:=hide hz2
 clear hi hz0 hz1 hz2
 have Hown:Hid (Row w base v xs):=hown
 clear hown
 go_enter Tryz.func123,Tryz.ntmps123
 go_wp2_with (at_builtin;refine wpList_append_own _ rfl _ _ 140 rfl base 5 i5 (.int .u8 0) 1 1 Tryz.underlying140 Hi.out Hz0.out Hz1.out Hz2.out rfl (by decide) _ _ _ rfl (World.ownsRow.alloc Hown.out _) ⟨w.heap.size,0,none⟩ 4 4 ([x / 16777216 % 256,x / 65536 % 256,x / 256 % 256,x % 256].map (Value.int .u8)) rfl rfl ?c1 ?c2 ?c3 ?c4 ?c5 ?_)
 case c1 =>
  intro j u hj
  match j,hj with
  | 0,hj=>simp at hj;subst hj;simp [Addr.add]
  | 1,hj=>simp at hj;subst hj;simp [Addr.add]
  | 2,hj=>simp at hj;subst hj;simp [Addr.add]
  | 3,hj=>simp at hj;subst hj;simp [Addr.add]
 case c2=>intro u hu;simp at hu;rcases hu with rfl | rfl | rfl | rfl <;> rfl
 case c3=>unfold maxLen;omega
 case c4=>omega
 case c5=>simp;omega
 intro v' w2 hown' hgrow _
 have HO:=hide hown';have HG:=hide hgrow
 clear hown' hgrow
 go_wp2
 go_ret
 refine ⟨v',rfl,?_,?_⟩
 ·have:=HO.out
  unfold Row
  simpa using this
 ·exact ((Below.refl _ _).alloc hbase _).grown HG.out (by simp;omega) (fun k hk=>(World.ownsRow.lt Hown.out k hk).1)
theorem putHigh (v:Value) (xs:List Int) (x:Int) (base:Nat) (w:World) (hown:Row w base v xs) (hn:xs.length≤100000) (hbase:base≤w.heap.size) :
  Calls Tryz.prog 123 #[v,.int .u32 (x % 4294967296)] w fun e w'=>∃ v',e = .returned v'∧Row w' base v' (xs++[x / 16777216 % 256,x / 65536 % 256,x / 256 % 256,x % 256])∧Below base w w':=by
 have h:=putHigh32 v xs (x % 4294967296) base w hown hn hbase
 rw [show x % 4294967296 / 16777216 % 256 = x / 16777216 % 256 by omega,show x % 4294967296 / 65536 % 256 = x / 65536 % 256 by omega,show x % 4294967296 / 256 % 256 = x / 256 % 256 by omega,show x % 4294967296 % 256 = x % 256 by omega] at h
 exact h
set_option maxHeartbeats 1000000 in
theorem putLow (v:Value) (xs:List Int) (x:Int) (base:Nat) (w:World) (hown:Row w base v xs) (hn:xs.length≤100000) (hbase:base≤w.heap.size) :
  Calls Tryz.prog 124 #[v,.int .u32 x] w fun e w'=>∃ v',e = .returned v'∧Row w' base v' (xs++[x % 256,x / 256 % 256,x / 65536 % 256,x / 16777216 % 256])∧Below base w w':=by
 obtain ⟨i5,hi,hz0,hz1,hz2⟩:=info5
 have Hi:=hide hi;have Hz0:=hide hz0;have Hz1:=hide hz1;have Hz2:=hide hz2
 clear hi hz0 hz1 hz2
 have Hown:Hid (Row w base v xs):=hown
 clear hown
 go_enter Tryz.func124,Tryz.ntmps124
 go_wp2_with (at_builtin;refine wpList_append_own _ rfl _ _ 140 rfl base 5 i5 (.int .u8 0) 1 1 Tryz.underlying140 Hi.out Hz0.out Hz1.out Hz2.out rfl (by decide) _ _ _ rfl (World.ownsRow.alloc Hown.out _) ⟨w.heap.size,0,none⟩ 4 4 ([x % 256,x / 256 % 256,x / 65536 % 256,x / 16777216 % 256].map (Value.int .u8)) rfl rfl ?c1 ?c2 ?c3 ?c4 ?c5 ?_)
 case c1 =>
  intro j u hj
  match j,hj with
  | 0,hj=>simp at hj;subst hj;simp [Addr.add]
  | 1,hj=>simp at hj;subst hj;simp [Addr.add]
  | 2,hj=>simp at hj;subst hj;simp [Addr.add]
  | 3,hj=>simp at hj;subst hj;simp [Addr.add]
 case c2=>intro u hu;simp at hu;rcases hu with rfl | rfl | rfl | rfl <;> rfl
 case c3=>unfold maxLen;omega
 case c4=>omega
 case c5=>simp;omega
 intro v' w2 hown' hgrow _
 have HO:=hide hown';have HG:=hide hgrow
 clear hown' hgrow
 go_wp2
 go_ret
 refine ⟨v',rfl,?_,?_⟩
 ·have:=HO.out
  unfold Row
  simpa using this
 ·exact ((Below.refl _ _).alloc hbase _).grown HG.out (by simp;omega) (fun k hk=>(World.ownsRow.lt Hown.out k hk).1)
theorem row_string {w:World} {base:Nat} {v:Value} {xs:List Int} (h:Row w base v xs):(convert 140 9 v).run Tryz.prog w = .ok (.string (strOfNums xs)) w:=by
 obtain ⟨hl,h⟩:=h
 rcases h with ⟨rfl,hn⟩ | ⟨g,cap,cur,rfl,hb,hg,hn,hcap,hsz,ht⟩
 ·obtain rfl:xs = []:=by simpa using hn
  exact run_convert_bytes_nil w 140 5 Tryz.underlying140 Tryz.underlying5 0 0 9 Tryz.underlying9
 ·refine run_convert_bytes_arg w 140 5 Tryz.underlying140 Tryz.underlying5 g 0 xs.length cap xs rfl ?_ 9 Tryz.underlying9
  intro i hi
  have:=World.ownsRow.cells (w:=w) (base:=base) (e:=5) (size:=1) (v:=.slice (some ⟨g,0,none⟩) xs.length cap) (n:=xs.length) (xs:=xs.map (Value.int .u8)) ⟨hl,.inr ⟨g,cap,cur,rfl,hb,hg,hn,hcap,hsz,ht⟩⟩ (g:=g) rfl i (.int .u8 (xs.getD i 0)) (by simp [hi])
  have hp:(⟨g,0,none⟩:Addr).add i = ⟨g,0 + i,none⟩:=by unfold Addr.add;split <;> simp_all
  rwa [hp] at this
theorem ask_cell {w w1 wi:World} {C:Array Value} (hb1:Below (w.alloc (.cells C 45)).heap.size (w.alloc (.cells C 45)) w1) (hB:Below w1.heap.size w1 wi) (j:Nat):wi.cell? ⟨w.heap.size,j,none⟩ = C[j]?:=by
 have hs:w.heap.size < (w.alloc (.cells C 45)).heap.size:=by simp
 have hs1:w.heap.size < w1.heap.size:=Nat.lt_of_lt_of_le hs hb1.size
 rw [hB.cell (p:=⟨w.heap.size,j,none⟩) hs1,hb1.cell (p:=⟨w.heap.size,j,none⟩) hs]
 simp
def Wi.high (x:Int):List Int:=[x / 16777216 % 256,x / 65536 % 256,x / 256 % 256,x % 256]
def Wi.low (x:Int):List Int:=[x % 256,x / 256 % 256,x / 65536 % 256,x / 16777216 % 256]
def Wi.body (k c sq it sd pr q id:Int):List Int :=
 (((((([k,c % 256]++Wi.high sq)++[it % 256,sd % 256])++Wi.high pr)++Wi.high q)++Wi.high id)++[0,0,0,0,0,0])
def Wi.frame (k c sq it sd pr q id:Int):List Int :=
 Wi.body k c sq it sd pr q id++Wi.low (Wi.sum (strOfNums (Wi.body k c sq it sd pr q id)).data.toList)
set_option maxHeartbeats 4000000 in
theorem encode_fine (k c sq it sd pr q id:Int) (w:World) (hk:Wi.kindB k = true) (hbd:Wi.boundB k c sq it sd pr q id = true) (hsh:Wi.shapeB k it sd pr q id = true) :
  Calls Tryz.prog 95 #[.agg #[.int .u8 k,.int .i64 c,.int .i64 sq,.int .i64 it,.int .i64 sd,.int .i64 pr,.int .i64 q,.int .i64 id]] w fun e w'=>e = .returned (.tuple #[.string (strOfNums (Wi.frame k c sq it sd pr q id)),.nilIface])∧Below w.heap.size w w':=by
 obtain ⟨i5,hi,hz0,hz1,hz2⟩:=info5
 have Hi:=hide hi;have Hz0:=hide hz0;have Hz1:=hide hz1;have Hz2:=hide hz2
 clear hi hz0 hz1 hz2
 have hmk:∀ w,(Instr.makeSlice 140 (.int .i64 0) (.int .i64 30)).run Tryz.prog w = .ok (.slice (some ⟨w.heap.size,0,none⟩) 0 30) (w.alloc (.cells #[.int .u8 0,.int .u8 0,.int .u8 0,.int .u8 0,.int .u8 0,.int .u8 0,.int .u8 0,.int .u8 0,.int .u8 0,.int .u8 0,.int .u8 0,.int .u8 0,.int .u8 0,.int .u8 0,.int .u8 0,.int .u8 0,.int .u8 0,.int .u8 0,.int .u8 0,.int .u8 0,.int .u8 0,.int .u8 0,.int .u8 0,.int .u8 0,.int .u8 0,.int .u8 0,.int .u8 0,.int .u8 0,.int .u8 0,.int .u8 0] 5)):=fun _=>by kernel_rfl
 go_enter Tryz.func95,Tryz.ntmps95
 go_wp2_with fail
 refine (check_fine _ _ _ _ _ _ _ _ _ hk hbd hsh).mono ?_
 rintro e w1 ⟨rfl,hb1⟩
 have hz1:w.heap.size < w1.heap.size:=by have:=hb1.size;simp at this;omega
 have hc0:w1.cell? ⟨w.heap.size,0,none⟩ = some (.int .u8 k):=ask_cell hb1 (Below.refl _ _) 0
 have hc1:w1.cell? ⟨w.heap.size,1,none⟩ = some (.int .i64 c):=ask_cell hb1 (Below.refl _ _) 1
 have Hb1:=hide hb1
 clear hb1
 have HR0:Hid (Row (w1.alloc (.cells #[.int .u8 0,.int .u8 0,.int .u8 0,.int .u8 0,.int .u8 0,.int .u8 0,.int .u8 0,.int .u8 0,.int .u8 0,.int .u8 0,.int .u8 0,.int .u8 0,.int .u8 0,.int .u8 0,.int .u8 0,.int .u8 0,.int .u8 0,.int .u8 0,.int .u8 0,.int .u8 0,.int .u8 0,.int .u8 0,.int .u8 0,.int .u8 0,.int .u8 0,.int .u8 0,.int .u8 0,.int .u8 0,.int .u8 0,.int .u8 0] 5)) w1.heap.size (.slice (some ⟨w1.heap.size,0,none⟩) 0 30) []):=World.ownsRow_made w1 _ 30 (Nat.le_refl _) (by decide) rfl
 go_wp2_with (at_builtin;refine wpList_append_own _ rfl _ _ 140 rfl w1.heap.size 5 i5 (.int .u8 0) 1 1 Tryz.underlying140 Hi.out Hz0.out Hz1.out Hz2.out rfl (by decide) _ _ _ rfl (World.ownsRow.alloc HR0.out _) ⟨w1.heap.size + 1,0,none⟩ 2 2 ([k,c % 256].map (Value.int .u8)) rfl rfl ?c1 ?c2 ?c3 ?c4 ?c5 ?_)
 case c1 =>
  intro j u hj
  match j,hj with
  | 0,hj=>simp at hj;subst hj;simp [Addr.add]
  | 1,hj=>simp at hj;subst hj;simp [Addr.add]
 case c2=>intro u hu;simp at hu;rcases hu with rfl | rfl <;> rfl
 case c3=>unfold maxLen;simp
 case c4=>simp
 case c5=>simp;omega
 intro v2 w2 hown' hgrow _
 have HR2:Hid (Row w2 w1.heap.size v2 [k,c % 256]):=hown'
 have HB2:Hid (Below w1.heap.size w1 w2):=((((Below.refl _ _).alloc (Nat.le_refl _) _).alloc (by simp) _).grown hgrow (by simp;omega) (fun k hk=>(World.ownsRow.lt HR0.out k hk).1))
 clear hown' hgrow
 have hc2:w2.cell? ⟨w.heap.size,2,none⟩ = some (.int .i64 sq):=ask_cell Hb1.out HB2.out 2
 go_wp2_with fail
 refine (putHigh v2 _ _ w1.heap.size w2 HR2.out (by simp) HB2.out.size).mono ?_
 rintro e w3 ⟨v3,rfl,hr3,hb3⟩
 have HR3:Hid (Row w3 w1.heap.size v3 ([k,c % 256]++Wi.high sq)):=hr3
 have HB3:Hid (Below w1.heap.size w1 w3):=HB2.out.trans hb3
 clear hr3 hb3
 have hd33:w3.cell? ⟨w.heap.size,3,none⟩ = some (.int .i64 it):=ask_cell Hb1.out HB3.out 3
 have hd34:w3.cell? ⟨w.heap.size,4,none⟩ = some (.int .i64 sd):=ask_cell Hb1.out HB3.out 4
 go_wp2_with (at_builtin;refine wpList_append_own _ rfl _ _ 140 rfl w1.heap.size 5 i5 (.int .u8 0) 1 1 Tryz.underlying140 Hi.out Hz0.out Hz1.out Hz2.out rfl (by decide) _ _ _ rfl (World.ownsRow.alloc HR3.out _) ⟨w3.heap.size,0,none⟩ 2 2 ([it % 256,sd % 256].map (Value.int .u8)) rfl rfl ?c1 ?c2 ?c3 ?c4 ?c5 ?_)
 case c1 =>
  intro j u hj
  match j,hj with
  | 0,hj=>simp at hj;subst hj;simp [Addr.add]
  | 1,hj=>simp at hj;subst hj;simp [Addr.add]
 case c2=>intro u hu;simp at hu;rcases hu with rfl | rfl <;> rfl
 case c3=>unfold maxLen;simp [Wi.high]
 case c4=>simp [Wi.high]
 case c5=>have:=HB3.out.size;simp;omega
 intro v4 w4 hown' hgrow _
 have HR4:Hid (Row w4 w1.heap.size v4 (([k,c % 256]++Wi.high sq)++[it % 256,sd % 256])):=hown'
 have HB4:Hid (Below w1.heap.size w1 w4):=(HB3.out.alloc HB3.out.size _).grown hgrow (by have:=HB3.out.size;simp;omega) (fun k hk=>(World.ownsRow.lt HR3.out k hk).1)
 clear hown' hgrow
 have hd45:w4.cell? ⟨w.heap.size,5,none⟩ = some (.int .i64 pr):=ask_cell Hb1.out HB4.out 5
 go_wp2_with fail
 refine (putHigh v4 _ _ w1.heap.size w4 HR4.out (by simp [Wi.high]) HB4.out.size).mono ?_
 rintro e w5 ⟨v5,rfl,hr5,hb5⟩
 have HR5:Hid (Row w5 w1.heap.size v5 ((([k,c % 256]++Wi.high sq)++[it % 256,sd % 256])++Wi.high pr)):=hr5
 have HB5:Hid (Below w1.heap.size w1 w5):=HB4.out.trans hb5
 clear hr5 hb5
 have hd56:w5.cell? ⟨w.heap.size,6,none⟩ = some (.int .i64 q):=ask_cell Hb1.out HB5.out 6
 go_wp2_with fail
 refine (putHigh v5 _ _ w1.heap.size w5 HR5.out (by simp [Wi.high]) HB5.out.size).mono ?_
 rintro e w6 ⟨v6,rfl,hr6,hb6⟩
 have HR6:Hid (Row w6 w1.heap.size v6 (((([k,c % 256]++Wi.high sq)++[it % 256,sd % 256])++Wi.high pr)++Wi.high q)):=hr6
 have HB6:Hid (Below w1.heap.size w1 w6):=HB5.out.trans hb6
 clear hr6 hb6
 have hd67:w6.cell? ⟨w.heap.size,7,none⟩ = some (.int .i64 id):=ask_cell Hb1.out HB6.out 7
 go_wp2_with fail
 refine (putHigh v6 _ _ w1.heap.size w6 HR6.out (by simp [Wi.high]) HB6.out.size).mono ?_
 rintro e w7 ⟨v7,rfl,hr7,hb7⟩
 have HR7:Hid (Row w7 w1.heap.size v7 ((((([k,c % 256]++Wi.high sq)++[it % 256,sd % 256])++Wi.high pr)++Wi.high q)++Wi.high id)):=hr7
 have HB7:Hid (Below w1.heap.size w1 w7):=HB6.out.trans hb7
 clear hr7 hb7
 go_wp2_with (at_builtin;refine Lib.wpList_append_own_string _ rfl _ _ 140 9 rfl w1.heap.size 5 i5 Tryz.underlying140 Tryz.underlying9 Hi.out Hz0.out Hz1.out Hz2.out _ _ _ rfl HR7.out ⟨#[0,0,0,0,0,0]⟩ rfl ?c3 ?c4 ?c5 ?_)
 case c3=>unfold maxLen;simp [Wi.high,ByteArray.size]
 case c4=>simp [Wi.high,ByteArray.size]
 case c5=>exact HB7.out.size
 intro v8 w8 hown' hgrow _
 have HR8:Hid (Row w8 w1.heap.size v8 (Wi.body k c sq it sd pr q id)):=hown'
 have HB8:Hid (Below w1.heap.size w1 w8):=HB7.out.grown hgrow HB7.out.size (fun k hk=>(World.ownsRow.lt HR7.out k hk).1)
 clear hown' hgrow
 have hcv:=row_string HR8.out
 go_wp2_with fail
 refine (sum_any _ _ (by unfold maxLen;simp [strOfNums,Wi.body,Wi.high,ByteArray.size])).mono ?_
 rintro e w9 ⟨rfl,rfl⟩
 go_wp2_with fail
 refine (putLow v8 _ _ w1.heap.size _ HR8.out (by simp [Wi.body,Wi.high]) HB8.out.size).mono ?_
 rintro e w10 ⟨v10,rfl,hr10,hb10⟩
 have HR10:Hid (Row w10 w1.heap.size v10 (Wi.frame k c sq it sd pr q id)):=hr10
 have HB10:Hid (Below w1.heap.size w1 w10):=HB8.out.trans hb10
 clear hr10 hb10 hcv
 have hcv2:=row_string HR10.out
 go_wp2
 go_ret2
 refine ⟨rfl,?_⟩
 exact (((Below.refl _ _).alloc (Nat.le_refl _) _).trans (Hb1.out.mono (by simp))).trans (HB10.out.mono (Nat.le_of_lt hz1))
set_option maxHeartbeats 1000000 in
theorem encode_bad (k c sq it sd pr q id:Int) (T:TypeId) (x:Value) (w:World)
  (hchk:Hid (∀ o,Calls Tryz.prog 127 #[.agg #[.int .u8 k,.int .i64 c,.int .i64 sq,.int .i64 it,.int .i64 sd,.int .i64 pr,.int .i64 q,.int .i64 id]] (w.alloc o) fun e w'=>e = .returned (.iface T x)∧Below (w.alloc o).heap.size (w.alloc o) w')) :
  Calls Tryz.prog 95 #[.agg #[.int .u8 k,.int .i64 c,.int .i64 sq,.int .i64 it,.int .i64 sd,.int .i64 pr,.int .i64 q,.int .i64 id]] w fun e w'=>e = .returned (.tuple #[.string ⟨#[]⟩,.iface T x])∧Below w.heap.size w w':=by
 go_enter Tryz.func95,Tryz.ntmps95
 go_wp2_with fail
 refine (hchk.out _).mono ?_
 rintro e w1 ⟨rfl,hb1⟩
 go_wp2
 go_ret2
 exact ⟨rfl,((Below.refl _ _).alloc (Nat.le_refl _) _).trans (hb1.mono (by simp))⟩
theorem Wi.frame_length (k c sq it sd pr q id:Int):(Wi.frame k c sq it sd pr q id).length = 30:=by simp [Wi.frame,Wi.body,Wi.high,Wi.low]
theorem strOfNums_size (xs:List Int):(strOfNums xs).size = xs.length:=by simp [strOfNums,ByteArray.size]
def w_errOf (v1 v2 v3:Value) (n:Nat):Value:=if n = 2 then v1 else if n = 3 then v2 else v3
theorem w_check_bad (k c sq it sd pr q id:Int) (v1 v2 v3:Value) (w:World) (h1:w.cell? ⟨1,0,none⟩ = some v1) (h2:w.cell? ⟨3,0,none⟩ = some v2) (h3:w.cell? ⟨5,0,none⟩ = some v3) (hc:Wi.code k c sq it sd pr q id≠0) :
  Calls Tryz.prog 127 #[.agg #[.int .u8 k,.int .i64 c,.int .i64 sq,.int .i64 it,.int .i64 sd,.int .i64 pr,.int .i64 q,.int .i64 id]] w fun e w'=>e = .returned (w_errOf v1 v2 v3 (Wi.code k c sq it sd pr q id))∧Below w.heap.size w w':=by
 have z1:=World.block_lt_of_cell? _ _ h1
 have z2:=World.block_lt_of_cell? _ _ h2
 have z3:=World.block_lt_of_cell? _ _ h3
 cases hk:Wi.kindB k with
 | false =>
  have e:w_errOf v1 v2 v3 (Wi.code k c sq it sd pr q id) = v3:=by simp [Wi.code,hk,w_errOf]
  rw [e];exact check_kind k c sq it sd pr q id v3 w z3 h3 hk
 | true =>
  cases hb:Wi.boundB k c sq it sd pr q id with
  | false =>
   have e:w_errOf v1 v2 v3 (Wi.code k c sq it sd pr q id) = v1:=by simp [Wi.code,hk,hb,w_errOf]
   rw [e];exact check_bound k c sq it sd pr q id v1 w z1 h1 hk hb
  | true =>
   cases hs:Wi.shapeB k it sd pr q id with
   | false =>
    have e:w_errOf v1 v2 v3 (Wi.code k c sq it sd pr q id) = v2:=by simp [Wi.code,hk,hb,hs,w_errOf]
    rw [e];exact check_shape k c sq it sd pr q id v2 w z2 h2 hk hb hs
   | true=>simp [Wi.code,hk,hb,hs] at hc
theorem errOf_iface {T1 T2 T3:TypeId} {x1 x2 x3:Value} (n:Nat):∃ T x,w_errOf (.iface T1 x1) (.iface T2 x2) (.iface T3 x3) n = .iface T x:=by
 unfold w_errOf;split
 ·exact ⟨_,_,rfl⟩
 ·split
  ·exact ⟨_,_,rfl⟩
  ·exact ⟨_,_,rfl⟩
theorem encode_err (k c sq it sd pr q id:Int) (T1 T2 T3:TypeId) (x1 x2 x3:Value) (w:World) (h1:w.cell? ⟨1,0,none⟩ = some (.iface T1 x1)) (h2:w.cell? ⟨3,0,none⟩ = some (.iface T2 x2)) (h3:w.cell? ⟨5,0,none⟩ = some (.iface T3 x3)) (hc:Wi.code k c sq it sd pr q id≠0) :
  Calls Tryz.prog 95 #[.agg #[.int .u8 k,.int .i64 c,.int .i64 sq,.int .i64 it,.int .i64 sd,.int .i64 pr,.int .i64 q,.int .i64 id]] w fun e w'=>e = .returned (.tuple #[.string ⟨#[]⟩,w_errOf (.iface T1 x1) (.iface T2 x2) (.iface T3 x3) (Wi.code k c sq it sd pr q id)])∧Below w.heap.size w w':=by
 obtain ⟨T,x,he⟩:=errOf_iface (T1:=T1) (T2:=T2) (T3:=T3) (x1:=x1) (x2:=x2) (x3:=x3) (Wi.code k c sq it sd pr q id)
 rw [he]
 refine encode_bad k c sq it sd pr q id T x w (fun o=>?_)
 rw [← he]
 have hb:Below w.heap.size w (w.alloc o):=(Below.refl _ _).alloc (Nat.le_refl _) o
 exact w_check_bad k c sq it sd pr q id _ _ _ (w.alloc o) (cell_later hb h1) (cell_later hb h2) (cell_later hb h3) hc
theorem code_zero {k c sq it sd pr q id:Int} (h:Wi.code k c sq it sd pr q id = 0):Wi.kindB k = true∧Wi.boundB k c sq it sd pr q id = true∧Wi.shapeB k it sd pr q id = true:=by
 cases hk:Wi.kindB k <;> cases hb:Wi.boundB k c sq it sd pr q id <;> cases hs:Wi.shapeB k it sd pr q id <;> simp [Wi.code,hk,hb,hs] at h ⊢
def RowM (w:World) (base:Nat) (v:Value) (xs:List Int):Prop :=
 ∃ g cap cur fz,v = .slice (some ⟨g,0,none⟩) xs.length cap∧base≤g∧w.heap[g]? = some (.cells cur 5 fz)∧(∀ j,j < cur.size→j < fz.1∨fz.2≤j) ∧
  xs.length≤cap∧cap≤maxLen∧cur.size = cap∧cur.toList.take xs.length = xs.map (Value.int .u8)
theorem run_storeCells_atM (P:Program) (g o:Nat) (t:TypeId) (fz:Nat × Nat):∀ (vs:List Value) (i:Nat) (cur:Array Value) (w:World),w.heap[g]? = some (.cells cur t fz)→(∀ j,j < cur.size→j < fz.1∨fz.2≤j)→o + i + vs.length≤cur.size→(∀ v∈vs,v.oneCell' = true) →
  (storeCells ⟨g,o,none⟩ vs i).run P w = .ok () (w.setRow g (cur.toList.take (o + i)++vs++cur.toList.drop (o + i + vs.length)).toArray)
 | [],i,cur,w,hg,_,_,_=>by
  simp only [storeCells,List.append_nil,List.length_nil,Nat.add_zero,List.take_append_drop,Array.toArray_toList]
  rw [setRow_self w g cur t fz hg]
  rfl
 | v :: rest,i,cur,w,hg,hfz,hl,h1=>by
  have hi:o + i < cur.size:=by simp at hl;omega
  have hadd:(⟨g,o,none⟩:Addr).add i = ⟨g,o + i,none⟩:=by unfold Addr.add;split <;> simp_all
  have hcell:w.cell? ⟨g,o + i,none⟩ = some cur[o + i]:=by simp [World.cell?,hg,hi]
  have hfro:w.frozen? ⟨g,o + i,none⟩ = false:=by
   have:=hfz (o + i) hi
   obtain ⟨lo,hi'⟩:=fz
   simp only [World.frozen?,hg,Bool.and_eq_false_iff,decide_eq_false_iff_not]
   simp only at this
   omega
  have hst:(store ((⟨g,o,none⟩:Addr).add i) v).run P w = .ok () (w.setRow g (cur.setIfInBounds (o + i) v)):=by
   rw [hadd,run_store P w _ v _ (h1 v (by simp)),hcell]
   simp [hfro,setCell_eq_setRow w g (o + i) cur t fz v hg]
  have ih:=run_storeCells_atM P g o t fz rest (i + 1) (cur.setIfInBounds (o + i) v) (w.setRow g (cur.setIfInBounds (o + i) v)) (setRow_heap w g cur _ t _ hg) (by simpa using hfz) (by simp at hl ⊢;omega) (fun x hx=>h1 x (by simp [hx]))
  simp only [storeCells,Sem.run_bind,hst,Result.andThen_ok,ih,setRow_setRow]
  congr 3
  have e:=list_seg_step cur.toList (o + i) v rest (by simp at hl ⊢;omega)
  simpa [Array.toList_setIfInBounds,Nat.add_assoc] using e
theorem RowM.cells {w:World} {base g len cap:Nat} {xs:List Int} (h:RowM w base (.slice (some ⟨g,0,none⟩) len cap) xs):∀ j u,(xs.map (Value.int .u8))[j]? = some u→w.cell? ((⟨g,0,none⟩:Addr).add j) = some u:=by
 intro j u hu
 obtain ⟨g',cap',cur,fz,hv,_,hg,_,_,_,_,ht⟩:=h
 simp only [Value.slice.injEq,Option.some.injEq,Addr.mk.injEq,and_true] at hv
 obtain ⟨rfl,rfl,rfl⟩:=hv
 have hadd:(⟨g,0,none⟩:Addr).add j = ⟨g,j,none⟩:=by unfold Addr.add;split <;> simp_all
 rw [hadd,cell_of_row w g j cur 5 fz hg]
 rw [← ht,List.getElem?_take] at hu
 split at hu
 ·simpa using hu
 ·cases hu
theorem run_append_mark (w:World) (base:Nat) (ty:TypeId) (v:Value) (xs:List Int) (hown:RowM w base v xs)
  (a:Addr) (m c:Nat) (ys:List Int) (hl:ys.length = m) (hnews:∀ j u,(ys.map (Value.int .u8))[j]? = some u→w.cell? (a.add j) = some u)
  (hsz:xs.length + m≤10000000) (hbase:base≤w.heap.size) :
  ∃ v' w',(Builtin.append_ #[140,140] ty #[v,.slice (some a) m c]).run Tryz.prog w = .ok v' w'∧RowM w' base v' (xs++ys)∧w.grownBy w' v.ownBlock∧(∀ k,v'.ownBlock = some k→v.ownBlock = some k∨w.heap.size≤k):=by
 obtain ⟨i,hi,hz,hz1,hz2⟩:=info5
 obtain ⟨g,cap,cur,fz,rfl,hbg,hg,hfz,hnc,hcm,hcs,ht⟩:=id hown
 have h1:∀ u∈ys.map (Value.int .u8),u.oneCell' = true:=fun u hu=>by obtain ⟨_,_,rfl⟩:=List.mem_map.1 hu;rfl
 have hl':(ys.map (Value.int .u8)).length = m * i.size:=by rw [hz1];simpa using hl
 have hlen:(xs++ys).length = xs.length + m:=by simp [hl]
 by_cases hroom:xs.length + m≤cap
 ·have hf:=run_firstCells_some (P:=Tryz.prog) w i.size m a m c _ hl' hnews
  have hst:=run_storeCells_atM Tryz.prog g (xs.length * i.size) 5 fz (ys.map (Value.int .u8)) 0 cur w hg hfz (by rw [hz1];simp [hl];omega) h1
  rw [hz1] at hf
  simp only [hz1,Nat.mul_one,Nat.add_zero] at hst
  refine ⟨_,_,by simp [Builtin.append_,run_underlying Tryz.underlying140,sizeOf,typeInfo,hi,hz1,Builtin.lenOf,hroom,hf,Addr.add_lit,hst];exact ⟨rfl,rfl⟩,⟨g,cap,_,fz,by rw [hlen],hbg,setRow_heap w g cur _ 5 _ hg,?_,by omega,hcm,?_,?_⟩,⟨rfl,rfl,rfl,by simp,fun k _ hk=>setRow_other w g k _ (fun e=>hk (by simp [Value.ownBlock,e]))⟩,fun k hk=>.inl (by simpa [Value.ownBlock] using hk)⟩
  ·intro j hj
   refine hfz j ?_
   simp only [List.size_toArray,List.length_append,List.length_take,List.length_drop,Array.length_toList,List.length_map] at hj
   omega
  ·simp only [List.size_toArray,List.length_append,List.length_take,List.length_drop,Array.length_toList,List.length_map]
   omega
  ·simp only []
   rw [ht,← List.append_assoc,List.map_append,hlen,show xs.length + m = (xs.map (Value.int .u8)++ys.map (Value.int .u8)).length by simp [hl]]
   exact List.take_left
 ·have holds:=RowM.cells hown
  have hr:=run_append_grow (P:=Tryz.prog) w 140 ty 5 i _ Tryz.underlying140 hi hz ⟨g,0,none⟩ xs.length cap (xs.map (Value.int .u8)) (by rw [hz1];simp) holds a m c _ hl' hnews (by omega) (by omega) (growslice_fits (by omega) (by rw [hz2];omega))
  have hge:=grownCap_ge w (xs.length + m) cap 5
  refine ⟨_,_,hr,⟨w.heap.size,_,_,(0,0),by rw [hlen],hbase,heap_alloc_new w.drew _,fun j _=>.inr (Nat.zero_le _),by omega,grownCap_le_maxLen w (xs.length + m) cap 5 (by unfold maxLen;omega),?_,?_⟩,⟨rfl,rfl,rfl,by simp,fun k hk _=>heap_alloc_old w.drew _ hk⟩,fun k hk=>.inr (by simp [Value.ownBlock] at hk;omega)⟩
  ·simp only [Array.size_append,List.size_toArray,size_zeroCells,List.length_map,hl]
   simp [Value.cells]
   omega
  ·simp only [Array.toList_append,List.append_assoc]
   rw [← List.append_assoc,List.map_append,hlen,show xs.length + m = (xs.map (Value.int .u8)++ys.map (Value.int .u8)).length by simp [hl]]
   exact List.take_left
theorem RowM.lt {w:World} {base:Nat} {v:Value} {xs:List Int} (h:RowM w base v xs):∀ k,v.ownBlock = some k→base≤k∧k < w.heap.size:=by
 obtain ⟨g,cap,cur,fz,rfl,hbg,hg,_⟩:=h
 intro k hk
 obtain rfl:g = k:=by simpa [Value.ownBlock] using hk
 exact ⟨hbg,(Array.getElem?_eq_some_iff.1 hg).1⟩
theorem RowM.take {w:World} {base g len cap:Nat} {xs:List Int} (h:RowM w base (.slice (some ⟨g,0,none⟩) len cap) xs) (n:Nat) (hn:n≤xs.length):RowM w base (.slice (some ⟨g,0,none⟩) n cap) (xs.take n):=by
 obtain ⟨g',cap',cur,fz,h2,hb,hg,hz,hc,hm,hs,ht⟩:=h
 simp only [Value.slice.injEq,Option.some.injEq,Addr.mk.injEq,and_true] at h2
 obtain ⟨rfl,rfl,rfl⟩:=h2
 have hl:(xs.take n).length = n:=by simp;omega
 refine ⟨g,cap,cur,fz,by rw [hl],hb,hg,hz,by rw [hl];omega,hm,hs,?_⟩
 rw [hl,List.map_take,← ht,List.take_take]
 congr 1
 omega
theorem rowM_new (w:World) (s:ByteArray) (hs:s.size≤100000):∃ v w',(convert 9 140 (.string s)).run Tryz.prog w = .ok v w'∧RowM w' w.heap.size v (s.data.toList.map fun b=>(b.toNat:Int))∧Below w.heap.size w w':=by
 have hr:=run_bytes_of_string (P:=Tryz.prog) w 9 140 5 s Tryz.underlying9 Tryz.underlying140 Tryz.underlying5
 have hge:=grownCap_ge w s.size 0 5
 have hsl:s.data.toList.length = s.size:=by rw [Array.length_toList];rfl
 refine ⟨_,_,hr,⟨w.heap.size,_,_,_,by rw [List.length_map,hsl],Nat.le_refl _,heap_alloc_new w.drew _,fun j hj=>.inl hj,by rw [List.length_map,hsl];exact hge,grownCap_le_maxLen w s.size 0 5 (by unfold maxLen;omega),?_,?_⟩,?_⟩
 ·have:s.data.size = s.size:=rfl
  simp only [bytesRow,Array.size_append,Array.size_map,Array.size_replicate]
  omega
 ·simp only [bytesRow,Array.toList_append,Array.toList_map,List.length_map,List.map_map]
  rw [List.take_left' (by simp)]
  rfl
 ·exact ⟨rfl,rfl,rfl,by simp,fun k hk=>heap_alloc_old w.drew _ hk⟩
def ints (l:List UInt8):List Int:=l.map fun b=>(b.toNat:Int)
def ba (l:List UInt8):ByteArray:=⟨l.toArray⟩
theorem ints_length (l:List UInt8):(ints l).length = l.length:=by simp [ints]
theorem ints_append (a b:List UInt8):ints (a++b) = ints a++ints b:=by simp [ints]
theorem ints_take (l:List UInt8) (n:Nat):ints (l.take n) = (ints l).take n:=by simp [ints]
theorem strCells_ints (s:ByteArray):Lib.strCells s = (ints s.data.toList).map (Value.int .u8):=by simp [Lib.strCells,ints]
theorem size_list (s:ByteArray):s.data.toList.length = s.size:=by rw [Array.length_toList];rfl
theorem ints_four (n:Nat):ints (Tp.four n) = [(n:Int) / 16777216 % 256,(n:Int) / 65536 % 256,(n:Int) / 256 % 256,(n:Int) % 256]:=by
 simp [ints,Tp.four]
theorem ints_low (n:Nat):ints (Tp.low n) = [(n:Int) % 256,(n:Int) / 256 % 256,(n:Int) / 65536 % 256,(n:Int) / 16777216 % 256]:=by
 simp [ints,Tp.low]
def Strs (w:World) (base:Nat) (v:Value) (ts:List (List UInt8)):Prop:=w.ownsRow base 9 1 v ts.length (ts.map fun t=>Value.string (ba t))
def Disk (w:World) (base p:Nat) (l:List UInt8) (cut:Bool) (left:Int):Prop :=
 base≤p∧∃ v,w.heap[p]? = some (.cells #[v,.bool cut,.int .i64 left] 142 (0,0))∧RowM w base v (ints l)
structure Keeps (w w':World):Prop where
 size:w.heap.size≤w'.heap.size
 block:∀ (k:Nat) (c:Array Value) (f:Nat × Nat),w.heap[k]? = some (.cells c 9 f)→w'.heap[k]? = some (.cells c 9 f)
theorem Keeps.trans {a b c:World} (h1:Keeps a b) (h2:Keeps b c):Keeps a c:=⟨Nat.le_trans h1.size h2.size,fun k c f h=>h2.block k c f (h1.block k c f h)⟩
theorem Strs.cells {w:World} {base:Nat} {g len cap:Nat} {ts:List (List UInt8)} (h:Strs w base (.slice (some ⟨g,0,none⟩) len cap) ts):∀ i,i < ts.length→w.cell? ⟨g,i,none⟩ = some (.string (ba (ts.getD i []))):=by
 intro i hi
 have:=World.ownsRow.cells h (g:=g) rfl i (.string (ba (ts.getD i []))) (by simp [List.getElem?_eq_getElem hi,List.getD_eq_getElem?_getD])
 have hp:(⟨g,0,none⟩:Addr).add i = ⟨g,i,none⟩:=by unfold Addr.add;split <;> simp_all
 rwa [hp] at this
theorem RowM.form {w:World} {base:Nat} {v:Value} {xs:List Int} (h:RowM w base v xs):∃ g cap,v = .slice (some ⟨g,0,none⟩) xs.length cap∧xs.length≤cap:=by
 obtain ⟨g,cap,cur,fz,hv,_,_,_,hc,_⟩:=h
 exact ⟨g,cap,hv,hc⟩
theorem RowM.block {w w':World} {base:Nat} {v:Value} {xs:List Int} (h:RowM w base v xs) (hb:∀ k,v.ownBlock = some k→w'.heap[k]? = w.heap[k]?):RowM w' base v xs:=by
 obtain ⟨g,cap,cur,fz,rfl,hb',hg,rest⟩:=h
 exact ⟨g,cap,cur,fz,rfl,hb',(hb g rfl).trans hg,rest⟩
theorem RowM.setCell {w:World} {base p j:Nat} {v:Value} {xs:List Int} {cs:Array Value} {f:Nat × Nat} (h:RowM w base v xs) (hp:w.heap[p]? = some (.cells cs 142 f)) (u:Value):RowM (w.setCell ⟨p,j,none⟩ u) base v xs:=by
 obtain ⟨g,cap,cur,fz,rfl,hb',hg,rest⟩:=h
 refine ⟨g,cap,cur,fz,rfl,hb',?_,rest⟩
 rw [heap_setCell_other _ _ g _ ?_]
 ·exact hg
 ·intro hk
  have hk:g = p:=hk
  rw [hk,hp] at hg
  simp at hg
theorem RowM.other {w:World} {base p:Nat} {v:Value} {xs:List Int} {cs:Array Value} {f:Nat × Nat} (h:RowM w base v xs) (hp:w.heap[p]? = some (.cells cs 142 f)):some p≠v.ownBlock:=by
 obtain ⟨g,cap,cur,fz,rfl,hb',hg,rest⟩:=h
 intro hk
 have hk:p = g:=by simpa [Value.ownBlock] using hk
 rw [← hk,hp] at hg
 simp at hg
theorem recordSize_any (s:ByteArray) (w:World) (hs:s.size≤1000000) :
  Calls Tryz.prog 91 #[.string s] w fun e w'=>e = .returned (.int .i64 ((12 + s.size:Nat):Int))∧w' = w:=by
 go_enter Tryz.func91,Tryz.ntmps91
 go_wp2
 go_ret
 exact ⟨ret_int (by omega),rfl⟩
theorem disk_cells {w:World} {p:Nat} {v:Value} {cut:Bool} {left:Int} (h:w.heap[p]? = some (.cells #[v,.bool cut,.int .i64 left] 142 (0,0))) :
  w.cell? ⟨p,0,none⟩ = some v∧w.cell? ⟨p,1,none⟩ = some (.bool cut)∧w.cell? ⟨p,2,none⟩ = some (.int .i64 left)∧(∀ j,w.frozen? ⟨p,j,none⟩ = false)∧p < w.heap.size :=
 ⟨by rw [cell_of_row w p 0 _ 142 (0,0) h];rfl,by rw [cell_of_row w p 1 _ 142 (0,0) h];rfl,by rw [cell_of_row w p 2 _ 142 (0,0) h];rfl,fun j=>frozen_of_row w p j _ 142 h,(Array.getElem?_eq_some_iff.1 h).1⟩
set_option maxHeartbeats 1000000 in
theorem power_any (p:Nat) (v:Value) (cut:Bool) (left:Int) (w:World) (h:w.heap[p]? = some (.cells #[v,.bool cut,.int .i64 left] 142 (0,0))) :
  Calls Tryz.prog 74 #[.pointer (some ⟨p,0,none⟩)] w fun e w'=>e = .returned (.bool (!cut || decide (0 < left)))∧w' = w:=by
 obtain ⟨c0,c1,c2,fz,hp⟩:=disk_cells h
 clear h
 cases cut
 ·go_enter Tryz.func74,Tryz.ntmps74
  go_wp2
  go_ret
  exact ⟨by simp,rfl⟩
 ·go_enter Tryz.func74,Tryz.ntmps74
  go_wp2
  go_ret
  exact ⟨by simp,rfl⟩
set_option maxHeartbeats 1000000 in
theorem newDisk_any (s:ByteArray) (w:World) (hs:s.size≤100000) :
  Calls Tryz.prog 45 #[.string s] w fun e w'=>∃ p,e = .returned (.tuple #[.pointer (some ⟨p,0,none⟩),.nilIface])∧Disk w' w.heap.size p s.data.toList false 0∧Below w.heap.size w w':=by
 obtain ⟨v,w1,hcv,hr,hb⟩:=rowM_new w s hs
 change RowM w1 w.heap.size v (ints s.data.toList) at hr
 obtain ⟨g,cap,hv,_⟩:=hr.form
 rw [ints_length,size_list] at hv
 subst hv
 have hs':¬ (1048576:Int) < s.size:=by omega
 have HR:=hide hr
 have HB:=hide hb
 clear hr hb
 go_enter Tryz.func45,Tryz.ntmps45
 go_wp2
 go_ret2
 refine ⟨w1.heap.size,rfl,⟨HB.out.size,_,heap_alloc_new w1 _,?_⟩,HB.out.alloc HB.out.size _⟩
 exact HR.out.block fun k hk=>heap_alloc_old w1 _ (HR.out.lt k hk).2
end Go.Proofs.YtidahfhingdlmaaGreatDoor
namespace Go.Proofs.YtidahfhingdlmaaGreatDoor
theorem Wi.within_iff {x lo hi:Int}:Wi.withinB x lo hi = true↔lo≤x∧x≤hi:=by simp [Wi.withinB]
structure Wi.Fits (k c sq it sd pr q id:Int):Prop where
 k:0≤k∧k < 256
 c:0≤c∧c < 256
 sq:0≤sq∧sq < 4294967296
 it:0≤it∧it < 256
 sd:0≤sd∧sd < 256
 pr:0≤pr∧pr < 4294967296
 q:0≤q∧q < 4294967296
 id:0≤id∧id < 4294967296
theorem Wi.fits {k c sq it sd pr q id:Int} (h:Wi.code k c sq it sd pr q id = 0):Wi.Fits k c sq it sd pr q id:=by
 obtain ⟨h1,h2,h3⟩:=code_zero h
 simp only [Wi.kindB,Bool.or_eq_true,beq_iff_eq] at h1
 simp only [Wi.boundB,Bool.and_eq_true,Wi.within_iff] at h2
 obtain ⟨⟨⟨hc,hsq⟩,hid⟩,hr⟩:=h2
 unfold Wi.shapeB at h3
 by_cases k1:k = 111
 ·subst k1
  simp [Wi.within_iff] at hr
  exact ⟨by omega,by omega,by omega,by omega,by omega,by omega,by omega,by omega⟩
 ·have e1:(k == 111) = false:=by simpa using k1
  rw [e1] at h3 hr
  by_cases k2:k = 99
  ·subst k2
   simp [Wi.within_iff] at hr h3
   exact ⟨by omega,by omega,by omega,by omega,by omega,by omega,by omega,by omega⟩
  ·have e2:(k == 99) = false:=by simpa using k2
   rw [e2] at h3
   simp at h3
   exact ⟨by omega,by omega,by omega,by omega,by omega,by omega,by omega,by omega⟩
end Go.Proofs.YtidahfhingdlmaaGreatDoor
