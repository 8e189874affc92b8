/- The checks of a lot, and the functions that package curve hands on, by their contracts. -/
import Derived.Test.YtidahfhingdlmaaGreatDoorT03
import Derived.Test.YtidahfhingdlmaaGreatDoorT02
import Derived.Deep.QuietTactic
import Derived.BigQuiet
import Derived.Test.YtidahfhingdlmaaGreatDoorT06
namespace Go.Proofs.YtidahfhingdlmaaGreatDoor
open Go.RowKit
set_option maxRecDepth 100000
def lotV (x:Cv.Lot):Value:=.agg #[.int .i64 x.id,.int .i64 x.ow,.int .i64 x.sd,.int .i64 x.pr,.int .i64 x.q]
set_option maxHeartbeats 1000000 in
theorem lotOk_any (x:Cv.Lot) (w:World):Calls Tryz.prog 225 #[lotV x] w fun e w'=>e = .returned (.bool (Cv.ok x))∧Below w.heap.size w w':=by
 show Calls Tryz.prog 225 #[.agg #[.int .i64 x.id,.int .i64 x.ow,.int .i64 x.sd,.int .i64 x.pr,.int .i64 x.q]] w _
 go_enter Tryz.func225,Tryz.ntmps225
 go_wp2_with (first | (go_at_call 50;refine (isClB_any _ _).mono ?_;rintro e w' ⟨rfl,rfl⟩) | (go_at_call 81;refine (within_any _ _ _ _).mono ?_;rintro e w' ⟨rfl,rfl⟩))
 all_goals go_ret
 all_goals
  refine ⟨ret_bool ?_,(Below.refl _ _).alloc (Nat.le_refl _) _⟩
  go_light
  simp_all [Cv.ok]
set_option maxHeartbeats 1000000 in
theorem dClos_any (x:Cv.Lot) (B:Nat) (p:Int) (w:World) (hc:w.cell? ⟨B,0,none⟩ = some (.int .i64 p)) :
  Calls Tryz.prog 254 #[lotV x,.pointer (some ⟨B,0,none⟩)] w fun e w'=>e = .returned (.bool (Cv.dB p x))∧Below w.heap.size w w':=by
 have hB:B < w.heap.size:=World.block_lt_of_cell? _ _ hc
 have hne:B≠w.heap.size:=by omega
 show Calls Tryz.prog 254 #[.agg #[.int .i64 x.id,.int .i64 x.ow,.int .i64 x.sd,.int .i64 x.pr,.int .i64 x.q],.pointer (some ⟨B,0,none⟩)] w _
 go_enter Tryz.func254,Tryz.ntmps254
 go_wp2
 all_goals go_ret
 all_goals
  refine ⟨ret_bool ?_,(Below.refl _ _).alloc (Nat.le_refl _) _⟩
  simp_all [Cv.dB]
set_option maxHeartbeats 1000000 in
theorem sClos_any (x:Cv.Lot) (B:Nat) (p:Int) (w:World) (hc:w.cell? ⟨B,0,none⟩ = some (.int .i64 p)) :
  Calls Tryz.prog 255 #[lotV x,.pointer (some ⟨B,0,none⟩)] w fun e w'=>e = .returned (.bool (Cv.sB p x))∧Below w.heap.size w w':=by
 have hB:B < w.heap.size:=World.block_lt_of_cell? _ _ hc
 have hne:B≠w.heap.size:=by omega
 show Calls Tryz.prog 255 #[.agg #[.int .i64 x.id,.int .i64 x.ow,.int .i64 x.sd,.int .i64 x.pr,.int .i64 x.q],.pointer (some ⟨B,0,none⟩)] w _
 go_enter Tryz.func255,Tryz.ntmps255
 go_wp2
 all_goals go_ret
 all_goals
  refine ⟨ret_bool ?_,(Below.refl _ _).alloc (Nat.le_refl _) _⟩
  simp_all [Cv.sB]
set_option maxHeartbeats 1000000 in
theorem idClos_any (x:Cv.Lot) (B:Nat) (id:Int) (w:World) (hc:w.cell? ⟨B,0,none⟩ = some (.int .i64 id)) :
  Calls Tryz.prog 243 #[lotV x,.pointer (some ⟨B,0,none⟩)] w fun e w'=>e = .returned (.bool (x.id == id))∧Below w.heap.size w w':=by
 have hB:B < w.heap.size:=World.block_lt_of_cell? _ _ hc
 have hne:B≠w.heap.size:=by omega
 show Calls Tryz.prog 243 #[.agg #[.int .i64 x.id,.int .i64 x.ow,.int .i64 x.sd,.int .i64 x.pr,.int .i64 x.q],.pointer (some ⟨B,0,none⟩)] w _
 go_enter Tryz.func243,Tryz.ntmps243
 go_wp2
 all_goals go_ret
 all_goals
  refine ⟨ret_bool ?_,(Below.refl _ _).alloc (Nat.le_refl _) _⟩
  first | rfl | simp_all
theorem better_any (side p than:Int) (w:World):Calls Tryz.prog 231 #[.int .i64 side,.int .i64 p,.int .i64 than] w fun e w'=>e = .returned (.bool (Cv.better side p than))∧w' = w:=by
 go_enter Tryz.func231,Tryz.ntmps231
 go_wp2
 all_goals go_ret
 all_goals
  refine ⟨ret_bool ?_,rfl⟩
  simp_all [Cv.better]
def LotsAt (w:World) (b off:Nat) (l:List Cv.Lot):Prop :=
 ∀ i,i < l.length→w.cell? ⟨b,off + i * 5,none⟩ = some (.int .i64 (Cv.nth l i).id)∧w.cell? ⟨b,off + i * 5 + 1,none⟩ = some (.int .i64 (Cv.nth l i).ow)∧w.cell? ⟨b,off + i * 5 + 2,none⟩ = some (.int .i64 (Cv.nth l i).sd) ∧
  w.cell? ⟨b,off + i * 5 + 3,none⟩ = some (.int .i64 (Cv.nth l i).pr)∧w.cell? ⟨b,off + i * 5 + 4,none⟩ = some (.int .i64 (Cv.nth l i).q)
theorem LotsAt.later {w w':World} {b off:Nat} {l:List Cv.Lot} (h:LotsAt w b off l) (hb:Below w.heap.size w w'):LotsAt w' b off l :=
 fun i hi=>⟨cell_later hb (h i hi).1,cell_later hb (h i hi).2.1,cell_later hb (h i hi).2.2.1,cell_later hb (h i hi).2.2.2.1,cell_later hb (h i hi).2.2.2.2⟩
set_option maxHeartbeats 1000000 in
theorem indexFunc_any (b off cap B:Nat) (id:Int) (l:List Cv.Lot) (w:World) (hn':l.length≤1000) (hl:Hid (LotsAt w b off l)) (hc:w.cell? ⟨B,0,none⟩ = some (.int .i64 id)) :
  Calls Tryz.prog 204 #[.slice (some ⟨b,off,none⟩) l.length cap,.func (.func 243) #[] #[.pointer (some ⟨B,0,none⟩)]] w fun e w'=>(∃ r:Int,e = .returned (.int .i64 r)∧decide (0≤r) = Cv.has l id)∧Below w.heap.size w w':=by
 generalize hn:l.length = n at *
 have Hn:=hide hn
 clear hn
 go_enter Tryz.func204,Tryz.ntmps204
 go_wp2
 go_loopw [8] (fun i wr=>∃ k:Nat,k≤n∧i = .int .i64 k∧Cv.has (l.take k) id = false∧Below w.heap.size w wr) (fun i _=>n - (intOf i).toNat)
 case atStart=>exact ⟨0,Nat.zero_le _,rfl,rfl,Below.refl _ _⟩
 case round =>
  obtain ⟨k,hk,rfl,hno,hb⟩:=hrel
  have HN:=hide hno;have HB:=hide hb
  clear hno hb
  by_cases hlt:k < n
  ·have hki:(k:Int) < n:=by omega
   obtain ⟨c0,c1,c2,c3,c4⟩:=(hl.out.later HB.out) k (by rw [Hn.out];exact hlt)
   have hcB:=cell_later HB.out hc
   have HC:=hide (idClos_any (Cv.nth l k) B id wr hcB)
   have HT:=hide (Cv.take_succ (l:=l) (i:=k) (by rw [Hn.out];exact hlt))
   generalize Cv.nth l k = x at *
   go_wp2_with fail
   refine HC.out.mono ?_
   rintro e w2 ⟨rfl,hb2⟩
   have HB2:=hide (HB.out.trans (hb2.mono HB.out.size))
   clear hb2 c0 c1 c2 c3 c4 hcB HC
   by_cases hx:x.id = id
   ·have hxb:(x.id == id) = true:=by simpa using hx
    have Hx:=hide hx
    clear hx
    rw [hxb]
    simp only []
    go_wp2
    go_ret
    refine ⟨⟨k,rfl,?_⟩,HB2.out⟩
    have:Cv.has l id = true:=by
     have e:l = l.take (k + 1)++l.drop (k + 1):=(List.take_append_drop _ _).symm
     rw [e,HT.out]
     simp [Cv.has,hxb]
    rw [this]
    simp
   ·have hxb:(x.id == id) = false:=by simpa using hx
    have hno':Cv.has (l.take (k + 1)) id = false:=by
     have hh:=HN.out
     rw [HT.out]
     unfold Cv.has at hh ⊢
     rw [List.any_append,hh]
     simp [hx]
    have Hno:=hide hno'
    clear hx hno'
    rw [hxb]
    simp only []
    go_wp2
    exact ⟨⟨k + 1,by omega,by go_num,Hno.out,HB2.out⟩,by simp [intOf];omega⟩
  ·have hki:¬ (k:Int) < n:=by omega
   have hkk:k = l.length:=by rw [Hn.out];omega
   have hno:=HN.out
   rw [hkk,List.take_length] at hno
   have Hno:=hide hno
   clear hno hkk
   go_wp2
   go_ret
   exact ⟨⟨-1,rfl,by rw [Hno.out];rfl⟩,HB.out⟩
theorem indexFunc_none (cap:Nat) (a:Option Addr) (f:Value) (w:World) :
  Calls Tryz.prog 204 #[.slice a 0 cap,f] w fun e w'=>e = .returned (.int .i64 (-1))∧w' = w:=by
 go_enter Tryz.func204,Tryz.ntmps204
 go_wp2
 refine wp_loop_rounds 1 ?_
 rw [rounds_succ]
 go_wp2
 go_ret
 exact ⟨rfl,rfl⟩
theorem contains_any (b off cap B:Nat) (id:Int) (l:List Cv.Lot) (w:World) (hn':l.length≤1000) (hl:Hid (LotsAt w b off l)) (hc:w.cell? ⟨B,0,none⟩ = some (.int .i64 id)) :
  Calls Tryz.prog 242 #[.slice (some ⟨b,off,none⟩) l.length cap,.func (.func 243) #[] #[.pointer (some ⟨B,0,none⟩)]] w fun e w'=>e = .returned (.bool (Cv.has l id))∧Below w.heap.size w w':=by
 go_enter Tryz.func242,Tryz.ntmps242
 go_wp2_with fail
 refine (indexFunc_any b off cap B id l w hn' hl hc).mono ?_
 rintro e w2 ⟨⟨r,rfl,hr⟩,hb⟩
 have Hr:=hide hr
 clear hr
 simp only []
 go_wp2
 go_ret
 exact ⟨ret_bool Hr.out,hb⟩
theorem hasID_any (b off cap n:Nat) (id:Int) (l:List Cv.Lot) (w:World) (hn:Hid (l.length = n)) (hn':n≤1000) (hl:Hid (LotsAt w b off l)) :
  Calls Tryz.prog 226 #[.slice (some ⟨b,off,none⟩) n cap,.int .i64 id] w fun e w'=>e = .returned (.bool (Cv.has l id))∧Below w.heap.size w w':=by
 have HC:=hide (contains_any b off cap w.heap.size id l (w.alloc (.cells #[.int .i64 id] 3)) (by rw [hn.out];exact hn') (hl.out.later ((Below.refl _ _).alloc (Nat.le_refl _) _)) (by simp))
 rw [hn.out] at HC
 go_enter Tryz.func226,Tryz.ntmps226
 go_wp2_with fail
 refine HC.out.mono ?_
 rintro e w2 ⟨rfl,hb⟩
 have HB:=hide hb
 clear hb
 simp only []
 go_wp2
 go_ret
 exact ⟨rfl,((Below.refl _ _).alloc (Nat.le_refl _) _).trans (HB.out.mono (by simp))⟩
theorem LotsAt.take {w:World} {b off:Nat} {l:List Cv.Lot} (h:LotsAt w b off l) (k:Nat):LotsAt w b off (l.take k):=by
 intro i hi
 rw [List.length_take] at hi
 rw [Cv.nth_take (by omega)]
 exact h i (by omega)
theorem LotsAt.drop {w:World} {b off:Nat} {l:List Cv.Lot} (h:LotsAt w b off l) (k:Nat):LotsAt w b (off + k * 5) (l.drop k):=by
 intro i hi
 rw [List.length_drop] at hi
 rw [Cv.nth_drop]
 have:=h (k + i) (by omega)
 rw [show off + (k + i) * 5 = off + k * 5 + i * 5 by omega] at this
 exact this
def sV (on:Bool) (nx la:Int):Value:=.agg #[.bool on,.int .i64 nx,.int .i64 la]
namespace Se
def ac (a:Ask):Nat:=Wi.code a.k a.c a.sq a.it a.sd a.pr a.q a.id
def aw (on:Bool) (nx:Int):Int:=if on = true then nx else 1
def tc (on:Bool) (nx:Int) (a:Ask):Nat:=if ac a = 0 then (if (a.k == 108) = on then 11 else if a.sq = aw on nx then 0 else 12) else ac a
def tO (on:Bool) (nx:Int) (a:Ask):Bool:=if tc on nx a = 0 then !(a.k == 113) else on
def tN (on:Bool) (nx:Int) (a:Ask):Int:=if tc on nx a = 0 then (if a.k = 113 then 0 else a.sq + 1) else nx
def tL (on:Bool) (nx la:Int) (a:Ask) (now:Int):Int:=if tc on nx a = 0 then (if a.k = 113 then 0 else now) else la
def late (on:Bool) (la now:Int):Bool:=on&&decide (la + 5 < now)
theorem ac_lt (a:Ask):ac a < 5:=by unfold ac Wi.code;(repeat' split) <;> decide
theorem tc_le (on:Bool) (nx:Int) (a:Ask):tc on nx a≤12:=by
 have:=ac_lt a
 unfold tc
 repeat' split
 all_goals omega
theorem ac_zero {a:Ask} (h:ac a = 0):0≤a.sq∧a.sq≤1073741824:=by
 unfold ac Wi.code at h
 split at h
 ·split at h
  ·rename_i hb
   simp [Wi.boundB,Wi.withinB] at hb
   omega
  ·cases h
 ·cases h
end Se
def errC (T:Nat→Value):Nat→Value
 | 0=>.nilIface
 | c + 1=>.iface 362 (T c)
structure SEr (w:World) (T:Nat→Value):Prop where
 st:w.cell? ⟨10,0,none⟩ = some (.iface 362 (T 10))
 od:w.cell? ⟨11,0,none⟩ = some (.iface 362 (T 11))
 bd:w.cell? ⟨1,0,none⟩ = some (.iface 362 (T 1))
 sh:w.cell? ⟨3,0,none⟩ = some (.iface 362 (T 2))
 kd:w.cell? ⟨5,0,none⟩ = some (.iface 362 (T 3))
section
variable {w w':World} {T:Nat→Value}
theorem s_cell_later {w w':World} {b o:Nat} {v:Value} (hb:Below w.heap.size w w') (h:w.cell? ⟨b,o,none⟩ = some v):w'.cell? ⟨b,o,none⟩ = some v:=by
 rw [hb.cell (p:=⟨b,o,none⟩) (World.block_lt_of_cell? w _ h)];exact h
theorem SEr.later (h:SEr w T) (hb:Below w.heap.size w w'):SEr w' T:=⟨s_cell_later hb h.st,s_cell_later hb h.od,s_cell_later hb h.bd,s_cell_later hb h.sh,s_cell_later hb h.kd⟩
theorem SEr.size (h:SEr w T):5 < w.heap.size:=World.block_lt_of_cell? w _ h.kd
set_option maxHeartbeats 1000000 in
theorem s_wcheck_any (a:Ask) (w:World) (he:SEr w T):Calls Tryz.prog 127 #[askV a] w fun e w'=>e = .returned (errC T (Se.ac a))∧Below w.heap.size w w':=by
 obtain ⟨ak,ac,asq,ait,asd,apr,aq,aid⟩:=a
 have hz:=he.size
 show Calls Tryz.prog 127 #[.agg #[.int .u8 ak,.int .i64 ac,.int .i64 asq,.int .i64 ait,.int .i64 asd,.int .i64 apr,.int .i64 aq,.int .i64 aid]] w fun e w'=>e = .returned (errC T (Wi.code ak ac asq ait asd apr aq aid))∧_
 unfold Wi.code
 cases hk:Wi.kindB ak with
 | false=>exact check_kind ak ac asq ait asd apr aq aid _ w (by omega) he.kd hk
 | true =>
  cases hb:Wi.boundB ak ac asq ait asd apr aq aid with
  | false=>exact check_bound ak ac asq ait asd apr aq aid _ w (by omega) he.bd hk hb
  | true =>
   cases hs:Wi.shapeB ak ait asd apr aq aid with
   | false=>exact check_shape ak ac asq ait asd apr aq aid _ w (by omega) he.sh hk hb hs
   | true=>exact check_fine ak ac asq ait asd apr aq aid w hk hb hs
set_option maxHeartbeats 1000000 in
theorem awaited_any (on:Bool) (nx la:Int) (w:World):Calls Tryz.prog 177 #[sV on nx la] w fun e w'=>e = .returned (.int .i64 (Se.aw on nx))∧Below w.heap.size w w':=by
 unfold sV Se.aw
 cases on
 all_goals
  go_enter Tryz.func177,Tryz.ntmps177
  go_wp2
  go_ret
  exact ⟨rfl,(Below.refl _ _).alloc (Nat.le_refl _) _⟩
set_option maxHeartbeats 1000000 in
theorem late_any (on:Bool) (nx la now:Int) (w:World) (hl:0≤la∧la≤1099511627776):Calls Tryz.prog 88 #[sV on nx la,.int .i64 now] w fun e w'=>e = .returned (.bool (Se.late on la now))∧Below w.heap.size w w':=by
 unfold sV Se.late
 have h1:IntKind.i64.wrap (la + 5) = la + 5:=IntWalk.i64_in _ (by omega)
 cases on
 all_goals
  go_enter Tryz.func88,Tryz.ntmps88
  go_wp2
  all_goals
   go_ret
   refine ⟨ret_bool ?_,(Below.refl _ _).alloc (Nat.le_refl _) _⟩
   simp
end
def bAt (s:ByteArray) (i:Nat):Nat:=(s.data.toList.getD i 0).toNat
theorem bAt_lt (s:ByteArray) (i:Nat):bAt s i < 256:=by unfold bAt;exact UInt8.toNat_lt _
theorem bAt_eq (s:ByteArray) (i:Nat) (h:i < s.size):(s[i]).toNat = bAt s i:=by
 have h':i < s.data.toList.length:=by simpa using h
 unfold bAt
 rw [List.getD_eq_getElem?_getD,List.getElem?_eq_getElem h']
 rfl
def lowAt (s:ByteArray) (i:Nat):Nat:=bAt s i + 256 * bAt s (i + 1) + 65536 * bAt s (i + 2) + 16777216 * bAt s (i + 3)
def highAt (s:ByteArray) (i:Nat):Nat:=16777216 * bAt s i + 65536 * bAt s (i + 1) + 256 * bAt s (i + 2) + bAt s (i + 3)
theorem u32_join (x y:Nat) (i:Nat) (hx:x < 2 ^ i) (hy:y % 2 ^ i = 0) (h1:x < 4294967296) (h2:y < 4294967296):bits .or .u32 (x:Int) (y:Int) = ((x + y:Nat):Int):=by
 rw [u32_or_nat x y h1 h2,Nat.or_comm,nat_join i y x hy hx,Nat.add_comm]
theorem wrap_i64_id (n:Nat) (h:n < 9223372036854775808):IntKind.i64.wrap (n:Int) = (n:Int):=by
 have h2:(n:Int) % 2 ^ 64 = n:=by omega
 simp only [IntKind.wrap,IntKind.bits,IntKind.signed,h2]
 rw [if_neg]
 simp
 omega
theorem ofInt_i64 (a:Nat) (ha:a < 9223372036854775808):(BitVec.ofInt 64 (a:Int)).toNat = a:=by
 rw [BitVec.ofInt_natCast,BitVec.toNat_ofNat];exact Nat.mod_eq_of_lt (by omega)
theorem i64_xor_nat (a b:Nat) (ha:a < 9223372036854775808) (hb:b < 9223372036854775808):bits .xor .i64 (a:Int) (b:Int) = ((a ^^^ b:Nat):Int):=by
 have hx:a ^^^ b < 2 ^ 63:=Nat.xor_lt_two_pow (by omega) (by omega)
 show IntKind.i64.wrap ((BitVec.ofInt 64 (a:Int) ^^^ BitVec.ofInt 64 (b:Int)).toNat:Int) = _
 rw [BitVec.toNat_xor,ofInt_i64 a ha,ofInt_i64 b hb]
 exact wrap_i64_id _ (by omega)
theorem low_of (a b c d:Nat) (ha:a < 256) (hb:b < 256) (hc:c < 256) (hd:d < 256) :
  bits .or .u32 (bits .or .u32 (bits .or .u32 ((a:Int) % 4294967296) ((b:Int) % 4294967296 * 256 % 4294967296)) ((c:Int) % 4294967296 * 65536 % 4294967296)) ((d:Int) % 4294967296 * 16777216 % 4294967296)
   = ((a + 256 * b + 65536 * c + 16777216 * d:Nat):Int):=by
 rw [show ((a:Int) % 4294967296) = (a:Int) by omega,show ((b:Int) % 4294967296 * 256 % 4294967296) = ((256 * b:Nat):Int) by omega,show ((c:Int) % 4294967296 * 65536 % 4294967296) = ((65536 * c:Nat):Int) by omega,show ((d:Int) % 4294967296 * 16777216 % 4294967296) = ((16777216 * d:Nat):Int) by omega]
 rw [u32_join a (256 * b) 8 (by omega) (by omega) (by omega) (by omega),u32_join (a + 256 * b) (65536 * c) 16 (by omega) (by omega) (by omega) (by omega),u32_join (a + 256 * b + 65536 * c) (16777216 * d) 24 (by omega) (by omega) (by omega) (by omega)]
theorem wrap64_small (n:Nat) (h:n < 9223372036854775808):wrap64 (n:Int) = (n:Int):=by
 unfold wrap64;omega
theorem u32_join' (x y:Nat) (i:Nat) (hx:x % 2 ^ i = 0) (hy:y < 2 ^ i) (h1:x < 4294967296) (h2:y < 4294967296):bits .or .u32 (x:Int) (y:Int) = ((x + y:Nat):Int):=by
 rw [u32_or_nat x y h1 h2,nat_join i x y hx hy]
theorem high_of (a b c d:Nat) (ha:a < 256) (hb:b < 256) (hc:c < 256) (hd:d < 256) :
  bits .or .u32 (bits .or .u32 (bits .or .u32 ((a:Int) % 4294967296 * 16777216 % 4294967296) ((b:Int) % 4294967296 * 65536 % 4294967296)) ((c:Int) % 4294967296 * 256 % 4294967296)) ((d:Int) % 4294967296)
   = ((16777216 * a + 65536 * b + 256 * c + d:Nat):Int):=by
 rw [show ((d:Int) % 4294967296) = (d:Int) by omega,show ((c:Int) % 4294967296 * 256 % 4294967296) = ((256 * c:Nat):Int) by omega,show ((b:Int) % 4294967296 * 65536 % 4294967296) = ((65536 * b:Nat):Int) by omega,show ((a:Int) % 4294967296 * 16777216 % 4294967296) = ((16777216 * a:Nat):Int) by omega]
 rw [u32_join' (16777216 * a) (65536 * b) 24 (by omega) (by omega) (by omega) (by omega),u32_join' (16777216 * a + 65536 * b) (256 * c) 16 (by omega) (by omega) (by omega) (by omega),u32_join' (16777216 * a + 65536 * b + 256 * c) d 8 (by omega) (by omega) (by omega) (by omega)]
set_option maxHeartbeats 1000000 in
theorem getLow (s:ByteArray) (w:World) (hs:4≤s.size) :
  Calls Tryz.prog 140 #[.string s] w fun e w'=>e = .returned (.int .u32 (lowAt s 0))∧∃ m,w' = w.drewN m:=by
 have g0:0 < s.size:=by omega
 have g1:1 < s.size:=by omega
 have g2:2 < s.size:=by omega
 have g3:3 < s.size:=by omega
 have h1:(1:Int) < s.size:=by omega
 have h2:(2:Int) < s.size:=by omega
 have h3:(3:Int) < s.size:=by omega
 clear hs
 go_enter Tryz.func140,Tryz.ntmps140
 go_wp2
 go_quiet (fail)
 go_wp2
 go_ret
 refine ⟨ret_int ?_,nq,rfl⟩
 rw [bAt_eq s 0 g0,bAt_eq s 1 g1,bAt_eq s 2 g2,bAt_eq s 3 g3]
 exact low_of _ _ _ _ (bAt_lt _ _) (bAt_lt _ _) (bAt_lt _ _) (bAt_lt _ _)
set_option maxHeartbeats 1000000 in
theorem getHigh (s:ByteArray) (w:World) (hs:4≤s.size) :
  Calls Tryz.prog 148 #[.string s] w fun e w'=>e = .returned (.int .u32 (highAt s 0))∧∃ m,w' = w.drewN m:=by
 have g0:0 < s.size:=by omega
 have g1:1 < s.size:=by omega
 have g2:2 < s.size:=by omega
 have g3:3 < s.size:=by omega
 have h1:(1:Int) < s.size:=by omega
 have h2:(2:Int) < s.size:=by omega
 have h3:(3:Int) < s.size:=by omega
 clear hs
 go_enter Tryz.func148,Tryz.ntmps148
 go_wp2
 go_quiet (fail)
 go_wp2
 go_ret
 refine ⟨ret_int ?_,nq,rfl⟩
 rw [bAt_eq s 0 g0,bAt_eq s 1 g1,bAt_eq s 2 g2,bAt_eq s 3 g3]
 exact high_of _ _ _ _ (bAt_lt _ _) (bAt_lt _ _) (bAt_lt _ _) (bAt_lt _ _)
theorem bAt_extract (s:ByteArray) (a b i:Nat) (h:a + i < b) (hb:b≤s.size):bAt (s.extract a b) i = bAt s (a + i):=by
 have h1:i < (s.extract a b).size:=by simp;omega
 rw [← bAt_eq (s.extract a b) i h1,← bAt_eq s (a + i) (by omega)]
 congr 1
 exact ByteArray.getElem_extract ..
theorem runN_lt:∀ (n N:Nat) {r:Nat},r < 4294967296→Wi.runN n N r < 4294967296
 | 0,_,_,h=>h
 | n + 1,N,_,h=>runN_lt n (N / 2) (Wi.bit_lt (Wi.xor_lt h (by have:=Nat.mod_lt N (show 0 < 2 by decide);omega)))
theorem runN_succ:∀ (n N r:Nat),Wi.runN (n + 1) N r = Wi.bit (Wi.runN n N r ^^^ N / 2 ^ n % 2)
 | 0,N,r=>by simp [Wi.runN]
 | n + 1,N,r=>by
  show Wi.runN (n + 1) (N / 2) (Wi.bit (r ^^^ N % 2)) = Wi.bit (Wi.runN n (N / 2) (Wi.bit (r ^^^ N % 2)) ^^^ N / 2 ^ (n + 1) % 2)
  rw [runN_succ n,Nat.div_div_eq_div_mul,Nat.pow_succ,Nat.mul_comm 2]
theorem crc_test (z b j:Nat) (hz:z < 4294967296) (hb:b < 256):(bits .xor .i64 (z:Int) ((b:Int) / 2 ^ j)).tmod 2 = (((z ^^^ b / 2 ^ j % 2) % 2:Nat):Int):=by
 have hq:b / 2 ^ j < 256:=Nat.lt_of_le_of_lt (Nat.div_le_self _ _) hb
 have e:((b:Int) / 2 ^ j) = ((b / 2 ^ j:Nat):Int):=by push_cast;rfl
 rw [e,i64_xor_nat z (b / 2 ^ j) (by omega) (by omega),Int.tmod_eq_emod_of_nonneg (by omega)]
 have h2:(z ^^^ b / 2 ^ j) % 2 = (z ^^^ b / 2 ^ j % 2) % 2:=by rw [Wi.odd_xor,Wi.odd_xor,Nat.mod_mod]
 rw [← h2]
 omega
theorem crc_half (z q:Nat):(z ^^^ q % 2) / 2 = z / 2:=by
 rw [Wi.half_xor,Nat.div_eq_of_lt (Nat.mod_lt _ (by decide)),Nat.xor_zero]
theorem crc_one (z b j:Nat) (hz:z < 4294967296) (hb:b < 256) (h:((bits .xor .i64 (z:Int) ((b:Int) / 2 ^ j)).tmod 2 == 1) = true):bits .xor .i64 ((z:Int) / 2) 3988292384 = (Wi.bit (z ^^^ b / 2 ^ j % 2):Int):=by
 rw [crc_test z b j hz hb,beq_iff_eq] at h
 have h1:(z ^^^ b / 2 ^ j % 2) % 2 = 1:=by omega
 rw [show ((z:Int) / 2) = ((z / 2:Nat):Int) by omega,show (3988292384:Int) = ((3988292384:Nat):Int) from rfl,i64_xor_nat _ _ (by omega) (by omega)]
 unfold Wi.bit
 rw [if_pos h1,crc_half]
theorem crc_zero (z b j:Nat) (hz:z < 4294967296) (hb:b < 256) (h:((bits .xor .i64 (z:Int) ((b:Int) / 2 ^ j)).tmod 2 == 1) = false):((z:Int) / 2) = (Wi.bit (z ^^^ b / 2 ^ j % 2):Int):=by
 rw [crc_test z b j hz hb,beq_eq_false_iff_ne] at h
 have h1:¬ (z ^^^ b / 2 ^ j % 2) % 2 = 1:=by omega
 unfold Wi.bit
 rw [if_neg h1,crc_half]
 omega
set_option maxHeartbeats 1000000 in
theorem crc_any (s:ByteArray) (w:World) (hs:s.size≤maxLen) :
  Calls Tryz.prog 56 #[.string s] w fun e w'=>e = .returned (.int .i64 (Wi.sum s.data.toList))∧w' = w:=by
 unfold maxLen at hs
 go_enter Tryz.func56,Tryz.ntmps56
 go_wp2
 go_loop [3,4] (fun n i=>∃ k:Nat,k≤s.size∧i = .int .i64 k∧n = .int .i64 (Wi.run (s.data.toList.take k) 4294967295)) (fun _ i=>s.size - (intOf i).toNat)
 case atStart=>exact ⟨0,Nat.zero_le _,rfl,rfl⟩
 case round =>
  obtain ⟨k,hk,rfl,rfl⟩:=hrel
  have hr:Wi.run (s.data.toList.take k) 4294967295 < 4294967296:=Wi.run_lt _ (by decide)
  by_cases hlt:k < s.size
  ·have HS:Hid (Wi.run (s.data.toList.take (k + 1)) 4294967295 = Wi.byte (Wi.run (s.data.toList.take k) 4294967295) s[k].toNat):=by
    rw [take_snoc s k hlt];exact Wi.run_snoc _ _ _
   have hb:s[k].toNat < 256:=s[k].toNat_lt
   generalize hg:Wi.run (s.data.toList.take k) 4294967295 = r at *
   have Hg:=hide hg;clear hg
   go_wp2
   go_loop [3,5] (fun n i=>∃ j:Nat,j≤8∧i = .int .i64 j∧n = .int .i64 (Wi.runN j s[k].toNat r)) (fun _ i=>8 - (intOf i).toNat)
   case atStart=>exact ⟨0,Nat.zero_le _,rfl,rfl⟩
   case round =>
    obtain ⟨j,hj,rfl,rfl⟩:=hrel
    have hy2:Wi.runN j s[k].toNat r < 4294967296:=runN_lt j _ hr
    generalize hz:Wi.runN j s[k].toNat r = z at *
    have Hz:=hide hz;clear hz
    by_cases hj8:j < 8
    ·go_wp2
     ·exact ⟨⟨j + 1,by omega,by go_num,val_int (by rw [runN_succ,Hz.out];exact crc_one z _ j hy2 hb ‹_›)⟩,by simp [intOf];omega⟩
     ·exact ⟨⟨j + 1,by omega,by go_num,val_int (by rw [runN_succ,Hz.out];exact crc_zero z _ j hy2 hb ‹_›)⟩,by simp [intOf];omega⟩
    ·go_wp2
     have hj':j = 8:=by omega
     exact ⟨⟨k + 1,by omega,by go_num,val_int (by rw [HS.out,Wi.byte,← Wi.runN_bits 8 _ _ hb,← Hz.out,hj'])⟩,by simp [intOf];omega⟩
  ·go_wp2
   go_ret
   exact ⟨ret_int (by rw [show (4294967295:Int) = ((4294967295:Nat):Int) from rfl,i64_xor_nat _ _ (by omega) (by decide),List.take_of_length_le (by simp;omega)];rfl),rfl⟩
theorem one_byte (x:Int) (w:World):(convert 140 9 (.slice (some ⟨w.heap.size,0,none⟩) 1 1)).run Tryz.prog (w.alloc (.cells #[.int .u8 x] 5)) = .ok (.string (strOfNums [x])) (w.alloc (.cells #[.int .u8 x] 5)) :=
 run_convert_bytes_arg (w.alloc (.cells #[.int .u8 x] 5)) 140 5 Tryz.underlying140 Tryz.underlying5 w.heap.size 0 1 1 [x] rfl (fun i hi=>by
  obtain rfl:i = 0:=by omega
  simp) 9 Tryz.underlying9
theorem byte_any (n:Int) (w:World):Calls Tryz.prog 53 #[.int .i64 n] w fun e w'=>e = .returned (.string (strOfNums [n % 256]))∧Below w.heap.size w w':=by
 have hcv:=one_byte
 go_enter Tryz.func53,Tryz.ntmps53
 go_wp2
 go_ret
 exact ⟨rfl,(Below.refl _ _).alloc (Nat.le_refl _) _⟩
theorem nums_append (a b:List Int):strOfNums a++strOfNums b = strOfNums (a++b):=by
 apply ByteArray.ext
 simp [strOfNums]
theorem ret_string {a b:ByteArray} (h:a = b):Ending.returned (.string a) = .returned (.string b):=by rw [h]
theorem below4 {w w1 w2 w3 w4:World} (h1:Below w.heap.size w w1) (h2:Below w1.heap.size w1 w2) (h3:Below w2.heap.size w2 w3) (h4:Below w3.heap.size w3 w4):Below w.heap.size w w4 :=
 ((h1.trans (h2.mono h1.size)).trans (h3.mono (Nat.le_trans h1.size h2.size))).trans (h4.mono (Nat.le_trans h1.size (Nat.le_trans h2.size h3.size)))
set_option maxHeartbeats 1000000 in
theorem high_any (n:Nat) (w:World) (_hn:n < 4294967296):Calls Tryz.prog 54 #[.int .i64 n] w fun e w'=>e = .returned (.string (strOfNums (Wi.high n)))∧Below w.heap.size w w':=by
 go_enter Tryz.func54,Tryz.ntmps54
 go_wp2_with fail
 refine (byte_any _ _).mono ?_
 rintro e w1 ⟨rfl,hb1⟩
 go_wp2_with fail
 refine (byte_any _ _).mono ?_
 rintro e w2 ⟨rfl,hb2⟩
 go_wp2_with fail
 refine (byte_any _ _).mono ?_
 rintro e w3 ⟨rfl,hb3⟩
 go_wp2_with fail
 refine (byte_any _ _).mono ?_
 rintro e w4 ⟨rfl,hb4⟩
 go_wp2
 go_ret
 exact ⟨ret_string (by rw [nums_append,nums_append,nums_append];rfl),below4 hb1 hb2 hb3 hb4⟩
set_option maxHeartbeats 1000000 in
theorem low_any (n:Nat) (w:World) (_hn:n < 4294967296):Calls Tryz.prog 55 #[.int .i64 n] w fun e w'=>e = .returned (.string (strOfNums (Wi.low n)))∧Below w.heap.size w w':=by
 go_enter Tryz.func55,Tryz.ntmps55
 go_wp2_with fail
 refine (byte_any _ _).mono ?_
 rintro e w1 ⟨rfl,hb1⟩
 go_wp2_with fail
 refine (byte_any _ _).mono ?_
 rintro e w2 ⟨rfl,hb2⟩
 go_wp2_with fail
 refine (byte_any _ _).mono ?_
 rintro e w3 ⟨rfl,hb3⟩
 go_wp2_with fail
 refine (byte_any _ _).mono ?_
 rintro e w4 ⟨rfl,hb4⟩
 go_wp2
 go_ret
 refine ⟨ret_string ?_,below4 hb1 hb2 hb3 hb4⟩
 rw [nums_append,nums_append,nums_append]
 simp [Wi.low]
end Go.Proofs.YtidahfhingdlmaaGreatDoor
