/- The small functions of package purse by their contracts: grow, isClient, isBelowZero, isWell, asked. -/
import Derived.Test.YtidahfhingdlmaaGreatDoorT15
import Derived.Test.YtidahfhingdlmaaGreatDoorT09
import Derived.BigRegion
import Derived.Test.YtidahfhingdlmaaGreatDoorT02
import Derived.Deep.WholeRow
import Derived.Laws.CopyOwn
import Derived.Deep.MidRow
import Derived.Laws.ResultCell
import Derived.Deep.RegionLaw
import Derived.Test.YtidahfhingdlmaaGreatDoorT08
import Derived.OwnWalk
namespace Go.Proofs.YtidahfhingdlmaaGreatDoor
open Go.RowKit
set_option maxRecDepth 100000
theorem grow_no (B o:Nat) (t more most:Int) (w:World) (hc:w.cell? ⟨B,o,none⟩ = some (.int .i64 t)) (h0:0≤t) (h1:t≤most) (h2:most≤1099511627776) (h:most - t < more) :
  Calls Tryz.prog 150 #[.pointer (some ⟨B,o,none⟩),.int .i64 more,.int .i64 most] w fun e w'=>e = .returned (.bool false)∧w' = w:=by
 go_enter Tryz.func150,Tryz.ntmps150
 go_wp2
 go_ret
 exact ⟨rfl,rfl⟩
theorem grow_yes (B o:Nat) (t more most:Int) (w:World) (hc:w.cell? ⟨B,o,none⟩ = some (.int .i64 t)) (hf:w.frozen? ⟨B,o,none⟩ = false) (h0:0≤t) (h1:t≤most) (h2:most≤1099511627776) (h3:0≤more) (h:¬ most - t < more) :
  Calls Tryz.prog 150 #[.pointer (some ⟨B,o,none⟩),.int .i64 more,.int .i64 most] w fun e w'=>e = .returned (.bool true)∧w' = w.setCell ⟨B,o,none⟩ (.int .i64 (t + more)):=by
 go_enter Tryz.func150,Tryz.ntmps150
 go_wp2
 go_ret
 exact ⟨rfl,rfl⟩
theorem isClient_any (n:Int) (w:World):Calls Tryz.prog 50 #[.int .i64 n] w fun e w'=>e = .returned (.bool (Wi.withinB n 0 5))∧w' = w:=by
 go_enter Tryz.func50,Tryz.ntmps50
 go_wp2_with fail
 refine (within_any n 0 5 w).mono ?_
 rintro e w2 ⟨rfl,rfl⟩
 simp only []
 go_wp2
 go_ret
 exact ⟨rfl,rfl⟩
theorem ix0 (a b c:Int) (w:World):(Instr.index 53 (.agg #[.int .i64 a,.int .i64 b,.int .i64 c]) (.int .i64 0)).run Tryz.prog w = .ok (.int .i64 a) w:=by kernel_rfl
theorem ix1 (a b c:Int) (w:World):(Instr.index 53 (.agg #[.int .i64 a,.int .i64 b,.int .i64 c]) (.int .i64 1)).run Tryz.prog w = .ok (.int .i64 b) w:=by kernel_rfl
theorem ix2 (a b c:Int) (w:World):(Instr.index 53 (.agg #[.int .i64 a,.int .i64 b,.int .i64 c]) (.int .i64 2)).run Tryz.prog w = .ok (.int .i64 c) w:=by kernel_rfl
set_option maxHeartbeats 1000000 in
theorem below_any (cash s0 s1 s2:Int) (w:World):Calls Tryz.prog 149 #[.int .i64 cash,.agg #[.int .i64 s0,.int .i64 s1,.int .i64 s2]] w fun e w'=>e = .returned (.bool (decide (s0 < 0) || decide (s1 < 0) || decide (s2 < 0) || decide (cash < 0)))∧Below w.heap.size w w':=by
 have hb:Hid (Below w.heap.size w (w.alloc (.cells #[.int .i64 s0,.int .i64 s1,.int .i64 s2] 53))):=(Below.refl _ _).alloc (Nat.le_refl _) _
 have i0:=@ix0
 have i1:=@ix1
 have i2:=@ix2
 by_cases h0:s0 < 0
 ·go_enter Tryz.func149,Tryz.ntmps149
  go_wp2
  refine wp_loop_rounds 1 ?_
  rw [rounds_succ]
  go_wp2
  go_ret
  exact ⟨ret_bool (by simp [h0]),hb.out⟩
 by_cases h1:s1 < 0
 ·go_enter Tryz.func149,Tryz.ntmps149
  go_wp2
  refine wp_loop_rounds 2 ?_
  rw [rounds_succ]
  go_wp2
  rw [rounds_succ]
  go_wp2
  go_ret
  exact ⟨ret_bool (by simp [h1]),hb.out⟩
 by_cases h2:s2 < 0
 ·go_enter Tryz.func149,Tryz.ntmps149
  go_wp2
  refine wp_loop_rounds 3 ?_
  rw [rounds_succ]
  go_wp2
  rw [rounds_succ]
  go_wp2
  rw [rounds_succ]
  go_wp2
  go_ret
  exact ⟨ret_bool (by simp [h2]),hb.out⟩
 ·have H:Hid (¬ s0 < 0∧¬ s1 < 0∧¬ s2 < 0):=⟨h0,h1,h2⟩
  go_enter Tryz.func149,Tryz.ntmps149
  go_wp2
  refine wp_loop_rounds 4 ?_
  rw [rounds_succ]
  go_wp2
  rw [rounds_succ]
  go_wp2
  rw [rounds_succ]
  go_wp2
  rw [rounds_succ]
  go_wp2
  go_ret
  exact ⟨ret_bool (by obtain ⟨a,b,c⟩:=H.out;simp [show ¬ s0 < 0 by omega,show ¬ s1 < 0 by omega,show ¬ s2 < 0 by omega]),hb.out⟩
theorem p_well_one (x:Cv.Lot):Cv.okAt [x] 0 = Cv.ok x:=by simp [Cv.okAt,Cv.nth,Cv.has]
set_option maxHeartbeats 1000000 in
theorem isWell_any (item:Int) (x:Cv.Lot) (T:TypeId) (v1 v6 v7:Value) (w:World) (he:Hid (Er w T v1 v6 v7)) :
  Calls Tryz.prog 223 #[.int .i64 item,lotV x] w fun e w'=>e = .returned (.bool (Pu.well item x))∧Below w.heap.size w w':=by
 show Calls Tryz.prog 223 #[.int .i64 item,.agg #[.int .i64 x.id,.int .i64 x.ow,.int .i64 x.sd,.int .i64 x.pr,.int .i64 x.q]] w _
 have hb1:Below w.heap.size w (w.alloc (.cells #[.int .i64 x.id,.int .i64 x.ow,.int .i64 x.sd,.int .i64 x.pr,.int .i64 x.q] 137)):=(Below.refl _ _).alloc (Nat.le_refl _) _
 have hb2:Below w.heap.size w ((w.alloc (.cells #[.int .i64 x.id,.int .i64 x.ow,.int .i64 x.sd,.int .i64 x.pr,.int .i64 x.q] 137)).alloc (.cells #[.int .i64 x.id,.int .i64 x.ow,.int .i64 x.sd,.int .i64 x.pr,.int .i64 x.q] 137)):=hb1.alloc hb1.size _
 have HB1:=hide hb1;have HB2:=hide hb2
 have HC:=hide (check_some (w.heap.size + 1) 0 1 1 [x] T v1 v6 v7 ((w.alloc (.cells #[.int .i64 x.id,.int .i64 x.ow,.int .i64 x.sd,.int .i64 x.pr,.int .i64 x.q] 137)).alloc (.cells #[.int .i64 x.id,.int .i64 x.ow,.int .i64 x.sd,.int .i64 x.pr,.int .i64 x.q] 137)) rfl (by decide) (by decide) (by
  intro i hi
  have:i = 0:=by simp at hi;omega
  subst this
  refine ⟨?_,?_,?_,?_,?_⟩ <;> simp [Cv.nth]) (he.out.later hb2))
 clear hb1 hb2
 cases hw:Wi.withinB item 0 2 with
 | false =>
  have HW:Hid (Pu.well item x = false):=by show _ = _;unfold Pu.well;rw [hw];rfl
  have HI:=hide (within_any item 0 2 (w.alloc (.cells #[.int .i64 x.id,.int .i64 x.ow,.int .i64 x.sd,.int .i64 x.pr,.int .i64 x.q] 137)))
  rw [hw] at HI
  clear hw
  go_enter Tryz.func223,Tryz.ntmps223
  go_wp2_with fail
  refine HI.out.mono ?_
  rintro e w2 ⟨rfl,rfl⟩
  simp only []
  go_wp2
  go_ret
  exact ⟨ret_bool HW.out.symm,HB1.out⟩
 | true =>
  have HW:Hid (Pu.well item x = Cv.ok x):=by show _ = _;unfold Pu.well;rw [hw];rfl
  have HI:=hide (within_any item 0 2 (w.alloc (.cells #[.int .i64 x.id,.int .i64 x.ow,.int .i64 x.sd,.int .i64 x.pr,.int .i64 x.q] 137)))
  rw [hw] at HI
  clear hw
  go_enter Tryz.func223,Tryz.ntmps223
  go_wp2_with fail
  refine HI.out.mono ?_
  rintro e w2 ⟨rfl,rfl⟩
  simp only []
  go_wp2_with fail
  refine HC.out.mono ?_
  rintro e w3 ⟨h3,hb3⟩
  have HB3:Hid (Below w.heap.size w w3):=HB2.out.trans (hb3.mono HB2.out.size)
  rcases h3 with ⟨hwl,rfl⟩ | ⟨i,B,hi,_,hno,rfl,_⟩
  ·have HO:Hid (Cv.ok x = true):=by show _ = _;rw [← p_well_one];exact hwl 0 (by decide)
   clear hwl hb3
   simp only []
   go_wp2
   go_ret
   exact ⟨ret_bool (by rw [HW.out,HO.out]),HB3.out⟩
  ·have HO:Hid (Cv.ok x = false):=by
    show _ = _
    have:i = 0:=by omega
    subst this
    rw [← p_well_one];exact hno
   clear hno hi hb3
   simp only []
   go_wp2
   go_ret
   exact ⟨ret_bool (by rw [HW.out,HO.out]),HB3.out⟩
def errE (v:Nat→Value):Nat→Value
 | 0=>.nilIface
 | c + 1=>.iface 362 (v (c + 1))
structure PEr (w:World) (v:Nat→Value):Prop where
 er:Er w 362 (v 1) (v 6) (v 7)
 c9:w.cell? ⟨9,0,none⟩ = some (.iface 362 (v 9))
theorem PEr.later {w w':World} {v:Nat→Value} (h:PEr w v) (hb:Below w.heap.size w w'):PEr w' v:=⟨h.er.later hb,cell_later hb h.c9⟩
theorem Purse.lat {w w':World} {T:TypeId} {B:Nat} {f:Nat→Int} (h:Purse w T B f) (hb:Below w.heap.size w w'):Purse w' T B f:=h.later hb h.lt
structure Save (w w':World) (p:Nat):Prop where
 os:w'.os = w.os
 tape:w'.tape = w.tape
 output:w'.output = w.output
 size:w.heap.size≤w'.heap.size
 block:∀ k,k < w.heap.size→k≠p→w'.heap[k]? = w.heap[k]?
theorem Save.of_below {w w':World} (h:Below w.heap.size w w') (p:Nat):Save w w' p:=⟨h.os,h.tape,h.output,h.size,fun k hk _=>h.block k hk⟩
theorem Save.trans {w w1 w2:World} {p:Nat} (h:Save w w1 p) (h1:Save w1 w2 p):Save w w2 p :=
 ⟨h1.os.trans h.os,h1.tape.trans h.tape,h1.output.trans h.output,Nat.le_trans h.size h1.size,fun k hk ha=>by rw [h1.block k (Nat.lt_of_lt_of_le hk h.size) ha];exact h.block k hk ha⟩
theorem Save.below {w w':World} {p n:Nat} (h:Save w w' p) (hn:n≤w.heap.size) (hp:n≤p):Below n w w':=⟨h.os,h.tape,h.output,h.size,fun k hk=>h.block k (by omega) (by omega)⟩
theorem Save.setCell (w:World) (g o:Nat) (v:Value):Save w (w.setCell ⟨g,o,none⟩ v) g:=⟨rfl,rfl,rfl,by simp,fun k _ ha=>Below.heap_setCell _ _ _ _ ha⟩
theorem Purse.save {w w':World} {T:TypeId} {B p:Nat} {f:Nat→Int} (h:Purse w T B f) (hs:Save w w' p) (hne:B≠p):Purse w' T B f:=(hs.block B h.lt hne).trans h
theorem cell_save {w w':World} {p:Nat} {a:Addr} {v:Value} (hs:Save w w' p) (h:w.cell? a = some v) (hne:a.block≠p):w'.cell? a = some v :=
 (World.cell?_of_block (hs.block a.block (World.block_lt_of_cell? w a h) hne)).trans h
set_option maxHeartbeats 1000000 in
theorem asked_any (p:Nat) (item:Int) (x:Cv.Lot) (f:Nat→Int) (w:World) (hp:Hid (Purse w 131 p f)) (hw:Hid (Pu.well item x = true)) :
  Calls Tryz.prog 224 #[.pointer (some ⟨p,0,none⟩),.int .i64 item,lotV x] w fun e w'=>e = .returned (.tuple #[.int .i64 (f (Pu.tx item x)),.pointer (some ⟨p,Pu.hx item x,none⟩),.int .i64 (Pu.mu x)])∧Below w.heap.size w w':=by
 show Calls Tryz.prog 224 #[.pointer (some ⟨p,0,none⟩),.int .i64 item,.agg #[.int .i64 x.id,.int .i64 x.ow,.int .i64 x.sd,.int .i64 x.pr,.int .i64 x.q]] w _
 obtain ⟨k,rfl,hk⟩:=Pu.well_item hw.out
 obtain ⟨c,hc,hc6⟩:=Pu.well_ow hw.out
 have hpl:=hp.out.lt
 have hne:¬ (w.heap.size = p):=by omega
 have hne':¬ (p = w.heap.size):=by omega
 have hbd:=Cv.ok_bounds (Pu.well_ok hw.out)
 have hmu:=Pu.mu_bounds (Pu.well_ok hw.out)
 have hbW:Below w.heap.size w (w.alloc (.cells #[.int .i64 x.id,.int .i64 c,.int .i64 x.sd,.int .i64 x.pr,.int .i64 x.q] 137)):=(Below.refl _ _).alloc (Nat.le_refl _) _
 have HBW:=hide hbW
 clear hbW
 have hci:(c:Int) < 6:=by omega
 have hki:(k:Int) < 3:=by omega
 by_cases hs:x.sd = 0
 ·have HX:Hid (Pu.tx k x = c * 8∧Pu.hx k x = c * 8 + 1∧Pu.mu x = x.pr * x.q):=by
   refine ⟨?_,?_,?_⟩
   ·unfold Pu.tx;rw [if_pos hs];omega
   ·unfold Pu.hx;rw [if_pos hs];omega
   ·unfold Pu.mu;rw [if_pos hs]
  have hm:1≤x.pr * x.q∧x.pr * x.q≤1000000:=by rw [← HX.out.2.2];exact hmu
  obtain ⟨m1,m2⟩:=hm
  have c0:=hp.out.cell (i:=c * 8) (by omega)
  have hsb:(x.sd == 0) = true:=by simp [hs]
  clear hmu hbd hs
  rw [hc]
  go_enter Tryz.func224,Tryz.ntmps224
  go_wp2
  go_quiet (fail)
  go_wp2
  go_quiet (fail)
  go_wp2
  refine bodyPost_ret (v:=.tuple #[.int .i64 (f (c * 8)),.pointer (some ⟨p,c * 8 + 1,none⟩),.int .i64 (x.pr * x.q)]) (by simp [results,Tryz.results224,go_sem]) rfl ⟨?_,?_⟩
  ·rw [HX.out.1,HX.out.2.1,HX.out.2.2]
  ·exact (HBW.out.trans ((blw_drew _).mono HBW.out.size)).trans ((blw_drew _).mono (by simp))
 ·have hs1:x.sd = 1:=by omega
  have HX:Hid (Pu.tx k x = c * 8 + 2 + k∧Pu.hx k x = c * 8 + 5 + k∧Pu.mu x = x.q):=by
   refine ⟨?_,?_,?_⟩
   ·unfold Pu.tx;rw [if_neg hs];omega
   ·unfold Pu.hx;rw [if_neg hs];omega
   ·unfold Pu.mu;rw [if_neg hs]
  have c0:=hp.out.cell (i:=c * 8 + 2 + k) (by omega)
  have hsb:(x.sd == 0) = false:=by simp [hs]
  clear hmu hbd hs hs1
  rw [hc]
  go_enter Tryz.func224,Tryz.ntmps224
  go_wp2
  go_quiet (fail)
  go_wp2
  go_quiet (fail)
  go_wp2
  refine bodyPost_ret (v:=.tuple #[.int .i64 (f (c * 8 + 2 + k)),.pointer (some ⟨p,c * 8 + 5 + k,none⟩),.int .i64 x.q]) (by simp [results,Tryz.results224,go_sem]) rfl ⟨?_,?_⟩
  ·rw [HX.out.1,HX.out.2.1,HX.out.2.2]
  ·exact (HBW.out.trans ((blw_drew _).mono HBW.out.size)).trans ((blw_drew _).mono (by simp))
set_option maxHeartbeats 1000000 in
theorem hold_any (p:Nat) (item:Int) (x:Cv.Lot) (f:Nat→Int) (v:Nat→Value) (w:World) (he:Hid (PEr w v)) (hp:Hid (Purse w 131 p f)) (hg:Hid (Pu.Good f)) :
  Calls Tryz.prog 187 #[.pointer (some ⟨p,0,none⟩),.int .i64 item,lotV x] w fun e w'=>e = .returned (errE v (Pu.holdC f item x))∧Purse w' 131 p (Pu.holdF f item x)∧Save w w' p:=by
 show Calls Tryz.prog 187 #[.pointer (some ⟨p,0,none⟩),.int .i64 item,.agg #[.int .i64 x.id,.int .i64 x.ow,.int .i64 x.sd,.int .i64 x.pr,.int .i64 x.q]] w _
 have hbW:Below w.heap.size w (w.alloc (.cells #[.int .i64 x.id,.int .i64 x.ow,.int .i64 x.sd,.int .i64 x.pr,.int .i64 x.q] 137)):=(Below.refl _ _).alloc (Nat.le_refl _) _
 have HBW:=hide hbW
 have HC:=hide (isWell_any item x 362 _ _ _ _ (he.out.later hbW).er)
 have HX0:Hid ((w.alloc (.cells #[.int .i64 x.id,.int .i64 x.ow,.int .i64 x.sd,.int .i64 x.pr,.int .i64 x.q] 137)).heap[w.heap.size]? = some (.cells #[.int .i64 x.id,.int .i64 x.ow,.int .i64 x.sd,.int .i64 x.pr,.int .i64 x.q] 137 (0,0))):=heap_alloc_new _ _
 unfold lotV at HC
 clear hbW
 go_enter Tryz.func187,Tryz.ntmps187
 go_wp2_with fail
 refine HC.out.mono ?_
 rintro e w2 ⟨rfl,hb2⟩
 have HB:Hid (Below w.heap.size w w2):=HBW.out.trans (hb2.mono HBW.out.size)
 have hX:w2.heap[w.heap.size]? = some (.cells #[.int .i64 x.id,.int .i64 x.ow,.int .i64 x.sd,.int .i64 x.pr,.int .i64 x.q] 137 (0,0)):=by
  rw [hb2.block _ (lt_of_block HX0.out)];exact HX0.out
 have HX3:=hide hX
 have HP2:=hide (hp.out.lat HB.out)
 clear hb2 HC HBW HX0
 cases hok:Pu.well item x with
 | false =>
  have HA:Hid (Pu.holdC f item x = 1∧Pu.holdF f item x = f):=by
   have e:Pu.holdC f item x = 1:=by unfold Pu.holdC;rw [hok];rfl
   exact ⟨e,by unfold Pu.holdF;rw [e];rfl⟩
  have e1:=(he.out.later HB.out).er.c1
  clear hok hX
  simp only []
  go_wp2
  go_ret
  exact ⟨by rw [HA.out.1];rfl,by rw [HA.out.2];exact HP2.out,Save.of_below HB.out p⟩
 | true =>
  have HOK:=hide hok
  clear hok
  have HQ:=hide (asked_any p item x f w2 HP2.out HOK.out)
  unfold lotV at HQ
  have b0:w2.cell? ⟨w.heap.size,0,none⟩ = some (.int .i64 x.id):=by simp [World.cell?,hX]
  have b1:w2.cell? ⟨w.heap.size,1,none⟩ = some (.int .i64 x.ow):=by simp [World.cell?,hX]
  have b2:w2.cell? ⟨w.heap.size,2,none⟩ = some (.int .i64 x.sd):=by simp [World.cell?,hX]
  have b3:w2.cell? ⟨w.heap.size,3,none⟩ = some (.int .i64 x.pr):=by simp [World.cell?,hX]
  have b4:w2.cell? ⟨w.heap.size,4,none⟩ = some (.int .i64 x.q):=by simp [World.cell?,hX]
  clear hX
  simp only []
  go_wp2_with fail
  refine HQ.out.mono ?_
  rintro e w3 ⟨rfl,hb3⟩
  have HB3:Hid (Below w.heap.size w w3):=HB.out.trans (hb3.mono HB.out.size)
  have HP3:=hide (HP2.out.lat hb3)
  clear hb3 HQ b0 b1 b2 b3 b4
  have hga:=Pu.good_at hg.out HOK.out
  have hmu:=Pu.mu_bounds (Pu.well_ok HOK.out)
  have hlt:=Pu.place_lt HOK.out
  have ch:=HP3.out.cell hlt.1
  have fh:=HP3.out.frozen (Pu.hx item x)
  have HCD:Hid (Pu.holdC f item x = if f (Pu.tx item x) - f (Pu.hx item x) < Pu.mu x then 9 else 0):=by show _ = _;unfold Pu.holdC;rw [if_pos HOK.out]
  have HFD:Hid (Pu.holdF f item x = if Pu.holdC f item x = 0 then Pu.add f (Pu.hx item x) (Pu.mu x) else f):=rfl
  generalize Pu.hx item x = ih at *
  generalize hft:f (Pu.tx item x) = ft at *
  generalize hfh:f ih = fi at *
  generalize Pu.mu x = m at *
  have Hfh:=hide hfh
  clear hft hfh
  obtain ⟨g0,g1,g2⟩:=hga
  obtain ⟨m0,m1⟩:=hmu
  by_cases hpo:ft - fi < m
  ·have HA:Hid (Pu.holdC f item x = 9∧Pu.holdF f item x = f):=by
    have e:Pu.holdC f item x = 9:=by rw [HCD.out,if_pos hpo]
    exact ⟨e,by rw [HFD.out,e];rfl⟩
   have e9:=(he.out.later HB3.out).c9
   simp only []
   go_wp2
   go_ret
   exact ⟨by rw [HA.out.1];rfl,by rw [HA.out.2];exact HP3.out,Save.of_below HB3.out p⟩
  ·have HA:Hid (Pu.holdC f item x = 0∧Pu.holdF f item x = Pu.add f ih m):=by
    have e:Pu.holdC f item x = 0:=by rw [HCD.out,if_neg hpo]
    exact ⟨e,by rw [HFD.out,e];rfl⟩
   simp only []
   go_wp2
   go_ret
   exact ⟨by rw [HA.out.1];rfl,by rw [HA.out.2];exact HP3.out.add _ _ _ (by rw [Hfh.out]),(Save.of_below HB3.out p).trans (Save.setCell _ _ _ _)⟩
set_option maxHeartbeats 1000000 in
theorem free_any (p:Nat) (item:Int) (x:Cv.Lot) (f:Nat→Int) (v:Nat→Value) (w:World) (he:Hid (PEr w v)) (hp:Hid (Purse w 131 p f)) (hg:Hid (Pu.Good f)) :
  Calls Tryz.prog 184 #[.pointer (some ⟨p,0,none⟩),.int .i64 item,lotV x] w fun e w'=>e = .returned (errE v (Pu.freeC f item x))∧Purse w' 131 p (Pu.freeF f item x)∧Save w w' p:=by
 show Calls Tryz.prog 184 #[.pointer (some ⟨p,0,none⟩),.int .i64 item,.agg #[.int .i64 x.id,.int .i64 x.ow,.int .i64 x.sd,.int .i64 x.pr,.int .i64 x.q]] w _
 have hbW:Below w.heap.size w (w.alloc (.cells #[.int .i64 x.id,.int .i64 x.ow,.int .i64 x.sd,.int .i64 x.pr,.int .i64 x.q] 137)):=(Below.refl _ _).alloc (Nat.le_refl _) _
 have HBW:=hide hbW
 have HC:=hide (isWell_any item x 362 _ _ _ _ (he.out.later hbW).er)
 have HX0:Hid ((w.alloc (.cells #[.int .i64 x.id,.int .i64 x.ow,.int .i64 x.sd,.int .i64 x.pr,.int .i64 x.q] 137)).heap[w.heap.size]? = some (.cells #[.int .i64 x.id,.int .i64 x.ow,.int .i64 x.sd,.int .i64 x.pr,.int .i64 x.q] 137 (0,0))):=heap_alloc_new _ _
 unfold lotV at HC
 clear hbW
 go_enter Tryz.func184,Tryz.ntmps184
 go_wp2_with fail
 refine HC.out.mono ?_
 rintro e w2 ⟨rfl,hb2⟩
 have HB:Hid (Below w.heap.size w w2):=HBW.out.trans (hb2.mono HBW.out.size)
 have hX:w2.heap[w.heap.size]? = some (.cells #[.int .i64 x.id,.int .i64 x.ow,.int .i64 x.sd,.int .i64 x.pr,.int .i64 x.q] 137 (0,0)):=by
  rw [hb2.block _ (lt_of_block HX0.out)];exact HX0.out
 have HX3:=hide hX
 have HP2:=hide (hp.out.lat HB.out)
 clear hb2 HC HBW HX0
 cases hok:Pu.well item x with
 | false =>
  have HA:Hid (Pu.freeC f item x = 1∧Pu.freeF f item x = f):=by
   have e:Pu.freeC f item x = 1:=by unfold Pu.freeC;rw [hok];rfl
   exact ⟨e,by unfold Pu.freeF;rw [e];rfl⟩
  have e1:=(he.out.later HB.out).er.c1
  clear hok hX
  simp only []
  go_wp2
  go_ret
  exact ⟨by rw [HA.out.1];rfl,by rw [HA.out.2];exact HP2.out,Save.of_below HB.out p⟩
 | true =>
  have HOK:=hide hok
  clear hok
  have HQ:=hide (asked_any p item x f w2 HP2.out HOK.out)
  unfold lotV at HQ
  have b0:w2.cell? ⟨w.heap.size,0,none⟩ = some (.int .i64 x.id):=by simp [World.cell?,hX]
  have b1:w2.cell? ⟨w.heap.size,1,none⟩ = some (.int .i64 x.ow):=by simp [World.cell?,hX]
  have b2:w2.cell? ⟨w.heap.size,2,none⟩ = some (.int .i64 x.sd):=by simp [World.cell?,hX]
  have b3:w2.cell? ⟨w.heap.size,3,none⟩ = some (.int .i64 x.pr):=by simp [World.cell?,hX]
  have b4:w2.cell? ⟨w.heap.size,4,none⟩ = some (.int .i64 x.q):=by simp [World.cell?,hX]
  clear hX
  simp only []
  go_wp2_with fail
  refine HQ.out.mono ?_
  rintro e w3 ⟨rfl,hb3⟩
  have HB3:Hid (Below w.heap.size w w3):=HB.out.trans (hb3.mono HB.out.size)
  have HP3:=hide (HP2.out.lat hb3)
  clear hb3 HQ b0 b1 b2 b3 b4
  have hga:=Pu.good_at hg.out HOK.out
  have hmu:=Pu.mu_bounds (Pu.well_ok HOK.out)
  have hlt:=Pu.place_lt HOK.out
  have ch:=HP3.out.cell hlt.1
  have fh:=HP3.out.frozen (Pu.hx item x)
  have HCD:Hid (Pu.freeC f item x = if f (Pu.hx item x) < Pu.mu x then 9 else 0):=by show _ = _;unfold Pu.freeC;rw [if_pos HOK.out]
  have HFD:Hid (Pu.freeF f item x = if Pu.freeC f item x = 0 then Pu.add f (Pu.hx item x) (-(Pu.mu x)) else f):=rfl
  generalize Pu.hx item x = ih at *
  generalize hft:f (Pu.tx item x) = ft at *
  generalize hfh:f ih = fi at *
  generalize Pu.mu x = m at *
  have Hfh:=hide hfh
  clear hft hfh
  obtain ⟨g0,g1,g2⟩:=hga
  obtain ⟨m0,m1⟩:=hmu
  by_cases hpo:fi < m
  ·have HA:Hid (Pu.freeC f item x = 9∧Pu.freeF f item x = f):=by
    have e:Pu.freeC f item x = 9:=by rw [HCD.out,if_pos hpo]
    exact ⟨e,by rw [HFD.out,e];rfl⟩
   have e9:=(he.out.later HB3.out).c9
   simp only []
   go_wp2
   go_ret
   exact ⟨by rw [HA.out.1];rfl,by rw [HA.out.2];exact HP3.out,Save.of_below HB3.out p⟩
  ·have HA:Hid (Pu.freeC f item x = 0∧Pu.freeF f item x = Pu.add f ih (-m)):=by
    have e:Pu.freeC f item x = 0:=by rw [HCD.out,if_neg hpo]
    exact ⟨e,by rw [HFD.out,e];rfl⟩
   simp only []
   go_wp2
   go_ret
   exact ⟨by rw [HA.out.1];rfl,by rw [HA.out.2];exact HP3.out.add _ _ _ (by rw [Hfh.out];omega),(Save.of_below HB3.out p).trans (Save.setCell _ _ _ _)⟩
theorem Save.setRow (w:World) (g:Nat) (c:Array Value):Save w (w.setRow g c) g:=⟨rfl,rfl,rfl,by simp [World.setRow],fun k _ ha=>setRow_other w g k c ha⟩
theorem new_any (w:World):Calls Tryz.prog 116 #[] w fun e w'=>e = .returned (.pointer (some ⟨w.heap.size,0,none⟩))∧w' = w.alloc (.cells (p_row fun _=>0) 131):=by
 have z55:=zero55
 go_enter Tryz.func116,Tryz.ntmps116
 go_wp2
 go_ret
 exact ⟨rfl,rfl⟩
set_option maxHeartbeats 1000000 in
theorem p_copy_any (p:Nat) (f:Nat→Int) (w:World) (hp:Hid (Purse w 131 p f)) :
  Calls Tryz.prog 200 #[.pointer (some ⟨p,0,none⟩)] w fun e w'=>e = .returned (.pointer (some ⟨w.heap.size,0,none⟩))∧Purse w' 131 w.heap.size f∧Below w.heap.size w w':=by
 have z55:=zero55
 have HN:Hid (Purse (w.alloc (.cells (p_row fun _=>0) 131)) 131 w.heap.size (fun _=>0)):=Purse.new w 131 _
 go_enter Tryz.func200,Tryz.ntmps200
 go_wp2_with (first | refine wpList_load55 (B:=p) (f:=f) hp.out rfl (.tmp 5) rfl rfl ?_ | refine wpList_store55 (B:=w.heap.size) f (f:=fun _=>0) HN.out rfl (.tmp 3) (.tmp 6) rfl rfl rfl ?_)
 go_ret
 exact ⟨rfl,HN.out.stored f,Save.below ((Save.of_below ((Below.refl _ _).alloc (Nat.le_refl _) _) _).trans (Save.setRow _ _ _)) (Nat.le_refl _) (Nat.le_refl _)⟩
def giftV (g:Pu.Gift):Value:=.agg #[.int .i64 g.s0,.int .i64 g.s1,.int .i64 g.s2]
def Hs (w:World) (B:Nat) (T:TypeId) (v0 v1 v2 v3 v4 v5 v6 v7:Int):Prop:=w.heap[B]? = some (.cells #[.int .i64 v0,.int .i64 v1,.int .i64 v2,.int .i64 v3,.int .i64 v4,.int .i64 v5,.int .i64 v6,.int .i64 v7] T (0,0))
theorem p_hs_set {w:World} {B j:Nat} {T:TypeId} {a a':Array Value} (v:Value) (h:w.heap[B]? = some (.cells a T (0,0))) (e:a.setIfInBounds j v = a'):(w.setCell ⟨B,j,none⟩ v).heap[B]? = some (.cells a' T (0,0)):=by
 rw [setCell_eq_setRow w B j _ _ _ _ h,e]
 exact setRow_heap w B _ _ _ _ h
theorem p_hs_cell {w:World} {B j:Nat} {T:TypeId} {a:Array Value} {v:Value} (h:w.heap[B]? = some (.cells a T (0,0))) (e:a[j]? = some v):w.cell? ⟨B,j,none⟩ = some v:=by
 rw [cell_of_row w B j _ _ _ h,e]
theorem hs_free {w:World} {B j:Nat} {T:TypeId} {a:Array Value} (h:w.heap[B]? = some (.cells a T (0,0))):w.frozen? ⟨B,j,none⟩ = false:=by
 simp [World.frozen?,h]
theorem put8_give {f:Nat→Int} {c:Nat} (cash s0 s1 s2:Int) (j:Nat) :
  (if j = c * 8 + 7 then f (c * 8 + 7) else if j = c * 8 + 6 then f (c * 8 + 6) else if j = c * 8 + 5 then f (c * 8 + 5) else if j = c * 8 + 4 then f (c * 8 + 4) + s2 else if j = c * 8 + 3 then f (c * 8 + 3) + s1 else if j = c * 8 + 2 then f (c * 8 + 2) + s0 else if j = c * 8 + 1 then f (c * 8 + 1) else if j = c * 8 then f (c * 8) + cash else f j)
   = Pu.add (Pu.add (Pu.add (Pu.add f (c * 8) cash) (c * 8 + 2) s0) (c * 8 + 3) s1) (c * 8 + 4) s2 j:=by
 simp only [Pu.add]
 by_cases h7:j = c * 8 + 7
 ·subst h7;simp
 by_cases h6:j = c * 8 + 6
 ·subst h6;simp
 by_cases h5:j = c * 8 + 5
 ·subst h5;simp
 by_cases h4:j = c * 8 + 4
 ·subst h4;simp
 by_cases h3:j = c * 8 + 3
 ·subst h3;simp
 by_cases h2:j = c * 8 + 2
 ·subst h2;simp
 by_cases h1:j = c * 8 + 1
 ·subst h1;simp
 by_cases h0:j = c * 8
 ·subst h0;simp
 simp [h0,h1,h2,h3,h4,h5,h6,h7]
set_option maxHeartbeats 2000000 in
theorem give_any (p:Nat) (g:Pu.Gift) (f:Nat→Int) (v:Nat→Value) (w:World) (he:Hid (PEr w v)) (hp:Hid (Purse w 131 p f)) (hg:Hid (Pu.Good f)) :
  Calls Tryz.prog 118 #[.pointer (some ⟨p,0,none⟩),.int .i64 g.n,.int .i64 g.cash,giftV g] w fun e w'=>e = .returned (errE v (Pu.giveC f g))∧Purse w' 131 p (Pu.giveF f g)∧Save w w' p:=by
 show Calls Tryz.prog 118 #[.pointer (some ⟨p,0,none⟩),.int .i64 g.n,.int .i64 g.cash,.agg #[.int .i64 g.s0,.int .i64 g.s1,.int .i64 g.s2]] w _
 have hbW:Below w.heap.size w (w.alloc (.cells #[.int .i64 g.s0,.int .i64 g.s1,.int .i64 g.s2] 53)):=(Below.refl _ _).alloc (Nat.le_refl _) _
 have HBW:=hide hbW
 have HI:=hide (isClient_any g.n (w.alloc (.cells #[.int .i64 g.s0,.int .i64 g.s1,.int .i64 g.s2] 53)))
 have HN:=hide (below_any g.cash g.s0 g.s1 g.s2 (w.alloc (.cells #[.int .i64 g.s0,.int .i64 g.s1,.int .i64 g.s2] 53)))
 have HX0:Hid ((w.alloc (.cells #[.int .i64 g.s0,.int .i64 g.s1,.int .i64 g.s2] 53)).heap[w.heap.size]? = some (.cells #[.int .i64 g.s0,.int .i64 g.s1,.int .i64 g.s2] 53 (0,0))):=heap_alloc_new _ _
 clear hbW
 cases hin:Wi.withinB g.n 0 5 with
 | false =>
  have HA:Hid (Pu.giveC f g = 1∧Pu.giveF f g = f):=by
   have e:Pu.giveC f g = 1:=by unfold Pu.giveC Pu.Gift.fine;rw [hin];rfl
   exact ⟨e,by unfold Pu.giveF;rw [e];rfl⟩
  have e1:=(he.out.later HBW.out).er.c1
  rw [hin] at HI
  clear hin
  go_enter Tryz.func118,Tryz.ntmps118
  go_wp2_with fail
  refine HI.out.mono ?_
  rintro e w2 ⟨rfl,rfl⟩
  simp only []
  go_wp2
  go_ret
  exact ⟨by rw [HA.out.1];rfl,by rw [HA.out.2];exact hp.out.lat HBW.out,Save.of_below HBW.out p⟩
 | true =>
  rw [hin] at HI
  have Hin:=hide hin
  clear hin
  cases hng:g.neg with
  | true =>
   have HA:Hid (Pu.giveC f g = 1∧Pu.giveF f g = f):=by
    have e:Pu.giveC f g = 1:=by unfold Pu.giveC Pu.Gift.fine;rw [hng,Hin.out];rfl
    exact ⟨e,by unfold Pu.giveF;rw [e];rfl⟩
   rw [show (decide (g.s0 < 0) || decide (g.s1 < 0) || decide (g.s2 < 0) || decide (g.cash < 0)) = true from hng] at HN
   clear hng
   go_enter Tryz.func118,Tryz.ntmps118
   go_wp2_with fail
   refine HI.out.mono ?_
   rintro e w2 ⟨rfl,rfl⟩
   simp only []
   go_wp2_with fail
   refine HN.out.mono ?_
   rintro e w3 ⟨rfl,hb3⟩
   have HB3:Hid (Below w.heap.size w w3):=HBW.out.trans (hb3.mono HBW.out.size)
   have e1:=(he.out.later HB3.out).er.c1
   clear hb3
   simp only []
   go_wp2
   go_ret
   exact ⟨by rw [HA.out.1];rfl,by rw [HA.out.2];exact hp.out.lat HB3.out,Save.of_below HB3.out p⟩
  | false =>
   rw [show (decide (g.s0 < 0) || decide (g.s1 < 0) || decide (g.s2 < 0) || decide (g.cash < 0)) = false from hng] at HN
   have HF:Hid (g.fine = true):=by show _ = _;unfold Pu.Gift.fine;rw [Hin.out,hng];rfl
   obtain ⟨c,hc,hc6⟩:∃ c:Nat,g.n = c∧c < 6:=by
    have:=Hin.out
    simp only [Wi.withinB,Bool.and_eq_true,decide_eq_true_eq] at this
    exact ⟨g.n.toNat,by omega,by omega⟩
   have hpos:0≤g.s0∧0≤g.s1∧0≤g.s2∧0≤g.cash:=by
    simp only [Pu.Gift.neg,Bool.or_eq_false_iff,decide_eq_false_iff_not] at hng
    omega
   clear hng
   obtain ⟨p0,p1,p2,p3⟩:=hpos
   have hci:(c:Int) < 6:=by omega
   have g1:=hg.out.cash c hc6
   have g2:=hg.out.stock c 0 hc6 (by decide)
   have g3:=hg.out.stock c 1 hc6 (by decide)
   have g4:=hg.out.stock c 2 hc6 (by decide)
   simp only [Nat.add_zero,Nat.add_assoc,Nat.reduceAdd] at g1 g2 g3 g4
   have HP2:=hp.out.lat HBW.out
   rw [hc] at HI ⊢
   have i0:=@ix0
   have i1:=@ix1
   have i2:=@ix2
   go_enter Tryz.func118,Tryz.ntmps118
   go_wp2_with fail
   refine HI.out.mono ?_
   rintro e w2 ⟨rfl,rfl⟩
   simp only []
   go_wp2_with fail
   refine HN.out.mono ?_
   rintro e w3 ⟨rfl,hb3⟩
   have HB3:Hid (Below w.heap.size w w3):=HBW.out.trans (hb3.mono HBW.out.size)
   have hX:w3.heap[w.heap.size]? = some (.cells #[.int .i64 g.s0,.int .i64 g.s1,.int .i64 g.s2] 53 (0,0)):=by
    rw [hb3.block _ (lt_of_block HX0.out)];exact HX0.out
   have hP3:=hp.out.lat HB3.out
   have HP3:=hide hP3
   have x0:w3.cell? ⟨w.heap.size,0,none⟩ = some (.int .i64 g.s0):=by simp [World.cell?,hX]
   have x1:w3.cell? ⟨w.heap.size,1,none⟩ = some (.int .i64 g.s1):=by simp [World.cell?,hX]
   have x2:w3.cell? ⟨w.heap.size,2,none⟩ = some (.int .i64 g.s2):=by simp [World.cell?,hX]
   have HX:=hide (And.intro x0 (And.intro x1 x2))
   clear x0 x1 x2
   have hwl:w.heap.size < w3.heap.size:=lt_of_block hX
   have hpl:p < w3.heap.size:=hP3.lt
   have HPU:Hid (∀ w' a0 a2 a3 a4,Purse w' 131 p f→a0 = f (c * 8) + g.cash→a2 = f (c * 8 + 2) + g.s0→a3 = f (c * 8 + 3) + g.s1→a4 = f (c * 8 + 4) + g.s2 →
     Purse ((((((((w'.setCell ⟨p,c * 8,none⟩ (.int .i64 a0)).setCell ⟨p,c * 8 + 1,none⟩ (.int .i64 (f (c * 8 + 1)))).setCell ⟨p,c * 8 + 2,none⟩ (.int .i64 a2)).setCell ⟨p,c * 8 + 3,none⟩ (.int .i64 a3)).setCell ⟨p,c * 8 + 4,none⟩ (.int .i64 a4)).setCell ⟨p,c * 8 + 5,none⟩ (.int .i64 (f (c * 8 + 5)))).setCell ⟨p,c * 8 + 6,none⟩ (.int .i64 (f (c * 8 + 6)))).setCell ⟨p,c * 8 + 7,none⟩ (.int .i64 (f (c * 8 + 7)))) 131 p
      (Pu.add (Pu.add (Pu.add (Pu.add f (c * 8) g.cash) (c * 8 + 2) g.s0) (c * 8 + 3) g.s1) (c * 8 + 4) g.s2)):=by
    intro w' a0 a2 a3 a4 h e0 e2 e3 e4
    subst e0 e2 e3 e4
    exact (h.put8 c _ _ _ _ _ _ _ _).congr fun j _=>put8_give _ _ _ _ j
   have HOV:Hid (g.over f = (decide (1099511627776 - f (c * 8) < g.cash) || decide (1073741824 - f (c * 8 + 2) < g.s0) || decide (1073741824 - f (c * 8 + 3) < g.s1) || decide (1073741824 - f (c * 8 + 4) < g.s2))):=by
    show _ = _;unfold Pu.Gift.over;rw [hc,Int.toNat_natCast]
   have HFU:Hid (g.over f = true→Pu.giveC f g = 7∧Pu.giveF f g = f):=fun h=>by
    have e:Pu.giveC f g = 7:=by unfold Pu.giveC;rw [if_pos HF.out,if_pos h]
    exact ⟨e,by unfold Pu.giveF;rw [e];rfl⟩
   have HZE:Hid (g.over f = false→Pu.giveC f g = 0∧Pu.giveF f g = Pu.add (Pu.add (Pu.add (Pu.add f (c * 8) g.cash) (c * 8 + 2) g.s0) (c * 8 + 3) g.s1) (c * 8 + 4) g.s2):=fun h=>by
    have e:Pu.giveC f g = 0:=by unfold Pu.giveC;rw [if_pos HF.out,if_neg (by rw [h];simp)]
    exact ⟨e,by unfold Pu.giveF;rw [if_pos e,hc,Int.toNat_natCast]⟩
   have HC8:Hid (∀ w',Below w3.heap.size w3 w'→(∀ i,i < 48→w'.cell? ⟨p,i,none⟩ = some (.int .i64 (f i)))∧∀ i,w'.frozen? ⟨p,i,none⟩ = false):=fun w' hb=>⟨fun i hi=>(hP3.lat hb).cell hi,fun i=>(hP3.lat hb).frozen i⟩
   have hcl:=(HC8.out w3 (Below.refl _ _)).1
   have c0:=hcl (c * 8) (by omega)
   have c1:=hcl (c * 8 + 1) (by omega)
   have c2:=hcl (c * 8 + 2) (by omega)
   have c3:=hcl (c * 8 + 3) (by omega)
   have c4:=hcl (c * 8 + 4) (by omega)
   have c5:=hcl (c * 8 + 5) (by omega)
   have c6:=hcl (c * 8 + 6) (by omega)
   have c7:=hcl (c * 8 + 7) (by omega)
   clear hb3 hX hP3 HI HN HX0 HP2 hcl
   generalize f (c * 8) = u0 at *
   generalize f (c * 8 + 1) = u1 at *
   generalize f (c * 8 + 2) = u2 at *
   generalize f (c * 8 + 3) = u3 at *
   generalize f (c * 8 + 4) = u4 at *
   generalize f (c * 8 + 5) = u5 at *
   generalize f (c * 8 + 6) = u6 at *
   generalize f (c * 8 + 7) = u7 at *
   generalize hca:g.cash = ca at *
   generalize hs0:g.s0 = s0 at *
   generalize hs1:g.s1 = s1 at *
   generalize hs2:g.s2 = s2 at *
   clear hca hs0 hs1 hs2
   have HH:Hid ((w3.alloc (.cells #[.int .i64 u0,.int .i64 u1,.int .i64 u2,.int .i64 u3,.int .i64 u4,.int .i64 u5,.int .i64 u6,.int .i64 u7] 65)).heap[w3.heap.size]? = some (.cells #[.int .i64 u0,.int .i64 u1,.int .i64 u2,.int .i64 u3,.int .i64 u4,.int .i64 u5,.int .i64 u6,.int .i64 u7] 65 (0,0))):=heap_alloc_new _ _
   have HBB:Hid (Below w3.heap.size w3 (w3.alloc (.cells #[.int .i64 u0,.int .i64 u1,.int .i64 u2,.int .i64 u3,.int .i64 u4,.int .i64 u5,.int .i64 u6,.int .i64 u7] 65))):=(Below.refl _ _).alloc (Nat.le_refl _) _
   simp only []
   go_wp2_with fail
   clear c0 c1 c2 c3 c4 c5 c6 c7
   generalize w3.alloc (.cells #[.int .i64 u0,.int .i64 u1,.int .i64 u2,.int .i64 u3,.int .i64 u4,.int .i64 u5,.int .i64 u6,.int .i64 u7] 65) = w4 at *
   by_cases o0:1099511627776 - u0 < ca
   ·have HO:Hid (g.over f = true):=by show _ = _;rw [HOV.out];simp [o0]
    refine (grow_no w3.heap.size 0 u0 ca 1099511627776 w4 (p_hs_cell HH.out rfl) (by omega) (by omega) (by omega) o0).mono ?_
    rintro e wz ⟨rfl,rfl⟩
    have HBz:Hid (Below w.heap.size w wz):=HB3.out.trans (HBB.out.mono HB3.out.size)
    have e7:=(he.out.later HBz.out).er.c7
    simp only []
    go_wp2
    go_ret
    exact ⟨by rw [(HFU.out HO.out).1];rfl,by rw [(HFU.out HO.out).2];exact HP3.out.lat HBB.out,Save.of_below HBz.out p⟩
   refine (grow_yes w3.heap.size 0 u0 ca 1099511627776 w4 (p_hs_cell HH.out rfl) (hs_free HH.out) (by omega) (by omega) (by omega) (by omega) o0).mono ?_
   rintro e w5 ⟨rfl,hw5⟩
   have HH0:Hid (w5.heap[w3.heap.size]? = some (.cells #[.int .i64 (u0 + ca),.int .i64 u1,.int .i64 u2,.int .i64 u3,.int .i64 u4,.int .i64 u5,.int .i64 u6,.int .i64 u7] 65 (0,0))):=by rw [hw5];exact p_hs_set _ HH.out rfl
   have HBB0:Hid (Below w3.heap.size w3 w5):=by rw [hw5];exact HBB.out.setCell (Nat.le_refl _) _
   clear HH HBB hw5
   rename Hid (w5.heap[w3.heap.size]? = _)=>HH
   rename Hid (Below w3.heap.size w3 w5)=>HBB
   simp only []
   have x0:=cell_later HBB.out HX.out.1
   have x1:=cell_later HBB.out HX.out.2.1
   have x2:=cell_later HBB.out HX.out.2.2
   go_wp2_with fail
   clear x0 x1 x2
   refine wp_loop_rounds 4 ?_
   rw [rounds_succ]
   go_wp2_with fail
   by_cases o1:1073741824 - u2 < s0
   ·have HO:Hid (g.over f = true):=by show _ = _;rw [HOV.out];simp [o1]
    refine (grow_no w3.heap.size 2 u2 s0 1073741824 w5 (p_hs_cell HH.out rfl) (by omega) (by omega) (by omega) o1).mono ?_
    rintro e wz ⟨rfl,rfl⟩
    have HBz:Hid (Below w.heap.size w wz):=HB3.out.trans (HBB.out.mono HB3.out.size)
    have e7:=(he.out.later HBz.out).er.c7
    simp only []
    go_wp2
    go_ret
    exact ⟨by rw [(HFU.out HO.out).1];rfl,by rw [(HFU.out HO.out).2];exact HP3.out.lat HBB.out,Save.of_below HBz.out p⟩
   refine (grow_yes w3.heap.size 2 u2 s0 1073741824 w5 (p_hs_cell HH.out rfl) (hs_free HH.out) (by omega) (by omega) (by omega) (by omega) o1).mono ?_
   rintro e w6 ⟨rfl,hw6⟩
   have HH1:Hid (w6.heap[w3.heap.size]? = some (.cells #[.int .i64 (u0 + ca),.int .i64 u1,.int .i64 (u2 + s0),.int .i64 u3,.int .i64 u4,.int .i64 u5,.int .i64 u6,.int .i64 u7] 65 (0,0))):=by rw [hw6];exact p_hs_set _ HH.out rfl
   have HBB1:Hid (Below w3.heap.size w3 w6):=by rw [hw6];exact HBB.out.setCell (Nat.le_refl _) _
   clear HH HBB hw6
   rename Hid (w6.heap[w3.heap.size]? = _)=>HH
   rename Hid (Below w3.heap.size w3 w6)=>HBB
   simp only []
   go_wp2_with fail
   rw [rounds_succ]
   go_wp2_with fail
   by_cases o2:1073741824 - u3 < s1
   ·have HO:Hid (g.over f = true):=by show _ = _;rw [HOV.out];simp [o2]
    refine (grow_no w3.heap.size 3 u3 s1 1073741824 w6 (p_hs_cell HH.out rfl) (by omega) (by omega) (by omega) o2).mono ?_
    rintro e wz ⟨rfl,rfl⟩
    have HBz:Hid (Below w.heap.size w wz):=HB3.out.trans (HBB.out.mono HB3.out.size)
    have e7:=(he.out.later HBz.out).er.c7
    simp only []
    go_wp2
    go_ret
    exact ⟨by rw [(HFU.out HO.out).1];rfl,by rw [(HFU.out HO.out).2];exact HP3.out.lat HBB.out,Save.of_below HBz.out p⟩
   refine (grow_yes w3.heap.size 3 u3 s1 1073741824 w6 (p_hs_cell HH.out rfl) (hs_free HH.out) (by omega) (by omega) (by omega) (by omega) o2).mono ?_
   rintro e w7 ⟨rfl,hw7⟩
   have HH2:Hid (w7.heap[w3.heap.size]? = some (.cells #[.int .i64 (u0 + ca),.int .i64 u1,.int .i64 (u2 + s0),.int .i64 (u3 + s1),.int .i64 u4,.int .i64 u5,.int .i64 u6,.int .i64 u7] 65 (0,0))):=by rw [hw7];exact p_hs_set _ HH.out rfl
   have HBB2:Hid (Below w3.heap.size w3 w7):=by rw [hw7];exact HBB.out.setCell (Nat.le_refl _) _
   clear HH HBB hw7
   rename Hid (w7.heap[w3.heap.size]? = _)=>HH
   rename Hid (Below w3.heap.size w3 w7)=>HBB
   simp only []
   go_wp2_with fail
   rw [rounds_succ]
   go_wp2_with fail
   by_cases o3:1073741824 - u4 < s2
   ·have HO:Hid (g.over f = true):=by show _ = _;rw [HOV.out];simp [o3]
    refine (grow_no w3.heap.size 4 u4 s2 1073741824 w7 (p_hs_cell HH.out rfl) (by omega) (by omega) (by omega) o3).mono ?_
    rintro e wz ⟨rfl,rfl⟩
    have HBz:Hid (Below w.heap.size w wz):=HB3.out.trans (HBB.out.mono HB3.out.size)
    have e7:=(he.out.later HBz.out).er.c7
    simp only []
    go_wp2
    go_ret
    exact ⟨by rw [(HFU.out HO.out).1];rfl,by rw [(HFU.out HO.out).2];exact HP3.out.lat HBB.out,Save.of_below HBz.out p⟩
   refine (grow_yes w3.heap.size 4 u4 s2 1073741824 w7 (p_hs_cell HH.out rfl) (hs_free HH.out) (by omega) (by omega) (by omega) (by omega) o3).mono ?_
   rintro e w8 ⟨rfl,hw8⟩
   have HH3:Hid (w8.heap[w3.heap.size]? = some (.cells #[.int .i64 (u0 + ca),.int .i64 u1,.int .i64 (u2 + s0),.int .i64 (u3 + s1),.int .i64 (u4 + s2),.int .i64 u5,.int .i64 u6,.int .i64 u7] 65 (0,0))):=by rw [hw8];exact p_hs_set _ HH.out rfl
   have HBB3:Hid (Below w3.heap.size w3 w8):=by rw [hw8];exact HBB.out.setCell (Nat.le_refl _) _
   clear HH HBB hw8
   rename Hid (w8.heap[w3.heap.size]? = _)=>HH
   rename Hid (Below w3.heap.size w3 w8)=>HBB
   simp only []
   go_wp2_with fail
   rw [rounds_succ]
   go_wp2_with fail
   have HO:Hid (g.over f = false):=by show _ = _;rw [HOV.out];simp [o0,o1,o2,o3]
   have d0:w8.cell? ⟨w3.heap.size,0,none⟩ = some (.int .i64 (u0 + ca)):=p_hs_cell HH.out rfl
   have d1:w8.cell? ⟨w3.heap.size,1,none⟩ = some (.int .i64 (u1)):=p_hs_cell HH.out rfl
   have d2:w8.cell? ⟨w3.heap.size,2,none⟩ = some (.int .i64 (u2 + s0)):=p_hs_cell HH.out rfl
   have d3:w8.cell? ⟨w3.heap.size,3,none⟩ = some (.int .i64 (u3 + s1)):=p_hs_cell HH.out rfl
   have d4:w8.cell? ⟨w3.heap.size,4,none⟩ = some (.int .i64 (u4 + s2)):=p_hs_cell HH.out rfl
   have d5:w8.cell? ⟨w3.heap.size,5,none⟩ = some (.int .i64 (u5)):=p_hs_cell HH.out rfl
   have d6:w8.cell? ⟨w3.heap.size,6,none⟩ = some (.int .i64 (u6)):=p_hs_cell HH.out rfl
   have d7:w8.cell? ⟨w3.heap.size,7,none⟩ = some (.int .i64 (u7)):=p_hs_cell HH.out rfl
   have hfz:=fun i=>(HC8.out _ HBB.out).2 i
   have hcl:=(HC8.out _ HBB.out).1
   have c0:=hcl (c * 8) (by omega)
   have c1:=hcl (c * 8 + 1) (by omega)
   have c2:=hcl (c * 8 + 2) (by omega)
   have c3:=hcl (c * 8 + 3) (by omega)
   have c4:=hcl (c * 8 + 4) (by omega)
   have c5:=hcl (c * 8 + 5) (by omega)
   have c6:=hcl (c * 8 + 6) (by omega)
   have c7:=hcl (c * 8 + 7) (by omega)
   have z0:=hfz (c * 8)
   have z1:=hfz (c * 8 + 1)
   have z2:=hfz (c * 8 + 2)
   have z3:=hfz (c * 8 + 3)
   have z4:=hfz (c * 8 + 4)
   have z5:=hfz (c * 8 + 5)
   have z6:=hfz (c * 8 + 6)
   have z7:=hfz (c * 8 + 7)
   clear hfz hcl
   refine region_quiet_tail 6 (by kernel_rfl) (by kernel_rfl) ?_
   simp only [List.take_succ_cons,List.take_zero,List.drop_succ_cons,List.drop_zero]
   repeat (first | go_big_quiet_step (fail) | quiet_step (fail))
   refine wpQuiet_nil ?_
   intro _ hw'
   obtain ⟨nq,hw''⟩:=hw'
   subst hw''
   go_wp2
   go_ret
   have hb9:Below w.heap.size w (w8.drewN nq):=(HB3.out.trans (HBB.out.mono HB3.out.size)).trans ((blw_drew nq).mono (HB3.out.trans (HBB.out.mono HB3.out.size)).size)
   refine ⟨by rw [(HZE.out HO.out).1];rfl,by rw [(HZE.out HO.out).2];exact HPU.out _ _ _ _ _ ((HP3.out.lat HBB.out).drew nq) rfl rfl rfl rfl,?_⟩
   exact ((((((((Save.of_below hb9 p).trans (Save.setCell _ _ _ _)).trans (Save.setCell _ _ _ _)).trans (Save.setCell _ _ _ _)).trans (Save.setCell _ _ _ _)).trans (Save.setCell _ _ _ _)).trans (Save.setCell _ _ _ _)).trans (Save.setCell _ _ _ _)).trans (Save.setCell _ _ _ _)
structure TEr (w:World) (v:Nat→Value):Prop where
 per:PEr w v
 c2:w.cell? ⟨3,0,none⟩ = some (.iface 362 (v 2))
 c11:w.cell? ⟨11,0,none⟩ = some (.iface 362 (v 11))
theorem TEr.later {w w':World} {v:Nat→Value} (h:TEr w v) (hb:Below w.heap.size w w'):TEr w' v:=⟨h.per.later hb,cell_later hb h.c2,cell_later hb h.c11⟩
def lotA (x:Cv.Lot):Array Value:=#[.int .i64 x.id,.int .i64 x.ow,.int .i64 x.sd,.int .i64 x.pr,.int .i64 x.q]
set_option maxHeartbeats 2000000 in
theorem check_any (item:Int) (b s:Cv.Lot) (price qty:Int) (v:Nat→Value) (w:World) (he:Hid (TEr w v)) :
  Calls Tryz.prog 250 #[.int .i64 item,lotV b,lotV s,.int .i64 price,.int .i64 qty] w fun e w'=>e = .returned (errE v (Pu.tchk item b s price qty))∧Below w.heap.size w w':=by
 show Calls Tryz.prog 250 #[.int .i64 item,.agg #[.int .i64 b.id,.int .i64 b.ow,.int .i64 b.sd,.int .i64 b.pr,.int .i64 b.q],.agg #[.int .i64 s.id,.int .i64 s.ow,.int .i64 s.sd,.int .i64 s.pr,.int .i64 s.q],.int .i64 price,.int .i64 qty] w _
 obtain ⟨W,hWd⟩:∃ W,(w.alloc (.cells #[.int .i64 b.id,.int .i64 b.ow,.int .i64 b.sd,.int .i64 b.pr,.int .i64 b.q] 137)).alloc (.cells #[.int .i64 s.id,.int .i64 s.ow,.int .i64 s.sd,.int .i64 s.pr,.int .i64 s.q] 137) = W:=⟨_,rfl⟩
 have hb1:Below w.heap.size w (w.alloc (.cells #[.int .i64 b.id,.int .i64 b.ow,.int .i64 b.sd,.int .i64 b.pr,.int .i64 b.q] 137)):=(Below.refl _ _).alloc (Nat.le_refl _) _
 have hb2:Below w.heap.size w W:=by rw [← hWd];exact hb1.alloc hb1.size _
 have hX0:W.heap[w.heap.size]? = some (.cells (lotA b) 137 (0,0)):=by
  rw [← hWd]
  exact (Below.heap_alloc _ _ _ (by simp)).trans (heap_alloc_new _ _)
 have hY0:W.heap[w.heap.size + 1]? = some (.cells (lotA s) 137 (0,0)):=by
  rw [← hWd]
  have:=heap_alloc_new (w.alloc (.cells #[.int .i64 b.id,.int .i64 b.ow,.int .i64 b.sd,.int .i64 b.pr,.int .i64 b.q] 137)) (.cells #[.int .i64 s.id,.int .i64 s.ow,.int .i64 s.sd,.int .i64 s.pr,.int .i64 s.q] 137)
  rw [show (w.alloc (.cells #[.int .i64 b.id,.int .i64 b.ow,.int .i64 b.sd,.int .i64 b.pr,.int .i64 b.q] 137)).heap.size = w.heap.size + 1 by simp] at this
  exact this
 have HX0:=hide hX0;have HY0:=hide hY0;have HBW:=hide hb2
 have HC:=hide (isWell_any item b 362 _ _ _ W (he.out.later hb2).per.er)
 unfold lotV at HC
 have HWd:=hide hWd
 clear hb1 hb2 hX0 hY0 hWd
 go_enter Tryz.func250,Tryz.ntmps250
 go_wp2_with fail
 rw [HWd.out]
 clear HWd
 refine HC.out.mono ?_
 rintro e w2 ⟨rfl,hb2⟩
 have HB:Hid (Below w.heap.size w w2):=HBW.out.trans (hb2.mono HBW.out.size)
 have HX:Hid (w2.heap[w.heap.size]? = some (.cells (lotA b) 137 (0,0))):=by show _ = _;rw [hb2.block _ (lt_of_block HX0.out)];exact HX0.out
 have HY:Hid (w2.heap[w.heap.size + 1]? = some (.cells (lotA s) 137 (0,0))):=by show _ = _;rw [hb2.block _ (lt_of_block HY0.out)];exact HY0.out
 clear hb2 HC HBW HX0 HY0
 cases hwb:Pu.well item b with
 | false =>
  have HA:Hid (Pu.tchk item b s price qty = 1):=by show _ = _;unfold Pu.tchk;rw [if_neg (by rw [hwb];simp)]
  have e1:=(he.out.later HB.out).per.er.c1
  clear hwb
  simp only []
  go_wp2
  go_ret
  exact ⟨by rw [HA.out];rfl,HB.out⟩
 | true =>
  have Hwb:=hide hwb
  clear hwb
  have HC:=hide (isWell_any item s 362 _ _ _ w2 (he.out.later HB.out).per.er)
  unfold lotV at HC
  have s0:w2.cell? ⟨w.heap.size + 1,0,none⟩ = some (.int .i64 s.id):=p_hs_cell HY.out rfl
  have s1:w2.cell? ⟨w.heap.size + 1,1,none⟩ = some (.int .i64 s.ow):=p_hs_cell HY.out rfl
  have s2:w2.cell? ⟨w.heap.size + 1,2,none⟩ = some (.int .i64 s.sd):=p_hs_cell HY.out rfl
  have s3:w2.cell? ⟨w.heap.size + 1,3,none⟩ = some (.int .i64 s.pr):=p_hs_cell HY.out rfl
  have s4:w2.cell? ⟨w.heap.size + 1,4,none⟩ = some (.int .i64 s.q):=p_hs_cell HY.out rfl
  simp only []
  go_wp2_with fail
  refine HC.out.mono ?_
  rintro e w3 ⟨rfl,hb3⟩
  have HB3:Hid (Below w.heap.size w w3):=HB.out.trans (hb3.mono HB.out.size)
  have HX3:Hid (w3.heap[w.heap.size]? = some (.cells (lotA b) 137 (0,0))):=by show _ = _;rw [hb3.block _ (lt_of_block HX.out)];exact HX.out
  have HY3:Hid (w3.heap[w.heap.size + 1]? = some (.cells (lotA s) 137 (0,0))):=by show _ = _;rw [hb3.block _ (lt_of_block HY.out)];exact HY.out
  clear hb3 HC HX HY s0 s1 s2 s3 s4 HB
  have HE:=hide (he.out.later HB3.out)
  cases hws:Pu.well item s with
  | false =>
   have HA:Hid (Pu.tchk item b s price qty = 1):=by show _ = _;unfold Pu.tchk;rw [if_neg (by rw [hws];simp)]
   have e1:=HE.out.per.er.c1
   clear hws
   simp only []
   go_wp2
   go_ret
   exact ⟨by rw [HA.out];rfl,HB3.out⟩
  | true =>
   have Hws:=hide hws
   clear hws
   have HT:Hid (Pu.tchk item b s price qty = if b.sd = 0∧s.sd = 1 then (if (1≤price∧price≤1000)∧1≤qty∧qty≤b.q∧qty≤s.q then (if s.pr≤price∧price≤b.pr then 0 else 11) else 1) else 2):=by show _ = _;unfold Pu.tchk;rw [if_pos ⟨Hwb.out,Hws.out⟩]
   have hbq:=(Cv.ok_bounds (Pu.well_ok Hwb.out)).2.2.2.2
   have hsq:=(Cv.ok_bounds (Pu.well_ok Hws.out)).2.2.2.2
   have b2:w3.cell? ⟨w.heap.size,2,none⟩ = some (.int .i64 b.sd):=p_hs_cell HX3.out rfl
   have b3:w3.cell? ⟨w.heap.size,3,none⟩ = some (.int .i64 b.pr):=p_hs_cell HX3.out rfl
   have b4:w3.cell? ⟨w.heap.size,4,none⟩ = some (.int .i64 b.q):=p_hs_cell HX3.out rfl
   have s2:w3.cell? ⟨w.heap.size + 1,2,none⟩ = some (.int .i64 s.sd):=p_hs_cell HY3.out rfl
   have s3:w3.cell? ⟨w.heap.size + 1,3,none⟩ = some (.int .i64 s.pr):=p_hs_cell HY3.out rfl
   have s4:w3.cell? ⟨w.heap.size + 1,4,none⟩ = some (.int .i64 s.q):=p_hs_cell HY3.out rfl
   obtain ⟨R,hR⟩:∃ R,Pu.tchk item b s price qty = R:=⟨_,rfl⟩
   have HR:=hide hR
   rw [hR] at HT
   clear hR
   generalize b.sd = bsd at *
   generalize b.pr = bpr at *
   generalize b.q = bq at *
   generalize s.sd = ssd at *
   generalize s.pr = spr at *
   generalize s.q = sq at *
   have c1:=HE.out.per.er.c1
   have c2:=HE.out.c2
   have c11:=HE.out.c11
   by_cases hbs:bsd = 0
   ·by_cases hss:ssd = 1
    ·have HT2:Hid (R = if (1≤price∧price≤1000)∧1≤qty∧qty≤bq∧qty≤sq then (if spr≤price∧price≤bpr then 0 else 11) else 1):=by show _ = _;rw [HT.out,if_pos ⟨hbs,hss⟩]
     subst hbs hss
     clear HT
     have HP:=hide (within_any price 1 1000 w3)
     cases hpr:Wi.withinB price 1 1000 with
     | false =>
      rw [hpr] at HP
      have HA:Hid (R = 1):=by
       show _ = _
       rw [HT2.out,if_neg]
       rintro ⟨h,_⟩
       rw [show Wi.withinB price 1 1000 = true by simp [Wi.withinB,h.1,h.2]] at hpr
       cases hpr
      clear hpr
      simp only []
      go_wp2_with fail
      refine HP.out.mono ?_
      rintro e w4 ⟨rfl,rfl⟩
      simp only []
      go_wp2
      go_ret
      exact ⟨by rw [HR.out,HA.out];rfl,HB3.out⟩
     | true =>
      rw [hpr] at HP
      have Hpr:Hid (1≤price∧price≤1000):=by
       have:=hpr
       simp only [Wi.withinB,Bool.and_eq_true,decide_eq_true_eq] at this
       exact this
      clear hpr
      simp only []
      go_wp2_with fail
      refine HP.out.mono ?_
      rintro e w4 ⟨rfl,rfl⟩
      simp only []
      by_cases hmn:sq < bq
      ·cases hqr:Wi.withinB qty 1 sq with
       | false =>
        have HA:Hid (R = 1):=by
         show _ = _
         rw [HT2.out,if_neg]
         rintro ⟨_,h1,h2,h3⟩
         rw [show Wi.withinB qty 1 sq = true by simp only [Wi.withinB,Bool.and_eq_true,decide_eq_true_eq];omega] at hqr
         cases hqr
        have HQ:=hide (within_any qty 1 sq w4)
        rw [hqr] at HQ
        clear hqr
        go_wp2_with fail
        refine HQ.out.mono ?_
        rintro e w5 ⟨rfl,rfl⟩
        simp only []
        go_wp2
        go_ret
        exact ⟨by rw [HR.out,HA.out];rfl,HB3.out⟩
       | true =>
        have HT3:Hid (R = if spr≤price∧price≤bpr then 0 else 11):=by
         have:=hqr
         simp only [Wi.withinB,Bool.and_eq_true,decide_eq_true_eq] at this
         show _ = _
         rw [HT2.out,if_pos ⟨Hpr.out,by omega,by omega,by omega⟩]
        have HQ:=hide (within_any qty 1 sq w4)
        rw [hqr] at HQ
        clear hqr
        go_wp2_with fail
        refine HQ.out.mono ?_
        rintro e w5 ⟨rfl,rfl⟩
        simp only []
        have HO:=hide (within_any price spr bpr w5)
        cases hor:Wi.withinB price spr bpr with
        | false =>
         have HA:Hid (R = 11):=by
          show _ = _
          rw [HT3.out,if_neg]
          rintro ⟨h1,h2⟩
          rw [show Wi.withinB price spr bpr = true by simp [Wi.withinB,h1,h2]] at hor
          cases hor
         rw [hor] at HO
         clear hor
         go_wp2_with fail
         refine HO.out.mono ?_
         rintro e w6 ⟨rfl,rfl⟩
         simp only []
         go_wp2
         go_ret
         exact ⟨by rw [HR.out,HA.out];rfl,HB3.out⟩
        | true =>
         have HA:Hid (R = 0):=by
          have:=hor
          simp only [Wi.withinB,Bool.and_eq_true,decide_eq_true_eq] at this
          show _ = _
          rw [HT3.out,if_pos this]
         rw [hor] at HO
         clear hor
         go_wp2_with fail
         refine HO.out.mono ?_
         rintro e w6 ⟨rfl,rfl⟩
         simp only []
         go_wp2
         go_ret
         exact ⟨by rw [HR.out,HA.out];rfl,HB3.out⟩
      ·have hmn':bq≤sq:=by omega
       cases hqr:Wi.withinB qty 1 bq with
       | false =>
        have HA:Hid (R = 1):=by
         show _ = _
         rw [HT2.out,if_neg]
         rintro ⟨_,h1,h2,h3⟩
         rw [show Wi.withinB qty 1 bq = true by simp only [Wi.withinB,Bool.and_eq_true,decide_eq_true_eq];omega] at hqr
         cases hqr
        have HQ:=hide (within_any qty 1 bq w4)
        rw [hqr] at HQ
        clear hqr
        go_wp2_with fail
        refine HQ.out.mono ?_
        rintro e w5 ⟨rfl,rfl⟩
        simp only []
        go_wp2
        go_ret
        exact ⟨by rw [HR.out,HA.out];rfl,HB3.out⟩
       | true =>
        have HT3:Hid (R = if spr≤price∧price≤bpr then 0 else 11):=by
         have:=hqr
         simp only [Wi.withinB,Bool.and_eq_true,decide_eq_true_eq] at this
         show _ = _
         rw [HT2.out,if_pos ⟨Hpr.out,by omega,by omega,by omega⟩]
        have HQ:=hide (within_any qty 1 bq w4)
        rw [hqr] at HQ
        clear hqr
        go_wp2_with fail
        refine HQ.out.mono ?_
        rintro e w5 ⟨rfl,rfl⟩
        simp only []
        have HO:=hide (within_any price spr bpr w5)
        cases hor:Wi.withinB price spr bpr with
        | false =>
         have HA:Hid (R = 11):=by
          show _ = _
          rw [HT3.out,if_neg]
          rintro ⟨h1,h2⟩
          rw [show Wi.withinB price spr bpr = true by simp [Wi.withinB,h1,h2]] at hor
          cases hor
         rw [hor] at HO
         clear hor
         go_wp2_with fail
         refine HO.out.mono ?_
         rintro e w6 ⟨rfl,rfl⟩
         simp only []
         go_wp2
         go_ret
         exact ⟨by rw [HR.out,HA.out];rfl,HB3.out⟩
        | true =>
         have HA:Hid (R = 0):=by
          have:=hor
          simp only [Wi.withinB,Bool.and_eq_true,decide_eq_true_eq] at this
          show _ = _
          rw [HT3.out,if_pos this]
         rw [hor] at HO
         clear hor
         go_wp2_with fail
         refine HO.out.mono ?_
         rintro e w6 ⟨rfl,rfl⟩
         simp only []
         go_wp2
         go_ret
         exact ⟨by rw [HR.out,HA.out];rfl,HB3.out⟩
    ·have HA:Hid (R = 2):=by show _ = _;rw [HT.out,if_neg (by rintro ⟨h1,h2⟩;first | exact hbs h1 | exact hss h2)]
     have hss2:(ssd == 1) = false:=by simp [hss]
     subst hbs
     simp only []
     go_wp2
     go_ret
     exact ⟨by rw [HR.out,HA.out];rfl,HB3.out⟩
   ·have HA:Hid (R = 2):=by show _ = _;rw [HT.out,if_neg (by rintro ⟨h1,h2⟩;first | exact hbs h1 | exact hss h2)]
    have hbb:(bsd == 0) = false:=by simp [hbs]
    simp only []
    go_wp2
    go_ret
    exact ⟨by rw [HR.out,HA.out];rfl,HB3.out⟩
theorem wpList_store55e {ops:Array Oper} {rest:List Oper} {op:Oper} {a:Act} {w:World} {Q:Exit→Act→World→Prop} {B:Nat} {f:Nat→Int} (g:Nat→Int) (W':World) (h:Purse w 131 B f) (hW:w.setRow B (p_row g) = W') (hgd:op.guard = none) (x y:Operand) (ho:op.op = .store 131 x y)
  (hx:a.eval x = .pointer (some ⟨B,0,none⟩)) (hy:a.eval y = .agg (p_row g)) (k:wpList Tryz.prog ops Q rest (a.put op.dst undef) W'):wpList Tryz.prog ops Q (op :: rest) a w:=by
 subst hW
 exact wpList_store55 g h hgd x y ho hx hy k
set_option maxHeartbeats 4000000 in
theorem trade_any (p:Nat) (item:Int) (b s:Cv.Lot) (price qty:Int) (f:Nat→Int) (v:Nat→Value) (w:World) (he:Hid (TEr w v)) (hp:Hid (Purse w 131 p f)) (hg:Hid (Pu.Good f)) :
  Calls Tryz.prog 234 #[.pointer (some ⟨p,0,none⟩),.int .i64 item,lotV b,lotV s,.int .i64 price,.int .i64 qty] w fun e w'=>e = .returned (errE v (Pu.tradeC f item b s price qty))∧Purse w' 131 p (Pu.tradeF f item b s price qty)∧Save w w' p:=by
 show Calls Tryz.prog 234 #[.pointer (some ⟨p,0,none⟩),.int .i64 item,.agg #[.int .i64 b.id,.int .i64 b.ow,.int .i64 b.sd,.int .i64 b.pr,.int .i64 b.q],.agg #[.int .i64 s.id,.int .i64 s.ow,.int .i64 s.sd,.int .i64 s.pr,.int .i64 s.q],.int .i64 price,.int .i64 qty] w _
 obtain ⟨W,hWd⟩:∃ W,(w.alloc (.cells #[.int .i64 b.id,.int .i64 b.ow,.int .i64 b.sd,.int .i64 b.pr,.int .i64 b.q] 137)).alloc (.cells #[.int .i64 s.id,.int .i64 s.ow,.int .i64 s.sd,.int .i64 s.pr,.int .i64 s.q] 137) = W:=⟨_,rfl⟩
 have hb1:Below w.heap.size w (w.alloc (.cells #[.int .i64 b.id,.int .i64 b.ow,.int .i64 b.sd,.int .i64 b.pr,.int .i64 b.q] 137)):=(Below.refl _ _).alloc (Nat.le_refl _) _
 have hb2:Below w.heap.size w W:=by rw [← hWd];exact hb1.alloc hb1.size _
 have hX0:W.heap[w.heap.size]? = some (.cells (lotA b) 137 (0,0)):=by
  rw [← hWd]
  exact (Below.heap_alloc _ _ _ (by simp)).trans (heap_alloc_new _ _)
 have hY0:W.heap[w.heap.size + 1]? = some (.cells (lotA s) 137 (0,0)):=by
  rw [← hWd]
  have:=heap_alloc_new (w.alloc (.cells #[.int .i64 b.id,.int .i64 b.ow,.int .i64 b.sd,.int .i64 b.pr,.int .i64 b.q] 137)) (.cells #[.int .i64 s.id,.int .i64 s.ow,.int .i64 s.sd,.int .i64 s.pr,.int .i64 s.q] 137)
  rw [show (w.alloc (.cells #[.int .i64 b.id,.int .i64 b.ow,.int .i64 b.sd,.int .i64 b.pr,.int .i64 b.q] 137)).heap.size = w.heap.size + 1 by simp] at this
  exact this
 have HX0:=hide hX0;have HY0:=hide hY0;have HBW:=hide hb2
 have HC:=hide (check_any item b s price qty v W (he.out.later hb2))
 unfold lotV at HC
 have HWd:=hide hWd
 have hpl:=hp.out.lt
 clear hb1 hb2 hX0 hY0 hWd
 go_enter Tryz.func234,Tryz.ntmps234
 go_wp2_with fail
 rw [HWd.out]
 clear HWd
 refine HC.out.mono ?_
 rintro e w2 ⟨rfl,hb2⟩
 have HB:Hid (Below w.heap.size w w2):=HBW.out.trans (hb2.mono HBW.out.size)
 have HX:Hid (w2.heap[w.heap.size]? = some (.cells (lotA b) 137 (0,0))):=by show _ = _;rw [hb2.block _ (lt_of_block HX0.out)];exact HX0.out
 have HY:Hid (w2.heap[w.heap.size + 1]? = some (.cells (lotA s) 137 (0,0))):=by show _ = _;rw [hb2.block _ (lt_of_block HY0.out)];exact HY0.out
 clear hb2 HC HBW HX0 HY0
 obtain ⟨R,hR⟩:∃ R,Pu.tchk item b s price qty = R:=⟨_,rfl⟩
 by_cases h0:R = 0
 ·have HT:Hid (Pu.tradeC f item b s price qty = if Pu.poor f b.ow.toNat s.ow.toNat item.toNat b.pr qty = true then 9 else if Pu.over f b.ow.toNat s.ow.toNat item.toNat price qty = true then 7 else 0):=by
   show _ = _;unfold Pu.tradeC;rw [if_pos (hR.trans h0)]
  have HF:Hid (Pu.tradeF f item b s price qty = if Pu.tradeC f item b s price qty = 0 then Pu.six f b.ow.toNat s.ow.toNat item.toNat b.pr price qty else f):=rfl
  have hr:=Pu.right_of (hR.trans h0)
  rw [hR,h0]
  obtain ⟨k,rfl,hk⟩:=Pu.well_item hr.wb
  obtain ⟨cb,hcb,hcb6⟩:=Pu.well_ow hr.wb
  obtain ⟨cs,hcs,hcs6⟩:=Pu.well_ow hr.ws
  have hm:=hr.muls
  have HRt:=hide hr
  have FB:=hide (Pu.free_buy (f:=f) hr.wb hr.q.1 hr.q.2.1 hr.sb)
  have FS:=hide (fun g=>Pu.free_sell (f:=g) hr.ws hr.q.1 hr.q.2.2 hr.ss)
  have hqb:=hr.q
  have hgr:=hide (fun hpo=>Pu.grows hg.out (b:=cb) (s:=cs) (k:=k) (bp:=b.pr) (price:=price) (qty:=qty) hcb6 hcs6 hk ⟨hm.1.1,hm.2.2.1⟩ hr.q.1 hpo)
  rw [hcb,hcs] at HT HF
  simp only [Int.toNat_natCast] at HT HF
  simp only [hcb,hcs,Int.toNat_natCast] at FB FS
  clear hR h0 R hr
  obtain ⟨W3,hW3⟩:∃ W3,(w2.alloc (.cells (p_row fun _=>0) 131)).setRow w2.heap.size (p_row f) = W3:=⟨_,rfl⟩
  have hNn:Purse (w2.alloc (.cells (p_row fun _=>0) 131)) 131 w2.heap.size (fun _=>0):=Purse.new w2 131 _
  have HN0:=hide hNn
  have hN3:Purse W3 131 w2.heap.size f:=by rw [← hW3];exact hNn.stored f
  have hB3:Below w2.heap.size w2 W3:=by rw [← hW3];exact below_setRow ((Below.refl _ _).alloc (Nat.le_refl _) _) (Nat.le_refl _) _
  have hAx:W3.heap[w.heap.size]? = some (.cells (lotA b) 137 (0,0)):=by rw [hB3.block _ (lt_of_block HX.out)];exact HX.out
  have hAy:W3.heap[w.heap.size + 1]? = some (.cells (lotA s) 137 (0,0)):=by rw [hB3.block _ (lt_of_block HY.out)];exact HY.out
  have hwl:w.heap.size + 1 < w2.heap.size:=lt_of_block HY.out
  have HP2:=hide (hp.out.lat HB.out)
  have HN3:=hide hN3
  have HW3:=hide hW3
  have HB3:Hid (Below w.heap.size w W3):=HB.out.trans (hB3.mono HB.out.size)
  have x0:W3.cell? ⟨w.heap.size,0,none⟩ = some (.int .i64 b.id):=p_hs_cell hAx rfl
  have x1:W3.cell? ⟨w.heap.size,1,none⟩ = some (.int .i64 b.ow):=p_hs_cell hAx rfl
  have x2:W3.cell? ⟨w.heap.size,2,none⟩ = some (.int .i64 b.sd):=p_hs_cell hAx rfl
  have x3:W3.cell? ⟨w.heap.size,3,none⟩ = some (.int .i64 b.pr):=p_hs_cell hAx rfl
  have x4:W3.cell? ⟨w.heap.size,4,none⟩ = some (.int .i64 b.q):=p_hs_cell hAx rfl
  have y4:W3.cell? ⟨w.heap.size + 1,4,none⟩ = some (.int .i64 s.q):=p_hs_cell hAy rfl
  have xf:W3.frozen? ⟨w.heap.size,4,none⟩ = false:=hs_free hAx
  have yf:W3.frozen? ⟨w.heap.size + 1,4,none⟩ = false:=hs_free hAy
  have z55:=zero55
  have HAx:=hide hAx;have HAy:=hide hAy
  clear hN3 hB3 hAx hAy hNn hW3
  unfold errE
  simp only []
  go_wp2_with (first | refine wpList_load55 (B:=p) (f:=f) HP2.out rfl (.tmp 27) rfl rfl ?_ | refine wpList_store55e (B:=w2.heap.size) f W3 (f:=fun _=>0) HN0.out HW3.out rfl (.tmp 14) (.tmp 28) rfl rfl rfl ?_)
  obtain ⟨W4,hW4⟩:∃ W4,(W3.setCell ⟨w.heap.size,4,none⟩ (.int .i64 qty)).setCell ⟨w.heap.size + 1,4,none⟩ (.int .i64 qty) = W4:=⟨_,rfl⟩
  have hX4:W4.heap[w.heap.size]? = some (.cells (lotA (Pu.only b qty)) 137 (0,0)):=by
   rw [← hW4,Below.heap_setCell _ _ _ _ (by show w.heap.size≠w.heap.size + 1;omega)]
   exact p_hs_set _ HAx.out rfl
  have hY4:W4.heap[w.heap.size + 1]? = some (.cells (lotA (Pu.only s qty)) 137 (0,0)):=by
   rw [← hW4]
   refine p_hs_set (a:=lotA s) _ ?_ rfl
   rw [Below.heap_setCell _ _ _ _ (by show w.heap.size + 1≠w.heap.size;omega)]
   exact HAy.out
  have hN4:Purse W4 131 w2.heap.size f:=by
   rw [← hW4]
   exact (HN3.out.other (by show w2.heap.size≠w.heap.size;omega) _).other (by show w2.heap.size≠w.heap.size + 1;omega) _
  have hB4:Below w.heap.size w W4:=by rw [← hW4];exact (HB3.out.setCell (Nat.le_refl _) _).setCell (by show w.heap.size≤w.heap.size + 1;omega) _
  rw [hW4]
  have HX4:=hide hX4;have HY4:=hide hY4;have HN4:=hide hN4;have HB4:=hide hB4
  clear hX4 hY4 hN4 hB4 hW4 HW3 HN3 HB3 HAx HAy x0 x1 x2 x3 x4 y4 xf yf HN0
  have HF1:=hide (free_any w2.heap.size k (Pu.only b qty) f v W4 (he.out.later HB4.out).per HN4.out hg.out)
  rw [show lotV (Pu.only b qty) = .agg #[.int .i64 b.id,.int .i64 cb,.int .i64 b.sd,.int .i64 b.pr,.int .i64 qty] by simp [lotV,Pu.only,hcb]] at HF1
  refine HF1.out.mono ?_
  clear HF1
  rintro e w5 ⟨rfl,hp5,hs5⟩
  have HB5:Hid (Below w.heap.size w w5):=HB4.out.trans (hs5.below HB4.out.size (by omega))
  have HX5:Hid (w5.heap[w.heap.size]? = some (.cells (lotA (Pu.only b qty)) 137 (0,0))):=by show _ = _;rw [hs5.block _ (lt_of_block HX4.out) (by omega)];exact HX4.out
  have HY5:Hid (w5.heap[w.heap.size + 1]? = some (.cells (lotA (Pu.only s qty)) 137 (0,0))):=by show _ = _;rw [hs5.block _ (lt_of_block HY4.out) (by omega)];exact HY4.out
  clear hs5 HX4 HY4 HN4 HB4
  by_cases hpo:f (cb * 8 + 1) < b.pr * qty
  ·have HA:Hid (Pu.tradeC f k b s price qty = 9∧Pu.tradeF f k b s price qty = f):=by
    have e:Pu.tradeC f k b s price qty = 9:=by rw [HT.out,if_pos (by simp [Pu.poor,hpo])]
    exact ⟨e,by rw [HF.out,e];rfl⟩
   rw [FB.out.1,if_pos hpo]
   have c9:=(he.out.later HB5.out).per.c9
   clear hp5
   unfold errE
   simp only []
   go_wp2
   go_ret
   exact ⟨by rw [HA.out.1];rfl,by rw [HA.out.2];exact hp.out.lat HB5.out,Save.of_below HB5.out p⟩
  ·have hpo':b.pr * qty≤f (cb * 8 + 1):=by omega
   rw [FB.out.2.1 hpo'] at hp5
   rw [FB.out.1,if_neg hpo]
   have HP5:=hide hp5
   have hgd1:Pu.Good (Pu.g1 f cb (b.pr * qty)):=by rw [← FB.out.2.1 hpo'];exact Pu.good_free hg.out _ _
   have HG1:=hide hgd1
   have HF2:=hide (free_any w2.heap.size k (Pu.only s qty) _ v w5 (he.out.later HB5.out).per hp5 hgd1)
   rw [show lotV (Pu.only s qty) = .agg #[.int .i64 s.id,.int .i64 cs,.int .i64 s.sd,.int .i64 s.pr,.int .i64 qty] by simp [lotV,Pu.only,hcs]] at HF2
   have x0:w5.cell? ⟨w.heap.size + 1,0,none⟩ = some (.int .i64 s.id):=p_hs_cell HY5.out rfl
   have x1:w5.cell? ⟨w.heap.size + 1,1,none⟩ = some (.int .i64 s.ow):=p_hs_cell HY5.out rfl
   have x2:w5.cell? ⟨w.heap.size + 1,2,none⟩ = some (.int .i64 s.sd):=p_hs_cell HY5.out rfl
   have x3:w5.cell? ⟨w.heap.size + 1,3,none⟩ = some (.int .i64 s.pr):=p_hs_cell HY5.out rfl
   have x4:w5.cell? ⟨w.heap.size + 1,4,none⟩ = some (.int .i64 qty):=p_hs_cell HY5.out rfl
   clear hp5 hgd1
   unfold errE
   simp only []
   go_wp2_with fail
   refine HF2.out.mono ?_
   clear HF2 x0 x1 x2 x3 x4
   rintro e w6 ⟨rfl,hp6,hs6⟩
   have HB6:Hid (Below w.heap.size w w6):=HB5.out.trans (hs6.below HB5.out.size (by omega))
   have HX6:Hid (w6.heap[w.heap.size]? = some (.cells (lotA (Pu.only b qty)) 137 (0,0))):=by show _ = _;rw [hs6.block _ (lt_of_block HX5.out) (by omega)];exact HX5.out
   have HY6:Hid (w6.heap[w.heap.size + 1]? = some (.cells (lotA (Pu.only s qty)) 137 (0,0))):=by show _ = _;rw [hs6.block _ (lt_of_block HY5.out) (by omega)];exact HY5.out
   clear hs6 HX5 HY5
   have HK:=hide (Pu.g1_kept (f:=f) (b:=cb) (s:=cs) (k:=k) (H:=b.pr * qty) hk)
   by_cases hpk:f (cs * 8 + 5 + k) < qty
   ·have HA:Hid (Pu.tradeC f k b s price qty = 9∧Pu.tradeF f k b s price qty = f):=by
     have e:Pu.tradeC f k b s price qty = 9:=by rw [HT.out,if_pos (by simp [Pu.poor,hpk])]
     exact ⟨e,by rw [HF.out,e];rfl⟩
    rw [(FS.out _).1,HK.out,if_pos hpk]
    have c9:=(he.out.later HB6.out).per.c9
    clear hp6
    unfold errE
    simp only []
    go_wp2
    go_ret
    exact ⟨by rw [HA.out.1];rfl,by rw [HA.out.2];exact hp.out.lat HB6.out,Save.of_below HB6.out p⟩
   ·have hpk':qty≤Pu.g1 f cb (b.pr * qty) (cs * 8 + 5 + k):=by rw [HK.out];omega
    rw [(FS.out _).2.1 hpk'] at hp6
    rw [(FS.out _).1,HK.out,if_neg hpk]
    have HPO:Hid (Pu.poor f cb cs k b.pr qty = false):=by show _ = _;simp only [Pu.poor,Bool.or_eq_false_iff,decide_eq_false_iff_not];exact ⟨by omega,by omega⟩
    have HP6:Hid (Purse w6 131 w2.heap.size (Pu.g2 f cb cs k (b.pr * qty) qty)):=hp6
    have hgr2:=hgr.out HPO.out
    have hcc:=hg.out.cash cb hcb6
    have hss:=hg.out.stock cs k hcs6 hk
    have b0:w6.cell? ⟨w2.heap.size,cb * 8,none⟩ = some (.int .i64 (f (cb * 8))):=by rw [HP6.out.cell (by omega),Pu.g2_cash hk]
    have b0f:=HP6.out.frozen (cb * 8)
    have o1:w6.cell? ⟨w.heap.size,1,none⟩ = some (.int .i64 b.ow):=p_hs_cell HX6.out rfl
    have o2:w6.cell? ⟨w.heap.size + 1,1,none⟩ = some (.int .i64 s.ow):=p_hs_cell HY6.out rfl
    have hbi:(cb:Int) < 6:=by omega
    have hsi:(cs:Int) < 6:=by omega
    have hki:(k:Int) < 3:=by omega
    rw [hcb] at o1
    rw [hcs] at o2
    clear hp6 hpk' hpo'
    unfold errE
    simp only []
    go_wp2
    go_quiet (fail)
    have HB7:Hid (Below w.heap.size w (w6.drewN nq)):=HB6.out.trans ((blw_drew nq).mono HB6.out.size)
    have HP7:=hide (HP6.out.drew nq)
    clear HP6 HB6 HX6 HY6 b0 b0f o1 o2
    generalize w6.drewN nq = w7 at *
    have b0:w7.cell? ⟨w2.heap.size,cb * 8,none⟩ = some (.int .i64 (f (cb * 8))):=by rw [HP7.out.cell (by omega),Pu.g2_cash hk]
    have b0f:=HP7.out.frozen (cb * 8)
    obtain ⟨⟨m1,m2⟩,⟨m3,m4⟩,m5,m6⟩:=hm
    obtain ⟨q1,q2,q3⟩:=hqb
    obtain ⟨u1,u2,u3⟩:=hcc
    obtain ⟨u4,u5,u6⟩:=hss
    have hwr:0≤f (cb * 8) - price * qty:=by omega
    obtain ⟨W8,hW8⟩:∃ W8,w7.setCell ⟨w2.heap.size,cb * 8,none⟩ (.int .i64 (f (cb * 8) - price * qty)) = W8:=⟨_,rfl⟩
    have HP8:Hid (Purse W8 131 w2.heap.size (Pu.g3 f cb cs k (b.pr * qty) qty (price * qty))):=by
     show Purse _ _ _ _
     rw [← hW8];exact HP7.out.add _ _ _ (by rw [Pu.g2_cash hk];omega)
    have HB8:Hid (Below w.heap.size w W8):=by show Below _ _ _;rw [← hW8];exact HB7.out.setCell (by show _≤w2.heap.size;omega) _
    have HW8:=hide hW8
    clear hW8
    go_wp2
    rw [HW8.out]
    clear HW8 HP7 HB7 b0 b0f
    have d0:W8.cell? ⟨w2.heap.size,cs * 8 + 2 + k,none⟩ = some (.int .i64 (f (cs * 8 + 2 + k))):=by rw [HP8.out.cell (by omega),Pu.g3_stock hk]
    have hwr2:0≤f (cs * 8 + 2 + k) - qty:=by omega
    refine region_quiet_tail 11 (by kernel_rfl) (by kernel_rfl) ?_
    simp only [List.take_succ_cons,List.take_zero,List.drop_succ_cons,List.drop_zero]
    repeat (first | go_big_quiet_step (fail) | quiet_step (fail))
    refine wpQuiet_nil ?_
    intro _ hw'
    obtain ⟨nq,hw''⟩:=hw'
    subst hw''
    have HB9:Hid (Below w.heap.size w (W8.drewN nq)):=HB8.out.trans ((blw_drew nq).mono HB8.out.size)
    have HP9:=hide (HP8.out.drew nq)
    clear HP8 HB8 d0
    generalize W8.drewN nq = w9 at *
    have d0:w9.cell? ⟨w2.heap.size,cs * 8 + 2 + k,none⟩ = some (.int .i64 (f (cs * 8 + 2 + k))):=by rw [HP9.out.cell (by omega),Pu.g3_stock hk]
    have d0f:=HP9.out.frozen (cs * 8 + 2 + k)
    obtain ⟨W10,hW10⟩:∃ W10,w9.setCell ⟨w2.heap.size,cs * 8 + 2 + k,none⟩ (.int .i64 (f (cs * 8 + 2 + k) - qty)) = W10:=⟨_,rfl⟩
    have HP10:Hid (Purse W10 131 w2.heap.size (Pu.g4 f cb cs k (b.pr * qty) qty (price * qty))):=by
     show Purse _ _ _ _
     rw [← hW10];exact HP9.out.add _ _ _ (by rw [Pu.g3_stock hk];omega)
    have HB10:Hid (Below w.heap.size w W10):=by show Below _ _ _;rw [← hW10];exact HB9.out.setCell (by show _≤w2.heap.size;omega) _
    have HW10:=hide hW10
    clear hW10
    go_wp2_with fail
    rw [HW10.out]
    clear HW10 HP9 HB9 d0 d0f
    have t5c:=HP10.out.cell (i:=cb * 8 + 2 + k) (by omega)
    have t5f:=HP10.out.frozen (cb * 8 + 2 + k)
    obtain ⟨⟨k1,k2⟩,⟨k3,k4⟩,k5⟩:=hgr2
    have HOV:=hide k5
    clear k5
    have HG5:Hid (∀ W,Purse W 131 w2.heap.size (Pu.g4 f cb cs k (b.pr * qty) qty (price * qty))→Purse (W.setCell ⟨w2.heap.size,cb * 8 + 2 + k,none⟩ (.int .i64 (Pu.g4 f cb cs k (b.pr * qty) qty (price * qty) (cb * 8 + 2 + k) + qty))) 131 w2.heap.size (Pu.g5 f cb cs k (b.pr * qty) qty (price * qty))):=fun W h=>h.add _ _ _ rfl
    have HG6:Hid (∀ W,Purse W 131 w2.heap.size (Pu.g5 f cb cs k (b.pr * qty) qty (price * qty))→Purse (W.setCell ⟨w2.heap.size,cs * 8,none⟩ (.int .i64 (Pu.g5 f cb cs k (b.pr * qty) qty (price * qty) (cs * 8) + price * qty))) 131 w2.heap.size (Pu.six f cb cs k b.pr price qty)):=fun W h=>h.add _ _ _ rfl
    generalize Pu.g4 f cb cs k (b.pr * qty) qty (price * qty) (cb * 8 + 2 + k) = t5 at *
    by_cases o1:1073741824 - t5 < qty
    ·have HA:Hid (Pu.tradeC f k b s price qty = 7∧Pu.tradeF f k b s price qty = f):=by
      have e:Pu.tradeC f k b s price qty = 7:=by rw [HT.out,if_neg (by rw [HPO.out];simp),if_pos (by rw [HOV.out];simp [o1])]
      exact ⟨e,by rw [HF.out,e];rfl⟩
     refine (grow_no w2.heap.size (cb * 8 + 2 + k) t5 qty 1073741824 W10 t5c k1 k2 (by omega) o1).mono ?_
     rintro e wz ⟨rfl,rfl⟩
     have c7:=(he.out.later HB10.out).per.er.c7
     simp only []
     go_wp2
     go_ret
     exact ⟨by rw [HA.out.1];rfl,by rw [HA.out.2];exact hp.out.lat HB10.out,Save.of_below HB10.out p⟩
    refine (grow_yes w2.heap.size (cb * 8 + 2 + k) t5 qty 1073741824 W10 t5c t5f k1 k2 (by omega) (by omega) o1).mono ?_
    rintro e W11 ⟨rfl,hW11⟩
    have HP11:Hid (Purse W11 131 w2.heap.size (Pu.g5 f cb cs k (b.pr * qty) qty (price * qty))):=by
     show Purse _ _ _ _
     rw [hW11];exact HG5.out _ HP10.out
    have HB11:Hid (Below w.heap.size w W11):=by show Below _ _ _;rw [hW11];exact HB10.out.setCell (by show _≤w2.heap.size;omega) _
    clear hW11 HP10 HB10 HG5 t5c t5f
    have t6c:=HP11.out.cell (i:=cs * 8) (by omega)
    have t6f:=HP11.out.frozen (cs * 8)
    generalize Pu.g5 f cb cs k (b.pr * qty) qty (price * qty) (cs * 8) = t6 at *
    simp only []
    go_wp2_with fail
    by_cases o2:1099511627776 - t6 < price * qty
    ·have HA:Hid (Pu.tradeC f k b s price qty = 7∧Pu.tradeF f k b s price qty = f):=by
      have e:Pu.tradeC f k b s price qty = 7:=by rw [HT.out,if_neg (by rw [HPO.out];simp),if_pos (by rw [HOV.out];simp [o2])]
      exact ⟨e,by rw [HF.out,e];rfl⟩
     refine (grow_no w2.heap.size (cs * 8) t6 (price * qty) 1099511627776 W11 t6c k3 k4 (by omega) o2).mono ?_
     rintro e wz ⟨rfl,rfl⟩
     have c7:=(he.out.later HB11.out).per.er.c7
     simp only []
     go_wp2
     go_ret
     exact ⟨by rw [HA.out.1];rfl,by rw [HA.out.2];exact hp.out.lat HB11.out,Save.of_below HB11.out p⟩
    have HA:Hid (Pu.tradeC f k b s price qty = 0∧Pu.tradeF f k b s price qty = Pu.six f cb cs k b.pr price qty):=by
     have e:Pu.tradeC f k b s price qty = 0:=by rw [HT.out,if_neg (by rw [HPO.out];simp),if_neg (by rw [HOV.out,Bool.or_eq_true,decide_eq_true_eq,decide_eq_true_eq];omega)]
     exact ⟨e,by rw [HF.out,e];rfl⟩
    refine (grow_yes w2.heap.size (cs * 8) t6 (price * qty) 1099511627776 W11 t6c t6f k3 k4 (by omega) (by omega) o2).mono ?_
    rintro e W12 ⟨rfl,hW12⟩
    have HP12:Hid (Purse W12 131 w2.heap.size (Pu.six f cb cs k b.pr price qty)):=by
     show Purse _ _ _ _
     rw [hW12];exact HG6.out _ HP11.out
    have HB12:Hid (Below w.heap.size w W12):=by show Below _ _ _;rw [hW12];exact HB11.out.setCell (by show _≤w2.heap.size;omega) _
    have HPp:Hid (Purse W12 131 p f):=hp.out.lat HB12.out
    clear hW12 HP11 HB11 HG6 t6c t6f
    simp only []
    go_wp2_with (first | refine wpList_load55 (B:=w2.heap.size) (f:=Pu.six f cb cs k b.pr price qty) HP12.out rfl (.tmp 14) rfl rfl ?_ | refine wpList_store55 (B:=p) (Pu.six f cb cs k b.pr price qty) (f:=f) HPp.out rfl (.tmp 94) (.tmp 93) rfl rfl rfl ?_)
    go_ret
    exact ⟨by rw [HA.out.1];rfl,by rw [HA.out.2];exact HPp.out.stored _,(Save.of_below HB12.out p).trans (Save.setRow _ _ _)⟩
 ·have HA:Hid (Pu.tradeC f item b s price qty = R∧Pu.tradeF f item b s price qty = f):=by
   have e:Pu.tradeC f item b s price qty = R:=by unfold Pu.tradeC;rw [if_neg (by rw [hR];exact h0),hR]
   exact ⟨e,by unfold Pu.tradeF;rw [e,if_neg h0]⟩
  rw [hR]
  obtain ⟨y,hy⟩:∃ y,errE v R = .iface 362 y:=by
   match R,h0 with
   | 0,h=>exact absurd rfl h
   | c + 1,_=>exact ⟨_,rfl⟩
  have Hy:=hide hy
  rw [hy]
  clear hy hR
  simp only []
  go_wp2
  go_ret
  exact ⟨by rw [HA.out.1,Hy.out];rfl,by rw [HA.out.2];exact hp.out.lat HB.out,Save.of_below HB.out p⟩
def row (f:Nat→Int):Array Value:=Array.ofFn (n:=1001) fun i=>Value.int .i64 (f i.val)
theorem row_size (f:Nat→Int):(row f).size = 1001:=by simp [row]
theorem row_at (f:Nat→Int) {i:Nat} (h:i < 1001):(row f)[i]? = some (.int .i64 (f i)):=by
 unfold row;rw [Array.getElem?_ofFn];simp [h]
theorem row_one (f:Nat→Int):(row f).all (·.oneCell') = true:=by
 rw [Array.all_eq_true]
 intro i hi
 simp only [row,Array.getElem_ofFn]
 rfl
theorem row_congr {f g:Nat→Int} (h:∀ i,i < 1001→f i = g i):row f = row g:=by
 unfold row
 congr 1
 funext i
 rw [h i.val i.isLt]
theorem row_set (f:Nat→Int) {i:Nat} (v:Int):(row f).setIfInBounds i (.int .i64 v) = row (fun j=>if j = i then v else f j):=by
 apply Array.ext_getElem?
 intro j
 by_cases hj:j < 1001
 ·rw [row_at _ hj]
  by_cases e:i = j
  ·subst e
   rw [Array.getElem?_setIfInBounds_self_of_lt (by rw [row_size];exact hj)]
   simp
  ·rw [Array.getElem?_setIfInBounds_ne e,row_at _ hj]
   have:¬ j = i:=fun h=>e h.symm
   simp [this]
 ·rw [Array.getElem?_eq_none (by rw [Array.size_setIfInBounds,row_size];omega),Array.getElem?_eq_none (by rw [row_size];omega)]
theorem row_zero:row (fun _=>0) = Array.replicate 1001 (.int .i64 0):=by
 apply Array.ext_getElem?
 intro j
 by_cases hj:j < 1001
 ·rw [row_at _ hj,Array.getElem?_replicate];simp [hj]
 ·rw [Array.getElem?_eq_none (by rw [row_size];omega),Array.getElem?_eq_none (by simp;omega)]
def Tot (w:World) (B:Nat) (f:Nat→Int):Prop:=w.heap[B]? = some (.cells (row f) 299 (0,0))
theorem Tot.cell {w:World} {B:Nat} {f:Nat→Int} (h:Tot w B f) {i:Nat} (hi:i < 1001):w.cell? ⟨B,i,none⟩ = some (.int .i64 (f i)):=by
 rw [cell_of_row w B i _ _ _ h,row_at f hi]
theorem Tot.frozen {w:World} {B:Nat} {f:Nat→Int} (h:Tot w B f) (i:Nat):w.frozen? ⟨B,i,none⟩ = false:=by
 simp [World.frozen?,show w.heap[B]? = _ from h]
theorem Tot.lt {w:World} {B:Nat} {f:Nat→Int} (h:Tot w B f):B < w.heap.size:=(Array.getElem?_eq_some_iff.1 h).1
theorem Tot.later {w w':World} {B n:Nat} {f:Nat→Int} (h:Tot w B f) (hb:Below n w w') (hn:B < n):Tot w' B f:=(hb.block B hn).trans h
theorem Tot.set {w:World} {B:Nat} {f:Nat→Int} (h:Tot w B f) (i:Nat) (v:Int):Tot (w.setCell ⟨B,i,none⟩ (.int .i64 v)) B (fun j=>if j = i then v else f j):=by
 unfold Tot at h ⊢
 rw [setCell_eq_setRow w B i _ _ _ _ h,row_set]
 exact setRow_heap w B _ _ _ _ h
theorem Tot.congr {w:World} {B:Nat} {f g:Nat→Int} (h:Tot w B f) (e:∀ i,i < 1001→f i = g i):Tot w B g:=by
 unfold Tot at h ⊢;rw [← row_congr e];exact h
theorem Tot.other {w:World} {B:Nat} {f:Nat→Int} (h:Tot w B f) {a:Addr} (ha:B≠a.block) (v:Value):Tot (w.setCell a v) B f :=
 (Below.heap_setCell w a v B ha).trans h
theorem Tot.alloc {w:World} {B:Nat} {f:Nat→Int} (h:Tot w B f) (o:Obj):Tot (w.alloc o) B f:=(Below.heap_alloc w o B h.lt).trans h
theorem Tot.new (w:World) (f:Nat→Int):Tot (w.alloc (.cells (row f) 299)) w.heap.size f:=heap_alloc_last w _
theorem Tot.drew {w:World} {B:Nat} {f:Nat→Int} (h:Tot w B f) (n:Nat):Tot (w.drewN n) B f:=h
theorem info60:(Tryz.prog.info? 299).map (fun i=>(i.zero,i.size)) = some (some (.agg (Array.replicate 1001 (.int .i64 0))),1001):=by kernel_rfl
theorem zero60 (w:World):(zeroValue 299).run Tryz.prog w = .ok (.agg (row fun _=>0)) w:=by rw [row_zero];exact (zero_of_info info60).1 w
theorem size60:(Tryz.prog.info? 299).map (·.size) = some 1001:=(zero_of_info info60).2
theorem agg60:Tryz.prog.underlying 299 = some (.array 1001 3):=by kernel_rfl
theorem load60 {w:World} {B:Nat} {f:Nat→Int} (h:Tot w B f):(loadVar 299 ⟨B,0,none⟩).run Tryz.prog w = .ok (.agg (row f)) w :=
 run_loadVar_row w B 299 299 (row f) (0,0) _ h agg60 rfl (by rw [row_size];exact size60)
theorem store60 {w:World} {B:Nat} {f:Nat→Int} (g:Nat→Int) (h:Tot w B f):(storeVar 299 ⟨B,0,none⟩ (.agg (row g))).run Tryz.prog w = .ok () (w.setRow B (row g)) :=
 run_storeVar_row w B 299 299 (row f) (row g) h (by rw [row_size];exact size60) (by rw [row_size,row_size]) (row_one g)
theorem Tot.stored {w:World} {B:Nat} {f:Nat→Int} (g:Nat→Int) (h:Tot w B f):Tot (w.setRow B (row g)) B g:=setRow_heap w B _ _ _ _ h
theorem Tot.beside {w:World} {B C:Nat} {f:Nat→Int} (c:Array Value) (h:Tot w B f) (hne:B≠C):Tot (w.setRow C c) B f:=(setRow_other w C B c hne).trans h
theorem wpList_load60 {ops:Array Oper} {rest:List Oper} {op:Oper} {a:Act} {w:World} {Q:Exit→Act→World→Prop} {B:Nat} {f:Nat→Int} (h:Tot w B f) (hgd:op.guard = none) (x:Operand) (ho:op.op = .load 299 x)
  (hx:a.eval x = .pointer (some ⟨B,0,none⟩)) (k:wpList Tryz.prog ops Q rest (a.put op.dst (.agg (row f))) w):wpList Tryz.prog ops Q (op :: rest) a w :=
 wpList_plain hgd fun _ hK=>by
  unfold Oper.wp execOp
  simp only [ho,hx,Instr.loadAt,Instr.sureAddr,Sem.run_bind,Sem.run_pure,Result.andThen_ok,load60 h]
  exact hK _ _ k
theorem wpList_store60 {ops:Array Oper} {rest:List Oper} {op:Oper} {a:Act} {w:World} {Q:Exit→Act→World→Prop} {B:Nat} {f:Nat→Int} (g:Nat→Int) (h:Tot w B f) (hgd:op.guard = none) (x y:Operand) (ho:op.op = .store 299 x y)
  (hx:a.eval x = .pointer (some ⟨B,0,none⟩)) (hy:a.eval y = .agg (row g)) (k:wpList Tryz.prog ops Q rest (a.put op.dst undef) (w.setRow B (row g))):wpList Tryz.prog ops Q (op :: rest) a w :=
 wpList_plain hgd fun _ hK=>by
  unfold Oper.wp execOp
  simp only [ho,hx,hy,Instr.storeAt,Instr.sureAddr,Sem.run_bind,Sem.run_pure,Result.andThen_ok,store60 g h]
  exact hK _ _ k
theorem results_one_cell {fn:Func} {p:Tmp} {ty:TypeId} (h:fn.results = #[.cell p ty]) (tmps:Array Value) (P:Program) (w:World) :
  (results fn tmps).run P w = ((asAddr (tmps.getD p undef)).run P w).andThen fun a w₁=>(loadVar ty a).run P w₁:=by
 simp only [results,h]
 simp [Sem.run_bind,Result.andThen]
def totV (f:Nat→Int):Value:=.agg (row f)
set_option maxHeartbeats 1000000 in
theorem quantities_some (b off cap n:Nat) (side:Int) (l:List Cv.Lot) (w:World) (hn:Hid (l.length = n)) (hl:Hid (LotsAt w b off l)) (hok:Hid (Cv.Well l)) :
  Calls Tryz.prog 227 #[.slice (some ⟨b,off,none⟩) n cap,.int .i64 side] w fun e w'=>e = .returned (totV fun i=>Cv.at_ l side i)∧Below w.heap.size w w':=by
 have h120:=hok.out.1
 rw [hn.out] at h120
 have z60:=zero60
 go_enter Tryz.func227,Tryz.ntmps227
 go_wp2_with fail
 go_loopw [10] (fun i wr=>∃ k:Nat,k≤n∧i = .int .i64 k∧Tot wr w.heap.size (fun _=>0)∧Tot wr (w.heap.size + 1) (fun j=>Cv.at_ (l.take k) side j)∧Below w.heap.size w wr) (fun i _=>n - (intOf i).toNat)
 case atStart =>
  refine ⟨0,Nat.zero_le _,rfl,(Tot.new w _).alloc _,?_,((Below.refl _ _).alloc (Nat.le_refl _) _).alloc (by simp) _⟩
  have:=Tot.new (w.alloc (.cells (row fun _=>0) 299)) (fun _=>0)
  rw [show (w.alloc (.cells (row fun _=>0) 299)).heap.size = w.heap.size + 1 by simp] at this
  exact this
 case round =>
  obtain ⟨k,hk,rfl,ht0,ht1,hb⟩:=hrel
  have HT0:=hide ht0;have HT1:=hide ht1;have HB:=hide hb
  clear ht0 ht1 hb
  by_cases hlt:k < n
  ·have hki:(k:Int) < n:=by omega
   obtain ⟨c0,c1,c2,c3,c4⟩:=(hl.out.later HB.out) k (by rw [hn.out];exact hlt)
   have HS:=hide (fun j=>Cv.sumIf_step (Cv.atB side j) (l:=l) (k:=k) (by rw [hn.out];exact hlt))
   have HX:=hide (Cv.ok_bounds (hok.out.oks _ (Cv.nth_mem (l:=l) (i:=k) (by rw [hn.out];exact hlt))))
   generalize Cv.nth l k = x at *
   have hbx:Below w.heap.size w (wr.alloc (.cells #[.int .i64 x.id,.int .i64 x.ow,.int .i64 x.sd,.int .i64 x.pr,.int .i64 x.q] 137)):=HB.out.alloc HB.out.size _
   have HBX:=hide hbx
   have HX0:Hid (Tot (wr.alloc (.cells #[.int .i64 x.id,.int .i64 x.ow,.int .i64 x.sd,.int .i64 x.pr,.int .i64 x.q] 137)) w.heap.size (fun _=>0)):=HT0.out.alloc _
   have HX1:Hid (Tot (wr.alloc (.cells #[.int .i64 x.id,.int .i64 x.ow,.int .i64 x.sd,.int .i64 x.pr,.int .i64 x.q] 137)) (w.heap.size + 1) (fun j=>Cv.at_ (l.take k) side j)):=HT1.out.alloc _
   clear hbx
   by_cases hsd:x.sd = side
   ·have hsb:(x.sd == side) = true:=by simpa using hsd
    clear hsd
    obtain ⟨pn,hpn⟩:∃ pn:Nat,x.pr = (pn:Int):=⟨x.pr.toNat,by have:=HX.out.2.2.2.1;omega⟩
    have hp1:pn < 1001:=by have:=HX.out.2.2.2.1;omega
    have Hpn:=hide hpn
    rw [hpn] at c3
    clear hpn
    have hsum:0≤Cv.at_ (l.take k) side pn∧Cv.at_ (l.take k) side pn≤120000:=by
     have:=Cv.sumIf_bounds (Cv.atB side pn) (l.take k) (hok.out.oks.take k)
     have h2:(l.take k).length≤120:=by rw [List.length_take,hn.out];omega
     unfold Cv.at_
     omega
    obtain ⟨r1,r2⟩:=hsum
    have hq:=HX.out.2.2.2.2
    obtain ⟨q1,q2⟩:=hq
    rw [Hpn.out] at HBX HX0 HX1
    go_wp2_with fail
    have d3:(wr.alloc (.cells #[.int .i64 x.id,.int .i64 x.ow,.int .i64 x.sd,.int .i64 pn,.int .i64 x.q] 137)).cell? ⟨wr.heap.size,3,none⟩ = some (.int .i64 pn):=by simp
    have d4:(wr.alloc (.cells #[.int .i64 x.id,.int .i64 x.ow,.int .i64 x.sd,.int .i64 pn,.int .i64 x.q] 137)).cell? ⟨wr.heap.size,4,none⟩ = some (.int .i64 x.q):=by simp
    clear c0 c1 c2 c3 c4
    generalize wr.alloc (.cells #[.int .i64 x.id,.int .i64 x.ow,.int .i64 x.sd,.int .i64 pn,.int .i64 x.q] 137) = w1 at *
    have d5:=HX1.out.cell hp1
    generalize hat:Cv.at_ (l.take k) side pn = at0 at *
    have Hat:=hide hat
    clear hat
    have hpi:(pn:Int) < 1001:=by omega
    refine region_quiet_tail 8 (by kernel_rfl) (by kernel_rfl) ?_
    simp only [List.take_succ_cons,List.take_zero,List.drop_succ_cons,List.drop_zero]
    repeat (first | go_big_quiet_step (fail) | quiet_step (fail))
    refine wpQuiet_nil ?_
    intro _ hw'
    obtain ⟨nq,hw''⟩:=hw'
    subst hw''
    have HB3:Hid (Below w.heap.size w (w1.drewN nq)):=HBX.out.trans ((blw_drew nq).mono HBX.out.size)
    have e0:=HX0.out.drew nq
    have e1:=HX1.out.drew nq
    have E0:=hide e0;have E1:=hide e1
    clear e0 e1 d3 d4 d5 HX0 HX1 HBX
    generalize w1.drewN nq = w3 at *
    have d5:=E1.out.cell hp1
    have d6:=E1.out.frozen pn
    rw [Hat.out] at d5
    go_wp2_with fail
    refine ⟨⟨k + 1,by omega,by go_num,E0.out.other (by simp) _,(E1.out.set pn (at0 + x.q)).congr fun j _=>?_,HB3.out.setCell (by simp) _⟩,by simp [intOf];omega⟩
    have:=HS.out j
    unfold Cv.at_
    rw [this]
    by_cases hj:j = pn
    ·subst hj
     rw [show Cv.atB side j x = true by simp [Cv.atB,hsb,Hpn.out]]
     rw [← Hat.out]
     simp [Cv.at_]
    ·have hne:¬ (pn:Int) = (j:Int):=fun h=>hj (by omega)
     rw [show Cv.atB side j x = false by simp [Cv.atB,Hpn.out,hne]]
     simp [hj]
   ·have hsb:(x.sd == side) = false:=by simpa using hsd
    have Hsd:=hide hsd
    clear hsd
    go_wp2_with fail
    refine ⟨⟨k + 1,by omega,by go_num,HX0.out,HX1.out.congr fun j _=>?_,HBX.out⟩,by simp [intOf];omega⟩
    have:=HS.out j
    rw [show Cv.atB side j x = false by simp [Cv.atB,hsb]] at this
    unfold Cv.at_
    rw [this]
    simp
  ·have hki:¬ (k:Int) < n:=by omega
   have hkk:l.take k = l:=by
    have:k = l.length:=by rw [hn.out];omega
    rw [this,List.take_length]
   have ht1:=HT1.out
   rw [hkk] at ht1
   have H1:=hide ht1
   clear hkk ht1 HT1
   have HS2:=hide (HT0.out.stored (fun i=>Cv.at_ l side i))
   have HB2:=hide (below_setRow HB.out (Nat.le_refl w.heap.size) (row fun i=>Cv.at_ l side i))
   go_wp2_with (first | (refine wpList_load60 H1.out rfl _ rfl rfl ?_) | (refine wpList_store60 (fun i=>Cv.at_ l side i) HT0.out rfl _ _ rfl rfl rfl ?_))
   refine bodyPost_ret (v:=totV fun i=>Cv.at_ l side i) ?_ rfl ⟨rfl,HB2.out⟩
   rw [results_one_cell rfl]
   simp [asAddr,Result.andThen,load60 HS2.out,totV]
theorem quantities_none (cap:Nat) (a:Option Addr) (side:Int) (w:World) :
  Calls Tryz.prog 227 #[.slice a 0 cap,.int .i64 side] w fun e w'=>e = .returned (totV fun _=>0)∧Below w.heap.size w w':=by
 have z60:=zero60
 go_enter Tryz.func227,Tryz.ntmps227
 go_wp2
 refine wp_loop_rounds 1 ?_
 rw [rounds_succ]
 have hh:Hid (Tot ((w.alloc (.cells (row fun _=>0) 299)).alloc (.cells (row fun _=>0) 299)) w.heap.size (fun _=>0)):=(Tot.new w _).alloc _
 have h2:Hid (Tot ((w.alloc (.cells (row fun _=>0) 299)).alloc (.cells (row fun _=>0) 299)) (w.heap.size + 1) (fun _=>0)):=by
  have:=Tot.new (w.alloc (.cells (row fun _=>0) 299)) (fun _=>0)
  rw [show (w.alloc (.cells (row fun _=>0) 299)).heap.size = w.heap.size + 1 by simp] at this
  exact this
 have hb:Hid (Below w.heap.size w ((w.alloc (.cells (row fun _=>0) 299)).alloc (.cells (row fun _=>0) 299))):=((Below.refl _ _).alloc (Nat.le_refl _) _).alloc (by simp) _
 generalize (w.alloc (.cells (row fun _=>0) 299)).alloc (.cells (row fun _=>0) 299) = wr at *
 have HS2:=hide (hh.out.stored (fun _=>0))
 have HB2:=hide (below_setRow hb.out (Nat.le_refl w.heap.size) (row fun _=>0))
 go_wp2_with (first | (refine wpList_load60 h2.out rfl _ rfl rfl ?_) | (refine wpList_store60 (fun _=>0) hh.out rfl _ _ rfl rfl rfl ?_))
 refine bodyPost_ret (v:=totV fun _=>0) ?_ rfl ⟨rfl,HB2.out⟩
 rw [results_one_cell rfl]
 simp [Act.put,asAddr,Result.andThen,load60 HS2.out,totV]
theorem quantities_any (v:Value) (l:List Cv.Lot) (side:Int) (w:World) (hv:Lots w v l) (hok:Cv.Well l) :
  Calls Tryz.prog 227 #[v,.int .i64 side] w fun e w'=>e = .returned (totV fun i=>Cv.at_ l side i)∧Below w.heap.size w w':=by
 rcases hv with ⟨rfl,a,cap,rfl⟩ | ⟨b,off,cap,rfl,hcap,hl⟩
 ·exact quantities_none cap a side w
 ·exact quantities_some b off cap _ side l w rfl hl hok
def dem (l:List Cv.Lot) (p i:Nat):Int:=if p < i then Cv.demand l i else Cv.at_ l 0 i
theorem dem_start {l:List Cv.Lot} (h:Cv.Oks l) (i:Nat) (hi:i < 1001):Cv.at_ l 0 i = dem l 999 i:=by
 unfold dem
 by_cases e:999 < i
 ·obtain rfl:i = 1000:=by omega
  rw [if_pos e]
  have:=Cv.demand_step ((1000:Nat):Int) l
  rw [Cv.demand_top l h (by omega)] at this
  omega
 ·rw [if_neg e]
theorem dem_step {l:List Cv.Lot} {p:Nat} (h1:1≤p) (i:Nat):(if i = p then dem l p p + dem l p (p + 1) else dem l p i) = dem l (p - 1) i:=by
 unfold dem
 by_cases e:i = p
 ·subst e
  rw [if_pos rfl,if_neg (by omega),if_pos (by omega),if_pos (by omega)]
  have:=Cv.demand_step (i:Int) l
  rw [show ((i + 1:Nat):Int) = (i:Int) + 1 by omega]
  omega
 ·rw [if_neg e]
  by_cases e2:p < i
  ·rw [if_pos e2,if_pos (by omega)]
  ·rw [if_neg e2,if_neg (by omega)]
theorem dem_bounds {l:List Cv.Lot} (h:Cv.Well l) (p i:Nat):0≤dem l p i∧dem l p i≤120000:=by
 have h1:=Cv.sumIf_bounds (Cv.dB i) l h.oks
 have h2:=Cv.sumIf_bounds (Cv.atB 0 i) l h.oks
 have:=h.1
 unfold dem Cv.demand Cv.at_
 split <;> omega
set_option maxHeartbeats 1000000 in
theorem demands_any (v:Value) (l:List Cv.Lot) (w:World) (hv:Hid (Lots w v l)) (hok:Hid (Cv.Well l)) :
  Calls Tryz.prog 190 #[v] w fun e w'=>e = .returned (totV (dem l 0))∧Below w.heap.size w w':=by
 have z60:=zero60
 have HQ:=hide (quantities_any v l 0 (w.alloc (.cells (row fun _=>0) 299)) (hv.out.later ((Below.refl _ _).alloc (Nat.le_refl _) _)) hok.out)
 go_enter Tryz.func190,Tryz.ntmps190
 go_wp2_with fail
 refine HQ.out.mono ?_
 rintro e w1 ⟨rfl,hb1⟩
 have HB1:Hid (Below w.heap.size w w1):=((Below.refl _ _).alloc (Nat.le_refl _) _).trans (hb1.mono (by simp))
 have HR:Hid (Tot w1 w.heap.size (fun _=>0)):=(Tot.new w _).later hb1 (by simp)
 have HZ:Hid (w.heap.size < w1.heap.size):=by have:=hb1.size;simp at this;exact this
 clear hb1 HQ
 simp only [totV]
 have HA:Hid (Tot (w1.alloc (.cells (row fun _=>0) 299)) w1.heap.size (fun _=>0)):=Tot.new w1 _
 go_wp2_with (refine wpList_store60 (fun i=>Cv.at_ l 0 i) HA.out rfl _ _ rfl rfl rfl ?_)
 have HS:Hid (Tot ((w1.alloc (.cells (row fun _=>0) 299)).setRow w1.heap.size (row fun i=>Cv.at_ l 0 i)) w1.heap.size (dem l 999)):=(HA.out.stored _).congr (dem_start hok.out.oks)
 have HR2:Hid (Tot ((w1.alloc (.cells (row fun _=>0) 299)).setRow w1.heap.size (row fun i=>Cv.at_ l 0 i)) w.heap.size (fun _=>0)):=(HR.out.alloc _).beside _ (by have:=HZ.out;omega)
 have HB2:Hid (Below w.heap.size w ((w1.alloc (.cells (row fun _=>0) 299)).setRow w1.heap.size (row fun i=>Cv.at_ l 0 i))):=below_setRow (HB1.out.alloc HB1.out.size _) HB1.out.size _
 clear HR HA HB1
 generalize (w1.alloc (.cells (row fun _=>0) 299)).setRow w1.heap.size (row fun i=>Cv.at_ l 0 i) = w2 at *
 go_loopw [4] (fun i wr=>∃ p:Nat,p≤999∧i = .int .i64 p∧Tot wr w.heap.size (fun _=>0)∧Tot wr w1.heap.size (dem l p)∧Below w.heap.size w wr) (fun i _=>(intOf i).toNat)
 case atStart=>exact ⟨999,by omega,rfl,HR2.out,HS.out,HB2.out⟩
 case round =>
  obtain ⟨p,hp,rfl,ht0,ht1,hb⟩:=hrel
  have HT0:=hide ht0;have HT1:=hide ht1;have HB:=hide hb
  clear ht0 ht1 hb HS HR2 HB2
  by_cases hlt:1≤p
  ·have hki:(1:Int)≤(p:Int):=by omega
   have hp1:p < 1001:=by omega
   have hpi:(p:Int) < 1001:=by omega
   have hpj:(p:Int) + 1 < 1001:=by omega
   have d5:=HT1.out.cell hp1
   have d6:=HT1.out.cell (i:=p + 1) (by omega)
   have hb1:=dem_bounds hok.out p p
   have hb2:=dem_bounds hok.out p (p + 1)
   have HX:=hide (fun i=>dem_step (l:=l) (p:=p) (by omega) i)
   generalize ha:dem l p p = x at *
   generalize hb:dem l p (p + 1) = y at *
   have Hx:=hide ha;have Hy:=hide hb
   clear ha hb
   obtain ⟨r1,r2⟩:=hb1
   obtain ⟨r3,r4⟩:=hb2
   go_wp2_with fail
   refine region_quiet_tail 9 (by kernel_rfl) (by kernel_rfl) ?_
   simp only [List.take_succ_cons,List.take_zero,List.drop_succ_cons,List.drop_zero]
   repeat (first | go_big_quiet_step (fail) | quiet_step (fail))
   refine wpQuiet_nil ?_
   intro _ hw'
   obtain ⟨nq,hw''⟩:=hw'
   subst hw''
   have HB3:Hid (Below w.heap.size w (wr.drewN nq)):=HB.out.trans ((blw_drew nq).mono HB.out.size)
   have e0:=HT0.out.drew nq
   have e1:=HT1.out.drew nq
   have E0:=hide e0;have E1:=hide e1
   clear e0 e1 d5 d6 HT0 HT1 HB
   generalize wr.drewN nq = w3 at *
   have d5:=E1.out.cell hp1
   have d6:=E1.out.frozen p
   go_wp2_with fail
   have E2:=hide ((E1.out.set p (x + y)).congr fun i _=>HX.out i)
   exact ⟨⟨p - 1,by omega,by go_num,E0.out.other (by have:=HZ.out;simp;omega) _,E2.out,HB3.out.setCell (by have:=HZ.out;simp;omega) _⟩,by simp [intOf];omega⟩
  ·have hki:¬ (1:Int)≤(p:Int):=by omega
   obtain rfl:p = 0:=by omega
   have HS2:=hide (HT0.out.stored (dem l 0))
   have HB2:=hide (below_setRow HB.out (Nat.le_refl w.heap.size) (row (dem l 0)))
   go_wp2_with (first | (refine wpList_load60 HT1.out rfl _ rfl rfl ?_) | (refine wpList_store60 (dem l 0) HT0.out rfl _ _ rfl rfl rfl ?_))
   refine bodyPost_ret (v:=totV (dem l 0)) ?_ rfl ⟨rfl,HB2.out⟩
   rw [results_one_cell rfl]
   simp [asAddr,Result.andThen,load60 HS2.out,totV]
def sup (l:List Cv.Lot) (p i:Nat):Int:=if i < p then Cv.supply l i else Cv.at_ l 1 i
theorem sup_start {l:List Cv.Lot} (h:Cv.Oks l) (i:Nat) (hi:i < 1001):Cv.at_ l 1 i = sup l 2 i:=by
 unfold sup
 by_cases e:i < 2
 ·rw [if_pos e]
  have:=Cv.supply_step ((i:Int) - 1) l
  rw [Cv.supply_low l h (p:=(i:Int) - 1) (by omega),show (i:Int) - 1 + 1 = i by omega] at this
  omega
 ·rw [if_neg e]
theorem sup_step {l:List Cv.Lot} {p:Nat} (h1:1≤p) (i:Nat):(if i = p then sup l p p + sup l p (p - 1) else sup l p i) = sup l (p + 1) i:=by
 unfold sup
 by_cases e:i = p
 ·subst e
  rw [if_pos rfl,if_neg (by omega),if_pos (by omega),if_pos (by omega)]
  have:=Cv.supply_step ((i:Int) - 1) l
  rw [show (i:Int) - 1 + 1 = i by omega] at this
  rw [show ((i - 1:Nat):Int) = (i:Int) - 1 by omega]
  omega
 ·rw [if_neg e]
  by_cases e2:i < p
  ·rw [if_pos e2,if_pos (by omega)]
  ·rw [if_neg e2,if_neg (by omega)]
theorem sup_bounds {l:List Cv.Lot} (h:Cv.Well l) (p i:Nat):0≤sup l p i∧sup l p i≤120000:=by
 have h1:=Cv.sumIf_bounds (Cv.sB i) l h.oks
 have h2:=Cv.sumIf_bounds (Cv.atB 1 i) l h.oks
 have:=h.1
 unfold sup Cv.supply Cv.at_
 split <;> omega
set_option maxHeartbeats 1000000 in
theorem supplies_any (v:Value) (l:List Cv.Lot) (w:World) (hv:Hid (Lots w v l)) (hok:Hid (Cv.Well l)) :
  Calls Tryz.prog 191 #[v] w fun e w'=>e = .returned (totV (sup l 1001))∧Below w.heap.size w w':=by
 have z60:=zero60
 have HQ:=hide (quantities_any v l 1 (w.alloc (.cells (row fun _=>0) 299)) (hv.out.later ((Below.refl _ _).alloc (Nat.le_refl _) _)) hok.out)
 go_enter Tryz.func191,Tryz.ntmps191
 go_wp2_with fail
 refine HQ.out.mono ?_
 rintro e w1 ⟨rfl,hb1⟩
 have HB1:Hid (Below w.heap.size w w1):=((Below.refl _ _).alloc (Nat.le_refl _) _).trans (hb1.mono (by simp))
 have HR:Hid (Tot w1 w.heap.size (fun _=>0)):=(Tot.new w _).later hb1 (by simp)
 have HZ:Hid (w.heap.size < w1.heap.size):=by have:=hb1.size;simp at this;exact this
 clear hb1 HQ
 simp only [totV]
 have HA:Hid (Tot (w1.alloc (.cells (row fun _=>0) 299)) w1.heap.size (fun _=>0)):=Tot.new w1 _
 go_wp2_with (refine wpList_store60 (fun i=>Cv.at_ l 1 i) HA.out rfl _ _ rfl rfl rfl ?_)
 have HS:Hid (Tot ((w1.alloc (.cells (row fun _=>0) 299)).setRow w1.heap.size (row fun i=>Cv.at_ l 1 i)) w1.heap.size (sup l 2)):=(HA.out.stored _).congr (sup_start hok.out.oks)
 have HR2:Hid (Tot ((w1.alloc (.cells (row fun _=>0) 299)).setRow w1.heap.size (row fun i=>Cv.at_ l 1 i)) w.heap.size (fun _=>0)):=(HR.out.alloc _).beside _ (by have:=HZ.out;omega)
 have HB2:Hid (Below w.heap.size w ((w1.alloc (.cells (row fun _=>0) 299)).setRow w1.heap.size (row fun i=>Cv.at_ l 1 i))):=below_setRow (HB1.out.alloc HB1.out.size _) HB1.out.size _
 clear HR HA HB1
 generalize (w1.alloc (.cells (row fun _=>0) 299)).setRow w1.heap.size (row fun i=>Cv.at_ l 1 i) = w2 at *
 go_loopw [4] (fun i wr=>∃ p:Nat,(2≤p∧p≤1001)∧i = .int .i64 p∧Tot wr w.heap.size (fun _=>0)∧Tot wr w1.heap.size (sup l p)∧Below w.heap.size w wr) (fun i _=>1001 - (intOf i).toNat)
 case atStart=>exact ⟨2,by omega,rfl,HR2.out,HS.out,HB2.out⟩
 case round =>
  obtain ⟨p,hp,rfl,ht0,ht1,hb⟩:=hrel
  have HT0:=hide ht0;have HT1:=hide ht1;have HB:=hide hb
  clear ht0 ht1 hb HS HR2 HB2
  by_cases hlt:p≤1000
  ·have hki:(p:Int)≤1000:=by omega
   have hp1:p < 1001:=by omega
   have hpi:(p:Int) < 1001:=by omega
   have hpj:(0:Int)≤(p:Int) - 1:=by omega
   have d5:=HT1.out.cell hp1
   have d6:=HT1.out.cell (i:=p - 1) (by omega)
   have hb1:=sup_bounds hok.out p p
   have hb2:=sup_bounds hok.out p (p - 1)
   have HX:=hide (fun i=>sup_step (l:=l) (p:=p) (by omega) i)
   generalize ha:sup l p p = x at *
   generalize hb:sup l p (p - 1) = y at *
   have Hx:=hide ha;have Hy:=hide hb
   clear ha hb
   obtain ⟨r1,r2⟩:=hb1
   obtain ⟨r3,r4⟩:=hb2
   go_wp2_with fail
   refine region_quiet_tail 9 (by kernel_rfl) (by kernel_rfl) ?_
   simp only [List.take_succ_cons,List.take_zero,List.drop_succ_cons,List.drop_zero]
   repeat (first | go_big_quiet_step (fail) | quiet_step (fail))
   refine wpQuiet_nil ?_
   intro _ hw'
   obtain ⟨nq,hw''⟩:=hw'
   subst hw''
   have HB3:Hid (Below w.heap.size w (wr.drewN nq)):=HB.out.trans ((blw_drew nq).mono HB.out.size)
   have e0:=HT0.out.drew nq
   have e1:=HT1.out.drew nq
   have E0:=hide e0;have E1:=hide e1
   clear e0 e1 d5 d6 HT0 HT1 HB
   generalize wr.drewN nq = w3 at *
   have d5:=E1.out.cell hp1
   have d6:=E1.out.frozen p
   go_wp2_with fail
   have E2:=hide ((E1.out.set p (x + y)).congr fun i _=>HX.out i)
   exact ⟨⟨p + 1,by omega,by go_num,E0.out.other (by have:=HZ.out;simp;omega) _,E2.out,HB3.out.setCell (by have:=HZ.out;simp;omega) _⟩,by simp [intOf];omega⟩
  ·have hki:¬ (p:Int)≤1000:=by omega
   obtain rfl:p = 1001:=by omega
   have HS2:=hide (HT0.out.stored (sup l 1001))
   have HB2:=hide (below_setRow HB.out (Nat.le_refl w.heap.size) (row (sup l 1001)))
   go_wp2_with (first | (refine wpList_load60 HT1.out rfl _ rfl rfl ?_) | (refine wpList_store60 (sup l 1001) HT0.out rfl _ _ rfl rfl rfl ?_))
   refine bodyPost_ret (v:=totV (sup l 1001)) ?_ rfl ⟨rfl,HB2.out⟩
   rw [results_one_cell rfl]
   simp [asAddr,Result.andThen,load60 HS2.out,totV]
theorem apart_any (a b:Int) (w:World) (h1:-1000000≤a) (h2:a≤1000000) (h3:-1000000≤b) (h4:b≤1000000):Calls Tryz.prog 192 #[.int .i64 a,.int .i64 b] w fun e w'=>e = .returned (.int .i64 (Cv.size (a - b)))∧w' = w:=by
 go_enter Tryz.func192,Tryz.ntmps192
 go_wp2
 all_goals go_ret
 all_goals exact ⟨ret_int (by unfold Cv.size;omega),rfl⟩
def worthV (v s a:Int):Value:=.agg #[.int .i64 v,.int .i64 s,.int .i64 a]
theorem isBetter_any (v s a v' s' a':Int) (w:World):Calls Tryz.prog 193 #[worthV v s a,worthV v' s' a'] w fun e w'=>e = .returned (.bool (Cv.worthB v s a v' s' a'))∧Below w.heap.size w w':=by
 show Calls Tryz.prog 193 #[.agg #[.int .i64 v,.int .i64 s,.int .i64 a],.agg #[.int .i64 v',.int .i64 s',.int .i64 a']] w _
 go_enter Tryz.func193,Tryz.ntmps193
 go_wp2
 all_goals go_ret
 all_goals
  refine ⟨ret_bool ?_,((Below.refl _ _).alloc (Nat.le_refl _) _).alloc (by simp) _⟩
  simp_all [Cv.worthB]
def Wor (w:World) (B:Nat) (v s a:Int):Prop:=w.heap[B]? = some (.cells #[.int .i64 v,.int .i64 s,.int .i64 a] 302 (0,0))
theorem Wor.later {w w':World} {B n:Nat} {v s a:Int} (h:Wor w B v s a) (hb:Below n w w') (hn:B < n):Wor w' B v s a:=(hb.block B hn).trans h
theorem Wor.lt {w:World} {B:Nat} {v s a:Int} (h:Wor w B v s a):B < w.heap.size:=(Array.getElem?_eq_some_iff.1 h).1
theorem Wor.cells {w:World} {B:Nat} {v s a:Int} (h:Wor w B v s a):w.cell? ⟨B,0,none⟩ = some (.int .i64 v)∧w.cell? ⟨B,1,none⟩ = some (.int .i64 s)∧w.cell? ⟨B,2,none⟩ = some (.int .i64 a):=by
 refine ⟨?_,?_,?_⟩ <;> (rw [cell_of_row w B _ _ _ _ h];rfl)
theorem Wor.frozen {w:World} {B:Nat} {v s a:Int} (h:Wor w B v s a) (i:Nat):w.frozen? ⟨B,i,none⟩ = false:=by
 simp [World.frozen?,show w.heap[B]? = _ from h]
theorem Wor.set {w:World} {B:Nat} {v s a:Int} (h:Wor w B v s a) (v' s' a':Int):Wor (((w.setCell ⟨B,0,none⟩ (.int .i64 v')).setCell ⟨B,1,none⟩ (.int .i64 s')).setCell ⟨B,2,none⟩ (.int .i64 a')) B v' s' a':=by
 unfold Wor at h ⊢
 have h1:(w.setCell ⟨B,0,none⟩ (.int .i64 v')).heap[B]? = some (.cells #[.int .i64 v',.int .i64 s,.int .i64 a] 302 (0,0)):=by
  rw [setCell_eq_setRow w B 0 _ _ _ _ h];exact setRow_heap w B _ _ _ _ h
 have h2:((w.setCell ⟨B,0,none⟩ (.int .i64 v')).setCell ⟨B,1,none⟩ (.int .i64 s')).heap[B]? = some (.cells #[.int .i64 v',.int .i64 s',.int .i64 a] 302 (0,0)):=by
  rw [setCell_eq_setRow _ B 1 _ _ _ _ h1];exact setRow_heap _ B _ _ _ _ h1
 rw [setCell_eq_setRow _ B 2 _ _ _ _ h2];exact setRow_heap _ B _ _ _ _ h2
set_option maxHeartbeats 2000000 in
theorem price_well (v:Value) (l:List Cv.Lot) (ref:Int) (w:World) (hv:Hid (Lots w v l)) (hok:Hid (Cv.Well l)) (hr:Wi.withinB ref 1 1000 = true)
  (HC:Hid (Calls Tryz.prog 189 #[v] w fun e w'=>e = .returned .nilIface∧Below w.heap.size w w')) :
  Calls Tryz.prog 162 #[v,.int .i64 ref] w fun e w'=>(∃ p vol,e = .returned (.tuple #[.int .i64 p,.int .i64 vol,.nilIface])∧Cv.Won l ref 1000 p vol)∧Below w.heap.size w w':=by
 have z60:=zero60
 have HD:Hid (∀ W,Below w.heap.size w W→Calls Tryz.prog 190 #[v] W fun e w'=>e = .returned (totV (dem l 0))∧Below W.heap.size W w'):=fun W hb=>demands_any v l W (hv.out.later hb) hok
 have HSu:Hid (∀ W,Below w.heap.size w W→Calls Tryz.prog 191 #[v] W fun e w'=>e = .returned (totV (sup l 1001))∧Below W.heap.size W w'):=fun W hb=>supplies_any v l W (hv.out.later hb) hok
 have hrr:1≤ref∧ref≤1000:=by simpa [Wi.withinB] using hr
 obtain ⟨rf1,rf2⟩:=hrr
 go_enter Tryz.func162,Tryz.ntmps162
 go_wp2_with fail
 refine HC.out.mono ?_
 rintro e w1 ⟨rfl,hb1⟩
 have HB1:=hide hb1
 clear hb1 HC
 simp only []
 go_wp2_with fail
 refine (within_any _ _ _ _).mono ?_
 rintro e w1 ⟨rfl,rfl⟩
 rw [hr]
 simp only []
 clear hr
 go_wp2_with fail
 refine (HD.out w1 HB1.out).mono ?_
 rintro e w2 ⟨rfl,hb2⟩
 have HB2:=hide (HB1.out.trans (hb2.mono HB1.out.size))
 clear hb2 HD HB1
 simp only []
 go_wp2_with fail
 refine (HSu.out w2 HB2.out).mono ?_
 rintro e w3 ⟨rfl,hb3⟩
 have HB3:=hide (HB2.out.trans (hb3.mono HB2.out.size))
 clear hb3 HSu HB2
 simp only [totV]
 have HA:Hid (Tot ((w3.alloc (.cells (row fun _=>0) 299)).alloc (.cells (row fun _=>0) 299)) w3.heap.size (fun _=>0)):=(Tot.new w3 _).alloc _
 have HA2:Hid (Tot (((w3.alloc (.cells (row fun _=>0) 299)).alloc (.cells (row fun _=>0) 299)).setRow w3.heap.size (row (dem l 0))) (w3.heap.size + 1) (fun _=>0)):=by
  have:=Tot.new (w3.alloc (.cells (row fun _=>0) 299)) (fun _=>0)
  rw [show (w3.alloc (.cells (row fun _=>0) 299)).heap.size = w3.heap.size + 1 by simp] at this
  exact this.beside _ (by omega)
 go_wp2_with (first | (refine wpList_store60 (dem l 0) HA.out rfl _ _ rfl rfl rfl ?_) | (refine wpList_store60 (sup l 1001) HA2.out rfl _ _ rfl rfl rfl ?_))
 have TD:Hid (Tot ((((w3.alloc (.cells (row fun _=>0) 299)).alloc (.cells (row fun _=>0) 299)).setRow w3.heap.size (row (dem l 0))).setRow (w3.heap.size + 1) (row (sup l 1001))) w3.heap.size (dem l 0)):=(HA.out.stored _).beside _ (by omega)
 have TS:Hid (Tot ((((w3.alloc (.cells (row fun _=>0) 299)).alloc (.cells (row fun _=>0) 299)).setRow w3.heap.size (row (dem l 0))).setRow (w3.heap.size + 1) (row (sup l 1001))) (w3.heap.size + 1) (sup l 1001)):=HA2.out.stored _
 have HB4:Hid (Below w.heap.size w ((((w3.alloc (.cells (row fun _=>0) 299)).alloc (.cells (row fun _=>0) 299)).setRow w3.heap.size (row (dem l 0))).setRow (w3.heap.size + 1) (row (sup l 1001)))) :=
  below_setRow (below_setRow ((HB3.out.alloc HB3.out.size _).alloc (by have:=HB3.out.size;simp;omega) _) HB3.out.size _) (by have:=HB3.out.size;omega) _
 have hz4:Hid (((((w3.alloc (.cells (row fun _=>0) 299)).alloc (.cells (row fun _=>0) 299)).setRow w3.heap.size (row (dem l 0))).setRow (w3.heap.size + 1) (row (sup l 1001))).heap.size = w3.heap.size + 1 + 1):=by show _ = _;simp
 clear HA HA2
 generalize (((w3.alloc (.cells (row fun _=>0) 299)).alloc (.cells (row fun _=>0) 299)).setRow w3.heap.size (row (dem l 0))).setRow (w3.heap.size + 1) (row (sup l 1001)) = w4 at *
 have TD5:=hide (TD.out.alloc (.cells #[.int .i64 0,.int .i64 0,.int .i64 0] 302))
 have TS5:=hide (TS.out.alloc (.cells #[.int .i64 0,.int .i64 0,.int .i64 0] 302))
 have HB5:=hide (HB4.out.alloc HB4.out.size (.cells #[.int .i64 0,.int .i64 0,.int .i64 0] 302))
 have WB5:Hid (Wor (w4.alloc (.cells #[.int .i64 0,.int .i64 0,.int .i64 0] 302)) (w3.heap.size + 1 + 1) 0 0 0):=by
  have:=heap_alloc_last w4 (.cells #[.int .i64 0,.int .i64 0,.int .i64 0] 302)
  rw [hz4.out] at this
  exact this
 have hz5:Hid ((w4.alloc (.cells #[.int .i64 0,.int .i64 0,.int .i64 0] 302)).heap.size = w3.heap.size + 3):=by show _ = _;simp [hz4.out]
 have HZ:Hid (w.heap.size≤w3.heap.size):=HB3.out.size
 clear TD TS HB4 hz4 HB3
 generalize w4.alloc (.cells #[.int .i64 0,.int .i64 0,.int .i64 0] 302) = w5 at *
 generalize w3.heap.size = N at *
 go_loopw [4,11] (fun pr i wr=>∃ (q:Nat) (p vol:Int),(1≤q∧q≤1001)∧i = .int .i64 q∧pr = .int .i64 p∧Cv.Won l ref ((q:Int) - 1) p vol∧Tot wr N (dem l 0)∧Tot wr (N + 1) (sup l 1001)∧Wor wr (N + 1 + 1) vol (Cv.wl l p) (Cv.wa ref p)∧Below w.heap.size w wr) (fun _ i _=>1001 - (intOf i).toNat)
 case atStart=>exact ⟨1,0,0,by omega,rfl,rfl,Cv.Won.start l ref,TD5.out,TS5.out,WB5.out,HB5.out⟩
 case round =>
  obtain ⟨q,p,vol,hq,rfl,rfl,hwon,hd,hs,hw,hb⟩:=hrel
  obtain ⟨hq1,hq2⟩:=hq
  have HW:=hide hwon;have HTD:=hide hd;have HTS:=hide hs;have HWo:=hide hw;have HB:=hide hb
  clear hwon hd hs hw hb TD5 TS5 WB5 HB5
  by_cases hlt:q≤1000
  ·have hki:(q:Int)≤1000:=by omega
   have hqi:(q:Int) < 1001:=by omega
   have d1:=HTD.out.cell (i:=q) (by omega)
   have d2:=HTS.out.cell (i:=q) (by omega)
   rw [show dem l 0 q = Cv.demand l q by unfold dem;rw [if_pos (by omega)]] at d1
   rw [show sup l 1001 q = Cv.supply l q by unfold sup;rw [if_pos (by omega)]] at d2
   have b1:0≤Cv.demand l q∧Cv.demand l q≤120000:=by
    have:=Cv.sumIf_bounds (Cv.dB q) l hok.out.oks;have h2:=hok.out.1;unfold Cv.demand;omega
   have b2:0≤Cv.supply l q∧Cv.supply l q≤120000:=by
    have:=Cv.sumIf_bounds (Cv.sB q) l hok.out.oks;have h2:=hok.out.1;unfold Cv.supply;omega
   have HV:Hid (Cv.volume l q = min (Cv.demand l q) (Cv.supply l q)):=rfl
   have HL:Hid (Cv.left l q = Cv.size (Cv.demand l q - Cv.supply l q)):=rfl
   have HAw:Hid (Cv.away ref q = Cv.size ((q:Int) - ref)):=rfl
   generalize Cv.demand l q = dm at *
   generalize Cv.supply l q = sp at *
   obtain ⟨b11,b12⟩:=b1
   obtain ⟨b21,b22⟩:=b2
   go_wp2_with fail
   obtain ⟨val,hvF,hvT⟩:∃ val:Bool→Nat→World,(∀ n,val false n = wr.drewN n)∧(∀ n,val true n = (wr.drewN n).alloc (.cells #[.int .i64 0,.int .i64 0,.int .i64 0] 302)):=⟨fun b n=>bif b then (wr.drewN n).alloc (.cells #[.int .i64 0,.int .i64 0,.int .i64 0] 302) else wr.drewN n,fun _=>rfl,fun _=>rfl⟩
   have f1:∀ n,(val false n).cell? ⟨N,q,none⟩ = some (.int .i64 dm):=fun n=>by rw [hvF];exact d1
   have f2:∀ n,(val false n).cell? ⟨N + 1,q,none⟩ = some (.int .i64 sp):=fun n=>by rw [hvF];exact d2
   have t1:∀ n,(val true n).cell? ⟨N,q,none⟩ = some (.int .i64 dm):=fun n=>by
    rw [hvT,((Below.refl (wr.drewN n).heap.size _).alloc (Nat.le_refl _) _).cell (p:=⟨N,q,none⟩) (World.block_lt_of_cell? _ _ (show (wr.drewN n).cell? ⟨N,q,none⟩ = _ from d1))];exact d1
   have t2:∀ n,(val true n).cell? ⟨N + 1,q,none⟩ = some (.int .i64 sp):=fun n=>by
    rw [hvT,((Below.refl (wr.drewN n).heap.size _).alloc (Nat.le_refl _) _).cell (p:=⟨N + 1,q,none⟩) (World.block_lt_of_cell? _ _ (show (wr.drewN n).cell? ⟨N + 1,q,none⟩ = _ from d2))];exact d2
   have HvF:=hide hvF;have HvT:=hide hvT
   have hal:∀ (a:Act) n,(execOp a.eval { dst:=some 12,op:=Op.alloc 302,type:=0,pos:= "clear.go:22",after:=#[],guard:=none }).run Tryz.prog (val false n) = .ok (.value (.pointer (some ⟨wr.heap.size,0,none⟩))) (val true n):=by
    intro a n
    rw [hvF,hvT]
    kernel_rfl
   clear hvF hvT
   refine region_free_alloc_lit (val:=val) (p:=.pointer (some ⟨wr.heap.size,0,none⟩)) 18 rfl (by kernel_rfl) (by kernel_rfl) (by kernel_rfl) rfl (by rw [HvF.out];rfl) hal ?_
   clear hal d1 d2
   have wr1:IntKind.i64.wrap (dm - sp) = dm - sp:=IntWalk.i64_in _ (by omega)
   have wr2:IntKind.i64.wrap ((q:Int) - ref) = (q:Int) - ref:=IntWalk.i64_in _ (by omega)
   simp only [List.take_succ_cons,List.take_zero]
   repeat (refine walkF_step (fun K hK=>?_);refine ⟨by rfl,?_⟩;unfold quietF;go_simp;first | (refine hK _ ?_;clear hK K) | (refine ⟨_,⟨fun n=>(apart_any _ _ _ (by omega) (by omega) (by omega) (by omega)).mono (fun e w' ⟨he,hw⟩=>⟨he,n,hw⟩),fun n=>(apart_any _ _ _ (by omega) (by omega) (by omega) (by omega)).mono (fun e w' ⟨he,hw⟩=>⟨he,n,hw⟩)⟩,hK _ ?_⟩;clear hK K))
   rw [show (if sp < dm then sp else dm) = Cv.volume l q by rw [HV.out];split <;> omega,← HL.out,← HAw.out]
   refine walkF_nil ?_
   intro n
   rw [HvT.out]
   have HTD2:=hide (HTD.out.drew n)
   have HTS2:=hide (HTS.out.drew n)
   have HWo2:Hid (Wor (wr.drewN n) (N + 1 + 1) vol (Cv.wl l p) (Cv.wa ref p)):=HWo.out
   have HB2:Hid (Below w.heap.size w (wr.drewN n)):=HB.out.trans ((blw_drew n).mono HB.out.size)
   rw [show wr.heap.size = (wr.drewN n).heap.size from rfl]
   clear HvF HvT f1 f2 t1 t2 HTD HTS HWo HB wr1 wr2 HV HL HAw
   generalize wr.drewN n = W at *
   have HNz:Hid (N + 1 + 1 < W.heap.size):=HWo2.out.lt
   have HBa:Hid (Below W.heap.size W (W.alloc (.cells #[.int .i64 (Cv.volume l q),.int .i64 (Cv.left l q),.int .i64 (Cv.away ref q)] 302))):=(Below.refl _ _).alloc (Nat.le_refl _) _
   obtain ⟨o0,o1,o2⟩:=(HWo2.out.later HBa.out HNz.out).cells
   have HIB:=hide (isBetter_any (Cv.volume l q) (Cv.left l q) (Cv.away ref q) vol (Cv.wl l p) (Cv.wa ref p) (W.alloc (.cells #[.int .i64 (Cv.volume l q),.int .i64 (Cv.left l q),.int .i64 (Cv.away ref q)] 302)))
   go_wp2_with fail
   refine HIB.out.mono ?_
   rintro e w6 ⟨rfl,hb6⟩
   have HT6:Hid (Wor w6 W.heap.size (Cv.volume l q) (Cv.left l q) (Cv.away ref q)):=(heap_alloc_last W _ |> fun h=>(show Wor _ _ _ _ _ from h)).later hb6 (by simp)
   have HB6:Hid (Below W.heap.size W w6):=HBa.out.trans (hb6.mono HBa.out.size)
   have HTD6:Hid (Tot w6 N (dem l 0)):=HTD2.out.later HB6.out HTD2.out.lt
   have HTS6:Hid (Tot w6 (N + 1) (sup l 1001)):=HTS2.out.later HB6.out HTS2.out.lt
   have HWo6:Hid (Wor w6 (N + 1 + 1) vol (Cv.wl l p) (Cv.wa ref p)):=HWo2.out.later HB6.out HNz.out
   have HBB:Hid (Below w.heap.size w w6):=HB2.out.trans (HB6.out.mono HB2.out.size)
   clear hb6 HBa o0 o1 o2 HIB HTD2 HTS2 HWo2 HB2 HB6
   have HN2:Hid (N + 1 + 1≠W.heap.size):=by show _≠_;have:=HNz.out;omega
   clear HNz
   cases hwb:Cv.worthB (Cv.volume l q) (Cv.left l q) (Cv.away ref q) vol (Cv.wl l p) (Cv.wa ref p) with
   | false =>
    have Hwb:=hide hwb
    clear hwb
    simp only []
    go_wp2_with fail
    have hk:=HW.out.keep hok.out.oks (by rw [show (q:Int) - 1 + 1 = q by omega];exact Hwb.out)
    rw [show (q:Int) - 1 + 1 = ((q + 1:Nat):Int) - 1 by omega] at hk
    exact ⟨⟨q + 1,p,vol,by omega,by go_num,rfl,hk,HTD6.out,HTS6.out,HWo6.out,HBB.out⟩,by simp [intOf];omega⟩
   | true =>
    have Hwb:=hide hwb
    clear hwb
    simp only []
    obtain ⟨g0,g1,g2⟩:=HT6.out.cells
    have h0:=HWo6.out.frozen 0
    have h1:=HWo6.out.frozen 1
    have h2:=HWo6.out.frozen 2
    obtain ⟨o0,o1,o2⟩:=HWo6.out.cells
    go_wp2_with fail
    refine region_quiet_tail 3 (by kernel_rfl) (by kernel_rfl) ?_
    simp only [List.take_succ_cons,List.take_zero,List.drop_succ_cons,List.drop_zero]
    repeat (first | go_big_quiet_step (fail) | quiet_step (fail))
    refine wpQuiet_nil ?_
    intro _ hw'
    obtain ⟨nq,hw''⟩:=hw'
    subst hw''
    have HBd:Hid (Below w.heap.size w (w6.drewN nq)):=HBB.out.trans ((blw_drew nq).mono HBB.out.size)
    have HTDd:=hide (HTD6.out.drew nq)
    have HTSd:=hide (HTS6.out.drew nq)
    have HWd:Hid (Wor (w6.drewN nq) (N + 1 + 1) vol (Cv.wl l p) (Cv.wa ref p)):=HWo6.out
    clear g0 g1 g2 h0 h1 h2 o0 o1 o2 HT6 HTD6 HTS6 HWo6 HBB
    generalize w6.drewN nq = w7 at *
    have h0:=HWd.out.frozen 0
    have h1:=HWd.out.frozen 1
    have h2:=HWd.out.frozen 2
    obtain ⟨o0,o1,o2⟩:=HWd.out.cells
    go_wp2_with fail
    have hk:=HW.out.take hok.out.oks (by omega) (by rw [show (q:Int) - 1 + 1 = q by omega];exact Hwb.out)
    rw [show (q:Int) - 1 + 1 = q by omega,show (q:Int) = ((q + 1:Nat):Int) - 1 by omega] at hk
    have hq0:((q + 1:Nat):Int) - 1 = q:=by omega
    rw [hq0] at hk
    have hw7:=HWd.out.set (Cv.volume l q) (Cv.left l q) (Cv.away ref q)
    refine ⟨⟨q + 1,q,Cv.volume l q,by omega,by go_num,rfl,by rw [hq0];exact hk,?_,?_,?_,?_⟩,by simp [intOf];omega⟩
    ·exact ((HTDd.out.other (by simp;omega) _).other (by simp;omega) _).other (by simp;omega) _
    ·exact ((HTSd.out.other (by simp) _).other (by simp) _).other (by simp) _
    ·rw [show Cv.wl l q = Cv.left l q by unfold Cv.wl;rw [if_neg (by omega)],show Cv.wa ref q = Cv.away ref q by unfold Cv.wa;rw [if_neg (by omega)]]
     exact hw7
    ·have:=HZ.out
     exact ((HBd.out.setCell (by simp;omega) _).setCell (by simp;omega) _).setCell (by simp;omega) _
  ·have hki:¬ (q:Int)≤1000:=by omega
   obtain rfl:q = 1001:=by omega
   obtain ⟨o0,o1,o2⟩:=HWo.out.cells
   go_wp2_with fail
   go_quiet (fail)
   have HBd:Hid (Below w.heap.size w (wr.drewN nq)):=HB.out.trans ((blw_drew nq).mono HB.out.size)
   generalize wr.drewN nq = w7 at *
   go_wp2_with fail
   go_ret3
   exact ⟨⟨p,vol,rfl,HW.out⟩,HBd.out⟩
theorem price_any (v:Value) (l:List Cv.Lot) (ref:Int) (T:TypeId) (v1 v6 v7:Value) (w:World) (hv:Lots w v l) (he:Hid (Er w T v1 v6 v7)) (hok:Cv.Well l) (hr:Wi.withinB ref 1 1000 = true) :
  Calls Tryz.prog 162 #[v,.int .i64 ref] w fun e w'=>(∃ p vol,e = .returned (.tuple #[.int .i64 p,.int .i64 vol,.nilIface])∧Cv.Won l ref 1000 p vol)∧Below w.heap.size w w' :=
 price_well v l ref w hv hok hr (check_well v l T v1 v6 v7 w hv he hok)
end Go.Proofs.YtidahfhingdlmaaGreatDoor
