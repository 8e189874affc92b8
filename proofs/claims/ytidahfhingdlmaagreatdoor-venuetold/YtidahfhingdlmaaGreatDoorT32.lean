/- The walks of check, Take and of the document's TakeOf. -/
import Derived.Test.YtidahfhingdlmaaGreatDoorT07
import Derived.Deep.RegionWith
import Derived.Laws.Rows
import Derived.OneCell
namespace Go.Proofs.YtidahfhingdlmaaGreatDoor
open Go.RowKit
set_option maxRecDepth 100000
section
variable {T:Nat→Value}
theorem s_row_later {w w1:World} {B:Nat} {o:Obj} (hb:Below w.heap.size w w1) (h:w.heap[B]? = some o):w1.heap[B]? = some o:=by rw [hb.block _ (lt_of_block h)];exact h
set_option maxHeartbeats 2000000 in
theorem s_check_any (on:Bool) (nx la:Int) (a:Ask) (w:World) (he:Hid (SEr w T)):Calls Tryz.prog 151 #[sV on nx la,askV a] w fun e w'=>e = .returned (errC T (Se.tc on nx a))∧Below w.heap.size w w':=by
 have HA:=hide (fun W (hb:Below w.heap.size w W)=>s_wcheck_any a W (he.out.later hb))
 have HT:Hid (Se.tc on nx a = if Se.ac a = 0 then (if (a.k == 108) = on then 11 else if a.sq = Se.aw on nx then 0 else 12) else Se.ac a):=rfl
 generalize Se.tc on nx a = tc at *
 generalize Se.ac a = ac at *
 have HW:=hide (fun W=>awaited_any on nx la W)
 generalize Se.aw on nx = aw at *
 unfold askV askA sV at *
 have HB0:Hid (Below w.heap.size w ((w.alloc (.cells #[.bool on,.int .i64 nx,.int .i64 la] 68)).alloc (.cells #[.int .u8 a.k,.int .i64 a.c,.int .i64 a.sq,.int .i64 a.it,.int .i64 a.sd,.int .i64 a.pr,.int .i64 a.q,.int .i64 a.id] 45))):=((Below.refl _ _).alloc (Nat.le_refl _) _).alloc (by simp) _
 have HS0:Hid (((w.alloc (.cells #[.bool on,.int .i64 nx,.int .i64 la] 68)).alloc (.cells #[.int .u8 a.k,.int .i64 a.c,.int .i64 a.sq,.int .i64 a.it,.int .i64 a.sd,.int .i64 a.pr,.int .i64 a.q,.int .i64 a.id] 45)).heap[w.heap.size]? = some (.cells #[.bool on,.int .i64 nx,.int .i64 la] 68 (0,0))):=(Below.heap_alloc _ _ _ (by simp)).trans (heap_alloc_new _ _)
 have HD0:Hid (((w.alloc (.cells #[.bool on,.int .i64 nx,.int .i64 la] 68)).alloc (.cells #[.int .u8 a.k,.int .i64 a.c,.int .i64 a.sq,.int .i64 a.it,.int .i64 a.sd,.int .i64 a.pr,.int .i64 a.q,.int .i64 a.id] 45)).heap[w.heap.size + 1]? = some (.cells #[.int .u8 a.k,.int .i64 a.c,.int .i64 a.sq,.int .i64 a.it,.int .i64 a.sd,.int .i64 a.pr,.int .i64 a.q,.int .i64 a.id] 45 (0,0))):=by
  have h:=heap_alloc_new (w.alloc (.cells #[.bool on,.int .i64 nx,.int .i64 la] 68)) (.cells #[.int .u8 a.k,.int .i64 a.c,.int .i64 a.sq,.int .i64 a.it,.int .i64 a.sd,.int .i64 a.pr,.int .i64 a.q,.int .i64 a.id] 45)
  have e:(w.alloc (.cells #[.bool on,.int .i64 nx,.int .i64 la] 68)).heap.size = w.heap.size + 1:=by simp
  show _ = _
  rw [e] at h
  exact h
 go_enter Tryz.func151,Tryz.ntmps151
 go_wp2_with fail
 refine (HA.out _ HB0.out).mono ?_
 rintro e w2 ⟨rfl,hb2⟩
 have HB2:=hide (HB0.out.trans (hb2.mono HB0.out.size))
 have HS:=hide (s_row_later hb2 HS0.out)
 have HD:=hide (s_row_later hb2 HD0.out)
 have c0:w2.cell? ⟨w.heap.size,0,none⟩ = some (.bool on):=by rw [cell_of_row _ _ 0 _ _ _ HS.out];rfl
 have c1:w2.cell? ⟨w.heap.size,1,none⟩ = some (.int .i64 nx):=by rw [cell_of_row _ _ 1 _ _ _ HS.out];rfl
 have c2:w2.cell? ⟨w.heap.size,2,none⟩ = some (.int .i64 la):=by rw [cell_of_row _ _ 2 _ _ _ HS.out];rfl
 have d0:w2.cell? ⟨w.heap.size + 1,0,none⟩ = some (.int .u8 a.k):=by rw [cell_of_row _ _ 0 _ _ _ HD.out];rfl
 have d1:w2.cell? ⟨w.heap.size + 1,1,none⟩ = some (.int .i64 a.c):=by rw [cell_of_row _ _ 1 _ _ _ HD.out];rfl
 have d2:w2.cell? ⟨w.heap.size + 1,2,none⟩ = some (.int .i64 a.sq):=by rw [cell_of_row _ _ 2 _ _ _ HD.out];rfl
 have d3:w2.cell? ⟨w.heap.size + 1,3,none⟩ = some (.int .i64 a.it):=by rw [cell_of_row _ _ 3 _ _ _ HD.out];rfl
 have d4:w2.cell? ⟨w.heap.size + 1,4,none⟩ = some (.int .i64 a.sd):=by rw [cell_of_row _ _ 4 _ _ _ HD.out];rfl
 have d5:w2.cell? ⟨w.heap.size + 1,5,none⟩ = some (.int .i64 a.pr):=by rw [cell_of_row _ _ 5 _ _ _ HD.out];rfl
 have d6:w2.cell? ⟨w.heap.size + 1,6,none⟩ = some (.int .i64 a.q):=by rw [cell_of_row _ _ 6 _ _ _ HD.out];rfl
 have d7:w2.cell? ⟨w.heap.size + 1,7,none⟩ = some (.int .i64 a.id):=by rw [cell_of_row _ _ 7 _ _ _ HD.out];rfl
 have hsz:w.heap.size + 2≤w2.heap.size:=by have:=hb2.size;simp at this;omega
 have hst:=(he.out.later HB2.out).st
 have hod:=(he.out.later HB2.out).od
 have hsz5:=(he.out.later HB2.out).size
 clear hb2 HA HB0 HS0 HD0
 simp only []
 by_cases hc:ac = 0
 ·subst hc
  rw [show errC T 0 = .nilIface from rfl]
  by_cases hk:(a.k == 108) = on
  ·have hT:tc = 11:=by rw [HT.out];simp [hk]
   subst hT
   subst hk
   clear HT HW
   cases hkk:(a.k == 108)
   all_goals
    rw [hkk] at c0
    have hk1:=hkk
    simp only [beq_eq_false_iff_ne,beq_iff_eq] at hk1
    go_wp2
    go_ret
    exact ⟨rfl,HB2.out⟩
  ·have hk2:(a.k == 108) = !on:=by
    cases on <;> cases h:(a.k == 108) <;> simp_all
   by_cases hq:a.sq = aw
   ·have hT:tc = 0:=by rw [HT.out];simp [hk,hq]
    subst hT
    have hq':(a.sq != aw) = false:=by simp [hq]
    clear HT hq
    cases on
    all_goals
     have hk1:=hk2
     simp only [Bool.not_true,Bool.not_false,beq_eq_false_iff_ne,beq_iff_eq] at hk1
     go_wp2
     have d2d:w2.drew.cell? ⟨w.heap.size + 1,2,none⟩ = some (.int .i64 a.sq):=d2
     have HBd:Hid (Below w2.heap.size w2 w2.drew):=⟨rfl,rfl,rfl,Nat.le_refl _,fun _ _=>rfl⟩
     go_region_with (go_at_call 177;refine (HW.out _).mono ?_;rintro e w3 ⟨rfl,hb3⟩;have d2e:=cell_later hb3 d2d;have HB3:=hide (HB2.out.trans ((HBd.out.trans hb3).mono HB2.out.size));have hod3:=(he.out.later HB3.out).od;have hsz3:=(he.out.later HB3.out).size;clear hb3)
     all_goals
      go_wp2
      go_ret
      exact ⟨rfl,HB3.out⟩
   ·have hT:tc = 12:=by rw [HT.out];simp [hk,hq]
    subst hT
    have hq':(a.sq != aw) = true:=by simp [hq]
    clear HT
    cases on
    all_goals
     have hk1:=hk2
     simp only [Bool.not_true,Bool.not_false,beq_eq_false_iff_ne,beq_iff_eq] at hk1
     go_wp2
     have d2d:w2.drew.cell? ⟨w.heap.size + 1,2,none⟩ = some (.int .i64 a.sq):=d2
     have HBd:Hid (Below w2.heap.size w2 w2.drew):=⟨rfl,rfl,rfl,Nat.le_refl _,fun _ _=>rfl⟩
     go_region_with (go_at_call 177;refine (HW.out _).mono ?_;rintro e w3 ⟨rfl,hb3⟩;have d2e:=cell_later hb3 d2d;have HB3:=hide (HB2.out.trans ((HBd.out.trans hb3).mono HB2.out.size));have hod3:=(he.out.later HB3.out).od;have hsz3:=(he.out.later HB3.out).size;clear hb3)
     all_goals
      go_wp2
      go_ret
      exact ⟨rfl,HB3.out⟩
 ·obtain ⟨d,rfl⟩:∃ d,ac = d + 1:=⟨ac - 1,by omega⟩
  have hT:tc = d + 1:=by rw [HT.out];simp
  subst hT
  rw [show errC T (d + 1) = .iface 362 (T d) from rfl]
  clear HT hc HW
  go_wp2
  go_ret
  exact ⟨rfl,HB2.out⟩
end
section
variable {T:Nat→Value}
theorem set3_row {W:World} {R:Nat} {t:TypeId} {x0 x1 x2:Value} (hz:W.heap[R]? = some (.cells #[x0,x1,x2] t (0,0))) (v0 v1 v2:Value) :
  (((W.setCell ⟨R,0,none⟩ v0).setCell ⟨R,1,none⟩ v1).setCell ⟨R,2,none⟩ v2).heap[R]? = some (.cells #[v0,v1,v2] t (0,0)):=by
 have h0:(W.setCell ⟨R,0,none⟩ v0).heap[R]? = some (.cells #[v0,x1,x2] t (0,0)):=by
  rw [setCell_eq_setRow W R 0 _ _ _ _ hz];exact setRow_heap W R _ _ _ _ hz
 have h1:((W.setCell ⟨R,0,none⟩ v0).setCell ⟨R,1,none⟩ v1).heap[R]? = some (.cells #[v0,v1,x2] t (0,0)):=by
  rw [setCell_eq_setRow _ R 1 _ _ _ _ h0];exact setRow_heap _ R _ _ _ _ h0
 rw [setCell_eq_setRow _ R 2 _ _ _ _ h1];exact setRow_heap _ R _ _ _ _ h1
theorem below3 {n R:Nat} {w W:World} (h:Below n w W) (hR:n≤R) (v0 v1 v2:Value):Below n w (((W.setCell ⟨R,0,none⟩ v0).setCell ⟨R,1,none⟩ v1).setCell ⟨R,2,none⟩ v2):=by
 have h0:Below n w (W.setCell ⟨R,0,none⟩ v0):=h.setCell hR v0
 have h1:Below n w ((W.setCell ⟨R,0,none⟩ v0).setCell ⟨R,1,none⟩ v1):=h0.setCell hR v1
 exact h1.setCell hR v2
theorem Se.tc_ac {on:Bool} {nx:Int} {a:Ask} (h:Se.tc on nx a = 0):Se.ac a = 0:=by
 unfold Se.tc at h
 by_cases e:Se.ac a = 0
 ·exact e
 ·rw [if_neg e] at h;exact absurd h e
set_option maxHeartbeats 2000000 in
theorem s_take_any (on:Bool) (nx la now:Int) (a:Ask) (w:World) (he:Hid (SEr w T)):Calls Tryz.prog 120 #[sV on nx la,askV a,.int .i64 now] w fun e w'=>e = .returned (.tuple #[sV (Se.tO on nx a) (Se.tN on nx a) (Se.tL on nx la a now),errC T (Se.tc on nx a)])∧Below w.heap.size w w':=by
 have HA:=hide (fun W (hb:Below w.heap.size w W)=>s_check_any on nx la a W (hide (he.out.later hb)))
 have HSQ:Hid (Se.tc on nx a = 0→0≤a.sq∧a.sq≤1073741824):=fun h=>Se.ac_zero (Se.tc_ac h)
 have HN:Hid (Se.tO on nx a = (if Se.tc on nx a = 0 then !(a.k == 113) else on)∧Se.tN on nx a = (if Se.tc on nx a = 0 then (if a.k = 113 then 0 else a.sq + 1) else nx)∧Se.tL on nx la a now = if Se.tc on nx a = 0 then (if a.k = 113 then 0 else now) else la):=⟨rfl,rfl,rfl⟩
 generalize Se.tO on nx a = tO at *
 generalize Se.tN on nx a = tN at *
 generalize Se.tL on nx la a now = tL at *
 generalize Se.tc on nx a = tc at *
 unfold askV askA sV at *
 have HB0:Hid (Below w.heap.size w (((w.alloc (.cells #[.bool on,.int .i64 nx,.int .i64 la] 68)).alloc (.cells #[.int .u8 a.k,.int .i64 a.c,.int .i64 a.sq,.int .i64 a.it,.int .i64 a.sd,.int .i64 a.pr,.int .i64 a.q,.int .i64 a.id] 45)).alloc (.cells #[.bool false,.int .i64 0,.int .i64 0] 68))):=(((Below.refl _ _).alloc (Nat.le_refl _) _).alloc (by simp) _).alloc (by simp;omega) _
 have eA:(w.alloc (.cells #[.bool on,.int .i64 nx,.int .i64 la] 68)).heap.size = w.heap.size + 1:=by simp
 have eB:((w.alloc (.cells #[.bool on,.int .i64 nx,.int .i64 la] 68)).alloc (.cells #[.int .u8 a.k,.int .i64 a.c,.int .i64 a.sq,.int .i64 a.it,.int .i64 a.sd,.int .i64 a.pr,.int .i64 a.q,.int .i64 a.id] 45)).heap.size = w.heap.size + 2:=by simp
 have HS0:Hid ((((w.alloc (.cells #[.bool on,.int .i64 nx,.int .i64 la] 68)).alloc (.cells #[.int .u8 a.k,.int .i64 a.c,.int .i64 a.sq,.int .i64 a.it,.int .i64 a.sd,.int .i64 a.pr,.int .i64 a.q,.int .i64 a.id] 45)).alloc (.cells #[.bool false,.int .i64 0,.int .i64 0] 68)).heap[w.heap.size]? = some (.cells #[.bool on,.int .i64 nx,.int .i64 la] 68 (0,0))):=(Below.heap_alloc _ _ _ (by omega)).trans ((Below.heap_alloc _ _ _ (by omega)).trans (heap_alloc_new _ _))
 have HD0:Hid ((((w.alloc (.cells #[.bool on,.int .i64 nx,.int .i64 la] 68)).alloc (.cells #[.int .u8 a.k,.int .i64 a.c,.int .i64 a.sq,.int .i64 a.it,.int .i64 a.sd,.int .i64 a.pr,.int .i64 a.q,.int .i64 a.id] 45)).alloc (.cells #[.bool false,.int .i64 0,.int .i64 0] 68)).heap[w.heap.size + 1]? = some (.cells #[.int .u8 a.k,.int .i64 a.c,.int .i64 a.sq,.int .i64 a.it,.int .i64 a.sd,.int .i64 a.pr,.int .i64 a.q,.int .i64 a.id] 45 (0,0))):=by
  have h:=heap_alloc_new (w.alloc (.cells #[.bool on,.int .i64 nx,.int .i64 la] 68)) (.cells #[.int .u8 a.k,.int .i64 a.c,.int .i64 a.sq,.int .i64 a.it,.int .i64 a.sd,.int .i64 a.pr,.int .i64 a.q,.int .i64 a.id] 45)
  show _ = _
  rw [eA] at h
  exact (Below.heap_alloc _ _ _ (by omega)).trans h
 have HZ0:Hid ((((w.alloc (.cells #[.bool on,.int .i64 nx,.int .i64 la] 68)).alloc (.cells #[.int .u8 a.k,.int .i64 a.c,.int .i64 a.sq,.int .i64 a.it,.int .i64 a.sd,.int .i64 a.pr,.int .i64 a.q,.int .i64 a.id] 45)).alloc (.cells #[.bool false,.int .i64 0,.int .i64 0] 68)).heap[w.heap.size + 2]? = some (.cells #[.bool false,.int .i64 0,.int .i64 0] 68 (0,0))):=by
  have h:=heap_alloc_new ((w.alloc (.cells #[.bool on,.int .i64 nx,.int .i64 la] 68)).alloc (.cells #[.int .u8 a.k,.int .i64 a.c,.int .i64 a.sq,.int .i64 a.it,.int .i64 a.sd,.int .i64 a.pr,.int .i64 a.q,.int .i64 a.id] 45)) (.cells #[.bool false,.int .i64 0,.int .i64 0] 68)
  show _ = _
  rw [eB] at h
  exact h
 clear eA eB
 go_enter Tryz.func120,Tryz.ntmps120
 go_wp2_with fail
 refine (HA.out _ HB0.out).mono ?_
 rintro e w2 ⟨rfl,hb2⟩
 have HB2:=hide (HB0.out.trans (hb2.mono HB0.out.size))
 have HS:=hide (s_row_later hb2 HS0.out)
 have HD:=hide (s_row_later hb2 HD0.out)
 have HZ:=hide (s_row_later hb2 HZ0.out)
 have c0:w2.cell? ⟨w.heap.size,0,none⟩ = some (.bool on):=by rw [cell_of_row _ _ 0 _ _ _ HS.out];rfl
 have c1:w2.cell? ⟨w.heap.size,1,none⟩ = some (.int .i64 nx):=by rw [cell_of_row _ _ 1 _ _ _ HS.out];rfl
 have c2:w2.cell? ⟨w.heap.size,2,none⟩ = some (.int .i64 la):=by rw [cell_of_row _ _ 2 _ _ _ HS.out];rfl
 have d0:w2.cell? ⟨w.heap.size + 1,0,none⟩ = some (.int .u8 a.k):=by rw [cell_of_row _ _ 0 _ _ _ HD.out];rfl
 have d1:w2.cell? ⟨w.heap.size + 1,1,none⟩ = some (.int .i64 a.c):=by rw [cell_of_row _ _ 1 _ _ _ HD.out];rfl
 have d2:w2.cell? ⟨w.heap.size + 1,2,none⟩ = some (.int .i64 a.sq):=by rw [cell_of_row _ _ 2 _ _ _ HD.out];rfl
 have d3:w2.cell? ⟨w.heap.size + 1,3,none⟩ = some (.int .i64 a.it):=by rw [cell_of_row _ _ 3 _ _ _ HD.out];rfl
 have d4:w2.cell? ⟨w.heap.size + 1,4,none⟩ = some (.int .i64 a.sd):=by rw [cell_of_row _ _ 4 _ _ _ HD.out];rfl
 have d5:w2.cell? ⟨w.heap.size + 1,5,none⟩ = some (.int .i64 a.pr):=by rw [cell_of_row _ _ 5 _ _ _ HD.out];rfl
 have d6:w2.cell? ⟨w.heap.size + 1,6,none⟩ = some (.int .i64 a.q):=by rw [cell_of_row _ _ 6 _ _ _ HD.out];rfl
 have d7:w2.cell? ⟨w.heap.size + 1,7,none⟩ = some (.int .i64 a.id):=by rw [cell_of_row _ _ 7 _ _ _ HD.out];rfl
 have r0:w2.cell? ⟨w.heap.size + 2,0,none⟩ = some (.bool false):=by rw [cell_of_row _ _ 0 _ _ _ HZ.out];rfl
 have q0:w2.frozen? ⟨w.heap.size + 2,0,none⟩ = false:=by simp [World.frozen?,HZ.out]
 have r1:w2.cell? ⟨w.heap.size + 2,1,none⟩ = some (.int .i64 0):=by rw [cell_of_row _ _ 1 _ _ _ HZ.out];rfl
 have q1:w2.frozen? ⟨w.heap.size + 2,1,none⟩ = false:=by simp [World.frozen?,HZ.out]
 have r2:w2.cell? ⟨w.heap.size + 2,2,none⟩ = some (.int .i64 0):=by rw [cell_of_row _ _ 2 _ _ _ HZ.out];rfl
 have q2:w2.frozen? ⟨w.heap.size + 2,2,none⟩ = false:=by simp [World.frozen?,HZ.out]
 have HRl:Hid (w.heap.size≤w.heap.size + 2):=Nat.le_add_right _ _
 have hsz:w.heap.size + 3≤w2.heap.size:=by have:=hb2.size;simp at this;omega
 clear hb2 HA HB0 HS0 HD0 HZ0
 simp only []
 by_cases hc:tc = 0
 ·subst hc
  obtain ⟨s1,s2⟩:=HSQ.out rfl
  rw [show errC T 0 = .nilIface from rfl]
  have hw:IntKind.i64.wrap (a.sq + 1) = a.sq + 1:=IntWalk.i64_in _ (by omega)
  by_cases hk:a.k = 113
  ·have h1:tO = false:=by rw [HN.out.1];simp [hk]
   have h2:tN = 0:=by rw [HN.out.2.1];simp [hk]
   have h3:tL = 0:=by rw [HN.out.2.2];simp [hk]
   subst h1 h2 h3
   have hk1:(a.k == 113) = true:=by simp [hk]
   clear HN HSQ
   go_wp2
   have hz9:=set3_row HZ.out (.bool false) (.int .i64 0) (.int .i64 0)
   have hb9:=below3 HB2.out HRl.out (.bool false) (.int .i64 0) (.int .i64 0)
   generalize ((w2.setCell ⟨w.heap.size + 2,0,none⟩ (.bool false)).setCell ⟨w.heap.size + 2,1,none⟩ (.int .i64 0)).setCell ⟨w.heap.size + 2,2,none⟩ (.int .i64 0) = Wf at *
   have z0:Wf.cell? ⟨w.heap.size + 2,0,none⟩ = some (.bool false):=by rw [cell_of_row Wf _ 0 _ _ _ hz9];rfl
   have z1:Wf.cell? ⟨w.heap.size + 2,1,none⟩ = some (.int .i64 0):=by rw [cell_of_row Wf _ 1 _ _ _ hz9];rfl
   have z2:Wf.cell? ⟨w.heap.size + 2,2,none⟩ = some (.int .i64 0):=by rw [cell_of_row Wf _ 2 _ _ _ hz9];rfl
   exact bodyPost_ret (v:=.tuple #[.agg #[.bool false,.int .i64 0,.int .i64 0],.nilIface]) (by simp [results,Tryz.results120,go_sem,z0,z1,z2]) rfl ⟨rfl,hb9⟩
  ·have h1:tO = true:=by rw [HN.out.1];simp [hk]
   have h2:tN = a.sq + 1:=by rw [HN.out.2.1];simp [hk]
   have h3:tL = now:=by rw [HN.out.2.2];simp [hk]
   subst h1 h2 h3
   have hk1:(a.k == 113) = false:=by simp [hk]
   clear HN HSQ
   go_wp2
   have hz9:=set3_row HZ.out (.bool true) (.int .i64 (a.sq + 1)) (.int .i64 tL)
   have hb9:=below3 HB2.out HRl.out (.bool true) (.int .i64 (a.sq + 1)) (.int .i64 tL)
   generalize ((w2.setCell ⟨w.heap.size + 2,0,none⟩ (.bool true)).setCell ⟨w.heap.size + 2,1,none⟩ (.int .i64 (a.sq + 1))).setCell ⟨w.heap.size + 2,2,none⟩ (.int .i64 tL) = Wf at *
   have z0:Wf.cell? ⟨w.heap.size + 2,0,none⟩ = some (.bool true):=by rw [cell_of_row Wf _ 0 _ _ _ hz9];rfl
   have z1:Wf.cell? ⟨w.heap.size + 2,1,none⟩ = some (.int .i64 (a.sq + 1)):=by rw [cell_of_row Wf _ 1 _ _ _ hz9];rfl
   have z2:Wf.cell? ⟨w.heap.size + 2,2,none⟩ = some (.int .i64 tL):=by rw [cell_of_row Wf _ 2 _ _ _ hz9];rfl
   exact bodyPost_ret (v:=.tuple #[.agg #[.bool true,.int .i64 (a.sq + 1),.int .i64 tL],.nilIface]) (by simp [results,Tryz.results120,go_sem,z0,z1,z2]) rfl ⟨rfl,hb9⟩
 ·obtain ⟨d,rfl⟩:∃ d,tc = d + 1:=⟨tc - 1,by omega⟩
  have h1:tO = on:=by rw [HN.out.1];simp
  have h2:tN = nx:=by rw [HN.out.2.1];simp
  have h3:tL = la:=by rw [HN.out.2.2];simp
  subst h1 h2 h3
  rw [show errC T (d + 1) = .iface 362 (T d) from rfl]
  clear HN HSQ hc
  go_wp2
  have hz9:=set3_row HZ.out (.bool tO) (.int .i64 tN) (.int .i64 tL)
  have hb9:=below3 HB2.out HRl.out (.bool tO) (.int .i64 tN) (.int .i64 tL)
  generalize ((w2.setCell ⟨w.heap.size + 2,0,none⟩ (.bool tO)).setCell ⟨w.heap.size + 2,1,none⟩ (.int .i64 tN)).setCell ⟨w.heap.size + 2,2,none⟩ (.int .i64 tL) = Wf at *
  have z0:Wf.cell? ⟨w.heap.size + 2,0,none⟩ = some (.bool tO):=by rw [cell_of_row Wf _ 0 _ _ _ hz9];rfl
  have z1:Wf.cell? ⟨w.heap.size + 2,1,none⟩ = some (.int .i64 tN):=by rw [cell_of_row Wf _ 1 _ _ _ hz9];rfl
  have z2:Wf.cell? ⟨w.heap.size + 2,2,none⟩ = some (.int .i64 tL):=by rw [cell_of_row Wf _ 2 _ _ _ hz9];rfl
  exact bodyPost_ret (v:=.tuple #[.agg #[.bool tO,.int .i64 tN,.int .i64 tL],.iface 362 (T d)]) (by simp [results,Tryz.results120,go_sem,z0,z1,z2]) rfl ⟨rfl,hb9⟩
end
end Go.Proofs.YtidahfhingdlmaaGreatDoor
