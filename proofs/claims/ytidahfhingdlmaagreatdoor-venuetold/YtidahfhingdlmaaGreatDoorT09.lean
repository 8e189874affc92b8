/- Check by its contracts: what is the first lot that is not well? -/
import Derived.Test.YtidahfhingdlmaaGreatDoorT07
import Derived.Test.YtidahfhingdlmaaGreatDoorT08
import Derived.Test.YtidahfhingdlmaaGreatDoorT02
import Derived.Test.YtidahfhingdlmaaGreatDoorT03
import Derived.RegionTactic
import Derived.ChangeAlike
namespace Go.Proofs.YtidahfhingdlmaaGreatDoor
open Go.RowKit
set_option maxRecDepth 100000
theorem blw_drew {w:World} (m:Nat):Below w.heap.size w (w.drewN m):=⟨rfl,rfl,rfl,Nat.le_refl _,fun _ _=>rfl⟩
structure Er (w:World) (T:TypeId) (v1 v6 v7:Value):Prop where
 c1:w.cell? ⟨1,0,none⟩ = some (.iface T v1)
 c6:w.cell? ⟨8,0,none⟩ = some (.iface T v6)
 c7:w.cell? ⟨4,0,none⟩ = some (.iface T v7)
theorem Er.later {w w':World} {T:TypeId} {v1 v6 v7:Value} (h:Er w T v1 v6 v7) (hb:Below w.heap.size w w'):Er w' T v1 v6 v7 :=
 ⟨cell_later hb h.c1,cell_later hb h.c6,cell_later hb h.c7⟩
theorem check_none (cap:Nat) (a:Option Addr) (w:World):Calls Tryz.prog 189 #[.slice a 0 cap] w fun e w'=>e = .returned .nilIface∧w' = w:=by
 go_enter Tryz.func189,Tryz.ntmps189
 go_wp2
 refine wp_loop_rounds 1 ?_
 rw [rounds_succ]
 go_wp2
 go_ret
 exact ⟨rfl,rfl⟩
theorem check_full (n cap:Nat) (a:Option Addr) (T:TypeId) (v1 v6 v7:Value) (w:World) (h:Er w T v1 v6 v7) (hn:120 < n):Calls Tryz.prog 189 #[.slice a n cap] w fun e w'=>e = .returned (.iface T v7)∧w' = w:=by
 have hn':(120:Int) < n:=by omega
 have c7:=h.c7
 go_enter Tryz.func189,Tryz.ntmps189
 go_wp2
 go_ret
 exact ⟨rfl,rfl⟩
set_option maxHeartbeats 2000000 in
theorem check_some (b off cap n:Nat) (l:List Cv.Lot) (T:TypeId) (v1 v6 v7:Value) (w:World) (hn:Hid (l.length = n)) (hn':n≤120) (hcap:n≤cap) (hl:Hid (LotsAt w b off l)) (he:Hid (Er w T v1 v6 v7)) :
  Calls Tryz.prog 189 #[.slice (some ⟨b,off,none⟩) n cap] w fun e w'=>(Cv.WellTo l n∧e = .returned .nilIface ∨
   ∃ i B,i < n∧Cv.WellTo l i∧Cv.okAt l i = false∧e = .returned (.iface 199 (.pointer (some ⟨B,0,none⟩)))∧w'.cell? ⟨B,0,none⟩ = some (.int .i64 (i:Nat))∧w'.cell? ⟨B,1,none⟩ = some (if Cv.ok (Cv.nth l i) = true then .iface T v6 else .iface T v1))∧Below w.heap.size w w':=by
 have hni:¬ (120:Int) < n:=by omega
 go_enter Tryz.func189,Tryz.ntmps189
 go_wp2
 go_loopw [11] (fun i wr=>∃ k:Nat,k≤n∧i = .int .i64 k∧Cv.WellTo l k∧Below w.heap.size w wr) (fun i _=>n - (intOf i).toNat)
 case atStart=>exact ⟨0,Nat.zero_le _,rfl,fun i hi=>absurd hi (Nat.not_lt_zero i),Below.refl _ _⟩
 case round =>
  obtain ⟨k,hk,rfl,hwl,hb⟩:=hrel
  have HW:=hide hwl;have HB:=hide hb
  clear hwl hb
  by_cases hlt:k < n
  ·have hki:(k:Int) < n:=by omega
   have hkc:k≤cap:=by omega
   obtain ⟨c0,c1,c2,c3,c4⟩:=(hl.out.later HB.out) k (by rw [hn.out];exact hlt)
   have HX:Hid (∃ x,x = Cv.nth l k):=⟨_,rfl⟩
   generalize hx:Cv.nth l k = x at *
   have HX:=hide hx
   clear hx
   go_wp2_with fail
   refine (lotOk_any x _).mono ?_
   rintro e w2 ⟨rfl,hb2⟩
   have HB2:Hid (Below w.heap.size w w2):=(HB.out.alloc HB.out.size _).trans (hb2.mono (by have:=HB.out.size;simp;omega))
   have d0:w2.cell? ⟨wr.heap.size,0,none⟩ = some (.int .i64 x.id):=by rw [hb2.cell (p:=⟨wr.heap.size,0,none⟩) (by simp)];simp
   clear hb2 c0 c1 c2 c3 c4
   cases hok:Cv.ok x with
   | false =>
    have Hok:=hide hok
    clear hok
    have e1:=(he.out.later HB2.out).c1
    simp only []
    go_wp2
    go_ret
    refine ⟨.inr ⟨k,w2.heap.size,hlt,HW.out,?_,rfl,by simp,?_⟩,HB2.out.alloc HB2.out.size _⟩
    ·unfold Cv.okAt;rw [HX.out,Hok.out];rfl
    ·rw [HX.out,Hok.out];simp
   | true =>
    have Hok:=hide hok
    clear hok
    have hL:=hide ((hl.out.later HB2.out).take k)
    have hT:Hid ((l.take k).length = k):=by show _ = _;rw [List.length_take,hn.out];omega
    simp only []
    go_wp2
    refine region_quiet_tail 5 (by kernel_rfl) (by kernel_rfl) ?_
    simp only [List.take_succ_cons,List.take_zero,List.drop_succ_cons,List.drop_zero]
    repeat (first | go_big_quiet_step (fail) | quiet_step (fail))
    refine wpQuiet_nil ?_
    intro _ hw'
    obtain ⟨nq,hw''⟩:=hw'
    subst hw''
    have HB3:Hid (Below w.heap.size w (w2.drewN nq)):=HB2.out.trans ((blw_drew nq).mono HB2.out.size)
    have hL3:=hide (hL.out.later (blw_drew nq))
    clear hL
    generalize w2.drewN nq = w3 at *
    go_wp2_with fail
    refine (hasID_any b off cap k x.id (l.take k) w3 hT (by omega) hL3).mono ?_
    rintro e w4 ⟨rfl,hb4⟩
    have HB4:=hide (HB3.out.trans (hb4.mono HB3.out.size))
    clear hb4 hL3 d0
    cases hha:Cv.has (l.take k) x.id with
    | true =>
     have Hha:=hide hha
     clear hha
     have e6:=(he.out.later HB4.out).c6
     simp only []
     go_wp2
     go_ret
     refine ⟨.inr ⟨k,w4.heap.size,hlt,HW.out,?_,rfl,by simp,?_⟩,HB4.out.alloc HB4.out.size _⟩
     ·unfold Cv.okAt;rw [HX.out,Hok.out,Hha.out];rfl
     ·rw [HX.out,Hok.out];simp
    | false =>
     have hwl':Cv.WellTo l (k + 1):=by
      intro i hi
      by_cases e:i = k
      ·rw [e];unfold Cv.okAt;rw [HX.out,Hok.out,hha];rfl
      ·exact HW.out i (by omega)
     have HW':=hide hwl'
     clear hwl' hha
     simp only []
     go_wp2
     exact ⟨⟨k + 1,by omega,by go_num,HW'.out,HB4.out⟩,by simp [intOf];omega⟩
  ·have hki:¬ (k:Int) < n:=by omega
   have hkk:k = n:=by omega
   have hwl:=HW.out
   rw [hkk] at hwl
   have Hwl:=hide hwl
   clear hwl hkk
   go_wp2
   go_ret
   exact ⟨.inl ⟨Hwl.out,rfl⟩,HB.out⟩
theorem check_bad (b off cap n:Nat) (l:List Cv.Lot) (T:TypeId) (v1 v6 v7:Value) (w:World) (hn:Hid (l.length = n)) (hcap:n≤cap) (hl:Hid (LotsAt w b off l)) (he:Hid (Er w T v1 v6 v7)) (hbad:¬ Cv.Well l) :
  Calls Tryz.prog 189 #[.slice (some ⟨b,off,none⟩) n cap] w fun e w'=>(∃ U x,e = .returned (.iface U x))∧Below w.heap.size w w':=by
 by_cases h:120 < n
 ·refine (check_full n cap _ T v1 v6 v7 w he.out h).mono ?_
  rintro e w' ⟨rfl,rfl⟩
  exact ⟨⟨_,_,rfl⟩,Below.refl _ _⟩
 ·refine (check_some b off cap n l T v1 v6 v7 w hn (by omega) hcap hl he).mono ?_
  rintro e w' ⟨h1 | ⟨i,B,_,_,_,rfl,_⟩,hb⟩
  ·exact absurd ⟨by rw [hn.out];omega,by rw [hn.out];exact h1.1⟩ hbad
  ·exact ⟨⟨_,_,rfl⟩,hb⟩
theorem check_fine' (b off cap n:Nat) (l:List Cv.Lot) (T:TypeId) (v1 v6 v7:Value) (w:World) (hn:Hid (l.length = n)) (hcap:n≤cap) (hl:Hid (LotsAt w b off l)) (he:Hid (Er w T v1 v6 v7)) (hok:Cv.Well l) :
  Calls Tryz.prog 189 #[.slice (some ⟨b,off,none⟩) n cap] w fun e w'=>e = .returned .nilIface∧Below w.heap.size w w':=by
 have h120:=hok.1
 rw [hn.out] at h120
 refine (check_some b off cap n l T v1 v6 v7 w hn h120 hcap hl he).mono ?_
 rintro e w' ⟨h1 | ⟨i,B,hi,_,hno,_⟩,hb⟩
 ·exact ⟨h1.2,hb⟩
 ·rw [hok.2 i (by rw [hn.out];exact hi)] at hno
  cases hno
theorem well_fine (b off cap n:Nat) (l:List Cv.Lot) (T:TypeId) (v1 v6 v7:Value) (w:World) (hn:Hid (l.length = n)) (hcap:n≤cap) (hl:Hid (LotsAt w b off l)) (he:Hid (Er w T v1 v6 v7)) (hok:Hid (Cv.Well l)) :
  Calls Tryz.prog 260 #[.slice (some ⟨b,off,none⟩) n cap] w fun e w'=>e = .returned (.slice (some ⟨b,off,none⟩) n cap)∧Below w.heap.size w w':=by
 go_enter Tryz.func260,Tryz.ntmps260
 go_wp2_with fail
 refine (check_fine' b off cap n l T v1 v6 v7 w hn hcap hl he hok.out).mono ?_
 rintro e w1 ⟨rfl,hb1⟩
 have HB1:=hide hb1
 clear hb1
 simp only []
 go_wp2
 go_ret
 exact ⟨rfl,HB1.out⟩
theorem well_none (cap:Nat) (a:Option Addr) (w:World):Calls Tryz.prog 260 #[.slice a 0 cap] w fun e w'=>e = .returned (.slice a 0 cap)∧w' = w:=by
 go_enter Tryz.func260,Tryz.ntmps260
 go_wp2_with fail
 refine (check_none cap a w).mono ?_
 rintro e w1 ⟨rfl,rfl⟩
 simp only []
 go_wp2
 go_ret
 exact ⟨rfl,rfl⟩
theorem sumD_none (cap:Nat) (a:Option Addr) (f:Value) (w:World):Calls Tryz.prog 253 #[.slice a 0 cap,f] w fun e w'=>e = .returned (.int .i64 0)∧w' = w:=by
 go_enter Tryz.func253,Tryz.ntmps253
 go_wp2_with fail
 refine (well_none cap a w).mono ?_
 rintro e w1 ⟨rfl,rfl⟩
 simp only []
 go_wp2
 refine wp_loop_rounds 1 ?_
 rw [rounds_succ]
 go_wp2
 go_ret
 exact ⟨rfl,rfl⟩
set_option maxHeartbeats 1000000 in
theorem sumDd_fine (b off cap n B:Nat) (p:Int) (l:List Cv.Lot) (T:TypeId) (v1 v6 v7:Value) (w:World) (hn:Hid (l.length = n)) (hcap:n≤cap) (hl:Hid (LotsAt w b off l)) (he:Hid (Er w T v1 v6 v7)) (hok:Hid (Cv.Well l)) (hc:w.cell? ⟨B,0,none⟩ = some (.int .i64 p)) :
  Calls Tryz.prog 253 #[.slice (some ⟨b,off,none⟩) n cap,.func (.func 254) #[] #[.pointer (some ⟨B,0,none⟩)]] w fun e w'=>e = .returned (.int .i64 (Cv.sumIf (Cv.dB p) l))∧Below w.heap.size w w':=by
 have h120:=hok.out.1
 rw [hn.out] at h120
 have HR:Hid (∀ k,0≤Cv.sumIf (Cv.dB p) (l.take k)∧Cv.sumIf (Cv.dB p) (l.take k)≤120000):=fun k=>by
  have:=Cv.sumIf_bounds (Cv.dB p) (l.take k) (hok.out.oks.take k)
  have h2:(l.take k).length≤120:=by rw [List.length_take,hn.out];omega
  omega
 go_enter Tryz.func253,Tryz.ntmps253
 go_wp2_with fail
 refine (well_fine b off cap n l T v1 v6 v7 w hn hcap hl he hok).mono ?_
 rintro e w1 ⟨rfl,hb1⟩
 have HB1:=hide hb1
 clear hb1
 simp only []
 go_wp2
 go_loopw [5,11] (fun s i wr=>∃ k:Nat,k≤n∧i = .int .i64 k∧s = .int .i64 (Cv.sumIf (Cv.dB p) (l.take k))∧Below w.heap.size w wr) (fun _ i _=>n - (intOf i).toNat)
 case atStart=>exact ⟨0,Nat.zero_le _,rfl,rfl,HB1.out⟩
 case round =>
  obtain ⟨k,hk,rfl,rfl,hb⟩:=hrel
  have HB:=hide hb
  clear hb
  by_cases hlt:k < n
  ·have hki:(k:Int) < n:=by omega
   obtain ⟨c0,c1,c2,c3,c4⟩:=(hl.out.later HB.out) k (by rw [hn.out];exact hlt)
   have HS:=hide (Cv.sumIf_step (Cv.dB p) (l:=l) (k:=k) (by rw [hn.out];exact hlt))
   obtain ⟨r1,r2⟩:=HR.out k
   have HR2:=hide (HR.out (k + 1))
   rw [HS.out] at HR2
   generalize Cv.sumIf (Cv.dB p) (l.take k) = sk at *
   generalize Cv.nth l k = x at *
   have hcc:=fun W (h:Below w.heap.size w W)=>dClos_any x B p W (cell_later h hc)
   have HCC:=hide hcc
   clear hcc
   have HBa:Hid (Below w.heap.size w (wr.alloc (.cells #[.int .i64 x.id,.int .i64 x.ow,.int .i64 x.sd,.int .i64 x.pr,.int .i64 x.q] 137))):=HB.out.alloc HB.out.size _
   go_wp2_with fail
   refine (HCC.out _ HBa.out).mono ?_
   rintro e w2 ⟨rfl,hb2⟩
   have HB2:Hid (Below w.heap.size w w2):=HBa.out.trans (hb2.mono HBa.out.size)
   have d4:w2.cell? ⟨wr.heap.size,4,none⟩ = some (.int .i64 x.q):=by rw [hb2.cell (p:=⟨wr.heap.size,4,none⟩) (by simp)];simp
   clear hb2 c0 c1 c2 c3 c4 HCC HBa
   cases hp:Cv.dB p x with
   | true =>
    have HS2:=hide (show Cv.sumIf (Cv.dB p) (l.take (k + 1)) = sk + x.q by have:=HS.out;rw [hp] at this;simpa using this)
    have hr2:0≤sk + x.q∧sk + x.q≤120000:=by have:=HR2.out;rw [hp] at this;simpa using this
    clear HS HR2 hp
    obtain ⟨r3,r4⟩:=hr2
    simp only []
    go_wp2
    exact ⟨⟨k + 1,by omega,by go_num,by rw [HS2.out],HB2.out⟩,by simp [intOf];omega⟩
   | false =>
    have HS2:=hide (show Cv.sumIf (Cv.dB p) (l.take (k + 1)) = sk by have:=HS.out;rw [hp] at this;simpa using this)
    clear HS HR2 hp
    simp only []
    go_wp2
    exact ⟨⟨k + 1,by omega,by go_num,by rw [HS2.out],HB2.out⟩,by simp [intOf];omega⟩
  ·have hki:¬ (k:Int) < n:=by omega
   have hkk:l.take k = l:=by
    have:k = l.length:=by rw [hn.out];omega
    rw [this,List.take_length]
   have Hkk:=hide hkk
   clear hkk
   go_wp2
   go_ret
   exact ⟨by rw [Hkk.out];rfl,HB.out⟩
set_option maxHeartbeats 1000000 in
theorem sumSs_fine (b off cap n B:Nat) (p:Int) (l:List Cv.Lot) (T:TypeId) (v1 v6 v7:Value) (w:World) (hn:Hid (l.length = n)) (hcap:n≤cap) (hl:Hid (LotsAt w b off l)) (he:Hid (Er w T v1 v6 v7)) (hok:Hid (Cv.Well l)) (hc:w.cell? ⟨B,0,none⟩ = some (.int .i64 p)) :
  Calls Tryz.prog 253 #[.slice (some ⟨b,off,none⟩) n cap,.func (.func 255) #[] #[.pointer (some ⟨B,0,none⟩)]] w fun e w'=>e = .returned (.int .i64 (Cv.sumIf (Cv.sB p) l))∧Below w.heap.size w w':=by
 have h120:=hok.out.1
 rw [hn.out] at h120
 have HR:Hid (∀ k,0≤Cv.sumIf (Cv.sB p) (l.take k)∧Cv.sumIf (Cv.sB p) (l.take k)≤120000):=fun k=>by
  have:=Cv.sumIf_bounds (Cv.sB p) (l.take k) (hok.out.oks.take k)
  have h2:(l.take k).length≤120:=by rw [List.length_take,hn.out];omega
  omega
 go_enter Tryz.func253,Tryz.ntmps253
 go_wp2_with fail
 refine (well_fine b off cap n l T v1 v6 v7 w hn hcap hl he hok).mono ?_
 rintro e w1 ⟨rfl,hb1⟩
 have HB1:=hide hb1
 clear hb1
 simp only []
 go_wp2
 go_loopw [5,11] (fun s i wr=>∃ k:Nat,k≤n∧i = .int .i64 k∧s = .int .i64 (Cv.sumIf (Cv.sB p) (l.take k))∧Below w.heap.size w wr) (fun _ i _=>n - (intOf i).toNat)
 case atStart=>exact ⟨0,Nat.zero_le _,rfl,rfl,HB1.out⟩
 case round =>
  obtain ⟨k,hk,rfl,rfl,hb⟩:=hrel
  have HB:=hide hb
  clear hb
  by_cases hlt:k < n
  ·have hki:(k:Int) < n:=by omega
   obtain ⟨c0,c1,c2,c3,c4⟩:=(hl.out.later HB.out) k (by rw [hn.out];exact hlt)
   have HS:=hide (Cv.sumIf_step (Cv.sB p) (l:=l) (k:=k) (by rw [hn.out];exact hlt))
   obtain ⟨r1,r2⟩:=HR.out k
   have HR2:=hide (HR.out (k + 1))
   rw [HS.out] at HR2
   generalize Cv.sumIf (Cv.sB p) (l.take k) = sk at *
   generalize Cv.nth l k = x at *
   have hcc:=fun W (h:Below w.heap.size w W)=>sClos_any x B p W (cell_later h hc)
   have HCC:=hide hcc
   clear hcc
   have HBa:Hid (Below w.heap.size w (wr.alloc (.cells #[.int .i64 x.id,.int .i64 x.ow,.int .i64 x.sd,.int .i64 x.pr,.int .i64 x.q] 137))):=HB.out.alloc HB.out.size _
   go_wp2_with fail
   refine (HCC.out _ HBa.out).mono ?_
   rintro e w2 ⟨rfl,hb2⟩
   have HB2:Hid (Below w.heap.size w w2):=HBa.out.trans (hb2.mono HBa.out.size)
   have d4:w2.cell? ⟨wr.heap.size,4,none⟩ = some (.int .i64 x.q):=by rw [hb2.cell (p:=⟨wr.heap.size,4,none⟩) (by simp)];simp
   clear hb2 c0 c1 c2 c3 c4 HCC HBa
   cases hp:Cv.sB p x with
   | true =>
    have HS2:=hide (show Cv.sumIf (Cv.sB p) (l.take (k + 1)) = sk + x.q by have:=HS.out;rw [hp] at this;simpa using this)
    have hr2:0≤sk + x.q∧sk + x.q≤120000:=by have:=HR2.out;rw [hp] at this;simpa using this
    clear HS HR2 hp
    obtain ⟨r3,r4⟩:=hr2
    simp only []
    go_wp2
    exact ⟨⟨k + 1,by omega,by go_num,by rw [HS2.out],HB2.out⟩,by simp [intOf];omega⟩
   | false =>
    have HS2:=hide (show Cv.sumIf (Cv.sB p) (l.take (k + 1)) = sk by have:=HS.out;rw [hp] at this;simpa using this)
    clear HS HR2 hp
    simp only []
    go_wp2
    exact ⟨⟨k + 1,by omega,by go_num,by rw [HS2.out],HB2.out⟩,by simp [intOf];omega⟩
  ·have hki:¬ (k:Int) < n:=by omega
   have hkk:l.take k = l:=by
    have:k = l.length:=by rw [hn.out];omega
    rw [this,List.take_length]
   have Hkk:=hide hkk
   clear hkk
   go_wp2
   go_ret
   exact ⟨by rw [Hkk.out];rfl,HB.out⟩
def Lots (w:World) (v:Value) (l:List Cv.Lot):Prop :=
 (l = []∧∃ a cap,v = .slice a 0 cap)∨∃ b off cap,v = .slice (some ⟨b,off,none⟩) l.length cap∧l.length≤cap∧LotsAt w b off l
theorem Lots.later {w w':World} {v:Value} {l:List Cv.Lot} (h:Lots w v l) (hb:Below w.heap.size w w'):Lots w' v l:=by
 rcases h with h | ⟨b,off,cap,h1,h2,h3⟩
 ·exact .inl h
 ·exact .inr ⟨b,off,cap,h1,h2,h3.later hb⟩
theorem Cv.well_nil:Cv.Well []:=⟨by simp,fun i hi=>by simp at hi⟩
theorem demand_some (b off cap n:Nat) (p r:Int) (w:World) (HC:Hid (∀ W,W = w.alloc (.cells #[.int .i64 p] 3)→Calls Tryz.prog 253 #[.slice (some ⟨b,off,none⟩) n cap,.func (.func 254) #[] #[.pointer (some ⟨w.heap.size,0,none⟩)]] W fun e w'=>e = .returned (.int .i64 r)∧Below W.heap.size W w')) :
  Calls Tryz.prog 244 #[.slice (some ⟨b,off,none⟩) n cap,.int .i64 p] w fun e w'=>e = .returned (.int .i64 r)∧Below w.heap.size w w':=by
 go_enter Tryz.func244,Tryz.ntmps244
 go_wp2_with fail
 refine (HC.out _ rfl).mono ?_
 rintro e w2 ⟨rfl,hb⟩
 have HB:=hide hb
 clear hb
 simp only []
 go_wp2
 go_ret
 exact ⟨rfl,((Below.refl _ _).alloc (Nat.le_refl _) _).trans (HB.out.mono (by simp))⟩
theorem demand_none (cap:Nat) (a:Option Addr) (p:Int) (w:World) :
  Calls Tryz.prog 244 #[.slice a 0 cap,.int .i64 p] w fun e w'=>e = .returned (.int .i64 0)∧Below w.heap.size w w':=by
 go_enter Tryz.func244,Tryz.ntmps244
 go_wp2_with fail
 refine (sumD_none cap a _ _).mono ?_
 rintro e w2 ⟨rfl,rfl⟩
 simp only []
 go_wp2
 go_ret
 exact ⟨rfl,(Below.refl _ _).alloc (Nat.le_refl _) _⟩
theorem demand_any (v:Value) (l:List Cv.Lot) (p:Int) (T:TypeId) (v1 v6 v7:Value) (w:World) (hv:Lots w v l) (he:Hid (Er w T v1 v6 v7)) (hok:Cv.Well l) :
  Calls Tryz.prog 244 #[v,.int .i64 p] w fun e w'=>e = .returned (.int .i64 (Cv.demand l p))∧Below w.heap.size w w':=by
 rcases hv with ⟨rfl,a,cap,rfl⟩ | ⟨b,off,cap,rfl,hcap,hl⟩
 ·exact demand_none cap a p w
 ·refine demand_some b off cap _ p _ w (fun W hW=>?_)
  subst hW
  exact sumDd_fine b off cap l.length w.heap.size p l T v1 v6 v7 _ rfl hcap (hl.later ((Below.refl _ _).alloc (Nat.le_refl _) _)) (he.out.later ((Below.refl _ _).alloc (Nat.le_refl _) _)) hok (by simp)
theorem supply_some (b off cap n:Nat) (p r:Int) (w:World) (HC:Hid (∀ W,W = w.alloc (.cells #[.int .i64 p] 3)→Calls Tryz.prog 253 #[.slice (some ⟨b,off,none⟩) n cap,.func (.func 255) #[] #[.pointer (some ⟨w.heap.size,0,none⟩)]] W fun e w'=>e = .returned (.int .i64 r)∧Below W.heap.size W w')) :
  Calls Tryz.prog 245 #[.slice (some ⟨b,off,none⟩) n cap,.int .i64 p] w fun e w'=>e = .returned (.int .i64 r)∧Below w.heap.size w w':=by
 go_enter Tryz.func245,Tryz.ntmps245
 go_wp2_with fail
 refine (HC.out _ rfl).mono ?_
 rintro e w2 ⟨rfl,hb⟩
 have HB:=hide hb
 clear hb
 simp only []
 go_wp2
 go_ret
 exact ⟨rfl,((Below.refl _ _).alloc (Nat.le_refl _) _).trans (HB.out.mono (by simp))⟩
theorem supply_none (cap:Nat) (a:Option Addr) (p:Int) (w:World) :
  Calls Tryz.prog 245 #[.slice a 0 cap,.int .i64 p] w fun e w'=>e = .returned (.int .i64 0)∧Below w.heap.size w w':=by
 go_enter Tryz.func245,Tryz.ntmps245
 go_wp2_with fail
 refine (sumD_none cap a _ _).mono ?_
 rintro e w2 ⟨rfl,rfl⟩
 simp only []
 go_wp2
 go_ret
 exact ⟨rfl,(Below.refl _ _).alloc (Nat.le_refl _) _⟩
theorem supply_any (v:Value) (l:List Cv.Lot) (p:Int) (T:TypeId) (v1 v6 v7:Value) (w:World) (hv:Lots w v l) (he:Hid (Er w T v1 v6 v7)) (hok:Cv.Well l) :
  Calls Tryz.prog 245 #[v,.int .i64 p] w fun e w'=>e = .returned (.int .i64 (Cv.supply l p))∧Below w.heap.size w w':=by
 rcases hv with ⟨rfl,a,cap,rfl⟩ | ⟨b,off,cap,rfl,hcap,hl⟩
 ·exact supply_none cap a p w
 ·refine supply_some b off cap _ p _ w (fun W hW=>?_)
  subst hW
  exact sumSs_fine b off cap l.length w.heap.size p l T v1 v6 v7 _ rfl hcap (hl.later ((Below.refl _ _).alloc (Nat.le_refl _) _)) (he.out.later ((Below.refl _ _).alloc (Nat.le_refl _) _)) hok (by simp)
theorem Lots.form {w:World} {v:Value} {l:List Cv.Lot} (h:Lots w v l):∃ a n cap,v = .slice a n cap:=by
 rcases h with ⟨_,a,cap,rfl⟩ | ⟨b,off,cap,rfl,_⟩
 ·exact ⟨_,_,_,rfl⟩
 ·exact ⟨_,_,_,rfl⟩
set_option maxHeartbeats 400000 in
theorem volume_of (a:Option Addr) (n cap:Nat) (p d s:Int) (w:World)
  (hd:Hid (Calls Tryz.prog 244 #[.slice a n cap,.int .i64 p] w fun e w'=>e = .returned (.int .i64 d)∧Below w.heap.size w w'))
  (hs:Hid (∀ w1,Below w.heap.size w w1→Calls Tryz.prog 245 #[.slice a n cap,.int .i64 p] w1 fun e w'=>e = .returned (.int .i64 s)∧Below w1.heap.size w1 w')) :
  Calls Tryz.prog 230 #[.slice a n cap,.int .i64 p] w fun e w'=>e = .returned (.int .i64 (min d s))∧Below w.heap.size w w':=by
 go_enter Tryz.func230,Tryz.ntmps230
 go_wp2_with fail
 refine hd.out.mono ?_
 rintro e w1 ⟨rfl,hb1⟩
 have HB1:=hide hb1
 clear hb1
 simp only []
 go_wp2_with fail
 refine (hs.out _ HB1.out).mono ?_
 rintro e w2 ⟨rfl,hb2⟩
 have HB2:=hide (HB1.out.trans (hb2.mono HB1.out.size))
 clear hb2
 simp only []
 go_wp2
 all_goals go_ret
 all_goals exact ⟨ret_int (by omega),HB2.out⟩
theorem Cv.demand_range (l:List Cv.Lot) (p:Int) (h:Cv.Well l):0≤Cv.demand l p∧Cv.demand l p≤120000:=by
 have:=Cv.sumIf_bounds (Cv.dB p) l h.oks
 have h2:=h.1
 unfold Cv.demand
 omega
theorem volume_any (v:Value) (l:List Cv.Lot) (p:Int) (T:TypeId) (v1 v6 v7:Value) (w:World) (hv:Lots w v l) (he:Hid (Er w T v1 v6 v7)) (hok:Cv.Well l) :
  Calls Tryz.prog 230 #[v,.int .i64 p] w fun e w'=>e = .returned (.int .i64 (Cv.volume l p))∧Below w.heap.size w w':=by
 obtain ⟨a,n,cap,rfl⟩:=hv.form
 exact volume_of a n cap p _ _ w (demand_any _ l p T v1 v6 v7 w hv he hok) (fun w1 hb=>supply_any _ l p T v1 v6 v7 w1 (hv.later hb) (he.out.later hb) hok)
def lotCells (x:Cv.Lot):List Value:=[.int .i64 x.id,.int .i64 x.ow,.int .i64 x.sd,.int .i64 x.pr,.int .i64 x.q]
def flat (l:List Cv.Lot):List Value:=l.flatMap lotCells
theorem flat_length:∀ l:List Cv.Lot,(flat l).length = l.length * 5
 | []=>rfl
 | x :: l=>by
  have:=flat_length l
  simp only [flat,List.flatMap_cons,List.length_append,List.length_cons] at this ⊢
  rw [this,show (lotCells x).length = 5 from rfl]
  omega
theorem flat_at:∀ (l:List Cv.Lot) (i j:Nat),i < l.length→j < 5→(flat l)[i * 5 + j]? = (lotCells (Cv.nth l i))[j]?
 | [],i,j,h,_=>absurd h (Nat.not_lt_zero i)
 | x :: l,0,j,_,hj=>by
  show (lotCells x++flat l)[0 * 5 + j]? = _
  rw [Nat.zero_mul,Nat.zero_add,List.getElem?_append_left (by show j < 5;exact hj)]
  rfl
 | x :: l,i + 1,j,h,hj=>by
  show (lotCells x++flat l)[(i + 1) * 5 + j]? = _
  rw [List.getElem?_append_right (by show 5≤_;omega),show (i + 1) * 5 + j - (lotCells x).length = i * 5 + j by show _ - 5 = _;omega,flat_at l i j (by simpa using h) hj]
  rfl
theorem flat_one (l:List Cv.Lot) (u:Value) (h:u∈flat l):u.oneCell' = true:=by
 obtain ⟨x,_,hx⟩:=List.mem_flatMap.1 h
 simp only [lotCells,List.mem_cons,List.not_mem_nil,or_false] at hx
 rcases hx with rfl | rfl | rfl | rfl | rfl <;> rfl
theorem lotsAt_of_flat {w:World} {b:Nat} {l:List Cv.Lot} (h:∀ j u,(flat l)[j]? = some u→w.cell? ⟨b,j,none⟩ = some u):LotsAt w b 0 l:=by
 intro i hi
 have key:∀ j u,j < 5→(lotCells (Cv.nth l i))[j]? = some u→w.cell? ⟨b,i * 5 + j,none⟩ = some u:=fun j u hj hu=>h _ u (by rw [flat_at l i j hi hj];exact hu)
 rw [Nat.zero_add]
 exact ⟨key 0 _ (by decide) rfl,key 1 _ (by decide) rfl,key 2 _ (by decide) rfl,key 3 _ (by decide) rfl,key 4 _ (by decide) rfl⟩
theorem info110:∃ i z,Tryz.prog.info? 137 = some i∧i.zero = some z∧i.size = 5∧i.bytes = 40∧z.cells.size = 5:=⟨_,_,rfl,rfl,rfl,rfl,rfl⟩
theorem check_well (v:Value) (l:List Cv.Lot) (T:TypeId) (v1 v6 v7:Value) (w:World) (hv:Lots w v l) (he:Hid (Er w T v1 v6 v7)) (hok:Cv.Well l) :
  Calls Tryz.prog 189 #[v] w fun e w'=>e = .returned .nilIface∧Below w.heap.size w w':=by
 rcases hv with ⟨rfl,a,cap,rfl⟩ | ⟨b,off,cap,rfl,hcap,hl⟩
 ·refine (check_none cap a w).mono ?_
  rintro e w' ⟨rfl,rfl⟩
  exact ⟨rfl,Below.refl _ _⟩
 ·exact check_fine' b off cap _ l T v1 v6 v7 w rfl hcap hl he hok
theorem check_ill (v:Value) (l:List Cv.Lot) (T:TypeId) (v1 v6 v7:Value) (w:World) (hv:Lots w v l) (he:Hid (Er w T v1 v6 v7)) (hbad:¬ Cv.Well l) :
  Calls Tryz.prog 189 #[v] w fun e w'=>(∃ U x,e = .returned (.iface U x))∧Below w.heap.size w w':=by
 rcases hv with ⟨rfl,a,cap,rfl⟩ | ⟨b,off,cap,rfl,hcap,hl⟩
 ·exact absurd Cv.well_nil hbad
 ·exact check_bad b off cap _ l T v1 v6 v7 w rfl hcap hl he hbad
theorem Lots.take {w:World} {b off cap:Nat} {l:List Cv.Lot} (h:LotsAt w b off l) (hn:l.length≤cap) (k:Nat) (hk:k≤l.length):Lots w (.slice (some ⟨b,off,none⟩) k cap) (l.take k):=by
 have e:(l.take k).length = k:=by rw [List.length_take];omega
 exact .inr ⟨b,off,cap,by rw [e],by rw [e];omega,h.take k⟩
theorem Lots.drop {w:World} {b off cap:Nat} {l:List Cv.Lot} (h:LotsAt w b off l) (hn:l.length≤cap) (k:Nat) (hk:k≤l.length):Lots w (.slice (some ⟨b,off + k * 5,none⟩) (l.length - k) (cap - k)) (l.drop k):=by
 exact .inr ⟨b,off + k * 5,cap - k,by rw [List.length_drop],by rw [List.length_drop];omega,h.drop k⟩
theorem apartN_any (a b:Int) (w:World) (h1:-1000000≤a) (h2:a≤1000000) (h3:-1000000≤b) (h4:b≤1000000):Calls Tryz.prog 192 #[.int .i64 a,.int .i64 b] w fun e w'=>e = .returned (.int .i64 (Cv.size (a - b)))∧w' = w:=by
 go_enter Tryz.func192,Tryz.ntmps192
 go_wp2
 all_goals go_ret
 all_goals exact ⟨ret_int (by unfold Cv.size;omega),rfl⟩
theorem isPrice_any (n:Int) (w:World):Calls Tryz.prog 229 #[.int .i64 n] w fun e w'=>e = .returned (.bool (Wi.withinB n 1 1000))∧w' = w:=by
 go_enter Tryz.func229,Tryz.ntmps229
 go_wp2_with (go_at_call 81;refine (within_any _ _ _ _).mono ?_;rintro e w' ⟨rfl,rfl⟩)
 go_ret
 exact ⟨rfl,rfl⟩
structure BEr (w:World) (T:TypeId) (v1:Value):Prop where
 c1:w.cell? ⟨1,0,none⟩ = some (.iface T v1)
theorem BEr.later {w w':World} {T:TypeId} {v1:Value} (h:BEr w T v1) (hb:Below w.heap.size w w'):BEr w' T v1:=⟨cell_later hb h.c1⟩
def bandV (r l:Int):Value:=.agg #[.int .i64 r,.int .i64 l]
def okE (T:TypeId) (v:Value) (b:Bool):Value:=if b = true then .nilIface else .iface T v
set_option maxHeartbeats 1000000 in
theorem bcheck_any (r l:Int) (T:TypeId) (v1:Value) (w:World) (he:Hid (BEr w T v1)) :
  Calls Tryz.prog 228 #[bandV r l] w fun e w'=>e = .returned (okE T v1 (Bd.bOk r l))∧Below w.heap.size w w':=by
 show Calls Tryz.prog 228 #[.agg #[.int .i64 r,.int .i64 l]] w _
 have hb0:Below w.heap.size w (w.alloc (.cells #[.int .i64 r,.int .i64 l] 78)):=(Below.refl _ _).alloc (Nat.le_refl _) _
 have e1:=(he.out.later hb0).c1
 have HB:=hide hb0
 clear hb0
 go_enter Tryz.func228,Tryz.ntmps228
 cases h1:Wi.withinB r 1 1000 <;> cases h2:Wi.withinB l 0 1000
 all_goals
  go_wp2_with (first | (go_at_call 229;refine (isPrice_any _ _).mono ?_;rintro e w' ⟨rfl,rfl⟩;rw [h1]) | (go_at_call 81;refine (within_any _ _ _ _).mono ?_;rintro e w' ⟨rfl,rfl⟩;rw [h2]))
  all_goals go_ret
  all_goals exact ⟨by simp [okE,Bd.bOk,h1,h2],HB.out⟩
set_option maxHeartbeats 1000000 in
theorem rcheck_any (r l:Int) (T:TypeId) (v1:Value) (w:World) (he:Hid (BEr w T v1)) :
  Calls Tryz.prog 115 #[bandV r l] w fun e w'=>e = .returned (okE T v1 (Bd.rOk r l))∧Below w.heap.size w w':=by
 show Calls Tryz.prog 115 #[.agg #[.int .i64 r,.int .i64 l]] w _
 have hb0:Below w.heap.size w (w.alloc (.cells #[.int .i64 r,.int .i64 l] 32)):=(Below.refl _ _).alloc (Nat.le_refl _) _
 have e1:=(he.out.later hb0).c1
 have HB:=hide hb0
 clear hb0
 go_enter Tryz.func115,Tryz.ntmps115
 cases h1:Wi.withinB r 0 100 <;> cases h2:Wi.withinB l 1 1000
 all_goals
  go_wp2_with (go_at_call 81;refine (within_any _ _ _ _).mono ?_;rintro e w' ⟨rfl,rfl⟩;first | rw [h1] | rw [h2])
  all_goals go_ret
  all_goals exact ⟨by simp [okE,Bd.rOk,h1,h2],HB.out⟩
set_option maxHeartbeats 1000000 in
theorem ruleIn_any (wd h r p:Int) (w:World) (h1:1≤r) (h2:r≤1000) (h3:0≤wd) (h4:wd≤100) (h5:1≤p) (h6:p≤1000) :
  Calls Tryz.prog 196 #[bandV wd h,.int .i64 r,.int .i64 p] w fun e w'=>e = .returned (.bool (Bd.inB wd r p))∧Below w.heap.size w w':=by
 show Calls Tryz.prog 196 #[.agg #[.int .i64 wd,.int .i64 h],.int .i64 r,.int .i64 p] w _
 have HB:Hid (Below w.heap.size w (w.alloc (.cells #[.int .i64 wd,.int .i64 h] 32))):=(Below.refl _ _).alloc (Nat.le_refl _) _
 have hp:=prod_bounds h1 h2 h3 h4
 have w1:IntKind.i64.wrap (r * wd) = r * wd:=IntWalk.i64_in _ (by omega)
 have hs:0≤Cv.size (p - r)∧Cv.size (p - r)≤1000:=by unfold Cv.size;omega
 have w2:IntKind.i64.wrap (Cv.size (p - r) * 100) = Cv.size (p - r) * 100:=IntWalk.i64_in _ (by omega)
 have n1:¬ wd < -1:=by omega
 have n2:¬ 100000 < wd:=by omega
 go_enter Tryz.func196,Tryz.ntmps196
 go_wp2_with (go_at_call 192;refine (apartN_any _ _ _ (by omega) (by omega) (by omega) (by omega)).mono ?_;rintro e w' ⟨rfl,rfl⟩)
 all_goals go_ret
 all_goals first | exact ⟨rfl,HB.out⟩ | exact ⟨ret_bool (by simp [Bd.inB]),HB.out⟩
set_option maxHeartbeats 1000000 in
theorem checkNext_any (r l wd h p v:Int) (T:TypeId) (v1:Value) (w:World) (he:Hid (BEr w T v1)) :
  Calls Tryz.prog 194 #[bandV r l,bandV wd h,.int .i64 p,.int .i64 v] w fun e w'=>e = .returned (okE T v1 (Bd.bOk r l&&(Bd.rOk wd h&&Bd.vOk p v)))∧Below w.heap.size w w':=by
 show Calls Tryz.prog 194 #[.agg #[.int .i64 r,.int .i64 l],.agg #[.int .i64 wd,.int .i64 h],.int .i64 p,.int .i64 v] w _
 obtain ⟨W,hWd⟩:∃ W,(w.alloc (.cells #[.int .i64 r,.int .i64 l] 78)).alloc (.cells #[.int .i64 wd,.int .i64 h] 32) = W:=⟨_,rfl⟩
 have hb1:Below w.heap.size w (w.alloc (.cells #[.int .i64 r,.int .i64 l] 78)):=(Below.refl _ _).alloc (Nat.le_refl _) _
 have hb2:Below w.heap.size w W:=by rw [← hWd];exact hb1.alloc hb1.size _
 have hY0:W.heap[w.heap.size + 1]? = some (.cells #[.int .i64 wd,.int .i64 h] 32 (0,0)):=by
  rw [← hWd]
  have:=heap_alloc_new (w.alloc (.cells #[.int .i64 r,.int .i64 l] 78)) (.cells #[.int .i64 wd,.int .i64 h] 32)
  rw [show (w.alloc (.cells #[.int .i64 r,.int .i64 l] 78)).heap.size = w.heap.size + 1 by simp] at this
  exact this
 have HY0:=hide hY0;have HBW:=hide hb2
 have HC:=hide (bcheck_any r l T v1 W (he.out.later hb2))
 unfold bandV at HC
 have HWd:=hide hWd
 clear hb1 hb2 hY0 hWd
 go_enter Tryz.func194,Tryz.ntmps194
 go_wp2_with fail
 rw [HWd.out]
 clear HWd
 refine HC.out.mono ?_
 rintro e w2 ⟨rfl,hb2⟩
 have HB:Hid (Below w.heap.size w w2):=HBW.out.trans (hb2.mono HBW.out.size)
 have hY:w2.heap[w.heap.size + 1]? = some (.cells #[.int .i64 wd,.int .i64 h] 32 (0,0)):=by rw [hb2.block _ (Array.getElem?_eq_some_iff.1 HY0.out).1];exact HY0.out
 have y0:w2.cell? ⟨w.heap.size + 1,0,none⟩ = some (.int .i64 wd):=by rw [cell_of_row w2 _ 0 _ _ _ hY];rfl
 have y1:w2.cell? ⟨w.heap.size + 1,1,none⟩ = some (.int .i64 h):=by rw [cell_of_row w2 _ 1 _ _ _ hY];rfl
 clear hb2 HC HBW HY0 hY
 cases hb:Bd.bOk r l with
 | false =>
  have Hb:=hide hb
  clear hb
  simp only [okE,if_neg Bool.false_ne_true]
  go_wp2
  go_ret
  exact ⟨by rw [Hb.out];rfl,HB.out⟩
 | true =>
  have Hb:=hide hb
  clear hb
  have HC:=hide (rcheck_any wd h T v1 w2 (he.out.later HB.out))
  unfold bandV at HC
  simp only [okE,if_pos]
  go_wp2_with fail
  refine HC.out.mono ?_
  rintro e w3 ⟨rfl,hb3⟩
  have HB3:Hid (Below w.heap.size w w3):=HB.out.trans (hb3.mono HB.out.size)
  clear hb3 HC HB y0 y1
  cases hr:Bd.rOk wd h with
  | false =>
   have Hr:=hide hr
   clear hr
   simp only [okE,if_neg Bool.false_ne_true]
   go_wp2
   go_ret
   exact ⟨by rw [Hb.out,Hr.out];rfl,HB3.out⟩
  | true =>
   have Hr:=hide hr
   clear hr
   have e1:=(he.out.later HB3.out).c1
   simp only [okE,if_pos]
   by_cases hv:v < 0
   ·have hvd:decide (v < 0) = true:=by simpa using hv
    go_wp2_with fail
    all_goals go_ret
    all_goals exact ⟨by rw [Hb.out,Hr.out];simp [okE,Bd.vOk,hvd],HB3.out⟩
   ·have hvd:decide (v < 0) = false:=by simpa using hv
    by_cases hp:0 < v
    ·have hpd:decide (0 < v) = true:=by simpa using hp
     cases hw:Wi.withinB p 1 1000
     all_goals
      go_wp2_with (go_at_call 229;refine (isPrice_any _ _).mono ?_;rintro e w' ⟨rfl,rfl⟩;rw [hw])
      all_goals go_ret
      all_goals exact ⟨by rw [Hb.out,Hr.out];simp [okE,Bd.vOk,hvd,hpd,hw],HB3.out⟩
    ·have hpd:decide (0 < v) = false:=by simpa using hp
     go_wp2_with fail
     all_goals go_ret
     all_goals exact ⟨by rw [Hb.out,Hr.out];simp [okE,Bd.vOk,hvd,hpd],HB3.out⟩
set_option maxHeartbeats 1000000 in
theorem goOn_any (r l p:Int) (t:Bool) (w:World) (h1:0 < l) (h2:l≤1000) :
  Calls Tryz.prog 195 #[bandV r l,.int .i64 p,.bool t] w fun e w'=>e = .returned (bandV (if l = 1∧t = true then p else r) (l - 1))∧Below w.heap.size w w':=by
 show Calls Tryz.prog 195 #[.agg #[.int .i64 r,.int .i64 l],.int .i64 p,.bool t] w _
 have wl:IntKind.i64.wrap (l - 1) = l - 1:=IntWalk.i64_in _ (by omega)
 have HA:Hid (∀ x y,Below w.heap.size w ((w.alloc x).alloc y)):=fun x y=>((Below.refl _ _).alloc (Nat.le_refl _) x).alloc (by simp) y
 by_cases hl:l = 1
 ·subst hl
  cases t
  ·go_enter Tryz.func195,Tryz.ntmps195
   go_wp2
   exact bodyPost_ret (v:=bandV r 0) (by simp [results,Tryz.results195,go_sem,bandV]) rfl ⟨rfl,HA.out _ _⟩
  ·go_enter Tryz.func195,Tryz.ntmps195
   go_wp2
   exact bodyPost_ret (v:=bandV p 0) (by simp [results,Tryz.results195,go_sem,bandV]) rfl ⟨rfl,HA.out _ _⟩
 ·have hl':¬ l - 1 = 0:=by omega
  go_enter Tryz.func195,Tryz.ntmps195
  go_wp2
  exact bodyPost_ret (v:=bandV r (l - 1)) (by simp [results,Tryz.results195,go_sem,bandV]) rfl ⟨rfl,HA.out _ _⟩
def nextV (r l wd h p v:Int):Value:=.tuple #[bandV (Bd.nR r l wd p v) (Bd.nL r l wd h p v),.bool (Bd.nO r l wd p v),.nilIface]
set_option maxHeartbeats 1000000 in
theorem next_bad (r l wd h p v:Int) (T:TypeId) (v1:Value) (w:World) (he:Hid (BEr w T v1)) (hk:(Bd.bOk r l&&(Bd.rOk wd h&&Bd.vOk p v)) = false) :
  Calls Tryz.prog 163 #[bandV r l,bandV wd h,.int .i64 p,.int .i64 v] w fun e w'=>e = .returned (.tuple #[bandV 0 0,.bool false,.iface T v1])∧Below w.heap.size w w':=by
 obtain ⟨W,hWd⟩:∃ W,((w.alloc (.cells #[.int .i64 r,.int .i64 l] 78)).alloc (.cells #[.int .i64 wd,.int .i64 h] 32)).alloc (.cells #[.int .i64 0,.int .i64 0] 78) = W:=⟨_,rfl⟩
 have hb2:Below w.heap.size w W:=by rw [← hWd];exact (((Below.refl _ _).alloc (Nat.le_refl _) _).alloc (by simp) _).alloc (by simp;omega) _
 have hY0:W.heap[w.heap.size + 1 + 1]? = some (.cells #[.int .i64 0,.int .i64 0] 78 (0,0)):=by
  rw [← hWd]
  have:=heap_alloc_new ((w.alloc (.cells #[.int .i64 r,.int .i64 l] 78)).alloc (.cells #[.int .i64 wd,.int .i64 h] 32)) (.cells #[.int .i64 0,.int .i64 0] 78)
  rw [show ((w.alloc (.cells #[.int .i64 r,.int .i64 l] 78)).alloc (.cells #[.int .i64 wd,.int .i64 h] 32)).heap.size = w.heap.size + 1 + 1 by simp] at this
  exact this
 have HC:=hide (checkNext_any r l wd h p v T v1 W (he.out.later hb2))
 rw [hk] at HC
 unfold bandV at HC ⊢
 have HY0:=hide hY0;have HBW:=hide hb2;have HWd:=hide hWd
 clear hb2 hY0 hWd hk
 go_enter Tryz.func163,Tryz.ntmps163
 go_wp2_with fail
 rw [HWd.out]
 clear HWd
 refine HC.out.mono ?_
 rintro e w2 ⟨rfl,hb2⟩
 have HB:Hid (Below w.heap.size w w2):=HBW.out.trans (hb2.mono HBW.out.size)
 have hY:w2.heap[w.heap.size + 1 + 1]? = some (.cells #[.int .i64 0,.int .i64 0] 78 (0,0)):=by rw [hb2.block _ (Array.getElem?_eq_some_iff.1 HY0.out).1];exact HY0.out
 have y0:w2.cell? ⟨w.heap.size + 1 + 1,0,none⟩ = some (.int .i64 0):=by rw [cell_of_row w2 _ 0 _ _ _ hY];rfl
 have y1:w2.cell? ⟨w.heap.size + 1 + 1,1,none⟩ = some (.int .i64 0):=by rw [cell_of_row w2 _ 1 _ _ _ hY];rfl
 have z0:w2.frozen? ⟨w.heap.size + 1 + 1,0,none⟩ = false:=by simp [World.frozen?,hY]
 have z1:w2.frozen? ⟨w.heap.size + 1 + 1,1,none⟩ = false:=by simp [World.frozen?,hY]
 clear hb2 HC HBW HY0 hY
 simp only [okE,if_neg Bool.false_ne_true]
 go_wp2
 exact bodyPost_ret (v:=.tuple #[.agg #[.int .i64 0,.int .i64 0],.bool false,.iface T v1]) (by simp [results,Tryz.results163,go_sem,y0,y1]) rfl ⟨rfl,(HB.out.setCell (by simp;omega) _).setCell (by simp;omega) _⟩
set_option maxHeartbeats 2000000 in
theorem next_ok (r l wd h p v:Int) (T:TypeId) (v1:Value) (w:World) (he:Hid (BEr w T v1)) (hk:(Bd.bOk r l&&(Bd.rOk wd h&&Bd.vOk p v)) = true) :
  Calls Tryz.prog 163 #[bandV r l,bandV wd h,.int .i64 p,.int .i64 v] w fun e w'=>e = .returned (nextV r l wd h p v)∧Below w.heap.size w w':=by
 obtain ⟨W,hWd⟩:∃ W,((w.alloc (.cells #[.int .i64 r,.int .i64 l] 78)).alloc (.cells #[.int .i64 wd,.int .i64 h] 32)).alloc (.cells #[.int .i64 0,.int .i64 0] 78) = W:=⟨_,rfl⟩
 have hb2:Below w.heap.size w W:=by rw [← hWd];exact (((Below.refl _ _).alloc (Nat.le_refl _) _).alloc (by simp) _).alloc (by simp;omega) _
 have hX0:W.heap[w.heap.size]? = some (.cells #[.int .i64 r,.int .i64 l] 78 (0,0)):=by
  rw [← hWd]
  exact (Below.heap_alloc _ _ _ (by simp;omega)).trans ((Below.heap_alloc _ _ _ (by simp)).trans (heap_alloc_new _ _))
 have hU0:W.heap[w.heap.size + 1]? = some (.cells #[.int .i64 wd,.int .i64 h] 32 (0,0)):=by
  rw [← hWd]
  refine (Below.heap_alloc _ _ _ (by simp)).trans ?_
  have:=heap_alloc_new (w.alloc (.cells #[.int .i64 r,.int .i64 l] 78)) (.cells #[.int .i64 wd,.int .i64 h] 32)
  rw [show (w.alloc (.cells #[.int .i64 r,.int .i64 l] 78)).heap.size = w.heap.size + 1 by simp] at this
  exact this
 have hY0:W.heap[w.heap.size + 1 + 1]? = some (.cells #[.int .i64 0,.int .i64 0] 78 (0,0)):=by
  rw [← hWd]
  have:=heap_alloc_new ((w.alloc (.cells #[.int .i64 r,.int .i64 l] 78)).alloc (.cells #[.int .i64 wd,.int .i64 h] 32)) (.cells #[.int .i64 0,.int .i64 0] 78)
  rw [show ((w.alloc (.cells #[.int .i64 r,.int .i64 l] 78)).alloc (.cells #[.int .i64 wd,.int .i64 h] 32)).heap.size = w.heap.size + 1 + 1 by simp] at this
  exact this
 have HC:=hide (checkNext_any r l wd h p v T v1 W (he.out.later hb2))
 rw [hk] at HC
 have hk':((1≤r∧r≤1000)∧0≤l∧l≤1000)∧((0≤wd∧wd≤100)∧1≤h∧h≤1000)∧0≤v∧(v≤0∨1≤p∧p≤1000):=by
  simpa [Bd.bOk,Bd.rOk,Bd.vOk,Wi.withinB] using hk
 obtain ⟨⟨⟨r1,r2⟩,l1,l2⟩,⟨⟨wd1,wd2⟩,h1,h2⟩,vv1,vv2⟩:=hk'
 unfold bandV at HC ⊢
 have HX0:=hide hX0;have HU0:=hide hU0;have HY0:=hide hY0;have HBW:=hide hb2;have HWd:=hide hWd
 clear hb2 hX0 hU0 hY0 hWd hk
 go_enter Tryz.func163,Tryz.ntmps163
 go_wp2_with fail
 rw [HWd.out]
 clear HWd
 refine HC.out.mono ?_
 rintro e w2 ⟨rfl,hb2⟩
 have HB:Hid (Below w.heap.size w w2):=HBW.out.trans (hb2.mono HBW.out.size)
 have hX:w2.heap[w.heap.size]? = some (.cells #[.int .i64 r,.int .i64 l] 78 (0,0)):=by rw [hb2.block _ (Array.getElem?_eq_some_iff.1 HX0.out).1];exact HX0.out
 have hU:w2.heap[w.heap.size + 1]? = some (.cells #[.int .i64 wd,.int .i64 h] 32 (0,0)):=by rw [hb2.block _ (Array.getElem?_eq_some_iff.1 HU0.out).1];exact HU0.out
 have hY:w2.heap[w.heap.size + 1 + 1]? = some (.cells #[.int .i64 0,.int .i64 0] 78 (0,0)):=by rw [hb2.block _ (Array.getElem?_eq_some_iff.1 HY0.out).1];exact HY0.out
 have HX:=hide hX;have HU:=hide hU;have HY:=hide hY
 clear hb2 HC HBW HX0 HU0 HY0 hX hU hY
 obtain ⟨B,hB⟩:∃ B,w.heap.size = B:=⟨_,rfl⟩
 rw [hB] at HX HU HY ⊢
 have HBe:=hide hB
 clear hB
 have x0:w2.cell? ⟨B,0,none⟩ = some (.int .i64 r):=by rw [cell_of_row w2 _ 0 _ _ _ HX.out];rfl
 have x1:w2.cell? ⟨B,1,none⟩ = some (.int .i64 l):=by rw [cell_of_row w2 _ 1 _ _ _ HX.out];rfl
 have u0:w2.cell? ⟨B + 1,0,none⟩ = some (.int .i64 wd):=by rw [cell_of_row w2 _ 0 _ _ _ HU.out];rfl
 have u1:w2.cell? ⟨B + 1,1,none⟩ = some (.int .i64 h):=by rw [cell_of_row w2 _ 1 _ _ _ HU.out];rfl
 simp only [okE,if_pos]
 have HBB:Hid (∀ W:World,Below w.heap.size w W→∀ (q1 q2:Addr) (x1 x2:Value),B≤q1.block→B≤q2.block→Below w.heap.size w ((W.setCell q1 x1).setCell q2 x2)):=fun W hb q1 q2 x1 x2 g1 g2 =>
  (hb.setCell (by rw [HBe.out];exact g1) _).setCell (by rw [HBe.out];exact g2) _
 by_cases hl:0 < l
 ·have HG:=hide (fun W=>goOn_any r l p (decide (0 < v)) W hl l2)
  unfold bandV at HG
  have hans:nextV r l wd h p v = .tuple #[.agg #[.int .i64 (if l = 1∧decide (0 < v) = true then p else r),.int .i64 (l - 1)],.bool false,.nilIface]:=by
   simp [nextV,bandV,Bd.nR,Bd.nL,Bd.nO,hl]
  have HAN:=hide hans
  clear hans
  generalize (if l = 1∧decide (0 < v) = true then p else r) = nr at HG HAN
  have HN:=HAN
  by_cases hv:0 < v
  all_goals
   first | (have hvd : decide (0 < v) = true := by simpa using hv
            rw [hvd] at HG) | (have hvd : decide (0 < v) = false := by simpa using hv
                               rw [hvd] at HG)
   go_wp2_with fail
   refine (HG.out _).mono ?_
   rintro e w3 ⟨rfl,hb3⟩
   have HB3:Hid (Below w.heap.size w w3):=HB.out.trans (hb3.mono HB.out.size)
   have hY:w3.heap[B + 1 + 1]? = some (.cells #[.int .i64 0,.int .i64 0] 78 (0,0)):=by rw [hb3.block _ (Array.getElem?_eq_some_iff.1 HY.out).1];exact HY.out
   have y0:w3.cell? ⟨B + 1 + 1,0,none⟩ = some (.int .i64 0):=by rw [cell_of_row w3 _ 0 _ _ _ hY];rfl
   have y1:w3.cell? ⟨B + 1 + 1,1,none⟩ = some (.int .i64 0):=by rw [cell_of_row w3 _ 1 _ _ _ hY];rfl
   have z0:w3.frozen? ⟨B + 1 + 1,0,none⟩ = false:=by simp [World.frozen?,hY]
   have z1:w3.frozen? ⟨B + 1 + 1,1,none⟩ = false:=by simp [World.frozen?,hY]
   clear hb3 HG x0 x1 u0 u1 hY HX HU HY HB
   simp only []
   go_wp2
   exact bodyPost_ret (v:=.tuple #[.agg #[.int .i64 nr,.int .i64 (l - 1)],.bool false,.nilIface]) (by simp [results,Tryz.results163,go_sem,y0,y1]) rfl ⟨by rw [HAN.out],HBB.out _ HB3.out _ _ _ _ (by simp;omega) (by simp;omega)⟩
 ·obtain rfl:l = 0:=by omega
  have hy0:w2.cell? ⟨B + 1 + 1,0,none⟩ = some (.int .i64 0):=by rw [cell_of_row w2 _ 0 _ _ _ HY.out];rfl
  by_cases hv:0 < v
  ·have hvd:decide (0 < v) = true:=by simpa using hv
   have hp:1≤p∧p≤1000:=by omega
   have HG:=hide (fun W=>ruleIn_any wd h r p W r1 r2 wd1 wd2 hp.1 hp.2)
   unfold bandV at HG
   cases hin:Bd.inB wd r p with
   | false =>
    have hans:nextV r 0 wd h p v = .tuple #[.agg #[.int .i64 r,.int .i64 h],.bool false,.nilIface]:=by
     simp [nextV,bandV,Bd.nR,Bd.nL,Bd.nO,hin,hv]
    have HAN:=hide hans
    rw [hin] at HG
    clear hans hin
    go_wp2_with fail
    refine (HG.out _).mono ?_
    rintro e w3 ⟨rfl,hb3⟩
    have HB3:Hid (Below w.heap.size w w3):=HB.out.trans (hb3.mono HB.out.size)
    have hX:w3.heap[B]? = some (.cells #[.int .i64 r,.int .i64 0] 78 (0,0)):=by rw [hb3.block _ (Array.getElem?_eq_some_iff.1 HX.out).1];exact HX.out
    have hU:w3.heap[B + 1]? = some (.cells #[.int .i64 wd,.int .i64 h] 32 (0,0)):=by rw [hb3.block _ (Array.getElem?_eq_some_iff.1 HU.out).1];exact HU.out
    have hY:w3.heap[B + 1 + 1]? = some (.cells #[.int .i64 0,.int .i64 0] 78 (0,0)):=by rw [hb3.block _ (Array.getElem?_eq_some_iff.1 HY.out).1];exact HY.out
    clear x0 x1 u0 u1 hy0
    have x0:w3.cell? ⟨B,0,none⟩ = some (.int .i64 r):=by rw [cell_of_row w3 _ 0 _ _ _ hX];rfl
    have x1:w3.cell? ⟨B,1,none⟩ = some (.int .i64 0):=by rw [cell_of_row w3 _ 1 _ _ _ hX];rfl
    have u1:w3.cell? ⟨B + 1,1,none⟩ = some (.int .i64 h):=by rw [cell_of_row w3 _ 1 _ _ _ hU];rfl
    have y0:w3.cell? ⟨B + 1 + 1,0,none⟩ = some (.int .i64 0):=by rw [cell_of_row w3 _ 0 _ _ _ hY];rfl
    have y1:w3.cell? ⟨B + 1 + 1,1,none⟩ = some (.int .i64 0):=by rw [cell_of_row w3 _ 1 _ _ _ hY];rfl
    have z0:w3.frozen? ⟨B + 1 + 1,0,none⟩ = false:=by simp [World.frozen?,hY]
    have z1:w3.frozen? ⟨B + 1 + 1,1,none⟩ = false:=by simp [World.frozen?,hY]
    have f0:w3.frozen? ⟨B,0,none⟩ = false:=by simp [World.frozen?,hX]
    have f1:w3.frozen? ⟨B,1,none⟩ = false:=by simp [World.frozen?,hX]
    clear hb3 HG hX hU hY HX HU HY HB
    simp only []
    go_wp2
    exact bodyPost_ret (v:=.tuple #[.agg #[.int .i64 r,.int .i64 h],.bool false,.nilIface]) (by simp [results,Tryz.results163,go_sem,y0,y1]) rfl ⟨by rw [HAN.out],HBB.out _ (HB3.out.setCell (by rw [HBe.out];exact Nat.le_refl _) _) _ _ _ _ (by simp;omega) (by simp;omega)⟩
   | true =>
    have hans:nextV r 0 wd h p v = .tuple #[.agg #[.int .i64 p,.int .i64 0],.bool true,.nilIface]:=by
     simp [nextV,bandV,Bd.nR,Bd.nL,Bd.nO,hin,hv]
    have HAN:=hide hans
    rw [hin] at HG
    clear hans hin
    go_wp2_with fail
    refine (HG.out _).mono ?_
    rintro e w3 ⟨rfl,hb3⟩
    have HB3:Hid (Below w.heap.size w w3):=HB.out.trans (hb3.mono HB.out.size)
    have hX:w3.heap[B]? = some (.cells #[.int .i64 r,.int .i64 0] 78 (0,0)):=by rw [hb3.block _ (Array.getElem?_eq_some_iff.1 HX.out).1];exact HX.out
    have hU:w3.heap[B + 1]? = some (.cells #[.int .i64 wd,.int .i64 h] 32 (0,0)):=by rw [hb3.block _ (Array.getElem?_eq_some_iff.1 HU.out).1];exact HU.out
    have hY:w3.heap[B + 1 + 1]? = some (.cells #[.int .i64 0,.int .i64 0] 78 (0,0)):=by rw [hb3.block _ (Array.getElem?_eq_some_iff.1 HY.out).1];exact HY.out
    clear x0 x1 u0 u1 hy0
    have x0:w3.cell? ⟨B,0,none⟩ = some (.int .i64 r):=by rw [cell_of_row w3 _ 0 _ _ _ hX];rfl
    have x1:w3.cell? ⟨B,1,none⟩ = some (.int .i64 0):=by rw [cell_of_row w3 _ 1 _ _ _ hX];rfl
    have u1:w3.cell? ⟨B + 1,1,none⟩ = some (.int .i64 h):=by rw [cell_of_row w3 _ 1 _ _ _ hU];rfl
    have y0:w3.cell? ⟨B + 1 + 1,0,none⟩ = some (.int .i64 0):=by rw [cell_of_row w3 _ 0 _ _ _ hY];rfl
    have y1:w3.cell? ⟨B + 1 + 1,1,none⟩ = some (.int .i64 0):=by rw [cell_of_row w3 _ 1 _ _ _ hY];rfl
    have z0:w3.frozen? ⟨B + 1 + 1,0,none⟩ = false:=by simp [World.frozen?,hY]
    have z1:w3.frozen? ⟨B + 1 + 1,1,none⟩ = false:=by simp [World.frozen?,hY]
    have f0:w3.frozen? ⟨B,0,none⟩ = false:=by simp [World.frozen?,hX]
    have f1:w3.frozen? ⟨B,1,none⟩ = false:=by simp [World.frozen?,hX]
    clear hb3 HG hX hU hY HX HU HY HB
    simp only []
    go_wp2
    exact bodyPost_ret (v:=.tuple #[.agg #[.int .i64 p,.int .i64 0],.bool true,.nilIface]) (by simp [results,Tryz.results163,go_sem,y0,y1]) rfl ⟨by rw [HAN.out],HBB.out _ (HB3.out.setCell (by rw [HBe.out];exact Nat.le_refl _) _) _ _ _ _ (by simp;omega) (by simp;omega)⟩
  ·have hvd:decide (0 < v) = false:=by simpa using hv
   have hans:nextV r 0 wd h p v = .tuple #[.agg #[.int .i64 r,.int .i64 0],.bool true,.nilIface]:=by
    simp [nextV,bandV,Bd.nR,Bd.nL,Bd.nO,hv]
   have HAN:=hide hans
   have y1:w2.cell? ⟨B + 1 + 1,1,none⟩ = some (.int .i64 0):=by rw [cell_of_row w2 _ 1 _ _ _ HY.out];rfl
   have z0:w2.frozen? ⟨B + 1 + 1,0,none⟩ = false:=by simp [World.frozen?,HY.out]
   have z1:w2.frozen? ⟨B + 1 + 1,1,none⟩ = false:=by simp [World.frozen?,HY.out]
   clear hans
   go_wp2
   exact bodyPost_ret (v:=.tuple #[.agg #[.int .i64 r,.int .i64 0],.bool true,.nilIface]) (by simp [results,Tryz.results163,go_sem,hy0,y1]) rfl ⟨by rw [HAN.out],HBB.out _ HB.out _ _ _ _ (by simp;omega) (by simp;omega)⟩
theorem highAt_lt (s:ByteArray) (i:Nat):highAt s i < 4294967296:=by
 have:=bAt_lt s i;have:=bAt_lt s (i + 1);have:=bAt_lt s (i + 2);have:=bAt_lt s (i + 3)
 unfold highAt;omega
theorem highAt_extract (s:ByteArray) (a b:Nat) (h:a + 4≤b) (hb:b≤s.size):highAt (s.extract a b) 0 = highAt s a:=by
 simp only [highAt]
 rw [bAt_extract s a b 0 (by omega) hb,bAt_extract s a b (0 + 1) (by omega) hb,bAt_extract s a b (0 + 2) (by omega) hb,bAt_extract s a b (0 + 3) (by omega) hb]
 rfl
theorem lowAt_extract (s:ByteArray) (a b:Nat) (h:a + 4≤b) (hb:b≤s.size):lowAt (s.extract a b) 0 = lowAt s a:=by
 simp only [lowAt]
 rw [bAt_extract s a b 0 (by omega) hb,bAt_extract s a b (0 + 1) (by omega) hb,bAt_extract s a b (0 + 2) (by omega) hb,bAt_extract s a b (0 + 3) (by omega) hb]
 rfl
theorem below_drewN {w:World} (m:Nat):Below w.heap.size w (w.drewN m):=by
 induction m with
 | zero=>exact Below.refl _ _
 | succ n ih=>exact ih.drew
set_option maxHeartbeats 4000000 in
theorem fields_any (s:ByteArray) (w:World) (hs:s.size = 30) :
  Calls Tryz.prog 141 #[.string s] w fun e w'=>e = .returned (.agg #[.int .u8 (bAt s 0),.int .i64 (bAt s 1),.int .i64 (highAt s 2),.int .i64 (bAt s 6),.int .i64 (bAt s 7),.int .i64 (highAt s 8),.int .i64 (highAt s 12),.int .i64 (highAt s 16)])∧Below w.heap.size w w':=by
 have Hs:=hide hs
 have g0:0 < s.size:=by omega
 have g1:1 < s.size:=by omega
 have g6:6 < s.size:=by omega
 have g7:7 < s.size:=by omega
 have h1:(1:Int) < s.size:=by omega
 have h6:(6:Int) < s.size:=by omega
 have h7:(7:Int) < s.size:=by omega
 have e6:6≤s.size:=by omega
 have e12:12≤s.size:=by omega
 have e16:16≤s.size:=by omega
 have e20:20≤s.size:=by omega
 have f6:(6:Int)≤s.size:=by omega
 have f12:(12:Int)≤s.size:=by omega
 have f16:(16:Int)≤s.size:=by omega
 have f20:(20:Int)≤s.size:=by omega
 clear hs
 go_enter Tryz.func141,Tryz.ntmps141
 go_wp2
 refine region_quiet_tail 28 (by kernel_rfl) (by kernel_rfl) ?_
 simp only [List.take_succ_cons,List.take_zero,List.drop_succ_cons,List.drop_zero]
 repeat (first | go_big_quiet_step ((go_at_call 148;refine Calls.quiet_of (getHigh _ _ ?_);(simp;have:=Hs.out;omega))) | quiet_step ((go_at_call 148;refine Calls.quiet_of (getHigh _ _ ?_);(simp;have:=Hs.out;omega))))
 refine wpQuiet_nil ?_
 intro _ hw'
 obtain ⟨nq,hw''⟩:=hw'
 subst hw''
 go_wp2
 have E:Value.agg #[.int .u8 (s[0]).toNat,.int .i64 (wrap64 (s[1]).toNat),.int .i64 (wrap64 (highAt (s.extract 2 6) 0)),.int .i64 (wrap64 (s[6]).toNat),.int .i64 (wrap64 (s[7]).toNat),.int .i64 (wrap64 (highAt (s.extract 8 12) 0)),.int .i64 (wrap64 (highAt (s.extract 12 16) 0)),.int .i64 (wrap64 (highAt (s.extract 16 20) 0))]
   = .agg #[.int .u8 (bAt s 0),.int .i64 (bAt s 1),.int .i64 (highAt s 2),.int .i64 (bAt s 6),.int .i64 (bAt s 7),.int .i64 (highAt s 8),.int .i64 (highAt s 12),.int .i64 (highAt s 16)]:=by
  have hs:=Hs.out
  rw [bAt_eq s 0 g0,bAt_eq s 1 g1,bAt_eq s 6 g6,bAt_eq s 7 g7,wrap64_small (bAt s 1) (by have:=bAt_lt s 1;omega),wrap64_small (bAt s 6) (by have:=bAt_lt s 6;omega),wrap64_small (bAt s 7) (by have:=bAt_lt s 7;omega),
   highAt_extract s 2 6 (by omega) (by omega),highAt_extract s 8 12 (by omega) (by omega),highAt_extract s 12 16 (by omega) (by omega),highAt_extract s 16 20 (by omega) (by omega),wrap64_small (highAt s 2) (by have:=highAt_lt s 2;omega),wrap64_small (highAt s 8) (by have:=highAt_lt s 8;omega),wrap64_small (highAt s 12) (by have:=highAt_lt s 12;omega),wrap64_small (highAt s 16) (by have:=highAt_lt s 16;omega)]
 refine bodyPost_ret (v:=.agg #[.int .u8 (s[0]).toNat,.int .i64 (wrap64 (s[1]).toNat),.int .i64 (wrap64 (highAt (s.extract 2 6) 0)),.int .i64 (wrap64 (s[6]).toNat),.int .i64 (wrap64 (s[7]).toNat),.int .i64 (wrap64 (highAt (s.extract 8 12) 0)),.int .i64 (wrap64 (highAt (s.extract 12 16) 0)),.int .i64 (wrap64 (highAt (s.extract 16 20) 0))]) (by simp [results,Tryz.results141,go_sem]) rfl ⟨?_,?_⟩
 ·rw [E]
 ·iterate 8 refine Below.setCell (p:=⟨w.heap.size,_,none⟩) ?_ (Nat.le_refl w.heap.size) _
  exact ((Below.refl _ _).alloc (Nat.le_refl _) _).trans ((below_drewN nq).mono (by simp))
def zeroAsk:Value:=.agg #[.int .u8 0,.int .i64 0,.int .i64 0,.int .i64 0,.int .i64 0,.int .i64 0,.int .i64 0,.int .i64 0]
def fieldsAsk (s:ByteArray):Value:=.agg #[.int .u8 (bAt s 0),.int .i64 (bAt s 1),.int .i64 (highAt s 2),.int .i64 (bAt s 6),.int .i64 (bAt s 7),.int .i64 (highAt s 8),.int .i64 (highAt s 12),.int .i64 (highAt s 16)]
set_option maxHeartbeats 1000000 in
theorem decode_text (s:ByteArray) (v0:Value) (w:World) (c0:w.cell? ⟨0,0,none⟩ = some v0) (hs:((s.size:Int) != 30) = true) :
  Calls Tryz.prog 105 #[.string s] w fun e w'=>e = .returned (.tuple #[zeroAsk,v0])∧Below w.heap.size w w':=by
 have hz:0 < w.heap.size:=World.block_lt_of_cell? _ _ c0
 go_enter Tryz.func105,Tryz.ntmps105
 go_wp2
 go_region
 all_goals go_wp2
 all_goals
  refine bodyPost_ret (v:=.tuple #[zeroAsk,v0]) (by simp [results,Tryz.results105,go_sem,zeroAsk]) rfl ⟨rfl,?_⟩
  repeat first | exact (Below.refl _ _).alloc (Nat.le_refl _) _ | refine Below.drew ?_ | refine Below.setCell (p:=⟨w.heap.size,_,none⟩) ?_ (Nat.le_refl w.heap.size) _
set_option maxHeartbeats 1000000 in
theorem decode_sum (s:ByteArray) (v4:Value) (w:World) (c4:w.cell? ⟨6,0,none⟩ = some v4) (hs:((s.size:Int) != 30) = false) (hne:((lowAt s 26:Int) != (Wi.sum (s.data.toList.take 26):Int)) = true) :
  Calls Tryz.prog 105 #[.string s] w fun e w'=>e = .returned (.tuple #[zeroAsk,v4])∧Below w.heap.size w w':=by
 have hz:6 < w.heap.size:=World.block_lt_of_cell? _ _ c4
 have hs':s.size = 30:=by have:=hs;simp at this;omega
 have e26:26≤s.size:=by omega
 have f26:(26:Int)≤s.size:=by omega
 have hl:lowAt (s.extract 26 s.size) 0 = lowAt s 26:=lowAt_extract s 26 s.size (by omega) (Nat.le_refl _)
 have Hs:=hide hs'
 clear hs'
 go_enter Tryz.func105,Tryz.ntmps105
 go_wp2
 go_quiet (first | (go_at_call 140;refine Calls.quiet_of (getLow _ _ ?_);(simp;have:=Hs.out;omega)) | (go_at_call 125;refine Calls.quiet_of_same (sum_any _ _ ?_);(simp [maxLen];have:=Hs.out;omega)))
 go_wp2
 go_region
 all_goals go_wp2
 all_goals
  refine bodyPost_ret (v:=.tuple #[zeroAsk,v4]) (by simp [results,Tryz.results105,go_sem,zeroAsk]) rfl ⟨rfl,?_⟩
  iterate 8 refine Below.setCell (p:=⟨w.heap.size,_,none⟩) ?_ (Nat.le_refl w.heap.size) _
  exact ((Below.refl _ _).alloc (Nat.le_refl _) _).trans ((below_drewN (nq + 1)).mono (by simp))
set_option maxHeartbeats 1000000 in
theorem decode_shape (s:ByteArray) (v2:Value) (w:World) (c2:w.cell? ⟨3,0,none⟩ = some v2) (hs:((s.size:Int) != 30) = false) (hne:((lowAt s 26:Int) != (Wi.sum (s.data.toList.take 26):Int)) = false) (hsp:((s.extract 20 26).toList == [0,0,0,0,0,0]) = false) :
  Calls Tryz.prog 105 #[.string s] w fun e w'=>e = .returned (.tuple #[zeroAsk,v2])∧Below w.heap.size w w':=by
 have hz:3 < w.heap.size:=World.block_lt_of_cell? _ _ c2
 have hs':s.size = 30:=by have:=hs;simp at this;omega
 have e20:20≤s.size:=by omega
 have f20:(20:Int)≤s.size:=by omega
 have e26:26≤s.size:=by omega
 have f26:(26:Int)≤s.size:=by omega
 have hl:lowAt (s.extract 26 s.size) 0 = lowAt s 26:=lowAt_extract s 26 s.size (by omega) (Nat.le_refl _)
 have Hs:=hide hs'
 clear hs'
 go_enter Tryz.func105,Tryz.ntmps105
 go_wp2
 go_quiet (first | (go_at_call 140;refine Calls.quiet_of (getLow _ _ ?_);(simp;have:=Hs.out;omega)) | (go_at_call 125;refine Calls.quiet_of_same (sum_any _ _ ?_);(simp [maxLen];have:=Hs.out;omega)))
 go_wp2
 go_region
 all_goals go_wp2
 all_goals
  refine bodyPost_ret (v:=.tuple #[zeroAsk,v2]) (by simp [results,Tryz.results105,go_sem,zeroAsk]) rfl ⟨rfl,?_⟩
  iterate 8 refine Below.setCell (p:=⟨w.heap.size,_,none⟩) ?_ (Nat.le_refl w.heap.size) _
  exact ((Below.refl _ _).alloc (Nat.le_refl _) _).trans ((below_drewN (nq + 1)).mono (by simp))
set_option maxHeartbeats 1000000 in
theorem decode_ok (s:ByteArray) (w:World) (hs:((s.size:Int) != 30) = false) (hne:((lowAt s 26:Int) != (Wi.sum (s.data.toList.take 26):Int)) = false) (hsp:((s.extract 20 26).toList == [0,0,0,0,0,0]) = true)
  (hchk:Hid (∀ wz,Below w.heap.size w wz→Calls Tryz.prog 127 #[fieldsAsk s] wz fun e w'=>e = .returned .nilIface∧Below wz.heap.size wz w')) :
  Calls Tryz.prog 105 #[.string s] w fun e w'=>e = .returned (.tuple #[fieldsAsk s,.nilIface])∧Below w.heap.size w w':=by
 have hs':s.size = 30:=by have:=hs;simp at this;omega
 have e20:20≤s.size:=by omega
 have f20:(20:Int)≤s.size:=by omega
 have e26:26≤s.size:=by omega
 have f26:(26:Int)≤s.size:=by omega
 have hl:lowAt (s.extract 26 s.size) 0 = lowAt s 26:=lowAt_extract s 26 s.size (by omega) (Nat.le_refl _)
 have Hs:=hide hs'
 clear hs'
 go_enter Tryz.func105,Tryz.ntmps105
 go_wp2
 go_quiet (first | (go_at_call 140;refine Calls.quiet_of (getLow _ _ ?_);(simp;have:=Hs.out;omega)) | (go_at_call 125;refine Calls.quiet_of_same (sum_any _ _ ?_);(simp [maxLen];have:=Hs.out;omega)))
 go_wp2_with fail
 have hB:Below w.heap.size w ((w.alloc (.cells #[.int .u8 0,.int .i64 0,.int .i64 0,.int .i64 0,.int .i64 0,.int .i64 0,.int .i64 0,.int .i64 0] 45)).drewN nq):=((Below.refl _ _).alloc (Nat.le_refl _) _).trans ((below_drewN nq).mono (by simp))
 have HB:=hide hB
 clear hB
 refine (fields_any s _ Hs.out).mono ?_
 rintro e w1 ⟨rfl,hb1⟩
 go_wp2_with fail
 have hz1:w.heap.size < w1.heap.size:=by have:=hb1.size;simp at this;omega
 have HB1:Hid (Below w.heap.size w w1):=HB.out.trans (hb1.mono HB.out.size)
 have HBz:Hid (Below w.heap.size w (w1.alloc (.cells #[.int .u8 (bAt s 0),.int .i64 (bAt s 1),.int .i64 (highAt s 2),.int .i64 (bAt s 6),.int .i64 (bAt s 7),.int .i64 (highAt s 8),.int .i64 (highAt s 12),.int .i64 (highAt s 16)] 45))):=HB1.out.alloc HB1.out.size _
 have r0:w1.cell? ⟨w.heap.size,0,none⟩ = some (.int .u8 0):=by rw [hb1.cell (p:=⟨w.heap.size,0,none⟩) (by simp)];simp
 have z0:w1.frozen? ⟨w.heap.size,0,none⟩ = false:=by rw [hb1.frozen (p:=⟨w.heap.size,0,none⟩) (by simp)];simp
 have r1:w1.cell? ⟨w.heap.size,1,none⟩ = some (.int .i64 0):=by rw [hb1.cell (p:=⟨w.heap.size,1,none⟩) (by simp)];simp
 have z1:w1.frozen? ⟨w.heap.size,1,none⟩ = false:=by rw [hb1.frozen (p:=⟨w.heap.size,1,none⟩) (by simp)];simp
 have r2:w1.cell? ⟨w.heap.size,2,none⟩ = some (.int .i64 0):=by rw [hb1.cell (p:=⟨w.heap.size,2,none⟩) (by simp)];simp
 have z2:w1.frozen? ⟨w.heap.size,2,none⟩ = false:=by rw [hb1.frozen (p:=⟨w.heap.size,2,none⟩) (by simp)];simp
 have r3:w1.cell? ⟨w.heap.size,3,none⟩ = some (.int .i64 0):=by rw [hb1.cell (p:=⟨w.heap.size,3,none⟩) (by simp)];simp
 have z3:w1.frozen? ⟨w.heap.size,3,none⟩ = false:=by rw [hb1.frozen (p:=⟨w.heap.size,3,none⟩) (by simp)];simp
 have r4:w1.cell? ⟨w.heap.size,4,none⟩ = some (.int .i64 0):=by rw [hb1.cell (p:=⟨w.heap.size,4,none⟩) (by simp)];simp
 have z4:w1.frozen? ⟨w.heap.size,4,none⟩ = false:=by rw [hb1.frozen (p:=⟨w.heap.size,4,none⟩) (by simp)];simp
 have r5:w1.cell? ⟨w.heap.size,5,none⟩ = some (.int .i64 0):=by rw [hb1.cell (p:=⟨w.heap.size,5,none⟩) (by simp)];simp
 have z5:w1.frozen? ⟨w.heap.size,5,none⟩ = false:=by rw [hb1.frozen (p:=⟨w.heap.size,5,none⟩) (by simp)];simp
 have r6:w1.cell? ⟨w.heap.size,6,none⟩ = some (.int .i64 0):=by rw [hb1.cell (p:=⟨w.heap.size,6,none⟩) (by simp)];simp
 have z6:w1.frozen? ⟨w.heap.size,6,none⟩ = false:=by rw [hb1.frozen (p:=⟨w.heap.size,6,none⟩) (by simp)];simp
 have r7:w1.cell? ⟨w.heap.size,7,none⟩ = some (.int .i64 0):=by rw [hb1.cell (p:=⟨w.heap.size,7,none⟩) (by simp)];simp
 have z7:w1.frozen? ⟨w.heap.size,7,none⟩ = false:=by rw [hb1.frozen (p:=⟨w.heap.size,7,none⟩) (by simp)];simp
 clear hb1 HB
 refine (hchk.out _ HBz.out).mono ?_
 rintro e w2 ⟨rfl,hb2⟩
 have HB2:Hid (Below w.heap.size w w2):=HBz.out.trans (hb2.mono HBz.out.size)
 have hz2:w1.heap.size < w2.heap.size:=by have:=hb2.size;simp at this;omega
 have R0:w2.cell? ⟨w.heap.size,0,none⟩ = some (.int .u8 0):=by rw [hb2.cell (p:=⟨w.heap.size,0,none⟩) (by simp;omega),World.cell?_alloc_lt _ _ ⟨w.heap.size,0,none⟩ hz1];exact r0
 have Z0:w2.frozen? ⟨w.heap.size,0,none⟩ = false:=by rw [hb2.frozen (p:=⟨w.heap.size,0,none⟩) (by simp;omega),World.frozen?_alloc_old _ _ ⟨w.heap.size,0,none⟩ (Nat.ne_of_lt hz1)];exact z0
 have A0:w2.cell? ⟨w1.heap.size,0,none⟩ = some (.int .u8 (bAt s 0)):=by rw [hb2.cell (p:=⟨w1.heap.size,0,none⟩) (by simp)];simp
 have R1:w2.cell? ⟨w.heap.size,1,none⟩ = some (.int .i64 0):=by rw [hb2.cell (p:=⟨w.heap.size,1,none⟩) (by simp;omega),World.cell?_alloc_lt _ _ ⟨w.heap.size,1,none⟩ hz1];exact r1
 have Z1:w2.frozen? ⟨w.heap.size,1,none⟩ = false:=by rw [hb2.frozen (p:=⟨w.heap.size,1,none⟩) (by simp;omega),World.frozen?_alloc_old _ _ ⟨w.heap.size,1,none⟩ (Nat.ne_of_lt hz1)];exact z1
 have A1:w2.cell? ⟨w1.heap.size,1,none⟩ = some (.int .i64 (bAt s 1)):=by rw [hb2.cell (p:=⟨w1.heap.size,1,none⟩) (by simp)];simp
 have R2:w2.cell? ⟨w.heap.size,2,none⟩ = some (.int .i64 0):=by rw [hb2.cell (p:=⟨w.heap.size,2,none⟩) (by simp;omega),World.cell?_alloc_lt _ _ ⟨w.heap.size,2,none⟩ hz1];exact r2
 have Z2:w2.frozen? ⟨w.heap.size,2,none⟩ = false:=by rw [hb2.frozen (p:=⟨w.heap.size,2,none⟩) (by simp;omega),World.frozen?_alloc_old _ _ ⟨w.heap.size,2,none⟩ (Nat.ne_of_lt hz1)];exact z2
 have A2:w2.cell? ⟨w1.heap.size,2,none⟩ = some (.int .i64 (highAt s 2)):=by rw [hb2.cell (p:=⟨w1.heap.size,2,none⟩) (by simp)];simp
 have R3:w2.cell? ⟨w.heap.size,3,none⟩ = some (.int .i64 0):=by rw [hb2.cell (p:=⟨w.heap.size,3,none⟩) (by simp;omega),World.cell?_alloc_lt _ _ ⟨w.heap.size,3,none⟩ hz1];exact r3
 have Z3:w2.frozen? ⟨w.heap.size,3,none⟩ = false:=by rw [hb2.frozen (p:=⟨w.heap.size,3,none⟩) (by simp;omega),World.frozen?_alloc_old _ _ ⟨w.heap.size,3,none⟩ (Nat.ne_of_lt hz1)];exact z3
 have A3:w2.cell? ⟨w1.heap.size,3,none⟩ = some (.int .i64 (bAt s 6)):=by rw [hb2.cell (p:=⟨w1.heap.size,3,none⟩) (by simp)];simp
 have R4:w2.cell? ⟨w.heap.size,4,none⟩ = some (.int .i64 0):=by rw [hb2.cell (p:=⟨w.heap.size,4,none⟩) (by simp;omega),World.cell?_alloc_lt _ _ ⟨w.heap.size,4,none⟩ hz1];exact r4
 have Z4:w2.frozen? ⟨w.heap.size,4,none⟩ = false:=by rw [hb2.frozen (p:=⟨w.heap.size,4,none⟩) (by simp;omega),World.frozen?_alloc_old _ _ ⟨w.heap.size,4,none⟩ (Nat.ne_of_lt hz1)];exact z4
 have A4:w2.cell? ⟨w1.heap.size,4,none⟩ = some (.int .i64 (bAt s 7)):=by rw [hb2.cell (p:=⟨w1.heap.size,4,none⟩) (by simp)];simp
 have R5:w2.cell? ⟨w.heap.size,5,none⟩ = some (.int .i64 0):=by rw [hb2.cell (p:=⟨w.heap.size,5,none⟩) (by simp;omega),World.cell?_alloc_lt _ _ ⟨w.heap.size,5,none⟩ hz1];exact r5
 have Z5:w2.frozen? ⟨w.heap.size,5,none⟩ = false:=by rw [hb2.frozen (p:=⟨w.heap.size,5,none⟩) (by simp;omega),World.frozen?_alloc_old _ _ ⟨w.heap.size,5,none⟩ (Nat.ne_of_lt hz1)];exact z5
 have A5:w2.cell? ⟨w1.heap.size,5,none⟩ = some (.int .i64 (highAt s 8)):=by rw [hb2.cell (p:=⟨w1.heap.size,5,none⟩) (by simp)];simp
 have R6:w2.cell? ⟨w.heap.size,6,none⟩ = some (.int .i64 0):=by rw [hb2.cell (p:=⟨w.heap.size,6,none⟩) (by simp;omega),World.cell?_alloc_lt _ _ ⟨w.heap.size,6,none⟩ hz1];exact r6
 have Z6:w2.frozen? ⟨w.heap.size,6,none⟩ = false:=by rw [hb2.frozen (p:=⟨w.heap.size,6,none⟩) (by simp;omega),World.frozen?_alloc_old _ _ ⟨w.heap.size,6,none⟩ (Nat.ne_of_lt hz1)];exact z6
 have A6:w2.cell? ⟨w1.heap.size,6,none⟩ = some (.int .i64 (highAt s 12)):=by rw [hb2.cell (p:=⟨w1.heap.size,6,none⟩) (by simp)];simp
 have R7:w2.cell? ⟨w.heap.size,7,none⟩ = some (.int .i64 0):=by rw [hb2.cell (p:=⟨w.heap.size,7,none⟩) (by simp;omega),World.cell?_alloc_lt _ _ ⟨w.heap.size,7,none⟩ hz1];exact r7
 have Z7:w2.frozen? ⟨w.heap.size,7,none⟩ = false:=by rw [hb2.frozen (p:=⟨w.heap.size,7,none⟩) (by simp;omega),World.frozen?_alloc_old _ _ ⟨w.heap.size,7,none⟩ (Nat.ne_of_lt hz1)];exact z7
 have A7:w2.cell? ⟨w1.heap.size,7,none⟩ = some (.int .i64 (highAt s 16)):=by rw [hb2.cell (p:=⟨w1.heap.size,7,none⟩) (by simp)];simp
 clear hb2 r0 r1 r2 r3 r4 r5 r6 r7 z0 z1 z2 z3 z4 z5 z6 z7
 go_wp2
 refine bodyPost_ret (v:=.tuple #[fieldsAsk s,.nilIface]) (by simp [results,Tryz.results105,go_sem,fieldsAsk,R0,R1,R2,R3,R4,R5,R6,R7]) rfl ⟨rfl,?_⟩
 iterate 8 refine Below.setCell (p:=⟨w.heap.size,_,none⟩) ?_ (Nat.le_refl w.heap.size) _
 exact HB2.out
set_option maxHeartbeats 1000000 in
theorem decode_bad (s:ByteArray) (T:TypeId) (x:Value) (w:World) (hs:((s.size:Int) != 30) = false) (hne:((lowAt s 26:Int) != (Wi.sum (s.data.toList.take 26):Int)) = false) (hsp:((s.extract 20 26).toList == [0,0,0,0,0,0]) = true)
  (hchk:Hid (∀ wz,Below w.heap.size w wz→Calls Tryz.prog 127 #[fieldsAsk s] wz fun e w'=>e = .returned (.iface T x)∧Below wz.heap.size wz w')) :
  Calls Tryz.prog 105 #[.string s] w fun e w'=>e = .returned (.tuple #[zeroAsk,.iface T x])∧Below w.heap.size w w':=by
 have hs':s.size = 30:=by have:=hs;simp at this;omega
 have e20:20≤s.size:=by omega
 have f20:(20:Int)≤s.size:=by omega
 have e26:26≤s.size:=by omega
 have f26:(26:Int)≤s.size:=by omega
 have hl:lowAt (s.extract 26 s.size) 0 = lowAt s 26:=lowAt_extract s 26 s.size (by omega) (Nat.le_refl _)
 have Hs:=hide hs'
 clear hs'
 go_enter Tryz.func105,Tryz.ntmps105
 go_wp2
 go_quiet (first | (go_at_call 140;refine Calls.quiet_of (getLow _ _ ?_);(simp;have:=Hs.out;omega)) | (go_at_call 125;refine Calls.quiet_of_same (sum_any _ _ ?_);(simp [maxLen];have:=Hs.out;omega)))
 go_wp2_with fail
 have hB:Below w.heap.size w ((w.alloc (.cells #[.int .u8 0,.int .i64 0,.int .i64 0,.int .i64 0,.int .i64 0,.int .i64 0,.int .i64 0,.int .i64 0] 45)).drewN nq):=((Below.refl _ _).alloc (Nat.le_refl _) _).trans ((below_drewN nq).mono (by simp))
 have HB:=hide hB
 clear hB
 refine (fields_any s _ Hs.out).mono ?_
 rintro e w1 ⟨rfl,hb1⟩
 go_wp2_with fail
 have hz1:w.heap.size < w1.heap.size:=by have:=hb1.size;simp at this;omega
 have HB1:Hid (Below w.heap.size w w1):=HB.out.trans (hb1.mono HB.out.size)
 have HBz:Hid (Below w.heap.size w (w1.alloc (.cells #[.int .u8 (bAt s 0),.int .i64 (bAt s 1),.int .i64 (highAt s 2),.int .i64 (bAt s 6),.int .i64 (bAt s 7),.int .i64 (highAt s 8),.int .i64 (highAt s 12),.int .i64 (highAt s 16)] 45))):=HB1.out.alloc HB1.out.size _
 have r0:w1.cell? ⟨w.heap.size,0,none⟩ = some (.int .u8 0):=by rw [hb1.cell (p:=⟨w.heap.size,0,none⟩) (by simp)];simp
 have z0:w1.frozen? ⟨w.heap.size,0,none⟩ = false:=by rw [hb1.frozen (p:=⟨w.heap.size,0,none⟩) (by simp)];simp
 have r1:w1.cell? ⟨w.heap.size,1,none⟩ = some (.int .i64 0):=by rw [hb1.cell (p:=⟨w.heap.size,1,none⟩) (by simp)];simp
 have z1:w1.frozen? ⟨w.heap.size,1,none⟩ = false:=by rw [hb1.frozen (p:=⟨w.heap.size,1,none⟩) (by simp)];simp
 have r2:w1.cell? ⟨w.heap.size,2,none⟩ = some (.int .i64 0):=by rw [hb1.cell (p:=⟨w.heap.size,2,none⟩) (by simp)];simp
 have z2:w1.frozen? ⟨w.heap.size,2,none⟩ = false:=by rw [hb1.frozen (p:=⟨w.heap.size,2,none⟩) (by simp)];simp
 have r3:w1.cell? ⟨w.heap.size,3,none⟩ = some (.int .i64 0):=by rw [hb1.cell (p:=⟨w.heap.size,3,none⟩) (by simp)];simp
 have z3:w1.frozen? ⟨w.heap.size,3,none⟩ = false:=by rw [hb1.frozen (p:=⟨w.heap.size,3,none⟩) (by simp)];simp
 have r4:w1.cell? ⟨w.heap.size,4,none⟩ = some (.int .i64 0):=by rw [hb1.cell (p:=⟨w.heap.size,4,none⟩) (by simp)];simp
 have z4:w1.frozen? ⟨w.heap.size,4,none⟩ = false:=by rw [hb1.frozen (p:=⟨w.heap.size,4,none⟩) (by simp)];simp
 have r5:w1.cell? ⟨w.heap.size,5,none⟩ = some (.int .i64 0):=by rw [hb1.cell (p:=⟨w.heap.size,5,none⟩) (by simp)];simp
 have z5:w1.frozen? ⟨w.heap.size,5,none⟩ = false:=by rw [hb1.frozen (p:=⟨w.heap.size,5,none⟩) (by simp)];simp
 have r6:w1.cell? ⟨w.heap.size,6,none⟩ = some (.int .i64 0):=by rw [hb1.cell (p:=⟨w.heap.size,6,none⟩) (by simp)];simp
 have z6:w1.frozen? ⟨w.heap.size,6,none⟩ = false:=by rw [hb1.frozen (p:=⟨w.heap.size,6,none⟩) (by simp)];simp
 have r7:w1.cell? ⟨w.heap.size,7,none⟩ = some (.int .i64 0):=by rw [hb1.cell (p:=⟨w.heap.size,7,none⟩) (by simp)];simp
 have z7:w1.frozen? ⟨w.heap.size,7,none⟩ = false:=by rw [hb1.frozen (p:=⟨w.heap.size,7,none⟩) (by simp)];simp
 clear hb1 HB
 refine (hchk.out _ HBz.out).mono ?_
 rintro e w2 ⟨rfl,hb2⟩
 have HB2:Hid (Below w.heap.size w w2):=HBz.out.trans (hb2.mono HBz.out.size)
 have hz2:w1.heap.size < w2.heap.size:=by have:=hb2.size;simp at this;omega
 have R0:w2.cell? ⟨w.heap.size,0,none⟩ = some (.int .u8 0):=by rw [hb2.cell (p:=⟨w.heap.size,0,none⟩) (by simp;omega),World.cell?_alloc_lt _ _ ⟨w.heap.size,0,none⟩ hz1];exact r0
 have Z0:w2.frozen? ⟨w.heap.size,0,none⟩ = false:=by rw [hb2.frozen (p:=⟨w.heap.size,0,none⟩) (by simp;omega),World.frozen?_alloc_old _ _ ⟨w.heap.size,0,none⟩ (Nat.ne_of_lt hz1)];exact z0
 have A0:w2.cell? ⟨w1.heap.size,0,none⟩ = some (.int .u8 (bAt s 0)):=by rw [hb2.cell (p:=⟨w1.heap.size,0,none⟩) (by simp)];simp
 have R1:w2.cell? ⟨w.heap.size,1,none⟩ = some (.int .i64 0):=by rw [hb2.cell (p:=⟨w.heap.size,1,none⟩) (by simp;omega),World.cell?_alloc_lt _ _ ⟨w.heap.size,1,none⟩ hz1];exact r1
 have Z1:w2.frozen? ⟨w.heap.size,1,none⟩ = false:=by rw [hb2.frozen (p:=⟨w.heap.size,1,none⟩) (by simp;omega),World.frozen?_alloc_old _ _ ⟨w.heap.size,1,none⟩ (Nat.ne_of_lt hz1)];exact z1
 have A1:w2.cell? ⟨w1.heap.size,1,none⟩ = some (.int .i64 (bAt s 1)):=by rw [hb2.cell (p:=⟨w1.heap.size,1,none⟩) (by simp)];simp
 have R2:w2.cell? ⟨w.heap.size,2,none⟩ = some (.int .i64 0):=by rw [hb2.cell (p:=⟨w.heap.size,2,none⟩) (by simp;omega),World.cell?_alloc_lt _ _ ⟨w.heap.size,2,none⟩ hz1];exact r2
 have Z2:w2.frozen? ⟨w.heap.size,2,none⟩ = false:=by rw [hb2.frozen (p:=⟨w.heap.size,2,none⟩) (by simp;omega),World.frozen?_alloc_old _ _ ⟨w.heap.size,2,none⟩ (Nat.ne_of_lt hz1)];exact z2
 have A2:w2.cell? ⟨w1.heap.size,2,none⟩ = some (.int .i64 (highAt s 2)):=by rw [hb2.cell (p:=⟨w1.heap.size,2,none⟩) (by simp)];simp
 have R3:w2.cell? ⟨w.heap.size,3,none⟩ = some (.int .i64 0):=by rw [hb2.cell (p:=⟨w.heap.size,3,none⟩) (by simp;omega),World.cell?_alloc_lt _ _ ⟨w.heap.size,3,none⟩ hz1];exact r3
 have Z3:w2.frozen? ⟨w.heap.size,3,none⟩ = false:=by rw [hb2.frozen (p:=⟨w.heap.size,3,none⟩) (by simp;omega),World.frozen?_alloc_old _ _ ⟨w.heap.size,3,none⟩ (Nat.ne_of_lt hz1)];exact z3
 have A3:w2.cell? ⟨w1.heap.size,3,none⟩ = some (.int .i64 (bAt s 6)):=by rw [hb2.cell (p:=⟨w1.heap.size,3,none⟩) (by simp)];simp
 have R4:w2.cell? ⟨w.heap.size,4,none⟩ = some (.int .i64 0):=by rw [hb2.cell (p:=⟨w.heap.size,4,none⟩) (by simp;omega),World.cell?_alloc_lt _ _ ⟨w.heap.size,4,none⟩ hz1];exact r4
 have Z4:w2.frozen? ⟨w.heap.size,4,none⟩ = false:=by rw [hb2.frozen (p:=⟨w.heap.size,4,none⟩) (by simp;omega),World.frozen?_alloc_old _ _ ⟨w.heap.size,4,none⟩ (Nat.ne_of_lt hz1)];exact z4
 have A4:w2.cell? ⟨w1.heap.size,4,none⟩ = some (.int .i64 (bAt s 7)):=by rw [hb2.cell (p:=⟨w1.heap.size,4,none⟩) (by simp)];simp
 have R5:w2.cell? ⟨w.heap.size,5,none⟩ = some (.int .i64 0):=by rw [hb2.cell (p:=⟨w.heap.size,5,none⟩) (by simp;omega),World.cell?_alloc_lt _ _ ⟨w.heap.size,5,none⟩ hz1];exact r5
 have Z5:w2.frozen? ⟨w.heap.size,5,none⟩ = false:=by rw [hb2.frozen (p:=⟨w.heap.size,5,none⟩) (by simp;omega),World.frozen?_alloc_old _ _ ⟨w.heap.size,5,none⟩ (Nat.ne_of_lt hz1)];exact z5
 have A5:w2.cell? ⟨w1.heap.size,5,none⟩ = some (.int .i64 (highAt s 8)):=by rw [hb2.cell (p:=⟨w1.heap.size,5,none⟩) (by simp)];simp
 have R6:w2.cell? ⟨w.heap.size,6,none⟩ = some (.int .i64 0):=by rw [hb2.cell (p:=⟨w.heap.size,6,none⟩) (by simp;omega),World.cell?_alloc_lt _ _ ⟨w.heap.size,6,none⟩ hz1];exact r6
 have Z6:w2.frozen? ⟨w.heap.size,6,none⟩ = false:=by rw [hb2.frozen (p:=⟨w.heap.size,6,none⟩) (by simp;omega),World.frozen?_alloc_old _ _ ⟨w.heap.size,6,none⟩ (Nat.ne_of_lt hz1)];exact z6
 have A6:w2.cell? ⟨w1.heap.size,6,none⟩ = some (.int .i64 (highAt s 12)):=by rw [hb2.cell (p:=⟨w1.heap.size,6,none⟩) (by simp)];simp
 have R7:w2.cell? ⟨w.heap.size,7,none⟩ = some (.int .i64 0):=by rw [hb2.cell (p:=⟨w.heap.size,7,none⟩) (by simp;omega),World.cell?_alloc_lt _ _ ⟨w.heap.size,7,none⟩ hz1];exact r7
 have Z7:w2.frozen? ⟨w.heap.size,7,none⟩ = false:=by rw [hb2.frozen (p:=⟨w.heap.size,7,none⟩) (by simp;omega),World.frozen?_alloc_old _ _ ⟨w.heap.size,7,none⟩ (Nat.ne_of_lt hz1)];exact z7
 have A7:w2.cell? ⟨w1.heap.size,7,none⟩ = some (.int .i64 (highAt s 16)):=by rw [hb2.cell (p:=⟨w1.heap.size,7,none⟩) (by simp)];simp
 clear hb2 r0 r1 r2 r3 r4 r5 r6 r7 z0 z1 z2 z3 z4 z5 z6 z7
 go_wp2
 refine bodyPost_ret (v:=.tuple #[zeroAsk,.iface T x]) (by simp [results,Tryz.results105,go_sem,zeroAsk,R0,R1,R2,R3,R4,R5,R6,R7]) rfl ⟨rfl,?_⟩
 iterate 8 refine Below.setCell (p:=⟨w.heap.size,_,none⟩) ?_ (Nat.le_refl w.heap.size) _
 exact HB2.out
def Later (w0:World):Type:={ w:World // Below w0.heap.size w0 w }
def Later.val {w0:World} (x:Later w0):World:=x.1
theorem Later.low {w0:World} (x:Later w0):Below w0.heap.size w0 x.val:=x.2
def zerosN (n:Nat):List Int:=List.replicate n 0
theorem zerosN_succ (n:Nat):zerosN (n + 1) = zerosN n++[0]:=List.replicate_succ'
theorem zerosN_length (n:Nat):(zerosN n).length = n:=List.length_replicate
def strLen:Value→Nat
 | .string s=>s.size
 | _=>0
theorem byte_later {w0:World} (n:Int) (x:Later w0):Calls Tryz.prog 53 #[.int .i64 n] x.val fun e w''=>e = .returned (.string (strOfNums [n % 256]))∧∃ y:Later w0,w'' = y.val :=
 (byte_any n x.val).mono fun _ w' ⟨he,hb⟩=>⟨he,⟨w',x.low.trans (hb.mono x.low.size)⟩,rfl⟩
theorem high_later {w0:World} (n:Nat) (hn:n < 4294967296) (x:Later w0):Calls Tryz.prog 54 #[.int .i64 n] x.val fun e w''=>e = .returned (.string (strOfNums (Wi.high n)))∧∃ y:Later w0,w'' = y.val :=
 (high_any n x.val hn).mono fun _ w' ⟨he,hb⟩=>⟨he,⟨w',x.low.trans (hb.mono x.low.size)⟩,rfl⟩
set_option maxHeartbeats 4000000 in
theorem frame_any (k c sq it sd pr q id:Nat) (w:World) (hk:k < 256) (hsq:sq < 4294967296) (hpr:pr < 4294967296) (hq:q < 4294967296) (hid:id < 4294967296) :
  Calls Tryz.prog 16 #[.agg #[.int .u8 k,.int .i64 c,.int .i64 sq,.int .i64 it,.int .i64 sd,.int .i64 pr,.int .i64 q,.int .i64 id]] w fun e w'=>e = .returned (.string (strOfNums (Wi.frame k c sq it sd pr q id)))∧Below w.heap.size w w':=by
 go_enter Tryz.func16,Tryz.ntmps16
 go_wp2
 have hb0:Below w.heap.size w (w.alloc (.cells #[.int .u8 k,.int .i64 c,.int .i64 sq,.int .i64 it,.int .i64 sd,.int .i64 pr,.int .i64 q,.int .i64 id] 45)):=(Below.refl _ _).alloc (Nat.le_refl _) _
 have hz0:w.heap.size < (w.alloc (.cells #[.int .u8 k,.int .i64 c,.int .i64 sq,.int .i64 it,.int .i64 sd,.int .i64 pr,.int .i64 q,.int .i64 id] 45)).heap.size:=by simp
 have p0:(w.alloc (.cells #[.int .u8 k,.int .i64 c,.int .i64 sq,.int .i64 it,.int .i64 sd,.int .i64 pr,.int .i64 q,.int .i64 id] 45)).cell? ⟨w.heap.size,0,none⟩ = some (.int .u8 k):=by simp
 have p1:(w.alloc (.cells #[.int .u8 k,.int .i64 c,.int .i64 sq,.int .i64 it,.int .i64 sd,.int .i64 pr,.int .i64 q,.int .i64 id] 45)).cell? ⟨w.heap.size,1,none⟩ = some (.int .i64 c):=by simp
 have p2:(w.alloc (.cells #[.int .u8 k,.int .i64 c,.int .i64 sq,.int .i64 it,.int .i64 sd,.int .i64 pr,.int .i64 q,.int .i64 id] 45)).cell? ⟨w.heap.size,2,none⟩ = some (.int .i64 sq):=by simp
 have p3:(w.alloc (.cells #[.int .u8 k,.int .i64 c,.int .i64 sq,.int .i64 it,.int .i64 sd,.int .i64 pr,.int .i64 q,.int .i64 id] 45)).cell? ⟨w.heap.size,3,none⟩ = some (.int .i64 it):=by simp
 have p4:(w.alloc (.cells #[.int .u8 k,.int .i64 c,.int .i64 sq,.int .i64 it,.int .i64 sd,.int .i64 pr,.int .i64 q,.int .i64 id] 45)).cell? ⟨w.heap.size,4,none⟩ = some (.int .i64 sd):=by simp
 have p5:(w.alloc (.cells #[.int .u8 k,.int .i64 c,.int .i64 sq,.int .i64 it,.int .i64 sd,.int .i64 pr,.int .i64 q,.int .i64 id] 45)).cell? ⟨w.heap.size,5,none⟩ = some (.int .i64 pr):=by simp
 have p6:(w.alloc (.cells #[.int .u8 k,.int .i64 c,.int .i64 sq,.int .i64 it,.int .i64 sd,.int .i64 pr,.int .i64 q,.int .i64 id] 45)).cell? ⟨w.heap.size,6,none⟩ = some (.int .i64 q):=by simp
 have p7:(w.alloc (.cells #[.int .u8 k,.int .i64 c,.int .i64 sq,.int .i64 it,.int .i64 sd,.int .i64 pr,.int .i64 q,.int .i64 id] 45)).cell? ⟨w.heap.size,7,none⟩ = some (.int .i64 id):=by simp
 generalize w.alloc (.cells #[.int .u8 k,.int .i64 c,.int .i64 sq,.int .i64 it,.int .i64 sd,.int .i64 pr,.int .i64 q,.int .i64 id] 45) = w0 at *
 have q0:∀ x:Later w0,x.val.cell? ⟨w.heap.size,0,none⟩ = some (.int .u8 k):=fun x=>by rw [x.low.cell (p:=⟨w.heap.size,0,none⟩) hz0];exact p0
 have q1:∀ x:Later w0,x.val.cell? ⟨w.heap.size,1,none⟩ = some (.int .i64 c):=fun x=>by rw [x.low.cell (p:=⟨w.heap.size,1,none⟩) hz0];exact p1
 have q2:∀ x:Later w0,x.val.cell? ⟨w.heap.size,2,none⟩ = some (.int .i64 sq):=fun x=>by rw [x.low.cell (p:=⟨w.heap.size,2,none⟩) hz0];exact p2
 have q3:∀ x:Later w0,x.val.cell? ⟨w.heap.size,3,none⟩ = some (.int .i64 it):=fun x=>by rw [x.low.cell (p:=⟨w.heap.size,3,none⟩) hz0];exact p3
 have q4:∀ x:Later w0,x.val.cell? ⟨w.heap.size,4,none⟩ = some (.int .i64 sd):=fun x=>by rw [x.low.cell (p:=⟨w.heap.size,4,none⟩) hz0];exact p4
 have q5:∀ x:Later w0,x.val.cell? ⟨w.heap.size,5,none⟩ = some (.int .i64 pr):=fun x=>by rw [x.low.cell (p:=⟨w.heap.size,5,none⟩) hz0];exact p5
 have q6:∀ x:Later w0,x.val.cell? ⟨w.heap.size,6,none⟩ = some (.int .i64 q):=fun x=>by rw [x.low.cell (p:=⟨w.heap.size,6,none⟩) hz0];exact p6
 have q7:∀ x:Later w0,x.val.cell? ⟨w.heap.size,7,none⟩ = some (.int .i64 id):=fun x=>by rw [x.low.cell (p:=⟨w.heap.size,7,none⟩) hz0];exact p7
 clear p0 p1 p2 p3 p4 p5 p6 p7
 have HB0:=hide hb0;clear hb0
 have hne:Nonempty (Later w0):=⟨⟨w0,Below.refl _ _⟩⟩
 have z1:∀ n:Int,(strOfNums [n]).size = 1:=fun n=>rfl
 have z4:∀ n:Int,(strOfNums (Wi.high n)).size = 4:=fun n=>rfl
 refine region_quiet_class (X:=Later w0) Later.val (by kernel_rfl) (by kernel_rfl) ⟨_,(Below.refl _ _).drew⟩ rfl ?_
 repeat quiet_step ((first | (go_at_call 53;exact byte_later _ _) | (go_at_call 54;exact high_later _ (by assumption) _)))
 refine wpQuiet_nil ?_
 intro x
 go_wp2_with fail
 have hw:IntKind.i64.wrap (k:Int) % 256 = (k:Int):=by rw [wrap_i64_id k (by omega)];omega
 have E:strOfNums [IntKind.i64.wrap (k:Int) % 256]++strOfNums [(c:Int) % 256]++strOfNums (Wi.high sq)++strOfNums [(it:Int) % 256]++strOfNums [(sd:Int) % 256]++strOfNums (Wi.high pr)++strOfNums (Wi.high q)++strOfNums (Wi.high id)
   = strOfNums (((((([(k:Int),(c:Int) % 256]++Wi.high sq)++[(it:Int) % 256,(sd:Int) % 256])++Wi.high pr)++Wi.high q)++Wi.high id)):=by
  rw [hw]
  simp only [nums_append]
  simp
 rw [E]
 have HF:Hid (Wi.frame k c sq it sd pr q id = ((((((([(k:Int),(c:Int) % 256]++Wi.high sq)++[(it:Int) % 256,(sd:Int) % 256])++Wi.high pr)++Wi.high q)++Wi.high id))++zerosN 6) ++
   Wi.low (Wi.sum (strOfNums ((((((([(k:Int),(c:Int) % 256]++Wi.high sq)++[(it:Int) % 256,(sd:Int) % 256])++Wi.high pr)++Wi.high q)++Wi.high id))++zerosN 6)).data.toList)):=rfl
 have HL:Hid ((((((([(k:Int),(c:Int) % 256]++Wi.high sq)++[(it:Int) % 256,(sd:Int) % 256])++Wi.high pr)++Wi.high q)++Wi.high id)).length = 20):=by
  show List.length _ = 20
  simp [Wi.high]
 clear E hw z1 z4
 generalize (((((([(k:Int),(c:Int) % 256]++Wi.high sq)++[(it:Int) % 256,(sd:Int) % 256])++Wi.high pr)++Wi.high q)++Wi.high id)) = H at *
 have HX:Hid (Below w.heap.size w x.val):=HB0.out.trans (x.low.mono HB0.out.size)
 generalize x.val = w1 at *
 go_loop [3] (fun v=>∃ j:Nat,j≤6∧v = .string (strOfNums (H++zerosN j))) (fun v=>26 - strLen v)
 case atStart=>exact ⟨0,by omega,by rw [show zerosN 0 = [] from rfl,List.append_nil]⟩
 case round =>
  obtain ⟨j,hj,rfl⟩:=hrel
  have hsz:(strOfNums (H++zerosN j)).size = 20 + j:=by rw [strOfNums_size,List.length_append,HL.out,zerosN_length]
  have HS:Hid (strOfNums (H++zerosN j)++⟨#[0]⟩ = strOfNums (H++zerosN (j + 1))):=by
   have:(⟨#[0]⟩:ByteArray) = strOfNums [0]:=rfl
   show _++_ = _
   rw [this,nums_append,List.append_assoc,zerosN_succ]
  by_cases hlt:j < 6
  ·have hji:(20 + (j:Int)) < 26:=by omega
   go_wp2
   refine ⟨⟨j + 1,by omega,by rw [HS.out]⟩,?_⟩
   rw [HS.out]
   show 26 - (strOfNums (H++zerosN (j + 1))).size < 26 - (strOfNums (H++zerosN j)).size
   rw [strOfNums_size,strOfNums_size,List.length_append,List.length_append,HL.out,zerosN_length,zerosN_length]
   omega
  ·obtain rfl:j = 6:=by omega
   have hji:¬ ((strOfNums (H++zerosN 6)).size:Int) < 26:=by omega
   have hm:(strOfNums (H++zerosN 6)).size≤maxLen:=by rw [hsz];decide
   clear HS
   go_wp2_with fail
   refine (crc_any _ _ hm).mono ?_
   rintro e w2 ⟨rfl,rfl⟩
   go_wp2_with fail
   refine (low_any _ _ (Wi.sum_lt _)).mono ?_
   rintro e w3 ⟨rfl,hb3⟩
   have hz4:(strOfNums (Wi.low (Wi.sum (strOfNums (H++zerosN 6)).data.toList))).size = 4:=rfl
   go_wp2
   go_ret
   refine ⟨ret_string ?_,HX.out.trans (hb3.mono HX.out.size)⟩
   rw [nums_append,HF.out]
theorem frame_of (k c sq it sd pr q id:Int) (w:World) (h:Wi.code k c sq it sd pr q id = 0) :
  Calls Tryz.prog 16 #[.agg #[.int .u8 k,.int .i64 c,.int .i64 sq,.int .i64 it,.int .i64 sd,.int .i64 pr,.int .i64 q,.int .i64 id]] w fun e w'=>e = .returned (.string (strOfNums (Wi.frame k c sq it sd pr q id)))∧Below w.heap.size w w':=by
 have f:=Wi.fits h
 obtain ⟨k,rfl⟩:=Int.eq_ofNat_of_zero_le f.k.1
 obtain ⟨c,rfl⟩:=Int.eq_ofNat_of_zero_le f.c.1
 obtain ⟨sq,rfl⟩:=Int.eq_ofNat_of_zero_le f.sq.1
 obtain ⟨it,rfl⟩:=Int.eq_ofNat_of_zero_le f.it.1
 obtain ⟨sd,rfl⟩:=Int.eq_ofNat_of_zero_le f.sd.1
 obtain ⟨pr,rfl⟩:=Int.eq_ofNat_of_zero_le f.pr.1
 obtain ⟨q,rfl⟩:=Int.eq_ofNat_of_zero_le f.q.1
 obtain ⟨id,rfl⟩:=Int.eq_ofNat_of_zero_le f.id.1
 have h1:=f.k;have h2:=f.sq;have h3:=f.pr;have h4:=f.q;have h5:=f.id
 exact frame_any k c sq it sd pr q id w (by omega) (by omega) (by omega) (by omega) (by omega)
end Go.Proofs.YtidahfhingdlmaaGreatDoor
