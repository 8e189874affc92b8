/- cancel and ask of a round, by their contracts. -/
import Derived.Test.YtidahfhingdlmaaGreatDoorT34
import Derived.Test.YtidahfhingdlmaaGreatDoorT35
import Derived.Test.YtidahfhingdlmaaGreatDoorT12
import Derived.Test.YtidahfhingdlmaaGreatDoorT22
import Derived.Test.YtidahfhingdlmaaGreatDoorT21
import Derived.Test.YtidahfhingdlmaaGreatDoorT23
namespace Go.Proofs.YtidahfhingdlmaaGreatDoor
open Go.RowKit
set_option maxRecDepth 100000
section
variable {w W W':World} {ad:Nat→Addr} {b0 q:Nat} {B:Vb} {X X' X2:Vx} {wd h seed:Int} {S:Ve.St} {vp vr:Value} {r:Ve.Ro}
theorem Rnd.beside5 {D:Nat} {cur:Array Value} {fz:Nat × Nat} (R:Rnd w b0 W B X wd h seed S q vp vr r) (hk:W.heap[D]? = some (.cells cur 137 fz)) (hD:¬ vown B X D) (hs:Save W W' D) (hlo:w.heap.size≤D):Rnd w b0 W' B X wd h seed S q vp vr r:=by
 have ht:Turned W W' (fun k=>k = D):=⟨hs.os,hs.tape,hs.output,hs.size,fun k hk hn=>hs.block k hk hn⟩
 have key:∀ {base:Nat} {e:TypeId} {sz n:Nat} {v:Value} {xs:List Value},W.ownsRow base e sz v n xs→e≠137→W'.ownsRow base e sz v n xs:=fun {base e sz n v xs} hrr hne=>row_turned hrr ht (fun k hk2 e1=>by
  obtain ⟨_,cur,h2⟩:=row_block hrr hk2
  exact blkT h2 hk hne e1)
 refine ⟨R.ven.aside ht (blkT R.ven.fl.blk hk (by decide)) (fun k hv e=>hD (by rw [← e];exact hv)) (fun k e=>by rw [e];exact hlo),?_,key R.pl (by decide),key R.rp (by decide),R.lo,R.lob,Nat.le_trans R.hib hs.size,R.qb,R.all⟩
 rw [hs.block q (lt_of_block R.blk) (blkT R.blk hk (by decide))];exact R.blk
set_option maxHeartbeats 4000000 in
theorem rcancel_any (a:Ask) (W:World) (R:Hid (Rnd w b0 W B X wd h seed S q vp vr r)) (hs:Hid (Sent w ad)) (hn:r.rp.length≤100000) (hp:r.pl.length≤100000) :
  Calls Tryz.prog 131 #[.pointer (some ⟨q,0,none⟩),askV a] W fun e w'=>e = .returned (.tuple #[])∧RndAns w b0 W w' B X wd h seed S q (Ve.cancelR r a):=by
 have R1:Hid (Rnd w b0 (W.alloc (.cells (askA a) 45)) B X wd h seed S q vp vr r):=R.out.later ((Below.refl _ _).alloc (Nat.le_refl _) _)
 have HB1:Hid (Below W.heap.size W (W.alloc (.cells (askA a) 45))):=(Below.refl _ _).alloc (Nat.le_refl _) _
 have HA1:=hide (heap_alloc_new W (.cells (askA a) 45))
 have HW1:Hid (W.heap.size < (W.alloc (.cells (askA a) 45)).heap.size):=by show _ < _;simp
 have HP:Hid (∀ W',Below (W.alloc (.cells (askA a) 45)).heap.size (W.alloc (.cells (askA a) 45)) W'→Calls Tryz.prog 159 #[.pointer (some ⟨B.F,0,none⟩),askV a] W' fun e w'=>e = .returned (.tuple #[lotV (Fl.canX r.L a),errE (adE ad) (Fl.canC r.L r.pf a)])∧∃ X',Rnd w b0 w' B X' wd h seed S q vp vr { r with L:=Fl.canL r.L a,pf:=Fl.canF r.L r.pf a }∧RFr W' w' b0 B X X'∧Turned W' w' (fun k=>fown B X k)):=fun W' hb=>by
  have R':=R1.out.later hb
  refine (fcancel_any a R'.fl hs.out.aer R'.all.ok).mono ?_
  rintro e w' ⟨rfl,v',h1,h2⟩
  exact ⟨rfl,_,R'.floor h1 h2 ⟨R'.all.ok.cancel a,R'.all.band,R'.all.rule⟩⟩
 have hle:=Fl.canC_le r.L r.pf a
 have HRR:Hid (Ve.cancelR r a = { r with L:=Fl.canL r.L a,pf:=Fl.canF r.L r.pf a,pl:=if Fl.canC r.L r.pf a = 0 then Ve.others a r.pl else r.pl,rp:=r.rp++if Fl.canC r.L r.pf a = 0 then [Ve.tell Ve.kGone (Fl.canX r.L a)] else [Ve.refu a.c a.id (Fl.canC r.L r.pf a + 1)] }):=rfl
 generalize Ve.cancelR r a = rr at *
 generalize Fl.canC r.L r.pf a = pc at *
 generalize Fl.canX r.L a = x at *
 obtain ⟨rL,hrL⟩:∃ rL:Ve.Ro,rL = { r with L:=Fl.canL r.L a,pf:=Fl.canF r.L r.pf a }:=⟨_,rfl⟩
 rw [← hrL] at HP
 have HRL:=hide hrL
 clear hrL
 have ho:∀ k,fown B X k→k < W.heap.size:=fun k hk=>fown_lt R.out.ven hk
 cases pc with
 | succ d =>
  rw [show errE (adE ad) (d + 1) = .iface 362 (.pointer (some (ad (d + 1)))) from rfl] at HP
  rw [if_neg (by omega),if_neg (by omega)] at HRR
  unfold askV askA lotV at *
  go_enter Tryz.func131,Tryz.ntmps131
  go_wp2
  generalize W.alloc (.cells #[.int .u8 a.k,.int .i64 a.c,.int .i64 a.sq,.int .i64 a.it,.int .i64 a.sd,.int .i64 a.pr,.int .i64 a.q,.int .i64 a.id] 45) = W1 at *
  obtain ⟨XT,val,hcl,hmk⟩:=class_of (fun W'=>W'.heap[W.heap.size]? = some (.cells #[.int .u8 a.k,.int .i64 a.c,.int .i64 a.sq,.int .i64 a.it,.int .i64 a.sd,.int .i64 a.pr,.int .i64 a.q,.int .i64 a.id] 45 (0,0))∧W'.cell? ⟨q,0,none⟩ = some (.pointer (some ⟨B.F,0,none⟩)))
  have HMK:Hid (∀ W',W'.heap[W.heap.size]? = some (.cells #[.int .u8 a.k,.int .i64 a.c,.int .i64 a.sq,.int .i64 a.it,.int .i64 a.sd,.int .i64 a.pr,.int .i64 a.q,.int .i64 a.id] 45 (0,0))→W'.cell? ⟨q,0,none⟩ = some (.pointer (some ⟨B.F,0,none⟩))→∃ x,val x = W'):=fun W' h1 h2=>hmk W' ⟨h1,h2⟩
  obtain ⟨x0,hx0⟩:=HMK.out W1.drew HA1.out R1.out.cells.1
  have hnx:Nonempty XT:=⟨x0⟩
  have s0:∀ x0,(val x0).cell? ⟨W.heap.size,0,none⟩ = some (.int .u8 a.k):=fun x0=>by rw [cell_of_row _ _ _ _ _ _ (hcl x0).1];rfl
  have s1:∀ x0,(val x0).cell? ⟨W.heap.size,1,none⟩ = some (.int .i64 a.c):=fun x0=>by rw [cell_of_row _ _ _ _ _ _ (hcl x0).1];rfl
  have s2:∀ x0,(val x0).cell? ⟨W.heap.size,2,none⟩ = some (.int .i64 a.sq):=fun x0=>by rw [cell_of_row _ _ _ _ _ _ (hcl x0).1];rfl
  have s3:∀ x0,(val x0).cell? ⟨W.heap.size,3,none⟩ = some (.int .i64 a.it):=fun x0=>by rw [cell_of_row _ _ _ _ _ _ (hcl x0).1];rfl
  have s4:∀ x0,(val x0).cell? ⟨W.heap.size,4,none⟩ = some (.int .i64 a.sd):=fun x0=>by rw [cell_of_row _ _ _ _ _ _ (hcl x0).1];rfl
  have s5:∀ x0,(val x0).cell? ⟨W.heap.size,5,none⟩ = some (.int .i64 a.pr):=fun x0=>by rw [cell_of_row _ _ _ _ _ _ (hcl x0).1];rfl
  have s6:∀ x0,(val x0).cell? ⟨W.heap.size,6,none⟩ = some (.int .i64 a.q):=fun x0=>by rw [cell_of_row _ _ _ _ _ _ (hcl x0).1];rfl
  have s7:∀ x0,(val x0).cell? ⟨W.heap.size,7,none⟩ = some (.int .i64 a.id):=fun x0=>by rw [cell_of_row _ _ _ _ _ _ (hcl x0).1];rfl
  have s8:∀ x0,(val x0).cell? ⟨q,0,none⟩ = some (.pointer (some ⟨B.F,0,none⟩)):=fun x0=>(hcl x0).2
  obtain ⟨w4,hw4⟩:∃ w4,W1.drew = w4:=⟨_,rfl⟩
  have HBD:Hid (Below W1.heap.size W1 w4):=by rw [← hw4];exact drew_below'
  clear hmk hcl
  refine region_join1 (val:=val) (fun D w6=>∃ X2,Rnd w b0 w6 B X2 wd h seed S q vp vr rL∧RFr W1 w6 b0 B X X2∧w6.heap[D]? = some (.cells #[.int .i64 x.id,.int .i64 x.ow,.int .i64 x.sd,.int .i64 x.pr,.int .i64 x.q] 137 (0,0))∧W1.heap.size≤D∧w6.heap[W.heap.size]? = some (.cells #[.int .u8 a.k,.int .i64 a.c,.int .i64 a.sq,.int .i64 a.it,.int .i64 a.sd,.int .i64 a.pr,.int .i64 a.q,.int .i64 a.id] 45 (0,0))) (.read 0 (.read 1 (.read 2 (.read 3 (.read 4 (.two 5 (.read 6 (.read 7 (.read 8 (.one 9 (.one 10 (.read 11 .done)))))) 9 (.one 5 (.read 6 (.read 7 (.read 8 (.one 10 (.read 11 .done)))))))))))) (by kernel_rfl) (by kernel_rfl) x0 hx0 ?_
  apply Exists.intro
  refine ⟨?_,?_⟩
  case' refine_1 =>
   rw [hx0,hw4]
   iterate 5 (refine walkP_read rfl (fun K hK=>?_);refine ⟨by rfl,?_⟩;unfold isRd;go_simp;refine hK _ ?_;clear hK K)
   refine ⟨?_,?_⟩
   case refine_1 =>
    refine spec_step rfl (fun K hK=>?_)
    refine ⟨by rfl,?_⟩
    unfold upM
    go_simp
    refine (HP.out _ HBD.out).mono ?_
    rintro e wc ⟨rfl,X2,h1,h2,h3⟩
    have HRc:=hide h1;have HFc:=hide ((RFr.below HBD.out b0 B X).trans h2)
    have HAc:=hide ((h3.block W.heap.size (Nat.lt_of_lt_of_le HW1.out HBD.out.size) (fun e=>by have:=ho _ e;omega)).trans (s_row_later HBD.out HA1.out))
    have HLc:Hid (W1.heap.size≤wc.heap.size):=Nat.le_trans HBD.out.size h2.turned.size
    refine ⟨_,rfl,HMK.out _ HAc.out HRc.out.cells.1,hK _ _ ?_⟩
    clear hK K h1 h2 h3
    iterate 3 (refine walkP_read rfl (fun K hK=>?_);refine ⟨by rfl,?_⟩;unfold isRd;go_simp;refine hK _ ?_;clear hK K)
    refine spec_step rfl (fun K hK=>?_)
    refine ⟨by rfl,?_⟩
    unfold upM
    go_simp
    have hba:Below wc.heap.size wc (wc.alloc (.cells #[.int .i64 0,.int .i64 0,.int .i64 0,.int .i64 0,.int .i64 0] 137)):=(Below.refl _ _).alloc (Nat.le_refl _) _
    have HZ:=hide (heap_alloc_new wc (.cells #[.int .i64 0,.int .i64 0,.int .i64 0,.int .i64 0,.int .i64 0] 137))
    have HRz:=hide (HRc.out.later hba)
    have HFz:=hide (HFc.out.trans (RFr.below hba b0 B X2))
    have HAz:=hide (s_row_later hba HAc.out)
    have HND:Hid (¬ vown B X2 wc.heap.size):=fun e=>by have:=(HRc.out.ven.own_lt e).2;omega
    have HLz:=hide HLc.out
    refine ⟨HMK.out _ HAz.out HRz.out.cells.1,hK _ _ ?_⟩
    clear hK K hba HRc HFc HAc HLc
    generalize wc.alloc (.cells #[.int .i64 0,.int .i64 0,.int .i64 0,.int .i64 0,.int .i64 0] 137) = wz at *
    generalize wc.heap.size = Dz at *
    have c0:wz.cell? ⟨Dz,0,none⟩ = some (.int .i64 0):=by rw [cell_of_row _ _ _ _ _ _ HZ.out];rfl
    have f0:wz.frozen? ⟨Dz,0,none⟩ = false:=by simp [World.frozen?,HZ.out]
    have c1:wz.cell? ⟨Dz,1,none⟩ = some (.int .i64 0):=by rw [cell_of_row _ _ _ _ _ _ HZ.out];rfl
    have f1:wz.frozen? ⟨Dz,1,none⟩ = false:=by simp [World.frozen?,HZ.out]
    have c2:wz.cell? ⟨Dz,2,none⟩ = some (.int .i64 0):=by rw [cell_of_row _ _ _ _ _ _ HZ.out];rfl
    have f2:wz.frozen? ⟨Dz,2,none⟩ = false:=by simp [World.frozen?,HZ.out]
    have c3:wz.cell? ⟨Dz,3,none⟩ = some (.int .i64 0):=by rw [cell_of_row _ _ _ _ _ _ HZ.out];rfl
    have f3:wz.frozen? ⟨Dz,3,none⟩ = false:=by simp [World.frozen?,HZ.out]
    have c4:wz.cell? ⟨Dz,4,none⟩ = some (.int .i64 0):=by rw [cell_of_row _ _ _ _ _ _ HZ.out];rfl
    have f4:wz.frozen? ⟨Dz,4,none⟩ = false:=by simp [World.frozen?,HZ.out]
    have HX:=hide (set5_row HZ.out x.id x.ow x.sd x.pr x.q)
    have HSV:=hide (save5 wz Dz (.int .i64 x.id) (.int .i64 x.ow) (.int .i64 x.sd) (.int .i64 x.pr) (.int .i64 x.q))
    have HRx:=hide (HRz.out.beside5 HZ.out HND.out HSV.out (Nat.le_trans R.out.lob (Nat.le_trans R.out.hib (Nat.le_trans HB1.out.size HLz.out))))
    have HFx:=hide (HFz.out.trans (RFr.high (b0:=b0) ⟨HSV.out.os,HSV.out.tape,HSV.out.output,HSV.out.size,fun k hk hn=>HSV.out.block k hk (fun e=>hn (by rw [e];exact Nat.le_trans R.out.hib (Nat.le_trans HB1.out.size HLz.out)))⟩ B X2))
    have HAx:=hide ((HSV.out.block W.heap.size (lt_of_block HAz.out) (by have:=HLz.out;have:=HW1.out;omega)).trans HAz.out)
    refine spec_step rfl (fun K hK=>?_)
    refine ⟨by rfl,?_⟩
    unfold upM
    go_simp
    refine ⟨HMK.out _ HAx.out HRx.out.cells.1,hK _ _ ?_⟩
    clear hK K c0 c1 c2 c3 c4 f0 f1 f2 f3 f4
    generalize ((((wz.setCell ⟨Dz,0,none⟩ (.int .i64 x.id)).setCell ⟨Dz,1,none⟩ (.int .i64 x.ow)).setCell ⟨Dz,2,none⟩ (.int .i64 x.sd)).setCell ⟨Dz,3,none⟩ (.int .i64 x.pr)).setCell ⟨Dz,4,none⟩ (.int .i64 x.q) = wx at *
    refine walkP_read rfl (fun K hK=>?_);refine ⟨by rfl,?_⟩;unfold isRd;go_simp;refine hK _ ?_;clear hK K
    refine walkP_done ?_
    exact ⟨Dz,rfl,X2,HRx.out,HFx.out,HX.out,HLz.out,HAx.out⟩
   case refine_2 =>
    refine spec_step rfl (fun K hK=>?_)
    refine ⟨by rfl,?_⟩
    unfold upM
    go_simp
    have hba:Below w4.heap.size w4 (w4.alloc (.cells #[.int .i64 0,.int .i64 0,.int .i64 0,.int .i64 0,.int .i64 0] 137)):=(Below.refl _ _).alloc (Nat.le_refl _) _
    have HBy:Hid (Below W1.heap.size W1 (w4.alloc (.cells #[.int .i64 0,.int .i64 0,.int .i64 0,.int .i64 0,.int .i64 0] 137))):=HBD.out.alloc HBD.out.size _
    have HZ0:=hide (heap_alloc_new w4 (.cells #[.int .i64 0,.int .i64 0,.int .i64 0,.int .i64 0,.int .i64 0] 137))
    have HLz:Hid (W1.heap.size≤w4.heap.size):=HBD.out.size
    have HSz:Hid (w4.heap.size < (w4.alloc (.cells #[.int .i64 0,.int .i64 0,.int .i64 0,.int .i64 0,.int .i64 0] 137)).heap.size):=by show _ < _;simp
    have hRy:=R1.out.later HBy.out
    refine ⟨HMK.out _ (s_row_later HBy.out HA1.out) hRy.cells.1,hK _ _ ?_⟩
    clear hK K hba hRy
    generalize w4.alloc (.cells #[.int .i64 0,.int .i64 0,.int .i64 0,.int .i64 0,.int .i64 0] 137) = wy at *
    generalize w4.heap.size = Dz at *
    refine spec_step rfl (fun K hK=>?_)
    refine ⟨by rfl,?_⟩
    unfold upM
    go_simp
    refine (HP.out _ HBy.out).mono ?_
    rintro e wz ⟨rfl,X2,h1,h2,h3⟩
    have HZ:=hide ((h3.block Dz HSz.out (fun e=>by have:=ho _ e;have:=HLz.out;have:=HW1.out;omega)).trans HZ0.out)
    have HRz:=hide h1;have HFz:=hide ((RFr.below HBy.out b0 B X).trans h2)
    have HAz:=hide ((h3.block W.heap.size (Nat.lt_of_lt_of_le HW1.out HBy.out.size) (fun e=>by have:=ho _ e;omega)).trans (s_row_later HBy.out HA1.out))
    have HND:Hid (¬ vown B X2 Dz):=fun e=>by
     have hq:=h2.qv
     have hd:=h2.dv
     have hlt:∀ k,vown B X k→k < W.heap.size:=fun k hk=>(R.out.ven.own_lt hk).2
     have h9:Dz < W.heap.size∨wy.heap.size≤Dz:=by
      rcases e with e | e | e | e | e | e
      ·exact .inl (by rw [e];exact hlt _ (.inl rfl))
      ·exact .inl (by rw [e];exact hlt _ (.inr (.inl rfl)))
      ·rcases h2.new Dz (.inr e) with h8 | h8
       ·exact .inl (ho _ h8)
       ·exact .inr h8
      ·rw [hq] at e;exact .inl (hlt _ (.inr (.inr (.inr (.inl e)))))
      ·exact .inl (by rw [e];exact hlt _ (.inr (.inr (.inr (.inr (.inl rfl))))))
      ·rw [hd] at e;exact .inl (hlt _ (.inr (.inr (.inr (.inr (.inr e))))))
     have:=HSz.out;have:=HLz.out;have:=HW1.out
     omega
    refine ⟨_,rfl,HMK.out _ HAz.out HRz.out.cells.1,hK _ _ ?_⟩
    clear hK K h1 h2 h3 HZ0 HBy HSz
    iterate 3 (refine walkP_read rfl (fun K hK=>?_);refine ⟨by rfl,?_⟩;unfold isRd;go_simp;refine hK _ ?_;clear hK K)
    have c0:wz.cell? ⟨Dz,0,none⟩ = some (.int .i64 0):=by rw [cell_of_row _ _ _ _ _ _ HZ.out];rfl
    have f0:wz.frozen? ⟨Dz,0,none⟩ = false:=by simp [World.frozen?,HZ.out]
    have c1:wz.cell? ⟨Dz,1,none⟩ = some (.int .i64 0):=by rw [cell_of_row _ _ _ _ _ _ HZ.out];rfl
    have f1:wz.frozen? ⟨Dz,1,none⟩ = false:=by simp [World.frozen?,HZ.out]
    have c2:wz.cell? ⟨Dz,2,none⟩ = some (.int .i64 0):=by rw [cell_of_row _ _ _ _ _ _ HZ.out];rfl
    have f2:wz.frozen? ⟨Dz,2,none⟩ = false:=by simp [World.frozen?,HZ.out]
    have c3:wz.cell? ⟨Dz,3,none⟩ = some (.int .i64 0):=by rw [cell_of_row _ _ _ _ _ _ HZ.out];rfl
    have f3:wz.frozen? ⟨Dz,3,none⟩ = false:=by simp [World.frozen?,HZ.out]
    have c4:wz.cell? ⟨Dz,4,none⟩ = some (.int .i64 0):=by rw [cell_of_row _ _ _ _ _ _ HZ.out];rfl
    have f4:wz.frozen? ⟨Dz,4,none⟩ = false:=by simp [World.frozen?,HZ.out]
    have HX:=hide (set5_row HZ.out x.id x.ow x.sd x.pr x.q)
    have HSV:=hide (save5 wz Dz (.int .i64 x.id) (.int .i64 x.ow) (.int .i64 x.sd) (.int .i64 x.pr) (.int .i64 x.q))
    have HRx:=hide (HRz.out.beside5 HZ.out HND.out HSV.out (Nat.le_trans R.out.lob (Nat.le_trans R.out.hib (Nat.le_trans HB1.out.size HLz.out))))
    have HFx:=hide (HFz.out.trans (RFr.high (b0:=b0) ⟨HSV.out.os,HSV.out.tape,HSV.out.output,HSV.out.size,fun k hk hn=>HSV.out.block k hk (fun e=>hn (by rw [e];exact Nat.le_trans R.out.hib (Nat.le_trans HB1.out.size HLz.out)))⟩ B X2))
    have HAx:=hide ((HSV.out.block W.heap.size (lt_of_block HAz.out) (by have:=HLz.out;have:=HW1.out;omega)).trans HAz.out)
    refine spec_step rfl (fun K hK=>?_)
    refine ⟨by rfl,?_⟩
    unfold upM
    go_simp
    refine ⟨HMK.out _ HAx.out HRx.out.cells.1,hK _ _ ?_⟩
    clear hK K c0 c1 c2 c3 c4 f0 f1 f2 f3 f4
    generalize ((((wz.setCell ⟨Dz,0,none⟩ (.int .i64 x.id)).setCell ⟨Dz,1,none⟩ (.int .i64 x.ow)).setCell ⟨Dz,2,none⟩ (.int .i64 x.sd)).setCell ⟨Dz,3,none⟩ (.int .i64 x.pr)).setCell ⟨Dz,4,none⟩ (.int .i64 x.q) = wx at *
    refine walkP_read rfl (fun K hK=>?_);refine ⟨by rfl,?_⟩;unfold isRd;go_simp;refine hK _ ?_;clear hK K
    refine walkP_done ?_
    exact ⟨Dz,rfl,X2,HRx.out,HFx.out,HX.out,HLz.out,HAx.out⟩
  intro D w6 ⟨X2,h1,h2,h3,h4,h5⟩
  clear hx0 hw4 s0 s1 s2 s3 s4 s5 s6 s7 s8 HMK HBD
  clear x0 hnx
  clear val
  clear XT
  have HR6:=hide h1;have HF6:=hide ((RFr.below HB1.out b0 B X).trans h2);have HD6:=hide h3;have HA6:=hide h5;have HL6:=hide h4
  clear h1 h2 h3 h4 h5
  have k0:w6.cell? ⟨W.heap.size,0,none⟩ = some (.int .u8 a.k):=by rw [cell_of_row _ _ _ _ _ _ HA6.out];rfl
  have k1:w6.cell? ⟨W.heap.size,1,none⟩ = some (.int .i64 a.c):=by rw [cell_of_row _ _ _ _ _ _ HA6.out];rfl
  have k2:w6.cell? ⟨W.heap.size,2,none⟩ = some (.int .i64 a.sq):=by rw [cell_of_row _ _ _ _ _ _ HA6.out];rfl
  have k3:w6.cell? ⟨W.heap.size,3,none⟩ = some (.int .i64 a.it):=by rw [cell_of_row _ _ _ _ _ _ HA6.out];rfl
  have k4:w6.cell? ⟨W.heap.size,4,none⟩ = some (.int .i64 a.sd):=by rw [cell_of_row _ _ _ _ _ _ HA6.out];rfl
  have k5:w6.cell? ⟨W.heap.size,5,none⟩ = some (.int .i64 a.pr):=by rw [cell_of_row _ _ _ _ _ _ HA6.out];rfl
  have k6:w6.cell? ⟨W.heap.size,6,none⟩ = some (.int .i64 a.q):=by rw [cell_of_row _ _ _ _ _ _ HA6.out];rfl
  have k7:w6.cell? ⟨W.heap.size,7,none⟩ = some (.int .i64 a.id):=by rw [cell_of_row _ _ _ _ _ _ HA6.out];rfl
  have HF:=hide (refuse_any a (d + 1) (by omega) w6 hs HR6.out (by rw [HRL.out];exact hn))
  unfold askV askA at HF
  go_wp2_with fail
  refine HF.out.mono ?_
  rintro e w7 ⟨rfl,vr7,h3,h4,_⟩
  have H3:=hide h3;have H4:=hide (HF6.out.trans h4)
  clear h3 h4
  simp only []
  go_wp2
  refine bodyPost_ret (v:=.tuple #[]) (by simp [results,Tryz.results131]) rfl ?_
  refine ⟨rfl,X2,vp,vr7,?_,H4.out⟩
  have h9:=H3.out
  rw [HRL.out] at h9
  rw [HRR.out]
  exact h9
 | zero =>
  rw [show errE (adE ad) 0 = .nilIface from rfl] at HP
  rw [if_pos rfl,if_pos rfl] at HRR
  unfold askV askA lotV at *
  go_enter Tryz.func131,Tryz.ntmps131
  go_wp2
  generalize W.alloc (.cells #[.int .u8 a.k,.int .i64 a.c,.int .i64 a.sq,.int .i64 a.it,.int .i64 a.sd,.int .i64 a.pr,.int .i64 a.q,.int .i64 a.id] 45) = W1 at *
  obtain ⟨XT,val,hcl,hmk⟩:=class_of (fun W'=>W'.heap[W.heap.size]? = some (.cells #[.int .u8 a.k,.int .i64 a.c,.int .i64 a.sq,.int .i64 a.it,.int .i64 a.sd,.int .i64 a.pr,.int .i64 a.q,.int .i64 a.id] 45 (0,0))∧W'.cell? ⟨q,0,none⟩ = some (.pointer (some ⟨B.F,0,none⟩)))
  have HMK:Hid (∀ W',W'.heap[W.heap.size]? = some (.cells #[.int .u8 a.k,.int .i64 a.c,.int .i64 a.sq,.int .i64 a.it,.int .i64 a.sd,.int .i64 a.pr,.int .i64 a.q,.int .i64 a.id] 45 (0,0))→W'.cell? ⟨q,0,none⟩ = some (.pointer (some ⟨B.F,0,none⟩))→∃ x,val x = W'):=fun W' h1 h2=>hmk W' ⟨h1,h2⟩
  obtain ⟨x0,hx0⟩:=HMK.out W1.drew HA1.out R1.out.cells.1
  have hnx:Nonempty XT:=⟨x0⟩
  have s0:∀ x0,(val x0).cell? ⟨W.heap.size,0,none⟩ = some (.int .u8 a.k):=fun x0=>by rw [cell_of_row _ _ _ _ _ _ (hcl x0).1];rfl
  have s1:∀ x0,(val x0).cell? ⟨W.heap.size,1,none⟩ = some (.int .i64 a.c):=fun x0=>by rw [cell_of_row _ _ _ _ _ _ (hcl x0).1];rfl
  have s2:∀ x0,(val x0).cell? ⟨W.heap.size,2,none⟩ = some (.int .i64 a.sq):=fun x0=>by rw [cell_of_row _ _ _ _ _ _ (hcl x0).1];rfl
  have s3:∀ x0,(val x0).cell? ⟨W.heap.size,3,none⟩ = some (.int .i64 a.it):=fun x0=>by rw [cell_of_row _ _ _ _ _ _ (hcl x0).1];rfl
  have s4:∀ x0,(val x0).cell? ⟨W.heap.size,4,none⟩ = some (.int .i64 a.sd):=fun x0=>by rw [cell_of_row _ _ _ _ _ _ (hcl x0).1];rfl
  have s5:∀ x0,(val x0).cell? ⟨W.heap.size,5,none⟩ = some (.int .i64 a.pr):=fun x0=>by rw [cell_of_row _ _ _ _ _ _ (hcl x0).1];rfl
  have s6:∀ x0,(val x0).cell? ⟨W.heap.size,6,none⟩ = some (.int .i64 a.q):=fun x0=>by rw [cell_of_row _ _ _ _ _ _ (hcl x0).1];rfl
  have s7:∀ x0,(val x0).cell? ⟨W.heap.size,7,none⟩ = some (.int .i64 a.id):=fun x0=>by rw [cell_of_row _ _ _ _ _ _ (hcl x0).1];rfl
  have s8:∀ x0,(val x0).cell? ⟨q,0,none⟩ = some (.pointer (some ⟨B.F,0,none⟩)):=fun x0=>(hcl x0).2
  obtain ⟨w4,hw4⟩:∃ w4,W1.drew = w4:=⟨_,rfl⟩
  have HBD:Hid (Below W1.heap.size W1 w4):=by rw [← hw4];exact drew_below'
  clear hmk hcl
  refine region_join1 (val:=val) (fun D w6=>∃ X2,Rnd w b0 w6 B X2 wd h seed S q vp vr rL∧RFr W1 w6 b0 B X X2∧w6.heap[D]? = some (.cells #[.int .i64 x.id,.int .i64 x.ow,.int .i64 x.sd,.int .i64 x.pr,.int .i64 x.q] 137 (0,0))∧W1.heap.size≤D∧w6.heap[W.heap.size]? = some (.cells #[.int .u8 a.k,.int .i64 a.c,.int .i64 a.sq,.int .i64 a.it,.int .i64 a.sd,.int .i64 a.pr,.int .i64 a.q,.int .i64 a.id] 45 (0,0))) (.read 0 (.read 1 (.read 2 (.read 3 (.read 4 (.two 5 (.read 6 (.read 7 (.read 8 (.one 9 (.one 10 (.read 11 .done)))))) 9 (.one 5 (.read 6 (.read 7 (.read 8 (.one 10 (.read 11 .done)))))))))))) (by kernel_rfl) (by kernel_rfl) x0 hx0 ?_
  apply Exists.intro
  refine ⟨?_,?_⟩
  case' refine_1 =>
   rw [hx0,hw4]
   iterate 5 (refine walkP_read rfl (fun K hK=>?_);refine ⟨by rfl,?_⟩;unfold isRd;go_simp;refine hK _ ?_;clear hK K)
   refine ⟨?_,?_⟩
   case refine_1 =>
    refine spec_step rfl (fun K hK=>?_)
    refine ⟨by rfl,?_⟩
    unfold upM
    go_simp
    refine (HP.out _ HBD.out).mono ?_
    rintro e wc ⟨rfl,X2,h1,h2,h3⟩
    have HRc:=hide h1;have HFc:=hide ((RFr.below HBD.out b0 B X).trans h2)
    have HAc:=hide ((h3.block W.heap.size (Nat.lt_of_lt_of_le HW1.out HBD.out.size) (fun e=>by have:=ho _ e;omega)).trans (s_row_later HBD.out HA1.out))
    have HLc:Hid (W1.heap.size≤wc.heap.size):=Nat.le_trans HBD.out.size h2.turned.size
    refine ⟨_,rfl,HMK.out _ HAc.out HRc.out.cells.1,hK _ _ ?_⟩
    clear hK K h1 h2 h3
    iterate 3 (refine walkP_read rfl (fun K hK=>?_);refine ⟨by rfl,?_⟩;unfold isRd;go_simp;refine hK _ ?_;clear hK K)
    refine spec_step rfl (fun K hK=>?_)
    refine ⟨by rfl,?_⟩
    unfold upM
    go_simp
    have hba:Below wc.heap.size wc (wc.alloc (.cells #[.int .i64 0,.int .i64 0,.int .i64 0,.int .i64 0,.int .i64 0] 137)):=(Below.refl _ _).alloc (Nat.le_refl _) _
    have HZ:=hide (heap_alloc_new wc (.cells #[.int .i64 0,.int .i64 0,.int .i64 0,.int .i64 0,.int .i64 0] 137))
    have HRz:=hide (HRc.out.later hba)
    have HFz:=hide (HFc.out.trans (RFr.below hba b0 B X2))
    have HAz:=hide (s_row_later hba HAc.out)
    have HND:Hid (¬ vown B X2 wc.heap.size):=fun e=>by have:=(HRc.out.ven.own_lt e).2;omega
    have HLz:=hide HLc.out
    refine ⟨HMK.out _ HAz.out HRz.out.cells.1,hK _ _ ?_⟩
    clear hK K hba HRc HFc HAc HLc
    generalize wc.alloc (.cells #[.int .i64 0,.int .i64 0,.int .i64 0,.int .i64 0,.int .i64 0] 137) = wz at *
    generalize wc.heap.size = Dz at *
    have c0:wz.cell? ⟨Dz,0,none⟩ = some (.int .i64 0):=by rw [cell_of_row _ _ _ _ _ _ HZ.out];rfl
    have f0:wz.frozen? ⟨Dz,0,none⟩ = false:=by simp [World.frozen?,HZ.out]
    have c1:wz.cell? ⟨Dz,1,none⟩ = some (.int .i64 0):=by rw [cell_of_row _ _ _ _ _ _ HZ.out];rfl
    have f1:wz.frozen? ⟨Dz,1,none⟩ = false:=by simp [World.frozen?,HZ.out]
    have c2:wz.cell? ⟨Dz,2,none⟩ = some (.int .i64 0):=by rw [cell_of_row _ _ _ _ _ _ HZ.out];rfl
    have f2:wz.frozen? ⟨Dz,2,none⟩ = false:=by simp [World.frozen?,HZ.out]
    have c3:wz.cell? ⟨Dz,3,none⟩ = some (.int .i64 0):=by rw [cell_of_row _ _ _ _ _ _ HZ.out];rfl
    have f3:wz.frozen? ⟨Dz,3,none⟩ = false:=by simp [World.frozen?,HZ.out]
    have c4:wz.cell? ⟨Dz,4,none⟩ = some (.int .i64 0):=by rw [cell_of_row _ _ _ _ _ _ HZ.out];rfl
    have f4:wz.frozen? ⟨Dz,4,none⟩ = false:=by simp [World.frozen?,HZ.out]
    have HX:=hide (set5_row HZ.out x.id x.ow x.sd x.pr x.q)
    have HSV:=hide (save5 wz Dz (.int .i64 x.id) (.int .i64 x.ow) (.int .i64 x.sd) (.int .i64 x.pr) (.int .i64 x.q))
    have HRx:=hide (HRz.out.beside5 HZ.out HND.out HSV.out (Nat.le_trans R.out.lob (Nat.le_trans R.out.hib (Nat.le_trans HB1.out.size HLz.out))))
    have HFx:=hide (HFz.out.trans (RFr.high (b0:=b0) ⟨HSV.out.os,HSV.out.tape,HSV.out.output,HSV.out.size,fun k hk hn=>HSV.out.block k hk (fun e=>hn (by rw [e];exact Nat.le_trans R.out.hib (Nat.le_trans HB1.out.size HLz.out)))⟩ B X2))
    have HAx:=hide ((HSV.out.block W.heap.size (lt_of_block HAz.out) (by have:=HLz.out;have:=HW1.out;omega)).trans HAz.out)
    refine spec_step rfl (fun K hK=>?_)
    refine ⟨by rfl,?_⟩
    unfold upM
    go_simp
    refine ⟨HMK.out _ HAx.out HRx.out.cells.1,hK _ _ ?_⟩
    clear hK K c0 c1 c2 c3 c4 f0 f1 f2 f3 f4
    generalize ((((wz.setCell ⟨Dz,0,none⟩ (.int .i64 x.id)).setCell ⟨Dz,1,none⟩ (.int .i64 x.ow)).setCell ⟨Dz,2,none⟩ (.int .i64 x.sd)).setCell ⟨Dz,3,none⟩ (.int .i64 x.pr)).setCell ⟨Dz,4,none⟩ (.int .i64 x.q) = wx at *
    refine walkP_read rfl (fun K hK=>?_);refine ⟨by rfl,?_⟩;unfold isRd;go_simp;refine hK _ ?_;clear hK K
    refine walkP_done ?_
    exact ⟨Dz,rfl,X2,HRx.out,HFx.out,HX.out,HLz.out,HAx.out⟩
   case refine_2 =>
    refine spec_step rfl (fun K hK=>?_)
    refine ⟨by rfl,?_⟩
    unfold upM
    go_simp
    have hba:Below w4.heap.size w4 (w4.alloc (.cells #[.int .i64 0,.int .i64 0,.int .i64 0,.int .i64 0,.int .i64 0] 137)):=(Below.refl _ _).alloc (Nat.le_refl _) _
    have HBy:Hid (Below W1.heap.size W1 (w4.alloc (.cells #[.int .i64 0,.int .i64 0,.int .i64 0,.int .i64 0,.int .i64 0] 137))):=HBD.out.alloc HBD.out.size _
    have HZ0:=hide (heap_alloc_new w4 (.cells #[.int .i64 0,.int .i64 0,.int .i64 0,.int .i64 0,.int .i64 0] 137))
    have HLz:Hid (W1.heap.size≤w4.heap.size):=HBD.out.size
    have HSz:Hid (w4.heap.size < (w4.alloc (.cells #[.int .i64 0,.int .i64 0,.int .i64 0,.int .i64 0,.int .i64 0] 137)).heap.size):=by show _ < _;simp
    have hRy:=R1.out.later HBy.out
    refine ⟨HMK.out _ (s_row_later HBy.out HA1.out) hRy.cells.1,hK _ _ ?_⟩
    clear hK K hba hRy
    generalize w4.alloc (.cells #[.int .i64 0,.int .i64 0,.int .i64 0,.int .i64 0,.int .i64 0] 137) = wy at *
    generalize w4.heap.size = Dz at *
    refine spec_step rfl (fun K hK=>?_)
    refine ⟨by rfl,?_⟩
    unfold upM
    go_simp
    refine (HP.out _ HBy.out).mono ?_
    rintro e wz ⟨rfl,X2,h1,h2,h3⟩
    have HZ:=hide ((h3.block Dz HSz.out (fun e=>by have:=ho _ e;have:=HLz.out;have:=HW1.out;omega)).trans HZ0.out)
    have HRz:=hide h1;have HFz:=hide ((RFr.below HBy.out b0 B X).trans h2)
    have HAz:=hide ((h3.block W.heap.size (Nat.lt_of_lt_of_le HW1.out HBy.out.size) (fun e=>by have:=ho _ e;omega)).trans (s_row_later HBy.out HA1.out))
    have HND:Hid (¬ vown B X2 Dz):=fun e=>by
     have hq:=h2.qv
     have hd:=h2.dv
     have hlt:∀ k,vown B X k→k < W.heap.size:=fun k hk=>(R.out.ven.own_lt hk).2
     have h9:Dz < W.heap.size∨wy.heap.size≤Dz:=by
      rcases e with e | e | e | e | e | e
      ·exact .inl (by rw [e];exact hlt _ (.inl rfl))
      ·exact .inl (by rw [e];exact hlt _ (.inr (.inl rfl)))
      ·rcases h2.new Dz (.inr e) with h8 | h8
       ·exact .inl (ho _ h8)
       ·exact .inr h8
      ·rw [hq] at e;exact .inl (hlt _ (.inr (.inr (.inr (.inl e)))))
      ·exact .inl (by rw [e];exact hlt _ (.inr (.inr (.inr (.inr (.inl rfl))))))
      ·rw [hd] at e;exact .inl (hlt _ (.inr (.inr (.inr (.inr (.inr e))))))
     have:=HSz.out;have:=HLz.out;have:=HW1.out
     omega
    refine ⟨_,rfl,HMK.out _ HAz.out HRz.out.cells.1,hK _ _ ?_⟩
    clear hK K h1 h2 h3 HZ0 HBy HSz
    iterate 3 (refine walkP_read rfl (fun K hK=>?_);refine ⟨by rfl,?_⟩;unfold isRd;go_simp;refine hK _ ?_;clear hK K)
    have c0:wz.cell? ⟨Dz,0,none⟩ = some (.int .i64 0):=by rw [cell_of_row _ _ _ _ _ _ HZ.out];rfl
    have f0:wz.frozen? ⟨Dz,0,none⟩ = false:=by simp [World.frozen?,HZ.out]
    have c1:wz.cell? ⟨Dz,1,none⟩ = some (.int .i64 0):=by rw [cell_of_row _ _ _ _ _ _ HZ.out];rfl
    have f1:wz.frozen? ⟨Dz,1,none⟩ = false:=by simp [World.frozen?,HZ.out]
    have c2:wz.cell? ⟨Dz,2,none⟩ = some (.int .i64 0):=by rw [cell_of_row _ _ _ _ _ _ HZ.out];rfl
    have f2:wz.frozen? ⟨Dz,2,none⟩ = false:=by simp [World.frozen?,HZ.out]
    have c3:wz.cell? ⟨Dz,3,none⟩ = some (.int .i64 0):=by rw [cell_of_row _ _ _ _ _ _ HZ.out];rfl
    have f3:wz.frozen? ⟨Dz,3,none⟩ = false:=by simp [World.frozen?,HZ.out]
    have c4:wz.cell? ⟨Dz,4,none⟩ = some (.int .i64 0):=by rw [cell_of_row _ _ _ _ _ _ HZ.out];rfl
    have f4:wz.frozen? ⟨Dz,4,none⟩ = false:=by simp [World.frozen?,HZ.out]
    have HX:=hide (set5_row HZ.out x.id x.ow x.sd x.pr x.q)
    have HSV:=hide (save5 wz Dz (.int .i64 x.id) (.int .i64 x.ow) (.int .i64 x.sd) (.int .i64 x.pr) (.int .i64 x.q))
    have HRx:=hide (HRz.out.beside5 HZ.out HND.out HSV.out (Nat.le_trans R.out.lob (Nat.le_trans R.out.hib (Nat.le_trans HB1.out.size HLz.out))))
    have HFx:=hide (HFz.out.trans (RFr.high (b0:=b0) ⟨HSV.out.os,HSV.out.tape,HSV.out.output,HSV.out.size,fun k hk hn=>HSV.out.block k hk (fun e=>hn (by rw [e];exact Nat.le_trans R.out.hib (Nat.le_trans HB1.out.size HLz.out)))⟩ B X2))
    have HAx:=hide ((HSV.out.block W.heap.size (lt_of_block HAz.out) (by have:=HLz.out;have:=HW1.out;omega)).trans HAz.out)
    refine spec_step rfl (fun K hK=>?_)
    refine ⟨by rfl,?_⟩
    unfold upM
    go_simp
    refine ⟨HMK.out _ HAx.out HRx.out.cells.1,hK _ _ ?_⟩
    clear hK K c0 c1 c2 c3 c4 f0 f1 f2 f3 f4
    generalize ((((wz.setCell ⟨Dz,0,none⟩ (.int .i64 x.id)).setCell ⟨Dz,1,none⟩ (.int .i64 x.ow)).setCell ⟨Dz,2,none⟩ (.int .i64 x.sd)).setCell ⟨Dz,3,none⟩ (.int .i64 x.pr)).setCell ⟨Dz,4,none⟩ (.int .i64 x.q) = wx at *
    refine walkP_read rfl (fun K hK=>?_);refine ⟨by rfl,?_⟩;unfold isRd;go_simp;refine hK _ ?_;clear hK K
    refine walkP_done ?_
    exact ⟨Dz,rfl,X2,HRx.out,HFx.out,HX.out,HLz.out,HAx.out⟩
  intro D w6 ⟨X2,h1,h2,h3,h4,h5⟩
  clear hx0 hw4 s0 s1 s2 s3 s4 s5 s6 s7 s8 HMK HBD
  clear x0 hnx
  clear val
  clear XT
  have HR6:=hide h1;have HF6:=hide ((RFr.below HB1.out b0 B X).trans h2);have HD6:=hide h3;have HA6:=hide h5;have HL6:=hide h4
  clear h1 h2 h3 h4 h5
  have k0:w6.cell? ⟨D,0,none⟩ = some (.int .i64 x.id):=by rw [cell_of_row _ _ _ _ _ _ HD6.out];rfl
  have k1:w6.cell? ⟨D,1,none⟩ = some (.int .i64 x.ow):=by rw [cell_of_row _ _ _ _ _ _ HD6.out];rfl
  have k2:w6.cell? ⟨D,2,none⟩ = some (.int .i64 x.sd):=by rw [cell_of_row _ _ _ _ _ _ HD6.out];rfl
  have k3:w6.cell? ⟨D,3,none⟩ = some (.int .i64 x.pr):=by rw [cell_of_row _ _ _ _ _ _ HD6.out];rfl
  have k4:w6.cell? ⟨D,4,none⟩ = some (.int .i64 x.q):=by rw [cell_of_row _ _ _ _ _ _ HD6.out];rfl
  have HF:=hide (tell_any Ve.kGone x w6 HR6.out (by rw [HRL.out];exact hn))
  unfold lotV Ve.kGone at HF
  go_wp2_with fail
  refine HF.out.mono ?_
  rintro e w7 ⟨rfl,vr7,h3,h4,h5⟩
  have HA7:=hide (HR6.out.block h5 HA6.out (by decide) (by decide))
  have H3:=hide h3;have H4:=hide (HF6.out.trans h4)
  clear h3 h4 h5 HF
  have q1:=H3.out.cells.2.1
  have hvA:vp.ownBlock≠some W.heap.size:=fun e=>by have:=(R.out.pl.lt _ e).2;omega
  have HDL:=hide (deleteFunc_any b0 W.heap.size vp a r.pl w7 hp (by have:=H3.out.pl;rw [HRL.out] at this;exact this) HA7.out hvA)
  obtain ⟨av,cv,hvp⟩:=row_form R.out.pl
  have HVP:=hide hvp
  rw [hvp] at HDL q1
  clear hvp hvA
  simp only []
  go_wp2_with fail
  refine HDL.out.mono ?_
  rintro e w8 ⟨v8,rfl,hrow8,hg8⟩
  obtain ⟨a8,c8,hv8⟩:=row_form hrow8
  subst hv8
  rw [← HVP.out] at hg8
  have HT:=hide (H3.out.listed (Below.refl _ _) hg8 hrow8)
  have hblk:w8.heap[q]? = some (.cells #[.pointer (some ⟨B.F,0,none⟩),vp,vr7] 183 (0,0)):=by
   rw [hg8.block q (lt_of_block H3.out.blk) (fun e=>?_)]
   ·exact H3.out.blk
   ·obtain ⟨_,cur,h2⟩:=row_block H3.out.pl e.symm
    exact blkT h2 H3.out.blk (by decide) rfl
  have g1:w8.cell? ⟨q,1,none⟩ = some vp:=by rw [cell_of_row _ _ _ _ _ _ hblk];rfl
  have g2:w8.frozen? ⟨q,1,none⟩ = false:=by simp [World.frozen?,hblk]
  clear hrow8 hg8 hblk HDL q1
  go_wp2
  go_end0
  refine ⟨rfl,X2,.slice a8 (Ve.others a r.pl).length c8,vr7,?_,H4.out.trans HT.out.2⟩
  have h9:=HT.out.1
  rw [HRL.out] at h9
  rw [HRR.out]
  exact h9
theorem rask_any (a:Ask) (W:World) (R:Hid (Rnd w b0 W B X wd h seed S q vp vr r)) (hs:Hid (Sent w ad)) (hn:r.rp.length≤100000) (hp:r.pl.length≤100000) :
  Calls Tryz.prog 98 #[.pointer (some ⟨q,0,none⟩),askV a] W fun e w'=>e = .returned (.tuple #[])∧RndAns w b0 W w' B X wd h seed S q (Ve.askR r a):=by
 have HB1:Hid (Below W.heap.size W (W.alloc (.cells (askA a) 45))):=(Below.refl _ _).alloc (Nat.le_refl _) _
 by_cases hk:a.k = 111
 ·have hk':(a.k == 111) = true:=by simpa using hk
  have HP:=hide (rplace_any a _ (R.out.later HB1.out) hs hn hp)
  rw [show Ve.askR r a = Ve.placeR r a by unfold Ve.askR;rw [if_pos hk]]
  clear hk
  unfold askV askA at *
  go_enter Tryz.func98,Tryz.ntmps98
  go_wp2_with fail
  refine HP.out.mono ?_
  rintro e w2 ⟨rfl,X2,vp2,vr2,h1,h2⟩
  have H1:=hide h1;have H2:=hide ((RFr.below HB1.out b0 B X).trans h2)
  clear h1 h2
  simp only []
  go_wp2
  first | go_end0 | refine bodyPost_ret (v:=.tuple #[]) (by simp [results,Tryz.results98]) rfl ?_
  exact ⟨rfl,X2,vp2,vr2,H1.out,H2.out⟩
 ·have hk':(a.k == 111) = false:=by simpa using hk
  have HP:=hide (rcancel_any a _ (R.out.later HB1.out) hs hn hp)
  rw [show Ve.askR r a = Ve.cancelR r a by unfold Ve.askR;rw [if_neg hk]]
  clear hk
  unfold askV askA at *
  go_enter Tryz.func98,Tryz.ntmps98
  go_wp2_with fail
  refine HP.out.mono ?_
  rintro e w2 ⟨rfl,X2,vp2,vr2,h1,h2⟩
  have H1:=hide h1;have H2:=hide ((RFr.below HB1.out b0 B X).trans h2)
  clear h1 h2
  simp only []
  go_wp2
  first | go_end0 | refine bodyPost_ret (v:=.tuple #[]) (by simp [results,Tryz.results98]) rfl ?_
  exact ⟨rfl,X2,vp2,vr2,H1.out,H2.out⟩
end
end Go.Proofs.YtidahfhingdlmaaGreatDoor
namespace Go.Proofs.YtidahfhingdlmaaGreatDoor
open Go.RowKit Go.Maps
set_option maxRecDepth 100000
def OwnM (w:World) (b n:Nat) (f:Int→Int):Prop:=∃ D:DataW Value,w.ownsMap Tryz.prog 3 RV b n D∧∀ p,D.atKey (.int .i64 p) (.held (.int .i64 0)) = .held (.int .i64 (f p))
theorem zero3 (w:World):(zeroValue 3).run Tryz.prog w = .ok (.int .i64 0) w:=by kernel_rfl
section
variable {w w':World} {b n:Nat} {f:Int→Int}
theorem OwnM.block (h:OwnM w b n f):∃ es clock,w.heap[b]? = some (.map es clock):=by
 obtain ⟨D,⟨es,clock,hb,_⟩,_⟩:=h
 exact ⟨es,clock,hb⟩
theorem OwnM.turned {T:Nat→Prop} (h:OwnM w b n f) (ht:Turned w w' T) (hb:¬ T b):OwnM w' b n f:=by
 obtain ⟨D,⟨es,clock,h3,rest⟩,h2⟩:=h
 exact ⟨D,⟨es,clock,by rw [ht.block b (lt_of_block h3) hb];exact h3,rest⟩,h2⟩
theorem OwnM.later (h:OwnM w b n f) (hb:Below w.heap.size w w'):OwnM w' b n f:=by
 obtain ⟨D,h1,h2⟩:=h
 exact ⟨D,h1.kept (row:=none) ⟨hb.os,hb.tape,hb.output,hb.size,fun i hi _=>hb.block i hi⟩ (by simp),h2⟩
theorem OwnM.look (h:OwnM w b n f) {p:Int} (h1:-9223372036854775808≤p) (h2:p≤9223372036854775807) :
  (Instr.lookup 219 (.map (some b)) (.int .i64 p) false).run Tryz.prog w = .ok (.int .i64 (f p)) w:=by
 obtain ⟨D,h3,h4⟩:=h
 obtain ⟨v,ps,hrun,hv⟩:=h3.lookup keyed3 Tryz.underlying219 (zero3 w) (zd:=.held (.int .i64 0)) (zp:=[]) rfl (key3 h1 h2)
 rw [h4] at hv
 have:v = .int .i64 (f p):=(by simpa [RV] using hv:_∧ps = []).1
 rw [hrun,this]
theorem OwnM.store (h:OwnM w b n f) {p x:Int} (h1:-9223372036854775808≤p) (h2:p≤9223372036854775807) (hn:n < maxLen) :
  ∃ w4,(Instr.mapUpdate 219 (.map (some b)) (.int .i64 p) (.int .i64 x)).run Tryz.prog w = .ok () w4∧OwnM w4 b (n + 1) (fun q=>if q = p then x else f q)∧w.grownBy w4 (some b):=by
 obtain ⟨D,h3,h4⟩:=h
 obtain ⟨w4,hrun,hown4,hg4⟩:=h3.update keyed3 Tryz.underlying219 hn (key3 h1 h2) (val:=.int .i64 x) (d:=.held (.int .i64 x)) (ps:=[]) rfl
 have hD:IsMap D:=by obtain ⟨es,clock,_,_,_,e⟩:=h3;exact ⟨_,e⟩
 refine ⟨w4,hrun,⟨_,hown4,fun q=>?_⟩,hg4⟩
 by_cases hq:q = p
 ·subst hq
  rw [atKey_put_same hD (by trivial)];simp
 ·rw [atKey_put_other (fun e=>hq (by simpa using e)),h4];simp [hq]
end
set_option maxHeartbeats 1000000 in
theorem ownersOf_any (base:Nat) (v:Value) (l:List Cv.Lot) (w:World) (hrow:Hid (w.ownsRow base 137 5 v l.length (flat l))) (hl:l.length≤60) (hok:Hid (∀ x∈l,Cv.ok x = true)) :
  Calls Tryz.prog 132 #[v] w fun e w'=>e = .returned (.map (some w.heap.size))∧OwnM w' w.heap.size l.length (Ve.ownT l l.length)∧Below w.heap.size w w':=by
 obtain ⟨m,hm⟩:∃ m,l.length = m:=⟨_,rfl⟩
 rw [hm] at hrow hl ⊢
 have HM:=hide hm
 obtain ⟨a0,c0,hv⟩:=row_form hrow.out
 subst hv
 clear hm
 have HB0:Hid (Below w.heap.size w (w.alloc (.map #[] 0))):=(Below.refl _ _).alloc (Nat.le_refl _) _
 have HO0:Hid (OwnM (w.alloc (.map #[] 0)) w.heap.size 0 (fun _=>0)):=⟨_,World.ownsMap_made w _ _ _,fun p=>rfl⟩
 have hmk:(Instr.makeMap 219 none).run Tryz.prog w = .ok (.map (some w.heap.size)) (w.alloc (.map #[] 0)):=by kernel_rfl
 go_enter Tryz.func132,Tryz.ntmps132
 go_wp2_with fail
 go_loopw [9] (fun kv wr=>∃ k:Nat,k≤m∧kv = .int .i64 k∧OwnM wr w.heap.size k (Ve.ownT l k)∧Below w.heap.size w wr) (fun kv _=>m - (intOf kv).toNat)
 case atStart=>exact ⟨0,by omega,rfl,HO0.out,HB0.out⟩
 case round =>
  obtain ⟨k,hk,rfl,ho,hb⟩:=hrel
  have HO:=hide ho;have HB:=hide hb
  clear ho hb
  by_cases hlt:k < m
  ·have hki:(k:Int) < m:=by omega
   have hkl:k < l.length:=by rw [HM.out];exact hlt
   have hrw:=row_later hrow.out HB.out
   obtain ⟨g,hg⟩:∃ g,a0 = some ⟨g,0,none⟩:=by
    rcases hrw.2 with ⟨e1,_⟩ | ⟨g,cap,cur,e1,_⟩
    ·cases e1;omega
    ·simp only [Value.slice.injEq] at e1;exact ⟨g,e1.1⟩
   subst hg
   obtain ⟨x0,x1,x2,x3,x4⟩:=lots_of_row hrw k hkl
   simp only [Nat.zero_add] at x0 x1 x2 x3 x4
   have hgl:g < wr.heap.size:=World.block_lt_of_cell? _ _ x0
   have hx:=hok.out _ (Cv.nth_mem hkl)
   simp only [Cv.ok,Wi.withinB,Bool.and_eq_true,decide_eq_true_eq] at hx
   have HB1:Hid (Below wr.heap.size wr (wr.alloc (.cells #[.int .i64 (Cv.nth l k).id,.int .i64 (Cv.nth l k).ow,.int .i64 (Cv.nth l k).sd,.int .i64 (Cv.nth l k).pr,.int .i64 (Cv.nth l k).q] 137))):=(Below.refl _ _).alloc (Nat.le_refl _) _
   obtain ⟨w4,hrun,ho4,hg4⟩:=(HO.out.later HB1.out).store (p:=(Cv.nth l k).id) (x:=(Cv.nth l k).ow) (by omega) (by omega) (by unfold maxLen;omega)
   have HO4:Hid (OwnM w4 w.heap.size (k + 1) (Ve.ownT l (k + 1))):=ho4
   have HB4:Hid (Below w.heap.size w w4):=(HB.out.trans (HB1.out.mono HB.out.size)).grown hg4 (Nat.le_trans HB.out.size HB1.out.size) (fun j hj=>by have:=Option.some.inj hj;omega)
   generalize Cv.nth l k = x at *
   clear ho4 hg4 hrw hx HB1
   go_wp2
   exact ⟨⟨k + 1,by omega,by go_num,HO4.out,HB4.out⟩,by simp [intOf];omega⟩
  ·have hki:¬ (k:Int) < m:=by omega
   obtain rfl:k = m:=by omega
   go_wp2
   go_ret
   exact ⟨rfl,HO.out,HB.out⟩
end Go.Proofs.YtidahfhingdlmaaGreatDoor
namespace Go.Proofs.YtidahfhingdlmaaGreatDoor
open Go.RowKit
set_option maxRecDepth 100000
namespace Ve
theorem won_spec {l:List Cv.Lot} (hl:Cv.Oks l) (ref:Int):Cv.Won l ref 1000 (won l ref).1 (won l ref).2:=by
 obtain ⟨p,v,h⟩:=won_exists hl ref 1000
 have hex:∃ pv:Int × Int,Cv.Won l ref 1000 pv.1 pv.2:=⟨(p,v),h⟩
 unfold won
 rw [dif_pos hex]
 exact Classical.choose_spec hex
theorem tF_mem {wd h:Int} {r:Ro} (H:FAll r.L r.pf r.n wd h) {i:Nat} (hi:i < 3) (s:Int):(tF wd r i s).length≤240∧∀ f∈tF wd r i s,1≤f.2∧∃ x∈r.L i,x.id = f.1:=by
 have hw:Cv.Won (r.L i) (r.n (i * 2)) 1000 (tP r i) (tV r i):=won_spec (H.ok.bk i hi).oks _
 unfold tF Fl.runF
 split
 ·rename_i hc
  have hf:=Fs.won_fine (good_well (H.ok.bk i hi)) hw hc.2
  refine ⟨?_,Fs.fills_mem hf s⟩
  have:=Ra.fills_length s hf
  unfold Ra.fills
  rw [List.length_append]
  omega
 ·exact ⟨by simp,fun f hf=>by cases hf⟩
end Ve
section
variable {w W W':World} {ad:Nat→Addr} {b0 q:Nat} {B:Vb} {X X' X2:Vx} {wd h seed:Int} {S:Ve.St} {vp vr:Value} {r:Ve.Ro}
theorem Rnd.map {b n:Nat} {f:Int→Int} (R:Rnd w b0 W B X wd h seed S q vp vr r) (ht:Turned W W' (fun k=>k = q∨vr.ownBlock = some k)) (ho:OwnM W b n f):OwnM W' b n f:=by
 obtain ⟨es,clock,hb⟩:=ho.block
 refine ho.turned ht (fun e=>?_)
 rcases e with e | e
 ·rw [e,R.blk] at hb;cases hb
 ·obtain ⟨_,cur,h2⟩:=row_block R.rp e
  rw [h2] at hb;cases hb
theorem Rnd.frow {v:Value} {F:List (Int × Int)} (R:Rnd w b0 W B X wd h seed S q vp vr r) (ht:Turned W W' (fun k=>k = q∨vr.ownBlock = some k)) (hf:FRow W v F):FRow W' v F :=
 hf.keep fun g cur hg=>by
  rw [R.block ht hg (by decide) (by decide)];exact hg.symm
theorem restR_len (L:Nat→List Cv.Lot) (i:Nat) (a:Ask):(Ve.restR L i a).length≤1:=by
 unfold Ve.restR;split <;> simp
theorem flat_rest_len (L:Nat→List Cv.Lot) (i:Nat):∀ l:List Ask,(l.flatMap (Ve.restR L i)).length≤l.length
 | []=>by simp
 | a :: l=>by
  have:=flat_rest_len L i l
  have:=restR_len L i a
  simp only [List.flatMap_cons,List.length_append,List.length_cons]
  omega
set_option maxHeartbeats 4000000 in
theorem rtrade_any (i:Nat) (hi:i < 3) (s:Int) (hs32:Ra.IsU s) (W:World) (R:Hid (Rnd w b0 W B X wd h seed S q vp vr r)) (hs:Hid (Sent w ad)) (hn:r.rp.length≤50000) (hp:r.pl.length≤1000) :
  Calls Tryz.prog 99 #[.pointer (some ⟨q,0,none⟩),.int .i64 i,.int .u32 s] W fun e w'=>e = .returned (.tuple #[])∧RndAns w b0 W w' B X wd h seed S q (Ve.tradeR wd h r i s):=by
 have hwon:Cv.Won (r.L i) (r.n (i * 2)) 1000 (Ve.tP r i) (Ve.tV r i):=Ve.won_spec (R.out.all.ok.bk i hi).oks _
 have HMEM:=hide (Ve.tF_mem R.out.all hi s)
 have HBK:Hid (∀ W',Below W.heap.size W W'→Calls Tryz.prog 22 #[.pointer (some ⟨B.F,0,none⟩),.int .i64 i] W' fun e w'=>e = .returned (.pointer (some ⟨B.b i,0,none⟩))∧w' = W'):=fun W' hb=>book_in i hi (R.out.later hb).fl
 have HLT:Hid (∀ W',Below W.heap.size W W'→Calls Tryz.prog 23 #[.pointer (some ⟨B.b i,0,none⟩)] W' fun e w'=>∃ v2,e = .returned v2∧w'.ownsRow W'.heap.size 137 5 v2 (r.L i).length (flat (r.L i))∧Below W'.heap.size W' w'):=fun W' hb=>lots_any (B.b i) w.heap.size (X.v i) (r.L i) W' ((R.out.later hb).fl.bk i hi) (R.out.all.ok.bk i hi).len
 have HRUN:Hid (∀ W',Below W.heap.size W W'→Calls Tryz.prog 133 #[.pointer (some ⟨B.F,0,none⟩),.int .i64 i,.int .u32 s] W' fun e w'=>∃ vF X',e = .returned (.tuple #[resV (Ve.tP r i) (Ve.tV r i) (Fl.runO r.n i wd (Ve.tP r i) (Ve.tV r i)) vF,.nilIface])∧Rnd w b0 w' B X' wd h seed S q vp vr { r with L:=Fl.runL r.L i (Ve.tF wd r i s),pf:=Fs.sett r.pf i (Ve.tP r i) (r.L i) (Ve.tF wd r i s),n:=Fl.runN r.n i wd h (Ve.tP r i) (Ve.tV r i) }∧RFr W' w' b0 B X X'∧Turned W' w' (fun k=>fown B X k)∧FRow w' vF (Ve.tF wd r i s)):=fun W' hb=>by
  refine (run_any i hi s _ _ hs32 (R.out.later hb).fl hs.out.aer (R.out.later hb).all hwon).mono ?_
  rintro e w' ⟨vF,v',rfl,h1,h2,h3,h4⟩
  obtain ⟨k1,k2,k3⟩:=(R.out.later hb).floor h1 h2 h4
  exact ⟨vF,_,rfl,k1,k2,k3,h3⟩
 have HRR:Hid (Ve.tradeR wd h r i s = { r with L:=Fl.runL r.L i (Ve.tF wd r i s),pf:=Fs.sett r.pf i (Ve.tP r i) (r.L i) (Ve.tF wd r i s),n:=Fl.runN r.n i wd h (Ve.tP r i) (Ve.tV r i),rp:=r.rp++((Ve.tF wd r i s).map (Ve.fillR (r.L i) (Ve.tP r i))++r.pl.flatMap (Ve.restR (Fl.runL r.L i (Ve.tF wd r i s)) i)) }):=rfl
 have HLEN:=hide (R.out.all.ok.bk i hi).len
 have HOKS:=hide (R.out.all.ok.bk i hi).oks
 generalize Ve.tradeR wd h r i s = rr at *
 generalize Ve.tF wd r i s = FF at *
 generalize Ve.tP r i = p at *
 generalize Ve.tV r i = vol at *
 generalize Fl.runO r.n i wd p vol = op at *
 generalize Fl.runN r.n i wd h p vol = nn at *
 generalize Fs.sett r.pf i p (r.L i) FF = pf' at *
 generalize Fl.runL r.L i FF = L' at *
 clear hwon hs32
 have c0:=R.out.cells.1
 have ho:∀ k,fown B X k→k < W.heap.size:=fun k hk=>fown_lt R.out.ven hk
 go_enter Tryz.func99,Tryz.ntmps99
 go_wp2_with fail
 refine (HBK.out _ (Below.refl _ _)).mono ?_
 rintro e w1 ⟨rfl,hw1⟩
 subst w1
 simp only []
 go_wp2_with fail
 refine (HLT.out _ (Below.refl _ _)).mono ?_
 rintro e w2 ⟨v2,rfl,hrow2,hb2⟩
 have HB2:=hide hb2
 have HOW:=hide (ownersOf_any W.heap.size v2 (r.L i) w2 hrow2 HLEN.out HOKS.out)
 clear hrow2 hb2
 simp only []
 go_wp2_with fail
 refine HOW.out.mono ?_
 rintro e w3 ⟨rfl,hom,hb3⟩
 have HB3:=hide (HB2.out.trans (hb3.mono HB2.out.size));have HOM:=hide hom
 have hM:W.heap.size≤w2.heap.size:=HB2.out.size
 generalize w2.heap.size = M at *
 clear hom hb3 HOW HB2
 have c3:=(R.out.later HB3.out).cells.1
 simp only []
 go_wp2_with fail
 refine (HRUN.out _ HB3.out).mono ?_
 rintro e w4 ⟨vF,X4,rfl,h1,h2,h3,h4⟩
 have HR4:=hide h1;have HF4:=hide ((RFr.below HB3.out b0 B X).trans h2);have HFR4:=hide h4
 have HOM4:=hide (HOM.out.turned h3 (fun e=>by have:=ho _ e;omega))
 clear h1 h2 h3 HBK HLT HRUN HOM
 obtain ⟨aF,cF,hvF⟩:=h4.val
 have HVF:=hide hvF
 subst hvF
 obtain ⟨m,hm⟩:∃ m,FF.length = m:=⟨_,rfl⟩
 have HM:=hide hm
 have hm240:m≤240:=by rw [← hm];exact HMEM.out.1
 rw [hm]
 clear h4
 unfold resV
 have HB5:Hid (Below w4.heap.size w4 (w4.alloc (.cells #[.int .i64 p,.int .i64 vol,.bool op,.slice aF m cF] 223))):=(Below.refl _ _).alloc (Nat.le_refl _) _
 have HD5:=hide (heap_alloc_new w4 (.cells #[.int .i64 p,.int .i64 vol,.bool op,.slice aF m cF] 223))
 simp only []
 go_wp2_with fail
 have HR5:=hide (HR4.out.later HB5.out);have HF5:=hide (HF4.out.trans (RFr.below HB5.out b0 B X4));have HFR5:=hide (HFR4.out.later HB5.out);have HOM5:=hide (HOM4.out.later HB5.out)
 rw [hm] at HFR5
 generalize w4.alloc (.cells #[.int .i64 p,.int .i64 vol,.bool op,.slice aF m cF] 223) = w5 at *
 generalize w4.heap.size = D at *
 clear HR4 HF4 HFR4 HOM4 HB5 hm
 go_loopw [38] (fun kv wr=>∃ k vr',k≤m∧kv = .int .i64 k∧Rnd w b0 wr B X4 wd h seed S q vp vr' { r with L:=L',pf:=pf',n:=nn,rp:=r.rp++(FF.take k).map (Ve.fillR (r.L i) p) }∧RFr W wr b0 B X X4∧FRow wr (.slice aF m cF) FF∧OwnM wr M (r.L i).length (Ve.ownT (r.L i) (r.L i).length)∧wr.heap[D]? = some (.cells #[.int .i64 p,.int .i64 vol,.bool op,.slice aF m cF] 223 (0,0))) (fun kv _=>m - (intOf kv).toNat)
 case atStart=>exact ⟨0,vr,by omega,rfl,by simpa using HR5.out,HF5.out,HFR5.out,HOM5.out,HD5.out⟩
 case round =>
  obtain ⟨k,vk,hk,rfl,hr,hfr,hff,hom,hd⟩:=hrel
  have HR:=hide hr;have HF:=hide hfr;have HFF:=hide hff;have HO:=hide hom;have HD:=hide hd
  clear hr hfr hom
  by_cases hlt:k < m
  ·have hki:(k:Int) < m:=by omega
   have hkl:k < FF.length:=by rw [HM.out];exact hlt
   obtain ⟨g,hg⟩:∃ g,aF = some ⟨g,0,none⟩:=by
    rcases hff with ⟨e1,_⟩ | ⟨g,cap,cur,e1,_⟩
    ·rw [e1] at hkl;cases hkl
    ·simp only [Value.slice.injEq] at e1;exact ⟨g,e1.1⟩
   subst hg
   obtain ⟨y0,y1⟩:wr.cell? ⟨g,k * 2,none⟩ = some (.int .i64 (fnth FF k).1)∧wr.cell? ⟨g,k * 2 + 1,none⟩ = some (.int .i64 (fnth FF k).2):=by
    rcases hff with ⟨e1,_⟩ | ⟨g',cap,cur,e1,h2,_⟩
    ·rw [e1] at hkl;cases hkl
    ·simp only [Value.slice.injEq,Option.some.injEq,Addr.mk.injEq] at e1
     obtain ⟨⟨rfl,_⟩,_⟩:=e1
     exact h2 k hkl
   have hgl:g < wr.heap.size:=World.block_lt_of_cell? _ _ y0
   have hDl:D < wr.heap.size:=lt_of_block hd
   have z0:wr.cell? ⟨D,0,none⟩ = some (.int .i64 p):=by rw [cell_of_row _ _ _ _ _ _ hd];rfl
   have hfk:fnth FF k = FF[k]:=by unfold fnth;rw [List.getD_eq_getElem?_getD,List.getElem?_eq_getElem hkl];rfl
   have hid:1≤(fnth FF k).1∧(fnth FF k).1≤1073741824:=by
    obtain ⟨_,x,hx,hxi⟩:=HMEM.out.2 (fnth FF k) (by rw [hfk];exact List.getElem_mem hkl)
    have:=HOKS.out x hx
    simp only [Cv.ok,Wi.withinB,Bool.and_eq_true,decide_eq_true_eq] at this
    omega
   have HN:Hid ((FF.take (k + 1)).map (Ve.fillR (r.L i) p) = (FF.take k).map (Ve.fillR (r.L i) p)++[Ve.tell Ve.kFill ⟨(fnth FF k).1,Ve.ownT (r.L i) (r.L i).length (fnth FF k).1,0,p,(fnth FF k).2⟩]):=by
    show _ = _
    rw [List.take_succ_eq_append_getElem hkl,List.map_append,← hfk];rfl
   generalize fnth FF k = f at *
   obtain ⟨f1,f2⟩:=f
   simp only at y0 y1 hid HN
   have HB6:Hid (Below wr.heap.size wr (wr.alloc (.cells #[.int .i64 f1,.int .i64 f2] 227))):=(Below.refl _ _).alloc (Nat.le_refl _) _
   have hlook:=(HO.out.later HB6.out).look (p:=f1) (by omega) (by omega)
   generalize Ve.ownT (r.L i) (r.L i).length f1 = ow at *
   have HT:=hide (fun W' (hb:Below wr.heap.size wr W')=>tell_any Ve.kFill ⟨f1,ow,0,p,f2⟩ W' (HR.out.later hb) (by simp only [List.length_append,List.length_map,List.length_take];omega))
   unfold Ve.kFill lotV at HT
   clear hff hd hfk hid
   go_wp2_with fail
   refine (HT.out _ HB6.out).mono ?_
   rintro e w7 ⟨rfl,vr7,h3,h4,h5⟩
   have H3:=hide h3;have H4:=hide (HF.out.trans ((RFr.below HB6.out b0 B _).trans h4))
   have H5:=hide ((HR.out.later HB6.out).frow h5 (HFF.out.later HB6.out))
   have H6:=hide ((HR.out.later HB6.out).map h5 (HO.out.later HB6.out))
   have H7:=hide ((HR.out.later HB6.out).block h5 (s_row_later HB6.out HD.out) (by decide) (by decide))
   clear h3 h4 h5 HT HB6 hlook
   simp only []
   go_wp2
   refine ⟨⟨k + 1,vr7,hlt,by go_num,?_,H4.out,H5.out,H6.out,H7.out⟩,by simp [intOf];omega⟩
   rw [HN.out,← List.append_assoc]
   exact H3.out
  ·have hki:¬ (k:Int) < m:=by omega
   obtain rfl:k = m:=by omega
   have hR9:=HR.out
   rw [← HM.out,List.take_length] at hR9
   have HR9:=hide hR9
   obtain ⟨wo,hwo⟩:∃ wo,wo = wr:=⟨_,rfl⟩
   subst hwo
   have q1:=hR9.cells.2.1
   obtain ⟨ap,cp,hvp⟩:=row_form hR9.pl
   have HVP:Hid (vp = .slice ap r.pl.length cp):=hvp
   rw [HVP.out] at q1
   obtain ⟨mp,hmp⟩:∃ mp,r.pl.length = mp:=⟨_,rfl⟩
   rw [hmp] at q1 HVP hp
   have HMP:=hide hmp
   clear hmp hvp hR9 hff hd
   have hmF:(FF.map (Ve.fillR (r.L i) p)).length≤240:=by rw [List.length_map];exact HMEM.out.1
   go_wp2_with fail
   go_loopw [61] (fun kv wr=>∃ k vr',k≤mp∧kv = .int .i64 k∧Rnd w b0 wr B X4 wd h seed S q vp vr' { r with L:=L',pf:=pf',n:=nn,rp:=(r.rp++FF.map (Ve.fillR (r.L i) p))++(r.pl.take k).flatMap (Ve.restR L' i) }∧RFr W wr b0 B X X4) (fun kv _=>mp - (intOf kv).toNat)
   case atStart=>exact ⟨0,vk,by omega,rfl,by simpa using HR9.out,HF.out⟩
   case round =>
    obtain ⟨j,vj,hj,rfl,hr,hfr⟩:=hrel
    have HRj:=hide hr;have HFj:=hide hfr
    clear hfr
    by_cases hltj:j < mp
    ·have hji:(j:Int) < mp:=by omega
     have hjl:j < r.pl.length:=by rw [HMP.out];exact hltj
     have hrow:=hr.pl
     rw [HVP.out] at hrow
     simp only [HMP.out] at hrow
     obtain ⟨g,hg⟩:∃ g,ap = some ⟨g,0,none⟩:=by
      rcases hrow.2 with ⟨e1,_⟩ | ⟨g,cap,cur,e1,_⟩
      ·cases e1;omega
      ·simp only [Value.slice.injEq] at e1;exact ⟨g,e1.1⟩
     subst hg
     obtain ⟨d0,d1,d2,d3,d4,d5,d6,d7⟩:=ask_cells hrow hjl hltj
     have hgl:g < wr.heap.size:=World.block_lt_of_cell? _ _ d0
     have HN:Hid ((r.pl.take (j + 1)).flatMap (Ve.restR L' i) = (r.pl.take j).flatMap (Ve.restR L' i)++Ve.restR L' i (anth r.pl j)):=by
      show _ = _
      rw [Ve.atake_snoc hjl,List.flatMap_append];simp
     have hlen:=flat_rest_len L' i (r.pl.take j)
     rw [List.length_take] at hlen
     generalize anth r.pl j = a at *
     have HB6:Hid (Below wr.heap.size wr (wr.alloc (.cells #[.int .u8 a.k,.int .i64 a.c,.int .i64 a.sq,.int .i64 a.it,.int .i64 a.sd,.int .i64 a.pr,.int .i64 a.q,.int .i64 a.id] 45))):=(Below.refl _ _).alloc (Nat.le_refl _) _
     have HA6:=hide (heap_alloc_new wr (.cells #[.int .u8 a.k,.int .i64 a.c,.int .i64 a.sq,.int .i64 a.it,.int .i64 a.sd,.int .i64 a.pr,.int .i64 a.q,.int .i64 a.id] 45))
     have HG:=hide (get_any (B.b i) w.heap.size (X4.v i) a.id (L' i) _ ((HRj.out.later HB6.out).fl.bk i hi) (HRj.out.all.ok.bk i hi).len)
     have HRS:Hid (Ve.restR L' i a = if Cv.has (L' i) a.id = true∧a.it = i then [Ve.tell Ve.kRest (Bk.getX (L' i) a.id)] else []):=rfl
     generalize Ve.restR L' i a = rs at *
     generalize Bk.getX (L' i) a.id = x at *
     generalize Cv.has (L' i) a.id = hb at *
     unfold lotV at HG
     clear hr hrow
     go_wp2_with fail
     refine HG.out.mono ?_
     rintro e w7 ⟨rfl,hb7⟩
     have HB7:=hide (HB6.out.trans (hb7.mono HB6.out.size));have HA7:=hide (s_row_later hb7 HA6.out)
     have hA7l:wr.heap.size < w7.heap.size:=lt_of_block HA7.out
     clear hb7 HG HB6 HA6 d0 d1 d2 d3 d4 d5 d6 d7
     have e3:w7.cell? ⟨wr.heap.size,3,none⟩ = some (.int .i64 a.it):=by rw [cell_of_row _ _ _ _ _ _ HA7.out];rfl
     have HB8:Hid (Below wr.heap.size wr (w7.alloc (.cells #[.int .i64 x.id,.int .i64 x.ow,.int .i64 x.sd,.int .i64 x.pr,.int .i64 x.q] 137))):=HB7.out.alloc HB7.out.size _
     by_cases hc:hb = true∧a.it = i
     ·obtain ⟨rfl,hit⟩:=hc
      have hit':(a.it == (i:Int)) = true:=by simpa using hit
      have ers:rs = [Ve.tell Ve.kRest x]:=by rw [HRS.out,if_pos ⟨rfl,hit⟩]
      rw [ers] at HN
      have HT:=hide (tell_any Ve.kRest x _ (HRj.out.later HB8.out) (by simp only [List.length_append];omega))
      unfold Ve.kRest lotV at HT
      clear hit
      simp only []
      go_wp2_with fail
      refine HT.out.mono ?_
      rintro e w9 ⟨rfl,vr9,h3,h4,_⟩
      have H3:=hide h3;have H4:=hide (HFj.out.trans ((RFr.below HB8.out b0 B _).trans h4))
      clear h3 h4 HT
      simp only []
      go_wp2
      refine ⟨⟨j + 1,vr9,hltj,by go_num,?_,H4.out⟩,by simp [intOf];omega⟩
      rw [HN.out,← List.append_assoc]
      exact H3.out
     ·have ers:rs = []:=by rw [HRS.out,if_neg hc]
      rw [ers,List.append_nil] at HN
      have hcc:hb = false∨hb = true∧(a.it == (i:Int)) = false:=by
       cases hb with
       | false=>exact .inl rfl
       | true=>exact .inr ⟨rfl,by simpa using fun e=>hc ⟨rfl,e⟩⟩
      clear hc
      rcases hcc with rfl | ⟨rfl,hit'⟩
      all_goals
       simp only []
       go_wp2
       refine ⟨⟨j + 1,vj,hltj,by go_num,?_,HFj.out.trans (RFr.below HB8.out b0 B _)⟩,by simp [intOf];omega⟩
       rw [HN.out]
       exact HRj.out.later HB8.out
    ·have hji:¬ (j:Int) < mp:=by omega
     obtain rfl:j = mp:=by omega
     have hR10:=HRj.out
     rw [← HMP.out,List.take_length,List.append_assoc] at hR10
     have HR10:=hide hR10
     clear hR10 hr
     go_wp2
     go_end0
     exact ⟨rfl,X4,vp,vj,by rw [HRR.out];exact HR10.out,HFj.out⟩
end
end Go.Proofs.YtidahfhingdlmaaGreatDoor
namespace Go.Proofs.YtidahfhingdlmaaGreatDoor
set_option maxRecDepth 100000
namespace Ve
def Same (f g:Nat→Int):Prop:=Pu.cashes g 6 = Pu.cashes f 6∧∀ j,j < 3→Pu.stocks g j 6 = Pu.stocks f j 6
theorem Same.refl (f:Nat→Int):Same f f:=⟨rfl,fun _ _=>rfl⟩
theorem Same.trans {f g k:Nat→Int} (h:Same f g) (h2:Same g k):Same f k:=⟨h2.1.trans h.1,fun j hj=>(h2.2 j hj).trans (h.2 j hj)⟩
theorem freeAll_same (i:Nat):∀ (xs:List Cv.Lot) (f:Nat→Int),Same f (Fl.freeAll i f xs)
 | [],f=>Same.refl f
 | x :: xs,f=>by
  have h:=Pu.free_sums f (i:Int) x 6
  exact Same.trans ⟨h.1,h.2⟩ (freeAll_same i xs (Pu.freeF f i x))
theorem dF_same (c:Int) (L:Nat→List Cv.Lot) (f:Nat→Int):∀ i,Same f (Fl.dF c L f i)
 | 0=>Same.refl f
 | i + 1=>(dF_same c L f i).trans (freeAll_same i _ _)
theorem dropR_same (r:Ro) (c:Nat):Same r.pf (dropR r c).pf:=dF_same c r.L r.pf 3
theorem askR_same (r:Ro) (a:Ask):Same r.pf (askR r a).pf:=by
 unfold askR placeR cancelR
 split
 ·show Same r.pf (Fl.placeF r.L r.pf a)
  unfold Fl.placeF
  split
  ·have h:=Pu.hold_sums r.pf a.it (Fl.lot a) 6
   exact ⟨h.1,h.2⟩
  ·exact Same.refl _
 ·show Same r.pf (Fl.canF r.L r.pf a)
  unfold Fl.canF
  split
  ·have h:=Pu.free_sums r.pf a.it (Fl.canX r.L a) 6
   exact ⟨h.1,h.2⟩
  ·exact Same.refl _
theorem tradeR_same {wd h:Int} {r:Ro} (H:FAll r.L r.pf r.n wd h) {i:Nat} (hi:i < 3) (s:Int):Same r.pf (tradeR wd h r i s).pf:=by
 have hw:Cv.Won (r.L i) (r.n (i * 2)) 1000 (tP r i) (tV r i):=won_spec (H.ok.bk i hi).oks _
 show Same r.pf (Fs.sett r.pf i (tP r i) (r.L i) (tF wd r i s))
 unfold tF Fl.runF
 split
 ·rename_i hc
  have hf:=Fs.won_fine (good_well (H.ok.bk i hi)) hw hc.2
  have hF:=Fs.fil_of hf s
  have hp:1≤tP r i∧tP r i≤1000:=by
   rcases hw with ⟨_,e2,_⟩ | ⟨_,e2,e3,_⟩
   ·have:=hc.2;omega
   ·exact ⟨e2,e3⟩
  have h1:=Fs.sett_sums H.ok hi hp hF
  exact ⟨h1.1,h1.2⟩
 ·rw [Fs.sett_nil]
  exact Same.refl _
end Ve
end Go.Proofs.YtidahfhingdlmaaGreatDoor
namespace Go.Proofs.YtidahfhingdlmaaGreatDoor
open Go.RowKit
set_option maxRecDepth 100000
theorem hexTo_length (s:ByteArray):∀ k,(Ve.hexTo s k).length = 2 * k
 | 0=>rfl
 | k + 1=>by rw [Ve.hexTo,List.length_append,hexTo_length s k];rfl
theorem dig_at (x:Nat) (hx:x < 16) (w:World):(Instr.index 9 (.string ⟨#[48,49,50,51,52,53,54,55,56,57,97,98,99,100,101,102]⟩) (.int .u8 x)).run Tryz.prog w = .ok (.int .u8 (Ve.hexD x)) w:=by
 have:x = 0∨x = 1∨x = 2∨x = 3∨x = 4∨x = 5∨x = 6∨x = 7∨x = 8∨x = 9∨x = 10∨x = 11∨x = 12∨x = 13∨x = 14∨x = 15:=by omega
 rcases this with rfl | rfl | rfl | rfl | rfl | rfl | rfl | rfl | rfl | rfl | rfl | rfl | rfl | rfl | rfl | rfl <;> exact rfl
theorem u8_all:∀ b:Fin 256,bits .and .u8 ((b.val:Nat):Int) 15 = ((b.val % 16:Nat):Int):=by decide +kernel
theorem run_append_two8 (base:Nat) (W:World) (v:Value) (xs ys:List Int) (hr:Row W base v xs) (hl:xs.length≤1000000) (hy:ys.length≤1000000) (hb:base≤W.heap.size) :
  ∃ v' W',(Builtin.append_ #[140,140] 140 #[v,.slice (some ⟨W.heap.size,0,none⟩) ys.length ys.length]).run Tryz.prog (W.alloc (.cells (ys.map (Value.int .u8)).toArray 5)) = .ok v' W'∧Row W' base v' (xs++ys)∧(W.alloc (.cells (ys.map (Value.int .u8)).toArray 5)).grownBy W' v.ownBlock:=by
 obtain ⟨i0,hi,hz0,hz1,hz2⟩:=info5
 obtain ⟨v4,w4,hap,hrow,hg,_,_⟩:=run_append_own_at (P:=Tryz.prog) (w:=W.alloc (.cells (ys.map (Value.int .u8)).toArray 5)) base 140 140 5 i0 (.int .u8 0) 1 1 Tryz.underlying140 hi hz0 hz1 hz2 rfl (by decide) v xs.length (xs.map (Value.int .u8)) (World.ownsRow.alloc hr _) ⟨W.heap.size,0,none⟩ ys.length ys.length (ys.map (Value.int .u8)) (by simp)
  (fun j u hj=>by
   have hp:(⟨W.heap.size,0,none⟩:Addr).add j = ⟨W.heap.size,j,none⟩:=by unfold Addr.add;split <;> simp_all
   rw [hp,cell_of_row _ _ j _ 5 _ (heap_alloc_new W _)]
   simpa using hj) (fun u hu=>by obtain ⟨_,_,rfl⟩:=List.mem_map.1 hu;rfl) (by unfold maxLen;omega) (by omega) (by simp;omega)
 refine ⟨v4,w4,hap,?_,hg⟩
 show w4.ownsRow base 5 1 v4 (xs++ys).length ((xs++ys).map (Value.int .u8))
 rw [List.length_append,List.map_append]
 exact hrow
theorem below_grown {base:Nat} {w W1 W2:World} {v:Value} {n sz:Nat} {e:TypeId} {ys:List Value} (h:Below base w W1) (hr:W1.ownsRow base e sz v n ys) (hbs:base≤W1.heap.size) (hg:W1.grownBy W2 v.ownBlock):Below base w W2 :=
 h.trans ⟨hg.os,hg.tape,hg.output,hg.size,fun k hk=>hg.block k (by omega) (fun e1=>by have:=(row_block hr e1.symm).1;omega)⟩
set_option maxHeartbeats 1000000 in
theorem appendDigits_any (base:Nat) (v:Value) (xs:List Int) (s:ByteArray) (w:World) (hr:Hid (Row w base v xs)) (hx:xs.length≤100000) (hs:s.size≤1000) (hb:base≤w.heap.size) :
  Calls Tryz.prog 96 #[v,.string s] w fun e w'=>∃ v',e = .returned v'∧Row w' base v' (xs++Ve.hexTo s s.size)∧Below base w w':=by
 obtain ⟨a0,c0,hv⟩:=row_form hr.out
 go_enter Tryz.func96,Tryz.ntmps96
 go_wp2_with fail
 go_loopw [0,8] (fun v kv wr=>∃ k:Nat,k≤s.size∧kv = .int .i64 k∧Row wr base v (xs++Ve.hexTo s k)∧Below base w wr) (fun _ kv _=>s.size - (intOf kv).toNat)
 case atStart=>exact ⟨0,by omega,rfl,by simpa [Ve.hexTo] using hr.out,Below.refl _ _⟩
 case round =>
  obtain ⟨k,hk,rfl,hrow,hbb⟩:=hrel
  have HR:=hide hrow;have HB:=hide hbb
  clear hbb
  by_cases hlt:k < s.size
  ·have hki:(k:Int) < s.size:=by omega
   have hlt256:=bAt_lt s k
   have hbe:=bAt_eq s k hlt
   obtain ⟨XT,val,hcl,hmk⟩:=class_all (fun _=>True)
   go_wp2
   obtain ⟨x0,hx0⟩:=hmk wr.drew trivial
   have hnx:Nonempty XT:=⟨x0⟩
   refine region_many_calls (val:=val) [11,12] [0,1,2,3,4,5,6,7,8,9,10,11,12,13] (by kernel_rfl) (by kernel_rfl) x0 hx0 ?_
   rw [hx0]
   clear hx0
   have d1:∀ W,(Instr.index 9 (.string ⟨#[48,49,50,51,52,53,54,55,56,57,97,98,99,100,101,102]⟩) (.int .u8 ((bAt s k:Int) / 16))).run Tryz.prog W = .ok (.int .u8 (Ve.hexD (bAt s k / 16))) W:=fun W=>by
    rw [show ((bAt s k:Int) / 16) = ((bAt s k / 16:Nat):Int) by omega];exact dig_at _ (by omega) W
   have d2:∀ W,(Instr.index 9 (.string ⟨#[48,49,50,51,52,53,54,55,56,57,97,98,99,100,101,102]⟩) (.int .u8 (bits BinOp.and IntKind.u8 (bAt s k:Int) 15))).run Tryz.prog W = .ok (.int .u8 (Ve.hexD (bAt s k % 16))) W:=fun W=>by
    rw [u8_all ⟨bAt s k,hlt256⟩];exact dig_at _ (by omega) W
   have hl2:(xs++Ve.hexTo s k).length≤1000000:=by rw [List.length_append,hexTo_length];omega
   have hbw:base≤wr.heap.size:=Nat.le_trans hb HB.out.size
   have hrd:Row wr.drew base u0 (xs++Ve.hexTo s k):=row_later HR.out drew_below'
   obtain ⟨v4,w4,hap,hr4,hg4⟩:=run_append_two8 base wr.drew u0 (xs++Ve.hexTo s k) [Ve.hexD (bAt s k / 16),Ve.hexD (bAt s k % 16)] hrd hl2 (by simp) hbw
   have HB4:Hid (Below base w w4):=below_grown ((HB.out.trans (drew_below'.mono hbw)).alloc hbw _) (World.ownsRow.alloc hrd _) (Nat.le_trans hbw (by simp)) hg4
   have HR4:Hid (Row w4 base v4 (xs++Ve.hexTo s (k + 1))):=by
    show Row w4 base v4 (xs++(Ve.hexTo s k++_))
    rw [← List.append_assoc];exact hr4
   simp only [List.map_cons,List.map_nil,List.length_cons,List.length_nil] at hap
   have HAP:=hide hap
   have HMK:=hide hmk
   clear hap hr4 hg4 hrd hrow hmk hcl
   iterate 11 (refine walkM_read rfl rfl (fun K hK=>?_);refine ⟨by rfl,?_⟩;unfold isRd;go_simp;refine hK _ ?_;clear hK K)
   refine walkM_call rfl rfl (fun K hK=>?_)
   refine ⟨by rfl,?_⟩
   unfold upM
   go_simp
   refine ⟨HMK.out _ trivial,hK _ _ ?_⟩
   clear hK K
   refine walkM_call rfl rfl (fun K hK=>?_)
   refine ⟨by rfl,?_⟩
   refine upM_append _ _ 140 rfl _ _ _ rfl rfl HAP.out ?_
   refine ⟨HMK.out _ trivial,hK _ _ ?_⟩
   clear hK K
   refine walkM_read rfl rfl (fun K hK=>?_);refine ⟨by rfl,?_⟩;unfold isRd;go_simp;refine hK _ ?_;clear hK K
   refine walkM_nil ?_
   go_wp2
   exact ⟨⟨k + 1,hlt,by go_num,HR4.out,HB4.out⟩,by simp [intOf];omega⟩
  ·have hki:¬ (k:Int) < s.size:=by omega
   obtain rfl:k = s.size:=by omega
   go_wp2
   go_ret
   exact ⟨_,rfl,HR.out,HB.out⟩
end Go.Proofs.YtidahfhingdlmaaGreatDoor
namespace Go.Proofs.YtidahfhingdlmaaGreatDoor
set_option maxRecDepth 100000
namespace Fs
open Cv Bk Ra Pu Fu
theorem TI.fine {i:Nat} (hi:i < 3) {price:Int} (hp:1≤price∧price≤1000) {G:Nat→Int}:∀ (m:Nat) (f:Nat→Int) (bs ss:List Lot),bs.length + ss.length≤m→TI i price G f bs ss→Pu.Good G
 | m,f,[],ss,_,h=>by
  have e:f = G:=funext (h.done (.inl rfl))
  rw [← e];exact h.good
 | m,f,x :: bs,[],_,h=>by
  have e:f = G:=funext (h.done (.inr rfl))
  rw [← e];exact h.good
 | 0,f,x :: bs,y :: ss,hm,h=>by simp at hm
 | m + 1,f,x :: bs,y :: ss,hm,h=>by
  obtain ⟨_,h2⟩:=h.step hi hp rfl
  have hl:(wo (x :: bs) (min x.q y.q)).length + (wo (y :: ss) (min x.q y.q)).length≤m:=by
   rw [wo_cons,wo_cons]
   simp only [List.length_cons] at hm
   split <;> split <;> (try simp only [List.length_cons]) <;> omega
  exact TI.fine hi hp m _ _ _ hl h2
theorem sett_ok {L:Nat→List Lot} {f:Nat→Int} (h:FOk L f) {i:Nat} (hi:i < 3) {price:Int} (hp:1≤price∧price≤1000) {F:List (Int × Int)} (hF:Fil (L i) price F):FOk (upd L i (restL F (L i))) (sett f i price (L i) F):=by
 have h1:=sett_sums h hi hp hF
 exact h.settled hi hF (TI.fine hi hp _ _ _ _ (Nat.le_refl _) (h.start hi hF)) h1.1 h1.2
end Fs
namespace Fl
open Cv Bk Ra Pu Fu Fs
theorem keep_ok {L:Nat→List Lot} {f:Nat→Int} {i:Nat} (hi:i < 3) {l:List Lot} {c:Int} (ho:Once l) (H:FOk (upd L i l) f):∀ k,k≤l.length→FOk (upd L i (keepL c l k)) (freeAll i f (outL c l k))
 | 0,_=>by rw [keep_zero];exact H
 | k + 1,hk=>by
  have ih:=keep_ok (c:=c) hi ho H k (by omega)
  by_cases hc:(nth l k).ow = c
  ·have h1:=drop_one hi ih ho (by omega) hc
   obtain ⟨_,h2,_⟩:=keep_mine ho (show k < l.length by omega) hc
   rw [h2]
   unfold freeAll at *
   rw [List.foldl_append]
   exact h1
  ·obtain ⟨h1,h2⟩:=keep_other (show k < l.length by omega) hc
   rw [h1,h2];exact ih
theorem dL_ok {L:Nat→List Lot} {f:Nat→Int} (c:Int) (H:FOk L f):∀ i,i≤3→FOk (dL c L i) (dF c L f i)
 | 0,_=>H
 | i + 1,hi=>by
  have ih:=dL_ok c H i (by omega)
  have e:dL c L i i = L i:=dL_at c L i i (Nat.le_refl _)
  have h1:=keep_ok (L:=dL c L i) (f:=dF c L f i) (i:=i) (by omega) (l:=L i) (c:=c) (H.bk i (by omega)).once (by rw [← e,upd_self];exact ih) (L i).length (Nat.le_refl _)
  rw [keep_all c (Nat.le_refl _),out_all c (Nat.le_refl _)] at h1
  exact h1
end Fl
namespace Ve
variable {r:Ro} {wd h:Int}
def All (wd h:Int) (r:Ro):Prop:=FAll r.L r.pf r.n wd h
theorem All.drop (H:All wd h r) (c:Nat):All wd h (dropR r c):=⟨Fl.dL_ok c H.ok 3 (Nat.le_refl _),H.band,H.rule⟩
theorem All.drops (H:All wd h r) (ds:List Nat):∀ k,All wd h (dropsR r ds k)
 | 0=>H
 | k + 1=>(All.drops H ds k).drop _
theorem All.ask (H:All wd h r) (a:Ask):All wd h (askR r a):=by
 unfold askR
 split
 ·exact ⟨H.ok.place a,H.band,H.rule⟩
 ·exact ⟨H.ok.cancel a,H.band,H.rule⟩
theorem All.asks (H:All wd h r) (l:List Ask):∀ k,All wd h (asksR r l k)
 | 0=>H
 | k + 1=>(All.asks H l k).ask _
theorem All.trade (H:All wd h r) {i:Nat} (hi:i < 3) (s:Int):All wd h (tradeR wd h r i s):=by
 have hw:Cv.Won (r.L i) (r.n (i * 2)) 1000 (tP r i) (tV r i):=won_spec (H.ok.bk i hi).oks _
 refine FAll.run H hi hw ?_
 show Fs.FOk (upd r.L i (Fs.restL (tF wd r i s) (r.L i))) (Fs.sett r.pf i (tP r i) (r.L i) (tF wd r i s))
 unfold tF Fl.runF
 split
 ·rename_i hc
  have hf:=Fs.won_fine (good_well (H.ok.bk i hi)) hw hc.2
  have hp:1≤tP r i∧tP r i≤1000:=by
   rcases hw with ⟨_,e2,_⟩ | ⟨_,e2,e3,_⟩
   ·have:=hc.2;omega
   ·exact ⟨e2,e3⟩
  exact Fs.sett_ok H.ok hi hp (Fs.fil_of hf s)
 ·rw [Fs.sett_nil,Fs.rest_nil (H.ok.bk i hi).oks,upd_self]
  exact H.ok
theorem All.trades (H:All wd h r) (seed:Int) (bt:Nat):∀ k,k≤3→All wd h (tradesR wd h seed bt r k)
 | 0,_=>H
 | k + 1,hk=>(All.trades H seed bt k (by omega)).trade (by omega) _
end Ve
end Go.Proofs.YtidahfhingdlmaaGreatDoor
