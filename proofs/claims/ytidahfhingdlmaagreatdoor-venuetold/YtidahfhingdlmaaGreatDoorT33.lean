/- The small calls of a venue by their contracts. -/
import Derived.Test.YtidahfhingdlmaaGreatDoorT31
import Derived.Test.YtidahfhingdlmaaGreatDoorT25
import Derived.Test.YtidahfhingdlmaaGreatDoorT32
import Derived.Test.YtidahfhingdlmaaGreatDoorT17
import Derived.Test.YtidahfhingdlmaaGreatDoorT27
import Derived.Deep.RegionWith
import Derived.BigRegion
import Derived.Test.YtidahfhingdlmaaGreatDoorT08
import Derived.Test.YtidahfhingdlmaaGreatDoorT22
namespace Go.Proofs.YtidahfhingdlmaaGreatDoor
open Go.RowKit
set_option maxRecDepth 100000
def adE (ad:Nat→Addr) (j:Nat):Value:=.pointer (some (ad j))
theorem set6_row {W:World} {R:Nat} {t:TypeId} {x0 x1 x2 x3 x4 x5:Value} (hz:W.heap[R]? = some (.cells #[x0,x1,x2,x3,x4,x5] t (0,0))) (v0 v1 v2 v3 v4 v5:Value) :
  ((((((W.setCell ⟨R,0,none⟩ v0).setCell ⟨R,1,none⟩ v1).setCell ⟨R,2,none⟩ v2).setCell ⟨R,3,none⟩ v3).setCell ⟨R,4,none⟩ v4).setCell ⟨R,5,none⟩ v5).heap[R]? = some (.cells #[v0,v1,v2,v3,v4,v5] t (0,0)):=by
 rw [block_setCell (block_setCell (block_setCell (block_setCell (block_setCell (block_setCell hz 0 v0) 1 v1) 2 v2) 3 v3) 4 v4) 5 v5]
 rfl
theorem below6 {n R:Nat} {w W:World} (h:Below n w W) (hR:n≤R) (v0 v1 v2 v3 v4 v5:Value):Below n w ((((((W.setCell ⟨R,0,none⟩ v0).setCell ⟨R,1,none⟩ v1).setCell ⟨R,2,none⟩ v2).setCell ⟨R,3,none⟩ v3).setCell ⟨R,4,none⟩ v4).setCell ⟨R,5,none⟩ v5):=by
 iterate 6 refine Below.setCell (p:=⟨R,_,none⟩) ?_ hR _
 exact h
theorem turned6 (W:World) (R:Nat) (v0 v1 v2 v3 v4 v5:Value):Save W ((((((W.setCell ⟨R,0,none⟩ v0).setCell ⟨R,1,none⟩ v1).setCell ⟨R,2,none⟩ v2).setCell ⟨R,3,none⟩ v3).setCell ⟨R,4,none⟩ v4).setCell ⟨R,5,none⟩ v5) R:=((((((Save.setCell _ _ _ _).put _ _).put _ _).put _ _).put _ _).put _ _)
section
variable {w W:World} {ad:Nat→Addr} {B:Vb} {X:Vx} {wd h seed:Int} {S:Ve.St}
theorem Sent.aer (h:Sent w ad):AEr w (adE ad):=⟨h.cell 1 (by decide),h.cell 2 (by decide),h.cell 3 (by decide),h.cell 5 (by decide),h.cell 6 (by decide),h.cell 7 (by decide),h.cell 9 (by decide),h.cell 11 (by decide)⟩
theorem Sent.ser (h:Sent w ad):SEr w (adE ad):=⟨h.cell 10 (by decide),h.cell 11 (by decide),h.cell 1 (by decide),h.cell 2 (by decide),h.cell 3 (by decide)⟩
theorem Sent.ier (h:Sent w ad):IEr w (adE ad):=⟨h.cell 3 (by decide),h.cell 1 (by decide),h.cell 7 (by decide)⟩
theorem i_errC_V (ad:Nat→Addr) (c:Nat):i_errC (adE ad) c = errV ad c:=by cases c <;> rfl
def repA (r:Ve.Rep):Array Value:=#[.int .i64 r.c,.string r.k,.int .i64 r.id,.int .i64 r.pr,.int .i64 r.q,.int .i64 r.cd]
def repV (r:Ve.Rep):Value:=.agg (repA r)
theorem Ven.sent (H:Ven w W B X wd h seed S) (hs:Sent w ad):Sent W ad:=hs.later H.bl
theorem drew_below':Below W.heap.size W W.drew:=⟨rfl,rfl,rfl,Nat.le_refl _,fun _ _=>rfl⟩
theorem tape_any (W:World) (H:Ven w W B X wd h seed S):Calls Tryz.prog 33 #[.pointer (some ⟨B.V,0,none⟩)] W fun e w'=>e = .returned (.pointer (some ⟨B.d,0,none⟩))∧w' = W:=by
 have c:W.cell? ⟨B.V,3,none⟩ = some (.pointer (some ⟨B.d,0,none⟩)):=H.at 3
 clear H
 go_enter Tryz.func33,Tryz.ntmps33
 go_wp2
 go_ret
 exact ⟨rfl,rfl⟩
theorem vwait_any (n:Int) (W:World) (H:Ven w W B X wd h seed S):Calls Tryz.prog 26 #[.pointer (some ⟨B.V,0,none⟩),.int .i64 n] W fun e w'=>e = .returned (.int .i64 (Ik.waitN S.Q n:Nat))∧w' = W:=by
 have c:W.cell? ⟨B.V,2,none⟩ = some (.pointer (some ⟨B.q,0,none⟩)):=H.at 2
 have HW:=hide (wait_any n W H.it)
 clear H
 go_enter Tryz.func26,Tryz.ntmps26
 go_wp2_with fail
 refine HW.out.mono ?_
 rintro e w2 ⟨rfl,rfl⟩
 simp only []
 go_wp2
 go_ret
 exact ⟨rfl,rfl⟩
theorem session_any (n:Nat) (hn:n < 6) (W:World) (H:Ven w W B X wd h seed S):Calls Tryz.prog 25 #[.pointer (some ⟨B.V,0,none⟩),.int .i64 n] W fun e w'=>e = .returned (sV (S.on n) (S.nx n) (S.la n))∧Below W.heap.size W w':=by
 have c0:W.cell? ⟨B.V,4 + n * 5,none⟩ = some (.bool (S.on n)):=H.conn hn (j:=0) (by decide)
 have c1:W.cell? ⟨B.V,4 + n * 5 + 1,none⟩ = some (.int .i64 (S.nx n)):=H.conn hn (by decide)
 have c2:W.cell? ⟨B.V,4 + n * 5 + 2,none⟩ = some (.int .i64 (S.la n)):=H.conn hn (by decide)
 have hlt:=H.lt
 have HC:=hide (fun W=>isClB_any n W)
 rw [show Wi.withinB n 0 5 = true by simp [Wi.withinB];omega] at HC
 clear H
 go_enter Tryz.func25,Tryz.ntmps25
 go_wp2_with fail
 refine (HC.out _).mono ?_
 rintro e w2 ⟨rfl,rfl⟩
 simp only []
 go_wp2
 refine bodyPost_ret (v:=sV (S.on n) (S.nx n) (S.la n)) (by simp [results,Tryz.results25,go_sem,sV]) rfl ⟨rfl,(Below.refl _ _).alloc (Nat.le_refl _) _⟩
theorem cAt_on (S S':Ve.St) (n:Nat) (x:Bool) (h0:S'.on = upd S.on n x) (h1:S'.nx = S.nx) (h2:S'.la = S.la) (h3:S'.lf = S.lf) (h4:S'.dr = S.dr) (c' j':Nat) (hj:j' < 5):cAt S' c' j' = if c' = n∧j' = 0 then .bool x else cAt S c' j':=by
 have:j' = 0∨j' = 1∨j' = 2∨j' = 3∨j' = 4:=by omega
 rcases this with rfl | rfl | rfl | rfl | rfl <;> simp [cAt,h0,h1,h2,h3,h4]
 unfold upd
 split <;> simp_all
theorem cAt_nx (S S':Ve.St) (n:Nat) (x:Int) (h0:S'.on = S.on) (h1:S'.nx = upd S.nx n x) (h2:S'.la = S.la) (h3:S'.lf = S.lf) (h4:S'.dr = S.dr) (c' j':Nat) (hj:j' < 5):cAt S' c' j' = if c' = n∧j' = 1 then .int .i64 x else cAt S c' j':=by
 have:j' = 0∨j' = 1∨j' = 2∨j' = 3∨j' = 4:=by omega
 rcases this with rfl | rfl | rfl | rfl | rfl <;> simp [cAt,h0,h1,h2,h3,h4]
 unfold upd
 split <;> simp_all
theorem cAt_la (S S':Ve.St) (n:Nat) (x:Int) (h0:S'.on = S.on) (h1:S'.nx = S.nx) (h2:S'.la = upd S.la n x) (h3:S'.lf = S.lf) (h4:S'.dr = S.dr) (c' j':Nat) (hj:j' < 5):cAt S' c' j' = if c' = n∧j' = 2 then .int .i64 x else cAt S c' j':=by
 have:j' = 0∨j' = 1∨j' = 2∨j' = 3∨j' = 4:=by omega
 rcases this with rfl | rfl | rfl | rfl | rfl <;> simp [cAt,h0,h1,h2,h3,h4]
 unfold upd
 split <;> simp_all
theorem cAt_lf (S S':Ve.St) (n:Nat) (x:ByteArray) (h0:S'.on = S.on) (h1:S'.nx = S.nx) (h2:S'.la = S.la) (h3:S'.lf = upd S.lf n x) (h4:S'.dr = S.dr) (c' j':Nat) (hj:j' < 5):cAt S' c' j' = if c' = n∧j' = 3 then .string x else cAt S c' j':=by
 have:j' = 0∨j' = 1∨j' = 2∨j' = 3∨j' = 4:=by omega
 rcases this with rfl | rfl | rfl | rfl | rfl <;> simp [cAt,h0,h1,h2,h3,h4]
 unfold upd
 split <;> simp_all
theorem cAt_dr (S S':Ve.St) (n:Nat) (x:Bool) (h1:S'.on = S.on) (h2:S'.nx = S.nx) (h3:S'.la = S.la) (h4:S'.lf = S.lf) (h5:S'.dr = upd S.dr n x) (c' j':Nat) (hj:j' < 5):cAt S' c' j' = if c' = n∧j' = 4 then .bool x else cAt S c' j':=by
 have:j' = 0∨j' = 1∨j' = 2∨j' = 3∨j' = 4:=by omega
 rcases this with rfl | rfl | rfl | rfl | rfl <;> simp [cAt,h1,h2,h3,h4,h5]
 unfold upd
 split <;> simp_all
set_option maxHeartbeats 1000000 in
theorem leave_any (n:Nat) (hn:n < 6) (W:World) (H:Hid (Ven w W B X wd h seed S)):Calls Tryz.prog 87 #[.pointer (some ⟨B.V,0,none⟩),.int .i64 n] W fun e w'=>e = .returned (.tuple #[])∧∃ X',Ven w w' B X' wd h seed (Ve.leave S n)∧VStep W w' B X X':=by
 have c:W.cell? ⟨B.V,2,none⟩ = some (.pointer (some ⟨B.q,0,none⟩)):=H.out.at 2
 have HC:=hide (clear_any n W H.out.it)
 go_enter Tryz.func87,Tryz.ntmps87
 go_wp2_with fail
 refine HC.out.mono ?_
 rintro e w2 ⟨rfl,V',hi,hq⟩
 obtain ⟨h1,h2⟩:=H.out.take hi hq
 have H1:=hide h1;have H2:=hide h2
 clear hi hq h1 h2 HC
 have c4:=H1.out.conn hn (j:=4) (by decide)
 have f4:=H1.out.free (4 + n * 5 + 4)
 simp only [cAt] at c4
 simp only []
 go_wp2
 go_end0
 obtain ⟨h3,h4⟩:=H1.out.set (S':=Ve.leave S n) hn (j:=4) (by decide) (.bool true) (fun c' j' _ hj'=>cAt_dr { S with Q:=Ik.clearL S.Q n } (Ve.leave S n) n true rfl rfl rfl rfl rfl c' j' hj') rfl rfl rfl ⟨rfl,rfl,rfl,rfl,rfl,rfl,rfl,rfl⟩
 exact ⟨rfl,_,h3,H2.out.trans h4⟩
theorem refusal_any (c id:Int) (n:Nat) (hn:n≤12) (W:World) (hs:Hid (Sent W ad)):Calls Tryz.prog 85 #[.int .i64 c,.int .i64 id,errV ad n] W fun e w'=>e = .returned (repV (Ve.refu c id n))∧Below W.heap.size W w':=by
 go_enter Tryz.func85,Tryz.ntmps85
 go_wp2_with fail
 have HB0:Hid (Below W.heap.size W (W.alloc (.cells #[.int .i64 0,.string ⟨#[]⟩,.int .i64 0,.int .i64 0,.int .i64 0,.int .i64 0] 50))):=(Below.refl _ _).alloc (Nat.le_refl _) _
 have HN0:=hide (heap_alloc_new W (.cells #[.int .i64 0,.string ⟨#[]⟩,.int .i64 0,.int .i64 0,.int .i64 0,.int .i64 0] 50))
 refine (code_errV n hn ad _ (hs.out.later HB0.out)).mono ?_
 rintro e w2 ⟨rfl,hb2⟩
 have HB2:=hide (HB0.out.trans (hb2.mono HB0.out.size))
 have HN2:=hide (s_row_later hb2 HN0.out)
 clear hb2
 have c0:w2.cell? ⟨W.heap.size,0,none⟩ = some (.int .i64 0):=by rw [cell_of_row _ _ 0 _ _ _ HN2.out];rfl
 have c1:w2.cell? ⟨W.heap.size,1,none⟩ = some (.string ⟨#[]⟩):=by rw [cell_of_row _ _ 1 _ _ _ HN2.out];rfl
 have c2:w2.cell? ⟨W.heap.size,2,none⟩ = some (.int .i64 0):=by rw [cell_of_row _ _ 2 _ _ _ HN2.out];rfl
 have c3:w2.cell? ⟨W.heap.size,3,none⟩ = some (.int .i64 0):=by rw [cell_of_row _ _ 3 _ _ _ HN2.out];rfl
 have c4:w2.cell? ⟨W.heap.size,4,none⟩ = some (.int .i64 0):=by rw [cell_of_row _ _ 4 _ _ _ HN2.out];rfl
 have c5:w2.cell? ⟨W.heap.size,5,none⟩ = some (.int .i64 0):=by rw [cell_of_row _ _ 5 _ _ _ HN2.out];rfl
 have fz:∀ j,w2.frozen? ⟨W.heap.size,j,none⟩ = false:=fun j=>by simp [World.frozen?,HN2.out]
 simp only []
 go_wp2
 have HX:=hide (set6_row HN2.out (.int .i64 c) (.string Ve.kRef) (.int .i64 id) (.int .i64 0) (.int .i64 0) (.int .i64 n))
 have HBX:=hide (below6 HB2.out (Nat.le_refl W.heap.size) (.int .i64 c) (.string Ve.kRef) (.int .i64 id) (.int .i64 0) (.int .i64 0) (.int .i64 n))
 unfold Ve.kRef at HX HBX
 generalize (((((w2.setCell ⟨W.heap.size,0,none⟩ (.int .i64 c)).setCell ⟨W.heap.size,1,none⟩ _).setCell ⟨W.heap.size,2,none⟩ (.int .i64 id)).setCell ⟨W.heap.size,3,none⟩ (.int .i64 0)).setCell ⟨W.heap.size,4,none⟩ (.int .i64 0)).setCell ⟨W.heap.size,5,none⟩ (.int .i64 n) = w3 at *
 have R:∀ j,w3.cell? ⟨W.heap.size,j,none⟩ = _:=fun j=>cell_of_row w3 _ j _ 50 _ HX.out
 refine bodyPost_ret (v:=repV (Ve.refu c id n)) (by simp [results,Tryz.results85,go_sem,R,repV,repA,Ve.refu,Ve.kRef]) rfl ⟨rfl,HBX.out⟩
set_option maxHeartbeats 1000000 in
theorem queue_any (a:Ask) (W:World) (H:Hid (Ven w W B X wd h seed S)) (hs:Hid (Sent w ad)) :
  Calls Tryz.prog 86 #[.pointer (some ⟨B.V,0,none⟩),askV a] W fun e w'=>e = .returned (.string (Ve.putK S a))∧∃ X',Ven w w' B X' wd h seed { S with Q:=Ik.putL S.Q a }∧VStep W w' B X X':=by
 have HP:Hid (∀ W' X',Ven w W' B X' wd h seed S→Calls Tryz.prog 121 #[.pointer (some ⟨B.q,0,none⟩),askV a] W' fun e w'=>e = .returned (errV ad (Ik.putC S.Q a))∧∃ X2,Ven w w' B X2 wd h seed { S with Q:=Ik.putL S.Q a }∧VStep W' w' B X' X2):=fun W' X' H'=>by
  refine (put_any a W' (H'.sent hs.out).ier H'.it).mono ?_
  rintro e w' ⟨rfl,V',h1,h2⟩
  obtain ⟨h3,h4⟩:=H'.take h1 h2
  exact ⟨by rw [i_errC_V],_,h3,h4⟩
 have H0:Hid (Ven w (W.alloc (.cells (askA a) 45)) B X wd h seed S):=H.out.later ((Below.refl _ _).alloc (Nat.le_refl _) _)
 have HS0:Hid (VStep W (W.alloc (.cells (askA a) 45)) B X X):=VStep.of_below ((Below.refl _ _).alloc (Nat.le_refl _) _) B X
 have HK:Hid (Ve.putK S a = if Ik.putC S.Q a = 0 then Ve.kAcc else Ve.kBusy):=rfl
 have c2:W.cell? ⟨B.V,2,none⟩ = some (.pointer (some ⟨B.q,0,none⟩)):=H.out.at 2
 have hlt:=H.out.lt
 generalize Ve.putK S a = pk at *
 generalize Ik.putC S.Q a = pc at *
 generalize Ik.putL S.Q a = pl at *
 unfold askV askA at *
 cases pc with
 | zero =>
  rw [show errV ad 0 = .nilIface from rfl] at HP
  have hpk:pk = Ve.kAcc:=HK.out
  subst hpk
  unfold Ve.kAcc
  go_enter Tryz.func86,Tryz.ntmps86
  go_wp2_with fail
  go_region_with (go_at_call 121;refine (HP.out _ X (H0.out.later drew_below')).mono ?_;rintro e w2 ⟨rfl,X2,h1,h2⟩;have H1:=hide h1;have H2:=hide h2;clear h1 h2)
  all_goals
   go_wp2
   go_ret
   exact ⟨rfl,X2,H1.out,(HS0.out.below drew_below').trans H2.out⟩
 | succ d =>
  rw [show errV ad (d + 1) = .iface 362 (.pointer (some (ad d))) from rfl] at HP
  have hpk:pk = Ve.kBusy:=HK.out
  subst hpk
  unfold Ve.kBusy
  go_enter Tryz.func86,Tryz.ntmps86
  go_wp2_with fail
  go_region_with (go_at_call 121;refine (HP.out _ X (H0.out.later drew_below')).mono ?_;rintro e w2 ⟨rfl,X2,h1,h2⟩;have H1:=hide h1;have H2:=hide h2;clear h1 h2)
  all_goals
   go_wp2
   go_ret
   exact ⟨rfl,X2,H1.out,(HS0.out.below drew_below').trans H2.out⟩
def sesS (S:Ve.St) (n:Nat) (o:Bool) (x l:Int):Ve.St:={ S with on:=upd S.on n o,nx:=upd S.nx n x,la:=upd S.la n l }
theorem Ven.ses (H:Ven w W B X wd h seed S) {n:Nat} (hn:n < 6) (o:Bool) (x l:Int) :
  Ven w (((W.setCell ⟨B.V,4 + n * 5,none⟩ (.bool o)).setCell ⟨B.V,4 + n * 5 + 1,none⟩ (.int .i64 x)).setCell ⟨B.V,4 + n * 5 + 2,none⟩ (.int .i64 l)) B X wd h seed (sesS S n o x l)∧VStep W (((W.setCell ⟨B.V,4 + n * 5,none⟩ (.bool o)).setCell ⟨B.V,4 + n * 5 + 1,none⟩ (.int .i64 x)).setCell ⟨B.V,4 + n * 5 + 2,none⟩ (.int .i64 l)) B X X:=by
 obtain ⟨a1,a2⟩:=H.set (S':={ S with on:=upd S.on n o }) hn (j:=0) (by decide) (.bool o) (fun c' j' _ hj'=>cAt_on S { S with on:=upd S.on n o } n o rfl rfl rfl rfl rfl c' j' hj') rfl rfl rfl ⟨rfl,rfl,rfl,rfl,rfl,rfl,rfl,rfl⟩
 obtain ⟨b1,b2⟩:=a1.set (S':={ S with on:=upd S.on n o,nx:=upd S.nx n x }) hn (j:=1) (by decide) (.int .i64 x) (fun c' j' _ hj'=>cAt_nx { S with on:=upd S.on n o } { S with on:=upd S.on n o,nx:=upd S.nx n x } n x rfl rfl rfl rfl rfl c' j' hj') rfl rfl rfl ⟨rfl,rfl,rfl,rfl,rfl,rfl,rfl,rfl⟩
 obtain ⟨d1,d2⟩:=b1.set (S':=sesS S n o x l) hn (j:=2) (by decide) (.int .i64 l) (fun c' j' _ hj'=>cAt_la { S with on:=upd S.on n o,nx:=upd S.nx n x } (sesS S n o x l) n l rfl rfl rfl rfl rfl c' j' hj') rfl rfl rfl ⟨rfl,rfl,rfl,rfl,rfl,rfl,rfl,rfl⟩
 exact ⟨d1,(a2.trans b2).trans d2⟩
end
section
variable {w W:World} {ad:Nat→Addr} {B:Vb} {X:Vx} {wd h seed:Int} {S:Ve.St}
theorem class_of (R:World→Prop):∃ (X:Type) (val:X→World),(∀ x,R (val x))∧∀ W,R W→∃ x,val x = W :=
 ⟨{ w:World // R w },fun x=>x.1,fun x=>x.2,fun W h=>⟨⟨W,h⟩,rfl⟩⟩
theorem vt_shape (n:Nat) (a:Ask) (hne:a.c≠n) (W:World) (H:Hid (Ven w W B X wd h seed S)) (hs:Hid (Sent w ad)) :
  Calls Tryz.prog 84 #[.pointer (some ⟨B.V,0,none⟩),.int .i64 n,askV a] W fun e w'=>e = .returned (errV ad 3)∧Below W.heap.size W w':=by
 have g:=(H.out.sent hs.out).cell 2 (by decide)
 have g':W.cell? ⟨3,0,none⟩ = some (.iface 362 (.pointer (some (ad 2)))):=g
 have hz:3 < W.heap.size:=World.block_lt_of_cell? W _ g
 have hb:(a.c != (n:Int)) = true:=by simpa using hne
 clear g hne
 unfold askV askA
 go_enter Tryz.func84,Tryz.ntmps84
 go_wp2
 go_ret
 exact ⟨rfl,(Below.refl _ _).alloc (Nat.le_refl _) _⟩
set_option maxHeartbeats 2000000 in
theorem vt_fine (n:Nat) (hn:n < 6) (a:Ask) (hc:a.c = n) (htc:Se.tc (S.on n) (S.nx n) a = 0) (W:World) (H:Hid (Ven w W B X wd h seed S)) (hs:Hid (Sent w ad)) :
  Calls Tryz.prog 84 #[.pointer (some ⟨B.V,0,none⟩),.int .i64 n,askV a] W fun e w'=>e = .returned .nilIface∧Ven w w' B X wd h seed (Ve.taken S n a)∧VStep W w' B X X:=by
 have hb:(a.c != (n:Int)) = false:=by simpa using hc
 have hn6:(n:Int) < 6:=by omega
 have HSS:Hid (Ve.taken S n a = sesS S n (Se.tO (S.on n) (S.nx n) a) (Se.tN (S.on n) (S.nx n) a) (Se.tL (S.on n) (S.nx n) (S.la n) a S.now)):=rfl
 have H1:Hid (Ven w (W.alloc (.cells (askA a) 45)) B X wd h seed S):=H.out.later ((Below.refl _ _).alloc (Nat.le_refl _) _)
 have HB1:Hid (Below W.heap.size W (W.alloc (.cells (askA a) 45))):=(Below.refl _ _).alloc (Nat.le_refl _) _
 have HA:=hide (heap_alloc_new W (.cells (askA a) 45))
 have HT:Hid (∀ W',Below (W.alloc (.cells (askA a) 45)).heap.size (W.alloc (.cells (askA a) 45)) W'→Calls Tryz.prog 120 #[sV (S.on n) (S.nx n) (S.la n),askV a,.int .i64 S.now] W' fun e w'=>e = .returned (.tuple #[sV (Se.tO (S.on n) (S.nx n) a) (Se.tN (S.on n) (S.nx n) a) (Se.tL (S.on n) (S.nx n) (S.la n) a S.now),.nilIface])∧Below W'.heap.size W' w'):=fun W' hb'=>by
  have:=s_take_any (S.on n) (S.nx n) (S.la n) S.now a W' ((H1.out.later hb').sent hs.out).ser
  rw [htc] at this
  exact this
 generalize Ve.taken S n a = TS at *
 generalize Se.tO (S.on n) (S.nx n) a = to at *
 generalize Se.tN (S.on n) (S.nx n) a = tn at *
 generalize Se.tL (S.on n) (S.nx n) (S.la n) a S.now = tl at *
 clear hc htc
 unfold askV askA sV at *
 go_enter Tryz.func84,Tryz.ntmps84
 have a1:∀ q,(W.alloc (.cells #[.int .u8 a.k,.int .i64 a.c,.int .i64 a.sq,.int .i64 a.it,.int .i64 a.sd,.int .i64 a.pr,.int .i64 a.q,.int .i64 a.id] 45)).cell? ⟨W.heap.size,q,none⟩ = (#[.int .u8 a.k,.int .i64 a.c,.int .i64 a.sq,.int .i64 a.it,.int .i64 a.sd,.int .i64 a.pr,.int .i64 a.q,.int .i64 a.id]:Array Value)[q]?:=fun q=>cell_of_row _ _ q _ _ _ HA.out
 go_wp2
 clear a1
 generalize W.alloc (.cells #[.int .u8 a.k,.int .i64 a.c,.int .i64 a.sq,.int .i64 a.it,.int .i64 a.sd,.int .i64 a.pr,.int .i64 a.q,.int .i64 a.id] 45) = W1 at *
 obtain ⟨XT,val,hcl,hmk⟩:=class_of (fun W'=>W'.heap[B.V]? = some (.cells (vRow B seed S) 111 (0,0))∧W'.heap[W.heap.size]? = some (.cells #[.int .u8 a.k,.int .i64 a.c,.int .i64 a.sq,.int .i64 a.it,.int .i64 a.sd,.int .i64 a.pr,.int .i64 a.q,.int .i64 a.id] 45 (0,0)))
 have HMK:Hid (∀ W',Below W1.heap.size W1 W'→∃ x,val x = W'):=fun W' hb=>hmk W' ⟨(H1.out.later hb).blk,s_row_later hb HA.out⟩
 obtain ⟨x0,hx0⟩:=HMK.out W1.drew drew_below'
 have hnx:Nonempty XT:=⟨x0⟩
 have s0:∀ x,(val x).cell? ⟨B.V,4 + n * 5,none⟩ = some (.bool (S.on n)):=fun x=>by rw [cell_of_row _ _ _ _ _ _ (hcl x).1];exact vRow_conn B seed S hn (j:=0) (by decide)
 have s1:∀ x,(val x).cell? ⟨B.V,4 + n * 5 + 1,none⟩ = some (.int .i64 (S.nx n)):=fun x=>by rw [cell_of_row _ _ _ _ _ _ (hcl x).1];exact vRow_conn B seed S hn (j:=1) (by decide)
 have s2:∀ x,(val x).cell? ⟨B.V,4 + n * 5 + 2,none⟩ = some (.int .i64 (S.la n)):=fun x=>by rw [cell_of_row _ _ _ _ _ _ (hcl x).1];exact vRow_conn B seed S hn (j:=2) (by decide)
 have s3:∀ x,(val x).cell? ⟨B.V,34,none⟩ = some (.int .i64 S.now):=fun x=>by rw [cell_of_row _ _ _ _ _ _ (hcl x).1];rfl
 have e0:∀ x,(val x).cell? ⟨W.heap.size,0,none⟩ = some (.int .u8 a.k):=fun x=>by rw [cell_of_row _ _ _ _ _ _ (hcl x).2];rfl
 have e1:∀ x,(val x).cell? ⟨W.heap.size,1,none⟩ = some (.int .i64 a.c):=fun x=>by rw [cell_of_row _ _ _ _ _ _ (hcl x).2];rfl
 have e2:∀ x,(val x).cell? ⟨W.heap.size,2,none⟩ = some (.int .i64 a.sq):=fun x=>by rw [cell_of_row _ _ _ _ _ _ (hcl x).2];rfl
 have e3:∀ x,(val x).cell? ⟨W.heap.size,3,none⟩ = some (.int .i64 a.it):=fun x=>by rw [cell_of_row _ _ _ _ _ _ (hcl x).2];rfl
 have e4:∀ x,(val x).cell? ⟨W.heap.size,4,none⟩ = some (.int .i64 a.sd):=fun x=>by rw [cell_of_row _ _ _ _ _ _ (hcl x).2];rfl
 have e5:∀ x,(val x).cell? ⟨W.heap.size,5,none⟩ = some (.int .i64 a.pr):=fun x=>by rw [cell_of_row _ _ _ _ _ _ (hcl x).2];rfl
 have e6:∀ x,(val x).cell? ⟨W.heap.size,6,none⟩ = some (.int .i64 a.q):=fun x=>by rw [cell_of_row _ _ _ _ _ _ (hcl x).2];rfl
 have e7:∀ x,(val x).cell? ⟨W.heap.size,7,none⟩ = some (.int .i64 a.id):=fun x=>by rw [cell_of_row _ _ _ _ _ _ (hcl x).2];rfl
 obtain ⟨w4,hw4⟩:∃ w4,W1.drew = w4:=⟨_,rfl⟩
 have HBD:Hid (Below W1.heap.size W1 w4):=by rw [← hw4];exact drew_below'
 clear hmk hcl
 refine region_join1 (val:=val) (fun D w6=>w6.heap[D]? = some (.cells #[.bool to,.int .i64 tn,.int .i64 tl] 68 (0,0))∧Below W1.heap.size W1 w6∧W1.heap.size≤D) (.read 0 (.read 1 (.read 2 (.read 3 (.read 4 (.read 5 (.read 6 (.read 7 (.read 8 (.read 9 (.read 10 (.read 11 (.two 12 (.read 13 (.read 14 (.read 15 (.one 16 (.one 17 (.read 18 .done)))))) 16 (.one 12 (.read 13 (.read 14 (.read 15 (.one 17 (.read 18 .done))))))))))))))))))) (by kernel_rfl) (by kernel_rfl) x0 hx0 ?_
 apply Exists.intro
 refine ⟨?_,?_⟩
 case' refine_1 =>
  rw [hx0,hw4]
  iterate 12 (refine walkP_read rfl (fun K hK=>?_);refine ⟨by rfl,?_⟩;unfold isRd;go_simp;refine hK _ ?_;clear hK K)
  refine ⟨?_,?_⟩
  case refine_1 =>
   refine spec_step rfl (fun K hK=>?_)
   refine ⟨by rfl,?_⟩
   unfold upM
   go_simp
   refine (HT.out _ HBD.out).mono ?_
   rintro e wc ⟨rfl,hbc⟩
   have HBc:Hid (Below W1.heap.size W1 wc):=HBD.out.trans (hbc.mono HBD.out.size)
   refine ⟨_,rfl,HMK.out _ HBc.out,hK _ _ ?_⟩
   clear hK K hbc
   iterate 3 (refine walkP_read rfl (fun K hK=>?_);refine ⟨by rfl,?_⟩;unfold isRd;go_simp;refine hK _ ?_;clear hK K)
   refine spec_step rfl (fun K hK=>?_)
   refine ⟨by rfl,?_⟩
   unfold upM
   go_simp
   have HZ:=hide (heap_alloc_new wc (.cells #[.bool false,.int .i64 0,.int .i64 0] 68))
   have HBz:Hid (Below W1.heap.size W1 (wc.alloc (.cells #[.bool false,.int .i64 0,.int .i64 0] 68))):=HBc.out.alloc HBc.out.size _
   have HLz:Hid (W1.heap.size≤wc.heap.size):=HBc.out.size
   refine ⟨HMK.out _ HBz.out,hK _ _ ?_⟩
   clear hK K
   generalize wc.alloc (.cells #[.bool false,.int .i64 0,.int .i64 0] 68) = wz at *
   generalize wc.heap.size = Dz at *
   have c0:wz.cell? ⟨Dz,0,none⟩ = some (.bool false):=by rw [cell_of_row _ _ 0 _ _ _ HZ.out];rfl
   have c1:wz.cell? ⟨Dz,1,none⟩ = some (.int .i64 0):=by rw [cell_of_row _ _ 1 _ _ _ HZ.out];rfl
   have c2:wz.cell? ⟨Dz,2,none⟩ = some (.int .i64 0):=by rw [cell_of_row _ _ 2 _ _ _ HZ.out];rfl
   have f0:wz.frozen? ⟨Dz,0,none⟩ = false:=by simp [World.frozen?,HZ.out]
   have f1:wz.frozen? ⟨Dz,1,none⟩ = false:=by simp [World.frozen?,HZ.out]
   have f2:wz.frozen? ⟨Dz,2,none⟩ = false:=by simp [World.frozen?,HZ.out]
   have HX:=hide (set3_row HZ.out (.bool to) (.int .i64 tn) (.int .i64 tl))
   have HBx:=hide (below3 HBz.out HLz.out (.bool to) (.int .i64 tn) (.int .i64 tl))
   refine spec_step rfl (fun K hK=>?_)
   refine ⟨by rfl,?_⟩
   unfold upM
   go_simp
   refine ⟨HMK.out _ HBx.out,hK _ _ ?_⟩
   clear hK K c0 c1 c2 f0 f1 f2
   generalize ((wz.setCell ⟨Dz,0,none⟩ (.bool to)).setCell ⟨Dz,1,none⟩ (.int .i64 tn)).setCell ⟨Dz,2,none⟩ (.int .i64 tl) = wx at *
   refine walkP_read rfl (fun K hK=>?_);refine ⟨by rfl,?_⟩;unfold isRd;go_simp;refine hK _ ?_;clear hK K
   refine walkP_done ?_
   exact ⟨Dz,rfl,HX.out,HBx.out,HLz.out⟩
  case refine_2 =>
   refine spec_step rfl (fun K hK=>?_)
   refine ⟨by rfl,?_⟩
   unfold upM
   go_simp
   have HZ0:=hide (heap_alloc_new w4 (.cells #[.bool false,.int .i64 0,.int .i64 0] 68))
   have HBy:Hid (Below W1.heap.size W1 (w4.alloc (.cells #[.bool false,.int .i64 0,.int .i64 0] 68))):=HBD.out.alloc HBD.out.size _
   have HLz:Hid (W1.heap.size≤w4.heap.size):=HBD.out.size
   refine ⟨HMK.out _ HBy.out,hK _ _ ?_⟩
   clear hK K
   generalize w4.alloc (.cells #[.bool false,.int .i64 0,.int .i64 0] 68) = wy at *
   generalize w4.heap.size = Dz at *
   refine spec_step rfl (fun K hK=>?_)
   refine ⟨by rfl,?_⟩
   unfold upM
   go_simp
   refine (HT.out _ HBy.out).mono ?_
   rintro e wz ⟨rfl,hbz⟩
   have HZ:=hide (s_row_later hbz HZ0.out)
   have HBz:Hid (Below W1.heap.size W1 wz):=HBy.out.trans (hbz.mono HBy.out.size)
   refine ⟨_,rfl,HMK.out _ HBz.out,hK _ _ ?_⟩
   clear hK K hbz HZ0 HBy
   iterate 3 (refine walkP_read rfl (fun K hK=>?_);refine ⟨by rfl,?_⟩;unfold isRd;go_simp;refine hK _ ?_;clear hK K)
   have c0:wz.cell? ⟨Dz,0,none⟩ = some (.bool false):=by rw [cell_of_row _ _ 0 _ _ _ HZ.out];rfl
   have c1:wz.cell? ⟨Dz,1,none⟩ = some (.int .i64 0):=by rw [cell_of_row _ _ 1 _ _ _ HZ.out];rfl
   have c2:wz.cell? ⟨Dz,2,none⟩ = some (.int .i64 0):=by rw [cell_of_row _ _ 2 _ _ _ HZ.out];rfl
   have f0:wz.frozen? ⟨Dz,0,none⟩ = false:=by simp [World.frozen?,HZ.out]
   have f1:wz.frozen? ⟨Dz,1,none⟩ = false:=by simp [World.frozen?,HZ.out]
   have f2:wz.frozen? ⟨Dz,2,none⟩ = false:=by simp [World.frozen?,HZ.out]
   have HX:=hide (set3_row HZ.out (.bool to) (.int .i64 tn) (.int .i64 tl))
   have HBx:=hide (below3 HBz.out HLz.out (.bool to) (.int .i64 tn) (.int .i64 tl))
   refine spec_step rfl (fun K hK=>?_)
   refine ⟨by rfl,?_⟩
   unfold upM
   go_simp
   refine ⟨HMK.out _ HBx.out,hK _ _ ?_⟩
   clear hK K c0 c1 c2 f0 f1 f2
   generalize ((wz.setCell ⟨Dz,0,none⟩ (.bool to)).setCell ⟨Dz,1,none⟩ (.int .i64 tn)).setCell ⟨Dz,2,none⟩ (.int .i64 tl) = wx at *
   refine walkP_read rfl (fun K hK=>?_);refine ⟨by rfl,?_⟩;unfold isRd;go_simp;refine hK _ ?_;clear hK K
   refine walkP_done ?_
   exact ⟨Dz,rfl,HX.out,HBx.out,HLz.out⟩
 intro D w6 ⟨hrD,hb6,hlD⟩
 clear hx0 hw4 s0 s1 s2 s3 e0 e1 e2 e3 e4 e5 e6 e7 HMK HBD
 clear x0 hnx
 clear val
 clear XT
 have HD:=hide hrD;have HB6:=hide hb6
 have hDV:B.V < D:=Nat.lt_of_lt_of_le H1.out.lt hlD
 have H6:=hide (H1.out.later hb6)
 clear hrD hb6
 have d0:w6.cell? ⟨D,0,none⟩ = some (.bool to):=by rw [cell_of_row _ _ 0 _ _ _ HD.out];rfl
 have d1:w6.cell? ⟨D,1,none⟩ = some (.int .i64 tn):=by rw [cell_of_row _ _ 1 _ _ _ HD.out];rfl
 have d2:w6.cell? ⟨D,2,none⟩ = some (.int .i64 tl):=by rw [cell_of_row _ _ 2 _ _ _ HD.out];rfl
 have c0:w6.cell? ⟨B.V,4 + n * 5,none⟩ = some (.bool (S.on n)):=H6.out.conn hn (j:=0) (by decide)
 have c1:w6.cell? ⟨B.V,4 + n * 5 + 1,none⟩ = some (.int .i64 (S.nx n)):=H6.out.conn hn (j:=1) (by decide)
 have c2:w6.cell? ⟨B.V,4 + n * 5 + 2,none⟩ = some (.int .i64 (S.la n)):=H6.out.conn hn (j:=2) (by decide)
 have f0:=H6.out.free (4 + n * 5)
 have f1:=H6.out.free (4 + n * 5 + 1)
 have f2:=H6.out.free (4 + n * 5 + 2)
 go_wp2
 go_region
 go_wp2
 go_ret
 obtain ⟨h7,h8⟩:=H6.out.ses hn to tn tl
 exact ⟨rfl,by rw [HSS.out];exact h7.later drew_below',(VStep.of_below (HB1.out.trans (HB6.out.mono HB1.out.size)) B X).trans (h8.below drew_below')⟩
set_option maxHeartbeats 2000000 in
theorem vt_bad (n:Nat) (hn:n < 6) (a:Ask) (hc:a.c = n) (d:Nat) (htc:Se.tc (S.on n) (S.nx n) a = d + 1) (W:World) (H:Hid (Ven w W B X wd h seed S)) (hs:Hid (Sent w ad)) :
  Calls Tryz.prog 84 #[.pointer (some ⟨B.V,0,none⟩),.int .i64 n,askV a] W fun e w'=>e = .returned (.iface 362 (.pointer (some (ad d))))∧Below W.heap.size W w':=by
 have hb:(a.c != (n:Int)) = false:=by simpa using hc
 have hn6:(n:Int) < 6:=by omega
 have H1:Hid (Ven w (W.alloc (.cells (askA a) 45)) B X wd h seed S):=H.out.later ((Below.refl _ _).alloc (Nat.le_refl _) _)
 have HB1:Hid (Below W.heap.size W (W.alloc (.cells (askA a) 45))):=(Below.refl _ _).alloc (Nat.le_refl _) _
 have HA:=hide (heap_alloc_new W (.cells (askA a) 45))
 have HT:Hid (∀ W',Below (W.alloc (.cells (askA a) 45)).heap.size (W.alloc (.cells (askA a) 45)) W'→Calls Tryz.prog 120 #[sV (S.on n) (S.nx n) (S.la n),askV a,.int .i64 S.now] W' fun e w'=>e = .returned (.tuple #[sV (Se.tO (S.on n) (S.nx n) a) (Se.tN (S.on n) (S.nx n) a) (Se.tL (S.on n) (S.nx n) (S.la n) a S.now),.iface 362 (.pointer (some (ad d)))])∧Below W'.heap.size W' w'):=fun W' hb'=>by
  have:=s_take_any (S.on n) (S.nx n) (S.la n) S.now a W' ((H1.out.later hb').sent hs.out).ser
  rw [htc] at this
  exact this
 generalize Se.tO (S.on n) (S.nx n) a = to at *
 generalize Se.tN (S.on n) (S.nx n) a = tn at *
 generalize Se.tL (S.on n) (S.nx n) (S.la n) a S.now = tl at *
 clear hc htc
 unfold askV askA sV at *
 go_enter Tryz.func84,Tryz.ntmps84
 have a1:∀ q,(W.alloc (.cells #[.int .u8 a.k,.int .i64 a.c,.int .i64 a.sq,.int .i64 a.it,.int .i64 a.sd,.int .i64 a.pr,.int .i64 a.q,.int .i64 a.id] 45)).cell? ⟨W.heap.size,q,none⟩ = (#[.int .u8 a.k,.int .i64 a.c,.int .i64 a.sq,.int .i64 a.it,.int .i64 a.sd,.int .i64 a.pr,.int .i64 a.q,.int .i64 a.id]:Array Value)[q]?:=fun q=>cell_of_row _ _ q _ _ _ HA.out
 go_wp2
 clear a1
 generalize W.alloc (.cells #[.int .u8 a.k,.int .i64 a.c,.int .i64 a.sq,.int .i64 a.it,.int .i64 a.sd,.int .i64 a.pr,.int .i64 a.q,.int .i64 a.id] 45) = W1 at *
 obtain ⟨XT,val,hcl,hmk⟩:=class_of (fun W'=>W'.heap[B.V]? = some (.cells (vRow B seed S) 111 (0,0))∧W'.heap[W.heap.size]? = some (.cells #[.int .u8 a.k,.int .i64 a.c,.int .i64 a.sq,.int .i64 a.it,.int .i64 a.sd,.int .i64 a.pr,.int .i64 a.q,.int .i64 a.id] 45 (0,0)))
 have HMK:Hid (∀ W',Below W1.heap.size W1 W'→∃ x,val x = W'):=fun W' hb=>hmk W' ⟨(H1.out.later hb).blk,s_row_later hb HA.out⟩
 obtain ⟨x0,hx0⟩:=HMK.out W1.drew drew_below'
 have hnx:Nonempty XT:=⟨x0⟩
 have s0:∀ x,(val x).cell? ⟨B.V,4 + n * 5,none⟩ = some (.bool (S.on n)):=fun x=>by rw [cell_of_row _ _ _ _ _ _ (hcl x).1];exact vRow_conn B seed S hn (j:=0) (by decide)
 have s1:∀ x,(val x).cell? ⟨B.V,4 + n * 5 + 1,none⟩ = some (.int .i64 (S.nx n)):=fun x=>by rw [cell_of_row _ _ _ _ _ _ (hcl x).1];exact vRow_conn B seed S hn (j:=1) (by decide)
 have s2:∀ x,(val x).cell? ⟨B.V,4 + n * 5 + 2,none⟩ = some (.int .i64 (S.la n)):=fun x=>by rw [cell_of_row _ _ _ _ _ _ (hcl x).1];exact vRow_conn B seed S hn (j:=2) (by decide)
 have s3:∀ x,(val x).cell? ⟨B.V,34,none⟩ = some (.int .i64 S.now):=fun x=>by rw [cell_of_row _ _ _ _ _ _ (hcl x).1];rfl
 have e0:∀ x,(val x).cell? ⟨W.heap.size,0,none⟩ = some (.int .u8 a.k):=fun x=>by rw [cell_of_row _ _ _ _ _ _ (hcl x).2];rfl
 have e1:∀ x,(val x).cell? ⟨W.heap.size,1,none⟩ = some (.int .i64 a.c):=fun x=>by rw [cell_of_row _ _ _ _ _ _ (hcl x).2];rfl
 have e2:∀ x,(val x).cell? ⟨W.heap.size,2,none⟩ = some (.int .i64 a.sq):=fun x=>by rw [cell_of_row _ _ _ _ _ _ (hcl x).2];rfl
 have e3:∀ x,(val x).cell? ⟨W.heap.size,3,none⟩ = some (.int .i64 a.it):=fun x=>by rw [cell_of_row _ _ _ _ _ _ (hcl x).2];rfl
 have e4:∀ x,(val x).cell? ⟨W.heap.size,4,none⟩ = some (.int .i64 a.sd):=fun x=>by rw [cell_of_row _ _ _ _ _ _ (hcl x).2];rfl
 have e5:∀ x,(val x).cell? ⟨W.heap.size,5,none⟩ = some (.int .i64 a.pr):=fun x=>by rw [cell_of_row _ _ _ _ _ _ (hcl x).2];rfl
 have e6:∀ x,(val x).cell? ⟨W.heap.size,6,none⟩ = some (.int .i64 a.q):=fun x=>by rw [cell_of_row _ _ _ _ _ _ (hcl x).2];rfl
 have e7:∀ x,(val x).cell? ⟨W.heap.size,7,none⟩ = some (.int .i64 a.id):=fun x=>by rw [cell_of_row _ _ _ _ _ _ (hcl x).2];rfl
 obtain ⟨w4,hw4⟩:∃ w4,W1.drew = w4:=⟨_,rfl⟩
 have HBD:Hid (Below W1.heap.size W1 w4):=by rw [← hw4];exact drew_below'
 clear hmk hcl
 refine region_join1 (val:=val) (fun D w6=>w6.heap[D]? = some (.cells #[.bool to,.int .i64 tn,.int .i64 tl] 68 (0,0))∧Below W1.heap.size W1 w6∧W1.heap.size≤D) (.read 0 (.read 1 (.read 2 (.read 3 (.read 4 (.read 5 (.read 6 (.read 7 (.read 8 (.read 9 (.read 10 (.read 11 (.two 12 (.read 13 (.read 14 (.read 15 (.one 16 (.one 17 (.read 18 .done)))))) 16 (.one 12 (.read 13 (.read 14 (.read 15 (.one 17 (.read 18 .done))))))))))))))))))) (by kernel_rfl) (by kernel_rfl) x0 hx0 ?_
 apply Exists.intro
 refine ⟨?_,?_⟩
 case' refine_1 =>
  rw [hx0,hw4]
  iterate 12 (refine walkP_read rfl (fun K hK=>?_);refine ⟨by rfl,?_⟩;unfold isRd;go_simp;refine hK _ ?_;clear hK K)
  refine ⟨?_,?_⟩
  case refine_1 =>
   refine spec_step rfl (fun K hK=>?_)
   refine ⟨by rfl,?_⟩
   unfold upM
   go_simp
   refine (HT.out _ HBD.out).mono ?_
   rintro e wc ⟨rfl,hbc⟩
   have HBc:Hid (Below W1.heap.size W1 wc):=HBD.out.trans (hbc.mono HBD.out.size)
   refine ⟨_,rfl,HMK.out _ HBc.out,hK _ _ ?_⟩
   clear hK K hbc
   iterate 3 (refine walkP_read rfl (fun K hK=>?_);refine ⟨by rfl,?_⟩;unfold isRd;go_simp;refine hK _ ?_;clear hK K)
   refine spec_step rfl (fun K hK=>?_)
   refine ⟨by rfl,?_⟩
   unfold upM
   go_simp
   have HZ:=hide (heap_alloc_new wc (.cells #[.bool false,.int .i64 0,.int .i64 0] 68))
   have HBz:Hid (Below W1.heap.size W1 (wc.alloc (.cells #[.bool false,.int .i64 0,.int .i64 0] 68))):=HBc.out.alloc HBc.out.size _
   have HLz:Hid (W1.heap.size≤wc.heap.size):=HBc.out.size
   refine ⟨HMK.out _ HBz.out,hK _ _ ?_⟩
   clear hK K
   generalize wc.alloc (.cells #[.bool false,.int .i64 0,.int .i64 0] 68) = wz at *
   generalize wc.heap.size = Dz at *
   have c0:wz.cell? ⟨Dz,0,none⟩ = some (.bool false):=by rw [cell_of_row _ _ 0 _ _ _ HZ.out];rfl
   have c1:wz.cell? ⟨Dz,1,none⟩ = some (.int .i64 0):=by rw [cell_of_row _ _ 1 _ _ _ HZ.out];rfl
   have c2:wz.cell? ⟨Dz,2,none⟩ = some (.int .i64 0):=by rw [cell_of_row _ _ 2 _ _ _ HZ.out];rfl
   have f0:wz.frozen? ⟨Dz,0,none⟩ = false:=by simp [World.frozen?,HZ.out]
   have f1:wz.frozen? ⟨Dz,1,none⟩ = false:=by simp [World.frozen?,HZ.out]
   have f2:wz.frozen? ⟨Dz,2,none⟩ = false:=by simp [World.frozen?,HZ.out]
   have HX:=hide (set3_row HZ.out (.bool to) (.int .i64 tn) (.int .i64 tl))
   have HBx:=hide (below3 HBz.out HLz.out (.bool to) (.int .i64 tn) (.int .i64 tl))
   refine spec_step rfl (fun K hK=>?_)
   refine ⟨by rfl,?_⟩
   unfold upM
   go_simp
   refine ⟨HMK.out _ HBx.out,hK _ _ ?_⟩
   clear hK K c0 c1 c2 f0 f1 f2
   generalize ((wz.setCell ⟨Dz,0,none⟩ (.bool to)).setCell ⟨Dz,1,none⟩ (.int .i64 tn)).setCell ⟨Dz,2,none⟩ (.int .i64 tl) = wx at *
   refine walkP_read rfl (fun K hK=>?_);refine ⟨by rfl,?_⟩;unfold isRd;go_simp;refine hK _ ?_;clear hK K
   refine walkP_done ?_
   exact ⟨Dz,rfl,HX.out,HBx.out,HLz.out⟩
  case refine_2 =>
   refine spec_step rfl (fun K hK=>?_)
   refine ⟨by rfl,?_⟩
   unfold upM
   go_simp
   have HZ0:=hide (heap_alloc_new w4 (.cells #[.bool false,.int .i64 0,.int .i64 0] 68))
   have HBy:Hid (Below W1.heap.size W1 (w4.alloc (.cells #[.bool false,.int .i64 0,.int .i64 0] 68))):=HBD.out.alloc HBD.out.size _
   have HLz:Hid (W1.heap.size≤w4.heap.size):=HBD.out.size
   refine ⟨HMK.out _ HBy.out,hK _ _ ?_⟩
   clear hK K
   generalize w4.alloc (.cells #[.bool false,.int .i64 0,.int .i64 0] 68) = wy at *
   generalize w4.heap.size = Dz at *
   refine spec_step rfl (fun K hK=>?_)
   refine ⟨by rfl,?_⟩
   unfold upM
   go_simp
   refine (HT.out _ HBy.out).mono ?_
   rintro e wz ⟨rfl,hbz⟩
   have HZ:=hide (s_row_later hbz HZ0.out)
   have HBz:Hid (Below W1.heap.size W1 wz):=HBy.out.trans (hbz.mono HBy.out.size)
   refine ⟨_,rfl,HMK.out _ HBz.out,hK _ _ ?_⟩
   clear hK K hbz HZ0 HBy
   iterate 3 (refine walkP_read rfl (fun K hK=>?_);refine ⟨by rfl,?_⟩;unfold isRd;go_simp;refine hK _ ?_;clear hK K)
   have c0:wz.cell? ⟨Dz,0,none⟩ = some (.bool false):=by rw [cell_of_row _ _ 0 _ _ _ HZ.out];rfl
   have c1:wz.cell? ⟨Dz,1,none⟩ = some (.int .i64 0):=by rw [cell_of_row _ _ 1 _ _ _ HZ.out];rfl
   have c2:wz.cell? ⟨Dz,2,none⟩ = some (.int .i64 0):=by rw [cell_of_row _ _ 2 _ _ _ HZ.out];rfl
   have f0:wz.frozen? ⟨Dz,0,none⟩ = false:=by simp [World.frozen?,HZ.out]
   have f1:wz.frozen? ⟨Dz,1,none⟩ = false:=by simp [World.frozen?,HZ.out]
   have f2:wz.frozen? ⟨Dz,2,none⟩ = false:=by simp [World.frozen?,HZ.out]
   have HX:=hide (set3_row HZ.out (.bool to) (.int .i64 tn) (.int .i64 tl))
   have HBx:=hide (below3 HBz.out HLz.out (.bool to) (.int .i64 tn) (.int .i64 tl))
   refine spec_step rfl (fun K hK=>?_)
   refine ⟨by rfl,?_⟩
   unfold upM
   go_simp
   refine ⟨HMK.out _ HBx.out,hK _ _ ?_⟩
   clear hK K c0 c1 c2 f0 f1 f2
   generalize ((wz.setCell ⟨Dz,0,none⟩ (.bool to)).setCell ⟨Dz,1,none⟩ (.int .i64 tn)).setCell ⟨Dz,2,none⟩ (.int .i64 tl) = wx at *
   refine walkP_read rfl (fun K hK=>?_);refine ⟨by rfl,?_⟩;unfold isRd;go_simp;refine hK _ ?_;clear hK K
   refine walkP_done ?_
   exact ⟨Dz,rfl,HX.out,HBx.out,HLz.out⟩
 intro D w6 ⟨hrD,hb6,hlD⟩
 clear hx0 hw4 s0 s1 s2 s3 e0 e1 e2 e3 e4 e5 e6 e7 HMK HBD
 clear x0 hnx
 clear val
 clear XT
 have HB6:=hide hb6
 clear hrD hb6 hlD
 go_wp2
 go_ret
 exact ⟨rfl,HB1.out.trans (HB6.out.mono HB1.out.size)⟩
theorem vtake_any (n:Nat) (hn:n < 6) (a:Ask) (W:World) (H:Ven w W B X wd h seed S) (hs:Sent w ad) :
  Calls Tryz.prog 84 #[.pointer (some ⟨B.V,0,none⟩),.int .i64 n,askV a] W fun e w'=>e = .returned (errV ad (Ve.takeC S n a))∧Ven w w' B X wd h seed (Ve.takeS S n a)∧VStep W w' B X X:=by
 by_cases hc:a.c = n
 ·have e1:Ve.takeC S n a = Se.tc (S.on n) (S.nx n) a:=by unfold Ve.takeC;rw [if_pos hc]
  cases htc:Se.tc (S.on n) (S.nx n) a with
  | zero =>
   rw [htc] at e1
   have e2:Ve.takeS S n a = Ve.taken S n a:=by unfold Ve.takeS;rw [if_pos e1]
   rw [e1,e2]
   exact vt_fine n hn a hc htc W H hs
  | succ d =>
   rw [htc] at e1
   have e2:Ve.takeS S n a = S:=by unfold Ve.takeS;rw [if_neg (by omega)]
   rw [e1,e2]
   refine (vt_bad n hn a hc d htc W H hs).mono ?_
   rintro e w' ⟨rfl,hb⟩
   exact ⟨rfl,H.later hb,VStep.of_below hb B X⟩
 ·have e1:Ve.takeC S n a = 3:=by unfold Ve.takeC;rw [if_neg hc]
  have e2:Ve.takeS S n a = S:=by unfold Ve.takeS;rw [if_neg (by omega)]
  rw [e1,e2]
  refine (vt_shape n a hc W H hs).mono ?_
  rintro e w' ⟨rfl,hb⟩
  exact ⟨rfl,H.later hb,VStep.of_below hb B X⟩
end
def gotV (a:Ask) (cd:Nat):Value:=.agg #[.int .u8 a.k,.int .i64 a.c,.int .i64 a.sq,.int .i64 a.it,.int .i64 a.sd,.int .i64 a.pr,.int .i64 a.q,.int .i64 a.id,.int .i64 cd]
def gotA (a:Ask) (cd:Nat):Array Value:=#[.int .u8 a.k,.int .i64 a.c,.int .i64 a.sq,.int .i64 a.it,.int .i64 a.sd,.int .i64 a.pr,.int .i64 a.q,.int .i64 a.id,.int .i64 cd]
def repZ:Array Value:=#[.int .i64 0,.string ⟨#[]⟩,.int .i64 0,.int .i64 0,.int .i64 0,.int .i64 0]
section
variable {w W W':World} {ad:Nat→Addr} {B:Vb} {X X':Vx} {wd h seed:Int} {S:Ve.St}
theorem VStep.other {k n:Nat} {o:Obj} (hs:VStep W W' B X X') (ho:∀ j,vown B X j→j < n) (hk:n≤k) (hb:W.heap[k]? = some o):W'.heap[k]? = some o:=by
 rw [hs.turned.block k (lt_of_block hb) (fun e=>by have:=ho k e;omega)];exact hb
theorem Ven.beside {q:Nat} {cur:Array Value} {e:TypeId} {fz:Nat × Nat} (H:Ven w W B X wd h seed S) (hk:W.heap[q]? = some (.cells cur e fz)) (he:e≠111∧e≠131∧e≠134∧e≠139∧e≠137∧e≠174∧e≠45∧e≠142∧e≠5) (he2:e≠128) (hlo:w.heap.size≤q) (hs:Save W W' q):Ven w W' B X wd h seed S :=
 H.aside (T:=fun k=>k = q) ⟨hs.os,hs.tape,hs.output,hs.size,fun k hk hn=>hs.block k hk hn⟩ (Ne.symm (blkT hk H.fl.blk he2)) (fun k hv e=>vown_type H hk he (by rw [← e];exact hv)) (fun k e=>by rw [e];exact hlo)
theorem VStep.beside {W1 W2:World} {q:Nat} (hs:VStep W W1 B X X') (h:Save W1 W2 q) (hq:W.heap.size≤q):VStep W W2 B X X' :=
 ⟨hs.turned.trans (S1:=fun k=>k = q) ⟨h.os,h.tape,h.output,h.size,fun k hk hn=>h.block k hk hn⟩ (fun k e=>.inr (by rw [e];exact hq)),hs.new⟩
def HearAns (w W W':World) (e:Ending) (B:Vb) (X:Vx) (wd h seed:Int) (R:List Ve.Rep) (S':Ve.St):Prop :=
 ∃ r b,e = .returned (.tuple #[repV r,.bool b])∧R = (if b = true then [r] else [])∧∃ X',Ven w W' B X' wd h seed S'∧VStep W W' B X X'
set_option maxHeartbeats 1000000 in
theorem hear_code (n:Nat) (a:Ask) (cd:Nat) (hcd:cd≠0) (W:World) (H:Hid (Ven w W B X wd h seed S)) :
  Calls Tryz.prog 52 #[.pointer (some ⟨B.V,0,none⟩),.int .i64 n,gotV a cd] W fun e w'=>HearAns w W w' e B X wd h seed [Ve.refu n 0 cd] S:=by
 have hc:((cd:Int) != 0) = true:=by simpa using hcd
 have HB:Hid (Below W.heap.size W ((W.alloc (.cells (gotA a cd) 116)).alloc (.cells #[.int .i64 n,.string Ve.kRef,.int .i64 0,.int .i64 0,.int .i64 0,.int .i64 cd] 50))):=((Below.refl _ _).alloc (Nat.le_refl _) _).alloc (by simp) _
 unfold gotV
 unfold gotA Ve.kRef at HB
 go_enter Tryz.func52,Tryz.ntmps52
 go_wp2
 refine bodyPost_ret (v:=.tuple #[repV (Ve.refu n 0 cd),.bool true]) (by simp [results,Tryz.results52,go_sem,repV,repA,Ve.refu,Ve.kRef]) rfl ⟨_,_,rfl,rfl,X,H.out.later HB.out,VStep.of_below HB.out B X⟩
set_option maxHeartbeats 2000000 in
theorem hear_bad (n:Nat) (hn:n < 6) (a:Ask) (d:Nat) (hd:Ve.takeC S n a = d + 1) (hd12:d + 1≤12) (W:World) (H:Hid (Ven w W B X wd h seed S)) (hs:Hid (Sent w ad)) :
  Calls Tryz.prog 52 #[.pointer (some ⟨B.V,0,none⟩),.int .i64 n,gotV a 0] W fun e w'=>HearAns w W w' e B X wd h seed [Ve.refu n a.id (d + 1)] S:=by
 have HB3:Hid (Below W.heap.size W (((W.alloc (.cells (gotA a 0) 116)).alloc (.cells repZ 50)).alloc (.cells (askA a) 45))):=(((Below.refl _ _).alloc (Nat.le_refl _) _).alloc (by simp) _).alloc (by simp;omega) _
 have HR3:Hid ((((W.alloc (.cells (gotA a 0) 116)).alloc (.cells repZ 50)).alloc (.cells (askA a) 45)).heap[W.heap.size + 1]? = some (.cells repZ 50 (0,0))):=by
  have h:=heap_alloc_new (W.alloc (.cells (gotA a 0) 116)) (.cells repZ 50)
  rw [show (W.alloc (.cells (gotA a 0) 116)).heap.size = W.heap.size + 1 by simp] at h
  exact (Below.heap_alloc _ _ _ (by simp)).trans h
 have HA3:Hid ((((W.alloc (.cells (gotA a 0) 116)).alloc (.cells repZ 50)).alloc (.cells (askA a) 45)).heap[W.heap.size + 2]? = some (.cells (askA a) 45 (0,0))):=by
  have h:=heap_alloc_new ((W.alloc (.cells (gotA a 0) 116)).alloc (.cells repZ 50)) (.cells (askA a) 45)
  rw [show ((W.alloc (.cells (gotA a 0) 116)).alloc (.cells repZ 50)).heap.size = W.heap.size + 2 by simp] at h
  exact h
 have HT:=hide (vtake_any n hn a _ (H.out.later HB3.out) hs.out)
 rw [hd,show errV ad (d + 1) = .iface 362 (.pointer (some (ad d))) from rfl,show Ve.takeS S n a = S by unfold Ve.takeS;rw [if_neg (by omega)]] at HT
 have HF:=hide (fun W' (H':Ven w W' B X wd h seed S)=>refusal_any n a.id (d + 1) hd12 W' (H'.sent hs.out))
 rw [show errV ad (d + 1) = .iface 362 (.pointer (some (ad d))) from rfl] at HF
 clear hd
 unfold gotV
 unfold gotA repZ askV askA at *
 go_enter Tryz.func52,Tryz.ntmps52
 go_wp2_with fail
 refine HT.out.mono ?_
 rintro e w4 ⟨rfl,h4,hs4⟩
 have H4:=hide h4;have HS4:=hide (VStep.trans (VStep.of_below HB3.out B X) hs4)
 have ho:∀ j,vown B X j→j < W.heap.size:=fun j hj=>(H.out.own_lt hj).2
 have HR4:=hide (hs4.other ho (by omega) HR3.out)
 have HA4:=hide (hs4.other ho (by omega) HA3.out)
 clear h4 hs4 HT HB3 HR3 HA3
 have a7:w4.cell? ⟨W.heap.size + 2,7,none⟩ = some (.int .i64 a.id):=by rw [cell_of_row _ _ 7 _ _ _ HA4.out];rfl
 simp only []
 go_wp2_with fail
 refine (HF.out w4 H4.out).mono ?_
 rintro e w5 ⟨rfl,hb5⟩
 have H5:=hide (H4.out.later hb5);have HS5:=hide (HS4.out.below hb5)
 have HR5:=hide (s_row_later hb5 HR4.out)
 clear hb5 H4 HS4 HR4 HA4 a7 HF
 have c0:w5.cell? ⟨W.heap.size + 1,0,none⟩ = some (.int .i64 0):=by rw [cell_of_row _ _ 0 _ _ _ HR5.out];rfl
 have c1:w5.cell? ⟨W.heap.size + 1,1,none⟩ = some (.string ⟨#[]⟩):=by rw [cell_of_row _ _ 1 _ _ _ HR5.out];rfl
 have c2:w5.cell? ⟨W.heap.size + 1,2,none⟩ = some (.int .i64 0):=by rw [cell_of_row _ _ 2 _ _ _ HR5.out];rfl
 have c3:w5.cell? ⟨W.heap.size + 1,3,none⟩ = some (.int .i64 0):=by rw [cell_of_row _ _ 3 _ _ _ HR5.out];rfl
 have c4:w5.cell? ⟨W.heap.size + 1,4,none⟩ = some (.int .i64 0):=by rw [cell_of_row _ _ 4 _ _ _ HR5.out];rfl
 have c5:w5.cell? ⟨W.heap.size + 1,5,none⟩ = some (.int .i64 0):=by rw [cell_of_row _ _ 5 _ _ _ HR5.out];rfl
 have fz:∀ j,w5.frozen? ⟨W.heap.size + 1,j,none⟩ = false:=fun j=>by simp [World.frozen?,HR5.out]
 have HX:=hide (set6_row HR5.out (.int .i64 n) (.string Ve.kRef) (.int .i64 a.id) (.int .i64 0) (.int .i64 0) (.int .i64 ((d:Int) + 1)))
 have HSV:=hide (turned6 w5 (W.heap.size + 1) (.int .i64 n) (.string Ve.kRef) (.int .i64 a.id) (.int .i64 0) (.int .i64 0) (.int .i64 ((d:Int) + 1)))
 unfold repV repA Ve.refu Ve.kRef
 unfold Ve.kRef at HX HSV
 simp only []
 go_wp2
 generalize (((((w5.setCell ⟨W.heap.size + 1,0,none⟩ (.int .i64 n)).setCell ⟨W.heap.size + 1,1,none⟩ (.string ⟨#[114,101,102,117,115,101,100]⟩)).setCell ⟨W.heap.size + 1,2,none⟩ (.int .i64 a.id)).setCell ⟨W.heap.size + 1,3,none⟩ (.int .i64 0)).setCell ⟨W.heap.size + 1,4,none⟩ (.int .i64 0)).setCell ⟨W.heap.size + 1,5,none⟩ (.int .i64 ((d:Int) + 1)) = w6 at *
 have R:∀ j,w6.cell? ⟨W.heap.size + 1,j,none⟩ = _:=fun j=>cell_of_row w6 _ j _ 50 _ HX.out
 have HV6:=hide (H5.out.beside HR5.out (by decide) (by decide) (by have:=H.out.bl.size;omega) HSV.out)
 have HS6:=hide (HS5.out.beside HSV.out (by omega))
 refine bodyPost_ret (v:=.tuple #[repV (Ve.refu n a.id (d + 1)),.bool true]) (by simp [results,Tryz.results52,go_sem,R,repV,repA,Ve.refu,Ve.kRef]) rfl ⟨_,_,rfl,rfl,X,HV6.out,HS6.out⟩
set_option maxHeartbeats 2000000 in
theorem hear_none (n:Nat) (hn:n < 6) (a:Ask) (hd:Ve.takeC S n a = 0) (hk:Ve.isO a = false) (hq:a.k≠113) (W:World) (H:Hid (Ven w W B X wd h seed S)) (hs:Hid (Sent w ad)) :
  Calls Tryz.prog 52 #[.pointer (some ⟨B.V,0,none⟩),.int .i64 n,gotV a 0] W fun e w'=>HearAns w W w' e B X wd h seed [] (Ve.taken S n a):=by
 have hk1:(a.k == 111) = false:=by unfold Ve.isO at hk;simp only [Bool.or_eq_false_iff] at hk;exact hk.1
 have hk2:(a.k == 99) = false:=by unfold Ve.isO at hk;simp only [Bool.or_eq_false_iff] at hk;exact hk.2
 have hk3:(a.k == 113) = false:=by simpa using hq
 have HB3:Hid (Below W.heap.size W (((W.alloc (.cells (gotA a 0) 116)).alloc (.cells repZ 50)).alloc (.cells (askA a) 45))):=(((Below.refl _ _).alloc (Nat.le_refl _) _).alloc (by simp) _).alloc (by simp;omega) _
 have HR3:Hid ((((W.alloc (.cells (gotA a 0) 116)).alloc (.cells repZ 50)).alloc (.cells (askA a) 45)).heap[W.heap.size + 1]? = some (.cells repZ 50 (0,0))):=by
  have h:=heap_alloc_new (W.alloc (.cells (gotA a 0) 116)) (.cells repZ 50)
  rw [show (W.alloc (.cells (gotA a 0) 116)).heap.size = W.heap.size + 1 by simp] at h
  exact (Below.heap_alloc _ _ _ (by simp)).trans h
 have HA3:Hid ((((W.alloc (.cells (gotA a 0) 116)).alloc (.cells repZ 50)).alloc (.cells (askA a) 45)).heap[W.heap.size + 2]? = some (.cells (askA a) 45 (0,0))):=by
  have h:=heap_alloc_new ((W.alloc (.cells (gotA a 0) 116)).alloc (.cells repZ 50)) (.cells (askA a) 45)
  rw [show ((W.alloc (.cells (gotA a 0) 116)).alloc (.cells repZ 50)).heap.size = W.heap.size + 2 by simp] at h
  exact h
 have HT:=hide (vtake_any n hn a _ (H.out.later HB3.out) hs.out)
 rw [hd,show errV ad 0 = .nilIface from rfl,show Ve.takeS S n a = Ve.taken S n a by unfold Ve.takeS;rw [if_pos hd]] at HT
 clear hd hk hq
 unfold gotV
 unfold gotA repZ askV askA at *
 go_enter Tryz.func52,Tryz.ntmps52
 go_wp2_with fail
 refine HT.out.mono ?_
 rintro e w5 ⟨rfl,h5,hs5⟩
 have H5:=hide h5;have HS5:=hide (VStep.trans (VStep.of_below HB3.out B X) hs5)
 have ho:∀ j,vown B X j→j < W.heap.size:=fun j hj=>(H.out.own_lt hj).2
 have HR5:=hide (hs5.other ho (by omega) HR3.out)
 have HA5:=hide (hs5.other ho (by omega) HA3.out)
 clear h5 hs5 HT HB3 HR3 HA3
 have a0:w5.cell? ⟨W.heap.size + 2,0,none⟩ = some (.int .u8 a.k):=by rw [cell_of_row _ _ 0 _ _ _ HA5.out];rfl
 have c0:w5.cell? ⟨W.heap.size + 1,0,none⟩ = some (.int .i64 0):=by rw [cell_of_row _ _ 0 _ _ _ HR5.out];rfl
 have c1:w5.cell? ⟨W.heap.size + 1,1,none⟩ = some (.string ⟨#[]⟩):=by rw [cell_of_row _ _ 1 _ _ _ HR5.out];rfl
 have c2:w5.cell? ⟨W.heap.size + 1,2,none⟩ = some (.int .i64 0):=by rw [cell_of_row _ _ 2 _ _ _ HR5.out];rfl
 have c3:w5.cell? ⟨W.heap.size + 1,3,none⟩ = some (.int .i64 0):=by rw [cell_of_row _ _ 3 _ _ _ HR5.out];rfl
 have c4:w5.cell? ⟨W.heap.size + 1,4,none⟩ = some (.int .i64 0):=by rw [cell_of_row _ _ 4 _ _ _ HR5.out];rfl
 have c5:w5.cell? ⟨W.heap.size + 1,5,none⟩ = some (.int .i64 0):=by rw [cell_of_row _ _ 5 _ _ _ HR5.out];rfl
 have fz:∀ j,w5.frozen? ⟨W.heap.size + 1,j,none⟩ = false:=fun j=>by simp [World.frozen?,HR5.out]
 have HX:=hide (set6_row HR5.out (.int .i64 0) (.string ⟨#[]⟩) (.int .i64 0) (.int .i64 0) (.int .i64 0) (.int .i64 0))
 have HSV:=hide (turned6 w5 (W.heap.size + 1) (.int .i64 0) (.string ⟨#[]⟩) (.int .i64 0) (.int .i64 0) (.int .i64 0) (.int .i64 0))
 simp only []
 go_wp2
 generalize (((((w5.setCell ⟨W.heap.size + 1,0,none⟩ (.int .i64 0)).setCell ⟨W.heap.size + 1,1,none⟩ (.string ⟨#[]⟩)).setCell ⟨W.heap.size + 1,2,none⟩ (.int .i64 0)).setCell ⟨W.heap.size + 1,3,none⟩ (.int .i64 0)).setCell ⟨W.heap.size + 1,4,none⟩ (.int .i64 0)).setCell ⟨W.heap.size + 1,5,none⟩ (.int .i64 0) = w6 at *
 have R:∀ j,w6.cell? ⟨W.heap.size + 1,j,none⟩ = _:=fun j=>cell_of_row w6 _ j _ 50 _ HX.out
 have HV6:=hide (H5.out.beside HR5.out (by decide) (by decide) (by have:=H.out.bl.size;omega) HSV.out)
 have HS6:=hide (HS5.out.beside HSV.out (by omega))
 refine bodyPost_ret (v:=.tuple #[repV (⟨0,⟨#[]⟩,0,0,0,0⟩),.bool false]) (by simp [results,Tryz.results52,go_sem,R,repV,repA]) rfl ⟨_,_,rfl,rfl,X,HV6.out,HS6.out⟩
set_option maxHeartbeats 2000000 in
theorem hear_quit (n:Nat) (hn:n < 6) (a:Ask) (hd:Ve.takeC S n a = 0) (hq:a.k = 113) (W:World) (H:Hid (Ven w W B X wd h seed S)) (hs:Hid (Sent w ad)) :
  Calls Tryz.prog 52 #[.pointer (some ⟨B.V,0,none⟩),.int .i64 n,gotV a 0] W fun e w'=>HearAns w W w' e B X wd h seed [] (Ve.leave (Ve.taken S n a) n):=by
 have hk1:(a.k == 111) = false:=by rw [hq];rfl
 have hk2:(a.k == 99) = false:=by rw [hq];rfl
 have hk3:(a.k == 113) = true:=by rw [hq];rfl
 have HB3:Hid (Below W.heap.size W (((W.alloc (.cells (gotA a 0) 116)).alloc (.cells repZ 50)).alloc (.cells (askA a) 45))):=(((Below.refl _ _).alloc (Nat.le_refl _) _).alloc (by simp) _).alloc (by simp;omega) _
 have HR3:Hid ((((W.alloc (.cells (gotA a 0) 116)).alloc (.cells repZ 50)).alloc (.cells (askA a) 45)).heap[W.heap.size + 1]? = some (.cells repZ 50 (0,0))):=by
  have h:=heap_alloc_new (W.alloc (.cells (gotA a 0) 116)) (.cells repZ 50)
  rw [show (W.alloc (.cells (gotA a 0) 116)).heap.size = W.heap.size + 1 by simp] at h
  exact (Below.heap_alloc _ _ _ (by simp)).trans h
 have HA3:Hid ((((W.alloc (.cells (gotA a 0) 116)).alloc (.cells repZ 50)).alloc (.cells (askA a) 45)).heap[W.heap.size + 2]? = some (.cells (askA a) 45 (0,0))):=by
  have h:=heap_alloc_new ((W.alloc (.cells (gotA a 0) 116)).alloc (.cells repZ 50)) (.cells (askA a) 45)
  rw [show ((W.alloc (.cells (gotA a 0) 116)).alloc (.cells repZ 50)).heap.size = W.heap.size + 2 by simp] at h
  exact h
 have HT:=hide (vtake_any n hn a _ (H.out.later HB3.out) hs.out)
 rw [hd,show errV ad 0 = .nilIface from rfl,show Ve.takeS S n a = Ve.taken S n a by unfold Ve.takeS;rw [if_pos hd]] at HT
 clear hd hq
 unfold gotV
 unfold gotA repZ askV askA at *
 go_enter Tryz.func52,Tryz.ntmps52
 go_wp2_with fail
 refine HT.out.mono ?_
 rintro e w4 ⟨rfl,h4,hs4⟩
 have H4:=hide h4;have HS4:=hide (VStep.trans (VStep.of_below HB3.out B X) hs4)
 have ho:∀ j,vown B X j→j < W.heap.size:=fun j hj=>(H.out.own_lt hj).2
 have HR4:=hide (hs4.other ho (by omega) HR3.out)
 have HA4:=hide (hs4.other ho (by omega) HA3.out)
 clear h4 hs4 HT HB3 HR3 HA3
 have a0:w4.cell? ⟨W.heap.size + 2,0,none⟩ = some (.int .u8 a.k):=by rw [cell_of_row _ _ 0 _ _ _ HA4.out];rfl
 simp only []
 go_wp2_with fail
 refine (leave_any n hn w4 H4.out).mono ?_
 rintro e w5 ⟨rfl,X5,h5,hs5⟩
 have H5:=hide h5;have HS5:=hide (HS4.out.trans hs5)
 have HR5:=hide (hs5.block H4.out HR4.out (by decide))
 clear h5 hs5 H4 HS4 HR4 HA4 a0
 have c0:w5.cell? ⟨W.heap.size + 1,0,none⟩ = some (.int .i64 0):=by rw [cell_of_row _ _ 0 _ _ _ HR5.out];rfl
 have c1:w5.cell? ⟨W.heap.size + 1,1,none⟩ = some (.string ⟨#[]⟩):=by rw [cell_of_row _ _ 1 _ _ _ HR5.out];rfl
 have c2:w5.cell? ⟨W.heap.size + 1,2,none⟩ = some (.int .i64 0):=by rw [cell_of_row _ _ 2 _ _ _ HR5.out];rfl
 have c3:w5.cell? ⟨W.heap.size + 1,3,none⟩ = some (.int .i64 0):=by rw [cell_of_row _ _ 3 _ _ _ HR5.out];rfl
 have c4:w5.cell? ⟨W.heap.size + 1,4,none⟩ = some (.int .i64 0):=by rw [cell_of_row _ _ 4 _ _ _ HR5.out];rfl
 have c5:w5.cell? ⟨W.heap.size + 1,5,none⟩ = some (.int .i64 0):=by rw [cell_of_row _ _ 5 _ _ _ HR5.out];rfl
 have fz:∀ j,w5.frozen? ⟨W.heap.size + 1,j,none⟩ = false:=fun j=>by simp [World.frozen?,HR5.out]
 have HX:=hide (set6_row HR5.out (.int .i64 0) (.string ⟨#[]⟩) (.int .i64 0) (.int .i64 0) (.int .i64 0) (.int .i64 0))
 have HSV:=hide (turned6 w5 (W.heap.size + 1) (.int .i64 0) (.string ⟨#[]⟩) (.int .i64 0) (.int .i64 0) (.int .i64 0) (.int .i64 0))
 simp only []
 go_wp2
 generalize (((((w5.setCell ⟨W.heap.size + 1,0,none⟩ (.int .i64 0)).setCell ⟨W.heap.size + 1,1,none⟩ (.string ⟨#[]⟩)).setCell ⟨W.heap.size + 1,2,none⟩ (.int .i64 0)).setCell ⟨W.heap.size + 1,3,none⟩ (.int .i64 0)).setCell ⟨W.heap.size + 1,4,none⟩ (.int .i64 0)).setCell ⟨W.heap.size + 1,5,none⟩ (.int .i64 0) = w6 at *
 have R:∀ j,w6.cell? ⟨W.heap.size + 1,j,none⟩ = _:=fun j=>cell_of_row w6 _ j _ 50 _ HX.out
 have HV6:=hide (H5.out.beside HR5.out (by decide) (by decide) (by have:=H.out.bl.size;omega) HSV.out)
 have HS6:=hide (HS5.out.beside HSV.out (by omega))
 refine bodyPost_ret (v:=.tuple #[repV (⟨0,⟨#[]⟩,0,0,0,0⟩),.bool false]) (by simp [results,Tryz.results52,go_sem,R,repV,repA]) rfl ⟨_,_,rfl,rfl,X5,HV6.out,HS6.out⟩
set_option maxHeartbeats 2000000 in
theorem hear_order (n:Nat) (hn:n < 6) (a:Ask) (hd:Ve.takeC S n a = 0) (hk:Ve.isO a = true) (W:World) (H:Hid (Ven w W B X wd h seed S)) (hs:Hid (Sent w ad)) :
  Calls Tryz.prog 52 #[.pointer (some ⟨B.V,0,none⟩),.int .i64 n,gotV a 0] W fun e w'=>HearAns w W w' e B X wd h seed [⟨n,Ve.putK S a,a.id,0,0,0⟩] { Ve.taken S n a with Q:=Ik.putL S.Q a }:=by
 have hk1:a.k = 111∨a.k = 99:=by unfold Ve.isO at hk;simpa using hk
 have HB3:Hid (Below W.heap.size W (((W.alloc (.cells (gotA a 0) 116)).alloc (.cells repZ 50)).alloc (.cells (askA a) 45))):=(((Below.refl _ _).alloc (Nat.le_refl _) _).alloc (by simp) _).alloc (by simp;omega) _
 have HR3:Hid ((((W.alloc (.cells (gotA a 0) 116)).alloc (.cells repZ 50)).alloc (.cells (askA a) 45)).heap[W.heap.size + 1]? = some (.cells repZ 50 (0,0))):=by
  have h:=heap_alloc_new (W.alloc (.cells (gotA a 0) 116)) (.cells repZ 50)
  rw [show (W.alloc (.cells (gotA a 0) 116)).heap.size = W.heap.size + 1 by simp] at h
  exact (Below.heap_alloc _ _ _ (by simp)).trans h
 have HA3:Hid ((((W.alloc (.cells (gotA a 0) 116)).alloc (.cells repZ 50)).alloc (.cells (askA a) 45)).heap[W.heap.size + 2]? = some (.cells (askA a) 45 (0,0))):=by
  have h:=heap_alloc_new ((W.alloc (.cells (gotA a 0) 116)).alloc (.cells repZ 50)) (.cells (askA a) 45)
  rw [show ((W.alloc (.cells (gotA a 0) 116)).alloc (.cells repZ 50)).heap.size = W.heap.size + 2 by simp] at h
  exact h
 have HT:=hide (vtake_any n hn a _ (H.out.later HB3.out) hs.out)
 rw [hd,show errV ad 0 = .nilIface from rfl,show Ve.takeS S n a = Ve.taken S n a by unfold Ve.takeS;rw [if_pos hd]] at HT
 have HQ:Hid (∀ W',Ven w W' B X wd h seed (Ve.taken S n a)→Calls Tryz.prog 86 #[.pointer (some ⟨B.V,0,none⟩),askV a] W' fun e w'=>e = .returned (.string (Ve.putK S a))∧∃ X',Ven w w' B X' wd h seed { Ve.taken S n a with Q:=Ik.putL S.Q a }∧VStep W' w' B X X'):=fun W' H'=>queue_any a W' H' hs
 generalize Ve.putK S a = pk at *
 generalize ({ Ve.taken S n a with Q:=Ik.putL S.Q a }:Ve.St) = S5 at *
 clear hd hk
 unfold gotV
 unfold gotA repZ askV askA at *
 go_enter Tryz.func52,Tryz.ntmps52
 go_wp2_with fail
 refine HT.out.mono ?_
 rintro e w4 ⟨rfl,h4,hs4⟩
 have H4:=hide h4;have HS4:=hide (VStep.trans (VStep.of_below HB3.out B X) hs4)
 have ho:∀ j,vown B X j→j < W.heap.size:=fun j hj=>(H.out.own_lt hj).2
 have HR4:=hide (hs4.other ho (by omega) HR3.out)
 have HA4:=hide (hs4.other ho (by omega) HA3.out)
 clear h4 hs4 HT HB3 HR3 HA3
 have a0:w4.cell? ⟨W.heap.size + 2,0,none⟩ = some (.int .u8 a.k):=by rw [cell_of_row _ _ 0 _ _ _ HA4.out];rfl
 simp only []
 have hkk:(a.k == 111) = true∨(a.k == 111) = false∧(a.k == 99) = true:=by
  rcases hk1 with e | e
  ·exact .inl (by rw [e];rfl)
  ·exact .inr ⟨by rw [e];rfl,by rw [e];rfl⟩
 clear hk1
 rcases hkk with hk1 | ⟨hk1,hk2⟩
 all_goals
  go_wp2
  obtain ⟨XT,val,hcl,hmk⟩:=class_of (fun W'=>W'.heap[W.heap.size + 2]? = some (.cells #[.int .u8 a.k,.int .i64 a.c,.int .i64 a.sq,.int .i64 a.it,.int .i64 a.sd,.int .i64 a.pr,.int .i64 a.q,.int .i64 a.id] 45 (0,0)))
  obtain ⟨x0,hx0⟩:=hmk w4.drew HA4.out
  have hnx:Nonempty XT:=⟨x0⟩
  have HMK:=hide hmk
  have e0:∀ x,(val x).cell? ⟨W.heap.size + 2,0,none⟩ = some (.int .u8 a.k):=fun x=>by rw [cell_of_row _ _ _ _ _ _ (hcl x)];rfl
  have e1:∀ x,(val x).cell? ⟨W.heap.size + 2,1,none⟩ = some (.int .i64 a.c):=fun x=>by rw [cell_of_row _ _ _ _ _ _ (hcl x)];rfl
  have e2:∀ x,(val x).cell? ⟨W.heap.size + 2,2,none⟩ = some (.int .i64 a.sq):=fun x=>by rw [cell_of_row _ _ _ _ _ _ (hcl x)];rfl
  have e3:∀ x,(val x).cell? ⟨W.heap.size + 2,3,none⟩ = some (.int .i64 a.it):=fun x=>by rw [cell_of_row _ _ _ _ _ _ (hcl x)];rfl
  have e4:∀ x,(val x).cell? ⟨W.heap.size + 2,4,none⟩ = some (.int .i64 a.sd):=fun x=>by rw [cell_of_row _ _ _ _ _ _ (hcl x)];rfl
  have e5:∀ x,(val x).cell? ⟨W.heap.size + 2,5,none⟩ = some (.int .i64 a.pr):=fun x=>by rw [cell_of_row _ _ _ _ _ _ (hcl x)];rfl
  have e6:∀ x,(val x).cell? ⟨W.heap.size + 2,6,none⟩ = some (.int .i64 a.q):=fun x=>by rw [cell_of_row _ _ _ _ _ _ (hcl x)];rfl
  have e7:∀ x,(val x).cell? ⟨W.heap.size + 2,7,none⟩ = some (.int .i64 a.id):=fun x=>by rw [cell_of_row _ _ _ _ _ _ (hcl x)];rfl
  obtain ⟨w4d,hw4⟩:∃ w4d,w4.drew = w4d:=⟨_,rfl⟩
  have HBD:Hid (Below w4.heap.size w4 w4d):=by rw [← hw4];exact drew_below'
  clear hmk hcl a0
  refine region_many_calls (val:=val) [3,7] [0,1,2,4,5,3,6,7,8] (by kernel_rfl) (by kernel_rfl) x0 hx0 ?_
  rw [hx0,hw4]
  clear hx0 hw4
  iterate 5 (refine walkM_read rfl rfl (fun K hK=>?_);refine ⟨by rfl,?_⟩;unfold isRd;go_simp;refine hK _ ?_;clear hK K)
  refine walkM_call rfl rfl (fun K hK=>?_)
  refine ⟨by rfl,?_⟩
  unfold upM
  go_simp
  refine (HQ.out _ (H4.out.later HBD.out)).mono ?_
  rintro e w5 ⟨rfl,X5,h5,hs5⟩
  have H5:=hide h5;have HS5:=hide ((HS4.out.below HBD.out).trans hs5)
  have HR5:=hide (hs5.block (H4.out.later HBD.out) (s_row_later HBD.out HR4.out) (by decide))
  have HA5:=hide (hs5.other ho (by omega) (s_row_later HBD.out HA4.out))
  refine ⟨_,rfl,HMK.out _ HA5.out,hK _ _ ?_⟩
  clear hK K h5 hs5 H4 HS4 HR4 HA4 HQ HBD
  have c0:w5.cell? ⟨W.heap.size + 1,0,none⟩ = some (.int .i64 0):=by rw [cell_of_row _ _ 0 _ _ _ HR5.out];rfl
  have c1:w5.cell? ⟨W.heap.size + 1,1,none⟩ = some (.string ⟨#[]⟩):=by rw [cell_of_row _ _ 1 _ _ _ HR5.out];rfl
  have c2:w5.cell? ⟨W.heap.size + 1,2,none⟩ = some (.int .i64 0):=by rw [cell_of_row _ _ 2 _ _ _ HR5.out];rfl
  have c3:w5.cell? ⟨W.heap.size + 1,3,none⟩ = some (.int .i64 0):=by rw [cell_of_row _ _ 3 _ _ _ HR5.out];rfl
  have c4:w5.cell? ⟨W.heap.size + 1,4,none⟩ = some (.int .i64 0):=by rw [cell_of_row _ _ 4 _ _ _ HR5.out];rfl
  have c5:w5.cell? ⟨W.heap.size + 1,5,none⟩ = some (.int .i64 0):=by rw [cell_of_row _ _ 5 _ _ _ HR5.out];rfl
  have fz:∀ j,w5.frozen? ⟨W.heap.size + 1,j,none⟩ = false:=fun j=>by simp [World.frozen?,HR5.out]
  have HX:=hide (set6_row HR5.out (.int .i64 n) (.string pk) (.int .i64 a.id) (.int .i64 0) (.int .i64 0) (.int .i64 0))
  have HSV:=hide (turned6 w5 (W.heap.size + 1) (.int .i64 n) (.string pk) (.int .i64 a.id) (.int .i64 0) (.int .i64 0) (.int .i64 0))
  have HA6:=hide ((HSV.out.block (W.heap.size + 2) (lt_of_block HA5.out) (by omega)).trans HA5.out)
  refine walkM_read rfl rfl (fun K hK=>?_);refine ⟨by rfl,?_⟩;unfold isRd;go_simp;refine hK _ ?_;clear hK K
  refine walkM_call rfl rfl (fun K hK=>?_)
  refine ⟨by rfl,?_⟩
  unfold upM
  go_simp
  refine ⟨HMK.out _ HA6.out,hK _ _ ?_⟩
  clear hK K c0 c1 c2 c3 c4 c5 fz
  generalize (((((w5.setCell ⟨W.heap.size + 1,0,none⟩ (.int .i64 n)).setCell ⟨W.heap.size + 1,1,none⟩ (.string pk)).setCell ⟨W.heap.size + 1,2,none⟩ (.int .i64 a.id)).setCell ⟨W.heap.size + 1,3,none⟩ (.int .i64 0)).setCell ⟨W.heap.size + 1,4,none⟩ (.int .i64 0)).setCell ⟨W.heap.size + 1,5,none⟩ (.int .i64 0) = w6 at *
  refine walkM_read rfl rfl (fun K hK=>?_);refine ⟨by rfl,?_⟩;unfold isRd;go_simp;refine hK _ ?_;clear hK K
  refine walkM_nil ?_
  go_wp2
  have R:∀ j,w6.cell? ⟨W.heap.size + 1,j,none⟩ = _:=fun j=>cell_of_row w6 _ j _ 50 _ HX.out
  have HV6:=hide (H5.out.beside HR5.out (by decide) (by decide) (by have:=H.out.bl.size;omega) HSV.out)
  have HS6:=hide (HS5.out.beside HSV.out (by omega))
  refine bodyPost_ret (v:=.tuple #[repV ⟨n,pk,a.id,0,0,0⟩,.bool true]) (by simp [results,Tryz.results52,go_sem,R,repV,repA]) rfl ⟨_,_,rfl,rfl,X5,HV6.out,HS6.out⟩
theorem hear_any (n:Nat) (hn:n < 6) (f:ByteArray) (W:World) (H:Ven w W B X wd h seed S) (hs:Sent w ad) :
  Calls Tryz.prog 52 #[.pointer (some ⟨B.V,0,none⟩),.int .i64 n,gotV (Ve.askOf f) (decCode f)] W fun e w'=>HearAns w W w' e B X wd h seed (Ve.hearR S n f) (Ve.hearS S n f):=by
 unfold Ve.hearR Ve.hearS
 by_cases hc:decCode f = 0
 ·rw [if_pos hc,if_pos hc,hc]
  generalize Ve.askOf f = a
  cases hd:Ve.takeC S n a with
  | zero =>
   rw [if_pos rfl,if_pos rfl]
   cases hk:Ve.isO a with
   | true=>exact hear_order n hn a hd hk W H hs
   | false =>
    rw [if_neg (by decide),if_neg (by decide)]
    by_cases hq:a.k = 113
    ·rw [if_pos hq];exact hear_quit n hn a hd hq W H hs
    ·rw [if_neg hq];exact hear_none n hn a hd hk hq W H hs
  | succ d =>
   rw [if_neg (by omega),if_neg (by omega)]
   refine hear_bad n hn a d hd ?_ W H hs
   rw [← hd]
   unfold Ve.takeC
   split
   ·exact Se.tc_le _ _ _
   ·decide
 ·rw [if_neg hc,if_neg hc]
  exact hear_code n _ _ hc W H
end
def repC (r:Ve.Rep):List Value:=[.int .i64 r.c,.string r.k,.int .i64 r.id,.int .i64 r.pr,.int .i64 r.q,.int .i64 r.cd]
def rflat (l:List Ve.Rep):List Value:=l.flatMap repC
theorem rflat_length:∀ l:List Ve.Rep,(rflat l).length = l.length * 6
 | []=>rfl
 | x :: l=>by
  have:=rflat_length l
  simp only [rflat,List.flatMap_cons,List.length_append,List.length_cons] at this ⊢
  rw [this]
  show 6 + _ = _
  omega
theorem rflat_append (a b:List Ve.Rep):rflat (a++b) = rflat a++rflat b:=by simp [rflat]
theorem repC_one (r:Ve.Rep):∀ u∈repC r,u.oneCell' = true:=by
 intro u hu
 simp only [repC,List.mem_cons,List.not_mem_nil,or_false] at hu
 rcases hu with rfl | rfl | rfl | rfl | rfl | rfl <;> rfl
def Reps (w:World) (base:Nat) (v:Value) (l:List Ve.Rep):Prop:=w.ownsRow base 50 6 v l.length (rflat l)
theorem info50:∃ i z,Tryz.prog.info? 50 = some i∧i.zero = some z∧i.size = 6∧i.bytes = 56∧z.cells.size = 6:=⟨_,_,rfl,rfl,rfl,rfl,rfl⟩
theorem cell_new6 (w:World) (r:Ve.Rep) (ty:TypeId) (fz:Nat × Nat) (hf:fz = (0,0)):∀ j u,(repC r)[j]? = some u→(w.alloc (.cells (repA r) ty fz)).cell? ((⟨w.heap.size,0,none⟩:Addr).add j) = some u:=by
 subst hf
 intro j u hj
 have hp:(⟨w.heap.size,0,none⟩:Addr).add j = ⟨w.heap.size,j,none⟩:=by unfold Addr.add;split <;> simp_all
 rw [hp,cell_of_row _ _ j _ ty _ (heap_alloc_new w _)]
 simpa [repA,repC] using hj
theorem askOf_got (f:ByteArray):gotCells f = [.int .u8 (Ve.askOf f).k,.int .i64 (Ve.askOf f).c,.int .i64 (Ve.askOf f).sq,.int .i64 (Ve.askOf f).it,.int .i64 (Ve.askOf f).sd,.int .i64 (Ve.askOf f).pr,.int .i64 (Ve.askOf f).q,.int .i64 (Ve.askOf f).id,.int .i64 (decCode f)]:=rfl
theorem Gots.form {w:World} {base:Nat} {v:Value} {t:ByteArray} {n:Nat} (h:Gots w base v t n):∃ a cap,v = .slice a n cap∧(0 < n→∃ g,a = some ⟨g,0,none⟩):=by
 rcases h.2 with ⟨rfl,rfl⟩ | ⟨g,cap,cur,rfl,_⟩
 ·exact ⟨none,0,rfl,fun h=>absurd h (Nat.lt_irrefl 0)⟩
 ·exact ⟨_,_,rfl,fun _=>⟨g,rfl⟩⟩
section
variable {w W W':World} {ad:Nat→Addr} {B:Vb} {X X':Vx} {wd h seed:Int} {S:Ve.St}
theorem row_block {base:Nat} {e:TypeId} {sz n:Nat} {v:Value} {xs:List Value} (hr:W.ownsRow base e sz v n xs) {k:Nat} (hk:v.ownBlock = some k):base≤k∧∃ cur,W.heap[k]? = some (.cells cur e (0,0)):=by
 rcases hr.2 with ⟨e1,_⟩ | ⟨r,cap,cur,e1,hb,hr2,_⟩
 ·rw [e1] at hk;cases hk
 ·rw [e1] at hk
  have:r = k:=by simpa [Value.ownBlock] using hk
  subst this
  exact ⟨hb,cur,hr2⟩
theorem Ven.grown {base:Nat} {e:TypeId} {sz n:Nat} {v:Value} {xs:List Value} (H:Ven w W B X wd h seed S) (hr:W.ownsRow base e sz v n xs) (he:e≠111∧e≠131∧e≠134∧e≠139∧e≠137∧e≠174∧e≠45∧e≠142∧e≠5) (he2:e≠128) (hb:w.heap.size≤base) (hg:W.grownBy W' v.ownBlock):Ven w W' B X wd h seed S :=
 H.aside (Turned.of_grown hg) (fun e1=>by
  obtain ⟨_,cur,h2⟩:=row_block hr e1.symm
  exact blkT h2 H.fl.blk he2 rfl) (fun k hv e1=>by
  obtain ⟨_,cur,h2⟩:=row_block hr e1.symm
  exact vown_type H h2 he hv) (fun _ e1=>Nat.le_trans hb (row_block hr e1.symm).1)
theorem VStep.grown {W1 W2:World} {base:Nat} {e:TypeId} {sz n:Nat} {v:Value} {xs:List Value} (hs:VStep W W1 B X X') (hr:W1.ownsRow base e sz v n xs) (hb:W.heap.size≤base) (hg:W1.grownBy W2 v.ownBlock):VStep W W2 B X X' :=
 ⟨hs.turned.trans (Turned.of_grown hg) (fun _ e1=>.inr (Nat.le_trans hb (row_block hr e1.symm).1)),hs.new⟩
theorem row_apart {base b2:Nat} {e e2:TypeId} {sz s2 n n2:Nat} {v v2:Value} {xs x2:List Value} (hr:W.ownsRow base e sz v n xs) (hr2:W.ownsRow b2 e2 s2 v2 n2 x2) (hne:e≠e2) (hg:W.grownBy W' v.ownBlock):W'.ownsRow b2 e2 s2 v2 n2 x2 :=
 row_turned hr2 (Turned.of_grown hg) (fun k hk e1=>by
  obtain ⟨_,cur,h1⟩:=row_block hr e1.symm
  obtain ⟨_,cur2,h2⟩:=row_block hr2 hk
  exact blkT h1 h2 hne rfl)
theorem hearR_len (S:Ve.St) (n:Nat) (f:ByteArray):(Ve.hearR S n f).length≤1:=by
 unfold Ve.hearR
 repeat' split
 all_goals simp
theorem hearsR_len (S:Ve.St) (n:Nat) (b:ByteArray):∀ k,(Ve.hearsR S n b k).length≤k
 | 0=>by simp [Ve.hearsR]
 | k + 1=>by
  have:=hearsR_len S n b k
  have:=hearR_len (Ve.hearsS S n b k) n (fr b k)
  simp only [Ve.hearsR,List.length_append]
  omega
def FeedAns (w W W':World) (e:Ending) (B:Vb) (X:Vx) (wd h seed:Int) (R:List Ve.Rep) (S':Ve.St):Prop :=
 ∃ v X',e = .returned v∧Reps W' W.heap.size v R∧Ven w W' B X' wd h seed S'∧VStep W W' B X X'
theorem feed_off (n:Int) (s:ByteArray) (W:World) (H:Ven w W B X wd h seed S) (hd:S.down = true∨Wi.withinB n 0 5 = false) :
  Calls Tryz.prog 15 #[.pointer (some ⟨B.V,0,none⟩),.int .i64 n,.string s] W fun e w'=>e = .returned (.slice none 0 0)∧w' = W:=by
 have c:W.cell? ⟨B.V,36,none⟩ = some (.bool S.down):=H.at 36
 have HC:=hide (isClB_any n W)
 clear H
 cases hdn:S.down with
 | true =>
  rw [hdn] at c
  go_enter Tryz.func15,Tryz.ntmps15
  go_wp2
  go_ret
  exact ⟨rfl,rfl⟩
 | false =>
  have hw:Wi.withinB n 0 5 = false:=by
   rcases hd with e | e
   ·rw [hdn] at e;cases e
   ·exact e
  rw [hdn] at c
  rw [hw] at HC
  clear hd hw hdn
  go_enter Tryz.func15,Tryz.ntmps15
  go_wp2_with fail
  refine HC.out.mono ?_
  rintro e w2 ⟨rfl,rfl⟩
  simp only []
  go_wp2
  go_ret
  exact ⟨rfl,rfl⟩
set_option maxHeartbeats 2000000 in
theorem feed_in (n:Nat) (hn:n < 6) (s:ByteArray) (W:World) (H:Hid (Ven w W B X wd h seed S)) (hd:S.down = false) (hs:Hid (Sent w ad)) (hsz:(S.lf n++s).size≤100000) :
  Calls Tryz.prog 15 #[.pointer (some ⟨B.V,0,none⟩),.int .i64 n,.string s] W fun e w'=>FeedAns w W w' e B X wd h seed (Ve.feedR S n s) (Ve.feedS S n s):=by
 have hcl:Wi.withinB (n:Int) 0 5 = true:=by simp [Wi.withinB];omega
 have hno:¬ (S.down = true∨Wi.withinB (n:Int) 0 5 = false):=by rw [hd,hcl];simp
 have eR:Ve.feedR S n s = Ve.hearsR (Ve.fedS S n (S.lf n++s)) n (S.lf n++s) ((S.lf n++s).size / 30):=by unfold Ve.feedR;rw [if_neg hno];rfl
 have eS:Ve.feedS S n s = Ve.hearsS (Ve.fedS S n (S.lf n++s)) n (S.lf n++s) ((S.lf n++s).size / 30):=by unfold Ve.feedS;rw [if_neg hno];rfl
 rw [eR,eS]
 clear eR eS hno
 have c36:W.cell? ⟨B.V,36,none⟩ = some (.bool false):=by rw [← hd];exact H.out.at 36
 have HC:=hide (isClB_any n W)
 rw [hcl] at HC
 have hn6:(n:Int) < 6:=by omega
 have HF:=hide (feed_any B.V (4 + n * 5 + 3) (S.lf n) s ad W (H.out.sent hs.out) (H.out.conn hn (j:=3) (by decide)) (H.out.free _) hsz)
 obtain ⟨b,hb⟩:∃ b,S.lf n++s = b:=⟨_,rfl⟩
 rw [hb] at HF hsz ⊢
 have HBB:=hide hb
 clear hb hcl
 obtain ⟨m,hm⟩:∃ m,b.size / 30 = m:=⟨_,rfl⟩
 rw [hm] at HF ⊢
 have hm2:m≤100000:=by omega
 have HM:=hide hm
 clear hm
 go_enter Tryz.func15,Tryz.ntmps15
 go_wp2_with fail
 refine HC.out.mono ?_
 rintro e w2 ⟨rfl,rfl⟩
 simp only []
 go_wp2_with fail
 refine HF.out.mono ?_
 rintro e w3 ⟨v1,w1,rfl,hg,hb1,hw3⟩
 obtain ⟨hv3,hs3⟩:=(H.out.later hb1).set (S':=Ve.fedS S n b) hn (j:=3) (by decide) (.string (b.extract (30 * m) b.size)) (fun c' j' _ hj'=>by
  have e:Ve.restB b = b.extract (30 * m) b.size:=by unfold Ve.restB;rw [HM.out]
  rw [← e]
  exact cAt_lf S (Ve.fedS S n b) n (Ve.restB b) rfl rfl rfl rfl rfl c' j' hj') rfl rfl rfl ⟨rfl,rfl,rfl,rfl,rfl,rfl,rfl,rfl⟩
 have hg3:Gots w3 w2.heap.size v1 b m:=by rw [hw3];exact hs3.row (H.out.later hb1) hg (by decide)
 rw [← hw3] at hv3 hs3
 have H3:=hide hv3;have HS3:=hide ((VStep.of_below hb1 B X).trans hs3);have HG3:=hide hg3
 obtain ⟨a1,cap1,hv1,ha1⟩:=Gots.form hg3
 have HA1:=hide ha1
 subst hv1
 clear hv3 hs3 hg3 hw3 hb1 hg HF HC ha1
 clear w1
 obtain ⟨i50,z50,hi,hz0,hz1,hz2,hz3⟩:=info50
 have Hi:=hide hi;have Hz0:=hide hz0;have Hz1:=hide hz1;have Hz2:=hide hz2;have Hz3:=hide hz3
 clear hi hz0 hz1 hz2 hz3
 simp only []
 go_wp2_with fail
 go_loopw [7,30] (fun v kv wr=>∃ k X',k≤m∧kv = .int .i64 k∧Reps wr w2.heap.size v (Ve.hearsR (Ve.fedS S n b) n b k)∧Ven w wr B X' wd h seed (Ve.hearsS (Ve.fedS S n b) n b k)∧VStep w2 wr B X X'∧Gots wr w2.heap.size (.slice a1 m cap1) b m) (fun _ kv _=>m - (intOf kv).toNat)
 case atStart=>exact ⟨0,X,by omega,rfl,World.ownsRow_nil _ _ _ _,H3.out,HS3.out,HG3.out⟩
 case round =>
  obtain ⟨k,X',hk,rfl,hr,hv,hst,hg⟩:=hrel
  have HR:=hide hr;have HV:=hide hv;have HST:=hide hst;have HG:=hide hg
  clear hr hv hst
  by_cases hlt:k < m
  ·have hki:(k:Int) < m:=by omega
   obtain ⟨g,rfl⟩:=HA1.out (by omega)
   have key:∀ j,j < 9→∀ u,(gotCells (fr b k))[j]? = some u→wr.cell? ⟨g,k * 9 + j,none⟩ = some u:=by
    intro j hj u hu
    have:=World.ownsRow.cells hg (g:=g) rfl (k * 9 + j) u (by rw [Nat.mul_comm k 9,gots_at b m k j hlt hj];exact hu)
    have hp:(⟨g,0,none⟩:Addr).add (k * 9 + j) = ⟨g,k * 9 + j,none⟩:=by unfold Addr.add;split <;> simp_all
    rwa [hp] at this
   rw [askOf_got] at key
   have p0:=key 0 (by decide) _ rfl
   have p1:=key 1 (by decide) _ rfl
   have p2:=key 2 (by decide) _ rfl
   have p3:=key 3 (by decide) _ rfl
   have p4:=key 4 (by decide) _ rfl
   have p5:=key 5 (by decide) _ rfl
   have p6:=key 6 (by decide) _ rfl
   have p7:=key 7 (by decide) _ rfl
   have p8:=key 8 (by decide) _ rfl
   have hgl:g < wr.heap.size:=World.block_lt_of_cell? _ _ p0
   simp only [Nat.add_zero] at p0
   clear key hg
   have HH:=hide (fun W' (H':Ven w W' B X' wd h seed (Ve.hearsS (Ve.fedS S n b) n b k))=>hear_any n hn (fr b k) W' H' hs.out)
   have HN:Hid (Ve.hearsR (Ve.fedS S n b) n b (k + 1) = Ve.hearsR (Ve.fedS S n b) n b k++Ve.hearR (Ve.hearsS (Ve.fedS S n b) n b k) n (fr b k)∧Ve.hearsS (Ve.fedS S n b) n b (k + 1) = Ve.hearS (Ve.hearsS (Ve.fedS S n b) n b k) n (fr b k)):=⟨rfl,rfl⟩
   have hlen:=hearsR_len (Ve.fedS S n b) n b k
   generalize Ve.hearR (Ve.hearsS (Ve.fedS S n b) n b k) n (fr b k) = hR at *
   generalize Ve.hearS (Ve.hearsS (Ve.fedS S n b) n b k) n (fr b k) = hS at *
   generalize Ve.hearsR (Ve.fedS S n b) n b k = lR at *
   generalize Ve.hearsS (Ve.fedS S n b) n b k = lS at *
   generalize Ve.askOf (fr b k) = a at *
   generalize decCode (fr b k) = cd at *
   have HB4:Hid (Below wr.heap.size wr (wr.alloc (.cells (gotA a cd) 116))):=(Below.refl _ _).alloc (Nat.le_refl _) _
   unfold gotV at HH
   unfold gotA at HB4
   go_wp2_with fail
   refine (HH.out _ (HV.out.later HB4.out)).mono ?_
   rintro e w5 ⟨r,bb,rfl,hRe,X5,h5,hs5⟩
   have H5:=hide h5;have HS5:=hide (HST.out.trans ((VStep.of_below HB4.out B X').trans hs5))
   have HR5:=hide (hs5.row (HV.out.later HB4.out) (row_later HR.out HB4.out) (by decide))
   have HG5:=hide (hs5.row (HV.out.later HB4.out) (row_later HG.out HB4.out) (by decide))
   have HRE:=hide hRe
   clear h5 hs5 HH HB4 HV HR HST hRe p0 p1 p2 p3 p4 p5 p6 p7 p8
   have HB6:Hid (Below w5.heap.size w5 (w5.alloc (.cells (repA r) 50))):=(Below.refl _ _).alloc (Nat.le_refl _) _
   have HRA:Hid (repA r = #[.int .i64 r.c,.string r.k,.int .i64 r.id,.int .i64 r.pr,.int .i64 r.q,.int .i64 r.cd]):=rfl
   have hwz:w2.heap.size≤w5.heap.size:=HS5.out.turned.size
   unfold repA at HB6
   unfold repV repA
   cases bb with
   | false =>
    have e:hR = []:=HRE.out
    rw [e,List.append_nil] at HN
    simp only []
    go_wp2
    refine ⟨⟨k + 1,X5,hlt,by go_num,?_,?_,HS5.out.below HB6.out,row_later HG5.out HB6.out⟩,by simp [intOf];omega⟩
    ·rw [HN.out.1];exact row_later HR5.out HB6.out
    ·rw [HN.out.2];exact H5.out.later HB6.out
   | true =>
    have e:hR = [r]:=HRE.out
    rw [e] at HN
    simp only []
    go_wp2_with (at_builtin;refine wpList_append_own _ rfl _ _ 42 rfl w2.heap.size 50 i50 z50 6 56 Tryz.underlying42 Hi.out Hz0.out Hz1.out Hz2.out Hz3.out (by decide) _ _ _ rfl (World.ownsRow.alloc (World.ownsRow.alloc HR5.out _) _) ⟨w5.heap.size + 1,0,none⟩ 1 1 (repC r) rfl rfl ?c1 ?c2 ?c3 ?c4 ?c5 ?_)
    case c1 =>
     intro j u hj
     exact hj
    case c2=>exact repC_one r
    case c3=>unfold maxLen;omega
    case c4=>omega
    case c5=>first | omega | (simp;omega)
    intro v6 w6 hown' hgrow _
    have HB7:Hid (Below w5.heap.size w5 ((w5.alloc (.cells (repA r) 50)).alloc (.cells (repA r) 50))):=((Below.refl _ _).alloc (Nat.le_refl _) _).alloc (by simp) _
    have hR7:=row_later HR5.out HB7.out
    have H8:=hide ((H5.out.later HB7.out).grown hR7 (by decide) (by decide) H.out.bl.size hgrow)
    have HS8:=hide ((HS5.out.below HB7.out).grown hR7 (Nat.le_refl _) hgrow)
    have HG8:=hide (row_apart hR7 (row_later HG5.out HB7.out) (by decide) hgrow)
    have HR8:Hid (Reps w6 w2.heap.size v6 (lR++[r])):=by
     show w6.ownsRow w2.heap.size 50 6 v6 (lR++[r]).length (rflat (lR++[r]))
     rw [rflat_append,List.length_append]
     simpa [rflat] using hown'
    clear hown' hgrow hR7
    go_wp2
    refine ⟨⟨k + 1,X5,hlt,by go_num,?_,?_,HS8.out,HG8.out⟩,by simp [intOf];omega⟩
    ·rw [HN.out.1];exact HR8.out
    ·rw [HN.out.2];exact H8.out
  ·have hki:¬ (k:Int) < m:=by omega
   obtain rfl:k = m:=by omega
   go_wp2
   go_ret
   exact ⟨_,X',rfl,HR.out,HV.out,HST.out⟩
theorem vfeed_any (n:Int) (s:ByteArray) (W:World) (H:Ven w W B X wd h seed S) (hs:Sent w ad) (hsz:∀ c,c < 6→(S.lf c++s).size≤100000) :
  Calls Tryz.prog 15 #[.pointer (some ⟨B.V,0,none⟩),.int .i64 n,.string s] W fun e w'=>FeedAns w W w' e B X wd h seed (Ve.feedR S n s) (Ve.feedS S n s):=by
 by_cases hd:S.down = true∨Wi.withinB n 0 5 = false
 ·have e1:Ve.feedR S n s = []:=by unfold Ve.feedR;rw [if_pos hd]
  have e2:Ve.feedS S n s = S:=by unfold Ve.feedS;rw [if_pos hd]
  rw [e1,e2]
  refine (feed_off n s W H hd).mono ?_
  rintro e w' ⟨rfl,rfl⟩
  exact ⟨_,X,rfl,World.ownsRow_nil _ _ _ _,H,VStep.refl _ _ _⟩
 ·have hdn:S.down = false:=by cases h1:S.down with
   | true=>exact absurd (.inl h1) hd
   | false=>rfl
  have hw:Wi.withinB n 0 5 = true:=by cases h1:Wi.withinB n 0 5 with
   | false=>exact absurd (.inr h1) hd
   | true=>rfl
  obtain ⟨c,rfl⟩:∃ c:Nat,n = c:=⟨n.toNat,by simp [Wi.withinB] at hw;omega⟩
  have hc:c < 6:=by simp [Wi.withinB] at hw;omega
  exact feed_in c hc s W H hdn hs (hsz c hc)
end
def fown (B:Vb) (X:Vx) (k:Nat):Prop:=k = B.P∨∃ i,i < 3∧(k = B.I i∨k = B.b i∨(X.v i).ownBlock = some k)
structure RFr (W W':World) (b0:Nat) (B:Vb) (X X':Vx):Prop where
 turned:Turned W W' (fun k=>fown B X k∨b0≤k)
 new:∀ k,fown B X' k→fown B X k∨W.heap.size≤k
 qv:X'.qv = X.qv
 dv:X'.dv = X.dv
def setF (S:Ve.St) (r:Ve.Ro):Ve.St:={ S with L:=r.L,pf:=r.pf,n:=r.n }
structure Rnd (w:World) (b0:Nat) (W:World) (B:Vb) (X:Vx) (wd h seed:Int) (S:Ve.St) (q:Nat) (vp vr:Value) (r:Ve.Ro):Prop where
 ven:Ven w W B X wd h seed (setF S r)
 blk:W.heap[q]? = some (.cells #[.pointer (some ⟨B.F,0,none⟩),vp,vr] 183 (0,0))
 pl:W.ownsRow b0 45 8 vp r.pl.length (aflat r.pl)
 rp:Reps W b0 vr r.rp
 lo:b0≤q
 lob:w.heap.size≤b0
 hib:b0≤W.heap.size
 qb:∀ c,c < 6→∀ k,(X.qv c).ownBlock = some k→k < b0
 all:FAll r.L r.pf r.n wd h
section
variable {w W W' W1 W2:World} {b0 q:Nat} {B:Vb} {X X' X2:Vx} {wd h seed:Int} {S:Ve.St} {vp vr:Value} {r:Ve.Ro}
theorem RFr.trans (h:RFr W W1 b0 B X X') (h1:RFr W1 W2 b0 B X' X2):RFr W W2 b0 B X X2 :=
 ⟨h.turned.trans h1.turned (fun k hk=>by
  rcases hk with hk | hk
  ·rcases h.new k hk with h2 | h2
   ·exact .inl (.inl h2)
   ·exact .inr h2
  ·exact .inl (.inr hk)),fun k hk=>by
  rcases h1.new k hk with h2 | h2
  ·exact h.new k h2
  ·exact .inr (Nat.le_trans h.turned.size h2),h1.qv.trans h.qv,h1.dv.trans h.dv⟩
theorem RFr.high (ht:Turned W W' (fun k=>b0≤k)) (B:Vb) (X:Vx):RFr W W' b0 B X X:=⟨ht.mono (fun _ h=>.inr h),fun _ h=>.inl h,rfl,rfl⟩
theorem RFr.below (hb:Below W.heap.size W W') (b0:Nat) (B:Vb) (X:Vx):RFr W W' b0 B X X:=⟨Turned.of_below hb _,fun _ h=>.inl h,rfl,rfl⟩
theorem fown_type (H:Ven w W B X wd h seed S) {k:Nat} {cur:Array Value} {e:TypeId} {fz:Nat × Nat} (hk:W.heap[k]? = some (.cells cur e fz)) (he:e≠131∧e≠134∧e≠139∧e≠137):¬ fown B X k:=by
 rintro (rfl | ⟨i,hi,rfl | rfl | h1⟩)
 ·exact blkT hk H.fl.pu he.1 rfl
 ·exact blkT hk (H.fl.it i hi) he.2.1 rfl
 ·exact blkT hk (H.fl.bk i hi).cell he.2.2.1 rfl
 ·exact rowT (H.fl.bk i hi).row hk he.2.2.2 h1
theorem fown_lt (H:Ven w W B X wd h seed S) {k:Nat} (hk:fown B X k):k < W.heap.size:=by
 rcases hk with e | e
 ·exact (H.own_lt (.inr (.inl e))).2
 ·exact (H.own_lt (.inr (.inr (.inl e)))).2
theorem RFr.row {base:Nat} {e:TypeId} {sz n:Nat} {v:Value} {xs:List Value} (hs:RFr W W' b0 B X X') (H:Ven w W B X wd h seed S) (hr:W.ownsRow base e sz v n xs) (he:e≠131∧e≠134∧e≠139∧e≠137) (ho:∀ k,v.ownBlock = some k→k < b0):W'.ownsRow base e sz v n xs:=by
 refine row_turned hr hs.turned (fun k hk e1=>?_)
 rcases e1 with e1 | e1
 ·obtain ⟨_,cur,h2⟩:=row_block hr hk
  exact fown_type H h2 he e1
 ·have:=ho k hk
  omega
theorem Rnd.floor {v':Nat→Value} {L':Nat→List Cv.Lot} {pf' n':Nat→Int} (R:Rnd w b0 W B X wd h seed S q vp vr r) (hf:PFl w W' B.F B.P B.I B.b v' L' pf' n' wd h) (hs:FStep W W' B.P B.I B.b X.v v') (ha:FAll L' pf' n' wd h) :
  Rnd w b0 W' B { X with v:=v' } wd h seed S q vp vr { r with L:=L',pf:=pf',n:=n' }∧RFr W W' b0 B X { X with v:=v' }∧Turned W W' (fun k=>fown B X k):=by
 have ht:Turned W W' (fun k=>fown B X k) :=
  ⟨hs.os,hs.tape,hs.output,hs.size,fun k hk hn=>hs.keep k hk (fun e=>hn (.inl e)) (fun i hi=>⟨fun e=>hn (.inr ⟨i,hi,.inl e⟩),fun e=>hn (.inr ⟨i,hi,.inr (.inl e)⟩),fun e=>hn (.inr ⟨i,hi,.inr (.inr e)⟩)⟩)⟩
 obtain ⟨h1,_⟩:=R.ven.floor hf hs
 refine ⟨⟨h1,?_,?_,?_,R.lo,R.lob,Nat.le_trans R.hib hs.size,R.qb,ha⟩,⟨ht.mono (fun _ h=>.inl h),fun k hk=>?_,rfl,rfl⟩,ht⟩
 ·rw [ht.block q (lt_of_block R.blk) (fown_type R.ven R.blk (by decide))];exact R.blk
 ·refine row_turned R.pl ht (fun k hk=>?_)
  obtain ⟨_,cur,h2⟩:=row_block R.pl hk
  exact fown_type R.ven h2 (by decide)
 ·refine row_turned R.rp ht (fun k hk=>?_)
  obtain ⟨_,cur,h2⟩:=row_block R.rp hk
  exact fown_type R.ven h2 (by decide)
 ·rcases hk with e | ⟨i,hi,e | e | e⟩
  ·exact .inl (.inl e)
  ·exact .inl (.inr ⟨i,hi,.inl e⟩)
  ·exact .inl (.inr ⟨i,hi,.inr (.inl e)⟩)
  ·rcases hs.new i hi k e with h2 | h2
   ·exact .inl (.inr ⟨i,hi,.inr (.inr h2)⟩)
   ·exact .inr h2
theorem Rnd.later (R:Rnd w b0 W B X wd h seed S q vp vr r) (hb:Below W.heap.size W W'):Rnd w b0 W' B X wd h seed S q vp vr r :=
 ⟨R.ven.later hb,s_row_later hb R.blk,row_later R.pl hb,row_later R.rp hb,R.lo,R.lob,Nat.le_trans R.hib hb.size,R.qb,R.all⟩
theorem Rnd.cells (R:Rnd w b0 W B X wd h seed S q vp vr r):W.cell? ⟨q,0,none⟩ = some (.pointer (some ⟨B.F,0,none⟩))∧W.cell? ⟨q,1,none⟩ = some vp∧W.cell? ⟨q,2,none⟩ = some vr:=by
 refine ⟨?_,?_,?_⟩ <;> (rw [cell_of_row _ _ _ _ _ _ R.blk];rfl)
theorem Rnd.lt (R:Rnd w b0 W B X wd h seed S q vp vr r):q < W.heap.size:=lt_of_block R.blk
theorem Rnd.told {v4:Value} {x:List Ve.Rep} (R:Rnd w b0 W B X wd h seed S q vp vr r) (hb:Below W.heap.size W W1) (hg:W1.grownBy W2 vr.ownBlock) (hr:Reps W2 b0 v4 (r.rp++x)) :
  Rnd w b0 (W2.setCell ⟨q,2,none⟩ v4) B X wd h seed S q vp v4 { r with rp:=r.rp++x }∧RFr W (W2.setCell ⟨q,2,none⟩ v4) b0 B X X∧Turned W (W2.setCell ⟨q,2,none⟩ v4) (fun k=>k = q∨vr.ownBlock = some k):=by
 have R1:=R.later hb
 have hblk:W2.heap[q]? = some (.cells #[.pointer (some ⟨B.F,0,none⟩),vp,vr] 183 (0,0)):=by
  rw [hg.block q (lt_of_block R1.blk) (fun e=>?_)]
  ·exact R1.blk
  ·obtain ⟨_,cur,h2⟩:=row_block R1.rp e.symm
   exact blkT h2 R1.blk (by decide) rfl
 have hv2:=R1.ven.grown R1.rp (by decide) (by decide) R.lob hg
 have hsv:=Save.setCell W2 q 2 v4
 have ht2:=Turned.setCell W2 q 2 v4
 have key:∀ {base:Nat} {e:TypeId} {sz n:Nat} {v:Value} {xs:List Value},W2.ownsRow base e sz v n xs→e≠183→(W2.setCell ⟨q,2,none⟩ v4).ownsRow base e sz v n xs:=fun {base e sz n v xs} hrr hne=>row_turned hrr ht2 (fun k hk e1=>by
  obtain ⟨_,cur,h2⟩:=row_block hrr hk
  exact blkT h2 hblk hne e1)
 refine ⟨⟨hv2.beside hblk (by decide) (by decide) (Nat.le_trans R.lob R.lo) hsv,?_,key (row_apart R1.rp R1.pl (by decide) hg) (by decide),key hr (by decide),R.lo,R.lob,?_,R.qb,R.all⟩,RFr.high ?_ B X,?_⟩
 ·rw [block_setCell hblk];rfl
 ·exact Nat.le_trans R.hib (Nat.le_trans hb.size (Nat.le_trans hg.size (by simp)))
 ·exact (Turned.of_below hb _).trans (((Turned.of_grown hg).mono (S':=fun k=>b0≤k) (fun _ hk=>(row_block R1.rp hk.symm).1)).trans ht2 (fun _ e=>.inl (by rw [e];exact R.lo))) (fun _ hk=>.inl hk)
 ·exact (Turned.of_below hb _).trans (((Turned.of_grown hg).mono (S':=fun k=>k = q∨vr.ownBlock = some k) (fun _ hk=>.inr hk.symm)).trans ht2 (fun _ e=>.inl (.inl e))) (fun _ hk=>.inl hk)
theorem Rnd.row {base:Nat} {e:TypeId} {sz n:Nat} {v:Value} {xs:List Value} (R:Rnd w b0 W B X wd h seed S q vp vr r) (ht:Turned W W' (fun k=>k = q∨vr.ownBlock = some k)) (hr:W.ownsRow base e sz v n xs) (h1:e≠183) (h2:e≠50):W'.ownsRow base e sz v n xs:=by
 refine row_turned hr ht (fun k hk e1=>?_)
 obtain ⟨_,cur,h3⟩:=row_block hr hk
 rcases e1 with e1 | e1
 ·exact blkT h3 R.blk h1 e1
 ·obtain ⟨_,cur2,h4⟩:=row_block R.rp e1
  exact blkT h3 h4 h2 rfl
theorem Rnd.block {k:Nat} {cur:Array Value} {e:TypeId} {fz:Nat × Nat} (R:Rnd w b0 W B X wd h seed S q vp vr r) (ht:Turned W W' (fun k=>k = q∨vr.ownBlock = some k)) (hk:W.heap[k]? = some (.cells cur e fz)) (h1:e≠183) (h2:e≠50):W'.heap[k]? = some (.cells cur e fz):=by
 rw [ht.block k (lt_of_block hk) (fun e1=>?_)]
 ·exact hk
 ·rcases e1 with e1 | e1
  ·exact blkT hk R.blk h1 e1
  ·obtain ⟨_,cur2,h4⟩:=row_block R.rp e1
   exact blkT hk h4 h2 rfl
theorem Rnd.listed {v4:Value} {x:List Ask} (R:Rnd w b0 W B X wd h seed S q vp vr r) (hb:Below W.heap.size W W1) (hg:W1.grownBy W2 vp.ownBlock) (hr:W2.ownsRow b0 45 8 v4 x.length (aflat x)) :
  Rnd w b0 (W2.setCell ⟨q,1,none⟩ v4) B X wd h seed S q v4 vr { r with pl:=x }∧RFr W (W2.setCell ⟨q,1,none⟩ v4) b0 B X X:=by
 have R1:=R.later hb
 have hblk:W2.heap[q]? = some (.cells #[.pointer (some ⟨B.F,0,none⟩),vp,vr] 183 (0,0)):=by
  rw [hg.block q (lt_of_block R1.blk) (fun e=>?_)]
  ·exact R1.blk
  ·obtain ⟨_,cur,h2⟩:=row_block R1.pl e.symm
   exact blkT h2 R1.blk (by decide) rfl
 have hv2:Ven w W2 B X wd h seed (setF S r):=by
  refine R1.ven.aside (Turned.of_grown hg) (fun e1=>?_) (fun k hv e1=>?_) (fun _ e1=>Nat.le_trans R.lob (row_block R1.pl e1.symm).1)
  ·obtain ⟨_,cur,h2⟩:=row_block R1.pl e1.symm
   exact blkT h2 R1.ven.fl.blk (by decide) rfl
  ·obtain ⟨h3,cur,h2⟩:=row_block R1.pl e1.symm
   rcases hv with rfl | rfl | ⟨i,hi,rfl | rfl | h1⟩ | (rfl | ⟨c,hc,h1⟩) | rfl | h1
   ·exact blkT h2 R1.ven.blk (by decide) rfl
   ·exact blkT h2 R1.ven.fl.pu (by decide) rfl
   ·exact blkT h2 (R1.ven.fl.it i hi) (by decide) rfl
   ·exact blkT h2 (R1.ven.fl.bk i hi).cell (by decide) rfl
   ·exact rowT (R1.ven.fl.bk i hi).row h2 (by decide) h1
   ·exact blkT h2 R1.ven.it.cell (by decide) rfl
   ·have:=R.qb c hc k h1;omega
   ·exact blkT h2 R1.ven.dk.cell (by decide) rfl
   ·exact R1.ven.dk.row.ne_type h2 (by decide) h1
 have hsv:=Save.setCell W2 q 1 v4
 have ht2:=Turned.setCell W2 q 1 v4
 have key:∀ {base:Nat} {e:TypeId} {sz n:Nat} {v:Value} {xs:List Value},W2.ownsRow base e sz v n xs→e≠183→(W2.setCell ⟨q,1,none⟩ v4).ownsRow base e sz v n xs:=fun {base e sz n v xs} hrr hne=>row_turned hrr ht2 (fun k hk e1=>by
  obtain ⟨_,cur,h2⟩:=row_block hrr hk
  exact blkT h2 hblk hne e1)
 refine ⟨⟨hv2.beside hblk (by decide) (by decide) (Nat.le_trans R.lob R.lo) hsv,?_,key hr (by decide),key (row_apart R1.pl R1.rp (by decide) hg) (by decide),R.lo,R.lob,?_,R.qb,R.all⟩,RFr.high ?_ B X⟩
 ·rw [block_setCell hblk];rfl
 ·exact Nat.le_trans R.hib (Nat.le_trans hb.size (Nat.le_trans hg.size (by simp)))
 ·exact (Turned.of_below hb _).trans (((Turned.of_grown hg).mono (S':=fun k=>b0≤k) (fun _ hk=>(row_block R1.pl hk.symm).1)).trans ht2 (fun _ e=>.inl (by rw [e];exact R.lo))) (fun _ hk=>.inl hk)
end
def RndAns (w:World) (b0:Nat) (W W':World) (B:Vb) (X:Vx) (wd h seed:Int) (S:Ve.St) (q:Nat) (r':Ve.Ro):Prop :=
 ∃ X' vp' vr',Rnd w b0 W' B X' wd h seed S q vp' vr' r'∧RFr W W' b0 B X X'
def TellAns (w:World) (b0:Nat) (W W':World) (B:Vb) (X:Vx) (wd h seed:Int) (S:Ve.St) (q:Nat) (vp vr:Value) (r':Ve.Ro):Prop :=
 ∃ vr',Rnd w b0 W' B X wd h seed S q vp vr' r'∧RFr W W' b0 B X X∧Turned W W' (fun k=>k = q∨vr.ownBlock = some k)
section
variable {w W W':World} {ad:Nat→Addr} {b0 q:Nat} {B:Vb} {X X' X2:Vx} {wd h seed:Int} {S:Ve.St} {vp vr:Value} {r:Ve.Ro}
theorem run_append_rep (W:World) (v:Value) (l:List Ve.Rep) (x:Ve.Rep) (hr:Reps W b0 v l) (hl:l.length≤100000) (hb:b0≤W.heap.size) :
  ∃ v' W',(Builtin.append_ #[42,42] 42 #[v,.slice (some ⟨W.heap.size,0,none⟩) 1 1]).run Tryz.prog (W.alloc (.cells (repA x) 50)) = .ok v' W'∧Reps W' b0 v' (l++[x])∧(W.alloc (.cells (repA x) 50)).grownBy W' v.ownBlock:=by
 obtain ⟨i0,z0,hi,hz0,hz1,hz2,hz3⟩:=info50
 obtain ⟨v4,w4,hap,hrow,hg,_,_⟩:=run_append_own_at (P:=Tryz.prog) (w:=W.alloc (.cells (repA x) 50)) b0 42 42 50 i0 z0 6 56 Tryz.underlying42 hi hz0 hz1 hz2 hz3 (by decide) v l.length (rflat l) (World.ownsRow.alloc hr _) ⟨W.heap.size,0,none⟩ 1 1 (repC x) rfl
  (fun j u hj=>cell_new6 W x 50 _ rfl j u hj) (repC_one x) (by unfold maxLen;omega) (by omega) (by simp;omega)
 refine ⟨v4,w4,hap,?_,hg⟩
 show w4.ownsRow b0 50 6 v4 (l++[x]).length (rflat (l++[x]))
 rw [rflat_append,List.length_append]
 simpa [rflat] using hrow
set_option maxHeartbeats 2000000 in
theorem tell_any (k:ByteArray) (x:Cv.Lot) (W:World) (R:Hid (Rnd w b0 W B X wd h seed S q vp vr r)) (hn:r.rp.length≤100000) :
  Calls Tryz.prog 129 #[.pointer (some ⟨q,0,none⟩),.string k,lotV x] W fun e w'=>e = .returned (.tuple #[])∧TellAns w b0 W w' B X wd h seed S q vp vr { r with rp:=r.rp++[Ve.tell k x] }:=by
 have hb1:Below W.heap.size W (W.alloc (.cells #[.int .i64 x.id,.int .i64 x.ow,.int .i64 x.sd,.int .i64 x.pr,.int .i64 x.q] 137)):=(Below.refl _ _).alloc (Nat.le_refl _) _
 have hb2:Below W.heap.size W (W.alloc (.cells #[.int .i64 x.id,.int .i64 x.ow,.int .i64 x.sd,.int .i64 x.pr,.int .i64 x.q] 137)).drew:=hb1.trans (drew_below'.mono (by simp))
 have hb3:Below W.heap.size W ((W.alloc (.cells #[.int .i64 x.id,.int .i64 x.ow,.int .i64 x.sd,.int .i64 x.pr,.int .i64 x.q] 137)).drew.alloc (.cells (repA (Ve.tell k x)) 50)):=hb2.alloc hb2.size _
 have hL1:=heap_alloc_new W (.cells #[.int .i64 x.id,.int .i64 x.ow,.int .i64 x.sd,.int .i64 x.pr,.int .i64 x.q] 137)
 have hL2:(W.alloc (.cells #[.int .i64 x.id,.int .i64 x.ow,.int .i64 x.sd,.int .i64 x.pr,.int .i64 x.q] 137)).drew.heap[W.heap.size]? = some (.cells #[.int .i64 x.id,.int .i64 x.ow,.int .i64 x.sd,.int .i64 x.pr,.int .i64 x.q] 137 (0,0)):=hL1
 have hL3:((W.alloc (.cells #[.int .i64 x.id,.int .i64 x.ow,.int .i64 x.sd,.int .i64 x.pr,.int .i64 x.q] 137)).drew.alloc (.cells (repA (Ve.tell k x)) 50)).heap[W.heap.size]? = some (.cells #[.int .i64 x.id,.int .i64 x.ow,.int .i64 x.sd,.int .i64 x.pr,.int .i64 x.q] 137 (0,0)):=by rw [Below.heap_alloc _ _ _ (by simp [World.drew])];exact hL2
 obtain ⟨v4,w4,hap,hrow,hg⟩:=run_append_rep (W.alloc (.cells #[.int .i64 x.id,.int .i64 x.ow,.int .i64 x.sd,.int .i64 x.pr,.int .i64 x.q] 137)).drew vr r.rp (Ve.tell k x) (R.out.later hb2).rp hn (R.out.later hb2).hib
 have hL4:w4.heap[W.heap.size]? = some (.cells #[.int .i64 x.id,.int .i64 x.ow,.int .i64 x.sd,.int .i64 x.pr,.int .i64 x.q] 137 (0,0)):=by
  rw [hg.block _ (lt_of_block hL3) (fun e=>?_)]
  ·exact hL3
  ·obtain ⟨_,cur,h2⟩:=row_block (R.out.later hb3).rp e.symm
   exact blkT h2 hL3 (by decide) rfl
 have hq4:w4.cell? ⟨q,2,none⟩ = some vr∧w4.frozen? ⟨q,2,none⟩ = false:=by
  have e:w4.heap[q]? = some (.cells #[.pointer (some ⟨B.F,0,none⟩),vp,vr] 183 (0,0)):=by
   rw [hg.block q (lt_of_block (R.out.later hb3).blk) (fun e=>?_)]
   ·exact (R.out.later hb3).blk
   ·obtain ⟨_,cur,h2⟩:=row_block (R.out.later hb3).rp e.symm
    exact blkT h2 (R.out.later hb3).blk (by decide) rfl
  exact ⟨by rw [cell_of_row _ _ _ _ _ _ e];rfl,by simp [World.frozen?,e]⟩
 obtain ⟨g1,g2⟩:=hq4
 have HT:=hide (R.out.told hb3 hg hrow)
 have q3:=(R.out.later hb3).cells.2.2
 have q2:=(R.out.later hb2).cells.2.2
 obtain ⟨a0,c0,hvr⟩:=row_form R.out.rp
 obtain ⟨a4,c4,hv4⟩:=row_form hrow
 rw [List.length_append,List.length_singleton] at hv4
 rw [hvr] at hap q3 q2 g1
 rw [hv4] at hap HT
 rw [show (W.alloc (.cells #[.int .i64 x.id,.int .i64 x.ow,.int .i64 x.sd,.int .i64 x.pr,.int .i64 x.q] 137)).drew.heap.size = W.heap.size + 1 by simp [World.drew]] at hap
 have HAP:=hide hap;have HL2:=hide hL2;have HL3:=hide hL3;have HL4:=hide hL4;have HQ3:=hide q3;have HQ4:=hide g1
 clear hap hrow hg hv4 hvr hL1 hL2 hL3 hL4 hb1 hb2 hb3 q3 g1
 have hql:q < W.heap.size:=R.out.lt
 generalize r.rp.length = m at *
 unfold Ve.tell at *
 unfold lotV repA at *
 go_enter Tryz.func129,Tryz.ntmps129
 go_wp2
 obtain ⟨XT,val,hcl,hmk⟩:=class_all (fun W'=>W'.heap[W.heap.size]? = some (.cells #[.int .i64 x.id,.int .i64 x.ow,.int .i64 x.sd,.int .i64 x.pr,.int .i64 x.q] 137 (0,0))∧W'.cell? ⟨q,2,none⟩ = some (.slice a0 m c0))
 obtain ⟨x0,hx0⟩:=hmk (W.alloc (.cells #[.int .i64 x.id,.int .i64 x.ow,.int .i64 x.sd,.int .i64 x.pr,.int .i64 x.q] 137)).drew ⟨HL2.out,q2⟩
 have hnx:Nonempty XT:=⟨x0⟩
 have s0:∀ x0,(val x0).cell? ⟨W.heap.size,0,none⟩ = some (.int .i64 x.id):=fun x0=>by rw [cell_of_row _ _ _ _ _ _ (hcl x0).1];rfl
 have s1:∀ x0,(val x0).cell? ⟨W.heap.size,1,none⟩ = some (.int .i64 x.ow):=fun x0=>by rw [cell_of_row _ _ _ _ _ _ (hcl x0).1];rfl
 have s2:∀ x0,(val x0).cell? ⟨W.heap.size,2,none⟩ = some (.int .i64 x.sd):=fun x0=>by rw [cell_of_row _ _ _ _ _ _ (hcl x0).1];rfl
 have s3:∀ x0,(val x0).cell? ⟨W.heap.size,3,none⟩ = some (.int .i64 x.pr):=fun x0=>by rw [cell_of_row _ _ _ _ _ _ (hcl x0).1];rfl
 have s4:∀ x0,(val x0).cell? ⟨W.heap.size,4,none⟩ = some (.int .i64 x.q):=fun x0=>by rw [cell_of_row _ _ _ _ _ _ (hcl x0).1];rfl
 have s8:∀ x0,(val x0).cell? ⟨q,2,none⟩ = some (.slice a0 m c0):=fun x0=>(hcl x0).2
 have M1:=hide (hmk _ ⟨HL3.out,HQ3.out⟩)
 have M3:=hide (hmk _ ⟨HL4.out,HQ4.out⟩)
 have hq4c:=HQ4.out
 clear hmk hcl
 refine region_many_last (val:=val) [15,16] 19 30 [0,1,2,3,4,5,6,7,8,9,10,11,12,13,14,15,16,17,18,19] (by kernel_rfl) (by kernel_rfl) x0 hx0 ?_
 rw [hx0]
 clear hx0
 iterate 15 (refine walkL_read rfl rfl (fun K hK=>?_);refine ⟨by rfl,?_⟩;unfold isRd;go_simp;refine hK _ ?_;clear hK K)
 refine walkL_call rfl rfl (fun K hK=>?_)
 refine ⟨by rfl,?_⟩
 unfold upM
 go_simp
 refine ⟨M1.out,hK _ _ ?_⟩
 clear hK K
 refine walkL_call rfl rfl (fun K hK=>?_)
 refine ⟨by rfl,?_⟩
 refine upM_append _ _ 42 rfl _ _ _ rfl rfl HAP.out ?_
 refine ⟨M3.out,hK _ _ ?_⟩
 clear hK K
 iterate 2 (refine walkL_read rfl rfl (fun K hK=>?_);refine ⟨by rfl,?_⟩;unfold isRd;go_simp;refine hK _ ?_;clear hK K)
 refine walkL_last rfl (fun K hK=>?_)
 refine ⟨by rfl,?_⟩
 unfold upM
 go_simp
 refine hK _ _ ?_
 clear hK K
 go_wp2
 go_end0
 exact ⟨rfl,_,HT.out.1,HT.out.2.1,HT.out.2.2⟩
set_option maxHeartbeats 2000000 in
theorem refuse_any (a:Ask) (d:Nat) (hd:d + 1≤12) (W:World) (hs:Hid (Sent w ad)) (R:Hid (Rnd w b0 W B X wd h seed S q vp vr r)) (hn:r.rp.length≤100000) :
  Calls Tryz.prog 158 #[.pointer (some ⟨q,0,none⟩),askV a,.iface 362 (.pointer (some (ad d)))] W fun e w'=>e = .returned (.tuple #[])∧TellAns w b0 W w' B X wd h seed S q vp vr { r with rp:=r.rp++[Ve.refu a.c a.id (d + 1)] }:=by
 have HF:Hid (∀ W',Below W.heap.size W W'→Calls Tryz.prog 85 #[.int .i64 a.c,.int .i64 a.id,.iface 362 (.pointer (some (ad d)))] W' fun e w'=>e = .returned (repV (Ve.refu a.c a.id (d + 1)))∧Below W'.heap.size W' w'):=fun W' hb=>refusal_any a.c a.id (d + 1) hd W' ((R.out.later hb).ven.sent hs.out)
 have hql:q < W.heap.size:=R.out.lt
 have HRE:Hid (∀ W',Below W.heap.size W W'→W'.heap[W.heap.size]? = some (.cells #[.int .u8 a.k,.int .i64 a.c,.int .i64 a.sq,.int .i64 a.it,.int .i64 a.sd,.int .i64 a.pr,.int .i64 a.q,.int .i64 a.id] 45 (0,0))→∃ v4 w4 a0 c0 a4 c4,(Builtin.append_ #[42,42] 42 #[.slice a0 r.rp.length c0,.slice (some ⟨W'.heap.size,0,none⟩) 1 1]).run Tryz.prog (W'.alloc (.cells (repA (Ve.refu a.c a.id (d + 1))) 50)) = .ok v4 w4∧vr = .slice a0 r.rp.length c0∧v4 = .slice a4 (r.rp.length + 1) c4∧(w4.heap[W.heap.size]? = some (.cells #[.int .u8 a.k,.int .i64 a.c,.int .i64 a.sq,.int .i64 a.it,.int .i64 a.sd,.int .i64 a.pr,.int .i64 a.q,.int .i64 a.id] 45 (0,0))∧w4.cell? ⟨q,2,none⟩ = some vr∧w4.frozen? ⟨q,2,none⟩ = false)∧(W'.alloc (.cells (repA (Ve.refu a.c a.id (d + 1))) 50)).heap[W.heap.size]? = some (.cells #[.int .u8 a.k,.int .i64 a.c,.int .i64 a.sq,.int .i64 a.it,.int .i64 a.sd,.int .i64 a.pr,.int .i64 a.q,.int .i64 a.id] 45 (0,0))∧(W'.alloc (.cells (repA (Ve.refu a.c a.id (d + 1))) 50)).cell? ⟨q,2,none⟩ = some vr∧Rnd w b0 (w4.setCell ⟨q,2,none⟩ v4) B X wd h seed S q vp v4 { r with rp:=r.rp++[Ve.refu a.c a.id (d + 1)] }∧RFr W (w4.setCell ⟨q,2,none⟩ v4) b0 B X X∧Turned W (w4.setCell ⟨q,2,none⟩ v4) (fun k=>k = q∨vr.ownBlock = some k)):=fun W' hb2 hL2=>by
  have hb3:Below W.heap.size W (W'.alloc (.cells (repA (Ve.refu a.c a.id (d + 1))) 50)):=hb2.alloc hb2.size _
  have hL3:(W'.alloc (.cells (repA (Ve.refu a.c a.id (d + 1))) 50)).heap[W.heap.size]? = some (.cells #[.int .u8 a.k,.int .i64 a.c,.int .i64 a.sq,.int .i64 a.it,.int .i64 a.sd,.int .i64 a.pr,.int .i64 a.q,.int .i64 a.id] 45 (0,0)):=by rw [Below.heap_alloc _ _ _ (lt_of_block hL2)];exact hL2
  obtain ⟨v4,w4,hap,hrow,hg⟩:=run_append_rep W' vr r.rp (Ve.refu a.c a.id (d + 1)) (R.out.later hb2).rp hn (R.out.later hb2).hib
  have hL4:w4.heap[W.heap.size]? = some (.cells #[.int .u8 a.k,.int .i64 a.c,.int .i64 a.sq,.int .i64 a.it,.int .i64 a.sd,.int .i64 a.pr,.int .i64 a.q,.int .i64 a.id] 45 (0,0)):=by
   rw [hg.block _ (lt_of_block hL3) (fun e=>?_)]
   ·exact hL3
   ·obtain ⟨_,cur,h2⟩:=row_block (R.out.later hb3).rp e.symm
    exact blkT h2 hL3 (by decide) rfl
  have hq4:w4.cell? ⟨q,2,none⟩ = some vr∧w4.frozen? ⟨q,2,none⟩ = false:=by
   have e:w4.heap[q]? = some (.cells #[.pointer (some ⟨B.F,0,none⟩),vp,vr] 183 (0,0)):=by
    rw [hg.block q (lt_of_block (R.out.later hb3).blk) (fun e=>?_)]
    ·exact (R.out.later hb3).blk
    ·obtain ⟨_,cur,h2⟩:=row_block (R.out.later hb3).rp e.symm
     exact blkT h2 (R.out.later hb3).blk (by decide) rfl
   exact ⟨by rw [cell_of_row _ _ _ _ _ _ e];rfl,by simp [World.frozen?,e]⟩
  obtain ⟨a0,c0,hvr⟩:=row_form R.out.rp
  obtain ⟨a4,c4,hv4⟩:=row_form hrow
  rw [List.length_append,List.length_singleton] at hv4
  exact ⟨v4,w4,a0,c0,a4,c4,by rw [← hvr];exact hap,hvr,hv4,⟨hL4,hq4.1,hq4.2⟩,hL3,(R.out.later hb3).cells.2.2,(R.out.told hb3 hg hrow).1,(R.out.told hb3 hg hrow).2⟩
 have hb1:Below W.heap.size W (W.alloc (.cells (askA a) 45)):=(Below.refl _ _).alloc (Nat.le_refl _) _
 have hb2:Below W.heap.size W (W.alloc (.cells (askA a) 45)).drew:=hb1.trans (drew_below'.mono (by simp))
 have hL2:(W.alloc (.cells (askA a) 45)).drew.heap[W.heap.size]? = some (.cells (askA a) 45 (0,0)):=heap_alloc_new W (.cells (askA a) 45)
 have q2:=(R.out.later hb2).cells.2.2
 have HB2:=hide hb2;have HL2:=hide hL2
 clear hb1 hb2 hL2
 unfold Ve.refu at *
 unfold askV askA repV repA at *
 obtain ⟨a0,c0,hvr⟩:=row_form R.out.rp
 go_enter Tryz.func158,Tryz.ntmps158
 go_wp2
 obtain ⟨XT,val,hcl,hmk⟩:=class_all (fun W'=>W'.heap[W.heap.size]? = some (.cells #[.int .u8 a.k,.int .i64 a.c,.int .i64 a.sq,.int .i64 a.it,.int .i64 a.sd,.int .i64 a.pr,.int .i64 a.q,.int .i64 a.id] 45 (0,0))∧W'.cell? ⟨q,2,none⟩ = some vr)
 obtain ⟨x0,hx0⟩:=hmk (W.alloc (.cells #[.int .u8 a.k,.int .i64 a.c,.int .i64 a.sq,.int .i64 a.it,.int .i64 a.sd,.int .i64 a.pr,.int .i64 a.q,.int .i64 a.id] 45)).drew ⟨HL2.out,q2⟩
 have hnx:Nonempty XT:=⟨x0⟩
 have s1:∀ x0,(val x0).cell? ⟨W.heap.size,1,none⟩ = some (.int .i64 a.c):=fun x0=>by rw [cell_of_row _ _ _ _ _ _ (hcl x0).1];rfl
 have s7:∀ x0,(val x0).cell? ⟨W.heap.size,7,none⟩ = some (.int .i64 a.id):=fun x0=>by rw [cell_of_row _ _ _ _ _ _ (hcl x0).1];rfl
 have s8:∀ x0,(val x0).cell? ⟨q,2,none⟩ = some (.slice a0 r.rp.length c0):=fun x0=>by rw [← hvr];exact (hcl x0).2
 have HMK:=hide hmk
 clear hmk hcl
 refine region_many_last (val:=val) [10,11,12] 15 30 [0,1,2,3,4,5,6,7,8,9,10,11,12,13,14,15] (by kernel_rfl) (by kernel_rfl) x0 hx0 ?_
 rw [hx0]
 clear hx0
 iterate 10 (refine walkL_read rfl rfl (fun K hK=>?_);refine ⟨by rfl,?_⟩;unfold isRd;go_simp;refine hK _ ?_;clear hK K)
 refine walkL_call rfl rfl (fun K hK=>?_)
 refine ⟨by rfl,?_⟩
 unfold upM
 go_simp
 refine (HF.out _ HB2.out).mono ?_
 rintro e w5 ⟨rfl,hb5⟩
 have hL5:=s_row_later hb5 HL2.out
 have hB5:=HB2.out.trans (hb5.mono HB2.out.size)
 obtain ⟨v4,w4,a0',c0',a4,c4,hap,hvr',hv4,⟨k1,k2,k3⟩,k4,k5,k6,k7⟩:=HRE.out w5 hB5 hL5
 rw [hvr] at hvr'
 simp only [Value.slice.injEq,true_and] at hvr'
 obtain ⟨rfl,rfl⟩:=hvr'
 refine ⟨_,rfl,HMK.out _ ⟨hL5,(R.out.later hB5).cells.2.2⟩,hK _ _ ?_⟩
 clear hK K
 have M1:=hide (HMK.out _ ⟨k4,k5⟩)
 have M3:=hide (HMK.out _ ⟨k1,k2⟩)
 have HK:=hide (And.intro k6 k7)
 have HAP:=hide hap
 rw [hv4] at HAP HK
 rw [hvr] at k2
 clear hap k1 k4 k5 k6 k7 hv4 hb5 hL5 hB5 HRE HF
 refine walkL_call rfl rfl (fun K hK=>?_)
 refine ⟨by rfl,?_⟩
 unfold upM
 go_simp
 refine ⟨M1.out,hK _ _ ?_⟩
 clear hK K
 refine walkL_call rfl rfl (fun K hK=>?_)
 refine ⟨by rfl,?_⟩
 refine upM_append _ _ 42 rfl _ _ _ rfl rfl HAP.out ?_
 refine ⟨M3.out,hK _ _ ?_⟩
 clear hK K
 iterate 2 (refine walkL_read rfl rfl (fun K hK=>?_);refine ⟨by rfl,?_⟩;unfold isRd;go_simp;refine hK _ ?_;clear hK K)
 refine walkL_last rfl (fun K hK=>?_)
 refine ⟨by rfl,?_⟩
 unfold upM
 go_simp
 refine hK _ _ ?_
 clear hK K
 go_wp2
 go_end0
 exact ⟨rfl,_,HK.out.1,HK.out.2.1,HK.out.2.2⟩
end
section
variable {w W W':World} {ad:Nat→Addr} {b0 q:Nat} {B:Vb} {X X' X2:Vx} {wd h seed:Int} {S:Ve.St} {vp vr:Value} {r:Ve.Ro}
theorem Rnd.fl (R:Rnd w b0 W B X wd h seed S q vp vr r):PFl w W B.F B.P B.I B.b X.v r.L r.pf r.n wd h:=R.ven.fl
theorem map_take_tell (k:ByteArray) {l:List Cv.Lot} {i:Nat} (hi:i < l.length):(l.take (i + 1)).map (Ve.tell k) = (l.take i).map (Ve.tell k)++[Ve.tell k (Cv.nth l i)]:=by
 rw [Fl.take_snoc hi,List.map_append];rfl
set_option maxHeartbeats 2000000 in
theorem rdrop_any (c:Nat) (W:World) (R:Hid (Rnd w b0 W B X wd h seed S q vp vr r)) (hs:Hid (Sent w ad)) (hn:r.rp.length≤50000) :
  Calls Tryz.prog 97 #[.pointer (some ⟨q,0,none⟩),.int .i64 c] W fun e w'=>e = .returned (.tuple #[])∧RndAns w b0 W w' B X wd h seed S q (Ve.dropR r c):=by
 have HD:=hide (drop_any (c:Int) R.out.fl hs.out.aer R.out.all.ok)
 have hlen:=Fl.dO_len (c:Int) r.L (fun i hi=>(R.out.all.ok.bk i hi).len) 3 (by decide)
 have HRR:Hid (Ve.dropR r c = { r with L:=Fl.dL c r.L 3,pf:=Fl.dF c r.L r.pf 3,rp:=r.rp++(Fl.dO c r.L 3).map (Ve.tell Ve.kGone) }):=rfl
 generalize Ve.dropR r c = rr at *
 have c0:=R.out.cells.1
 go_enter Tryz.func97,Tryz.ntmps97
 go_wp2_with fail
 refine HD.out.mono ?_
 rintro e w2 ⟨u,v',rfl,hrow,hf,hst,hok⟩
 obtain ⟨h1,h2,_⟩:=R.out.floor hf hst ⟨hok,R.out.all.band,R.out.all.rule⟩
 have H1:=hide h1;have H2:=hide h2;have HROW:=hide hrow
 have hb0:=R.out.hib
 clear hf hst hok h1 h2 HD
 obtain ⟨out,hout⟩:∃ out,Fl.dO (c:Int) r.L 3 = out:=⟨_,rfl⟩
 rw [hout] at HROW hlen HRR hrow
 obtain ⟨au,cu,hu⟩:=row_form hrow
 obtain ⟨m,hm⟩:∃ m,out.length = m:=⟨_,rfl⟩
 rw [hm] at HROW hlen hu
 have HM:=hide hm
 clear hrow hm hout
 subst hu
 simp only []
 go_wp2_with fail
 go_loopw [13] (fun kv wr=>∃ k vr',k≤m∧kv = .int .i64 k∧Rnd w b0 wr B { X with v:=v' } wd h seed S q vp vr' { r with L:=Fl.dL c r.L 3,pf:=Fl.dF c r.L r.pf 3,rp:=r.rp++(out.take k).map (Ve.tell Ve.kGone) }∧RFr W wr b0 B X { X with v:=v' }∧wr.ownsRow W.heap.size 137 5 (.slice au m cu) m (flat out)) (fun kv _=>m - (intOf kv).toNat)
 case atStart=>exact ⟨0,vr,by omega,rfl,by simpa using H1.out,H2.out,HROW.out⟩
 case round =>
  obtain ⟨k,vk,hk,rfl,hr,hfr,hrow⟩:=hrel
  have HR:=hide hr;have HF:=hide hfr;have HW:=hide hrow
  clear hr hfr
  by_cases hlt:k < m
  ·have hki:(k:Int) < m:=by omega
   have hkl:k < out.length:=by rw [HM.out];exact hlt
   obtain ⟨g,hg⟩:∃ g,au = some ⟨g,0,none⟩:=by
    rcases hrow.2 with ⟨e1,_⟩ | ⟨g,cap,cur,e1,_⟩
    ·cases e1;omega
    ·simp only [Value.slice.injEq] at e1;exact ⟨g,e1.1⟩
   subst hg
   obtain ⟨x0,x1,x2,x3,x4⟩:=lots_of_row hrow k hkl
   simp only [Nat.zero_add] at x0 x1 x2 x3 x4
   have hgl:g < wr.heap.size:=World.block_lt_of_cell? _ _ x0
   have HT:=hide (fun W' (hb:Below wr.heap.size wr W')=>tell_any Ve.kGone (Cv.nth out k) W' (HR.out.later hb) (by simp only [List.length_append,List.length_map,List.length_take];omega))
   have HN:=hide (map_take_tell Ve.kGone hkl)
   generalize Cv.nth out k = x at *
   clear hrow
   have HB:Hid (Below wr.heap.size wr (wr.alloc (.cells #[.int .i64 x.id,.int .i64 x.ow,.int .i64 x.sd,.int .i64 x.pr,.int .i64 x.q] 137))):=(Below.refl _ _).alloc (Nat.le_refl _) _
   unfold Ve.kGone lotV at HT
   go_wp2_with fail
   refine (HT.out _ HB.out).mono ?_
   rintro e w3 ⟨rfl,vr3,h3,h4,h5⟩
   have H3:=hide h3;have H4:=hide (HF.out.trans ((RFr.below HB.out b0 B _).trans h4))
   have H5:=hide ((HR.out.later HB.out).row h5 (row_later HW.out HB.out) (by decide) (by decide))
   clear h3 h4 h5 HT HB
   simp only []
   go_wp2
   refine ⟨⟨k + 1,vr3,hlt,by go_num,?_,H4.out,H5.out⟩,by simp [intOf];omega⟩
   rw [HN.out,← List.append_assoc]
   exact H3.out
  ·have hki:¬ (k:Int) < m:=by omega
   obtain rfl:k = m:=by omega
   go_wp2
   go_end0
   refine ⟨rfl,_,vp,vk,?_,HF.out⟩
   have:=HR.out
   rw [← HM.out,List.take_length] at this
   rw [HRR.out]
   exact this
end
namespace Fl
theorem kindN_le (a:Ask) (k:Int):kindN a k≤4:=by
 unfold kindN
 split
 ·decide
 ·unfold Wi.code
  split
  ·split
   ·split <;> decide
   ·decide
  ·decide
theorem placeC_le (L:Nat→List Cv.Lot) (pf:Nat→Int) (a:Ask):placeC L pf a≤9:=by
 have:=kindN_le a 111
 unfold placeC Pu.holdC
 (repeat' split) <;> omega
theorem canC_le (L:Nat→List Cv.Lot) (pf:Nat→Int) (a:Ask):canC L pf a≤9:=by
 have:=kindN_le a 99
 unfold canC Pu.freeC
 (repeat' split) <;> omega
end Fl
section
variable {w W W':World} {ad:Nat→Addr} {b0 q:Nat} {B:Vb} {X X' X2:Vx} {wd h seed:Int} {S:Ve.St} {vp vr:Value} {r:Ve.Ro}
theorem run_append_ask (W:World) (v:Value) (l:List Ask) (x:Ask) (hr:W.ownsRow b0 45 8 v l.length (aflat l)) (hl:l.length≤100000) (hb:b0≤W.heap.size) :
  ∃ v' W',(Builtin.append_ #[39,39] 39 #[v,.slice (some ⟨W.heap.size,0,none⟩) 1 1]).run Tryz.prog (W.alloc (.cells (askA x) 45)) = .ok v' W'∧W'.ownsRow b0 45 8 v' (l++[x]).length (aflat (l++[x]))∧(W.alloc (.cells (askA x) 45)).grownBy W' v.ownBlock:=by
 obtain ⟨i0,z0,hi,hz0,hz1,hz2,hz3⟩:=info30
 obtain ⟨v4,w4,hap,hrow,hg,_,_⟩:=run_append_own_at (P:=Tryz.prog) (w:=W.alloc (.cells (askA x) 45)) b0 39 39 45 i0 z0 8 64 Tryz.underlying39 hi hz0 hz1 hz2 hz3 (by decide) v l.length (aflat l) (World.ownsRow.alloc hr _) ⟨W.heap.size,0,none⟩ 1 1 (askC x) rfl
  (fun j u hj=>cell_new8 W x 45 _ rfl j u hj) (fun u hu=>aflat_one [x] u (by simpa [aflat] using hu)) (by unfold maxLen;omega) (by omega) (by simp;omega)
 refine ⟨v4,w4,hap,?_,hg⟩
 rw [aflat_append,List.length_append]
 simpa [aflat] using hrow
set_option maxHeartbeats 2000000 in
theorem rplace_any (a:Ask) (W:World) (R:Hid (Rnd w b0 W B X wd h seed S q vp vr r)) (hs:Hid (Sent w ad)) (hn:r.rp.length≤100000) (hp:r.pl.length≤100000) :
  Calls Tryz.prog 130 #[.pointer (some ⟨q,0,none⟩),askV a] W fun e w'=>e = .returned (.tuple #[])∧RndAns w b0 W w' B X wd h seed S q (Ve.placeR r a):=by
 have HP:Hid (∀ W',Below W.heap.size W W'→Calls Tryz.prog 157 #[.pointer (some ⟨B.F,0,none⟩),askV a] W' fun e w'=>e = .returned (errE (adE ad) (Fl.placeC r.L r.pf a))∧∃ X',Rnd w b0 w' B X' wd h seed S q vp vr { r with L:=Fl.placeL r.L r.pf a,pf:=Fl.placeF r.L r.pf a }∧RFr W' w' b0 B X X'∧Turned W' w' (fun k=>fown B X k)):=fun W' hb=>by
  have R':=R.out.later hb
  refine (place_any a R'.fl hs.out.aer R'.all.ok).mono ?_
  rintro e w' ⟨rfl,v',h1,h2⟩
  exact ⟨rfl,_,R'.floor h1 h2 ⟨R'.all.ok.place a,R'.all.band,R'.all.rule⟩⟩
 have hle:=Fl.placeC_le r.L r.pf a
 have HRR:Hid (Ve.placeR r a = { r with L:=Fl.placeL r.L r.pf a,pf:=Fl.placeF r.L r.pf a,pl:=if Fl.placeC r.L r.pf a = 0 then r.pl++[a] else r.pl,rp:=if Fl.placeC r.L r.pf a = 0 then r.rp else r.rp++[Ve.refu a.c a.id (Fl.placeC r.L r.pf a + 1)] }):=rfl
 generalize Ve.placeR r a = rr at *
 generalize Fl.placeC r.L r.pf a = pc at *
 generalize Fl.placeL r.L r.pf a = pL at *
 generalize Fl.placeF r.L r.pf a = pF at *
 have hb1:Below W.heap.size W (W.alloc (.cells (askA a) 45)):=(Below.refl _ _).alloc (Nat.le_refl _) _
 have hb2:Below W.heap.size W (W.alloc (.cells (askA a) 45)).drew:=hb1.trans (drew_below'.mono (by simp))
 have hA:(W.alloc (.cells (askA a) 45)).drew.heap[W.heap.size]? = some (.cells (askA a) 45 (0,0)):=heap_alloc_new W (.cells (askA a) 45)
 have HB2:=hide hb2;have HA:=hide hA
 have c0:=R.out.cells.1
 have hql:=R.out.lt
 have ho:∀ k,fown B X k→k < W.heap.size:=fun k hk=>fown_lt R.out.ven hk
 clear hb1 hb2 hA
 cases pc with
 | succ d =>
  rw [show errE (adE ad) (d + 1) = .iface 362 (.pointer (some (ad (d + 1)))) from rfl] at HP
  rw [if_neg (by omega),if_neg (by omega)] at HRR
  unfold askV askA at *
  go_enter Tryz.func130,Tryz.ntmps130
  go_wp2_with fail
  go_region_with (go_at_call 157;refine (HP.out _ HB2.out).mono ?_;rintro e w2 ⟨rfl,X2,h1,h2,h3⟩;have H1:=hide h1;have H2:=hide h2;have HA2:=hide ((h3.block W.heap.size (lt_of_block HA.out) (fun e=>by have:=ho _ e;omega)).trans HA.out);clear h1 h2 h3)
  all_goals
   have e0:w2.cell? ⟨W.heap.size,0,none⟩ = some (.int .u8 a.k):=by rw [cell_of_row _ _ _ _ _ _ HA2.out];rfl
   have e1:w2.cell? ⟨W.heap.size,1,none⟩ = some (.int .i64 a.c):=by rw [cell_of_row _ _ _ _ _ _ HA2.out];rfl
   have e2:w2.cell? ⟨W.heap.size,2,none⟩ = some (.int .i64 a.sq):=by rw [cell_of_row _ _ _ _ _ _ HA2.out];rfl
   have e3:w2.cell? ⟨W.heap.size,3,none⟩ = some (.int .i64 a.it):=by rw [cell_of_row _ _ _ _ _ _ HA2.out];rfl
   have e4:w2.cell? ⟨W.heap.size,4,none⟩ = some (.int .i64 a.sd):=by rw [cell_of_row _ _ _ _ _ _ HA2.out];rfl
   have e5:w2.cell? ⟨W.heap.size,5,none⟩ = some (.int .i64 a.pr):=by rw [cell_of_row _ _ _ _ _ _ HA2.out];rfl
   have e6:w2.cell? ⟨W.heap.size,6,none⟩ = some (.int .i64 a.q):=by rw [cell_of_row _ _ _ _ _ _ HA2.out];rfl
   have e7:w2.cell? ⟨W.heap.size,7,none⟩ = some (.int .i64 a.id):=by rw [cell_of_row _ _ _ _ _ _ HA2.out];rfl
   have HF:=hide (refuse_any a (d + 1) (by omega) w2 hs H1.out hn)
   unfold askV askA at HF
   go_wp2_with fail
   refine HF.out.mono ?_
   rintro e w3 ⟨rfl,vr3,h3,h4,_⟩
   have H3:=hide h3;have H4:=hide (((RFr.below HB2.out b0 B X).trans H2.out).trans h4)
   clear h3 h4
   simp only []
   go_wp2
   refine bodyPost_ret (v:=.tuple #[]) (by simp [results,Tryz.results130]) rfl ?_
   exact ⟨rfl,X2,vp,vr3,by rw [HRR.out];exact H3.out,H4.out⟩
 | zero =>
  rw [show errE (adE ad) 0 = .nilIface from rfl] at HP
  rw [if_pos rfl,if_pos rfl] at HRR
  unfold askV askA at *
  go_enter Tryz.func130,Tryz.ntmps130
  go_wp2_with fail
  go_region_with (go_at_call 157;refine (HP.out _ HB2.out).mono ?_;rintro e w2 ⟨rfl,X2,h1,h2,h3⟩;have H1:=hide h1;have H2:=hide h2;have HA2:=hide ((h3.block W.heap.size (lt_of_block HA.out) (fun e=>by have:=ho _ e;omega)).trans HA.out);clear h1 h2 h3)
  all_goals
   have hb3:Below w2.heap.size w2 (w2.drew.alloc (.cells (askA a) 45)):=drew_below'.alloc drew_below'.size _
   have hA3:=s_row_later hb3 HA2.out
   obtain ⟨v4,w4,hap,hrow,hg⟩:=run_append_ask w2.drew vp r.pl a (H1.out.later drew_below').pl hp (H1.out.later drew_below').hib
   have R3:=H1.out.later hb3
   have hb0:=R.out.hib
   have hA4:w4.heap[W.heap.size]? = some (.cells #[.int .u8 a.k,.int .i64 a.c,.int .i64 a.sq,.int .i64 a.it,.int .i64 a.sd,.int .i64 a.pr,.int .i64 a.q,.int .i64 a.id] 45 (0,0)):=by
    rw [hg.block _ (lt_of_block hA3) (fun e=>?_)]
    ·exact hA3
    ·have:=(R.out.pl.lt _ e.symm).2
     omega
   have hq4:w4.cell? ⟨q,1,none⟩ = some vp∧w4.frozen? ⟨q,1,none⟩ = false:=by
    have e:w4.heap[q]? = some (.cells #[.pointer (some ⟨B.F,0,none⟩),vp,vr] 183 (0,0)):=by
     rw [hg.block q (lt_of_block R3.blk) (fun e=>?_)]
     ·exact R3.blk
     ·obtain ⟨_,cur,h2⟩:=row_block R3.pl e.symm
      exact blkT h2 R3.blk (by decide) rfl
    exact ⟨by rw [cell_of_row _ _ _ _ _ _ e];rfl,by simp [World.frozen?,e]⟩
   obtain ⟨g1,g2⟩:=hq4
   have HT:=hide (H1.out.listed hb3 hg hrow)
   have q3:=R3.cells.2.1
   have q2:=(H1.out.later drew_below').cells.2.1
   obtain ⟨a0,c0',hvp⟩:=row_form H1.out.pl
   obtain ⟨a4,c4,hv4⟩:=row_form hrow
   rw [List.length_append,List.length_singleton] at hv4
   have hvp:vp = .slice a0 r.pl.length c0':=hvp
   rw [hvp] at hap q3 q2 g1
   rw [hv4] at hap HT
   rw [show w2.drew.heap.size = w2.heap.size from rfl] at hap
   have HAP:=hide hap;have HA3:=hide hA3;have HA4:=hide hA4;have HQ3:=hide q3;have HQ4:=hide g1
   have HA2d:Hid (w2.drew.heap[W.heap.size]? = some (.cells #[.int .u8 a.k,.int .i64 a.c,.int .i64 a.sq,.int .i64 a.it,.int .i64 a.sd,.int .i64 a.pr,.int .i64 a.q,.int .i64 a.id] 45 (0,0))):=HA2.out
   clear hap hrow hg hv4 hvp hA3 hA4 hb3 R3 q3 g1
   generalize r.pl.length = m at *
   unfold askA at *
   have hqw:q < w2.heap.size:=H1.out.lt
   have e0:w2.cell? ⟨W.heap.size,0,none⟩ = some (.int .u8 a.k):=by rw [cell_of_row _ _ _ _ _ _ HA2.out];rfl
   have e1:w2.cell? ⟨W.heap.size,1,none⟩ = some (.int .i64 a.c):=by rw [cell_of_row _ _ _ _ _ _ HA2.out];rfl
   have e2:w2.cell? ⟨W.heap.size,2,none⟩ = some (.int .i64 a.sq):=by rw [cell_of_row _ _ _ _ _ _ HA2.out];rfl
   have e3:w2.cell? ⟨W.heap.size,3,none⟩ = some (.int .i64 a.it):=by rw [cell_of_row _ _ _ _ _ _ HA2.out];rfl
   have e4:w2.cell? ⟨W.heap.size,4,none⟩ = some (.int .i64 a.sd):=by rw [cell_of_row _ _ _ _ _ _ HA2.out];rfl
   have e5:w2.cell? ⟨W.heap.size,5,none⟩ = some (.int .i64 a.pr):=by rw [cell_of_row _ _ _ _ _ _ HA2.out];rfl
   have e6:w2.cell? ⟨W.heap.size,6,none⟩ = some (.int .i64 a.q):=by rw [cell_of_row _ _ _ _ _ _ HA2.out];rfl
   have e7:w2.cell? ⟨W.heap.size,7,none⟩ = some (.int .i64 a.id):=by rw [cell_of_row _ _ _ _ _ _ HA2.out];rfl
   go_wp2
   clear e0 e1 e2 e3 e4 e5 e6 e7
   obtain ⟨XT,val,hcl,hmk⟩:=class_all (fun W'=>W'.heap[W.heap.size]? = some (.cells #[.int .u8 a.k,.int .i64 a.c,.int .i64 a.sq,.int .i64 a.it,.int .i64 a.sd,.int .i64 a.pr,.int .i64 a.q,.int .i64 a.id] 45 (0,0))∧W'.cell? ⟨q,1,none⟩ = some (.slice a0 m c0'))
   obtain ⟨x0,hx0⟩:=hmk w2.drew ⟨HA2d.out,q2⟩
   have hnx:Nonempty XT:=⟨x0⟩
   have s0:∀ x0,(val x0).cell? ⟨W.heap.size,0,none⟩ = some (.int .u8 a.k):=fun x0=>by rw [cell_of_row _ _ _ _ _ _ (hcl x0).1];rfl
   have s1:∀ x0,(val x0).cell? ⟨W.heap.size,1,none⟩ = some (.int .i64 a.c):=fun x0=>by rw [cell_of_row _ _ _ _ _ _ (hcl x0).1];rfl
   have s2:∀ x0,(val x0).cell? ⟨W.heap.size,2,none⟩ = some (.int .i64 a.sq):=fun x0=>by rw [cell_of_row _ _ _ _ _ _ (hcl x0).1];rfl
   have s3:∀ x0,(val x0).cell? ⟨W.heap.size,3,none⟩ = some (.int .i64 a.it):=fun x0=>by rw [cell_of_row _ _ _ _ _ _ (hcl x0).1];rfl
   have s4:∀ x0,(val x0).cell? ⟨W.heap.size,4,none⟩ = some (.int .i64 a.sd):=fun x0=>by rw [cell_of_row _ _ _ _ _ _ (hcl x0).1];rfl
   have s5:∀ x0,(val x0).cell? ⟨W.heap.size,5,none⟩ = some (.int .i64 a.pr):=fun x0=>by rw [cell_of_row _ _ _ _ _ _ (hcl x0).1];rfl
   have s6:∀ x0,(val x0).cell? ⟨W.heap.size,6,none⟩ = some (.int .i64 a.q):=fun x0=>by rw [cell_of_row _ _ _ _ _ _ (hcl x0).1];rfl
   have s7:∀ x0,(val x0).cell? ⟨W.heap.size,7,none⟩ = some (.int .i64 a.id):=fun x0=>by rw [cell_of_row _ _ _ _ _ _ (hcl x0).1];rfl
   have s8:∀ x0,(val x0).cell? ⟨q,1,none⟩ = some (.slice a0 m c0'):=fun x0=>(hcl x0).2
   have M1:=hide (hmk _ ⟨HA3.out,HQ3.out⟩)
   have M3:=hide (hmk _ ⟨HA4.out,HQ4.out⟩)
   have hq4c:=HQ4.out
   clear hmk hcl
   refine region_many_last (val:=val) [6,7] 10 30 [0,1,2,3,4,5,6,7,8,9,10] (by kernel_rfl) (by kernel_rfl) x0 hx0 ?_
   rw [hx0]
   clear hx0
   iterate 6 (refine walkL_read rfl rfl (fun K hK=>?_);refine ⟨by rfl,?_⟩;unfold isRd;go_simp;refine hK _ ?_;clear hK K)
   refine walkL_call rfl rfl (fun K hK=>?_)
   refine ⟨by rfl,?_⟩
   unfold upM
   go_simp
   refine ⟨M1.out,hK _ _ ?_⟩
   clear hK K
   refine walkL_call rfl rfl (fun K hK=>?_)
   refine ⟨by rfl,?_⟩
   refine upM_append _ _ 39 rfl _ _ _ rfl rfl HAP.out ?_
   refine ⟨M3.out,hK _ _ ?_⟩
   clear hK K
   iterate 2 (refine walkL_read rfl rfl (fun K hK=>?_);refine ⟨by rfl,?_⟩;unfold isRd;go_simp;refine hK _ ?_;clear hK K)
   refine walkL_last rfl (fun K hK=>?_)
   refine ⟨by rfl,?_⟩
   unfold upM
   go_simp
   refine hK _ _ ?_
   clear hK K
   go_wp2
   go_end0
   exact ⟨rfl,X2,_,vr,by rw [HRR.out];exact HT.out.1,((RFr.below HB2.out b0 B X).trans H2.out).trans HT.out.2⟩
end
end Go.Proofs.YtidahfhingdlmaaGreatDoor
