/- Total of a purse by its contract. -/
import Derived.Test.YtidahfhingdlmaaGreatDoorU16
import Derived.Test.YtidahfhingdlmaaGreatDoorU02
namespace Go.Proofs.YtidahfhingdlmaaGreatDoor
open Go.RowKit
set_option maxRecDepth 100000
def Tri (w:World) (B:Nat) (a b c:Int):Prop:=w.heap[B]? = some (.cells #[.int .i64 a,.int .i64 b,.int .i64 c] 53 (0,0))
theorem Tri.lt {w:World} {B:Nat} {a b c:Int} (h:Tri w B a b c):B < w.heap.size:=lt_of_block h
theorem Tri.later {w w':World} {B n:Nat} {a b c:Int} (h:Tri w B a b c) (hb:Below n w w') (hn:B < n):Tri w' B a b c:=(hb.block B hn).trans h
theorem Tri.lat {w w':World} {B:Nat} {a b c:Int} (h:Tri w B a b c) (hb:Below w.heap.size w w'):Tri w' B a b c:=h.later hb h.lt
theorem Tri.c0 {w:World} {B:Nat} {a b c:Int} (h:Tri w B a b c):w.cell? ⟨B,0,none⟩ = some (.int .i64 a):=p_hs_cell h rfl
theorem Tri.c1 {w:World} {B:Nat} {a b c:Int} (h:Tri w B a b c):w.cell? ⟨B,1,none⟩ = some (.int .i64 b):=p_hs_cell h rfl
theorem Tri.c2 {w:World} {B:Nat} {a b c:Int} (h:Tri w B a b c):w.cell? ⟨B,2,none⟩ = some (.int .i64 c):=p_hs_cell h rfl
theorem Tri.fr {w:World} {B:Nat} {a b c:Int} (h:Tri w B a b c) (j:Nat):w.frozen? ⟨B,j,none⟩ = false:=hs_free h
theorem Tri.s0 {w:World} {B:Nat} {a b c:Int} (h:Tri w B a b c) (v:Int):Tri (w.setCell ⟨B,0,none⟩ (.int .i64 v)) B v b c:=p_hs_set _ h rfl
theorem Tri.s1 {w:World} {B:Nat} {a b c:Int} (h:Tri w B a b c) (v:Int):Tri (w.setCell ⟨B,1,none⟩ (.int .i64 v)) B a v c:=p_hs_set _ h rfl
theorem Tri.s2 {w:World} {B:Nat} {a b c:Int} (h:Tri w B a b c) (v:Int):Tri (w.setCell ⟨B,2,none⟩ (.int .i64 v)) B a b v:=p_hs_set _ h rfl
theorem row_part (f:Nat→Int) (m:Nat) (h:m < 6):(p_row f).extract (m * 8) (m * 8 + 8) = #[.int .i64 (f (m * 8)),.int .i64 (f (m * 8 + 1)),.int .i64 (f (m * 8 + 2)),.int .i64 (f (m * 8 + 3)),.int .i64 (f (m * 8 + 4)),.int .i64 (f (m * 8 + 5)),.int .i64 (f (m * 8 + 6)),.int .i64 (f (m * 8 + 7))]:=by
 apply Array.ext_getElem?
 intro j
 rw [Array.getElem?_extract,p_row_size]
 by_cases hj:j < 8
 ·rw [if_pos (by omega),p_row_at f (by omega)]
  have:j = 0∨j = 1∨j = 2∨j = 3∨j = 4∨j = 5∨j = 6∨j = 7:=by omega
  rcases this with rfl | rfl | rfl | rfl | rfl | rfl | rfl | rfl <;> rfl
 ·rw [if_neg (by omega)]
  symm
  exact Array.getElem?_eq_none (by simp;omega)
theorem index53 (f:Nat→Int) (m:Nat) (h:m < 6) (w:World):(Instr.index 129 (.agg (p_row f)) (.int .i64 m)).run Tryz.prog w = .ok (hasV f m) w:=by
 unfold Instr.index
 have h1:(m:Int) < 6:=by omega
 have h0:(0:Int)≤m:=by omega
 simp only [Sem.run_bind,run_underlying Tryz.underlying129,go_sem,Result.andThen_ok,Sem.run_pure]
 rw [if_pos ⟨h0,h1⟩]
 simp only [Sem.run_bind,Tryz.sizeOf65,Tryz.isAgg65,Result.andThen_ok,if_true,Sem.run_pure,Int.toNat_natCast]
 rw [row_part f m h]
 rfl
def triV (a b c:Int):Value:=.agg #[.int .i64 a,.int .i64 b,.int .i64 c]
set_option maxHeartbeats 2000000 in
theorem total_any (p:Nat) (f:Nat→Int) (w:World) (hp:Hid (Purse w 131 p f)) (hg:Hid (Pu.Good f)) :
  Calls Tryz.prog 21 #[.pointer (some ⟨p,0,none⟩)] w fun e w'=>e = .returned (.tuple #[.int .i64 (Pu.cashes f 6),triV (Pu.stocks f 0 6) (Pu.stocks f 1 6) (Pu.stocks f 2 6)])∧Below w.heap.size w w':=by
 have i53:=fun m h=>index53 f m h
 have I53:=hide i53
 have hpl:=hp.out.lt
 obtain ⟨W1,hW1⟩:∃ W1,w.alloc (.cells #[.int .i64 0,.int .i64 0,.int .i64 0] 53) = W1:=⟨_,rfl⟩
 have hb1:Below w.heap.size w W1:=by rw [← hW1];exact (Below.refl _ _).alloc (Nat.le_refl _) _
 have ht1:Tri W1 w.heap.size 0 0 0:=by rw [← hW1];exact heap_alloc_new _ _
 have HP1:=hide (hp.out.lat hb1)
 have HB1:=hide hb1
 have HT1:=hide ht1
 have HW1:=hide hW1
 clear hb1 ht1 hW1 i53
 go_enter Tryz.func21,Tryz.ntmps21
 go_wp2_with (guard_target =~ wpList _ _ _ ({ dst:=_,op:=Op.load 129 _,type:=_,pos:=_,after:=_,guard:=_ } :: _) _ _;rw [HW1.out];refine wpList_load53 (B:=p) (f:=f) HP1.out rfl (.tmp 10) rfl rfl ?_)
 go_loopw [2,12] (fun cs i wr=>∃ (m:Nat),m≤6∧i = .int .i64 m∧cs = .int .i64 (Pu.cashes f m)∧Tri wr w.heap.size (Pu.stocks f 0 m) (Pu.stocks f 1 m) (Pu.stocks f 2 m)∧Below w.heap.size w wr) (fun _ i _=>6 - (intOf i).toNat)
 case atStart=>exact ⟨0,by decide,rfl,rfl,HT1.out,HB1.out⟩
 case round =>
  obtain ⟨m,hm,rfl,rfl,ht,hb⟩:=hrel
  have HT:=hide ht;have HB:=hide hb
  clear ht hb HT1 HB1 HP1 HW1
  by_cases hm6:m < 6
  ·have hmi:(m:Int) < 6:=by omega
   have ix:=I53.out m hm6
   unfold hasV at ix
   have g1:=hg.out.cash m hm6
   have g2:=hg.out.stock m 0 hm6 (by decide)
   have g3:=hg.out.stock m 1 hm6 (by decide)
   have g4:=hg.out.stock m 2 hm6 (by decide)
   have b1:=Pu.cashes_bound hg.out m hm
   have b2:=Pu.stocks_bound hg.out (j:=0) (by decide) m hm
   have b3:=Pu.stocks_bound hg.out (j:=1) (by decide) m hm
   have b4:=Pu.stocks_bound hg.out (j:=2) (by decide) m hm
   have HS:Hid (Pu.cashes f (m + 1) = Pu.cashes f m + f (m * 8)∧Pu.stocks f 0 (m + 1) = Pu.stocks f 0 m + f (m * 8 + 2)∧Pu.stocks f 1 (m + 1) = Pu.stocks f 1 m + f (m * 8 + 3)∧Pu.stocks f 2 (m + 1) = Pu.stocks f 2 m + f (m * 8 + 4)):=⟨rfl,rfl,rfl,rfl⟩
   simp only [Nat.add_zero,Nat.add_assoc,Nat.reduceAdd] at g1 g2 g3 g4
   have hm6':(m:Int)≤6:=by omega
   have t0:=HT.out.c0
   have t1:=HT.out.c1
   have t2:=HT.out.c2
   have f0:=HT.out.fr 0
   have f1:=HT.out.fr 1
   have f2:=HT.out.fr 2
   have hwl:w.heap.size < wr.heap.size:=HT.out.lt
   generalize Pu.cashes f m = co at *
   generalize Pu.stocks f 0 m = o0 at *
   generalize Pu.stocks f 1 m = o1 at *
   generalize Pu.stocks f 2 m = o2 at *
   generalize f (m * 8) = v0 at *
   generalize f (m * 8 + 1) = v1 at *
   generalize f (m * 8 + 2) = v2 at *
   generalize f (m * 8 + 3) = v3 at *
   generalize f (m * 8 + 4) = v4 at *
   generalize f (m * 8 + 5) = v5 at *
   generalize f (m * 8 + 6) = v6 at *
   generalize f (m * 8 + 7) = v7 at *
   have i0:=@ix0
   have i1:=@ix1
   have i2:=@ix2
   go_wp2_with fail
   refine wp_loop_rounds 4 ?_
   rw [rounds_succ]
   go_wp2_with fail
   rw [rounds_succ]
   go_wp2_with fail
   rw [rounds_succ]
   go_wp2_with fail
   rw [rounds_succ]
   go_wp2
   refine ⟨⟨m + 1,by omega,by go_num,by rw [HS.out.1],?_,?_⟩,by simp [intOf];omega⟩
   ·rw [HS.out.2.1,HS.out.2.2.1,HS.out.2.2.2]
    exact (((HT.out.s0 _).s1 _).s2 _).lat ((Below.refl _ _).alloc (Nat.le_refl _) _)
   ·have hb3:Below w.heap.size w (((wr.setCell ⟨w.heap.size,0,none⟩ (.int .i64 (o0 + v2))).setCell ⟨w.heap.size,1,none⟩ (.int .i64 (o1 + v3))).setCell ⟨w.heap.size,2,none⟩ (.int .i64 (o2 + v4))):=((HB.out.setCell (Nat.le_refl _) _).setCell (Nat.le_refl _) _).setCell (Nat.le_refl _) _
    exact hb3.alloc hb3.size _
  ·have hmi:¬ (m:Int) < 6:=by omega
   have hme:m = 6:=by omega
   subst hme
   have t0:=HT.out.c0
   have t1:=HT.out.c1
   have t2:=HT.out.c2
   have f0:=HT.out.fr 0
   have f1:=HT.out.fr 1
   have f2:=HT.out.fr 2
   go_wp2
   refine region_quiet_tail 3 (by kernel_rfl) (by kernel_rfl) ?_
   simp only [List.take_succ_cons,List.take_zero,List.drop_succ_cons,List.drop_zero]
   repeat (first | go_big_quiet_step (fail) | quiet_step (fail))
   refine wpQuiet_nil ?_
   intro _ hw'
   obtain ⟨nq,hw''⟩:=hw'
   subst hw''
   go_wp2
   refine bodyPost_ret (v:=.tuple #[.int .i64 (Pu.cashes f 6),triV (Pu.stocks f 0 6) (Pu.stocks f 1 6) (Pu.stocks f 2 6)]) (by simp [results,Tryz.results21,go_sem,triV,t0,t1,t2]) rfl ⟨rfl,?_⟩
   exact (((HB.out.trans ((blw_drew nq).mono HB.out.size)).setCell (Nat.le_refl _) _).setCell (Nat.le_refl _) _).setCell (Nat.le_refl _) _
end Go.Proofs.YtidahfhingdlmaaGreatDoor
