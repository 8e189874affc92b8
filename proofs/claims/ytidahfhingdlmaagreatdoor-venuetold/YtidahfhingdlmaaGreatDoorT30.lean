/- How a disk is written, and a record appended to it: which blocks turn. -/
import Derived.Test.YtidahfhingdlmaaGreatDoorT29
import Derived.Test.YtidahfhingdlmaaGreatDoorT27
namespace Go.Proofs.YtidahfhingdlmaaGreatDoor
open Go.RowKit
set_option maxRecDepth 100000
structure Dsk (W:World) (base p:Nat) (v:Value) (l:List UInt8) (cut:Bool) (left:Int):Prop where
 cell:W.heap[p]? = some (.cells #[v,.bool cut,.int .i64 left] 142 (0,0))
 row:RowM W base v (ints l)
 lo:base≤p
structure DFr (w w':World) (p:Nat) (v v':Value):Prop where
 turned:Turned w w' (fun k=>k = p∨v.ownBlock = some k)
 new:∀ k,v'.ownBlock = some k→v.ownBlock = some k∨w.heap.size≤k
theorem Dsk.grown {w w':World} {base p:Nat} {l ys:List UInt8} {v v':Value} {cut:Bool} {left:Int} (hd:Dsk w base p v l cut left)
  (hr':RowM w' base v' (ints l++ints ys)) (hg:w.grownBy w' v.ownBlock):Dsk (w'.setCell ⟨p,0,none⟩ v') base p v' (l++ys) cut left∧Turned w (w'.setCell ⟨p,0,none⟩ v') (fun k=>k = p∨v.ownBlock = some k):=by
 have hp':w'.heap[p]? = some (.cells #[v,.bool cut,.int .i64 left] 142 (0,0)):=by
  rw [hg.block p (Array.getElem?_eq_some_iff.1 hd.cell).1 (hd.row.other hd.cell)];exact hd.cell
 refine ⟨⟨?_,?_,hd.lo⟩,?_⟩
 ·rw [heap_setCell_same w' p 0 _ 142 v' hp'];rfl
 ·rw [ints_append];exact hr'.setCell hp' _
 ·exact ((Turned.of_grown hg).mono (fun k hk=>.inr hk.symm)).trans (Turned.setCell w' p 0 v') (fun k hk=>.inl (.inl hk))
theorem step_append_mark {w:World} {ops:Array Oper} {o:Oper} {a:Act} {K:Act→World→Prop} {Q:Exit→Act→World→Prop} {E:Prop} (hgd:o.guard = none) (s x:Operand)
  (ho:o.op = .call { callee:=.builtin .append,args:=#[s,x],argTypes:=#[140,140] })
  (base:Nat) (v:Value) (xs:List Int) (hs:a.eval s = v) (hown:RowM w base v xs)
  (ad:Addr) (m c:Nat) (ys:List Int) (hx:a.eval x = .slice (some ad) m c) (hl:ys.length = m) (hnews:∀ j u,(ys.map (Value.int .u8))[j]? = some u→w.cell? (ad.add j) = some u)
  (hsz:xs.length + m≤10000000) (hbase:base≤w.heap.size)
  (h:∀ g' cap' w',RowM w' base (.slice (some ⟨g',0,none⟩) (xs.length + m) cap') (xs++ys)→w.grownBy w' v.ownBlock→(∀ k,(Value.slice (some ⟨g',0,none⟩) (xs.length + m) cap').ownBlock = some k→v.ownBlock = some k∨w.heap.size≤k)→K (a.put o.dst (.slice (some ⟨g',0,none⟩) (xs.length + m) cap')) w') :
  if Region.wanted o (yielded ops a.tmps) = true then Oper.wp Tryz.prog o a w K Q else E:=by
 have hw:Region.wanted o (yielded ops a.tmps) = true:=by simp [Region.wanted,hgd]
 rw [if_pos hw]
 obtain ⟨v',w',hr,h2,h3,h4⟩:=run_append_mark w base o.type v xs hown ad m c ys hl hnews hsz hbase
 unfold Oper.wp execOp
 simp only [ho,resolve,invoke,builtin,Sem.run_bind,Sem.run_pure,Result.andThen_ok,List.map_toArray,List.map_cons,List.map_nil,hs,hx,hr]
 obtain ⟨g',cap',hv,_⟩:=h2.form
 rw [List.length_append,hl] at hv
 subst hv
 exact h g' cap' w' h2 h3 h4
theorem row_cells {w:World} {base g len cap:Nat} {xs:List Int} (h:Row w base (.slice (some ⟨g,0,none⟩) len cap) xs):∀ j u,(xs.map (Value.int .u8))[j]? = some u→w.cell? ((⟨g,0,none⟩:Addr).add j) = some u :=
 fun j u hj=>World.ownsRow.cells h (g:=g) rfl j u hj
theorem grown_frozen {w w':World} {row:Option Nat} {p j:Nat} (hg:w.grownBy w' row) (hp:p < w.heap.size) (hne:some p≠row) (h:w.frozen? ⟨p,j,none⟩ = false):w'.frozen? ⟨p,j,none⟩ = false :=
 (World.frozen?_of_block (hg.block p hp hne)).trans h
set_option maxHeartbeats 400000 in
theorem write_free (base b2 p g cap:Nat) (v:Value) (l ys:List UInt8) (w:World) (left:Int) (hd:Dsk w base p v l false left) (hrow:Row w b2 (.slice (some ⟨g,0,none⟩) ys.length cap) (ints ys)) (hsz:l.length + ys.length≤10000000) (hbs:base≤w.heap.size) :
  Calls Tryz.prog 92 #[.pointer (some ⟨p,0,none⟩),.slice (some ⟨g,0,none⟩) ys.length cap] w fun e w'=>e = .returned (.bool true)∧∃ v',Dsk w' base p v' (l++ys) false left∧DFr w w' p v v':=by
 obtain ⟨hp,hr,hb⟩:=hd
 obtain ⟨c0,c1,c2,fz,hpl⟩:=disk_cells hp
 have Hp:=hide hp;have HR:=hide hr;have HY:=hide hrow
 have hcap:ys.length≤cap:=by
  rcases hrow.2 with ⟨h,_⟩ | ⟨g',cap',cur,h,_,_,hc,_⟩
  ·cases h
  ·simp only [Value.slice.injEq,Option.some.injEq,Addr.mk.injEq,and_true] at h
   rw [ints_length] at hc
   omega
 clear hp hr hrow
 go_enter Tryz.func92,Tryz.ntmps92
 go_wp2
 have hne:=HR.out.other Hp.out
 go_region_law ((refine step_append_mark rfl _ _ rfl base v (ints l) rfl HR.out ⟨g,0,none⟩ ys.length cap (ints ys) rfl (ints_length ys) (row_cells HY.out) (by rw [ints_length];exact hsz) hbs ?_;intro g1 cap1 w1 hrow1 hgrow hnew;obtain ⟨k1,k2⟩:w1.cell? ⟨p,0,none⟩ = some v∧w1.frozen? ⟨p,0,none⟩ = false:=⟨hgrow.cell c0 hne,grown_frozen hgrow hpl hne (fz 0)⟩))
 have HG:=hide hgrow;have HR1:=hide hrow1;have HN:=hide hnew
 clear hgrow hrow1 hnew k1 k2
 go_wp2
 go_ret
 obtain ⟨D1,D2⟩:=Dsk.grown (w:=w.drew) ⟨Hp.out,HR.out,hb⟩ HR1.out HG.out
 exact ⟨rfl,_,D1,⟨⟨D2.os,D2.tape,D2.output,D2.size,D2.block⟩,HN.out⟩⟩
theorem take_cells {ys:List UInt8} {n j:Nat} {u:Value} (h:((ints (ys.take n)).map (Value.int .u8))[j]? = some u):((ints ys).map (Value.int .u8))[j]? = some u:=by
 rw [ints_take,List.map_take,List.getElem?_take] at h
 split at h
 ·exact h
 ·cases h
theorem row_setCell {w:World} {base p j:Nat} {v:Value} {xs:List Int} {cs:Array Value} {f:Nat × Nat} (h:Row w base v xs) (hp:w.heap[p]? = some (.cells cs 142 f)) (u:Value):Row (w.setCell ⟨p,j,none⟩ u) base v xs:=by
 refine ⟨h.1,?_⟩
 rcases h.2 with hn | ⟨g,cap,cur,rfl,hb',hg,rest⟩
 ·exact .inl hn
 ·refine .inr ⟨g,cap,cur,rfl,hb',?_,rest⟩
  rw [heap_setCell_other _ _ g _ ?_]
  ·exact hg
  ·intro hk
   have hk:g = p:=hk
   rw [hk,hp] at hg
   simp at hg
set_option maxHeartbeats 400000 in
theorem write_cut (base b2 p g cap:Nat) (v:Value) (l ys:List UInt8) (w:World) (left:Nat) (hd:Dsk w base p v l true left) (hrow:Row w b2 (.slice (some ⟨g,0,none⟩) ys.length cap) (ints ys)) (hsz:l.length + ys.length≤10000000) (hbs:base≤w.heap.size) (hleft:left≤9223372036854775807) :
  Calls Tryz.prog 92 #[.pointer (some ⟨p,0,none⟩),.slice (some ⟨g,0,none⟩) ys.length cap] w fun e w'=>e = .returned (.bool (decide (ys.length≤left)))∧∃ v',Dsk w' base p v' (l++ys.take left) true (left - ys.length:Nat)∧DFr w w' p v v':=by
 obtain ⟨hp,hr,hb⟩:=hd
 obtain ⟨c0,c1,c2,fz,hpl⟩:=disk_cells hp
 have Hp:=hide hp;have HR:=hide hr;have HY:=hide hrow
 have hcap:ys.length≤cap:=by
  rcases hrow.2 with ⟨h,_⟩ | ⟨g',cap',cur,h,_,_,hc,_⟩
  ·cases h
  ·simp only [Value.slice.injEq,Option.some.injEq,Addr.mk.injEq,and_true] at h
   rw [ints_length] at hc
   omega
 have hne:=HR.out.other Hp.out
 clear hp hr hrow
 by_cases hle:ys.length≤left
 ·go_enter Tryz.func92,Tryz.ntmps92
  go_wp2
  have HP0:Hid ((w.setCell ⟨p,2,none⟩ (.int .i64 ((left:Int) - ys.length))).heap[p]? = some (.cells #[v,.bool true,.int .i64 ((left:Int) - ys.length)] 142 (0,0))):=heap_setCell_same w p 2 _ 142 _ Hp.out
  have HR0:Hid (RowM (w.setCell ⟨p,2,none⟩ (.int .i64 ((left:Int) - ys.length))) base v (ints l)):=HR.out.setCell Hp.out _
  have HY0:Hid (Row (w.setCell ⟨p,2,none⟩ (.int .i64 ((left:Int) - ys.length))) b2 (.slice (some ⟨g,0,none⟩) ys.length cap) (ints ys)):=row_setCell HY.out Hp.out _
  have HB0:Hid (Turned w (w.setCell ⟨p,2,none⟩ (.int .i64 ((left:Int) - ys.length))) (fun k=>k = p)):=Turned.setCell w p 2 _
  generalize w.setCell ⟨p,2,none⟩ (.int .i64 ((left:Int) - ys.length)) = w0 at *
  obtain ⟨c0,c1,c2,fz,hpl⟩:=disk_cells HP0.out
  have hbs0:base≤w0.heap.size:=Nat.le_trans hbs HB0.out.size
  go_region_law ((refine step_append_mark rfl _ _ rfl base v (ints l) rfl HR0.out ⟨g,0,none⟩ ys.length cap (ints ys) rfl (ints_length ys) (row_cells HY0.out) (by rw [ints_length];omega) hbs0 ?_;intro g1 cap1 w1 hrow1 hgrow hnew;obtain ⟨k1,k2⟩:w1.cell? ⟨p,0,none⟩ = some v∧w1.frozen? ⟨p,0,none⟩ = false:=⟨hgrow.cell c0 hne,grown_frozen hgrow hpl hne (fz 0)⟩))
  have HG:=hide hgrow;have HR1:=hide hrow1;have HN:=hide hnew
  clear hgrow hrow1 hnew k1 k2
  go_wp2
  go_ret
  obtain ⟨D1,D2⟩:=Dsk.grown (w:=w0.drew) ⟨HP0.out,HR0.out,hb⟩ HR1.out HG.out
  have D2':Turned w0 _ (fun k=>k = p∨v.ownBlock = some k):=⟨D2.os,D2.tape,D2.output,D2.size,D2.block⟩
  have D3:DFr w _ p v _:=⟨(HB0.out.mono (fun k hk=>.inl hk)).trans D2' (fun k hk=>.inl hk),fun k hk=>(HN.out k hk).imp id (fun h=>Nat.le_trans HB0.out.size h)⟩
  have e:((left:Int) - ys.length) = ((left - ys.length:Nat):Int):=by omega
  rw [e] at D1
  refine ⟨by simp [hle],_,?_,D3⟩
  rw [List.take_of_length_le hle]
  exact D1
 ·go_enter Tryz.func92,Tryz.ntmps92
  go_wp2
  have HP0:Hid ((w.setCell ⟨p,2,none⟩ (.int .i64 0)).heap[p]? = some (.cells #[v,.bool true,.int .i64 0] 142 (0,0))):=heap_setCell_same w p 2 _ 142 _ Hp.out
  have HR0:Hid (RowM (w.setCell ⟨p,2,none⟩ (.int .i64 0)) base v (ints l)):=HR.out.setCell Hp.out _
  have HY0:Hid (Row (w.setCell ⟨p,2,none⟩ (.int .i64 0)) b2 (.slice (some ⟨g,0,none⟩) ys.length cap) (ints ys)):=row_setCell HY.out Hp.out _
  have HB0:Hid (Turned w (w.setCell ⟨p,2,none⟩ (.int .i64 0)) (fun k=>k = p)):=Turned.setCell w p 2 _
  generalize w.setCell ⟨p,2,none⟩ (.int .i64 0) = w0 at *
  obtain ⟨c0,c1,c2,fz,hpl⟩:=disk_cells HP0.out
  have hlc:left≤cap:=by omega
  have hbs0:base≤w0.heap.size:=Nat.le_trans hbs HB0.out.size
  go_region_law ((refine step_append_mark rfl _ _ rfl base v (ints l) rfl HR0.out ⟨g,0,none⟩ left cap (ints (ys.take left)) rfl (by rw [ints_length,List.length_take];omega) (fun j u hj=>row_cells HY0.out j u (take_cells hj)) (by rw [ints_length];omega) hbs0 ?_;intro g1 cap1 w1 hrow1 hgrow hnew;obtain ⟨k1,k2⟩:w1.cell? ⟨p,0,none⟩ = some v∧w1.frozen? ⟨p,0,none⟩ = false:=⟨hgrow.cell c0 hne,grown_frozen hgrow hpl hne (fz 0)⟩))
  have HG:=hide hgrow;have HR1:=hide hrow1;have HN:=hide hnew
  clear hgrow hrow1 hnew k1 k2
  go_wp2
  go_ret
  obtain ⟨D1,D2⟩:=Dsk.grown (w:=w0.drew) ⟨HP0.out,HR0.out,hb⟩ HR1.out HG.out
  have D2':Turned w0 _ (fun k=>k = p∨v.ownBlock = some k):=⟨D2.os,D2.tape,D2.output,D2.size,D2.block⟩
  have D3:DFr w _ p v _:=⟨(HB0.out.mono (fun k hk=>.inl hk)).trans D2' (fun k hk=>.inl hk),fun k hk=>(HN.out k hk).imp id (fun h=>Nat.le_trans HB0.out.size h)⟩
  have e:(0:Int) = ((left - ys.length:Nat):Int):=by omega
  rw [e] at D1
  exact ⟨ret_bool (by rw [decide_eq_false hle,beq_eq_false_iff_ne];omega),_,D1,D3⟩
theorem Row.form {w:World} {base:Nat} {v:Value} {xs:List Int} (h:Row w base v xs) (hn:xs≠[]):∃ g cap,v = .slice (some ⟨g,0,none⟩) xs.length cap:=by
 rcases h.2 with ⟨_,h0⟩ | ⟨g,cap,cur,hv,_⟩
 ·exact absurd (List.eq_nil_of_length_eq_zero h0) hn
 ·exact ⟨g,cap,hv⟩
theorem Row.mono {w:World} {base base':Nat} {v:Value} {xs:List Int} (h:Row w base v xs) (hb:base'≤base):Row w base' v xs:=by
 refine ⟨h.1,?_⟩
 rcases h.2 with hn | ⟨g,cap,cur,rfl,hb',rest⟩
 ·exact .inl hn
 ·exact .inr ⟨g,cap,cur,rfl,by omega,rest⟩
theorem rec_ne (s:List UInt8):ints (Tp.rec s)≠[]:=by
 intro h
 have:=congrArg List.length h
 rw [ints_length,Tp.rec_length] at this
 simp at this
theorem DFr.below {w w':World} {base p:Nat} {v v':Value} {l:List UInt8} {cut:Bool} {left:Int} (h:DFr w w' p v v') (hd:Dsk w base p v l cut left):Below base w w' :=
 h.turned.below (Nat.le_trans hd.lo (Nat.le_of_lt (lt_of_block hd.cell))) (fun _ hk=>by
  rcases hk with rfl | hk
  ·exact hd.lo
  ·exact (hd.row.lt _ hk).1)
theorem Dsk.later {w w':World} {base p:Nat} {v:Value} {l:List UInt8} {cut:Bool} {left:Int} (h:Dsk w base p v l cut left) (hb:Below w.heap.size w w'):Dsk w' base p v l cut left :=
 ⟨by rw [hb.block p (lt_of_block h.cell)];exact h.cell,h.row.block fun k hk=>hb.block k (h.row.lt k hk).2,h.lo⟩
theorem DFr.under {w w1 w':World} {p:Nat} {v v':Value} (hb:Below w.heap.size w w1) (h:DFr w1 w' p v v'):DFr w w' p v v' :=
 ⟨(Turned.of_below hb _).trans h.turned (fun _ hk=>.inl hk),fun k hk=>(h.new k hk).imp id (fun h2=>Nat.le_trans hb.size h2)⟩
theorem append_walk (base p:Nat) (v:Value) (l:List UInt8) (s:ByteArray) (cut:Bool) (left:Int) (w:World) (b:Bool) (R:World→Prop) (T:TypeId) (x:Value) (hd:Hid (Dsk w base p v l cut left)) (hs:s.size≤10000) (hsz:l.length + (12 + s.size)≤1048576)
  (h8:w.cell? ⟨2,0,none⟩ = some (.iface T x)) (hb8:2 < base) (hbs:base≤w.heap.size)
  (hwr:Hid (∀ g cap (wz:World),Dsk wz base p v l cut left→Row wz w.heap.size (.slice (some ⟨g,0,none⟩) (12 + s.size) cap) (ints (Tp.rec s.data.toList))→base≤wz.heap.size→Below w.heap.size w wz →
   Calls Tryz.prog 92 #[.pointer (some ⟨p,0,none⟩),.slice (some ⟨g,0,none⟩) (12 + s.size) cap] wz fun e w'=>e = .returned (.bool b)∧R w'∧Below base w w')) :
  Calls Tryz.prog 60 #[.pointer (some ⟨p,0,none⟩),.string s] w fun e w'=>e = .returned (if b then .nilIface else .iface T x)∧R w':=by
 obtain ⟨hp,hr,hb⟩:=id hd.out
 obtain ⟨g0,cap0,hv,_⟩:=hr.form
 rw [ints_length] at hv
 subst hv
 obtain ⟨c0,c1,c2,fz,hpl⟩:=disk_cells hp
 clear hp hr
 have hs':¬ (10000:Int) < s.size:=by omega
 go_enter Tryz.func60,Tryz.ntmps60
 go_wp2_with fail
 go_quiet ((go_at_call 91;refine Calls.quiet_of_same (recordSize_any _ _ ?_);omega))
 have hfull:¬ (1048576:Int) < (l.length:Int) + ((12 + s.size:Nat):Int):=by omega
 have HB0:Hid (Below w.heap.size w (w.drewN nq)):=below_drewN nq
 go_wp2_with fail
 refine (record_any s _ hs).mono ?_
 rintro e w1 ⟨v1,rfl,hr1,hb1⟩
 obtain ⟨g1,cap1,hv1⟩:=hr1.form (rec_ne _)
 rw [ints_length,Tp.rec_length,size_list] at hv1
 subst hv1
 have HB1:Hid (Below w.heap.size w w1):=HB0.out.trans (hb1.mono HB0.out.size)
 have HR1:=hide (hr1.mono HB0.out.size)
 clear hr1 hb1
 have h81:w1.cell? ⟨2,0,none⟩ = some (.iface T x):=cell_later HB1.out h8
 go_wp2_with fail
 refine (hwr.out g1 cap1 w1 (hd.out.later HB1.out) HR1.out (Nat.le_trans hbs HB1.out.size) HB1.out).mono ?_
 rintro e w2 ⟨rfl,hR,hb2⟩
 have HR:=hide hR
 clear hR
 have h82:w2.cell? ⟨2,0,none⟩ = some (.iface T x):=by rw [hb2.cell (p:=⟨2,0,none⟩) hb8];exact h8
 clear hb2
 cases b
 ·go_wp2
  go_ret
  exact ⟨rfl,HR.out⟩
 ·go_wp2
  go_ret
  exact ⟨rfl,HR.out⟩
theorem append_full (base p:Nat) (v:Value) (l:List UInt8) (s:ByteArray) (cut:Bool) (left:Int) (w:World) (u:Value) (hd:Hid (Dsk w base p v l cut left)) (hs:s.size≤10000) (hl:l.length≤1048576) (hsz:1048576 < l.length + (12 + s.size))
  (h8:w.cell? ⟨4,0,none⟩ = some u) :
  Calls Tryz.prog 60 #[.pointer (some ⟨p,0,none⟩),.string s] w fun e w'=>e = .returned u∧Below w.heap.size w w':=by
 obtain ⟨hp,hr,hb⟩:=id hd.out
 obtain ⟨g0,cap0,hv,_⟩:=hr.form
 rw [ints_length] at hv
 subst hv
 obtain ⟨c0,c1,c2,fz,hpl⟩:=disk_cells hp
 clear hp hr
 have hs':¬ (10000:Int) < s.size:=by omega
 go_enter Tryz.func60,Tryz.ntmps60
 go_wp2_with fail
 go_quiet ((go_at_call 91;refine Calls.quiet_of_same (recordSize_any _ _ ?_);omega))
 have hfull:(1048576:Int) < (l.length:Int) + ((12 + s.size:Nat):Int):=by omega
 have HB0:Hid (Below w.heap.size w (w.drewN nq)):=below_drewN nq
 have h81:(w.drewN nq).cell? ⟨4,0,none⟩ = some u:=h8
 go_wp2
 go_ret
 exact ⟨rfl,HB0.out⟩
def tpOf (l:List UInt8) (cut:Bool) (left:Nat) (s:ByteArray):List UInt8:=l++(if cut = true then (Tp.rec s.data.toList).take left else Tp.rec s.data.toList)
def lfOf (cut:Bool) (left:Nat) (s:ByteArray):Nat:=if cut = true then left - (12 + s.size) else left
def okOf (cut:Bool) (left:Nat) (s:ByteArray):Bool:=!cut || decide (12 + s.size≤left)
theorem append_fit (base p:Nat) (v:Value) (l:List UInt8) (s:ByteArray) (cut:Bool) (left:Nat) (w:World) (T:TypeId) (x:Value) (hd:Dsk w base p v l cut left) (hs:s.size≤10000) (hsz:l.length + (12 + s.size)≤1048576) (hleft:left≤9223372036854775807)
  (h8:w.cell? ⟨2,0,none⟩ = some (.iface T x)) (hb8:2 < base) (hbs:base≤w.heap.size) :
  Calls Tryz.prog 60 #[.pointer (some ⟨p,0,none⟩),.string s] w fun e w'=>e = .returned (if okOf cut left s = true then .nilIface else .iface T x)∧∃ v',Dsk w' base p v' (tpOf l cut left s) cut (lfOf cut left s)∧DFr w w' p v v':=by
 have hlen:(Tp.rec s.data.toList).length = 12 + s.size:=by rw [Tp.rec_length,size_list]
 refine append_walk base p v l s cut left w (okOf cut left s) (fun w'=>∃ v',Dsk w' base p v' (tpOf l cut left s) cut (lfOf cut left s)∧DFr w w' p v v') T x hd hs hsz h8 hb8 hbs (fun g cap wz hdz hrz hbz hBz=>?_)
 rw [← hlen] at hrz ⊢
 cases cut with
 | false =>
  refine (write_free base w.heap.size p g cap v l _ wz left hdz hrz (by omega) hbz).mono ?_
  rintro e w' ⟨rfl,v',h1,h2⟩
  have h3:=h2.under hBz
  exact ⟨rfl,⟨v',h1,h3⟩,h3.below hd⟩
 | true =>
  refine (write_cut base w.heap.size p g cap v l _ wz left hdz hrz (by omega) hbz hleft).mono ?_
  rintro e w' ⟨rfl,v',h1,h2⟩
  have h3:=h2.under hBz
  rw [hlen] at h1
  exact ⟨by rw [hlen];rfl,⟨v',h1,h3⟩,h3.below hd⟩
end Go.Proofs.YtidahfhingdlmaaGreatDoor
