/- How a disk is written, and a record appended to it: which blocks turn. -/
import Derived.Test.YtjolccidheflpaaGreatDoorW10
import Derived.Test.YtjolccidheflpaaGreatDoorW12
import Derived.Test.YtjolccidheflpaaGreatDoorW09
import Derived.Deep.RegionLaw
import Derived.Lib.SliceRun
import Derived.Lib.SmallJoins
import Derived.Deep.QuietTactic
import Derived.BigQuiet
import Derived.Test.YtjolccidheflpaaGreatDoorW08
namespace Go.Proofs.YtjolccidheflpaaGreatDoor
set_option maxHeartbeats 8000000
set_option maxRecDepth 100000
open Go.RowKit
structure ek (W:World) (base p:Nat) (v:Value) (l:List UInt8) (cut:Bool) (left:Int):Prop where
 cell:W.heap[p]?=some (.cells #[v,.bool cut,.int .i64 left] 117 (0,0))
 row:dY W base v (ints l)
 lo:base<=p
structure qu (w w':World) (p:Nat) (v v':Value):Prop where
 turned:aJ w w' (fun k=>k=p\/v.ownBlock=some k)
 new:∀ k,v'.ownBlock=some k->v.ownBlock=some k\/w.heap.size<=k
theorem ek.grown {w w':World} {base p:Nat} {l ys:List UInt8} {v v':Value} {cut:Bool} {left:Int} (hd:ek w base p v l cut left)
  (eK:dY w' base v' (ints l++ints ys)) (hg:w.grownBy w' v.ownBlock):ek (w'.setCell ⟨p,0,none⟩ v') base p v' (l++ys) cut left/\aJ w (w'.setCell ⟨p,0,none⟩ v') (fun k=>k=p\/v.ownBlock=some k):=by
 have hp':w'.heap[p]?=some (.cells #[v,.bool cut,.int .i64 left] 117 (0,0)):=by
  rw[hg.block p (Array.getElem?_eq_some_iff.1 hd.cell).1 (hd.row.other hd.cell)];exact hd.cell
 refine⟨⟨?_,?_,hd.lo⟩,?_⟩
 .rw[heap_setCell_same w' p 0 _ 117 v' hp'];rfl
 .rw[Od];exact eK.setCell hp' _
 .exact((aJ.iM hg).mono (fun k hk=>.inr hk.symm)).trans (aJ.setCell w' p 0 v') (fun k hk=>.inl (.inl hk))
theorem O5 {w:World} {ops:Array Oper} {o:Oper} {a:Act} {K:Act->World->Prop} {Q:Exit->Act->World->Prop} {E:Prop} (hgd:o.guard=none) (s x:Operand)
  (ho:o.op=.call { callee:=.builtin .append,args:=#[s,x],argTypes:=#[115,115] })
  (base:Nat) (v:Value) (xs:List Int) (hs:a.eval s=v) (hown:dY w base v xs)
  (ad:Addr) (m c:Nat) (ys:List Int) (hx:a.eval x=.slice (some ad) m c) (hl:ys.length=m) (hnews:∀ j u,(ys.map (Value.int .u8))[j]?=some u->w.cell? (ad.add j)=some u)
  (hsz:xs.length+m<=10000000) (hbase:base<=w.heap.size)
  (h:∀ g' cap' w',dY w' base (.slice (some ⟨g',0,none⟩) (xs.length+m) cap') (xs++ys)->w.grownBy w' v.ownBlock->(∀ k,(Value.slice (some ⟨g',0,none⟩) (xs.length+m) cap').ownBlock=some k->v.ownBlock=some k\/w.heap.size<=k)->K (a.put o.dst (.slice (some ⟨g',0,none⟩) (xs.length+m) cap')) w') :
  if Region.wanted o (yielded ops a.tmps)=true then Oper.wp Tryz.prog o a w K Q else E:=by
 have hw:Region.wanted o (yielded ops a.tmps)=true:=by simp[Region.wanted,hgd]
 rw[if_pos hw];obtain⟨v',w',hr,h2,h3,h4⟩:=agj w base o.type v xs hown ad m c ys hl hnews hsz hbase;unfold Oper.wp execOp;simp only[ho,resolve,invoke,builtin,Sem.run_bind,Sem.run_pure,Result.andThen_ok,List.map_toArray,List.map_cons,List.map_nil,hs,hx,hr];obtain⟨g',cap',hv,_⟩:=h2.form;rw[lAq,hl]at hv;subst hv;exact h g' cap' w' h2 h3 h4
theorem O6 {w:World} {base g len cap:Nat} {xs:List Int} (h:Row w base (.slice (some ⟨g,0,none⟩) len cap) xs):∀ j u,(xs.map (Value.int .u8))[j]?=some u->w.cell? ((⟨g,0,none⟩:Addr).add j)=some u :=
 fun j u hj=>World.ownsRow.cells h (g:=g) rfl j u hj
theorem O7 {w w':World} {row:Option Nat} {p j:Nat} (hg:w.grownBy w' row) (hp:p<w.heap.size) (hne:some p≠row) (h:w.frozen? ⟨p,j,none⟩=false):w'.frozen? ⟨p,j,none⟩=false :=
 (World.frozen?_of_block (hg.block p hp hne)).trans h
theorem alB (base b2 p g cap:Nat) (v:Value) (l ys:List UInt8) (w:World) (left:Int) (hd:ek w base p v l false left) (hrow:Row w b2 (.slice (some ⟨g,0,none⟩) ys.length cap) (ints ys)) (hsz:l.length+ys.length<=10000000) (lw:base<=w.heap.size) :
  Calls Tryz.prog 135 #[.pointer (some ⟨p,0,none⟩),.slice (some ⟨g,0,none⟩) ys.length cap] w fun e w'=>e=.returned (.bool true)/\∃ v',ek w' base p v' (l++ys) false left/\qu w w' p v v':=by
 obtain⟨hp,hr,hb⟩:=hd;obtain⟨c0,c1,c2,fz,hpl⟩:=s7 hp;have Hp:=hDq hp;have HR:=hDq hr;have eo:=hDq hrow;have hcap:ys.length<=cap:=by
  rcases hrow.2 with ⟨h,_⟩ | ⟨g',cap',cur,h,_,_,hc,_⟩
  .cases h
  .simp only[Value.slice.injEq,Option.some.injEq,Addr.mk.injEq,and_true]at h
   rw[iT]at hc;omega
 clear hp hr hrow;go_enter Tryz.func135,Tryz.ntmps135;go_wp2;have hne:=HR.out.other Hp.out
 go_region_law ((refine O5 rfl _ _ rfl base v (ints l) rfl HR.out ⟨g,0,none⟩ ys.length cap (ints ys) rfl (iT ys) (O6 eo.out) (by rw[iT];exact hsz) lw ?_;intro g1 sU w1 vE hgrow hnew;obtain⟨k1,k2⟩:w1.cell? ⟨p,0,none⟩=some v/\w1.frozen? ⟨p,0,none⟩=false:=⟨hgrow.cell c0 hne,O7 hgrow hpl hne (fz 0)⟩))
 have HG:=hDq hgrow;have HR1:=hDq vE;have HN:=hDq hnew;clear hgrow vE hnew k1 k2;go_wp2;go_ret;obtain⟨D1,D2⟩:=ek.grown (w:=w.drew) ⟨Hp.out,HR.out,hb⟩ HR1.out HG.out;exact⟨rfl,_,D1,⟨⟨D2.os,D2.tape,D2.output,D2.size,D2.block⟩,HN.out⟩⟩
theorem alC {ys:List UInt8} {n j:Nat} {u:Value} (h:((ints (ys.take n)).map (Value.int .u8))[j]?=some u):((ints ys).map (Value.int .u8))[j]?=some u:=by
 rw[XI,List.map_take,List.getElem?_take]at h;split at h
 .exact h
 .cases h
theorem Y_ {w:World} {base p j:Nat} {v:Value} {xs:List Int} {cs:Array Value} {f:Nat×Nat} (h:Row w base v xs) (hp:w.heap[p]?=some (.cells cs 117 f)) (u:Value):Row (w.setCell ⟨p,j,none⟩ u) base v xs:=by
 refine⟨h.1,?_⟩;rcases h.2 with hn | ⟨g,cap,cur,rfl,hb',hg,rest⟩
 .exact .inl hn
 .refine .inr ⟨g,cap,cur,rfl,hb',?_,rest⟩
  rw[heap_setCell_other _ _ g _ ?_]
  .exact hg
  .intro hk
   have hk:g=p:=hk;rw[hk,hp]at hg;simp at hg
theorem alD (base b2 p g cap:Nat) (v:Value) (l ys:List UInt8) (w:World) (left:Nat) (hd:ek w base p v l true left) (hrow:Row w b2 (.slice (some ⟨g,0,none⟩) ys.length cap) (ints ys)) (hsz:l.length+ys.length<=10000000) (lw:base<=w.heap.size) (hleft:left<=9223372036854775807) :
  Calls Tryz.prog 135 #[.pointer (some ⟨p,0,none⟩),.slice (some ⟨g,0,none⟩) ys.length cap] w fun e w'=>e=.returned (.bool (decide (ys.length<=left)))/\∃ v',ek w' base p v' (l++ys.take left) true (left-ys.length:Nat)/\qu w w' p v v':=by
 obtain⟨hp,hr,hb⟩:=hd;obtain⟨c0,c1,c2,fz,hpl⟩:=s7 hp;have Hp:=hDq hp;have HR:=hDq hr;have eo:=hDq hrow;have hcap:ys.length<=cap:=by
  rcases hrow.2 with ⟨h,_⟩ | ⟨g',cap',cur,h,_,_,hc,_⟩
  .cases h
  .simp only[Value.slice.injEq,Option.some.injEq,Addr.mk.injEq,and_true]at h
   rw[iT]at hc;omega
 have hne:=HR.out.other Hp.out;clear hp hr hrow;by_cases hle:ys.length<=left
 .go_enter Tryz.func135,Tryz.ntmps135
  go_wp2;have Dl:Hid ((w.setCell ⟨p,2,none⟩ (.int .i64 ((left:Int)-ys.length))).heap[p]?=some (.cells #[v,.bool true,.int .i64 ((left:Int)-ys.length)] 117 (0,0))):=heap_setCell_same w p 2 _ 117 _ Hp.out;have fy:Hid (dY (w.setCell ⟨p,2,none⟩ (.int .i64 ((left:Int)-ys.length))) base v (ints l)):=HR.out.setCell Hp.out _;have hZ:Hid (Row (w.setCell ⟨p,2,none⟩ (.int .i64 ((left:Int)-ys.length))) b2 (.slice (some ⟨g,0,none⟩) ys.length cap) (ints ys)):=Y_ eo.out Hp.out _;have bD:Hid (aJ w (w.setCell ⟨p,2,none⟩ (.int .i64 ((left:Int)-ys.length))) (fun k=>k=p)):=aJ.setCell w p 2 _;generalize w.setCell ⟨p,2,none⟩ (.int .i64 ((left:Int)-ys.length))=w0 at *;obtain⟨c0,c1,c2,fz,hpl⟩:=s7 Dl.out;have O8:base<=w0.heap.size:=lTq lw bD.out.size
  go_region_law ((refine O5 rfl _ _ rfl base v (ints l) rfl fy.out ⟨g,0,none⟩ ys.length cap (ints ys) rfl (iT ys) (O6 hZ.out) (by rw[iT];omega) O8 ?_;intro g1 sU w1 vE hgrow hnew;obtain⟨k1,k2⟩:w1.cell? ⟨p,0,none⟩=some v/\w1.frozen? ⟨p,0,none⟩=false:=⟨hgrow.cell c0 hne,O7 hgrow hpl hne (fz 0)⟩))
  have HG:=hDq hgrow;have HR1:=hDq vE;have HN:=hDq hnew;clear hgrow vE hnew k1 k2;go_wp2;go_ret;obtain⟨D1,D2⟩:=ek.grown (w:=w0.drew) ⟨Dl.out,fy.out,hb⟩ HR1.out HG.out;have O9:aJ w0 _ (fun k=>k=p\/v.ownBlock=some k):=⟨D2.os,D2.tape,D2.output,D2.size,D2.block⟩;have O_:qu w _ p v _:=⟨(bD.out.mono (fun k hk=>.inl hk)).trans O9 (fun k hk=>.inl hk),fun k hk=>(HN.out k hk).imp id (fun h=>lTq bD.out.size h)⟩;have e:((left:Int)-ys.length)=((left-ys.length:Nat):Int):=by omega
  rw[e]at D1;refine⟨by simp[hle],_,?_,O_⟩;rw[List.take_of_length_le hle];exact D1
 .go_enter Tryz.func135,Tryz.ntmps135
  go_wp2;have Dl:Hid ((w.setCell ⟨p,2,none⟩ (.int .i64 0)).heap[p]?=some (.cells #[v,.bool true,.int .i64 0] 117 (0,0))):=heap_setCell_same w p 2 _ 117 _ Hp.out;have fy:Hid (dY (w.setCell ⟨p,2,none⟩ (.int .i64 0)) base v (ints l)):=HR.out.setCell Hp.out _;have hZ:Hid (Row (w.setCell ⟨p,2,none⟩ (.int .i64 0)) b2 (.slice (some ⟨g,0,none⟩) ys.length cap) (ints ys)):=Y_ eo.out Hp.out _;have bD:Hid (aJ w (w.setCell ⟨p,2,none⟩ (.int .i64 0)) (fun k=>k=p)):=aJ.setCell w p 2 _;generalize w.setCell ⟨p,2,none⟩ (.int .i64 0)=w0 at *;obtain⟨c0,c1,c2,fz,hpl⟩:=s7 Dl.out;have hlc:left<=cap:=by omega
  have O8:base<=w0.heap.size:=lTq lw bD.out.size
  go_region_law ((refine O5 rfl _ _ rfl base v (ints l) rfl fy.out ⟨g,0,none⟩ left cap (ints (ys.take left)) rfl (by rw[iT,lKq];omega) (fun j u hj=>O6 hZ.out j u (alC hj)) (by rw[iT];omega) O8 ?_;intro g1 sU w1 vE hgrow hnew;obtain⟨k1,k2⟩:w1.cell? ⟨p,0,none⟩=some v/\w1.frozen? ⟨p,0,none⟩=false:=⟨hgrow.cell c0 hne,O7 hgrow hpl hne (fz 0)⟩))
  have HG:=hDq hgrow;have HR1:=hDq vE;have HN:=hDq hnew;clear hgrow vE hnew k1 k2;go_wp2;go_ret;obtain⟨D1,D2⟩:=ek.grown (w:=w0.drew) ⟨Dl.out,fy.out,hb⟩ HR1.out HG.out;have O9:aJ w0 _ (fun k=>k=p\/v.ownBlock=some k):=⟨D2.os,D2.tape,D2.output,D2.size,D2.block⟩;have O_:qu w _ p v _:=⟨(bD.out.mono (fun k hk=>.inl hk)).trans O9 (fun k hk=>.inl hk),fun k hk=>(HN.out k hk).imp id (fun h=>lTq bD.out.size h)⟩;have e:(0:Int)=((left-ys.length:Nat):Int):=by omega
  rw[e]at D1;exact⟨iy (by rw[decide_eq_false hle,beq_eq_false_iff_ne];omega),_,D1,O_⟩
theorem Row.form {w:World} {base:Nat} {v:Value} {xs:List Int} (h:Row w base v xs) (hn:xs≠[]):∃ g cap,v=.slice (some ⟨g,0,none⟩) xs.length cap:=by
 rcases h.2 with ⟨_,h0⟩ | ⟨g,cap,cur,hv,_⟩
 .exact absurd (List.eq_nil_of_length_eq_zero h0) hn
 .exact⟨g,cap,hv⟩
theorem Row.mono {w:World} {base base':Nat} {v:Value} {xs:List Int} (h:Row w base v xs) (hb:base'<=base):Row w base' v xs:=by
 refine⟨h.1,?_⟩;rcases h.2 with hn | ⟨g,cap,cur,rfl,hb',rest⟩
 .exact .inl hn
 .exact .inr ⟨g,cap,cur,rfl,by omega,rest⟩
theorem alE (s:List UInt8):ints (bC.rec s)≠[]:=by
 intro h
 have:=congrArg List.length h
 rw[iT,bC.vg]at this;simp at this
theorem qu.below {w w':World} {base p:Nat} {v v':Value} {l:List UInt8} {cut:Bool} {left:Int} (h:qu w w' p v v') (hd:ek w base p v l cut left):Below base w w' :=
 h.turned.below (lTq hd.lo (Nat.le_of_lt (lBq hd.cell))) (fun _ hk=>by
  rcases hk with rfl | hk
  .exact hd.lo
  .exact(hd.row.lt _ hk).1)
theorem ek.later {w w':World} {base p:Nat} {v:Value} {l:List UInt8} {cut:Bool} {left:Int} (h:ek w base p v l cut left) (hb:Below w.heap.size w w'):ek w' base p v l cut left :=
 ⟨by rw[hb.block p (lBq h.cell)];exact h.cell,h.row.block fun k hk=>hb.block k (h.row.lt k hk).2,h.lo⟩
theorem qu.under {w w1 w':World} {p:Nat} {v v':Value} (hb:Below w.heap.size w w1) (h:qu w1 w' p v v'):qu w w' p v v' :=
 ⟨(aJ.of_below hb _).trans h.turned (fun _ hk=>.inl hk),fun k hk=>(h.new k hk).imp id (fun h2=>lTq hb.size h2)⟩
theorem alF (base p:Nat) (v:Value) (l:List UInt8) (s:ByteArray) (cut:Bool) (left:Int) (w:World) (b:Bool) (R:World->Prop) (T:TypeId) (x:Value) (hd:Hid (ek w base p v l cut left)) (hs:s.size<=10000) (hsz:l.length+(12+s.size)<=1048576)
  (h8:w.cell? ⟨2,0,none⟩=some (.iface T x)) (nC:2<base) (lw:base<=w.heap.size)
  (hwr:Hid (∀ g cap (aj:World),ek aj base p v l cut left->Row aj w.heap.size (.slice (some ⟨g,0,none⟩) (12+s.size) cap) (ints (bC.rec s.data.toList))->base<=aj.heap.size->Below w.heap.size w aj ->
   Calls Tryz.prog 135 #[.pointer (some ⟨p,0,none⟩),.slice (some ⟨g,0,none⟩) (12+s.size) cap] aj fun e w'=>e=.returned (.bool b)/\R w'/\Below base w w')) :
  Calls Tryz.prog 78 #[.pointer (some ⟨p,0,none⟩),.string s] w fun e w'=>e=.returned (if b then .nilIface else .iface T x)/\R w':=by
 obtain⟨hp,hr,hb⟩:=id hd.out;obtain⟨g0,alG,hv,_⟩:=hr.form;rw[iT]at hv;subst hv;obtain⟨c0,c1,c2,fz,hpl⟩:=s7 hp;clear hp hr;have hs':¬ (10000:Int)<s.size:=by omega
 go_enter Tryz.func78,Tryz.ntmps78
 go_wp2_with fail
 go_quiet ((go_at_call 102;refine Calls.quiet_of_same (H4 _ _ ?_);omega))
 have hfull:¬ (1048576:Int)<(l.length:Int)+((12+s.size:Nat):Int):=by omega
 have bD:Hid (Below w.heap.size w (w.drewN nq)):=below_drewN nq
 go_wp2_with fail
 refine(aju s _ hs).mono ?_;rintro e w1 ⟨v1,rfl,hr1,hb1⟩;obtain⟨g1,sU,hv1⟩:=hr1.form (alE _);rw[iT,bC.vg,qi]at hv1;subst hv1;have HB1:Hid (Below w.heap.size w w1):=bD.out.trans (hb1.mono bD.out.size);have HR1:=hDq (hr1.mono bD.out.size);clear hr1 hb1;have alH:w1.cell? ⟨2,0,none⟩=some (.iface T x):=cell_later HB1.out h8
 go_wp2_with fail
 refine(hwr.out g1 sU w1 (hd.out.later HB1.out) HR1.out (lTq lw HB1.out.size) HB1.out).mono ?_;rintro e w2 ⟨rfl,hR,hb2⟩;have HR:=hDq hR;clear hR;have apx:w2.cell? ⟨2,0,none⟩=some (.iface T x):=by rw[hb2.cell (p:=⟨2,0,none⟩) nC];exact h8
 clear hb2;cases b
 .go_wp2
  go_ret;exact⟨rfl,HR.out⟩
 .go_wp2
  go_ret;exact⟨rfl,HR.out⟩
theorem alI (base p:Nat) (v:Value) (l:List UInt8) (s:ByteArray) (cut:Bool) (left:Int) (w:World) (u:Value) (hd:Hid (ek w base p v l cut left)) (hs:s.size<=10000) (hl:l.length<=1048576) (hsz:1048576<l.length+(12+s.size))
  (h8:w.cell? ⟨8,0,none⟩=some u) :
  Calls Tryz.prog 78 #[.pointer (some ⟨p,0,none⟩),.string s] w fun e w'=>e=.returned u/\Below w.heap.size w w':=by
 obtain⟨hp,hr,hb⟩:=id hd.out;obtain⟨g0,alG,hv,_⟩:=hr.form;rw[iT]at hv;subst hv;obtain⟨c0,c1,c2,fz,hpl⟩:=s7 hp;clear hp hr;have hs':¬ (10000:Int)<s.size:=by omega
 go_enter Tryz.func78,Tryz.ntmps78
 go_wp2_with fail
 go_quiet ((go_at_call 102;refine Calls.quiet_of_same (H4 _ _ ?_);omega))
 have hfull:(1048576:Int)<(l.length:Int)+((12+s.size:Nat):Int):=by omega
 have bD:Hid (Below w.heap.size w (w.drewN nq)):=below_drewN nq;have alH:(w.drewN nq).cell? ⟨8,0,none⟩=some u:=h8;go_wp2;go_ret;exact⟨rfl,bD.out⟩
def Pb (l:List UInt8) (cut:Bool) (left:Nat) (s:ByteArray):List UInt8:=l++(if cut=true then (bC.rec s.data.toList).take left else bC.rec s.data.toList)
def Pd (cut:Bool) (left:Nat) (s:ByteArray):Nat:=if cut=true then left-(12+s.size) else left
def IC (cut:Bool) (left:Nat) (s:ByteArray):Bool:=!cut || decide (12+s.size<=left)
theorem alJ (base p:Nat) (v:Value) (l:List UInt8) (s:ByteArray) (cut:Bool) (left:Nat) (w:World) (T:TypeId) (x:Value) (hd:ek w base p v l cut left) (hs:s.size<=10000) (hsz:l.length+(12+s.size)<=1048576) (hleft:left<=9223372036854775807)
  (h8:w.cell? ⟨2,0,none⟩=some (.iface T x)) (nC:2<base) (lw:base<=w.heap.size) :
  Calls Tryz.prog 78 #[.pointer (some ⟨p,0,none⟩),.string s] w fun e w'=>e=.returned (if IC cut left s=true then .nilIface else .iface T x)/\∃ v',ek w' base p v' (Pb l cut left s) cut (Pd cut left s)/\qu w w' p v v':=by
 have hlen:(bC.rec s.data.toList).length=12+s.size:=by rw[bC.vg,qi]
 refine alF base p v l s cut left w (IC cut left s) (fun w'=>∃ v',ek w' base p v' (Pb l cut left s) cut (Pd cut left s)/\qu w w' p v v') T x hd hs hsz h8 nC lw (fun g cap aj Y' Pe rC Za=>?_);rw[<- hlen]at Pe ⊢;cases cut with
 | false =>
  refine(alB base w.heap.size p g cap v l _ aj left Y' Pe (by omega) rC).mono ?_;rintro e w' ⟨rfl,v',h1,h2⟩;have h3:=h2.under Za;exact⟨rfl,⟨v',h1,h3⟩,h3.below hd⟩
 | true =>
  refine(alD base w.heap.size p g cap v l _ aj left Y' Pe (by omega) rC hleft).mono ?_;rintro e w' ⟨rfl,v',h1,h2⟩;have h3:=h2.under Za;rw[hlen]at h1;exact⟨by rw[hlen];rfl,⟨v',h1,h3⟩,h3.below hd⟩
def rO:List Value:=ep Cv.z
theorem abo (w:World) (ty:TypeId) (b o c:Nat) (hc:∀ j,j<5->(w.cell? ⟨b,o+j,none⟩).isSome=true) (hf:∀ j,j<5->w.frozen? ⟨b,o+j,none⟩=false) :
  (Builtin.clear_ #[195] ty #[.slice (some (Qb b o)) 1 c]).run Tryz.prog w=.ok (.tuple #[]) (w.setCells b o rO):=by
 have Ja:(Builtin.zeroCells (Value.agg #[Qa 0,Qa 0,Qa 0,Qa 0,Qa 0]).cells 1).toList=rO:=by kernel_rfl
 have hst:=run_storeCells_cells (P:=Tryz.prog) b o rO 0 w (fun j hj=>by simpa using hc j hj) (fun j hj=>by simpa using hf j hj) (by
  intro v hv;simp only[rO,ep,List.mem_cons,List.not_mem_nil,or_false]at hv;rcases hv with rfl | rfl | rfl | rfl | rfl <;> rfl)
 simp only[Nat.add_zero]at hst;simp[Builtin.clear_,run_underlying Tryz.underlying195,Ja,hst]
theorem zV (a b:List Cv.ag):flat (a++b)=flat a++flat b:=by simp[flat]
theorem Qi (l:List Cv.ag) (k:Nat) (h:k<=l.length):(flat l).take (k*5)=flat (l.take k):=by
 have e:flat l=flat (l.take k)++flat (l.drop k):=by rw[<- zV,List.take_append_drop]
 have hl:(flat (l.take k)).length=k*5:=by rw[pq,lKq];congr 1;omega
 rw[e,<- hl,List.take_left]
theorem Qj (l:List Cv.ag) (k:Nat) (h:k<=l.length):(flat l).drop (k*5)=flat (l.drop k):=by
 have e:flat l=flat (l.take k)++flat (l.drop k):=by rw[<- zV,List.take_append_drop]
 have hl:(flat (l.take k)).length=k*5:=by rw[pq,lKq];congr 1;omega
 rw[e,<- hl,List.drop_left]
theorem zX {w:World} {base:Nat} {e:TypeId} {s g n cap:Nat} {xs:List Value} (h:w.ownsRow base e s (.slice (some (Qb g 0)) n cap) n xs) (j:Nat) (hj:j<n*s):(w.cell? (Qb g j)).isSome=true/\w.frozen? (Qb g j)=false/\w.cell? (Qb g j)=xs[j]?:=by
 rcases h.2 with ⟨e1,_⟩ | ⟨g',cap',cur,e1,hg,dX,h1,h2,h3,h4⟩
 .cases e1
 .obtain⟨rfl,rfl⟩:g=g'/\cap=cap':=by simpa using e1
  have hle:n*s<=cur.size:=by rw[h3];exact Nat.mul_le_mul_right _ h1
  have e2:w.cell? (Qb g j)=xs[j]?:=by
   rw[cR w g j cur e (0,0) dX,<- h4,List.getElem?_take_of_lt hj];simp
  have e3:(w.cell? (Qb g j)).isSome=true:=by
   rw[cR w g j cur e (0,0) dX];simp;omega
  exact⟨e3,by simp[World.frozen?,dX],e2⟩
theorem abp (g cap n i j base:Nat) (l:List Cv.ag) (w:World) (hn:Hid (l.length=n)) (hrow:w.ownsRow base 197 5 (.slice (some (Qb g 0)) n cap) n (flat l)) (hj:Hid (j=i+1)) (hjn:j<=n) (hij:i<j) (hcap:n<=cap) :
  Calls Tryz.prog 298 #[.slice (some (Qb g 0)) n cap,Qa i,Qa j] w fun e w'=>e=.returned (.slice (some (Qb g 0)) (n-1) cap)/\w'.ownsRow base 197 5 (.slice (some (Qb g 0)) (n-1) cap) (n-1) (flat (Bk.del l i))/\w.grownBy w' (some g):=by
 obtain⟨i0,z0,hi,hz0,hz1,hz2,hz3⟩:=DN;have hne:¬ ((i:Int)=j):=by omega
 obtain⟨news,hnews⟩:∃ news,news=flat (l.drop j):=⟨_,rfl⟩;have hlen:news.length=(n-j)*5:=by rw[hnews,pq,List.length_drop,hn.out]
 have z1:∀ t u,news[t]?=some u->w.cell? ⟨g,j*5+t,none⟩=some u:=by
  intro t u hu;have ht:t<(n-j)*5:=by
   have:=(List.getElem?_eq_some_iff.1 hu).1
   rwa [hlen]at this
  rw[(zX hrow (j*5+t) (by omega)).2.2];rw[hnews,<- Qj l j (by rw[hn.out];exact hjn),List.getElem?_drop]at hu;exact hu
 obtain⟨A,hA,hsrc⟩:∃ A:Addr,(if cap=j then some (⟨g,0,none⟩:Addr) else some ⟨g,j*5,none⟩)=some A/\Hid (∀ t u,news[t]?=some u->w.drew.cell? (A.add t)=some u):=by
  by_cases h:cap=j
  .refine⟨(Qb g 0),by simp[h],fun t u hu=>?_⟩
   have h0:news.length=0:=by rw[hlen];omega
   rw[List.length_eq_zero_iff.1 h0]at hu;simp at hu
  .refine⟨⟨g,j*5,none⟩,by simp[h],fun t u hu=>?_⟩
   rw[Addr.add_lit];exact z1 t u hu
 have s1:Hid (news.length=(n-j)*5):=hlen;have s2:Hid (∀ u∈news,u.oneCell'=true):=by
  intro u hu;rw[hnews]at hu;exact Qp _ u hu
 have s3:Hid (∀ t,t<news.length->(w.drew.cell? ⟨g,0+i*5+t,none⟩).isSome=true/\w.drew.frozen? ⟨g,0+i*5+t,none⟩=false):=by
  intro t ht;rw[hlen]at ht;have h:=zX hrow (0+i*5+t) (by omega);exact⟨h.1,h.2.1⟩
 have z6:w.drew.ownsRow base 197 5 (.slice (some (Qb g 0)) n cap) n (flat l):=hrow;obtain⟨W1,hW1⟩:∃ W1,W1=w.drew.setCells g (0+i*5) news:=⟨_,rfl⟩;have hfl:(flat l).length=n*5:=by rw[pq,hn.out]
 -- the row behind the append: as long as it was
 obtain⟨ys,rP⟩:∃ ys,ys=(flat l).take (0+i*5)++news++(flat l).drop (0+i*5+news.length):=⟨_,rfl⟩;have vP:ys.length=n*5:=by
  rw[rP];simp only[List.length_append,List.length_take,List.length_drop,hlen,hfl];omega
 have hr1:W1.ownsRow base 197 5 (.slice (some (Qb g 0)) n cap) n ys:=by
  rw[hW1];exact I7 z6 _ news n hcap (by rw[hlen];omega) ys vP (lRq _) (by rw[<- rP];exact List.take_of_length_le (by omega))
 have hcl:∀ ty,(Builtin.clear_ #[195] ty #[.slice (some ⟨g,(i+(n-j))*5,none⟩) (n-(i+(n-j))) (cap-(i+(n-j)))]).run Tryz.prog W1=.ok (.tuple #[]) (W1.setCells g ((i+(n-j))*5) rO):=by
  intro ty;rw[show n-(i+(n-j))=1 by have:=hj.out;omega];exact abo W1 ty g _ _ (fun t ht=>(zX hr1 _ (by have:=hj.out;omega)).1) (fun t ht=>(zX hr1 _ (by have:=hj.out;omega)).2.1)
 have HR:Hid ((W1.setCells g ((i+(n-j))*5) rO).ownsRow base 197 5 (.slice (some (Qb g 0)) (n-1) cap) (n-1) (flat (Bk.del l i))):=by
  have hd:(Bk.del l i).length=n-1:=by rw[Bk.Jb (by rw[hn.out];omega),hn.out]
  refine I7 hr1 _ rO (n-1) (by omega) (by show _+5<=_;have:=hj.out;omega) _ (by rw[pq,hd]) (by omega) ?_;have e1:(i+(n-j))*5=(n-1)*5:=by have:=hj.out;congr 1;omega
  rw[e1,aAq,List.take_append_of_le_length (by rw[lKq,vP];omega),List.take_take,Nat.min_self,rP];rw[List.take_append_of_le_length (by simp only[List.length_append,List.length_take,hlen,hfl];have:=hj.out;omega),List.take_of_length_le (by simp only[List.length_append,List.length_take,hlen,hfl];have:=hj.out;omega)];rw[hnews,Nat.zero_add,Qi l i (by rw[hn.out];omega),<- zV,hj.out];rfl
 have HG:Hid (w.grownBy (W1.setCells g ((i+(n-j))*5) rO) (some g)):=by
  have o1:=Only.setCells w.drew g news (0+i*5) none;rw[<- hW1]at o1;have o2:=o1.trans (Only.setCells W1 g rO ((i+(n-j))*5) none) (fun k h=>.inl h);exact⟨o2.os,o2.tape,o2.output,o2.size,fun k hk h=>o2.block k hk (by simp) h⟩
 have hW:Hid (W1=w.drew.setCells g (0+i*5) news):=hW1;have HI:=hDq hi;have av:=hDq hz1;have abq:i<=cap:=by omega
 have abr:j<=cap:=by omega
 clear hW1 hr1 rP vP hfl z6 z1 hnews hlen hrow hi hz0 hz1 hz2 hz3;go_enter Tryz.func298,Tryz.ntmps298
 go_wp2_with fail
 go_region_law (refine step_append_room rfl (.tmp 22) (.tmp 25) 195 rfl 197 i0 5 Tryz.underlying195 HI.out av.out g 0 i cap (by simp[Act.eval,Act.put]) A (n-j) (cap-j) news (by simp[Act.eval,Act.put]) s1.out hsrc.out s2.out (by omega) s3.out ?_;rw[<- hW.out])
 go_wp2;go_ret;exact⟨by rw[show n-1=i+(n-j) by have:=hj.out;omega];rfl,HR.out,HG.out⟩
theorem df.set {w w2:World} {base p:Nat} {v v':Value} {l l':List Cv.ag} (h:df w base p v l) (hg:w.grownBy w2 v.ownBlock) (hr:w2.ownsRow base 197 5 v' l'.length (flat l')) (hn:∀ k,v'.ownBlock=some k->v.ownBlock=some k\/w.heap.size<=k) :
  df (w2.setCell (Qb p 0) v') base p v' l'/\Step w (w2.setCell (Qb p 0) v') p v v':=by
 have hc:w2.heap[p]?=some (.cells #[v] 276 (0,0)):=by rw[hg.block p h.lt (fun e=>h.ne e.symm)];exact h.cell
 have h3:v'.ownBlock≠some p:=by
  intro e;rcases hr.2 with ⟨e1,_⟩ | ⟨r,cap,cur,e1,_,hr2,_⟩
  .rw[e1]at e;cases e
  .rw[e1]at e
   have:r=p:=by simpa [Value.ownBlock] using e
   rw[this,hc]at hr2;cases hr2
 refine⟨⟨one_setCell hc,h.lo,ownsRow_setCell_other hr h3 _⟩,⟨?_,hn⟩⟩;exact(Only.iM hg (some p)).trans (Only.setCell w2 p 0 v' v.ownBlock) (fun k e=>.inl e)
theorem df.vO {w w2:World} {base p:Nat} {v:Value} {l:List Cv.ag} (h:df w base p v l) (hg:w.grownBy w2 v.ownBlock):w2.cell? (Qb p 0)=some v/\w2.frozen? (Qb p 0)=false:=by
 have hc:w2.heap[p]?=some (.cells #[v] 276 (0,0)):=by rw[hg.block p h.lt (fun e=>h.ne e.symm)];exact h.cell
 exact⟨cell_of_one hc,free_of_one hc⟩
theorem Qg (p base k:Nat) (v:Value) (l:List Cv.ag) (w:World) (hb:Hid (df w base p v l)) (hk:k<l.length) (hn:Hid (l.length<=60)) :
  Calls Tryz.prog 278 #[Qc p,Qa k] w fun e w'=>e=.returned (.tuple #[])/\∃ v',df w' base p v' (Bk.del l k)/\Step w w' p v v':=by
 have hcell:=cell_of_one hb.out.cell;rcases hb.out.form with ⟨_,hl⟩ | ⟨g,cap,rfl,hle,_,_⟩
 .rw[hl]at hk;exact absurd hk (Nat.not_lt_zero _)
 obtain⟨n,hnn⟩:∃ n,l.length=n:=⟨_,rfl⟩;have z_:=hDq hnn;have HD:=hDq (abp g cap n k (k+1) base l w hnn (by rw[<- hnn];exact hb.out.row) rfl (by omega) (by omega) (by omega));have abD:Hid (n<=60):=by rw[<- hnn];exact hn.out
 rw[hnn]at hcell hk hle ⊢;clear hnn;have anU:k<60:=by have:=abD.out;omega
 have dW:((k+1:Nat):Int)=(k:Int)+1:=by omega
 rw[dW]at HD;go_enter Tryz.func278,Tryz.ntmps278
 go_wp2_with fail
 refine HD.out.mono ?_;rintro e w2 ⟨rfl,hrow,hg⟩;obtain⟨k1,k2⟩:=hb.out.vO (w2:=w2) (by rw[z_.out];exact hg);have HR:=hDq hrow;have HG:=hDq hg;clear hrow hg hcell;rw[z_.out]at k1;simp only[];go_wp2;go_end0;have hd:(Bk.del l k).length=n-1:=by rw[Bk.Jb (by rw[z_.out];exact hk),z_.out]
 have hb':=hb.out;rw[z_.out]at hb';exact⟨rfl,_,hb'.set HG.out (by rw[hd];exact HR.out) (fun k h=>.inl h)⟩
theorem abE (v:Value) (base n:Nat) (l:List Cv.ag) (w:World) (hn:Hid (l.length=n)) (hn':n<=1000) (hr:Hid (w.ownsRow base 197 5 v n (flat l))) :
  Calls Tryz.prog 171 #[v] w fun e w'=>∃ v2,e=.returned v2/\w'.ownsRow w.heap.size 197 5 v2 n (flat l)/\Qd w w':=by
 have anV:∀ (w:World) (a:Option Addr) (n c n' c':Nat),(binOp .eql 195 (.slice a n c) (.slice none n' c')).run Tryz.prog w=.ok (.bool a.isNone) w:=fun w a n c n' c'=>Lib.run_eql_slice_nil w _ _ a n c n' c' Tryz.underlying195;rcases hr.out.2 with ⟨rfl,h0⟩ | ⟨g,cap,cur,rfl,_⟩
 .have HE:Hid (flat l=[]/\n=0):=⟨by rw[show l=[] from List.eq_nil_of_length_eq_zero (by rw[hn.out];exact h0)];rfl,h0⟩
  clear h0;go_enter Tryz.func171,Tryz.ntmps171;go_wp2;go_ret;exact⟨_,rfl,by rw[HE.out.1,HE.out.2];exact World.ownsRow_nil _ _ _ _,bRq _ _⟩
 .obtain⟨i0,z0,hi,hz0,hz1,hz2,hz3⟩:=DN
  have Hi:=hDq hi;have eG:=hDq hz0;have eH:=hDq hz1;have eI:=hDq hz2;have kQ:=hDq hz3;clear hi hz0 hz1 hz2 hz3;go_enter Tryz.func171,Tryz.ntmps171
  go_wp2_with (at_builtin;refine wpList_append_own _ rfl _ _ 195 rfl w.heap.size 197 i0 z0 5 40 Tryz.underlying195 Hi.out eG.out eH.out eI.out kQ.out (by decide) _ _ _ rfl (World.ownsRow_made w #[] 0 (lRq _) (Nat.zero_le _) (by simp)) (Qb g 0) n cap (flat l) rfl (by rw[pq,hn.out]) (fun j u hj=>cell_later ((bRq _ _).alloc (lRq _) _) (World.ownsRow.cells hr.out (g:=g) rfl j u hj)) (Qp l) (by unfold maxLen;omega) (by omega) (by simp) ?_)
  intro v2 w1 hown hgrow hnil;have HO:Hid (w1.ownsRow w.heap.size 197 5 v2 n (flat l)):=by
   show World.ownsRow _ _ _ _ _ _ _;simpa using hown
  have HB:Hid (Qd w w1):=((bRq _ w).alloc (lRq _) _).grown hgrow (by simp) (by intro k hk;simp[Value.ownBlock]at hk;omega);clear hown hgrow hnil;go_wp2;go_ret;exact⟨v2,rfl,HO.out,HB.out⟩
theorem vT (p base:Nat) (v:Value) (l:List Cv.ag) (w:World) (hb:Hid (df w base p v l)) (hn:Hid (l.length<=60)) :
  Calls Tryz.prog 109 #[Qc p] w fun e w'=>∃ v2,e=.returned v2/\w'.ownsRow w.heap.size 197 5 v2 l.length (flat l)/\Qd w w':=by
 have hcell:=cell_of_one hb.out.cell;have HC:=hDq (abE v base l.length l w rfl (by have:=hn.out;omega) hb.out.row);obtain⟨a,m,c,rfl⟩:∃ a m c,v=.slice a m c:=by
  rcases hb.out.form with ⟨e,_⟩ | ⟨g,cap,e,_⟩
  .exact⟨_,_,_,e⟩
  .exact⟨_,_,_,e⟩
 go_enter Tryz.func109,Tryz.ntmps109
 go_wp2_with fail
 refine HC.out.mono ?_;rintro e w2 ⟨v2,rfl,hr2,hb2⟩;have HR:=hDq hr2;have HB:=hDq hb2;clear hr2 hb2 hcell;simp only[];go_wp2;go_ret;exact⟨v2,rfl,HR.out,HB.out⟩
def Bk.jP (l:List Cv.ag) (id:Int):Cv.ag:=if Cv.has l id=true then Cv.nth l (Bk.pos l id) else Cv.z
theorem DR (p base:Nat) (v:Value) (id:Int) (l:List Cv.ag) (w:World) (hb:Hid (df w base p v l)) (hn:Hid (l.length<=60)) :
  Calls Tryz.prog 192 #[Qc p,Qa id] w fun e w'=>e=.returned (.tuple #[bU (Bk.jP l id),.bool (Cv.has l id)])/\Qd w w':=by
 have HF:=hDq (DF p base v id l (w.alloc (.cells #[Qa 0,Qa 0,Qa 0,Qa 0,Qa 0] 197)) (hb.out.later ((bRq _ _).alloc (lRq _) _)) hn);go_enter Tryz.func192,Tryz.ntmps192
 go_wp2_with fail
 refine HF.out.mono ?_;rintro e w2 ⟨rfl,hb2⟩;have jO:Qd w w2:=((bRq _ _).alloc (lRq _) _).trans (hb2.mono (by simp));have HB:=hDq jO;have HP:Hid (∀ j,j<5->w2.cell? (Qb w.heap.size j)=some (Qa 0)/\w2.frozen? (Qb w.heap.size j)=false):=fun j hj=>by
  have e:=hb2.block w.heap.size (by simp);rw[hNq]at e;refine⟨?_,by simp[World.frozen?,e]⟩;simp only[World.cell?,e];have:j=0\/j=1\/j=2\/j=3\/j=4:=by omega
  rcases this with rfl | rfl | rfl | rfl | rfl <;> rfl
 have HK:=hDq (hb.out.later jO);have ⟨a0,f0⟩:=HP.out 0 (by decide);have ⟨a1,f1⟩:=HP.out 1 (by decide);have ⟨a2,f2⟩:=HP.out 2 (by decide);have ⟨a3,f3⟩:=HP.out 3 (by decide);have ⟨a4,f4⟩:=HP.out 4 (by decide);clear hb2 jO HF;cases hh:Cv.has l id with
 | false =>
  have Hh:=hDq hh;rw[Bk.zT hh];clear hh;simp only[];go_wp2;refine bodyPost_ret (v:=.tuple #[bU Cv.z,.bool false]) (by simp[results,Tryz.results192,go_sem,bU,Cv.z,a0,a1,a2,a3,a4]) rfl ⟨?_,?_⟩
  .rw[show Bk.jP l id=Cv.z by unfold Bk.jP;rw[Hh.out];rfl,Hh.out]
  .exact((((HB.out.setCell (lRq _) _).setCell (lRq _) _).setCell (lRq _) _).setCell (lRq _) _).setCell (lRq _) _
 | true =>
  have Hh:=hDq hh;rw[Bk.zU hh];have hk:=Bk.I6 hh;clear hh;have hcell:=cell_of_one HK.out.cell;rcases HK.out.form with ⟨_,hl⟩ | ⟨g,cap,rfl,hle,_,hl⟩
  .rw[hl]at hk;exact absurd hk (Nat.not_lt_zero _)
  obtain⟨c0,c1,c2,c3,c4⟩:=hl _ hk;have HX:Hid (Bk.jP l id=Cv.nth l (Bk.pos l id)):=by show _=_;unfold Bk.jP;rw[if_pos Hh.out]
  have rK:l.length<=60:=hn.out;obtain⟨x,hx⟩:∃ x,Cv.nth l (Bk.pos l id)=x:=⟨_,rfl⟩;rw[hx]at HX c0 c1 c2 c3 c4;clear hx;generalize Bk.pos l id=k at *;obtain⟨n,hnn⟩:∃ n,l.length=n:=⟨_,rfl⟩;rw[hnn]at hk hcell rK;have hg:g<w2.heap.size:=bCq _ _ c0;have aX:(k:Int)<n:=by omega
  simp only[Nat.zero_add]at c0 c1 c2 c3 c4;clear hl hle hnn HK;simp only[];go_wp2;refine bodyPost_ret (v:=.tuple #[bU x,.bool true]) (by simp[results,Tryz.results192,go_sem,bU,a0,a1,a2,a3,a4]) rfl ⟨?_,?_⟩
  .rw[Hh.out,HX.out]
  .exact((((HB.out.setCell (lRq _) _).setCell (lRq _) _).setCell (lRq _) _).setCell (lRq _) _).setCell (lRq _) _
structure vM (w:World) (T:TypeId) (v1 v5 v6 v7:Value):Prop where
 bY:h9 w T v1 v6 v7
 c5:w.cell? (Qb 6 0)=some (.iface T v5)
theorem vM.later {w w':World} {T:TypeId} {v1 v5 v6 v7:Value} (h:vM w T v1 v5 v6 v7) (hb:Qd w w'):vM w' T v1 v5 v6 v7:=⟨h.bY.later hb,cell_later hb h.c5⟩
def tH (T:TypeId) (v1 v5 v6 v7:Value):Nat->Value
 | 0=>.nilIface
 | 1=>.iface T v1
 | 2=>.iface T v6
 | 3=>.iface T v7
 | _=>.iface T v5
theorem Step.zS {w w':World} {p b:Nat} {v v':Value} (h:Step w w' p v v') (hb:w.heap.size<=b) (o:Nat) (u:Value):Step w (w'.setCell (Qb b o) u) p v v' :=
 ⟨⟨h.only.os,h.only.tape,h.only.output,by simpa using h.only.size,fun k hk h1 h2=>by
  rw[Below.heap_setCell _ _ _ _ (by show k≠b;omega)];exact h.only.block k hk h1 h2⟩,h.new⟩
theorem df.setOther {w:World} {base p b:Nat} {v:Value} {l:List Cv.ag} (h:df w base p v l) (hp:b≠p) (hv:v.ownBlock≠some b) (o:Nat) (u:Value):df (w.setCell (Qb b o) u) base p v l :=
 ⟨by rw[Below.heap_setCell _ _ _ _ (by show p≠b;omega)];exact h.cell,h.lo,ownsRow_setCell_other h.row hv u⟩
theorem abd {B:Nat} {w w':World} (h:Below B w w'):Below B w w'.drew:=⟨h.os,h.tape,h.output,h.size,h.block⟩
theorem Qe (p base:Nat) (v:Value) (id:Int) (l:List Cv.ag) (T:TypeId) (v1 v5 v6 v7:Value) (w:World) (he:Hid (vM w T v1 v5 v6 v7)) (hb:Hid (df w base p v l)) (hn:Hid (l.length<=60)) :
  Calls Tryz.prog 244 #[Qc p,Qa id] w fun e w'=>e=.returned (.tuple #[bU (Bk.fC l id),tH T v1 v5 v6 v7 (Bk.dh l id)])/\∃ v',df w' base p v' (Bk.dQ l id)/\Step w w' p v v':=by
 have HF:=hDq (DF p base v id l (w.alloc (.cells #[Qa 0,Qa 0,Qa 0,Qa 0,Qa 0] 197)) (hb.out.later ((bRq _ _).alloc (lRq _) _)) hn);go_enter Tryz.func244,Tryz.ntmps244
 go_wp2_with fail
 refine HF.out.mono ?_;rintro e w2 ⟨rfl,hb2⟩;have jO:Qd w w2:=((bRq _ _).alloc (lRq _) _).trans (hb2.mono (by simp));have HB:=hDq jO;have Qf:w2.heap[w.heap.size]?=some (.cells #[Qa 0,Qa 0,Qa 0,Qa 0,Qa 0] 197 (0,0)):=by
  have e:=hb2.block w.heap.size (by simp);rw[hNq]at e;exact e
 have xV:=hDq Qf;have HK:=hDq (hb.out.later jO);have HE:=hDq (he.out.later jO);clear hb2 jO HF Qf;cases hh:Cv.has l id with
 | false =>
  have Hh:=hDq hh;rw[Bk.zT hh];have HC:Hid (Bk.dh l id=4/\Bk.dQ l id=l/\Bk.fC l id=Cv.z):=by
   have e:Bk.dh l id=4:=by unfold Bk.dh;rw[hh];rfl
   exact⟨e,by unfold Bk.dQ;rw[e];rfl,by unfold Bk.fC;rw[e];rfl⟩
  clear hh;have c5:=HE.out.c5;have cs:∀ j,j<5->w2.cell? (Qb w.heap.size j)=some (Qa 0)/\w2.frozen? (Qb w.heap.size j)=false:=fun j hj=>by
   refine⟨?_,by simp[World.frozen?,xV.out]⟩;simp only[World.cell?,xV.out];have:j=0\/j=1\/j=2\/j=3\/j=4:=by omega
   rcases this with rfl | rfl | rfl | rfl | rfl <;> rfl
  have ⟨a0,f0⟩:=cs 0 (by decide);have ⟨a1,f1⟩:=cs 1 (by decide);have ⟨a2,f2⟩:=cs 2 (by decide);have ⟨a3,f3⟩:=cs 3 (by decide);have ⟨a4,f4⟩:=cs 4 (by decide);clear cs;have h3:¬ (6=w.heap.size):=fun e=>by
   have h:=he.out.c5
   have:=bCq _ _ h
   simp at this;omega
  simp only[];go_wp2
  go_region
  go_wp2;refine bodyPost_ret (v:=.tuple #[bU Cv.z,.iface T v5]) (by simp[results,Tryz.results244,go_sem,bU,Cv.z,a0,a1,a2,a3,a4]) rfl ⟨?_,?_⟩
  .rw[HC.out.1,HC.out.2.2];rfl
  .have di:Qd w (((((w2.setCell (Qb w.heap.size 0) (Qa 0)).setCell (Qb w.heap.size 1) (Qa 0)).setCell (Qb w.heap.size 2) (Qa 0)).setCell (Qb w.heap.size 3) (Qa 0)).setCell (Qb w.heap.size 4) (Qa 0)).drew :=
    abd (((((HB.out.setCell (lRq _) _).setCell (lRq _) _).setCell (lRq _) _).setCell (lRq _) _).setCell (lRq _) _)
   exact⟨v,by rw[HC.out.2.1];exact hb.out.later di,Step.of_below di p v⟩
 | true =>
  have Hh:=hDq hh;rw[Bk.zU hh];have hk:=Bk.I6 hh;have HC:Hid (Bk.dh l id=0/\Bk.dQ l id=Bk.del l (Bk.pos l id)/\Bk.fC l id=Cv.nth l (Bk.pos l id)):=by
   have e:Bk.dh l id=0:=by unfold Bk.dh;rw[hh];rfl
   exact⟨e,by unfold Bk.dQ;rw[if_pos e],by unfold Bk.fC;rw[if_pos e]⟩
  clear hh;have hcell:=cell_of_one HK.out.cell;rcases HK.out.form with ⟨_,hl⟩ | ⟨g,cap,rfl,hle,_,hl⟩
  .rw[hl]at hk;exact absurd hk (Nat.not_lt_zero _)
  obtain⟨c0,c1,c2,c3,c4⟩:=hl _ hk;have rK:l.length<=60:=hn.out;have qC:=fun X=>Qg p base (Bk.pos l id) _ l (w2.alloc (.cells X 197)) (HK.out.later ((bRq _ _).alloc (lRq _) _)) hk hn;have qC:=hDq qC;obtain⟨x,hx⟩:∃ x,Cv.nth l (Bk.pos l id)=x:=⟨_,rfl⟩;rw[hx]at HC c0 c1 c2 c3 c4;clear hx;generalize Bk.pos l id=k at *;have xW:Hid (p<w.heap.size/\g<w.heap.size):=⟨hb.out.lt,(hb.out.tJ g rfl).2⟩;have hg:g<w2.heap.size:=bCq _ _ c0;obtain⟨n,hnn⟩:∃ n,l.length=n:=⟨_,rfl⟩;rw[hnn]at hk hcell rK;have aX:(k:Int)<n:=by omega
  simp only[Nat.zero_add]at c0 c1 c2 c3 c4;have xX:=hDq hnn;clear hl hle hnn;simp only[]
  go_wp2_with fail
  refine(qC.out _).mono ?_;rintro e w3 ⟨rfl,v3,hk3,hs3⟩;have hsz:=HB.out.size;have DG:w3.heap[w.heap.size]?=some (.cells #[Qa 0,Qa 0,Qa 0,Qa 0,Qa 0] 197 (0,0)):=by
   rw[hs3.only.block _ (by have:=lBq xV.out;simp;omega) (fun e=>by have:=xW.out.1;simp at e;omega) (fun e=>by have:=xW.out.2;simp[Value.ownBlock]at e;omega),heap_alloc_old _ _ (lBq xV.out)];exact xV.out
  have h7:w3.heap[w2.heap.size]?=some (.cells #[Qa x.id,Qa x.ak,Qa x.sd,Qa x.pr,Qa x.q] 197 (0,0)):=by
   rw[hs3.only.block _ (by simp) (fun e=>by have:=xW.out.1;simp at e;omega) (fun e=>by have:=xW.out.2;simp[Value.ownBlock]at e;omega),hNq]
  have cs:∀ j,j<5->w3.cell? (Qb w.heap.size j)=some (Qa 0)/\w3.frozen? (Qb w.heap.size j)=false:=fun j hj=>by
   refine⟨?_,by simp[World.frozen?,DG]⟩;simp only[World.cell?,DG];have:j=0\/j=1\/j=2\/j=3\/j=4:=by omega
   rcases this with rfl | rfl | rfl | rfl | rfl <;> rfl
  have ⟨a0,f0⟩:=cs 0 (by decide);have ⟨a1,f1⟩:=cs 1 (by decide);have ⟨a2,f2⟩:=cs 2 (by decide);have ⟨a3,f3⟩:=cs 3 (by decide);have ⟨a4,f4⟩:=cs 4 (by decide);have b0:w3.cell? (Qb w2.heap.size 0)=some (Qa x.id):=by simp[World.cell?,h7]
  have b1:w3.cell? (Qb w2.heap.size 1)=some (Qa x.ak):=by simp[World.cell?,h7]
  have b2:w3.cell? (Qb w2.heap.size 2)=some (Qa x.sd):=by simp[World.cell?,h7]
  have b3:w3.cell? (Qb w2.heap.size 3)=some (Qa x.pr):=by simp[World.cell?,h7]
  have b4:w3.cell? (Qb w2.heap.size 4)=some (Qa x.q):=by simp[World.cell?,h7]
  have cK:=hDq hs3;have rM:=hDq hk3;have lD:=hDq (lBq DG);clear cs hs3 hk3 h7 DG hcell c0 c1 c2 c3 c4 hsz;simp only[];go_wp2;refine bodyPost_ret (v:=.tuple #[bU x,.nilIface]) (by simp[results,Tryz.results244,go_sem,bU,a0,a1,a2,a3,a4]) rfl ⟨?_,?_⟩
  .rw[HC.out.1,HC.out.2.2];rfl
  .have hst:=(Step.of_below ((HB.out.alloc HB.out.size (.cells #[Qa x.id,Qa x.ak,Qa x.sd,Qa x.pr,Qa x.q] 197))) p _).trans cK.out
   have hne:v3.ownBlock≠some w.heap.size:=fun e=>by
    rcases cK.out.new _ e with h | h
    .have:=xW.out.2;simp[Value.ownBlock]at h;omega
    .have:=lBq xV.out;simp at h;omega
   have hnp:w.heap.size≠p:=by have:=xW.out.1;omega
   refine⟨v3,?_,((((hst.zS (lRq _) _ _).zS (lRq _) _ _).zS (lRq _) _ _).zS (lRq _) _ _).zS (lRq _) _ _⟩;rw[HC.out.2.1];exact((((rM.out.setOther hnp hne _ _).setOther hnp hne _ _).setOther hnp hne _ _).setOther hnp hne _ _).setOther hnp hne _ _
theorem Qh {l:List Cv.ag} {k:Nat} (hk:k<l.length) (x:Cv.ag):flat (Bk.put l k x)=(flat l).take (k*5)++ep x++(flat l).drop (k*5+5):=by
 unfold Bk.put;rw[zV,Qi l k (by omega),show k*5+5=(k+1)*5 by omega,Qj l (k+1) (by omega)];simp[flat]
theorem abe {l:List Cv.ag} {k:Nat} (hk:k<l.length):flat l=(flat l).take (k*5)++ep (Cv.nth l k)++(flat l).drop (k*5+5):=by
 have e:=Bk.zW hk;rw[<- Qh hk,Bk.put,<- e]
theorem df.less {w:World} {base p g cap:Nat} {l:List Cv.ag} (h:df w base p (.slice (some (Qb g 0)) l.length cap) l) {k:Nat} (hk:k<l.length) (q:Int) :
  df (w.setCell ⟨g,k*5+4,none⟩ (Qa ((Cv.nth l k).q-q))) base p (.slice (some (Qb g 0)) l.length cap) (Bk.put l k (Bk.less (Cv.nth l k) q))/\Step w (w.setCell ⟨g,k*5+4,none⟩ (Qa ((Cv.nth l k).q-q))) p (.slice (some (Qb g 0)) l.length cap) (.slice (some (Qb g 0)) l.length cap):=by
 have hr:=I7 h.row (k*5+4) [Qa ((Cv.nth l k).q-q)] l.length (by
  rcases h.row.2 with ⟨e,_⟩ | ⟨g',cap',cur,e,_,_,hc,_⟩
  .cases e
  .obtain⟨_,rfl⟩:g=g'/\cap=cap':=by simpa using e
   exact hc) (by show k*5+4+1<=_;omega) (flat (Bk.put l k (Bk.less (Cv.nth l k) q))) (by rw[pq,Bk.DI hk]) (lRq _) (by
  rw[List.take_of_length_le (by simp only[List.length_append,List.length_take,List.length_drop,pq,List.length_cons,List.length_nil];omega)];have hl:((flat l).take (k*5)).length=k*5:=by rw[lKq,pq];omega
  have e1:(flat l).take (k*5+4)=(flat l).take (k*5)++[Qa (Cv.nth l k).id,Qa (Cv.nth l k).ak,Qa (Cv.nth l k).sd,Qa (Cv.nth l k).pr]:=by
   have e:=abe hk;generalize (flat l).drop (k*5+5)=D at *;have e2:(flat l).take (k*5+4)=((flat l).take (k*5)++ep (Cv.nth l k)++D).take (k*5+4):=by rw[<- e]
   generalize (flat l).take (k*5)=A at *;rw[e2,aAq,List.take_append,hl];simp[ep,hl,List.take_of_length_le]
  rw[e1,Qh hk];simp[ep,Bk.less])
 have hs:w.setCells g (k*5+4) [Qa ((Cv.nth l k).q-q)]=w.setCell ⟨g,k*5+4,none⟩ (Qa ((Cv.nth l k).q-q)):=rfl;rw[hs]at hr;have DJ:g≠p:=fun e=>h.ne (by rw[e];rfl);refine⟨⟨by rw[Below.heap_setCell _ _ _ _ (by show p≠g;omega)];exact h.cell,h.lo,by rw[Bk.DI hk];exact hr⟩,⟨(Only.setCell w g _ _ (some p)).swap,fun k h=>.inl h⟩⟩
theorem Bk.abf {l:List Cv.ag} {k:Nat} (hk:k<l.length) (x:Cv.ag):Bk.del (Bk.put l k x) k=Bk.del l k:=by
 have hl:(l.take k).length=k:=by rw[lKq];omega
 unfold Bk.del Bk.put;congr 1
 .rw[List.take_append_of_le_length (by omega),List.take_of_length_le (by omega)]
 .rw[List.drop_append,hl,List.drop_of_length_le (by omega),show k+1-k=1 by omega]
  rfl
theorem abg (p base:Nat) (v:Value) (id q:Int) (l:List Cv.ag) (T:TypeId) (v1 v5 v6 v7:Value) (w:World) (he:Hid (vM w T v1 v5 v6 v7)) (hb:Hid (df w base p v l)) (Qk:Hid (Bk.Good l)) :
  Calls Tryz.prog 264 #[Qc p,Qa id,Qa q] w fun e w'=>e=.returned (tH T v1 v5 v6 v7 (Bk.ma l id q))/\∃ v',df w' base p v' (Bk.mX l id q)/\Step w w' p v v':=by
 have hn:Hid (l.length<=60):=Qk.out.len;go_enter Tryz.func264,Tryz.ntmps264
 go_wp2_with fail
 refine(DF p base v id l w hb hn).mono ?_;rintro e w2 ⟨rfl,hb2⟩;have HB:=hDq hb2;have HK:=hDq (hb.out.later hb2);have HE:=hDq (he.out.later hb2);clear hb2;cases hh:Cv.has l id with
 | false =>
  rw[Bk.zT hh];have HC:Hid (Bk.ma l id q=4/\Bk.mX l id q=l):=by
   have e:Bk.ma l id q=4:=by unfold Bk.ma;rw[hh];rfl
   exact⟨e,by unfold Bk.mX;rw[e];rfl⟩
  clear hh;have c5:=HE.out.c5;simp only[];go_wp2;go_ret;exact⟨by rw[HC.out.1];rfl,v,by rw[HC.out.2];exact HK.out,Step.of_below HB.out p v⟩
 | true =>
  have Hh:=hDq hh;rw[Bk.zU hh];have hk:=Bk.I6 hh;have abh:=hDq hk;clear hh;have hcell:=cell_of_one HK.out.cell;rcases HK.out.form with ⟨_,hl⟩ | ⟨g,cap,rfl,hle,_,hl⟩
  .rw[hl]at hk;exact absurd hk (Nat.not_lt_zero _)
  have HX:Hid (Cv.ok (Cv.nth l (Bk.pos l id))=true):=Qk.out.oks _ (Cv.mY hk);obtain⟨_,_,_,_,c4⟩:=hl _ hk;have rK:l.length<=60:=hn.out;obtain⟨n,hnn⟩:∃ n,l.length=n:=⟨_,rfl⟩;have xX:=hDq hnn;rw[hnn]at hk hcell rK;have aX:(Bk.pos l id:Int)<n:=by omega
  simp only[Nat.zero_add]at c4;have mb:=(Cv.gw HX.out).2.2.2.2;have kr:=hDq (HK.out.less abh.out q);obtain⟨qD,tK⟩:∃ qD,(Cv.nth l (Bk.pos l id)).q=qD:=⟨_,rfl⟩;obtain⟨k,dW⟩:∃ k,Bk.pos l id=k:=⟨_,rfl⟩;have DK:=hDq tK;have HKK:=hDq dW;rw[tK]at c4 mb kr;rw[dW]at hk aX c4 kr ⊢;clear tK dW hnn hl hle HX;have hg:g<w2.heap.size:=bCq _ _ c4;simp only[]
  go_wp2_with fail
  refine(gH q 1 qD _).mono ?_;rintro e w3 ⟨rfl,rfl⟩;cases hw:ah.aG q 1 qD with
  | false =>
   have HC:Hid (Bk.ma l id q=1/\Bk.mX l id q=l):=by
    have e:Bk.ma l id q=1:=by unfold Bk.ma;rw[if_pos Hh.out,DK.out,hw];rfl
    exact⟨e,by unfold Bk.mX;rw[e];rfl⟩
   clear hw;have c1:=HE.out.bY.c1;simp only[];go_wp2;go_ret;exact⟨by rw[HC.out.1];rfl,_,by rw[HC.out.2];exact HK.out,Step.of_below HB.out p _⟩
  | true =>
   have DL:Hid (Bk.ma l id q=0):=by show _=_;unfold Bk.ma;rw[if_pos Hh.out,DK.out,hw];rfl
   have I8:1<=q/\q<=qD:=by simpa [ah.aG] using hw
   have f4:w3.frozen? ⟨g,k*5+4,none⟩=false:=(zX (by have:=HK.out.row;rw[xX.out]at this;exact this) (k*5+4) (by omega)).2.1;have DJ:¬ (g=p):=fun e=>HK.out.ne (by rw[e];rfl);clear hw;have hsub:IntKind.i64.wrap (qD-q)=qD-q:=IntWalk.i64_in _ (by omega);by_cases hq:q=qD
   .have hz:qD-q=0:=by omega
    have jw:Hid (Bk.mX l id q=Bk.del l k):=by show _=_;unfold Bk.mX;rw[if_pos DL.out,DK.out,if_pos hq,HKK.out]
    have pu:Hid (Bk.del (Bk.put l k (Bk.less (Cv.nth l k) q)) k=Bk.del l k):=Bk.abf (by rw[xX.out];exact hk) _;have qC:=hDq (Qg p base k _ _ _ kr.out.1 (by rw[Bk.DI (by rw[xX.out];exact hk),xX.out];exact hk) (by show _<=_;rw[Bk.DI (by rw[xX.out];exact hk)];exact hn.out));rw[hz]at qC kr;have HQ:=hDq hq;clear hq;simp only[]
    go_wp2_with fail
    refine qC.out.mono ?_;rintro e w4 ⟨rfl,v4,hk4,dm⟩;have abj:=hDq hk4;have cq:=hDq dm;clear hk4 dm qC;simp only[];go_wp2;go_ret;refine⟨by rw[DL.out];rfl,v4,by rw[jw.out,<- pu.out];exact abj.out,((Step.of_below HB.out p _).trans kr.out.2).trans cq.out⟩
   .have hz:¬ (qD-q=0):=by omega
    have jw:Hid (Bk.mX l id q=Bk.put l k (Bk.less (Cv.nth l k) q)):=by show _=_;unfold Bk.mX;rw[if_pos DL.out,DK.out,if_neg hq,HKK.out]
    have HQ:=hDq hq;clear hq;simp only[];go_wp2;go_ret;refine⟨by rw[DL.out];rfl,_,by rw[jw.out];exact kr.out.1,(Step.of_below HB.out p _).trans kr.out.2⟩
section
variable {w w':World} {base p t:Nat} {V:Nat->Value} {L:Nat->List Ask} {T:Nat->Value}
theorem lg (R:World->Prop):∃ (X:Type) (val:X->World),(∀ x,R (val x))/\∀ W,R W->∃ x,val x=W :=
 ⟨{ W:World // R W },fun x=>x.1,fun x=>x.2,fun W h=>⟨⟨W,h⟩,rfl⟩⟩
theorem w5 {P:Program} {o:Oper} {a:Act} {w w':World} {K:Value->World->Prop} (s x:Operand) (t:TypeId) (hop:o.op=Op.call { callee:=Callee.builtin Builtin.append,args:=#[s,x],argTypes:=#[t,t] }) (vs uI v':Value) (hs:a.eval s=vs) (hx:a.eval x=uI)
  (hrun:(Builtin.append_ #[t,t] o.type #[vs,uI]).run P w=.ok v' w') (hK:K v' w'):aQ P K ((execOp a.eval o).run P w):=by
 simp[execOp,hop,resolve,invoke,builtin,hs,hx,hrun,Result.andThen,aQ];exact hK
theorem lj {w:World} {b:Nat} {k c sq it sd pr q id:Int} {ty:TypeId} (h:w.heap[b]?=some (.cells #[.int .u8 k,.int .i64 c,.int .i64 sq,.int .i64 it,.int .i64 sd,.int .i64 pr,.int .i64 q,.int .i64 id] ty (0,0))) :
  w.cell? ⟨b,0,none⟩=some (.int .u8 k)/\w.cell? ⟨b,1,none⟩=some (.int .i64 c)/\w.cell? ⟨b,2,none⟩=some (.int .i64 sq)/\w.cell? ⟨b,3,none⟩=some (.int .i64 it)/\w.cell? ⟨b,4,none⟩=some (.int .i64 sd)/\w.cell? ⟨b,5,none⟩=some (.int .i64 pr)/\w.cell? ⟨b,6,none⟩=some (.int .i64 q)/\w.cell? ⟨b,7,none⟩=some (.int .i64 id):=by
 refine⟨?_,?_,?_,?_,?_,?_,?_,?_⟩ <;> (rw[cR _ _ _ _ _ _ h];rfl)
theorem afQ (w:World):Below w.heap.size w w.drew:=⟨rfl,rfl,rfl,lRq _,fun _ _=>rfl⟩
theorem afR (a:Ask) (w:World) (he:Hid (wV w T)) (hi:Hid (dF w base p V t L)) :
  Calls Tryz.prog 209 #[.pointer (some ⟨p,0,none⟩),bu a] w fun e w'=>e=.returned (Ue T (ay.jh L a))/\∃ fh,dF w' base p fh t (ay.ji L a)/\iq w w' p V fh:=by
 obtain⟨aO,ac,aV,bl,asd,aK,aq,aF⟩:=a;have HB:Hid (Below w.heap.size w (w.alloc (.cells #[.int .u8 aO,.int .i64 ac,.int .i64 aV,.int .i64 bl,.int .i64 asd,.int .i64 aK,.int .i64 aq,.int .i64 aF] 95))):=(bRq _ _).alloc (lRq _) _;have h2:=he.out.size;have kY:=he.out.kd;have k1:=he.out.bd;have k2:=he.out.Mm;have e0:=(he.out.later HB.out).kd;have e1:=(he.out.later HB.out).bd;have e2:=(he.out.later HB.out).Mm;have HI1:=hDq (hi.out.later HB.out);have Mv:=hDq (iq.of_below (V:=V) HB.out p);show Calls Tryz.prog 209 #[.pointer (some ⟨p,0,none⟩),.agg #[.int .u8 aO,.int .i64 ac,.int .i64 aV,.int .i64 bl,.int .i64 asd,.int .i64 aK,.int .i64 aq,.int .i64 aF]] w _;cases hk:ay.wZ ⟨aO,ac,aV,bl,asd,aK,aq,aF⟩ with
 | false =>
  have HA:Hid (ay.jh L ⟨aO,ac,aV,bl,asd,aK,aq,aF⟩=4/\ay.ji L ⟨aO,ac,aV,bl,asd,aK,aq,aF⟩=L):=by
   have e:ay.jh L ⟨aO,ac,aV,bl,asd,aK,aq,aF⟩=4:=by unfold ay.jh;rw[hk];rfl
   exact⟨e,by unfold ay.ji;rw[e];rfl⟩
  have hk1:(aO != 111)=true:=by simp[ay.wZ]at hk;simp[hk.1]
  have hk2:(aO != 99)=true:=by simp[ay.wZ]at hk;simp[hk.2]
  clear hk;go_enter Tryz.func209,Tryz.ntmps209;go_wp2;go_ret;exact⟨by rw[HA.out.1];rfl,V,by rw[HA.out.2];exact HI1.out,Mv.out⟩
 | true =>
  have HK:=hDq hk;have hk':aO=111\/aO=99:=by simpa [ay.wZ] using hk
  clear hk;have yS:=hDq (Us ac (w.alloc (.cells #[.int .u8 aO,.int .i64 ac,.int .i64 aV,.int .i64 bl,.int .i64 asd,.int .i64 aK,.int .i64 aq,.int .i64 aF] 95)));have yT:=hDq (Uf ac _ HI1);cases hc:ay.mE ac with
  | false =>
   have HA:Hid (ay.jh L ⟨aO,ac,aV,bl,asd,aK,aq,aF⟩=2/\ay.ji L ⟨aO,ac,aV,bl,asd,aK,aq,aF⟩=L):=by
    have e:ay.jh L ⟨aO,ac,aV,bl,asd,aK,aq,aF⟩=2:=by unfold ay.jh;rw[HK.out,if_pos rfl];simp[hc]
    exact⟨e,by unfold ay.ji;rw[e];rfl⟩
   rw[hc]at yS;clear hc;rcases hk' with rfl | rfl
   all_goals
    go_enter Tryz.func209,Tryz.ntmps209
    go_wp2_with fail
    refine yS.out.mono ?_;rintro e w2 ⟨rfl,rfl⟩;simp only[];go_wp2;go_ret;exact⟨by rw[HA.out.1];rfl,V,by rw[HA.out.2];exact HI1.out,Mv.out⟩
  | true =>
   rw[hc]at yS;obtain⟨c,gO,rfl⟩:=ay.Mq hc;have afS:Hid (ay.sD L (c:Int)=(L c).length):=by show _=_;unfold ay.sD;rw[hc];rfl
   rw[afS.out]at yT;by_cases hf:6<=(L c).length
   .have HA:Hid (ay.jh L ⟨aO,c,aV,bl,asd,aK,aq,aF⟩=8/\ay.ji L ⟨aO,c,aV,bl,asd,aK,aq,aF⟩=L):=by
     have e:ay.jh L ⟨aO,c,aV,bl,asd,aK,aq,aF⟩=8:=by unfold ay.jh;rw[HK.out,if_pos rfl];simp[hc,hf]
     exact⟨e,by unfold ay.ji;rw[e];rfl⟩
    clear hc;generalize (L c).length=m at *;have hf':(6:Int)<=m:=by omega
    rcases hk' with rfl | rfl
    all_goals
     go_enter Tryz.func209,Tryz.ntmps209
     go_wp2_with fail
     refine yS.out.mono ?_;rintro e w2 ⟨rfl,rfl⟩;simp only[]
     go_wp2_with fail
     refine yT.out.mono ?_;rintro e w2 ⟨rfl,rfl⟩;simp only[];go_wp2;go_ret;exact⟨by rw[HA.out.1];rfl,V,by rw[HA.out.2];exact HI1.out,Mv.out⟩
   .have HA:Hid (ay.jh L ⟨aO,c,aV,bl,asd,aK,aq,aF⟩=0/\ay.ji L ⟨aO,c,aV,bl,asd,aK,aq,aF⟩=ay.upd L c (L c++[⟨aO,c,aV,bl,asd,aK,aq,aF⟩])):=by
     have e:ay.jh L ⟨aO,c,aV,bl,asd,aK,aq,aF⟩=0:=by unfold ay.jh;rw[HK.out,if_pos rfl];simp[hc,hf]
     exact⟨e,by unfold ay.ji;rw[if_pos e];rfl⟩
    clear hc
    -- the world behind the making of the box,the draw and the new row of one
    obtain⟨w1,dz⟩:∃ w1,w1=w.alloc (.cells #[.int .u8 aO,.int .i64 c,.int .i64 aV,.int .i64 bl,.int .i64 asd,.int .i64 aK,.int .i64 aq,.int .i64 aF] 95):=⟨_,rfl⟩;have vN:Below w.heap.size w ((w.alloc (.cells #[.int .u8 aO,.int .i64 c,.int .i64 aV,.int .i64 bl,.int .i64 asd,.int .i64 aK,.int .i64 aq,.int .i64 aF] 95)).drew.alloc (.cells #[.int .u8 aO,.int .i64 c,.int .i64 aV,.int .i64 bl,.int .i64 asd,.int .i64 aK,.int .i64 aq,.int .i64 aF] 95)) :=
     (((bRq _ _).alloc (lRq _) _).trans ((afQ _).mono (by simp))).alloc (by simp[World.drew]) _
    have uN:=hi.out.later vN;obtain⟨i0,z0,uG,hz0,hz1,hz2,hz3⟩:=Gp;obtain⟨v4,w4,hap,hrow,hg,_,hloc⟩:=run_append_own_at (P:=Tryz.prog) ((w.alloc (.cells #[.int .u8 aO,.int .i64 c,.int .i64 aV,.int .i64 bl,.int .i64 asd,.int .i64 aK,.int .i64 aq,.int .i64 aF] 95)).drew.alloc (.cells #[.int .u8 aO,.int .i64 c,.int .i64 aV,.int .i64 bl,.int .i64 asd,.int .i64 aK,.int .i64 aq,.int .i64 aF] 95)) base 24 24 95 i0 z0 8 64 Tryz.underlying24 uG hz0 hz1 hz2 hz3 (by decide) _ _ _ (uN.row c gO) ⟨(w.alloc (.cells #[.int .u8 aO,.int .i64 c,.int .i64 aV,.int .i64 bl,.int .i64 asd,.int .i64 aK,.int .i64 aq,.int .i64 aF] 95)).heap.size,0,none⟩ 1 1 (lR ⟨aO,c,aV,bl,asd,aK,aq,aF⟩) rfl
     (fun j u hj=>Ug (World.drew _) ⟨aO,c,aV,bl,asd,aK,aq,aF⟩ 95 _ rfl j u hj)
     (fun u hu=>BL [⟨aO,c,aV,bl,asd,aK,aq,aF⟩] u (by simpa [bm] using hu)) (by unfold maxLen;omega) (by omega) (by have h1:=uN.lo;have h2:=uN.lt;omega)
    obtain⟨q1,q2⟩:=uN.vO gO hg;have x0:(World.drew (w.alloc (.cells #[.int .u8 aO,.int .i64 c,.int .i64 aV,.int .i64 bl,.int .i64 asd,.int .i64 aK,.int .i64 aq,.int .i64 aF] 95))).heap[w.heap.size]?=some (.cells #[.int .u8 aO,.int .i64 c,.int .i64 aV,.int .i64 bl,.int .i64 asd,.int .i64 aK,.int .i64 aq,.int .i64 aF] 95 (0,0)):=hNq w _;have x1:=(heap_alloc_old (World.drew (w.alloc (.cells #[.int .u8 aO,.int .i64 c,.int .i64 aV,.int .i64 bl,.int .i64 asd,.int .i64 aK,.int .i64 aq,.int .i64 aF] 95))) (.cells #[.int .u8 aO,.int .i64 c,.int .i64 aV,.int .i64 bl,.int .i64 asd,.int .i64 aK,.int .i64 aq,.int .i64 aF] 95) (lBq x0)).trans x0;have x3:=(hg.block w.heap.size (lBq x1) (fun e=>by have:=((hi.out.row c gO).lt w.heap.size e.symm).2;omega)).trans x1;have w6:=hDq x0;have X1:=hDq x1;have yU:=hDq x3;have Mw:=hDq (uN.at gO);clear x0 x1 x3;obtain⟨a0,c0,hV⟩:=uN.form gO;obtain⟨a4,c4,hv4⟩:=gi hrow;have hset:=uN.set gO (l':=L c++[⟨aO,c,aV,bl,asd,aK,aq,aF⟩]) hg (v':=v4) (by rw[lAq,uH];simpa [bm] using hrow) (by rw[lAq];simp;omega) (fun k hk=>by
     rcases hloc with h | h
     .rw[h]at hk;exact .inl hk
     .rw[h]at hk;exact .inr (Nat.le_of_eq (Option.some.inj hk)))
    have hat:=HI1.out.at gO;rw[hV]at hap hat q1 Mw;rw[hv4]at hap hset;rw[show (w.alloc (.cells #[.int .u8 aO,.int .i64 c,.int .i64 aV,.int .i64 bl,.int .i64 asd,.int .i64 aK,.int .i64 aq,.int .i64 aF] 95)).heap.size=w.heap.size+1 by simp]at hap;have qE:=hDq hset;have dJ:=hDq hap;have tL:=hDq vN;have hpl:p<w.heap.size:=hi.out.lt;clear hset hap hrow hg hloc uG hz0 hz1 hz2 hz3 uN vN hV hv4 dz w1;generalize (L c).length=m at *;have hf':¬ (6:Int)<=m:=by omega
    have hci:(c:Int)<6:=by omega
    rcases hk' with rfl | rfl
    .go_enter Tryz.func209,Tryz.ntmps209
     go_wp2_with fail
     refine yS.out.mono ?_;rintro e w2 ⟨rfl,rfl⟩;simp only[]
     go_wp2_with fail
     refine yT.out.mono ?_;rintro e w2 ⟨rfl,rfl⟩;simp only[];go_wp2;obtain⟨bH,val,hcl,aP⟩:=lg (fun W'=>W'.heap[w.heap.size]?=some (.cells #[.int .u8 111,.int .i64 c,.int .i64 aV,.int .i64 bl,.int .i64 asd,.int .i64 aK,.int .i64 aq,.int .i64 aF] 95 (0,0))/\W'.cell? ⟨p,c,none⟩=some (.slice a0 m c0));obtain⟨x0,hx0⟩:=aP (World.drew (w.alloc (.cells #[.int .u8 111,.int .i64 c,.int .i64 aV,.int .i64 bl,.int .i64 asd,.int .i64 aK,.int .i64 aq,.int .i64 aF] 95))) ⟨w6.out,hat⟩;have hnx:Nonempty bH:=⟨x0⟩;have s0:∀ x,(val x).cell? ⟨w.heap.size,0,none⟩=some (.int .u8 111):=fun x=>(lj (hcl x).1).1;have s1:∀ x,(val x).cell? ⟨w.heap.size,1,none⟩=some (.int .i64 c):=fun x=>(lj (hcl x).1).2.1;have s2:∀ x,(val x).cell? ⟨w.heap.size,2,none⟩=some (.int .i64 aV):=fun x=>(lj (hcl x).1).2.2.1;have s3:∀ x,(val x).cell? ⟨w.heap.size,3,none⟩=some (.int .i64 bl):=fun x=>(lj (hcl x).1).2.2.2.1;have qU:∀ x,(val x).cell? ⟨w.heap.size,4,none⟩=some (.int .i64 asd):=fun x=>(lj (hcl x).1).2.2.2.2.1;have yV:∀ x,(val x).cell? ⟨w.heap.size,5,none⟩=some (.int .i64 aK):=fun x=>(lj (hcl x).1).2.2.2.2.2.1;have yX:∀ x,(val x).cell? ⟨w.heap.size,6,none⟩=some (.int .i64 aq):=fun x=>(lj (hcl x).1).2.2.2.2.2.2.1;have w7:∀ x,(val x).cell? ⟨w.heap.size,7,none⟩=some (.int .i64 aF):=fun x=>(lj (hcl x).1).2.2.2.2.2.2.2;have p7:∀ x,(val x).cell? ⟨p,c,none⟩=some (.slice a0 m c0):=fun x=>(hcl x).2;have M1:=hDq (aP _ ⟨X1.out,Mw.out⟩);have p9:=hDq (aP _ ⟨yU.out,q1⟩);clear aP hcl;refine uJ (val:=val) [11,12] 16 20 [0,1,2,3,4,5,6,7,8,9,10,13,14,11,12,15,16] (by kernel_rfl) (by kernel_rfl) x0 hx0 ?_;rw[hx0];clear hx0;refine bE rfl rfl (fun K hK=>?_);refine⟨by rfl,?_⟩;unfold aB;go_simp;refine hK _ ?_;clear hK K;refine bE rfl rfl (fun K hK=>?_);refine⟨by rfl,?_⟩;unfold aB;go_simp;refine hK _ ?_;clear hK K;refine bE rfl rfl (fun K hK=>?_);refine⟨by rfl,?_⟩;unfold aB;go_simp;refine hK _ ?_;clear hK K;refine bE rfl rfl (fun K hK=>?_);refine⟨by rfl,?_⟩;unfold aB;go_simp;refine hK _ ?_;clear hK K;refine bE rfl rfl (fun K hK=>?_);refine⟨by rfl,?_⟩
     unfold aB;go_simp;refine hK _ ?_;clear hK K;refine bE rfl rfl (fun K hK=>?_);refine⟨by rfl,?_⟩;unfold aB;go_simp;refine hK _ ?_;clear hK K;refine bE rfl rfl (fun K hK=>?_);refine⟨by rfl,?_⟩;unfold aB;go_simp;refine hK _ ?_;clear hK K;refine bE rfl rfl (fun K hK=>?_);refine⟨by rfl,?_⟩;unfold aB;go_simp;refine hK _ ?_;clear hK K;refine bE rfl rfl (fun K hK=>?_);refine⟨by rfl,?_⟩;unfold aB;go_simp;refine hK _ ?_;clear hK K;refine bE rfl rfl (fun K hK=>?_);refine⟨by rfl,?_⟩;unfold aB;go_simp;refine hK _ ?_;clear hK K;refine bE rfl rfl (fun K hK=>?_);refine⟨by rfl,?_⟩;unfold aB;go_simp;refine hK _ ?_;clear hK K;refine bE rfl rfl (fun K hK=>?_);refine⟨by rfl,?_⟩;unfold aB;go_simp;refine hK _ ?_;clear hK K;refine bE rfl rfl (fun K hK=>?_);refine⟨by rfl,?_⟩;unfold aB;go_simp;refine hK _ ?_;clear hK K;refine mF rfl rfl (fun K hK=>?_);refine⟨by rfl,?_⟩;unfold aQ;go_simp;refine⟨M1.out,hK _ _ ?_⟩;clear hK K;refine mF rfl rfl (fun K hK=>?_);refine⟨by rfl,?_⟩;refine w5 _ _ 24 rfl _ _ _ rfl rfl dJ.out ?_;refine⟨p9.out,hK _ _ ?_⟩;clear hK K;refine bE rfl rfl (fun K hK=>?_);refine⟨by rfl,?_⟩;unfold aB;go_simp;refine hK _ ?_;clear hK K;refine uL rfl (fun K hK=>?_);refine⟨by rfl,?_⟩;unfold aQ;go_simp;refine hK _ _ ?_;clear hK K
     all_goals go_wp2
     all_goals go_ret
     all_goals exact⟨by rw[HA.out.1];rfl,_,by rw[HA.out.2];exact qE.out.1,(iq.of_below tL.out p _).trans qE.out.2⟩
    .go_enter Tryz.func209,Tryz.ntmps209
     go_wp2_with fail
     refine yS.out.mono ?_;rintro e w2 ⟨rfl,rfl⟩;simp only[]
     go_wp2_with fail
     refine yT.out.mono ?_;rintro e w2 ⟨rfl,rfl⟩;simp only[];go_wp2;obtain⟨bH,val,hcl,aP⟩:=lg (fun W'=>W'.heap[w.heap.size]?=some (.cells #[.int .u8 99,.int .i64 c,.int .i64 aV,.int .i64 bl,.int .i64 asd,.int .i64 aK,.int .i64 aq,.int .i64 aF] 95 (0,0))/\W'.cell? ⟨p,c,none⟩=some (.slice a0 m c0));obtain⟨x0,hx0⟩:=aP (World.drew (w.alloc (.cells #[.int .u8 99,.int .i64 c,.int .i64 aV,.int .i64 bl,.int .i64 asd,.int .i64 aK,.int .i64 aq,.int .i64 aF] 95))) ⟨w6.out,hat⟩;have hnx:Nonempty bH:=⟨x0⟩;have s0:∀ x,(val x).cell? ⟨w.heap.size,0,none⟩=some (.int .u8 99):=fun x=>(lj (hcl x).1).1;have s1:∀ x,(val x).cell? ⟨w.heap.size,1,none⟩=some (.int .i64 c):=fun x=>(lj (hcl x).1).2.1;have s2:∀ x,(val x).cell? ⟨w.heap.size,2,none⟩=some (.int .i64 aV):=fun x=>(lj (hcl x).1).2.2.1;have s3:∀ x,(val x).cell? ⟨w.heap.size,3,none⟩=some (.int .i64 bl):=fun x=>(lj (hcl x).1).2.2.2.1;have qU:∀ x,(val x).cell? ⟨w.heap.size,4,none⟩=some (.int .i64 asd):=fun x=>(lj (hcl x).1).2.2.2.2.1;have yV:∀ x,(val x).cell? ⟨w.heap.size,5,none⟩=some (.int .i64 aK):=fun x=>(lj (hcl x).1).2.2.2.2.2.1;have yX:∀ x,(val x).cell? ⟨w.heap.size,6,none⟩=some (.int .i64 aq):=fun x=>(lj (hcl x).1).2.2.2.2.2.2.1;have w7:∀ x,(val x).cell? ⟨w.heap.size,7,none⟩=some (.int .i64 aF):=fun x=>(lj (hcl x).1).2.2.2.2.2.2.2;have p7:∀ x,(val x).cell? ⟨p,c,none⟩=some (.slice a0 m c0):=fun x=>(hcl x).2;have M1:=hDq (aP _ ⟨X1.out,Mw.out⟩);have p9:=hDq (aP _ ⟨yU.out,q1⟩);clear aP hcl;refine uJ (val:=val) [11,12] 16 20 [0,1,2,3,4,5,6,7,8,9,10,13,14,11,12,15,16] (by kernel_rfl) (by kernel_rfl) x0 hx0 ?_;rw[hx0];clear hx0;refine bE rfl rfl (fun K hK=>?_);refine⟨by rfl,?_⟩;unfold aB;go_simp;refine hK _ ?_;clear hK K;refine bE rfl rfl (fun K hK=>?_);refine⟨by rfl,?_⟩;unfold aB;go_simp;refine hK _ ?_;clear hK K;refine bE rfl rfl (fun K hK=>?_);refine⟨by rfl,?_⟩;unfold aB;go_simp;refine hK _ ?_;clear hK K;refine bE rfl rfl (fun K hK=>?_);refine⟨by rfl,?_⟩;unfold aB;go_simp;refine hK _ ?_;clear hK K;refine bE rfl rfl (fun K hK=>?_);refine⟨by rfl,?_⟩
     unfold aB;go_simp;refine hK _ ?_;clear hK K;refine bE rfl rfl (fun K hK=>?_);refine⟨by rfl,?_⟩;unfold aB;go_simp;refine hK _ ?_;clear hK K;refine bE rfl rfl (fun K hK=>?_);refine⟨by rfl,?_⟩;unfold aB;go_simp;refine hK _ ?_;clear hK K;refine bE rfl rfl (fun K hK=>?_);refine⟨by rfl,?_⟩;unfold aB;go_simp;refine hK _ ?_;clear hK K;refine bE rfl rfl (fun K hK=>?_);refine⟨by rfl,?_⟩;unfold aB;go_simp;refine hK _ ?_;clear hK K;refine bE rfl rfl (fun K hK=>?_);refine⟨by rfl,?_⟩;unfold aB;go_simp;refine hK _ ?_;clear hK K;refine bE rfl rfl (fun K hK=>?_);refine⟨by rfl,?_⟩;unfold aB;go_simp;refine hK _ ?_;clear hK K;refine bE rfl rfl (fun K hK=>?_);refine⟨by rfl,?_⟩;unfold aB;go_simp;refine hK _ ?_;clear hK K;refine bE rfl rfl (fun K hK=>?_);refine⟨by rfl,?_⟩;unfold aB;go_simp;refine hK _ ?_;clear hK K;refine mF rfl rfl (fun K hK=>?_);refine⟨by rfl,?_⟩;unfold aQ;go_simp;refine⟨M1.out,hK _ _ ?_⟩;clear hK K;refine mF rfl rfl (fun K hK=>?_);refine⟨by rfl,?_⟩;refine w5 _ _ 24 rfl _ _ _ rfl rfl dJ.out ?_;refine⟨p9.out,hK _ _ ?_⟩;clear hK K;refine bE rfl rfl (fun K hK=>?_);refine⟨by rfl,?_⟩;unfold aB;go_simp;refine hK _ ?_;clear hK K;refine uL rfl (fun K hK=>?_);refine⟨by rfl,?_⟩;unfold aQ;go_simp;refine hK _ _ ?_;clear hK K
     all_goals go_wp2
     all_goals go_ret
     all_goals exact⟨by rw[HA.out.1];rfl,_,by rw[HA.out.2];exact qE.out.1,(iq.of_below tL.out p _).trans qE.out.2⟩
end
theorem afB (q:List Ask):q.drop (min q.length 2)=q.drop 2:=by
 by_cases h:q.length<=2
 .rw[Nat.min_eq_left h,List.drop_of_length_le (lRq _),List.drop_of_length_le h]
 .rw[Nat.min_eq_right (by omega)]
theorem afC (v:Value) (base J:Nat) (q:List Ask) (w:World) (hr:Hid (w.ownsRow base 95 8 v q.length (bm q))) (hJ:J=min q.length 2):Calls Tryz.prog 134 #[v,.int .i64 0,.int .i64 J] w fun e w'=>∃ v',e=.returned v'/\w'.ownsRow base 95 8 v' (q.drop 2).length (bm (q.drop 2))/\w.grownBy w' v.ownBlock/\v'.ownBlock=v.ownBlock:=by
 by_cases h0:q.length=0
 .have:J=0:=by omega
  subst this;refine(afz v q.length base _ w hr).mono ?_;rintro e w' ⟨rfl,rfl⟩;have hq:q=[]:=List.eq_nil_of_length_eq_zero h0;subst hq;exact⟨v,rfl,hr.out,⟨rfl,rfl,rfl,lRq _,fun _ _ _=>rfl⟩,rfl⟩
 .obtain⟨g,cap,rfl,hle⟩:∃ g cap,v=.slice (some ⟨g,0,none⟩) q.length cap/\q.length<=cap:=by
   rcases hr.out.2 with ⟨_,e⟩ | ⟨g,cap,cur,e,_,_,h,_⟩
   .exact absurd e h0
   .exact⟨g,cap,e,h⟩
  refine(afA g cap q.length J base q w rfl hr.out (by show _\/_;omega) (by omega) (by omega) hle).mono ?_;rintro e w' ⟨rfl,h1,h2⟩;refine⟨_,rfl,?_,h2,rfl⟩;rw[hJ,afB]at h1;rw[List.length_drop,show q.length-2=q.length-min q.length 2 by omega];rw[hJ];exact h1
theorem afD (w:World) (base b2 J:Nat) (d:Value) (xs:List Ask) (hd:w.ownsRow base 95 8 d xs.length (bm xs)) (a:Option Addr) (m c:Nat) (q:List Ask) (hq:w.ownsRow b2 95 8 (.slice a m c) m (bm q)) (hm:q.length=m) (hJ:J=min m 2) (hx:xs.length<=1000) (hb:base<=w.heap.size) :
  ∃ v' w',(Builtin.append_ #[24,24] 44 #[d,.slice a J c]).run Tryz.prog w=.ok v' w'/\w'.ownsRow base 95 8 v' (xs++q.take 2).length (bm (xs++q.take 2))/\w.grownBy w' d.ownBlock:=by
 obtain⟨i0,z0,uG,hz0,hz1,hz2,hz3⟩:=Gp;have hl:(q.take 2).length=J:=by rw[lKq,hm,hJ];omega
 rcases hq.2 with ⟨e,e2⟩ | ⟨g,cap,cur,e,_,_,h,_⟩
 .obtain⟨rfl,rfl,rfl⟩:a=none/\m=0/\c=0:=by simpa using e
  have vW:q=[]:=List.eq_nil_of_length_eq_zero hm;subst vW;have afE:J=0:=by omega
  subst afE;simp only[List.take_nil,List.append_nil];refine⟨d,w,?_,hd,⟨rfl,rfl,rfl,lRq _,fun _ _ _=>rfl⟩⟩;rcases hd.2 with ⟨rfl,_⟩ | ⟨g,cap,cur,rfl,_,dX,hle,_,_,_⟩
  .simp[Builtin.append_,run_underlying Tryz.underlying24,sizeOf,typeInfo,uG,Builtin.lenOf,Builtin.firstCells]
  .simp[Builtin.append_,run_underlying Tryz.underlying24,sizeOf,typeInfo,uG,Builtin.lenOf,Builtin.firstCells,hle,storeCells]
 .obtain⟨rfl,rfl⟩:a=some ⟨g,0,none⟩/\c=cap:=by simpa using e
  obtain⟨v',w',h1,h2,h3,_⟩:=run_append_own_at (P:=Tryz.prog) w base 24 24 95 i0 z0 8 64 Tryz.underlying24 uG hz0 hz1 hz2 hz3 (by decide) d xs.length (bm xs) hd ⟨g,0,none⟩ J c (bm (q.take 2)) (by rw[nI,hl])
   (fun j u hj=>World.ownsRow.cells hq (g:=g) rfl j u (by
    have e:bm q=bm (q.take 2)++bm (q.drop 2):=by rw[<- uH,List.take_append_drop]
    rw[e,List.getElem?_append_left (List.getElem?_eq_some_iff.1 hj).1];exact hj))
   (BL _) (by unfold maxLen;omega) (by omega) hb
  exact⟨v',w',h1,by rw[lAq,hl,uH];exact h2,h3⟩
theorem BM {w:World} {base:Nat} {e:TypeId} {s:Nat} {v:Value} {n:Nat} {xs:List Value} (hr:w.ownsRow base e s v n xs):∃ a m c,v=.slice a m c:=by
 obtain⟨a,c,h⟩:=gi hr;exact⟨a,n,c,h⟩
theorem wpList_append_run {P:Program} {ops:Array Oper} {rest:List Oper} {o:Oper} {a:Act} {w w':World} {Q:Exit->Act->World->Prop} (hgd:o.guard=none) (s x:Operand) (t:TypeId)
  (hop:o.op=Op.call { callee:=Callee.builtin Builtin.append,args:=#[s,x],argTypes:=#[t,t] }) (vs uI v':Value) (hs:a.eval s=vs) (hx:a.eval x=uI)
  (hrun:(Builtin.append_ #[t,t] o.type #[vs,uI]).run P w=.ok v' w') (h:wpList P ops Q rest (a.put o.dst v') w'):wpList P ops Q (o::rest) a w:=by
 refine wpList_plain hgd fun K hK=>?_;unfold Oper.wp;simp[execOp,hop,resolve,invoke,builtin,hs,hx,hrun,Result.andThen];exact hK _ _ h
section
variable {base p t:Nat} {V:Nat->Value} {L:Nat->List Ask}
theorem afF {w w2 w3:World} {V fh:Nat->Value} {r:Option Nat} (h:iq w w2 p V fh) (hg:w2.grownBy w3 r) (hr:∀ j,r=some j->w.heap.size<=j):iq w w3 p V fh :=
 ⟨h.turned.trans (aJ.iM hg) (fun k hk=>.inr (hr k hk.symm)),h.new⟩
theorem Uk (w:World) (hi:Hid (dF w base p V t L)):Calls Tryz.prog 77 #[.pointer (some ⟨p,0,none⟩)] w fun e w'=>∃ d fh,e=.returned d/\w'.ownsRow w.heap.size 95 8 d (ay.out L t).length (bm (ay.out L t))/\dF w' base p fh (ay.who t 1) (ay.BN L t)/\iq w w' p V fh/\∀ j,nJ p fh j->nJ p V j:=by
 go_enter Tryz.func77,Tryz.ntmps77
 go_wp2_with fail
 go_loopw [3,7] (fun d c wr=>∃ (k:Nat) (fh:Nat->Value),k<=6/\c=.int .i64 k/\wr.ownsRow w.heap.size 95 8 d (ay.k_ L t k).length (bm (ay.k_ L t k))/\dF wr base p fh t (ay.lf L t k)/\iq w wr p V fh/\∀ j,nJ p fh j->nJ p V j) (fun _ c _=>6-(intOf c).toNat)
 case atStart=>exact⟨0,V,by decide,rfl,World.ownsRow_nil _ _ _ _,hi.out,iq.refl _ _ _,fun _ h=>h⟩
 case round =>
  obtain⟨k,fh,hk,rfl,hd,hI,hs,ho⟩:=hrel;have HD:=hDq hd;have HI:=hDq hI;have HS:=hDq hs;have HO:=hDq ho;clear hd hI hs ho;have ht:=HI.out.turn;have hat:=HI.out.afG;by_cases hlt:k<6
  .have aX:(k:Int)<6:=by omega
   have Gr:=hDq (Ul t k wr ht (by omega))
   go_wp2_with fail
   refine Gr.out.mono ?_;rintro e w2 ⟨rfl,rfl⟩;simp only[];have hn:=ay.wW t k;have HN:Hid (ay.lf L t (k+1)=ay.upd (ay.lf L t k) (ay.who t k) ((ay.lf L t k (ay.who t k)).drop 2)/\ay.k_ L t (k+1)=ay.k_ L t k++(ay.lf L t k (ay.who t k)).take 2):=⟨rfl,rfl⟩;generalize ay.who t k=n at *;have hni:(n:Int)<6:=by omega
   have Um:=HI.out.at hn;have afH:=HI.out.few n hn;obtain⟨a,c,hV⟩:=HI.out.form hn;have iD:=hDq (HI.out.row n hn);rw[hV]at Um iD;obtain⟨m,hm⟩:∃ m,(ay.lf L t k n).length=m:=⟨_,rfl⟩;rw[hm]at Um hV afH iD;have hac:(a=none/\m=0/\c=0)\/∃ g,a=some ⟨g,0,none⟩/\m<=c:=by
    rcases iD.out.2 with ⟨e,_⟩ | ⟨g,cap,cur,e,_,_,h,_⟩
    .simp at e;exact .inl e
    .simp at e;exact .inr ⟨g,e.1,by omega⟩
   obtain⟨J,hJ⟩:∃ J,J=min m 2:=⟨_,rfl⟩;obtain⟨v3,w3,hap,hr3,hg3⟩:=afD w2 w.heap.size base J u3 (ay.k_ L t k) HD.out a m c (ay.lf L t k n) iD.out hm hJ (by have:=ay.wX L t k;omega) HS.out.turned.size;have hapart:∀ j,nJ p fh j->¬ some j=u3.ownBlock:=fun j hj e=>by
    have h1:=(hi.out.fj (HO.out j hj)).2;have h2:=(HD.out.lt j e.symm).1;omega
   have HI3:=hDq (HI.out.turned (aJ.iM hg3) hapart);have cK:=hDq (afF HS.out hg3 (fun j e=>(HD.out.lt j e).1));have Gs:=HI3.out.at hn;rw[hV]at Gs;have BO:=hDq (afC (.slice a m c) base J (ay.lf L t k n) (World.drew w3) (by have:=HI3.out.row n hn;rw[hV,hm]at this;show World.ownsRow _ _ _ _ _ _ _;rw[hm];exact this) (by rw[hm];exact hJ));obtain⟨a3,n3,c3,hf3⟩:=BM hr3;rw[hf3]at hap;have dJ:=hDq hap;have HR3:=hDq hr3;have HJ:=hDq hJ;have HM:=hDq hm;have cF:=hDq hV;have gA:=hDq hf3;clear hap hr3 hg3 hat Gr hJ hm hV hf3;rcases hac with ⟨rfl,rfl,rfl⟩ | ⟨g,rfl,afI⟩
   .obtain rfl:J=0:=by have:=HJ.out;omega
    rw[show ((0:Nat):Int)=0 from rfl]at BO
    go_wp2_with (at_builtin;refine wpList_append_run rfl _ _ 24 rfl _ _ _ rfl rfl dJ.out ?_)
    obtain⟨bH,val,hcl,aP⟩:=lg (fun W'=>W'.cell? ⟨p,n,none⟩=some (.slice none 0 0));obtain⟨x0,hx0⟩:=aP (World.drew w3) Gs;have hnx:Nonempty bH:=⟨x0⟩;have p7:∀ x,(val x).cell? ⟨p,n,none⟩=some (.slice none 0 0):=hcl;have aR:=hDq aP;clear aP hcl;refine uJ (val:=val) [9] 13 20 [0,1,2,3,4,5,6,7,8,10,11,9,12,13] (by kernel_rfl) (by kernel_rfl) x0 hx0 ?_;rw[hx0];clear hx0;refine bE rfl rfl (fun K hK=>?_);refine⟨by rfl,?_⟩;unfold aB;go_simp;refine hK _ ?_;clear hK K;refine bE rfl rfl (fun K hK=>?_);refine⟨by rfl,?_⟩;unfold aB;go_simp;refine hK _ ?_;clear hK K;refine bE rfl rfl (fun K hK=>?_);refine⟨by rfl,?_⟩;unfold aB;go_simp;refine hK _ ?_;clear hK K;refine bE rfl rfl (fun K hK=>?_);refine⟨by rfl,?_⟩;unfold aB;go_simp;refine hK _ ?_;clear hK K;refine bE rfl rfl (fun K hK=>?_);refine⟨by rfl,?_⟩;unfold aB;go_simp;refine hK _ ?_;clear hK K;refine bE rfl rfl (fun K hK=>?_);refine⟨by rfl,?_⟩;unfold aB;go_simp;refine hK _ ?_;clear hK K;refine bE rfl rfl (fun K hK=>?_);refine⟨by rfl,?_⟩;unfold aB;go_simp;refine hK _ ?_;clear hK K;refine bE rfl rfl (fun K hK=>?_);refine⟨by rfl,?_⟩;unfold aB;go_simp;refine hK _ ?_;clear hK K;refine bE rfl rfl (fun K hK=>?_);refine⟨by rfl,?_⟩;unfold aB;go_simp;refine hK _ ?_;clear hK K;refine bE rfl rfl (fun K hK=>?_);refine⟨by rfl,?_⟩;unfold aB;go_simp;refine hK _ ?_;clear hK K;refine bE rfl rfl (fun K hK=>?_);refine⟨by rfl,?_⟩;unfold aB;go_simp;refine hK _ ?_;clear hK K;refine mF rfl rfl (fun K hK=>?_);refine⟨by rfl,?_⟩;unfold aQ;go_simp;refine BO.out.mono ?_;rintro e w4 ⟨v4,rfl,hr4,hg4,hv4⟩;have mG:w3.grownBy w4 (fh n).ownBlock:=by rw[cF.out];exact⟨hg4.os,hg4.tape,hg4.output,hg4.size,hg4.block⟩
    obtain⟨q1,q2⟩:=HI3.out.vO hn (w2:=w4) mG;rw[cF.out]at q1;have BP:=hDq mG;obtain⟨a4,n4,c4,uK⟩:=BM hr4;have HST:=hDq (HI3.out.set hn (w2:=w4) mG (v':=v4) hr4 (by rw[List.length_drop,HM.out];omega) (fun j hj=>.inl (by rw[cF.out,<- hv4];exact hj)));have oQ:Hid (v4.ownBlock=(fh n).ownBlock):=by show _=_;rw[cF.out];exact hv4
    refine⟨_,rfl,aR.out _ q1,hK _ _ ?_⟩;clear hK K hr4 hg4 mG hv4;rw[uK]at HST oQ;subst uK;refine bE rfl rfl (fun K hK=>?_);refine⟨by rfl,?_⟩;unfold aB;go_simp;refine hK _ ?_;clear hK K;refine uL rfl (fun K hK=>?_);refine⟨by rfl,?_⟩;unfold aQ;go_simp;refine hK _ _ ?_;clear hK K;go_wp2;refine⟨⟨k+1,_,by omega,by go_num,?_,by rw[HN.out.1];exact HST.out.1,cK.out.trans HST.out.2,?_⟩,by simp[intOf];omega⟩
    .rw[HN.out.2,<- gA.out]
     refine eM (eM HR3.out (aJ.iM BP.out) ?_) (aJ.setCell w4 p n _) ?_
     .intro j hj e
      have h1:=(HR3.out.lt j hj).1;have h2:=(hi.out.fj (HO.out j (.inr ⟨n,hn,e.symm⟩))).2;omega
     .intro j hj e
      have h1:=(HR3.out.lt j hj).1;have h2:=(hi.out.fj (.inl e)).2;omega
    .rintro j (rfl | ⟨cc,hcc,hj⟩)
     .exact .inl rfl
     .by_cases uM:cc=n
      .subst uM
       rw[ay.upd_same,oQ.out]at hj;exact HO.out j (.inr ⟨cc,hcc,hj⟩)
      .rw[ay.p8 _ _ uM]at hj
       exact HO.out j (.inr ⟨cc,hcc,hj⟩)
   .by_cases h2:2<m
    .have afJ:(2:Int)<m:=by omega
     have afK:(2:Int)<=c:=by omega
     obtain rfl:J=2:=by have:=HJ.out;omega
     rw[show ((2:Nat):Int)=2 from rfl]at BO
     go_wp2_with (at_builtin;refine wpList_append_run rfl _ _ 24 rfl _ _ _ rfl rfl dJ.out ?_)
     obtain⟨bH,val,hcl,aP⟩:=lg (fun W'=>W'.cell? ⟨p,n,none⟩=some (.slice (some ⟨g,0,none⟩) m c));obtain⟨x0,hx0⟩:=aP (World.drew w3) Gs;have hnx:Nonempty bH:=⟨x0⟩;have p7:∀ x,(val x).cell? ⟨p,n,none⟩=some (.slice (some ⟨g,0,none⟩) m c):=hcl;have aR:=hDq aP;clear aP hcl;refine uJ (val:=val) [9] 13 20 [0,1,2,3,4,5,6,7,8,10,11,9,12,13] (by kernel_rfl) (by kernel_rfl) x0 hx0 ?_;rw[hx0];clear hx0;refine bE rfl rfl (fun K hK=>?_);refine⟨by rfl,?_⟩;unfold aB;go_simp;refine hK _ ?_;clear hK K;refine bE rfl rfl (fun K hK=>?_);refine⟨by rfl,?_⟩;unfold aB;go_simp;refine hK _ ?_;clear hK K;refine bE rfl rfl (fun K hK=>?_);refine⟨by rfl,?_⟩;unfold aB;go_simp;refine hK _ ?_;clear hK K;refine bE rfl rfl (fun K hK=>?_);refine⟨by rfl,?_⟩;unfold aB;go_simp;refine hK _ ?_;clear hK K;refine bE rfl rfl (fun K hK=>?_);refine⟨by rfl,?_⟩;unfold aB;go_simp;refine hK _ ?_;clear hK K;refine bE rfl rfl (fun K hK=>?_);refine⟨by rfl,?_⟩;unfold aB;go_simp;refine hK _ ?_;clear hK K;refine bE rfl rfl (fun K hK=>?_);refine⟨by rfl,?_⟩;unfold aB;go_simp;refine hK _ ?_;clear hK K;refine bE rfl rfl (fun K hK=>?_);refine⟨by rfl,?_⟩;unfold aB;go_simp;refine hK _ ?_;clear hK K;refine bE rfl rfl (fun K hK=>?_);refine⟨by rfl,?_⟩;unfold aB;go_simp;refine hK _ ?_;clear hK K;refine bE rfl rfl (fun K hK=>?_);refine⟨by rfl,?_⟩;unfold aB;go_simp;refine hK _ ?_;clear hK K;refine bE rfl rfl (fun K hK=>?_);refine⟨by rfl,?_⟩;unfold aB;go_simp;refine hK _ ?_;clear hK K;refine mF rfl rfl (fun K hK=>?_);refine⟨by rfl,?_⟩;unfold aQ;go_simp;refine BO.out.mono ?_;rintro e w4 ⟨v4,rfl,hr4,hg4,hv4⟩;have mG:w3.grownBy w4 (fh n).ownBlock:=by rw[cF.out];exact⟨hg4.os,hg4.tape,hg4.output,hg4.size,hg4.block⟩
     obtain⟨q1,q2⟩:=HI3.out.vO hn (w2:=w4) mG;rw[cF.out]at q1;have BP:=hDq mG;obtain⟨a4,n4,c4,uK⟩:=BM hr4;have HST:=hDq (HI3.out.set hn (w2:=w4) mG (v':=v4) hr4 (by rw[List.length_drop,HM.out];omega) (fun j hj=>.inl (by rw[cF.out,<- hv4];exact hj)));have oQ:Hid (v4.ownBlock=(fh n).ownBlock):=by show _=_;rw[cF.out];exact hv4
     refine⟨_,rfl,aR.out _ q1,hK _ _ ?_⟩;clear hK K hr4 hg4 mG hv4;rw[uK]at HST oQ;subst uK;refine bE rfl rfl (fun K hK=>?_);refine⟨by rfl,?_⟩;unfold aB;go_simp;refine hK _ ?_;clear hK K;refine uL rfl (fun K hK=>?_);refine⟨by rfl,?_⟩;unfold aQ;go_simp;refine hK _ _ ?_;clear hK K;go_wp2;refine⟨⟨k+1,_,by omega,by go_num,?_,by rw[HN.out.1];exact HST.out.1,cK.out.trans HST.out.2,?_⟩,by simp[intOf];omega⟩
     .rw[HN.out.2,<- gA.out]
      refine eM (eM HR3.out (aJ.iM BP.out) ?_) (aJ.setCell w4 p n _) ?_
      .intro j hj e
       have h1:=(HR3.out.lt j hj).1;have h2:=(hi.out.fj (HO.out j (.inr ⟨n,hn,e.symm⟩))).2;omega
      .intro j hj e
       have h1:=(HR3.out.lt j hj).1;have h2:=(hi.out.fj (.inl e)).2;omega
     .rintro j (rfl | ⟨cc,hcc,hj⟩)
      .exact .inl rfl
      .by_cases uM:cc=n
       .subst uM
        rw[ay.upd_same,oQ.out]at hj;exact HO.out j (.inr ⟨cc,hcc,hj⟩)
       .rw[ay.p8 _ _ uM]at hj
        exact HO.out j (.inr ⟨cc,hcc,hj⟩)
    .have afJ:¬ (2:Int)<m:=by omega
     have afK:(m:Int)<=c:=by omega
     obtain rfl:J=m:=by have:=HJ.out;omega
     go_wp2_with (at_builtin;refine wpList_append_run rfl _ _ 24 rfl _ _ _ rfl rfl dJ.out ?_)
     obtain⟨bH,val,hcl,aP⟩:=lg (fun W'=>W'.cell? ⟨p,n,none⟩=some (.slice (some ⟨g,0,none⟩) J c));obtain⟨x0,hx0⟩:=aP (World.drew w3) Gs;have hnx:Nonempty bH:=⟨x0⟩;have p7:∀ x,(val x).cell? ⟨p,n,none⟩=some (.slice (some ⟨g,0,none⟩) J c):=hcl;have aR:=hDq aP;clear aP hcl;refine uJ (val:=val) [9] 13 20 [0,1,2,3,4,5,6,7,8,10,11,9,12,13] (by kernel_rfl) (by kernel_rfl) x0 hx0 ?_;rw[hx0];clear hx0;refine bE rfl rfl (fun K hK=>?_);refine⟨by rfl,?_⟩;unfold aB;go_simp;refine hK _ ?_;clear hK K;refine bE rfl rfl (fun K hK=>?_);refine⟨by rfl,?_⟩;unfold aB;go_simp;refine hK _ ?_;clear hK K;refine bE rfl rfl (fun K hK=>?_);refine⟨by rfl,?_⟩;unfold aB;go_simp;refine hK _ ?_;clear hK K;refine bE rfl rfl (fun K hK=>?_);refine⟨by rfl,?_⟩;unfold aB;go_simp;refine hK _ ?_;clear hK K;refine bE rfl rfl (fun K hK=>?_);refine⟨by rfl,?_⟩;unfold aB;go_simp;refine hK _ ?_;clear hK K;refine bE rfl rfl (fun K hK=>?_);refine⟨by rfl,?_⟩;unfold aB;go_simp;refine hK _ ?_;clear hK K;refine bE rfl rfl (fun K hK=>?_);refine⟨by rfl,?_⟩;unfold aB;go_simp;refine hK _ ?_;clear hK K;refine bE rfl rfl (fun K hK=>?_);refine⟨by rfl,?_⟩;unfold aB;go_simp;refine hK _ ?_;clear hK K;refine bE rfl rfl (fun K hK=>?_);refine⟨by rfl,?_⟩;unfold aB;go_simp;refine hK _ ?_;clear hK K;refine bE rfl rfl (fun K hK=>?_);refine⟨by rfl,?_⟩;unfold aB;go_simp;refine hK _ ?_;clear hK K;refine bE rfl rfl (fun K hK=>?_);refine⟨by rfl,?_⟩;unfold aB;go_simp;refine hK _ ?_;clear hK K;refine mF rfl rfl (fun K hK=>?_);refine⟨by rfl,?_⟩;unfold aQ;go_simp;refine BO.out.mono ?_;rintro e w4 ⟨v4,rfl,hr4,hg4,hv4⟩;have mG:w3.grownBy w4 (fh n).ownBlock:=by rw[cF.out];exact⟨hg4.os,hg4.tape,hg4.output,hg4.size,hg4.block⟩
     obtain⟨q1,q2⟩:=HI3.out.vO hn (w2:=w4) mG;rw[cF.out]at q1;have BP:=hDq mG;obtain⟨a4,n4,c4,uK⟩:=BM hr4;have HST:=hDq (HI3.out.set hn (w2:=w4) mG (v':=v4) hr4 (by rw[List.length_drop,HM.out];omega) (fun j hj=>.inl (by rw[cF.out,<- hv4];exact hj)));have oQ:Hid (v4.ownBlock=(fh n).ownBlock):=by show _=_;rw[cF.out];exact hv4
     refine⟨_,rfl,aR.out _ q1,hK _ _ ?_⟩;clear hK K hr4 hg4 mG hv4;rw[uK]at HST oQ;subst uK;refine bE rfl rfl (fun K hK=>?_);refine⟨by rfl,?_⟩;unfold aB;go_simp;refine hK _ ?_;clear hK K;refine uL rfl (fun K hK=>?_);refine⟨by rfl,?_⟩;unfold aQ;go_simp;refine hK _ _ ?_;clear hK K;go_wp2;refine⟨⟨k+1,_,by omega,by go_num,?_,by rw[HN.out.1];exact HST.out.1,cK.out.trans HST.out.2,?_⟩,by simp[intOf];omega⟩
     .rw[HN.out.2,<- gA.out]
      refine eM (eM HR3.out (aJ.iM BP.out) ?_) (aJ.setCell w4 p n _) ?_
      .intro j hj e
       have h1:=(HR3.out.lt j hj).1;have h2:=(hi.out.fj (HO.out j (.inr ⟨n,hn,e.symm⟩))).2;omega
      .intro j hj e
       have h1:=(HR3.out.lt j hj).1;have h2:=(hi.out.fj (.inl e)).2;omega
     .rintro j (rfl | ⟨cc,hcc,hj⟩)
      .exact .inl rfl
      .by_cases uM:cc=n
       .subst uM
        rw[ay.upd_same,oQ.out]at hj;exact HO.out j (.inr ⟨cc,hcc,hj⟩)
       .rw[ay.p8 _ _ uM]at hj
        exact HO.out j (.inr ⟨cc,hcc,hj⟩)
  .have aX:¬ (k:Int)<6:=by omega
   obtain rfl:k=6:=by omega
   have Gr:=hDq (Ul t 1 wr ht (by omega));have hfr:=HI.out.free 6;have nE:=hDq (HI.out.next (ay.wW t 1));obtain⟨a0,n0,c0,wY⟩:=BM HD.out;have HD2:=HD;rw[wY]at HD2
   go_wp2_with fail
   refine Gr.out.mono ?_;rintro e w2 ⟨rfl,rfl⟩;simp only[];go_wp2;go_ret;refine⟨_,fh,rfl,?_,nE.out.1,HS.out.trans nE.out.2,HO.out⟩;refine eM HD2.out (aJ.setCell _ p 6 _) ?_;intro j hj e;have h1:=(HD2.out.lt j hj).1;have h2:=(hi.out.fj (.inl e)).2;omega
end
theorem XY {b0:Nat} (W:World) (v:Value) (l:List Ask) (x:Ask) (hr:W.ownsRow b0 95 8 v l.length (bm l)) (hl:l.length<=100000) (hb:b0<=W.heap.size) :
  ∃ v' W',(Builtin.append_ #[24,24] 24 #[v,.slice (some (Qb W.heap.size 0)) 1 1]).run Tryz.prog (W.alloc (.cells (aT x) 95))=.ok v' W'/\W'.ownsRow b0 95 8 v' (l++[x]).length (bm (l++[x]))/\(W.alloc (.cells (aT x) 95)).grownBy W' v.ownBlock:=by
 obtain⟨i0,z0,hi,hz0,hz1,hz2,hz3⟩:=Gp;obtain⟨v4,w4,hap,hrow,hg,_,_⟩:=run_append_own_at (P:=Tryz.prog) (w:=W.alloc (.cells (aT x) 95)) b0 24 24 95 i0 z0 8 64 Tryz.underlying24 hi hz0 hz1 hz2 hz3 (by decide) v l.length (bm l) (World.ownsRow.alloc hr _) (Qb W.heap.size 0) 1 1 (lR x) rfl
  (fun j u hj=>Ug W x 95 _ rfl j u hj) (fun u hu=>BL [x] u (by simpa [bm] using hu)) (by unfold maxLen;omega) (by omega) (by simp;omega)
 refine⟨v4,w4,hap,?_,hg⟩;rw[uH,lAq];simpa [bm] using hrow
end Go.Proofs.YtjolccidheflpaaGreatDoor
