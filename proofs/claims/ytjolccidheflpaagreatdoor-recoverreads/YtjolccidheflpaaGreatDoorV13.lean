/- How a disk is written, and a record appended to it: which blocks turn. -/
import Derived.Test.YtjolccidheflpaaGreatDoorV10
import Derived.Test.YtjolccidheflpaaGreatDoorV12
import Derived.Test.YtjolccidheflpaaGreatDoorV09
import Derived.Deep.RegionLaw
import Derived.Lib.SliceRun
import Derived.Lib.SmallJoins
import Derived.Deep.QuietTactic
import Derived.BigQuiet
import Derived.Test.YtjolccidheflpaaGreatDoorV08
namespace Go.Proofs.YtjolccidheflpaaGreatDoor
set_option maxHeartbeats 8000000
open Go.RowKit
set_option maxRecDepth 100000
structure dG (W:World) (base p:Nat) (v:Value) (l:List UInt8) (cut:Bool) (left:Int):Prop where
 cell:W.heap[p]?=some (.cells #[v,.bool cut,.int .i64 left] 117 (0,0))
 row:dz W base v (ints l)
 lo:base<=p
structure pP (w w':World) (p:Nat) (v v':Value):Prop where
 turned:aF w w' (fun k=>k=p∨v.ownBlock=some k)
 new:∀ k,v'.ownBlock=some k->v.ownBlock=some k∨w.heap.size<=k
theorem dG.grown {w w':World} {base p:Nat} {l ys:List UInt8} {v v':Value} {cut:Bool} {left:Int} (hd:dG w base p v l cut left)
  (d9:dz w' base v' (ints l++ints ys)) (hg:w.grownBy w' v.ownBlock):dG (w'.setCell ⟨p,0,none⟩ v') base p v' (l++ys) cut left∧aF w (w'.setCell ⟨p,0,none⟩ v') (fun k=>k=p∨v.ownBlock=some k):=by
 have hp':w'.heap[p]?=some (.cells #[v,.bool cut,.int .i64 left] 117 (0,0)):=by
  rw[hg.block p (Array.getElem?_eq_some_iff.1 hd.cell).1 (hd.row.other hd.cell)];exact hd.cell
 refine⟨⟨?_,?_,hd.lo⟩,?_⟩
 ·rw[heap_setCell_same w' p 0 _ 117 v' hp'];rfl
 ·rw[NW];exact d9.setCell hp' _
 ·exact((aF.jV hg).mono (fun k hk=>.inr hk.symm)).trans (aF.setCell w' p 0 v') (fun k hk=>.inl (.inl hk))
theorem OH {w:World} {ops:Array Oper} {o:Oper} {a:Act} {K:Act->World->Prop} {Q:Exit->Act->World->Prop} {E:Prop} (hgd:o.guard=none) (s x:Operand)
  (ho:o.op=.call { callee:=.builtin .append,args:=#[s,x],argTypes:=#[115,115] })
  (base:Nat) (v:Value) (xs:List Int) (hs:a.eval s=v) (hown:dz w base v xs)
  (ad:Addr) (m c:Nat) (ys:List Int) (hx:a.eval x=.slice (some ad) m c) (hl:ys.length=m) (hnews:∀ j u,(ys.map (Value.int .u8))[j]?=some u->w.cell? (ad.add j)=some u)
  (hsz:xs.length+m<=10000000) (hbase:base<=w.heap.size)
  (h:∀ g' cap' w',dz w' base (.slice (some ⟨g',0,none⟩) (xs.length+m) cap') (xs++ys)->w.grownBy w' v.ownBlock->(∀ k,(Value.slice (some ⟨g',0,none⟩) (xs.length+m) cap').ownBlock=some k->v.ownBlock=some k∨w.heap.size<=k)->K (a.put o.dst (.slice (some ⟨g',0,none⟩) (xs.length+m) cap')) w') :
  if Region.wanted o (yielded ops a.tmps)=true then Oper.wp Tryz.prog o a w K Q else E:=by
 have hw:Region.wanted o (yielded ops a.tmps)=true:=by simp[Region.wanted,hgd]
 rw[if_pos hw];obtain⟨v',w',hr,h2,h3,h4⟩:=agx w base o.type v xs hown ad m c ys hl hnews hsz hbase;unfold Oper.wp execOp;simp only[ho,resolve,invoke,builtin,Sem.run_bind,Sem.run_pure,Result.andThen_ok,List.map_toArray,List.map_cons,List.map_nil,hs,hx,hr];obtain⟨g',cap',hv,_⟩:=h2.form;rw[lAq,hl]at hv;subst hv;exact h g' cap' w' h2 h3 h4
theorem OI {w:World} {base g len cap:Nat} {xs:List Int} (h:Row w base (.slice (some ⟨g,0,none⟩) len cap) xs):∀ j u,(xs.map (Value.int .u8))[j]?=some u->w.cell? ((⟨g,0,none⟩:Addr).add j)=some u :=
 fun j u hj=>World.ownsRow.cells h (g:=g) rfl j u hj
theorem OJ {w w':World} {row:Option Nat} {p j:Nat} (hg:w.grownBy w' row) (hp:p<w.heap.size) (hne:some p≠row) (h:w.frozen? ⟨p,j,none⟩=false):w'.frozen? ⟨p,j,none⟩=false :=
 (World.frozen?_of_block (hg.block p hp hne)).trans h
theorem akA (base b2 p g cap:Nat) (v:Value) (l ys:List UInt8) (w:World) (left:Int) (hd:dG w base p v l false left) (hrow:Row w b2 (.slice (some ⟨g,0,none⟩) ys.length cap) (ints ys)) (hsz:l.length+ys.length<=10000000) (kh:base<=w.heap.size) :
  Calls Tryz.prog 135 #[.pointer (some ⟨p,0,none⟩),.slice (some ⟨g,0,none⟩) ys.length cap] w fun e w'=>e=.returned (.bool true)∧∃ v',dG w' base p v' (l++ys) false left∧pP w w' p v v':=by
 obtain⟨hp,hr,hb⟩:=hd;obtain⟨c0,c1,c2,fz,hpl⟩:=rO hp;have Hp:=hDq hp;have HR:=hDq hr;have dJ:=hDq hrow;have hcap:ys.length<=cap:=by
  rcases hrow.2 with ⟨h,_⟩ | ⟨g',cap',cur,h,_,_,hc,_⟩
  ·cases h
  ·simp only[Value.slice.injEq,Option.some.injEq,Addr.mk.injEq,and_true]at h
   rw[iF]at hc;omega
 clear hp hr hrow;go_enter Tryz.func135,Tryz.ntmps135;go_wp2;have hne:=HR.out.other Hp.out
 go_region_law ((refine OH rfl _ _ rfl base v (ints l) rfl HR.out ⟨g,0,none⟩ ys.length cap (ints ys) rfl (iF ys) (OI dJ.out) (by rw[iF];exact hsz) kh ?_;intro g1 wB w1 uD hgrow hnew;obtain⟨k1,k2⟩:w1.cell? ⟨p,0,none⟩=some v∧w1.frozen? ⟨p,0,none⟩=false:=⟨hgrow.cell c0 hne,OJ hgrow hpl hne (fz 0)⟩))
 have HG:=hDq hgrow;have HR1:=hDq uD;have HN:=hDq hnew;clear hgrow uD hnew k1 k2;go_wp2;go_ret;obtain⟨D1,D2⟩:=dG.grown (w:=w.drew) ⟨Hp.out,HR.out,hb⟩ HR1.out HG.out;exact⟨rfl,_,D1,⟨⟨D2.os,D2.tape,D2.output,D2.size,D2.block⟩,HN.out⟩⟩
theorem akB {ys:List UInt8} {n j:Nat} {u:Value} (h:((ints (ys.take n)).map (Value.int .u8))[j]?=some u):((ints ys).map (Value.int .u8))[j]?=some u:=by
 rw[Xb,List.map_take,List.getElem?_take]at h;split at h
 ·exact h
 ·cases h
theorem Yq {w:World} {base p j:Nat} {v:Value} {xs:List Int} {cs:Array Value} {f:Nat×Nat} (h:Row w base v xs) (hp:w.heap[p]?=some (.cells cs 117 f)) (u:Value):Row (w.setCell ⟨p,j,none⟩ u) base v xs:=by
 refine⟨h.1,?_⟩;rcases h.2 with hn | ⟨g,cap,cur,rfl,hb',hg,rest⟩
 ·exact .inl hn
 ·refine .inr ⟨g,cap,cur,rfl,hb',?_,rest⟩
  rw[heap_setCell_other _ _ g _ ?_]
  ·exact hg
  ·intro hk
   have hk:g=p:=hk;rw[hk,hp]at hg;simp at hg
theorem akC (base b2 p g cap:Nat) (v:Value) (l ys:List UInt8) (w:World) (left:Nat) (hd:dG w base p v l true left) (hrow:Row w b2 (.slice (some ⟨g,0,none⟩) ys.length cap) (ints ys)) (hsz:l.length+ys.length<=10000000) (kh:base<=w.heap.size) (hleft:left<=9223372036854775807) :
  Calls Tryz.prog 135 #[.pointer (some ⟨p,0,none⟩),.slice (some ⟨g,0,none⟩) ys.length cap] w fun e w'=>e=.returned (.bool (decide (ys.length<=left)))∧∃ v',dG w' base p v' (l++ys.take left) true (left-ys.length:Nat)∧pP w w' p v v':=by
 obtain⟨hp,hr,hb⟩:=hd;obtain⟨c0,c1,c2,fz,hpl⟩:=rO hp;have Hp:=hDq hp;have HR:=hDq hr;have dJ:=hDq hrow;have hcap:ys.length<=cap:=by
  rcases hrow.2 with ⟨h,_⟩ | ⟨g',cap',cur,h,_,_,hc,_⟩
  ·cases h
  ·simp only[Value.slice.injEq,Option.some.injEq,Addr.mk.injEq,and_true]at h
   rw[iF]at hc;omega
 have hne:=HR.out.other Hp.out;clear hp hr hrow;by_cases hle:ys.length<=left
 ·go_enter Tryz.func135,Tryz.ntmps135
  go_wp2;have C5:Hid ((w.setCell ⟨p,2,none⟩ (.int .i64 ((left:Int)-ys.length))).heap[p]?=some (.cells #[v,.bool true,.int .i64 ((left:Int)-ys.length)] 117 (0,0))):=heap_setCell_same w p 2 _ 117 _ Hp.out;have f_:Hid (dz (w.setCell ⟨p,2,none⟩ (.int .i64 ((left:Int)-ys.length))) base v (ints l)):=HR.out.setCell Hp.out _;have gJ:Hid (Row (w.setCell ⟨p,2,none⟩ (.int .i64 ((left:Int)-ys.length))) b2 (.slice (some ⟨g,0,none⟩) ys.length cap) (ints ys)):=Yq dJ.out Hp.out _;have bD:Hid (aF w (w.setCell ⟨p,2,none⟩ (.int .i64 ((left:Int)-ys.length))) (fun k=>k=p)):=aF.setCell w p 2 _;generalize w.setCell ⟨p,2,none⟩ (.int .i64 ((left:Int)-ys.length))=w0 at *;obtain⟨c0,c1,c2,fz,hpl⟩:=rO C5.out;have OL:base<=w0.heap.size:=lTq kh bD.out.size
  go_region_law ((refine OH rfl _ _ rfl base v (ints l) rfl f_.out ⟨g,0,none⟩ ys.length cap (ints ys) rfl (iF ys) (OI gJ.out) (by rw[iF];omega) OL ?_;intro g1 wB w1 uD hgrow hnew;obtain⟨k1,k2⟩:w1.cell? ⟨p,0,none⟩=some v∧w1.frozen? ⟨p,0,none⟩=false:=⟨hgrow.cell c0 hne,OJ hgrow hpl hne (fz 0)⟩))
  have HG:=hDq hgrow;have HR1:=hDq uD;have HN:=hDq hnew;clear hgrow uD hnew k1 k2;go_wp2;go_ret;obtain⟨D1,D2⟩:=dG.grown (w:=w0.drew) ⟨C5.out,f_.out,hb⟩ HR1.out HG.out;have OM:aF w0 _ (fun k=>k=p∨v.ownBlock=some k):=⟨D2.os,D2.tape,D2.output,D2.size,D2.block⟩;have OO:pP w _ p v _:=⟨(bD.out.mono (fun k hk=>.inl hk)).trans OM (fun k hk=>.inl hk),fun k hk=>(HN.out k hk).imp id (fun h=>lTq bD.out.size h)⟩;have e:((left:Int)-ys.length)=((left-ys.length:Nat):Int):=by omega
  rw[e]at D1;refine⟨by simp[hle],_,?_,OO⟩;rw[List.take_of_length_le hle];exact D1
 ·go_enter Tryz.func135,Tryz.ntmps135
  go_wp2;have C5:Hid ((w.setCell ⟨p,2,none⟩ (.int .i64 0)).heap[p]?=some (.cells #[v,.bool true,.int .i64 0] 117 (0,0))):=heap_setCell_same w p 2 _ 117 _ Hp.out;have f_:Hid (dz (w.setCell ⟨p,2,none⟩ (.int .i64 0)) base v (ints l)):=HR.out.setCell Hp.out _;have gJ:Hid (Row (w.setCell ⟨p,2,none⟩ (.int .i64 0)) b2 (.slice (some ⟨g,0,none⟩) ys.length cap) (ints ys)):=Yq dJ.out Hp.out _;have bD:Hid (aF w (w.setCell ⟨p,2,none⟩ (.int .i64 0)) (fun k=>k=p)):=aF.setCell w p 2 _;generalize w.setCell ⟨p,2,none⟩ (.int .i64 0)=w0 at *;obtain⟨c0,c1,c2,fz,hpl⟩:=rO C5.out;have hlc:left<=cap:=by omega
  have OL:base<=w0.heap.size:=lTq kh bD.out.size
  go_region_law ((refine OH rfl _ _ rfl base v (ints l) rfl f_.out ⟨g,0,none⟩ left cap (ints (ys.take left)) rfl (by rw[iF,lKq];omega) (fun j u hj=>OI gJ.out j u (akB hj)) (by rw[iF];omega) OL ?_;intro g1 wB w1 uD hgrow hnew;obtain⟨k1,k2⟩:w1.cell? ⟨p,0,none⟩=some v∧w1.frozen? ⟨p,0,none⟩=false:=⟨hgrow.cell c0 hne,OJ hgrow hpl hne (fz 0)⟩))
  have HG:=hDq hgrow;have HR1:=hDq uD;have HN:=hDq hnew;clear hgrow uD hnew k1 k2;go_wp2;go_ret;obtain⟨D1,D2⟩:=dG.grown (w:=w0.drew) ⟨C5.out,f_.out,hb⟩ HR1.out HG.out;have OM:aF w0 _ (fun k=>k=p∨v.ownBlock=some k):=⟨D2.os,D2.tape,D2.output,D2.size,D2.block⟩;have OO:pP w _ p v _:=⟨(bD.out.mono (fun k hk=>.inl hk)).trans OM (fun k hk=>.inl hk),fun k hk=>(HN.out k hk).imp id (fun h=>lTq bD.out.size h)⟩;have e:(0:Int)=((left-ys.length:Nat):Int):=by omega
  rw[e]at D1;exact⟨gB (by rw[decide_eq_false hle,beq_eq_false_iff_ne];omega),_,D1,OO⟩
theorem Row.form {w:World} {base:Nat} {v:Value} {xs:List Int} (h:Row w base v xs) (hn:xs≠[]):∃ g cap,v=.slice (some ⟨g,0,none⟩) xs.length cap:=by
 rcases h.2 with ⟨_,h0⟩ | ⟨g,cap,cur,hv,_⟩
 ·exact absurd (List.eq_nil_of_length_eq_zero h0) hn
 ·exact⟨g,cap,hv⟩
theorem Row.mono {w:World} {base base':Nat} {v:Value} {xs:List Int} (h:Row w base v xs) (hb:base'<=base):Row w base' v xs:=by
 refine⟨h.1,?_⟩;rcases h.2 with hn | ⟨g,cap,cur,rfl,hb',rest⟩
 ·exact .inl hn
 ·exact .inr ⟨g,cap,cur,rfl,by omega,rest⟩
theorem akD (s:List UInt8):ints (bn.rec s)≠[]:=by
 intro h
 have:=congrArg List.length h
 rw[iF,bn.t7]at this;simp at this
theorem pP.below {w w':World} {base p:Nat} {v v':Value} {l:List UInt8} {cut:Bool} {left:Int} (h:pP w w' p v v') (hd:dG w base p v l cut left):Below base w w' :=
 h.turned.below (lTq hd.lo (Nat.le_of_lt (lBq hd.cell))) (fun _ hk=>by
  rcases hk with rfl | hk
  ·exact hd.lo
  ·exact(hd.row.lt _ hk).1)
theorem dG.later {w w':World} {base p:Nat} {v:Value} {l:List UInt8} {cut:Bool} {left:Int} (h:dG w base p v l cut left) (hb:Below w.heap.size w w'):dG w' base p v l cut left :=
 ⟨by rw[hb.block p (lBq h.cell)];exact h.cell,h.row.block fun k hk=>hb.block k (h.row.lt k hk).2,h.lo⟩
theorem pP.under {w w1 w':World} {p:Nat} {v v':Value} (hb:Below w.heap.size w w1) (h:pP w1 w' p v v'):pP w w' p v v' :=
 ⟨(aF.of_below hb _).trans h.turned (fun _ hk=>.inl hk),fun k hk=>(h.new k hk).imp id (fun h2=>lTq hb.size h2)⟩
theorem akE (base p:Nat) (v:Value) (l:List UInt8) (s:ByteArray) (cut:Bool) (left:Int) (w:World) (b:Bool) (R:World->Prop) (T:TypeId) (x:Value) (hd:Hid (dG w base p v l cut left)) (hs:s.size<=10000) (hsz:l.length+(12+s.size)<=1048576)
  (h8:w.cell? ⟨2,0,none⟩=some (.iface T x)) (qh:2<base) (kh:base<=w.heap.size)
  (hwr:Hid (∀ g cap (ar:World),dG ar base p v l cut left->Row ar w.heap.size (.slice (some ⟨g,0,none⟩) (12+s.size) cap) (ints (bn.rec s.data.toList))->base<=ar.heap.size->Below w.heap.size w ar ->
   Calls Tryz.prog 135 #[.pointer (some ⟨p,0,none⟩),.slice (some ⟨g,0,none⟩) (12+s.size) cap] ar fun e w'=>e=.returned (.bool b)∧R w'∧Below base w w')) :
  Calls Tryz.prog 78 #[.pointer (some ⟨p,0,none⟩),.string s] w fun e w'=>e=.returned (if b then .nilIface else .iface T x)∧R w':=by
 obtain⟨hp,hr,hb⟩:=id hd.out;obtain⟨g0,akF,hv,_⟩:=hr.form;rw[iF]at hv;subst hv;obtain⟨c0,c1,c2,fz,hpl⟩:=rO hp;clear hp hr;have hs':¬ (10000:Int)<s.size:=by omega
 go_enter Tryz.func78,Tryz.ntmps78
 go_wp2_with fail
 go_quiet ((go_at_call 102;refine Calls.quiet_of_same (Hl _ _ ?_);omega))
 have hfull:¬ (1048576:Int)<(l.length:Int)+((12+s.size:Nat):Int):=by omega
 have bD:Hid (Below w.heap.size w (w.drewN nq)):=below_drewN nq
 go_wp2_with fail
 refine(aiB s _ hs).mono ?_;rintro e w1 ⟨v1,rfl,hr1,hb1⟩;obtain⟨g1,wB,hv1⟩:=hr1.form (akD _);rw[iF,bn.t7,pK]at hv1;subst hv1;have HB1:Hid (Below w.heap.size w w1):=bD.out.trans (hb1.mono bD.out.size);have HR1:=hDq (hr1.mono bD.out.size);clear hr1 hb1;have akG:w1.cell? ⟨2,0,none⟩=some (.iface T x):=cell_later HB1.out h8
 go_wp2_with fail
 refine(hwr.out g1 wB w1 (hd.out.later HB1.out) HR1.out (lTq kh HB1.out.size) HB1.out).mono ?_;rintro e w2 ⟨rfl,hR,hb2⟩;have HR:=hDq hR;clear hR;have aoS:w2.cell? ⟨2,0,none⟩=some (.iface T x):=by rw[hb2.cell (p:=⟨2,0,none⟩) qh];exact h8
 clear hb2;cases b
 ·go_wp2
  go_ret;exact⟨rfl,HR.out⟩
 ·go_wp2
  go_ret;exact⟨rfl,HR.out⟩
theorem akH (base p:Nat) (v:Value) (l:List UInt8) (s:ByteArray) (cut:Bool) (left:Int) (w:World) (u:Value) (hd:Hid (dG w base p v l cut left)) (hs:s.size<=10000) (hl:l.length<=1048576) (hsz:1048576<l.length+(12+s.size))
  (h8:w.cell? ⟨8,0,none⟩=some u) :
  Calls Tryz.prog 78 #[.pointer (some ⟨p,0,none⟩),.string s] w fun e w'=>e=.returned u∧Below w.heap.size w w':=by
 obtain⟨hp,hr,hb⟩:=id hd.out;obtain⟨g0,akF,hv,_⟩:=hr.form;rw[iF]at hv;subst hv;obtain⟨c0,c1,c2,fz,hpl⟩:=rO hp;clear hp hr;have hs':¬ (10000:Int)<s.size:=by omega
 go_enter Tryz.func78,Tryz.ntmps78
 go_wp2_with fail
 go_quiet ((go_at_call 102;refine Calls.quiet_of_same (Hl _ _ ?_);omega))
 have hfull:(1048576:Int)<(l.length:Int)+((12+s.size:Nat):Int):=by omega
 have bD:Hid (Below w.heap.size w (w.drewN nq)):=below_drewN nq;have akG:(w.drewN nq).cell? ⟨8,0,none⟩=some u:=h8;go_wp2;go_ret;exact⟨rfl,bD.out⟩
def OP (l:List UInt8) (cut:Bool) (left:Nat) (s:ByteArray):List UInt8:=l++(if cut=true then (bn.rec s.data.toList).take left else bn.rec s.data.toList)
def OQ (cut:Bool) (left:Nat) (s:ByteArray):Nat:=if cut=true then left-(12+s.size) else left
def Ij (cut:Bool) (left:Nat) (s:ByteArray):Bool:=!cut || decide (12+s.size<=left)
theorem akI (base p:Nat) (v:Value) (l:List UInt8) (s:ByteArray) (cut:Bool) (left:Nat) (w:World) (T:TypeId) (x:Value) (hd:dG w base p v l cut left) (hs:s.size<=10000) (hsz:l.length+(12+s.size)<=1048576) (hleft:left<=9223372036854775807)
  (h8:w.cell? ⟨2,0,none⟩=some (.iface T x)) (qh:2<base) (kh:base<=w.heap.size) :
  Calls Tryz.prog 78 #[.pointer (some ⟨p,0,none⟩),.string s] w fun e w'=>e=.returned (if Ij cut left s=true then .nilIface else .iface T x)∧∃ v',dG w' base p v' (OP l cut left s) cut (OQ cut left s)∧pP w w' p v v':=by
 have hlen:(bn.rec s.data.toList).length=12+s.size:=by rw[bn.t7,pK]
 refine akE base p v l s cut left w (Ij cut left s) (fun w'=>∃ v',dG w' base p v' (OP l cut left s) cut (OQ cut left s)∧pP w w' p v v') T x hd hs hsz h8 qh kh (fun g cap ar Yr OT Ys Yt=>?_);rw[<- hlen]at OT ⊢;cases cut with
 | false =>
  refine(akA base w.heap.size p g cap v l _ ar left Yr OT (by omega) Ys).mono ?_;rintro e w' ⟨rfl,v',h1,h2⟩;have h3:=h2.under Yt;exact⟨rfl,⟨v',h1,h3⟩,h3.below hd⟩
 | true =>
  refine(akC base w.heap.size p g cap v l _ ar left Yr OT (by omega) Ys hleft).mono ?_;rintro e w' ⟨rfl,v',h1,h2⟩;have h3:=h2.under Yt;rw[hlen]at h1;exact⟨by rw[hlen];rfl,⟨v',h1,h3⟩,h3.below hd⟩
def qG:List Value:=dK Cv.z
theorem abC (w:World) (ty:TypeId) (b o c:Nat) (hc:∀ j,j<5->(w.cell? ⟨b,o+j,none⟩).isSome=true) (hf:∀ j,j<5->w.frozen? ⟨b,o+j,none⟩=false) :
  (Builtin.clear_ #[195] ty #[.slice (some ⟨b,o,none⟩) 1 c]).run Tryz.prog w=.ok (.tuple #[]) (w.setCells b o qG):=by
 have JB:(Builtin.zeroCells (Value.agg #[.int .i64 0,.int .i64 0,.int .i64 0,.int .i64 0,.int .i64 0]).cells 1).toList=qG:=by kernel_rfl
 have hst:=run_storeCells_cells (P:=Tryz.prog) b o qG 0 w (fun j hj=>by simpa using hc j hj) (fun j hj=>by simpa using hf j hj) (by
  intro v hv;simp only[qG,dK,List.mem_cons,List.not_mem_nil,or_false]at hv;rcases hv with rfl | rfl | rfl | rfl | rfl <;> rfl)
 simp only[Nat.add_zero]at hst;simp[Builtin.clear_,run_underlying Tryz.underlying195,JB,hst]
theorem zY (a b:List Cv.ag):flat (a++b)=flat a++flat b:=by simp[flat]
theorem QI (l:List Cv.ag) (k:Nat) (h:k<=l.length):(flat l).take (k*5)=flat (l.take k):=by
 have e:flat l=flat (l.take k)++flat (l.drop k):=by rw[<- zY,List.take_append_drop]
 have hl:(flat (l.take k)).length=k*5:=by rw[oJ,lKq];congr 1;omega
 rw[e,<- hl,List.take_left]
theorem QJ (l:List Cv.ag) (k:Nat) (h:k<=l.length):(flat l).drop (k*5)=flat (l.drop k):=by
 have e:flat l=flat (l.take k)++flat (l.drop k):=by rw[<- zY,List.take_append_drop]
 have hl:(flat (l.take k)).length=k*5:=by rw[oJ,lKq];congr 1;omega
 rw[e,<- hl,List.drop_left]
theorem z1 {w:World} {base:Nat} {e:TypeId} {s g n cap:Nat} {xs:List Value} (h:w.ownsRow base e s (.slice (some ⟨g,0,none⟩) n cap) n xs) (j:Nat) (hj:j<n*s):(w.cell? ⟨g,j,none⟩).isSome=true∧w.frozen? ⟨g,j,none⟩=false∧w.cell? ⟨g,j,none⟩=xs[j]?:=by
 rcases h.2 with ⟨e1,_⟩ | ⟨g',cap',cur,e1,hg,dF,h1,h2,h3,h4⟩
 ·cases e1
 ·obtain⟨rfl,rfl⟩:g=g'∧cap=cap':=by simpa using e1
  have hle:n*s<=cur.size:=by rw[h3];exact Nat.mul_le_mul_right _ h1
  have e2:w.cell? ⟨g,j,none⟩=xs[j]?:=by
   rw[cR w g j cur e (0,0) dF,<- h4,List.getElem?_take_of_lt hj];simp
  have e3:(w.cell? ⟨g,j,none⟩).isSome=true:=by
   rw[cR w g j cur e (0,0) dF];simp;omega
  exact⟨e3,by simp[World.frozen?,dF],e2⟩
theorem abD (g cap n i j base:Nat) (l:List Cv.ag) (w:World) (hn:Hid (l.length=n)) (hrow:w.ownsRow base 197 5 (.slice (some ⟨g,0,none⟩) n cap) n (flat l)) (hj:Hid (j=i+1)) (hjn:j<=n) (hij:i<j) (hcap:n<=cap) :
  Calls Tryz.prog 298 #[.slice (some ⟨g,0,none⟩) n cap,.int .i64 i,.int .i64 j] w fun e w'=>e=.returned (.slice (some ⟨g,0,none⟩) (n-1) cap)∧w'.ownsRow base 197 5 (.slice (some ⟨g,0,none⟩) (n-1) cap) (n-1) (flat (Bk.del l i))∧w.grownBy w' (some g):=by
 obtain⟨i0,z0,hi,hz0,hz1,hz2,hz3⟩:=DT;have hne:¬ ((i:Int)=j):=by omega
 obtain⟨news,hnews⟩:∃ news,news=flat (l.drop j):=⟨_,rfl⟩;have hlen:news.length=(n-j)*5:=by rw[hnews,oJ,List.length_drop,hn.out]
 have Aa:∀ t u,news[t]?=some u->w.cell? ⟨g,j*5+t,none⟩=some u:=by
  intro t u hu;have ht:t<(n-j)*5:=by
   have:=(List.getElem?_eq_some_iff.1 hu).1
   rwa [hlen]at this
  rw[(z1 hrow (j*5+t) (by omega)).2.2];rw[hnews,<- QJ l j (by rw[hn.out];exact hjn),List.getElem?_drop]at hu;exact hu
 obtain⟨A,hA,hsrc⟩:∃ A:Addr,(if cap=j then some (⟨g,0,none⟩:Addr) else some ⟨g,j*5,none⟩)=some A∧Hid (∀ t u,news[t]?=some u->w.drew.cell? (A.add t)=some u):=by
  by_cases h:cap=j
  ·refine⟨⟨g,0,none⟩,by simp[h],fun t u hu=>?_⟩
   have h0:news.length=0:=by rw[hlen];omega
   rw[List.length_eq_zero_iff.1 h0]at hu;simp at hu
  ·refine⟨⟨g,j*5,none⟩,by simp[h],fun t u hu=>?_⟩
   rw[Addr.add_lit];exact Aa t u hu
 have s1:Hid (news.length=(n-j)*5):=hlen;have s2:Hid (∀ u∈news,u.oneCell'=true):=by
  intro u hu;rw[hnews]at hu;exact QP _ u hu
 have s3:Hid (∀ t,t<news.length->(w.drew.cell? ⟨g,0+i*5+t,none⟩).isSome=true∧w.drew.frozen? ⟨g,0+i*5+t,none⟩=false):=by
  intro t ht;rw[hlen]at ht;have h:=z1 hrow (0+i*5+t) (by omega);exact⟨h.1,h.2.1⟩
 have Ab:w.drew.ownsRow base 197 5 (.slice (some ⟨g,0,none⟩) n cap) n (flat l):=hrow;obtain⟨W1,hW1⟩:∃ W1,W1=w.drew.setCells g (0+i*5) news:=⟨_,rfl⟩;have hfl:(flat l).length=n*5:=by rw[oJ,hn.out]
 -- the row behind the append: as long as it was
 obtain⟨ys,qH⟩:∃ ys,ys=(flat l).take (0+i*5)++news++(flat l).drop (0+i*5+news.length):=⟨_,rfl⟩;have uY:ys.length=n*5:=by
  rw[qH];simp only[List.length_append,List.length_take,List.length_drop,hlen,hfl];omega
 have hr1:W1.ownsRow base 197 5 (.slice (some ⟨g,0,none⟩) n cap) n ys:=by
  rw[hW1];exact Jw Ab _ news n hcap (by rw[hlen];omega) ys uY (lRq _) (by rw[<- qH];exact List.take_of_length_le (by omega))
 have hcl:∀ ty,(Builtin.clear_ #[195] ty #[.slice (some ⟨g,(i+(n-j))*5,none⟩) (n-(i+(n-j))) (cap-(i+(n-j)))]).run Tryz.prog W1=.ok (.tuple #[]) (W1.setCells g ((i+(n-j))*5) qG):=by
  intro ty;rw[show n-(i+(n-j))=1 by have:=hj.out;omega];exact abC W1 ty g _ _ (fun t ht=>(z1 hr1 _ (by have:=hj.out;omega)).1) (fun t ht=>(z1 hr1 _ (by have:=hj.out;omega)).2.1)
 have HR:Hid ((W1.setCells g ((i+(n-j))*5) qG).ownsRow base 197 5 (.slice (some ⟨g,0,none⟩) (n-1) cap) (n-1) (flat (Bk.del l i))):=by
  have hd:(Bk.del l i).length=n-1:=by rw[Bk.JC (by rw[hn.out];omega),hn.out]
  refine Jw hr1 _ qG (n-1) (by omega) (by show _+5<=_;have:=hj.out;omega) _ (by rw[oJ,hd]) (by omega) ?_;have e1:(i+(n-j))*5=(n-1)*5:=by have:=hj.out;congr 1;omega
  rw[e1,aAq,List.take_append_of_le_length (by rw[lKq,uY];omega),List.take_take,Nat.min_self,qH];rw[List.take_append_of_le_length (by simp only[List.length_append,List.length_take,hlen,hfl];have:=hj.out;omega),List.take_of_length_le (by simp only[List.length_append,List.length_take,hlen,hfl];have:=hj.out;omega)];rw[hnews,Nat.zero_add,QI l i (by rw[hn.out];omega),<- zY,hj.out];rfl
 have HG:Hid (w.grownBy (W1.setCells g ((i+(n-j))*5) qG) (some g)):=by
  have o1:=Only.setCells w.drew g news (0+i*5) none;rw[<- hW1]at o1;have o2:=o1.trans (Only.setCells W1 g qG ((i+(n-j))*5) none) (fun k h=>.inl h);exact⟨o2.os,o2.tape,o2.output,o2.size,fun k hk h=>o2.block k hk (by simp) h⟩
 have hW:Hid (W1=w.drew.setCells g (0+i*5) news):=hW1;have HI:=hDq hi;have ay:=hDq hz1;have abE:i<=cap:=by omega
 have abF:j<=cap:=by omega
 clear hW1 hr1 qH uY hfl Ab Aa hnews hlen hrow hi hz0 hz1 hz2 hz3;go_enter Tryz.func298,Tryz.ntmps298
 go_wp2_with fail
 go_region_law (refine step_append_room rfl (.tmp 22) (.tmp 25) 195 rfl 197 i0 5 Tryz.underlying195 HI.out ay.out g 0 i cap (by simp[Act.eval,Act.put]) A (n-j) (cap-j) news (by simp[Act.eval,Act.put]) s1.out hsrc.out s2.out (by omega) s3.out ?_;rw[<- hW.out])
 go_wp2;go_ret;exact⟨by rw[show n-1=i+(n-j) by have:=hj.out;omega];rfl,HR.out,HG.out⟩
theorem cA.set {w w2:World} {base p:Nat} {v v':Value} {l l':List Cv.ag} (h:cA w base p v l) (hg:w.grownBy w2 v.ownBlock) (hr:w2.ownsRow base 197 5 v' l'.length (flat l')) (hn:∀ k,v'.ownBlock=some k->v.ownBlock=some k∨w.heap.size<=k) :
  cA (w2.setCell ⟨p,0,none⟩ v') base p v' l'∧Step w (w2.setCell ⟨p,0,none⟩ v') p v v':=by
 have hc:w2.heap[p]?=some (.cells #[v] 276 (0,0)):=by rw[hg.block p h.lt (fun e=>h.ne e.symm)];exact h.cell
 have h3:v'.ownBlock≠some p:=by
  intro e;rcases hr.2 with ⟨e1,_⟩ | ⟨r,cap,cur,e1,_,hr2,_⟩
  ·rw[e1]at e;cases e
  ·rw[e1]at e
   have:r=p:=by simpa [Value.ownBlock] using e
   rw[this,hc]at hr2;cases hr2
 refine⟨⟨one_setCell hc,h.lo,ownsRow_setCell_other hr h3 _⟩,⟨?_,hn⟩⟩;exact(Only.jV hg (some p)).trans (Only.setCell w2 p 0 v' v.ownBlock) (fun k e=>.inl e)
theorem cA.xF {w w2:World} {base p:Nat} {v:Value} {l:List Cv.ag} (h:cA w base p v l) (hg:w.grownBy w2 v.ownBlock):w2.cell? ⟨p,0,none⟩=some v∧w2.frozen? ⟨p,0,none⟩=false:=by
 have hc:w2.heap[p]?=some (.cells #[v] 276 (0,0)):=by rw[hg.block p h.lt (fun e=>h.ne e.symm)];exact h.cell
 exact⟨cell_of_one hc,free_of_one hc⟩
theorem QG (p base k:Nat) (v:Value) (l:List Cv.ag) (w:World) (hb:Hid (cA w base p v l)) (hk:k<l.length) (hn:Hid (l.length<=60)) :
  Calls Tryz.prog 278 #[.pointer (some ⟨p,0,none⟩),.int .i64 k] w fun e w'=>e=.returned (.tuple #[])∧∃ v',cA w' base p v' (Bk.del l k)∧Step w w' p v v':=by
 have hcell:=cell_of_one hb.out.cell;rcases hb.out.form with ⟨_,hl⟩ | ⟨g,cap,rfl,hle,_,_⟩
 ·rw[hl]at hk;exact absurd hk (Nat.not_lt_zero _)
 obtain⟨n,hnn⟩:∃ n,l.length=n:=⟨_,rfl⟩;have Af:=hDq hnn;have HD:=hDq (abD g cap n k (k+1) base l w hnn (by rw[<- hnn];exact hb.out.row) rfl (by omega) (by omega) (by omega));have abQ:Hid (n<=60):=by rw[<- hnn];exact hn.out
 rw[hnn]at hcell hk hle ⊢;clear hnn;have anI:k<60:=by have:=abQ.out;omega
 have eU:((k+1:Nat):Int)=(k:Int)+1:=by omega
 rw[eU]at HD;go_enter Tryz.func278,Tryz.ntmps278
 go_wp2_with fail
 refine HD.out.mono ?_;rintro e w2 ⟨rfl,hrow,hg⟩;obtain⟨k1,k2⟩:=hb.out.xF (w2:=w2) (by rw[Af.out];exact hg);have HR:=hDq hrow;have HG:=hDq hg;clear hrow hg hcell;rw[Af.out]at k1;simp only[];go_wp2;go_end0;have hd:(Bk.del l k).length=n-1:=by rw[Bk.JC (by rw[Af.out];exact hk),Af.out]
 have hb':=hb.out;rw[Af.out]at hb';exact⟨rfl,_,hb'.set HG.out (by rw[hd];exact HR.out) (fun k h=>.inl h)⟩
theorem abR (v:Value) (base n:Nat) (l:List Cv.ag) (w:World) (hn:Hid (l.length=n)) (hn':n<=1000) (hr:Hid (w.ownsRow base 197 5 v n (flat l))) :
  Calls Tryz.prog 171 #[v] w fun e w'=>∃ v2,e=.returned v2∧w'.ownsRow w.heap.size 197 5 v2 n (flat l)∧Below w.heap.size w w':=by
 have anJ:∀ (w:World) (a:Option Addr) (n c n' c':Nat),(binOp .eql 195 (.slice a n c) (.slice none n' c')).run Tryz.prog w=.ok (.bool a.isNone) w:=fun w a n c n' c'=>Lib.run_eql_slice_nil w _ _ a n c n' c' Tryz.underlying195;rcases hr.out.2 with ⟨rfl,h0⟩ | ⟨g,cap,cur,rfl,_⟩
 ·have HE:Hid (flat l=[]∧n=0):=⟨by rw[show l=[] from List.eq_nil_of_length_eq_zero (by rw[hn.out];exact h0)];rfl,h0⟩
  clear h0;go_enter Tryz.func171,Tryz.ntmps171;go_wp2;go_ret;exact⟨_,rfl,by rw[HE.out.1,HE.out.2];exact World.ownsRow_nil _ _ _ _,bRq _ _⟩
 ·obtain⟨i0,z0,hi,hz0,hz1,hz2,hz3⟩:=DT
  have Hi:=hDq hi;have eK:=hDq hz0;have eL:=hDq hz1;have eM:=hDq hz2;have nB:=hDq hz3;clear hi hz0 hz1 hz2 hz3;go_enter Tryz.func171,Tryz.ntmps171
  go_wp2_with (at_builtin;refine wpList_append_own _ rfl _ _ 195 rfl w.heap.size 197 i0 z0 5 40 Tryz.underlying195 Hi.out eK.out eL.out eM.out nB.out (by decide) _ _ _ rfl (World.ownsRow_made w #[] 0 (lRq _) (Nat.zero_le _) (by simp)) ⟨g,0,none⟩ n cap (flat l) rfl (by rw[oJ,hn.out]) (fun j u hj=>cell_later ((bRq _ _).alloc (lRq _) _) (World.ownsRow.cells hr.out (g:=g) rfl j u hj)) (QP l) (by unfold maxLen;omega) (by omega) (by simp) ?_)
  intro v2 w1 hown hgrow hnil;have HO:Hid (w1.ownsRow w.heap.size 197 5 v2 n (flat l)):=by
   show World.ownsRow _ _ _ _ _ _ _;simpa using hown
  have HB:Hid (Below w.heap.size w w1):=((bRq _ w).alloc (lRq _) _).grown hgrow (by simp) (by intro k hk;simp[Value.ownBlock]at hk;omega);clear hown hgrow hnil;go_wp2;go_ret;exact⟨v2,rfl,HO.out,HB.out⟩
theorem xG (p base:Nat) (v:Value) (l:List Cv.ag) (w:World) (hb:Hid (cA w base p v l)) (hn:Hid (l.length<=60)) :
  Calls Tryz.prog 109 #[.pointer (some ⟨p,0,none⟩)] w fun e w'=>∃ v2,e=.returned v2∧w'.ownsRow w.heap.size 197 5 v2 l.length (flat l)∧Below w.heap.size w w':=by
 have hcell:=cell_of_one hb.out.cell;have HC:=hDq (abR v base l.length l w rfl (by have:=hn.out;omega) hb.out.row);obtain⟨a,m,c,rfl⟩:∃ a m c,v=.slice a m c:=by
  rcases hb.out.form with ⟨e,_⟩ | ⟨g,cap,e,_⟩
  ·exact⟨_,_,_,e⟩
  ·exact⟨_,_,_,e⟩
 go_enter Tryz.func109,Tryz.ntmps109
 go_wp2_with fail
 refine HC.out.mono ?_;rintro e w2 ⟨v2,rfl,hr2,hb2⟩;have HR:=hDq hr2;have HB:=hDq hb2;clear hr2 hb2 hcell;simp only[];go_wp2;go_ret;exact⟨v2,rfl,HR.out,HB.out⟩
def Bk.jv (l:List Cv.ag) (id:Int):Cv.ag:=if Cv.has l id=true then Cv.nth l (Bk.pos l id) else Cv.z
theorem DU (p base:Nat) (v:Value) (id:Int) (l:List Cv.ag) (w:World) (hb:Hid (cA w base p v l)) (hn:Hid (l.length<=60)) :
  Calls Tryz.prog 192 #[.pointer (some ⟨p,0,none⟩),.int .i64 id] w fun e w'=>e=.returned (.tuple #[bJ (Bk.jv l id),.bool (Cv.has l id)])∧Below w.heap.size w w':=by
 have HF:=hDq (DJ p base v id l (w.alloc (.cells #[.int .i64 0,.int .i64 0,.int .i64 0,.int .i64 0,.int .i64 0] 197)) (hb.out.later ((bRq _ _).alloc (lRq _) _)) hn);go_enter Tryz.func192,Tryz.ntmps192
 go_wp2_with fail
 refine HF.out.mono ?_;rintro e w2 ⟨rfl,hb2⟩;have ny:Below w.heap.size w w2:=((bRq _ _).alloc (lRq _) _).trans (hb2.mono (by simp));have HB:=hDq ny;have HP:Hid (∀ j,j<5->w2.cell? ⟨w.heap.size,j,none⟩=some (.int .i64 0)∧w2.frozen? ⟨w.heap.size,j,none⟩=false):=fun j hj=>by
  have e:=hb2.block w.heap.size (by simp);rw[hNq]at e;refine⟨?_,by simp[World.frozen?,e]⟩;simp only[World.cell?,e];have:j=0∨j=1∨j=2∨j=3∨j=4:=by omega
  rcases this with rfl | rfl | rfl | rfl | rfl <;> rfl
 have HK:=hDq (hb.out.later ny);have ⟨a0,f0⟩:=HP.out 0 (by decide);have ⟨a1,f1⟩:=HP.out 1 (by decide);have ⟨a2,f2⟩:=HP.out 2 (by decide);have ⟨a3,f3⟩:=HP.out 3 (by decide);have ⟨a4,f4⟩:=HP.out 4 (by decide);clear hb2 ny HF;cases hh:Cv.has l id with
 | false =>
  have Hh:=hDq hh;rw[Bk.zW hh];clear hh;simp only[];go_wp2;refine bodyPost_ret (v:=.tuple #[bJ Cv.z,.bool false]) (by simp[results,Tryz.results192,go_sem,bJ,Cv.z,a0,a1,a2,a3,a4]) rfl ⟨?_,?_⟩
  ·rw[show Bk.jv l id=Cv.z by unfold Bk.jv;rw[Hh.out];rfl,Hh.out]
  ·exact((((HB.out.setCell (lRq _) _).setCell (lRq _) _).setCell (lRq _) _).setCell (lRq _) _).setCell (lRq _) _
 | true =>
  have Hh:=hDq hh;rw[Bk.zX hh];have hk:=Bk.Jv hh;clear hh;have hcell:=cell_of_one HK.out.cell;rcases HK.out.form with ⟨_,hl⟩ | ⟨g,cap,rfl,hle,_,hl⟩
  ·rw[hl]at hk;exact absurd hk (Nat.not_lt_zero _)
  obtain⟨c0,c1,c2,c3,c4⟩:=hl _ hk;have HX:Hid (Bk.jv l id=Cv.nth l (Bk.pos l id)):=by show _=_;unfold Bk.jv;rw[if_pos Hh.out]
  have xA:l.length<=60:=hn.out;obtain⟨x,hx⟩:∃ x,Cv.nth l (Bk.pos l id)=x:=⟨_,rfl⟩;rw[hx]at HX c0 c1 c2 c3 c4;clear hx;generalize Bk.pos l id=k at *;obtain⟨n,hnn⟩:∃ n,l.length=n:=⟨_,rfl⟩;rw[hnn]at hk hcell xA;have hg:g<w2.heap.size:=bCq _ _ c0;have aK:(k:Int)<n:=by omega
  simp only[Nat.zero_add]at c0 c1 c2 c3 c4;clear hl hle hnn HK;simp only[];go_wp2;refine bodyPost_ret (v:=.tuple #[bJ x,.bool true]) (by simp[results,Tryz.results192,go_sem,bJ,a0,a1,a2,a3,a4]) rfl ⟨?_,?_⟩
  ·rw[Hh.out,HX.out]
  ·exact((((HB.out.setCell (lRq _) _).setCell (lRq _) _).setCell (lRq _) _).setCell (lRq _) _).setCell (lRq _) _
structure uX (w:World) (T:TypeId) (v1 v5 v6 v7:Value):Prop where
 bP:gK w T v1 v6 v7
 c5:w.cell? ⟨6,0,none⟩=some (.iface T v5)
theorem uX.later {w w':World} {T:TypeId} {v1 v5 v6 v7:Value} (h:uX w T v1 v5 v6 v7) (hb:Below w.heap.size w w'):uX w' T v1 v5 v6 v7:=⟨h.bP.later hb,cell_later hb h.c5⟩
def sN (T:TypeId) (v1 v5 v6 v7:Value):Nat->Value
 | 0=>.nilIface
 | 1=>.iface T v1
 | 2=>.iface T v6
 | 3=>.iface T v7
 | _=>.iface T v5
theorem Step.zV {w w':World} {p b:Nat} {v v':Value} (h:Step w w' p v v') (hb:w.heap.size<=b) (o:Nat) (u:Value):Step w (w'.setCell ⟨b,o,none⟩ u) p v v' :=
 ⟨⟨h.only.os,h.only.tape,h.only.output,by simpa using h.only.size,fun k hk h1 h2=>by
  rw[Below.heap_setCell _ _ _ _ (by show k≠b;omega)];exact h.only.block k hk h1 h2⟩,h.new⟩
theorem cA.setOther {w:World} {base p b:Nat} {v:Value} {l:List Cv.ag} (h:cA w base p v l) (hp:b≠p) (hv:v.ownBlock≠some b) (o:Nat) (u:Value):cA (w.setCell ⟨b,o,none⟩ u) base p v l :=
 ⟨by rw[Below.heap_setCell _ _ _ _ (by show p≠b;omega)];exact h.cell,h.lo,ownsRow_setCell_other h.row hv u⟩
theorem abr {B:Nat} {w w':World} (h:Below B w w'):Below B w w'.drew:=⟨h.os,h.tape,h.output,h.size,h.block⟩
theorem QE (p base:Nat) (v:Value) (id:Int) (l:List Cv.ag) (T:TypeId) (v1 v5 v6 v7:Value) (w:World) (he:Hid (uX w T v1 v5 v6 v7)) (hb:Hid (cA w base p v l)) (hn:Hid (l.length<=60)) :
  Calls Tryz.prog 244 #[.pointer (some ⟨p,0,none⟩),.int .i64 id] w fun e w'=>e=.returned (.tuple #[bJ (Bk.fy l id),sN T v1 v5 v6 v7 (Bk.cW l id)])∧∃ v',cA w' base p v' (Bk.dZ l id)∧Step w w' p v v':=by
 have HF:=hDq (DJ p base v id l (w.alloc (.cells #[.int .i64 0,.int .i64 0,.int .i64 0,.int .i64 0,.int .i64 0] 197)) (hb.out.later ((bRq _ _).alloc (lRq _) _)) hn);go_enter Tryz.func244,Tryz.ntmps244
 go_wp2_with fail
 refine HF.out.mono ?_;rintro e w2 ⟨rfl,hb2⟩;have ny:Below w.heap.size w w2:=((bRq _ _).alloc (lRq _) _).trans (hb2.mono (by simp));have HB:=hDq ny;have QF:w2.heap[w.heap.size]?=some (.cells #[.int .i64 0,.int .i64 0,.int .i64 0,.int .i64 0,.int .i64 0] 197 (0,0)):=by
  have e:=hb2.block w.heap.size (by simp);rw[hNq]at e;exact e
 have xz:=hDq QF;have HK:=hDq (hb.out.later ny);have HE:=hDq (he.out.later ny);clear hb2 ny HF QF;cases hh:Cv.has l id with
 | false =>
  have Hh:=hDq hh;rw[Bk.zW hh];have HC:Hid (Bk.cW l id=4∧Bk.dZ l id=l∧Bk.fy l id=Cv.z):=by
   have e:Bk.cW l id=4:=by unfold Bk.cW;rw[hh];rfl
   exact⟨e,by unfold Bk.dZ;rw[e];rfl,by unfold Bk.fy;rw[e];rfl⟩
  clear hh;have c5:=HE.out.c5;have cs:∀ j,j<5->w2.cell? ⟨w.heap.size,j,none⟩=some (.int .i64 0)∧w2.frozen? ⟨w.heap.size,j,none⟩=false:=fun j hj=>by
   refine⟨?_,by simp[World.frozen?,xz.out]⟩;simp only[World.cell?,xz.out];have:j=0∨j=1∨j=2∨j=3∨j=4:=by omega
   rcases this with rfl | rfl | rfl | rfl | rfl <;> rfl
  have ⟨a0,f0⟩:=cs 0 (by decide);have ⟨a1,f1⟩:=cs 1 (by decide);have ⟨a2,f2⟩:=cs 2 (by decide);have ⟨a3,f3⟩:=cs 3 (by decide);have ⟨a4,f4⟩:=cs 4 (by decide);clear cs;have h3:¬ (6=w.heap.size):=fun e=>by
   have h:=he.out.c5
   have:=bCq _ _ h
   simp at this;omega
  simp only[];go_wp2
  go_region
  go_wp2;refine bodyPost_ret (v:=.tuple #[bJ Cv.z,.iface T v5]) (by simp[results,Tryz.results244,go_sem,bJ,Cv.z,a0,a1,a2,a3,a4]) rfl ⟨?_,?_⟩
  ·rw[HC.out.1,HC.out.2.2];rfl
  ·have cB:Below w.heap.size w (((((w2.setCell ⟨w.heap.size,0,none⟩ (.int .i64 0)).setCell ⟨w.heap.size,1,none⟩ (.int .i64 0)).setCell ⟨w.heap.size,2,none⟩ (.int .i64 0)).setCell ⟨w.heap.size,3,none⟩ (.int .i64 0)).setCell ⟨w.heap.size,4,none⟩ (.int .i64 0)).drew :=
    abr (((((HB.out.setCell (lRq _) _).setCell (lRq _) _).setCell (lRq _) _).setCell (lRq _) _).setCell (lRq _) _)
   exact⟨v,by rw[HC.out.2.1];exact hb.out.later cB,Step.of_below cB p v⟩
 | true =>
  have Hh:=hDq hh;rw[Bk.zX hh];have hk:=Bk.Jv hh;have HC:Hid (Bk.cW l id=0∧Bk.dZ l id=Bk.del l (Bk.pos l id)∧Bk.fy l id=Cv.nth l (Bk.pos l id)):=by
   have e:Bk.cW l id=0:=by unfold Bk.cW;rw[hh];rfl
   exact⟨e,by unfold Bk.dZ;rw[if_pos e],by unfold Bk.fy;rw[if_pos e]⟩
  clear hh;have hcell:=cell_of_one HK.out.cell;rcases HK.out.form with ⟨_,hl⟩ | ⟨g,cap,rfl,hle,_,hl⟩
  ·rw[hl]at hk;exact absurd hk (Nat.not_lt_zero _)
  obtain⟨c0,c1,c2,c3,c4⟩:=hl _ hk;have xA:l.length<=60:=hn.out;have pY:=fun X=>QG p base (Bk.pos l id) _ l (w2.alloc (.cells X 197)) (HK.out.later ((bRq _ _).alloc (lRq _) _)) hk hn;have pY:=hDq pY;obtain⟨x,hx⟩:∃ x,Cv.nth l (Bk.pos l id)=x:=⟨_,rfl⟩;rw[hx]at HC c0 c1 c2 c3 c4;clear hx;generalize Bk.pos l id=k at *;have xB:Hid (p<w.heap.size∧g<w.heap.size):=⟨hb.out.lt,(hb.out.sO g rfl).2⟩;have hg:g<w2.heap.size:=bCq _ _ c0;obtain⟨n,hnn⟩:∃ n,l.length=n:=⟨_,rfl⟩;rw[hnn]at hk hcell xA;have aK:(k:Int)<n:=by omega
  simp only[Nat.zero_add]at c0 c1 c2 c3 c4;have xC:=hDq hnn;clear hl hle hnn;simp only[]
  go_wp2_with fail
  refine(pY.out _).mono ?_;rintro e w3 ⟨rfl,v3,hk3,hs3⟩;have hsz:=HB.out.size;have DK:w3.heap[w.heap.size]?=some (.cells #[.int .i64 0,.int .i64 0,.int .i64 0,.int .i64 0,.int .i64 0] 197 (0,0)):=by
   rw[hs3.only.block _ (by have:=lBq xz.out;simp;omega) (fun e=>by have:=xB.out.1;simp at e;omega) (fun e=>by have:=xB.out.2;simp[Value.ownBlock]at e;omega),heap_alloc_old _ _ (lBq xz.out)];exact xz.out
  have h7:w3.heap[w2.heap.size]?=some (.cells #[.int .i64 x.id,.int .i64 x.ak,.int .i64 x.sd,.int .i64 x.pr,.int .i64 x.q] 197 (0,0)):=by
   rw[hs3.only.block _ (by simp) (fun e=>by have:=xB.out.1;simp at e;omega) (fun e=>by have:=xB.out.2;simp[Value.ownBlock]at e;omega),hNq]
  have cs:∀ j,j<5->w3.cell? ⟨w.heap.size,j,none⟩=some (.int .i64 0)∧w3.frozen? ⟨w.heap.size,j,none⟩=false:=fun j hj=>by
   refine⟨?_,by simp[World.frozen?,DK]⟩;simp only[World.cell?,DK];have:j=0∨j=1∨j=2∨j=3∨j=4:=by omega
   rcases this with rfl | rfl | rfl | rfl | rfl <;> rfl
  have ⟨a0,f0⟩:=cs 0 (by decide);have ⟨a1,f1⟩:=cs 1 (by decide);have ⟨a2,f2⟩:=cs 2 (by decide);have ⟨a3,f3⟩:=cs 3 (by decide);have ⟨a4,f4⟩:=cs 4 (by decide);have b0:w3.cell? ⟨w2.heap.size,0,none⟩=some (.int .i64 x.id):=by simp[World.cell?,h7]
  have b1:w3.cell? ⟨w2.heap.size,1,none⟩=some (.int .i64 x.ak):=by simp[World.cell?,h7]
  have b2:w3.cell? ⟨w2.heap.size,2,none⟩=some (.int .i64 x.sd):=by simp[World.cell?,h7]
  have b3:w3.cell? ⟨w2.heap.size,3,none⟩=some (.int .i64 x.pr):=by simp[World.cell?,h7]
  have b4:w3.cell? ⟨w2.heap.size,4,none⟩=some (.int .i64 x.q):=by simp[World.cell?,h7]
  have dy:=hDq hs3;have qF:=hDq hk3;have nz:=hDq (lBq DK);clear cs hs3 hk3 h7 DK hcell c0 c1 c2 c3 c4 hsz;simp only[];go_wp2;refine bodyPost_ret (v:=.tuple #[bJ x,.nilIface]) (by simp[results,Tryz.results244,go_sem,bJ,a0,a1,a2,a3,a4]) rfl ⟨?_,?_⟩
  ·rw[HC.out.1,HC.out.2.2];rfl
  ·have hst:=(Step.of_below ((HB.out.alloc HB.out.size (.cells #[.int .i64 x.id,.int .i64 x.ak,.int .i64 x.sd,.int .i64 x.pr,.int .i64 x.q] 197))) p _).trans dy.out
   have hne:v3.ownBlock≠some w.heap.size:=fun e=>by
    rcases dy.out.new _ e with h | h
    ·have:=xB.out.2;simp[Value.ownBlock]at h;omega
    ·have:=lBq xz.out;simp at h;omega
   have hnp:w.heap.size≠p:=by have:=xB.out.1;omega
   refine⟨v3,?_,((((hst.zV (lRq _) _ _).zV (lRq _) _ _).zV (lRq _) _ _).zV (lRq _) _ _).zV (lRq _) _ _⟩;rw[HC.out.2.1];exact((((qF.out.setOther hnp hne _ _).setOther hnp hne _ _).setOther hnp hne _ _).setOther hnp hne _ _).setOther hnp hne _ _
theorem QH {l:List Cv.ag} {k:Nat} (hk:k<l.length) (x:Cv.ag):flat (Bk.put l k x)=(flat l).take (k*5)++dK x++(flat l).drop (k*5+5):=by
 unfold Bk.put;rw[zY,QI l k (by omega),show k*5+5=(k+1)*5 by omega,QJ l (k+1) (by omega)];simp[flat]
theorem abt {l:List Cv.ag} {k:Nat} (hk:k<l.length):flat l=(flat l).take (k*5)++dK (Cv.nth l k)++(flat l).drop (k*5+5):=by
 have e:=Bk.zZ hk;rw[<- QH hk,Bk.put,<- e]
theorem cA.less {w:World} {base p g cap:Nat} {l:List Cv.ag} (h:cA w base p (.slice (some ⟨g,0,none⟩) l.length cap) l) {k:Nat} (hk:k<l.length) (q:Int) :
  cA (w.setCell ⟨g,k*5+4,none⟩ (.int .i64 ((Cv.nth l k).q-q))) base p (.slice (some ⟨g,0,none⟩) l.length cap) (Bk.put l k (Bk.less (Cv.nth l k) q))∧Step w (w.setCell ⟨g,k*5+4,none⟩ (.int .i64 ((Cv.nth l k).q-q))) p (.slice (some ⟨g,0,none⟩) l.length cap) (.slice (some ⟨g,0,none⟩) l.length cap):=by
 have hr:=Jw h.row (k*5+4) [.int .i64 ((Cv.nth l k).q-q)] l.length (by
  rcases h.row.2 with ⟨e,_⟩ | ⟨g',cap',cur,e,_,_,hc,_⟩
  ·cases e
  ·obtain⟨_,rfl⟩:g=g'∧cap=cap':=by simpa using e
   exact hc) (by show k*5+4+1<=_;omega) (flat (Bk.put l k (Bk.less (Cv.nth l k) q))) (by rw[oJ,Bk.DL hk]) (lRq _) (by
  rw[List.take_of_length_le (by simp only[List.length_append,List.length_take,List.length_drop,oJ,List.length_cons,List.length_nil];omega)];have hl:((flat l).take (k*5)).length=k*5:=by rw[lKq,oJ];omega
  have e1:(flat l).take (k*5+4)=(flat l).take (k*5)++[.int .i64 (Cv.nth l k).id,.int .i64 (Cv.nth l k).ak,.int .i64 (Cv.nth l k).sd,.int .i64 (Cv.nth l k).pr]:=by
   have e:=abt hk;generalize (flat l).drop (k*5+5)=D at *;have e2:(flat l).take (k*5+4)=((flat l).take (k*5)++dK (Cv.nth l k)++D).take (k*5+4):=by rw[<- e]
   generalize (flat l).take (k*5)=A at *;rw[e2,aAq,List.take_append,hl];simp[dK,hl,List.take_of_length_le]
  rw[e1,QH hk];simp[dK,Bk.less])
 have hs:w.setCells g (k*5+4) [.int .i64 ((Cv.nth l k).q-q)]=w.setCell ⟨g,k*5+4,none⟩ (.int .i64 ((Cv.nth l k).q-q)):=rfl;rw[hs]at hr;have DN:g≠p:=fun e=>h.ne (by rw[e];rfl);refine⟨⟨by rw[Below.heap_setCell _ _ _ _ (by show p≠g;omega)];exact h.cell,h.lo,by rw[Bk.DL hk];exact hr⟩,⟨(Only.setCell w g _ _ (some p)).swap,fun k h=>.inl h⟩⟩
theorem Bk.abu {l:List Cv.ag} {k:Nat} (hk:k<l.length) (x:Cv.ag):Bk.del (Bk.put l k x) k=Bk.del l k:=by
 have hl:(l.take k).length=k:=by rw[lKq];omega
 unfold Bk.del Bk.put;congr 1
 ·rw[List.take_append_of_le_length (by omega),List.take_of_length_le (by omega)]
 ·rw[List.drop_append,hl,List.drop_of_length_le (by omega),show k+1-k=1 by omega]
  rfl
theorem abv (p base:Nat) (v:Value) (id q:Int) (l:List Cv.ag) (T:TypeId) (v1 v5 v6 v7:Value) (w:World) (he:Hid (uX w T v1 v5 v6 v7)) (hb:Hid (cA w base p v l)) (QK:Hid (Bk.Good l)) :
  Calls Tryz.prog 264 #[.pointer (some ⟨p,0,none⟩),.int .i64 id,.int .i64 q] w fun e w'=>e=.returned (sN T v1 v5 v6 v7 (Bk.lK l id q))∧∃ v',cA w' base p v' (Bk.mr l id q)∧Step w w' p v v':=by
 have hn:Hid (l.length<=60):=QK.out.len;go_enter Tryz.func264,Tryz.ntmps264
 go_wp2_with fail
 refine(DJ p base v id l w hb hn).mono ?_;rintro e w2 ⟨rfl,hb2⟩;have HB:=hDq hb2;have HK:=hDq (hb.out.later hb2);have HE:=hDq (he.out.later hb2);clear hb2;cases hh:Cv.has l id with
 | false =>
  rw[Bk.zW hh];have HC:Hid (Bk.lK l id q=4∧Bk.mr l id q=l):=by
   have e:Bk.lK l id q=4:=by unfold Bk.lK;rw[hh];rfl
   exact⟨e,by unfold Bk.mr;rw[e];rfl⟩
  clear hh;have c5:=HE.out.c5;simp only[];go_wp2;go_ret;exact⟨by rw[HC.out.1];rfl,v,by rw[HC.out.2];exact HK.out,Step.of_below HB.out p v⟩
 | true =>
  have Hh:=hDq hh;rw[Bk.zX hh];have hk:=Bk.Jv hh;have abw:=hDq hk;clear hh;have hcell:=cell_of_one HK.out.cell;rcases HK.out.form with ⟨_,hl⟩ | ⟨g,cap,rfl,hle,_,hl⟩
  ·rw[hl]at hk;exact absurd hk (Nat.not_lt_zero _)
  have HX:Hid (Cv.ok (Cv.nth l (Bk.pos l id))=true):=QK.out.oks _ (Cv.nA hk);obtain⟨_,_,_,_,c4⟩:=hl _ hk;have xA:l.length<=60:=hn.out;obtain⟨n,hnn⟩:∃ n,l.length=n:=⟨_,rfl⟩;have xC:=hDq hnn;rw[hnn]at hk hcell xA;have aK:(Bk.pos l id:Int)<n:=by omega
  simp only[Nat.zero_add]at c4;have pZ:=(Cv.fP HX.out).2.2.2.2;have jT:=hDq (HK.out.less abw.out q);obtain⟨p5,sP⟩:∃ p5,(Cv.nth l (Bk.pos l id)).q=p5:=⟨_,rfl⟩;obtain⟨k,eU⟩:∃ k,Bk.pos l id=k:=⟨_,rfl⟩;have DR:=hDq sP;have HKK:=hDq eU;rw[sP]at c4 pZ jT;rw[eU]at hk aK c4 jT ⊢;clear sP eU hnn hl hle HX;have hg:g<w2.heap.size:=bCq _ _ c4;simp only[]
  go_wp2_with fail
  refine(fY q 1 p5 _).mono ?_;rintro e w3 ⟨rfl,rfl⟩;cases hw:ah.aC q 1 p5 with
  | false =>
   have HC:Hid (Bk.lK l id q=1∧Bk.mr l id q=l):=by
    have e:Bk.lK l id q=1:=by unfold Bk.lK;rw[if_pos Hh.out,DR.out,hw];rfl
    exact⟨e,by unfold Bk.mr;rw[e];rfl⟩
   clear hw;have c1:=HE.out.bP.c1;simp only[];go_wp2;go_ret;exact⟨by rw[HC.out.1];rfl,_,by rw[HC.out.2];exact HK.out,Step.of_below HB.out p _⟩
  | true =>
   have ju:Hid (Bk.lK l id q=0):=by show _=_;unfold Bk.lK;rw[if_pos Hh.out,DR.out,hw];rfl
   have Jx:1<=q∧q<=p5:=by simpa [ah.aC] using hw
   have f4:w3.frozen? ⟨g,k*5+4,none⟩=false:=(z1 (by have:=HK.out.row;rw[xC.out]at this;exact this) (k*5+4) (by omega)).2.1;have DN:¬ (g=p):=fun e=>HK.out.ne (by rw[e];rfl);clear hw;have hsub:IntKind.i64.wrap (p5-q)=p5-q:=IntWalk.i64_in _ (by omega);by_cases hq:q=p5
   ·have hz:p5-q=0:=by omega
    have gL:Hid (Bk.mr l id q=Bk.del l k):=by show _=_;unfold Bk.mr;rw[if_pos ju.out,DR.out,if_pos hq,HKK.out]
    have iA:Hid (Bk.del (Bk.put l k (Bk.less (Cv.nth l k) q)) k=Bk.del l k):=Bk.abu (by rw[xC.out];exact hk) _;have pY:=hDq (QG p base k _ _ _ jT.out.1 (by rw[Bk.DL (by rw[xC.out];exact hk),xC.out];exact hk) (by show _<=_;rw[Bk.DL (by rw[xC.out];exact hk)];exact hn.out));rw[hz]at pY jT;have HQ:=hDq hq;clear hq;simp only[]
    go_wp2_with fail
    refine pY.out.mono ?_;rintro e w4 ⟨rfl,v4,hk4,fA⟩;have abx:=hDq hk4;have cY:=hDq fA;clear hk4 fA pY;simp only[];go_wp2;go_ret;refine⟨by rw[ju.out];rfl,v4,by rw[gL.out,<- iA.out];exact abx.out,((Step.of_below HB.out p _).trans jT.out.2).trans cY.out⟩
   ·have hz:¬ (p5-q=0):=by omega
    have gL:Hid (Bk.mr l id q=Bk.put l k (Bk.less (Cv.nth l k) q)):=by show _=_;unfold Bk.mr;rw[if_pos ju.out,DR.out,if_neg hq,HKK.out]
    have HQ:=hDq hq;clear hq;simp only[];go_wp2;go_ret;refine⟨by rw[ju.out];rfl,_,by rw[gL.out];exact jT.out.1,(Step.of_below HB.out p _).trans jT.out.2⟩
section
variable {w w':World} {base p t:Nat} {V:Nat->Value} {L:Nat->List Ask} {T:Nat->Value}
theorem nY (R:World->Prop):∃ (X:Type) (val:X->World),(∀ x,R (val x))∧∀ W,R W->∃ x,val x=W :=
 ⟨{ W:World // R W },fun x=>x.1,fun x=>x.2,fun W h=>⟨⟨W,h⟩,rfl⟩⟩
theorem Gx {P:Program} {o:Oper} {a:Act} {w w':World} {K:Value->World->Prop} (s x:Operand) (t:TypeId) (hop:o.op=Op.call { callee:=Callee.builtin Builtin.append,args:=#[s,x],argTypes:=#[t,t] }) (vs tJ v':Value) (hs:a.eval s=vs) (hx:a.eval x=tJ)
  (hrun:(Builtin.append_ #[t,t] o.type #[vs,tJ]).run P w=.ok v' w') (hK:K v' w'):aR P K ((execOp a.eval o).run P w):=by
 simp[execOp,hop,resolve,invoke,builtin,hs,hx,hrun,Result.andThen,aR];exact hK
end
theorem afO (q:List Ask):q.drop (min q.length 2)=q.drop 2:=by
 by_cases h:q.length<=2
 ·rw[Nat.min_eq_left h,List.drop_of_length_le (lRq _),List.drop_of_length_le h]
 ·rw[Nat.min_eq_right (by omega)]
theorem afP (v:Value) (base J:Nat) (q:List Ask) (w:World) (hr:Hid (w.ownsRow base 95 8 v q.length (aL q))) (hJ:J=min q.length 2):Calls Tryz.prog 134 #[v,.int .i64 0,.int .i64 J] w fun e w'=>∃ v',e=.returned v'∧w'.ownsRow base 95 8 v' (q.drop 2).length (aL (q.drop 2))∧w.grownBy w' v.ownBlock∧v'.ownBlock=v.ownBlock:=by
 by_cases h0:q.length=0
 ·have:J=0:=by omega
  subst this;refine(afM v q.length base _ w hr).mono ?_;rintro e w' ⟨rfl,rfl⟩;have hq:q=[]:=List.eq_nil_of_length_eq_zero h0;subst hq;exact⟨v,rfl,hr.out,⟨rfl,rfl,rfl,lRq _,fun _ _ _=>rfl⟩,rfl⟩
 ·obtain⟨g,cap,rfl,hle⟩:∃ g cap,v=.slice (some ⟨g,0,none⟩) q.length cap∧q.length<=cap:=by
   rcases hr.out.2 with ⟨_,e⟩ | ⟨g,cap,cur,e,_,_,h,_⟩
   ·exact absurd e h0
   ·exact⟨g,cap,e,h⟩
  refine(afN g cap q.length J base q w rfl hr.out (by show _∨_;omega) (by omega) (by omega) hle).mono ?_;rintro e w' ⟨rfl,h1,h2⟩;refine⟨_,rfl,?_,h2,rfl⟩;rw[hJ,afO]at h1;rw[List.length_drop,show q.length-2=q.length-min q.length 2 by omega];rw[hJ];exact h1
theorem afQ (w:World) (base b2 J:Nat) (d:Value) (xs:List Ask) (hd:w.ownsRow base 95 8 d xs.length (aL xs)) (a:Option Addr) (m c:Nat) (q:List Ask) (hq:w.ownsRow b2 95 8 (.slice a m c) m (aL q)) (hm:q.length=m) (hJ:J=min m 2) (hx:xs.length<=1000) (hb:base<=w.heap.size) :
  ∃ v' w',(Builtin.append_ #[24,24] 44 #[d,.slice a J c]).run Tryz.prog w=.ok v' w'∧w'.ownsRow base 95 8 v' (xs++q.take 2).length (aL (xs++q.take 2))∧w.grownBy w' d.ownBlock:=by
 obtain⟨i0,z0,mS,hz0,hz1,hz2,hz3⟩:=MK;have hl:(q.take 2).length=J:=by rw[lKq,hm,hJ];omega
 rcases hq.2 with ⟨e,e2⟩ | ⟨g,cap,cur,e,_,_,h,_⟩
 ·obtain⟨rfl,rfl,rfl⟩:a=none∧m=0∧c=0:=by simpa using e
  have vg:q=[]:=List.eq_nil_of_length_eq_zero hm;subst vg;have afR:J=0:=by omega
  subst afR;simp only[List.take_nil,List.append_nil];refine⟨d,w,?_,hd,⟨rfl,rfl,rfl,lRq _,fun _ _ _=>rfl⟩⟩;rcases hd.2 with ⟨rfl,_⟩ | ⟨g,cap,cur,rfl,_,dF,hle,_,_,_⟩
  ·simp[Builtin.append_,run_underlying Tryz.underlying24,sizeOf,typeInfo,mS,Builtin.lenOf,Builtin.firstCells]
  ·simp[Builtin.append_,run_underlying Tryz.underlying24,sizeOf,typeInfo,mS,Builtin.lenOf,Builtin.firstCells,hle,storeCells]
 ·obtain⟨rfl,rfl⟩:a=some ⟨g,0,none⟩∧c=cap:=by simpa using e
  obtain⟨v',w',h1,h2,h3,_⟩:=run_append_own_at (P:=Tryz.prog) w base 24 24 95 i0 z0 8 64 Tryz.underlying24 mS hz0 hz1 hz2 hz3 (by decide) d xs.length (aL xs) hd ⟨g,0,none⟩ J c (aL (q.take 2)) (by rw[mR,hl])
   (fun j u hj=>World.ownsRow.cells hq (g:=g) rfl j u (by
    have e:aL q=aL (q.take 2)++aL (q.drop 2):=by rw[<- vZ,List.take_append_drop]
    rw[e,List.getElem?_append_left (List.getElem?_eq_some_iff.1 hj).1];exact hj))
   (Gu _) (by unfold maxLen;omega) (by omega) hb
  exact⟨v',w',h1,by rw[lAq,hl,vZ];exact h2,h3⟩
theorem BN {w:World} {base:Nat} {e:TypeId} {s:Nat} {v:Value} {n:Nat} {xs:List Value} (hr:w.ownsRow base e s v n xs):∃ a m c,v=.slice a m c:=by
 obtain⟨a,c,h⟩:=eo hr;exact⟨a,n,c,h⟩
theorem wpList_append_run {P:Program} {ops:Array Oper} {rest:List Oper} {o:Oper} {a:Act} {w w':World} {Q:Exit->Act->World->Prop} (hgd:o.guard=none) (s x:Operand) (t:TypeId)
  (hop:o.op=Op.call { callee:=Callee.builtin Builtin.append,args:=#[s,x],argTypes:=#[t,t] }) (vs tJ v':Value) (hs:a.eval s=vs) (hx:a.eval x=tJ)
  (hrun:(Builtin.append_ #[t,t] o.type #[vs,tJ]).run P w=.ok v' w') (h:wpList P ops Q rest (a.put o.dst v') w'):wpList P ops Q (o::rest) a w:=by
 refine wpList_plain hgd fun K hK=>?_;unfold Oper.wp;simp[execOp,hop,resolve,invoke,builtin,hs,hx,hrun,Result.andThen];exact hK _ _ h
section
variable {base p t:Nat} {V:Nat->Value} {L:Nat->List Ask}
theorem afS {w w2 w3:World} {V fD:Nat->Value} {r:Option Nat} (h:j_ w w2 p V fD) (hg:w2.grownBy w3 r) (hr:∀ j,r=some j->w.heap.size<=j):j_ w w3 p V fD :=
 ⟨h.turned.trans (aF.jV hg) (fun k hk=>.inr (hr k hk.symm)),h.new⟩
theorem UT (w:World) (hi:Hid (dw w base p V t L)):Calls Tryz.prog 77 #[.pointer (some ⟨p,0,none⟩)] w fun e w'=>∃ d fD,e=.returned d∧w'.ownsRow w.heap.size 95 8 d (aD.out L t).length (aL (aD.out L t))∧dw w' base p fD (aD.who t 1) (aD.BO L t)∧j_ w w' p V fD∧∀ j,mU p fD j->mU p V j:=by
 go_enter Tryz.func77,Tryz.ntmps77
 go_wp2_with fail
 go_loopw [3,7] (fun d c wr=>∃ (k:Nat) (fD:Nat->Value),k<=6∧c=.int .i64 k∧wr.ownsRow w.heap.size 95 8 d (aD.kJ L t k).length (aL (aD.kJ L t k))∧dw wr base p fD t (aD.kK L t k)∧j_ w wr p V fD∧∀ j,mU p fD j->mU p V j) (fun _ c _=>6-(intOf c).toNat)
 case atStart=>exact⟨0,V,by decide,rfl,World.ownsRow_nil _ _ _ _,hi.out,j_.refl _ _ _,fun _ h=>h⟩
 case round =>
  obtain⟨k,fD,hk,rfl,hd,hI,hs,ho⟩:=hrel;have HD:=hDq hd;have HI:=hDq hI;have HS:=hDq hs;have HO:=hDq ho;clear hd hI hs ho;have ht:=HI.out.turn;have hat:=HI.out.afT;by_cases hlt:k<6
  ·have aK:(k:Int)<6:=by omega
   have Gv:=hDq (UU t k wr ht (by omega))
   go_wp2_with fail
   refine Gv.out.mono ?_;rintro e w2 ⟨rfl,rfl⟩;simp only[];have hn:=aD.wa t k;have HN:Hid (aD.kK L t (k+1)=aD.upd (aD.kK L t k) (aD.who t k) ((aD.kK L t k (aD.who t k)).drop 2)∧aD.kJ L t (k+1)=aD.kJ L t k++(aD.kK L t k (aD.who t k)).take 2):=⟨rfl,rfl⟩;generalize aD.who t k=n at *;have hni:(n:Int)<6:=by omega
   have UW:=HI.out.at hn;have afU:=HI.out.few n hn;obtain⟨a,c,hV⟩:=HI.out.form hn;have h9:=hDq (HI.out.row n hn);rw[hV]at UW h9;obtain⟨m,hm⟩:∃ m,(aD.kK L t k n).length=m:=⟨_,rfl⟩;rw[hm]at UW hV afU h9;have hac:(a=none∧m=0∧c=0)∨∃ g,a=some ⟨g,0,none⟩∧m<=c:=by
    rcases h9.out.2 with ⟨e,_⟩ | ⟨g,cap,cur,e,_,_,h,_⟩
    ·simp at e;exact .inl e
    ·simp at e;exact .inr ⟨g,e.1,by omega⟩
   obtain⟨J,hJ⟩:∃ J,J=min m 2:=⟨_,rfl⟩;obtain⟨v3,w3,hap,hr3,hg3⟩:=afQ w2 w.heap.size base J u3 (aD.kJ L t k) HD.out a m c (aD.kK L t k n) h9.out hm hJ (by have:=aD.tK L t k;omega) HS.out.turned.size;have hapart:∀ j,mU p fD j->¬ some j=u3.ownBlock:=fun j hj e=>by
    have h1:=(hi.out.iR (HO.out j hj)).2;have h2:=(HD.out.lt j e.symm).1;omega
   have HI3:=hDq (HI.out.turned (aF.jV hg3) hapart);have dy:=hDq (afS HS.out hg3 (fun j e=>(HD.out.lt j e).1));have Gw:=HI3.out.at hn;rw[hV]at Gw;have BP:=hDq (afP (.slice a m c) base J (aD.kK L t k n) (World.drew w3) (by have:=HI3.out.row n hn;rw[hV,hm]at this;show World.ownsRow _ _ _ _ _ _ _;rw[hm];exact this) (by rw[hm];exact hJ));obtain⟨a3,n3,c3,hf3⟩:=BN hr3;rw[hf3]at hap;have cO:=hDq hap;have HR3:=hDq hr3;have HJ:=hDq hJ;have HM:=hDq hm;have cu:=hDq hV;have fR:=hDq hf3;clear hap hr3 hg3 hat Gv hJ hm hV hf3;rcases hac with ⟨rfl,rfl,rfl⟩ | ⟨g,rfl,aod⟩
   ·obtain rfl:J=0:=by have:=HJ.out;omega
    rw[show ((0:Nat):Int)=0 from rfl]at BP
    go_wp2_with (at_builtin;refine wpList_append_run rfl _ _ 24 rfl _ _ _ rfl rfl cO.out ?_)
    obtain⟨bZ,val,hcl,aW⟩:=nY (fun W'=>W'.cell? ⟨p,n,none⟩=some (.slice none 0 0));obtain⟨x0,hx0⟩:=aW (World.drew w3) Gw;have hnx:Nonempty bZ:=⟨x0⟩;have rh:∀ x,(val x).cell? ⟨p,n,none⟩=some (.slice none 0 0):=hcl;have aV:=hDq aW;clear aW hcl;refine yF (val:=val) [9] 13 20 [0,1,2,3,4,5,6,7,8,10,11,9,12,13] (by kernel_rfl) (by kernel_rfl) x0 hx0 ?_;rw[hx0];clear hx0;refine cH rfl rfl (fun K hK=>?_);refine⟨by rfl,?_⟩;unfold aI;go_simp;refine hK _ ?_;clear hK K;refine cH rfl rfl (fun K hK=>?_);refine⟨by rfl,?_⟩;unfold aI;go_simp;refine hK _ ?_;clear hK K;refine cH rfl rfl (fun K hK=>?_);refine⟨by rfl,?_⟩;unfold aI;go_simp;refine hK _ ?_;clear hK K;refine cH rfl rfl (fun K hK=>?_);refine⟨by rfl,?_⟩;unfold aI;go_simp;refine hK _ ?_;clear hK K;refine cH rfl rfl (fun K hK=>?_);refine⟨by rfl,?_⟩;unfold aI;go_simp;refine hK _ ?_;clear hK K;refine cH rfl rfl (fun K hK=>?_);refine⟨by rfl,?_⟩;unfold aI;go_simp;refine hK _ ?_;clear hK K;refine cH rfl rfl (fun K hK=>?_);refine⟨by rfl,?_⟩;unfold aI;go_simp;refine hK _ ?_;clear hK K;refine cH rfl rfl (fun K hK=>?_);refine⟨by rfl,?_⟩;unfold aI;go_simp;refine hK _ ?_;clear hK K;refine cH rfl rfl (fun K hK=>?_);refine⟨by rfl,?_⟩;unfold aI;go_simp;refine hK _ ?_;clear hK K;refine cH rfl rfl (fun K hK=>?_);refine⟨by rfl,?_⟩;unfold aI;go_simp;refine hK _ ?_;clear hK K;refine cH rfl rfl (fun K hK=>?_);refine⟨by rfl,?_⟩;unfold aI;go_simp;refine hK _ ?_;clear hK K;refine qm rfl rfl (fun K hK=>?_);refine⟨by rfl,?_⟩;unfold aR;go_simp;refine BP.out.mono ?_;rintro e w4 ⟨v4,rfl,hr4,hg4,hv4⟩;have lW:w3.grownBy w4 (fD n).ownBlock:=by rw[cu.out];exact⟨hg4.os,hg4.tape,hg4.output,hg4.size,hg4.block⟩
    obtain⟨q1,q2⟩:=HI3.out.xF hn (w2:=w4) lW;rw[cu.out]at q1;have BQ:=hDq lW;obtain⟨a4,n4,c4,tL⟩:=BN hr4;have HST:=hDq (HI3.out.set hn (w2:=w4) lW (v':=v4) hr4 (by rw[List.length_drop,HM.out];omega) (fun j hj=>.inl (by rw[cu.out,<- hv4];exact hj)));have nZ:Hid (v4.ownBlock=(fD n).ownBlock):=by show _=_;rw[cu.out];exact hv4
    refine⟨_,rfl,aV.out _ q1,hK _ _ ?_⟩;clear hK K hr4 hg4 lW hv4;rw[tL]at HST nZ;subst tL;refine cH rfl rfl (fun K hK=>?_);refine⟨by rfl,?_⟩;unfold aI;go_simp;refine hK _ ?_;clear hK K;refine yG rfl (fun K hK=>?_);refine⟨by rfl,?_⟩;unfold aR;go_simp;refine hK _ _ ?_;clear hK K;go_wp2;refine⟨⟨k+1,_,by omega,by go_num,?_,by rw[HN.out.1];exact HST.out.1,dy.out.trans HST.out.2,?_⟩,by simp[intOf];omega⟩
    ·rw[HN.out.2,<- fR.out]
     refine fJ (fJ HR3.out (aF.jV BQ.out) ?_) (aF.setCell w4 p n _) ?_
     ·intro j hj e
      have h1:=(HR3.out.lt j hj).1;have h2:=(hi.out.iR (HO.out j (.inr ⟨n,hn,e.symm⟩))).2;omega
     ·intro j hj e
      have h1:=(HR3.out.lt j hj).1;have h2:=(hi.out.iR (.inl e)).2;omega
    ·rintro j (rfl | ⟨cc,hcc,hj⟩)
     ·exact .inl rfl
     ·by_cases tM:cc=n
      ·subst tM
       rw[aD.upd_same,nZ.out]at hj;exact HO.out j (.inr ⟨cc,hcc,hj⟩)
      ·rw[aD.pD _ _ tM]at hj
       exact HO.out j (.inr ⟨cc,hcc,hj⟩)
   ·by_cases h2:2<m
    ·have afV:(2:Int)<m:=by omega
     have afW:(2:Int)<=c:=by omega
     obtain rfl:J=2:=by have:=HJ.out;omega
     rw[show ((2:Nat):Int)=2 from rfl]at BP
     go_wp2_with (at_builtin;refine wpList_append_run rfl _ _ 24 rfl _ _ _ rfl rfl cO.out ?_)
     obtain⟨bZ,val,hcl,aW⟩:=nY (fun W'=>W'.cell? ⟨p,n,none⟩=some (.slice (some ⟨g,0,none⟩) m c));obtain⟨x0,hx0⟩:=aW (World.drew w3) Gw;have hnx:Nonempty bZ:=⟨x0⟩;have rh:∀ x,(val x).cell? ⟨p,n,none⟩=some (.slice (some ⟨g,0,none⟩) m c):=hcl;have aV:=hDq aW;clear aW hcl;refine yF (val:=val) [9] 13 20 [0,1,2,3,4,5,6,7,8,10,11,9,12,13] (by kernel_rfl) (by kernel_rfl) x0 hx0 ?_;rw[hx0];clear hx0;refine cH rfl rfl (fun K hK=>?_);refine⟨by rfl,?_⟩;unfold aI;go_simp;refine hK _ ?_;clear hK K;refine cH rfl rfl (fun K hK=>?_);refine⟨by rfl,?_⟩;unfold aI;go_simp;refine hK _ ?_;clear hK K;refine cH rfl rfl (fun K hK=>?_);refine⟨by rfl,?_⟩;unfold aI;go_simp;refine hK _ ?_;clear hK K;refine cH rfl rfl (fun K hK=>?_);refine⟨by rfl,?_⟩;unfold aI;go_simp;refine hK _ ?_;clear hK K;refine cH rfl rfl (fun K hK=>?_);refine⟨by rfl,?_⟩;unfold aI;go_simp;refine hK _ ?_;clear hK K;refine cH rfl rfl (fun K hK=>?_);refine⟨by rfl,?_⟩;unfold aI;go_simp;refine hK _ ?_;clear hK K;refine cH rfl rfl (fun K hK=>?_);refine⟨by rfl,?_⟩;unfold aI;go_simp;refine hK _ ?_;clear hK K;refine cH rfl rfl (fun K hK=>?_);refine⟨by rfl,?_⟩;unfold aI;go_simp;refine hK _ ?_;clear hK K;refine cH rfl rfl (fun K hK=>?_);refine⟨by rfl,?_⟩;unfold aI;go_simp;refine hK _ ?_;clear hK K;refine cH rfl rfl (fun K hK=>?_);refine⟨by rfl,?_⟩;unfold aI;go_simp;refine hK _ ?_;clear hK K;refine cH rfl rfl (fun K hK=>?_);refine⟨by rfl,?_⟩;unfold aI;go_simp;refine hK _ ?_;clear hK K;refine qm rfl rfl (fun K hK=>?_);refine⟨by rfl,?_⟩;unfold aR;go_simp;refine BP.out.mono ?_;rintro e w4 ⟨v4,rfl,hr4,hg4,hv4⟩;have lW:w3.grownBy w4 (fD n).ownBlock:=by rw[cu.out];exact⟨hg4.os,hg4.tape,hg4.output,hg4.size,hg4.block⟩
     obtain⟨q1,q2⟩:=HI3.out.xF hn (w2:=w4) lW;rw[cu.out]at q1;have BQ:=hDq lW;obtain⟨a4,n4,c4,tL⟩:=BN hr4;have HST:=hDq (HI3.out.set hn (w2:=w4) lW (v':=v4) hr4 (by rw[List.length_drop,HM.out];omega) (fun j hj=>.inl (by rw[cu.out,<- hv4];exact hj)));have nZ:Hid (v4.ownBlock=(fD n).ownBlock):=by show _=_;rw[cu.out];exact hv4
     refine⟨_,rfl,aV.out _ q1,hK _ _ ?_⟩;clear hK K hr4 hg4 lW hv4;rw[tL]at HST nZ;subst tL;refine cH rfl rfl (fun K hK=>?_);refine⟨by rfl,?_⟩;unfold aI;go_simp;refine hK _ ?_;clear hK K;refine yG rfl (fun K hK=>?_);refine⟨by rfl,?_⟩;unfold aR;go_simp;refine hK _ _ ?_;clear hK K;go_wp2;refine⟨⟨k+1,_,by omega,by go_num,?_,by rw[HN.out.1];exact HST.out.1,dy.out.trans HST.out.2,?_⟩,by simp[intOf];omega⟩
     ·rw[HN.out.2,<- fR.out]
      refine fJ (fJ HR3.out (aF.jV BQ.out) ?_) (aF.setCell w4 p n _) ?_
      ·intro j hj e
       have h1:=(HR3.out.lt j hj).1;have h2:=(hi.out.iR (HO.out j (.inr ⟨n,hn,e.symm⟩))).2;omega
      ·intro j hj e
       have h1:=(HR3.out.lt j hj).1;have h2:=(hi.out.iR (.inl e)).2;omega
     ·rintro j (rfl | ⟨cc,hcc,hj⟩)
      ·exact .inl rfl
      ·by_cases tM:cc=n
       ·subst tM
        rw[aD.upd_same,nZ.out]at hj;exact HO.out j (.inr ⟨cc,hcc,hj⟩)
       ·rw[aD.pD _ _ tM]at hj
        exact HO.out j (.inr ⟨cc,hcc,hj⟩)
    ·have afV:¬ (2:Int)<m:=by omega
     have afW:(m:Int)<=c:=by omega
     obtain rfl:J=m:=by have:=HJ.out;omega
     go_wp2_with (at_builtin;refine wpList_append_run rfl _ _ 24 rfl _ _ _ rfl rfl cO.out ?_)
     obtain⟨bZ,val,hcl,aW⟩:=nY (fun W'=>W'.cell? ⟨p,n,none⟩=some (.slice (some ⟨g,0,none⟩) J c));obtain⟨x0,hx0⟩:=aW (World.drew w3) Gw;have hnx:Nonempty bZ:=⟨x0⟩;have rh:∀ x,(val x).cell? ⟨p,n,none⟩=some (.slice (some ⟨g,0,none⟩) J c):=hcl;have aV:=hDq aW;clear aW hcl;refine yF (val:=val) [9] 13 20 [0,1,2,3,4,5,6,7,8,10,11,9,12,13] (by kernel_rfl) (by kernel_rfl) x0 hx0 ?_;rw[hx0];clear hx0;refine cH rfl rfl (fun K hK=>?_);refine⟨by rfl,?_⟩;unfold aI;go_simp;refine hK _ ?_;clear hK K;refine cH rfl rfl (fun K hK=>?_);refine⟨by rfl,?_⟩;unfold aI;go_simp;refine hK _ ?_;clear hK K;refine cH rfl rfl (fun K hK=>?_);refine⟨by rfl,?_⟩;unfold aI;go_simp;refine hK _ ?_;clear hK K;refine cH rfl rfl (fun K hK=>?_);refine⟨by rfl,?_⟩;unfold aI;go_simp;refine hK _ ?_;clear hK K;refine cH rfl rfl (fun K hK=>?_);refine⟨by rfl,?_⟩;unfold aI;go_simp;refine hK _ ?_;clear hK K;refine cH rfl rfl (fun K hK=>?_);refine⟨by rfl,?_⟩;unfold aI;go_simp;refine hK _ ?_;clear hK K;refine cH rfl rfl (fun K hK=>?_);refine⟨by rfl,?_⟩;unfold aI;go_simp;refine hK _ ?_;clear hK K;refine cH rfl rfl (fun K hK=>?_);refine⟨by rfl,?_⟩;unfold aI;go_simp;refine hK _ ?_;clear hK K;refine cH rfl rfl (fun K hK=>?_);refine⟨by rfl,?_⟩;unfold aI;go_simp;refine hK _ ?_;clear hK K;refine cH rfl rfl (fun K hK=>?_);refine⟨by rfl,?_⟩;unfold aI;go_simp;refine hK _ ?_;clear hK K;refine cH rfl rfl (fun K hK=>?_);refine⟨by rfl,?_⟩;unfold aI;go_simp;refine hK _ ?_;clear hK K;refine qm rfl rfl (fun K hK=>?_);refine⟨by rfl,?_⟩;unfold aR;go_simp;refine BP.out.mono ?_;rintro e w4 ⟨v4,rfl,hr4,hg4,hv4⟩;have lW:w3.grownBy w4 (fD n).ownBlock:=by rw[cu.out];exact⟨hg4.os,hg4.tape,hg4.output,hg4.size,hg4.block⟩
     obtain⟨q1,q2⟩:=HI3.out.xF hn (w2:=w4) lW;rw[cu.out]at q1;have BQ:=hDq lW;obtain⟨a4,n4,c4,tL⟩:=BN hr4;have HST:=hDq (HI3.out.set hn (w2:=w4) lW (v':=v4) hr4 (by rw[List.length_drop,HM.out];omega) (fun j hj=>.inl (by rw[cu.out,<- hv4];exact hj)));have nZ:Hid (v4.ownBlock=(fD n).ownBlock):=by show _=_;rw[cu.out];exact hv4
     refine⟨_,rfl,aV.out _ q1,hK _ _ ?_⟩;clear hK K hr4 hg4 lW hv4;rw[tL]at HST nZ;subst tL;refine cH rfl rfl (fun K hK=>?_);refine⟨by rfl,?_⟩;unfold aI;go_simp;refine hK _ ?_;clear hK K;refine yG rfl (fun K hK=>?_);refine⟨by rfl,?_⟩;unfold aR;go_simp;refine hK _ _ ?_;clear hK K;go_wp2;refine⟨⟨k+1,_,by omega,by go_num,?_,by rw[HN.out.1];exact HST.out.1,dy.out.trans HST.out.2,?_⟩,by simp[intOf];omega⟩
     ·rw[HN.out.2,<- fR.out]
      refine fJ (fJ HR3.out (aF.jV BQ.out) ?_) (aF.setCell w4 p n _) ?_
      ·intro j hj e
       have h1:=(HR3.out.lt j hj).1;have h2:=(hi.out.iR (HO.out j (.inr ⟨n,hn,e.symm⟩))).2;omega
      ·intro j hj e
       have h1:=(HR3.out.lt j hj).1;have h2:=(hi.out.iR (.inl e)).2;omega
     ·rintro j (rfl | ⟨cc,hcc,hj⟩)
      ·exact .inl rfl
      ·by_cases tM:cc=n
       ·subst tM
        rw[aD.upd_same,nZ.out]at hj;exact HO.out j (.inr ⟨cc,hcc,hj⟩)
       ·rw[aD.pD _ _ tM]at hj
        exact HO.out j (.inr ⟨cc,hcc,hj⟩)
  ·have aK:¬ (k:Int)<6:=by omega
   obtain rfl:k=6:=by omega
   have Gv:=hDq (UU t 1 wr ht (by omega));have hfr:=HI.out.free 6;have Bq:=hDq (HI.out.next (aD.wa t 1));obtain⟨a0,n0,c0,wb⟩:=BN HD.out;have HD2:=HD;rw[wb]at HD2
   go_wp2_with fail
   refine Gv.out.mono ?_;rintro e w2 ⟨rfl,rfl⟩;simp only[];go_wp2;go_ret;refine⟨_,fD,rfl,?_,Bq.out.1,HS.out.trans Bq.out.2,HO.out⟩;refine fJ HD2.out (aF.setCell _ p 6 _) ?_;intro j hj e;have h1:=(HD2.out.lt j hj).1;have h2:=(hi.out.iR (.inl e)).2;omega
end
theorem Hs {b0:Nat} (W:World) (v:Value) (l:List Ask) (x:Ask) (hr:W.ownsRow b0 95 8 v l.length (aL l)) (hl:l.length<=100000) (hb:b0<=W.heap.size) :
  ∃ v' W',(Builtin.append_ #[24,24] 24 #[v,.slice (some ⟨W.heap.size,0,none⟩) 1 1]).run Tryz.prog (W.alloc (.cells (bw x) 95))=.ok v' W'∧W'.ownsRow b0 95 8 v' (l++[x]).length (aL (l++[x]))∧(W.alloc (.cells (bw x) 95)).grownBy W' v.ownBlock:=by
 obtain⟨i0,z0,hi,hz0,hz1,hz2,hz3⟩:=MK;obtain⟨v4,w4,hap,hrow,hg,_,_⟩:=run_append_own_at (P:=Tryz.prog) (w:=W.alloc (.cells (bw x) 95)) b0 24 24 95 i0 z0 8 64 Tryz.underlying24 hi hz0 hz1 hz2 hz3 (by decide) v l.length (aL l) (World.ownsRow.alloc hr _) ⟨W.heap.size,0,none⟩ 1 1 (lV x) rfl
  (fun j u hj=>afK W x 95 _ rfl j u hj) (fun u hu=>Gu [x] u (by simpa [aL] using hu)) (by unfold maxLen;omega) (by omega) (by simp;omega)
 refine⟨v4,w4,hap,?_,hg⟩;rw[vZ,lAq];simpa [aL] using hrow
end Go.Proofs.YtjolccidheflpaaGreatDoor
