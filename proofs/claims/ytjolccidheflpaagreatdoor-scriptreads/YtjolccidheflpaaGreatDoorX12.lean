/- How a disk is written, and a record appended to it: which blocks turn. -/
import Derived.Test.YtjolccidheflpaaGreatDoorX10
import Derived.Test.YtjolccidheflpaaGreatDoorX11
namespace Go.Proofs.YtjolccidheflpaaGreatDoor
open Go.Proofs.Tryz
set_option maxHeartbeats 8000000
set_option maxRecDepth 100000
open Go.RowKit
structure eD (W:World) (base p:Nat) (v:Value) (l:List UInt8) (cut:Bool) (left:Int):Prop where
 cell:W.heap[p]?=some (.cells #[v,.bool cut,.int .i64 left] 117 (0,0))
 row:eA W base v (ints l)
 lo:base<=p
structure rA (w w':World) (p:Nat) (v v':Value):Prop where
 turned:aL w w' (fun k=>k=p\/v.ownBlock=some k)
 new:∀k,v'.ownBlock=some k->v.ownBlock=some k\/w.heap.size<=k
theorem eD.grown{w w':World}{base p:Nat}{l ys:List UInt8}{v v':Value}{cut:Bool}{left:Int}(hd:eD w base p v l cut left)(dZ:eA w' base v' (ints l++ints ys))(hg:w.grownBy w' v.ownBlock):eD (w'.setCell ⟨p,0,none⟩ v') base p v' (l++ys) cut left/\aL w (w'.setCell ⟨p,0,none⟩ v') (fun k=>k=p\/v.ownBlock=some k):=by
 have hp':w'.heap[p]?=some (.cells #[v,.bool cut,.int .i64 left] 117 (0,0)):=by rw[hg.block p (Array.getElem?_eq_some_iff.1 hd.cell).1 (hd.row.other hd.cell)];exact hd.cell
 refine⟨⟨?_,?_,hd.lo⟩,?_⟩
 .rw[heap_setCell_same w' p 0 _ 117 v' hp'];rfl
 .rw[PY];exact dZ.setCell hp' _
 .exact((aL.j9 hg).mono (fun k hk=>.inr hk.symm)).trans (aL.setCell w' p 0 v') (fun k hk=>.inl (.inl hk))
theorem QH{w:World}{ops:Array Oper}{o:Oper}{a:Act}{K:Act->World->Prop}{Q:Exit->Act->World->Prop}{Eqq:Prop}(hgd:o.guard=none)(s x:Operand)(ho:o.op=.call { callee:=.builtin .append,args:=#[s,x],argTypes:=#[115,115] })(base:Nat)(v:Value)(xs:List Int)(hs:a.eval s=v)(hown:eA w base v xs)(ad:Addr)(m c:Nat)(ys:List Int)(hx:a.eval x=.slice (some ad) m c)(hl:ys.length=m)(hnews:∀j u,(ys.map (Value.int .u8))[j]?=some u->w.cell? (ad.add j)=some u)(hsz:xs.length+m<=10000000)(hbase:base<=w.heap.size)(h:∀g' cap' w',eA w' base (.slice (some ⟨g',0,none⟩) (xs.length+m) cap') (xs++ys)->w.grownBy w' v.ownBlock->(∀k,(Value.slice (some ⟨g',0,none⟩) (xs.length+m) cap').ownBlock=some k->v.ownBlock=some k\/w.heap.size<=k)->K (a.put o.dst (.slice (some ⟨g',0,none⟩) (xs.length+m) cap')) w'):
  if Region.wanted o (yielded ops a.tmps)=true then Oper.wp prog o a w K Q else Eqq:=by
 have hw:Region.wanted o (yielded ops a.tmps)=true:=by simp[Region.wanted,hgd]
 rw[if_pos hw];obtain⟨v',w',hr,h2,h3,h4⟩:=aiZ w base o.type v xs hown ad m c ys hl hnews hsz hbase;unfold Oper.wp execOp;simp only[ho,resolve,invoke,builtin,Sem.run_bind,Sem.run_pure,Result.andThen_ok,List.map_toArray,List.map_cons,List.map_nil,hs,hx,hr];obtain⟨g',cap',hv,_⟩:=h2.form;rw[lAq,hl]at hv;subst hv;exact h g' cap' w' h2 h3 h4
theorem QI{w:World}{base g len cap:Nat}{xs:List Int}(h:Row w base (.slice (some ⟨g,0,none⟩) len cap) xs):∀j u,(xs.map (Value.int .u8))[j]?=some u->w.cell? ((⟨g,0,none⟩:Addr).add j)=some u :=
 fun j u hj=>World.ownsRow.cells h (g:=g) rfl j u hj
theorem QJ{w w':World}{row:Option Nat}{p j:Nat}(hg:w.grownBy w' row)(hp:p<w.heap.size)(hne:some p≠row)(h:w.frozen? ⟨p,j,none⟩=false):w'.frozen? ⟨p,j,none⟩=false :=
 (World.frozen?_of_block (hg.block p hp hne)).trans h
theorem aql(base b2 p g cap:Nat)(v:Value)(l ys:List UInt8)(w:World)(left:Int)(hd:eD w base p v l false left)(hrow:Row w b2 (.slice (some ⟨g,0,none⟩) ys.length cap) (ints ys))(hsz:l.length+ys.length<=10000000)(kT:base<=w.heap.size):
  Calls prog 135 #[.pointer (some ⟨p,0,none⟩),.slice (some ⟨g,0,none⟩) ys.length cap] w fun e w'=>e=.returned (.bool true)/\∃v',eD w' base p v' (l++ys) false left/\rA w w' p v v':=by
 obtain⟨hp,hr,hb⟩:=hd;obtain⟨c0,c1,c2,fz,hpl⟩:=sJ hp;have Hp:=Y hp;have HR:=Y hr;have fT:=Y hrow;have hcap:ys.length<=cap:=by
  rcases hrow.2 with ⟨h,_⟩ | ⟨g',cap',cur,h,_,_,hc,_⟩
  .cases h
  .simp only[Value.slice.injEq,Option.some.injEq,Addr.mk.injEq,and_true]at h
   rw[jH]at hc;omega
 clear hp hr hrow;go_enter func135,ntmps135;go_wp2;have hne:=HR.other Hp
 go_region_law ((refine QH rfl _ _ rfl base v (ints l) rfl HR ⟨g,0,none⟩ ys.length cap (ints ys) rfl (jH ys) (QI fT) (by rw[jH];exact hsz) kT ?_;intro g1 uh w1 w_ hgrow hnew;obtain⟨k1,k2⟩:w1.cell? ⟨p,0,none⟩=some v/\w1.frozen? ⟨p,0,none⟩=false:=⟨hgrow.cell c0 hne,QJ hgrow hpl hne (fz 0)⟩))
 have HG:=Y hgrow;have HR1:=Y w_;have HN:=Y hnew;clear hgrow w_ hnew k1 k2;go_wp2;go_ret;obtain⟨D1,D2⟩:=eD.grown (w:=w.drew) ⟨Hp,HR,hb⟩ HR1 HG;exact⟨rfl,_,D1,⟨⟨D2.os,D2.tape,D2.output,D2.size,D2.block⟩,HN⟩⟩
theorem aqm{ys:List UInt8}{n j:Nat}{u:Value}(h:((ints (ys.take n)).map (Value.int .u8))[j]?=some u):((ints ys).map (Value.int .u8))[j]?=some u:=by
 rw[aai,List.map_take,List.getElem?_take]at h;split at h
 .exact h
 .cases h
theorem abz{w:World}{base p j:Nat}{v:Value}{xs:List Int}{cs:Array Value}{f:Nat×Nat}(h:Row w base v xs)(hp:w.heap[p]?=some (.cells cs 117 f))(u:Value):Row (w.setCell ⟨p,j,none⟩ u) base v xs:=by
 refine⟨h.1,?_⟩;rcases h.2 with hn | ⟨g,cap,cur,rfl,hb',hg,rest⟩
 .exact .inl hn
 .refine .inr ⟨g,cap,cur,rfl,hb',?_,rest⟩
  rw[heap_setCell_other _ _ g _ ?_]
  .exact hg
  .intro hk
   have hk:g=p:=hk;rw[hk,hp]at hg;simp at hg
theorem aqn(base b2 p g cap:Nat)(v:Value)(l ys:List UInt8)(w:World)(left:Nat)(hd:eD w base p v l true left)(hrow:Row w b2 (.slice (some ⟨g,0,none⟩) ys.length cap) (ints ys))(hsz:l.length+ys.length<=10000000)(kT:base<=w.heap.size)(hleft:left<=9223372036854775807):
  Calls prog 135 #[.pointer (some ⟨p,0,none⟩),.slice (some ⟨g,0,none⟩) ys.length cap] w fun e w'=>e=.returned (.bool (decide (ys.length<=left)))/\∃v',eD w' base p v' (l++ys.take left) true (left-ys.length:Nat)/\rA w w' p v v':=by
 obtain⟨hp,hr,hb⟩:=hd;obtain⟨c0,c1,c2,fz,hpl⟩:=sJ hp;have Hp:=Y hp;have HR:=Y hr;have fT:=Y hrow;have hcap:ys.length<=cap:=by
  rcases hrow.2 with ⟨h,_⟩ | ⟨g',cap',cur,h,_,_,hc,_⟩
  .cases h
  .simp only[Value.slice.injEq,Option.some.injEq,Addr.mk.injEq,and_true]at h
   rw[jH]at hc;omega
 have hne:=HR.other Hp;clear hp hr hrow;by_cases hle:ys.length<=left
 .go_enter func135,ntmps135
  go_wp2;have EV:Hid ((w.setCell ⟨p,2,none⟩ (.int .i64 ((left:Int)-ys.length))).heap[p]?=some (.cells #[v,.bool true,.int .i64 ((left:Int)-ys.length)] 117 (0,0))):=heap_setCell_same w p 2 _ 117 _ Hp;have gi:Hid (eA (w.setCell ⟨p,2,none⟩ (.int .i64 ((left:Int)-ys.length))) base v (ints l)):=HR.setCell Hp _;have kD:Hid (Row (w.setCell ⟨p,2,none⟩ (.int .i64 ((left:Int)-ys.length))) b2 (.slice (some ⟨g,0,none⟩) ys.length cap) (ints ys)):=abz fT Hp _;have cG:Hid (aL w (w.setCell ⟨p,2,none⟩ (.int .i64 ((left:Int)-ys.length))) (fun k=>k=p)):=aL.setCell w p 2 _;generalize w.setCell ⟨p,2,none⟩ (.int .i64 ((left:Int)-ys.length))=w0 at *;obtain⟨c0,c1,c2,fz,hpl⟩:=sJ EV;have QK:base<=w0.heap.size:=lTq kT cG.size
  go_region_law ((refine QH rfl _ _ rfl base v (ints l) rfl gi ⟨g,0,none⟩ ys.length cap (ints ys) rfl (jH ys) (QI kD) (by rw[jH];omega) QK ?_;intro g1 uh w1 w_ hgrow hnew;obtain⟨k1,k2⟩:w1.cell? ⟨p,0,none⟩=some v/\w1.frozen? ⟨p,0,none⟩=false:=⟨hgrow.cell c0 hne,QJ hgrow hpl hne (fz 0)⟩))
  have HG:=Y hgrow;have HR1:=Y w_;have HN:=Y hnew;clear hgrow w_ hnew k1 k2;go_wp2;go_ret;obtain⟨D1,D2⟩:=eD.grown (w:=w0.drew) ⟨EV,gi,hb⟩ HR1 HG;have QL:aL w0 _ (fun k=>k=p\/v.ownBlock=some k):=⟨D2.os,D2.tape,D2.output,D2.size,D2.block⟩;have QM:rA w _ p v _:=⟨(cG.mono (fun k hk=>.inl hk)).trans QL (fun k hk=>.inl hk),fun k hk=>(HN k hk).imp id (fun h=>lTq cG.size h)⟩;have e:((left:Int)-ys.length)=((left-ys.length:Nat):Int):=by omega
  rw[e]at D1;refine⟨by simp[hle],_,?_,QM⟩;rw[List.take_of_length_le hle];exact D1
 .go_enter func135,ntmps135
  go_wp2;have EV:Hid ((w.setCell ⟨p,2,none⟩ (.int .i64 0)).heap[p]?=some (.cells #[v,.bool true,.int .i64 0] 117 (0,0))):=heap_setCell_same w p 2 _ 117 _ Hp;have gi:Hid (eA (w.setCell ⟨p,2,none⟩ (.int .i64 0)) base v (ints l)):=HR.setCell Hp _;have kD:Hid (Row (w.setCell ⟨p,2,none⟩ (.int .i64 0)) b2 (.slice (some ⟨g,0,none⟩) ys.length cap) (ints ys)):=abz fT Hp _;have cG:Hid (aL w (w.setCell ⟨p,2,none⟩ (.int .i64 0)) (fun k=>k=p)):=aL.setCell w p 2 _;generalize w.setCell ⟨p,2,none⟩ (.int .i64 0)=w0 at *;obtain⟨c0,c1,c2,fz,hpl⟩:=sJ EV;have hlc:left<=cap:=by omega
  have QK:base<=w0.heap.size:=lTq kT cG.size
  go_region_law ((refine QH rfl _ _ rfl base v (ints l) rfl gi ⟨g,0,none⟩ left cap (ints (ys.take left)) rfl (by rw[jH,lKq];omega) (fun j u hj=>QI kD j u (aqm hj)) (by rw[jH];omega) QK ?_;intro g1 uh w1 w_ hgrow hnew;obtain⟨k1,k2⟩:w1.cell? ⟨p,0,none⟩=some v/\w1.frozen? ⟨p,0,none⟩=false:=⟨hgrow.cell c0 hne,QJ hgrow hpl hne (fz 0)⟩))
  have HG:=Y hgrow;have HR1:=Y w_;have HN:=Y hnew;clear hgrow w_ hnew k1 k2;go_wp2;go_ret;obtain⟨D1,D2⟩:=eD.grown (w:=w0.drew) ⟨EV,gi,hb⟩ HR1 HG;have QL:aL w0 _ (fun k=>k=p\/v.ownBlock=some k):=⟨D2.os,D2.tape,D2.output,D2.size,D2.block⟩;have QM:rA w _ p v _:=⟨(cG.mono (fun k hk=>.inl hk)).trans QL (fun k hk=>.inl hk),fun k hk=>(HN k hk).imp id (fun h=>lTq cG.size h)⟩;have e:(0:Int)=((left-ys.length:Nat):Int):=by omega
  rw[e]at D1;exact⟨jg (by rw[decide_eq_false hle,beq_eq_false_iff_ne];omega),_,D1,QM⟩
theorem Row.form{w:World}{base:Nat}{v:Value}{xs:List Int}(h:Row w base v xs)(hn:xs≠[]):∃g cap,v=.slice (some ⟨g,0,none⟩) xs.length cap:=by
 rcases h.2 with ⟨_,h0⟩ | ⟨g,cap,cur,hv,_⟩
 .exact absurd (List.eq_nil_of_length_eq_zero h0) hn
 .exact⟨g,cap,hv⟩
theorem Row.mono{w:World}{base base':Nat}{v:Value}{xs:List Int}(h:Row w base v xs)(hb:base'<=base):Row w base' v xs:=by
 refine⟨h.1,?_⟩;rcases h.2 with hn | ⟨g,cap,cur,rfl,hb',rest⟩
 .exact .inl hn
 .exact .inr ⟨g,cap,cur,rfl,by omega,rest⟩
theorem aqo(s:List UInt8):ints (bL.rec s)≠[]:=by
 intro h
 have:=congrArg List.length h
 rw[jH,bL.wW]at this;simp at this
theorem rA.below{w w':World}{base p:Nat}{v v':Value}{l:List UInt8}{cut:Bool}{left:Int}(h:rA w w' p v v')(hd:eD w base p v l cut left):Below base w w' :=
 h.turned.below (lTq hd.lo (Nat.le_of_lt (lBq hd.cell))) (fun _ hk=>by
  rcases hk with rfl | hk
  .exact hd.lo
  .exact(hd.row.lt _ hk).1)
theorem eD.later{w w':World}{base p:Nat}{v:Value}{l:List UInt8}{cut:Bool}{left:Int}(h:eD w base p v l cut left)(hb:Below w.heap.size w w'):eD w' base p v l cut left :=
 ⟨by rw[hb.block p (lBq h.cell)];exact h.cell,h.row.block fun k hk=>hb.block k (h.row.lt k hk).2,h.lo⟩
theorem rA.under{w w1 w':World}{p:Nat}{v v':Value}(hb:Below w.heap.size w w1)(h:rA w1 w' p v v'):rA w w' p v v' :=
 ⟨(aL.of_below hb _).trans h.turned (fun _ hk=>.inl hk),fun k hk=>(h.new k hk).imp id (fun h2=>lTq hb.size h2)⟩
theorem aqp(base p:Nat)(v:Value)(l:List UInt8)(s:ByteArray)(cut:Bool)(left:Int)(w:World)(b:Bool)(R:World->Prop)(T:TypeId)(x:Value)(hd:Hid (eD w base p v l cut left))(hs:s.size<=10000)(hsz:l.length+(12+s.size)<=1048576)(h8:w.cell? ⟨2,0,none⟩=some (.iface T x))(rV:2<base)(kT:base<=w.heap.size)(hwr:Hid (∀g cap (aD:World),eD aD base p v l cut left->Row aD w.heap.size (.slice (some ⟨g,0,none⟩) (12+s.size) cap) (ints (bL.rec s.data.toList))->base<=aD.heap.size->Below w.heap.size w aD ->
   Calls prog 135 #[.pointer (some ⟨p,0,none⟩),.slice (some ⟨g,0,none⟩) (12+s.size) cap] aD fun e w'=>e=.returned (.bool b)/\R w'/\Below base w w')):
  Calls prog 78 #[.pointer (some ⟨p,0,none⟩),.string s] w fun e w'=>e=.returned (if b then .nilIface else .iface T x)/\R w':=by
 obtain⟨hp,hr,hb⟩:=id hd;obtain⟨g0,O5,hv,_⟩:=hr.form;rw[jH]at hv;subst hv;obtain⟨c0,c1,c2,fz,hpl⟩:=sJ hp;clear hp hr;have hs':¬ (10000:Int)<s.size:=by omega
 go_enter func78,ntmps78
 go_wp2_with fail
 go_quiet ((go_at_call 102;refine Calls.quiet_of_same (I1 _ _ ?_);omega))
 have hfull:¬ (1048576:Int)<(l.length:Int)+((12+s.size:Nat):Int):=by omega
 have cG:Hid (Below w.heap.size w (w.drewN nq)):=below_drewN nq
 go_wp2_with fail
 refine(aoe s _ hs).mono ?_;rintro e w1 ⟨v1,rfl,hr1,hb1⟩;obtain⟨g1,uh,hv1⟩:=hr1.form (aqo _);rw[jH,bL.wW,rh]at hv1;subst hv1;have HB1:Hid (Below w.heap.size w w1):=ar cG hb1;have HR1:=Y (hr1.mono cG.size);clear hr1 hb1;have aqr:w1.cell? ⟨2,0,none⟩=some (.iface T x):=cell_later HB1 h8
 go_wp2_with fail
 refine(hwr g1 uh w1 (hd.later HB1) HR1 (lTq kT HB1.size) HB1).mono ?_;rintro e w2 ⟨rfl,hR,hb2⟩;have HR:=Y hR;clear hR;have auB:=(hb2.cell (p:=⟨2,0,none⟩) rV).trans h8;clear hb2;cases b
 .go_wp2
  go_ret;exact⟨rfl,HR⟩
 .go_wp2
  go_ret;exact⟨rfl,HR⟩
theorem aqs(base p:Nat)(v:Value)(l:List UInt8)(s:ByteArray)(cut:Bool)(left:Int)(w:World)(u:Value)(hd:Hid (eD w base p v l cut left))(hs:s.size<=10000)(hl:l.length<=1048576)(hsz:1048576<l.length+(12+s.size))(h8:w.cell? ⟨8,0,none⟩=some u):
  Calls prog 78 #[.pointer (some ⟨p,0,none⟩),.string s] w fun e w'=>e=.returned u/\Below w.heap.size w w':=by
 obtain⟨hp,hr,hb⟩:=id hd;obtain⟨g0,O5,hv,_⟩:=hr.form;rw[jH]at hv;subst hv;obtain⟨c0,c1,c2,fz,hpl⟩:=sJ hp;clear hp hr;have hs':¬ (10000:Int)<s.size:=by omega
 go_enter func78,ntmps78
 go_wp2_with fail
 go_quiet ((go_at_call 102;refine Calls.quiet_of_same (I1 _ _ ?_);omega))
 have hfull:(1048576:Int)<(l.length:Int)+((12+s.size:Nat):Int):=by omega
 have cG:Hid (Below w.heap.size w (w.drewN nq)):=below_drewN nq;have aqr:(w.drewN nq).cell? ⟨8,0,none⟩=some u:=h8;go_wp2;go_ret;exact⟨rfl,cG⟩
def QN(l:List UInt8)(cut:Bool)(left:Nat)(s:ByteArray):List UInt8:=l++(if cut=true then (bL.rec s.data.toList).take left else bL.rec s.data.toList)
def QO(cut:Bool)(left:Nat)(s:ByteArray):Nat:=if cut=true then left-(12+s.size) else left
def Jp(cut:Bool)(left:Nat)(s:ByteArray):Bool:=!cut || decide (12+s.size<=left)
theorem aqt(base p:Nat)(v:Value)(l:List UInt8)(s:ByteArray)(cut:Bool)(left:Nat)(w:World)(T:TypeId)(x:Value)(hd:eD w base p v l cut left)(hs:s.size<=10000)(hsz:l.length+(12+s.size)<=1048576)(hleft:left<=9223372036854775807)(h8:w.cell? ⟨2,0,none⟩=some (.iface T x))(rV:2<base)(kT:base<=w.heap.size):
  Calls prog 78 #[.pointer (some ⟨p,0,none⟩),.string s] w fun e w'=>e=.returned (if Jp cut left s=true then .nilIface else .iface T x)/\∃v',eD w' base p v' (QN l cut left s) cut (QO cut left s)/\rA w w' p v v':=by
 have hlen:(bL.rec s.data.toList).length=12+s.size:=by rw[bL.wW,rh]
 refine aqp base p v l s cut left w (Jp cut left s) (fun w'=>∃v',eD w' base p v' (QN l cut left s) cut (QO cut left s)/\rA w w' p v v') T x hd hs hsz h8 rV kT (fun g cap aD abA QP sP abB=>?_);rw[<- hlen]at QP ⊢;cases cut with
 | false =>
  refine(aql base w.heap.size p g cap v l _ aD left abA QP (by omega) sP).mono ?_;rintro e w' ⟨rfl,v',h1,h2⟩;have h3:=h2.under abB;exact⟨rfl,⟨v',h1,h3⟩,h3.below hd⟩
 | true =>
  refine(aqn base w.heap.size p g cap v l _ aD left abA QP (by omega) sP hleft).mono ?_;rintro e w' ⟨rfl,v',h1,h2⟩;have h3:=h2.under abB;rw[hlen]at h1;exact⟨by rw[hlen];rfl,⟨v',h1,h3⟩,h3.below hd⟩
def sU:List Value:=eK Cv.z
theorem adE(w:World)(ty:TypeId)(b o c:Nat)(hc:∀j,j<5->(w.cell? ⟨b,o+j,none⟩).isSome=true)(hf:∀j,j<5->w.frozen? ⟨b,o+j,none⟩=false):
  (Builtin.clear_ #[195] ty #[.slice (some (O b o)) 1 c]).run prog w=.ok (.tuple #[]) (w.setCells b o sU):=by
 have JJ:(Builtin.zeroCells (Value.agg #[Z 0,Z 0,Z 0,Z 0,Z 0]).cells 1).toList=sU:=by kernel_rfl
 have hst:=run_storeCells_cells (P:=prog) b o sU 0 w (fun j hj=>by simpa using hc j hj) (fun j hj=>by simpa using hf j hj) (by
  intro v hv;simp only[sU,eK,List.mem_cons,List.not_mem_nil,or_false]at hv;rcases hv with rfl | rfl | rfl | rfl | rfl <;> rfl)
 simp only[Nat.add_zero]at hst;simp[Builtin.clear_,run_underlying underlying195,JJ,hst]
theorem Br(a b:List Cv.af):flat (a++b)=flat a++flat b:=by simp[flat]
theorem RJ(l:List Cv.af)(k:Nat)(h:k<=l.length):(flat l).take (k*5)=flat (l.take k):=by
 have e:flat l=flat (l.take k)++flat (l.drop k):=by rw[<- Br,List.take_append_drop]
 have hl:(flat (l.take k)).length=k*5:=by rw[qi,lKq];congr 1;omega
 rw[e,<- hl,List.take_left]
theorem RL(l:List Cv.af)(k:Nat)(h:k<=l.length):(flat l).drop (k*5)=flat (l.drop k):=by
 have e:flat l=flat (l.take k)++flat (l.drop k):=by rw[<- Br,List.take_append_drop]
 have hl:(flat (l.take k)).length=k*5:=by rw[qi,lKq];congr 1;omega
 rw[e,<- hl,List.drop_left]
theorem Bu{w:World}{base:Nat}{e:TypeId}{s g n cap:Nat}{xs:List Value}(h:w.ownsRow base e s (.slice (some (O g 0)) n cap) n xs)(j:Nat)(hj:j<n*s):(w.cell? (O g j)).isSome=true/\w.frozen? (O g j)=false/\w.cell? (O g j)=xs[j]?:=by
 rcases h.2 with ⟨e1,_⟩ | ⟨g',cap',cur,e1,hg,er,h1,h2,h3,h4⟩
 .cases e1
 .obtain⟨rfl,rfl⟩:g=g'/\cap=cap':=by simpa using e1
  have hle:n*s<=cur.size:=by rw[h3];exact Nat.mul_le_mul_right _ h1
  have e2:w.cell? (O g j)=xs[j]?:=by rw[cR w g j cur e (0,0) er,<- h4,List.getElem?_take_of_lt hj];simp
  have e3:(w.cell? (O g j)).isSome=true:=by rw[cR w g j cur e (0,0) er];simp;omega
  exact⟨e3,by simp[World.frozen?,er],e2⟩
theorem adF(g cap n i j base:Nat)(l:List Cv.af)(w:World)(hn:Hid (l.length=n))(hrow:w.ownsRow base 197 5 (.slice (some (O g 0)) n cap) n (flat l))(hj:Hid (j=i+1))(hjn:j<=n)(hij:i<j)(hcap:n<=cap):
  Calls prog 298 #[.slice (some (O g 0)) n cap,Z i,Z j] w fun e w'=>e=.returned (.slice (some (O g 0)) (n-1) cap)/\w'.ownsRow base 197 5 (.slice (some (O g 0)) (n-1) cap) (n-1) (flat (Bk.del l i))/\w.grownBy w' (some g):=by
 obtain⟨i0,z0,hi,hz0,hz1,hz2,hz3⟩:=Fh;have hne:¬ ((i:Int)=j):=by omega
 obtain⟨news,hnews⟩:∃news,news=flat (l.drop j):=⟨_,rfl⟩;have hlen:news.length=(n-j)*5:=by rw[hnews,qi,List.length_drop,hn.out]
 have Bz:∀t u,news[t]?=some u->w.cell? ⟨g,j*5+t,none⟩=some u:=by
  intro t u hu;have ht:t<(n-j)*5:=by
   have:=(List.getElem?_eq_some_iff.1 hu).1
   rwa [hlen]at this
  rw[(Bu hrow (j*5+t) (by omega)).2.2];rw[hnews,<- RL l j (by rw[hn.out];exact hjn),List.getElem?_drop]at hu;exact hu
 obtain⟨A,hA,hsrc⟩:∃A:Addr,(if cap=j then some (⟨g,0,none⟩:Addr) else some ⟨g,j*5,none⟩)=some A/\Hid (∀t u,news[t]?=some u->w.drew.cell? (A.add t)=some u):=by
  by_cases h:cap=j
  .refine⟨(O g 0),by simp[h],fun t u hu=>?_⟩
   have h0:news.length=0:=by rw[hlen];omega
   rw[List.length_eq_zero_iff.1 h0]at hu;simp at hu
  .refine⟨⟨g,j*5,none⟩,by simp[h],fun t u hu=>?_⟩
   rw[Addr.add_lit];exact Bz t u hu
 have s1:Hid (news.length=(n-j)*5):=hlen;have s2:Hid (∀u∈news,u.oneCell'=true):=by intro u hu;rw[hnews]at hu;exact RV _ u hu
 have s3:Hid (∀t,t<news.length->(w.drew.cell? ⟨g,0+i*5+t,none⟩).isSome=true/\w.drew.frozen? ⟨g,0+i*5+t,none⟩=false):=by intro t ht;rw[hlen]at ht;have h:=Bu hrow (0+i*5+t) (by omega);exact⟨h.1,h.2.1⟩
 have BA:w.drew.ownsRow base 197 5 (.slice (some (O g 0)) n cap) n (flat l):=hrow;obtain⟨W1,hW1⟩:∃W1,W1=w.drew.setCells g (0+i*5) news:=⟨_,rfl⟩;have hfl:(flat l).length=n*5:=by rw[qi,hn.out]
 -- the row behind the append: as long as it was
 obtain⟨ys,sV⟩:∃ys,ys=(flat l).take (0+i*5)++news++(flat l).drop (0+i*5+news.length):=⟨_,rfl⟩;have xq:ys.length=n*5:=by rw[sV];simp only[List.length_append,List.length_take,List.length_drop,hlen,hfl];omega
 have hr1:W1.ownsRow base 197 5 (.slice (some (O g 0)) n cap) n ys:=by rw[hW1];exact JF BA _ news n hcap (by rw[hlen];omega) ys xq (E _) (by rw[<- sV];exact List.take_of_length_le (by omega))
 have hcl:∀ty,(Builtin.clear_ #[195] ty #[.slice (some ⟨g,(i+(n-j))*5,none⟩) (n-(i+(n-j))) (cap-(i+(n-j)))]).run prog W1=.ok (.tuple #[]) (W1.setCells g ((i+(n-j))*5) sU):=by intro ty;rw[show n-(i+(n-j))=1 by have:=hj.out;omega];exact adE W1 ty g _ _ (fun t ht=>(Bu hr1 _ (by have:=hj.out;omega)).1) (fun t ht=>(Bu hr1 _ (by have:=hj.out;omega)).2.1)
 have HR:Hid ((W1.setCells g ((i+(n-j))*5) sU).ownsRow base 197 5 (.slice (some (O g 0)) (n-1) cap) (n-1) (flat (Bk.del l i))):=by
  have hd:(Bk.del l i).length=n-1:=by rw[Bk.JK (by rw[hn.out];omega),hn.out]
  refine JF hr1 _ sU (n-1) (by omega) (by show _+5<=_;have:=hj.out;omega) _ (by rw[qi,hd]) (by omega) ?_;have e1:(i+(n-j))*5=(n-1)*5:=by have:=hj.out;congr 1;omega
  rw[e1,aAq,List.take_append_of_le_length (by rw[lKq,xq];omega),List.take_take,Nat.min_self,sV];rw[List.take_append_of_le_length (by simp only[List.length_append,List.length_take,hlen,hfl];have:=hj.out;omega),List.take_of_length_le (by simp only[List.length_append,List.length_take,hlen,hfl];have:=hj.out;omega)];rw[hnews,Nat.zero_add,RJ l i (by rw[hn.out];omega),<- Br,hj.out];rfl
 have HG:Hid (w.grownBy (W1.setCells g ((i+(n-j))*5) sU) (some g)):=by have o1:=Only.setCells w.drew g news (0+i*5) none;rw[<- hW1]at o1;have o2:=o1.trans (Only.setCells W1 g sU ((i+(n-j))*5) none) (fun k h=>.inl h);exact⟨o2.os,o2.tape,o2.output,o2.size,fun k hk h=>o2.block k hk (by simp) h⟩
 have hW:Hid (W1=w.drew.setCells g (0+i*5) news):=hW1;have HI:=Y hi;have au:=Y hz1;have JL:i<=cap:=by omega
 have adG:j<=cap:=by omega
 clear hW1 hr1 sV xq hfl BA Bz hnews hlen hrow hi hz0 hz1 hz2 hz3;go_enter func298,ntmps298
 go_wp2_with fail
 go_region_law (refine step_append_room rfl (.tmp 22) (.tmp 25) 195 rfl 197 i0 5 underlying195 HI au g 0 i cap (by simp[Act.eval,Act.put]) A (n-j) (cap-j) news (by simp[Act.eval,Act.put]) s1 hsrc s2 (by omega) s3 ?_;rw[<- hW.out])
 go_wp2;go_ret;exact⟨by rw[show n-1=i+(n-j) by have:=hj.out;omega];rfl,HR,HG⟩
theorem dG.set{w w2:World}{base p:Nat}{v v':Value}{l l':List Cv.af}(h:dG w base p v l)(hg:w.grownBy w2 v.ownBlock)(hr:w2.ownsRow base 197 5 v' l'.length (flat l'))(hn:∀k,v'.ownBlock=some k->v.ownBlock=some k\/w.heap.size<=k):
  dG (w2.setCell (O p 0) v') base p v' l'/\Step w (w2.setCell (O p 0) v') p v v':=by
 have hc:w2.heap[p]?=some (.cells #[v] 276 (0,0)):=by rw[hg.block p h.lt (fun e=>h.ne e.symm)];exact h.cell
 have h3:v'.ownBlock≠some p:=by
  intro e;rcases hr.2 with ⟨e1,_⟩ | ⟨r,cap,cur,e1,_,hr2,_⟩
  .rw[e1]at e;cases e
  .rw[e1]at e
   have:r=p:=by simpa [Value.ownBlock] using e
   rw[this,hc]at hr2;cases hr2
 refine⟨⟨one_setCell hc,h.lo,ownsRow_setCell_other hr h3 _⟩,⟨?_,hn⟩⟩;exact(Only.j9 hg (some p)).trans (Only.setCell w2 p 0 v' v.ownBlock) (fun k e=>.inl e)
theorem dG.xo{w w2:World}{base p:Nat}{v:Value}{l:List Cv.af}(h:dG w base p v l)(hg:w.grownBy w2 v.ownBlock):w2.cell? (O p 0)=some v/\w2.frozen? (O p 0)=false:=by
 have hc:w2.heap[p]?=some (.cells #[v] 276 (0,0)):=by rw[hg.block p h.lt (fun e=>h.ne e.symm)];exact h.cell
 exact⟨cell_of_one hc,free_of_one hc⟩
theorem RH(p base k:Nat)(v:Value)(l:List Cv.af)(w:World)(hb:Hid (dG w base p v l))(hk:k<l.length)(hn:Hid (l.length<=60)):
  Calls prog 278 #[Rw p,Z k] w fun e w'=>e=.returned (.tuple #[])/\∃v',dG w' base p v' (Bk.del l k)/\Step w w' p v v':=by
 have hcell:=cell_of_one hb.cell;rcases hb.form with ⟨_,hl⟩ | ⟨g,cap,rfl,hle,_,_⟩
 .rw[hl]at hk;exact absurd hk (Nat.not_lt_zero _)
 obtain⟨n,hnn⟩:=aG l.length;have BH:=Y hnn;have HD:=Y (adF g cap n k (k+1) base l w hnn (by rw[<- hnn];exact hb.row) rfl (by omega) (by omega) (by omega));have adR:Hid (n<=60):=by rw[<- hnn];exact hn
 rw[hnn]at hcell hk hle ⊢;clear hnn;have asJ:k<60:=by have:=adR.out;omega
 have ep:((k+1:Nat):Int)=(k:Int)+1:=by omega
 rw[ep]at HD;go_enter func278,ntmps278
 go_wp2_with fail
 refine HD.mono ?_;rintro e w2 ⟨rfl,hrow,hg⟩;obtain⟨k1,k2⟩:=hb.xo (w2:=w2) (by rw[BH.out];exact hg);have HR:=Y hrow;have HG:=Y hg;clear hrow hg hcell;rw[BH.out]at k1;simp only[];go_wp2;go_end0;have hd:(Bk.del l k).length=n-1:=by rw[Bk.JK (by rw[BH.out];exact hk),BH.out]
 have hb':=hb.out;rw[BH.out]at hb';exact⟨rfl,_,hb'.set HG (by rw[hd];exact HR) (fun k h=>.inl h)⟩
theorem adS(v:Value)(base n:Nat)(l:List Cv.af)(w:World)(hn:Hid (l.length=n))(hn':n<=1000)(hr:Hid (w.ownsRow base 197 5 v n (flat l))):
  Calls prog 171 #[v] w fun e w'=>∃v2,e=.returned v2/\w'.ownsRow w.heap.size 197 5 v2 n (flat l)/\U w w':=by
 have asK:∀(w:World) (a:Option Addr) (n c n' c':Nat),(binOp .eql 195 (.slice a n c) (.slice none n' c')).run prog w=.ok (.bool a.isNone) w:=fun w a n c n' c'=>Lib.run_eql_slice_nil w _ _ a n c n' c' underlying195;rcases hr.2 with ⟨rfl,h0⟩ | ⟨g,cap,cur,rfl,_⟩
 .have HE:Hid (flat l=[]/\n=0):=⟨by rw[show l=[] from List.eq_nil_of_length_eq_zero (by rw[hn.out];exact h0)];rfl,h0⟩
  clear h0;go_enter func171,ntmps171;go_wp2;go_ret;exact⟨_,rfl,by rw[HE.out.1,HE.out.2];exact World.ownsRow_nil _ _ _ _,bRq _ _⟩
 .obtain⟨i0,z0,hi,hz0,hz1,hz2,hz3⟩:=Fh
  have Hi:=Y hi;have fe:=Y hz0;have fg:=Y hz1;have fh:=Y hz2;have lM:=Y hz3;clear hi hz0 hz1 hz2 hz3;go_enter func171,ntmps171
  go_wp2_with (at_builtin;refine wpList_append_own _ rfl _ _ 195 rfl w.heap.size 197 i0 z0 5 40 underlying195 Hi fe fg fh lM (by decide) _ _ _ rfl (World.ownsRow_made w #[] 0 (E _) (Nat.zero_le _) (by simp)) (O g 0) n cap (flat l) rfl (by rw[qi,hn.out]) (fun j u hj=>cell_later aj (World.ownsRow.cells hr (g:=g) rfl j u hj)) (RV l) (by unfold maxLen;omega) (by omega) (by simp) ?_)
  intro v2 w1 hown hgrow hnil;have HO:Hid (w1.ownsRow w.heap.size 197 5 v2 n (flat l)):=by show World.ownsRow _ _ _ _ _ _ _;simpa using hown
  have HB:Hid (U w w1):=((bRq _ w).alloc (E _) _).grown hgrow (by simp) (by intro k hk;simp[Value.ownBlock]at hk;omega);clear hown hgrow hnil;go_wp2;go_ret;exact⟨v2,rfl,HO,HB⟩
theorem BI(p base:Nat)(v:Value)(l:List Cv.af)(w:World)(hb:Hid (dG w base p v l))(hn:Hid (l.length<=60)):
  Calls prog 109 #[Rw p] w fun e w'=>∃v2,e=.returned v2/\w'.ownsRow w.heap.size 197 5 v2 l.length (flat l)/\U w w':=by
 have hcell:=cell_of_one hb.cell;have HC:=Y (adS v base l.length l w rfl (by have:=hn.out;omega) hb.row);obtain⟨a,m,c,rfl⟩:∃a m c,v=.slice a m c:=by
  rcases hb.form with ⟨e,_⟩ | ⟨g,cap,e,_⟩
  .exact⟨_,_,_,e⟩
  .exact⟨_,_,_,e⟩
 go_enter func109,ntmps109
 go_wp2_with fail
 refine HC.mono ?_;rintro e w2 ⟨v2,rfl,hr2,hb2⟩;have HR:=Y hr2;have HB:=Y hb2;clear hr2 hb2 hcell;simp only[];go_wp2;go_ret;exact⟨v2,rfl,HR,HB⟩
def Bk.j_(l:List Cv.af)(id:Int):Cv.af:=if Cv.has l id=true then Cv.nth l (Bk.pos l id) else Cv.z
theorem Fi(p base:Nat)(v:Value)(id:Int)(l:List Cv.af)(w:World)(hb:Hid (dG w base p v l))(hn:Hid (l.length<=60)):
  Calls prog 192 #[Rw p,Z id] w fun e w'=>e=.returned (.tuple #[cm (Bk.j_ l id),.bool (Cv.has l id)])/\U w w':=by
 have HF:=Y (E_ p base v id l (w.alloc (.cells #[Z 0,Z 0,Z 0,Z 0,Z 0] 197)) (hb.later aj) hn);go_enter func192,ntmps192
 go_wp2_with fail
 refine HF.mono ?_;rintro e w2 ⟨rfl,hb2⟩;have iW:U w w2:=aj.trans (hb2.mono (by simp));have HB:=Y iW;have HP:Hid (∀j,j<5->w2.cell? (O w.heap.size j)=some (Z 0)/\w2.frozen? (O w.heap.size j)=false):=fun j hj=>by
  have e:=hb2.block w.heap.size (by simp);rw[hNq]at e;refine⟨?_,by simp[World.frozen?,e]⟩;simp only[World.cell?,e];have:j=0\/j=1\/j=2\/j=3\/j=4:=by omega
  rcases this with rfl | rfl | rfl | rfl | rfl <;> rfl
 have HK:=Y (hb.later iW);have ⟨a0,f0⟩:=HP.out 0 (by decide);have ⟨a1,f1⟩:=HP.out 1 (by decide);have ⟨a2,f2⟩:=HP.out 2 (by decide);have ⟨a3,f3⟩:=HP.out 3 (by decide);have ⟨a4,f4⟩:=HP.out 4 (by decide);clear hb2 iW;cases hh:Cv.has l id with
 | false =>
  have Hh:=Y hh;rw[Bk.Bp hh];clear hh;simp only[];go_wp2;refine bodyPost_ret (v:=.tuple #[cm Cv.z,.bool false]) (by simp[results,results192,go_sem,cm,Cv.z,a0,a1,a2,a3,a4]) rfl ⟨?_,?_⟩
  .rw[show Bk.j_ l id=Cv.z by unfold Bk.j_;rw[Hh.out];rfl,Hh.out]
  .exact((((HB.setCell (E _) _).setCell (E _) _).setCell (E _) _).setCell (E _) _).setCell (E _) _
 | true =>
  have Hh:=Y hh;rw[Bk.Bq hh];have hk:=Bk.JE hh;clear hh;have hcell:=cell_of_one HK.cell;rcases HK.form with ⟨_,hl⟩ | ⟨g,cap,rfl,hle,_,hl⟩
  .rw[hl]at hk;exact absurd hk (Nat.not_lt_zero _)
  obtain⟨c0,c1,c2,c3,c4⟩:=hl _ hk;have HX:Hid (Bk.j_ l id=Cv.nth l (Bk.pos l id)):=by show _=_;unfold Bk.j_;rw[if_pos Hh.out]
  have sS:l.length<=60:=hn.out;obtain⟨x,hx⟩:=aG (Cv.nth l (Bk.pos l id));rw[hx]at HX c0 c1 c2 c3 c4;clear hx;generalize Bk.pos l id=k at *;obtain⟨n,hnn⟩:=aG l.length;rw[hnn]at hk hcell sS;have hg:g<w2.heap.size:=bCq _ _ c0;have aT:(k:Int)<n:=by omega
  simp only[Nat.zero_add]at c0 c1 c2 c3 c4;clear hl hle hnn;simp only[];go_wp2;refine bodyPost_ret (v:=.tuple #[cm x,.bool true]) (by simp[results,results192,go_sem,cm,a0,a1,a2,a3,a4]) rfl ⟨?_,?_⟩
  .rw[Hh.out,HX.out]
  .exact((((HB.setCell (E _) _).setCell (E _) _).setCell (E _) _).setCell (E _) _).setCell (E _) _
structure xk (w:World) (T:TypeId) (v1 v5 v6 v7:Value):Prop where
 cp:iV w T v1 v6 v7
 c5:w.cell? (O 6 0)=some (.iface T v5)
theorem xk.later{w w':World}{T:TypeId}{v1 v5 v6 v7:Value}(h:xk w T v1 v5 v6 v7)(hb:U w w'):xk w' T v1 v5 v6 v7:=⟨h.cp.later hb,cell_later hb h.c5⟩
def uW(T:TypeId)(v1 v5 v6 v7:Value):Nat->Value
 | 0=>.nilIface
 | 1=>.iface T v1
 | 2=>.iface T v6
 | 3=>.iface T v7
 | _=>.iface T v5
theorem Step.Bo{w w':World}{p b:Nat}{v v':Value}(h:Step w w' p v v')(hb:w.heap.size<=b)(o:Nat)(u:Value):Step w (w'.setCell (O b o) u) p v v' :=
 ⟨⟨h.only.os,h.only.tape,h.only.output,by simpa using h.only.size,fun k hk h1 h2=>by
  rw[Below.heap_setCell _ _ _ _ (by show k≠b;omega)];exact h.only.block k hk h1 h2⟩,h.new⟩
theorem dG.setOther{w:World}{base p b:Nat}{v:Value}{l:List Cv.af}(h:dG w base p v l)(hp:b≠p)(hv:v.ownBlock≠some b)(o:Nat)(u:Value):dG (w.setCell (O b o) u) base p v l :=
 ⟨by rw[Below.heap_setCell _ _ _ _ (by show p≠b;omega)];exact h.cell,h.lo,ownsRow_setCell_other h.row hv u⟩
theorem adv{B:Nat}{w w':World}(h:Below B w w'):Below B w w'.drew:=⟨h.os,h.tape,h.output,h.size,h.block⟩
theorem RF(p base:Nat)(v:Value)(id:Int)(l:List Cv.af)(T:TypeId)(v1 v5 v6 v7:Value)(w:World)(he:Hid (xk w T v1 v5 v6 v7))(hb:Hid (dG w base p v l))(hn:Hid (l.length<=60)):
  Calls prog 244 #[Rw p,Z id] w fun e w'=>e=.returned (.tuple #[cm (Bk.gA l id),uW T v1 v5 v6 v7 (Bk.dP l id)])/\∃v',dG w' base p v' (Bk.eZ l id)/\Step w w' p v v':=by
 have HF:=Y (E_ p base v id l (w.alloc (.cells #[Z 0,Z 0,Z 0,Z 0,Z 0] 197)) (hb.later aj) hn);go_enter func244,ntmps244
 go_wp2_with fail
 refine HF.mono ?_;rintro e w2 ⟨rfl,hb2⟩;have iW:U w w2:=aj.trans (hb2.mono (by simp));have HB:=Y iW;have RG:w2.heap[w.heap.size]?=some (.cells #[Z 0,Z 0,Z 0,Z 0,Z 0] 197 (0,0)):=by have e:=hb2.block w.heap.size (by simp);rw[hNq]at e;exact e
 have zo:=Y RG;have HK:=Y (hb.later iW);have HE:=Y (he.later iW);clear hb2 iW RG;cases hh:Cv.has l id with
 | false =>
  have Hh:=Y hh;rw[Bk.Bp hh];have HC:Hid (Bk.dP l id=4/\Bk.eZ l id=l/\Bk.gA l id=Cv.z):=by
   have e:Bk.dP l id=4:=by unfold Bk.dP;rw[hh];rfl
   exact⟨e,by unfold Bk.eZ;rw[e];rfl,by unfold Bk.gA;rw[e];rfl⟩
  clear hh;have c5:=HE.c5;have cs:∀j,j<5->w2.cell? (O w.heap.size j)=some (Z 0)/\w2.frozen? (O w.heap.size j)=false:=fun j hj=>by
   refine⟨?_,by simp[World.frozen?,zo.out]⟩;simp only[World.cell?,zo.out];have:j=0\/j=1\/j=2\/j=3\/j=4:=by omega
   rcases this with rfl | rfl | rfl | rfl | rfl <;> rfl
  have ⟨a0,f0⟩:=cs 0 (by decide);have ⟨a1,f1⟩:=cs 1 (by decide);have ⟨a2,f2⟩:=cs 2 (by decide);have ⟨a3,f3⟩:=cs 3 (by decide);have ⟨a4,f4⟩:=cs 4 (by decide);clear cs;have h3:¬ (6=w.heap.size):=fun e=>by
   have h:=he.c5
   have:=bCq _ _ h
   simp at this;omega
  simp only[];go_wp2
  go_region
  go_wp2;refine bodyPost_ret (v:=.tuple #[cm Cv.z,.iface T v5]) (by simp[results,results244,go_sem,cm,Cv.z,a0,a1,a2,a3,a4]) rfl ⟨?_,?_⟩
  .rw[HC.out.1,HC.out.2.2];rfl
  .have bR:U w (((((w2.setCell (O w.heap.size 0) (Z 0)).setCell (O w.heap.size 1) (Z 0)).setCell (O w.heap.size 2) (Z 0)).setCell (O w.heap.size 3) (Z 0)).setCell (O w.heap.size 4) (Z 0)).drew :=
    adv (((((HB.setCell (E _) _).setCell (E _) _).setCell (E _) _).setCell (E _) _).setCell (E _) _)
   exact⟨v,by rw[HC.out.2.1];exact hb.later bR,Step.of_below bR p v⟩
 | true =>
  have Hh:=Y hh;rw[Bk.Bq hh];have hk:=Bk.JE hh;have HC:Hid (Bk.dP l id=0/\Bk.eZ l id=Bk.del l (Bk.pos l id)/\Bk.gA l id=Cv.nth l (Bk.pos l id)):=by
   have e:Bk.dP l id=0:=by unfold Bk.dP;rw[hh];rfl
   exact⟨e,by unfold Bk.eZ;rw[if_pos e],by unfold Bk.gA;rw[if_pos e]⟩
  clear hh;have hcell:=cell_of_one HK.cell;rcases HK.form with ⟨_,hl⟩ | ⟨g,cap,rfl,hle,_,hl⟩
  .rw[hl]at hk;exact absurd hk (Nat.not_lt_zero _)
  obtain⟨c0,c1,c2,c3,c4⟩:=hl _ hk;have sS:l.length<=60:=hn.out;have uX:=fun X=>RH p base (Bk.pos l id) _ l (w2.alloc (.cells X 197)) (HK.later aj) hk hn;have uX:=Y uX;obtain⟨x,hx⟩:=aG (Cv.nth l (Bk.pos l id));rw[hx]at HC c0 c1 c2 c3 c4;clear hx;generalize Bk.pos l id=k at *;have zq:Hid (p<w.heap.size/\g<w.heap.size):=⟨hb.lt,(hb.uY g rfl).2⟩;have hg:g<w2.heap.size:=bCq _ _ c0;obtain⟨n,hnn⟩:=aG l.length;rw[hnn]at hk hcell sS;have aT:(k:Int)<n:=by omega
  simp only[Nat.zero_add]at c0 c1 c2 c3 c4;have zt:=Y hnn;clear hl hle hnn;simp only[]
  go_wp2_with fail
  refine(uX _).mono ?_;rintro e w3 ⟨rfl,v3,hk3,hs3⟩;have hsz:=HB.size;have Fa:w3.heap[w.heap.size]?=some (.cells #[Z 0,Z 0,Z 0,Z 0,Z 0] 197 (0,0)):=by rw[hs3.only.block _ (by have:=lBq zo.out;simp;omega) (fun e=>by have:=zq.out.1;simp at e;omega) (fun e=>by have:=zq.out.2;simp[Value.ownBlock]at e;omega),heap_alloc_old _ _ (lBq zo.out)];exact zo
  have h7:w3.heap[w2.heap.size]?=some (.cells #[Z x.id,Z x.ai,Z x.sd,Z x.pr,Z x.q] 197 (0,0)):=by rw[hs3.only.block _ (by simp) (fun e=>by have:=zq.out.1;simp at e;omega) (fun e=>by have:=zq.out.2;simp[Value.ownBlock]at e;omega),hNq]
  have cs:∀j,j<5->w3.cell? (O w.heap.size j)=some (Z 0)/\w3.frozen? (O w.heap.size j)=false:=fun j hj=>by
   refine⟨?_,by simp[World.frozen?,Fa]⟩;simp only[World.cell?,Fa];have:j=0\/j=1\/j=2\/j=3\/j=4:=by omega
   rcases this with rfl | rfl | rfl | rfl | rfl <;> rfl
  have ⟨a0,f0⟩:=cs 0 (by decide);have ⟨a1,f1⟩:=cs 1 (by decide);have ⟨a2,f2⟩:=cs 2 (by decide);have ⟨a3,f3⟩:=cs 3 (by decide);have ⟨a4,f4⟩:=cs 4 (by decide);have b0:w3.cell? (O w2.heap.size 0)=some (Z x.id):=by simp[World.cell?,h7]
  have b1:w3.cell? (O w2.heap.size 1)=some (Z x.ai):=by simp[World.cell?,h7]
  have b2:w3.cell? (O w2.heap.size 2)=some (Z x.sd):=by simp[World.cell?,h7]
  have b3:w3.cell? (O w2.heap.size 3)=some (Z x.pr):=by simp[World.cell?,h7]
  have b4:w3.cell? (O w2.heap.size 4)=some (Z x.q):=by simp[World.cell?,h7]
  have eJ:=Y hs3;have sT:=Y hk3;have lL:=Y (lBq Fa);clear cs hs3 hk3 h7 Fa hcell c0 c1 c2 c3 c4 hsz;simp only[];go_wp2;refine bodyPost_ret (v:=.tuple #[cm x,.nilIface]) (by simp[results,results244,go_sem,cm,a0,a1,a2,a3,a4]) rfl ⟨?_,?_⟩
  .rw[HC.out.1,HC.out.2.2];rfl
  .have hst:=(Step.of_below ((HB.alloc HB.size (.cells #[Z x.id,Z x.ai,Z x.sd,Z x.pr,Z x.q] 197))) p _).trans eJ
   have hne:v3.ownBlock≠some w.heap.size:=fun e=>by
    rcases eJ.new _ e with h | h
    .have:=zq.2;simp[Value.ownBlock]at h;omega
    .have:=lBq zo;simp at h;omega
   have hnp:w.heap.size≠p:=by have:=zq.1;omega
   refine⟨v3,?_,((((hst.Bo (E _) _ _).Bo (E _) _ _).Bo (E _) _ _).Bo (E _) _ _).Bo (E _) _ _⟩;rw[HC.out.2.1];exact((((sT.setOther hnp hne _ _).setOther hnp hne _ _).setOther hnp hne _ _).setOther hnp hne _ _).setOther hnp hne _ _
theorem RI{l:List Cv.af}{k:Nat}(hk:k<l.length)(x:Cv.af):flat (Bk.put l k x)=(flat l).take (k*5)++eK x++(flat l).drop (k*5+5):=by unfold Bk.put;rw[Br,RJ l k (by omega),show k*5+5=(k+1)*5 by omega,RL l (k+1) (by omega)];simp[flat]
theorem adw{l:List Cv.af}{k:Nat}(hk:k<l.length):flat l=(flat l).take (k*5)++eK (Cv.nth l k)++(flat l).drop (k*5+5):=by have e:=Bk.Bt hk;rw[<- RI hk,Bk.put,<- e]
theorem dG.less{w:World}{base p g cap:Nat}{l:List Cv.af}(h:dG w base p (.slice (some (O g 0)) l.length cap) l){k:Nat}(hk:k<l.length)(q:Int):
  dG (w.setCell ⟨g,k*5+4,none⟩ (Z ((Cv.nth l k).q-q))) base p (.slice (some (O g 0)) l.length cap) (Bk.put l k (Bk.less (Cv.nth l k) q))/\Step w (w.setCell ⟨g,k*5+4,none⟩ (Z ((Cv.nth l k).q-q))) p (.slice (some (O g 0)) l.length cap) (.slice (some (O g 0)) l.length cap):=by
 have hr:=JF h.row (k*5+4) [Z ((Cv.nth l k).q-q)] l.length (by
  rcases h.row.2 with ⟨e,_⟩ | ⟨g',cap',cur,e,_,_,hc,_⟩
  .cases e
  .obtain⟨_,rfl⟩:g=g'/\cap=cap':=by simpa using e
   exact hc) (by show k*5+4+1<=_;omega) (flat (Bk.put l k (Bk.less (Cv.nth l k) q))) (by rw[qi,Bk.Fb hk]) (E _) (by
  rw[List.take_of_length_le (by simp only[List.length_append,List.length_take,List.length_drop,qi,List.length_cons,List.length_nil];omega)];have hl:((flat l).take (k*5)).length=k*5:=by rw[lKq,qi];omega
  have e1:(flat l).take (k*5+4)=(flat l).take (k*5)++[Z (Cv.nth l k).id,Z (Cv.nth l k).ai,Z (Cv.nth l k).sd,Z (Cv.nth l k).pr]:=by
   have e:=adw hk;generalize (flat l).drop (k*5+5)=D at *;have e2:(flat l).take (k*5+4)=((flat l).take (k*5)++eK (Cv.nth l k)++D).take (k*5+4):=by rw[<- e]
   generalize (flat l).take (k*5)=A at *;rw[e2,aAq,List.take_append,hl];simp[eK,hl,List.take_of_length_le]
  rw[e1,RI hk];simp[eK,Bk.less])
 have hs:w.setCells g (k*5+4) [Z ((Cv.nth l k).q-q)]=w.setCell ⟨g,k*5+4,none⟩ (Z ((Cv.nth l k).q-q)):=rfl;rw[hs]at hr;have Fe:g≠p:=fun e=>h.ne (by rw[e];rfl);refine⟨⟨by rw[Below.heap_setCell _ _ _ _ (by show p≠g;omega)];exact h.cell,h.lo,by rw[Bk.Fb hk];exact hr⟩,⟨(Only.setCell w g _ _ (some p)).swap,fun k h=>.inl h⟩⟩
theorem Bk.adx{l:List Cv.af}{k:Nat}(hk:k<l.length)(x:Cv.af):Bk.del (Bk.put l k x) k=Bk.del l k:=by
 have hl:(l.take k).length=k:=by rw[lKq];omega
 unfold Bk.del Bk.put;congr 1
 .rw[List.take_append_of_le_length (by omega),List.take_of_length_le (by omega)]
 .rw[List.drop_append,hl,List.drop_of_length_le (by omega),show k+1-k=1 by omega]
  rfl
theorem ady(p base:Nat)(v:Value)(id q:Int)(l:List Cv.af)(T:TypeId)(v1 v5 v6 v7:Value)(w:World)(he:Hid (xk w T v1 v5 v6 v7))(hb:Hid (dG w base p v l))(RN:Hid (Bk.Good l)):
  Calls prog 264 #[Rw p,Z id,Z q] w fun e w'=>e=.returned (uW T v1 v5 v6 v7 (Bk.nu l id q))/\∃v',dG w' base p v' (Bk.om l id q)/\Step w w' p v v':=by
 have hn:Hid (l.length<=60):=RN.len;go_enter func264,ntmps264
 go_wp2_with fail
 refine(E_ p base v id l w hb hn).mono ?_;rintro e w2 ⟨rfl,hb2⟩;have HB:=Y hb2;have HK:=Y (hb.later hb2);have HE:=Y (he.later hb2);clear hb2;cases hh:Cv.has l id with
 | false =>
  rw[Bk.Bp hh];have HC:Hid (Bk.nu l id q=4/\Bk.om l id q=l):=by
   have e:Bk.nu l id q=4:=by unfold Bk.nu;rw[hh];rfl
   exact⟨e,by unfold Bk.om;rw[e];rfl⟩
  clear hh;have c5:=HE.c5;simp only[];go_wp2;go_ret;exact⟨by rw[HC.out.1];rfl,v,by rw[HC.out.2];exact HK,Step.of_below HB p v⟩
 | true =>
  have Hh:=Y hh;rw[Bk.Bq hh];have hk:=Bk.JE hh;have adz:=Y hk;clear hh;have hcell:=cell_of_one HK.cell;rcases HK.form with ⟨_,hl⟩ | ⟨g,cap,rfl,hle,_,hl⟩
  .rw[hl]at hk;exact absurd hk (Nat.not_lt_zero _)
  have HX:Hid (Cv.ok (Cv.nth l (Bk.pos l id))=true):=RN.oks _ (Cv.oo hk);obtain⟨_,_,_,_,c4⟩:=hl _ hk;have sS:l.length<=60:=hn.out;obtain⟨n,hnn⟩:=aG l.length;have zt:=Y hnn;rw[hnn]at hk hcell sS;have aT:(Bk.pos l id:Int)<n:=by omega
  simp only[Nat.zero_add]at c4;have j7:=(Cv.gB HX).2.2.2.2;have iX:=Y (HK.less adz q);obtain⟨uZ,u_⟩:=aG ((Cv.nth l (Bk.pos l id)).q);obtain⟨k,ep⟩:=aG (Bk.pos l id);have Ff:=Y u_;have HKK:=Y ep;rw[u_]at c4 j7 iX;rw[ep]at hk aT c4 iX ⊢;clear u_ ep hnn hl hle;have hg:g<w2.heap.size:=bCq _ _ c4;simp only[]
  go_wp2_with fail
  refine(ib q 1 uZ _).mono ?_;rintro e w3 ⟨rfl,rfl⟩;cases hw:ah.aK q 1 uZ with
  | false =>
   have HC:Hid (Bk.nu l id q=1/\Bk.om l id q=l):=by
    have e:Bk.nu l id q=1:=by unfold Bk.nu;rw[if_pos Hh.out,Ff.out,hw];rfl
    exact⟨e,by unfold Bk.om;rw[e];rfl⟩
   clear hw;have c1:=HE.cp.c1;simp only[];go_wp2;go_ret;exact⟨by rw[HC.out.1];rfl,_,by rw[HC.out.2];exact HK,Step.of_below HB p _⟩
  | true =>
   have Fg:Hid (Bk.nu l id q=0):=by show _=_;unfold Bk.nu;rw[if_pos Hh.out,Ff.out,hw];rfl
   have JG:1<=q/\q<=uZ:=by simpa [ah.aK] using hw
   have f4:w3.frozen? ⟨g,k*5+4,none⟩=false:=(Bu (by have:=HK.row;rw[zt.out]at this;exact this) (k*5+4) (by omega)).2.1;have Fe:¬ (g=p):=fun e=>HK.ne (by rw[e];rfl);clear hw;have hsub:IntKind.i64.wrap (uZ-q)=uZ-q:=IntWalk.i64_in _ (by omega);by_cases hq:q=uZ
   .have hz:uZ-q=0:=by omega
    have jh:Hid (Bk.om l id q=Bk.del l k):=by show _=_;unfold Bk.om;rw[if_pos Fg.out,Ff.out,if_pos hq,HKK.out]
    have xm:Hid (Bk.del (Bk.put l k (Bk.less (Cv.nth l k) q)) k=Bk.del l k):=Bk.adx (by rw[zt.out];exact hk) _;have uX:=Y (RH p base k _ _ _ iX.1 (by rw[Bk.Fb (by rw[zt.out];exact hk),zt.out];exact hk) (by show _<=_;rw[Bk.Fb (by rw[zt.out];exact hk)];exact hn));rw[hz]at uX iX;have HQ:=Y hq;clear hq;simp only[]
    go_wp2_with fail
    refine uX.mono ?_;rintro e w4 ⟨rfl,v4,hk4,cK⟩;have adA:=Y hk4;have dL:=Y cK;clear hk4 cK;simp only[];go_wp2;go_ret;refine⟨by rw[Fg.out];rfl,v4,by rw[jh.out,<- xm.out];exact adA,((Step.of_below HB p _).trans iX.2).trans dL⟩
   .have hz:¬ (uZ-q=0):=by omega
    have jh:Hid (Bk.om l id q=Bk.put l k (Bk.less (Cv.nth l k) q)):=by show _=_;unfold Bk.om;rw[if_pos Fg.out,Ff.out,if_neg hq,HKK.out]
    have HQ:=Y hq;clear hq;simp only[];go_wp2;go_ret;refine⟨by rw[Fg.out];rfl,_,by rw[jh.out];exact iX.1,(Step.of_below HB p _).trans iX.2⟩
section
variable {w w':World} {base p t:Nat} {V:Nat->Value} {L:Nat->List Ask} {T:Nat->Value}
theorem gu(R:World->Prop):∃(X:Type) (val:X->World),(∀x,R (val x))/\∀W,R W->∃x,val x=W :=
 ⟨{ W:World // R W },fun x=>x.1,fun x=>x.2,fun W h=>⟨⟨W,h⟩,rfl⟩⟩
theorem yi{P:Program}{o:Oper}{a:Act}{w w':World}{K:Value->World->Prop}(s x:Operand)(t:TypeId)(hop:o.op=Op.call { callee:=Callee.builtin Builtin.append,args:=#[s,x],argTypes:=#[t,t] })(vs vX v':Value)(hs:a.eval s=vs)(hx:a.eval x=vX)(hrun:(Builtin.append_ #[t,t] o.type #[vs,vX]).run P w=.ok v' w')(hK:K v' w'):aB P K ((execOp a.eval o).run P w):=by simp[execOp,hop,resolve,invoke,builtin,hs,hx,hrun,Result.andThen,aB];exact hK
theorem ma{w:World}{b:Nat}{k c sq it sd pr q id:Int}{ty:TypeId}(h:w.heap[b]?=some (.cells #[.int .u8 k,.int .i64 c,.int .i64 sq,.int .i64 it,.int .i64 sd,.int .i64 pr,.int .i64 q,.int .i64 id] ty (0,0))):
  w.cell? ⟨b,0,none⟩=some (.int .u8 k)/\w.cell? ⟨b,1,none⟩=some (.int .i64 c)/\w.cell? ⟨b,2,none⟩=some (.int .i64 sq)/\w.cell? ⟨b,3,none⟩=some (.int .i64 it)/\w.cell? ⟨b,4,none⟩=some (.int .i64 sd)/\w.cell? ⟨b,5,none⟩=some (.int .i64 pr)/\w.cell? ⟨b,6,none⟩=some (.int .i64 q)/\w.cell? ⟨b,7,none⟩=some (.int .i64 id):=by
 refine⟨?_,?_,?_,?_,?_,?_,?_,?_⟩ <;> (rw[cR _ _ _ _ _ _ h];rfl)
theorem aiu(w:World):Below w.heap.size w w.drew:=⟨rfl,rfl,rfl,E _,fun _ _=>rfl⟩
theorem aiv(a:Ask)(w:World)(he:Hid (yf w T))(hi:Hid (dS w base p V t L)):
  Calls prog 209 #[.pointer (some ⟨p,0,none⟩),bM a] w fun e w'=>e=.returned (V4 T (az.jV L a))/\∃fK,dS w' base p fK t (az.jW L a)/\i_ w w' p V fK:=by
 obtain⟨aW,ac,bn,bw,asd,aR,aq,aP⟩:=a;have HB:Hid (Below w.heap.size w (w.alloc (.cells #[.int .u8 aW,.int .i64 ac,.int .i64 bn,.int .i64 bw,.int .i64 asd,.int .i64 aR,.int .i64 aq,.int .i64 aP] 95))):=aj;have h2:=he.size;have lW:=he.kd;have k1:=he.bd;have k2:=he.Nr;have e0:=(he.later HB).kd;have e1:=(he.later HB).bd;have e2:=(he.later HB).Nr;have HI1:=Y (hi.later HB);have Nx:=Y (i_.of_below (V:=V) HB p);show Calls prog 209 #[.pointer (some ⟨p,0,none⟩),.agg #[.int .u8 aW,.int .i64 ac,.int .i64 bn,.int .i64 bw,.int .i64 asd,.int .i64 aR,.int .i64 aq,.int .i64 aP]] w _;cases hk:az.yh ⟨aW,ac,bn,bw,asd,aR,aq,aP⟩ with
 | false =>
  have HA:Hid (az.jV L ⟨aW,ac,bn,bw,asd,aR,aq,aP⟩=4/\az.jW L ⟨aW,ac,bn,bw,asd,aR,aq,aP⟩=L):=by
   have e:az.jV L ⟨aW,ac,bn,bw,asd,aR,aq,aP⟩=4:=by unfold az.jV;rw[hk];rfl
   exact⟨e,by unfold az.jW;rw[e];rfl⟩
  have hk1:(aW != 111)=true:=by simp[az.yh]at hk;simp[hk.1]
  have hk2:(aW != 99)=true:=by simp[az.yh]at hk;simp[hk.2]
  clear hk;go_enter func209,ntmps209;go_wp2;go_ret;exact⟨by rw[HA.out.1];rfl,V,by rw[HA.out.2];exact HI1,Nx⟩
 | true =>
  have HK:=Y hk;have hk':aW=111\/aW=99:=by simpa [az.yh] using hk
  clear hk;have wj:=Y (Wk ac (w.alloc (.cells #[.int .u8 aW,.int .i64 ac,.int .i64 bn,.int .i64 bw,.int .i64 asd,.int .i64 aR,.int .i64 aq,.int .i64 aP] 95)));have tN:=Y (V5 ac _ HI1);cases hc:az.nK ac with
  | false =>
   have HA:Hid (az.jV L ⟨aW,ac,bn,bw,asd,aR,aq,aP⟩=2/\az.jW L ⟨aW,ac,bn,bw,asd,aR,aq,aP⟩=L):=by
    have e:az.jV L ⟨aW,ac,bn,bw,asd,aR,aq,aP⟩=2:=by unfold az.jV;rw[HK.out,if_pos rfl];simp[hc]
    exact⟨e,by unfold az.jW;rw[e];rfl⟩
   rw[hc]at wj;clear hc;rcases hk' with rfl | rfl
   all_goals
    go_enter func209,ntmps209
    go_wp2_with fail
    refine wj.mono ?_;rintro e w2 ⟨rfl,rfl⟩;simp only[];go_wp2;go_ret;exact⟨by rw[HA.out.1];rfl,V,by rw[HA.out.2];exact HI1,Nx⟩
  | true =>
   rw[hc]at wj;obtain⟨c,ju,rfl⟩:=az.Ns hc;have GR:Hid (az.tM L (c:Int)=(L c).length):=by show _=_;unfold az.tM;rw[hc];rfl
   rw[GR.out]at tN;by_cases hf:6<=(L c).length
   .have HA:Hid (az.jV L ⟨aW,c,bn,bw,asd,aR,aq,aP⟩=8/\az.jW L ⟨aW,c,bn,bw,asd,aR,aq,aP⟩=L):=by
     have e:az.jV L ⟨aW,c,bn,bw,asd,aR,aq,aP⟩=8:=by unfold az.jV;rw[HK.out,if_pos rfl];simp[hc,hf]
     exact⟨e,by unfold az.jW;rw[e];rfl⟩
    clear hc;generalize (L c).length=m at *;have hf':(6:Int)<=m:=by omega
    rcases hk' with rfl | rfl
    all_goals
     go_enter func209,ntmps209
     go_wp2_with fail
     refine wj.mono ?_;rintro e w2 ⟨rfl,rfl⟩;simp only[]
     go_wp2_with fail
     refine tN.mono ?_;rintro e w2 ⟨rfl,rfl⟩;simp only[];go_wp2;go_ret;exact⟨by rw[HA.out.1];rfl,V,by rw[HA.out.2];exact HI1,Nx⟩
   .have HA:Hid (az.jV L ⟨aW,c,bn,bw,asd,aR,aq,aP⟩=0/\az.jW L ⟨aW,c,bn,bw,asd,aR,aq,aP⟩=az.upd L c (L c++[⟨aW,c,bn,bw,asd,aR,aq,aP⟩])):=by
     have e:az.jV L ⟨aW,c,bn,bw,asd,aR,aq,aP⟩=0:=by unfold az.jV;rw[HK.out,if_pos rfl];simp[hc,hf]
     exact⟨e,by unfold az.jW;rw[if_pos e];rfl⟩
    clear hc
    -- the world behind the making of the box,the draw and the new row of one
    obtain⟨w1,d6⟩:∃w1,w1=w.alloc (.cells #[.int .u8 aW,.int .i64 c,.int .i64 bn,.int .i64 bw,.int .i64 asd,.int .i64 aR,.int .i64 aq,.int .i64 aP] 95):=⟨_,rfl⟩;have oq:Below w.heap.size w ((w.alloc (.cells #[.int .u8 aW,.int .i64 c,.int .i64 bn,.int .i64 bw,.int .i64 asd,.int .i64 aR,.int .i64 aq,.int .i64 aP] 95)).drew.alloc (.cells #[.int .u8 aW,.int .i64 c,.int .i64 bn,.int .i64 bw,.int .i64 asd,.int .i64 aR,.int .i64 aq,.int .i64 aP] 95)) :=
     (aj.trans ((aiu _).mono (by simp))).alloc (by simp[World.drew]) _
    have wm:=hi.later oq;obtain⟨i0,z0,vV,hz0,hz1,hz2,hz3⟩:=GL;obtain⟨v4,w4,hap,hrow,hg,_,hloc⟩:=run_append_own_at (P:=prog) ((w.alloc (.cells #[.int .u8 aW,.int .i64 c,.int .i64 bn,.int .i64 bw,.int .i64 asd,.int .i64 aR,.int .i64 aq,.int .i64 aP] 95)).drew.alloc (.cells #[.int .u8 aW,.int .i64 c,.int .i64 bn,.int .i64 bw,.int .i64 asd,.int .i64 aR,.int .i64 aq,.int .i64 aP] 95)) base 24 24 95 i0 z0 8 64 underlying24 vV hz0 hz1 hz2 hz3 (by decide) _ _ _ (wm.row c ju) ⟨(w.alloc (.cells #[.int .u8 aW,.int .i64 c,.int .i64 bn,.int .i64 bw,.int .i64 asd,.int .i64 aR,.int .i64 aq,.int .i64 aP] 95)).heap.size,0,none⟩ 1 1 (mO ⟨aW,c,bn,bw,asd,aR,aq,aP⟩) rfl
     (fun j u hj=>V6 (World.drew _) ⟨aW,c,bn,bw,asd,aR,aq,aP⟩ 95 _ rfl j u hj)
     (fun u hu=>Dk [⟨aW,c,bn,bw,asd,aR,aq,aP⟩] u (by simpa [bz] using hu)) (by unfold maxLen;omega) (by omega) (by have h1:=wm.lo;have h2:=wm.lt;omega)
    obtain⟨q1,q2⟩:=wm.xo ju hg;have x0:(World.drew (w.alloc (.cells #[.int .u8 aW,.int .i64 c,.int .i64 bn,.int .i64 bw,.int .i64 asd,.int .i64 aR,.int .i64 aq,.int .i64 aP] 95))).heap[w.heap.size]?=some (.cells #[.int .u8 aW,.int .i64 c,.int .i64 bn,.int .i64 bw,.int .i64 asd,.int .i64 aR,.int .i64 aq,.int .i64 aP] 95 (0,0)):=hNq w _;have x1:=(heap_alloc_old (World.drew (w.alloc (.cells #[.int .u8 aW,.int .i64 c,.int .i64 bn,.int .i64 bw,.int .i64 asd,.int .i64 aR,.int .i64 aq,.int .i64 aP] 95))) (.cells #[.int .u8 aW,.int .i64 c,.int .i64 bn,.int .i64 bw,.int .i64 asd,.int .i64 aR,.int .i64 aq,.int .i64 aP] 95) (lBq x0)).trans x0;have x3:=(hg.block w.heap.size (lBq x1) (fun e=>by have:=((hi.row c ju).lt w.heap.size e.symm).2;omega)).trans x1;have yj:=Y x0;have X1:=Y x1;have yl:=Y x3;have Ny:=Y (wm.at ju);clear x0 x1 x3;obtain⟨a0,c0,hV⟩:=wm.form ju;obtain⟨a4,c4,hv4⟩:=fA hrow;have hset:=wm.set ju (l':=L c++[⟨aW,c,bn,bw,asd,aR,aq,aP⟩]) hg (v':=v4) (by rw[lAq,vW];simpa [bz] using hrow) (by rw[lAq];simp;omega) (fun k hk=>by
     rcases hloc with h | h
     .rw[h]at hk;exact .inl hk
     .rw[h]at hk;exact .inr (Nat.le_of_eq (Option.some.inj hk)))
    have hat:=HI1.at ju;rw[hV]at hap hat q1 Ny;rw[hv4]at hap hset;rw[show (w.alloc (.cells #[.int .u8 aW,.int .i64 c,.int .i64 bn,.int .i64 bw,.int .i64 asd,.int .i64 aR,.int .i64 aq,.int .i64 aP] 95)).heap.size=w.heap.size+1 by simp]at hap;have rJ:=Y hset;have cW:=Y hap;have vd:=Y oq;have hpl:p<w.heap.size:=hi.lt;clear hset hap hrow hg hloc vV hz0 hz1 hz2 hz3 wm oq hV hv4 d6 w1;generalize (L c).length=m at *;have hf':¬ (6:Int)<=m:=by omega
    have hci:(c:Int)<6:=by omega
    rcases hk' with rfl | rfl
    .go_enter func209,ntmps209
     go_wp2_with fail
     refine wj.mono ?_;rintro e w2 ⟨rfl,rfl⟩;simp only[]
     go_wp2_with fail
     refine tN.mono ?_;rintro e w2 ⟨rfl,rfl⟩;simp only[];go_wp2;obtain⟨bl,val,hcl,ay⟩:=gu (fun W'=>W'.heap[w.heap.size]?=some (.cells #[.int .u8 111,.int .i64 c,.int .i64 bn,.int .i64 bw,.int .i64 asd,.int .i64 aR,.int .i64 aq,.int .i64 aP] 95 (0,0))/\W'.cell? ⟨p,c,none⟩=some (.slice a0 m c0));obtain⟨x0,hx0⟩:=ay (World.drew (w.alloc (.cells #[.int .u8 111,.int .i64 c,.int .i64 bn,.int .i64 bw,.int .i64 asd,.int .i64 aR,.int .i64 aq,.int .i64 aP] 95))) ⟨yj,hat⟩;have hnx:Nonempty bl:=⟨x0⟩;have s0:∀x,(val x).cell? ⟨w.heap.size,0,none⟩=some (.int .u8 111):=fun x=>(ma (hcl x).1).1;have s1:∀x,(val x).cell? ⟨w.heap.size,1,none⟩=some (.int .i64 c):=fun x=>(ma (hcl x).1).2.1;have s2:∀x,(val x).cell? ⟨w.heap.size,2,none⟩=some (.int .i64 bn):=fun x=>(ma (hcl x).1).2.2.1;have s3:∀x,(val x).cell? ⟨w.heap.size,3,none⟩=some (.int .i64 bw):=fun x=>(ma (hcl x).1).2.2.2.1;have r7:∀x,(val x).cell? ⟨w.heap.size,4,none⟩=some (.int .i64 asd):=fun x=>(ma (hcl x).1).2.2.2.2.1;have Ae:∀x,(val x).cell? ⟨w.heap.size,5,none⟩=some (.int .i64 aR):=fun x=>(ma (hcl x).1).2.2.2.2.2.1;have Af:∀x,(val x).cell? ⟨w.heap.size,6,none⟩=some (.int .i64 aq):=fun x=>(ma (hcl x).1).2.2.2.2.2.2.1;have ym:∀x,(val x).cell? ⟨w.heap.size,7,none⟩=some (.int .i64 aP):=fun x=>(ma (hcl x).1).2.2.2.2.2.2.2;have qL:∀x,(val x).cell? ⟨p,c,none⟩=some (.slice a0 m c0):=fun x=>(hcl x).2;have M1:=Y (ay _ ⟨X1,Ny⟩);have qO:=Y (ay _ ⟨yl,q1⟩);clear ay hcl;refine wa (val:=val) [11,12] 16 20 [0,1,2,3,4,5,6,7,8,9,10,13,14,11,12,15,16] (by kernel_rfl) (by kernel_rfl) x0 hx0 ?_;rw[hx0];clear hx0
     iterate 13 (refine l8 rfl rfl (fun K hK=>?_);refine⟨by rfl,?_⟩;unfold aQ;go_simp;refine hK _ ?_;clear hK K)
     refine nL rfl rfl (fun K hK=>?_);refine⟨by rfl,?_⟩;unfold aB;go_simp;refine⟨M1,hK _ _ ?_⟩;clear hK K;refine nL rfl rfl (fun K hK=>?_);refine⟨by rfl,?_⟩;refine yi _ _ 24 rfl _ _ _ rfl rfl cW ?_;refine⟨qO,hK _ _ ?_⟩;clear hK K;refine l8 rfl rfl (fun K hK=>?_);refine⟨by rfl,?_⟩;unfold aQ;go_simp;refine hK _ ?_;clear hK K;refine wh rfl (fun K hK=>?_);refine⟨by rfl,?_⟩;unfold aB;go_simp;refine hK _ _ ?_;clear hK K
     all_goals go_wp2
     all_goals go_ret
     all_goals exact⟨by rw[HA.out.1];rfl,_,by rw[HA.out.2];exact rJ.1,(i_.of_below vd p _).trans rJ.2⟩
    .go_enter func209,ntmps209
     go_wp2_with fail
     refine wj.mono ?_;rintro e w2 ⟨rfl,rfl⟩;simp only[]
     go_wp2_with fail
     refine tN.mono ?_;rintro e w2 ⟨rfl,rfl⟩;simp only[];go_wp2;obtain⟨bl,val,hcl,ay⟩:=gu (fun W'=>W'.heap[w.heap.size]?=some (.cells #[.int .u8 99,.int .i64 c,.int .i64 bn,.int .i64 bw,.int .i64 asd,.int .i64 aR,.int .i64 aq,.int .i64 aP] 95 (0,0))/\W'.cell? ⟨p,c,none⟩=some (.slice a0 m c0));obtain⟨x0,hx0⟩:=ay (World.drew (w.alloc (.cells #[.int .u8 99,.int .i64 c,.int .i64 bn,.int .i64 bw,.int .i64 asd,.int .i64 aR,.int .i64 aq,.int .i64 aP] 95))) ⟨yj,hat⟩;have hnx:Nonempty bl:=⟨x0⟩;have s0:∀x,(val x).cell? ⟨w.heap.size,0,none⟩=some (.int .u8 99):=fun x=>(ma (hcl x).1).1;have s1:∀x,(val x).cell? ⟨w.heap.size,1,none⟩=some (.int .i64 c):=fun x=>(ma (hcl x).1).2.1;have s2:∀x,(val x).cell? ⟨w.heap.size,2,none⟩=some (.int .i64 bn):=fun x=>(ma (hcl x).1).2.2.1;have s3:∀x,(val x).cell? ⟨w.heap.size,3,none⟩=some (.int .i64 bw):=fun x=>(ma (hcl x).1).2.2.2.1;have r7:∀x,(val x).cell? ⟨w.heap.size,4,none⟩=some (.int .i64 asd):=fun x=>(ma (hcl x).1).2.2.2.2.1;have Ae:∀x,(val x).cell? ⟨w.heap.size,5,none⟩=some (.int .i64 aR):=fun x=>(ma (hcl x).1).2.2.2.2.2.1;have Af:∀x,(val x).cell? ⟨w.heap.size,6,none⟩=some (.int .i64 aq):=fun x=>(ma (hcl x).1).2.2.2.2.2.2.1;have ym:∀x,(val x).cell? ⟨w.heap.size,7,none⟩=some (.int .i64 aP):=fun x=>(ma (hcl x).1).2.2.2.2.2.2.2;have qL:∀x,(val x).cell? ⟨p,c,none⟩=some (.slice a0 m c0):=fun x=>(hcl x).2;have M1:=Y (ay _ ⟨X1,Ny⟩);have qO:=Y (ay _ ⟨yl,q1⟩);clear ay hcl;refine wa (val:=val) [11,12] 16 20 [0,1,2,3,4,5,6,7,8,9,10,13,14,11,12,15,16] (by kernel_rfl) (by kernel_rfl) x0 hx0 ?_;rw[hx0];clear hx0
     iterate 13 (refine l8 rfl rfl (fun K hK=>?_);refine⟨by rfl,?_⟩;unfold aQ;go_simp;refine hK _ ?_;clear hK K)
     refine nL rfl rfl (fun K hK=>?_);refine⟨by rfl,?_⟩;unfold aB;go_simp;refine⟨M1,hK _ _ ?_⟩;clear hK K;refine nL rfl rfl (fun K hK=>?_);refine⟨by rfl,?_⟩;refine yi _ _ 24 rfl _ _ _ rfl rfl cW ?_;refine⟨qO,hK _ _ ?_⟩;clear hK K;refine l8 rfl rfl (fun K hK=>?_);refine⟨by rfl,?_⟩;unfold aQ;go_simp;refine hK _ ?_;clear hK K;refine wh rfl (fun K hK=>?_);refine⟨by rfl,?_⟩;unfold aB;go_simp;refine hK _ _ ?_;clear hK K
     all_goals go_wp2
     all_goals go_ret
     all_goals exact⟨by rw[HA.out.1];rfl,_,by rw[HA.out.2];exact rJ.1,(i_.of_below vd p _).trans rJ.2⟩
end
theorem aif(q:List Ask):q.drop (min q.length 2)=q.drop 2:=by
 by_cases h:q.length<=2
 .rw[Nat.min_eq_left h,List.drop_of_length_le (E _),List.drop_of_length_le h]
 .rw[Nat.min_eq_right (by omega)]
theorem aih(v:Value)(base J:Nat)(q:List Ask)(w:World)(hr:Hid (w.ownsRow base 95 8 v q.length (bz q)))(hJ:J=min q.length 2):Calls prog 134 #[v,.int .i64 0,.int .i64 J] w fun e w'=>∃v',e=.returned v'/\w'.ownsRow base 95 8 v' (q.drop 2).length (bz (q.drop 2))/\w.grownBy w' v.ownBlock/\v'.ownBlock=v.ownBlock:=by
 by_cases h0:q.length=0
 .have:J=0:=by omega
  subst this;refine(aid v q.length base _ w hr).mono ?_;rintro e w' ⟨rfl,rfl⟩;have hq:q=[]:=List.eq_nil_of_length_eq_zero h0;subst hq;exact⟨v,rfl,hr,⟨rfl,rfl,rfl,E _,fun _ _ _=>rfl⟩,rfl⟩
 .obtain⟨g,cap,rfl,hle⟩:∃g cap,v=.slice (some ⟨g,0,none⟩) q.length cap/\q.length<=cap:=by
   rcases hr.2 with ⟨_,e⟩ | ⟨g,cap,cur,e,_,_,h,_⟩
   .exact absurd e h0
   .exact⟨g,cap,e,h⟩
  refine(aie g cap q.length J base q w rfl hr (by show _\/_;omega) (by omega) (by omega) hle).mono ?_;rintro e w' ⟨rfl,h1,h2⟩;refine⟨_,rfl,?_,h2,rfl⟩;rw[hJ,aif]at h1;rw[List.length_drop,show q.length-2=q.length-min q.length 2 by omega];rw[hJ];exact h1
theorem aii(w:World)(base b2 J:Nat)(d:Value)(xs:List Ask)(hd:w.ownsRow base 95 8 d xs.length (bz xs))(a:Option Addr)(m c:Nat)(q:List Ask)(hq:w.ownsRow b2 95 8 (.slice a m c) m (bz q))(hm:q.length=m)(hJ:J=min m 2)(hx:xs.length<=1000)(hb:base<=w.heap.size):
  ∃v' w',(Builtin.append_ #[24,24] 44 #[d,.slice a J c]).run prog w=.ok v' w'/\w'.ownsRow base 95 8 v' (xs++q.take 2).length (bz (xs++q.take 2))/\w.grownBy w' d.ownBlock:=by
 obtain⟨i0,z0,vV,hz0,hz1,hz2,hz3⟩:=GL;have hl:(q.take 2).length=J:=by rw[lKq,hm,hJ];omega
 rcases hq.2 with ⟨e,e2⟩ | ⟨g,cap,cur,e,_,_,h,_⟩
 .obtain⟨rfl,rfl,rfl⟩:a=none/\m=0/\c=0:=by simpa using e
  have xx:q=[]:=List.eq_nil_of_length_eq_zero hm;subst xx;have aij:J=0:=by omega
  subst aij;simp only[List.take_nil,List.append_nil];refine⟨d,w,?_,hd,⟨rfl,rfl,rfl,E _,fun _ _ _=>rfl⟩⟩;rcases hd.2 with ⟨rfl,_⟩ | ⟨g,cap,cur,rfl,_,er,hle,_,_,_⟩
  .simp[Builtin.append_,run_underlying underlying24,sizeOf,typeInfo,vV,Builtin.lenOf,Builtin.firstCells]
  .simp[Builtin.append_,run_underlying underlying24,sizeOf,typeInfo,vV,Builtin.lenOf,Builtin.firstCells,hle,storeCells]
 .obtain⟨rfl,rfl⟩:a=some ⟨g,0,none⟩/\c=cap:=by simpa using e
  obtain⟨v',w',h1,h2,h3,_⟩:=run_append_own_at (P:=prog) w base 24 24 95 i0 z0 8 64 underlying24 vV hz0 hz1 hz2 hz3 (by decide) d xs.length (bz xs) hd ⟨g,0,none⟩ J c (bz (q.take 2)) (by rw[oQ,hl])
   (fun j u hj=>World.ownsRow.cells hq (g:=g) rfl j u (by
    have e:bz q=bz (q.take 2)++bz (q.drop 2):=by rw[<- vW,List.take_append_drop]
    rw[e,List.getElem?_append_left (List.getElem?_eq_some_iff.1 hj).1];exact hj))
   (Dk _) (by unfold maxLen;omega) (by omega) hb
  exact⟨v',w',h1,by rw[lAq,hl,vW];exact h2,h3⟩
theorem Dl{w:World}{base:Nat}{e:TypeId}{s:Nat}{v:Value}{n:Nat}{xs:List Value}(hr:w.ownsRow base e s v n xs):∃a m c,v=.slice a m c:=by obtain⟨a,c,h⟩:=fA hr;exact⟨a,n,c,h⟩
theorem wpList_append_run{P:Program}{ops:Array Oper}{rest:List Oper}{o:Oper}{a:Act}{w w':World}{Q:Exit->Act->World->Prop}(hgd:o.guard=none)(s x:Operand)(t:TypeId)(hop:o.op=Op.call { callee:=Callee.builtin Builtin.append,args:=#[s,x],argTypes:=#[t,t] })(vs vX v':Value)(hs:a.eval s=vs)(hx:a.eval x=vX)(hrun:(Builtin.append_ #[t,t] o.type #[vs,vX]).run P w=.ok v' w')(h:wpList P ops Q rest (a.put o.dst v') w'):wpList P ops Q (o::rest) a w:=by refine wpList_plain hgd fun K hK=>?_;unfold Oper.wp;simp[execOp,hop,resolve,invoke,builtin,hs,hx,hrun,Result.andThen];exact hK _ _ h
section
variable {base p t:Nat} {V:Nat->Value} {L:Nat->List Ask}
theorem aik{w w2 w3:World}{V fK:Nat->Value}{r:Option Nat}(h:i_ w w2 p V fK)(hg:w2.grownBy w3 r)(hr:∀j,r=some j->w.heap.size<=j):i_ w w3 p V fK :=
 ⟨h.turned.trans (aL.j9 hg) (fun k hk=>.inr (hr k hk.symm)),h.new⟩
theorem V_(w:World)(hi:Hid (dS w base p V t L)):Calls prog 77 #[.pointer (some ⟨p,0,none⟩)] w fun e w'=>∃d fK,e=.returned d/\w'.ownsRow w.heap.size 95 8 d (az.out L t).length (bz (az.out L t))/\dS w' base p fK (az.who t 1) (az.Ac L t)/\i_ w w' p V fK/\∀j,oT p fK j->oT p V j:=by
 go_enter func77,ntmps77
 go_wp2_with fail
 go_loopw [3,7] (fun d c wr=>∃(k:Nat) (fK:Nat->Value),k<=6/\c=.int .i64 k/\wr.ownsRow w.heap.size 95 8 d (az.l6 L t k).length (bz (az.l6 L t k))/\dS wr base p fK t (az.l7 L t k)/\i_ w wr p V fK/\∀j,oT p fK j->oT p V j) (fun _ c _=>6-(intOf c).toNat)
 case atStart=>exact⟨0,V,by decide,rfl,World.ownsRow_nil _ _ _ _,hi,i_.refl _ _ _,fun _ h=>h⟩
 case round =>
  obtain⟨k,fK,hk,rfl,hd,hI,hs,ho⟩:=hrel;have HD:=Y hd;have HI:=Y hI;have HS:=Y hs;have HO:=Y ho;clear hd hI hs ho;have ht:=HI.turn;have hat:=HI.ail;by_cases hlt:k<6
  .have aT:(k:Int)<6:=by omega
   have Nu:=Y (V' t k wr ht (by omega))
   go_wp2_with fail
   refine Nu.mono ?_;rintro e w2 ⟨rfl,rfl⟩;simp only[];have hn:=az.vY t k;have HN:Hid (az.l7 L t (k+1)=az.upd (az.l7 L t k) (az.who t k) ((az.l7 L t k (az.who t k)).drop 2)/\az.l6 L t (k+1)=az.l6 L t k++(az.l7 L t k (az.who t k)).take 2):=⟨rfl,rfl⟩;generalize az.who t k=n at *;have hni:(n:Int)<6:=by omega
   have Wb:=HI.at hn;have aim:=HI.few n hn;obtain⟨a,c,hV⟩:=HI.form hn;have kn:=Y (HI.row n hn);rw[hV]at Wb kn;obtain⟨m,hm⟩:=aG ((az.l7 L t k n).length);rw[hm]at Wb hV aim kn;have hac:(a=none/\m=0/\c=0)\/∃g,a=some ⟨g,0,none⟩/\m<=c:=by
    rcases kn.2 with ⟨e,_⟩ | ⟨g,cap,cur,e,_,_,h,_⟩
    .simp at e;exact .inl e
    .simp at e;exact .inr ⟨g,e.1,by omega⟩
   obtain⟨J,hJ⟩:∃J,J=min m 2:=⟨_,rfl⟩;obtain⟨v3,w3,hap,hr3,hg3⟩:=aii w2 w.heap.size base J u3 (az.l6 L t k) HD a m c (az.l7 L t k n) kn hm hJ (by have:=az.vZ L t k;omega) HS.turned.size;have hapart:∀j,oT p fK j->¬ some j=u3.ownBlock:=fun j hj e=>by
    have h1:=(hi.ig (HO j hj)).2;have h2:=(HD.lt j e.symm).1;omega
   have HI3:=Y (HI.turned (aL.j9 hg3) hapart);have eJ:=Y (aik HS hg3 (fun j e=>(HD.lt j e).1));have GN:=HI3.at hn;rw[hV]at GN;have Dm:=Y (aih (.slice a m c) base J (az.l7 L t k n) (World.drew w3) (by have:=HI3.row n hn;rw[hV,hm]at this;show World.ownsRow _ _ _ _ _ _ _;rw[hm];exact this) (by rw[hm];exact hJ));obtain⟨a3,n3,c3,hf3⟩:=Dl hr3;rw[hf3]at hap;have cW:=Y hap;have HR3:=Y hr3;have HJ:=Y hJ;have HM:=Y hm;have dM:=Y hV;have jq:=Y hf3;clear hap hr3 hg3 hat hJ hm hV hf3;rcases hac with ⟨rfl,rfl,rfl⟩ | ⟨g,rfl,atm⟩
   .obtain rfl:J=0:=by have:=HJ.out;omega
    rw[show ((0:Nat):Int)=0 from rfl]at Dm
    go_wp2_with (at_builtin;refine wpList_append_run rfl _ _ 24 rfl _ _ _ rfl rfl cW ?_)
    obtain⟨bl,val,hcl,ay⟩:=gu (fun W'=>W'.cell? ⟨p,n,none⟩=some (.slice none 0 0));obtain⟨x0,hx0⟩:=ay (World.drew w3) GN;have hnx:Nonempty bl:=⟨x0⟩;have qL:∀x,(val x).cell? ⟨p,n,none⟩=some (.slice none 0 0):=hcl;have aH:=Y ay;clear ay hcl;refine wa (val:=val) [9] 13 20 [0,1,2,3,4,5,6,7,8,10,11,9,12,13] (by kernel_rfl) (by kernel_rfl) x0 hx0 ?_;rw[hx0];clear hx0
    iterate 11 (refine l8 rfl rfl (fun K hK=>?_);refine⟨by rfl,?_⟩;unfold aQ;go_simp;refine hK _ ?_;clear hK K)
    refine nL rfl rfl (fun K hK=>?_);refine⟨by rfl,?_⟩;unfold aB;go_simp;refine Dm.mono ?_;rintro e w4 ⟨v4,rfl,hr4,hg4,hv4⟩;have nM:w3.grownBy w4 (fK n).ownBlock:=by rw[dM.out];exact⟨hg4.os,hg4.tape,hg4.output,hg4.size,hg4.block⟩
    obtain⟨q1,q2⟩:=HI3.xo hn (w2:=w4) nM;rw[dM.out]at q1;have Dn:=Y nM;obtain⟨a4,n4,c4,wb⟩:=Dl hr4;have HST:=Y (HI3.set hn (w2:=w4) nM (v':=v4) hr4 (by rw[List.length_drop,HM.out];omega) (fun j hj=>.inl (by rw[dM.out,<- hv4];exact hj)));have pW:Hid (v4.ownBlock=(fK n).ownBlock):=by show _=_;rw[dM.out];exact hv4
    refine⟨_,rfl,aH _ q1,hK _ _ ?_⟩;clear hK K hr4 hg4 nM hv4;rw[wb]at HST pW;subst wb;refine l8 rfl rfl (fun K hK=>?_);refine⟨by rfl,?_⟩;unfold aQ;go_simp;refine hK _ ?_;clear hK K;refine wh rfl (fun K hK=>?_);refine⟨by rfl,?_⟩;unfold aB;go_simp;refine hK _ _ ?_;clear hK K;go_wp2;refine⟨⟨k+1,_,by omega,by go_num,?_,by rw[HN.out.1];exact HST.1,eJ.trans HST.2,?_⟩,by simp[intOf];omega⟩
    .rw[HN.out.2,<- jq.out]
     refine eV (eV HR3 (aL.j9 Dn) ?_) (aL.setCell w4 p n _) ?_
     .intro j hj e
      have h1:=(HR3.lt j hj).1;have h2:=(hi.ig (HO j (.inr ⟨n,hn,e.symm⟩))).2;omega
     .intro j hj e
      have h1:=(HR3.lt j hj).1;have h2:=(hi.ig (.inl e)).2;omega
    .rintro j (rfl | ⟨cc,hcc,hj⟩)
     .exact .inl rfl
     .by_cases qM:cc=n
      .subst qM
       rw[az.upd_same,pW.out]at hj;exact HO j (.inr ⟨cc,hcc,hj⟩)
      .rw[az.qN _ _ qM]at hj
       exact HO j (.inr ⟨cc,hcc,hj⟩)
   .by_cases h2:2<m
    .have ain:(2:Int)<m:=by omega
     have aio:(2:Int)<=c:=by omega
     obtain rfl:J=2:=by have:=HJ.out;omega
     rw[show ((2:Nat):Int)=2 from rfl]at Dm
     go_wp2_with (at_builtin;refine wpList_append_run rfl _ _ 24 rfl _ _ _ rfl rfl cW ?_)
     obtain⟨bl,val,hcl,ay⟩:=gu (fun W'=>W'.cell? ⟨p,n,none⟩=some (.slice (some ⟨g,0,none⟩) m c));obtain⟨x0,hx0⟩:=ay (World.drew w3) GN;have hnx:Nonempty bl:=⟨x0⟩;have qL:∀x,(val x).cell? ⟨p,n,none⟩=some (.slice (some ⟨g,0,none⟩) m c):=hcl;have aH:=Y ay;clear ay hcl;refine wa (val:=val) [9] 13 20 [0,1,2,3,4,5,6,7,8,10,11,9,12,13] (by kernel_rfl) (by kernel_rfl) x0 hx0 ?_;rw[hx0];clear hx0
     iterate 11 (refine l8 rfl rfl (fun K hK=>?_);refine⟨by rfl,?_⟩;unfold aQ;go_simp;refine hK _ ?_;clear hK K)
     refine nL rfl rfl (fun K hK=>?_);refine⟨by rfl,?_⟩;unfold aB;go_simp;refine Dm.mono ?_;rintro e w4 ⟨v4,rfl,hr4,hg4,hv4⟩;have nM:w3.grownBy w4 (fK n).ownBlock:=by rw[dM.out];exact⟨hg4.os,hg4.tape,hg4.output,hg4.size,hg4.block⟩
     obtain⟨q1,q2⟩:=HI3.xo hn (w2:=w4) nM;rw[dM.out]at q1;have Dn:=Y nM;obtain⟨a4,n4,c4,wb⟩:=Dl hr4;have HST:=Y (HI3.set hn (w2:=w4) nM (v':=v4) hr4 (by rw[List.length_drop,HM.out];omega) (fun j hj=>.inl (by rw[dM.out,<- hv4];exact hj)));have pW:Hid (v4.ownBlock=(fK n).ownBlock):=by show _=_;rw[dM.out];exact hv4
     refine⟨_,rfl,aH _ q1,hK _ _ ?_⟩;clear hK K hr4 hg4 nM hv4;rw[wb]at HST pW;subst wb;refine l8 rfl rfl (fun K hK=>?_);refine⟨by rfl,?_⟩;unfold aQ;go_simp;refine hK _ ?_;clear hK K;refine wh rfl (fun K hK=>?_);refine⟨by rfl,?_⟩;unfold aB;go_simp;refine hK _ _ ?_;clear hK K;go_wp2;refine⟨⟨k+1,_,by omega,by go_num,?_,by rw[HN.out.1];exact HST.1,eJ.trans HST.2,?_⟩,by simp[intOf];omega⟩
     .rw[HN.out.2,<- jq.out]
      refine eV (eV HR3 (aL.j9 Dn) ?_) (aL.setCell w4 p n _) ?_
      .intro j hj e
       have h1:=(HR3.lt j hj).1;have h2:=(hi.ig (HO j (.inr ⟨n,hn,e.symm⟩))).2;omega
      .intro j hj e
       have h1:=(HR3.lt j hj).1;have h2:=(hi.ig (.inl e)).2;omega
     .rintro j (rfl | ⟨cc,hcc,hj⟩)
      .exact .inl rfl
      .by_cases qM:cc=n
       .subst qM
        rw[az.upd_same,pW.out]at hj;exact HO j (.inr ⟨cc,hcc,hj⟩)
       .rw[az.qN _ _ qM]at hj
        exact HO j (.inr ⟨cc,hcc,hj⟩)
    .have ain:¬ (2:Int)<m:=by omega
     have aio:(m:Int)<=c:=by omega
     obtain rfl:J=m:=by have:=HJ.out;omega
     go_wp2_with (at_builtin;refine wpList_append_run rfl _ _ 24 rfl _ _ _ rfl rfl cW ?_)
     obtain⟨bl,val,hcl,ay⟩:=gu (fun W'=>W'.cell? ⟨p,n,none⟩=some (.slice (some ⟨g,0,none⟩) J c));obtain⟨x0,hx0⟩:=ay (World.drew w3) GN;have hnx:Nonempty bl:=⟨x0⟩;have qL:∀x,(val x).cell? ⟨p,n,none⟩=some (.slice (some ⟨g,0,none⟩) J c):=hcl;have aH:=Y ay;clear ay hcl;refine wa (val:=val) [9] 13 20 [0,1,2,3,4,5,6,7,8,10,11,9,12,13] (by kernel_rfl) (by kernel_rfl) x0 hx0 ?_;rw[hx0];clear hx0
     iterate 11 (refine l8 rfl rfl (fun K hK=>?_);refine⟨by rfl,?_⟩;unfold aQ;go_simp;refine hK _ ?_;clear hK K)
     refine nL rfl rfl (fun K hK=>?_);refine⟨by rfl,?_⟩;unfold aB;go_simp;refine Dm.mono ?_;rintro e w4 ⟨v4,rfl,hr4,hg4,hv4⟩;have nM:w3.grownBy w4 (fK n).ownBlock:=by rw[dM.out];exact⟨hg4.os,hg4.tape,hg4.output,hg4.size,hg4.block⟩
     obtain⟨q1,q2⟩:=HI3.xo hn (w2:=w4) nM;rw[dM.out]at q1;have Dn:=Y nM;obtain⟨a4,n4,c4,wb⟩:=Dl hr4;have HST:=Y (HI3.set hn (w2:=w4) nM (v':=v4) hr4 (by rw[List.length_drop,HM.out];omega) (fun j hj=>.inl (by rw[dM.out,<- hv4];exact hj)));have pW:Hid (v4.ownBlock=(fK n).ownBlock):=by show _=_;rw[dM.out];exact hv4
     refine⟨_,rfl,aH _ q1,hK _ _ ?_⟩;clear hK K hr4 hg4 nM hv4;rw[wb]at HST pW;subst wb;refine l8 rfl rfl (fun K hK=>?_);refine⟨by rfl,?_⟩;unfold aQ;go_simp;refine hK _ ?_;clear hK K;refine wh rfl (fun K hK=>?_);refine⟨by rfl,?_⟩;unfold aB;go_simp;refine hK _ _ ?_;clear hK K;go_wp2;refine⟨⟨k+1,_,by omega,by go_num,?_,by rw[HN.out.1];exact HST.1,eJ.trans HST.2,?_⟩,by simp[intOf];omega⟩
     .rw[HN.out.2,<- jq.out]
      refine eV (eV HR3 (aL.j9 Dn) ?_) (aL.setCell w4 p n _) ?_
      .intro j hj e
       have h1:=(HR3.lt j hj).1;have h2:=(hi.ig (HO j (.inr ⟨n,hn,e.symm⟩))).2;omega
      .intro j hj e
       have h1:=(HR3.lt j hj).1;have h2:=(hi.ig (.inl e)).2;omega
     .rintro j (rfl | ⟨cc,hcc,hj⟩)
      .exact .inl rfl
      .by_cases qM:cc=n
       .subst qM
        rw[az.upd_same,pW.out]at hj;exact HO j (.inr ⟨cc,hcc,hj⟩)
       .rw[az.qN _ _ qM]at hj
        exact HO j (.inr ⟨cc,hcc,hj⟩)
  .have aT:¬ (k:Int)<6:=by omega
   obtain rfl:k=6:=by omega
   have Nu:=Y (V' t 1 wr ht (by omega));have hfr:=HI.free 6;have xR:=Y (HI.next (az.vY t 1));obtain⟨a0,n0,c0,yg⟩:=Dl HD;have HD2:=HD;rw[yg]at HD2
   go_wp2_with fail
   refine Nu.mono ?_;rintro e w2 ⟨rfl,rfl⟩;simp only[];go_wp2;go_ret;refine⟨_,fK,rfl,?_,xR.1,HS.trans xR.2,HO⟩;refine eV HD2 (aL.setCell _ p 6 _) ?_;intro j hj e;have h1:=(HD2.lt j hj).1;have h2:=(hi.ig (.inl e)).2;omega
end
theorem aav{b0:Nat}(W:World)(v:Value)(l:List Ask)(x:Ask)(hr:W.ownsRow b0 95 8 v l.length (bz l))(hl:l.length<=100000)(hb:b0<=W.heap.size):
  ∃v' W',(Builtin.append_ #[24,24] 24 #[v,.slice (some (O W.heap.size 0)) 1 1]).run prog (W.alloc (.cells (aX x) 95))=.ok v' W'/\W'.ownsRow b0 95 8 v' (l++[x]).length (bz (l++[x]))/\(W.alloc (.cells (aX x) 95)).grownBy W' v.ownBlock:=by
 obtain⟨i0,z0,hi,hz0,hz1,hz2,hz3⟩:=GL;obtain⟨v4,w4,hap,hrow,hg,_,_⟩:=run_append_own_at (P:=prog) (w:=W.alloc (.cells (aX x) 95)) b0 24 24 95 i0 z0 8 64 underlying24 hi hz0 hz1 hz2 hz3 (by decide) v l.length (bz l) (World.ownsRow.alloc hr _) (O W.heap.size 0) 1 1 (mO x) rfl
  (fun j u hj=>V6 W x 95 _ rfl j u hj) (fun u hu=>Dk [x] u (by simpa [bz] using hu)) (by unfold maxLen;omega) (by omega) (by simp;omega)
 refine⟨v4,w4,hap,?_,hg⟩;rw[vW,lAq];simpa [bz] using hrow
end Go.Proofs.YtjolccidheflpaaGreatDoor
