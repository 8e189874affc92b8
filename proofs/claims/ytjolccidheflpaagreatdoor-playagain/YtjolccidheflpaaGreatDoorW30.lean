/- Function filled of package batch: the lots of one side's fills. -/
import Derived.Test.YtjolccidheflpaaGreatDoorW25
import Derived.Test.YtjolccidheflpaaGreatDoorW29
import Derived.Test.YtjolccidheflpaaGreatDoorW11
import Derived.Test.YtjolccidheflpaaGreatDoorW08
import Derived.Test.YtjolccidheflpaaGreatDoorW24
namespace Go.Proofs.YtjolccidheflpaaGreatDoor
set_option maxHeartbeats 8000000
set_option maxRecDepth 100000
section
open Go.RowKit
theorem adU (l:List Cv.ag) (sd:Int) (f:Int×Int):(Fs.oD l sd f).length<=1:=by
 unfold Fs.oD;split <;> simp
theorem Kf (l:List Cv.ag) (sd:Int):∀ F,(Fs.filled l sd F).length<=F.length
 | []=>lRq _
 | f::F=>by
  have:=Kf l sd F
  have:=adU l sd f
  rw[Fs.filled,lAq,lCq];omega
theorem adV (l:List Cv.ag) (sd:Int) (F:List (Int×Int)) (f:Int×Int):Fs.filled l sd (F++[f])=Fs.filled l sd F++Fs.oD l sd f:=by
 rw[Fs.R4,Fs.filled,Fs.filled,aNq]
theorem adW (b base AU cap n:Nat) (v:Value) (sd:Int) (l:List Cv.ag) (F:List (Int×Int)) (w:World) (hb:Hid (df w base b v l)) (hl:Hid (l.length<=60)) (hn:Hid (F.length=n)) (hn':n<=400)
  (hF:Hid (∀ i,i<n->w.cell? ⟨AU,i*2,none⟩=some (Qa (eQ F i).1)/\w.cell? ⟨AU,i*2+1,none⟩=some (Qa (eQ F i).2))) :
  Calls Tryz.prog 263 #[Qc b,Qa sd,.slice (some (Qb AU 0)) n cap] w fun e w'=>∃ v',e=.returned v'/\w'.ownsRow w.heap.size 197 5 v' (Fs.filled l sd F).length (flat (Fs.filled l sd F))/\Qd w w':=by
 obtain⟨i0,z0,hi,hz0,hz1,hz2,hz3⟩:=DN;have Hi:=hDq hi;have eG:=hDq hz0;have eH:=hDq hz1;have eI:=hDq hz2;have kQ:=hDq hz3;clear hi hz0 hz1 hz2 hz3;go_enter Tryz.func263,Tryz.ntmps263;go_wp2
 go_loopw [7,14] (fun u i wr=>∃ (k:Nat) (zs:List Cv.ag),k<=n/\i=Qa k/\zs=Fs.filled l sd (F.take k)/\zs.length<=k/\wr.ownsRow w.heap.size 197 5 u zs.length (flat zs)/\Qd w wr) (fun _ i _=>n-(intOf i).toNat)
 case atStart=>exact⟨0,[],Nat.zero_le _,rfl,rfl,lRq _,⟨rfl,.inl ⟨rfl,rfl⟩⟩,bRq _ _⟩
 case round =>
  obtain⟨k,zs,hk,rfl,hzs,hzl,hrow,hbl⟩:=hrel;have R5:=hDq hzs;have iD:=hDq hrow;have gJ:=hDq hbl;clear hzs hrow hbl;by_cases hlt:k<n
  .have aX:(k:Int)<n:=by omega
   obtain⟨c0,c1⟩:=hF.out k hlt;have c0:=cell_later gJ.out c0;have c1:=cell_later gJ.out c1;have my:Hid (Fs.filled l sd (F.take (k+1))=zs++Fs.oD l sd (eQ F k)):=by
    show _=_;rw[adX (by rw[hn.out];exact hlt),adV,<- R5.out]
   obtain⟨⟨id,q⟩,ug⟩:∃ f,eQ F k=f:=⟨_,rfl⟩;rw[ug]at c0 c1 my;clear ug;simp only[]at c0 c1;have hb1:Qd wr (wr.alloc (.cells #[Qa id,Qa q] 300)):=(bRq _ _).alloc (lRq _) _;have jC:=hDq (DR b base v id l (wr.alloc (.cells #[Qa id,Qa q] 300)) ((hb.out.later (gJ.out)).later hb1) hl.out);have hd:(wr.alloc (.cells #[Qa id,Qa q] 300)).heap[wr.heap.size]?=some (.cells #[Qa id,Qa q] 300 (0,0)):=hNq _ _;have HD:=hDq hd;have HB1:=hDq (gJ.out.trans (hb1.mono gJ.out.size));have HR1:=hDq (iD.out.alloc (.cells #[Qa id,Qa q] 300));clear hd hb1;obtain⟨D,R6⟩:∃ D,wr.heap.size=D:=⟨_,rfl⟩;have Eg:=hDq R6;clear R6;cases hh:Cv.has l id with
   | false =>
    have wB:Hid (Fs.oD l sd (id,q)=[]):=by show _=_;unfold Fs.oD;rw[if_neg (by simp[hh])]
    rw[hh,show Bk.jP l id=Cv.z by unfold Bk.jP;rw[hh];rfl]at jC;unfold bU Cv.z at jC
    go_wp2_with fail
    refine jC.out.mono ?_;rintro e w2 ⟨rfl,hb2⟩;have HB2:=hDq (HB1.out.trans (hb2.mono HB1.out.size));have bq:=hDq (cO HR1.out hb2);clear hb2 jC HR1 HB1 HD;simp only[];have au:=hDq (HB2.out.alloc HB2.out.size (.cells #[Qa 0,Qa 0,Qa 0,Qa 0,Qa 0] 197));have HR3:=hDq (bq.out.alloc (.cells #[Qa 0,Qa 0,Qa 0,Qa 0,Qa 0] 197));go_wp2;refine⟨⟨k+1,zs,by omega,by go_num,by rw[my.out,wB.out,aNq],by omega,HR3.out,au.out⟩,by simp[intOf];omega⟩
   | true =>
    rw[hh,show Bk.jP l id=Cv.nth l (Bk.pos l id) by unfold Bk.jP;rw[if_pos hh]]at jC;have wB:Hid (Fs.oD l sd (id,q)=if (Cv.nth l (Bk.pos l id)).sd=sd then [Pu.only (Cv.nth l (Bk.pos l id)) q] else []):=by
     show _=_;unfold Fs.oD;by_cases hs:(Cv.nth l (Bk.pos l id)).sd=sd
     .rw[if_pos ⟨hh,hs⟩,if_pos hs]
     .rw[if_neg (fun h=>hs h.2),if_neg hs]
    generalize Cv.nth l (Bk.pos l id)=X at *;obtain⟨x0,x1,x2,x3,x4⟩:=X;unfold bU at jC;simp only[Pu.only]at wB jC;by_cases hs:x2=sd
    .subst hs
     rw[if_pos rfl]at wB
     go_wp2_with fail
     refine jC.out.mono ?_;rintro e w2 ⟨rfl,hb2⟩;have HB2:=hDq (HB1.out.trans (hb2.mono HB1.out.size));have bq:=hDq (cO HR1.out hb2);have r_:w2.heap[D]?=some (.cells #[Qa id,Qa q] 300 (0,0)):=by rw[<- Eg.out,hb2.block _ (lBq HD.out)];exact HD.out
     rw[Eg.out];have d1:w2.cell? (Qb D 1)=some (Qa q):=by rw[cR w2 D 1 _ _ _ r_];rfl
     have hDl:=lBq r_;clear hb2 jC HR1 HB1 HD r_;have au:=hDq (HB2.out.alloc HB2.out.size (.cells #[Qa x0,Qa x1,Qa x2,Qa x3,Qa q] 197));have HR3:=hDq (bq.out.alloc (.cells #[Qa x0,Qa x1,Qa x2,Qa x3,Qa q] 197));simp only[]
     go_wp2_with (at_builtin;refine wpList_append_own_at _ rfl _ _ 195 rfl w.heap.size 197 i0 z0 5 40 Tryz.underlying195 Hi.out eG.out eH.out eI.out kQ.out (by decide) _ _ _ rfl (HR3.out.alloc _) ⟨w2.heap.size+1,0,none⟩ 1 1 (ep ⟨x0,x1,x2,x3,q⟩) rfl rfl ?c1 ?c2 ?c3 ?c4 ?c5 ?_)
     case c1=>exact fun j u hj=>xY _ ⟨x0,x1,x2,x3,q⟩ 197 _ (by simp) j u hj
     case c2 => exact fun u hu => by
                     simp only[ep,List.mem_cons,List.not_mem_nil,or_false]at hu;rcases hu with rfl | rfl | rfl | rfl | rfl <;> rfl
     case c3=>unfold maxLen;omega
     case c4=>omega
     case c5=>have:=au.out.size;simp at this ⊢;omega
     intro ve we hown' hgrow _ hloc;have jb:Hid (we.ownsRow w.heap.size 197 5 ve (zs++[Cv.ag.mk x0 x1 x2 x3 q]).length (flat (zs++[Cv.ag.mk x0 x1 x2 x3 q]))):=by
      show World.ownsRow _ _ _ _ _ _ _;rw[show flat (zs++[Cv.ag.mk x0 x1 x2 x3 q])=flat zs++ep ⟨x0,x1,x2,x3,q⟩ by simp[flat],lAq];exact hown'
     have Ke:=(HR3.out.alloc (.cells #[Qa x0,Qa x1,Qa x2,Qa x3,Qa q] 197)).lt;have lB:Hid (Qd w we):=(au.out.alloc au.out.size _).grown hgrow (by have:=au.out.size;simp at this ⊢;omega) (fun j hj=>(Ke j hj).1);clear hown' hgrow hloc Ke HR3 au bq HB2 d1;go_wp2;refine⟨⟨k+1,zs++[Cv.ag.mk x0 x1 x2 x3 q],by omega,by go_num,by rw[my.out,wB.out],by simp;omega,jb.out,lB.out⟩,by simp[intOf];omega⟩
    .have hs':(x2==sd)=false:=by simpa using hs
     rw[if_neg hs]at wB
     go_wp2_with fail
     refine jC.out.mono ?_;rintro e w2 ⟨rfl,hb2⟩;have HB2:=hDq (HB1.out.trans (hb2.mono HB1.out.size));have bq:=hDq (cO HR1.out hb2);clear hb2 jC HR1 HB1 HD;have au:=hDq (HB2.out.alloc HB2.out.size (.cells #[Qa x0,Qa x1,Qa x2,Qa x3,Qa x4] 197));have HR3:=hDq (bq.out.alloc (.cells #[Qa x0,Qa x1,Qa x2,Qa x3,Qa x4] 197));simp only[];go_wp2;refine⟨⟨k+1,zs,by omega,by go_num,by rw[my.out,wB.out,aNq],by omega,HR3.out,au.out⟩,by simp[intOf];omega⟩
  .have aX:¬ (k:Int)<n:=by omega
   have hzz:zs=Fs.filled l sd F:=by rw[R5.out,List.take_of_length_le (by rw[hn.out];omega)]
   subst hzz;go_wp2;go_ret;exact⟨_,rfl,iD.out,gJ.out⟩
theorem R7 (b base:Nat) (v iE:Value) (sd:Int) (l:List Cv.ag) (F:List (Int×Int)) (w:World) (hb:Hid (df w base b v l)) (hl:Hid (l.length<=60)) (hn:F.length<=400) (hF:Hid (Kg w iE F)) :
  Calls Tryz.prog 263 #[Qc b,Qa sd,iE] w fun e w'=>∃ v',e=.returned v'/\w'.ownsRow w.heap.size 197 5 v' (Fs.filled l sd F).length (flat (Fs.filled l sd F))/\Qd w w':=by
 rcases hF.out with ⟨rfl,a,cap,rfl⟩ | ⟨AU,cap,rfl,hc⟩
 .go_enter Tryz.func263,Tryz.ntmps263
  go_wp2;refine wp_loop_rounds 1 ?_;rw[rounds_succ];go_wp2;go_ret;exact⟨_,rfl,⟨rfl,.inl ⟨rfl,rfl⟩⟩,bRq _ _⟩
 .exact adW b base AU cap F.length v sd l F w hb hl rfl hn hc
def fM (w:World) (v:Value) (F:List (Int×Int)):Prop :=
 (F=[]/\∃ a cap,v=.slice a 0 cap)\/∃ g cap cur,v=.slice (some (Qb g 0)) F.length cap/\(∀ i,i<F.length->w.cell? ⟨g,i*2,none⟩=some (Qa (eQ F i).1)/\w.cell? ⟨g,i*2+1,none⟩=some (Qa (eQ F i).2))/\w.heap[g]?=some (.cells cur 300 (0,0))
section
variable {w w':World} {v:Value} {F:List (Int×Int)}
theorem fM.S8 (h:fM w v F):Kg w v F:=by
 rcases h with h | ⟨g,cap,cur,h1,h2,_⟩
 .exact .inl h
 .exact .inr ⟨g,cap,h1,h2⟩
theorem fM.keep (h:fM w v F) (hk:∀ (g:Nat) (cur:Array Value),w.heap[g]?=some (Obj.cells cur 300 (0,0))->w'.heap[g]?=w.heap[g]?):fM w' v F:=by
 rcases h with h | ⟨g,cap,cur,h1,h2,h3⟩
 .exact .inl h
 .refine .inr ⟨g,cap,cur,h1,fun i hi=>?_,by rw[hk g cur h3];exact h3⟩
  rw[World.cell?_of_block (a:=⟨g,i*2,none⟩) (hk g cur h3),World.cell?_of_block (a:=⟨g,i*2+1,none⟩) (hk g cur h3)];exact h2 i hi
theorem fM.later (h:fM w v F) (hb:Qd w w'):fM w' v F:=h.keep fun g _ hg=>hb.block g (lBq hg)
theorem fM.save {q:Nat} (h:fM w v F) (hs:aM w w' q) {a:Array Value} {T:TypeId} (hq:w.heap[q]?=some (.cells a T (0,0))) (hT:T≠300):fM w' v F :=
 h.keep fun g _ hg=>hs.block g (lBq hg) (Ne.symm (aI hq hg hT))
theorem fM.book {base p:Nat} {u u':Value} {l:List Cv.ag} (h:fM w v F) (hb:df w base p u l) (hs:Step w w' p u u'):fM w' v F :=
 h.keep fun g _ hg=>hs.only.block g (lBq hg) (fun e=>by
  have:g=p:=by simpa using e
  exact aI hg hb.cell (by decide) this) (fun e=>jc hb.row hg (by decide) e.symm)
theorem fM.Be {base:Nat} (h:w.ownsRow base 300 2 v F.length (eL F)):fM w v F:=by
 rcases aey h with h1 | ⟨g,cap,h1,h2⟩
 .exact .inl h1
 .rcases h.2 with ⟨e,_⟩ | ⟨g',cap',cur,e,hg,dX,_⟩
  .rw[e]at h1;cases h1
  .rw[e]at h1
   simp only[Value.slice.injEq,Option.some.injEq,Addr.mk.injEq]at h1;obtain⟨⟨rfl,_,_⟩,_,rfl⟩:=h1;exact .inr ⟨g',cap',cur,e,h2,dX⟩
theorem fM.val (h:fM w v F):∃ a cap,v=.slice a F.length cap:=by
 rcases h with ⟨rfl,a,cap,rfl⟩ | ⟨g,cap,cur,rfl,_⟩
 .exact⟨a,cap,rfl⟩
 .exact⟨_,_,rfl⟩
end
theorem eC.nil {w:World} {g g':Nat} {v:Value} (h:eC w g v []):eC w g' v []:=by
 rcases h with h | ⟨o,cap,cur,h1,h2,h3,h4⟩
 .exact .inl h
 .exact .inl ⟨rfl,_,_,h1⟩
theorem aez {w1 w2:World} {B S9 S_:Nat} {v1 v2:Value} {l1 l2:List Cv.ag} (h1:w1.ownsRow S9 197 5 v1 l1.length (flat l1)) (h12:Qd w1 w2) (h2:w2.ownsRow S_ 197 5 v2 l2.length (flat l2)) (hb1:B<=S9) (hb2:w1.heap.size<=S_) (hB:B<=w1.heap.size) :
  ∃ g1 g2,eC w2 g1 v1 l1/\eC w2 g2 v2 l2/\g1≠g2/\B<=g1/\B<=g2:=by
 obtain⟨g1,a1,c1⟩:=eC.Be (cO h1 h12);obtain⟨g2,a2,c2⟩:=eC.Be h2;have yJ:=h1.lt;rcases c1 with rfl | ⟨c1,e1⟩
 .rcases c2 with rfl | ⟨c2,e2⟩
  .exact⟨B,B+1,a1.nil,a2.nil,by omega,by omega,by omega⟩
  .exact⟨g2+1,g2,a1.nil,a2,by omega,by omega,by omega⟩
 .have:=yJ g1 e1
  rcases c2 with rfl | ⟨c2,e2⟩
  .exact⟨g1,g1+1,a1,a2.nil,by omega,by omega,by omega⟩
  .exact⟨g1,g2,a1,a2,by omega,by omega,by omega⟩
theorem aeH {l:List Cv.ag} {price:Int} {bh:List (Int×Int)} (hok:Bk.Good l) (hF:Fs.wj l price bh) {k:Nat} (hk:k<bh.length) :
  Bk.ma (Fs.ig (bh.take k) l) (eQ bh k).1 (eQ bh k).2=0/\Bk.mX (Fs.ig (bh.take k) l) (eQ bh k).1 (eQ bh k).2=Fs.ig (bh.take (k+1)) l/\Bk.Good (Fs.ig (bh.take k) l):=by
 have he:eQ bh k=bh[k]:=by unfold eQ;rw[gE,List.getElem?_eq_getElem hk];rfl
 have hpos:∀ f∈bh,1<=f.2:=fun f hf=>(hF.pos f hf).1;obtain⟨hq,x,hx,hid⟩:=hF.pos _ (List.getElem_mem hk);have h1:=congrFun (Fs.Lx bh hk) (bh[k]).1;simp only[Fu.more,if_true]at h1;have h2:=Fs.Te (bh[k]).1 bh hpos (k+1);have h3:=(hF.le x hx).2;rw[hid]at h3;have h4:Ra.got x.id (bh.take k)+(bh[k]).2<=x.q:=by rw[hid];omega
 have hc:Ra.got x.id (bh.take k)<x.q:=by omega
 have hg:Bk.Good (Fs.ig (bh.take k) l):=Fs.Tf hok fun y _=>Fs.FT _ _ fun f hf=>hpos f (List.mem_of_mem_take hf);rw[he,<- hid];refine⟨?_,?_,hg⟩
 .have hh:Cv.has (Fs.ig (bh.take k) l) x.id=true:=Fu.LA.2 ⟨x,hx,rfl,hc⟩
  have hn:Cv.nth (Fs.ig (bh.take k) l) (Bk.pos (Fs.ig (bh.take k) l) x.id)=Bk.less x (Ra.got x.id (bh.take k)):=Fu.Tg (c:=fun id=>Ra.got id (bh.take k)) hok.once hx hc;unfold Bk.ma;rw[if_pos hh,if_pos];rw[hn];have e5:(bh[k]).2<=(Bk.less x (Ra.got x.id (bh.take k))).q:=by show (bh[k]).2<=x.q-Ra.got x.id (bh.take k);omega
  unfold ah.aG;rw[bEq];exact⟨decide_eq_true hq,decide_eq_true e5⟩
 .have:=Fu.aeI (c:=fun id=>Ra.got id (bh.take k)) hok.once hx hq h4
  unfold Fs.ig;rw[Fs.Lx bh hk,this,hid]
section
variable {w W:World} {F P:Nat} {I b:Nat->Nat} {v:Nat->Value} {L:Nat->List Cv.ag} {pf n:Nat->Int} {wd h:Int} {ev:Nat->Value}
theorem aeJ {wr:World} {B:Nat} {f:Nat->Int} {o:Oper} {a:Act} {K:Act->Prop} (hp:a_ wr 213 B f) (x:Operand) (ho:o.op=.load 213 x) (hx:a.eval x=.pointer (some ⟨B,0,none⟩)) (hk:K (a.put o.dst (.agg (cu f)))):o.quiet Tryz.prog a (fun w'=>∃ m,w'=wr.drewN m) K :=
 ⟨_,fun w ⟨m,hm⟩=>by
  subst hm;unfold Oper.quietAt execOp;simp only[ho,hx,Instr.loadAt,Instr.sureAddr,Sem.run_bind,Sem.run_pure,Result.andThen_ok,LB (hp.drew m)];exact⟨rfl,rfl⟩,hk⟩
theorem aeK (T:TypeId) (v1 v5 v6 v7:Value):tH T v1 v5 v6 v7 0=.nilIface:=rfl
theorem aef (i:Nat) (hi:i<3) (price:Int) (iE:Value) (bh:List (Int×Int)) (hF:Hid (bk w W F P I b v L pf n wd h)) (he:Hid (eA w ev)) (hok:Hid (Fs.dM L pf)) (LC:Hid (Fs.wj (L i) price bh)) (hp1:1<=price) (hp2:price<=1000) (hrow:Hid (fM W iE bh)) (hlen:bh.length<=200) (hnil:bh≠[]) :
  Calls Tryz.prog 223 #[.pointer (some ⟨F,0,none⟩),.int .i64 i,.int .i64 price,iE] W fun e W'=>e=.returned .nilIface/\∃ v',bk w W' F P I b v' (upd L i (Fs.ig bh (L i))) (Fs.ia pf i price (L i) bh) n wd h/\bK W W' P I b v v'/\fM W' iE bh/\Fs.dM (upd L i (Fs.ig bh (L i))) (Fs.ia pf i price (L i) bh):=by
 have ci:=hF.out.wy hi;have cb:=hF.out.wz hi;have uw:=hF.out.cellP;have h0:(0:Int)<=(i:Int):=by omega
 have h3:(i:Int)<3:=by omega
 have Ti:=hDq (aeL P pf W hF.out.cQ);obtain⟨Bo,LD,ng⟩:∃ Bo LD,iE=.slice (some ⟨Bo,0,none⟩) bh.length LD:=by
  rcases hrow.out with ⟨h,_⟩ | ⟨g,cap,cur,h1,_⟩
  .exact absurd h hnil
  .exact⟨g,cap,h1⟩
 subst ng;obtain⟨m,hm⟩:∃ m,bh.length=m:=⟨_,rfl⟩;obtain⟨G,hG⟩:∃ G,Fs.ia pf i price (L i) bh=G:=⟨_,rfl⟩;rw[hG];have HM:=hDq hm;have HG:=hDq hG;rw[hm]at hlen hrow;rw[hm];clear hm hG;go_enter Tryz.func223,Tryz.ntmps223
 go_wp2_with fail
 refine Ti.out.mono ?_;rintro e w1 ⟨rfl,Tj,hb1⟩;have k0:=hDq Tj;have HB1:=hDq hb1;clear Tj hb1 Ti ci cb uw;obtain⟨NX,FU⟩:∃ NX,W.heap.size=NX:=⟨_,rfl⟩;rw[FU]at k0;rw[FU];have nE:=hDq FU;clear FU;have HR1:=hDq (hrow.out.later HB1.out);have LF:=hDq ((hF.out.aH i hi).later HB1.out);have Tk:=hDq (R7 (b i) w.heap.size (v i) _ 0 (L i) bh w1 LF.out (hok.out.aH i hi).len (by rw[HM.out];omega) HR1.out.S8);simp only[]
 go_wp2_with fail
 refine Tk.out.mono ?_;rintro e w2 ⟨vb,rfl,uy,hb2⟩;have Tn:=hDq uy;have sA:=hDq hb2;clear uy hb2 Tk;have Tp:=hDq (R7 (b i) w.heap.size (v i) _ 1 (L i) bh w2 (LF.out.later sA.out) (hok.out.aH i hi).len (by rw[HM.out];omega) (HR1.out.later sA.out).S8);simp only[]
 go_wp2_with fail
 refine Tp.out.mono ?_;rintro e w3 ⟨vs,rfl,hos,hb3⟩;have Tq:=hDq hos;have LG:=hDq hb3;clear hos hb3 Tp;have LH:Below w1.heap.size w1 w3:=sA.out.trans (LG.out.mono sA.out.size);have FV:Below W.heap.size W w3:=HB1.out.trans (LH.mono HB1.out.size);obtain⟨fP,gs,uy,hos,hne,hgb,FW⟩:=aez (B:=W.heap.size) Tn.out LG.out Tq.out HB1.out.size (lRq _) (lTq HB1.out.size sA.out.size);have kA:=hok.out.start hi LC.out;have hl1:=Kf (L i) 0 bh;have hl2:=Kf (L i) 1 bh;rw[HM.out]at hl1 hl2;have iP:=hDq (aeM NX i W.heap.size fP gs price vb vs _ _ pf _ ev w3 hi hp1 hp2 (fun W' hb=>(hF.out.bY he.out).below (FV.trans hb)) ⟨FV.size,by rw[nE.out];exact lRq _,hgb,FW⟩ hne uy hos (k0.out.gK LH) kA (by show _<=_;omega) (by show _<=_;omega));have Tt:=hDq FV;clear LH FV uy hos hne hgb FW kA hl1 hl2 Tn Tq sA LG HB1 k0 HR1 LF;simp only[]
 go_wp2_with fail
 refine iP.out.mono ?_;rintro e w4 ⟨rfl,⟨Tv,hg4,Tw,dm⟩,hb4⟩;have Tx:Below W.heap.size W w4:=Tt.out.trans hb4;have hset:=hok.out.settled hi LC.out hg4 Tw dm;have qE:=hDq hset;have nx:=hDq Tv;have FX:=hDq Tx;clear Tv hg4 Tw dm hb4 Tx hset iP Tt;rw[HG.out]at qE nx;have dr:=hDq (hF.out.later FX.out);have cq:=hDq (bK.of_below FX.out P I b v);have bR:=hDq (hrow.out.later FX.out);clear FX HG;have ij:=hDq (fun k (hk:k<bh.length)=>aeH (hok.out.aH i hi) LC.out hk);have HST:Hid (upd L i (Fs.ig (bh.take 0) (L i))=L):=by
  show _=_;rw[List.take_zero,show Fs.ig [] (L i)=L i from Fu.Tz (hok.out.aH i hi).oks,qI]
 have aoo:Hid (w.heap.size<=NX):=by show _<=_;rw[<- nE.out];exact hF.out.bG.size
 simp only[]
 go_wp2_with fail
 go_loopw [44] (fun c wr=>∃ (k:Nat) (lJ:Nat->Value),k<=m/\c=.int .i64 k/\bk w wr F P I b lJ (upd L i (Fs.ig (bh.take k) (L i))) pf n wd h/\bK W wr P I b v lJ/\fM wr (.slice (some ⟨Bo,0,none⟩) m LD) bh/\a_ wr 213 NX G) (fun c _=>m-(intOf c).toNat)
 case atStart=>exact⟨0,v,Nat.zero_le _,rfl,by rw[HST.out];exact dr.out,cq.out,bR.out,nx.out⟩
 case round =>
  obtain⟨k,lJ,hk,rfl,hf,hs,hr,hp⟩:=hrel;have oB:=hDq hf;have uf:=hDq hs;have qK:=hDq hr;have Bp:=hDq hp;clear hf hs hr hp dr cq bR nx;by_cases hlt:k<m
  .have aX:(k:Int)<m:=by omega
   have hcell:wr.cell? ⟨Bo,k*2,none⟩=some (.int .i64 (eQ bh k).1)/\wr.cell? ⟨Bo,k*2+1,none⟩=some (.int .i64 (eQ bh k).2):=by
    rcases qK.out with ⟨h,_⟩ | ⟨g,cap,cur,h1,h2,_⟩
    .exact absurd h hnil
    .simp only[Value.slice.injEq,Option.some.injEq,Addr.mk.injEq]at h1
     obtain⟨⟨rfl,_,_⟩,_,_⟩:=h1;exact h2 k (by rw[HM.out];exact hlt)
   obtain⟨c0,c1⟩:=hcell;obtain⟨hC,hL,hG⟩:=ij.out k (by rw[HM.out];exact hlt);obtain⟨⟨id,q⟩,ug⟩:∃ f,eQ bh k=f:=⟨_,rfl⟩;rw[ug]at c0 c1 hC hL;simp only[]at c0 c1 hC hL;have hb1:Below wr.heap.size wr (wr.alloc (.cells #[.int .i64 id,.int .i64 q] 300)):=(bRq _ _).alloc (lRq _) _;have jD:=hDq (oB.out.later hb1);have d_:=hDq (uf.out.below hb1);have bA:=hDq (qK.out.later hb1);have jZ:=hDq (Bp.out.gK hb1);have FY:=jD.out.aH i hi;rw[upd_same]at FY;have FZ:=hDq FY;have htk:=abg (b i) w.heap.size (lJ i) id q (Fs.ig (bh.take k) (L i)) 412 (ev 1) (ev 5) (ev 6) (ev 7) (wr.alloc (.cells #[.int .i64 id,.int .i64 q] 300)) (jD.out.bY he.out).Ej FY hG;rw[hC,hL,aeK]at htk;have j3:=hDq htk;clear hb1 FY htk hC hL hG ug oB uf qK Bp
   go_wp2_with fail
   refine j3.out.mono ?_;rintro e ai ⟨rfl,v6,hb6,gL⟩;have LI:=jD.out.book hi hb6 gL;rw[rZ]at LI;have fe:=hDq LI;have dA:=hDq (d_.out.trans (bK.Ek hi gL P I));have bz:=hDq (bA.out.book FZ.out gL);have qR:Hid (a_ ai 213 NX G):=by
    have wH:=jZ.out;show _=_;rw[gL.only.block NX (lBq wH) (fun e=>by
     have:NX=b i:=by simpa using e
     exact aI wH FZ.out.cell (by decide) this) (fun e=>jc FZ.out.row wH (by decide) e.symm)]
    exact wH
   clear hb6 gL LI j3 jD d_ bA jZ FZ;simp only[];go_wp2;refine⟨⟨k+1,_,by omega,by go_num,fe.out,dA.out,bz.out,qR.out⟩,by simp[intOf];omega⟩
  .have aX:¬ (k:Int)<m:=by omega
   have dW:bh.take k=bh:=List.take_of_length_le (by rw[HM.out];omega);rw[dW]at oB;clear dW ij HST;have uw:=oB.out.cellP;have aeN:∀ q,(loadVar 213 ⟨NX,0,none⟩).run Tryz.prog (wr.drewN q)=.ok (.agg (cu G)) (wr.drewN q):=fun q=>LB (Bp.out.drew q)
   go_wp2_with fail
   refine jT 8 (by kernel_rfl) (by kernel_rfl) ?_;simp only[List.take_succ_cons,List.take_zero,List.drop_succ_cons,List.drop_zero]
   iterate 6 (first | go_big_quiet_step (fail) | quiet_step (fail))
   refine BigFrame.wpQuiet_want rfl (fun K hK=>aeJ Bp.out (.tmp 63) rfl rfl (hK _ ?_));simp only[Act.put]
   repeat (first | go_big_quiet_step (fail) | quiet_step (fail))
   refine wpQuiet_nil ?_;intro _ hw';obtain⟨nq,hw''⟩:=hw';subst hw'';have kC:=hDq (oB.out.later (dL nq));have lI:=hDq (uf.out.below (dL nq));have fH:=hDq (qK.out.later (dL nq));clear oB uf qK Bp uw aeN hK;generalize wr.drewN nq=br at *
   go_wp2_with (refine F0 (B:=P) G (f:=pf) kC.out.cQ rfl (.tmp 65) (.tmp 64) rfl rfl rfl ?_)
   go_ret;refine⟨rfl,lJ,kC.out.purse (kC.out.cQ.stored G) (aM.setRow _ _ _),lI.out.trans (bK.Ki (aM.setRow _ _ _) I b lJ),fH.out.save (aM.setRow _ _ _) kC.out.cQ (by decide),qE.out⟩
end
theorem AY {l:List Cv.ag} (h:Bk.Good l):Cv.d8 l:=by
 refine⟨by have:=h.len;omega,fun i hi=>?_⟩;unfold Cv.mZ;rw[bEq];have Tb:Cv.nth l i=l[i]:=by unfold Cv.nth;rw[gE,List.getElem?_eq_getElem hi];rfl
 refine⟨by rw[Tb];exact h.oks _ (List.getElem_mem hi),?_⟩;rw[Bool.not_eq_true'];cases hh:Cv.has (l.take i) (Cv.nth l i).id with
 | false=>rfl
 | true =>
  exfalso;unfold Cv.has at hh;rw[List.any_eq_true]at hh;obtain⟨x,hx,he⟩:=hh;obtain⟨j,hj,rfl⟩:=List.mem_iff_getElem.1 hx;have bI:j<i:=by simp only[List.length_take]at hj;omega
  rw[List.getElem_take]at he;have e1:(l[j]'(by omega)).id=(l[i]).id:=by rw[<- Tb];simpa using he
  have hn:(l.map (·.id)).Nodup:=h.once;have h3:=List.pairwise_iff_getElem.1 hn j i (by simp;omega) (by simpa using hi) bI;exact h3 (by simpa using e1)
theorem Tc {l:List Cv.ag} (hl:Cv.d9 l) (ref:Int):∀ k:Nat,∃ p v,Cv.fD l ref k p v
 | 0=>⟨0,0,Cv.fD.start l ref⟩
 | k+1=>by
  obtain⟨p,v,hw⟩:=Tc hl ref k;have e:((k+1:Nat):Int)=(k:Int)+1:=by omega
  rw[e];cases hb:Cv.tM (Cv.dy l (k+1)) (Cv.left l (k+1)) (Cv.away ref (k+1)) v (Cv.wl l p) (Cv.gb ref p) with
  | true=>exact⟨_,_,hw.take hl (by omega) hb⟩
  | false=>exact⟨_,_,hw.keep hl hb⟩
def Lv (A D F:Nat) (ra rd kF:Obj) (W:World):Prop:=W.heap[A]?=some ra/\W.heap[D]?=some rd/\W.heap[F]?=some kF
theorem AB (A D F:Nat) (ra rd kF:Obj):∃ (X:Type) (val:X->World),(∀ x,Lv A D F ra rd kF (val x))/\∀ W,Lv A D F ra rd kF W->∃ x,val x=W :=
 ⟨{ W:World // Lv A D F ra rd kF W },fun x=>x.1,fun x=>x.2,fun W h=>⟨⟨W,h⟩,rfl⟩⟩
theorem J5 {w:World} {base:Nat} {v:Value} {l:List Cv.ag} (h:w.ownsRow base 197 5 v l.length (flat l)):fU w v l:=by
 obtain⟨g,h1,_⟩:=eC.Be h;rcases h1 with h1 | ⟨o,cap,cur,e,h2,h3,_⟩
 .exact .inl h1
 .exact .inr ⟨g,o,cap,e,h2,h3⟩
namespace Fl
def oL (s:Int) (l:List Cv.ag) (o:Bool) (p vol:Int):List (Int×Int):=if o=true/\0<vol then Ra.fills s l p vol else []
end Fl
theorem aed (v:Value) (l:List Cv.ag) (price vol s:Int) (T:TypeId) (v1 v2 v6 v7:Value) (w:World) (hv:fU w v l) (he:h9 w T v1 v6 v7) (c2:w.cell? (Qb 3 0)=some (.iface T v2)) (hf:Ra.gW l price vol) (hs:Ra.IsU s) :
  Calls Tryz.prog 222 #[v,Qa price,Qa vol,.int .u32 s] w fun e w'=>∃ v',e=.returned (.tuple #[v',.nilIface])/\fM w' v' (Ra.fills s l price vol)/\Qd w w':=by
 obtain⟨hw,⟨h1,h2⟩,h3,h4⟩:=hf;have hvl:=aeD hw price;obtain⟨a,n,cap,rfl⟩:=hv.form;have rT:=aeE a n cap price vol (Cv.dy l price) T v2 w (I9 _ l T v1 v6 v7 w hv he hw) c2 (by show ah.aG price 1 1000=true;simp[ah.aG,h1,h2]) (by omega) (fun w1 hb=>acn _ l price T v1 v6 v7 w1 (hv.later hb) (he.later hb) hw);rw[if_neg (by omega)]at rT;have hl:=Ra.Td s (l:=l) (price:=price) (vol:=vol) ⟨hw,⟨h1,h2⟩,h3,h4⟩;refine(aeF a n cap price vol s (Ra.su s) l _ _ w rT hv hw h1 h2 h3 (by omega) hs (Ra.aeG hs) ?_ rfl rfl hl.1 hl.2).mono ?_
 .unfold Ra.su
  by_cases e:s=4294967295
  .exact .inl ⟨e,by rw[if_pos e]⟩
  .exact .inr ⟨hs.1,by have:=hs.2;omega,by rw[if_neg e]⟩
 .rintro e w' ⟨v',rfl,hr,hb⟩
  exact⟨v',rfl,fM.Be hr,hb⟩
def AX (p vol:Int) (o:Bool) (v:Value):Value:=.agg #[Qa p,Qa vol,.bool o,v]
theorem wF {W:World} {R:Nat} (hz:W.heap[R]?=some (.cells #[Qa 0,Qa 0,.bool false,.slice none 0 0] 296 (0,0))) (p vol:Int) (o:Bool) (u:Value) :
  ((((W.setCell (Qb R 0) (Qa p)).setCell (Qb R 1) (Qa vol)).setCell (Qb R 2) (.bool o)).setCell (Qb R 3) u).heap[R]?=some (.cells #[Qa p,Qa vol,.bool o,u] 296 (0,0)):=by
 have h0:(W.setCell (Qb R 0) (Qa p)).heap[R]?=some (.cells #[Qa p,Qa 0,.bool false,.slice none 0 0] 296 (0,0)):=by
  rw[setCell_eq_setRow _ R 0 _ _ _ _ hz];exact setRow_heap _ R _ _ _ _ hz
 have h1:((W.setCell (Qb R 0) (Qa p)).setCell (Qb R 1) (Qa vol)).heap[R]?=some (.cells #[Qa p,Qa vol,.bool false,.slice none 0 0] 296 (0,0)):=by
  rw[setCell_eq_setRow _ R 1 _ _ _ _ h0];exact setRow_heap _ R _ _ _ _ h0
 have h2:(((W.setCell (Qb R 0) (Qa p)).setCell (Qb R 1) (Qa vol)).setCell (Qb R 2) (.bool o)).heap[R]?=some (.cells #[Qa p,Qa vol,.bool o,.slice none 0 0] 296 (0,0)):=by
  rw[setCell_eq_setRow _ R 2 _ _ _ _ h1];exact setRow_heap _ R _ _ _ _ h1
 rw[setCell_eq_setRow _ R 3 _ _ _ _ h2];exact setRow_heap _ R _ _ _ _ h2
theorem aM.put {W W1:World} {q:Nat} (h:aM W W1 q) (o:Nat) (x:Value):aM W (W1.setCell (Qb q o) x) q:=h.trans (aM.setCell _ _ _ _)
theorem bK.newer {W W1 W2:World} {P:Nat} {I b:Nat->Nat} {v v1:Nat->Value} (h:bK W W1 P I b v v1) {q:Nat} (hs:aM W1 W2 q) (hq:W.heap.size<=q):bK W W2 P I b v v1 :=
 ⟨hs.os.trans h.os,hs.tape.trans h.tape,hs.output.trans h.output,lTq h.size hs.size,fun k hk h1 h2=>by rw[hs.block k (Nat.lt_of_lt_of_le hk h.size) (by omega)];exact h.keep k hk h1 h2,h.new⟩
section
variable {w W:World} {F P:Nat} {I b:Nat->Nat} {v:Nat->Value} {L:Nat->List Cv.ag} {pf n:Nat->Int} {wd h:Int} {ev:Nat->Value}
theorem aeC (i:Nat) (hi:i<3) (s p vol:Int) (hF:Hid (bk w W F P I b v L pf n wd h)) (he:Hid (eA w ev)) (hok:Hid (Fs.dM L pf)) (AV:Hid (aZ.jv (n (i*2)) (n (i*2+1))=true)) (K8:Hid (aZ.iW wd h=true)) (jS:Hid (Cv.fD (L i) (n (i*2)) 1000 p vol)) (hst:aZ.og (n (i*2)) (n (i*2+1)) wd p vol=false\/vol=0) :
  Calls Tryz.prog 191 #[Qc F,Qa i,.int .u32 s] W fun e W'=>e=.returned (.tuple #[AX p vol (aZ.og (n (i*2)) (n (i*2+1)) wd p vol) (.slice none 0 0),.nilIface])/\bk w W' F P I b v L pf (upd (upd n (i*2) (aZ.oc (n (i*2)) (n (i*2+1)) wd p vol)) (i*2+1) (aZ.od (n (i*2)) (n (i*2+1)) wd h p vol)) wd h/\bK W W' P I b v v:=by
 have hgw:=AY (hok.out.aH i hi);have hr:ah.aG (n (i*2)) 1 1000=true:=by
  have:=AV.out
  simp only[aZ.jv,Bool.and_eq_true]at this;exact this.1
 have A5:aZ.mV p vol=true:=by
  rcases jS.out with ⟨e1,e2,_⟩ | ⟨e1,e2,e3,_⟩
  .rw[e2];simp[aZ.mV]
  .simp[aZ.mV,ah.aG,e2,e3];omega
 have A6:Hid (∀ W' u,fU W' u (L i)->h9 W' 412 (ev 1) (ev 6) (ev 7)->Calls Tryz.prog 220 #[u,Qa (n (i*2))] W' fun e w'=>e=.returned (.tuple #[Qa p,Qa vol,.nilIface])/\Qd W' w'):=fun W' u hu nB=>by
  refine(Qv u (L i) (n (i*2)) 412 (ev 1) (ev 6) (ev 7) W' hu nB hgw hr).mono ?_;rintro e w' ⟨⟨p',aec,rfl,hw'⟩,hbl⟩;obtain⟨e1,e2⟩:=hw'.unique jS.out;rw[e1,e2];exact⟨rfl,hbl⟩
 have qO:=hDq (fun W' (nB:mW W' 412 (ev 1))=>AAC (n (i*2)) (n (i*2+1)) wd h p vol 412 (ev 1) W' nB (by rw[AV.out,K8.out,A5];rfl));unfold pg dP at qO;clear hgw hr A5;generalize Lb:aZ.oc (n (i*2)) (n (i*2+1)) wd p vol=nr at *;generalize hnl:aZ.od (n (i*2)) (n (i*2+1)) wd h p vol=nl at *;generalize hno:aZ.og (n (i*2)) (n (i*2+1)) wd p vol=no at *;clear Lb hnl hno;obtain⟨R,hR⟩:∃ R,W.heap.size=R:=⟨_,rfl⟩;obtain⟨w1,dz⟩:∃ w1,W.alloc (.cells #[Qa 0,Qa 0,.bool false,.slice none 0 0] 296)=w1:=⟨_,rfl⟩;have hb1:Qd W w1:=by rw[<- dz];exact(bRq _ _).alloc (lRq _) _
 have HR1:Hid (w1.heap[R]?=some (.cells #[Qa 0,Qa 0,.bool false,.slice none 0 0] 296 (0,0))):=by show _=_;rw[<- dz,<- hR];exact hNq _ _
 have fO:=hDq (hF.out.later hb1);have dB:=hDq (bK.of_below hb1 P I b v);have A7:=hDq (FF i hi fO.out);have lD:=hDq (vT (b i) w.heap.size (v i) (L i) w1 (fO.out.aH i hi) (hok.out.aH i hi).len);have cb:=fO.out.wz hi;have HW1:=hDq dz;have jb:=hDq hR;clear hb1 dz hR;go_enter Tryz.func191,Tryz.ntmps191
 go_wp2_with fail
 rw[HW1.out,jb.out];refine A7.out.mono ?_;rintro e w1 ⟨rfl,rfl⟩;simp only[]
 go_wp2_with fail
 refine lD.out.mono ?_;rintro e w2 ⟨v2,rfl,hrow2,hb2⟩;have sw:Hid (fU w2 v2 (L i)):=J5 hrow2;have cm:=hDq (fO.out.later hb2);have HS2:=hDq (dB.out.below hb2);have bq:Hid (w2.heap[R]?=some (.cells #[Qa 0,Qa 0,.bool false,.slice none 0 0] 296 (0,0))):=by show _=_;rw[hb2.block _ (lBq HR1.out)];exact HR1.out
 clear hrow2 hb2 A7 lD cb fO dB HR1 HW1;have FH:=cm.out.Kk hi;have eT:=hDq (A6.out w2 v2 sw.out (cm.out.bY he.out).bY);obtain⟨sa,sm,sc,hv2⟩:=sw.out.form;subst hv2;simp only[]
 go_wp2_with fail
 refine eT.out.mono ?_;rintro e w3 ⟨rfl,hb3⟩;have gA:=hDq (cm.out.later hb3);have cK:=hDq (HS2.out.below hb3);have A8:=hDq (sw.out.later hb3);have HR3:Hid (w3.heap[R]?=some (.cells #[Qa 0,Qa 0,.bool false,.slice none 0 0] 296 (0,0))):=by show _=_;rw[hb3.block _ (lBq bq.out)];exact bq.out
 clear hb3 cm HS2 sw bq FH A6 eT;simp only[]
 go_wp2_with fail
 obtain⟨bH,val,hcl,aP⟩:=AB F (I i) F (.cells (t6 I P wd h) 210 (0,0)) (.cells (t7 (b i) (n (i*2)) (n (i*2+1))) 267 (0,0)) (.cells (t6 I P wd h) 210 (0,0));obtain⟨x0,hx0⟩:=aP w3.drew ⟨gA.out.blk,gA.out.it i hi,gA.out.blk⟩;have hnx:Nonempty bH:=⟨x0⟩;have en:∀ x,(val x).cell? ⟨I i,1,none⟩=some (Qa (n (i*2))):=fun x=>by rw[cR _ _ _ _ _ _ (hcl x).2.1];rfl
 have em:∀ x,(val x).cell? ⟨I i,2,none⟩=some (Qa (n (i*2+1))):=fun x=>by rw[cR _ _ _ _ _ _ (hcl x).2.1];rfl
 have Lc:∀ x,(val x).cell? (Qb F 0)=some (Qa wd):=fun x=>by rw[cR _ _ _ _ _ _ (hcl x).1];rfl
 have eh:∀ x,(val x).cell? (Qb F 1)=some (Qa h):=fun x=>by rw[cR _ _ _ _ _ _ (hcl x).1];rfl
 have hbd:Qd w3 w3.drew:=⟨rfl,rfl,rfl,lRq _,fun _ _=>rfl⟩;have dr:=hDq (gA.out.later hbd);have cq:=hDq (cK.out.below hbd);have wC:=hDq (A8.out.later hbd);have bR:Hid (w3.drew.heap[R]?=some (.cells #[Qa 0,Qa 0,.bool false,.slice none 0 0] 296 (0,0))):=HR3.out;obtain⟨w4,hw4⟩:∃ w4,w3.drew=w4:=⟨_,rfl⟩;rw[hw4]at dr cq wC bR;have aR:Hid (∀ W',Qd w4 W'->∃ x,val x=W'):=fun W' hb=>aP W' ⟨(dr.out.later hb).blk,(dr.out.later hb).it i hi,(dr.out.later hb).blk⟩;have wD:Hid (∀ W',Qd w4 W'->mW W' 412 (ev 1)):=fun W' hb=>((dr.out.later hb).bY he.out).Kh;clear aP hcl gA cK A8 HR3 hbd;refine t_ (val:=val) (fun D ai=>ai.heap[D]?=some (.cells #[Qa nr,Qa nl] 192 (0,0))/\w4.heap.size<=D/\Qd w4 ai) (.read 0 (.read 1 (.read 2 (.read 3 (.read 4 (.read 5 (.read 6 (.read 7 (.read 8 (.read 9 (.two 10 (.read 11 (.read 12 (.read 13 (.read 14 (.one 15 (.one 16 (.read 17 (.read 18 .done)))))))) 15 (.one 10 (.read 11 (.read 12 (.read 13 (.read 14 (.one 16 (.read 17 (.read 18 .done))))))))))))))))))) (by kernel_rfl) (by kernel_rfl) x0 hx0 ?_;apply Exists.intro;refine⟨?_,?_⟩
 case' refine_1 =>
  rw[hx0,hw4]
  iterate 10 (refine cr rfl (fun K hK=>?_);refine⟨by rfl,?_⟩;unfold aB;go_simp;refine hK _ ?_;clear hK K)
  have gh:Hid (Qd w4 w4):=bRq _ _;refine⟨?_,?_⟩
  case refine_1 =>
   refine bW rfl (fun K hK=>?_);refine⟨by rfl,?_⟩;unfold aQ;go_simp;refine(qO.out _ (wD.out _ gh.out)).mono ?_;rintro e wc ⟨rfl,hbc⟩;have dN:=hDq (gh.out.trans (hbc.mono gh.out.size));refine⟨_,rfl,aR.out _ dN.out,hK _ _ ?_⟩;clear hK K hbc
   iterate 4 (refine cr rfl (fun K hK=>?_);refine⟨by rfl,?_⟩;unfold aB;go_simp;refine hK _ ?_;clear hK K)
   refine bW rfl (fun K hK=>?_);refine⟨by rfl,?_⟩;unfold aQ;go_simp;obtain⟨D,hD⟩:∃ D,wc.heap.size=D:=⟨_,rfl⟩;obtain⟨aj,hwz⟩:∃ aj,wc.alloc (.cells #[Qa 0,Qa 0] 192)=aj:=⟨_,rfl⟩;rw[hD,hwz];have bZ:Hid (Qd w4 aj):=by show Below _ _ _;rw[<- hwz];exact dN.out.alloc dN.out.size _
   have av:Hid (aj.heap[D]?=some (.cells #[Qa 0,Qa 0] 192 (0,0))):=by show _=_;rw[<- hwz,<- hD];exact hNq _ _
   have fJ:Hid (w4.heap.size<=D):=by have:=dN.out.size;show _<=_;omega
   refine⟨aR.out _ bZ.out,hK _ _ ?_⟩;clear hK K hwz hD;have c0:aj.cell? (Qb D 0)=some (Qa 0):=by rw[cR aj _ 0 _ _ _ av.out];rfl
   have c1:aj.cell? (Qb D 1)=some (Qa 0):=by rw[cR aj _ 1 _ _ _ av.out];rfl
   have f0:aj.frozen? (Qb D 0)=false:=by simp[World.frozen?,av.out]
   have f1:aj.frozen? (Qb D 1)=false:=by simp[World.frozen?,av.out]
   have HX:Hid (((aj.setCell (Qb D 0) (Qa nr)).setCell (Qb D 1) (Qa nl)).heap[D]?=some (.cells #[Qa nr,Qa nl] 192 (0,0))):=by
    have h0:(aj.setCell (Qb D 0) (Qa nr)).heap[D]?=some (.cells #[Qa nr,Qa 0] 192 (0,0)):=by
     rw[setCell_eq_setRow aj D 0 _ _ _ _ av.out];exact setRow_heap aj D _ _ _ _ av.out
    show _=_;rw[setCell_eq_setRow _ D 1 _ _ _ _ h0];exact setRow_heap _ D _ _ _ _ h0
   have aY:Hid (Qd w4 ((aj.setCell (Qb D 0) (Qa nr)).setCell (Qb D 1) (Qa nl))):=(bZ.out.setCell (p:=(Qb D 0)) fJ.out _).setCell (p:=(Qb D 1)) fJ.out _;refine bW rfl (fun K hK=>?_);refine⟨by rfl,?_⟩;unfold aQ;go_simp;refine⟨aR.out _ aY.out,hK _ _ ?_⟩;clear hK K av c0 c1 f0 f1;generalize (aj.setCell (Qb D 0) (Qa nr)).setCell (Qb D 1) (Qa nl)=ai at *
   iterate 2 (refine cr rfl (fun K hK=>?_);refine⟨by rfl,?_⟩;unfold aB;go_simp;refine hK _ ?_;clear hK K)
   refine ja ?_;exact⟨D,rfl,HX.out,fJ.out,aY.out⟩
  case refine_2 =>
   refine bW rfl (fun K hK=>?_);refine⟨by rfl,?_⟩;unfold aQ;go_simp;obtain⟨D,hD⟩:∃ D,w4.heap.size=D:=⟨_,rfl⟩;obtain⟨iC,hwz⟩:∃ aj,w4.alloc (.cells #[Qa 0,Qa 0] 192)=aj:=⟨_,rfl⟩;rw[hD,hwz];have cG:Hid (Qd w4 iC):=by show Below _ _ _;rw[<- hwz];exact gh.out.alloc gh.out.size _
   have pG:Hid (iC.heap[D]?=some (.cells #[Qa 0,Qa 0] 192 (0,0))):=by show _=_;rw[<- hwz,<- hD];exact hNq _ _
   have fJ:Hid (w4.heap.size<=D):=by have:=gh.out.size;show _<=_;omega
   refine⟨aR.out _ cG.out,hK _ _ ?_⟩;clear hK K hwz hD;refine bW rfl (fun K hK=>?_);refine⟨by rfl,?_⟩;unfold aQ;go_simp;refine(qO.out _ (wD.out _ cG.out)).mono ?_;rintro e aj ⟨rfl,hbc⟩;have bZ:=hDq (cG.out.trans (hbc.mono cG.out.size));have av:Hid (aj.heap[D]?=some (.cells #[Qa 0,Qa 0] 192 (0,0))):=by show _=_;rw[hbc.block _ (lBq pG.out)];exact pG.out
   refine⟨_,rfl,aR.out _ bZ.out,hK _ _ ?_⟩;clear hK K hbc
   iterate 4 (refine cr rfl (fun K hK=>?_);refine⟨by rfl,?_⟩;unfold aB;go_simp;refine hK _ ?_;clear hK K)
   have c0:aj.cell? (Qb D 0)=some (Qa 0):=by rw[cR aj _ 0 _ _ _ av.out];rfl
   have c1:aj.cell? (Qb D 1)=some (Qa 0):=by rw[cR aj _ 1 _ _ _ av.out];rfl
   have f0:aj.frozen? (Qb D 0)=false:=by simp[World.frozen?,av.out]
   have f1:aj.frozen? (Qb D 1)=false:=by simp[World.frozen?,av.out]
   have HX:Hid (((aj.setCell (Qb D 0) (Qa nr)).setCell (Qb D 1) (Qa nl)).heap[D]?=some (.cells #[Qa nr,Qa nl] 192 (0,0))):=by
    have h0:(aj.setCell (Qb D 0) (Qa nr)).heap[D]?=some (.cells #[Qa nr,Qa 0] 192 (0,0)):=by
     rw[setCell_eq_setRow aj D 0 _ _ _ _ av.out];exact setRow_heap aj D _ _ _ _ av.out
    show _=_;rw[setCell_eq_setRow _ D 1 _ _ _ _ h0];exact setRow_heap _ D _ _ _ _ h0
   have aY:Hid (Qd w4 ((aj.setCell (Qb D 0) (Qa nr)).setCell (Qb D 1) (Qa nl))):=(bZ.out.setCell (p:=(Qb D 0)) fJ.out _).setCell (p:=(Qb D 1)) fJ.out _;refine bW rfl (fun K hK=>?_);refine⟨by rfl,?_⟩;unfold aQ;go_simp;refine⟨aR.out _ aY.out,hK _ _ ?_⟩;clear hK K av c0 c1 f0 f1;generalize (aj.setCell (Qb D 0) (Qa nr)).setCell (Qb D 1) (Qa nl)=ai at *
   iterate 2 (refine cr rfl (fun K hK=>?_);refine⟨by rfl,?_⟩;unfold aB;go_simp;refine hK _ ?_;clear hK K)
   refine ja ?_;exact⟨D,rfl,HX.out,fJ.out,aY.out⟩
 intro D ai ⟨pH,pI,hb6⟩;have HX:=hDq pH;have HDn:=hDq pI;have fe:=hDq (dr.out.later hb6);have dA:=hDq (cq.out.below hb6);have Ld:=hDq (wC.out.later hb6);have bz:Hid (ai.heap[R]?=some (.cells #[Qa 0,Qa 0,.bool false,.slice none 0 0] 296 (0,0))):=by show _=_;rw[hb6.block _ (lBq bR.out)];exact bR.out
 clear pH pI hb6 dr cq wC bR qO hw4;clear hx0 en em Lc eh aR wD;clear x0 hnx;clear val;clear bH;have fW:=hDq (fe.out.it i hi);have d0:ai.cell? (Qb D 0)=some (Qa nr):=by rw[cR ai _ 0 _ _ _ HX.out];rfl
 have d1:ai.cell? (Qb D 1)=some (Qa nl):=by rw[cR ai _ 1 _ _ _ HX.out];rfl
 have i1:ai.cell? ⟨I i,1,none⟩=some (Qa (n (i*2))):=by rw[cR ai _ 1 _ _ _ fW.out];rfl
 have i2:ai.cell? ⟨I i,2,none⟩=some (Qa (n (i*2+1))):=by rw[cR ai _ 2 _ _ _ fW.out];rfl
 have j1:ai.frozen? ⟨I i,1,none⟩=false:=by simp[World.frozen?,fW.out]
 have j2:ai.frozen? ⟨I i,2,none⟩=false:=by simp[World.frozen?,fW.out]
 have r0:ai.cell? (Qb R 0)=some (Qa 0):=by rw[cR ai _ 0 _ _ _ bz.out];rfl
 have r1:ai.cell? (Qb R 1)=some (Qa 0):=by rw[cR ai _ 1 _ _ _ bz.out];rfl
 have r2:ai.cell? (Qb R 2)=some (.bool false):=by rw[cR ai _ 2 _ _ _ bz.out];rfl
 have r3:ai.cell? (Qb R 3)=some (.slice none 0 0):=by rw[cR ai _ 3 _ _ _ bz.out];rfl
 have q0:ai.frozen? (Qb R 0)=false:=by simp[World.frozen?,bz.out]
 have q1:ai.frozen? (Qb R 1)=false:=by simp[World.frozen?,bz.out]
 have q2:ai.frozen? (Qb R 2)=false:=by simp[World.frozen?,bz.out]
 have q3:ai.frozen? (Qb R 3)=false:=by simp[World.frozen?,bz.out]
 have wE:R<ai.heap.size:=lBq bz.out;have aeh:I i<ai.heap.size:=lBq fW.out;have hDl:D<ai.heap.size:=lBq HX.out;have aei:¬ R=ai.heap.size:=by omega
 have aej:¬ I i=ai.heap.size:=by omega
 have hDn:¬ D=ai.heap.size:=by omega
 have Bb:R≠I i:=aI bz.out fW.out (by decide);have aek:I i≠R:=Ne.symm Bb;have ael:D≠I i:=aI HX.out fW.out (by decide);have aem:D≠R:=aI HX.out bz.out (by decide);have uq:Hid (((ai.setCell ⟨I i,1,none⟩ (Qa nr)).setCell ⟨I i,2,none⟩ (Qa nl)).heap[I i]?=some (.cells (t7 (b i) nr nl) 267 (0,0))):=by
  have h0:(ai.setCell ⟨I i,1,none⟩ (Qa nr)).heap[I i]?=some (.cells #[.pointer (some ⟨b i,0,none⟩),Qa nr,Qa (n (i*2+1))] 267 (0,0)):=by
   rw[setCell_eq_setRow ai (I i) 1 _ _ _ _ fW.out];exact setRow_heap ai (I i) _ _ _ _ fW.out
  show _=_;rw[setCell_eq_setRow _ (I i) 2 _ _ _ _ h0];exact setRow_heap _ (I i) _ _ _ _ h0
 have fK:=hDq (fe.out.kZ hi uq.out ((aM.setCell _ _ _ _).put _ _));have r9:=hDq (dA.out.trans (bK.R9 hi ((aM.setCell ai (I i) 1 (Qa nr)).put 2 (Qa nl)) P b v));have fg:Hid (((ai.setCell ⟨I i,1,none⟩ (Qa nr)).setCell ⟨I i,2,none⟩ (Qa nl)).heap[R]?=some (.cells #[Qa 0,Qa 0,.bool false,.slice none 0 0] 296 (0,0))):=by
  show _=_;rw[((aM.setCell ai (I i) 1 (Qa nr)).put 2 (Qa nl)).block R wE Bb];exact bz.out
 have Bc:Hid (w.heap.size<=R):=by have:=hF.out.bG.size;have:=jb.out;show _<=_;omega
 rcases hst with e | e
 .subst e
  generalize pX:(ai.setCell ⟨I i,1,none⟩ (Qa nr)).setCell ⟨I i,2,none⟩ (Qa nl)=bN at *;have jf:Hid (aM bN ((((bN.setCell (Qb R 0) (Qa p)).setCell (Qb R 1) (Qa vol)).setCell (Qb R 2) (.bool false)).setCell (Qb R 3) (.slice none 0 0)) R):=(((aM.setCell _ R 0 (Qa p)).put 1 (Qa vol)).put 2 (.bool false)).put 3 (.slice none 0 0);have lL:=hDq ((fK.out.aside (aI fg.out fK.out.blk (by decide)) (aI fg.out fK.out.cQ (by decide)) (fun j hj=>⟨aI fg.out (fK.out.it j hj) (by decide),aI fg.out (fK.out.aH j hj).cell (by decide),jc (fK.out.aH j hj).row fg.out (by decide)⟩) Bc.out jf.out).later ((bRq _ _).alloc (lRq _) (.cells #[Qa p,Qa vol,.bool false,.slice none 0 0] 296)));have lM:Hid (bK W (((((bN.setCell (Qb R 0) (Qa p)).setCell (Qb R 1) (Qa vol)).setCell (Qb R 2) (.bool false)).setCell (Qb R 3) (.slice none 0 0)).alloc (.cells #[Qa p,Qa vol,.bool false,.slice none 0 0] 296)) P I b v v):=(r9.out.newer jf.out (by rw[jb.out];exact lRq _)).below ((bRq _ _).alloc (lRq _) _);have eU:Hid ((((((bN.setCell (Qb R 0) (Qa p)).setCell (Qb R 1) (Qa vol)).setCell (Qb R 2) (.bool false)).setCell (Qb R 3) (.slice none 0 0)).alloc (.cells #[Qa p,Qa vol,.bool false,.slice none 0 0] 296)).heap[R]?=some (.cells #[Qa p,Qa vol,.bool false,.slice none 0 0] 296 (0,0))):=(Below.heap_alloc _ _ _ (lBq (wF fg.out p vol false _))).trans (wF fg.out p vol false _);have nD:=hDq pX;clear pX;go_wp2;rw[nD.out];generalize (((((bN.setCell (Qb R 0) (Qa p)).setCell (Qb R 1) (Qa vol)).setCell (Qb R 2) (.bool false)).setCell (Qb R 3) (.slice none 0 0)).alloc (.cells #[Qa p,Qa vol,.bool false,.slice none 0 0] 296))=Wf at *;have z0:Wf.cell? (Qb R 0)=some (Qa p):=by rw[cR Wf _ 0 _ _ _ eU.out];rfl
  have dw:Wf.cell? (Qb R 1)=some (Qa vol):=by rw[cR Wf _ 1 _ _ _ eU.out];rfl
  have z2:Wf.cell? (Qb R 2)=some (.bool false):=by rw[cR Wf _ 2 _ _ _ eU.out];rfl
  have z3:Wf.cell? (Qb R 3)=some (.slice none 0 0):=by rw[cR Wf _ 3 _ _ _ eU.out];rfl
  exact bodyPost_ret (v:=.tuple #[.agg #[Qa p,Qa vol,.bool false,.slice none 0 0],.nilIface]) (by simp[results,Tryz.results191,go_sem,z0,dw,z2,z3]) rfl ⟨rfl,lL.out,lM.out⟩
 .subst e
  cases no
  .skip
   generalize pX:(ai.setCell ⟨I i,1,none⟩ (Qa nr)).setCell ⟨I i,2,none⟩ (Qa nl)=bN at *;have jf:Hid (aM bN ((((bN.setCell (Qb R 0) (Qa p)).setCell (Qb R 1) (Qa 0)).setCell (Qb R 2) (.bool false)).setCell (Qb R 3) (.slice none 0 0)) R):=(((aM.setCell _ R 0 (Qa p)).put 1 (Qa 0)).put 2 (.bool false)).put 3 (.slice none 0 0);have lL:=hDq ((fK.out.aside (aI fg.out fK.out.blk (by decide)) (aI fg.out fK.out.cQ (by decide)) (fun j hj=>⟨aI fg.out (fK.out.it j hj) (by decide),aI fg.out (fK.out.aH j hj).cell (by decide),jc (fK.out.aH j hj).row fg.out (by decide)⟩) Bc.out jf.out).later ((bRq _ _).alloc (lRq _) (.cells #[Qa p,Qa 0,.bool false,.slice none 0 0] 296)));have lM:Hid (bK W (((((bN.setCell (Qb R 0) (Qa p)).setCell (Qb R 1) (Qa 0)).setCell (Qb R 2) (.bool false)).setCell (Qb R 3) (.slice none 0 0)).alloc (.cells #[Qa p,Qa 0,.bool false,.slice none 0 0] 296)) P I b v v):=(r9.out.newer jf.out (by rw[jb.out];exact lRq _)).below ((bRq _ _).alloc (lRq _) _);have eU:Hid ((((((bN.setCell (Qb R 0) (Qa p)).setCell (Qb R 1) (Qa 0)).setCell (Qb R 2) (.bool false)).setCell (Qb R 3) (.slice none 0 0)).alloc (.cells #[Qa p,Qa 0,.bool false,.slice none 0 0] 296)).heap[R]?=some (.cells #[Qa p,Qa 0,.bool false,.slice none 0 0] 296 (0,0))):=(Below.heap_alloc _ _ _ (lBq (wF fg.out p 0 false _))).trans (wF fg.out p 0 false _);have nD:=hDq pX;clear pX;go_wp2;rw[nD.out];generalize (((((bN.setCell (Qb R 0) (Qa p)).setCell (Qb R 1) (Qa 0)).setCell (Qb R 2) (.bool false)).setCell (Qb R 3) (.slice none 0 0)).alloc (.cells #[Qa p,Qa 0,.bool false,.slice none 0 0] 296))=Wf at *;have z0:Wf.cell? (Qb R 0)=some (Qa p):=by rw[cR Wf _ 0 _ _ _ eU.out];rfl
   have dw:Wf.cell? (Qb R 1)=some (Qa 0):=by rw[cR Wf _ 1 _ _ _ eU.out];rfl
   have z2:Wf.cell? (Qb R 2)=some (.bool false):=by rw[cR Wf _ 2 _ _ _ eU.out];rfl
   have z3:Wf.cell? (Qb R 3)=some (.slice none 0 0):=by rw[cR Wf _ 3 _ _ _ eU.out];rfl
   exact bodyPost_ret (v:=.tuple #[.agg #[Qa p,Qa 0,.bool false,.slice none 0 0],.nilIface]) (by simp[results,Tryz.results191,go_sem,z0,dw,z2,z3]) rfl ⟨rfl,lL.out,lM.out⟩
  .skip
   generalize pX:(ai.setCell ⟨I i,1,none⟩ (Qa nr)).setCell ⟨I i,2,none⟩ (Qa nl)=bN at *;have jf:Hid (aM bN ((((bN.setCell (Qb R 0) (Qa p)).setCell (Qb R 1) (Qa 0)).setCell (Qb R 2) (.bool true)).setCell (Qb R 3) (.slice none 0 0)) R):=(((aM.setCell _ R 0 (Qa p)).put 1 (Qa 0)).put 2 (.bool true)).put 3 (.slice none 0 0);have lL:=hDq ((fK.out.aside (aI fg.out fK.out.blk (by decide)) (aI fg.out fK.out.cQ (by decide)) (fun j hj=>⟨aI fg.out (fK.out.it j hj) (by decide),aI fg.out (fK.out.aH j hj).cell (by decide),jc (fK.out.aH j hj).row fg.out (by decide)⟩) Bc.out jf.out).later ((bRq _ _).alloc (lRq _) (.cells #[Qa p,Qa 0,.bool true,.slice none 0 0] 296)));have lM:Hid (bK W (((((bN.setCell (Qb R 0) (Qa p)).setCell (Qb R 1) (Qa 0)).setCell (Qb R 2) (.bool true)).setCell (Qb R 3) (.slice none 0 0)).alloc (.cells #[Qa p,Qa 0,.bool true,.slice none 0 0] 296)) P I b v v):=(r9.out.newer jf.out (by rw[jb.out];exact lRq _)).below ((bRq _ _).alloc (lRq _) _);have eU:Hid ((((((bN.setCell (Qb R 0) (Qa p)).setCell (Qb R 1) (Qa 0)).setCell (Qb R 2) (.bool true)).setCell (Qb R 3) (.slice none 0 0)).alloc (.cells #[Qa p,Qa 0,.bool true,.slice none 0 0] 296)).heap[R]?=some (.cells #[Qa p,Qa 0,.bool true,.slice none 0 0] 296 (0,0))):=(Below.heap_alloc _ _ _ (lBq (wF fg.out p 0 true _))).trans (wF fg.out p 0 true _);have nD:=hDq pX;clear pX;go_wp2;rw[nD.out];generalize (((((bN.setCell (Qb R 0) (Qa p)).setCell (Qb R 1) (Qa 0)).setCell (Qb R 2) (.bool true)).setCell (Qb R 3) (.slice none 0 0)).alloc (.cells #[Qa p,Qa 0,.bool true,.slice none 0 0] 296))=Wf at *;have z0:Wf.cell? (Qb R 0)=some (Qa p):=by rw[cR Wf _ 0 _ _ _ eU.out];rfl
   have dw:Wf.cell? (Qb R 1)=some (Qa 0):=by rw[cR Wf _ 1 _ _ _ eU.out];rfl
   have z2:Wf.cell? (Qb R 2)=some (.bool true):=by rw[cR Wf _ 2 _ _ _ eU.out];rfl
   have z3:Wf.cell? (Qb R 3)=some (.slice none 0 0):=by rw[cR Wf _ 3 _ _ _ eU.out];rfl
   exact bodyPost_ret (v:=.tuple #[.agg #[Qa p,Qa 0,.bool true,.slice none 0 0],.nilIface]) (by simp[results,Tryz.results191,go_sem,z0,dw,z2,z3]) rfl ⟨rfl,lL.out,lM.out⟩
end
section
variable {w W:World} {F P:Nat} {I b:Nat->Nat} {v:Nat->Value} {L:Nat->List Cv.ag} {pf n:Nat->Int} {wd h:Int} {ev:Nat->Value}
theorem ad7 (i:Nat) (hi:i<3) (s p vol:Int) (hs:Hid (Ra.IsU s)) (hF:Hid (bk w W F P I b v L pf n wd h)) (he:Hid (eA w ev)) (hok:Hid (Fs.dM L pf)) (AV:Hid (aZ.jv (n (i*2)) (n (i*2+1))=true)) (K8:Hid (aZ.iW wd h=true)) (jS:Hid (Cv.fD (L i) (n (i*2)) 1000 p vol)) (hno:aZ.og (n (i*2)) (n (i*2+1)) wd p vol=true) (ad8:0<vol) :
  Calls Tryz.prog 191 #[Qc F,Qa i,.int .u32 s] W fun e W'=>∃ iE v',e=.returned (.tuple #[AX p vol true iE,.nilIface])/\bk w W' F P I b v' (upd L i (Fs.ig (Ra.fills s (L i) p vol) (L i))) (Fs.ia pf i p (L i) (Ra.fills s (L i) p vol)) (upd (upd n (i*2) (aZ.oc (n (i*2)) (n (i*2+1)) wd p vol)) (i*2+1) (aZ.od (n (i*2)) (n (i*2+1)) wd h p vol)) wd h/\bK W W' P I b v v'/\fM W' iE (Ra.fills s (L i) p vol)/\Fs.dM (upd L i (Fs.ig (Ra.fills s (L i) p vol) (L i))) (Fs.ia pf i p (L i) (Ra.fills s (L i) p vol)):=by
 have pV:=Fs.K9 (AY (hok.out.aH i hi)) jS.out ad8;have ad9:=hDq pV;obtain⟨bh,sr⟩:∃ bh,Ra.fills s (L i) p vol=bh:=⟨_,rfl⟩;have K_:=Fs.SC pV s;rw[sr]at K_;have hlen:bh.length<=200:=by
  rw[<- sr];unfold Ra.fills;have rK:=(hok.out.aH i hi).len;have h1:=Ra.AZ s (hok.out.aH i hi).oks 0 p vol pV.2.1.1 pV.2.1.2 pV.2.2.1;have h2:=Ra.AZ (Ra.su s) (hok.out.aH i hi).oks 1 p vol pV.2.1.1 pV.2.1.2 pV.2.2.1;rw[lAq];omega
 have hnil:bh≠[]:=fun e=>by
  have hsum:=Ra.La pV s 0 (.inl rfl);rw[sr,e,Fs.FE,Fs.A1 (fun x _=>by show (if x.sd=0 then (0:Int) else 0)=0;split <;> rfl)]at hsum;omega
 have aea:=hDq K_;have HLen:=hDq hlen;have aeb:=hDq hnil;have pW:=hDq sr;have A4:=hDq pV.2.1;rw[sr];clear K_ hlen hnil sr pV;have hgw:=AY (hok.out.aH i hi);have hr:ah.aG (n (i*2)) 1 1000=true:=by
  have:=AV.out
  simp only[aZ.jv,Bool.and_eq_true]at this;exact this.1
 have A5:aZ.mV p vol=true:=by
  rcases jS.out with ⟨e1,e2,_⟩ | ⟨e1,e2,e3,_⟩
  .rw[e2];simp[aZ.mV]
  .simp[aZ.mV,ah.aG,e2,e3];omega
 have A6:Hid (∀ W' u,fU W' u (L i)->h9 W' 412 (ev 1) (ev 6) (ev 7)->Calls Tryz.prog 220 #[u,Qa (n (i*2))] W' fun e w'=>e=.returned (.tuple #[Qa p,Qa vol,.nilIface])/\Qd W' w'):=fun W' u hu nB=>by
  refine(Qv u (L i) (n (i*2)) 412 (ev 1) (ev 6) (ev 7) W' hu nB hgw hr).mono ?_;rintro e w' ⟨⟨p',aec,rfl,hw'⟩,hbl⟩;obtain⟨e1,e2⟩:=hw'.unique jS.out;rw[e1,e2];exact⟨rfl,hbl⟩
 have qO:=hDq (fun W' (nB:mW W' 412 (ev 1))=>AAC (n (i*2)) (n (i*2+1)) wd h p vol 412 (ev 1) W' nB (by rw[AV.out,K8.out,A5];rfl));unfold pg dP at qO;clear hgw hr A5;generalize Lb:aZ.oc (n (i*2)) (n (i*2+1)) wd p vol=nr at *;generalize hnl:aZ.od (n (i*2)) (n (i*2+1)) wd h p vol=nl at *;rw[hno]at qO;clear Lb hnl hno;obtain⟨R,hR⟩:∃ R,W.heap.size=R:=⟨_,rfl⟩;obtain⟨w1,dz⟩:∃ w1,W.alloc (.cells #[Qa 0,Qa 0,.bool false,.slice none 0 0] 296)=w1:=⟨_,rfl⟩;have hb1:Qd W w1:=by rw[<- dz];exact(bRq _ _).alloc (lRq _) _
 have HR1:Hid (w1.heap[R]?=some (.cells #[Qa 0,Qa 0,.bool false,.slice none 0 0] 296 (0,0))):=by show _=_;rw[<- dz,<- hR];exact hNq _ _
 have fO:=hDq (hF.out.later hb1);have dB:=hDq (bK.of_below hb1 P I b v);have A7:=hDq (FF i hi fO.out);have lD:=hDq (vT (b i) w.heap.size (v i) (L i) w1 (fO.out.aH i hi) (hok.out.aH i hi).len);have cb:=fO.out.wz hi;have HW1:=hDq dz;have jb:=hDq hR;clear hb1 dz hR;go_enter Tryz.func191,Tryz.ntmps191
 go_wp2_with fail
 rw[HW1.out,jb.out];refine A7.out.mono ?_;rintro e w1 ⟨rfl,rfl⟩;simp only[]
 go_wp2_with fail
 refine lD.out.mono ?_;rintro e w2 ⟨v2,rfl,hrow2,hb2⟩;have sw:Hid (fU w2 v2 (L i)):=J5 hrow2;have cm:=hDq (fO.out.later hb2);have HS2:=hDq (dB.out.below hb2);have bq:Hid (w2.heap[R]?=some (.cells #[Qa 0,Qa 0,.bool false,.slice none 0 0] 296 (0,0))):=by show _=_;rw[hb2.block _ (lBq HR1.out)];exact HR1.out
 clear hrow2 hb2 A7 lD cb fO dB HR1 HW1;have FH:=cm.out.Kk hi;have eT:=hDq (A6.out w2 v2 sw.out (cm.out.bY he.out).bY);obtain⟨sa,sm,sc,hv2⟩:=sw.out.form;subst hv2;simp only[]
 go_wp2_with fail
 refine eT.out.mono ?_;rintro e w3 ⟨rfl,hb3⟩;have gA:=hDq (cm.out.later hb3);have cK:=hDq (HS2.out.below hb3);have A8:=hDq (sw.out.later hb3);have HR3:Hid (w3.heap[R]?=some (.cells #[Qa 0,Qa 0,.bool false,.slice none 0 0] 296 (0,0))):=by show _=_;rw[hb3.block _ (lBq bq.out)];exact bq.out
 clear hb3 cm HS2 sw bq FH A6 eT;simp only[]
 go_wp2_with fail
 obtain⟨bH,val,hcl,aP⟩:=AB F (I i) F (.cells (t6 I P wd h) 210 (0,0)) (.cells (t7 (b i) (n (i*2)) (n (i*2+1))) 267 (0,0)) (.cells (t6 I P wd h) 210 (0,0));obtain⟨x0,hx0⟩:=aP w3.drew ⟨gA.out.blk,gA.out.it i hi,gA.out.blk⟩;have hnx:Nonempty bH:=⟨x0⟩;have en:∀ x,(val x).cell? ⟨I i,1,none⟩=some (Qa (n (i*2))):=fun x=>by rw[cR _ _ _ _ _ _ (hcl x).2.1];rfl
 have em:∀ x,(val x).cell? ⟨I i,2,none⟩=some (Qa (n (i*2+1))):=fun x=>by rw[cR _ _ _ _ _ _ (hcl x).2.1];rfl
 have Lc:∀ x,(val x).cell? (Qb F 0)=some (Qa wd):=fun x=>by rw[cR _ _ _ _ _ _ (hcl x).1];rfl
 have eh:∀ x,(val x).cell? (Qb F 1)=some (Qa h):=fun x=>by rw[cR _ _ _ _ _ _ (hcl x).1];rfl
 have hbd:Qd w3 w3.drew:=⟨rfl,rfl,rfl,lRq _,fun _ _=>rfl⟩;have dr:=hDq (gA.out.later hbd);have cq:=hDq (cK.out.below hbd);have wC:=hDq (A8.out.later hbd);have bR:Hid (w3.drew.heap[R]?=some (.cells #[Qa 0,Qa 0,.bool false,.slice none 0 0] 296 (0,0))):=HR3.out;obtain⟨w4,hw4⟩:∃ w4,w3.drew=w4:=⟨_,rfl⟩;rw[hw4]at dr cq wC bR;have aR:Hid (∀ W',Qd w4 W'->∃ x,val x=W'):=fun W' hb=>aP W' ⟨(dr.out.later hb).blk,(dr.out.later hb).it i hi,(dr.out.later hb).blk⟩;have wD:Hid (∀ W',Qd w4 W'->mW W' 412 (ev 1)):=fun W' hb=>((dr.out.later hb).bY he.out).Kh;clear aP hcl gA cK A8 HR3 hbd;refine t_ (val:=val) (fun D ai=>ai.heap[D]?=some (.cells #[Qa nr,Qa nl] 192 (0,0))/\w4.heap.size<=D/\Qd w4 ai) (.read 0 (.read 1 (.read 2 (.read 3 (.read 4 (.read 5 (.read 6 (.read 7 (.read 8 (.read 9 (.two 10 (.read 11 (.read 12 (.read 13 (.read 14 (.one 15 (.one 16 (.read 17 (.read 18 .done)))))))) 15 (.one 10 (.read 11 (.read 12 (.read 13 (.read 14 (.one 16 (.read 17 (.read 18 .done))))))))))))))))))) (by kernel_rfl) (by kernel_rfl) x0 hx0 ?_;apply Exists.intro;refine⟨?_,?_⟩
 case' refine_1 =>
  rw[hx0,hw4]
  iterate 10 (refine cr rfl (fun K hK=>?_);refine⟨by rfl,?_⟩;unfold aB;go_simp;refine hK _ ?_;clear hK K)
  have gh:Hid (Qd w4 w4):=bRq _ _;refine⟨?_,?_⟩
  case refine_1 =>
   refine bW rfl (fun K hK=>?_);refine⟨by rfl,?_⟩;unfold aQ;go_simp;refine(qO.out _ (wD.out _ gh.out)).mono ?_;rintro e wc ⟨rfl,hbc⟩;have dN:=hDq (gh.out.trans (hbc.mono gh.out.size));refine⟨_,rfl,aR.out _ dN.out,hK _ _ ?_⟩;clear hK K hbc
   iterate 4 (refine cr rfl (fun K hK=>?_);refine⟨by rfl,?_⟩;unfold aB;go_simp;refine hK _ ?_;clear hK K)
   refine bW rfl (fun K hK=>?_);refine⟨by rfl,?_⟩;unfold aQ;go_simp;obtain⟨D,hD⟩:∃ D,wc.heap.size=D:=⟨_,rfl⟩;obtain⟨aj,hwz⟩:∃ aj,wc.alloc (.cells #[Qa 0,Qa 0] 192)=aj:=⟨_,rfl⟩;rw[hD,hwz];have bZ:Hid (Qd w4 aj):=by show Below _ _ _;rw[<- hwz];exact dN.out.alloc dN.out.size _
   have av:Hid (aj.heap[D]?=some (.cells #[Qa 0,Qa 0] 192 (0,0))):=by show _=_;rw[<- hwz,<- hD];exact hNq _ _
   have fJ:Hid (w4.heap.size<=D):=by have:=dN.out.size;show _<=_;omega
   refine⟨aR.out _ bZ.out,hK _ _ ?_⟩;clear hK K hwz hD;have c0:aj.cell? (Qb D 0)=some (Qa 0):=by rw[cR aj _ 0 _ _ _ av.out];rfl
   have c1:aj.cell? (Qb D 1)=some (Qa 0):=by rw[cR aj _ 1 _ _ _ av.out];rfl
   have f0:aj.frozen? (Qb D 0)=false:=by simp[World.frozen?,av.out]
   have f1:aj.frozen? (Qb D 1)=false:=by simp[World.frozen?,av.out]
   have HX:Hid (((aj.setCell (Qb D 0) (Qa nr)).setCell (Qb D 1) (Qa nl)).heap[D]?=some (.cells #[Qa nr,Qa nl] 192 (0,0))):=by
    have h0:(aj.setCell (Qb D 0) (Qa nr)).heap[D]?=some (.cells #[Qa nr,Qa 0] 192 (0,0)):=by
     rw[setCell_eq_setRow aj D 0 _ _ _ _ av.out];exact setRow_heap aj D _ _ _ _ av.out
    show _=_;rw[setCell_eq_setRow _ D 1 _ _ _ _ h0];exact setRow_heap _ D _ _ _ _ h0
   have aY:Hid (Qd w4 ((aj.setCell (Qb D 0) (Qa nr)).setCell (Qb D 1) (Qa nl))):=(bZ.out.setCell (p:=(Qb D 0)) fJ.out _).setCell (p:=(Qb D 1)) fJ.out _;refine bW rfl (fun K hK=>?_);refine⟨by rfl,?_⟩;unfold aQ;go_simp;refine⟨aR.out _ aY.out,hK _ _ ?_⟩;clear hK K av c0 c1 f0 f1;generalize (aj.setCell (Qb D 0) (Qa nr)).setCell (Qb D 1) (Qa nl)=ai at *
   iterate 2 (refine cr rfl (fun K hK=>?_);refine⟨by rfl,?_⟩;unfold aB;go_simp;refine hK _ ?_;clear hK K)
   refine ja ?_;exact⟨D,rfl,HX.out,fJ.out,aY.out⟩
  case refine_2 =>
   refine bW rfl (fun K hK=>?_);refine⟨by rfl,?_⟩;unfold aQ;go_simp;obtain⟨D,hD⟩:∃ D,w4.heap.size=D:=⟨_,rfl⟩;obtain⟨iC,hwz⟩:∃ aj,w4.alloc (.cells #[Qa 0,Qa 0] 192)=aj:=⟨_,rfl⟩;rw[hD,hwz];have cG:Hid (Qd w4 iC):=by show Below _ _ _;rw[<- hwz];exact gh.out.alloc gh.out.size _
   have pG:Hid (iC.heap[D]?=some (.cells #[Qa 0,Qa 0] 192 (0,0))):=by show _=_;rw[<- hwz,<- hD];exact hNq _ _
   have fJ:Hid (w4.heap.size<=D):=by have:=gh.out.size;show _<=_;omega
   refine⟨aR.out _ cG.out,hK _ _ ?_⟩;clear hK K hwz hD;refine bW rfl (fun K hK=>?_);refine⟨by rfl,?_⟩;unfold aQ;go_simp;refine(qO.out _ (wD.out _ cG.out)).mono ?_;rintro e aj ⟨rfl,hbc⟩;have bZ:=hDq (cG.out.trans (hbc.mono cG.out.size));have av:Hid (aj.heap[D]?=some (.cells #[Qa 0,Qa 0] 192 (0,0))):=by show _=_;rw[hbc.block _ (lBq pG.out)];exact pG.out
   refine⟨_,rfl,aR.out _ bZ.out,hK _ _ ?_⟩;clear hK K hbc
   iterate 4 (refine cr rfl (fun K hK=>?_);refine⟨by rfl,?_⟩;unfold aB;go_simp;refine hK _ ?_;clear hK K)
   have c0:aj.cell? (Qb D 0)=some (Qa 0):=by rw[cR aj _ 0 _ _ _ av.out];rfl
   have c1:aj.cell? (Qb D 1)=some (Qa 0):=by rw[cR aj _ 1 _ _ _ av.out];rfl
   have f0:aj.frozen? (Qb D 0)=false:=by simp[World.frozen?,av.out]
   have f1:aj.frozen? (Qb D 1)=false:=by simp[World.frozen?,av.out]
   have HX:Hid (((aj.setCell (Qb D 0) (Qa nr)).setCell (Qb D 1) (Qa nl)).heap[D]?=some (.cells #[Qa nr,Qa nl] 192 (0,0))):=by
    have h0:(aj.setCell (Qb D 0) (Qa nr)).heap[D]?=some (.cells #[Qa nr,Qa 0] 192 (0,0)):=by
     rw[setCell_eq_setRow aj D 0 _ _ _ _ av.out];exact setRow_heap aj D _ _ _ _ av.out
    show _=_;rw[setCell_eq_setRow _ D 1 _ _ _ _ h0];exact setRow_heap _ D _ _ _ _ h0
   have aY:Hid (Qd w4 ((aj.setCell (Qb D 0) (Qa nr)).setCell (Qb D 1) (Qa nl))):=(bZ.out.setCell (p:=(Qb D 0)) fJ.out _).setCell (p:=(Qb D 1)) fJ.out _;refine bW rfl (fun K hK=>?_);refine⟨by rfl,?_⟩;unfold aQ;go_simp;refine⟨aR.out _ aY.out,hK _ _ ?_⟩;clear hK K av c0 c1 f0 f1;generalize (aj.setCell (Qb D 0) (Qa nr)).setCell (Qb D 1) (Qa nl)=ai at *
   iterate 2 (refine cr rfl (fun K hK=>?_);refine⟨by rfl,?_⟩;unfold aB;go_simp;refine hK _ ?_;clear hK K)
   refine ja ?_;exact⟨D,rfl,HX.out,fJ.out,aY.out⟩
 intro D ai ⟨pH,pI,hb6⟩;have HX:=hDq pH;have HDn:=hDq pI;have fe:=hDq (dr.out.later hb6);have dA:=hDq (cq.out.below hb6);have Ld:=hDq (wC.out.later hb6);have bz:Hid (ai.heap[R]?=some (.cells #[Qa 0,Qa 0,.bool false,.slice none 0 0] 296 (0,0))):=by show _=_;rw[hb6.block _ (lBq bR.out)];exact bR.out
 clear pH pI hb6 dr cq wC bR qO hw4;clear hx0 en em Lc eh aR wD;clear x0 hnx;clear val;clear bH;obtain⟨E,hE⟩:∃ E,ai.heap.size=E:=⟨_,rfl⟩;obtain⟨br,pB⟩:∃ br,ai.alloc (.cells #[Qa p,Qa vol,.bool true,.slice none 0 0] 296)=br:=⟨_,rfl⟩;have kU:Qd ai br:=by rw[<- pB];exact(bRq _ _).alloc (lRq _) _
 have Le:Hid (br.heap[E]?=some (.cells #[Qa p,Qa vol,.bool true,.slice none 0 0] 296 (0,0))):=by show _=_;rw[<- pB,<- hE];exact hNq _ _
 have kC:=hDq (fe.out.later kU);have lI:=hDq (dA.out.below kU);have SE:=hDq (Ld.out.later kU);have fH:Hid (br.heap[R]?=some (.cells #[Qa 0,Qa 0,.bool false,.slice none 0 0] 296 (0,0))):=by show _=_;rw[kU.block _ (lBq bz.out)];exact bz.out
 have mr:Hid (br.heap[D]?=some (.cells #[Qa nr,Qa nl] 192 (0,0))):=by show _=_;rw[kU.block _ (lBq HX.out)];exact HX.out
 have qP:Hid (R≠E):=fun e=>by have:=lBq bz.out;omega
 have SF:Hid (W.heap.size<=E):=by have:=dA.out.size;show _<=_;omega
 have mB:=hDq (aed (.slice sa sm sc) (L i) p vol s 412 (ev 1) (ev 2) (ev 6) (ev 7) br SE.out (kC.out.bY he.out).bY (kC.out.bY he.out).c2 ad9.out hs.out);rw[pW.out]at mB;have SG:=hDq pB;have aee:=hDq hE;clear kU pB hE fe dA Ld bz HX SE
 go_wp2_with fail
 rw[SG.out,aee.out];refine mB.out.mono ?_;rintro e cn ⟨iE,rfl,A9,nC⟩;have mC:=hDq (kC.out.later nC);have uo:=hDq (lI.out.below nC);have tV:Hid (cn.heap[R]?=some (.cells #[Qa 0,Qa 0,.bool false,.slice none 0 0] 296 (0,0))):=by show _=_;rw[nC.block _ (lBq fH.out)];exact fH.out
 have yA:Hid (cn.heap[D]?=some (.cells #[Qa nr,Qa nl] 192 (0,0))):=by show _=_;rw[nC.block _ (lBq mr.out)];exact mr.out
 have oH:Hid (cn.heap[E]?=some (.cells #[Qa p,Qa vol,.bool true,.slice none 0 0] 296 (0,0))):=by show _=_;rw[nC.block _ (lBq Le.out)];exact Le.out
 have Lf:=hDq A9;clear A9 nC kC lI fH mr Le mB SG;obtain⟨je,jF,ng⟩:=Lf.out.val;obtain⟨lK,Lg⟩:∃ lK,bh.length=lK:=⟨_,rfl⟩;rw[Lg]at ng;subst ng;clear Lg;have e3:cn.cell? (Qb E 3)=some (.slice none 0 0):=by rw[cR cn _ 3 _ _ _ oH.out];rfl
 have g3:cn.frozen? (Qb E 3)=false:=by simp[World.frozen?,oH.out]
 obtain⟨i7,A_⟩:∃ i7,cn.setCell (Qb E 3) (.slice je lK jF)=i7:=⟨_,rfl⟩;have kB:aM cn i7 E:=by rw[<- A_];exact aM.setCell _ _ _ _
 have Lh:Hid (i7.heap[E]?=some (.cells #[Qa p,Qa vol,.bool true,.slice je lK jF] 296 (0,0))):=by show _=_;rw[<- A_,setCell_eq_setRow _ E 3 _ _ _ _ oH.out];exact setRow_heap _ E _ _ _ _ oH.out
 have sx:=hDq (mC.out.aside (aI oH.out mC.out.blk (by decide)) (aI oH.out mC.out.cQ (by decide)) (fun j hj=>⟨aI oH.out (mC.out.it j hj) (by decide),aI oH.out (mC.out.aH j hj).cell (by decide),jc (mC.out.aH j hj).row oH.out (by decide)⟩) (lTq hF.out.bG.size SF.out) kB);have Ba:=hDq (uo.out.newer kB SF.out);have yB:Hid (i7.heap[R]?=some (.cells #[Qa 0,Qa 0,.bool false,.slice none 0 0] 296 (0,0))):=by show _=_;rw[kB.block _ (lBq tV.out) qP.out];exact tV.out
 have SH:Hid (i7.heap[D]?=some (.cells #[Qa nr,Qa nl] 192 (0,0))):=by show _=_;rw[kB.block _ (lBq yA.out) (aI yA.out oH.out (by decide))];exact yA.out
 have SI:=hDq (Lf.out.save kB oH.out (by decide));have FI:i7.cell? (Qb E 3)=some (.slice je lK jF):=by rw[cR i7 _ 3 _ _ _ Lh.out];rfl
 have SK:=hDq A_;have HST:=hDq (aef i hi p (.slice je lK jF) bh sx.out he hok aea.out A4.out.1 A4.out.2 SI.out HLen.out aeb.out);have SL:=hDq FI;clear kB A_ mC uo tV yA oH Lf FI;simp only[]
 go_wp2_with fail
 rw[SK.out];have FI:=SL.out
 go_wp2_with fail
 refine HST.out.mono ?_;rintro e wt ⟨rfl,v10,SN,Li,Ar,SQ⟩;have FJ:∀ {q:Nat} {a:Array Value} {T:TypeId},i7.heap[q]?=some (.cells a T (0,0))->T≠197->T≠213->T≠267->T≠276->wt.heap[q]?=some (.cells a T (0,0)):=fun {q a T} hq h1 h2 h3 h4=>by
  rw[Li.keep q (lBq hq) (aI hq sx.out.cQ h2) (fun j hj=>⟨aI hq (sx.out.it j hj) h3,aI hq (sx.out.aH j hj).cell h4,jc (sx.out.aH j hj).row hq h1⟩)];exact hq
 have yC:Hid (wt.heap[E]?=some (.cells #[Qa p,Qa vol,.bool true,.slice je lK jF] 296 (0,0))):=FJ Lh.out (by decide) (by decide) (by decide) (by decide);have mD:Hid (wt.heap[R]?=some (.cells #[Qa 0,Qa 0,.bool false,.slice none 0 0] 296 (0,0))):=FJ yB.out (by decide) (by decide) (by decide) (by decide);have yD:Hid (wt.heap[D]?=some (.cells #[Qa nr,Qa nl] 192 (0,0))):=FJ SH.out (by decide) (by decide) (by decide) (by decide);have Lj:=hDq SN;have SR:=hDq (Ba.out.trans Li);have SS:=hDq Ar;have aeg:=hDq SQ;clear FJ SN Li Ar SQ Lh yB SH sx Ba SI HST SK SL
 try clear e3 g3
 try clear FI
 have fW:=hDq (Lj.out.it i hi);have d0:wt.cell? (Qb D 0)=some (Qa nr):=by rw[cR wt _ 0 _ _ _ yD.out];rfl
 have d1:wt.cell? (Qb D 1)=some (Qa nl):=by rw[cR wt _ 1 _ _ _ yD.out];rfl
 have i1:wt.cell? ⟨I i,1,none⟩=some (Qa (n (i*2))):=by rw[cR wt _ 1 _ _ _ fW.out];rfl
 have i2:wt.cell? ⟨I i,2,none⟩=some (Qa (n (i*2+1))):=by rw[cR wt _ 2 _ _ _ fW.out];rfl
 have j1:wt.frozen? ⟨I i,1,none⟩=false:=by simp[World.frozen?,fW.out]
 have j2:wt.frozen? ⟨I i,2,none⟩=false:=by simp[World.frozen?,fW.out]
 have r0:wt.cell? (Qb R 0)=some (Qa 0):=by rw[cR wt _ 0 _ _ _ mD.out];rfl
 have r1:wt.cell? (Qb R 1)=some (Qa 0):=by rw[cR wt _ 1 _ _ _ mD.out];rfl
 have r2:wt.cell? (Qb R 2)=some (.bool false):=by rw[cR wt _ 2 _ _ _ mD.out];rfl
 have r3:wt.cell? (Qb R 3)=some (.slice none 0 0):=by rw[cR wt _ 3 _ _ _ mD.out];rfl
 have q0:wt.frozen? (Qb R 0)=false:=by simp[World.frozen?,mD.out]
 have q1:wt.frozen? (Qb R 1)=false:=by simp[World.frozen?,mD.out]
 have q2:wt.frozen? (Qb R 2)=false:=by simp[World.frozen?,mD.out]
 have q3:wt.frozen? (Qb R 3)=false:=by simp[World.frozen?,mD.out]
 have wE:R<wt.heap.size:=lBq mD.out;have aeh:I i<wt.heap.size:=lBq fW.out;have hDl:D<wt.heap.size:=lBq yD.out;have aei:¬ R=wt.heap.size:=by omega
 have aej:¬ I i=wt.heap.size:=by omega
 have hDn:¬ D=wt.heap.size:=by omega
 have Bb:R≠I i:=aI mD.out fW.out (by decide);have aek:I i≠R:=Ne.symm Bb;have ael:D≠I i:=aI yD.out fW.out (by decide);have aem:D≠R:=aI yD.out mD.out (by decide);have e0:wt.cell? (Qb E 0)=some (Qa p):=by rw[cR wt _ 0 _ _ _ yC.out];rfl
 have e1:wt.cell? (Qb E 1)=some (Qa vol):=by rw[cR wt _ 1 _ _ _ yC.out];rfl
 have e2:wt.cell? (Qb E 2)=some (.bool true):=by rw[cR wt _ 2 _ _ _ yC.out];rfl
 have e3:wt.cell? (Qb E 3)=some (.slice je lK jF):=by rw[cR wt _ 3 _ _ _ yC.out];rfl
 have aoj:E≠I i:=aI yC.out fW.out (by decide);have aok:E≠R:=Ne.symm qP.out;have uq:Hid (((wt.setCell ⟨I i,1,none⟩ (Qa nr)).setCell ⟨I i,2,none⟩ (Qa nl)).heap[I i]?=some (.cells (t7 (b i) nr nl) 267 (0,0))):=by
  have h0:(wt.setCell ⟨I i,1,none⟩ (Qa nr)).heap[I i]?=some (.cells #[.pointer (some ⟨b i,0,none⟩),Qa nr,Qa (n (i*2+1))] 267 (0,0)):=by
   rw[setCell_eq_setRow wt (I i) 1 _ _ _ _ fW.out];exact setRow_heap wt (I i) _ _ _ _ fW.out
  show _=_;rw[setCell_eq_setRow _ (I i) 2 _ _ _ _ h0];exact setRow_heap _ (I i) _ _ _ _ h0
 have fK:=hDq (Lj.out.kZ hi uq.out ((aM.setCell _ _ _ _).put _ _));have r9:=hDq (SR.out.trans (bK.R9 hi ((aM.setCell wt (I i) 1 (Qa nr)).put 2 (Qa nl)) P b v10));have fg:Hid (((wt.setCell ⟨I i,1,none⟩ (Qa nr)).setCell ⟨I i,2,none⟩ (Qa nl)).heap[R]?=some (.cells #[Qa 0,Qa 0,.bool false,.slice none 0 0] 296 (0,0))):=by
  show _=_;rw[((aM.setCell wt (I i) 1 (Qa nr)).put 2 (Qa nl)).block R wE Bb];exact mD.out
 have aen:=hDq (SS.out.save ((aM.setCell wt (I i) 1 (Qa nr)).put 2 (Qa nl)) fW.out (by decide));have Bc:Hid (w.heap.size<=R):=by have:=hF.out.bG.size;have:=jb.out;show _<=_;omega
 generalize pX:(wt.setCell ⟨I i,1,none⟩ (Qa nr)).setCell ⟨I i,2,none⟩ (Qa nl)=bN at *;have nD:=hDq pX;clear pX Lj SR SS yC yD mD uq fW;have jf:Hid (aM bN ((((bN.setCell (Qb R 0) (Qa p)).setCell (Qb R 1) (Qa vol)).setCell (Qb R 2) (.bool true)).setCell (Qb R 3) (.slice je lK jF)) R):=(((aM.setCell _ R 0 (Qa p)).put 1 (Qa vol)).put 2 (.bool true)).put 3 (.slice je lK jF);have lL:=hDq (fK.out.aside (aI fg.out fK.out.blk (by decide)) (aI fg.out fK.out.cQ (by decide)) (fun j hj=>⟨aI fg.out (fK.out.it j hj) (by decide),aI fg.out (fK.out.aH j hj).cell (by decide),jc (fK.out.aH j hj).row fg.out (by decide)⟩) Bc.out jf.out);have lM:=hDq (r9.out.newer jf.out (by rw[jb.out];exact lRq _));have aeo:=hDq (aen.out.save jf.out fg.out (by decide));have eU:Hid (((((bN.setCell (Qb R 0) (Qa p)).setCell (Qb R 1) (Qa vol)).setCell (Qb R 2) (.bool true)).setCell (Qb R 3) (.slice je lK jF)).heap[R]?=some (.cells #[Qa p,Qa vol,.bool true,.slice je lK jF] 296 (0,0))):=wF fg.out p vol true _;simp only[];go_wp2;rw[nD.out];generalize ((((bN.setCell (Qb R 0) (Qa p)).setCell (Qb R 1) (Qa vol)).setCell (Qb R 2) (.bool true)).setCell (Qb R 3) (.slice je lK jF))=Wf at *;have z0:Wf.cell? (Qb R 0)=some (Qa p):=by rw[cR Wf _ 0 _ _ _ eU.out];rfl
 have dw:Wf.cell? (Qb R 1)=some (Qa vol):=by rw[cR Wf _ 1 _ _ _ eU.out];rfl
 have z2:Wf.cell? (Qb R 2)=some (.bool true):=by rw[cR Wf _ 2 _ _ _ eU.out];rfl
 have z3:Wf.cell? (Qb R 3)=some (.slice je lK jF):=by rw[cR Wf _ 3 _ _ _ eU.out];rfl
 exact bodyPost_ret (v:=.tuple #[.agg #[Qa p,Qa vol,.bool true,.slice je lK jF],.nilIface]) (by simp[results,Tryz.results191,go_sem,z0,dw,z2,z3]) rfl ⟨_,_,rfl,lL.out,lM.out,aeo.out,aeg.out⟩
end
structure dU (L:Nat->List Cv.ag) (pf n:Nat->Int) (wd h:Int):Prop where
 ok:Fs.dM L pf
 kZ:∀ i,i<3->aZ.jv (n (i*2)) (n (i*2+1))=true
 rule:aZ.iW wd h=true
namespace Fl
def oI (L:Nat->List Cv.ag) (i:Nat) (bh:List (Int×Int)):Nat->List Cv.ag:=upd L i (Fs.ig bh (L i))
def runN (n:Nat->Int) (i:Nat) (wd h p vol:Int):Nat->Int:=upd (upd n (i*2) (aZ.oc (n (i*2)) (n (i*2+1)) wd p vol)) (i*2+1) (aZ.od (n (i*2)) (n (i*2+1)) wd h p vol)
def oJ (n:Nat->Int) (i:Nat) (wd p vol:Int):Bool:=aZ.og (n (i*2)) (n (i*2+1)) wd p vol
end Fl
theorem aeA {r l wd h p v:Int} (hb:aZ.jv r l=true) (hr:aZ.iW wd h=true) (hp:0<v->1<=p/\p<=1000):aZ.jv (aZ.oc r l wd p v) (aZ.od r l wd h p v)=true:=by
 simp only[aZ.jv,aZ.iW,ah.aG,Bool.and_eq_true,decide_eq_true_eq]at *;unfold aZ.oc aZ.od;by_cases h1:0<l
 .rw[if_pos h1,if_pos h1]
  split
  .have:=hp (by omega);omega
  .omega
 .rw[if_neg h1,if_neg h1]
  by_cases h2:0<v
  .have:=hp h2
   cases aZ.vJ wd r p <;> simp[h2] <;> omega
  .simp[h2];omega
theorem dU.run {L:Nat->List Cv.ag} {pf n:Nat->Int} {wd h:Int} (H:dU L pf n wd h) {i:Nat} (hi:i<3) {p vol:Int} (hw:Cv.fD (L i) (n (i*2)) 1000 p vol) {L':Nat->List Cv.ag} {oK:Nat->Int} (ho:Fs.dM L' oK):dU L' oK (Fl.runN n i wd h p vol) wd h:=by
 refine⟨ho,fun j hj=>?_,H.rule⟩;unfold Fl.runN;by_cases e:j=i
 .subst e
  rw[upd_same,upd_ne _ _ (by omega),upd_same];refine aeA (H.kZ j hj) H.rule (fun hv=>?_);rcases hw with ⟨_,e2,_⟩ | ⟨_,e2,e3,_⟩
  .omega
  .exact⟨e2,e3⟩
 .rw[upd_ne _ _ (by omega),upd_ne _ _ (by omega),upd_ne _ _ (by omega),upd_ne _ _ (by omega)]
  exact H.kZ j hj
section
variable {w W:World} {F P:Nat} {I b:Nat->Nat} {v:Nat->Value} {L:Nat->List Cv.ag} {pf n:Nat->Int} {wd h:Int} {ev:Nat->Value}
theorem aeB (i:Nat) (hi:i<3) (s p vol:Int) (hs:Ra.IsU s) (hF:bk w W F P I b v L pf n wd h) (he:eA w ev) (H:dU L pf n wd h) (jS:Cv.fD (L i) (n (i*2)) 1000 p vol) :
  Calls Tryz.prog 191 #[Qc F,Qa i,.int .u32 s] W fun e W'=>∃ iE v',e=.returned (.tuple #[AX p vol (Fl.oJ n i wd p vol) iE,.nilIface]) /\
   bk w W' F P I b v' (Fl.oI L i (Fl.oL s (L i) (Fl.oJ n i wd p vol) p vol)) (Fs.ia pf i p (L i) (Fl.oL s (L i) (Fl.oJ n i wd p vol) p vol)) (Fl.runN n i wd h p vol) wd h/\bK W W' P I b v v' /\
   fM W' iE (Fl.oL s (L i) (Fl.oJ n i wd p vol) p vol)/\dU (Fl.oI L i (Fl.oL s (L i) (Fl.oJ n i wd p vol) p vol)) (Fs.ia pf i p (L i) (Fl.oL s (L i) (Fl.oJ n i wd p vol) p vol)) (Fl.runN n i wd h p vol) wd h:=by
 have hv0:=(jS.range (by decide)).2.2;by_cases hc:Fl.oJ n i wd p vol=true/\0<vol
 .have e:Fl.oL s (L i) (Fl.oJ n i wd p vol) p vol=Ra.fills s (L i) p vol:=by unfold Fl.oL;rw[if_pos hc]
  rw[e,hc.1];refine(ad7 i hi s p vol hs hF he H.ok (H.kZ i hi) H.rule jS hc.1 hc.2).mono ?_;rintro e W' ⟨iE,v',rfl,h1,h2,h3,h4⟩;exact⟨iE,v',rfl,h1,h2,h3,H.run hi jS h4⟩
 .have e:Fl.oL s (L i) (Fl.oJ n i wd p vol) p vol=[]:=by unfold Fl.oL;rw[if_neg hc]
  have hst:aZ.og (n (i*2)) (n (i*2+1)) wd p vol=false\/vol=0:=by
   cases ho:aZ.og (n (i*2)) (n (i*2+1)) wd p vol with
   | false=>exact .inl rfl
   | true=>exact .inr (by have:¬ 0<vol:=fun hv=>hc ⟨ho,hv⟩;omega)
  have e2:Fl.oI L i []=L:=by unfold Fl.oI;rw[Fs.FR (H.ok.aH i hi).oks,qI]
  rw[e,e2,Fs.Ta];refine(aeC i hi s p vol hF he H.ok (H.kZ i hi) H.rule jS hst).mono ?_;rintro e W' ⟨rfl,h1,h2⟩;exact⟨_,v,rfl,h1,h2,.inl ⟨rfl,none,0,rfl⟩,H.run hi jS H.ok⟩
end
theorem adD (a b c:Option Addr) (w:World):(Instr.index 208 (.agg #[.pointer a,.pointer b,.pointer c]) (Qa 0)).run Tryz.prog w=.ok (.pointer a) w:=by kernel_rfl
theorem adE (a b c:Option Addr) (w:World):(Instr.index 208 (.agg #[.pointer a,.pointer b,.pointer c]) (Qa 1)).run Tryz.prog w=.ok (.pointer b) w:=by kernel_rfl
theorem adF (a b c:Option Addr) (w:World):(Instr.index 208 (.agg #[.pointer a,.pointer b,.pointer c]) (Qa 2)).run Tryz.prog w=.ok (.pointer c) w:=by kernel_rfl
theorem adG (I:Nat->Nat) {i:Nat} (hi:i<3) (w:World):(Instr.index 208 (.agg #[.pointer (some ⟨I 0,0,none⟩),.pointer (some ⟨I 1,0,none⟩),.pointer (some ⟨I 2,0,none⟩)]) (Qa i)).run Tryz.prog w=.ok (.pointer (some ⟨I i,0,none⟩)) w:=by
 match i,hi with
 | 0,_=>exact adD _ _ _ w
 | 1,_=>exact adE _ _ _ w
 | 2,_=>exact adF _ _ _ w
def adH (w W W':World) (e:Ending) (F P:Nat) (I b:Nat->Nat) (v:Nat->Value) (L:Nat->List Cv.ag) (pf n:Nat->Int) (wd h c:Int):Prop:=∃ u v',e=.returned u/\W'.ownsRow W.heap.size 197 5 u (Fl.kW c L 3).length (flat (Fl.kW c L 3))/\bk w W' F P I b v' (Fl.i_ c L 3) (Fl.ot c L pf 3) n wd h/\bK W W' P I b v v'/\Fs.dM (Fl.i_ c L 3) (Fl.ot c L pf 3)
structure Gone (W0 W:World) (b:Nat->Nat) (v:Nat->Value) (u:Value) (out:List Cv.ag):Prop where
 row:W.ownsRow W0.heap.size 197 5 u out.length (flat out)
 ap:∀ j,j<3->∀ k,u.ownBlock=some k->(v j).ownBlock≠some k
section
variable {w W0 W W':World} {F P:Nat} {I b:Nat->Nat} {v v':Nat->Value} {L:Nat->List Cv.ag} {pf n:Nat->Int} {wd h:Int} {ev:Nat->Value} {u:Value} {out:List Cv.ag}
theorem Gone.later (H:Gone W0 W b v u out) (hb:Qd W W'):Gone W0 W' b v u out:=⟨cO H.row hb,H.ap⟩
theorem Gone.act (H:Gone W0 W b v u out) (hF:bk w W F P I b v L pf n wd h) (hs:bK W W' P I b v v'):Gone W0 W' b v' u out:=by
 have hlt:=H.row.lt;refine⟨⟨H.row.1,?_⟩,fun j hj k hk e=>?_⟩
 .rcases H.row.2 with hn | ⟨g,cap,cur,e,hg,dX,rest⟩
  .exact .inl hn
  .have hu:u.ownBlock=some g:=by rw[e];rfl
   refine .inr ⟨g,cap,cur,e,hg,?_,rest⟩;rw[hs.keep g (lBq dX) (aI dX hF.cQ (by decide)) (fun j hj=>⟨aI dX (hF.it j hj) (by decide),aI dX (hF.aH j hj).cell (by decide),H.ap j hj g hu⟩)];exact dX
 .rcases hs.new j hj k e with h1 | h1
  .exact H.ap j hj k hk h1
  .have:=(hlt k hk).2;omega
theorem bk.grow (hF:bk w W F P I b v L pf n wd h) (H:Gone W0 W b v u out) (hW0:w.heap.size<=W0.heap.size) (hg:W.grownBy W' u.ownBlock):bk w W' F P I b v L pf n wd h:=by
 have hlt:=H.row.lt;have ho:Only W W' none u.ownBlock:=Only.iM hg none;have hk:∀ {q:Nat} {a:Array Value} {T:TypeId},W.heap[q]?=some (.cells a T (0,0))->T≠197->W'.heap[q]?=some (.cells a T (0,0)):=fun {q a T} hq hT=>by
  rw[ho.block q (lBq hq) (by simp) (fun e=>jc H.row hq hT e.symm)];exact hq
 refine⟨hk hF.blk (by decide),fun i hi=>hk (hF.it i hi) (by decide),fun i hi=>?_,hF.pJ,hF.ne,hF.ap,hk hF.cQ (by decide),hF.lo,hF.nt,hF.nu,hF.bG.trans (ho.below hF.bG.size (fun k e=>by cases e) (fun k e=>lTq hW0 (hlt k e).1))⟩;exact(hF.aH i hi).only ho (by simp) (fun e=>jc H.row (hF.aH i hi).cell (by decide) e.symm) (fun _ _=>by simp) (fun k hk e=>H.ap i hi k e.symm hk)
theorem bK.grown {W W1 W2:World} {P:Nat} {I b:Nat->Nat} {v v1:Nat->Value} (h:bK W W1 P I b v v1) {r:Option Nat} (hg:W1.grownBy W2 r) (hr:∀ g,r=some g->W.heap.size<=g):bK W W2 P I b v v1 :=
 ⟨hg.os.trans h.os,hg.tape.trans h.tape,hg.output.trans h.output,lTq h.size hg.size,fun k hk h1 h2=>by rw[hg.block k (Nat.lt_of_lt_of_le hk h.size) (fun e=>by have:=hr k e.symm;omega)];exact h.keep k hk h1 h2,h.new⟩
theorem adI (c:Int) (hF:Hid (bk w W F P I b v L pf n wd h)) (he:Hid (eA w ev)) (hok:Hid (Fs.dM L pf)) :
  Calls Tryz.prog 186 #[Qc F,Qa c] W fun e W'=>adH w W W' e F P I b v L pf n wd h c:=by
 obtain⟨i0,z0,hi,hz0,hz1,hz2,hz3⟩:=DN;have Hi:=hDq hi;have eG:=hDq hz0;have eH:=hDq hz1;have eI:=hDq hz2;have kQ:=hDq hz3;clear hi hz0 hz1 hz2 hz3;have p0:W.cell? (Qb F 2)=some (.pointer (some ⟨I 0,0,none⟩)):=hF.out.wy (i:=0) (by decide);have p1:W.cell? (Qb F 3)=some (.pointer (some ⟨I 1,0,none⟩)):=hF.out.wy (i:=1) (by decide);have p2:W.cell? (Qb F 4)=some (.pointer (some ⟨I 2,0,none⟩)):=hF.out.wy (i:=2) (by decide);have AL:=hDq (Fl.D' c L (fun i hi=>(hok.out.aH i hi).len));have HW0:Hid (w.heap.size<=W.heap.size):=hF.out.bG.size;go_enter Tryz.func186,Tryz.ntmps186;go_wp2
 go_loopw [5,14] (fun u cc wr=>∃ (i:Nat) (lJ:Nat->Value),i<=3/\cc=Qa i/\bk w wr F P I b lJ (Fl.i_ c L i) (Fl.ot c L pf i) n wd h/\bK W wr P I b v lJ/\Gone W wr b lJ u (Fl.kW c L i)/\Fs.dM (Fl.i_ c L i) (Fl.ot c L pf i)) (fun _ cc _=>3-(intOf cc).toNat)
 case atStart=>exact⟨0,v,by omega,rfl,hF.out,bK.refl _ _ _ _ _,⟨⟨rfl,.inl ⟨rfl,rfl⟩⟩,fun j hj k hk=>by cases hk⟩,hok.out⟩
 case round =>
  obtain⟨i,lJ,hi,rfl,hf,hs,hg,ho⟩:=hrel;obtain⟨J0,adJ⟩:∃ J0,J0=u5:=⟨_,rfl⟩;subst adJ;obtain⟨gz,hwo⟩:∃ gz,gz=wr:=⟨_,rfl⟩;subst hwo;have fW:=hDq hf;have J2:=hDq hs;have Eb:=hDq hg;have J3:=hDq ho;clear hf hs hg ho p0 p1 p2;by_cases bQ:i<3
  .have aX:(i:Int)<3:=by omega
   have ix:=fun W=>adG I bQ W;have Ec:=Fl.JR c L i i (lRq _);have cb:=fW.out.wz bQ;have J4:=vT (b i) w.heap.size (lJ i) (Fl.i_ c L i i) gz (fW.out.aH i bQ) (J3.out.aH i bQ).len;rw[Ec]at J4;have lD:=hDq J4;have Ed:=hDq (hok.out.aH i bQ).once;have ua:=hDq (hok.out.aH i bQ).len;have RI:Hid (upd (Fl.i_ c L i) i (Fl.fF c (L i) 0)=Fl.i_ c L i):=by show _=_;rw[Fl.Ru,<- Ec,qI]
   have aoh:=hDq Ec;clear J4 Ec
   go_wp2_with fail
   refine lD.out.mono ?_;rintro e w2 ⟨vl,rfl,hrow,hb2⟩;have cm:=hDq (fW.out.later hb2);have HS2:=hDq (J2.out.below hb2);have vZ:=hDq (Eb.out.later hb2);have RJ:=J5 hrow;have av:Hid (gz.heap.size<=w2.heap.size):=hb2.size;have iD:=hDq hrow;have adK:=hDq fW.out;have RL:Hid (∀ g,J0.ownBlock=some g->g<gz.heap.size):=fun g hg=>(Eb.out.row.lt g hg).2;clear hrow hb2 lD cb J2 Eb;obtain⟨la,lc,hvl⟩:∃ la lc,vl=.slice la (L i).length lc:=by
    rcases RJ with ⟨e,a,c,rfl⟩ | ⟨g,o,c,rfl,_⟩
    .exact⟨a,c,by rw[e];rfl⟩
    .exact⟨_,_,rfl⟩
   subst hvl;obtain⟨m,hm⟩:∃ m,(L i).length=m:=⟨_,rfl⟩;rw[hm]at iD;rw[hm];have abn:m<=60:=by rw[<- hm];exact ua.out
   have HM:=hDq hm;clear RJ hm;have RN:Hid (∀ g,(Value.slice la m lc).ownBlock=some g->g<w2.heap.size):=fun g hg=>(iD.out.lt g hg).2;simp only[]
   go_wp2_with fail
   go_loopw [5,24] (fun u cc wl=>∃ (k:Nat) (pK:Nat->Value) (fk:Nat->Int),k<=m/\cc=Qa k/\fk=Fl.ym i (Fl.ot c L pf i) (Fl.jX c (L i) k)/\bk w wl F P I b pK (upd (Fl.i_ c L i) i (Fl.fF c (L i) k)) fk n wd h/\bK W wl P I b v pK/\(∀ j,j<3->∀ g,(pK j).ownBlock=some g->(lJ j).ownBlock=some g\/w2.heap.size<=g)/\Gone W wl b pK u (Fl.kW c L i++Fl.jX c (L i) k)/\Fs.dM (upd (Fl.i_ c L i) i (Fl.fF c (L i) k)) fk/\wl.ownsRow gz.heap.size 197 5 (.slice la m lc) m (flat (L i))/\(∀ g,(Value.slice la m lc).ownBlock=some g->u.ownBlock≠some g)/\w2.heap.size<=wl.heap.size) (fun _ cc _=>m-(intOf cc).toNat)
   case atStart =>
    refine⟨0,lJ,_,Nat.zero_le _,rfl,rfl,?_,HS2.out,fun j hj g hg=>.inl hg,?_,?_,iD.out,?_,lRq _⟩
    .rw[RI.out];exact cm.out
    .rw[show Fl.jX c (L i) 0=[] from rfl,aNq];exact vZ.out
    .rw[RI.out];exact J3.out
    .intro g hg e
     have h1:=(iD.out.lt g hg).1;have h2:=RL.out g e;omega
   case round =>
    obtain⟨k,pK,fk,hk,rfl,r8,hf,hs,hs2,hg,ho,hrow,hap,hsz⟩:=hrel;obtain⟨J6,adL⟩:∃ J6,J6=u5:=⟨_,rfl⟩;subst adL;obtain⟨wl,mf⟩:∃ wl,wl=wr:=⟨_,rfl⟩;subst mf;have oA:=hDq r8;have oB:=hDq hf;have uf:=hDq hs;have J7:=hDq hs2;have AO:=hDq hg;have wA:=hDq ho;have qK:=hDq hrow;have J8:=hDq hap;have adM:=hDq hsz;clear r8 hf hs hs2 hg ho hrow hap hsz cm HS2 vZ iD RL;by_cases hlt:k<m
    .have hkm:(k:Int)<m:=by omega
     have hkl:k<(L i).length:=by rw[HM.out];exact hlt
     obtain⟨gl,hla⟩:∃ gl,la=some (Qb gl 0):=by
      rcases qK.out.2 with ⟨e,_⟩ | ⟨g,cap,cur,e,_⟩
      .simp at e;omega
      .simp at e;exact⟨g,e.1⟩
     subst hla;obtain⟨c0,c1,c2,c3,c4⟩:=(yr qK.out) k hkl;rw[show 0+k*5=k*5 by omega]at c0 c1 c2 c3 c4;have J9:=hDq (fun (hc:(Cv.nth (L i) k).ak=c)=>Fl.JQ Ed.out hkl hc);have J_:=hDq (fun (hc:(Cv.nth (L i) k).ak≠c)=>Fl.keep_other hkl hc);have RO:=hDq (fun (hc:(Cv.nth (L i) k).ak=c)=>Fl.drop_one bQ wA.out Ed.out hkl hc);generalize Cv.nth (L i) k=X at *;obtain⟨x0,x1,x2,x3,x4⟩:=X;simp only[]at c0 c1 c2 c3 c4 J9 J_ RO;obtain⟨gb,pM⟩:∃ gb,wl.alloc (.cells #[Qa x0,Qa x1,Qa x2,Qa x3,Qa x4] 197)=gb:=⟨_,rfl⟩;obtain⟨DD,yt⟩:∃ DD,wl.heap.size=DD:=⟨_,rfl⟩;have hba:Qd wl gb:=by rw[<- pM];exact(bRq _ _).alloc (lRq _) _
     have J':Hid (gb.heap[DD]?=some (.cells #[Qa x0,Qa x1,Qa x2,Qa x3,Qa x4] 197 (0,0))):=by show _=_;rw[<- pM,<- yt];exact hNq _ _
     have AP:=hDq (oB.out.later hba);have Ka:=hDq (uf.out.below hba);have Ee:=hDq (AO.out.later hba);have Ef:=hDq (cO qK.out hba);have RP:=hDq (oB.out.fresh (q:=DD) (by omega));have aoi:Hid (J6.ownBlock≠some DD):=fun e=>by have:=(AO.out.row.lt DD e).2;omega
     have oC:Hid (w2.heap.size<=gb.heap.size):=lTq adM.out hba.size;have AQ:=hDq pM;have Eg:=hDq yt;clear hba pM yt oB uf AO qK;by_cases hc:x1=c
     .obtain⟨RQ,RS,adN,adO⟩:=J9.out hc
      have hlen:=(wA.out.aH i bQ).len;rw[upd_same]at hlen;have Kc:=RH i bQ ⟨x0,x1,x2,x3,x4⟩ AP.out he.out wA.out.good (by show _<=_;rw[upd_same];exact hlen);rw[upd_same,rZ,RQ]at Kc;have Eh:=hDq Kc;unfold bU at Eh;simp only[]at Eh;have RU:=hDq RS;clear RQ RS adN adO hlen Kc J9 J_;subst hc
      go_wp2_with fail
      rw[AQ.out,Eg.out];refine Eh.out.mono ?_;rintro e bN ⟨rfl,vb,yu,lF⟩;have r9:=hDq (Ka.out.trans lF);have adP:Hid (∀ j,j<3->∀ g,(vb j).ownBlock=some g->(lJ j).ownBlock=some g\/w2.heap.size<=g):=fun j hj g hg=>by
       rcases lF.new j hj g hg with h5 | h5
       .exact J7.out j hj g h5
       .exact .inr (lTq oC.out h5)
      have AR:=hDq (Ee.out.act AP.out lF);have yw:Hid (bN.heap[DD]?=some (.cells #[Qa x0,Qa x1,Qa x2,Qa x3,Qa x4] 197 (0,0))):=by show _=_;rw[lF.keep DD (lBq J'.out) RP.out.2.1 RP.out.2.2];exact J'.out
      have hrb:bN.ownsRow gz.heap.size 197 5 (.slice (some (Qb gl 0)) m lc) m (flat (L i)):=by
       refine⟨Ef.out.1,?_⟩;rcases Ef.out.2 with hn | ⟨g,cap,cur,e,hg,dX,rest⟩
       .exact .inl hn
       .obtain⟨_,f2,f3⟩:=adK.out.fresh hg
        refine .inr ⟨g,cap,cur,e,hg,?_,rest⟩;rw[lF.keep g (lBq dX) f2 (fun j hj=>⟨(f3 j hj).1,(f3 j hj).2.1,fun e2=>?_⟩)]
        .exact dX
        .rcases J7.out j hj g e2 with h5 | h5
         .exact(f3 j hj).2.2 h5
         .have:=RN.out g (by rw[e];rfl);omega
      have RV:Hid (gb.heap.size<=bN.heap.size):=lF.size;have fg:=hDq hrb;have fK:=hDq yu;clear yu lF hrb Eh AP Ka Ee J' Ef;have kY:bN.cell? (Qb DD 0)=some (Qa x0):=by rw[cR bN _ 0 _ _ _ yw.out];rfl
      have k1:bN.cell? (Qb DD 1)=some (Qa x1):=by rw[cR bN _ 1 _ _ _ yw.out];rfl
      have k2:bN.cell? (Qb DD 2)=some (Qa x2):=by rw[cR bN _ 2 _ _ _ yw.out];rfl
      have k3:bN.cell? (Qb DD 3)=some (Qa x3):=by rw[cR bN _ 3 _ _ _ yw.out];rfl
      have k4:bN.cell? (Qb DD 4)=some (Qa x4):=by rw[cR bN _ 4 _ _ _ yw.out];rfl
      have RX:Hid ((Fl.kW x1 L i++Fl.jX x1 (L i) k).length<=400):=by
       have h1:=AL.out i (by omega);have h2:=List.length_filter_le (fun x:Cv.ag=>x.ak==x1) ((L i).take k);have h3:=List.length_take_le k (L i);have h4:=ua.out;show _<=_;unfold Fl.jX;rw[lAq];omega
      generalize RY:Fl.kW x1 L i++Fl.jX x1 (L i) k=Kd at *;have adQ:=hDq RY;clear RY;simp only[]
      go_wp2_with (at_builtin;refine wpList_append_own_at _ rfl _ _ 195 rfl W.heap.size 197 i0 z0 5 40 Tryz.underlying195 Hi.out eG.out eH.out eI.out kQ.out (by decide) _ _ _ rfl (AR.out.row.alloc _) (Qb bN.heap.size 0) 1 1 (ep ⟨x0,x1,x2,x3,x4⟩) rfl rfl ?c1 ?c2 ?c3 ?c4 ?c5 ?_)
      case c1=>exact fun j y hj=>xY bN ⟨x0,x1,x2,x3,x4⟩ 197 _ rfl j y hj
      case c2 => exact fun y hu => by
                      simp only[ep,List.mem_cons,List.not_mem_nil,or_false]at hu;rcases hu with rfl | rfl | rfl | rfl | rfl <;> rfl
      case c3=>have:=RX.out;unfold maxLen;omega
      case c4=>have:=RX.out;omega
      case c5=>have:=r9.out.size;simp;omega
      intro ve we hown' hgrow _ hloc;have hb0:Qd bN (bN.alloc (.cells #[Qa x0,Qa x1,Qa x2,Qa x3,Qa x4] 197)):=(bRq _ _).alloc (lRq _) _;have ug:=(fK.out.later hb0).grow (AR.out.later hb0) HW0.out hgrow;have yx:=(r9.out.below hb0).grown hgrow (fun g hg=>(AR.out.row.lt g hg).1);have hgo:Gone W we b vb ve (Kd++[Cv.ag.mk x0 x1 x2 x3 x4]):=by
       refine⟨?_,fun j hj g hg e=>?_⟩
       .rw[show flat (Kd++[Cv.ag.mk x0 x1 x2 x3 x4])=flat Kd++ep ⟨x0,x1,x2,x3,x4⟩ by simp[flat],lAq]
        exact hown'
       .have Ke:=((fK.out.aH j hj).tJ g e).2
        rcases hloc with h5 | h5
        .rw[h5]at hg;exact AR.out.ap j hj g hg e
        .rw[h5]at hg
         simp at hg;omega
      have RZ:we.ownsRow gz.heap.size 197 5 (.slice (some (Qb gl 0)) m lc) m (flat (L i)):=by
       have ib:=cO fg.out hb0;refine⟨ib.1,?_⟩;rcases ib.2 with hn | ⟨g,cap,cur,e,hg,dX,rest⟩
       .exact .inl hn
       .exact .inr ⟨g,cap,cur,e,hg,by rw[hgrow.block g (lBq dX) (fun e2=>J8.out g (by rw[e];rfl) e2.symm)];exact dX,rest⟩
      have R1:∀ g,(Value.slice (some (Qb gl 0)) m lc).ownBlock=some g->ve.ownBlock≠some g:=fun g hg e=>by
       rcases hloc with h5 | h5
       .rw[h5]at e;exact J8.out g hg e
       .rw[h5]at e
        have h6:=RN.out g hg;have h7:=oC.out;have h8:=RV.out;simp at e;omega
      have R3:w2.heap.size<=we.heap.size:=by have:=oC.out;have:=RV.out;have:=hb0.size;have:=hgrow.size;omega
      have adR:=hDq ug;have Ei:=hDq yx;have adS:=hDq hgo;have jb:=hDq RZ;have pF:=hDq R1;have adT:=hDq R3;clear hb0 ug yx hgo RZ R1 R3 hown' hgrow hloc kY k1 k2 k3 k4 fK r9 AR fg yw;go_wp2;refine⟨⟨k+1,vb,_,by omega,by go_num,?_,adR.out,Ei.out,adP.out,?_,RO.out (by simp),jb.out,pF.out,adT.out⟩,by simp[intOf];omega⟩
      .rw[oA.out,RU.out]
       unfold Fl.ym;rw[List.foldl_append];rfl
      .rw[RU.out,<- aAq,adQ.out]
       exact adS.out
     .obtain⟨h1,h2⟩:=J_.out hc
      have hcb:(x1==c)=false:=by simpa using hc
      rw[<- h1]at AP wA;rw[<- h2]at Ee oA;go_wp2;rw[AQ.out];exact⟨⟨k+1,pK,fk,by omega,by go_num,oA.out,AP.out,Ka.out,J7.out,Ee.out,wA.out,Ef.out,J8.out,oC.out⟩,by simp[intOf];omega⟩
    .have hkm:¬ (k:Int)<m:=by omega
     have e1:Fl.fF c (L i) k=(L i).filter (fun x=>!(x.ak==c)):=Fl.Rv c (by rw[HM.out];omega);have e2:Fl.jX c (L i) k=(L i).filter (fun x=>x.ak==c):=Fl.Rw c (by rw[HM.out];omega);rw[e1]at oB wA;rw[e2]at oA AO;go_wp2;refine⟨⟨i+1,pK,by omega,by go_num,?_,uf.out,AO.out,?_⟩,by simp[intOf];omega⟩
     .have:=oB.out;rw[oA.out]at this;exact this
     .have:=wA.out;rw[oA.out]at this;exact this
  .have aX:¬ (i:Int)<3:=by omega
   obtain rfl:i=3:=by omega
   go_wp2;go_ret;exact⟨_,_,rfl,Eb.out.row,fW.out,J2.out,J3.out⟩
end
theorem ow {W:World} {D:Nat} (hz:W.heap[D]?=some (.cells #[Qa 0,Qa 0,Qa 0,Qa 0,Qa 0] 197 (0,0))) (x0 x1 x2 x3 x4:Int) :
  (((((W.setCell (Qb D 0) (Qa x0)).setCell (Qb D 1) (Qa x1)).setCell (Qb D 2) (Qa x2)).setCell (Qb D 3) (Qa x3)).setCell (Qb D 4) (Qa x4)).heap[D]?=some (.cells #[Qa x0,Qa x1,Qa x2,Qa x3,Qa x4] 197 (0,0)):=by
 have h0:(W.setCell (Qb D 0) (Qa x0)).heap[D]?=some (.cells #[Qa x0,Qa 0,Qa 0,Qa 0,Qa 0] 197 (0,0)):=by
  rw[setCell_eq_setRow _ D 0 _ _ _ _ hz];exact setRow_heap _ D _ _ _ _ hz
 have h1:((W.setCell (Qb D 0) (Qa x0)).setCell (Qb D 1) (Qa x1)).heap[D]?=some (.cells #[Qa x0,Qa x1,Qa 0,Qa 0,Qa 0] 197 (0,0)):=by
  rw[setCell_eq_setRow _ D 1 _ _ _ _ h0];exact setRow_heap _ D _ _ _ _ h0
 have h2:(((W.setCell (Qb D 0) (Qa x0)).setCell (Qb D 1) (Qa x1)).setCell (Qb D 2) (Qa x2)).heap[D]?=some (.cells #[Qa x0,Qa x1,Qa x2,Qa 0,Qa 0] 197 (0,0)):=by
  rw[setCell_eq_setRow _ D 2 _ _ _ _ h1];exact setRow_heap _ D _ _ _ _ h1
 have h3:((((W.setCell (Qb D 0) (Qa x0)).setCell (Qb D 1) (Qa x1)).setCell (Qb D 2) (Qa x2)).setCell (Qb D 3) (Qa x3)).heap[D]?=some (.cells #[Qa x0,Qa x1,Qa x2,Qa x3,Qa 0] 197 (0,0)):=by
  rw[setCell_eq_setRow _ D 3 _ _ _ _ h2];exact setRow_heap _ D _ _ _ _ h2
 rw[setCell_eq_setRow _ D 4 _ _ _ _ h3];exact setRow_heap _ D _ _ _ _ h3
theorem Aw {n:Nat} {w W:World} {D:Nat} (h:Below n w W) (hD:n<=D) (x0 x1 x2 x3 x4:Value):Below n w (((((W.setCell (Qb D 0) x0).setCell (Qb D 1) x1).setCell (Qb D 2) x2).setCell (Qb D 3) x3).setCell (Qb D 4) x4) :=
 ((((h.setCell (p:=(Qb D 0)) hD _).setCell (p:=(Qb D 1)) hD _).setCell (p:=(Qb D 2)) hD _).setCell (p:=(Qb D 3)) hD _).setCell (p:=(Qb D 4)) hD _
theorem wm (W:World) (D:Nat) (x0 x1 x2 x3 x4:Value):aM W (((((W.setCell (Qb D 0) x0).setCell (Qb D 1) x1).setCell (Qb D 2) x2).setCell (Qb D 3) x3).setCell (Qb D 4) x4) D:=((((aM.setCell _ _ _ _).put _ _).put _ _).put _ _).put _ _
section
variable {w W:World} {F P:Nat} {I b:Nat->Nat} {v:Nat->Value} {L:Nat->List Cv.ag} {pf n:Nat->Int} {wd h:Int} {ev:Nat->Value}
theorem ady (a:Ask) (hF:Hid (bk w W F P I b v L pf n wd h)) (he:Hid (eA w ev)) (hk:Hid (Fl.fV a 99≠0)) :
  Calls Tryz.prog 217 #[Qc F,bu a] W fun e W'=>e=.returned (.tuple #[bU (Fl.fC L a),cV ev (Fl.dh L pf a)])/\∃ v',bk w W' F P I b v' (Fl.dQ L a) (Fl.jW L pf a) n wd h/\bK W W' P I b v v':=by
 have hpos:=Fl.D9 hk.out;have hC:Fl.dh L pf a=Fl.nk a 99:=by unfold Fl.dh Fl.nk;rw[if_neg hk.out]
 have hne:Fl.dh L pf a≠0:=by rw[hC];unfold Fl.nk;omega
 have hX:Fl.fC L a=Cv.z:=by unfold Fl.fC;rw[if_neg (fun h=>hk.out h.1)]
 have hL:Fl.dQ L a=L:=by unfold Fl.dQ;rw[if_neg (fun h=>hk.out h.1)]
 have hP:Fl.jW L pf a=pf:=by unfold Fl.jW;rw[if_neg (fun h=>hk.out h.1)]
 rw[hX,hL,hP,hC];rw[hC]at hne;have HK:=hDq (fun W' (hb:Qd W W')=>Ax a 99 W' ((hF.out.bY he.out).below hb) (by decide));generalize Fl.nk a 99=Ay at *;obtain⟨d,rfl⟩:∃ d,Ay=d+1:=⟨Ay-1,by omega⟩;rw[show cV ev (d+1)=.iface 412 (ev (d+1)) from rfl]at HK ⊢;clear hC hne hX hL hP;obtain⟨aO,ac,aV,bl,asd,aK,aq,aF⟩:=a;unfold bu aT at HK ⊢;simp only[]at HK ⊢;have hb0:Qd W ((W.alloc (.cells #[.int .u8 aO,Qa ac,Qa aV,Qa bl,Qa asd,Qa aK,Qa aq,Qa aF] 95)).alloc (.cells #[Qa 0,Qa 0,Qa 0,Qa 0,Qa 0] 197)):=((bRq _ _).alloc (lRq _) _).alloc (by simp) _;have hz0:((W.alloc (.cells #[.int .u8 aO,Qa ac,Qa aV,Qa bl,Qa asd,Qa aK,Qa aq,Qa aF] 95)).alloc (.cells #[Qa 0,Qa 0,Qa 0,Qa 0,Qa 0] 197)).heap[W.heap.size+1]?=some (.cells #[Qa 0,Qa 0,Qa 0,Qa 0,Qa 0] 197 (0,0)):=by have:=hNq (W.alloc (.cells #[.int .u8 aO,Qa ac,Qa aV,Qa bl,Qa asd,Qa aK,Qa aq,Qa aF] 95)) (.cells #[Qa 0,Qa 0,Qa 0,Qa 0,Qa 0] 197);simpa using this
 have bD:=hDq hb0;have jY:=hDq hz0;clear hb0 hz0;go_enter Tryz.func217,Tryz.ntmps217
 go_wp2_with fail
 refine(HK.out _ bD.out).mono ?_;rintro e w2 ⟨rfl,hb2⟩;have HB2:=hDq (bD.out.trans (hb2.mono bD.out.size));have HZ2:Hid (w2.heap[W.heap.size+1]?=some (.cells #[Qa 0,Qa 0,Qa 0,Qa 0,Qa 0] 197 (0,0))):=by show _=_;rw[hb2.block _ (lBq jY.out)];exact jY.out
 clear hb2 HK bD jY;generalize hR:W.heap.size+1=R at *;have r0:w2.cell? (Qb R 0)=some (Qa 0):=by rw[cR w2 _ 0 _ _ _ HZ2.out];rfl
 have r1:w2.cell? (Qb R 1)=some (Qa 0):=by rw[cR w2 _ 1 _ _ _ HZ2.out];rfl
 have r2:w2.cell? (Qb R 2)=some (Qa 0):=by rw[cR w2 _ 2 _ _ _ HZ2.out];rfl
 have r3:w2.cell? (Qb R 3)=some (Qa 0):=by rw[cR w2 _ 3 _ _ _ HZ2.out];rfl
 have r4:w2.cell? (Qb R 4)=some (Qa 0):=by rw[cR w2 _ 4 _ _ _ HZ2.out];rfl
 have q:∀ j,w2.frozen? (Qb R j)=false:=fun j=>by simp[World.frozen?,HZ2.out]
 have q0:=q 0;have q1:=q 1;have q2:=q 2;have q3:=q 3;have q4:=q 4;clear q;have Az:Hid (W.heap.size<=R):=by show _<=_;omega
 clear hR;simp only[];go_wp2;have cW:=ow HZ2.out 0 0 0 0 0;have jB:=Aw HB2.out Az.out (Qa 0) (Qa 0) (Qa 0) (Qa 0) (Qa 0);generalize (((((w2.setCell (Qb R 0) (Qa 0)).setCell (Qb R 1) (Qa 0)).setCell (Qb R 2) (Qa 0)).setCell (Qb R 3) (Qa 0)).setCell (Qb R 4) (Qa 0))=Wf at *;have z0:Wf.cell? (Qb R 0)=some (Qa 0):=by rw[cR Wf _ 0 _ _ _ cW];rfl
 have dw:Wf.cell? (Qb R 1)=some (Qa 0):=by rw[cR Wf _ 1 _ _ _ cW];rfl
 have z2:Wf.cell? (Qb R 2)=some (Qa 0):=by rw[cR Wf _ 2 _ _ _ cW];rfl
 have z3:Wf.cell? (Qb R 3)=some (Qa 0):=by rw[cR Wf _ 3 _ _ _ cW];rfl
 have z4:Wf.cell? (Qb R 4)=some (Qa 0):=by rw[cR Wf _ 4 _ _ _ cW];rfl
 exact bodyPost_ret (v:=.tuple #[.agg #[Qa 0,Qa 0,Qa 0,Qa 0,Qa 0],.iface 412 (ev (d+1))]) (by simp[results,Tryz.results217,go_sem,z0,dw,z2,z3,z4]) rfl ⟨rfl,v,hF.out.later jB,bK.of_below jB P I b v⟩
theorem adz (a:Ask) (hF:Hid (bk w W F P I b v L pf n wd h)) (he:Hid (eA w ev)) (hok:Hid (Fs.dM L pf)) (hk:Hid (Fl.fV a 99=0)) (hm:Hid (Fl.mine L a=false)) :
  Calls Tryz.prog 217 #[Qc F,bu a] W fun e W'=>e=.returned (.tuple #[bU (Fl.fC L a),cV ev (Fl.dh L pf a)])/\∃ v',bk w W' F P I b v' (Fl.dQ L a) (Fl.jW L pf a) n wd h/\bK W W' P I b v v':=by
 have hit:=Fl.D_ hk.out;obtain⟨i,hi⟩:∃ i:Nat,a.it=i:=⟨a.it.toNat,by omega⟩;have bQ:i<3:=by omega
 have kA:a.it.toNat=i:=by omega
 have HK:=hDq (fun W' (hb:Qd W W')=>Ax a 99 W' ((hF.out.bY he.out).below hb) (by decide));rw[Fl.JW hk.out,show cV ev 0=.nilIface from rfl]at HK;have yq:Fl.dh L pf a=5:=by unfold Fl.dh;rw[if_pos hk.out,if_neg (by rw[hm.out];simp)]
 have hX:Fl.fC L a=Cv.z:=by unfold Fl.fC;rw[if_neg (fun h=>by rw[hm.out]at h;simp at h)]
 have hL:Fl.dQ L a=L:=by unfold Fl.dQ;rw[if_neg (fun h=>by rw[hm.out]at h;simp at h)]
 have hP:Fl.jW L pf a=pf:=by unfold Fl.jW;rw[if_neg (fun h=>by rw[hm.out]at h;simp at h)]
 rw[hX,hL,hP,yq,show cV ev 5=.iface 412 (ev 5) from rfl];clear hX hL hP yq;have hmm:=hm.out;unfold Fl.mine at hmm;rw[kA]at hmm;obtain⟨aO,ac,aV,bl,asd,aK,aq,aF⟩:=a;simp only[]at hi kA;subst hi;unfold bu aT at HK ⊢;simp only[]at HK ⊢;simp only[]at hmm;obtain⟨is,tY⟩:∃ is,Cv.has (L i) aF=is:=⟨_,rfl⟩;obtain⟨⟨x0,x1,x2,x3,x4⟩,hX⟩:∃ X,Bk.jP (L i) aF=X:=⟨_,rfl⟩;have tZ:Hid (Cv.has (L i) aF=is/\Bk.jP (L i) aF=⟨x0,x1,x2,x3,x4⟩):=⟨tY,hX⟩;have hno:is=false\/is=true/\x1≠ac:=by
  cases is with
  | false=>exact .inl rfl
  | true =>
   refine .inr ⟨rfl,fun e=>?_⟩;rw[tY,Bool.true_and]at hmm;have hn:Cv.nth (L i) (Bk.pos (L i) aF)=⟨x0,x1,x2,x3,x4⟩:=by rw[<- hX];unfold Bk.jP;rw[if_pos tY]
   rw[hn]at hmm;simp[e]at hmm
 clear hmm tY hX;clear hit hk kA;obtain⟨R,hR⟩:∃ R,W.heap.size+1=R:=⟨_,rfl⟩;obtain⟨A,hA⟩:∃ A,W.heap.size=A:=⟨_,rfl⟩;obtain⟨w1,dz⟩:∃ w1,(W.alloc (.cells #[.int .u8 aO,Qa ac,Qa aV,Qa i,Qa asd,Qa aK,Qa aq,Qa aF] 95)).alloc (.cells #[Qa 0,Qa 0,Qa 0,Qa 0,Qa 0] 197)=w1:=⟨_,rfl⟩;have hb1:Qd W w1:=by rw[<- dz];exact((bRq _ _).alloc (lRq _) _).alloc (by simp) _
 have HR1:Hid (w1.heap[R]?=some (.cells #[Qa 0,Qa 0,Qa 0,Qa 0,Qa 0] 197 (0,0))):=by
  show _=_;rw[<- dz,<- hR]
  have:=hNq (W.alloc (.cells #[.int .u8 aO,Qa ac,Qa aV,Qa i,Qa asd,Qa aK,Qa aq,Qa aF] 95)) (.cells #[Qa 0,Qa 0,Qa 0,Qa 0,Qa 0] 197)
  simpa using this
 have HA1:Hid (w1.heap[A]?=some (.cells #[.int .u8 aO,Qa ac,Qa aV,Qa i,Qa asd,Qa aK,Qa aq,Qa aF] 95 (0,0))):=by
  show _=_;rw[<- dz,<- hA];exact(Below.heap_alloc _ _ _ (by simp)).trans (hNq W _)
 have HB1:=hDq hb1;have HRW:Hid (W.heap.size<=R):=by show _<=_;omega
 have HW1:=hDq dz;have jb:=hDq hR;have pF:=hDq hA;clear hb1 dz hR hA;go_enter Tryz.func217,Tryz.ntmps217
 go_wp2_with fail
 rw[HW1.out,jb.out,pF.out];refine(HK.out _ HB1.out).mono ?_;rintro e w2 ⟨rfl,hb2⟩;have hbW2:=HB1.out.trans (hb2.mono HB1.out.size);have bq:Hid (w2.heap[R]?=some (.cells #[Qa 0,Qa 0,Qa 0,Qa 0,Qa 0] 197 (0,0))):=by show _=_;rw[hb2.block _ (lBq HR1.out)];exact HR1.out
 have cz:Hid (w2.heap[A]?=some (.cells #[.int .u8 aO,Qa ac,Qa aV,Qa i,Qa asd,Qa aK,Qa aq,Qa aF] 95 (0,0))):=by show _=_;rw[hb2.block _ (lBq HA1.out)];exact HA1.out
 have cm:=hDq (hF.out.later hbW2);have HS2:=hDq (bK.of_below hbW2 P I b v);clear hb2 hbW2 HB1 HR1 HA1 HW1 jb pF HK;have r7:(0:Int)<=(i:Int):=by omega
 have AA:(i:Int)<3:=by omega
 simp only[]
 go_wp2_with fail
 obtain⟨bH,val,hcl,aP⟩:=AB F (I i) A (.cells (t6 I P wd h) 210 (0,0)) (.cells (t7 (b i) (n (i*2)) (n (i*2+1))) 267 (0,0)) (.cells #[.int .u8 aO,Qa ac,Qa aV,Qa i,Qa asd,Qa aK,Qa aq,Qa aF] 95 (0,0));obtain⟨y0,lC⟩:=aP w2.drew ⟨cm.out.blk,cm.out.it i bQ,cz.out⟩;have hnx:Nonempty bH:=⟨y0⟩;have JX:∀ x,(val x).cell? ⟨F,2+i,none⟩=some (.pointer (some ⟨I i,0,none⟩)):=fun x=>by
  rw[cR _ _ _ _ _ _ (hcl x).1];have:i=0\/i=1\/i=2:=by omega
  rcases this with rfl | rfl | rfl <;> rfl
 have eb:∀ x,(val x).cell? ⟨I i,0,none⟩=some (.pointer (some ⟨b i,0,none⟩)):=fun x=>by rw[cR _ _ _ _ _ _ (hcl x).2.1];rfl
 have e3:∀ x,(val x).cell? (Qb A 3)=some (Qa i):=fun x=>by rw[cR _ _ _ _ _ _ (hcl x).2.2];rfl
 have e7:∀ x,(val x).cell? (Qb A 7)=some (Qa aF):=fun x=>by rw[cR _ _ _ _ _ _ (hcl x).2.2];rfl
 have hbd:Qd w2 w2.drew:=⟨rfl,rfl,rfl,lRq _,fun _ _=>rfl⟩;have dr:=hDq (cm.out.later hbd);have cq:=hDq (HS2.out.below hbd);have bR:Hid (w2.drew.heap[R]?=some (.cells #[Qa 0,Qa 0,Qa 0,Qa 0,Qa 0] 197 (0,0))):=bq.out;have eB:Hid (w2.drew.heap[A]?=some (.cells #[.int .u8 aO,Qa ac,Qa aV,Qa i,Qa asd,Qa aK,Qa aq,Qa aF] 95 (0,0))):=cz.out;obtain⟨w4,hw4⟩:∃ w4,w2.drew=w4:=⟨_,rfl⟩;rw[hw4]at dr cq bR eB;have aR:Hid (∀ W',Qd w4 W'->∃ x,val x=W'):=fun W' hb=>aP W' ⟨(dr.out.later hb).blk,(dr.out.later hb).it i bQ,by rw[hb.block _ (lBq eB.out)];exact eB.out⟩;have jC:Hid (∀ W',Qd w4 W'->Calls Tryz.prog 192 #[.pointer (some ⟨b i,0,none⟩),Qa aF] W' fun e w'=>e=.returned (.tuple #[.agg #[Qa x0,Qa x1,Qa x2,Qa x3,Qa x4],.bool is])/\Qd W' w'):=fun W' hb=>by
  have:=DR (b i) w.heap.size (v i) aF (L i) W' ((dr.out.later hb).aH i bQ) (hok.out.aH i bQ).len
  rw[tZ.out.1,tZ.out.2]at this;exact this
 clear aP hcl cm HS2 bq cz hbd;refine t_ (val:=val) (fun D ai=>ai.heap[D]?=some (.cells #[Qa x0,Qa x1,Qa x2,Qa x3,Qa x4] 197 (0,0))/\w4.heap.size<=D/\Qd w4 ai) (.read 0 (.read 1 (.read 2 (.read 3 (.read 4 (.read 5 (.read 6 (.read 7 (.read 8 (.read 9 (.read 10 (.read 11 (.two 12 (.read 13 (.read 14 (.read 15 (.one 16 (.one 17 (.read 18 .done)))))) 16 (.one 12 (.read 13 (.read 14 (.read 15 (.one 17 (.read 18 .done))))))))))))))))))) (by kernel_rfl) (by kernel_rfl) y0 lC ?_;apply Exists.intro;refine⟨?_,?_⟩
 case' refine_1 =>
  rw[lC,hw4]
  iterate 12 (refine cr rfl (fun K hK=>?_);refine⟨by rfl,?_⟩;unfold aB;go_simp;refine hK _ ?_;clear hK K)
  have gh:Hid (Qd w4 w4):=bRq _ _;refine⟨?_,?_⟩
  case refine_1 =>
   refine bW rfl (fun K hK=>?_);refine⟨by rfl,?_⟩;unfold aQ;go_simp;refine(jC.out _ gh.out).mono ?_;rintro e wc ⟨rfl,hbc⟩;have dN:=hDq (gh.out.trans (hbc.mono gh.out.size));refine⟨_,rfl,aR.out _ dN.out,hK _ _ ?_⟩;clear hK K hbc
   iterate 3 (refine cr rfl (fun K hK=>?_);refine⟨by rfl,?_⟩;unfold aB;go_simp;refine hK _ ?_;clear hK K)
   refine bW rfl (fun K hK=>?_);refine⟨by rfl,?_⟩;unfold aQ;go_simp;obtain⟨D,hD⟩:∃ D,wc.heap.size=D:=⟨_,rfl⟩;obtain⟨aj,hwz⟩:∃ aj,wc.alloc (.cells #[Qa 0,Qa 0,Qa 0,Qa 0,Qa 0] 197)=aj:=⟨_,rfl⟩;rw[hD,hwz];have bZ:Hid (Qd w4 aj):=by show Below _ _ _;rw[<- hwz];exact dN.out.alloc dN.out.size _
   have av:Hid (aj.heap[D]?=some (.cells #[Qa 0,Qa 0,Qa 0,Qa 0,Qa 0] 197 (0,0))):=by show _=_;rw[<- hwz,<- hD];exact hNq _ _
   have fJ:Hid (w4.heap.size<=D):=by have:=dN.out.size;show _<=_;omega
   refine⟨aR.out _ bZ.out,hK _ _ ?_⟩;clear hK K hwz hD;have c0:aj.cell? (Qb D 0)=some (Qa 0):=by rw[cR aj _ 0 _ _ _ av.out];rfl
   have f0:aj.frozen? (Qb D 0)=false:=by simp[World.frozen?,av.out]
   have c1:aj.cell? (Qb D 1)=some (Qa 0):=by rw[cR aj _ 1 _ _ _ av.out];rfl
   have f1:aj.frozen? (Qb D 1)=false:=by simp[World.frozen?,av.out]
   have c2:aj.cell? (Qb D 2)=some (Qa 0):=by rw[cR aj _ 2 _ _ _ av.out];rfl
   have f2:aj.frozen? (Qb D 2)=false:=by simp[World.frozen?,av.out]
   have c3:aj.cell? (Qb D 3)=some (Qa 0):=by rw[cR aj _ 3 _ _ _ av.out];rfl
   have f3:aj.frozen? (Qb D 3)=false:=by simp[World.frozen?,av.out]
   have c4:aj.cell? (Qb D 4)=some (Qa 0):=by rw[cR aj _ 4 _ _ _ av.out];rfl
   have f4:aj.frozen? (Qb D 4)=false:=by simp[World.frozen?,av.out]
   have HX:=hDq (ow av.out x0 x1 x2 x3 x4);have aY:=hDq (Aw bZ.out fJ.out (Qa x0) (Qa x1) (Qa x2) (Qa x3) (Qa x4));refine bW rfl (fun K hK=>?_);refine⟨by rfl,?_⟩;unfold aQ;go_simp;refine⟨aR.out _ aY.out,hK _ _ ?_⟩;clear hK K av c0 c1 c2 c3 c4 f0 f1 f2 f3 f4;generalize (((((aj.setCell (Qb D 0) (Qa x0)).setCell (Qb D 1) (Qa x1)).setCell (Qb D 2) (Qa x2)).setCell (Qb D 3) (Qa x3)).setCell (Qb D 4) (Qa x4))=ai at *;refine cr rfl (fun K hK=>?_);refine⟨by rfl,?_⟩;unfold aB;go_simp;refine hK _ ?_;clear hK K;refine ja ?_;exact⟨D,rfl,HX.out,fJ.out,aY.out⟩
  case refine_2 =>
   refine bW rfl (fun K hK=>?_);refine⟨by rfl,?_⟩;unfold aQ;go_simp;obtain⟨D,hD⟩:∃ D,w4.heap.size=D:=⟨_,rfl⟩;obtain⟨iC,hwz⟩:∃ aj,w4.alloc (.cells #[Qa 0,Qa 0,Qa 0,Qa 0,Qa 0] 197)=aj:=⟨_,rfl⟩;rw[hD,hwz];have cG:Hid (Qd w4 iC):=by show Below _ _ _;rw[<- hwz];exact gh.out.alloc gh.out.size _
   have pG:Hid (iC.heap[D]?=some (.cells #[Qa 0,Qa 0,Qa 0,Qa 0,Qa 0] 197 (0,0))):=by show _=_;rw[<- hwz,<- hD];exact hNq _ _
   have fJ:Hid (w4.heap.size<=D):=by have:=gh.out.size;show _<=_;omega
   refine⟨aR.out _ cG.out,hK _ _ ?_⟩;clear hK K hwz hD;refine bW rfl (fun K hK=>?_);refine⟨by rfl,?_⟩;unfold aQ;go_simp;refine(jC.out _ cG.out).mono ?_;rintro e aj ⟨rfl,hbc⟩;have bZ:=hDq (cG.out.trans (hbc.mono cG.out.size));have av:Hid (aj.heap[D]?=some (.cells #[Qa 0,Qa 0,Qa 0,Qa 0,Qa 0] 197 (0,0))):=by show _=_;rw[hbc.block _ (lBq pG.out)];exact pG.out
   refine⟨_,rfl,aR.out _ bZ.out,hK _ _ ?_⟩;clear hK K hbc
   iterate 3 (refine cr rfl (fun K hK=>?_);refine⟨by rfl,?_⟩;unfold aB;go_simp;refine hK _ ?_;clear hK K)
   have c0:aj.cell? (Qb D 0)=some (Qa 0):=by rw[cR aj _ 0 _ _ _ av.out];rfl
   have f0:aj.frozen? (Qb D 0)=false:=by simp[World.frozen?,av.out]
   have c1:aj.cell? (Qb D 1)=some (Qa 0):=by rw[cR aj _ 1 _ _ _ av.out];rfl
   have f1:aj.frozen? (Qb D 1)=false:=by simp[World.frozen?,av.out]
   have c2:aj.cell? (Qb D 2)=some (Qa 0):=by rw[cR aj _ 2 _ _ _ av.out];rfl
   have f2:aj.frozen? (Qb D 2)=false:=by simp[World.frozen?,av.out]
   have c3:aj.cell? (Qb D 3)=some (Qa 0):=by rw[cR aj _ 3 _ _ _ av.out];rfl
   have f3:aj.frozen? (Qb D 3)=false:=by simp[World.frozen?,av.out]
   have c4:aj.cell? (Qb D 4)=some (Qa 0):=by rw[cR aj _ 4 _ _ _ av.out];rfl
   have f4:aj.frozen? (Qb D 4)=false:=by simp[World.frozen?,av.out]
   have HX:=hDq (ow av.out x0 x1 x2 x3 x4);have aY:=hDq (Aw bZ.out fJ.out (Qa x0) (Qa x1) (Qa x2) (Qa x3) (Qa x4));refine bW rfl (fun K hK=>?_);refine⟨by rfl,?_⟩;unfold aQ;go_simp;refine⟨aR.out _ aY.out,hK _ _ ?_⟩;clear hK K av c0 c1 c2 c3 c4 f0 f1 f2 f3 f4;generalize (((((aj.setCell (Qb D 0) (Qa x0)).setCell (Qb D 1) (Qa x1)).setCell (Qb D 2) (Qa x2)).setCell (Qb D 3) (Qa x3)).setCell (Qb D 4) (Qa x4))=ai at *;refine cr rfl (fun K hK=>?_);refine⟨by rfl,?_⟩;unfold aB;go_simp;refine hK _ ?_;clear hK K;refine ja ?_;exact⟨D,rfl,HX.out,fJ.out,aY.out⟩
 intro D ai ⟨pH,pI,hb6⟩;have HX:=hDq pH;have fe:=hDq (dr.out.later hb6);have dA:=hDq (cq.out.below hb6);have bz:Hid (ai.heap[R]?=some (.cells #[Qa 0,Qa 0,Qa 0,Qa 0,Qa 0] 197 (0,0))):=by show _=_;rw[hb6.block _ (lBq bR.out)];exact bR.out
 have gV:Hid (ai.heap[A]?=some (.cells #[.int .u8 aO,Qa ac,Qa aV,Qa i,Qa asd,Qa aK,Qa aq,Qa aF] 95 (0,0))):=by show _=_;rw[hb6.block _ (lBq eB.out)];exact eB.out
 have HDR:Hid (D≠R):=fun e=>by have:=lBq bR.out;omega
 have mo:=hDq (dr.out.fresh pI);have mq:=hDq (hF.out.fresh HRW.out);clear pH pI hb6 dr cq bR eB jC hw4;clear lC JX eb e3 e7 aR;clear y0 hnx;clear val;clear bH;have d0:ai.cell? (Qb D 0)=some (Qa x0):=by rw[cR ai _ 0 _ _ _ HX.out];rfl
 have d1:ai.cell? (Qb D 1)=some (Qa x1):=by rw[cR ai _ 1 _ _ _ HX.out];rfl
 have d2:ai.cell? (Qb D 2)=some (Qa x2):=by rw[cR ai _ 2 _ _ _ HX.out];rfl
 have d3:ai.cell? (Qb D 3)=some (Qa x3):=by rw[cR ai _ 3 _ _ _ HX.out];rfl
 have d4:ai.cell? (Qb D 4)=some (Qa x4):=by rw[cR ai _ 4 _ _ _ HX.out];rfl
 have a1:ai.cell? (Qb A 1)=some (Qa ac):=by rw[cR ai _ 1 _ _ _ gV.out];rfl
 have a3:ai.cell? (Qb A 3)=some (Qa i):=by rw[cR ai _ 3 _ _ _ gV.out];rfl
 rcases hno with e | ⟨e,hne⟩
 .subst e
  have g5:=(fe.out.bY he.out).c5;have JY:¬ (6=R):=fun e=>by have:=bCq _ _ (hF.out.bY he.out).c5;have:=HRW.out;simp at *;omega
  have qJ:¬ (R=6):=fun e=>JY e.symm;have r0:ai.cell? (Qb R 0)=some (Qa 0):=by rw[cR ai _ 0 _ _ _ bz.out];rfl
  have q0:ai.frozen? (Qb R 0)=false:=by simp[World.frozen?,bz.out]
  have r1:ai.cell? (Qb R 1)=some (Qa 0):=by rw[cR ai _ 1 _ _ _ bz.out];rfl
  have q1:ai.frozen? (Qb R 1)=false:=by simp[World.frozen?,bz.out]
  have r2:ai.cell? (Qb R 2)=some (Qa 0):=by rw[cR ai _ 2 _ _ _ bz.out];rfl
  have q2:ai.frozen? (Qb R 2)=false:=by simp[World.frozen?,bz.out]
  have r3:ai.cell? (Qb R 3)=some (Qa 0):=by rw[cR ai _ 3 _ _ _ bz.out];rfl
  have q3:ai.frozen? (Qb R 3)=false:=by simp[World.frozen?,bz.out]
  have r4:ai.cell? (Qb R 4)=some (Qa 0):=by rw[cR ai _ 4 _ _ _ bz.out];rfl
  have q4:ai.frozen? (Qb R 4)=false:=by simp[World.frozen?,bz.out]
  go_wp2
  go_region
  go_wp2;have cW:=ow bz.out 0 0 0 0 0;have bF:=wm ai R (Qa 0) (Qa 0) (Qa 0) (Qa 0) (Qa 0);have wo:=(fe.out.aside mq.out.1 mq.out.2.1 mq.out.2.2 (lTq hF.out.bG.size HRW.out) bF).later (dL 1);have kB:=(dA.out.newer bF HRW.out).below (dL 1);have AF:((((((ai.setCell (Qb R 0) (Qa 0)).setCell (Qb R 1) (Qa 0)).setCell (Qb R 2) (Qa 0)).setCell (Qb R 3) (Qa 0)).setCell (Qb R 4) (Qa 0)).drewN 1).heap[R]?=some (.cells #[Qa 0,Qa 0,Qa 0,Qa 0,Qa 0] 197 (0,0)):=cW;clear bF cW;have cW:=AF;clear AF;rw[show (((((ai.setCell (Qb R 0) (Qa 0)).setCell (Qb R 1) (Qa 0)).setCell (Qb R 2) (Qa 0)).setCell (Qb R 3) (Qa 0)).setCell (Qb R 4) (Qa 0)).drewN 1=(((((ai.setCell (Qb R 0) (Qa 0)).setCell (Qb R 1) (Qa 0)).setCell (Qb R 2) (Qa 0)).setCell (Qb R 3) (Qa 0)).setCell (Qb R 4) (Qa 0)).drew from rfl]at wo kB cW;generalize (((((ai.setCell (Qb R 0) (Qa 0)).setCell (Qb R 1) (Qa 0)).setCell (Qb R 2) (Qa 0)).setCell (Qb R 3) (Qa 0)).setCell (Qb R 4) (Qa 0)).drew=Wf at *;have z0:Wf.cell? (Qb R 0)=some (Qa 0):=by rw[cR Wf _ 0 _ _ _ cW];rfl
  have dw:Wf.cell? (Qb R 1)=some (Qa 0):=by rw[cR Wf _ 1 _ _ _ cW];rfl
  have z2:Wf.cell? (Qb R 2)=some (Qa 0):=by rw[cR Wf _ 2 _ _ _ cW];rfl
  have z3:Wf.cell? (Qb R 3)=some (Qa 0):=by rw[cR Wf _ 3 _ _ _ cW];rfl
  have z4:Wf.cell? (Qb R 4)=some (Qa 0):=by rw[cR Wf _ 4 _ _ _ cW];rfl
  exact bodyPost_ret (v:=.tuple #[.agg #[Qa 0,Qa 0,Qa 0,Qa 0,Qa 0],.iface 412 (ev 5)]) (by simp[results,Tryz.results217,go_sem,z0,dw,z2,z3,z4]) rfl ⟨rfl,v,wo,kB⟩
 .subst e
  have wu:(x1 != ac)=true:=by simpa using hne
  have g5:=(fe.out.bY he.out).c5;have JY:¬ (6=R):=fun e=>by have:=bCq _ _ (hF.out.bY he.out).c5;have:=HRW.out;simp at *;omega
  have qJ:¬ (R=6):=fun e=>JY e.symm;have r0:ai.cell? (Qb R 0)=some (Qa 0):=by rw[cR ai _ 0 _ _ _ bz.out];rfl
  have q0:ai.frozen? (Qb R 0)=false:=by simp[World.frozen?,bz.out]
  have r1:ai.cell? (Qb R 1)=some (Qa 0):=by rw[cR ai _ 1 _ _ _ bz.out];rfl
  have q1:ai.frozen? (Qb R 1)=false:=by simp[World.frozen?,bz.out]
  have r2:ai.cell? (Qb R 2)=some (Qa 0):=by rw[cR ai _ 2 _ _ _ bz.out];rfl
  have q2:ai.frozen? (Qb R 2)=false:=by simp[World.frozen?,bz.out]
  have r3:ai.cell? (Qb R 3)=some (Qa 0):=by rw[cR ai _ 3 _ _ _ bz.out];rfl
  have q3:ai.frozen? (Qb R 3)=false:=by simp[World.frozen?,bz.out]
  have r4:ai.cell? (Qb R 4)=some (Qa 0):=by rw[cR ai _ 4 _ _ _ bz.out];rfl
  have q4:ai.frozen? (Qb R 4)=false:=by simp[World.frozen?,bz.out]
  go_wp2
  go_region
  go_wp2;have cW:=ow bz.out 0 0 0 0 0;have bF:=wm ai R (Qa 0) (Qa 0) (Qa 0) (Qa 0) (Qa 0);have wo:=(fe.out.aside mq.out.1 mq.out.2.1 mq.out.2.2 (lTq hF.out.bG.size HRW.out) bF).later (dL 1);have kB:=(dA.out.newer bF HRW.out).below (dL 1);have AF:((((((ai.setCell (Qb R 0) (Qa 0)).setCell (Qb R 1) (Qa 0)).setCell (Qb R 2) (Qa 0)).setCell (Qb R 3) (Qa 0)).setCell (Qb R 4) (Qa 0)).drewN 1).heap[R]?=some (.cells #[Qa 0,Qa 0,Qa 0,Qa 0,Qa 0] 197 (0,0)):=cW;clear bF cW;have cW:=AF;clear AF;rw[show (((((ai.setCell (Qb R 0) (Qa 0)).setCell (Qb R 1) (Qa 0)).setCell (Qb R 2) (Qa 0)).setCell (Qb R 3) (Qa 0)).setCell (Qb R 4) (Qa 0)).drewN 1=(((((ai.setCell (Qb R 0) (Qa 0)).setCell (Qb R 1) (Qa 0)).setCell (Qb R 2) (Qa 0)).setCell (Qb R 3) (Qa 0)).setCell (Qb R 4) (Qa 0)).drew from rfl]at wo kB cW;generalize (((((ai.setCell (Qb R 0) (Qa 0)).setCell (Qb R 1) (Qa 0)).setCell (Qb R 2) (Qa 0)).setCell (Qb R 3) (Qa 0)).setCell (Qb R 4) (Qa 0)).drew=Wf at *;have z0:Wf.cell? (Qb R 0)=some (Qa 0):=by rw[cR Wf _ 0 _ _ _ cW];rfl
  have dw:Wf.cell? (Qb R 1)=some (Qa 0):=by rw[cR Wf _ 1 _ _ _ cW];rfl
  have z2:Wf.cell? (Qb R 2)=some (Qa 0):=by rw[cR Wf _ 2 _ _ _ cW];rfl
  have z3:Wf.cell? (Qb R 3)=some (Qa 0):=by rw[cR Wf _ 3 _ _ _ cW];rfl
  have z4:Wf.cell? (Qb R 4)=some (Qa 0):=by rw[cR Wf _ 4 _ _ _ cW];rfl
  exact bodyPost_ret (v:=.tuple #[.agg #[Qa 0,Qa 0,Qa 0,Qa 0,Qa 0],.iface 412 (ev 5)]) (by simp[results,Tryz.results217,go_sem,z0,dw,z2,z3,z4]) rfl ⟨rfl,v,wo,kB⟩
theorem adA (a:Ask) (hF:Hid (bk w W F P I b v L pf n wd h)) (he:Hid (eA w ev)) (hok:Hid (Fs.dM L pf)) (hk:Hid (Fl.fV a 99=0)) (hm:Hid (Fl.mine L a=true)) :
  Calls Tryz.prog 217 #[Qc F,bu a] W fun e W'=>e=.returned (.tuple #[bU (Fl.fC L a),cV ev (Fl.dh L pf a)])/\∃ v',bk w W' F P I b v' (Fl.dQ L a) (Fl.jW L pf a) n wd h/\bK W W' P I b v v':=by
 have hit:=Fl.D_ hk.out;obtain⟨i,hi⟩:∃ i:Nat,a.it=i:=⟨a.it.toNat,by omega⟩;have bQ:i<3:=by omega
 have kA:a.it.toNat=i:=by omega
 have HK:=hDq (fun W' (hb:Qd W W')=>Ax a 99 W' ((hF.out.bY he.out).below hb) (by decide));rw[Fl.JW hk.out,show cV ev 0=.nilIface from rfl]at HK;have RF:=Fl.Rt hok.out hk.out hm.out;have hX:Fl.fC L a=Cv.nth (L i) (Bk.pos (L i) a.id):=by unfold Fl.fC;rw[if_pos ⟨hk.out,hm.out⟩,kA]
 have hL:Fl.dQ L a=upd L i (Bk.dQ (L i) a.id):=by
  unfold Fl.dQ;rw[if_pos ⟨hk.out,hm.out⟩,kA];have hh:Cv.has (L i) a.id=true:=by have:=hm.out;unfold Fl.mine at this;rw[kA]at this;simp only[Bool.and_eq_true]at this;exact this.1
  have hc0:Bk.dh (L i) a.id=0:=by unfold Bk.dh;rw[if_pos hh]
  unfold Bk.dQ;rw[if_pos hc0]
 have hP:Fl.jW L pf a=Pu.fE pf a.it (Cv.nth (L i) (Bk.pos (L i) a.id)):=by unfold Fl.jW;rw[if_pos ⟨hk.out,hm.out⟩,hX]
 rw[hX,hL,hP,RF.1,show cV ev 0=.nilIface from rfl];clear hX hL hP RF;have hmm:=hm.out;unfold Fl.mine at hmm;rw[kA]at hmm;obtain⟨aO,ac,aV,bl,asd,aK,aq,aF⟩:=a;simp only[]at hi kA;subst hi;unfold bu aT at HK ⊢;simp only[]at HK ⊢;simp only[Bool.and_eq_true,beq_iff_eq]at hmm;obtain⟨hh,how⟩:=hmm;have hgx:Bk.jP (L i) aF=Cv.nth (L i) (Bk.pos (L i) aF):=by unfold Bk.jP;rw[if_pos hh]
 have JZ:(Cv.nth (L i) (Bk.pos (L i) aF)).id=aF:=Bk.vR (Bk.px.1 hh);obtain⟨⟨x0,x1,x2,x3,x4⟩,hX⟩:∃ X,Cv.nth (L i) (Bk.pos (L i) aF)=X:=⟨_,rfl⟩;rw[hX]at hgx how JZ;rw[hX];simp only[]at how JZ;subst how;subst JZ;have tZ:Hid (Cv.has (L i) x0=true/\Bk.jP (L i) x0=⟨x0,x1,x2,x3,x4⟩):=⟨hh,hgx⟩;clear hgx hX hh;unfold bU;simp only[];have qC:Hid (∀ W',bk w W' F P I b v L pf n wd h->Calls Tryz.prog 214 #[Qc F,Qa i,.agg #[Qa x0,Qa x1,Qa x2,Qa x3,Qa x4]] W' fun e RG=>e=.returned (.tuple #[])/\∃ v',bk w RG F P I b v' (upd L i (Bk.dQ (L i) x0)) (Pu.fE pf i ⟨x0,x1,x2,x3,x4⟩) n wd h/\bK W' RG P I b v v'):=fun W' hf=>RH i bQ ⟨x0,x1,x2,x3,x4⟩ hf he.out hok.out.good (hok.out.aH i bQ).len;clear hit hk kA;obtain⟨R,hR⟩:∃ R,W.heap.size+1=R:=⟨_,rfl⟩;obtain⟨A,hA⟩:∃ A,W.heap.size=A:=⟨_,rfl⟩;obtain⟨w1,dz⟩:∃ w1,(W.alloc (.cells #[.int .u8 aO,Qa x1,Qa aV,Qa i,Qa asd,Qa aK,Qa aq,Qa x0] 95)).alloc (.cells #[Qa 0,Qa 0,Qa 0,Qa 0,Qa 0] 197)=w1:=⟨_,rfl⟩;have hb1:Qd W w1:=by rw[<- dz];exact((bRq _ _).alloc (lRq _) _).alloc (by simp) _
 have HR1:Hid (w1.heap[R]?=some (.cells #[Qa 0,Qa 0,Qa 0,Qa 0,Qa 0] 197 (0,0))):=by
  show _=_;rw[<- dz,<- hR]
  have:=hNq (W.alloc (.cells #[.int .u8 aO,Qa x1,Qa aV,Qa i,Qa asd,Qa aK,Qa aq,Qa x0] 95)) (.cells #[Qa 0,Qa 0,Qa 0,Qa 0,Qa 0] 197)
  simpa using this
 have HA1:Hid (w1.heap[A]?=some (.cells #[.int .u8 aO,Qa x1,Qa aV,Qa i,Qa asd,Qa aK,Qa aq,Qa x0] 95 (0,0))):=by
  show _=_;rw[<- dz,<- hA];exact(Below.heap_alloc _ _ _ (by simp)).trans (hNq W _)
 have HB1:=hDq hb1;have HRW:Hid (W.heap.size<=R):=by show _<=_;omega
 have HW1:=hDq dz;have jb:=hDq hR;have pF:=hDq hA;clear hb1 dz hR hA;go_enter Tryz.func217,Tryz.ntmps217
 go_wp2_with fail
 rw[HW1.out,jb.out,pF.out];refine(HK.out _ HB1.out).mono ?_;rintro e w2 ⟨rfl,hb2⟩;have hbW2:=HB1.out.trans (hb2.mono HB1.out.size);have bq:Hid (w2.heap[R]?=some (.cells #[Qa 0,Qa 0,Qa 0,Qa 0,Qa 0] 197 (0,0))):=by show _=_;rw[hb2.block _ (lBq HR1.out)];exact HR1.out
 have cz:Hid (w2.heap[A]?=some (.cells #[.int .u8 aO,Qa x1,Qa aV,Qa i,Qa asd,Qa aK,Qa aq,Qa x0] 95 (0,0))):=by show _=_;rw[hb2.block _ (lBq HA1.out)];exact HA1.out
 have cm:=hDq (hF.out.later hbW2);have HS2:=hDq (bK.of_below hbW2 P I b v);clear hb2 hbW2 HB1 HR1 HA1 HW1 jb pF HK;have r7:(0:Int)<=(i:Int):=by omega
 have AA:(i:Int)<3:=by omega
 simp only[]
 go_wp2_with fail
 obtain⟨bH,val,hcl,aP⟩:=AB F (I i) A (.cells (t6 I P wd h) 210 (0,0)) (.cells (t7 (b i) (n (i*2)) (n (i*2+1))) 267 (0,0)) (.cells #[.int .u8 aO,Qa x1,Qa aV,Qa i,Qa asd,Qa aK,Qa aq,Qa x0] 95 (0,0));obtain⟨y0,lC⟩:=aP w2.drew ⟨cm.out.blk,cm.out.it i bQ,cz.out⟩;have hnx:Nonempty bH:=⟨y0⟩;have JX:∀ x,(val x).cell? ⟨F,2+i,none⟩=some (.pointer (some ⟨I i,0,none⟩)):=fun x=>by
  rw[cR _ _ _ _ _ _ (hcl x).1];have:i=0\/i=1\/i=2:=by omega
  rcases this with rfl | rfl | rfl <;> rfl
 have eb:∀ x,(val x).cell? ⟨I i,0,none⟩=some (.pointer (some ⟨b i,0,none⟩)):=fun x=>by rw[cR _ _ _ _ _ _ (hcl x).2.1];rfl
 have e3:∀ x,(val x).cell? (Qb A 3)=some (Qa i):=fun x=>by rw[cR _ _ _ _ _ _ (hcl x).2.2];rfl
 have e7:∀ x,(val x).cell? (Qb A 7)=some (Qa x0):=fun x=>by rw[cR _ _ _ _ _ _ (hcl x).2.2];rfl
 have hbd:Qd w2 w2.drew:=⟨rfl,rfl,rfl,lRq _,fun _ _=>rfl⟩;have dr:=hDq (cm.out.later hbd);have cq:=hDq (HS2.out.below hbd);have bR:Hid (w2.drew.heap[R]?=some (.cells #[Qa 0,Qa 0,Qa 0,Qa 0,Qa 0] 197 (0,0))):=bq.out;have eB:Hid (w2.drew.heap[A]?=some (.cells #[.int .u8 aO,Qa x1,Qa aV,Qa i,Qa asd,Qa aK,Qa aq,Qa x0] 95 (0,0))):=cz.out;obtain⟨w4,hw4⟩:∃ w4,w2.drew=w4:=⟨_,rfl⟩;rw[hw4]at dr cq bR eB;have aR:Hid (∀ W',Qd w4 W'->∃ x,val x=W'):=fun W' hb=>aP W' ⟨(dr.out.later hb).blk,(dr.out.later hb).it i bQ,by rw[hb.block _ (lBq eB.out)];exact eB.out⟩;have jC:Hid (∀ W',Qd w4 W'->Calls Tryz.prog 192 #[.pointer (some ⟨b i,0,none⟩),Qa x0] W' fun e w'=>e=.returned (.tuple #[.agg #[Qa x0,Qa x1,Qa x2,Qa x3,Qa x4],.bool true])/\Qd W' w'):=fun W' hb=>by
  have:=DR (b i) w.heap.size (v i) x0 (L i) W' ((dr.out.later hb).aH i bQ) (hok.out.aH i bQ).len
  rw[tZ.out.1,tZ.out.2]at this;exact this
 clear aP hcl cm HS2 bq cz hbd;refine t_ (val:=val) (fun D ai=>ai.heap[D]?=some (.cells #[Qa x0,Qa x1,Qa x2,Qa x3,Qa x4] 197 (0,0))/\w4.heap.size<=D/\Qd w4 ai) (.read 0 (.read 1 (.read 2 (.read 3 (.read 4 (.read 5 (.read 6 (.read 7 (.read 8 (.read 9 (.read 10 (.read 11 (.two 12 (.read 13 (.read 14 (.read 15 (.one 16 (.one 17 (.read 18 .done)))))) 16 (.one 12 (.read 13 (.read 14 (.read 15 (.one 17 (.read 18 .done))))))))))))))))))) (by kernel_rfl) (by kernel_rfl) y0 lC ?_;apply Exists.intro;refine⟨?_,?_⟩
 case' refine_1 =>
  rw[lC,hw4]
  iterate 12 (refine cr rfl (fun K hK=>?_);refine⟨by rfl,?_⟩;unfold aB;go_simp;refine hK _ ?_;clear hK K)
  have gh:Hid (Qd w4 w4):=bRq _ _;refine⟨?_,?_⟩
  case refine_1 =>
   refine bW rfl (fun K hK=>?_);refine⟨by rfl,?_⟩;unfold aQ;go_simp;refine(jC.out _ gh.out).mono ?_;rintro e wc ⟨rfl,hbc⟩;have dN:=hDq (gh.out.trans (hbc.mono gh.out.size));refine⟨_,rfl,aR.out _ dN.out,hK _ _ ?_⟩;clear hK K hbc
   iterate 3 (refine cr rfl (fun K hK=>?_);refine⟨by rfl,?_⟩;unfold aB;go_simp;refine hK _ ?_;clear hK K)
   refine bW rfl (fun K hK=>?_);refine⟨by rfl,?_⟩;unfold aQ;go_simp;obtain⟨D,hD⟩:∃ D,wc.heap.size=D:=⟨_,rfl⟩;obtain⟨aj,hwz⟩:∃ aj,wc.alloc (.cells #[Qa 0,Qa 0,Qa 0,Qa 0,Qa 0] 197)=aj:=⟨_,rfl⟩;rw[hD,hwz];have bZ:Hid (Qd w4 aj):=by show Below _ _ _;rw[<- hwz];exact dN.out.alloc dN.out.size _
   have av:Hid (aj.heap[D]?=some (.cells #[Qa 0,Qa 0,Qa 0,Qa 0,Qa 0] 197 (0,0))):=by show _=_;rw[<- hwz,<- hD];exact hNq _ _
   have fJ:Hid (w4.heap.size<=D):=by have:=dN.out.size;show _<=_;omega
   refine⟨aR.out _ bZ.out,hK _ _ ?_⟩;clear hK K hwz hD;have c0:aj.cell? (Qb D 0)=some (Qa 0):=by rw[cR aj _ 0 _ _ _ av.out];rfl
   have f0:aj.frozen? (Qb D 0)=false:=by simp[World.frozen?,av.out]
   have c1:aj.cell? (Qb D 1)=some (Qa 0):=by rw[cR aj _ 1 _ _ _ av.out];rfl
   have f1:aj.frozen? (Qb D 1)=false:=by simp[World.frozen?,av.out]
   have c2:aj.cell? (Qb D 2)=some (Qa 0):=by rw[cR aj _ 2 _ _ _ av.out];rfl
   have f2:aj.frozen? (Qb D 2)=false:=by simp[World.frozen?,av.out]
   have c3:aj.cell? (Qb D 3)=some (Qa 0):=by rw[cR aj _ 3 _ _ _ av.out];rfl
   have f3:aj.frozen? (Qb D 3)=false:=by simp[World.frozen?,av.out]
   have c4:aj.cell? (Qb D 4)=some (Qa 0):=by rw[cR aj _ 4 _ _ _ av.out];rfl
   have f4:aj.frozen? (Qb D 4)=false:=by simp[World.frozen?,av.out]
   have HX:=hDq (ow av.out x0 x1 x2 x3 x4);have aY:=hDq (Aw bZ.out fJ.out (Qa x0) (Qa x1) (Qa x2) (Qa x3) (Qa x4));refine bW rfl (fun K hK=>?_);refine⟨by rfl,?_⟩;unfold aQ;go_simp;refine⟨aR.out _ aY.out,hK _ _ ?_⟩;clear hK K av c0 c1 c2 c3 c4 f0 f1 f2 f3 f4;generalize (((((aj.setCell (Qb D 0) (Qa x0)).setCell (Qb D 1) (Qa x1)).setCell (Qb D 2) (Qa x2)).setCell (Qb D 3) (Qa x3)).setCell (Qb D 4) (Qa x4))=ai at *;refine cr rfl (fun K hK=>?_);refine⟨by rfl,?_⟩;unfold aB;go_simp;refine hK _ ?_;clear hK K;refine ja ?_;exact⟨D,rfl,HX.out,fJ.out,aY.out⟩
  case refine_2 =>
   refine bW rfl (fun K hK=>?_);refine⟨by rfl,?_⟩;unfold aQ;go_simp;obtain⟨D,hD⟩:∃ D,w4.heap.size=D:=⟨_,rfl⟩;obtain⟨iC,hwz⟩:∃ aj,w4.alloc (.cells #[Qa 0,Qa 0,Qa 0,Qa 0,Qa 0] 197)=aj:=⟨_,rfl⟩;rw[hD,hwz];have cG:Hid (Qd w4 iC):=by show Below _ _ _;rw[<- hwz];exact gh.out.alloc gh.out.size _
   have pG:Hid (iC.heap[D]?=some (.cells #[Qa 0,Qa 0,Qa 0,Qa 0,Qa 0] 197 (0,0))):=by show _=_;rw[<- hwz,<- hD];exact hNq _ _
   have fJ:Hid (w4.heap.size<=D):=by have:=gh.out.size;show _<=_;omega
   refine⟨aR.out _ cG.out,hK _ _ ?_⟩;clear hK K hwz hD;refine bW rfl (fun K hK=>?_);refine⟨by rfl,?_⟩;unfold aQ;go_simp;refine(jC.out _ cG.out).mono ?_;rintro e aj ⟨rfl,hbc⟩;have bZ:=hDq (cG.out.trans (hbc.mono cG.out.size));have av:Hid (aj.heap[D]?=some (.cells #[Qa 0,Qa 0,Qa 0,Qa 0,Qa 0] 197 (0,0))):=by show _=_;rw[hbc.block _ (lBq pG.out)];exact pG.out
   refine⟨_,rfl,aR.out _ bZ.out,hK _ _ ?_⟩;clear hK K hbc
   iterate 3 (refine cr rfl (fun K hK=>?_);refine⟨by rfl,?_⟩;unfold aB;go_simp;refine hK _ ?_;clear hK K)
   have c0:aj.cell? (Qb D 0)=some (Qa 0):=by rw[cR aj _ 0 _ _ _ av.out];rfl
   have f0:aj.frozen? (Qb D 0)=false:=by simp[World.frozen?,av.out]
   have c1:aj.cell? (Qb D 1)=some (Qa 0):=by rw[cR aj _ 1 _ _ _ av.out];rfl
   have f1:aj.frozen? (Qb D 1)=false:=by simp[World.frozen?,av.out]
   have c2:aj.cell? (Qb D 2)=some (Qa 0):=by rw[cR aj _ 2 _ _ _ av.out];rfl
   have f2:aj.frozen? (Qb D 2)=false:=by simp[World.frozen?,av.out]
   have c3:aj.cell? (Qb D 3)=some (Qa 0):=by rw[cR aj _ 3 _ _ _ av.out];rfl
   have f3:aj.frozen? (Qb D 3)=false:=by simp[World.frozen?,av.out]
   have c4:aj.cell? (Qb D 4)=some (Qa 0):=by rw[cR aj _ 4 _ _ _ av.out];rfl
   have f4:aj.frozen? (Qb D 4)=false:=by simp[World.frozen?,av.out]
   have HX:=hDq (ow av.out x0 x1 x2 x3 x4);have aY:=hDq (Aw bZ.out fJ.out (Qa x0) (Qa x1) (Qa x2) (Qa x3) (Qa x4));refine bW rfl (fun K hK=>?_);refine⟨by rfl,?_⟩;unfold aQ;go_simp;refine⟨aR.out _ aY.out,hK _ _ ?_⟩;clear hK K av c0 c1 c2 c3 c4 f0 f1 f2 f3 f4;generalize (((((aj.setCell (Qb D 0) (Qa x0)).setCell (Qb D 1) (Qa x1)).setCell (Qb D 2) (Qa x2)).setCell (Qb D 3) (Qa x3)).setCell (Qb D 4) (Qa x4))=ai at *;refine cr rfl (fun K hK=>?_);refine⟨by rfl,?_⟩;unfold aB;go_simp;refine hK _ ?_;clear hK K;refine ja ?_;exact⟨D,rfl,HX.out,fJ.out,aY.out⟩
 intro D ai ⟨pH,pI,hb6⟩;have HX:=hDq pH;have fe:=hDq (dr.out.later hb6);have dA:=hDq (cq.out.below hb6);have bz:Hid (ai.heap[R]?=some (.cells #[Qa 0,Qa 0,Qa 0,Qa 0,Qa 0] 197 (0,0))):=by show _=_;rw[hb6.block _ (lBq bR.out)];exact bR.out
 have gV:Hid (ai.heap[A]?=some (.cells #[.int .u8 aO,Qa x1,Qa aV,Qa i,Qa asd,Qa aK,Qa aq,Qa x0] 95 (0,0))):=by show _=_;rw[hb6.block _ (lBq eB.out)];exact eB.out
 have HDR:Hid (D≠R):=fun e=>by have:=lBq bR.out;omega
 have mo:=hDq (dr.out.fresh pI);have mq:=hDq (hF.out.fresh HRW.out);clear pH pI hb6 dr cq bR eB jC hw4;clear lC JX eb e3 e7 aR;clear y0 hnx;clear val;clear bH;have d0:ai.cell? (Qb D 0)=some (Qa x0):=by rw[cR ai _ 0 _ _ _ HX.out];rfl
 have d1:ai.cell? (Qb D 1)=some (Qa x1):=by rw[cR ai _ 1 _ _ _ HX.out];rfl
 have d2:ai.cell? (Qb D 2)=some (Qa x2):=by rw[cR ai _ 2 _ _ _ HX.out];rfl
 have d3:ai.cell? (Qb D 3)=some (Qa x3):=by rw[cR ai _ 3 _ _ _ HX.out];rfl
 have d4:ai.cell? (Qb D 4)=some (Qa x4):=by rw[cR ai _ 4 _ _ _ HX.out];rfl
 have a1:ai.cell? (Qb A 1)=some (Qa x1):=by rw[cR ai _ 1 _ _ _ gV.out];rfl
 have a3:ai.cell? (Qb A 3)=some (Qa i):=by rw[cR ai _ 3 _ _ _ gV.out];rfl
 have wu:(x1 != x1)=false:=by simp
 go_wp2_with fail
 refine(qC.out ai fe.out).mono ?_;rintro e br ⟨rfl,v7,AJ,lH⟩;have fH:Hid (br.heap[R]?=some (.cells #[Qa 0,Qa 0,Qa 0,Qa 0,Qa 0] 197 (0,0))):=by show _=_;rw[lH.keep R (lBq bz.out) mq.out.2.1 mq.out.2.2];exact bz.out
 have mr:Hid (br.heap[D]?=some (.cells #[Qa x0,Qa x1,Qa x2,Qa x3,Qa x4] 197 (0,0))):=by show _=_;rw[lH.keep D (lBq HX.out) mo.out.2.1 mo.out.2.2];exact HX.out
 have kC:=hDq AJ;have lI:=hDq (dA.out.trans lH);have adB:Hid (∀ j,j<3->R≠I j/\R≠b j/\(v7 j).ownBlock≠some R):=fun j hj=>⟨(mq.out.2.2 j hj).1,(mq.out.2.2 j hj).2.1,fun e=>by
  rcases lH.new j hj R e with h1 | h1
  .exact(mq.out.2.2 j hj).2.2 h1
  .have:=lBq bz.out;omega⟩
 clear d0 d1 d2 d3 d4 a1 a3 AJ lH HX fe dA bz gV qC wu;have d0:br.cell? (Qb D 0)=some (Qa x0):=by rw[cR br _ 0 _ _ _ mr.out];rfl
 have d1:br.cell? (Qb D 1)=some (Qa x1):=by rw[cR br _ 1 _ _ _ mr.out];rfl
 have d2:br.cell? (Qb D 2)=some (Qa x2):=by rw[cR br _ 2 _ _ _ mr.out];rfl
 have d3:br.cell? (Qb D 3)=some (Qa x3):=by rw[cR br _ 3 _ _ _ mr.out];rfl
 have d4:br.cell? (Qb D 4)=some (Qa x4):=by rw[cR br _ 4 _ _ _ mr.out];rfl
 have r0:br.cell? (Qb R 0)=some (Qa 0):=by rw[cR br _ 0 _ _ _ fH.out];rfl
 have q0:br.frozen? (Qb R 0)=false:=by simp[World.frozen?,fH.out]
 have r1:br.cell? (Qb R 1)=some (Qa 0):=by rw[cR br _ 1 _ _ _ fH.out];rfl
 have q1:br.frozen? (Qb R 1)=false:=by simp[World.frozen?,fH.out]
 have r2:br.cell? (Qb R 2)=some (Qa 0):=by rw[cR br _ 2 _ _ _ fH.out];rfl
 have q2:br.frozen? (Qb R 2)=false:=by simp[World.frozen?,fH.out]
 have r3:br.cell? (Qb R 3)=some (Qa 0):=by rw[cR br _ 3 _ _ _ fH.out];rfl
 have q3:br.frozen? (Qb R 3)=false:=by simp[World.frozen?,fH.out]
 have r4:br.cell? (Qb R 4)=some (Qa 0):=by rw[cR br _ 4 _ _ _ fH.out];rfl
 have q4:br.frozen? (Qb R 4)=false:=by simp[World.frozen?,fH.out]
 simp only[];go_wp2;have cW:=ow fH.out x0 x1 x2 x3 x4;have bF:=wm br R (Qa x0) (Qa x1) (Qa x2) (Qa x3) (Qa x4);have wo:=kC.out.aside mq.out.1 mq.out.2.1 adB.out (lTq hF.out.bG.size HRW.out) bF;have kB:=lI.out.newer bF HRW.out;clear bF;generalize (((((br.setCell (Qb R 0) (Qa x0)).setCell (Qb R 1) (Qa x1)).setCell (Qb R 2) (Qa x2)).setCell (Qb R 3) (Qa x3)).setCell (Qb R 4) (Qa x4))=Wf at *;have z0:Wf.cell? (Qb R 0)=some (Qa x0):=by rw[cR Wf _ 0 _ _ _ cW];rfl
 have dw:Wf.cell? (Qb R 1)=some (Qa x1):=by rw[cR Wf _ 1 _ _ _ cW];rfl
 have z2:Wf.cell? (Qb R 2)=some (Qa x2):=by rw[cR Wf _ 2 _ _ _ cW];rfl
 have z3:Wf.cell? (Qb R 3)=some (Qa x3):=by rw[cR Wf _ 3 _ _ _ cW];rfl
 have z4:Wf.cell? (Qb R 4)=some (Qa x4):=by rw[cR Wf _ 4 _ _ _ cW];rfl
 exact bodyPost_ret (v:=.tuple #[.agg #[Qa x0,Qa x1,Qa x2,Qa x3,Qa x4],.nilIface]) (by simp[results,Tryz.results217,go_sem,z0,dw,z2,z3,z4]) rfl ⟨rfl,v7,wo,kB⟩
theorem adC (a:Ask) (hF:bk w W F P I b v L pf n wd h) (he:eA w ev) (hok:Fs.dM L pf) :
  Calls Tryz.prog 217 #[Qc F,bu a] W fun e W'=>e=.returned (.tuple #[bU (Fl.fC L a),cV ev (Fl.dh L pf a)])/\∃ v',bk w W' F P I b v' (Fl.dQ L a) (Fl.jW L pf a) n wd h/\bK W W' P I b v v':=by
 by_cases hk:Fl.fV a 99=0
 .cases hm:Fl.mine L a with
  | true=>exact adA a hF he hok hk hm
  | false=>exact adz a hF he hok hk hm
 .exact ady a hF he hk
end
end
namespace Fl
open Cv Bk Ra Pu Fu Fs
structure Fits (cash stock:Int):Prop where
 c0:0<=cash
 c1:cash<=1073741824
 s0:0<=stock
 s1:stock<=100000
theorem Au {cash stock:Int}:∀ k j,k*8<=j->kz cash stock k j=0
 | 0,_,_=>rfl
 | k+1,j,h=>by
  have ih:=Au (cash:=cash) (stock:=stock) k j (by omega);show iO _ _ j=0;unfold iO;split
  .rw[dS _ _ (by show j≠(k:Int).toNat*8+4;omega),dS _ _ (by show j≠(k:Int).toNat*8+3;omega),dS _ _ (by show j≠(k:Int).toNat*8+2;omega),dS _ _ (by show j≠(k:Int).toNat*8;omega),ih]
  .exact ih
theorem Ry {cash stock:Int} (h:Fits cash stock) (k:Nat) (hk:k<6):jA (kz cash stock k) ⟨k,cash,stock,stock,stock⟩=0:=by
 have e0:=Au (cash:=cash) (stock:=stock) k (k*8) (lRq _);have e2:=Au (cash:=cash) (stock:=stock) k (k*8+2) (by omega);have e3:=Au (cash:=cash) (stock:=stock) k (k*8+3) (by omega);have e4:=Au (cash:=cash) (stock:=stock) k (k*8+4) (by omega);have hc0:=h.c0;have hc1:=h.c1;have hs0:=h.s0;have hs1:=h.s1;unfold jA;rw[if_pos,if_neg]
 .simp only[fI.over,Int.toNat_natCast,e0,e2,e3,e4]
  simp;omega
 .simp only[fI.fine,fI.neg,ah.aG]
  simp;omega
theorem Rz {cash stock:Int}:∀ k j,yn j->kz cash stock k j=0
 | 0,_,_=>rfl
 | k+1,j,h=>by
  have ih:=Rz (cash:=cash) (stock:=stock) k j h;obtain⟨c,hc,lG⟩:=h;show iO _ _ j=0;unfold iO;split
  .rw[dS _ _ (by show j≠(k:Int).toNat*8+4;rcases lG with e | ⟨m,hm,e⟩ <;> omega),dS _ _ (by show j≠(k:Int).toNat*8+3;rcases lG with e | ⟨m,hm,e⟩ <;> omega),dS _ _ (by show j≠(k:Int).toNat*8+2;rcases lG with e | ⟨m,hm,e⟩ <;> omega),dS _ _ (by show j≠(k:Int).toNat*8;rcases lG with e | ⟨m,hm,e⟩ <;> omega),ih]
  .exact ih
theorem RA {cash stock:Int} (h:Fits cash stock):∀ k,k<=6->ew (kz cash stock k) 6=k*cash/\∀ j,j<3->ez (kz cash stock k) j 6=k*stock
 | 0,_=>⟨by simp[kz,ew],fun j _=>by simp[kz,ez]⟩
 | k+1,hk=>by
  obtain⟨h1,h2⟩:=RA h k (by omega);obtain⟨g1,g2⟩:=adt (Ry h k (by omega));have ec:((k+1:Nat):Int)*cash=k*cash+cash:=by rw[show ((k+1:Nat):Int)=(k:Int)+1 by omega,Int.add_mul,Int.one_mul]
  have es:((k+1:Nat):Int)*stock=k*stock+stock:=by rw[show ((k+1:Nat):Int)=(k:Int)+1 by omega,Int.add_mul,Int.one_mul]
  refine⟨by show ew (iO _ _) 6=_;rw[g1,h1,ec],fun j hj=>?_⟩;show ez (iO _ _) j 6=_;rw[g2 j hj,h2 j hj,es];have:j=0\/j=1\/j=2:=by omega
  rcases this with rfl | rfl | rfl <;> rfl
theorem RB {wd h ref cash stock:Int} (hr:aZ.iW wd h=true) (hf:ah.aG ref 1 1000=true) (H:Fits cash stock):dU (fun _=>[]) (kz cash stock 6) (tW ref) wd h:=by
 obtain⟨g1,g2⟩:=RA H 6 (lRq _);have hc1:=H.c1;have hs1:=H.s1;refine⟨⟨fun _ _=>Bk.abt,JM cash stock 6,adu _ fun j hj=>Rz 6 j hj,by rw[g1];omega,fun k hk=>by rw[g2 k hk];omega⟩,fun i hi=>?_,hr⟩;unfold aZ.jv tW;rw[if_pos (by omega),if_neg (by omega),hf];rfl
end Fl
section
open Go.RowKit
section
variable {ev:Nat->Value}
end
section
variable {ev:Nat->Value}
def adY (w w':World) (e:Ending) (wd h ref cash stock:Int):Prop:=∃ F P I b,e=.returned (.tuple #[Qc F,.nilIface])/\bk w w' F P I b (fun _=>.slice none 0 0) (fun _=>[]) (Fl.kz cash stock 6) (Fl.tW ref) wd h
theorem adZ (wd h ref cash stock:Int) (w:World) (he:Hid (eA w ev)) (hr:Hid (aZ.iW wd h=true)) (hf:Hid (ah.aG ref 1 1000=true)) (H:Hid (Fl.Fits cash stock)) :
  Calls Tryz.prog 95 #[dP wd h,Qa ref,Qa cash,Qa stock] w fun e w'=>adY w w' e wd h ref cash stock:=by
 have hb0:Qd w (w.alloc (.cells #[Qa wd,Qa h] 43)):=(bRq _ _).alloc (lRq _) _;have rT:=AAA wd h 412 (ev 1) (w.alloc (.cells #[Qa wd,Qa h] 43)) (he.out.below hb0).Kh;rw[hr.out,show lz 412 (ev 1) true=.nilIface from rfl]at rT;have Km:=hDq rT;have bD:=hDq hb0;have R_:(w.alloc (.cells #[Qa wd,Qa h] 43)).heap[w.heap.size]?=some (.cells #[Qa wd,Qa h] 43 (0,0)):=hNq _ _;have pN:=hDq R_;clear hb0 rT R_;unfold dP at Km ⊢;have HW1:=hDq (fun W=>gH ref 1 1000 W);have HW2:=hDq (fun W=>gH cash 0 1073741824 W);have HW3:=hDq (fun W=>gH stock 0 100000 W);have e1:ah.aG cash 0 1073741824=true:=by have:=H.out.c0;have:=H.out.c1;simp[ah.aG];omega
 have e2:ah.aG stock 0 100000=true:=by have:=H.out.s0;have:=H.out.s1;simp[ah.aG];omega
 rw[hf.out]at HW1;rw[e1]at HW2;rw[e2]at HW3;clear e1 e2;go_enter Tryz.func95,Tryz.ntmps95
 go_wp2_with fail
 refine Km.out.mono ?_;rintro e w2 ⟨rfl,hb2⟩;have jd:=hDq (bD.out.trans (hb2.mono bD.out.size));have qL:Hid (w2.heap[w.heap.size]?=some (.cells #[Qa wd,Qa h] 43 (0,0))):=by show _=_;rw[hb2.block _ (lBq pN.out)];exact pN.out
 clear hb2 bD pN Km;obtain⟨qM,El⟩:∃ qM,w.heap.size=qM:=⟨_,rfl⟩;rw[El]at qL;rw[El];have jb:=hDq El;clear El;simp only[]
 go_wp2_with fail
 refine(HW1.out _).mono ?_;rintro e w2 ⟨rfl,rfl⟩;simp only[]
 go_wp2_with fail
 refine(HW2.out _).mono ?_;rintro e w2 ⟨rfl,rfl⟩;simp only[]
 go_wp2_with fail
 refine(HW3.out _).mono ?_;rintro e w2 ⟨rfl,rfl⟩;clear HW1 HW2 HW3;simp only[]
 go_wp2_with fail
 obtain⟨bH,val,hcl,aP⟩:=AB qM qM qM (.cells #[Qa wd,Qa h] 43 (0,0)) (.cells #[Qa wd,Qa h] 43 (0,0)) (.cells #[Qa wd,Qa h] 43 (0,0));have aR:=hDq aP;obtain⟨y0,lC⟩:=aP w2.drew ⟨qL.out,qL.out,qL.out⟩;have hnx:Nonempty bH:=⟨y0⟩;have u0:∀ x,(val x).cell? (Qb qM 0)=some (Qa wd):=fun x=>by rw[cR _ _ _ _ _ _ (hcl x).1];rfl
 have u1:∀ x,(val x).cell? (Qb qM 1)=some (Qa h):=fun x=>by rw[cR _ _ _ _ _ _ (hcl x).1];rfl
 clear aP hcl;have hbd:Qd w2 w2.drew:=⟨rfl,rfl,rfl,lRq _,fun _ _=>rfl⟩;have qN:=hDq (jd.out.trans (hbd.mono jd.out.size));have Kn:Hid (w2.drew.heap[qM]?=some (.cells #[Qa wd,Qa h] 43 (0,0))):=qL.out;clear hbd jd qL;refine Av (val:=val) (.read 0 (.one 1 (.read 2 (.one 3 (.read 4 .done))))) (by kernel_rfl) (by kernel_rfl) y0 lC ?_;rw[lC];clear lC;generalize w2.drew=w3 at *;refine cr rfl (fun K hK=>?_);refine⟨by rfl,?_⟩;unfold aB;go_simp;refine hK _ ?_;clear hK K;refine bW rfl (fun K hK=>?_);refine⟨by rfl,?_⟩;unfold aQ;go_simp;refine(ad1 _).mono ?_;rintro e w4 ⟨rfl,hw4⟩;have hbc:Qd w3 w4:=by rw[hw4];exact(bRq _ _).alloc (lRq _) _
 obtain⟨P,hP⟩:∃ P,w3.heap.size=P:=⟨_,rfl⟩;have nx:Hid (w4.heap[P]?=some (.cells (cu fun _=>0) 213 (0,0))):=by show _=_;rw[hw4,<- hP];exact hNq _ _
 have yz:Hid (w4.heap[qM]?=some (.cells #[Qa wd,Qa h] 43 (0,0))):=by show _=_;rw[hbc.block _ (lBq Kn.out)];exact Kn.out
 have oF:=hDq (qN.out.trans (hbc.mono qN.out.size));have ad2:Hid (w.heap.size<=P):=by have:=qN.out.size;show _<=_;omega
 refine⟨_,rfl,aR.out _ ⟨yz.out,yz.out,yz.out⟩,hK _ _ ?_⟩;rw[hP];clear hK K hbc hw4 hP qN Kn;refine cr rfl (fun K hK=>?_);refine⟨by rfl,?_⟩;unfold aB;go_simp;refine hK _ ?_;clear hK K;refine bW rfl (fun K hK=>?_);refine⟨by rfl,?_⟩;unfold aQ;go_simp;obtain⟨F,hF⟩:∃ F,w4.heap.size=F:=⟨_,rfl⟩;obtain⟨aC,uj⟩:∃ x,w4.alloc (.cells #[Qa wd,Qa h,.pointer none,.pointer none,.pointer none,Qc P] 210)=x:=⟨_,rfl⟩;have hbc:Qd w4 aC:=by rw[<- uj];exact(bRq _ _).alloc (lRq _) _
 have jD:Hid (aC.heap[F]?=some (.cells #[Qa wd,Qa h,.pointer none,.pointer none,.pointer none,Qc P] 210 (0,0))):=by show _=_;rw[<- uj,<- hF];exact hNq _ _
 have jZ:Hid (aC.heap[P]?=some (.cells (cu fun _=>0) 213 (0,0))):=by show _=_;rw[hbc.block _ (lBq nx.out)];exact nx.out
 have Em:Hid (aC.heap[qM]?=some (.cells #[Qa wd,Qa h] 43 (0,0))):=by show _=_;rw[hbc.block _ (lBq yz.out)];exact yz.out
 have En:=hDq (oF.out.trans (hbc.mono oF.out.size));have Eo:Hid (w.heap.size<=F):=by have:=oF.out.size;show _<=_;omega
 rw[hF,uj];refine⟨aR.out _ ⟨Em.out,Em.out,Em.out⟩,hK _ _ ?_⟩;clear hK K hbc uj hF oF nx yz;refine cr rfl (fun K hK=>?_);refine⟨by rfl,?_⟩;unfold aB;go_simp;refine hK _ ?_;clear hK K;refine ja ?_;clear u0 u1 aR;clear y0 hnx;clear val;clear bH;obtain⟨S,hS⟩:∃ S,aC.heap.size=S:=⟨_,rfl⟩;obtain⟨mA,pM⟩:∃ x,aC.alloc (.cells #[Qa 0,Qa 0,Qa 0] 138)=x:=⟨_,rfl⟩;have hbc:Qd aC mA:=by rw[<- pM];exact(bRq _ _).alloc (lRq _) _
 have Ko:Hid (mA.heap[S]?=some (.cells #[Qa 0,Qa 0,Qa 0] 138 (0,0))):=by show _=_;rw[<- pM,<- hS];exact hNq _ _
 have Kp:Hid (mA.heap[F]?=some (.cells #[Qa wd,Qa h,.pointer none,.pointer none,.pointer none,Qc P] 210 (0,0))):=by show _=_;rw[hbc.block _ (lBq jD.out)];exact jD.out
 have Kq:Hid (mA.heap[P]?=some (.cells (cu fun _=>0) 213 (0,0))):=by show _=_;rw[hbc.block _ (lBq jZ.out)];exact jZ.out
 have Kr:=hDq (En.out.trans (hbc.mono En.out.size));have kr:Hid (w.heap.size<=S):=by have:=En.out.size;show _<=_;omega
 have AQ:=hDq pM;have Ei:=hDq hS;clear hbc pM hS En jD jZ Em;go_wp2;rw[AQ.out,Ei.out];clear AQ Ei;refine wp_loop_rounds 4 ?_;rw[rounds_succ]
 go_wp2_with fail
 have hnx:Nonempty World:=⟨mA⟩;refine Av (X:=World) (val:=fun x=>x) (.read 0 (.read 1 (.read 3 (.read 4 (.read 7 (.read 8 (.one 2 (.read 5 (.one 6 (.read 9 (.one 10 .done))))))))))) (by kernel_rfl) (by kernel_rfl) mA.drew rfl ?_;have hbd:Qd mA mA.drew:=⟨rfl,rfl,rfl,lRq _,fun _ _=>rfl⟩;have Ep:Hid (mA.drew.heap[F]?=some (.cells #[Qa wd,Qa h,.pointer none,.pointer none,.pointer none,Qc P] 210 (0,0))):=by show _=_;rw[hbd.block _ (lBq Kp.out)];exact Kp.out
 have Er:Hid (mA.drew.heap[S]?=some (.cells #[Qa 0,Qa 0,Qa 0] 138 (0,0))):=by show _=_;rw[hbd.block _ (lBq Ko.out)];exact Ko.out
 have Es:Hid (mA.drew.heap[P]?=some (.cells (cu fun _=>0) 213 (0,0))):=by show _=_;rw[hbd.block _ (lBq Kq.out)];exact Kq.out
 have Et:=hDq (Kr.out.trans (hbd.mono Kr.out.size));clear hbd Kp Ko Kq Kr;show kX _ _ _ _ _ _ mA.drew;generalize mA.drew=Kt at *
 iterate 6 (refine cr rfl (fun K hK=>?_);refine⟨by rfl,?_⟩;unfold aB;go_simp;refine hK _ ?_;clear hK K)
 refine bW rfl (fun K hK=>?_);refine⟨by rfl,?_⟩;unfold aQ;go_simp;refine(Jc _).mono ?_;rintro e se ⟨rfl,hwc⟩;have hbc:Qd Kt se:=by rw[hwc];exact(bRq _ _).alloc (lRq _) _
 obtain⟨B0,hB0⟩:∃ B,Kt.heap.size=B:=⟨_,rfl⟩;have Ku:Hid (se.heap[B0]?=some (.cells #[.slice none 0 0] 276 (0,0))):=by show _=_;rw[hwc,<- hB0];exact hNq _ _
 have Eu:Hid (se.heap[F]?=some (.cells #[Qa wd,Qa h,.pointer none,.pointer none,.pointer none,Qc P] 210 (0,0))):=by show _=_;rw[hbc.block _ (lBq Ep.out)];exact Ep.out
 have Ev:Hid (se.heap[S]?=some (.cells #[Qa 0,Qa 0,Qa 0] 138 (0,0))):=by show _=_;rw[hbc.block _ (lBq Er.out)];exact Er.out
 have Kv:Hid (se.heap[P]?=some (.cells (cu fun _=>0) 213 (0,0))):=by show _=_;rw[hbc.block _ (lBq Es.out)];exact Es.out
 have Ew:=hDq (Et.out.trans (hbc.mono Et.out.size));have Sb:Hid (w.heap.size<=B0):=by have:=Et.out.size;show _<=_;omega
 refine⟨_,rfl,hK _ _ ?_⟩;rw[hB0];have ad3:Hid (B0≠F/\B0≠S/\B0≠P):=by
  have l1:=lBq Ep.out;have l2:=lBq Er.out;have l3:=lBq Es.out;refine⟨by omega,by omega,by omega⟩
 clear hK K hbc hwc hB0 Ep Er Es Et;refine cr rfl (fun K hK=>?_);refine⟨by rfl,?_⟩;unfold aB;go_simp;refine hK _ ?_;clear hK K;refine bW rfl (fun K hK=>?_);refine⟨by rfl,?_⟩;unfold aQ;go_simp;obtain⟨eR,oG⟩:∃ I,se.heap.size=I:=⟨_,rfl⟩;obtain⟨pO,hwd⟩:∃ x,se.alloc (.cells #[Qc B0,Qa ref,Qa 0] 267)=x:=⟨_,rfl⟩;have hbd:Qd se pO:=by rw[<- hwd];exact(bRq _ _).alloc (lRq _) _
 have Ex:Hid (pO.heap[eR]?=some (.cells #[Qc B0,Qa ref,Qa 0] 267 (0,0))):=by show _=_;rw[<- hwd,<- oG];exact hNq _ _
 rw[oG,hwd];have sg:Hid (pO.heap[F]?=some (.cells #[Qa wd,Qa h,.pointer none,.pointer none,.pointer none,Qc P] 210 (0,0))):=by show _=_;rw[hbd.block _ (lBq Eu.out)];exact Eu.out
 have Ey:Hid (pO.heap[S]?=some (.cells #[Qa 0,Qa 0,Qa 0] 138 (0,0))):=by show _=_;rw[hbd.block _ (lBq Ev.out)];exact Ev.out
 have Ez:Hid (pO.heap[P]?=some (.cells (cu fun _=>0) 213 (0,0))):=by show _=_;rw[hbd.block _ (lBq Kv.out)];exact Kv.out
 have EA:Hid (pO.heap[B0]?=some (.cells #[.slice none 0 0] 276 (0,0))):=by show _=_;rw[hbd.block _ (lBq Ku.out)];exact Ku.out
 have Kw:=hDq (Ew.out.trans (hbd.mono Ew.out.size));have Sc:Hid (w.heap.size<=eR):=by have:=Ew.out.size;show _<=_;omega
 have ad4:Hid (eR≠F/\eR≠S):=by
  have l1:=lBq Eu.out;have l2:=lBq Ev.out;refine⟨by omega,by omega⟩
 refine hK _ _ ?_;clear hK K hbd hwd oG Eu Ev Kv Ku Ew;refine cr rfl (fun K hK=>?_);refine⟨by rfl,?_⟩;unfold aB;go_simp;refine hK _ ?_;clear hK K;have c0:pO.cell? (Qb F 2)=some (.pointer none):=by rw[cR pO _ 2 _ _ _ sg.out];rfl
 have f0:pO.frozen? (Qb F 2)=false:=by simp[World.frozen?,sg.out]
 obtain⟨pP,kD⟩:∃ x,pO.setCell (Qb F 2) (Qc eR)=x:=⟨_,rfl⟩;have bF:aM pO pP F:=by rw[<- kD];exact aM.setCell _ _ _ _
 have EB:Hid (pP.heap[F]?=some (.cells #[Qa wd,Qa h,Qc eR,.pointer none,.pointer none,Qc P] 210 (0,0))):=by show _=_;rw[<- kD,setCell_eq_setRow _ F 2 _ _ _ _ sg.out];exact setRow_heap _ F _ _ _ _ sg.out
 have si:Hid (pP.heap[S]?=some (.cells #[Qa 0,Qa 0,Qa 0] 138 (0,0))):=by show _=_;rw[bF.block _ (lBq Ey.out) (aI Ey.out sg.out (by decide))];exact Ey.out
 have EC:Hid (pP.heap[P]?=some (.cells (cu fun _=>0) 213 (0,0))):=by show _=_;rw[bF.block _ (lBq Ez.out) (aI Ez.out sg.out (by decide))];exact Ez.out
 have ED:Hid (pP.heap[B0]?=some (.cells #[.slice none 0 0] 276 (0,0))):=by show _=_;rw[bF.block _ (lBq EA.out) (aI EA.out sg.out (by decide))];exact EA.out
 have EE:Hid (pP.heap[eR]?=some (.cells #[Qc B0,Qa ref,Qa 0] 267 (0,0))):=by show _=_;rw[bF.block _ (lBq Ex.out) (aI Ex.out sg.out (by decide))];exact Ex.out
 have Ky:=hDq (Kw.out.trans (bF.below Kw.out.size Eo.out));have uk:=hDq kD;clear kD;refine bW rfl (fun K hK=>?_);refine⟨by rfl,?_⟩;unfold aQ;go_simp;rw[uk.out];refine hK _ _ ?_;clear hK K c0 f0 bF uk hnx sg Ey Ez EA Ex Kw;refine ja ?_;have c0:pP.cell? (Qb S 0)=some (Qa 0):=by rw[cR pP _ 0 _ _ _ si.out];rfl
 have f0:pP.frozen? (Qb S 0)=false:=by simp[World.frozen?,si.out]
 obtain⟨j0,hwf⟩:∃ x,pP.setCell (Qb S 0) (Qa stock)=x:=⟨_,rfl⟩;have bF:aM pP j0 S:=by rw[<- hwf];exact aM.setCell _ _ _ _
 have Kz:Hid (j0.heap[S]?=some (.cells #[Qa stock,Qa 0,Qa 0] 138 (0,0))):=by show _=_;rw[<- hwf,setCell_eq_setRow _ S 0 _ _ _ _ si.out];exact setRow_heap _ S _ _ _ _ si.out
 have KA:Hid (j0.heap[F]?=some (.cells #[Qa wd,Qa h,Qc eR,.pointer none,.pointer none,Qc P] 210 (0,0))):=by show _=_;rw[bF.block _ (lBq EB.out) (aI EB.out si.out (by decide))];exact EB.out
 have KB:Hid (j0.heap[P]?=some (.cells (cu fun _=>0) 213 (0,0))):=by show _=_;rw[bF.block _ (lBq EC.out) (aI EC.out si.out (by decide))];exact EC.out
 have KC:Hid (j0.heap[eR]?=some (.cells #[Qc B0,Qa ref,Qa 0] 267 (0,0))):=by show _=_;rw[bF.block _ (lBq EE.out) (aI EE.out si.out (by decide))];exact EE.out
 have KD:Hid (j0.heap[B0]?=some (.cells #[.slice none 0 0] 276 (0,0))):=by show _=_;rw[bF.block _ (lBq ED.out) (aI ED.out si.out (by decide))];exact ED.out
 have KE:=hDq (Ky.out.trans (bF.below Ky.out.size kr.out));have um:=hDq hwf;clear hwf bF EB EC EE ED Ky;go_wp2;rw[um.out];clear c0 f0 um si;rw[rounds_succ]
 go_wp2_with fail
 have hnx:Nonempty World:=⟨j0⟩;refine Av (X:=World) (val:=fun x=>x) (.read 0 (.read 1 (.read 3 (.read 4 (.read 7 (.read 8 (.one 2 (.read 5 (.one 6 (.read 9 (.one 10 .done))))))))))) (by kernel_rfl) (by kernel_rfl) j0.drew rfl ?_;have hbd:Qd j0 j0.drew:=⟨rfl,rfl,rfl,lRq _,fun _ _=>rfl⟩;have EF:Hid (j0.drew.heap[F]?=some (.cells #[Qa wd,Qa h,Qc eR,.pointer none,.pointer none,Qc P] 210 (0,0))):=by show _=_;rw[hbd.block _ (lBq KA.out)];exact KA.out
 have EG:Hid (j0.drew.heap[S]?=some (.cells #[Qa stock,Qa 0,Qa 0] 138 (0,0))):=by show _=_;rw[hbd.block _ (lBq Kz.out)];exact Kz.out
 have EH:Hid (j0.drew.heap[P]?=some (.cells (cu fun _=>0) 213 (0,0))):=by show _=_;rw[hbd.block _ (lBq KB.out)];exact KB.out
 have KF:Hid (j0.drew.heap[eR]?=some (.cells #[Qc B0,Qa ref,Qa 0] 267 (0,0))):=by show _=_;rw[hbd.block _ (lBq KC.out)];exact KC.out
 have EI:Hid (j0.drew.heap[B0]?=some (.cells #[.slice none 0 0] 276 (0,0))):=by show _=_;rw[hbd.block _ (lBq KD.out)];exact KD.out
 have EJ:=hDq (KE.out.trans (hbd.mono KE.out.size));clear hbd KA Kz KB KC KD KE;show kX _ _ _ _ _ _ j0.drew;generalize j0.drew=KG at *
 iterate 6 (refine cr rfl (fun K hK=>?_);refine⟨by rfl,?_⟩;unfold aB;go_simp;refine hK _ ?_;clear hK K)
 refine bW rfl (fun K hK=>?_);refine⟨by rfl,?_⟩;unfold aQ;go_simp;refine(Jc _).mono ?_;rintro e pQ ⟨rfl,hwc⟩;have hbc:Qd KG pQ:=by rw[hwc];exact(bRq _ _).alloc (lRq _) _
 obtain⟨B1,pz⟩:∃ B,KG.heap.size=B:=⟨_,rfl⟩;have KH:Hid (pQ.heap[B1]?=some (.cells #[.slice none 0 0] 276 (0,0))):=by show _=_;rw[hwc,<- pz];exact hNq _ _
 have EK:Hid (pQ.heap[F]?=some (.cells #[Qa wd,Qa h,Qc eR,.pointer none,.pointer none,Qc P] 210 (0,0))):=by show _=_;rw[hbc.block _ (lBq EF.out)];exact EF.out
 have EL:Hid (pQ.heap[S]?=some (.cells #[Qa stock,Qa 0,Qa 0] 138 (0,0))):=by show _=_;rw[hbc.block _ (lBq EG.out)];exact EG.out
 have KI:Hid (pQ.heap[P]?=some (.cells (cu fun _=>0) 213 (0,0))):=by show _=_;rw[hbc.block _ (lBq EH.out)];exact EH.out
 have EM:Hid (pQ.heap[eR]?=some (.cells #[Qc B0,Qa ref,Qa 0] 267 (0,0))):=by show _=_;rw[hbc.block _ (lBq KF.out)];exact KF.out
 have KJ:Hid (pQ.heap[B0]?=some (.cells #[.slice none 0 0] 276 (0,0))):=by show _=_;rw[hbc.block _ (lBq EI.out)];exact EI.out
 have EN:=hDq (EJ.out.trans (hbc.mono EJ.out.size));have Sd:Hid (w.heap.size<=B1):=by have:=EJ.out.size;show _<=_;omega
 refine⟨_,rfl,hK _ _ ?_⟩;rw[pz];have Se:Hid (B1≠F/\B1≠S/\B1≠P/\B1≠B0):=by
  have l1:=lBq EF.out;have l2:=lBq EG.out;have l3:=lBq EH.out;have KL:=lBq EI.out;refine⟨by omega,by omega,by omega,by omega⟩
 clear hK K hbc hwc pz EF EG EH KF EI EJ;refine cr rfl (fun K hK=>?_);refine⟨by rfl,?_⟩;unfold aB;go_simp;refine hK _ ?_;clear hK K;refine bW rfl (fun K hK=>?_);refine⟨by rfl,?_⟩;unfold aQ;go_simp;obtain⟨ic,sj⟩:∃ I,pQ.heap.size=I:=⟨_,rfl⟩;obtain⟨lA,hwd⟩:∃ x,pQ.alloc (.cells #[Qc B1,Qa ref,Qa 0] 267)=x:=⟨_,rfl⟩;have hbd:Qd pQ lA:=by rw[<- hwd];exact(bRq _ _).alloc (lRq _) _
 have EO:Hid (lA.heap[ic]?=some (.cells #[Qc B1,Qa ref,Qa 0] 267 (0,0))):=by show _=_;rw[<- hwd,<- sj];exact hNq _ _
 rw[sj,hwd];have pR:Hid (lA.heap[F]?=some (.cells #[Qa wd,Qa h,Qc eR,.pointer none,.pointer none,Qc P] 210 (0,0))):=by show _=_;rw[hbd.block _ (lBq EK.out)];exact EK.out
 have EP:Hid (lA.heap[S]?=some (.cells #[Qa stock,Qa 0,Qa 0] 138 (0,0))):=by show _=_;rw[hbd.block _ (lBq EL.out)];exact EL.out
 have EQ:Hid (lA.heap[P]?=some (.cells (cu fun _=>0) 213 (0,0))):=by show _=_;rw[hbd.block _ (lBq KI.out)];exact KI.out
 have ER:Hid (lA.heap[eR]?=some (.cells #[Qc B0,Qa ref,Qa 0] 267 (0,0))):=by show _=_;rw[hbd.block _ (lBq EM.out)];exact EM.out
 have ES:Hid (lA.heap[B0]?=some (.cells #[.slice none 0 0] 276 (0,0))):=by show _=_;rw[hbd.block _ (lBq KJ.out)];exact KJ.out
 have ET:Hid (lA.heap[B1]?=some (.cells #[.slice none 0 0] 276 (0,0))):=by show _=_;rw[hbd.block _ (lBq KH.out)];exact KH.out
 have KM:=hDq (EN.out.trans (hbd.mono EN.out.size));have Sf:Hid (w.heap.size<=ic):=by have:=EN.out.size;show _<=_;omega
 have Sg:Hid (ic≠F/\ic≠S/\ic≠eR):=by
  have l1:=lBq EK.out;have l2:=lBq EL.out;have KL:=lBq EM.out;refine⟨by omega,by omega,by omega⟩
 refine hK _ _ ?_;clear hK K hbd hwd sj EK EL KI EM KJ KH EN;refine cr rfl (fun K hK=>?_);refine⟨by rfl,?_⟩;unfold aB;go_simp;refine hK _ ?_;clear hK K;have c0:lA.cell? (Qb F 3)=some (.pointer none):=by rw[cR lA _ 3 _ _ _ pR.out];rfl
 have f0:lA.frozen? (Qb F 3)=false:=by simp[World.frozen?,pR.out]
 obtain⟨we1,kD⟩:∃ x,lA.setCell (Qb F 3) (Qc ic)=x:=⟨_,rfl⟩;have bF:aM lA we1 F:=by rw[<- kD];exact aM.setCell _ _ _ _
 have EU:Hid (we1.heap[F]?=some (.cells #[Qa wd,Qa h,Qc eR,Qc ic,.pointer none,Qc P] 210 (0,0))):=by show _=_;rw[<- kD,setCell_eq_setRow _ F 3 _ _ _ _ pR.out];exact setRow_heap _ F _ _ _ _ pR.out
 have pT:Hid (we1.heap[S]?=some (.cells #[Qa stock,Qa 0,Qa 0] 138 (0,0))):=by show _=_;rw[bF.block _ (lBq EP.out) (aI EP.out pR.out (by decide))];exact EP.out
 have EV:Hid (we1.heap[P]?=some (.cells (cu fun _=>0) 213 (0,0))):=by show _=_;rw[bF.block _ (lBq EQ.out) (aI EQ.out pR.out (by decide))];exact EQ.out
 have EW:Hid (we1.heap[eR]?=some (.cells #[Qc B0,Qa ref,Qa 0] 267 (0,0))):=by show _=_;rw[bF.block _ (lBq ER.out) (aI ER.out pR.out (by decide))];exact ER.out
 have EX:Hid (we1.heap[B0]?=some (.cells #[.slice none 0 0] 276 (0,0))):=by show _=_;rw[bF.block _ (lBq ES.out) (aI ES.out pR.out (by decide))];exact ES.out
 have EY:Hid (we1.heap[B1]?=some (.cells #[.slice none 0 0] 276 (0,0))):=by show _=_;rw[bF.block _ (lBq ET.out) (aI ET.out pR.out (by decide))];exact ET.out
 have EZ:Hid (we1.heap[ic]?=some (.cells #[Qc B1,Qa ref,Qa 0] 267 (0,0))):=by show _=_;rw[bF.block _ (lBq EO.out) (aI EO.out pR.out (by decide))];exact EO.out
 have KN:=hDq (KM.out.trans (bF.below KM.out.size Eo.out));have uk:=hDq kD;clear kD;refine bW rfl (fun K hK=>?_);refine⟨by rfl,?_⟩;unfold aQ;go_simp;rw[uk.out];refine hK _ _ ?_;clear hK K c0 f0 bF uk hnx pR EP EQ ER ES ET EO KM;refine ja ?_;have c0:we1.cell? (Qb S 1)=some (Qa 0):=by rw[cR we1 _ 1 _ _ _ pT.out];rfl
 have f0:we1.frozen? (Qb S 1)=false:=by simp[World.frozen?,pT.out]
 obtain⟨iF,hwf⟩:∃ x,we1.setCell (Qb S 1) (Qa stock)=x:=⟨_,rfl⟩;have bF:aM we1 iF S:=by rw[<- hwf];exact aM.setCell _ _ _ _
 have KO:Hid (iF.heap[S]?=some (.cells #[Qa stock,Qa stock,Qa 0] 138 (0,0))):=by show _=_;rw[<- hwf,setCell_eq_setRow _ S 1 _ _ _ _ pT.out];exact setRow_heap _ S _ _ _ _ pT.out
 have KP:Hid (iF.heap[F]?=some (.cells #[Qa wd,Qa h,Qc eR,Qc ic,.pointer none,Qc P] 210 (0,0))):=by show _=_;rw[bF.block _ (lBq EU.out) (aI EU.out pT.out (by decide))];exact EU.out
 have KQ:Hid (iF.heap[P]?=some (.cells (cu fun _=>0) 213 (0,0))):=by show _=_;rw[bF.block _ (lBq EV.out) (aI EV.out pT.out (by decide))];exact EV.out
 have KR:Hid (iF.heap[eR]?=some (.cells #[Qc B0,Qa ref,Qa 0] 267 (0,0))):=by show _=_;rw[bF.block _ (lBq EW.out) (aI EW.out pT.out (by decide))];exact EW.out
 have KS:Hid (iF.heap[B0]?=some (.cells #[.slice none 0 0] 276 (0,0))):=by show _=_;rw[bF.block _ (lBq EX.out) (aI EX.out pT.out (by decide))];exact EX.out
 have KT:Hid (iF.heap[ic]?=some (.cells #[Qc B1,Qa ref,Qa 0] 267 (0,0))):=by show _=_;rw[bF.block _ (lBq EZ.out) (aI EZ.out pT.out (by decide))];exact EZ.out
 have KU:Hid (iF.heap[B1]?=some (.cells #[.slice none 0 0] 276 (0,0))):=by show _=_;rw[bF.block _ (lBq EY.out) (aI EY.out pT.out (by decide))];exact EY.out
 have KV:=hDq (KN.out.trans (bF.below KN.out.size kr.out));have um:=hDq hwf;clear hwf bF EU EV EW EX EZ EY KN;go_wp2;rw[um.out];clear c0 f0 um pT;rw[rounds_succ]
 go_wp2_with fail
 have hnx:Nonempty World:=⟨iF⟩;refine Av (X:=World) (val:=fun x=>x) (.read 0 (.read 1 (.read 3 (.read 4 (.read 7 (.read 8 (.one 2 (.read 5 (.one 6 (.read 9 (.one 10 .done))))))))))) (by kernel_rfl) (by kernel_rfl) iF.drew rfl ?_;have hbd:Qd iF iF.drew:=⟨rfl,rfl,rfl,lRq _,fun _ _=>rfl⟩;have E0:Hid (iF.drew.heap[F]?=some (.cells #[Qa wd,Qa h,Qc eR,Qc ic,.pointer none,Qc P] 210 (0,0))):=by show _=_;rw[hbd.block _ (lBq KP.out)];exact KP.out
 have E1:Hid (iF.drew.heap[S]?=some (.cells #[Qa stock,Qa stock,Qa 0] 138 (0,0))):=by show _=_;rw[hbd.block _ (lBq KO.out)];exact KO.out
 have E3:Hid (iF.drew.heap[P]?=some (.cells (cu fun _=>0) 213 (0,0))):=by show _=_;rw[hbd.block _ (lBq KQ.out)];exact KQ.out
 have KW:Hid (iF.drew.heap[eR]?=some (.cells #[Qc B0,Qa ref,Qa 0] 267 (0,0))):=by show _=_;rw[hbd.block _ (lBq KR.out)];exact KR.out
 have E4:Hid (iF.drew.heap[B0]?=some (.cells #[.slice none 0 0] 276 (0,0))):=by show _=_;rw[hbd.block _ (lBq KS.out)];exact KS.out
 have KX:Hid (iF.drew.heap[ic]?=some (.cells #[Qc B1,Qa ref,Qa 0] 267 (0,0))):=by show _=_;rw[hbd.block _ (lBq KT.out)];exact KT.out
 have E5:Hid (iF.drew.heap[B1]?=some (.cells #[.slice none 0 0] 276 (0,0))):=by show _=_;rw[hbd.block _ (lBq KU.out)];exact KU.out
 have E6:=hDq (KV.out.trans (hbd.mono KV.out.size));clear hbd KP KO KQ KR KS KT KU KV;show kX _ _ _ _ _ _ iF.drew;generalize iF.drew=KY at *
 iterate 6 (refine cr rfl (fun K hK=>?_);refine⟨by rfl,?_⟩;unfold aB;go_simp;refine hK _ ?_;clear hK K)
 refine bW rfl (fun K hK=>?_);refine⟨by rfl,?_⟩;unfold aQ;go_simp;refine(Jc _).mono ?_;rintro e ny ⟨rfl,hwc⟩;have hbc:Qd KY ny:=by rw[hwc];exact(bRq _ _).alloc (lRq _) _
 obtain⟨B2,jO⟩:∃ B,KY.heap.size=B:=⟨_,rfl⟩;have KZ:Hid (ny.heap[B2]?=some (.cells #[.slice none 0 0] 276 (0,0))):=by show _=_;rw[hwc,<- jO];exact hNq _ _
 have E7:Hid (ny.heap[F]?=some (.cells #[Qa wd,Qa h,Qc eR,Qc ic,.pointer none,Qc P] 210 (0,0))):=by show _=_;rw[hbc.block _ (lBq E0.out)];exact E0.out
 have E8:Hid (ny.heap[S]?=some (.cells #[Qa stock,Qa stock,Qa 0] 138 (0,0))):=by show _=_;rw[hbc.block _ (lBq E1.out)];exact E1.out
 have K3:Hid (ny.heap[P]?=some (.cells (cu fun _=>0) 213 (0,0))):=by show _=_;rw[hbc.block _ (lBq E3.out)];exact E3.out
 have E9:Hid (ny.heap[eR]?=some (.cells #[Qc B0,Qa ref,Qa 0] 267 (0,0))):=by show _=_;rw[hbc.block _ (lBq KW.out)];exact KW.out
 have K4:Hid (ny.heap[B0]?=some (.cells #[.slice none 0 0] 276 (0,0))):=by show _=_;rw[hbc.block _ (lBq E4.out)];exact E4.out
 have E_:Hid (ny.heap[ic]?=some (.cells #[Qc B1,Qa ref,Qa 0] 267 (0,0))):=by show _=_;rw[hbc.block _ (lBq KX.out)];exact KX.out
 have K5:Hid (ny.heap[B1]?=some (.cells #[.slice none 0 0] 276 (0,0))):=by show _=_;rw[hbc.block _ (lBq E5.out)];exact E5.out
 have Fa:=hDq (E6.out.trans (hbc.mono E6.out.size));have Si:Hid (w.heap.size<=B2):=by have:=E6.out.size;show _<=_;omega
 refine⟨_,rfl,hK _ _ ?_⟩;rw[jO];have Sj:Hid (B2≠F/\B2≠S/\B2≠P/\B2≠B0/\B2≠B1):=by
  have l1:=lBq E0.out;have l2:=lBq E1.out;have l3:=lBq E3.out;have KL:=lBq E4.out;have ad5:=lBq E5.out;refine⟨by omega,by omega,by omega,by omega,by omega⟩
 clear hK K hbc hwc jO E0 E1 E3 KW E4 KX E5 E6;refine cr rfl (fun K hK=>?_);refine⟨by rfl,?_⟩;unfold aB;go_simp;refine hK _ ?_;clear hK K;refine bW rfl (fun K hK=>?_);refine⟨by rfl,?_⟩;unfold aQ;go_simp;obtain⟨I2,hI2⟩:∃ I,ny.heap.size=I:=⟨_,rfl⟩;obtain⟨wd2,hwd⟩:∃ x,ny.alloc (.cells #[Qc B2,Qa ref,Qa 0] 267)=x:=⟨_,rfl⟩;have hbd:Qd ny wd2:=by rw[<- hwd];exact(bRq _ _).alloc (lRq _) _
 have Fb:Hid (wd2.heap[I2]?=some (.cells #[Qc B2,Qa ref,Qa 0] 267 (0,0))):=by show _=_;rw[<- hwd,<- hI2];exact hNq _ _
 rw[hI2,hwd];have nz:Hid (wd2.heap[F]?=some (.cells #[Qa wd,Qa h,Qc eR,Qc ic,.pointer none,Qc P] 210 (0,0))):=by show _=_;rw[hbd.block _ (lBq E7.out)];exact E7.out
 have Fe:Hid (wd2.heap[S]?=some (.cells #[Qa stock,Qa stock,Qa 0] 138 (0,0))):=by show _=_;rw[hbd.block _ (lBq E8.out)];exact E8.out
 have Ff:Hid (wd2.heap[P]?=some (.cells (cu fun _=>0) 213 (0,0))):=by show _=_;rw[hbd.block _ (lBq K3.out)];exact K3.out
 have Fg:Hid (wd2.heap[eR]?=some (.cells #[Qc B0,Qa ref,Qa 0] 267 (0,0))):=by show _=_;rw[hbd.block _ (lBq E9.out)];exact E9.out
 have Fh:Hid (wd2.heap[B0]?=some (.cells #[.slice none 0 0] 276 (0,0))):=by show _=_;rw[hbd.block _ (lBq K4.out)];exact K4.out
 have Fi:Hid (wd2.heap[ic]?=some (.cells #[Qc B1,Qa ref,Qa 0] 267 (0,0))):=by show _=_;rw[hbd.block _ (lBq E_.out)];exact E_.out
 have Fj:Hid (wd2.heap[B1]?=some (.cells #[.slice none 0 0] 276 (0,0))):=by show _=_;rw[hbd.block _ (lBq K5.out)];exact K5.out
 have Fp:Hid (wd2.heap[B2]?=some (.cells #[.slice none 0 0] 276 (0,0))):=by show _=_;rw[hbd.block _ (lBq KZ.out)];exact KZ.out
 have K6:=hDq (Fa.out.trans (hbd.mono Fa.out.size));have Sk:Hid (w.heap.size<=I2):=by have:=Fa.out.size;show _<=_;omega
 have Sl:Hid (I2≠F/\I2≠S/\I2≠eR/\I2≠ic):=by
  have l1:=lBq E7.out;have l2:=lBq E8.out;have KL:=lBq E9.out;have ad5:=lBq E_.out;refine⟨by omega,by omega,by omega,by omega⟩
 refine hK _ _ ?_;clear hK K hbd hwd hI2 E7 E8 K3 E9 K4 E_ K5 KZ Fa;refine cr rfl (fun K hK=>?_);refine⟨by rfl,?_⟩;unfold aB;go_simp;refine hK _ ?_;clear hK K;have c0:wd2.cell? (Qb F 4)=some (.pointer none):=by rw[cR wd2 _ 4 _ _ _ nz.out];rfl
 have f0:wd2.frozen? (Qb F 4)=false:=by simp[World.frozen?,nz.out]
 obtain⟨we2,kD⟩:∃ x,wd2.setCell (Qb F 4) (Qc I2)=x:=⟨_,rfl⟩;have bF:aM wd2 we2 F:=by rw[<- kD];exact aM.setCell _ _ _ _
 have Fq:Hid (we2.heap[F]?=some (.cells #[Qa wd,Qa h,Qc eR,Qc ic,Qc I2,Qc P] 210 (0,0))):=by show _=_;rw[<- kD,setCell_eq_setRow _ F 4 _ _ _ _ nz.out];exact setRow_heap _ F _ _ _ _ nz.out
 have nA:Hid (we2.heap[S]?=some (.cells #[Qa stock,Qa stock,Qa 0] 138 (0,0))):=by show _=_;rw[bF.block _ (lBq Fe.out) (aI Fe.out nz.out (by decide))];exact Fe.out
 have Fv:Hid (we2.heap[P]?=some (.cells (cu fun _=>0) 213 (0,0))):=by show _=_;rw[bF.block _ (lBq Ff.out) (aI Ff.out nz.out (by decide))];exact Ff.out
 have Fw:Hid (we2.heap[eR]?=some (.cells #[Qc B0,Qa ref,Qa 0] 267 (0,0))):=by show _=_;rw[bF.block _ (lBq Fg.out) (aI Fg.out nz.out (by decide))];exact Fg.out
 have Fx:Hid (we2.heap[B0]?=some (.cells #[.slice none 0 0] 276 (0,0))):=by show _=_;rw[bF.block _ (lBq Fh.out) (aI Fh.out nz.out (by decide))];exact Fh.out
 have Fy:Hid (we2.heap[ic]?=some (.cells #[Qc B1,Qa ref,Qa 0] 267 (0,0))):=by show _=_;rw[bF.block _ (lBq Fi.out) (aI Fi.out nz.out (by decide))];exact Fi.out
 have Fz:Hid (we2.heap[B1]?=some (.cells #[.slice none 0 0] 276 (0,0))):=by show _=_;rw[bF.block _ (lBq Fj.out) (aI Fj.out nz.out (by decide))];exact Fj.out
 have FB:Hid (we2.heap[B2]?=some (.cells #[.slice none 0 0] 276 (0,0))):=by show _=_;rw[bF.block _ (lBq Fp.out) (aI Fp.out nz.out (by decide))];exact Fp.out
 have FC:Hid (we2.heap[I2]?=some (.cells #[Qc B2,Qa ref,Qa 0] 267 (0,0))):=by show _=_;rw[bF.block _ (lBq Fb.out) (aI Fb.out nz.out (by decide))];exact Fb.out
 have K7:=hDq (K6.out.trans (bF.below K6.out.size Eo.out));have uk:=hDq kD;clear kD;refine bW rfl (fun K hK=>?_);refine⟨by rfl,?_⟩;unfold aQ;go_simp;rw[uk.out];refine hK _ _ ?_;clear hK K c0 f0 bF uk hnx nz Fe Ff Fg Fh Fi Fj Fp Fb K6;refine ja ?_;have c0:we2.cell? (Qb S 2)=some (Qa 0):=by rw[cR we2 _ 2 _ _ _ nA.out];rfl
 have f0:we2.frozen? (Qb S 2)=false:=by simp[World.frozen?,nA.out]
 obtain⟨pU,hwf⟩:∃ x,we2.setCell (Qb S 2) (Qa stock)=x:=⟨_,rfl⟩;have bF:aM we2 pU S:=by rw[<- hwf];exact aM.setCell _ _ _ _
 have Sm:Hid (pU.heap[S]?=some (.cells #[Qa stock,Qa stock,Qa stock] 138 (0,0))):=by show _=_;rw[<- hwf,setCell_eq_setRow _ S 2 _ _ _ _ nA.out];exact setRow_heap _ S _ _ _ _ nA.out
 have Sn:Hid (pU.heap[F]?=some (.cells #[Qa wd,Qa h,Qc eR,Qc ic,Qc I2,Qc P] 210 (0,0))):=by show _=_;rw[bF.block _ (lBq Fq.out) (aI Fq.out nA.out (by decide))];exact Fq.out
 have Sp:Hid (pU.heap[P]?=some (.cells (cu fun _=>0) 213 (0,0))):=by show _=_;rw[bF.block _ (lBq Fv.out) (aI Fv.out nA.out (by decide))];exact Fv.out
 have Sq:Hid (pU.heap[eR]?=some (.cells #[Qc B0,Qa ref,Qa 0] 267 (0,0))):=by show _=_;rw[bF.block _ (lBq Fw.out) (aI Fw.out nA.out (by decide))];exact Fw.out
 have Sr:Hid (pU.heap[B0]?=some (.cells #[.slice none 0 0] 276 (0,0))):=by show _=_;rw[bF.block _ (lBq Fx.out) (aI Fx.out nA.out (by decide))];exact Fx.out
 have Sv:Hid (pU.heap[ic]?=some (.cells #[Qc B1,Qa ref,Qa 0] 267 (0,0))):=by show _=_;rw[bF.block _ (lBq Fy.out) (aI Fy.out nA.out (by decide))];exact Fy.out
 have Sw:Hid (pU.heap[B1]?=some (.cells #[.slice none 0 0] 276 (0,0))):=by show _=_;rw[bF.block _ (lBq Fz.out) (aI Fz.out nA.out (by decide))];exact Fz.out
 have Sy:Hid (pU.heap[I2]?=some (.cells #[Qc B2,Qa ref,Qa 0] 267 (0,0))):=by show _=_;rw[bF.block _ (lBq FC.out) (aI FC.out nA.out (by decide))];exact FC.out
 have Sz:Hid (pU.heap[B2]?=some (.cells #[.slice none 0 0] 276 (0,0))):=by show _=_;rw[bF.block _ (lBq FB.out) (aI FB.out nA.out (by decide))];exact FB.out
 have SA:=hDq (K7.out.trans (bF.below K7.out.size kr.out));have um:=hDq hwf;clear hwf bF Fq Fv Fw Fx Fy Fz FC FB K7;go_wp2;rw[um.out];clear c0 f0 um nA;rw[rounds_succ];go_wp2;obtain⟨I,hI⟩:∃ I:Nat->Nat,I=fun j=>if j=0 then eR else if j=1 then ic else I2:=⟨_,rfl⟩;obtain⟨b,hb⟩:∃ b:Nat->Nat,b=fun j=>if j=0 then B0 else if j=1 then B1 else B2:=⟨_,rfl⟩;have oG:I 0=eR:=by rw[hI];rfl
 have sj:I 1=ic:=by rw[hI];rfl
 have hI2:I 2=I2:=by rw[hI];rfl
 have hb0:b 0=B0:=by rw[hb];rfl
 have hb1:b 1=B1:=by rw[hb];rfl
 have hb2:b 2=B2:=by rw[hb];rfl
 have c3:∀ j,j<3->j=0\/j=1\/j=2:=fun j hj=>by omega
 have hfl:bk w pU F P I b (fun _=>.slice none 0 0) (fun _=>[]) (Fl.kz cash stock 0) (Fl.tW ref) wd h:=by
  refine⟨by unfold t6;rw[oG,sj,hI2];exact Sn.out,fun j hj=>?_,fun j hj=>?_,fun j k hj hk hjk=>?_,fun j k hj hk hjk=>?_,fun j k hj hk hjk m hm=>(by cases hm),Sp.out,Eo.out,ad2.out,fun j hj=>?_,SA.out⟩
  .rcases c3 j hj with rfl | rfl | rfl
   .rw[oG,hb0];exact Sq.out
   .rw[sj,hb1];exact Sv.out
   .rw[hI2,hb2];exact Sy.out
  .rcases c3 j hj with rfl | rfl | rfl
   .rw[hb0];exact⟨Sr.out,Sb.out,World.ownsRow_nil _ _ _ _⟩
   .rw[hb1];exact⟨Sw.out,Sd.out,World.ownsRow_nil _ _ _ _⟩
   .rw[hb2];exact⟨Sz.out,Si.out,World.ownsRow_nil _ _ _ _⟩
  .have n1:=Sg.out;have n2:=Sl.out
   rcases c3 j hj with rfl | rfl | rfl <;> rcases c3 k hk with rfl | rfl | rfl <;> (try exact absurd rfl hjk) <;> simp only[oG,sj,hI2] <;> omega
  .have n1:=Se.out;have n2:=Sj.out
   rcases c3 j hj with rfl | rfl | rfl <;> rcases c3 k hk with rfl | rfl | rfl <;> (try exact absurd rfl hjk) <;> simp only[hb0,hb1,hb2] <;> omega
  .rcases c3 j hj with rfl | rfl | rfl
   .rw[oG];exact Sc.out
   .rw[sj];exact Sf.out
   .rw[hI2];exact Sk.out
 have mB:=hDq hfl;have FD:=hDq (fun k (hk:k<6)=>Fl.Ry H.out k hk);clear hfl hI hb oG sj hI2 hb0 hb1 hb2 c3 Sn Sp Sq Sv Sy Sr Sw Sz SA ad4 Sg Sl ad3 Se Sj Sb Sd Si Sc Sf Sk
 go_loopw [56] (fun c wr=>∃ (k:Nat),k<=6/\c=Qa k/\bk w wr F P I b (fun _=>.slice none 0 0) (fun _=>[]) (Fl.kz cash stock k) (Fl.tW ref) wd h/\wr.heap[S]?=some (.cells #[Qa stock,Qa stock,Qa stock] 138 (0,0))) (fun c _=>6-(intOf c).toNat)
 case atStart=>exact⟨0,by omega,rfl,mB.out,Sm.out⟩
 case round =>
  obtain⟨k,hk,rfl,hf,ha⟩:=hrel;have HF:=hDq hf;have HA:=hDq ha;clear hf ha mB Sm;by_cases hlt:k<6
  .have aX:(k:Int)<6:=by omega
   have fp:=HF.out.cellP;have a0:wr.cell? (Qb S 0)=some (Qa stock):=by rw[cR wr _ 0 _ _ _ HA.out];rfl
   have a1:wr.cell? (Qb S 1)=some (Qa stock):=by rw[cR wr _ 1 _ _ _ HA.out];rfl
   have a2:wr.cell? (Qb S 2)=some (Qa stock):=by rw[cR wr _ 2 _ _ _ HA.out];rfl
   go_wp2_with fail
   refine jT 7 (by kernel_rfl) (by kernel_rfl) ?_;simp only[List.take_succ_cons,List.take_zero,List.drop_succ_cons,List.drop_zero]
   repeat (first | go_big_quiet_step (fail) | quiet_step (fail))
   refine wpQuiet_nil ?_;intro _ hw';obtain⟨nq,hw''⟩:=hw';subst hw'';have cz:Hid ((wr.drewN nq).heap[S]?=some (.cells #[Qa stock,Qa stock,Qa stock] 138 (0,0))):=HA.out;have cm:=hDq (HF.out.later (dL nq));clear fp a0 a1 a2 HA HF;generalize wr.drewN nq=wg at *;have hg:=ad6 P ⟨k,cash,stock,stock,stock⟩ (Fl.kz cash stock k) ev wg (cm.out.bY he.out).per cm.out.cQ (Fl.JM cash stock k);rw[FD.out k hlt,show cV ev 0=.nilIface from rfl]at hg;have HG:=hDq hg;clear hg;unfold SB at HG;simp only[]at HG
   go_wp2_with fail
   refine HG.out.mono ?_;rintro e dV ⟨rfl,hp,hs⟩;have gA:Hid (bk w dV F P I b (fun _=>.slice none 0 0) (fun _=>[]) (Fl.kz cash stock (k+1)) (Fl.tW ref) wd h):=cm.out.purse hp hs;have jE:Hid (dV.heap[S]?=some (.cells #[Qa stock,Qa stock,Qa stock] 138 (0,0))):=by
    show _=_;rw[hs.block _ (lBq cz.out) (aI cz.out cm.out.cQ (by decide))];exact cz.out
   clear hp hs HG cz cm;simp only[];go_wp2;refine⟨⟨k+1,by omega,by go_num,gA.out,jE.out⟩,by simp[intOf];omega⟩
  .have aX:¬ (k:Int)<6:=by omega
   obtain rfl:k=6:=by omega
   go_wp2;go_ret2;exact⟨F,P,I,b,rfl,HF.out⟩
end
end
end Go.Proofs.YtjolccidheflpaaGreatDoor
