/- Function filled of package batch: the lots of one side's fills. -/
import Derived.Test.YtjolccidheflpaaGreatDoorU25
import Derived.Test.YtjolccidheflpaaGreatDoorU29
import Derived.Test.YtjolccidheflpaaGreatDoorU11
import Derived.Test.YtjolccidheflpaaGreatDoorU08
import Derived.Test.YtjolccidheflpaaGreatDoorU24
namespace Go.Proofs.YtjolccidheflpaaGreatDoor
set_option maxHeartbeats 8000000
open Go.RowKit
set_option maxRecDepth 100000
theorem ad3 (l:List Cv.ag) (sd:Int) (f:Int×Int):(Fs.nT l sd f).length<=1:=by
 unfold Fs.nT;split <;> simp
theorem Ke (l:List Cv.ag) (sd:Int):∀ F,(Fs.filled l sd F).length<=F.length
 | []=>lRq _
 | f::F=>by
  have:=Ke l sd F
  have:=ad3 l sd f
  rw[Fs.filled,lAq,lCq];omega
theorem ad4 (l:List Cv.ag) (sd:Int) (F:List (Int×Int)) (f:Int×Int):Fs.filled l sd (F++[f])=Fs.filled l sd F++Fs.nT l sd f:=by
 rw[Fs.R4,Fs.filled,Fs.filled,aNq]
theorem ad5 (b base AJ cap n:Nat) (v:Value) (sd:Int) (l:List Cv.ag) (F:List (Int×Int)) (w:World) (hb:Hid (df w base b v l)) (hl:Hid (l.length<=60)) (hn:Hid (F.length=n)) (hn':n<=400)
  (hF:Hid (∀ i,i<n->w.cell? ⟨AJ,i*2,none⟩=some (.int .i64 (eE F i).1)∧w.cell? ⟨AJ,i*2+1,none⟩=some (.int .i64 (eE F i).2))) :
  Calls Tryz.prog 263 #[.pointer (some ⟨b,0,none⟩),.int .i64 sd,.slice (some ⟨AJ,0,none⟩) n cap] w fun e w'=>∃ v',e=.returned v'∧w'.ownsRow w.heap.size 197 5 v' (Fs.filled l sd F).length (flat (Fs.filled l sd F))∧Below w.heap.size w w':=by
 obtain⟨i0,z0,hi,hz0,hz1,hz2,hz3⟩:=Dz;have Hi:=hDq hi;have ew:=hDq hz0;have ez:=hDq hz1;have eA:=hDq hz2;have kB:=hDq hz3;clear hi hz0 hz1 hz2 hz3;go_enter Tryz.func263,Tryz.ntmps263;go_wp2
 go_loopw [7,14] (fun u i wr=>∃ (k:Nat) (zs:List Cv.ag),k<=n∧i=.int .i64 k∧zs=Fs.filled l sd (F.take k)∧zs.length<=k∧wr.ownsRow w.heap.size 197 5 u zs.length (flat zs)∧Below w.heap.size w wr) (fun _ i _=>n-(intOf i).toNat)
 case atStart=>exact⟨0,[],Nat.zero_le _,rfl,rfl,lRq _,⟨rfl,.inl ⟨rfl,rfl⟩⟩,bRq _ _⟩
 case round =>
  obtain⟨k,zs,hk,rfl,hzs,hzl,hrow,hbl⟩:=hrel;have R5:=hDq hzs;have ik:=hDq hrow;have fG:=hDq hbl;clear hzs hrow hbl;by_cases hlt:k<n
  ·have aX:(k:Int)<n:=by omega
   obtain⟨c0,c1⟩:=hF.out k hlt;have c0:=cell_later fG.out c0;have c1:=cell_later fG.out c1;have pn:Hid (Fs.filled l sd (F.take (k+1))=zs++Fs.nT l sd (eE F k)):=by
    show _=_;rw[ad6 (by rw[hn.out];exact hlt),ad4,<- R5.out]
   obtain⟨⟨id,q⟩,tM⟩:∃ f,eE F k=f:=⟨_,rfl⟩;rw[tM]at c0 c1 pn;clear tM;simp only[]at c0 c1;have hb1:Below wr.heap.size wr (wr.alloc (.cells #[.int .i64 id,.int .i64 q] 300)):=(bRq _ _).alloc (lRq _) _;have jf:=hDq (DC b base v id l (wr.alloc (.cells #[.int .i64 id,.int .i64 q] 300)) ((hb.out.later (fG.out)).later hb1) hl.out);have hd:(wr.alloc (.cells #[.int .i64 id,.int .i64 q] 300)).heap[wr.heap.size]?=some (.cells #[.int .i64 id,.int .i64 q] 300 (0,0)):=hNq _ _;have HD:=hDq hd;have HB1:=hDq (fG.out.trans (hb1.mono fG.out.size));have HR1:=hDq (ik.out.alloc (.cells #[.int .i64 id,.int .i64 q] 300));clear hd hb1;obtain⟨D,R6⟩:∃ D,wr.heap.size=D:=⟨_,rfl⟩;have Ec:=hDq R6;clear R6;cases hh:Cv.has l id with
   | false =>
    have nU:Hid (Fs.nT l sd (id,q)=[]):=by show _=_;unfold Fs.nT;rw[if_neg (by simp[hh])]
    rw[hh,show Bk.jw l id=Cv.z by unfold Bk.jw;rw[hh];rfl]at jf;unfold bS Cv.z at jf
    go_wp2_with fail
    refine jf.out.mono ?_;rintro e w2 ⟨rfl,hb2⟩;have HB2:=hDq (HB1.out.trans (hb2.mono HB1.out.size));have bg:=hDq (dy HR1.out hb2);clear hb2 jf HR1 HB1 HD;simp only[];have ar:=hDq (HB2.out.alloc HB2.out.size (.cells #[.int .i64 0,.int .i64 0,.int .i64 0,.int .i64 0,.int .i64 0] 197));have HR3:=hDq (bg.out.alloc (.cells #[.int .i64 0,.int .i64 0,.int .i64 0,.int .i64 0,.int .i64 0] 197));go_wp2;refine⟨⟨k+1,zs,by omega,by go_num,by rw[pn.out,nU.out,aNq],by omega,HR3.out,ar.out⟩,by simp[intOf];omega⟩
   | true =>
    rw[hh,show Bk.jw l id=Cv.nth l (Bk.pos l id) by unfold Bk.jw;rw[if_pos hh]]at jf;have nU:Hid (Fs.nT l sd (id,q)=if (Cv.nth l (Bk.pos l id)).sd=sd then [Pu.only (Cv.nth l (Bk.pos l id)) q] else []):=by
     show _=_;unfold Fs.nT;by_cases hs:(Cv.nth l (Bk.pos l id)).sd=sd
     ·rw[if_pos ⟨hh,hs⟩,if_pos hs]
     ·rw[if_neg (fun h=>hs h.2),if_neg hs]
    generalize Cv.nth l (Bk.pos l id)=X at *;obtain⟨x0,x1,x2,x3,x4⟩:=X;unfold bS at jf;simp only[Pu.only]at nU jf;by_cases hs:x2=sd
    ·subst hs
     rw[if_pos rfl]at nU
     go_wp2_with fail
     refine jf.out.mono ?_;rintro e w2 ⟨rfl,hb2⟩;have HB2:=hDq (HB1.out.trans (hb2.mono HB1.out.size));have bg:=hDq (dy HR1.out hb2);have rO:w2.heap[D]?=some (.cells #[.int .i64 id,.int .i64 q] 300 (0,0)):=by rw[<- Ec.out,hb2.block _ (lBq HD.out)];exact HD.out
     rw[Ec.out];have d1:w2.cell? ⟨D,1,none⟩=some (.int .i64 q):=by rw[cR w2 D 1 _ _ _ rO];rfl
     have hDl:=lBq rO;clear hb2 jf HR1 HB1 HD rO;have ar:=hDq (HB2.out.alloc HB2.out.size (.cells #[.int .i64 x0,.int .i64 x1,.int .i64 x2,.int .i64 x3,.int .i64 q] 197));have HR3:=hDq (bg.out.alloc (.cells #[.int .i64 x0,.int .i64 x1,.int .i64 x2,.int .i64 x3,.int .i64 q] 197));simp only[]
     go_wp2_with (at_builtin;refine wpList_append_own_at _ rfl _ _ 195 rfl w.heap.size 197 i0 z0 5 40 Tryz.underlying195 Hi.out ew.out ez.out eA.out kB.out (by decide) _ _ _ rfl (HR3.out.alloc _) ⟨w2.heap.size+1,0,none⟩ 1 1 (dW ⟨x0,x1,x2,x3,q⟩) rfl rfl ?c1 ?c2 ?c3 ?c4 ?c5 ?_)
     case c1=>exact fun j u hj=>xE _ ⟨x0,x1,x2,x3,q⟩ 197 _ (by simp) j u hj
     case c2 => exact fun u hu => by
                     simp only[dW,List.mem_cons,List.not_mem_nil,or_false]at hu;rcases hu with rfl | rfl | rfl | rfl | rfl <;> rfl
     case c3=>unfold maxLen;omega
     case c4=>omega
     case c5=>have:=ar.out.size;simp at this ⊢;omega
     intro ve we hown' hgrow _ hloc;have iU:Hid (we.ownsRow w.heap.size 197 5 ve (zs++[Cv.ag.mk x0 x1 x2 x3 q]).length (flat (zs++[Cv.ag.mk x0 x1 x2 x3 q]))):=by
      show World.ownsRow _ _ _ _ _ _ _;rw[show flat (zs++[Cv.ag.mk x0 x1 x2 x3 q])=flat zs++dW ⟨x0,x1,x2,x3,q⟩ by simp[flat],lAq];exact hown'
     have yc:=(HR3.out.alloc (.cells #[.int .i64 x0,.int .i64 x1,.int .i64 x2,.int .i64 x3,.int .i64 q] 197)).lt;have k0:Hid (Below w.heap.size w we):=(ar.out.alloc ar.out.size _).grown hgrow (by have:=ar.out.size;simp at this ⊢;omega) (fun j hj=>(yc j hj).1);clear hown' hgrow hloc yc HR3 ar bg HB2 d1;go_wp2;refine⟨⟨k+1,zs++[Cv.ag.mk x0 x1 x2 x3 q],by omega,by go_num,by rw[pn.out,nU.out],by simp;omega,iU.out,k0.out⟩,by simp[intOf];omega⟩
    ·have hs':(x2==sd)=false:=by simpa using hs
     rw[if_neg hs]at nU
     go_wp2_with fail
     refine jf.out.mono ?_;rintro e w2 ⟨rfl,hb2⟩;have HB2:=hDq (HB1.out.trans (hb2.mono HB1.out.size));have bg:=hDq (dy HR1.out hb2);clear hb2 jf HR1 HB1 HD;have ar:=hDq (HB2.out.alloc HB2.out.size (.cells #[.int .i64 x0,.int .i64 x1,.int .i64 x2,.int .i64 x3,.int .i64 x4] 197));have HR3:=hDq (bg.out.alloc (.cells #[.int .i64 x0,.int .i64 x1,.int .i64 x2,.int .i64 x3,.int .i64 x4] 197));simp only[];go_wp2;refine⟨⟨k+1,zs,by omega,by go_num,by rw[pn.out,nU.out,aNq],by omega,HR3.out,ar.out⟩,by simp[intOf];omega⟩
  ·have aX:¬ (k:Int)<n:=by omega
   have hzz:zs=Fs.filled l sd F:=by rw[R5.out,List.take_of_length_le (by rw[hn.out];omega)]
   subst hzz;go_wp2;go_ret;exact⟨_,rfl,ik.out,fG.out⟩
theorem R7 (b base:Nat) (v iq:Value) (sd:Int) (l:List Cv.ag) (F:List (Int×Int)) (w:World) (hb:Hid (df w base b v l)) (hl:Hid (l.length<=60)) (hn:F.length<=400) (hF:Hid (Kf w iq F)) :
  Calls Tryz.prog 263 #[.pointer (some ⟨b,0,none⟩),.int .i64 sd,iq] w fun e w'=>∃ v',e=.returned v'∧w'.ownsRow w.heap.size 197 5 v' (Fs.filled l sd F).length (flat (Fs.filled l sd F))∧Below w.heap.size w w':=by
 rcases hF.out with ⟨rfl,a,cap,rfl⟩ | ⟨AJ,cap,rfl,hc⟩
 ·go_enter Tryz.func263,Tryz.ntmps263
  go_wp2;refine wp_loop_rounds 1 ?_;rw[rounds_succ];go_wp2;go_ret;exact⟨_,rfl,⟨rfl,.inl ⟨rfl,rfl⟩⟩,bRq _ _⟩
 ·exact ad5 b base AJ cap F.length v sd l F w hb hl rfl hn hc
def fu (w:World) (v:Value) (F:List (Int×Int)):Prop :=
 (F=[]∧∃ a cap,v=.slice a 0 cap)∨∃ g cap cur,v=.slice (some ⟨g,0,none⟩) F.length cap∧(∀ i,i<F.length->w.cell? ⟨g,i*2,none⟩=some (.int .i64 (eE F i).1)∧w.cell? ⟨g,i*2+1,none⟩=some (.int .i64 (eE F i).2))∧w.heap[g]?=some (.cells cur 300 (0,0))
section
variable {w w':World} {v:Value} {F:List (Int×Int)}
theorem fu.S7 (h:fu w v F):Kf w v F:=by
 rcases h with h | ⟨g,cap,cur,h1,h2,_⟩
 ·exact .inl h
 ·exact .inr ⟨g,cap,h1,h2⟩
theorem fu.keep (h:fu w v F) (hk:∀ (g:Nat) (cur:Array Value),w.heap[g]?=some (Obj.cells cur 300 (0,0))->w'.heap[g]?=w.heap[g]?):fu w' v F:=by
 rcases h with h | ⟨g,cap,cur,h1,h2,h3⟩
 ·exact .inl h
 ·refine .inr ⟨g,cap,cur,h1,fun i hi=>?_,by rw[hk g cur h3];exact h3⟩
  rw[World.cell?_of_block (a:=⟨g,i*2,none⟩) (hk g cur h3),World.cell?_of_block (a:=⟨g,i*2+1,none⟩) (hk g cur h3)];exact h2 i hi
theorem fu.later (h:fu w v F) (hb:Below w.heap.size w w'):fu w' v F:=h.keep fun g _ hg=>hb.block g (lBq hg)
theorem fu.save {q:Nat} (h:fu w v F) (hs:aM w w' q) {a:Array Value} {T:TypeId} (hq:w.heap[q]?=some (.cells a T (0,0))) (hT:T≠300):fu w' v F :=
 h.keep fun g _ hg=>hs.block g (lBq hg) (Ne.symm (aF hq hg hT))
theorem fu.book {base p:Nat} {u u':Value} {l:List Cv.ag} (h:fu w v F) (hb:df w base p u l) (hs:Step w w' p u u'):fu w' v F :=
 h.keep fun g _ hg=>hs.only.block g (lBq hg) (fun e=>by
  have:g=p:=by simpa using e
  exact aF hg hb.cell (by decide) this) (fun e=>iV hb.row hg (by decide) e.symm)
theorem fu.A9 {base:Nat} (h:w.ownsRow base 300 2 v F.length (eC F)):fu w v F:=by
 rcases aeG h with h1 | ⟨g,cap,h1,h2⟩
 ·exact .inl h1
 ·rcases h.2 with ⟨e,_⟩ | ⟨g',cap',cur,e,hg,dL,_⟩
  ·rw[e]at h1;cases h1
  ·rw[e]at h1
   simp only[Value.slice.injEq,Option.some.injEq,Addr.mk.injEq]at h1;obtain⟨⟨rfl,_,_⟩,_,rfl⟩:=h1;exact .inr ⟨g',cap',cur,e,h2,dL⟩
theorem fu.val (h:fu w v F):∃ a cap,v=.slice a F.length cap:=by
 rcases h with ⟨rfl,a,cap,rfl⟩ | ⟨g,cap,cur,rfl,_⟩
 ·exact⟨a,cap,rfl⟩
 ·exact⟨_,_,rfl⟩
end
theorem ek.nil {w:World} {g g':Nat} {v:Value} (h:ek w g v []):ek w g' v []:=by
 rcases h with h | ⟨o,cap,cur,h1,h2,h3,h4⟩
 ·exact .inl h
 ·exact .inl ⟨rfl,_,_,h1⟩
theorem aeH {w1 w2:World} {B S8 S9:Nat} {v1 v2:Value} {l1 l2:List Cv.ag} (h1:w1.ownsRow S8 197 5 v1 l1.length (flat l1)) (h12:Below w1.heap.size w1 w2) (h2:w2.ownsRow S9 197 5 v2 l2.length (flat l2)) (hb1:B<=S8) (hb2:w1.heap.size<=S9) (hB:B<=w1.heap.size) :
  ∃ g1 g2,ek w2 g1 v1 l1∧ek w2 g2 v2 l2∧g1≠g2∧B<=g1∧B<=g2:=by
 obtain⟨g1,a1,c1⟩:=ek.A9 (dy h1 h12);obtain⟨g2,a2,c2⟩:=ek.A9 h2;have FK:=h1.lt;rcases c1 with rfl | ⟨c1,e1⟩
 ·rcases c2 with rfl | ⟨c2,e2⟩
  ·exact⟨B,B+1,a1.nil,a2.nil,by omega,by omega,by omega⟩
  ·exact⟨g2+1,g2,a1.nil,a2,by omega,by omega,by omega⟩
 ·have:=FK g1 e1
  rcases c2 with rfl | ⟨c2,e2⟩
  ·exact⟨g1,g1+1,a1,a2.nil,by omega,by omega,by omega⟩
  ·exact⟨g1,g2,a1,a2,by omega,by omega,by omega⟩
theorem aeP {l:List Cv.ag} {price:Int} {bf:List (Int×Int)} (hok:Bk.Good l) (hF:Fs.vM l price bf) {k:Nat} (hk:k<bf.length) :
  Bk.lL (Fs.gZ (bf.take k) l) (eE bf k).1 (eE bf k).2=0∧Bk.mA (Fs.gZ (bf.take k) l) (eE bf k).1 (eE bf k).2=Fs.gZ (bf.take (k+1)) l∧Bk.Good (Fs.gZ (bf.take k) l):=by
 have he:eE bf k=bf[k]:=by unfold eE;rw[gE,List.getElem?_eq_getElem hk];rfl
 have hpos:∀ f∈bf,1<=f.2:=fun f hf=>(hF.pos f hf).1;obtain⟨hq,x,hx,hid⟩:=hF.pos _ (List.getElem_mem hk);have h1:=congrFun (Fs.Lx bf hk) (bf[k]).1;simp only[Fu.more,if_true]at h1;have h2:=Fs.Tc (bf[k]).1 bf hpos (k+1);have h3:=(hF.le x hx).2;rw[hid]at h3;have h4:Ra.got x.id (bf.take k)+(bf[k]).2<=x.q:=by rw[hid];omega
 have hc:Ra.got x.id (bf.take k)<x.q:=by omega
 have hg:Bk.Good (Fs.gZ (bf.take k) l):=Fs.Td hok fun y _=>Fs.FM _ _ fun f hf=>hpos f (List.mem_of_mem_take hf);rw[he,<- hid];refine⟨?_,?_,hg⟩
 ·have hh:Cv.has (Fs.gZ (bf.take k) l) x.id=true:=Fu.LA.2 ⟨x,hx,rfl,hc⟩
  have hn:Cv.nth (Fs.gZ (bf.take k) l) (Bk.pos (Fs.gZ (bf.take k) l) x.id)=Bk.less x (Ra.got x.id (bf.take k)):=Fu.Te (c:=fun id=>Ra.got id (bf.take k)) hok.once hx hc;unfold Bk.lL;rw[if_pos hh,if_pos];rw[hn];have e5:(bf[k]).2<=(Bk.less x (Ra.got x.id (bf.take k))).q:=by show (bf[k]).2<=x.q-Ra.got x.id (bf.take k);omega
  unfold ah.aB;rw[bEq];exact⟨decide_eq_true hq,decide_eq_true e5⟩
 ·have:=Fu.aeQ (c:=fun id=>Ra.got id (bf.take k)) hok.once hx hq h4
  unfold Fs.gZ;rw[Fs.Lx bf hk,this,hid]
section
variable {w W:World} {F P:Nat} {I b:Nat->Nat} {v:Nat->Value} {L:Nat->List Cv.ag} {pf n:Nat->Int} {wd h:Int} {ev:Nat->Value}
theorem aeR {wr:World} {B:Nat} {f:Nat->Int} {o:Oper} {a:Act} {K:Act->Prop} (hp:a_ wr 213 B f) (x:Operand) (ho:o.op=.load 213 x) (hx:a.eval x=.pointer (some ⟨B,0,none⟩)) (hk:K (a.put o.dst (.agg (cw f)))):o.quiet Tryz.prog a (fun w'=>∃ m,w'=wr.drewN m) K :=
 ⟨_,fun w ⟨m,hm⟩=>by
  subst hm;unfold Oper.quietAt execOp;simp only[ho,hx,Instr.loadAt,Instr.sureAddr,Sem.run_bind,Sem.run_pure,Result.andThen_ok,LB (hp.drew m)];exact⟨rfl,rfl⟩,hk⟩
theorem aeS (T:TypeId) (v1 v5 v6 v7:Value):s6 T v1 v5 v6 v7 0=.nilIface:=rfl
theorem aen (i:Nat) (hi:i<3) (price:Int) (iq:Value) (bf:List (Int×Int)) (hF:Hid (bk w W F P I b v L pf n wd h)) (he:Hid (ee w ev)) (hok:Hid (Fs.d7 L pf)) (LC:Hid (Fs.vM (L i) price bf)) (hp1:1<=price) (hp2:price<=1000) (hrow:Hid (fu W iq bf)) (hlen:bf.length<=200) (hnil:bf≠[]) :
  Calls Tryz.prog 223 #[.pointer (some ⟨F,0,none⟩),.int .i64 i,.int .i64 price,iq] W fun e W'=>e=.returned .nilIface∧∃ v',bk w W' F P I b v' (upd L i (Fs.gZ bf (L i))) (Fs.gW pf i price (L i) bf) n wd h∧bJ W W' P I b v v'∧fu W' iq bf∧Fs.d7 (upd L i (Fs.gZ bf (L i))) (Fs.gW pf i price (L i) bf):=by
 have ci:=hF.out.vR hi;have cb:=hF.out.vS hi;have tX:=hF.out.cellP;have h0:(0:Int)<=(i:Int):=by omega
 have h3:(i:Int)<3:=by omega
 have Tf:=hDq (aeT P pf W hF.out.cY);obtain⟨Bh,LD,mC⟩:∃ Bh LD,iq=.slice (some ⟨Bh,0,none⟩) bf.length LD:=by
  rcases hrow.out with ⟨h,_⟩ | ⟨g,cap,cur,h1,_⟩
  ·exact absurd h hnil
  ·exact⟨g,cap,h1⟩
 subst mC;obtain⟨m,hm⟩:∃ m,bf.length=m:=⟨_,rfl⟩;obtain⟨G,hG⟩:∃ G,Fs.gW pf i price (L i) bf=G:=⟨_,rfl⟩;rw[hG];have HM:=hDq hm;have HG:=hDq hG;rw[hm]at hlen hrow;rw[hm];clear hm hG;go_enter Tryz.func223,Tryz.ntmps223
 go_wp2_with fail
 refine Tf.out.mono ?_;rintro e w1 ⟨rfl,Tg,hb1⟩;have mU:=hDq Tg;have HB1:=hDq hb1;clear Tg hb1 Tf ci cb tX;obtain⟨NX,FN⟩:∃ NX,W.heap.size=NX:=⟨_,rfl⟩;rw[FN]at mU;rw[FN];have Bi:=hDq FN;clear FN;have HR1:=hDq (hrow.out.later HB1.out);have LF:=hDq ((hF.out.aG i hi).later HB1.out);have Ti:=hDq (R7 (b i) w.heap.size (v i) _ 0 (L i) bf w1 LF.out (hok.out.aG i hi).len (by rw[HM.out];omega) HR1.out.S7);simp only[]
 go_wp2_with fail
 refine Ti.out.mono ?_;rintro e w2 ⟨vb,rfl,tY,hb2⟩;have Tj:=hDq tY;have r7:=hDq hb2;clear tY hb2 Ti;have Tk:=hDq (R7 (b i) w.heap.size (v i) _ 1 (L i) bf w2 (LF.out.later r7.out) (hok.out.aG i hi).len (by rw[HM.out];omega) (HR1.out.later r7.out).S7);simp only[]
 go_wp2_with fail
 refine Tk.out.mono ?_;rintro e w3 ⟨vs,rfl,hos,hb3⟩;have Tn:=hDq hos;have LG:=hDq hb3;clear hos hb3 Tk;have LH:Below w1.heap.size w1 w3:=r7.out.trans (LG.out.mono r7.out.size);have FO:Below W.heap.size W w3:=HB1.out.trans (LH.mono HB1.out.size);obtain⟨fA,gs,tY,hos,hne,hgb,FP⟩:=aeH (B:=W.heap.size) Tj.out LG.out Tn.out HB1.out.size (lRq _) (lTq HB1.out.size r7.out.size);have j_:=hok.out.start hi LC.out;have hl1:=Ke (L i) 0 bf;have hl2:=Ke (L i) 1 bf;rw[HM.out]at hl1 hl2;have iK:=hDq (aeU NX i W.heap.size fA gs price vb vs _ _ pf _ ev w3 hi hp1 hp2 (fun W' hb=>(hF.out.bN he.out).below (FO.trans hb)) ⟨FO.size,by rw[Bi.out];exact lRq _,hgb,FP⟩ hne tY hos (mU.out.gy LH) j_ (by show _<=_;omega) (by show _<=_;omega));have Tp:=hDq FO;clear LH FO tY hos hne hgb FP j_ hl1 hl2 Tj Tn r7 LG HB1 mU HR1 LF;simp only[]
 go_wp2_with fail
 refine iK.out.mono ?_;rintro e w4 ⟨rfl,⟨Tq,hg4,Tt,bX⟩,hb4⟩;have Tv:Below W.heap.size W w4:=Tp.out.trans hb4;have hset:=hok.out.settled hi LC.out hg4 Tt bX;have qb:=hDq hset;have mK:=hDq Tq;have FQ:=hDq Tv;clear Tq hg4 Tt bX hb4 Tv hset iK Tp;rw[HG.out]at qb mK;have dh:=hDq (hF.out.later FQ.out);have cr:=hDq (bJ.of_below FQ.out P I b v);have bO:=hDq (hrow.out.later FQ.out);clear FQ HG;have Tw:=hDq (fun k (hk:k<bf.length)=>aeP (hok.out.aG i hi) LC.out hk);have HST:Hid (upd L i (Fs.gZ (bf.take 0) (L i))=L):=by
  show _=_;rw[List.take_zero,show Fs.gZ [] (L i)=L i from Fu.Tx (hok.out.aG i hi).oks,rJ]
 have aod:Hid (w.heap.size<=NX):=by show _<=_;rw[<- Bi.out];exact hF.out.cp.size
 simp only[]
 go_wp2_with fail
 go_loopw [44] (fun c wr=>∃ (k:Nat) (lj:Nat->Value),k<=m∧c=.int .i64 k∧bk w wr F P I b lj (upd L i (Fs.gZ (bf.take k) (L i))) pf n wd h∧bJ W wr P I b v lj∧fu wr (.slice (some ⟨Bh,0,none⟩) m LD) bf∧a_ wr 213 NX G) (fun c _=>m-(intOf c).toNat)
 case atStart=>exact⟨0,v,Nat.zero_le _,rfl,by rw[HST.out];exact dh.out,cr.out,bO.out,mK.out⟩
 case round =>
  obtain⟨k,lj,hk,rfl,hf,hs,hr,hp⟩:=hrel;have nR:=hDq hf;have tL:=hDq hs;have qi:=hDq hr;have Bj:=hDq hp;clear hf hs hr hp dh cr bO mK;by_cases hlt:k<m
  ·have aX:(k:Int)<m:=by omega
   have hcell:wr.cell? ⟨Bh,k*2,none⟩=some (.int .i64 (eE bf k).1)∧wr.cell? ⟨Bh,k*2+1,none⟩=some (.int .i64 (eE bf k).2):=by
    rcases qi.out with ⟨h,_⟩ | ⟨g,cap,cur,h1,h2,_⟩
    ·exact absurd h hnil
    ·simp only[Value.slice.injEq,Option.some.injEq,Addr.mk.injEq]at h1
     obtain⟨⟨rfl,_,_⟩,_,_⟩:=h1;exact h2 k (by rw[HM.out];exact hlt)
   obtain⟨c0,c1⟩:=hcell;obtain⟨hC,hL,hG⟩:=Tw.out k (by rw[HM.out];exact hlt);obtain⟨⟨id,q⟩,tM⟩:∃ f,eE bf k=f:=⟨_,rfl⟩;rw[tM]at c0 c1 hC hL;simp only[]at c0 c1 hC hL;have hb1:Below wr.heap.size wr (wr.alloc (.cells #[.int .i64 id,.int .i64 q] 300)):=(bRq _ _).alloc (lRq _) _;have jh:=hDq (nR.out.later hb1);have dR:=hDq (tL.out.below hb1);have bL:=hDq (qi.out.later hb1);have mL:=hDq (Bj.out.gy hb1);have FR:=jh.out.aG i hi;rw[upd_same]at FR;have FT:=hDq FR;have htk:=aa9 (b i) w.heap.size (lj i) id q (Fs.gZ (bf.take k) (L i)) 412 (ev 1) (ev 5) (ev 6) (ev 7) (wr.alloc (.cells #[.int .i64 id,.int .i64 q] 300)) (jh.out.bN he.out).Ef FR hG;rw[hC,hL,aeS]at htk;have lX:=hDq htk;clear hb1 FR htk hC hL hG tM nR tL qi Bj
   go_wp2_with fail
   refine lX.out.mono ?_;rintro e ai ⟨rfl,v6,hb6,gz⟩;have LI:=jh.out.book hi hb6 gz;rw[vK]at LI;have eM:=hDq LI;have dv:=hDq (dR.out.trans (bJ.Eg hi gz P I));have bA:=hDq (bL.out.book FT.out gz);have qx:Hid (a_ ai 213 NX G):=by
    have wb:=mL.out;show _=_;rw[gz.only.block NX (lBq wb) (fun e=>by
     have:NX=b i:=by simpa using e
     exact aF wb FT.out.cell (by decide) this) (fun e=>iV FT.out.row wb (by decide) e.symm)]
    exact wb
   clear hb6 gz LI lX jh dR bL mL FT;simp only[];go_wp2;refine⟨⟨k+1,_,by omega,by go_num,eM.out,dv.out,bA.out,qx.out⟩,by simp[intOf];omega⟩
  ·have aX:¬ (k:Int)<m:=by omega
   have dK:bf.take k=bf:=List.take_of_length_le (by rw[HM.out];omega);rw[dK]at nR;clear dK Tw HST;have tX:=nR.out.cellP;have aeV:∀ q,(loadVar 213 ⟨NX,0,none⟩).run Tryz.prog (wr.drewN q)=.ok (.agg (cw G)) (wr.drewN q):=fun q=>LB (Bj.out.drew q)
   go_wp2_with fail
   refine j5 8 (by kernel_rfl) (by kernel_rfl) ?_;simp only[List.take_succ_cons,List.take_zero,List.drop_succ_cons,List.drop_zero]
   iterate 6 (first | go_big_quiet_step (fail) | quiet_step (fail))
   refine BigFrame.wpQuiet_want rfl (fun K hK=>aeR Bj.out (.tmp 63) rfl rfl (hK _ ?_));simp only[Act.put]
   repeat (first | go_big_quiet_step (fail) | quiet_step (fail))
   refine wpQuiet_nil ?_;intro _ hw';obtain⟨nq,hw''⟩:=hw';subst hw'';have kg:=hDq (nR.out.later (dQ nq));have lh:=hDq (tL.out.below (dQ nq));have fO:=hDq (qi.out.later (dQ nq));clear nR tL qi Bj tX aeV hK;generalize wr.drewN nq=bq at *
   go_wp2_with (refine FU (B:=P) G (f:=pf) kg.out.cY rfl (.tmp 65) (.tmp 64) rfl rfl rfl ?_)
   go_ret;refine⟨rfl,lj,kg.out.purse (kg.out.cY.stored G) (aM.setRow _ _ _),lh.out.trans (bJ.Kh (aM.setRow _ _ _) I b lj),fO.out.save (aM.setRow _ _ _) kg.out.cY (by decide),qb.out⟩
end
theorem AP {l:List Cv.ag} (h:Bk.Good l):Cv.eV l:=by
 refine⟨by have:=h.len;omega,fun i hi=>?_⟩;unfold Cv.oP;rw[bEq];have wa:Cv.nth l i=l[i]:=by unfold Cv.nth;rw[gE,List.getElem?_eq_getElem hi];rfl
 refine⟨by rw[wa];exact h.oks _ (List.getElem_mem hi),?_⟩;rw[Bool.not_eq_true'];cases hh:Cv.has (l.take i) (Cv.nth l i).id with
 | false=>rfl
 | true =>
  exfalso;unfold Cv.has at hh;rw[List.any_eq_true]at hh;obtain⟨x,hx,he⟩:=hh;obtain⟨j,hj,rfl⟩:=List.mem_iff_getElem.1 hx;have bC:j<i:=by simp only[List.length_take]at hj;omega
  rw[List.getElem_take]at he;have e1:(l[j]'(by omega)).id=(l[i]).id:=by rw[<- wa];simpa using he
  have hn:(l.map (·.id)).Nodup:=h.once;have h3:=List.pairwise_iff_getElem.1 hn j i (by simp;omega) (by simpa using hi) bC;exact h3 (by simpa using e1)
theorem Ta {l:List Cv.ag} (hl:Cv.dY l) (ref:Int):∀ k:Nat,∃ p v,Cv.eW l ref k p v
 | 0=>⟨0,0,Cv.eW.start l ref⟩
 | k+1=>by
  obtain⟨p,v,hw⟩:=Ta hl ref k;have e:((k+1:Nat):Int)=(k:Int)+1:=by omega
  rw[e];cases hb:Cv.s9 (Cv.dZ l (k+1)) (Cv.left l (k+1)) (Cv.away ref (k+1)) v (Cv.wl l p) (Cv.gI ref p) with
  | true=>exact⟨_,_,hw.take hl (by omega) hb⟩
  | false=>exact⟨_,_,hw.keep hl hb⟩
def Lv (A D F:Nat) (ra rd kh:Obj) (W:World):Prop:=W.heap[A]?=some ra∧W.heap[D]?=some rd∧W.heap[F]?=some kh
theorem Au (A D F:Nat) (ra rd kh:Obj):∃ (X:Type) (val:X->World),(∀ x,Lv A D F ra rd kh (val x))∧∀ W,Lv A D F ra rd kh W->∃ x,val x=W :=
 ⟨{ W:World // Lv A D F ra rd kh W },fun x=>x.1,fun x=>x.2,fun W h=>⟨⟨W,h⟩,rfl⟩⟩
theorem J5 {w:World} {base:Nat} {v:Value} {l:List Cv.ag} (h:w.ownsRow base 197 5 v l.length (flat l)):gH w v l:=by
 obtain⟨g,h1,_⟩:=ek.A9 h;rcases h1 with h1 | ⟨o,cap,cur,e,h2,h3,_⟩
 ·exact .inl h1
 ·exact .inr ⟨g,o,cap,e,h2,h3⟩
namespace Fl
def oc (s:Int) (l:List Cv.ag) (o:Bool) (p vol:Int):List (Int×Int):=if o=true∧0<vol then Ra.fills s l p vol else []
end Fl
theorem ael (v:Value) (l:List Cv.ag) (price vol s:Int) (T:TypeId) (v1 v2 v6 v7:Value) (w:World) (hv:gH w v l) (he:gU w T v1 v6 v7) (c2:w.cell? ⟨3,0,none⟩=some (.iface T v2)) (hf:Ra.lW l price vol) (hs:Ra.IsU s) :
  Calls Tryz.prog 222 #[v,.int .i64 price,.int .i64 vol,.int .u32 s] w fun e w'=>∃ v',e=.returned (.tuple #[v',.nilIface])∧fu w' v' (Ra.fills s l price vol)∧Below w.heap.size w w':=by
 obtain⟨hw,⟨h1,h2⟩,h3,h4⟩:=hf;have hvl:=aeL hw price;obtain⟨a,n,cap,rfl⟩:=hv.form;have rE:=aeM a n cap price vol (Cv.dZ l price) T v2 w (I8 _ l T v1 v6 v7 w hv he hw) c2 (by show ah.aB price 1 1000=true;simp[ah.aB,h1,h2]) (by omega) (fun w1 hb=>acs _ l price T v1 v6 v7 w1 (hv.later hb) (he.later hb) hw);rw[if_neg (by omega)]at rE;have hl:=Ra.Tb s (l:=l) (price:=price) (vol:=vol) ⟨hw,⟨h1,h2⟩,h3,h4⟩;refine(aeN a n cap price vol s (Ra.rV s) l _ _ w rE hv hw h1 h2 h3 (by omega) hs (Ra.aeO hs) ?_ rfl rfl hl.1 hl.2).mono ?_
 ·unfold Ra.rV
  by_cases e:s=4294967295
  ·exact .inl ⟨e,by rw[if_pos e]⟩
  ·exact .inr ⟨hs.1,by have:=hs.2;omega,by rw[if_neg e]⟩
 ·rintro e w' ⟨v',rfl,hr,hb⟩
  exact⟨v',rfl,fu.A9 hr,hb⟩
def AO (p vol:Int) (o:Bool) (v:Value):Value:=.agg #[.int .i64 p,.int .i64 vol,.bool o,v]
theorem vX {W:World} {R:Nat} (hz:W.heap[R]?=some (.cells #[.int .i64 0,.int .i64 0,.bool false,.slice none 0 0] 296 (0,0))) (p vol:Int) (o:Bool) (u:Value) :
  ((((W.setCell ⟨R,0,none⟩ (.int .i64 p)).setCell ⟨R,1,none⟩ (.int .i64 vol)).setCell ⟨R,2,none⟩ (.bool o)).setCell ⟨R,3,none⟩ u).heap[R]?=some (.cells #[.int .i64 p,.int .i64 vol,.bool o,u] 296 (0,0)):=by
 have h0:(W.setCell ⟨R,0,none⟩ (.int .i64 p)).heap[R]?=some (.cells #[.int .i64 p,.int .i64 0,.bool false,.slice none 0 0] 296 (0,0)):=by
  rw[setCell_eq_setRow _ R 0 _ _ _ _ hz];exact setRow_heap _ R _ _ _ _ hz
 have h1:((W.setCell ⟨R,0,none⟩ (.int .i64 p)).setCell ⟨R,1,none⟩ (.int .i64 vol)).heap[R]?=some (.cells #[.int .i64 p,.int .i64 vol,.bool false,.slice none 0 0] 296 (0,0)):=by
  rw[setCell_eq_setRow _ R 1 _ _ _ _ h0];exact setRow_heap _ R _ _ _ _ h0
 have h2:(((W.setCell ⟨R,0,none⟩ (.int .i64 p)).setCell ⟨R,1,none⟩ (.int .i64 vol)).setCell ⟨R,2,none⟩ (.bool o)).heap[R]?=some (.cells #[.int .i64 p,.int .i64 vol,.bool o,.slice none 0 0] 296 (0,0)):=by
  rw[setCell_eq_setRow _ R 2 _ _ _ _ h1];exact setRow_heap _ R _ _ _ _ h1
 rw[setCell_eq_setRow _ R 3 _ _ _ _ h2];exact setRow_heap _ R _ _ _ _ h2
theorem aM.put {W W1:World} {q:Nat} (h:aM W W1 q) (o:Nat) (x:Value):aM W (W1.setCell ⟨q,o,none⟩ x) q:=h.trans (aM.setCell _ _ _ _)
theorem bJ.newer {W W1 W2:World} {P:Nat} {I b:Nat->Nat} {v v1:Nat->Value} (h:bJ W W1 P I b v v1) {q:Nat} (hs:aM W1 W2 q) (hq:W.heap.size<=q):bJ W W2 P I b v v1 :=
 ⟨hs.os.trans h.os,hs.tape.trans h.tape,hs.output.trans h.output,lTq h.size hs.size,fun k hk h1 h2=>by rw[hs.block k (Nat.lt_of_lt_of_le hk h.size) (by omega)];exact h.keep k hk h1 h2,h.new⟩
section
variable {w W:World} {F P:Nat} {I b:Nat->Nat} {v:Nat->Value} {L:Nat->List Cv.ag} {pf n:Nat->Int} {wd h:Int} {ev:Nat->Value}
theorem aeK (i:Nat) (hi:i<3) (s p vol:Int) (hF:Hid (bk w W F P I b v L pf n wd h)) (he:Hid (ee w ev)) (hok:Hid (Fs.d7 L pf)) (AL:Hid (aY.kA (n (i*2)) (n (i*2+1))=true)) (K8:Hid (aY.gh wd h=true)) (jA:Hid (Cv.eW (L i) (n (i*2)) 1000 p vol)) (hst:aY.nE (n (i*2)) (n (i*2+1)) wd p vol=false∨vol=0) :
  Calls Tryz.prog 191 #[.pointer (some ⟨F,0,none⟩),.int .i64 i,.int .u32 s] W fun e W'=>e=.returned (.tuple #[AO p vol (aY.nE (n (i*2)) (n (i*2+1)) wd p vol) (.slice none 0 0),.nilIface])∧bk w W' F P I b v L pf (upd (upd n (i*2) (aY.nC (n (i*2)) (n (i*2+1)) wd p vol)) (i*2+1) (aY.nD (n (i*2)) (n (i*2+1)) wd h p vol)) wd h∧bJ W W' P I b v v:=by
 have hgw:=AP (hok.out.aG i hi);have hr:ah.aB (n (i*2)) 1 1000=true:=by
  have:=AL.out
  simp only[aY.kA,Bool.and_eq_true]at this;exact this.1
 have AV:aY.mr p vol=true:=by
  rcases jA.out with ⟨e1,e2,_⟩ | ⟨e1,e2,e3,_⟩
  ·rw[e2];simp[aY.mr]
  ·simp[aY.mr,ah.aB,e2,e3];omega
 have AX:Hid (∀ W' u,gH W' u (L i)->gU W' 412 (ev 1) (ev 6) (ev 7)->Calls Tryz.prog 220 #[u,.int .i64 (n (i*2))] W' fun e w'=>e=.returned (.tuple #[.int .i64 p,.int .i64 vol,.nilIface])∧Below W'.heap.size W' w'):=fun W' u hu mQ=>by
  refine(Qr u (L i) (n (i*2)) 412 (ev 1) (ev 6) (ev 7) W' hu mQ hgw hr).mono ?_;rintro e w' ⟨⟨p',aek,rfl,hw'⟩,hbl⟩;obtain⟨e1,e2⟩:=hw'.unique jA.out;rw[e1,e2];exact⟨rfl,hbl⟩
 have qp:=hDq (fun W' (mQ:my W' 412 (ev 1))=>P6 (n (i*2)) (n (i*2+1)) wd h p vol 412 (ev 1) W' mQ (by rw[AL.out,K8.out,AV];rfl));unfold oK dJ at qp;clear hgw hr AV;generalize Lb:aY.nC (n (i*2)) (n (i*2+1)) wd p vol=nr at *;generalize hnl:aY.nD (n (i*2)) (n (i*2+1)) wd h p vol=nl at *;generalize hno:aY.nE (n (i*2)) (n (i*2+1)) wd p vol=no at *;clear Lb hnl hno;obtain⟨R,hR⟩:∃ R,W.heap.size=R:=⟨_,rfl⟩;obtain⟨w1,dM⟩:∃ w1,W.alloc (.cells #[.int .i64 0,.int .i64 0,.bool false,.slice none 0 0] 296)=w1:=⟨_,rfl⟩;have hb1:Below W.heap.size W w1:=by rw[<- dM];exact(bRq _ _).alloc (lRq _) _
 have HR1:Hid (w1.heap[R]?=some (.cells #[.int .i64 0,.int .i64 0,.bool false,.slice none 0 0] 296 (0,0))):=by show _=_;rw[<- dM,<- hR];exact hNq _ _
 have fy:=hDq (hF.out.later hb1);have eZ:=hDq (bJ.of_below hb1 P I b v);have AY:=hDq (Fz i hi fy.out);have nI:=hDq (xG (b i) w.heap.size (v i) (L i) w1 (fy.out.aG i hi) (hok.out.aG i hi).len);have cb:=fy.out.vS hi;have HW1:=hDq dM;have iU:=hDq hR;clear hb1 dM hR;go_enter Tryz.func191,Tryz.ntmps191
 go_wp2_with fail
 rw[HW1.out,iU.out];refine AY.out.mono ?_;rintro e w1 ⟨rfl,rfl⟩;simp only[]
 go_wp2_with fail
 refine nI.out.mono ?_;rintro e w2 ⟨v2,rfl,hrow2,hb2⟩;have rW:Hid (gH w2 v2 (L i)):=J5 hrow2;have cn:=hDq (fy.out.later hb2);have HS2:=hDq (eZ.out.below hb2);have bg:Hid (w2.heap[R]?=some (.cells #[.int .i64 0,.int .i64 0,.bool false,.slice none 0 0] 296 (0,0))):=by show _=_;rw[hb2.block _ (lBq HR1.out)];exact HR1.out
 clear hrow2 hb2 AY nI cb fy eZ HR1 HW1;have Lc:=cn.out.Kj hi;have fY:=hDq (AX.out w2 v2 rW.out (cn.out.bN he.out).bN);obtain⟨sa,sm,sc,hv2⟩:=rW.out.form;subst hv2;simp only[]
 go_wp2_with fail
 refine fY.out.mono ?_;rintro e w3 ⟨rfl,hb3⟩;have fW:=hDq (cn.out.later hb3);have cQ:=hDq (HS2.out.below hb3);have AZ:=hDq (rW.out.later hb3);have HR3:Hid (w3.heap[R]?=some (.cells #[.int .i64 0,.int .i64 0,.bool false,.slice none 0 0] 296 (0,0))):=by show _=_;rw[hb3.block _ (lBq bg.out)];exact bg.out
 clear hb3 cn HS2 rW bg Lc AX fY;simp only[]
 go_wp2_with fail
 obtain⟨bG,val,hcl,aP⟩:=Au F (I i) F (.cells (tG I P wd h) 210 (0,0)) (.cells (tH (b i) (n (i*2)) (n (i*2+1))) 267 (0,0)) (.cells (tG I P wd h) 210 (0,0));obtain⟨x0,hx0⟩:=aP w3.drew ⟨fW.out.blk,fW.out.it i hi,fW.out.blk⟩;have hnx:Nonempty bG:=⟨x0⟩;have en:∀ x,(val x).cell? ⟨I i,1,none⟩=some (.int .i64 (n (i*2))):=fun x=>by rw[cR _ _ _ _ _ _ (hcl x).2.1];rfl
 have em:∀ x,(val x).cell? ⟨I i,2,none⟩=some (.int .i64 (n (i*2+1))):=fun x=>by rw[cR _ _ _ _ _ _ (hcl x).2.1];rfl
 have Ld:∀ x,(val x).cell? ⟨F,0,none⟩=some (.int .i64 wd):=fun x=>by rw[cR _ _ _ _ _ _ (hcl x).1];rfl
 have eh:∀ x,(val x).cell? ⟨F,1,none⟩=some (.int .i64 h):=fun x=>by rw[cR _ _ _ _ _ _ (hcl x).1];rfl
 have hbd:Below w3.heap.size w3 w3.drew:=⟨rfl,rfl,rfl,lRq _,fun _ _=>rfl⟩;have dh:=hDq (fW.out.later hbd);have cr:=hDq (cQ.out.below hbd);have vU:=hDq (AZ.out.later hbd);have bO:Hid (w3.drew.heap[R]?=some (.cells #[.int .i64 0,.int .i64 0,.bool false,.slice none 0 0] 296 (0,0))):=HR3.out;obtain⟨w4,hw4⟩:∃ w4,w3.drew=w4:=⟨_,rfl⟩;rw[hw4]at dh cr vU bO;have aN:Hid (∀ W',Below w4.heap.size w4 W'->∃ x,val x=W'):=fun W' hb=>aP W' ⟨(dh.out.later hb).blk,(dh.out.later hb).it i hi,(dh.out.later hb).blk⟩;have vV:Hid (∀ W',Below w4.heap.size w4 W'->my W' 412 (ev 1)):=fun W' hb=>((dh.out.later hb).bN he.out).Kg;clear aP hcl fW cQ AZ HR3 hbd;refine tJ (val:=val) (fun D ai=>ai.heap[D]?=some (.cells #[.int .i64 nr,.int .i64 nl] 192 (0,0))∧w4.heap.size<=D∧Below w4.heap.size w4 ai) (.read 0 (.read 1 (.read 2 (.read 3 (.read 4 (.read 5 (.read 6 (.read 7 (.read 8 (.read 9 (.two 10 (.read 11 (.read 12 (.read 13 (.read 14 (.one 15 (.one 16 (.read 17 (.read 18 .done)))))))) 15 (.one 10 (.read 11 (.read 12 (.read 13 (.read 14 (.one 16 (.read 17 (.read 18 .done))))))))))))))))))) (by kernel_rfl) (by kernel_rfl) x0 hx0 ?_;apply Exists.intro;refine⟨?_,?_⟩
 case' refine_1 =>
  rw[hx0,hw4]
  iterate 10 (refine cu rfl (fun K hK=>?_);refine⟨by rfl,?_⟩;unfold aA;go_simp;refine hK _ ?_;clear hK K)
  have fQ:Hid (Below w4.heap.size w4 w4):=bRq _ _;refine⟨?_,?_⟩
  case refine_1 =>
   refine bW rfl (fun K hK=>?_);refine⟨by rfl,?_⟩;unfold aQ;go_simp;refine(qp.out _ (vV.out _ fQ.out)).mono ?_;rintro e wc ⟨rfl,hbc⟩;have ej:=hDq (fQ.out.trans (hbc.mono fQ.out.size));refine⟨_,rfl,aN.out _ ej.out,hK _ _ ?_⟩;clear hK K hbc
   iterate 4 (refine cu rfl (fun K hK=>?_);refine⟨by rfl,?_⟩;unfold aA;go_simp;refine hK _ ?_;clear hK K)
   refine bW rfl (fun K hK=>?_);refine⟨by rfl,?_⟩;unfold aQ;go_simp;obtain⟨D,hD⟩:∃ D,wc.heap.size=D:=⟨_,rfl⟩;obtain⟨aj,hwz⟩:∃ aj,wc.alloc (.cells #[.int .i64 0,.int .i64 0] 192)=aj:=⟨_,rfl⟩;rw[hD,hwz];have cg:Hid (Below w4.heap.size w4 aj):=by show Below _ _ _;rw[<- hwz];exact ej.out.alloc ej.out.size _
   have au:Hid (aj.heap[D]?=some (.cells #[.int .i64 0,.int .i64 0] 192 (0,0))):=by show _=_;rw[<- hwz,<- hD];exact hNq _ _
   have fq:Hid (w4.heap.size<=D):=by have:=ej.out.size;show _<=_;omega
   refine⟨aN.out _ cg.out,hK _ _ ?_⟩;clear hK K hwz hD;have c0:aj.cell? ⟨D,0,none⟩=some (.int .i64 0):=by rw[cR aj _ 0 _ _ _ au.out];rfl
   have c1:aj.cell? ⟨D,1,none⟩=some (.int .i64 0):=by rw[cR aj _ 1 _ _ _ au.out];rfl
   have f0:aj.frozen? ⟨D,0,none⟩=false:=by simp[World.frozen?,au.out]
   have f1:aj.frozen? ⟨D,1,none⟩=false:=by simp[World.frozen?,au.out]
   have HX:Hid (((aj.setCell ⟨D,0,none⟩ (.int .i64 nr)).setCell ⟨D,1,none⟩ (.int .i64 nl)).heap[D]?=some (.cells #[.int .i64 nr,.int .i64 nl] 192 (0,0))):=by
    have h0:(aj.setCell ⟨D,0,none⟩ (.int .i64 nr)).heap[D]?=some (.cells #[.int .i64 nr,.int .i64 0] 192 (0,0)):=by
     rw[setCell_eq_setRow aj D 0 _ _ _ _ au.out];exact setRow_heap aj D _ _ _ _ au.out
    show _=_;rw[setCell_eq_setRow _ D 1 _ _ _ _ h0];exact setRow_heap _ D _ _ _ _ h0
   have aS:Hid (Below w4.heap.size w4 ((aj.setCell ⟨D,0,none⟩ (.int .i64 nr)).setCell ⟨D,1,none⟩ (.int .i64 nl))):=(cg.out.setCell (p:=⟨D,0,none⟩) fq.out _).setCell (p:=⟨D,1,none⟩) fq.out _;refine bW rfl (fun K hK=>?_);refine⟨by rfl,?_⟩;unfold aQ;go_simp;refine⟨aN.out _ aS.out,hK _ _ ?_⟩;clear hK K au c0 c1 f0 f1;generalize (aj.setCell ⟨D,0,none⟩ (.int .i64 nr)).setCell ⟨D,1,none⟩ (.int .i64 nl)=ai at *
   iterate 2 (refine cu rfl (fun K hK=>?_);refine⟨by rfl,?_⟩;unfold aA;go_simp;refine hK _ ?_;clear hK K)
   refine iT ?_;exact⟨D,rfl,HX.out,fq.out,aS.out⟩
  case refine_2 =>
   refine bW rfl (fun K hK=>?_);refine⟨by rfl,?_⟩;unfold aQ;go_simp;obtain⟨D,hD⟩:∃ D,w4.heap.size=D:=⟨_,rfl⟩;obtain⟨ij,hwz⟩:∃ aj,w4.alloc (.cells #[.int .i64 0,.int .i64 0] 192)=aj:=⟨_,rfl⟩;rw[hD,hwz];have cO:Hid (Below w4.heap.size w4 ij):=by show Below _ _ _;rw[<- hwz];exact fQ.out.alloc fQ.out.size _
   have o6:Hid (ij.heap[D]?=some (.cells #[.int .i64 0,.int .i64 0] 192 (0,0))):=by show _=_;rw[<- hwz,<- hD];exact hNq _ _
   have fq:Hid (w4.heap.size<=D):=by have:=fQ.out.size;show _<=_;omega
   refine⟨aN.out _ cO.out,hK _ _ ?_⟩;clear hK K hwz hD;refine bW rfl (fun K hK=>?_);refine⟨by rfl,?_⟩;unfold aQ;go_simp;refine(qp.out _ (vV.out _ cO.out)).mono ?_;rintro e aj ⟨rfl,hbc⟩;have cg:=hDq (cO.out.trans (hbc.mono cO.out.size));have au:Hid (aj.heap[D]?=some (.cells #[.int .i64 0,.int .i64 0] 192 (0,0))):=by show _=_;rw[hbc.block _ (lBq o6.out)];exact o6.out
   refine⟨_,rfl,aN.out _ cg.out,hK _ _ ?_⟩;clear hK K hbc
   iterate 4 (refine cu rfl (fun K hK=>?_);refine⟨by rfl,?_⟩;unfold aA;go_simp;refine hK _ ?_;clear hK K)
   have c0:aj.cell? ⟨D,0,none⟩=some (.int .i64 0):=by rw[cR aj _ 0 _ _ _ au.out];rfl
   have c1:aj.cell? ⟨D,1,none⟩=some (.int .i64 0):=by rw[cR aj _ 1 _ _ _ au.out];rfl
   have f0:aj.frozen? ⟨D,0,none⟩=false:=by simp[World.frozen?,au.out]
   have f1:aj.frozen? ⟨D,1,none⟩=false:=by simp[World.frozen?,au.out]
   have HX:Hid (((aj.setCell ⟨D,0,none⟩ (.int .i64 nr)).setCell ⟨D,1,none⟩ (.int .i64 nl)).heap[D]?=some (.cells #[.int .i64 nr,.int .i64 nl] 192 (0,0))):=by
    have h0:(aj.setCell ⟨D,0,none⟩ (.int .i64 nr)).heap[D]?=some (.cells #[.int .i64 nr,.int .i64 0] 192 (0,0)):=by
     rw[setCell_eq_setRow aj D 0 _ _ _ _ au.out];exact setRow_heap aj D _ _ _ _ au.out
    show _=_;rw[setCell_eq_setRow _ D 1 _ _ _ _ h0];exact setRow_heap _ D _ _ _ _ h0
   have aS:Hid (Below w4.heap.size w4 ((aj.setCell ⟨D,0,none⟩ (.int .i64 nr)).setCell ⟨D,1,none⟩ (.int .i64 nl))):=(cg.out.setCell (p:=⟨D,0,none⟩) fq.out _).setCell (p:=⟨D,1,none⟩) fq.out _;refine bW rfl (fun K hK=>?_);refine⟨by rfl,?_⟩;unfold aQ;go_simp;refine⟨aN.out _ aS.out,hK _ _ ?_⟩;clear hK K au c0 c1 f0 f1;generalize (aj.setCell ⟨D,0,none⟩ (.int .i64 nr)).setCell ⟨D,1,none⟩ (.int .i64 nl)=ai at *
   iterate 2 (refine cu rfl (fun K hK=>?_);refine⟨by rfl,?_⟩;unfold aA;go_simp;refine hK _ ?_;clear hK K)
   refine iT ?_;exact⟨D,rfl,HX.out,fq.out,aS.out⟩
 intro D ai ⟨o7,o8,hb6⟩;have HX:=hDq o7;have HDn:=hDq o8;have eM:=hDq (dh.out.later hb6);have dv:=hDq (cr.out.below hb6);have Le:=hDq (vU.out.later hb6);have bA:Hid (ai.heap[R]?=some (.cells #[.int .i64 0,.int .i64 0,.bool false,.slice none 0 0] 296 (0,0))):=by show _=_;rw[hb6.block _ (lBq bO.out)];exact bO.out
 clear o7 o8 hb6 dh cr vU bO qp hw4;clear hx0 en em Ld eh aN vV;clear x0 hnx;clear val;clear bG;have fF:=hDq (eM.out.it i hi);have d0:ai.cell? ⟨D,0,none⟩=some (.int .i64 nr):=by rw[cR ai _ 0 _ _ _ HX.out];rfl
 have d1:ai.cell? ⟨D,1,none⟩=some (.int .i64 nl):=by rw[cR ai _ 1 _ _ _ HX.out];rfl
 have i1:ai.cell? ⟨I i,1,none⟩=some (.int .i64 (n (i*2))):=by rw[cR ai _ 1 _ _ _ fF.out];rfl
 have i2:ai.cell? ⟨I i,2,none⟩=some (.int .i64 (n (i*2+1))):=by rw[cR ai _ 2 _ _ _ fF.out];rfl
 have j1:ai.frozen? ⟨I i,1,none⟩=false:=by simp[World.frozen?,fF.out]
 have j2:ai.frozen? ⟨I i,2,none⟩=false:=by simp[World.frozen?,fF.out]
 have r0:ai.cell? ⟨R,0,none⟩=some (.int .i64 0):=by rw[cR ai _ 0 _ _ _ bA.out];rfl
 have r1:ai.cell? ⟨R,1,none⟩=some (.int .i64 0):=by rw[cR ai _ 1 _ _ _ bA.out];rfl
 have r2:ai.cell? ⟨R,2,none⟩=some (.bool false):=by rw[cR ai _ 2 _ _ _ bA.out];rfl
 have r3:ai.cell? ⟨R,3,none⟩=some (.slice none 0 0):=by rw[cR ai _ 3 _ _ _ bA.out];rfl
 have q0:ai.frozen? ⟨R,0,none⟩=false:=by simp[World.frozen?,bA.out]
 have q1:ai.frozen? ⟨R,1,none⟩=false:=by simp[World.frozen?,bA.out]
 have q2:ai.frozen? ⟨R,2,none⟩=false:=by simp[World.frozen?,bA.out]
 have q3:ai.frozen? ⟨R,3,none⟩=false:=by simp[World.frozen?,bA.out]
 have vW:R<ai.heap.size:=lBq bA.out;have aep:I i<ai.heap.size:=lBq fF.out;have hDl:D<ai.heap.size:=lBq HX.out;have aeq:¬ R=ai.heap.size:=by omega
 have aer:¬ I i=ai.heap.size:=by omega
 have hDn:¬ D=ai.heap.size:=by omega
 have A6:R≠I i:=aF bA.out fF.out (by decide);have aes:I i≠R:=Ne.symm A6;have aet:D≠I i:=aF HX.out fF.out (by decide);have aeu:D≠R:=aF HX.out bA.out (by decide);have ym:Hid (((ai.setCell ⟨I i,1,none⟩ (.int .i64 nr)).setCell ⟨I i,2,none⟩ (.int .i64 nl)).heap[I i]?=some (.cells (tH (b i) nr nl) 267 (0,0))):=by
  have h0:(ai.setCell ⟨I i,1,none⟩ (.int .i64 nr)).heap[I i]?=some (.cells #[.pointer (some ⟨b i,0,none⟩),.int .i64 nr,.int .i64 (n (i*2+1))] 267 (0,0)):=by
   rw[setCell_eq_setRow ai (I i) 1 _ _ _ _ fF.out];exact setRow_heap ai (I i) _ _ _ _ fF.out
  show _=_;rw[setCell_eq_setRow _ (I i) 2 _ _ _ _ h0];exact setRow_heap _ (I i) _ _ _ _ h0
 have ft:=hDq (eM.out.ql hi ym.out ((aM.setCell _ _ _ _).put _ _));have rM:=hDq (dv.out.trans (bJ.R9 hi ((aM.setCell ai (I i) 1 (.int .i64 nr)).put 2 (.int .i64 nl)) P b v));have eN:Hid (((ai.setCell ⟨I i,1,none⟩ (.int .i64 nr)).setCell ⟨I i,2,none⟩ (.int .i64 nl)).heap[R]?=some (.cells #[.int .i64 0,.int .i64 0,.bool false,.slice none 0 0] 296 (0,0))):=by
  show _=_;rw[((aM.setCell ai (I i) 1 (.int .i64 nr)).put 2 (.int .i64 nl)).block R vW A6];exact bA.out
 have A7:Hid (w.heap.size<=R):=by have:=hF.out.cp.size;have:=iU.out;show _<=_;omega
 rcases hst with e | e
 ·subst e
  generalize pB:(ai.setCell ⟨I i,1,none⟩ (.int .i64 nr)).setCell ⟨I i,2,none⟩ (.int .i64 nl)=bU at *;have iJ:Hid (aM bU ((((bU.setCell ⟨R,0,none⟩ (.int .i64 p)).setCell ⟨R,1,none⟩ (.int .i64 vol)).setCell ⟨R,2,none⟩ (.bool false)).setCell ⟨R,3,none⟩ (.slice none 0 0)) R):=(((aM.setCell _ R 0 (.int .i64 p)).put 1 (.int .i64 vol)).put 2 (.bool false)).put 3 (.slice none 0 0);have lp:=hDq ((ft.out.aside (aF eN.out ft.out.blk (by decide)) (aF eN.out ft.out.cY (by decide)) (fun j hj=>⟨aF eN.out (ft.out.it j hj) (by decide),aF eN.out (ft.out.aG j hj).cell (by decide),iV (ft.out.aG j hj).row eN.out (by decide)⟩) A7.out iJ.out).later ((bRq _ _).alloc (lRq _) (.cells #[.int .i64 p,.int .i64 vol,.bool false,.slice none 0 0] 296)));have lq:Hid (bJ W (((((bU.setCell ⟨R,0,none⟩ (.int .i64 p)).setCell ⟨R,1,none⟩ (.int .i64 vol)).setCell ⟨R,2,none⟩ (.bool false)).setCell ⟨R,3,none⟩ (.slice none 0 0)).alloc (.cells #[.int .i64 p,.int .i64 vol,.bool false,.slice none 0 0] 296)) P I b v v):=(rM.out.newer iJ.out (by rw[iU.out];exact lRq _)).below ((bRq _ _).alloc (lRq _) _);have eG:Hid ((((((bU.setCell ⟨R,0,none⟩ (.int .i64 p)).setCell ⟨R,1,none⟩ (.int .i64 vol)).setCell ⟨R,2,none⟩ (.bool false)).setCell ⟨R,3,none⟩ (.slice none 0 0)).alloc (.cells #[.int .i64 p,.int .i64 vol,.bool false,.slice none 0 0] 296)).heap[R]?=some (.cells #[.int .i64 p,.int .i64 vol,.bool false,.slice none 0 0] 296 (0,0))):=(Below.heap_alloc _ _ _ (lBq (vX eN.out p vol false _))).trans (vX eN.out p vol false _);have mR:=hDq pB;clear pB;go_wp2;rw[mR.out];generalize (((((bU.setCell ⟨R,0,none⟩ (.int .i64 p)).setCell ⟨R,1,none⟩ (.int .i64 vol)).setCell ⟨R,2,none⟩ (.bool false)).setCell ⟨R,3,none⟩ (.slice none 0 0)).alloc (.cells #[.int .i64 p,.int .i64 vol,.bool false,.slice none 0 0] 296))=Wf at *;have z0:Wf.cell? ⟨R,0,none⟩=some (.int .i64 p):=by rw[cR Wf _ 0 _ _ _ eG.out];rfl
  have dn:Wf.cell? ⟨R,1,none⟩=some (.int .i64 vol):=by rw[cR Wf _ 1 _ _ _ eG.out];rfl
  have z2:Wf.cell? ⟨R,2,none⟩=some (.bool false):=by rw[cR Wf _ 2 _ _ _ eG.out];rfl
  have z3:Wf.cell? ⟨R,3,none⟩=some (.slice none 0 0):=by rw[cR Wf _ 3 _ _ _ eG.out];rfl
  exact bodyPost_ret (v:=.tuple #[.agg #[.int .i64 p,.int .i64 vol,.bool false,.slice none 0 0],.nilIface]) (by simp[results,Tryz.results191,go_sem,z0,dn,z2,z3]) rfl ⟨rfl,lp.out,lq.out⟩
 ·subst e
  cases no
  ·skip
   generalize pB:(ai.setCell ⟨I i,1,none⟩ (.int .i64 nr)).setCell ⟨I i,2,none⟩ (.int .i64 nl)=bU at *;have iJ:Hid (aM bU ((((bU.setCell ⟨R,0,none⟩ (.int .i64 p)).setCell ⟨R,1,none⟩ (.int .i64 0)).setCell ⟨R,2,none⟩ (.bool false)).setCell ⟨R,3,none⟩ (.slice none 0 0)) R):=(((aM.setCell _ R 0 (.int .i64 p)).put 1 (.int .i64 0)).put 2 (.bool false)).put 3 (.slice none 0 0);have lp:=hDq ((ft.out.aside (aF eN.out ft.out.blk (by decide)) (aF eN.out ft.out.cY (by decide)) (fun j hj=>⟨aF eN.out (ft.out.it j hj) (by decide),aF eN.out (ft.out.aG j hj).cell (by decide),iV (ft.out.aG j hj).row eN.out (by decide)⟩) A7.out iJ.out).later ((bRq _ _).alloc (lRq _) (.cells #[.int .i64 p,.int .i64 0,.bool false,.slice none 0 0] 296)));have lq:Hid (bJ W (((((bU.setCell ⟨R,0,none⟩ (.int .i64 p)).setCell ⟨R,1,none⟩ (.int .i64 0)).setCell ⟨R,2,none⟩ (.bool false)).setCell ⟨R,3,none⟩ (.slice none 0 0)).alloc (.cells #[.int .i64 p,.int .i64 0,.bool false,.slice none 0 0] 296)) P I b v v):=(rM.out.newer iJ.out (by rw[iU.out];exact lRq _)).below ((bRq _ _).alloc (lRq _) _);have eG:Hid ((((((bU.setCell ⟨R,0,none⟩ (.int .i64 p)).setCell ⟨R,1,none⟩ (.int .i64 0)).setCell ⟨R,2,none⟩ (.bool false)).setCell ⟨R,3,none⟩ (.slice none 0 0)).alloc (.cells #[.int .i64 p,.int .i64 0,.bool false,.slice none 0 0] 296)).heap[R]?=some (.cells #[.int .i64 p,.int .i64 0,.bool false,.slice none 0 0] 296 (0,0))):=(Below.heap_alloc _ _ _ (lBq (vX eN.out p 0 false _))).trans (vX eN.out p 0 false _);have mR:=hDq pB;clear pB;go_wp2;rw[mR.out];generalize (((((bU.setCell ⟨R,0,none⟩ (.int .i64 p)).setCell ⟨R,1,none⟩ (.int .i64 0)).setCell ⟨R,2,none⟩ (.bool false)).setCell ⟨R,3,none⟩ (.slice none 0 0)).alloc (.cells #[.int .i64 p,.int .i64 0,.bool false,.slice none 0 0] 296))=Wf at *;have z0:Wf.cell? ⟨R,0,none⟩=some (.int .i64 p):=by rw[cR Wf _ 0 _ _ _ eG.out];rfl
   have dn:Wf.cell? ⟨R,1,none⟩=some (.int .i64 0):=by rw[cR Wf _ 1 _ _ _ eG.out];rfl
   have z2:Wf.cell? ⟨R,2,none⟩=some (.bool false):=by rw[cR Wf _ 2 _ _ _ eG.out];rfl
   have z3:Wf.cell? ⟨R,3,none⟩=some (.slice none 0 0):=by rw[cR Wf _ 3 _ _ _ eG.out];rfl
   exact bodyPost_ret (v:=.tuple #[.agg #[.int .i64 p,.int .i64 0,.bool false,.slice none 0 0],.nilIface]) (by simp[results,Tryz.results191,go_sem,z0,dn,z2,z3]) rfl ⟨rfl,lp.out,lq.out⟩
  ·skip
   generalize pB:(ai.setCell ⟨I i,1,none⟩ (.int .i64 nr)).setCell ⟨I i,2,none⟩ (.int .i64 nl)=bU at *;have iJ:Hid (aM bU ((((bU.setCell ⟨R,0,none⟩ (.int .i64 p)).setCell ⟨R,1,none⟩ (.int .i64 0)).setCell ⟨R,2,none⟩ (.bool true)).setCell ⟨R,3,none⟩ (.slice none 0 0)) R):=(((aM.setCell _ R 0 (.int .i64 p)).put 1 (.int .i64 0)).put 2 (.bool true)).put 3 (.slice none 0 0);have lp:=hDq ((ft.out.aside (aF eN.out ft.out.blk (by decide)) (aF eN.out ft.out.cY (by decide)) (fun j hj=>⟨aF eN.out (ft.out.it j hj) (by decide),aF eN.out (ft.out.aG j hj).cell (by decide),iV (ft.out.aG j hj).row eN.out (by decide)⟩) A7.out iJ.out).later ((bRq _ _).alloc (lRq _) (.cells #[.int .i64 p,.int .i64 0,.bool true,.slice none 0 0] 296)));have lq:Hid (bJ W (((((bU.setCell ⟨R,0,none⟩ (.int .i64 p)).setCell ⟨R,1,none⟩ (.int .i64 0)).setCell ⟨R,2,none⟩ (.bool true)).setCell ⟨R,3,none⟩ (.slice none 0 0)).alloc (.cells #[.int .i64 p,.int .i64 0,.bool true,.slice none 0 0] 296)) P I b v v):=(rM.out.newer iJ.out (by rw[iU.out];exact lRq _)).below ((bRq _ _).alloc (lRq _) _);have eG:Hid ((((((bU.setCell ⟨R,0,none⟩ (.int .i64 p)).setCell ⟨R,1,none⟩ (.int .i64 0)).setCell ⟨R,2,none⟩ (.bool true)).setCell ⟨R,3,none⟩ (.slice none 0 0)).alloc (.cells #[.int .i64 p,.int .i64 0,.bool true,.slice none 0 0] 296)).heap[R]?=some (.cells #[.int .i64 p,.int .i64 0,.bool true,.slice none 0 0] 296 (0,0))):=(Below.heap_alloc _ _ _ (lBq (vX eN.out p 0 true _))).trans (vX eN.out p 0 true _);have mR:=hDq pB;clear pB;go_wp2;rw[mR.out];generalize (((((bU.setCell ⟨R,0,none⟩ (.int .i64 p)).setCell ⟨R,1,none⟩ (.int .i64 0)).setCell ⟨R,2,none⟩ (.bool true)).setCell ⟨R,3,none⟩ (.slice none 0 0)).alloc (.cells #[.int .i64 p,.int .i64 0,.bool true,.slice none 0 0] 296))=Wf at *;have z0:Wf.cell? ⟨R,0,none⟩=some (.int .i64 p):=by rw[cR Wf _ 0 _ _ _ eG.out];rfl
   have dn:Wf.cell? ⟨R,1,none⟩=some (.int .i64 0):=by rw[cR Wf _ 1 _ _ _ eG.out];rfl
   have z2:Wf.cell? ⟨R,2,none⟩=some (.bool true):=by rw[cR Wf _ 2 _ _ _ eG.out];rfl
   have z3:Wf.cell? ⟨R,3,none⟩=some (.slice none 0 0):=by rw[cR Wf _ 3 _ _ _ eG.out];rfl
   exact bodyPost_ret (v:=.tuple #[.agg #[.int .i64 p,.int .i64 0,.bool true,.slice none 0 0],.nilIface]) (by simp[results,Tryz.results191,go_sem,z0,dn,z2,z3]) rfl ⟨rfl,lp.out,lq.out⟩
end
section
variable {w W:World} {F P:Nat} {I b:Nat->Nat} {v:Nat->Value} {L:Nat->List Cv.ag} {pf n:Nat->Int} {wd h:Int} {ev:Nat->Value}
theorem aef (i:Nat) (hi:i<3) (s p vol:Int) (hs:Hid (Ra.IsU s)) (hF:Hid (bk w W F P I b v L pf n wd h)) (he:Hid (ee w ev)) (hok:Hid (Fs.d7 L pf)) (AL:Hid (aY.kA (n (i*2)) (n (i*2+1))=true)) (K8:Hid (aY.gh wd h=true)) (jA:Hid (Cv.eW (L i) (n (i*2)) 1000 p vol)) (hno:aY.nE (n (i*2)) (n (i*2+1)) wd p vol=true) (aeg:0<vol) :
  Calls Tryz.prog 191 #[.pointer (some ⟨F,0,none⟩),.int .i64 i,.int .u32 s] W fun e W'=>∃ iq v',e=.returned (.tuple #[AO p vol true iq,.nilIface])∧bk w W' F P I b v' (upd L i (Fs.gZ (Ra.fills s (L i) p vol) (L i))) (Fs.gW pf i p (L i) (Ra.fills s (L i) p vol)) (upd (upd n (i*2) (aY.nC (n (i*2)) (n (i*2+1)) wd p vol)) (i*2+1) (aY.nD (n (i*2)) (n (i*2+1)) wd h p vol)) wd h∧bJ W W' P I b v v'∧fu W' iq (Ra.fills s (L i) p vol)∧Fs.d7 (upd L i (Fs.gZ (Ra.fills s (L i) p vol) (L i))) (Fs.gW pf i p (L i) (Ra.fills s (L i) p vol)):=by
 have pA:=Fs.K9 (AP (hok.out.aG i hi)) jA.out aeg;have aeh:=hDq pA;obtain⟨bf,rU⟩:∃ bf,Ra.fills s (L i) p vol=bf:=⟨_,rfl⟩;have K_:=Fs.SE pA s;rw[rU]at K_;have hlen:bf.length<=200:=by
  rw[<- rU];unfold Ra.fills;have xB:=(hok.out.aG i hi).len;have h1:=Ra.AQ s (hok.out.aG i hi).oks 0 p vol pA.2.1.1 pA.2.1.2 pA.2.2.1;have h2:=Ra.AQ (Ra.rV s) (hok.out.aG i hi).oks 1 p vol pA.2.1.1 pA.2.1.2 pA.2.2.1;rw[lAq];omega
 have hnil:bf≠[]:=fun e=>by
  have hsum:=Ra.La pA s 0 (.inl rfl);rw[rU,e,Fs.Fy,Fs.AR (fun x _=>by show (if x.sd=0 then (0:Int) else 0)=0;split <;> rfl)]at hsum;omega
 have aei:=hDq K_;have HLen:=hDq hlen;have aej:=hDq hnil;have tT:=hDq rU;have AU:=hDq pA.2.1;rw[rU];clear K_ hlen hnil rU pA;have hgw:=AP (hok.out.aG i hi);have hr:ah.aB (n (i*2)) 1 1000=true:=by
  have:=AL.out
  simp only[aY.kA,Bool.and_eq_true]at this;exact this.1
 have AV:aY.mr p vol=true:=by
  rcases jA.out with ⟨e1,e2,_⟩ | ⟨e1,e2,e3,_⟩
  ·rw[e2];simp[aY.mr]
  ·simp[aY.mr,ah.aB,e2,e3];omega
 have AX:Hid (∀ W' u,gH W' u (L i)->gU W' 412 (ev 1) (ev 6) (ev 7)->Calls Tryz.prog 220 #[u,.int .i64 (n (i*2))] W' fun e w'=>e=.returned (.tuple #[.int .i64 p,.int .i64 vol,.nilIface])∧Below W'.heap.size W' w'):=fun W' u hu mQ=>by
  refine(Qr u (L i) (n (i*2)) 412 (ev 1) (ev 6) (ev 7) W' hu mQ hgw hr).mono ?_;rintro e w' ⟨⟨p',aek,rfl,hw'⟩,hbl⟩;obtain⟨e1,e2⟩:=hw'.unique jA.out;rw[e1,e2];exact⟨rfl,hbl⟩
 have qp:=hDq (fun W' (mQ:my W' 412 (ev 1))=>P6 (n (i*2)) (n (i*2+1)) wd h p vol 412 (ev 1) W' mQ (by rw[AL.out,K8.out,AV];rfl));unfold oK dJ at qp;clear hgw hr AV;generalize Lb:aY.nC (n (i*2)) (n (i*2+1)) wd p vol=nr at *;generalize hnl:aY.nD (n (i*2)) (n (i*2+1)) wd h p vol=nl at *;rw[hno]at qp;clear Lb hnl hno;obtain⟨R,hR⟩:∃ R,W.heap.size=R:=⟨_,rfl⟩;obtain⟨w1,dM⟩:∃ w1,W.alloc (.cells #[.int .i64 0,.int .i64 0,.bool false,.slice none 0 0] 296)=w1:=⟨_,rfl⟩;have hb1:Below W.heap.size W w1:=by rw[<- dM];exact(bRq _ _).alloc (lRq _) _
 have HR1:Hid (w1.heap[R]?=some (.cells #[.int .i64 0,.int .i64 0,.bool false,.slice none 0 0] 296 (0,0))):=by show _=_;rw[<- dM,<- hR];exact hNq _ _
 have fy:=hDq (hF.out.later hb1);have eZ:=hDq (bJ.of_below hb1 P I b v);have AY:=hDq (Fz i hi fy.out);have nI:=hDq (xG (b i) w.heap.size (v i) (L i) w1 (fy.out.aG i hi) (hok.out.aG i hi).len);have cb:=fy.out.vS hi;have HW1:=hDq dM;have iU:=hDq hR;clear hb1 dM hR;go_enter Tryz.func191,Tryz.ntmps191
 go_wp2_with fail
 rw[HW1.out,iU.out];refine AY.out.mono ?_;rintro e w1 ⟨rfl,rfl⟩;simp only[]
 go_wp2_with fail
 refine nI.out.mono ?_;rintro e w2 ⟨v2,rfl,hrow2,hb2⟩;have rW:Hid (gH w2 v2 (L i)):=J5 hrow2;have cn:=hDq (fy.out.later hb2);have HS2:=hDq (eZ.out.below hb2);have bg:Hid (w2.heap[R]?=some (.cells #[.int .i64 0,.int .i64 0,.bool false,.slice none 0 0] 296 (0,0))):=by show _=_;rw[hb2.block _ (lBq HR1.out)];exact HR1.out
 clear hrow2 hb2 AY nI cb fy eZ HR1 HW1;have Lc:=cn.out.Kj hi;have fY:=hDq (AX.out w2 v2 rW.out (cn.out.bN he.out).bN);obtain⟨sa,sm,sc,hv2⟩:=rW.out.form;subst hv2;simp only[]
 go_wp2_with fail
 refine fY.out.mono ?_;rintro e w3 ⟨rfl,hb3⟩;have fW:=hDq (cn.out.later hb3);have cQ:=hDq (HS2.out.below hb3);have AZ:=hDq (rW.out.later hb3);have HR3:Hid (w3.heap[R]?=some (.cells #[.int .i64 0,.int .i64 0,.bool false,.slice none 0 0] 296 (0,0))):=by show _=_;rw[hb3.block _ (lBq bg.out)];exact bg.out
 clear hb3 cn HS2 rW bg Lc AX fY;simp only[]
 go_wp2_with fail
 obtain⟨bG,val,hcl,aP⟩:=Au F (I i) F (.cells (tG I P wd h) 210 (0,0)) (.cells (tH (b i) (n (i*2)) (n (i*2+1))) 267 (0,0)) (.cells (tG I P wd h) 210 (0,0));obtain⟨x0,hx0⟩:=aP w3.drew ⟨fW.out.blk,fW.out.it i hi,fW.out.blk⟩;have hnx:Nonempty bG:=⟨x0⟩;have en:∀ x,(val x).cell? ⟨I i,1,none⟩=some (.int .i64 (n (i*2))):=fun x=>by rw[cR _ _ _ _ _ _ (hcl x).2.1];rfl
 have em:∀ x,(val x).cell? ⟨I i,2,none⟩=some (.int .i64 (n (i*2+1))):=fun x=>by rw[cR _ _ _ _ _ _ (hcl x).2.1];rfl
 have Ld:∀ x,(val x).cell? ⟨F,0,none⟩=some (.int .i64 wd):=fun x=>by rw[cR _ _ _ _ _ _ (hcl x).1];rfl
 have eh:∀ x,(val x).cell? ⟨F,1,none⟩=some (.int .i64 h):=fun x=>by rw[cR _ _ _ _ _ _ (hcl x).1];rfl
 have hbd:Below w3.heap.size w3 w3.drew:=⟨rfl,rfl,rfl,lRq _,fun _ _=>rfl⟩;have dh:=hDq (fW.out.later hbd);have cr:=hDq (cQ.out.below hbd);have vU:=hDq (AZ.out.later hbd);have bO:Hid (w3.drew.heap[R]?=some (.cells #[.int .i64 0,.int .i64 0,.bool false,.slice none 0 0] 296 (0,0))):=HR3.out;obtain⟨w4,hw4⟩:∃ w4,w3.drew=w4:=⟨_,rfl⟩;rw[hw4]at dh cr vU bO;have aN:Hid (∀ W',Below w4.heap.size w4 W'->∃ x,val x=W'):=fun W' hb=>aP W' ⟨(dh.out.later hb).blk,(dh.out.later hb).it i hi,(dh.out.later hb).blk⟩;have vV:Hid (∀ W',Below w4.heap.size w4 W'->my W' 412 (ev 1)):=fun W' hb=>((dh.out.later hb).bN he.out).Kg;clear aP hcl fW cQ AZ HR3 hbd;refine tJ (val:=val) (fun D ai=>ai.heap[D]?=some (.cells #[.int .i64 nr,.int .i64 nl] 192 (0,0))∧w4.heap.size<=D∧Below w4.heap.size w4 ai) (.read 0 (.read 1 (.read 2 (.read 3 (.read 4 (.read 5 (.read 6 (.read 7 (.read 8 (.read 9 (.two 10 (.read 11 (.read 12 (.read 13 (.read 14 (.one 15 (.one 16 (.read 17 (.read 18 .done)))))))) 15 (.one 10 (.read 11 (.read 12 (.read 13 (.read 14 (.one 16 (.read 17 (.read 18 .done))))))))))))))))))) (by kernel_rfl) (by kernel_rfl) x0 hx0 ?_;apply Exists.intro;refine⟨?_,?_⟩
 case' refine_1 =>
  rw[hx0,hw4]
  iterate 10 (refine cu rfl (fun K hK=>?_);refine⟨by rfl,?_⟩;unfold aA;go_simp;refine hK _ ?_;clear hK K)
  have fQ:Hid (Below w4.heap.size w4 w4):=bRq _ _;refine⟨?_,?_⟩
  case refine_1 =>
   refine bW rfl (fun K hK=>?_);refine⟨by rfl,?_⟩;unfold aQ;go_simp;refine(qp.out _ (vV.out _ fQ.out)).mono ?_;rintro e wc ⟨rfl,hbc⟩;have ej:=hDq (fQ.out.trans (hbc.mono fQ.out.size));refine⟨_,rfl,aN.out _ ej.out,hK _ _ ?_⟩;clear hK K hbc
   iterate 4 (refine cu rfl (fun K hK=>?_);refine⟨by rfl,?_⟩;unfold aA;go_simp;refine hK _ ?_;clear hK K)
   refine bW rfl (fun K hK=>?_);refine⟨by rfl,?_⟩;unfold aQ;go_simp;obtain⟨D,hD⟩:∃ D,wc.heap.size=D:=⟨_,rfl⟩;obtain⟨aj,hwz⟩:∃ aj,wc.alloc (.cells #[.int .i64 0,.int .i64 0] 192)=aj:=⟨_,rfl⟩;rw[hD,hwz];have cg:Hid (Below w4.heap.size w4 aj):=by show Below _ _ _;rw[<- hwz];exact ej.out.alloc ej.out.size _
   have au:Hid (aj.heap[D]?=some (.cells #[.int .i64 0,.int .i64 0] 192 (0,0))):=by show _=_;rw[<- hwz,<- hD];exact hNq _ _
   have fq:Hid (w4.heap.size<=D):=by have:=ej.out.size;show _<=_;omega
   refine⟨aN.out _ cg.out,hK _ _ ?_⟩;clear hK K hwz hD;have c0:aj.cell? ⟨D,0,none⟩=some (.int .i64 0):=by rw[cR aj _ 0 _ _ _ au.out];rfl
   have c1:aj.cell? ⟨D,1,none⟩=some (.int .i64 0):=by rw[cR aj _ 1 _ _ _ au.out];rfl
   have f0:aj.frozen? ⟨D,0,none⟩=false:=by simp[World.frozen?,au.out]
   have f1:aj.frozen? ⟨D,1,none⟩=false:=by simp[World.frozen?,au.out]
   have HX:Hid (((aj.setCell ⟨D,0,none⟩ (.int .i64 nr)).setCell ⟨D,1,none⟩ (.int .i64 nl)).heap[D]?=some (.cells #[.int .i64 nr,.int .i64 nl] 192 (0,0))):=by
    have h0:(aj.setCell ⟨D,0,none⟩ (.int .i64 nr)).heap[D]?=some (.cells #[.int .i64 nr,.int .i64 0] 192 (0,0)):=by
     rw[setCell_eq_setRow aj D 0 _ _ _ _ au.out];exact setRow_heap aj D _ _ _ _ au.out
    show _=_;rw[setCell_eq_setRow _ D 1 _ _ _ _ h0];exact setRow_heap _ D _ _ _ _ h0
   have aS:Hid (Below w4.heap.size w4 ((aj.setCell ⟨D,0,none⟩ (.int .i64 nr)).setCell ⟨D,1,none⟩ (.int .i64 nl))):=(cg.out.setCell (p:=⟨D,0,none⟩) fq.out _).setCell (p:=⟨D,1,none⟩) fq.out _;refine bW rfl (fun K hK=>?_);refine⟨by rfl,?_⟩;unfold aQ;go_simp;refine⟨aN.out _ aS.out,hK _ _ ?_⟩;clear hK K au c0 c1 f0 f1;generalize (aj.setCell ⟨D,0,none⟩ (.int .i64 nr)).setCell ⟨D,1,none⟩ (.int .i64 nl)=ai at *
   iterate 2 (refine cu rfl (fun K hK=>?_);refine⟨by rfl,?_⟩;unfold aA;go_simp;refine hK _ ?_;clear hK K)
   refine iT ?_;exact⟨D,rfl,HX.out,fq.out,aS.out⟩
  case refine_2 =>
   refine bW rfl (fun K hK=>?_);refine⟨by rfl,?_⟩;unfold aQ;go_simp;obtain⟨D,hD⟩:∃ D,w4.heap.size=D:=⟨_,rfl⟩;obtain⟨ij,hwz⟩:∃ aj,w4.alloc (.cells #[.int .i64 0,.int .i64 0] 192)=aj:=⟨_,rfl⟩;rw[hD,hwz];have cO:Hid (Below w4.heap.size w4 ij):=by show Below _ _ _;rw[<- hwz];exact fQ.out.alloc fQ.out.size _
   have o6:Hid (ij.heap[D]?=some (.cells #[.int .i64 0,.int .i64 0] 192 (0,0))):=by show _=_;rw[<- hwz,<- hD];exact hNq _ _
   have fq:Hid (w4.heap.size<=D):=by have:=fQ.out.size;show _<=_;omega
   refine⟨aN.out _ cO.out,hK _ _ ?_⟩;clear hK K hwz hD;refine bW rfl (fun K hK=>?_);refine⟨by rfl,?_⟩;unfold aQ;go_simp;refine(qp.out _ (vV.out _ cO.out)).mono ?_;rintro e aj ⟨rfl,hbc⟩;have cg:=hDq (cO.out.trans (hbc.mono cO.out.size));have au:Hid (aj.heap[D]?=some (.cells #[.int .i64 0,.int .i64 0] 192 (0,0))):=by show _=_;rw[hbc.block _ (lBq o6.out)];exact o6.out
   refine⟨_,rfl,aN.out _ cg.out,hK _ _ ?_⟩;clear hK K hbc
   iterate 4 (refine cu rfl (fun K hK=>?_);refine⟨by rfl,?_⟩;unfold aA;go_simp;refine hK _ ?_;clear hK K)
   have c0:aj.cell? ⟨D,0,none⟩=some (.int .i64 0):=by rw[cR aj _ 0 _ _ _ au.out];rfl
   have c1:aj.cell? ⟨D,1,none⟩=some (.int .i64 0):=by rw[cR aj _ 1 _ _ _ au.out];rfl
   have f0:aj.frozen? ⟨D,0,none⟩=false:=by simp[World.frozen?,au.out]
   have f1:aj.frozen? ⟨D,1,none⟩=false:=by simp[World.frozen?,au.out]
   have HX:Hid (((aj.setCell ⟨D,0,none⟩ (.int .i64 nr)).setCell ⟨D,1,none⟩ (.int .i64 nl)).heap[D]?=some (.cells #[.int .i64 nr,.int .i64 nl] 192 (0,0))):=by
    have h0:(aj.setCell ⟨D,0,none⟩ (.int .i64 nr)).heap[D]?=some (.cells #[.int .i64 nr,.int .i64 0] 192 (0,0)):=by
     rw[setCell_eq_setRow aj D 0 _ _ _ _ au.out];exact setRow_heap aj D _ _ _ _ au.out
    show _=_;rw[setCell_eq_setRow _ D 1 _ _ _ _ h0];exact setRow_heap _ D _ _ _ _ h0
   have aS:Hid (Below w4.heap.size w4 ((aj.setCell ⟨D,0,none⟩ (.int .i64 nr)).setCell ⟨D,1,none⟩ (.int .i64 nl))):=(cg.out.setCell (p:=⟨D,0,none⟩) fq.out _).setCell (p:=⟨D,1,none⟩) fq.out _;refine bW rfl (fun K hK=>?_);refine⟨by rfl,?_⟩;unfold aQ;go_simp;refine⟨aN.out _ aS.out,hK _ _ ?_⟩;clear hK K au c0 c1 f0 f1;generalize (aj.setCell ⟨D,0,none⟩ (.int .i64 nr)).setCell ⟨D,1,none⟩ (.int .i64 nl)=ai at *
   iterate 2 (refine cu rfl (fun K hK=>?_);refine⟨by rfl,?_⟩;unfold aA;go_simp;refine hK _ ?_;clear hK K)
   refine iT ?_;exact⟨D,rfl,HX.out,fq.out,aS.out⟩
 intro D ai ⟨o7,o8,hb6⟩;have HX:=hDq o7;have HDn:=hDq o8;have eM:=hDq (dh.out.later hb6);have dv:=hDq (cr.out.below hb6);have Le:=hDq (vU.out.later hb6);have bA:Hid (ai.heap[R]?=some (.cells #[.int .i64 0,.int .i64 0,.bool false,.slice none 0 0] 296 (0,0))):=by show _=_;rw[hb6.block _ (lBq bO.out)];exact bO.out
 clear o7 o8 hb6 dh cr vU bO qp hw4;clear hx0 en em Ld eh aN vV;clear x0 hnx;clear val;clear bG;obtain⟨E,hE⟩:∃ E,ai.heap.size=E:=⟨_,rfl⟩;obtain⟨bq,oU⟩:∃ bq,ai.alloc (.cells #[.int .i64 p,.int .i64 vol,.bool true,.slice none 0 0] 296)=bq:=⟨_,rfl⟩;have kD:Below ai.heap.size ai bq:=by rw[<- oU];exact(bRq _ _).alloc (lRq _) _
 have Lf:Hid (bq.heap[E]?=some (.cells #[.int .i64 p,.int .i64 vol,.bool true,.slice none 0 0] 296 (0,0))):=by show _=_;rw[<- oU,<- hE];exact hNq _ _
 have kg:=hDq (eM.out.later kD);have lh:=hDq (dv.out.below kD);have SF:=hDq (Le.out.later kD);have fO:Hid (bq.heap[R]?=some (.cells #[.int .i64 0,.int .i64 0,.bool false,.slice none 0 0] 296 (0,0))):=by show _=_;rw[kD.block _ (lBq bA.out)];exact bA.out
 have lR:Hid (bq.heap[D]?=some (.cells #[.int .i64 nr,.int .i64 nl] 192 (0,0))):=by show _=_;rw[kD.block _ (lBq HX.out)];exact HX.out
 have qq:Hid (R≠E):=fun e=>by have:=lBq bA.out;omega
 have A1:Hid (W.heap.size<=E):=by have:=dv.out.size;show _<=_;omega
 have qo:=hDq (ael (.slice sa sm sc) (L i) p vol s 412 (ev 1) (ev 2) (ev 6) (ev 7) bq SF.out (kg.out.bN he.out).bN (kg.out.bN he.out).c2 aeh.out hs.out);rw[tT.out]at qo;have SG:=hDq oU;have aem:=hDq hE;clear kD oU hE eM dv Le bA HX SF
 go_wp2_with fail
 rw[SG.out,aem.out];refine qo.out.mono ?_;rintro e b9 ⟨iq,rfl,A4,qu⟩;have lU:=hDq (kg.out.later qu);have tV:=hDq (lh.out.below qu);have tE:Hid (b9.heap[R]?=some (.cells #[.int .i64 0,.int .i64 0,.bool false,.slice none 0 0] 296 (0,0))):=by show _=_;rw[qu.block _ (lBq fO.out)];exact fO.out
 have yh:Hid (b9.heap[D]?=some (.cells #[.int .i64 nr,.int .i64 nl] 192 (0,0))):=by show _=_;rw[qu.block _ (lBq lR.out)];exact lR.out
 have nX:Hid (b9.heap[E]?=some (.cells #[.int .i64 p,.int .i64 vol,.bool true,.slice none 0 0] 296 (0,0))):=by show _=_;rw[qu.block _ (lBq Lf.out)];exact Lf.out
 have Lg:=hDq A4;clear A4 qu kg lh fO lR Lf qo SG;obtain⟨iX,jk,mC⟩:=Lg.out.val;obtain⟨ln,Lh⟩:∃ ln,bf.length=ln:=⟨_,rfl⟩;rw[Lh]at mC;subst mC;clear Lh;have e3:b9.cell? ⟨E,3,none⟩=some (.slice none 0 0):=by rw[cR b9 _ 3 _ _ _ nX.out];rfl
 have g3:b9.frozen? ⟨E,3,none⟩=false:=by simp[World.frozen?,nX.out]
 obtain⟨gw,yi⟩:∃ gw,b9.setCell ⟨E,3,none⟩ (.slice iX ln jk)=gw:=⟨_,rfl⟩;have iI:aM b9 gw E:=by rw[<- yi];exact aM.setCell _ _ _ _
 have Li:Hid (gw.heap[E]?=some (.cells #[.int .i64 p,.int .i64 vol,.bool true,.slice iX ln jk] 296 (0,0))):=by show _=_;rw[<- yi,setCell_eq_setRow _ E 3 _ _ _ _ nX.out];exact setRow_heap _ E _ _ _ _ nX.out
 have rX:=hDq (lU.out.aside (aF nX.out lU.out.blk (by decide)) (aF nX.out lU.out.cY (by decide)) (fun j hj=>⟨aF nX.out (lU.out.it j hj) (by decide),aF nX.out (lU.out.aG j hj).cell (by decide),iV (lU.out.aG j hj).row nX.out (by decide)⟩) (lTq hF.out.cp.size A1.out) iI);have A5:=hDq (tV.out.newer iI A1.out);have rY:Hid (gw.heap[R]?=some (.cells #[.int .i64 0,.int .i64 0,.bool false,.slice none 0 0] 296 (0,0))):=by show _=_;rw[iI.block _ (lBq tE.out) qq.out];exact tE.out
 have SH:Hid (gw.heap[D]?=some (.cells #[.int .i64 nr,.int .i64 nl] 192 (0,0))):=by show _=_;rw[iI.block _ (lBq yh.out) (aF yh.out nX.out (by decide))];exact yh.out
 have SI:=hDq (Lg.out.save iI nX.out (by decide));have FB:gw.cell? ⟨E,3,none⟩=some (.slice iX ln jk):=by rw[cR gw _ 3 _ _ _ Li.out];rfl
 have SK:=hDq yi;have HST:=hDq (aen i hi p (.slice iX ln jk) bf rX.out he hok aei.out AU.out.1 AU.out.2 SI.out HLen.out aej.out);have SL:=hDq FB;clear iI yi lU tV tE yh nX Lg FB;simp only[]
 go_wp2_with fail
 rw[SK.out];have FB:=SL.out
 go_wp2_with fail
 refine HST.out.mono ?_;rintro e wt ⟨rfl,v10,SN,Lj,Ai,SQ⟩;have FC:∀ {q:Nat} {a:Array Value} {T:TypeId},gw.heap[q]?=some (.cells a T (0,0))->T≠197->T≠213->T≠267->T≠276->wt.heap[q]?=some (.cells a T (0,0)):=fun {q a T} hq h1 h2 h3 h4=>by
  rw[Lj.keep q (lBq hq) (aF hq rX.out.cY h2) (fun j hj=>⟨aF hq (rX.out.it j hj) h3,aF hq (rX.out.aG j hj).cell h4,iV (rX.out.aG j hj).row hq h1⟩)];exact hq
 have yj:Hid (wt.heap[E]?=some (.cells #[.int .i64 p,.int .i64 vol,.bool true,.slice iX ln jk] 296 (0,0))):=FC Li.out (by decide) (by decide) (by decide) (by decide);have lV:Hid (wt.heap[R]?=some (.cells #[.int .i64 0,.int .i64 0,.bool false,.slice none 0 0] 296 (0,0))):=FC rY.out (by decide) (by decide) (by decide) (by decide);have yl:Hid (wt.heap[D]?=some (.cells #[.int .i64 nr,.int .i64 nl] 192 (0,0))):=FC SH.out (by decide) (by decide) (by decide) (by decide);have Ll:=hDq SN;have SR:=hDq (A5.out.trans Lj);have SS:=hDq Ai;have aeo:=hDq SQ;clear FC SN Lj Ai SQ Li rY SH rX A5 SI HST SK SL
 try clear e3 g3
 try clear FB
 have fF:=hDq (Ll.out.it i hi);have d0:wt.cell? ⟨D,0,none⟩=some (.int .i64 nr):=by rw[cR wt _ 0 _ _ _ yl.out];rfl
 have d1:wt.cell? ⟨D,1,none⟩=some (.int .i64 nl):=by rw[cR wt _ 1 _ _ _ yl.out];rfl
 have i1:wt.cell? ⟨I i,1,none⟩=some (.int .i64 (n (i*2))):=by rw[cR wt _ 1 _ _ _ fF.out];rfl
 have i2:wt.cell? ⟨I i,2,none⟩=some (.int .i64 (n (i*2+1))):=by rw[cR wt _ 2 _ _ _ fF.out];rfl
 have j1:wt.frozen? ⟨I i,1,none⟩=false:=by simp[World.frozen?,fF.out]
 have j2:wt.frozen? ⟨I i,2,none⟩=false:=by simp[World.frozen?,fF.out]
 have r0:wt.cell? ⟨R,0,none⟩=some (.int .i64 0):=by rw[cR wt _ 0 _ _ _ lV.out];rfl
 have r1:wt.cell? ⟨R,1,none⟩=some (.int .i64 0):=by rw[cR wt _ 1 _ _ _ lV.out];rfl
 have r2:wt.cell? ⟨R,2,none⟩=some (.bool false):=by rw[cR wt _ 2 _ _ _ lV.out];rfl
 have r3:wt.cell? ⟨R,3,none⟩=some (.slice none 0 0):=by rw[cR wt _ 3 _ _ _ lV.out];rfl
 have q0:wt.frozen? ⟨R,0,none⟩=false:=by simp[World.frozen?,lV.out]
 have q1:wt.frozen? ⟨R,1,none⟩=false:=by simp[World.frozen?,lV.out]
 have q2:wt.frozen? ⟨R,2,none⟩=false:=by simp[World.frozen?,lV.out]
 have q3:wt.frozen? ⟨R,3,none⟩=false:=by simp[World.frozen?,lV.out]
 have vW:R<wt.heap.size:=lBq lV.out;have aep:I i<wt.heap.size:=lBq fF.out;have hDl:D<wt.heap.size:=lBq yl.out;have aeq:¬ R=wt.heap.size:=by omega
 have aer:¬ I i=wt.heap.size:=by omega
 have hDn:¬ D=wt.heap.size:=by omega
 have A6:R≠I i:=aF lV.out fF.out (by decide);have aes:I i≠R:=Ne.symm A6;have aet:D≠I i:=aF yl.out fF.out (by decide);have aeu:D≠R:=aF yl.out lV.out (by decide);have e0:wt.cell? ⟨E,0,none⟩=some (.int .i64 p):=by rw[cR wt _ 0 _ _ _ yj.out];rfl
 have e1:wt.cell? ⟨E,1,none⟩=some (.int .i64 vol):=by rw[cR wt _ 1 _ _ _ yj.out];rfl
 have e2:wt.cell? ⟨E,2,none⟩=some (.bool true):=by rw[cR wt _ 2 _ _ _ yj.out];rfl
 have e3:wt.cell? ⟨E,3,none⟩=some (.slice iX ln jk):=by rw[cR wt _ 3 _ _ _ yj.out];rfl
 have an8:E≠I i:=aF yj.out fF.out (by decide);have an9:E≠R:=Ne.symm qq.out;have ym:Hid (((wt.setCell ⟨I i,1,none⟩ (.int .i64 nr)).setCell ⟨I i,2,none⟩ (.int .i64 nl)).heap[I i]?=some (.cells (tH (b i) nr nl) 267 (0,0))):=by
  have h0:(wt.setCell ⟨I i,1,none⟩ (.int .i64 nr)).heap[I i]?=some (.cells #[.pointer (some ⟨b i,0,none⟩),.int .i64 nr,.int .i64 (n (i*2+1))] 267 (0,0)):=by
   rw[setCell_eq_setRow wt (I i) 1 _ _ _ _ fF.out];exact setRow_heap wt (I i) _ _ _ _ fF.out
  show _=_;rw[setCell_eq_setRow _ (I i) 2 _ _ _ _ h0];exact setRow_heap _ (I i) _ _ _ _ h0
 have ft:=hDq (Ll.out.ql hi ym.out ((aM.setCell _ _ _ _).put _ _));have rM:=hDq (SR.out.trans (bJ.R9 hi ((aM.setCell wt (I i) 1 (.int .i64 nr)).put 2 (.int .i64 nl)) P b v10));have eN:Hid (((wt.setCell ⟨I i,1,none⟩ (.int .i64 nr)).setCell ⟨I i,2,none⟩ (.int .i64 nl)).heap[R]?=some (.cells #[.int .i64 0,.int .i64 0,.bool false,.slice none 0 0] 296 (0,0))):=by
  show _=_;rw[((aM.setCell wt (I i) 1 (.int .i64 nr)).put 2 (.int .i64 nl)).block R vW A6];exact lV.out
 have aev:=hDq (SS.out.save ((aM.setCell wt (I i) 1 (.int .i64 nr)).put 2 (.int .i64 nl)) fF.out (by decide));have A7:Hid (w.heap.size<=R):=by have:=hF.out.cp.size;have:=iU.out;show _<=_;omega
 generalize pB:(wt.setCell ⟨I i,1,none⟩ (.int .i64 nr)).setCell ⟨I i,2,none⟩ (.int .i64 nl)=bU at *;have mR:=hDq pB;clear pB Ll SR SS yj yl lV ym fF;have iJ:Hid (aM bU ((((bU.setCell ⟨R,0,none⟩ (.int .i64 p)).setCell ⟨R,1,none⟩ (.int .i64 vol)).setCell ⟨R,2,none⟩ (.bool true)).setCell ⟨R,3,none⟩ (.slice iX ln jk)) R):=(((aM.setCell _ R 0 (.int .i64 p)).put 1 (.int .i64 vol)).put 2 (.bool true)).put 3 (.slice iX ln jk);have lp:=hDq (ft.out.aside (aF eN.out ft.out.blk (by decide)) (aF eN.out ft.out.cY (by decide)) (fun j hj=>⟨aF eN.out (ft.out.it j hj) (by decide),aF eN.out (ft.out.aG j hj).cell (by decide),iV (ft.out.aG j hj).row eN.out (by decide)⟩) A7.out iJ.out);have lq:=hDq (rM.out.newer iJ.out (by rw[iU.out];exact lRq _));have aew:=hDq (aev.out.save iJ.out eN.out (by decide));have eG:Hid (((((bU.setCell ⟨R,0,none⟩ (.int .i64 p)).setCell ⟨R,1,none⟩ (.int .i64 vol)).setCell ⟨R,2,none⟩ (.bool true)).setCell ⟨R,3,none⟩ (.slice iX ln jk)).heap[R]?=some (.cells #[.int .i64 p,.int .i64 vol,.bool true,.slice iX ln jk] 296 (0,0))):=vX eN.out p vol true _;simp only[];go_wp2;rw[mR.out];generalize ((((bU.setCell ⟨R,0,none⟩ (.int .i64 p)).setCell ⟨R,1,none⟩ (.int .i64 vol)).setCell ⟨R,2,none⟩ (.bool true)).setCell ⟨R,3,none⟩ (.slice iX ln jk))=Wf at *;have z0:Wf.cell? ⟨R,0,none⟩=some (.int .i64 p):=by rw[cR Wf _ 0 _ _ _ eG.out];rfl
 have dn:Wf.cell? ⟨R,1,none⟩=some (.int .i64 vol):=by rw[cR Wf _ 1 _ _ _ eG.out];rfl
 have z2:Wf.cell? ⟨R,2,none⟩=some (.bool true):=by rw[cR Wf _ 2 _ _ _ eG.out];rfl
 have z3:Wf.cell? ⟨R,3,none⟩=some (.slice iX ln jk):=by rw[cR Wf _ 3 _ _ _ eG.out];rfl
 exact bodyPost_ret (v:=.tuple #[.agg #[.int .i64 p,.int .i64 vol,.bool true,.slice iX ln jk],.nilIface]) (by simp[results,Tryz.results191,go_sem,z0,dn,z2,z3]) rfl ⟨_,_,rfl,lp.out,lq.out,aew.out,aeo.out⟩
end
structure d_ (L:Nat->List Cv.ag) (pf n:Nat->Int) (wd h:Int):Prop where
 ok:Fs.d7 L pf
 ql:∀ i,i<3->aY.kA (n (i*2)) (n (i*2+1))=true
 rule:aY.gh wd h=true
namespace Fl
def nZ (L:Nat->List Cv.ag) (i:Nat) (bf:List (Int×Int)):Nat->List Cv.ag:=upd L i (Fs.gZ bf (L i))
def runN (n:Nat->Int) (i:Nat) (wd h p vol:Int):Nat->Int:=upd (upd n (i*2) (aY.nC (n (i*2)) (n (i*2+1)) wd p vol)) (i*2+1) (aY.nD (n (i*2)) (n (i*2+1)) wd h p vol)
def n_ (n:Nat->Int) (i:Nat) (wd p vol:Int):Bool:=aY.nE (n (i*2)) (n (i*2+1)) wd p vol
end Fl
theorem aeI {r l wd h p v:Int} (hb:aY.kA r l=true) (hr:aY.gh wd h=true) (hp:0<v->1<=p∧p<=1000):aY.kA (aY.nC r l wd p v) (aY.nD r l wd h p v)=true:=by
 simp only[aY.kA,aY.gh,ah.aB,Bool.and_eq_true,decide_eq_true_eq]at *;unfold aY.nC aY.nD;by_cases h1:0<l
 ·rw[if_pos h1,if_pos h1]
  split
  ·have:=hp (by omega);omega
  ·omega
 ·rw[if_neg h1,if_neg h1]
  by_cases h2:0<v
  ·have:=hp h2
   cases aY.vv wd r p <;> simp[h2] <;> omega
  ·simp[h2];omega
theorem d_.run {L:Nat->List Cv.ag} {pf n:Nat->Int} {wd h:Int} (H:d_ L pf n wd h) {i:Nat} (hi:i<3) {p vol:Int} (hw:Cv.eW (L i) (n (i*2)) 1000 p vol) {L':Nat->List Cv.ag} {oa:Nat->Int} (ho:Fs.d7 L' oa):d_ L' oa (Fl.runN n i wd h p vol) wd h:=by
 refine⟨ho,fun j hj=>?_,H.rule⟩;unfold Fl.runN;by_cases e:j=i
 ·subst e
  rw[upd_same,upd_ne _ _ (by omega),upd_same];refine aeI (H.ql j hj) H.rule (fun hv=>?_);rcases hw with ⟨_,e2,_⟩ | ⟨_,e2,e3,_⟩
  ·omega
  ·exact⟨e2,e3⟩
 ·rw[upd_ne _ _ (by omega),upd_ne _ _ (by omega),upd_ne _ _ (by omega),upd_ne _ _ (by omega)]
  exact H.ql j hj
section
variable {w W:World} {F P:Nat} {I b:Nat->Nat} {v:Nat->Value} {L:Nat->List Cv.ag} {pf n:Nat->Int} {wd h:Int} {ev:Nat->Value}
theorem aeJ (i:Nat) (hi:i<3) (s p vol:Int) (hs:Ra.IsU s) (hF:bk w W F P I b v L pf n wd h) (he:ee w ev) (H:d_ L pf n wd h) (jA:Cv.eW (L i) (n (i*2)) 1000 p vol) :
  Calls Tryz.prog 191 #[.pointer (some ⟨F,0,none⟩),.int .i64 i,.int .u32 s] W fun e W'=>∃ iq v',e=.returned (.tuple #[AO p vol (Fl.n_ n i wd p vol) iq,.nilIface]) ∧
   bk w W' F P I b v' (Fl.nZ L i (Fl.oc s (L i) (Fl.n_ n i wd p vol) p vol)) (Fs.gW pf i p (L i) (Fl.oc s (L i) (Fl.n_ n i wd p vol) p vol)) (Fl.runN n i wd h p vol) wd h∧bJ W W' P I b v v' ∧
   fu W' iq (Fl.oc s (L i) (Fl.n_ n i wd p vol) p vol)∧d_ (Fl.nZ L i (Fl.oc s (L i) (Fl.n_ n i wd p vol) p vol)) (Fs.gW pf i p (L i) (Fl.oc s (L i) (Fl.n_ n i wd p vol) p vol)) (Fl.runN n i wd h p vol) wd h:=by
 have hv0:=(jA.range (by decide)).2.2;by_cases hc:Fl.n_ n i wd p vol=true∧0<vol
 ·have e:Fl.oc s (L i) (Fl.n_ n i wd p vol) p vol=Ra.fills s (L i) p vol:=by unfold Fl.oc;rw[if_pos hc]
  rw[e,hc.1];refine(aef i hi s p vol hs hF he H.ok (H.ql i hi) H.rule jA hc.1 hc.2).mono ?_;rintro e W' ⟨iq,v',rfl,h1,h2,h3,h4⟩;exact⟨iq,v',rfl,h1,h2,h3,H.run hi jA h4⟩
 ·have e:Fl.oc s (L i) (Fl.n_ n i wd p vol) p vol=[]:=by unfold Fl.oc;rw[if_neg hc]
  have hst:aY.nE (n (i*2)) (n (i*2+1)) wd p vol=false∨vol=0:=by
   cases ho:aY.nE (n (i*2)) (n (i*2+1)) wd p vol with
   | false=>exact .inl rfl
   | true=>exact .inr (by have:¬ 0<vol:=fun hv=>hc ⟨ho,hv⟩;omega)
  have e2:Fl.nZ L i []=L:=by unfold Fl.nZ;rw[Fs.FL (H.ok.aG i hi).oks,rJ]
  rw[e,e2,Fs.S_];refine(aeK i hi s p vol hF he H.ok (H.ql i hi) H.rule jA hst).mono ?_;rintro e W' ⟨rfl,h1,h2⟩;exact⟨_,v,rfl,h1,h2,.inl ⟨rfl,none,0,rfl⟩,H.run hi jA H.ok⟩
end
theorem adL (a b c:Option Addr) (w:World):(Instr.index 208 (.agg #[.pointer a,.pointer b,.pointer c]) (.int .i64 0)).run Tryz.prog w=.ok (.pointer a) w:=by kernel_rfl
theorem adM (a b c:Option Addr) (w:World):(Instr.index 208 (.agg #[.pointer a,.pointer b,.pointer c]) (.int .i64 1)).run Tryz.prog w=.ok (.pointer b) w:=by kernel_rfl
theorem adN (a b c:Option Addr) (w:World):(Instr.index 208 (.agg #[.pointer a,.pointer b,.pointer c]) (.int .i64 2)).run Tryz.prog w=.ok (.pointer c) w:=by kernel_rfl
theorem adO (I:Nat->Nat) {i:Nat} (hi:i<3) (w:World):(Instr.index 208 (.agg #[.pointer (some ⟨I 0,0,none⟩),.pointer (some ⟨I 1,0,none⟩),.pointer (some ⟨I 2,0,none⟩)]) (.int .i64 i)).run Tryz.prog w=.ok (.pointer (some ⟨I i,0,none⟩)) w:=by
 match i,hi with
 | 0,_=>exact adL _ _ _ w
 | 1,_=>exact adM _ _ _ w
 | 2,_=>exact adN _ _ _ w
def adP (w W W':World) (e:Ending) (F P:Nat) (I b:Nat->Nat) (v:Nat->Value) (L:Nat->List Cv.ag) (pf n:Nat->Int) (wd h c:Int):Prop:=∃ u v',e=.returned u∧W'.ownsRow W.heap.size 197 5 u (Fl.mG c L 3).length (flat (Fl.mG c L 3))∧bk w W' F P I b v' (Fl.lf c L 3) (Fl.qg c L pf 3) n wd h∧bJ W W' P I b v v'∧Fs.d7 (Fl.lf c L 3) (Fl.qg c L pf 3)
structure Gone (W0 W:World) (b:Nat->Nat) (v:Nat->Value) (u:Value) (out:List Cv.ag):Prop where
 row:W.ownsRow W0.heap.size 197 5 u out.length (flat out)
 ap:∀ j,j<3->∀ k,u.ownBlock=some k->(v j).ownBlock≠some k
section
variable {w W0 W W':World} {F P:Nat} {I b:Nat->Nat} {v v':Nat->Value} {L:Nat->List Cv.ag} {pf n:Nat->Int} {wd h:Int} {ev:Nat->Value} {u:Value} {out:List Cv.ag}
theorem Gone.later (H:Gone W0 W b v u out) (hb:Below W.heap.size W W'):Gone W0 W' b v u out:=⟨dy H.row hb,H.ap⟩
theorem Gone.act (H:Gone W0 W b v u out) (hF:bk w W F P I b v L pf n wd h) (hs:bJ W W' P I b v v'):Gone W0 W' b v' u out:=by
 have hlt:=H.row.lt;refine⟨⟨H.row.1,?_⟩,fun j hj k hk e=>?_⟩
 ·rcases H.row.2 with hn | ⟨g,cap,cur,e,hg,dL,rest⟩
  ·exact .inl hn
  ·have hu:u.ownBlock=some g:=by rw[e];rfl
   refine .inr ⟨g,cap,cur,e,hg,?_,rest⟩;rw[hs.keep g (lBq dL) (aF dL hF.cY (by decide)) (fun j hj=>⟨aF dL (hF.it j hj) (by decide),aF dL (hF.aG j hj).cell (by decide),H.ap j hj g hu⟩)];exact dL
 ·rcases hs.new j hj k e with h1 | h1
  ·exact H.ap j hj k hk h1
  ·have:=(hlt k hk).2;omega
theorem bk.grow (hF:bk w W F P I b v L pf n wd h) (H:Gone W0 W b v u out) (hW0:w.heap.size<=W0.heap.size) (hg:W.grownBy W' u.ownBlock):bk w W' F P I b v L pf n wd h:=by
 have hlt:=H.row.lt;have ho:Only W W' none u.ownBlock:=Only.jv hg none;have hk:∀ {q:Nat} {a:Array Value} {T:TypeId},W.heap[q]?=some (.cells a T (0,0))->T≠197->W'.heap[q]?=some (.cells a T (0,0)):=fun {q a T} hq hT=>by
  rw[ho.block q (lBq hq) (by simp) (fun e=>iV H.row hq hT e.symm)];exact hq
 refine⟨hk hF.blk (by decide),fun i hi=>hk (hF.it i hi) (by decide),fun i hi=>?_,hF.o_,hF.ne,hF.ap,hk hF.cY (by decide),hF.lo,hF.mI,hF.mJ,hF.cp.trans (ho.below hF.cp.size (fun k e=>by cases e) (fun k e=>lTq hW0 (hlt k e).1))⟩;exact(hF.aG i hi).only ho (by simp) (fun e=>iV H.row (hF.aG i hi).cell (by decide) e.symm) (fun _ _=>by simp) (fun k hk e=>H.ap i hi k e.symm hk)
theorem bJ.grown {W W1 W2:World} {P:Nat} {I b:Nat->Nat} {v v1:Nat->Value} (h:bJ W W1 P I b v v1) {r:Option Nat} (hg:W1.grownBy W2 r) (hr:∀ g,r=some g->W.heap.size<=g):bJ W W2 P I b v v1 :=
 ⟨hg.os.trans h.os,hg.tape.trans h.tape,hg.output.trans h.output,lTq h.size hg.size,fun k hk h1 h2=>by rw[hg.block k (Nat.lt_of_lt_of_le hk h.size) (fun e=>by have:=hr k e.symm;omega)];exact h.keep k hk h1 h2,h.new⟩
theorem adQ (c:Int) (hF:Hid (bk w W F P I b v L pf n wd h)) (he:Hid (ee w ev)) (hok:Hid (Fs.d7 L pf)) :
  Calls Tryz.prog 186 #[.pointer (some ⟨F,0,none⟩),.int .i64 c] W fun e W'=>adP w W W' e F P I b v L pf n wd h c:=by
 obtain⟨i0,z0,hi,hz0,hz1,hz2,hz3⟩:=Dz;have Hi:=hDq hi;have ew:=hDq hz0;have ez:=hDq hz1;have eA:=hDq hz2;have kB:=hDq hz3;clear hi hz0 hz1 hz2 hz3;have p0:W.cell? ⟨F,2,none⟩=some (.pointer (some ⟨I 0,0,none⟩)):=hF.out.vR (i:=0) (by decide);have p1:W.cell? ⟨F,3,none⟩=some (.pointer (some ⟨I 1,0,none⟩)):=hF.out.vR (i:=1) (by decide);have p2:W.cell? ⟨F,4,none⟩=some (.pointer (some ⟨I 2,0,none⟩)):=hF.out.vR (i:=2) (by decide);have Ax:=hDq (Fl.D6 c L (fun i hi=>(hok.out.aG i hi).len));have HW0:Hid (w.heap.size<=W.heap.size):=hF.out.cp.size;go_enter Tryz.func186,Tryz.ntmps186;go_wp2
 go_loopw [5,14] (fun u cc wr=>∃ (i:Nat) (lj:Nat->Value),i<=3∧cc=.int .i64 i∧bk w wr F P I b lj (Fl.lf c L i) (Fl.qg c L pf i) n wd h∧bJ W wr P I b v lj∧Gone W wr b lj u (Fl.mG c L i)∧Fs.d7 (Fl.lf c L i) (Fl.qg c L pf i)) (fun _ cc _=>3-(intOf cc).toNat)
 case atStart=>exact⟨0,v,by omega,rfl,hF.out,bJ.refl _ _ _ _ _,⟨⟨rfl,.inl ⟨rfl,rfl⟩⟩,fun j hj k hk=>by cases hk⟩,hok.out⟩
 case round =>
  obtain⟨i,lj,hi,rfl,hf,hs,hg,ho⟩:=hrel;obtain⟨J0,adR⟩:∃ J0,J0=u5:=⟨_,rfl⟩;subst adR;obtain⟨fV,hwo⟩:∃ fV,fV=wr:=⟨_,rfl⟩;subst hwo;have fF:=hDq hf;have J2:=hDq hs;have D9:=hDq hg;have J3:=hDq ho;clear hf hs hg ho p0 p1 p2;by_cases bY:i<3
  ·have aX:(i:Int)<3:=by omega
   have ix:=fun W=>adO I bY W;have D_:=Fl.Rx c L i i (lRq _);have cb:=fF.out.vS bY;have J4:=xG (b i) w.heap.size (lj i) (Fl.lf c L i i) fV (fF.out.aG i bY) (J3.out.aG i bY).len;rw[D_]at J4;have nI:=hDq J4;have D':=hDq (hok.out.aG i bY).once;have tK:=hDq (hok.out.aG i bY).len;have RJ:Hid (upd (Fl.lf c L i) i (Fl.fh c (L i) 0)=Fl.lf c L i):=by show _=_;rw[Fl.adx,<- D_,rJ]
   have an6:=hDq D_;clear J4 D_
   go_wp2_with fail
   refine nI.out.mono ?_;rintro e w2 ⟨vl,rfl,hrow,hb2⟩;have cn:=hDq (fF.out.later hb2);have HS2:=hDq (J2.out.below hb2);have vI:=hDq (D9.out.later hb2);have RL:=J5 hrow;have au:Hid (fV.heap.size<=w2.heap.size):=hb2.size;have ik:=hDq hrow;have adS:=hDq fF.out;have RN:Hid (∀ g,J0.ownBlock=some g->g<fV.heap.size):=fun g hg=>(D9.out.row.lt g hg).2;clear hrow hb2 nI cb J2 D9;obtain⟨la,lc,hvl⟩:∃ la lc,vl=.slice la (L i).length lc:=by
    rcases RL with ⟨e,a,c,rfl⟩ | ⟨g,o,c,rfl,_⟩
    ·exact⟨a,c,by rw[e];rfl⟩
    ·exact⟨_,_,rfl⟩
   subst hvl;obtain⟨m,hm⟩:∃ m,(L i).length=m:=⟨_,rfl⟩;rw[hm]at ik;rw[hm];have abf:m<=60:=by rw[<- hm];exact tK.out
   have HM:=hDq hm;clear RL hm;have RO:Hid (∀ g,(Value.slice la m lc).ownBlock=some g->g<w2.heap.size):=fun g hg=>(ik.out.lt g hg).2;simp only[]
   go_wp2_with fail
   go_loopw [5,24] (fun u cc wl=>∃ (k:Nat) (pg:Nat->Value) (fk:Nat->Int),k<=m∧cc=.int .i64 k∧fk=Fl.D5 i (Fl.qg c L pf i) (Fl.j9 c (L i) k)∧bk w wl F P I b pg (upd (Fl.lf c L i) i (Fl.fh c (L i) k)) fk n wd h∧bJ W wl P I b v pg∧(∀ j,j<3->∀ g,(pg j).ownBlock=some g->(lj j).ownBlock=some g∨w2.heap.size<=g)∧Gone W wl b pg u (Fl.mG c L i++Fl.j9 c (L i) k)∧Fs.d7 (upd (Fl.lf c L i) i (Fl.fh c (L i) k)) fk∧wl.ownsRow fV.heap.size 197 5 (.slice la m lc) m (flat (L i))∧(∀ g,(Value.slice la m lc).ownBlock=some g->u.ownBlock≠some g)∧w2.heap.size<=wl.heap.size) (fun _ cc _=>m-(intOf cc).toNat)
   case atStart =>
    refine⟨0,lj,_,Nat.zero_le _,rfl,rfl,?_,HS2.out,fun j hj g hg=>.inl hg,?_,?_,ik.out,?_,lRq _⟩
    ·rw[RJ.out];exact cn.out
    ·rw[show Fl.j9 c (L i) 0=[] from rfl,aNq];exact vI.out
    ·rw[RJ.out];exact J3.out
    ·intro g hg e
     have h1:=(ik.out.lt g hg).1;have h2:=RN.out g e;omega
   case round =>
    obtain⟨k,pg,fk,hk,rfl,xV,hf,hs,hs2,hg,ho,hrow,hap,hsz⟩:=hrel;obtain⟨J6,adT⟩:∃ J6,J6=u5:=⟨_,rfl⟩;subst adT;obtain⟨wl,lM⟩:∃ wl,wl=wr:=⟨_,rfl⟩;subst lM;have xW:=hDq xV;have nR:=hDq hf;have tL:=hDq hs;have J7:=hDq hs2;have Ay:=hDq hg;have vT:=hDq ho;have qi:=hDq hrow;have J8:=hDq hap;have adU:=hDq hsz;clear xV hf hs hs2 hg ho hrow hap hsz cn HS2 vI ik RN;by_cases hlt:k<m
    ·have hkm:(k:Int)<m:=by omega
     have hkl:k<(L i).length:=by rw[HM.out];exact hlt
     obtain⟨gl,hla⟩:∃ gl,la=some ⟨gl,0,none⟩:=by
      rcases qi.out.2 with ⟨e,_⟩ | ⟨g,cap,cur,e,_⟩
      ·simp at e;omega
      ·simp at e;exact⟨g,e.1⟩
     subst hla;obtain⟨c0,c1,c2,c3,c4⟩:=(xX qi.out) k hkl;rw[show 0+k*5=k*5 by omega]at c0 c1 c2 c3 c4;have J9:=hDq (fun (hc:(Cv.nth (L i) k).ak=c)=>Fl.Rv D'.out hkl hc);have J_:=hDq (fun (hc:(Cv.nth (L i) k).ak≠c)=>Fl.keep_other hkl hc);have RP:=hDq (fun (hc:(Cv.nth (L i) k).ak=c)=>Fl.drop_one bY vT.out D'.out hkl hc);generalize Cv.nth (L i) k=X at *;obtain⟨x0,x1,x2,x3,x4⟩:=X;simp only[]at c0 c1 c2 c3 c4 J9 J_ RP;obtain⟨gI,qj⟩:∃ gI,wl.alloc (.cells #[.int .i64 x0,.int .i64 x1,.int .i64 x2,.int .i64 x3,.int .i64 x4] 197)=gI:=⟨_,rfl⟩;obtain⟨DD,xY⟩:∃ DD,wl.heap.size=DD:=⟨_,rfl⟩;have hba:Below wl.heap.size wl gI:=by rw[<- qj];exact(bRq _ _).alloc (lRq _) _
     have J':Hid (gI.heap[DD]?=some (.cells #[.int .i64 x0,.int .i64 x1,.int .i64 x2,.int .i64 x3,.int .i64 x4] 197 (0,0))):=by show _=_;rw[<- qj,<- xY];exact hNq _ _
     have Az:=hDq (nR.out.later hba);have Ka:=hDq (tL.out.below hba);have Ea:=hDq (Ay.out.later hba);have Eb:=hDq (dy qi.out hba);have RQ:=hDq (nR.out.fresh (q:=DD) (by omega));have an7:Hid (J6.ownBlock≠some DD):=fun e=>by have:=(Ay.out.row.lt DD e).2;omega
     have nS:Hid (w2.heap.size<=gI.heap.size):=lTq adU.out hba.size;have AA:=hDq qj;have Ec:=hDq xY;clear hba qj xY nR tL Ay qi;by_cases hc:x1=c
     ·obtain⟨RS,RU,adV,adW⟩:=J9.out hc
      have hlen:=(vT.out.aG i bY).len;rw[upd_same]at hlen;have Kc:=RI i bY ⟨x0,x1,x2,x3,x4⟩ Az.out he.out vT.out.good (by show _<=_;rw[upd_same];exact hlen);rw[upd_same,vK,RS]at Kc;have Ed:=hDq Kc;unfold bS at Ed;simp only[]at Ed;have RV:=hDq RU;clear RS RU adV adW hlen Kc J9 J_;subst hc
      go_wp2_with fail
      rw[AA.out,Ec.out];refine Ed.out.mono ?_;rintro e bU ⟨rfl,vb,xZ,k_⟩;have rM:=hDq (Ka.out.trans k_);have adX:Hid (∀ j,j<3->∀ g,(vb j).ownBlock=some g->(lj j).ownBlock=some g∨w2.heap.size<=g):=fun j hj g hg=>by
       rcases k_.new j hj g hg with h5 | h5
       ·exact J7.out j hj g h5
       ·exact .inr (lTq nS.out h5)
      have AB:=hDq (Ea.out.act Az.out k_);have ya:Hid (bU.heap[DD]?=some (.cells #[.int .i64 x0,.int .i64 x1,.int .i64 x2,.int .i64 x3,.int .i64 x4] 197 (0,0))):=by show _=_;rw[k_.keep DD (lBq J'.out) RQ.out.2.1 RQ.out.2.2];exact J'.out
      have hrb:bU.ownsRow fV.heap.size 197 5 (.slice (some ⟨gl,0,none⟩) m lc) m (flat (L i)):=by
       refine⟨Eb.out.1,?_⟩;rcases Eb.out.2 with hn | ⟨g,cap,cur,e,hg,dL,rest⟩
       ·exact .inl hn
       ·obtain⟨_,f2,f3⟩:=adS.out.fresh hg
        refine .inr ⟨g,cap,cur,e,hg,?_,rest⟩;rw[k_.keep g (lBq dL) f2 (fun j hj=>⟨(f3 j hj).1,(f3 j hj).2.1,fun e2=>?_⟩)]
        ·exact dL
        ·rcases J7.out j hj g e2 with h5 | h5
         ·exact(f3 j hj).2.2 h5
         ·have:=RO.out g (by rw[e];rfl);omega
      have RX:Hid (gI.heap.size<=bU.heap.size):=k_.size;have eN:=hDq hrb;have ft:=hDq xZ;clear xZ k_ hrb Ed Az Ka Ea J' Eb;have jg:bU.cell? ⟨DD,0,none⟩=some (.int .i64 x0):=by rw[cR bU _ 0 _ _ _ ya.out];rfl
      have k1:bU.cell? ⟨DD,1,none⟩=some (.int .i64 x1):=by rw[cR bU _ 1 _ _ _ ya.out];rfl
      have k2:bU.cell? ⟨DD,2,none⟩=some (.int .i64 x2):=by rw[cR bU _ 2 _ _ _ ya.out];rfl
      have k3:bU.cell? ⟨DD,3,none⟩=some (.int .i64 x3):=by rw[cR bU _ 3 _ _ _ ya.out];rfl
      have k4:bU.cell? ⟨DD,4,none⟩=some (.int .i64 x4):=by rw[cR bU _ 4 _ _ _ ya.out];rfl
      have AF:Hid ((Fl.mG x1 L i++Fl.j9 x1 (L i) k).length<=400):=by
       have h1:=Ax.out i (by omega);have h2:=List.length_filter_le (fun x:Cv.ag=>x.ak==x1) ((L i).take k);have h3:=List.length_take_le k (L i);have h4:=tK.out;show _<=_;unfold Fl.j9;rw[lAq];omega
      generalize RY:Fl.mG x1 L i++Fl.j9 x1 (L i) k=Kd at *;have adY:=hDq RY;clear RY;simp only[]
      go_wp2_with (at_builtin;refine wpList_append_own_at _ rfl _ _ 195 rfl W.heap.size 197 i0 z0 5 40 Tryz.underlying195 Hi.out ew.out ez.out eA.out kB.out (by decide) _ _ _ rfl (AB.out.row.alloc _) ⟨bU.heap.size,0,none⟩ 1 1 (dW ⟨x0,x1,x2,x3,x4⟩) rfl rfl ?c1 ?c2 ?c3 ?c4 ?c5 ?_)
      case c1=>exact fun j y hj=>xE bU ⟨x0,x1,x2,x3,x4⟩ 197 _ rfl j y hj
      case c2 => exact fun y hu => by
                      simp only[dW,List.mem_cons,List.not_mem_nil,or_false]at hu;rcases hu with rfl | rfl | rfl | rfl | rfl <;> rfl
      case c3=>have:=AF.out;unfold maxLen;omega
      case c4=>have:=AF.out;omega
      case c5=>have:=rM.out.size;simp;omega
      intro ve we hown' hgrow _ hloc;have hb0:Below bU.heap.size bU (bU.alloc (.cells #[.int .i64 x0,.int .i64 x1,.int .i64 x2,.int .i64 x3,.int .i64 x4] 197)):=(bRq _ _).alloc (lRq _) _;have tM:=(ft.out.later hb0).grow (AB.out.later hb0) HW0.out hgrow;have yb:=(rM.out.below hb0).grown hgrow (fun g hg=>(AB.out.row.lt g hg).1);have hgo:Gone W we b vb ve (Kd++[Cv.ag.mk x0 x1 x2 x3 x4]):=by
       refine⟨?_,fun j hj g hg e=>?_⟩
       ·rw[show flat (Kd++[Cv.ag.mk x0 x1 x2 x3 x4])=flat Kd++dW ⟨x0,x1,x2,x3,x4⟩ by simp[flat],lAq]
        exact hown'
       ·have yc:=((ft.out.aG j hj).s7 g e).2
        rcases hloc with h5 | h5
        ·rw[h5]at hg;exact AB.out.ap j hj g hg e
        ·rw[h5]at hg
         simp at hg;omega
      have RZ:we.ownsRow fV.heap.size 197 5 (.slice (some ⟨gl,0,none⟩) m lc) m (flat (L i)):=by
       have gX:=dy eN.out hb0;refine⟨gX.1,?_⟩;rcases gX.2 with hn | ⟨g,cap,cur,e,hg,dL,rest⟩
       ·exact .inl hn
       ·exact .inr ⟨g,cap,cur,e,hg,by rw[hgrow.block g (lBq dL) (fun e2=>J8.out g (by rw[e];rfl) e2.symm)];exact dL,rest⟩
      have R1:∀ g,(Value.slice (some ⟨gl,0,none⟩) m lc).ownBlock=some g->ve.ownBlock≠some g:=fun g hg e=>by
       rcases hloc with h5 | h5
       ·rw[h5]at e;exact J8.out g hg e
       ·rw[h5]at e
        have h6:=RO.out g hg;have h7:=nS.out;have h8:=RX.out;simp at e;omega
      have R3:w2.heap.size<=we.heap.size:=by have:=nS.out;have:=RX.out;have:=hb0.size;have:=hgrow.size;omega
      have adZ:=hDq tM;have Ee:=hDq yb;have ad1:=hDq hgo;have iU:=hDq RZ;have o5:=hDq R1;have ad2:=hDq R3;clear hb0 tM yb hgo RZ R1 R3 hown' hgrow hloc jg k1 k2 k3 k4 ft rM AB eN ya;go_wp2;refine⟨⟨k+1,vb,_,by omega,by go_num,?_,adZ.out,Ee.out,adX.out,?_,RP.out (by simp),iU.out,o5.out,ad2.out⟩,by simp[intOf];omega⟩
      ·rw[xW.out,RV.out]
       unfold Fl.D5;rw[List.foldl_append];rfl
      ·rw[RV.out,<- aAq,adY.out]
       exact ad1.out
     ·obtain⟨h1,h2⟩:=J_.out hc
      have hcb:(x1==c)=false:=by simpa using hc
      rw[<- h1]at Az vT;rw[<- h2]at Ea xW;go_wp2;rw[AA.out];exact⟨⟨k+1,pg,fk,by omega,by go_num,xW.out,Az.out,Ka.out,J7.out,Ea.out,vT.out,Eb.out,J8.out,nS.out⟩,by simp[intOf];omega⟩
    ·have hkm:¬ (k:Int)<m:=by omega
     have e1:Fl.fh c (L i) k=(L i).filter (fun x=>!(x.ak==c)):=Fl.ady c (by rw[HM.out];omega);have e2:Fl.j9 c (L i) k=(L i).filter (fun x=>x.ak==c):=Fl.adz c (by rw[HM.out];omega);rw[e1]at nR vT;rw[e2]at xW Ay;go_wp2;refine⟨⟨i+1,pg,by omega,by go_num,?_,tL.out,Ay.out,?_⟩,by simp[intOf];omega⟩
     ·have:=nR.out;rw[xW.out]at this;exact this
     ·have:=vT.out;rw[xW.out]at this;exact this
  ·have aX:¬ (i:Int)<3:=by omega
   obtain rfl:i=3:=by omega
   go_wp2;go_ret;exact⟨_,_,rfl,D9.out.row,fF.out,J2.out,J3.out⟩
end
theorem nP {W:World} {D:Nat} (hz:W.heap[D]?=some (.cells #[.int .i64 0,.int .i64 0,.int .i64 0,.int .i64 0,.int .i64 0] 197 (0,0))) (x0 x1 x2 x3 x4:Int) :
  (((((W.setCell ⟨D,0,none⟩ (.int .i64 x0)).setCell ⟨D,1,none⟩ (.int .i64 x1)).setCell ⟨D,2,none⟩ (.int .i64 x2)).setCell ⟨D,3,none⟩ (.int .i64 x3)).setCell ⟨D,4,none⟩ (.int .i64 x4)).heap[D]?=some (.cells #[.int .i64 x0,.int .i64 x1,.int .i64 x2,.int .i64 x3,.int .i64 x4] 197 (0,0)):=by
 have h0:(W.setCell ⟨D,0,none⟩ (.int .i64 x0)).heap[D]?=some (.cells #[.int .i64 x0,.int .i64 0,.int .i64 0,.int .i64 0,.int .i64 0] 197 (0,0)):=by
  rw[setCell_eq_setRow _ D 0 _ _ _ _ hz];exact setRow_heap _ D _ _ _ _ hz
 have h1:((W.setCell ⟨D,0,none⟩ (.int .i64 x0)).setCell ⟨D,1,none⟩ (.int .i64 x1)).heap[D]?=some (.cells #[.int .i64 x0,.int .i64 x1,.int .i64 0,.int .i64 0,.int .i64 0] 197 (0,0)):=by
  rw[setCell_eq_setRow _ D 1 _ _ _ _ h0];exact setRow_heap _ D _ _ _ _ h0
 have h2:(((W.setCell ⟨D,0,none⟩ (.int .i64 x0)).setCell ⟨D,1,none⟩ (.int .i64 x1)).setCell ⟨D,2,none⟩ (.int .i64 x2)).heap[D]?=some (.cells #[.int .i64 x0,.int .i64 x1,.int .i64 x2,.int .i64 0,.int .i64 0] 197 (0,0)):=by
  rw[setCell_eq_setRow _ D 2 _ _ _ _ h1];exact setRow_heap _ D _ _ _ _ h1
 have h3:((((W.setCell ⟨D,0,none⟩ (.int .i64 x0)).setCell ⟨D,1,none⟩ (.int .i64 x1)).setCell ⟨D,2,none⟩ (.int .i64 x2)).setCell ⟨D,3,none⟩ (.int .i64 x3)).heap[D]?=some (.cells #[.int .i64 x0,.int .i64 x1,.int .i64 x2,.int .i64 x3,.int .i64 0] 197 (0,0)):=by
  rw[setCell_eq_setRow _ D 3 _ _ _ _ h2];exact setRow_heap _ D _ _ _ _ h2
 rw[setCell_eq_setRow _ D 4 _ _ _ _ h3];exact setRow_heap _ D _ _ _ _ h3
theorem Am {n:Nat} {w W:World} {D:Nat} (h:Below n w W) (hD:n<=D) (x0 x1 x2 x3 x4:Value):Below n w (((((W.setCell ⟨D,0,none⟩ x0).setCell ⟨D,1,none⟩ x1).setCell ⟨D,2,none⟩ x2).setCell ⟨D,3,none⟩ x3).setCell ⟨D,4,none⟩ x4) :=
 ((((h.setCell (p:=⟨D,0,none⟩) hD _).setCell (p:=⟨D,1,none⟩) hD _).setCell (p:=⟨D,2,none⟩) hD _).setCell (p:=⟨D,3,none⟩) hD _).setCell (p:=⟨D,4,none⟩) hD _
theorem vN (W:World) (D:Nat) (x0 x1 x2 x3 x4:Value):aM W (((((W.setCell ⟨D,0,none⟩ x0).setCell ⟨D,1,none⟩ x1).setCell ⟨D,2,none⟩ x2).setCell ⟨D,3,none⟩ x3).setCell ⟨D,4,none⟩ x4) D:=((((aM.setCell _ _ _ _).put _ _).put _ _).put _ _).put _ _
section
variable {w W:World} {F P:Nat} {I b:Nat->Nat} {v:Nat->Value} {L:Nat->List Cv.ag} {pf n:Nat->Int} {wd h:Int} {ev:Nat->Value}
theorem adG (a:Ask) (hF:Hid (bk w W F P I b v L pf n wd h)) (he:Hid (ee w ev)) (hk:Hid (Fl.fP a 99≠0)) :
  Calls Tryz.prog 217 #[.pointer (some ⟨F,0,none⟩),bM a] W fun e W'=>e=.returned (.tuple #[bS (Fl.fD L a),cV ev (Fl.dx L pf a)])∧∃ v',bk w W' F P I b v' (Fl.eu L a) (Fl.jG L pf a) n wd h∧bJ W W' P I b v v':=by
 have hpos:=Fl.JM hk.out;have hC:Fl.dx L pf a=Fl.mH a 99:=by unfold Fl.dx Fl.mH;rw[if_neg hk.out]
 have hne:Fl.dx L pf a≠0:=by rw[hC];unfold Fl.mH;omega
 have hX:Fl.fD L a=Cv.z:=by unfold Fl.fD;rw[if_neg (fun h=>hk.out h.1)]
 have hL:Fl.eu L a=L:=by unfold Fl.eu;rw[if_neg (fun h=>hk.out h.1)]
 have hP:Fl.jG L pf a=pf:=by unfold Fl.jG;rw[if_neg (fun h=>hk.out h.1)]
 rw[hX,hL,hP,hC];rw[hC]at hne;have HK:=hDq (fun W' (hb:Below W.heap.size W W')=>Ao a 99 W' ((hF.out.bN he.out).below hb) (by decide));generalize Fl.mH a 99=Ap at *;obtain⟨d,rfl⟩:∃ d,Ap=d+1:=⟨Ap-1,by omega⟩;rw[show cV ev (d+1)=.iface 412 (ev (d+1)) from rfl]at HK ⊢;clear hC hne hX hL hP;obtain⟨aU,ac,aZ,bB,asd,aK,aq,aH⟩:=a;unfold bM aT at HK ⊢;simp only[]at HK ⊢;have hb0:Below W.heap.size W ((W.alloc (.cells #[.int .u8 aU,.int .i64 ac,.int .i64 aZ,.int .i64 bB,.int .i64 asd,.int .i64 aK,.int .i64 aq,.int .i64 aH] 95)).alloc (.cells #[.int .i64 0,.int .i64 0,.int .i64 0,.int .i64 0,.int .i64 0] 197)):=((bRq _ _).alloc (lRq _) _).alloc (by simp) _;have hz0:((W.alloc (.cells #[.int .u8 aU,.int .i64 ac,.int .i64 aZ,.int .i64 bB,.int .i64 asd,.int .i64 aK,.int .i64 aq,.int .i64 aH] 95)).alloc (.cells #[.int .i64 0,.int .i64 0,.int .i64 0,.int .i64 0,.int .i64 0] 197)).heap[W.heap.size+1]?=some (.cells #[.int .i64 0,.int .i64 0,.int .i64 0,.int .i64 0,.int .i64 0] 197 (0,0)):=by have:=hNq (W.alloc (.cells #[.int .u8 aU,.int .i64 ac,.int .i64 aZ,.int .i64 bB,.int .i64 asd,.int .i64 aK,.int .i64 aq,.int .i64 aH] 95)) (.cells #[.int .i64 0,.int .i64 0,.int .i64 0,.int .i64 0,.int .i64 0] 197);simpa using this
 have bF:=hDq hb0;have jH:=hDq hz0;clear hb0 hz0;go_enter Tryz.func217,Tryz.ntmps217
 go_wp2_with fail
 refine(HK.out _ bF.out).mono ?_;rintro e w2 ⟨rfl,hb2⟩;have HB2:=hDq (bF.out.trans (hb2.mono bF.out.size));have HZ2:Hid (w2.heap[W.heap.size+1]?=some (.cells #[.int .i64 0,.int .i64 0,.int .i64 0,.int .i64 0,.int .i64 0] 197 (0,0))):=by show _=_;rw[hb2.block _ (lBq jH.out)];exact jH.out
 clear hb2 HK bF jH;generalize hR:W.heap.size+1=R at *;have r0:w2.cell? ⟨R,0,none⟩=some (.int .i64 0):=by rw[cR w2 _ 0 _ _ _ HZ2.out];rfl
 have r1:w2.cell? ⟨R,1,none⟩=some (.int .i64 0):=by rw[cR w2 _ 1 _ _ _ HZ2.out];rfl
 have r2:w2.cell? ⟨R,2,none⟩=some (.int .i64 0):=by rw[cR w2 _ 2 _ _ _ HZ2.out];rfl
 have r3:w2.cell? ⟨R,3,none⟩=some (.int .i64 0):=by rw[cR w2 _ 3 _ _ _ HZ2.out];rfl
 have r4:w2.cell? ⟨R,4,none⟩=some (.int .i64 0):=by rw[cR w2 _ 4 _ _ _ HZ2.out];rfl
 have q:∀ j,w2.frozen? ⟨R,j,none⟩=false:=fun j=>by simp[World.frozen?,HZ2.out]
 have q0:=q 0;have q1:=q 1;have q2:=q 2;have q3:=q 3;have q4:=q 4;clear q;have Aq:Hid (W.heap.size<=R):=by show _<=_;omega
 clear hR;simp only[];go_wp2;have cW:=nP HZ2.out 0 0 0 0 0;have je:=Am HB2.out Aq.out (.int .i64 0) (.int .i64 0) (.int .i64 0) (.int .i64 0) (.int .i64 0);generalize (((((w2.setCell ⟨R,0,none⟩ (.int .i64 0)).setCell ⟨R,1,none⟩ (.int .i64 0)).setCell ⟨R,2,none⟩ (.int .i64 0)).setCell ⟨R,3,none⟩ (.int .i64 0)).setCell ⟨R,4,none⟩ (.int .i64 0))=Wf at *;have z0:Wf.cell? ⟨R,0,none⟩=some (.int .i64 0):=by rw[cR Wf _ 0 _ _ _ cW];rfl
 have dn:Wf.cell? ⟨R,1,none⟩=some (.int .i64 0):=by rw[cR Wf _ 1 _ _ _ cW];rfl
 have z2:Wf.cell? ⟨R,2,none⟩=some (.int .i64 0):=by rw[cR Wf _ 2 _ _ _ cW];rfl
 have z3:Wf.cell? ⟨R,3,none⟩=some (.int .i64 0):=by rw[cR Wf _ 3 _ _ _ cW];rfl
 have z4:Wf.cell? ⟨R,4,none⟩=some (.int .i64 0):=by rw[cR Wf _ 4 _ _ _ cW];rfl
 exact bodyPost_ret (v:=.tuple #[.agg #[.int .i64 0,.int .i64 0,.int .i64 0,.int .i64 0,.int .i64 0],.iface 412 (ev (d+1))]) (by simp[results,Tryz.results217,go_sem,z0,dn,z2,z3,z4]) rfl ⟨rfl,v,hF.out.later je,bJ.of_below je P I b v⟩
theorem adH (a:Ask) (hF:Hid (bk w W F P I b v L pf n wd h)) (he:Hid (ee w ev)) (hok:Hid (Fs.d7 L pf)) (hk:Hid (Fl.fP a 99=0)) (hm:Hid (Fl.mine L a=false)) :
  Calls Tryz.prog 217 #[.pointer (some ⟨F,0,none⟩),bM a] W fun e W'=>e=.returned (.tuple #[bS (Fl.fD L a),cV ev (Fl.dx L pf a)])∧∃ v',bk w W' F P I b v' (Fl.eu L a) (Fl.jG L pf a) n wd h∧bJ W W' P I b v v':=by
 have hit:=Fl.D4 hk.out;obtain⟨i,hi⟩:∃ i:Nat,a.it=i:=⟨a.it.toNat,by omega⟩;have bY:i<3:=by omega
 have j_:a.it.toNat=i:=by omega
 have HK:=hDq (fun W' (hb:Below W.heap.size W W')=>Ao a 99 W' ((hF.out.bN he.out).below hb) (by decide));rw[Fl.JW hk.out,show cV ev 0=.nilIface from rfl]at HK;have xU:Fl.dx L pf a=5:=by unfold Fl.dx;rw[if_pos hk.out,if_neg (by rw[hm.out];simp)]
 have hX:Fl.fD L a=Cv.z:=by unfold Fl.fD;rw[if_neg (fun h=>by rw[hm.out]at h;simp at h)]
 have hL:Fl.eu L a=L:=by unfold Fl.eu;rw[if_neg (fun h=>by rw[hm.out]at h;simp at h)]
 have hP:Fl.jG L pf a=pf:=by unfold Fl.jG;rw[if_neg (fun h=>by rw[hm.out]at h;simp at h)]
 rw[hX,hL,hP,xU,show cV ev 5=.iface 412 (ev 5) from rfl];clear hX hL hP xU;have hmm:=hm.out;unfold Fl.mine at hmm;rw[j_]at hmm;obtain⟨aU,ac,aZ,bB,asd,aK,aq,aH⟩:=a;simp only[]at hi j_;subst hi;unfold bM aT at HK ⊢;simp only[]at HK ⊢;simp only[]at hmm;obtain⟨is,D8⟩:∃ is,Cv.has (L i) aH=is:=⟨_,rfl⟩;obtain⟨⟨x0,x1,x2,x3,x4⟩,hX⟩:∃ X,Bk.jw (L i) aH=X:=⟨_,rfl⟩;have Ar:Hid (Cv.has (L i) aH=is∧Bk.jw (L i) aH=⟨x0,x1,x2,x3,x4⟩):=⟨D8,hX⟩;have hno:is=false∨is=true∧x1≠ac:=by
  cases is with
  | false=>exact .inl rfl
  | true =>
   refine .inr ⟨rfl,fun e=>?_⟩;rw[D8,Bool.true_and]at hmm;have hn:Cv.nth (L i) (Bk.pos (L i) aH)=⟨x0,x1,x2,x3,x4⟩:=by rw[<- hX];unfold Bk.jw;rw[if_pos D8]
   rw[hn]at hmm;simp[e]at hmm
 clear hmm D8 hX;clear hit hk j_;obtain⟨R,hR⟩:∃ R,W.heap.size+1=R:=⟨_,rfl⟩;obtain⟨A,hA⟩:∃ A,W.heap.size=A:=⟨_,rfl⟩;obtain⟨w1,dM⟩:∃ w1,(W.alloc (.cells #[.int .u8 aU,.int .i64 ac,.int .i64 aZ,.int .i64 i,.int .i64 asd,.int .i64 aK,.int .i64 aq,.int .i64 aH] 95)).alloc (.cells #[.int .i64 0,.int .i64 0,.int .i64 0,.int .i64 0,.int .i64 0] 197)=w1:=⟨_,rfl⟩;have hb1:Below W.heap.size W w1:=by rw[<- dM];exact((bRq _ _).alloc (lRq _) _).alloc (by simp) _
 have HR1:Hid (w1.heap[R]?=some (.cells #[.int .i64 0,.int .i64 0,.int .i64 0,.int .i64 0,.int .i64 0] 197 (0,0))):=by
  show _=_;rw[<- dM,<- hR]
  have:=hNq (W.alloc (.cells #[.int .u8 aU,.int .i64 ac,.int .i64 aZ,.int .i64 i,.int .i64 asd,.int .i64 aK,.int .i64 aq,.int .i64 aH] 95)) (.cells #[.int .i64 0,.int .i64 0,.int .i64 0,.int .i64 0,.int .i64 0] 197)
  simpa using this
 have HA1:Hid (w1.heap[A]?=some (.cells #[.int .u8 aU,.int .i64 ac,.int .i64 aZ,.int .i64 i,.int .i64 asd,.int .i64 aK,.int .i64 aq,.int .i64 aH] 95 (0,0))):=by
  show _=_;rw[<- dM,<- hA];exact(Below.heap_alloc _ _ _ (by simp)).trans (hNq W _)
 have HB1:=hDq hb1;have HRW:Hid (W.heap.size<=R):=by show _<=_;omega
 have HW1:=hDq dM;have iU:=hDq hR;have o5:=hDq hA;clear hb1 dM hR hA;go_enter Tryz.func217,Tryz.ntmps217
 go_wp2_with fail
 rw[HW1.out,iU.out,o5.out];refine(HK.out _ HB1.out).mono ?_;rintro e w2 ⟨rfl,hb2⟩;have hbW2:=HB1.out.trans (hb2.mono HB1.out.size);have bg:Hid (w2.heap[R]?=some (.cells #[.int .i64 0,.int .i64 0,.int .i64 0,.int .i64 0,.int .i64 0] 197 (0,0))):=by show _=_;rw[hb2.block _ (lBq HR1.out)];exact HR1.out
 have cm:Hid (w2.heap[A]?=some (.cells #[.int .u8 aU,.int .i64 ac,.int .i64 aZ,.int .i64 i,.int .i64 asd,.int .i64 aK,.int .i64 aq,.int .i64 aH] 95 (0,0))):=by show _=_;rw[hb2.block _ (lBq HA1.out)];exact HA1.out
 have cn:=hDq (hF.out.later hbW2);have HS2:=hDq (bJ.of_below hbW2 P I b v);clear hb2 hbW2 HB1 HR1 HA1 HW1 iU o5 HK;have vO:(0:Int)<=(i:Int):=by omega
 have RF:(i:Int)<3:=by omega
 simp only[]
 go_wp2_with fail
 obtain⟨bG,val,hcl,aP⟩:=Au F (I i) A (.cells (tG I P wd h) 210 (0,0)) (.cells (tH (b i) (n (i*2)) (n (i*2+1))) 267 (0,0)) (.cells #[.int .u8 aU,.int .i64 ac,.int .i64 aZ,.int .i64 i,.int .i64 asd,.int .i64 aK,.int .i64 aq,.int .i64 aH] 95 (0,0));obtain⟨y0,k5⟩:=aP w2.drew ⟨cn.out.blk,cn.out.it i bY,cm.out⟩;have hnx:Nonempty bG:=⟨y0⟩;have JX:∀ x,(val x).cell? ⟨F,2+i,none⟩=some (.pointer (some ⟨I i,0,none⟩)):=fun x=>by
  rw[cR _ _ _ _ _ _ (hcl x).1];have:i=0∨i=1∨i=2:=by omega
  rcases this with rfl | rfl | rfl <;> rfl
 have eb:∀ x,(val x).cell? ⟨I i,0,none⟩=some (.pointer (some ⟨b i,0,none⟩)):=fun x=>by rw[cR _ _ _ _ _ _ (hcl x).2.1];rfl
 have e3:∀ x,(val x).cell? ⟨A,3,none⟩=some (.int .i64 i):=fun x=>by rw[cR _ _ _ _ _ _ (hcl x).2.2];rfl
 have e7:∀ x,(val x).cell? ⟨A,7,none⟩=some (.int .i64 aH):=fun x=>by rw[cR _ _ _ _ _ _ (hcl x).2.2];rfl
 have hbd:Below w2.heap.size w2 w2.drew:=⟨rfl,rfl,rfl,lRq _,fun _ _=>rfl⟩;have dh:=hDq (cn.out.later hbd);have cr:=hDq (HS2.out.below hbd);have bO:Hid (w2.drew.heap[R]?=some (.cells #[.int .i64 0,.int .i64 0,.int .i64 0,.int .i64 0,.int .i64 0] 197 (0,0))):=bg.out;have ei:Hid (w2.drew.heap[A]?=some (.cells #[.int .u8 aU,.int .i64 ac,.int .i64 aZ,.int .i64 i,.int .i64 asd,.int .i64 aK,.int .i64 aq,.int .i64 aH] 95 (0,0))):=cm.out;obtain⟨w4,hw4⟩:∃ w4,w2.drew=w4:=⟨_,rfl⟩;rw[hw4]at dh cr bO ei;have aN:Hid (∀ W',Below w4.heap.size w4 W'->∃ x,val x=W'):=fun W' hb=>aP W' ⟨(dh.out.later hb).blk,(dh.out.later hb).it i bY,by rw[hb.block _ (lBq ei.out)];exact ei.out⟩;have jf:Hid (∀ W',Below w4.heap.size w4 W'->Calls Tryz.prog 192 #[.pointer (some ⟨b i,0,none⟩),.int .i64 aH] W' fun e w'=>e=.returned (.tuple #[.agg #[.int .i64 x0,.int .i64 x1,.int .i64 x2,.int .i64 x3,.int .i64 x4],.bool is])∧Below W'.heap.size W' w'):=fun W' hb=>by
  have:=DC (b i) w.heap.size (v i) aH (L i) W' ((dh.out.later hb).aG i bY) (hok.out.aG i bY).len
  rw[Ar.out.1,Ar.out.2]at this;exact this
 clear aP hcl cn HS2 bg cm hbd;refine tJ (val:=val) (fun D ai=>ai.heap[D]?=some (.cells #[.int .i64 x0,.int .i64 x1,.int .i64 x2,.int .i64 x3,.int .i64 x4] 197 (0,0))∧w4.heap.size<=D∧Below w4.heap.size w4 ai) (.read 0 (.read 1 (.read 2 (.read 3 (.read 4 (.read 5 (.read 6 (.read 7 (.read 8 (.read 9 (.read 10 (.read 11 (.two 12 (.read 13 (.read 14 (.read 15 (.one 16 (.one 17 (.read 18 .done)))))) 16 (.one 12 (.read 13 (.read 14 (.read 15 (.one 17 (.read 18 .done))))))))))))))))))) (by kernel_rfl) (by kernel_rfl) y0 k5 ?_;apply Exists.intro;refine⟨?_,?_⟩
 case' refine_1 =>
  rw[k5,hw4]
  iterate 12 (refine cu rfl (fun K hK=>?_);refine⟨by rfl,?_⟩;unfold aA;go_simp;refine hK _ ?_;clear hK K)
  have fQ:Hid (Below w4.heap.size w4 w4):=bRq _ _;refine⟨?_,?_⟩
  case refine_1 =>
   refine bW rfl (fun K hK=>?_);refine⟨by rfl,?_⟩;unfold aQ;go_simp;refine(jf.out _ fQ.out).mono ?_;rintro e wc ⟨rfl,hbc⟩;have ej:=hDq (fQ.out.trans (hbc.mono fQ.out.size));refine⟨_,rfl,aN.out _ ej.out,hK _ _ ?_⟩;clear hK K hbc
   iterate 3 (refine cu rfl (fun K hK=>?_);refine⟨by rfl,?_⟩;unfold aA;go_simp;refine hK _ ?_;clear hK K)
   refine bW rfl (fun K hK=>?_);refine⟨by rfl,?_⟩;unfold aQ;go_simp;obtain⟨D,hD⟩:∃ D,wc.heap.size=D:=⟨_,rfl⟩;obtain⟨aj,hwz⟩:∃ aj,wc.alloc (.cells #[.int .i64 0,.int .i64 0,.int .i64 0,.int .i64 0,.int .i64 0] 197)=aj:=⟨_,rfl⟩;rw[hD,hwz];have cg:Hid (Below w4.heap.size w4 aj):=by show Below _ _ _;rw[<- hwz];exact ej.out.alloc ej.out.size _
   have au:Hid (aj.heap[D]?=some (.cells #[.int .i64 0,.int .i64 0,.int .i64 0,.int .i64 0,.int .i64 0] 197 (0,0))):=by show _=_;rw[<- hwz,<- hD];exact hNq _ _
   have fq:Hid (w4.heap.size<=D):=by have:=ej.out.size;show _<=_;omega
   refine⟨aN.out _ cg.out,hK _ _ ?_⟩;clear hK K hwz hD;have c0:aj.cell? ⟨D,0,none⟩=some (.int .i64 0):=by rw[cR aj _ 0 _ _ _ au.out];rfl
   have f0:aj.frozen? ⟨D,0,none⟩=false:=by simp[World.frozen?,au.out]
   have c1:aj.cell? ⟨D,1,none⟩=some (.int .i64 0):=by rw[cR aj _ 1 _ _ _ au.out];rfl
   have f1:aj.frozen? ⟨D,1,none⟩=false:=by simp[World.frozen?,au.out]
   have c2:aj.cell? ⟨D,2,none⟩=some (.int .i64 0):=by rw[cR aj _ 2 _ _ _ au.out];rfl
   have f2:aj.frozen? ⟨D,2,none⟩=false:=by simp[World.frozen?,au.out]
   have c3:aj.cell? ⟨D,3,none⟩=some (.int .i64 0):=by rw[cR aj _ 3 _ _ _ au.out];rfl
   have f3:aj.frozen? ⟨D,3,none⟩=false:=by simp[World.frozen?,au.out]
   have c4:aj.cell? ⟨D,4,none⟩=some (.int .i64 0):=by rw[cR aj _ 4 _ _ _ au.out];rfl
   have f4:aj.frozen? ⟨D,4,none⟩=false:=by simp[World.frozen?,au.out]
   have HX:=hDq (nP au.out x0 x1 x2 x3 x4);have aS:=hDq (Am cg.out fq.out (.int .i64 x0) (.int .i64 x1) (.int .i64 x2) (.int .i64 x3) (.int .i64 x4));refine bW rfl (fun K hK=>?_);refine⟨by rfl,?_⟩;unfold aQ;go_simp;refine⟨aN.out _ aS.out,hK _ _ ?_⟩;clear hK K au c0 c1 c2 c3 c4 f0 f1 f2 f3 f4;generalize (((((aj.setCell ⟨D,0,none⟩ (.int .i64 x0)).setCell ⟨D,1,none⟩ (.int .i64 x1)).setCell ⟨D,2,none⟩ (.int .i64 x2)).setCell ⟨D,3,none⟩ (.int .i64 x3)).setCell ⟨D,4,none⟩ (.int .i64 x4))=ai at *;refine cu rfl (fun K hK=>?_);refine⟨by rfl,?_⟩;unfold aA;go_simp;refine hK _ ?_;clear hK K;refine iT ?_;exact⟨D,rfl,HX.out,fq.out,aS.out⟩
  case refine_2 =>
   refine bW rfl (fun K hK=>?_);refine⟨by rfl,?_⟩;unfold aQ;go_simp;obtain⟨D,hD⟩:∃ D,w4.heap.size=D:=⟨_,rfl⟩;obtain⟨ij,hwz⟩:∃ aj,w4.alloc (.cells #[.int .i64 0,.int .i64 0,.int .i64 0,.int .i64 0,.int .i64 0] 197)=aj:=⟨_,rfl⟩;rw[hD,hwz];have cO:Hid (Below w4.heap.size w4 ij):=by show Below _ _ _;rw[<- hwz];exact fQ.out.alloc fQ.out.size _
   have o6:Hid (ij.heap[D]?=some (.cells #[.int .i64 0,.int .i64 0,.int .i64 0,.int .i64 0,.int .i64 0] 197 (0,0))):=by show _=_;rw[<- hwz,<- hD];exact hNq _ _
   have fq:Hid (w4.heap.size<=D):=by have:=fQ.out.size;show _<=_;omega
   refine⟨aN.out _ cO.out,hK _ _ ?_⟩;clear hK K hwz hD;refine bW rfl (fun K hK=>?_);refine⟨by rfl,?_⟩;unfold aQ;go_simp;refine(jf.out _ cO.out).mono ?_;rintro e aj ⟨rfl,hbc⟩;have cg:=hDq (cO.out.trans (hbc.mono cO.out.size));have au:Hid (aj.heap[D]?=some (.cells #[.int .i64 0,.int .i64 0,.int .i64 0,.int .i64 0,.int .i64 0] 197 (0,0))):=by show _=_;rw[hbc.block _ (lBq o6.out)];exact o6.out
   refine⟨_,rfl,aN.out _ cg.out,hK _ _ ?_⟩;clear hK K hbc
   iterate 3 (refine cu rfl (fun K hK=>?_);refine⟨by rfl,?_⟩;unfold aA;go_simp;refine hK _ ?_;clear hK K)
   have c0:aj.cell? ⟨D,0,none⟩=some (.int .i64 0):=by rw[cR aj _ 0 _ _ _ au.out];rfl
   have f0:aj.frozen? ⟨D,0,none⟩=false:=by simp[World.frozen?,au.out]
   have c1:aj.cell? ⟨D,1,none⟩=some (.int .i64 0):=by rw[cR aj _ 1 _ _ _ au.out];rfl
   have f1:aj.frozen? ⟨D,1,none⟩=false:=by simp[World.frozen?,au.out]
   have c2:aj.cell? ⟨D,2,none⟩=some (.int .i64 0):=by rw[cR aj _ 2 _ _ _ au.out];rfl
   have f2:aj.frozen? ⟨D,2,none⟩=false:=by simp[World.frozen?,au.out]
   have c3:aj.cell? ⟨D,3,none⟩=some (.int .i64 0):=by rw[cR aj _ 3 _ _ _ au.out];rfl
   have f3:aj.frozen? ⟨D,3,none⟩=false:=by simp[World.frozen?,au.out]
   have c4:aj.cell? ⟨D,4,none⟩=some (.int .i64 0):=by rw[cR aj _ 4 _ _ _ au.out];rfl
   have f4:aj.frozen? ⟨D,4,none⟩=false:=by simp[World.frozen?,au.out]
   have HX:=hDq (nP au.out x0 x1 x2 x3 x4);have aS:=hDq (Am cg.out fq.out (.int .i64 x0) (.int .i64 x1) (.int .i64 x2) (.int .i64 x3) (.int .i64 x4));refine bW rfl (fun K hK=>?_);refine⟨by rfl,?_⟩;unfold aQ;go_simp;refine⟨aN.out _ aS.out,hK _ _ ?_⟩;clear hK K au c0 c1 c2 c3 c4 f0 f1 f2 f3 f4;generalize (((((aj.setCell ⟨D,0,none⟩ (.int .i64 x0)).setCell ⟨D,1,none⟩ (.int .i64 x1)).setCell ⟨D,2,none⟩ (.int .i64 x2)).setCell ⟨D,3,none⟩ (.int .i64 x3)).setCell ⟨D,4,none⟩ (.int .i64 x4))=ai at *;refine cu rfl (fun K hK=>?_);refine⟨by rfl,?_⟩;unfold aA;go_simp;refine hK _ ?_;clear hK K;refine iT ?_;exact⟨D,rfl,HX.out,fq.out,aS.out⟩
 intro D ai ⟨o7,o8,hb6⟩;have HX:=hDq o7;have eM:=hDq (dh.out.later hb6);have dv:=hDq (cr.out.below hb6);have bA:Hid (ai.heap[R]?=some (.cells #[.int .i64 0,.int .i64 0,.int .i64 0,.int .i64 0,.int .i64 0] 197 (0,0))):=by show _=_;rw[hb6.block _ (lBq bO.out)];exact bO.out
 have gL:Hid (ai.heap[A]?=some (.cells #[.int .u8 aU,.int .i64 ac,.int .i64 aZ,.int .i64 i,.int .i64 asd,.int .i64 aK,.int .i64 aq,.int .i64 aH] 95 (0,0))):=by show _=_;rw[hb6.block _ (lBq ei.out)];exact ei.out
 have HDR:Hid (D≠R):=fun e=>by have:=lBq bO.out;omega
 have nQ:=hDq (dh.out.fresh o8);have lQ:=hDq (hF.out.fresh HRW.out);clear o7 o8 hb6 dh cr bO ei jf hw4;clear k5 JX eb e3 e7 aN;clear y0 hnx;clear val;clear bG;have d0:ai.cell? ⟨D,0,none⟩=some (.int .i64 x0):=by rw[cR ai _ 0 _ _ _ HX.out];rfl
 have d1:ai.cell? ⟨D,1,none⟩=some (.int .i64 x1):=by rw[cR ai _ 1 _ _ _ HX.out];rfl
 have d2:ai.cell? ⟨D,2,none⟩=some (.int .i64 x2):=by rw[cR ai _ 2 _ _ _ HX.out];rfl
 have d3:ai.cell? ⟨D,3,none⟩=some (.int .i64 x3):=by rw[cR ai _ 3 _ _ _ HX.out];rfl
 have d4:ai.cell? ⟨D,4,none⟩=some (.int .i64 x4):=by rw[cR ai _ 4 _ _ _ HX.out];rfl
 have a1:ai.cell? ⟨A,1,none⟩=some (.int .i64 ac):=by rw[cR ai _ 1 _ _ _ gL.out];rfl
 have a3:ai.cell? ⟨A,3,none⟩=some (.int .i64 i):=by rw[cR ai _ 3 _ _ _ gL.out];rfl
 rcases hno with e | ⟨e,hne⟩
 ·subst e
  have g5:=(eM.out.bN he.out).c5;have JY:¬ (6=R):=fun e=>by have:=bCq _ _ (hF.out.bN he.out).c5;have:=HRW.out;simp at *;omega
  have qh:¬ (R=6):=fun e=>JY e.symm;have r0:ai.cell? ⟨R,0,none⟩=some (.int .i64 0):=by rw[cR ai _ 0 _ _ _ bA.out];rfl
  have q0:ai.frozen? ⟨R,0,none⟩=false:=by simp[World.frozen?,bA.out]
  have r1:ai.cell? ⟨R,1,none⟩=some (.int .i64 0):=by rw[cR ai _ 1 _ _ _ bA.out];rfl
  have q1:ai.frozen? ⟨R,1,none⟩=false:=by simp[World.frozen?,bA.out]
  have r2:ai.cell? ⟨R,2,none⟩=some (.int .i64 0):=by rw[cR ai _ 2 _ _ _ bA.out];rfl
  have q2:ai.frozen? ⟨R,2,none⟩=false:=by simp[World.frozen?,bA.out]
  have r3:ai.cell? ⟨R,3,none⟩=some (.int .i64 0):=by rw[cR ai _ 3 _ _ _ bA.out];rfl
  have q3:ai.frozen? ⟨R,3,none⟩=false:=by simp[World.frozen?,bA.out]
  have r4:ai.cell? ⟨R,4,none⟩=some (.int .i64 0):=by rw[cR ai _ 4 _ _ _ bA.out];rfl
  have q4:ai.frozen? ⟨R,4,none⟩=false:=by simp[World.frozen?,bA.out]
  go_wp2
  go_region
  go_wp2;have cW:=nP bA.out 0 0 0 0 0;have bE:=vN ai R (.int .i64 0) (.int .i64 0) (.int .i64 0) (.int .i64 0) (.int .i64 0);have vP:=(eM.out.aside lQ.out.1 lQ.out.2.1 lQ.out.2.2 (lTq hF.out.cp.size HRW.out) bE).later (dQ 1);have iI:=(dv.out.newer bE HRW.out).below (dQ 1);have Av:((((((ai.setCell ⟨R,0,none⟩ (.int .i64 0)).setCell ⟨R,1,none⟩ (.int .i64 0)).setCell ⟨R,2,none⟩ (.int .i64 0)).setCell ⟨R,3,none⟩ (.int .i64 0)).setCell ⟨R,4,none⟩ (.int .i64 0)).drewN 1).heap[R]?=some (.cells #[.int .i64 0,.int .i64 0,.int .i64 0,.int .i64 0,.int .i64 0] 197 (0,0)):=cW;clear bE cW;have cW:=Av;clear Av;rw[show (((((ai.setCell ⟨R,0,none⟩ (.int .i64 0)).setCell ⟨R,1,none⟩ (.int .i64 0)).setCell ⟨R,2,none⟩ (.int .i64 0)).setCell ⟨R,3,none⟩ (.int .i64 0)).setCell ⟨R,4,none⟩ (.int .i64 0)).drewN 1=(((((ai.setCell ⟨R,0,none⟩ (.int .i64 0)).setCell ⟨R,1,none⟩ (.int .i64 0)).setCell ⟨R,2,none⟩ (.int .i64 0)).setCell ⟨R,3,none⟩ (.int .i64 0)).setCell ⟨R,4,none⟩ (.int .i64 0)).drew from rfl]at vP iI cW;generalize (((((ai.setCell ⟨R,0,none⟩ (.int .i64 0)).setCell ⟨R,1,none⟩ (.int .i64 0)).setCell ⟨R,2,none⟩ (.int .i64 0)).setCell ⟨R,3,none⟩ (.int .i64 0)).setCell ⟨R,4,none⟩ (.int .i64 0)).drew=Wf at *;have z0:Wf.cell? ⟨R,0,none⟩=some (.int .i64 0):=by rw[cR Wf _ 0 _ _ _ cW];rfl
  have dn:Wf.cell? ⟨R,1,none⟩=some (.int .i64 0):=by rw[cR Wf _ 1 _ _ _ cW];rfl
  have z2:Wf.cell? ⟨R,2,none⟩=some (.int .i64 0):=by rw[cR Wf _ 2 _ _ _ cW];rfl
  have z3:Wf.cell? ⟨R,3,none⟩=some (.int .i64 0):=by rw[cR Wf _ 3 _ _ _ cW];rfl
  have z4:Wf.cell? ⟨R,4,none⟩=some (.int .i64 0):=by rw[cR Wf _ 4 _ _ _ cW];rfl
  exact bodyPost_ret (v:=.tuple #[.agg #[.int .i64 0,.int .i64 0,.int .i64 0,.int .i64 0,.int .i64 0],.iface 412 (ev 5)]) (by simp[results,Tryz.results217,go_sem,z0,dn,z2,z3,z4]) rfl ⟨rfl,v,vP,iI⟩
 ·subst e
  have vQ:(x1 != ac)=true:=by simpa using hne
  have g5:=(eM.out.bN he.out).c5;have JY:¬ (6=R):=fun e=>by have:=bCq _ _ (hF.out.bN he.out).c5;have:=HRW.out;simp at *;omega
  have qh:¬ (R=6):=fun e=>JY e.symm;have r0:ai.cell? ⟨R,0,none⟩=some (.int .i64 0):=by rw[cR ai _ 0 _ _ _ bA.out];rfl
  have q0:ai.frozen? ⟨R,0,none⟩=false:=by simp[World.frozen?,bA.out]
  have r1:ai.cell? ⟨R,1,none⟩=some (.int .i64 0):=by rw[cR ai _ 1 _ _ _ bA.out];rfl
  have q1:ai.frozen? ⟨R,1,none⟩=false:=by simp[World.frozen?,bA.out]
  have r2:ai.cell? ⟨R,2,none⟩=some (.int .i64 0):=by rw[cR ai _ 2 _ _ _ bA.out];rfl
  have q2:ai.frozen? ⟨R,2,none⟩=false:=by simp[World.frozen?,bA.out]
  have r3:ai.cell? ⟨R,3,none⟩=some (.int .i64 0):=by rw[cR ai _ 3 _ _ _ bA.out];rfl
  have q3:ai.frozen? ⟨R,3,none⟩=false:=by simp[World.frozen?,bA.out]
  have r4:ai.cell? ⟨R,4,none⟩=some (.int .i64 0):=by rw[cR ai _ 4 _ _ _ bA.out];rfl
  have q4:ai.frozen? ⟨R,4,none⟩=false:=by simp[World.frozen?,bA.out]
  go_wp2
  go_region
  go_wp2;have cW:=nP bA.out 0 0 0 0 0;have bE:=vN ai R (.int .i64 0) (.int .i64 0) (.int .i64 0) (.int .i64 0) (.int .i64 0);have vP:=(eM.out.aside lQ.out.1 lQ.out.2.1 lQ.out.2.2 (lTq hF.out.cp.size HRW.out) bE).later (dQ 1);have iI:=(dv.out.newer bE HRW.out).below (dQ 1);have Av:((((((ai.setCell ⟨R,0,none⟩ (.int .i64 0)).setCell ⟨R,1,none⟩ (.int .i64 0)).setCell ⟨R,2,none⟩ (.int .i64 0)).setCell ⟨R,3,none⟩ (.int .i64 0)).setCell ⟨R,4,none⟩ (.int .i64 0)).drewN 1).heap[R]?=some (.cells #[.int .i64 0,.int .i64 0,.int .i64 0,.int .i64 0,.int .i64 0] 197 (0,0)):=cW;clear bE cW;have cW:=Av;clear Av;rw[show (((((ai.setCell ⟨R,0,none⟩ (.int .i64 0)).setCell ⟨R,1,none⟩ (.int .i64 0)).setCell ⟨R,2,none⟩ (.int .i64 0)).setCell ⟨R,3,none⟩ (.int .i64 0)).setCell ⟨R,4,none⟩ (.int .i64 0)).drewN 1=(((((ai.setCell ⟨R,0,none⟩ (.int .i64 0)).setCell ⟨R,1,none⟩ (.int .i64 0)).setCell ⟨R,2,none⟩ (.int .i64 0)).setCell ⟨R,3,none⟩ (.int .i64 0)).setCell ⟨R,4,none⟩ (.int .i64 0)).drew from rfl]at vP iI cW;generalize (((((ai.setCell ⟨R,0,none⟩ (.int .i64 0)).setCell ⟨R,1,none⟩ (.int .i64 0)).setCell ⟨R,2,none⟩ (.int .i64 0)).setCell ⟨R,3,none⟩ (.int .i64 0)).setCell ⟨R,4,none⟩ (.int .i64 0)).drew=Wf at *;have z0:Wf.cell? ⟨R,0,none⟩=some (.int .i64 0):=by rw[cR Wf _ 0 _ _ _ cW];rfl
  have dn:Wf.cell? ⟨R,1,none⟩=some (.int .i64 0):=by rw[cR Wf _ 1 _ _ _ cW];rfl
  have z2:Wf.cell? ⟨R,2,none⟩=some (.int .i64 0):=by rw[cR Wf _ 2 _ _ _ cW];rfl
  have z3:Wf.cell? ⟨R,3,none⟩=some (.int .i64 0):=by rw[cR Wf _ 3 _ _ _ cW];rfl
  have z4:Wf.cell? ⟨R,4,none⟩=some (.int .i64 0):=by rw[cR Wf _ 4 _ _ _ cW];rfl
  exact bodyPost_ret (v:=.tuple #[.agg #[.int .i64 0,.int .i64 0,.int .i64 0,.int .i64 0,.int .i64 0],.iface 412 (ev 5)]) (by simp[results,Tryz.results217,go_sem,z0,dn,z2,z3,z4]) rfl ⟨rfl,v,vP,iI⟩
theorem adI (a:Ask) (hF:Hid (bk w W F P I b v L pf n wd h)) (he:Hid (ee w ev)) (hok:Hid (Fs.d7 L pf)) (hk:Hid (Fl.fP a 99=0)) (hm:Hid (Fl.mine L a=true)) :
  Calls Tryz.prog 217 #[.pointer (some ⟨F,0,none⟩),bM a] W fun e W'=>e=.returned (.tuple #[bS (Fl.fD L a),cV ev (Fl.dx L pf a)])∧∃ v',bk w W' F P I b v' (Fl.eu L a) (Fl.jG L pf a) n wd h∧bJ W W' P I b v v':=by
 have hit:=Fl.D4 hk.out;obtain⟨i,hi⟩:∃ i:Nat,a.it=i:=⟨a.it.toNat,by omega⟩;have bY:i<3:=by omega
 have j_:a.it.toNat=i:=by omega
 have HK:=hDq (fun W' (hb:Below W.heap.size W W')=>Ao a 99 W' ((hF.out.bN he.out).below hb) (by decide));rw[Fl.JW hk.out,show cV ev 0=.nilIface from rfl]at HK;have RG:=Fl.Ru hok.out hk.out hm.out;have hX:Fl.fD L a=Cv.nth (L i) (Bk.pos (L i) a.id):=by unfold Fl.fD;rw[if_pos ⟨hk.out,hm.out⟩,j_]
 have hL:Fl.eu L a=upd L i (Bk.eu (L i) a.id):=by
  unfold Fl.eu;rw[if_pos ⟨hk.out,hm.out⟩,j_];have hh:Cv.has (L i) a.id=true:=by have:=hm.out;unfold Fl.mine at this;rw[j_]at this;simp only[Bool.and_eq_true]at this;exact this.1
  have hc0:Bk.dx (L i) a.id=0:=by unfold Bk.dx;rw[if_pos hh]
  unfold Bk.eu;rw[if_pos hc0]
 have hP:Fl.jG L pf a=Pu.eX pf a.it (Cv.nth (L i) (Bk.pos (L i) a.id)):=by unfold Fl.jG;rw[if_pos ⟨hk.out,hm.out⟩,hX]
 rw[hX,hL,hP,RG.1,show cV ev 0=.nilIface from rfl];clear hX hL hP RG;have hmm:=hm.out;unfold Fl.mine at hmm;rw[j_]at hmm;obtain⟨aU,ac,aZ,bB,asd,aK,aq,aH⟩:=a;simp only[]at hi j_;subst hi;unfold bM aT at HK ⊢;simp only[]at HK ⊢;simp only[Bool.and_eq_true,beq_iff_eq]at hmm;obtain⟨hh,how⟩:=hmm;have hgx:Bk.jw (L i) aH=Cv.nth (L i) (Bk.pos (L i) aH):=by unfold Bk.jw;rw[if_pos hh]
 have JZ:(Cv.nth (L i) (Bk.pos (L i) aH)).id=aH:=Bk.zS (Bk.rA.1 hh);obtain⟨⟨x0,x1,x2,x3,x4⟩,hX⟩:∃ X,Cv.nth (L i) (Bk.pos (L i) aH)=X:=⟨_,rfl⟩;rw[hX]at hgx how JZ;rw[hX];simp only[]at how JZ;subst how;subst JZ;have Ar:Hid (Cv.has (L i) x0=true∧Bk.jw (L i) x0=⟨x0,x1,x2,x3,x4⟩):=⟨hh,hgx⟩;clear hgx hX hh;unfold bS;simp only[];have p_:Hid (∀ W',bk w W' F P I b v L pf n wd h->Calls Tryz.prog 214 #[.pointer (some ⟨F,0,none⟩),.int .i64 i,.agg #[.int .i64 x0,.int .i64 x1,.int .i64 x2,.int .i64 x3,.int .i64 x4]] W' fun e RH=>e=.returned (.tuple #[])∧∃ v',bk w RH F P I b v' (upd L i (Bk.eu (L i) x0)) (Pu.eX pf i ⟨x0,x1,x2,x3,x4⟩) n wd h∧bJ W' RH P I b v v'):=fun W' hf=>RI i bY ⟨x0,x1,x2,x3,x4⟩ hf he.out hok.out.good (hok.out.aG i bY).len;clear hit hk j_;obtain⟨R,hR⟩:∃ R,W.heap.size+1=R:=⟨_,rfl⟩;obtain⟨A,hA⟩:∃ A,W.heap.size=A:=⟨_,rfl⟩;obtain⟨w1,dM⟩:∃ w1,(W.alloc (.cells #[.int .u8 aU,.int .i64 x1,.int .i64 aZ,.int .i64 i,.int .i64 asd,.int .i64 aK,.int .i64 aq,.int .i64 x0] 95)).alloc (.cells #[.int .i64 0,.int .i64 0,.int .i64 0,.int .i64 0,.int .i64 0] 197)=w1:=⟨_,rfl⟩;have hb1:Below W.heap.size W w1:=by rw[<- dM];exact((bRq _ _).alloc (lRq _) _).alloc (by simp) _
 have HR1:Hid (w1.heap[R]?=some (.cells #[.int .i64 0,.int .i64 0,.int .i64 0,.int .i64 0,.int .i64 0] 197 (0,0))):=by
  show _=_;rw[<- dM,<- hR]
  have:=hNq (W.alloc (.cells #[.int .u8 aU,.int .i64 x1,.int .i64 aZ,.int .i64 i,.int .i64 asd,.int .i64 aK,.int .i64 aq,.int .i64 x0] 95)) (.cells #[.int .i64 0,.int .i64 0,.int .i64 0,.int .i64 0,.int .i64 0] 197)
  simpa using this
 have HA1:Hid (w1.heap[A]?=some (.cells #[.int .u8 aU,.int .i64 x1,.int .i64 aZ,.int .i64 i,.int .i64 asd,.int .i64 aK,.int .i64 aq,.int .i64 x0] 95 (0,0))):=by
  show _=_;rw[<- dM,<- hA];exact(Below.heap_alloc _ _ _ (by simp)).trans (hNq W _)
 have HB1:=hDq hb1;have HRW:Hid (W.heap.size<=R):=by show _<=_;omega
 have HW1:=hDq dM;have iU:=hDq hR;have o5:=hDq hA;clear hb1 dM hR hA;go_enter Tryz.func217,Tryz.ntmps217
 go_wp2_with fail
 rw[HW1.out,iU.out,o5.out];refine(HK.out _ HB1.out).mono ?_;rintro e w2 ⟨rfl,hb2⟩;have hbW2:=HB1.out.trans (hb2.mono HB1.out.size);have bg:Hid (w2.heap[R]?=some (.cells #[.int .i64 0,.int .i64 0,.int .i64 0,.int .i64 0,.int .i64 0] 197 (0,0))):=by show _=_;rw[hb2.block _ (lBq HR1.out)];exact HR1.out
 have cm:Hid (w2.heap[A]?=some (.cells #[.int .u8 aU,.int .i64 x1,.int .i64 aZ,.int .i64 i,.int .i64 asd,.int .i64 aK,.int .i64 aq,.int .i64 x0] 95 (0,0))):=by show _=_;rw[hb2.block _ (lBq HA1.out)];exact HA1.out
 have cn:=hDq (hF.out.later hbW2);have HS2:=hDq (bJ.of_below hbW2 P I b v);clear hb2 hbW2 HB1 HR1 HA1 HW1 iU o5 HK;have vO:(0:Int)<=(i:Int):=by omega
 have RF:(i:Int)<3:=by omega
 simp only[]
 go_wp2_with fail
 obtain⟨bG,val,hcl,aP⟩:=Au F (I i) A (.cells (tG I P wd h) 210 (0,0)) (.cells (tH (b i) (n (i*2)) (n (i*2+1))) 267 (0,0)) (.cells #[.int .u8 aU,.int .i64 x1,.int .i64 aZ,.int .i64 i,.int .i64 asd,.int .i64 aK,.int .i64 aq,.int .i64 x0] 95 (0,0));obtain⟨y0,k5⟩:=aP w2.drew ⟨cn.out.blk,cn.out.it i bY,cm.out⟩;have hnx:Nonempty bG:=⟨y0⟩;have JX:∀ x,(val x).cell? ⟨F,2+i,none⟩=some (.pointer (some ⟨I i,0,none⟩)):=fun x=>by
  rw[cR _ _ _ _ _ _ (hcl x).1];have:i=0∨i=1∨i=2:=by omega
  rcases this with rfl | rfl | rfl <;> rfl
 have eb:∀ x,(val x).cell? ⟨I i,0,none⟩=some (.pointer (some ⟨b i,0,none⟩)):=fun x=>by rw[cR _ _ _ _ _ _ (hcl x).2.1];rfl
 have e3:∀ x,(val x).cell? ⟨A,3,none⟩=some (.int .i64 i):=fun x=>by rw[cR _ _ _ _ _ _ (hcl x).2.2];rfl
 have e7:∀ x,(val x).cell? ⟨A,7,none⟩=some (.int .i64 x0):=fun x=>by rw[cR _ _ _ _ _ _ (hcl x).2.2];rfl
 have hbd:Below w2.heap.size w2 w2.drew:=⟨rfl,rfl,rfl,lRq _,fun _ _=>rfl⟩;have dh:=hDq (cn.out.later hbd);have cr:=hDq (HS2.out.below hbd);have bO:Hid (w2.drew.heap[R]?=some (.cells #[.int .i64 0,.int .i64 0,.int .i64 0,.int .i64 0,.int .i64 0] 197 (0,0))):=bg.out;have ei:Hid (w2.drew.heap[A]?=some (.cells #[.int .u8 aU,.int .i64 x1,.int .i64 aZ,.int .i64 i,.int .i64 asd,.int .i64 aK,.int .i64 aq,.int .i64 x0] 95 (0,0))):=cm.out;obtain⟨w4,hw4⟩:∃ w4,w2.drew=w4:=⟨_,rfl⟩;rw[hw4]at dh cr bO ei;have aN:Hid (∀ W',Below w4.heap.size w4 W'->∃ x,val x=W'):=fun W' hb=>aP W' ⟨(dh.out.later hb).blk,(dh.out.later hb).it i bY,by rw[hb.block _ (lBq ei.out)];exact ei.out⟩;have jf:Hid (∀ W',Below w4.heap.size w4 W'->Calls Tryz.prog 192 #[.pointer (some ⟨b i,0,none⟩),.int .i64 x0] W' fun e w'=>e=.returned (.tuple #[.agg #[.int .i64 x0,.int .i64 x1,.int .i64 x2,.int .i64 x3,.int .i64 x4],.bool true])∧Below W'.heap.size W' w'):=fun W' hb=>by
  have:=DC (b i) w.heap.size (v i) x0 (L i) W' ((dh.out.later hb).aG i bY) (hok.out.aG i bY).len
  rw[Ar.out.1,Ar.out.2]at this;exact this
 clear aP hcl cn HS2 bg cm hbd;refine tJ (val:=val) (fun D ai=>ai.heap[D]?=some (.cells #[.int .i64 x0,.int .i64 x1,.int .i64 x2,.int .i64 x3,.int .i64 x4] 197 (0,0))∧w4.heap.size<=D∧Below w4.heap.size w4 ai) (.read 0 (.read 1 (.read 2 (.read 3 (.read 4 (.read 5 (.read 6 (.read 7 (.read 8 (.read 9 (.read 10 (.read 11 (.two 12 (.read 13 (.read 14 (.read 15 (.one 16 (.one 17 (.read 18 .done)))))) 16 (.one 12 (.read 13 (.read 14 (.read 15 (.one 17 (.read 18 .done))))))))))))))))))) (by kernel_rfl) (by kernel_rfl) y0 k5 ?_;apply Exists.intro;refine⟨?_,?_⟩
 case' refine_1 =>
  rw[k5,hw4]
  iterate 12 (refine cu rfl (fun K hK=>?_);refine⟨by rfl,?_⟩;unfold aA;go_simp;refine hK _ ?_;clear hK K)
  have fQ:Hid (Below w4.heap.size w4 w4):=bRq _ _;refine⟨?_,?_⟩
  case refine_1 =>
   refine bW rfl (fun K hK=>?_);refine⟨by rfl,?_⟩;unfold aQ;go_simp;refine(jf.out _ fQ.out).mono ?_;rintro e wc ⟨rfl,hbc⟩;have ej:=hDq (fQ.out.trans (hbc.mono fQ.out.size));refine⟨_,rfl,aN.out _ ej.out,hK _ _ ?_⟩;clear hK K hbc
   iterate 3 (refine cu rfl (fun K hK=>?_);refine⟨by rfl,?_⟩;unfold aA;go_simp;refine hK _ ?_;clear hK K)
   refine bW rfl (fun K hK=>?_);refine⟨by rfl,?_⟩;unfold aQ;go_simp;obtain⟨D,hD⟩:∃ D,wc.heap.size=D:=⟨_,rfl⟩;obtain⟨aj,hwz⟩:∃ aj,wc.alloc (.cells #[.int .i64 0,.int .i64 0,.int .i64 0,.int .i64 0,.int .i64 0] 197)=aj:=⟨_,rfl⟩;rw[hD,hwz];have cg:Hid (Below w4.heap.size w4 aj):=by show Below _ _ _;rw[<- hwz];exact ej.out.alloc ej.out.size _
   have au:Hid (aj.heap[D]?=some (.cells #[.int .i64 0,.int .i64 0,.int .i64 0,.int .i64 0,.int .i64 0] 197 (0,0))):=by show _=_;rw[<- hwz,<- hD];exact hNq _ _
   have fq:Hid (w4.heap.size<=D):=by have:=ej.out.size;show _<=_;omega
   refine⟨aN.out _ cg.out,hK _ _ ?_⟩;clear hK K hwz hD;have c0:aj.cell? ⟨D,0,none⟩=some (.int .i64 0):=by rw[cR aj _ 0 _ _ _ au.out];rfl
   have f0:aj.frozen? ⟨D,0,none⟩=false:=by simp[World.frozen?,au.out]
   have c1:aj.cell? ⟨D,1,none⟩=some (.int .i64 0):=by rw[cR aj _ 1 _ _ _ au.out];rfl
   have f1:aj.frozen? ⟨D,1,none⟩=false:=by simp[World.frozen?,au.out]
   have c2:aj.cell? ⟨D,2,none⟩=some (.int .i64 0):=by rw[cR aj _ 2 _ _ _ au.out];rfl
   have f2:aj.frozen? ⟨D,2,none⟩=false:=by simp[World.frozen?,au.out]
   have c3:aj.cell? ⟨D,3,none⟩=some (.int .i64 0):=by rw[cR aj _ 3 _ _ _ au.out];rfl
   have f3:aj.frozen? ⟨D,3,none⟩=false:=by simp[World.frozen?,au.out]
   have c4:aj.cell? ⟨D,4,none⟩=some (.int .i64 0):=by rw[cR aj _ 4 _ _ _ au.out];rfl
   have f4:aj.frozen? ⟨D,4,none⟩=false:=by simp[World.frozen?,au.out]
   have HX:=hDq (nP au.out x0 x1 x2 x3 x4);have aS:=hDq (Am cg.out fq.out (.int .i64 x0) (.int .i64 x1) (.int .i64 x2) (.int .i64 x3) (.int .i64 x4));refine bW rfl (fun K hK=>?_);refine⟨by rfl,?_⟩;unfold aQ;go_simp;refine⟨aN.out _ aS.out,hK _ _ ?_⟩;clear hK K au c0 c1 c2 c3 c4 f0 f1 f2 f3 f4;generalize (((((aj.setCell ⟨D,0,none⟩ (.int .i64 x0)).setCell ⟨D,1,none⟩ (.int .i64 x1)).setCell ⟨D,2,none⟩ (.int .i64 x2)).setCell ⟨D,3,none⟩ (.int .i64 x3)).setCell ⟨D,4,none⟩ (.int .i64 x4))=ai at *;refine cu rfl (fun K hK=>?_);refine⟨by rfl,?_⟩;unfold aA;go_simp;refine hK _ ?_;clear hK K;refine iT ?_;exact⟨D,rfl,HX.out,fq.out,aS.out⟩
  case refine_2 =>
   refine bW rfl (fun K hK=>?_);refine⟨by rfl,?_⟩;unfold aQ;go_simp;obtain⟨D,hD⟩:∃ D,w4.heap.size=D:=⟨_,rfl⟩;obtain⟨ij,hwz⟩:∃ aj,w4.alloc (.cells #[.int .i64 0,.int .i64 0,.int .i64 0,.int .i64 0,.int .i64 0] 197)=aj:=⟨_,rfl⟩;rw[hD,hwz];have cO:Hid (Below w4.heap.size w4 ij):=by show Below _ _ _;rw[<- hwz];exact fQ.out.alloc fQ.out.size _
   have o6:Hid (ij.heap[D]?=some (.cells #[.int .i64 0,.int .i64 0,.int .i64 0,.int .i64 0,.int .i64 0] 197 (0,0))):=by show _=_;rw[<- hwz,<- hD];exact hNq _ _
   have fq:Hid (w4.heap.size<=D):=by have:=fQ.out.size;show _<=_;omega
   refine⟨aN.out _ cO.out,hK _ _ ?_⟩;clear hK K hwz hD;refine bW rfl (fun K hK=>?_);refine⟨by rfl,?_⟩;unfold aQ;go_simp;refine(jf.out _ cO.out).mono ?_;rintro e aj ⟨rfl,hbc⟩;have cg:=hDq (cO.out.trans (hbc.mono cO.out.size));have au:Hid (aj.heap[D]?=some (.cells #[.int .i64 0,.int .i64 0,.int .i64 0,.int .i64 0,.int .i64 0] 197 (0,0))):=by show _=_;rw[hbc.block _ (lBq o6.out)];exact o6.out
   refine⟨_,rfl,aN.out _ cg.out,hK _ _ ?_⟩;clear hK K hbc
   iterate 3 (refine cu rfl (fun K hK=>?_);refine⟨by rfl,?_⟩;unfold aA;go_simp;refine hK _ ?_;clear hK K)
   have c0:aj.cell? ⟨D,0,none⟩=some (.int .i64 0):=by rw[cR aj _ 0 _ _ _ au.out];rfl
   have f0:aj.frozen? ⟨D,0,none⟩=false:=by simp[World.frozen?,au.out]
   have c1:aj.cell? ⟨D,1,none⟩=some (.int .i64 0):=by rw[cR aj _ 1 _ _ _ au.out];rfl
   have f1:aj.frozen? ⟨D,1,none⟩=false:=by simp[World.frozen?,au.out]
   have c2:aj.cell? ⟨D,2,none⟩=some (.int .i64 0):=by rw[cR aj _ 2 _ _ _ au.out];rfl
   have f2:aj.frozen? ⟨D,2,none⟩=false:=by simp[World.frozen?,au.out]
   have c3:aj.cell? ⟨D,3,none⟩=some (.int .i64 0):=by rw[cR aj _ 3 _ _ _ au.out];rfl
   have f3:aj.frozen? ⟨D,3,none⟩=false:=by simp[World.frozen?,au.out]
   have c4:aj.cell? ⟨D,4,none⟩=some (.int .i64 0):=by rw[cR aj _ 4 _ _ _ au.out];rfl
   have f4:aj.frozen? ⟨D,4,none⟩=false:=by simp[World.frozen?,au.out]
   have HX:=hDq (nP au.out x0 x1 x2 x3 x4);have aS:=hDq (Am cg.out fq.out (.int .i64 x0) (.int .i64 x1) (.int .i64 x2) (.int .i64 x3) (.int .i64 x4));refine bW rfl (fun K hK=>?_);refine⟨by rfl,?_⟩;unfold aQ;go_simp;refine⟨aN.out _ aS.out,hK _ _ ?_⟩;clear hK K au c0 c1 c2 c3 c4 f0 f1 f2 f3 f4;generalize (((((aj.setCell ⟨D,0,none⟩ (.int .i64 x0)).setCell ⟨D,1,none⟩ (.int .i64 x1)).setCell ⟨D,2,none⟩ (.int .i64 x2)).setCell ⟨D,3,none⟩ (.int .i64 x3)).setCell ⟨D,4,none⟩ (.int .i64 x4))=ai at *;refine cu rfl (fun K hK=>?_);refine⟨by rfl,?_⟩;unfold aA;go_simp;refine hK _ ?_;clear hK K;refine iT ?_;exact⟨D,rfl,HX.out,fq.out,aS.out⟩
 intro D ai ⟨o7,o8,hb6⟩;have HX:=hDq o7;have eM:=hDq (dh.out.later hb6);have dv:=hDq (cr.out.below hb6);have bA:Hid (ai.heap[R]?=some (.cells #[.int .i64 0,.int .i64 0,.int .i64 0,.int .i64 0,.int .i64 0] 197 (0,0))):=by show _=_;rw[hb6.block _ (lBq bO.out)];exact bO.out
 have gL:Hid (ai.heap[A]?=some (.cells #[.int .u8 aU,.int .i64 x1,.int .i64 aZ,.int .i64 i,.int .i64 asd,.int .i64 aK,.int .i64 aq,.int .i64 x0] 95 (0,0))):=by show _=_;rw[hb6.block _ (lBq ei.out)];exact ei.out
 have HDR:Hid (D≠R):=fun e=>by have:=lBq bO.out;omega
 have nQ:=hDq (dh.out.fresh o8);have lQ:=hDq (hF.out.fresh HRW.out);clear o7 o8 hb6 dh cr bO ei jf hw4;clear k5 JX eb e3 e7 aN;clear y0 hnx;clear val;clear bG;have d0:ai.cell? ⟨D,0,none⟩=some (.int .i64 x0):=by rw[cR ai _ 0 _ _ _ HX.out];rfl
 have d1:ai.cell? ⟨D,1,none⟩=some (.int .i64 x1):=by rw[cR ai _ 1 _ _ _ HX.out];rfl
 have d2:ai.cell? ⟨D,2,none⟩=some (.int .i64 x2):=by rw[cR ai _ 2 _ _ _ HX.out];rfl
 have d3:ai.cell? ⟨D,3,none⟩=some (.int .i64 x3):=by rw[cR ai _ 3 _ _ _ HX.out];rfl
 have d4:ai.cell? ⟨D,4,none⟩=some (.int .i64 x4):=by rw[cR ai _ 4 _ _ _ HX.out];rfl
 have a1:ai.cell? ⟨A,1,none⟩=some (.int .i64 x1):=by rw[cR ai _ 1 _ _ _ gL.out];rfl
 have a3:ai.cell? ⟨A,3,none⟩=some (.int .i64 i):=by rw[cR ai _ 3 _ _ _ gL.out];rfl
 have vQ:(x1 != x1)=false:=by simp
 go_wp2_with fail
 refine(p_.out ai eM.out).mono ?_;rintro e bq ⟨rfl,v7,Aw,o9⟩;have fO:Hid (bq.heap[R]?=some (.cells #[.int .i64 0,.int .i64 0,.int .i64 0,.int .i64 0,.int .i64 0] 197 (0,0))):=by show _=_;rw[o9.keep R (lBq bA.out) lQ.out.2.1 lQ.out.2.2];exact bA.out
 have lR:Hid (bq.heap[D]?=some (.cells #[.int .i64 x0,.int .i64 x1,.int .i64 x2,.int .i64 x3,.int .i64 x4] 197 (0,0))):=by show _=_;rw[o9.keep D (lBq HX.out) nQ.out.2.1 nQ.out.2.2];exact HX.out
 have kg:=hDq Aw;have lh:=hDq (dv.out.trans o9);have adJ:Hid (∀ j,j<3->R≠I j∧R≠b j∧(v7 j).ownBlock≠some R):=fun j hj=>⟨(lQ.out.2.2 j hj).1,(lQ.out.2.2 j hj).2.1,fun e=>by
  rcases o9.new j hj R e with h1 | h1
  ·exact(lQ.out.2.2 j hj).2.2 h1
  ·have:=lBq bA.out;omega⟩
 clear d0 d1 d2 d3 d4 a1 a3 Aw o9 HX eM dv bA gL p_ vQ;have d0:bq.cell? ⟨D,0,none⟩=some (.int .i64 x0):=by rw[cR bq _ 0 _ _ _ lR.out];rfl
 have d1:bq.cell? ⟨D,1,none⟩=some (.int .i64 x1):=by rw[cR bq _ 1 _ _ _ lR.out];rfl
 have d2:bq.cell? ⟨D,2,none⟩=some (.int .i64 x2):=by rw[cR bq _ 2 _ _ _ lR.out];rfl
 have d3:bq.cell? ⟨D,3,none⟩=some (.int .i64 x3):=by rw[cR bq _ 3 _ _ _ lR.out];rfl
 have d4:bq.cell? ⟨D,4,none⟩=some (.int .i64 x4):=by rw[cR bq _ 4 _ _ _ lR.out];rfl
 have r0:bq.cell? ⟨R,0,none⟩=some (.int .i64 0):=by rw[cR bq _ 0 _ _ _ fO.out];rfl
 have q0:bq.frozen? ⟨R,0,none⟩=false:=by simp[World.frozen?,fO.out]
 have r1:bq.cell? ⟨R,1,none⟩=some (.int .i64 0):=by rw[cR bq _ 1 _ _ _ fO.out];rfl
 have q1:bq.frozen? ⟨R,1,none⟩=false:=by simp[World.frozen?,fO.out]
 have r2:bq.cell? ⟨R,2,none⟩=some (.int .i64 0):=by rw[cR bq _ 2 _ _ _ fO.out];rfl
 have q2:bq.frozen? ⟨R,2,none⟩=false:=by simp[World.frozen?,fO.out]
 have r3:bq.cell? ⟨R,3,none⟩=some (.int .i64 0):=by rw[cR bq _ 3 _ _ _ fO.out];rfl
 have q3:bq.frozen? ⟨R,3,none⟩=false:=by simp[World.frozen?,fO.out]
 have r4:bq.cell? ⟨R,4,none⟩=some (.int .i64 0):=by rw[cR bq _ 4 _ _ _ fO.out];rfl
 have q4:bq.frozen? ⟨R,4,none⟩=false:=by simp[World.frozen?,fO.out]
 simp only[];go_wp2;have cW:=nP fO.out x0 x1 x2 x3 x4;have bE:=vN bq R (.int .i64 x0) (.int .i64 x1) (.int .i64 x2) (.int .i64 x3) (.int .i64 x4);have vP:=kg.out.aside lQ.out.1 lQ.out.2.1 adJ.out (lTq hF.out.cp.size HRW.out) bE;have iI:=lh.out.newer bE HRW.out;clear bE;generalize (((((bq.setCell ⟨R,0,none⟩ (.int .i64 x0)).setCell ⟨R,1,none⟩ (.int .i64 x1)).setCell ⟨R,2,none⟩ (.int .i64 x2)).setCell ⟨R,3,none⟩ (.int .i64 x3)).setCell ⟨R,4,none⟩ (.int .i64 x4))=Wf at *;have z0:Wf.cell? ⟨R,0,none⟩=some (.int .i64 x0):=by rw[cR Wf _ 0 _ _ _ cW];rfl
 have dn:Wf.cell? ⟨R,1,none⟩=some (.int .i64 x1):=by rw[cR Wf _ 1 _ _ _ cW];rfl
 have z2:Wf.cell? ⟨R,2,none⟩=some (.int .i64 x2):=by rw[cR Wf _ 2 _ _ _ cW];rfl
 have z3:Wf.cell? ⟨R,3,none⟩=some (.int .i64 x3):=by rw[cR Wf _ 3 _ _ _ cW];rfl
 have z4:Wf.cell? ⟨R,4,none⟩=some (.int .i64 x4):=by rw[cR Wf _ 4 _ _ _ cW];rfl
 exact bodyPost_ret (v:=.tuple #[.agg #[.int .i64 x0,.int .i64 x1,.int .i64 x2,.int .i64 x3,.int .i64 x4],.nilIface]) (by simp[results,Tryz.results217,go_sem,z0,dn,z2,z3,z4]) rfl ⟨rfl,v7,vP,iI⟩
theorem adK (a:Ask) (hF:bk w W F P I b v L pf n wd h) (he:ee w ev) (hok:Fs.d7 L pf) :
  Calls Tryz.prog 217 #[.pointer (some ⟨F,0,none⟩),bM a] W fun e W'=>e=.returned (.tuple #[bS (Fl.fD L a),cV ev (Fl.dx L pf a)])∧∃ v',bk w W' F P I b v' (Fl.eu L a) (Fl.jG L pf a) n wd h∧bJ W W' P I b v v':=by
 by_cases hk:Fl.fP a 99=0
 ·cases hm:Fl.mine L a with
  | true=>exact adI a hF he hok hk hm
  | false=>exact adH a hF he hok hk hm
 ·exact adG a hF he hk
end
end Go.Proofs.YtjolccidheflpaaGreatDoor
namespace Go.Proofs.YtjolccidheflpaaGreatDoor
set_option maxHeartbeats 8000000
namespace Fl
open Cv Bk Ra Pu Fu Fs
structure Fits (cash stock:Int):Prop where
 c0:0<=cash
 c1:cash<=1073741824
 s0:0<=stock
 s1:stock<=100000
theorem Aj {cash stock:Int}:∀ k j,k*8<=j->j8 cash stock k j=0
 | 0,_,_=>rfl
 | k+1,j,h=>by
  have ih:=Aj (cash:=cash) (stock:=stock) k j (by omega);show iH _ _ j=0;unfold iH;split
  ·rw[dH _ _ (by show j≠(k:Int).toNat*8+4;omega),dH _ _ (by show j≠(k:Int).toNat*8+3;omega),dH _ _ (by show j≠(k:Int).toNat*8+2;omega),dH _ _ (by show j≠(k:Int).toNat*8;omega),ih]
  ·exact ih
theorem Ry {cash stock:Int} (h:Fits cash stock) (k:Nat) (hk:k<6):jd (j8 cash stock k) ⟨k,cash,stock,stock,stock⟩=0:=by
 have e0:=Aj (cash:=cash) (stock:=stock) k (k*8) (lRq _);have e2:=Aj (cash:=cash) (stock:=stock) k (k*8+2) (by omega);have e3:=Aj (cash:=cash) (stock:=stock) k (k*8+3) (by omega);have e4:=Aj (cash:=cash) (stock:=stock) k (k*8+4) (by omega);have hc0:=h.c0;have hc1:=h.c1;have hs0:=h.s0;have hs1:=h.s1;unfold jd;rw[if_pos,if_neg]
 ·simp only[fj.over,Int.toNat_natCast,e0,e2,e3,e4]
  simp;omega
 ·simp only[fj.fine,fj.neg,ah.aB]
  simp;omega
theorem Rz {cash stock:Int}:∀ k j,xS j->j8 cash stock k j=0
 | 0,_,_=>rfl
 | k+1,j,h=>by
  have ih:=Rz (cash:=cash) (stock:=stock) k j h;obtain⟨c,hc,lg⟩:=h;show iH _ _ j=0;unfold iH;split
  ·rw[dH _ _ (by show j≠(k:Int).toNat*8+4;rcases lg with e | ⟨m,hm,e⟩ <;> omega),dH _ _ (by show j≠(k:Int).toNat*8+3;rcases lg with e | ⟨m,hm,e⟩ <;> omega),dH _ _ (by show j≠(k:Int).toNat*8+2;rcases lg with e | ⟨m,hm,e⟩ <;> omega),dH _ _ (by show j≠(k:Int).toNat*8;rcases lg with e | ⟨m,hm,e⟩ <;> omega),ih]
  ·exact ih
theorem RA {cash stock:Int} (h:Fits cash stock):∀ k,k<=6->d8 (j8 cash stock k) 6=k*cash∧∀ j,j<3->d9 (j8 cash stock k) j 6=k*stock
 | 0,_=>⟨by simp[j8,d8],fun j _=>by simp[j8,d9]⟩
 | k+1,hk=>by
  obtain⟨h1,h2⟩:=RA h k (by omega);obtain⟨g1,g2⟩:=adB (Ry h k (by omega));have ec:((k+1:Nat):Int)*cash=k*cash+cash:=by rw[show ((k+1:Nat):Int)=(k:Int)+1 by omega,Int.add_mul,Int.one_mul]
  have es:((k+1:Nat):Int)*stock=k*stock+stock:=by rw[show ((k+1:Nat):Int)=(k:Int)+1 by omega,Int.add_mul,Int.one_mul]
  refine⟨by show d8 (iH _ _) 6=_;rw[g1,h1,ec],fun j hj=>?_⟩;show d9 (iH _ _) j 6=_;rw[g2 j hj,h2 j hj,es];have:j=0∨j=1∨j=2:=by omega
  rcases this with rfl | rfl | rfl <;> rfl
theorem RB {wd h ref cash stock:Int} (hr:aY.gh wd h=true) (hf:ah.aB ref 1 1000=true) (H:Fits cash stock):d_ (fun _=>[]) (j8 cash stock 6) (tF ref) wd h:=by
 obtain⟨g1,g2⟩:=RA H 6 (lRq _);have hc1:=H.c1;have hs1:=H.s1;refine⟨⟨fun _ _=>Bk.abl,JO cash stock 6,adC _ fun j hj=>Rz 6 j hj,by rw[g1];omega,fun k hk=>by rw[g2 k hk];omega⟩,fun i hi=>?_,hr⟩;unfold aY.kA tF;rw[if_pos (by omega),if_neg (by omega),hf];rfl
end Fl
end Go.Proofs.YtjolccidheflpaaGreatDoor
namespace Go.Proofs.YtjolccidheflpaaGreatDoor
set_option maxHeartbeats 8000000
open Go.RowKit
set_option maxRecDepth 100000
section
variable {ev:Nat->Value}
end
section
variable {ev:Nat->Value}
def ad7 (w w':World) (e:Ending) (wd h ref cash stock:Int):Prop:=∃ F P I b,e=.returned (.tuple #[.pointer (some ⟨F,0,none⟩),.nilIface])∧bk w w' F P I b (fun _=>.slice none 0 0) (fun _=>[]) (Fl.j8 cash stock 6) (Fl.tF ref) wd h
theorem ad8 (wd h ref cash stock:Int) (w:World) (he:Hid (ee w ev)) (hr:Hid (aY.gh wd h=true)) (hf:Hid (ah.aB ref 1 1000=true)) (H:Hid (Fl.Fits cash stock)) :
  Calls Tryz.prog 95 #[dJ wd h,.int .i64 ref,.int .i64 cash,.int .i64 stock] w fun e w'=>ad7 w w' e wd h ref cash stock:=by
 have hb0:Below w.heap.size w (w.alloc (.cells #[.int .i64 wd,.int .i64 h] 43)):=(bRq _ _).alloc (lRq _) _;have rE:=P4 wd h 412 (ev 1) (w.alloc (.cells #[.int .i64 wd,.int .i64 h] 43)) (he.out.below hb0).Kg;rw[hr.out,show kY 412 (ev 1) true=.nilIface from rfl]at rE;have Kl:=hDq rE;have bF:=hDq hb0;have R_:(w.alloc (.cells #[.int .i64 wd,.int .i64 h] 43)).heap[w.heap.size]?=some (.cells #[.int .i64 wd,.int .i64 h] 43 (0,0)):=hNq _ _;have Km:=hDq R_;clear hb0 rE R_;unfold dJ at Kl ⊢;have HW1:=hDq (fun W=>gi ref 1 1000 W);have HW2:=hDq (fun W=>gi cash 0 1073741824 W);have HW3:=hDq (fun W=>gi stock 0 100000 W);have e1:ah.aB cash 0 1073741824=true:=by have:=H.out.c0;have:=H.out.c1;simp[ah.aB];omega
 have e2:ah.aB stock 0 100000=true:=by have:=H.out.s0;have:=H.out.s1;simp[ah.aB];omega
 rw[hf.out]at HW1;rw[e1]at HW2;rw[e2]at HW3;clear e1 e2;go_enter Tryz.func95,Tryz.ntmps95
 go_wp2_with fail
 refine Kl.out.mono ?_;rintro e w2 ⟨rfl,hb2⟩;have iW:=hDq (bF.out.trans (hb2.mono bF.out.size));have yf:Hid (w2.heap[w.heap.size]?=some (.cells #[.int .i64 wd,.int .i64 h] 43 (0,0))):=by show _=_;rw[hb2.block _ (lBq Km.out)];exact Km.out
 clear hb2 bF Km Kl;obtain⟨qm,Eh⟩:∃ qm,w.heap.size=qm:=⟨_,rfl⟩;rw[Eh]at yf;rw[Eh];have iU:=hDq Eh;clear Eh;simp only[]
 go_wp2_with fail
 refine(HW1.out _).mono ?_;rintro e w2 ⟨rfl,rfl⟩;simp only[]
 go_wp2_with fail
 refine(HW2.out _).mono ?_;rintro e w2 ⟨rfl,rfl⟩;simp only[]
 go_wp2_with fail
 refine(HW3.out _).mono ?_;rintro e w2 ⟨rfl,rfl⟩;clear HW1 HW2 HW3;simp only[]
 go_wp2_with fail
 obtain⟨bG,val,hcl,aP⟩:=Au qm qm qm (.cells #[.int .i64 wd,.int .i64 h] 43 (0,0)) (.cells #[.int .i64 wd,.int .i64 h] 43 (0,0)) (.cells #[.int .i64 wd,.int .i64 h] 43 (0,0));have aN:=hDq aP;obtain⟨y0,k5⟩:=aP w2.drew ⟨yf.out,yf.out,yf.out⟩;have hnx:Nonempty bG:=⟨y0⟩;have u0:∀ x,(val x).cell? ⟨qm,0,none⟩=some (.int .i64 wd):=fun x=>by rw[cR _ _ _ _ _ _ (hcl x).1];rfl
 have u1:∀ x,(val x).cell? ⟨qm,1,none⟩=some (.int .i64 h):=fun x=>by rw[cR _ _ _ _ _ _ (hcl x).1];rfl
 clear aP hcl;have hbd:Below w2.heap.size w2 w2.drew:=⟨rfl,rfl,rfl,lRq _,fun _ _=>rfl⟩;have lS:=hDq (iW.out.trans (hbd.mono iW.out.size));have Kn:Hid (w2.drew.heap[qm]?=some (.cells #[.int .i64 wd,.int .i64 h] 43 (0,0))):=yf.out;clear hbd iW yf;refine Al (val:=val) (.read 0 (.one 1 (.read 2 (.one 3 (.read 4 .done))))) (by kernel_rfl) (by kernel_rfl) y0 k5 ?_;rw[k5];clear k5;generalize w2.drew=w3 at *;refine cu rfl (fun K hK=>?_);refine⟨by rfl,?_⟩;unfold aA;go_simp;refine hK _ ?_;clear hK K;refine bW rfl (fun K hK=>?_);refine⟨by rfl,?_⟩;unfold aQ;go_simp;refine(ad9 _).mono ?_;rintro e w4 ⟨rfl,hw4⟩;have hbc:Below w3.heap.size w3 w4:=by rw[hw4];exact(bRq _ _).alloc (lRq _) _
 obtain⟨P,hP⟩:∃ P,w3.heap.size=P:=⟨_,rfl⟩;have mK:Hid (w4.heap[P]?=some (.cells (cw fun _=>0) 213 (0,0))):=by show _=_;rw[hw4,<- hP];exact hNq _ _
 have yg:Hid (w4.heap[qm]?=some (.cells #[.int .i64 wd,.int .i64 h] 43 (0,0))):=by show _=_;rw[hbc.block _ (lBq Kn.out)];exact Kn.out
 have nV:=hDq (lS.out.trans (hbc.mono lS.out.size));have aea:Hid (w.heap.size<=P):=by have:=lS.out.size;show _<=_;omega
 refine⟨_,rfl,aN.out _ ⟨yg.out,yg.out,yg.out⟩,hK _ _ ?_⟩;rw[hP];clear hK K hbc hw4 hP lS Kn;refine cu rfl (fun K hK=>?_);refine⟨by rfl,?_⟩;unfold aA;go_simp;refine hK _ ?_;clear hK K;refine bW rfl (fun K hK=>?_);refine⟨by rfl,?_⟩;unfold aQ;go_simp;obtain⟨F,hF⟩:∃ F,w4.heap.size=F:=⟨_,rfl⟩;obtain⟨aC,tO⟩:∃ x,w4.alloc (.cells #[.int .i64 wd,.int .i64 h,.pointer none,.pointer none,.pointer none,.pointer (some ⟨P,0,none⟩)] 210)=x:=⟨_,rfl⟩;have hbc:Below w4.heap.size w4 aC:=by rw[<- tO];exact(bRq _ _).alloc (lRq _) _
 have jh:Hid (aC.heap[F]?=some (.cells #[.int .i64 wd,.int .i64 h,.pointer none,.pointer none,.pointer none,.pointer (some ⟨P,0,none⟩)] 210 (0,0))):=by show _=_;rw[<- tO,<- hF];exact hNq _ _
 have mL:Hid (aC.heap[P]?=some (.cells (cw fun _=>0) 213 (0,0))):=by show _=_;rw[hbc.block _ (lBq mK.out)];exact mK.out
 have Ei:Hid (aC.heap[qm]?=some (.cells #[.int .i64 wd,.int .i64 h] 43 (0,0))):=by show _=_;rw[hbc.block _ (lBq yg.out)];exact yg.out
 have Ej:=hDq (nV.out.trans (hbc.mono nV.out.size));have Ek:Hid (w.heap.size<=F):=by have:=nV.out.size;show _<=_;omega
 rw[hF,tO];refine⟨aN.out _ ⟨Ei.out,Ei.out,Ei.out⟩,hK _ _ ?_⟩;clear hK K hbc tO hF nV mK yg;refine cu rfl (fun K hK=>?_);refine⟨by rfl,?_⟩;unfold aA;go_simp;refine hK _ ?_;clear hK K;refine iT ?_;clear u0 u1 aN;clear y0 hnx;clear val;clear bG;obtain⟨S,hS⟩:∃ S,aC.heap.size=S:=⟨_,rfl⟩;obtain⟨lT,qj⟩:∃ x,aC.alloc (.cells #[.int .i64 0,.int .i64 0,.int .i64 0] 138)=x:=⟨_,rfl⟩;have hbc:Below aC.heap.size aC lT:=by rw[<- qj];exact(bRq _ _).alloc (lRq _) _
 have Ko:Hid (lT.heap[S]?=some (.cells #[.int .i64 0,.int .i64 0,.int .i64 0] 138 (0,0))):=by show _=_;rw[<- qj,<- hS];exact hNq _ _
 have Kp:Hid (lT.heap[F]?=some (.cells #[.int .i64 wd,.int .i64 h,.pointer none,.pointer none,.pointer none,.pointer (some ⟨P,0,none⟩)] 210 (0,0))):=by show _=_;rw[hbc.block _ (lBq jh.out)];exact jh.out
 have Kq:Hid (lT.heap[P]?=some (.cells (cw fun _=>0) 213 (0,0))):=by show _=_;rw[hbc.block _ (lBq mL.out)];exact mL.out
 have Kr:=hDq (Ej.out.trans (hbc.mono Ej.out.size));have j3:Hid (w.heap.size<=S):=by have:=Ej.out.size;show _<=_;omega
 have AA:=hDq qj;have Ee:=hDq hS;clear hbc qj hS Ej jh mL Ei;go_wp2;rw[AA.out,Ee.out];clear AA Ee;refine wp_loop_rounds 4 ?_;rw[rounds_succ]
 go_wp2_with fail
 have hnx:Nonempty World:=⟨lT⟩;refine Al (X:=World) (val:=fun x=>x) (.read 0 (.read 1 (.read 3 (.read 4 (.read 7 (.read 8 (.one 2 (.read 5 (.one 6 (.read 9 (.one 10 .done))))))))))) (by kernel_rfl) (by kernel_rfl) lT.drew rfl ?_;have hbd:Below lT.heap.size lT lT.drew:=⟨rfl,rfl,rfl,lRq _,fun _ _=>rfl⟩;have El:Hid (lT.drew.heap[F]?=some (.cells #[.int .i64 wd,.int .i64 h,.pointer none,.pointer none,.pointer none,.pointer (some ⟨P,0,none⟩)] 210 (0,0))):=by show _=_;rw[hbd.block _ (lBq Kp.out)];exact Kp.out
 have Em:Hid (lT.drew.heap[S]?=some (.cells #[.int .i64 0,.int .i64 0,.int .i64 0] 138 (0,0))):=by show _=_;rw[hbd.block _ (lBq Ko.out)];exact Ko.out
 have En:Hid (lT.drew.heap[P]?=some (.cells (cw fun _=>0) 213 (0,0))):=by show _=_;rw[hbd.block _ (lBq Kq.out)];exact Kq.out
 have Eo:=hDq (Kr.out.trans (hbd.mono Kr.out.size));clear hbd Kp Ko Kq Kr;show kG _ _ _ _ _ _ lT.drew;generalize lT.drew=Kt at *
 iterate 6 (refine cu rfl (fun K hK=>?_);refine⟨by rfl,?_⟩;unfold aA;go_simp;refine hK _ ?_;clear hK K)
 refine bW rfl (fun K hK=>?_);refine⟨by rfl,?_⟩;unfold aQ;go_simp;refine(Jb _).mono ?_;rintro e rP ⟨rfl,hwc⟩;have hbc:Below Kt.heap.size Kt rP:=by rw[hwc];exact(bRq _ _).alloc (lRq _) _
 obtain⟨B0,hB0⟩:∃ B,Kt.heap.size=B:=⟨_,rfl⟩;have Ku:Hid (rP.heap[B0]?=some (.cells #[.slice none 0 0] 276 (0,0))):=by show _=_;rw[hwc,<- hB0];exact hNq _ _
 have Ep:Hid (rP.heap[F]?=some (.cells #[.int .i64 wd,.int .i64 h,.pointer none,.pointer none,.pointer none,.pointer (some ⟨P,0,none⟩)] 210 (0,0))):=by show _=_;rw[hbc.block _ (lBq El.out)];exact El.out
 have Er:Hid (rP.heap[S]?=some (.cells #[.int .i64 0,.int .i64 0,.int .i64 0] 138 (0,0))):=by show _=_;rw[hbc.block _ (lBq Em.out)];exact Em.out
 have Kv:Hid (rP.heap[P]?=some (.cells (cw fun _=>0) 213 (0,0))):=by show _=_;rw[hbc.block _ (lBq En.out)];exact En.out
 have Es:=hDq (Eo.out.trans (hbc.mono Eo.out.size));have Sb:Hid (w.heap.size<=B0):=by have:=Eo.out.size;show _<=_;omega
 refine⟨_,rfl,hK _ _ ?_⟩;rw[hB0];have aeb:Hid (B0≠F∧B0≠S∧B0≠P):=by
  have l1:=lBq El.out;have l2:=lBq Em.out;have l3:=lBq En.out;refine⟨by omega,by omega,by omega⟩
 clear hK K hbc hwc hB0 El Em En Eo;refine cu rfl (fun K hK=>?_);refine⟨by rfl,?_⟩;unfold aA;go_simp;refine hK _ ?_;clear hK K;refine bW rfl (fun K hK=>?_);refine⟨by rfl,?_⟩;unfold aQ;go_simp;obtain⟨eF,nW⟩:∃ I,rP.heap.size=I:=⟨_,rfl⟩;obtain⟨po,hwd⟩:∃ x,rP.alloc (.cells #[.pointer (some ⟨B0,0,none⟩),.int .i64 ref,.int .i64 0] 267)=x:=⟨_,rfl⟩;have hbd:Below rP.heap.size rP po:=by rw[<- hwd];exact(bRq _ _).alloc (lRq _) _
 have Et:Hid (po.heap[eF]?=some (.cells #[.pointer (some ⟨B0,0,none⟩),.int .i64 ref,.int .i64 0] 267 (0,0))):=by show _=_;rw[<- hwd,<- nW];exact hNq _ _
 rw[nW,hwd];have rQ:Hid (po.heap[F]?=some (.cells #[.int .i64 wd,.int .i64 h,.pointer none,.pointer none,.pointer none,.pointer (some ⟨P,0,none⟩)] 210 (0,0))):=by show _=_;rw[hbd.block _ (lBq Ep.out)];exact Ep.out
 have Eu:Hid (po.heap[S]?=some (.cells #[.int .i64 0,.int .i64 0,.int .i64 0] 138 (0,0))):=by show _=_;rw[hbd.block _ (lBq Er.out)];exact Er.out
 have Ev:Hid (po.heap[P]?=some (.cells (cw fun _=>0) 213 (0,0))):=by show _=_;rw[hbd.block _ (lBq Kv.out)];exact Kv.out
 have Ew:Hid (po.heap[B0]?=some (.cells #[.slice none 0 0] 276 (0,0))):=by show _=_;rw[hbd.block _ (lBq Ku.out)];exact Ku.out
 have Kw:=hDq (Es.out.trans (hbd.mono Es.out.size));have Sc:Hid (w.heap.size<=eF):=by have:=Es.out.size;show _<=_;omega
 have aec:Hid (eF≠F∧eF≠S):=by
  have l1:=lBq Ep.out;have l2:=lBq Er.out;refine⟨by omega,by omega⟩
 refine hK _ _ ?_;clear hK K hbd hwd nW Ep Er Kv Ku Es;refine cu rfl (fun K hK=>?_);refine⟨by rfl,?_⟩;unfold aA;go_simp;refine hK _ ?_;clear hK K;have c0:po.cell? ⟨F,2,none⟩=some (.pointer none):=by rw[cR po _ 2 _ _ _ rQ.out];rfl
 have f0:po.frozen? ⟨F,2,none⟩=false:=by simp[World.frozen?,rQ.out]
 obtain⟨pq,lm⟩:∃ x,po.setCell ⟨F,2,none⟩ (.pointer (some ⟨eF,0,none⟩))=x:=⟨_,rfl⟩;have bE:aM po pq F:=by rw[<- lm];exact aM.setCell _ _ _ _
 have Ex:Hid (pq.heap[F]?=some (.cells #[.int .i64 wd,.int .i64 h,.pointer (some ⟨eF,0,none⟩),.pointer none,.pointer none,.pointer (some ⟨P,0,none⟩)] 210 (0,0))):=by show _=_;rw[<- lm,setCell_eq_setRow _ F 2 _ _ _ _ rQ.out];exact setRow_heap _ F _ _ _ _ rQ.out
 have rR:Hid (pq.heap[S]?=some (.cells #[.int .i64 0,.int .i64 0,.int .i64 0] 138 (0,0))):=by show _=_;rw[bE.block _ (lBq Eu.out) (aF Eu.out rQ.out (by decide))];exact Eu.out
 have Ey:Hid (pq.heap[P]?=some (.cells (cw fun _=>0) 213 (0,0))):=by show _=_;rw[bE.block _ (lBq Ev.out) (aF Ev.out rQ.out (by decide))];exact Ev.out
 have Ez:Hid (pq.heap[B0]?=some (.cells #[.slice none 0 0] 276 (0,0))):=by show _=_;rw[bE.block _ (lBq Ew.out) (aF Ew.out rQ.out (by decide))];exact Ew.out
 have EA:Hid (pq.heap[eF]?=some (.cells #[.pointer (some ⟨B0,0,none⟩),.int .i64 ref,.int .i64 0] 267 (0,0))):=by show _=_;rw[bE.block _ (lBq Et.out) (aF Et.out rQ.out (by decide))];exact Et.out
 have Ky:=hDq (Kw.out.trans (bE.below Kw.out.size Ek.out));have tP:=hDq lm;clear lm;refine bW rfl (fun K hK=>?_);refine⟨by rfl,?_⟩;unfold aQ;go_simp;rw[tP.out];refine hK _ _ ?_;clear hK K c0 f0 bE tP hnx rQ Eu Ev Ew Et Kw;refine iT ?_;have c0:pq.cell? ⟨S,0,none⟩=some (.int .i64 0):=by rw[cR pq _ 0 _ _ _ rR.out];rfl
 have f0:pq.frozen? ⟨S,0,none⟩=false:=by simp[World.frozen?,rR.out]
 obtain⟨jI,hwf⟩:∃ x,pq.setCell ⟨S,0,none⟩ (.int .i64 stock)=x:=⟨_,rfl⟩;have bE:aM pq jI S:=by rw[<- hwf];exact aM.setCell _ _ _ _
 have Kz:Hid (jI.heap[S]?=some (.cells #[.int .i64 stock,.int .i64 0,.int .i64 0] 138 (0,0))):=by show _=_;rw[<- hwf,setCell_eq_setRow _ S 0 _ _ _ _ rR.out];exact setRow_heap _ S _ _ _ _ rR.out
 have KA:Hid (jI.heap[F]?=some (.cells #[.int .i64 wd,.int .i64 h,.pointer (some ⟨eF,0,none⟩),.pointer none,.pointer none,.pointer (some ⟨P,0,none⟩)] 210 (0,0))):=by show _=_;rw[bE.block _ (lBq Ex.out) (aF Ex.out rR.out (by decide))];exact Ex.out
 have KB:Hid (jI.heap[P]?=some (.cells (cw fun _=>0) 213 (0,0))):=by show _=_;rw[bE.block _ (lBq Ey.out) (aF Ey.out rR.out (by decide))];exact Ey.out
 have KC:Hid (jI.heap[eF]?=some (.cells #[.pointer (some ⟨B0,0,none⟩),.int .i64 ref,.int .i64 0] 267 (0,0))):=by show _=_;rw[bE.block _ (lBq EA.out) (aF EA.out rR.out (by decide))];exact EA.out
 have KD:Hid (jI.heap[B0]?=some (.cells #[.slice none 0 0] 276 (0,0))):=by show _=_;rw[bE.block _ (lBq Ez.out) (aF Ez.out rR.out (by decide))];exact Ez.out
 have KE:=hDq (Ky.out.trans (bE.below Ky.out.size j3.out));have tQ:=hDq hwf;clear hwf bE Ex Ey EA Ez Ky;go_wp2;rw[tQ.out];clear c0 f0 tQ rR;rw[rounds_succ]
 go_wp2_with fail
 have hnx:Nonempty World:=⟨jI⟩;refine Al (X:=World) (val:=fun x=>x) (.read 0 (.read 1 (.read 3 (.read 4 (.read 7 (.read 8 (.one 2 (.read 5 (.one 6 (.read 9 (.one 10 .done))))))))))) (by kernel_rfl) (by kernel_rfl) jI.drew rfl ?_;have hbd:Below jI.heap.size jI jI.drew:=⟨rfl,rfl,rfl,lRq _,fun _ _=>rfl⟩;have EB:Hid (jI.drew.heap[F]?=some (.cells #[.int .i64 wd,.int .i64 h,.pointer (some ⟨eF,0,none⟩),.pointer none,.pointer none,.pointer (some ⟨P,0,none⟩)] 210 (0,0))):=by show _=_;rw[hbd.block _ (lBq KA.out)];exact KA.out
 have EC:Hid (jI.drew.heap[S]?=some (.cells #[.int .i64 stock,.int .i64 0,.int .i64 0] 138 (0,0))):=by show _=_;rw[hbd.block _ (lBq Kz.out)];exact Kz.out
 have ED:Hid (jI.drew.heap[P]?=some (.cells (cw fun _=>0) 213 (0,0))):=by show _=_;rw[hbd.block _ (lBq KB.out)];exact KB.out
 have KF:Hid (jI.drew.heap[eF]?=some (.cells #[.pointer (some ⟨B0,0,none⟩),.int .i64 ref,.int .i64 0] 267 (0,0))):=by show _=_;rw[hbd.block _ (lBq KC.out)];exact KC.out
 have EE:Hid (jI.drew.heap[B0]?=some (.cells #[.slice none 0 0] 276 (0,0))):=by show _=_;rw[hbd.block _ (lBq KD.out)];exact KD.out
 have EF:=hDq (KE.out.trans (hbd.mono KE.out.size));clear hbd KA Kz KB KC KD KE;show kG _ _ _ _ _ _ jI.drew;generalize jI.drew=KG at *
 iterate 6 (refine cu rfl (fun K hK=>?_);refine⟨by rfl,?_⟩;unfold aA;go_simp;refine hK _ ?_;clear hK K)
 refine bW rfl (fun K hK=>?_);refine⟨by rfl,?_⟩;unfold aQ;go_simp;refine(Jb _).mono ?_;rintro e pu ⟨rfl,hwc⟩;have hbc:Below KG.heap.size KG pu:=by rw[hwc];exact(bRq _ _).alloc (lRq _) _
 obtain⟨B1,oT⟩:∃ B,KG.heap.size=B:=⟨_,rfl⟩;have KH:Hid (pu.heap[B1]?=some (.cells #[.slice none 0 0] 276 (0,0))):=by show _=_;rw[hwc,<- oT];exact hNq _ _
 have EG:Hid (pu.heap[F]?=some (.cells #[.int .i64 wd,.int .i64 h,.pointer (some ⟨eF,0,none⟩),.pointer none,.pointer none,.pointer (some ⟨P,0,none⟩)] 210 (0,0))):=by show _=_;rw[hbc.block _ (lBq EB.out)];exact EB.out
 have EH:Hid (pu.heap[S]?=some (.cells #[.int .i64 stock,.int .i64 0,.int .i64 0] 138 (0,0))):=by show _=_;rw[hbc.block _ (lBq EC.out)];exact EC.out
 have KI:Hid (pu.heap[P]?=some (.cells (cw fun _=>0) 213 (0,0))):=by show _=_;rw[hbc.block _ (lBq ED.out)];exact ED.out
 have EI:Hid (pu.heap[eF]?=some (.cells #[.pointer (some ⟨B0,0,none⟩),.int .i64 ref,.int .i64 0] 267 (0,0))):=by show _=_;rw[hbc.block _ (lBq KF.out)];exact KF.out
 have KJ:Hid (pu.heap[B0]?=some (.cells #[.slice none 0 0] 276 (0,0))):=by show _=_;rw[hbc.block _ (lBq EE.out)];exact EE.out
 have EJ:=hDq (EF.out.trans (hbc.mono EF.out.size));have Sd:Hid (w.heap.size<=B1):=by have:=EF.out.size;show _<=_;omega
 refine⟨_,rfl,hK _ _ ?_⟩;rw[oT];have Se:Hid (B1≠F∧B1≠S∧B1≠P∧B1≠B0):=by
  have l1:=lBq EB.out;have l2:=lBq EC.out;have l3:=lBq ED.out;have KL:=lBq EE.out;refine⟨by omega,by omega,by omega,by omega⟩
 clear hK K hbc hwc oT EB EC ED KF EE EF;refine cu rfl (fun K hK=>?_);refine⟨by rfl,?_⟩;unfold aA;go_simp;refine hK _ ?_;clear hK K;refine bW rfl (fun K hK=>?_);refine⟨by rfl,?_⟩;unfold aQ;go_simp;obtain⟨gY,rT⟩:∃ I,pu.heap.size=I:=⟨_,rfl⟩;obtain⟨kZ,hwd⟩:∃ x,pu.alloc (.cells #[.pointer (some ⟨B1,0,none⟩),.int .i64 ref,.int .i64 0] 267)=x:=⟨_,rfl⟩;have hbd:Below pu.heap.size pu kZ:=by rw[<- hwd];exact(bRq _ _).alloc (lRq _) _
 have EK:Hid (kZ.heap[gY]?=some (.cells #[.pointer (some ⟨B1,0,none⟩),.int .i64 ref,.int .i64 0] 267 (0,0))):=by show _=_;rw[<- hwd,<- rT];exact hNq _ _
 rw[rT,hwd];have px:Hid (kZ.heap[F]?=some (.cells #[.int .i64 wd,.int .i64 h,.pointer (some ⟨eF,0,none⟩),.pointer none,.pointer none,.pointer (some ⟨P,0,none⟩)] 210 (0,0))):=by show _=_;rw[hbd.block _ (lBq EG.out)];exact EG.out
 have EL:Hid (kZ.heap[S]?=some (.cells #[.int .i64 stock,.int .i64 0,.int .i64 0] 138 (0,0))):=by show _=_;rw[hbd.block _ (lBq EH.out)];exact EH.out
 have EM:Hid (kZ.heap[P]?=some (.cells (cw fun _=>0) 213 (0,0))):=by show _=_;rw[hbd.block _ (lBq KI.out)];exact KI.out
 have EN:Hid (kZ.heap[eF]?=some (.cells #[.pointer (some ⟨B0,0,none⟩),.int .i64 ref,.int .i64 0] 267 (0,0))):=by show _=_;rw[hbd.block _ (lBq EI.out)];exact EI.out
 have EO:Hid (kZ.heap[B0]?=some (.cells #[.slice none 0 0] 276 (0,0))):=by show _=_;rw[hbd.block _ (lBq KJ.out)];exact KJ.out
 have EP:Hid (kZ.heap[B1]?=some (.cells #[.slice none 0 0] 276 (0,0))):=by show _=_;rw[hbd.block _ (lBq KH.out)];exact KH.out
 have KM:=hDq (EJ.out.trans (hbd.mono EJ.out.size));have Sf:Hid (w.heap.size<=gY):=by have:=EJ.out.size;show _<=_;omega
 have Sg:Hid (gY≠F∧gY≠S∧gY≠eF):=by
  have l1:=lBq EG.out;have l2:=lBq EH.out;have KL:=lBq EI.out;refine⟨by omega,by omega,by omega⟩
 refine hK _ _ ?_;clear hK K hbd hwd rT EG EH KI EI KJ KH EJ;refine cu rfl (fun K hK=>?_);refine⟨by rfl,?_⟩;unfold aA;go_simp;refine hK _ ?_;clear hK K;have c0:kZ.cell? ⟨F,3,none⟩=some (.pointer none):=by rw[cR kZ _ 3 _ _ _ px.out];rfl
 have f0:kZ.frozen? ⟨F,3,none⟩=false:=by simp[World.frozen?,px.out]
 obtain⟨we1,lm⟩:∃ x,kZ.setCell ⟨F,3,none⟩ (.pointer (some ⟨gY,0,none⟩))=x:=⟨_,rfl⟩;have bE:aM kZ we1 F:=by rw[<- lm];exact aM.setCell _ _ _ _
 have EQ:Hid (we1.heap[F]?=some (.cells #[.int .i64 wd,.int .i64 h,.pointer (some ⟨eF,0,none⟩),.pointer (some ⟨gY,0,none⟩),.pointer none,.pointer (some ⟨P,0,none⟩)] 210 (0,0))):=by show _=_;rw[<- lm,setCell_eq_setRow _ F 3 _ _ _ _ px.out];exact setRow_heap _ F _ _ _ _ px.out
 have py:Hid (we1.heap[S]?=some (.cells #[.int .i64 stock,.int .i64 0,.int .i64 0] 138 (0,0))):=by show _=_;rw[bE.block _ (lBq EL.out) (aF EL.out px.out (by decide))];exact EL.out
 have ER:Hid (we1.heap[P]?=some (.cells (cw fun _=>0) 213 (0,0))):=by show _=_;rw[bE.block _ (lBq EM.out) (aF EM.out px.out (by decide))];exact EM.out
 have ES:Hid (we1.heap[eF]?=some (.cells #[.pointer (some ⟨B0,0,none⟩),.int .i64 ref,.int .i64 0] 267 (0,0))):=by show _=_;rw[bE.block _ (lBq EN.out) (aF EN.out px.out (by decide))];exact EN.out
 have ET:Hid (we1.heap[B0]?=some (.cells #[.slice none 0 0] 276 (0,0))):=by show _=_;rw[bE.block _ (lBq EO.out) (aF EO.out px.out (by decide))];exact EO.out
 have EU:Hid (we1.heap[B1]?=some (.cells #[.slice none 0 0] 276 (0,0))):=by show _=_;rw[bE.block _ (lBq EP.out) (aF EP.out px.out (by decide))];exact EP.out
 have EV:Hid (we1.heap[gY]?=some (.cells #[.pointer (some ⟨B1,0,none⟩),.int .i64 ref,.int .i64 0] 267 (0,0))):=by show _=_;rw[bE.block _ (lBq EK.out) (aF EK.out px.out (by decide))];exact EK.out
 have KN:=hDq (KM.out.trans (bE.below KM.out.size Ek.out));have tP:=hDq lm;clear lm;refine bW rfl (fun K hK=>?_);refine⟨by rfl,?_⟩;unfold aQ;go_simp;rw[tP.out];refine hK _ _ ?_;clear hK K c0 f0 bE tP hnx px EL EM EN EO EP EK KM;refine iT ?_;have c0:we1.cell? ⟨S,1,none⟩=some (.int .i64 0):=by rw[cR we1 _ 1 _ _ _ py.out];rfl
 have f0:we1.frozen? ⟨S,1,none⟩=false:=by simp[World.frozen?,py.out]
 obtain⟨iw,hwf⟩:∃ x,we1.setCell ⟨S,1,none⟩ (.int .i64 stock)=x:=⟨_,rfl⟩;have bE:aM we1 iw S:=by rw[<- hwf];exact aM.setCell _ _ _ _
 have KO:Hid (iw.heap[S]?=some (.cells #[.int .i64 stock,.int .i64 stock,.int .i64 0] 138 (0,0))):=by show _=_;rw[<- hwf,setCell_eq_setRow _ S 1 _ _ _ _ py.out];exact setRow_heap _ S _ _ _ _ py.out
 have KP:Hid (iw.heap[F]?=some (.cells #[.int .i64 wd,.int .i64 h,.pointer (some ⟨eF,0,none⟩),.pointer (some ⟨gY,0,none⟩),.pointer none,.pointer (some ⟨P,0,none⟩)] 210 (0,0))):=by show _=_;rw[bE.block _ (lBq EQ.out) (aF EQ.out py.out (by decide))];exact EQ.out
 have KQ:Hid (iw.heap[P]?=some (.cells (cw fun _=>0) 213 (0,0))):=by show _=_;rw[bE.block _ (lBq ER.out) (aF ER.out py.out (by decide))];exact ER.out
 have KR:Hid (iw.heap[eF]?=some (.cells #[.pointer (some ⟨B0,0,none⟩),.int .i64 ref,.int .i64 0] 267 (0,0))):=by show _=_;rw[bE.block _ (lBq ES.out) (aF ES.out py.out (by decide))];exact ES.out
 have KS:Hid (iw.heap[B0]?=some (.cells #[.slice none 0 0] 276 (0,0))):=by show _=_;rw[bE.block _ (lBq ET.out) (aF ET.out py.out (by decide))];exact ET.out
 have KT:Hid (iw.heap[gY]?=some (.cells #[.pointer (some ⟨B1,0,none⟩),.int .i64 ref,.int .i64 0] 267 (0,0))):=by show _=_;rw[bE.block _ (lBq EV.out) (aF EV.out py.out (by decide))];exact EV.out
 have KU:Hid (iw.heap[B1]?=some (.cells #[.slice none 0 0] 276 (0,0))):=by show _=_;rw[bE.block _ (lBq EU.out) (aF EU.out py.out (by decide))];exact EU.out
 have KV:=hDq (KN.out.trans (bE.below KN.out.size j3.out));have tQ:=hDq hwf;clear hwf bE EQ ER ES ET EV EU KN;go_wp2;rw[tQ.out];clear c0 f0 tQ py;rw[rounds_succ]
 go_wp2_with fail
 have hnx:Nonempty World:=⟨iw⟩;refine Al (X:=World) (val:=fun x=>x) (.read 0 (.read 1 (.read 3 (.read 4 (.read 7 (.read 8 (.one 2 (.read 5 (.one 6 (.read 9 (.one 10 .done))))))))))) (by kernel_rfl) (by kernel_rfl) iw.drew rfl ?_;have hbd:Below iw.heap.size iw iw.drew:=⟨rfl,rfl,rfl,lRq _,fun _ _=>rfl⟩;have EW:Hid (iw.drew.heap[F]?=some (.cells #[.int .i64 wd,.int .i64 h,.pointer (some ⟨eF,0,none⟩),.pointer (some ⟨gY,0,none⟩),.pointer none,.pointer (some ⟨P,0,none⟩)] 210 (0,0))):=by show _=_;rw[hbd.block _ (lBq KP.out)];exact KP.out
 have EX:Hid (iw.drew.heap[S]?=some (.cells #[.int .i64 stock,.int .i64 stock,.int .i64 0] 138 (0,0))):=by show _=_;rw[hbd.block _ (lBq KO.out)];exact KO.out
 have EY:Hid (iw.drew.heap[P]?=some (.cells (cw fun _=>0) 213 (0,0))):=by show _=_;rw[hbd.block _ (lBq KQ.out)];exact KQ.out
 have KW:Hid (iw.drew.heap[eF]?=some (.cells #[.pointer (some ⟨B0,0,none⟩),.int .i64 ref,.int .i64 0] 267 (0,0))):=by show _=_;rw[hbd.block _ (lBq KR.out)];exact KR.out
 have EZ:Hid (iw.drew.heap[B0]?=some (.cells #[.slice none 0 0] 276 (0,0))):=by show _=_;rw[hbd.block _ (lBq KS.out)];exact KS.out
 have KX:Hid (iw.drew.heap[gY]?=some (.cells #[.pointer (some ⟨B1,0,none⟩),.int .i64 ref,.int .i64 0] 267 (0,0))):=by show _=_;rw[hbd.block _ (lBq KT.out)];exact KT.out
 have E0:Hid (iw.drew.heap[B1]?=some (.cells #[.slice none 0 0] 276 (0,0))):=by show _=_;rw[hbd.block _ (lBq KU.out)];exact KU.out
 have E1:=hDq (KV.out.trans (hbd.mono KV.out.size));clear hbd KP KO KQ KR KS KT KU KV;show kG _ _ _ _ _ _ iw.drew;generalize iw.drew=KY at *
 iterate 6 (refine cu rfl (fun K hK=>?_);refine⟨by rfl,?_⟩;unfold aA;go_simp;refine hK _ ?_;clear hK K)
 refine bW rfl (fun K hK=>?_);refine⟨by rfl,?_⟩;unfold aQ;go_simp;refine(Jb _).mono ?_;rintro e mM ⟨rfl,hwc⟩;have hbc:Below KY.heap.size KY mM:=by rw[hwc];exact(bRq _ _).alloc (lRq _) _
 obtain⟨B2,nG⟩:∃ B,KY.heap.size=B:=⟨_,rfl⟩;have KZ:Hid (mM.heap[B2]?=some (.cells #[.slice none 0 0] 276 (0,0))):=by show _=_;rw[hwc,<- nG];exact hNq _ _
 have E3:Hid (mM.heap[F]?=some (.cells #[.int .i64 wd,.int .i64 h,.pointer (some ⟨eF,0,none⟩),.pointer (some ⟨gY,0,none⟩),.pointer none,.pointer (some ⟨P,0,none⟩)] 210 (0,0))):=by show _=_;rw[hbc.block _ (lBq EW.out)];exact EW.out
 have E4:Hid (mM.heap[S]?=some (.cells #[.int .i64 stock,.int .i64 stock,.int .i64 0] 138 (0,0))):=by show _=_;rw[hbc.block _ (lBq EX.out)];exact EX.out
 have K3:Hid (mM.heap[P]?=some (.cells (cw fun _=>0) 213 (0,0))):=by show _=_;rw[hbc.block _ (lBq EY.out)];exact EY.out
 have E5:Hid (mM.heap[eF]?=some (.cells #[.pointer (some ⟨B0,0,none⟩),.int .i64 ref,.int .i64 0] 267 (0,0))):=by show _=_;rw[hbc.block _ (lBq KW.out)];exact KW.out
 have K4:Hid (mM.heap[B0]?=some (.cells #[.slice none 0 0] 276 (0,0))):=by show _=_;rw[hbc.block _ (lBq EZ.out)];exact EZ.out
 have E6:Hid (mM.heap[gY]?=some (.cells #[.pointer (some ⟨B1,0,none⟩),.int .i64 ref,.int .i64 0] 267 (0,0))):=by show _=_;rw[hbc.block _ (lBq KX.out)];exact KX.out
 have K5:Hid (mM.heap[B1]?=some (.cells #[.slice none 0 0] 276 (0,0))):=by show _=_;rw[hbc.block _ (lBq E0.out)];exact E0.out
 have E7:=hDq (E1.out.trans (hbc.mono E1.out.size));have Si:Hid (w.heap.size<=B2):=by have:=E1.out.size;show _<=_;omega
 refine⟨_,rfl,hK _ _ ?_⟩;rw[nG];have Sj:Hid (B2≠F∧B2≠S∧B2≠P∧B2≠B0∧B2≠B1):=by
  have l1:=lBq EW.out;have l2:=lBq EX.out;have l3:=lBq EY.out;have KL:=lBq EZ.out;have aed:=lBq E0.out;refine⟨by omega,by omega,by omega,by omega,by omega⟩
 clear hK K hbc hwc nG EW EX EY KW EZ KX E0 E1;refine cu rfl (fun K hK=>?_);refine⟨by rfl,?_⟩;unfold aA;go_simp;refine hK _ ?_;clear hK K;refine bW rfl (fun K hK=>?_);refine⟨by rfl,?_⟩;unfold aQ;go_simp;obtain⟨I2,hI2⟩:∃ I,mM.heap.size=I:=⟨_,rfl⟩;obtain⟨wd2,hwd⟩:∃ x,mM.alloc (.cells #[.pointer (some ⟨B2,0,none⟩),.int .i64 ref,.int .i64 0] 267)=x:=⟨_,rfl⟩;have hbd:Below mM.heap.size mM wd2:=by rw[<- hwd];exact(bRq _ _).alloc (lRq _) _
 have E8:Hid (wd2.heap[I2]?=some (.cells #[.pointer (some ⟨B2,0,none⟩),.int .i64 ref,.int .i64 0] 267 (0,0))):=by show _=_;rw[<- hwd,<- hI2];exact hNq _ _
 rw[hI2,hwd];have mN:Hid (wd2.heap[F]?=some (.cells #[.int .i64 wd,.int .i64 h,.pointer (some ⟨eF,0,none⟩),.pointer (some ⟨gY,0,none⟩),.pointer none,.pointer (some ⟨P,0,none⟩)] 210 (0,0))):=by show _=_;rw[hbd.block _ (lBq E3.out)];exact E3.out
 have E9:Hid (wd2.heap[S]?=some (.cells #[.int .i64 stock,.int .i64 stock,.int .i64 0] 138 (0,0))):=by show _=_;rw[hbd.block _ (lBq E4.out)];exact E4.out
 have E_:Hid (wd2.heap[P]?=some (.cells (cw fun _=>0) 213 (0,0))):=by show _=_;rw[hbd.block _ (lBq K3.out)];exact K3.out
 have Fa:Hid (wd2.heap[eF]?=some (.cells #[.pointer (some ⟨B0,0,none⟩),.int .i64 ref,.int .i64 0] 267 (0,0))):=by show _=_;rw[hbd.block _ (lBq E5.out)];exact E5.out
 have Fb:Hid (wd2.heap[B0]?=some (.cells #[.slice none 0 0] 276 (0,0))):=by show _=_;rw[hbd.block _ (lBq K4.out)];exact K4.out
 have Fe:Hid (wd2.heap[gY]?=some (.cells #[.pointer (some ⟨B1,0,none⟩),.int .i64 ref,.int .i64 0] 267 (0,0))):=by show _=_;rw[hbd.block _ (lBq E6.out)];exact E6.out
 have Ff:Hid (wd2.heap[B1]?=some (.cells #[.slice none 0 0] 276 (0,0))):=by show _=_;rw[hbd.block _ (lBq K5.out)];exact K5.out
 have Fg:Hid (wd2.heap[B2]?=some (.cells #[.slice none 0 0] 276 (0,0))):=by show _=_;rw[hbd.block _ (lBq KZ.out)];exact KZ.out
 have K6:=hDq (E7.out.trans (hbd.mono E7.out.size));have Sk:Hid (w.heap.size<=I2):=by have:=E7.out.size;show _<=_;omega
 have Sl:Hid (I2≠F∧I2≠S∧I2≠eF∧I2≠gY):=by
  have l1:=lBq E3.out;have l2:=lBq E4.out;have KL:=lBq E5.out;have aed:=lBq E6.out;refine⟨by omega,by omega,by omega,by omega⟩
 refine hK _ _ ?_;clear hK K hbd hwd hI2 E3 E4 K3 E5 K4 E6 K5 KZ E7;refine cu rfl (fun K hK=>?_);refine⟨by rfl,?_⟩;unfold aA;go_simp;refine hK _ ?_;clear hK K;have c0:wd2.cell? ⟨F,4,none⟩=some (.pointer none):=by rw[cR wd2 _ 4 _ _ _ mN.out];rfl
 have f0:wd2.frozen? ⟨F,4,none⟩=false:=by simp[World.frozen?,mN.out]
 obtain⟨we2,lm⟩:∃ x,wd2.setCell ⟨F,4,none⟩ (.pointer (some ⟨I2,0,none⟩))=x:=⟨_,rfl⟩;have bE:aM wd2 we2 F:=by rw[<- lm];exact aM.setCell _ _ _ _
 have Fh:Hid (we2.heap[F]?=some (.cells #[.int .i64 wd,.int .i64 h,.pointer (some ⟨eF,0,none⟩),.pointer (some ⟨gY,0,none⟩),.pointer (some ⟨I2,0,none⟩),.pointer (some ⟨P,0,none⟩)] 210 (0,0))):=by show _=_;rw[<- lm,setCell_eq_setRow _ F 4 _ _ _ _ mN.out];exact setRow_heap _ F _ _ _ _ mN.out
 have mO:Hid (we2.heap[S]?=some (.cells #[.int .i64 stock,.int .i64 stock,.int .i64 0] 138 (0,0))):=by show _=_;rw[bE.block _ (lBq E9.out) (aF E9.out mN.out (by decide))];exact E9.out
 have Fi:Hid (we2.heap[P]?=some (.cells (cw fun _=>0) 213 (0,0))):=by show _=_;rw[bE.block _ (lBq E_.out) (aF E_.out mN.out (by decide))];exact E_.out
 have Fj:Hid (we2.heap[eF]?=some (.cells #[.pointer (some ⟨B0,0,none⟩),.int .i64 ref,.int .i64 0] 267 (0,0))):=by show _=_;rw[bE.block _ (lBq Fa.out) (aF Fa.out mN.out (by decide))];exact Fa.out
 have Fp:Hid (we2.heap[B0]?=some (.cells #[.slice none 0 0] 276 (0,0))):=by show _=_;rw[bE.block _ (lBq Fb.out) (aF Fb.out mN.out (by decide))];exact Fb.out
 have Fq:Hid (we2.heap[gY]?=some (.cells #[.pointer (some ⟨B1,0,none⟩),.int .i64 ref,.int .i64 0] 267 (0,0))):=by show _=_;rw[bE.block _ (lBq Fe.out) (aF Fe.out mN.out (by decide))];exact Fe.out
 have Fv:Hid (we2.heap[B1]?=some (.cells #[.slice none 0 0] 276 (0,0))):=by show _=_;rw[bE.block _ (lBq Ff.out) (aF Ff.out mN.out (by decide))];exact Ff.out
 have Fw:Hid (we2.heap[B2]?=some (.cells #[.slice none 0 0] 276 (0,0))):=by show _=_;rw[bE.block _ (lBq Fg.out) (aF Fg.out mN.out (by decide))];exact Fg.out
 have Fx:Hid (we2.heap[I2]?=some (.cells #[.pointer (some ⟨B2,0,none⟩),.int .i64 ref,.int .i64 0] 267 (0,0))):=by show _=_;rw[bE.block _ (lBq E8.out) (aF E8.out mN.out (by decide))];exact E8.out
 have K7:=hDq (K6.out.trans (bE.below K6.out.size Ek.out));have tP:=hDq lm;clear lm;refine bW rfl (fun K hK=>?_);refine⟨by rfl,?_⟩;unfold aQ;go_simp;rw[tP.out];refine hK _ _ ?_;clear hK K c0 f0 bE tP hnx mN E9 E_ Fa Fb Fe Ff Fg E8 K6;refine iT ?_;have c0:we2.cell? ⟨S,2,none⟩=some (.int .i64 0):=by rw[cR we2 _ 2 _ _ _ mO.out];rfl
 have f0:we2.frozen? ⟨S,2,none⟩=false:=by simp[World.frozen?,mO.out]
 obtain⟨pz,hwf⟩:∃ x,we2.setCell ⟨S,2,none⟩ (.int .i64 stock)=x:=⟨_,rfl⟩;have bE:aM we2 pz S:=by rw[<- hwf];exact aM.setCell _ _ _ _
 have Sm:Hid (pz.heap[S]?=some (.cells #[.int .i64 stock,.int .i64 stock,.int .i64 stock] 138 (0,0))):=by show _=_;rw[<- hwf,setCell_eq_setRow _ S 2 _ _ _ _ mO.out];exact setRow_heap _ S _ _ _ _ mO.out
 have Sn:Hid (pz.heap[F]?=some (.cells #[.int .i64 wd,.int .i64 h,.pointer (some ⟨eF,0,none⟩),.pointer (some ⟨gY,0,none⟩),.pointer (some ⟨I2,0,none⟩),.pointer (some ⟨P,0,none⟩)] 210 (0,0))):=by show _=_;rw[bE.block _ (lBq Fh.out) (aF Fh.out mO.out (by decide))];exact Fh.out
 have Sp:Hid (pz.heap[P]?=some (.cells (cw fun _=>0) 213 (0,0))):=by show _=_;rw[bE.block _ (lBq Fi.out) (aF Fi.out mO.out (by decide))];exact Fi.out
 have Sq:Hid (pz.heap[eF]?=some (.cells #[.pointer (some ⟨B0,0,none⟩),.int .i64 ref,.int .i64 0] 267 (0,0))):=by show _=_;rw[bE.block _ (lBq Fj.out) (aF Fj.out mO.out (by decide))];exact Fj.out
 have Sr:Hid (pz.heap[B0]?=some (.cells #[.slice none 0 0] 276 (0,0))):=by show _=_;rw[bE.block _ (lBq Fp.out) (aF Fp.out mO.out (by decide))];exact Fp.out
 have Sv:Hid (pz.heap[gY]?=some (.cells #[.pointer (some ⟨B1,0,none⟩),.int .i64 ref,.int .i64 0] 267 (0,0))):=by show _=_;rw[bE.block _ (lBq Fq.out) (aF Fq.out mO.out (by decide))];exact Fq.out
 have Sw:Hid (pz.heap[B1]?=some (.cells #[.slice none 0 0] 276 (0,0))):=by show _=_;rw[bE.block _ (lBq Fv.out) (aF Fv.out mO.out (by decide))];exact Fv.out
 have Sy:Hid (pz.heap[I2]?=some (.cells #[.pointer (some ⟨B2,0,none⟩),.int .i64 ref,.int .i64 0] 267 (0,0))):=by show _=_;rw[bE.block _ (lBq Fx.out) (aF Fx.out mO.out (by decide))];exact Fx.out
 have Sz:Hid (pz.heap[B2]?=some (.cells #[.slice none 0 0] 276 (0,0))):=by show _=_;rw[bE.block _ (lBq Fw.out) (aF Fw.out mO.out (by decide))];exact Fw.out
 have SA:=hDq (K7.out.trans (bE.below K7.out.size j3.out));have tQ:=hDq hwf;clear hwf bE Fh Fi Fj Fp Fq Fv Fx Fw K7;go_wp2;rw[tQ.out];clear c0 f0 tQ mO;rw[rounds_succ];go_wp2;obtain⟨I,hI⟩:∃ I:Nat->Nat,I=fun j=>if j=0 then eF else if j=1 then gY else I2:=⟨_,rfl⟩;obtain⟨b,hb⟩:∃ b:Nat->Nat,b=fun j=>if j=0 then B0 else if j=1 then B1 else B2:=⟨_,rfl⟩;have nW:I 0=eF:=by rw[hI];rfl
 have rT:I 1=gY:=by rw[hI];rfl
 have hI2:I 2=I2:=by rw[hI];rfl
 have hb0:b 0=B0:=by rw[hb];rfl
 have hb1:b 1=B1:=by rw[hb];rfl
 have hb2:b 2=B2:=by rw[hb];rfl
 have c3:∀ j,j<3->j=0∨j=1∨j=2:=fun j hj=>by omega
 have hfl:bk w pz F P I b (fun _=>.slice none 0 0) (fun _=>[]) (Fl.j8 cash stock 0) (Fl.tF ref) wd h:=by
  refine⟨by unfold tG;rw[nW,rT,hI2];exact Sn.out,fun j hj=>?_,fun j hj=>?_,fun j k hj hk hjk=>?_,fun j k hj hk hjk=>?_,fun j k hj hk hjk m hm=>(by cases hm),Sp.out,Ek.out,aea.out,fun j hj=>?_,SA.out⟩
  ·rcases c3 j hj with rfl | rfl | rfl
   ·rw[nW,hb0];exact Sq.out
   ·rw[rT,hb1];exact Sv.out
   ·rw[hI2,hb2];exact Sy.out
  ·rcases c3 j hj with rfl | rfl | rfl
   ·rw[hb0];exact⟨Sr.out,Sb.out,World.ownsRow_nil _ _ _ _⟩
   ·rw[hb1];exact⟨Sw.out,Sd.out,World.ownsRow_nil _ _ _ _⟩
   ·rw[hb2];exact⟨Sz.out,Si.out,World.ownsRow_nil _ _ _ _⟩
  ·have n1:=Sg.out;have n2:=Sl.out
   rcases c3 j hj with rfl | rfl | rfl <;> rcases c3 k hk with rfl | rfl | rfl <;> (try exact absurd rfl hjk) <;> simp only[nW,rT,hI2] <;> omega
  ·have n1:=Se.out;have n2:=Sj.out
   rcases c3 j hj with rfl | rfl | rfl <;> rcases c3 k hk with rfl | rfl | rfl <;> (try exact absurd rfl hjk) <;> simp only[hb0,hb1,hb2] <;> omega
  ·rcases c3 j hj with rfl | rfl | rfl
   ·rw[nW];exact Sc.out
   ·rw[rT];exact Sf.out
   ·rw[hI2];exact Sk.out
 have qo:=hDq hfl;have mP:=hDq (fun k (hk:k<6)=>Fl.Ry H.out k hk);clear hfl hI hb nW rT hI2 hb0 hb1 hb2 c3 Sn Sp Sq Sv Sy Sr Sw Sz SA aec Sg Sl aeb Se Sj Sb Sd Si Sc Sf Sk
 go_loopw [56] (fun c wr=>∃ (k:Nat),k<=6∧c=.int .i64 k∧bk w wr F P I b (fun _=>.slice none 0 0) (fun _=>[]) (Fl.j8 cash stock k) (Fl.tF ref) wd h∧wr.heap[S]?=some (.cells #[.int .i64 stock,.int .i64 stock,.int .i64 stock] 138 (0,0))) (fun c _=>6-(intOf c).toNat)
 case atStart=>exact⟨0,by omega,rfl,qo.out,Sm.out⟩
 case round =>
  obtain⟨k,hk,rfl,hf,ha⟩:=hrel;have HF:=hDq hf;have HA:=hDq ha;clear hf ha qo Sm;by_cases hlt:k<6
  ·have aX:(k:Int)<6:=by omega
   have fp:=HF.out.cellP;have a0:wr.cell? ⟨S,0,none⟩=some (.int .i64 stock):=by rw[cR wr _ 0 _ _ _ HA.out];rfl
   have a1:wr.cell? ⟨S,1,none⟩=some (.int .i64 stock):=by rw[cR wr _ 1 _ _ _ HA.out];rfl
   have a2:wr.cell? ⟨S,2,none⟩=some (.int .i64 stock):=by rw[cR wr _ 2 _ _ _ HA.out];rfl
   go_wp2_with fail
   refine j5 7 (by kernel_rfl) (by kernel_rfl) ?_;simp only[List.take_succ_cons,List.take_zero,List.drop_succ_cons,List.drop_zero]
   repeat (first | go_big_quiet_step (fail) | quiet_step (fail))
   refine wpQuiet_nil ?_;intro _ hw';obtain⟨nq,hw''⟩:=hw';subst hw'';have cm:Hid ((wr.drewN nq).heap[S]?=some (.cells #[.int .i64 stock,.int .i64 stock,.int .i64 stock] 138 (0,0))):=HA.out;have cn:=hDq (HF.out.later (dQ nq));clear fp a0 a1 a2 HA HF;generalize wr.drewN nq=wg at *;have hg:=aee P ⟨k,cash,stock,stock,stock⟩ (Fl.j8 cash stock k) ev wg (cn.out.bN he.out).per cn.out.cY (Fl.JO cash stock k);rw[mP.out k hlt,show cV ev 0=.nilIface from rfl]at hg;have HG:=hDq hg;clear hg;unfold SB at HG;simp only[]at HG
   go_wp2_with fail
   refine HG.out.mono ?_;rintro e SC ⟨rfl,hp,hs⟩;have fW:Hid (bk w SC F P I b (fun _=>.slice none 0 0) (fun _=>[]) (Fl.j8 cash stock (k+1)) (Fl.tF ref) wd h):=cn.out.purse hp hs;have ji:Hid (SC.heap[S]?=some (.cells #[.int .i64 stock,.int .i64 stock,.int .i64 stock] 138 (0,0))):=by
    show _=_;rw[hs.block _ (lBq cm.out) (aF cm.out cn.out.cY (by decide))];exact cm.out
   clear hp hs HG cm cn;simp only[];go_wp2;refine⟨⟨k+1,by omega,by go_num,fW.out,ji.out⟩,by simp[intOf];omega⟩
  ·have aX:¬ (k:Int)<6:=by omega
   obtain rfl:k=6:=by omega
   go_wp2;go_ret2;exact⟨F,P,I,b,rfl,HF.out⟩
end
end Go.Proofs.YtjolccidheflpaaGreatDoor
